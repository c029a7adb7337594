/- A configuration that may be, with one Least turned: plain words. -/
import Derived.Test.YtflbhnckhbcboaaDoorCheck
import Derived.Test.YtflbhnckhbcboaaDoorGoodP
namespace Go.Proofs.YtflbhnckhbcboaaDoor

def turnL (c : Int × Int) : Int × Int := if c.1 = 0 then (1, max c.2 1) else (c.1 - 1, c.2)
theorem turn_ok {c : Int × Int} (h : CapOk c) : CapOk (turnL c) ∧ (turnL c).1 ≠ c.1 := by
  obtain ⟨a, b⟩ := c
  obtain ⟨h1, h2, h3⟩ := h
  simp only at h1 h2 h3
  unfold turnL
  by_cases hz : a = 0
  · subst hz
    rw [if_pos rfl]
    refine ⟨⟨by simp, ?_, ?_⟩, by simp⟩ <;> simp <;> omega
  · rw [if_neg hz]
    refine ⟨⟨?_, ?_, h3⟩, ?_⟩ <;> simp only <;> omega

theorem firstErr_ok {f : Nat → Int} : ∀ (n k : Nat), (∀ m, k ≤ m → m < k + n → f m = 0) → firstErr f k n = 0
  | 0, _, _ => rfl
  | n + 1, k, h => by
    rw [firstErr, if_pos (h k (by omega) (by omega))]
    exact firstErr_ok n (k + 1) fun m h1 h2 => h m (by omega) (by omega)
theorem firstErr_13 {f : Nat → Int} : ∀ (n k : Nat), (∀ m, f m = 0 ∨ f m = 13) → (∃ m, k ≤ m ∧ m < k + n ∧ f m ≠ 0) → firstErr f k n = 13
  | 0, k, _, ⟨m, h1, h2, _⟩ => by omega
  | n + 1, k, h, ⟨m, h1, h2, h3⟩ => by
    rw [firstErr]
    rcases h k with e | e
    · rw [if_pos e]
      refine firstErr_13 n (k + 1) h ⟨m, ?_, by omega, h3⟩
      rcases Nat.eq_or_lt_of_le h1 with e1 | e1
      · rw [e1] at e; exact absurd e h3
      · exact e1
    · rw [if_neg (by rw [e]; decide), e]

/-- Each path of a tree is one that may be. -/
def treeOk (ps : List Tx) : Bool := (List.range ps.length).all fun m => pathB (ps.getD m []) && (decide (m = 0) || (lt8 (ps.getD (m - 1) []) (ps.getD m []) && ps.any (fun p => decide (p = above (ps.getD m []))) && decide (above (ps.getD m []) ≠ [])))
theorem tree_ok (y : Nat) : treeOk (tree y) = true := by
  unfold tree
  split <;> decide +kernel
theorem tree_root (y : Nat) : (tree y)[0]? = some sRoot := by
  unfold tree
  split <;> rfl
theorem labs_ok (nl : Nat) (h1 : 1 ≤ nl) (h2 : nl ≤ 2) : labelsC (labs nl) = 0 := by
  have : nl = 1 ∨ nl = 2 := by omega
  rcases this with rfl | rfl
  · decide +kernel
  · decide +kernel

theorem has_T (p : Tx) (ds : List QD) : hasB p ds = (ds.map (·.path)).any (fun x => decide (x = p)) := by
  unfold hasB
  rw [List.any_map]
  rfl
theorem pathAt_T {ds : List QD} {ps : List Tx} (h : ds.map (·.path) = ps) (k : Nat) : pathAt ds k = ps.getD k [] := by
  subst h
  unfold pathAt
  rw [List.getD_eq_getElem?_getD, List.getElem?_map]
  cases ds[k]? <;> rfl
/-- The steps ahead of the sums pass. -/
theorem queues_ok {ds : List QD} {ps : List Tx} {nl : Nat} (h : ds.map (·.path) = ps) (ht : treeOk ps = true) (he : ∀ q ∈ ds, q.caps.length = nl ∧ 1 ≤ q.user ∧ q.user ≤ 1000000 ∧ ∀ c ∈ q.caps, CapOk c) : queuesC ds nl = 0 := by
  have hl : ds.length = ps.length := by rw [← h]; simp
  refine firstErr_ok _ _ fun m _ hm => ?_
  have hm' : m < ds.length := by omega
  unfold treeOk at ht
  rw [List.all_eq_true] at ht
  have h1 := ht m (List.mem_range.2 (by omega))
  simp only [Bool.and_eq_true, Bool.or_eq_true, decide_eq_true_eq] at h1
  obtain ⟨h2, h3⟩ := h1
  have hp : placeC ds m (pathAt ds m) (pathAt ds (m - 1)) = 0 := by
    rw [pathAt_T h, pathAt_T h, placeC, if_neg (by rw [h2]; decide)]
    split
    · rfl
    · rcases h3 with h3 | ⟨⟨h3, h4⟩, _⟩
      · contradiction
      · rw [if_neg (by rw [h3]; decide), has_T, h, if_pos h4]
  unfold oneC
  rw [if_pos hp]
  have hb : boundAt ds nl m = true := by
    rw [boundAt_eq hm']
    obtain ⟨e1, e2, e3, e4⟩ := he _ (List.getElem_mem hm')
    unfold boundB
    have : ds[m].caps.any outB = false := by
      rw [List.any_eq_false]
      intro c hc
      obtain ⟨f1, f2, f3⟩ := e4 c hc
      unfold outB
      simp only [Bool.or_eq_true, decide_eq_true_eq, not_or]
      omega
    rw [this]
    simp [e1, e2, e3]
  rw [hb]
  rfl

theorem foldl_sum {α : Type} (f : Int → α → Int) (g : α → Int) (h : ∀ s q, f s q = s + g q) : ∀ (l : List α) (a : Int), l.foldl f a = a + (l.map g).sum
  | [], a => by simp
  | x :: l, a => by rw [List.foldl_cons, foldl_sum f g h l, h]; simp; omega
theorem least_at (k : Nat) (q : QD) : (match q.caps[k]? with | none => 0 | some c => c.1) = least k q := by
  unfold least
  rw [List.getD_eq_getElem?_getD]
  cases q.caps[k]? <;> rfl
theorem sumL_lsum (p : Tx) (k : Nat) (l : List QD) : sumL p k l = lsum k (l.filter fun q => decide (above q.path = p)) := by
  unfold sumL lsum
  rw [foldl_sum _ (least k) (fun s q => by unfold least; rw [List.getD_eq_getElem?_getD]; cases q.caps[k]? <;> rfl), Int.zero_add]
theorem kidL_eq {p : Tx} (hp : p ≠ []) (l : List QD) : kidL p l = l.filter fun q => decide (above q.path = p) := by
  unfold kidL isKidB
  simp [hp]
theorem lsum_app (k : Nat) (a b : List QD) : lsum k (a ++ b) = lsum k a + lsum k b := by
  unfold lsum
  rw [List.map_append, List.sum_append]

theorem put_split {ds : List QD} {k : Nat} (hk : k < ds.length) (label : Nat) (a b : Int) : putCap ds k label a b = ds.take k ++ ⟨ds[k].path, ds[k].caps.set label (a, b), ds[k].user⟩ :: ds.drop (k + 1) := by
  unfold putCap
  conv => lhs; rw [← List.take_append_drop k ds, List.drop_eq_getElem_cons hk]
  rw [modify_mid _ _ _ _ _ (by simp; omega)]
theorem put_paths (ds : List QD) (k label : Nat) (a b : Int) : (putCap ds k label a b).map (·.path) = ds.map (·.path) := by
  by_cases hk : k < ds.length
  · rw [put_split hk]
    conv => rhs; rw [← List.take_append_drop k ds, List.drop_eq_getElem_cons hk]
    simp only [List.map_append, List.map_cons]
  · unfold putCap
    rw [List.modify_eq_self (by omega)]
theorem put_mem {ds : List QD} {k label : Nat} {a b : Int} (hk : k < ds.length) {q : QD} (h : q ∈ putCap ds k label a b) : q ∈ ds ∨ q = ⟨ds[k].path, ds[k].caps.set label (a, b), ds[k].user⟩ := by
  rw [put_split hk] at h
  rcases List.mem_append.1 h with h | h
  · exact .inl (List.mem_of_mem_take h)
  · rcases List.mem_cons.1 h with h | h
    · exact .inr h
    · exact .inl (List.mem_of_mem_drop h)

/-- With one Least turned the sums are wrong. -/
theorem turned_13 {nl y k label : Nat} {ds : List QD} (h1 : 1 ≤ nl) (h2 : nl ≤ 2) (h : GI nl (tree y) (tree y).length ds) (hk : k < ds.length) (hl : label < nl) (a b : Int) (hc : ∀ c, ds[k].caps[label]? = some c → (a, b) = turnL c) :
    checkC (labs nl) (putCap ds k label a b) = 13 := by
  have hgd := h.gd
  have hlen := hgd.len
  have h7 := tree_len y
  obtain ⟨e1, e2, e3, e4⟩ := hgd.each _ (List.getElem_mem hk)
  have hlc : label < ds[k].caps.length := by omega
  have hab := hc _ (List.getElem?_eq_getElem hlc)
  have hok := turn_ok (e4 _ (List.getElem_mem hlc))
  rw [← hab] at hok
  obtain ⟨hok1, hok2⟩ := hok
  obtain ⟨d', hd'⟩ : ∃ d', d' = putCap ds k label a b := ⟨_, rfl⟩
  rw [← hd']
  have hpath : d'.map (·.path) = tree y := by rw [hd', put_paths, hgd.paths]
  have heach : ∀ q ∈ d', q.caps.length = nl ∧ 1 ≤ q.user ∧ q.user ≤ 1000000 ∧ ∀ c ∈ q.caps, CapOk c := by
    intro q hq
    rw [hd'] at hq
    rcases put_mem hk hq with hq | rfl
    · exact hgd.each q hq
    · refine ⟨by simp [e1], e2, e3, fun c hc => ?_⟩
      rcases List.mem_or_eq_of_mem_set hc with hc | hc
      · exact e4 c hc
      · subst hc; exact hok1
  have hlen' : d'.length = (tree y).length := by rw [← hpath]; simp
  have hr0 := tree_root y
  have hpos : 0 < (tree y).length := (List.getElem?_eq_some_iff.1 hr0).1
  -- the steps
  have s0 : checkF (labs nl) d' 0 = 0 := by
    show countsC (labs nl).length d'.length = 0
    rw [labs_length h2, countsC, if_neg (by omega)]
  have s1 : checkF (labs nl) d' 1 = 0 := labs_ok nl h1 h2
  have s2 : checkF (labs nl) d' 2 = 0 := by
    show firstC d' = 0
    cases hdd : d' with
    | nil => rw [hdd] at hlen'; simp at hlen'; omega
    | cons q l =>
      rw [hdd] at hpath
      have : (tree y)[0]? = some q.path := by rw [← hpath]; rfl
      rw [hr0] at this
      injection this with this
      simp [firstC, this]
  have s3 : checkF (labs nl) d' 3 = 0 := by
    show queuesC d' (labs nl).length = 0
    rw [labs_length h2]
    exact queues_ok hpath (tree_ok y) heach
  have hsteps : checkC (labs nl) d' = if rootC d' = 0 then (if kidsC d' nl = 0 then 0 else kidsC d' nl) else rootC d' := by
    have l2 := labs_length h2
    unfold checkC
    rw [firstErr, if_pos s0, firstErr, if_pos s1, firstErr, if_pos s2, firstErr, if_pos s3, firstErr, firstErr]
    show (if rootC d' = 0 then (if kidsC d' (labs nl).length = 0 then firstErr _ _ 0 else kidsC d' (labs nl).length) else rootC d') = _
    rw [l2]
    rfl
  rw [hsteps]
  have hpk : ds[k].path = (tree y)[k]'(by omega) := hgd.path hk (by omega)
  rcases Nat.eq_zero_or_pos k with hz | hz
  · -- root
    subst hz
    have : rootC d' = 13 := by
      rw [hd', put_split hk]
      simp only [List.take_zero, List.nil_append, rootC]
      have : (ds[0].caps.set label (a, b)).any partB = true := by
        rw [List.any_eq_true]
        refine ⟨(a, b), List.mem_set hlc _, ?_⟩
        unfold partB
        rw [decide_eq_true_eq]
        intro e
        have hr : ds[0].path = sRoot := by
          rw [hpk]
          rw [List.getElem?_eq_getElem (by omega)] at hr0
          injection hr0
        have hw := hgd.root _ (List.getElem_mem hk) hr
        have : ds[0].caps[label] = whole := by
          exact List.eq_of_mem_replicate (by rw [← hw]; exact List.getElem_mem hlc)
        rw [this] at hok2
        apply hok2
        have := congrArg Prod.fst e
        simp only at this
        rw [this]; rfl
      rw [this]
      rfl
    rw [this]
    rfl
  · obtain ⟨j, rfl⟩ : ∃ j, k = j + 1 := ⟨k - 1, by omega⟩
    obtain ⟨q, l, hds⟩ : ∃ q l, ds = q :: l := by
      match ds, hk with
      | q :: l, _ => exact ⟨q, l, rfl⟩
    have htk : ds.take (j + 1) = q :: l.take j := by rw [hds]; rfl
    have hq : q ∈ ds := by rw [hds]; simp
    have hr : q.path = sRoot := by
      have hp := hgd.paths
      rw [hds] at hp
      have : (tree y)[0]? = some q.path := by rw [← hp]; rfl
      rw [hr0] at this
      injection this with this
      exact this.symm
    clear hds
    have hroot : rootC d' = 0 := by
      rw [hd', put_split hk, htk]
      simp only [List.cons_append, rootC]
      rw [hgd.root q hq hr]
      have : (List.replicate nl whole).any partB = false := by
        rw [List.any_eq_false]
        intro c hc
        rw [List.eq_of_mem_replicate hc]
        decide
      rw [this]
      rfl
    rw [hroot, if_pos rfl]
    have hk13 : kidsC d' nl = 13 := by
      refine firstErr_13 _ _ (fun m => by by_cases hw : wholeC d' m = true <;> simp [hw]) ⟨label, by omega, by omega, ?_⟩
      have hwf : wholeC d' label = false := by
        unfold wholeC
        rw [List.all_eq_false]
        -- the queue itself
        have ht := tree_ok y
        unfold treeOk at ht
        rw [List.all_eq_true] at ht
        have h9 := ht (j + 1) (List.mem_range.2 (by omega))
        simp only [Bool.and_eq_true, Bool.or_eq_true, decide_eq_true_eq, List.any_eq_true] at h9
        obtain ⟨_, h9⟩ := h9
        rcases h9 with h9 | ⟨⟨_, pp, hpp, hpe⟩, hne⟩
        · omega
        have hgt : (tree y).getD (j + 1) [] = ds[j + 1].path := by
          rw [hpk, List.getD_eq_getElem?_getD, List.getElem?_eq_getElem (by omega)]; rfl
        rw [hgt] at hpe hne
        obtain ⟨i', hi', rfl⟩ := List.getElem_of_mem hpp
        have hfull := h.done i' hi' (by omega) label hl
        rw [hpe] at hfull
        obtain ⟨d, hd⟩ : ∃ d : QD, d = ⟨ds[j + 1].path, ds[j + 1].caps.set label (a, b), ds[j + 1].user⟩ := ⟨_, rfl⟩
        have hsp : ds = ds.take (j + 1) ++ ds[j + 1] :: ds.drop (j + 1 + 1) := by
          rw [← List.drop_eq_getElem_cons hk, List.take_append_drop]
        have hmem : ds[j + 1] ∈ kidL (above ds[j + 1].path) ds := by
          unfold kidL
          exact List.mem_filter.2 ⟨List.getElem_mem hk, kid_yes hne rfl⟩
        have hsum := hfull (List.ne_nil_of_mem hmem)
        refine ⟨d, ?_, ?_⟩
        · rw [hd', put_split hk, ← hd, List.drop_append_of_le_length (by simp; omega)]
          simp
        · rw [decide_eq_true_eq]
          have hdp : d.path = ds[j + 1].path := by rw [hd]
          rw [hdp]
          obtain ⟨P, hP⟩ : ∃ P, P = above ds[j + 1].path := ⟨_, rfl⟩
          rw [← hP] at hsum hne ⊢
          rw [sumL_lsum, hd', put_split hk, ← hd, List.drop_append_of_le_length (by simp; omega), List.filter_append, lsum_app, List.filter_cons_of_pos (by rw [hdp, hP]; simp)]
          rw [kidL_eq hne, hsp, List.filter_append, lsum_app, List.filter_cons_of_pos (by rw [hP]; simp)] at hsum
          have hfirst : (List.take (j + 1) ds).filter (fun q => decide (above q.path = P)) = ((List.take (j + 1) ds).drop 1).filter (fun q => decide (above q.path = P)) := by
            rw [htk, List.drop_succ_cons, List.drop_zero, List.filter_cons_of_neg]
            rw [hr]
            simp only [decide_eq_true_eq]
            intro e
            exact hne (e.symm.trans (by decide))
          have lc : ∀ (x : QD) (l : List QD), lsum label (x :: l) = least label x + lsum label l := fun x l => by simp [lsum]
          rw [lc] at hsum ⊢
          rw [hfirst] at hsum
          have la : least label d = a := by
            rw [hd]
            unfold least
            simp only [List.getD_eq_getElem?_getD]
            rw [List.getElem?_set_self (by simpa using hlc)]
            rfl
          have lb : least label ds[j + 1] = ds[j + 1].caps[label].1 := by
            unfold least
            simp only [List.getD_eq_getElem?_getD]
            rw [List.getElem?_eq_getElem hlc]
            rfl
          rw [la]
          rw [lb] at hsum
          simp only at hok2
          omega
      rw [hwf]
      decide
    rw [hk13]
    rfl
end Go.Proofs.YtflbhnckhbcboaaDoor
