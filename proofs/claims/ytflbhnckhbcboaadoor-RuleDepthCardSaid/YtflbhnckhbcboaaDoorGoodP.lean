/- What Good lays: plain words. -/
import Derived.Test.YtflbhnckhbcboaaDoorRuleQ
namespace Go.Proofs.YtflbhnckhbcboaaDoor

def sRoot : Tx := [114, 111, 111, 116]
/-- The shapes. -/
def tree : Nat → List Tx
  | 0 => [[114, 111, 111, 116]]
  | 1 => [[114, 111, 111, 116], [114, 111, 111, 116, 46, 97], [114, 111, 111, 116, 46, 98]]
  | 2 => [[114, 111, 111, 116], [114, 111, 111, 116, 46, 97], [114, 111, 111, 116, 46, 97, 46, 120], [114, 111, 111, 116, 46, 97, 46, 121], [114, 111, 111, 116, 46, 98]]
  | 3 => [[114, 111, 111, 116], [114, 111, 111, 116, 46, 97], [114, 111, 111, 116, 46, 98], [114, 111, 111, 116, 46, 98, 46, 120], [114, 111, 111, 116, 46, 98, 46, 120, 46, 112], [114, 111, 111, 116, 46, 98, 46, 120, 46, 113], [114, 111, 111, 116, 46, 99]]
  | _ => [[114, 111, 111, 116], [114, 111, 111, 116, 46, 97]]
def gpu : Tx := [103, 112, 117]
def labs (nl : Nat) : List Tx := ([[], gpu] : List Tx).take nl
theorem labs_length {nl : Nat} (h : nl ≤ 2) : (labs nl).length = nl := by simp [labs]; omega
theorem tree_len (y : Nat) : (tree y).length ≤ 7 := by
  unfold tree
  split <;> decide
theorem tree_txt (y : Nat) : ∀ p ∈ tree y, p.length ≤ 11 := by
  unfold tree
  split <;> decide
theorem tree_nodup (y : Nat) : (tree y).Nodup := by
  unfold tree
  split <;> decide

/-- The kids, by paths alone. -/
def kidsT (p : Tx) (ps : List Tx) : List Tx := ps.filter fun x => decide (p ≠ []) && decide (above x = p)
theorem kidsOf_T (p : Tx) (ds : List QD) : kidsOf p ds = kidsT p (ds.map (·.path)) := by
  unfold kidsOf kidsT
  rw [List.filter_map]
  rfl

def whole : Int × Int := (10000, 10000)
/-- The first part: k queues, all whole. -/
structure G1 (nl : Nat) (ps : List Tx) (k : Nat) (ds : List QD) : Prop where
  paths : ds.map (·.path) = ps.take k
  each : ∀ q ∈ ds, q.caps = List.replicate nl whole ∧ 1 ≤ q.user ∧ q.user ≤ 1000000
theorem G1.nil (nl : Nat) (ps : List Tx) : G1 nl ps 0 [] := ⟨rfl, by simp⟩
theorem G1.snoc {nl k : Nat} {ps : List Tx} {ds : List QD} (h : G1 nl ps k ds) (hk : k < ps.length) {u : Int} (h1 : 1 ≤ u) (h2 : u ≤ 1000000) : G1 nl ps (k + 1) (ds ++ [⟨ps[k], List.replicate nl whole, u⟩]) := by
  refine ⟨?_, fun q hq => ?_⟩
  · rw [List.map_append, h.paths, List.take_succ_eq_append_getElem hk]; rfl
  · rcases List.mem_append.1 hq with hq | hq
    · exact h.each q hq
    · simp at hq; subst hq; exact ⟨rfl, h1, h2⟩

def CapOk (c : Int × Int) : Prop := 0 ≤ c.1 ∧ c.1 ≤ c.2 ∧ c.2 ≤ 10000
structure Gd (nl : Nat) (ps : List Tx) (ds : List QD) : Prop where
  paths : ds.map (·.path) = ps
  each : ∀ q ∈ ds, q.caps.length = nl ∧ 1 ≤ q.user ∧ q.user ≤ 1000000 ∧ ∀ c ∈ q.caps, CapOk c
  root : ∀ q ∈ ds, q.path = sRoot → q.caps = List.replicate nl whole
theorem Gd.len {nl : Nat} {ps : List Tx} {ds : List QD} (h : Gd nl ps ds) : ds.length = ps.length := by
  have := congrArg List.length h.paths
  simpa using this
theorem Gd.path {nl : Nat} {ps : List Tx} {ds : List QD} (h : Gd nl ps ds) {k : Nat} (hk : k < ds.length) (hp : k < ps.length) : ds[k].path = ps[k] := by
  have h1 := h.paths
  subst h1
  simp

def least (k : Nat) (q : QD) : Int := (q.caps.getD k (0, 0)).1
def lsum (k : Nat) (l : List QD) : Int := (l.map (least k)).sum
def kidL (p : Tx) (ds : List QD) : List QD := ds.filter (isKidB p)
theorem kidL_length (p : Tx) (ds : List QD) : (kidL p ds).length = (kidsOf p ds).length := by simp [kidL, kidsOf]

def Full (k : Nat) (p : Tx) (ds : List QD) : Prop := kidL p ds ≠ [] → lsum k (kidL p ds) = 10000
/-- Kids of the first i queues make their parents. -/
structure GI (nl : Nat) (ps : List Tx) (i : Nat) (ds : List QD) : Prop where
  gd : Gd nl ps ds
  done : ∀ i' (h : i' < ps.length), i' < i → ∀ k, k < nl → Full k ps[i'] ds
/-- .. and of the i-th one, of the first k labels. -/
structure GK (nl : Nat) (ps : List Tx) (i k : Nat) (ds : List QD) : Prop where
  gi : GI nl ps i ds
  part : ∀ h : i < ps.length, ∀ k', k' < k → Full k' ps[i] ds
/-- .. and the first j kids of it have all but 'left'. -/
structure GJ (nl : Nat) (ps : List Tx) (i k j : Nat) (left : Int) (ds : List QD) : Prop where
  gk : GK nl ps i k ds
  lo : 0 ≤ left
  hi : left ≤ 10000
  sum : ∀ h : i < ps.length, lsum k ((kidL ps[i] ds).take j) = 10000 - left
  last : ∀ h : i < ps.length, 0 < j → j = (kidL ps[i] ds).length → left = 0

/-- All queues of a path have one part set; so far. -/
def putF (p : Tx) (k : Nat) (a b : Int) (q : QD) : QD := if q.path = p then ⟨q.path, q.caps.set k (a, b), q.user⟩ else q
def setAll (p : Tx) (k : Nat) (a b : Int) (ds : List QD) : List QD := ds.map (putF p k a b)
def setTo (p : Tx) (k : Nat) (a b : Int) (ds : List QD) (m : Nat) : List QD := (ds.take m).map (putF p k a b) ++ ds.drop m
theorem setTo_zero (p : Tx) (k : Nat) (a b : Int) (ds : List QD) : setTo p k a b ds 0 = ds := by simp [setTo]
theorem setTo_all (p : Tx) (k : Nat) (a b : Int) (ds : List QD) : setTo p k a b ds ds.length = setAll p k a b ds := by simp [setTo, setAll]
theorem setTo_length (p : Tx) (k : Nat) (a b : Int) (ds : List QD) (m : Nat) : (setTo p k a b ds m).length = ds.length := by simp [setTo]; omega
theorem setTo_get (p : Tx) (k : Nat) (a b : Int) (ds : List QD) (m : Nat) (hm : m < ds.length) (h : m < (setTo p k a b ds m).length) : (setTo p k a b ds m)[m] = ds[m] := by
  have h2 : (setTo p k a b ds m)[m]? = ds[m]? := by
    unfold setTo
    rw [List.getElem?_append_right (by simp; omega), List.getElem?_drop]
    congr 1
    simp
    omega
  rw [List.getElem?_eq_getElem h, List.getElem?_eq_getElem hm] at h2
  injection h2
theorem putF_path (p : Tx) (k : Nat) (a b : Int) (q : QD) : (putF p k a b q).path = q.path := by unfold putF; split <;> rfl
theorem putF_caps (p : Tx) (k : Nat) (a b : Int) (q : QD) : (putF p k a b q).caps.length = q.caps.length := by unfold putF; split <;> simp
theorem putF_user (p : Tx) (k : Nat) (a b : Int) (q : QD) : (putF p k a b q).user = q.user := by unfold putF; split <;> rfl
theorem putF_ne {p : Tx} {k : Nat} {a b : Int} {q : QD} (h : q.path ≠ p) : putF p k a b q = q := by unfold putF; rw [if_neg h]
theorem setTo_no {p : Tx} {k : Nat} {a b : Int} {ds : List QD} {m : Nat} (hm : m < ds.length) (h : ds[m].path ≠ p) : setTo p k a b ds (m + 1) = setTo p k a b ds m := by
  unfold setTo
  rw [List.take_succ_eq_append_getElem hm, List.map_append, List.drop_eq_getElem_cons hm]
  simp [putF_ne h]
theorem modify_mid {α : Type} : ∀ (l : List α) (x : α) (r : List α) (f : α → α) (n : Nat), l.length = n → (l ++ x :: r).modify n f = l ++ f x :: r
  | [], x, r, f, _, h => by subst h; rfl
  | y :: l, x, r, f, n, h => by
    subst h
    simp only [List.cons_append, List.length_cons, List.modify_succ_cons]
    rw [modify_mid l x r f _ rfl]
theorem setTo_yes {p : Tx} {k : Nat} {a b : Int} {ds : List QD} {m : Nat} (hm : m < ds.length) (h : ds[m].path = p) : setTo p k a b ds (m + 1) = (setTo p k a b ds m).modify m (fun q => ⟨q.path, q.caps.set k (a, b), q.user⟩) := by
  have hl : ((ds.take m).map (putF p k a b)).length = m := by simp; omega
  unfold setTo
  rw [List.take_succ_eq_append_getElem hm, List.map_append, List.append_assoc]
  conv => rhs; rw [List.drop_eq_getElem_cons hm]
  rw [modify_mid _ _ _ _ _ hl]
  simp [putF, h]

theorem G1.start {nl : Nat} {ps : List Tx} {ds : List QD} (h : G1 nl ps ps.length ds) : GI nl ps 0 ds := by
  refine ⟨⟨by rw [h.paths, List.take_length], fun q hq => ?_, fun q hq _ => (h.each q hq).1⟩, fun _ _ h => by omega⟩
  obtain ⟨h1, h2, h3⟩ := h.each q hq
  refine ⟨by rw [h1]; simp, h2, h3, fun c hc => ?_⟩
  rw [h1] at hc
  have := List.eq_of_mem_replicate hc
  subst this
  exact ⟨by decide, by decide, by decide⟩
theorem GI.toK {nl i : Nat} {ps : List Tx} {ds : List QD} (h : GI nl ps i ds) : GK nl ps i 0 ds := ⟨h, fun _ _ h => by omega⟩
theorem GK.toJ {nl i k : Nat} {ps : List Tx} {ds : List QD} (h : GK nl ps i k ds) : GJ nl ps i k 0 10000 ds := ⟨h, by omega, by omega, fun _ => by simp [lsum], fun _ h => by omega⟩
theorem GJ.end {nl i k j : Nat} {left : Int} {ps : List Tx} {ds : List QD} (h : GJ nl ps i k j left ds) (hj : ∀ h : i < ps.length, j = (kidsOf ps[i] ds).length) : GK nl ps i (k + 1) ds := by
  refine ⟨h.gk.gi, fun hi k' hk' hne => ?_⟩
  rcases Nat.lt_or_ge k' k with h1 | h1
  · exact h.gk.part hi k' h1 hne
  · obtain rfl : k' = k := by omega
    have h2 := hj hi
    rw [← kidL_length] at h2
    have h3 := h.sum hi
    have h4 := h.last hi (by
      have : (kidL ps[i] ds).length ≠ 0 := fun e => hne (List.eq_nil_of_length_eq_zero e)
      omega) h2
    rw [h2, List.take_length] at h3
    omega
theorem GK.end {nl i : Nat} {ps : List Tx} {ds : List QD} (h : GK nl ps i nl ds) : GI nl ps (i + 1) ds := by
  refine ⟨h.gi.gd, fun i' hi' hlt k hk => ?_⟩
  rcases Nat.lt_or_ge i' i with h1 | h1
  · exact h.gi.done i' hi' h1 k hk
  · obtain rfl : i' = i := by omega
    exact h.part hi' k hk
theorem nodup_at {α : Type} {l : List α} (h : l.Nodup) {i j : Nat} (hi : i < l.length) (hj : j < l.length) (e : l[i] = l[j]) : i = j := by
  rcases Nat.lt_trichotomy i j with h1 | h1 | h1
  · exact absurd e (List.pairwise_iff_getElem.1 h i j hi hj h1)
  · exact h1
  · exact absurd e.symm (List.pairwise_iff_getElem.1 h j i hj hi h1)
theorem putF_least_ne {p : Tx} {k k' : Nat} {a b : Int} {q : QD} (h : k' ≠ k) : least k' (putF p k a b q) = least k' q := by
  unfold putF least
  split
  · simp only [List.getD_eq_getElem?_getD]
    rw [List.getElem?_set_ne (by omega)]
  · rfl
theorem putF_least_yes {p : Tx} {k : Nat} {a b : Int} {q : QD} (h : q.path = p) (hk : k < q.caps.length) : least k (putF p k a b q) = a := by
  unfold putF least
  rw [if_pos h]
  simp only [List.getD_eq_getElem?_getD]
  rw [List.getElem?_set_self (by simpa using hk)]
  rfl
theorem isKid_putF (pp p : Tx) (k : Nat) (a b : Int) (q : QD) : isKidB pp (putF p k a b q) = isKidB pp q := by unfold isKidB; rw [putF_path]
theorem kidL_set (pp p : Tx) (k : Nat) (a b : Int) (ds : List QD) : kidL pp (setAll p k a b ds) = (kidL pp ds).map (putF p k a b) := by
  unfold kidL setAll
  rw [List.filter_map]
  congr 1
  apply List.filter_congr
  intro q _
  exact isKid_putF pp p k a b q
theorem lsum_ne {p : Tx} {k k' : Nat} {a b : Int} (l : List QD) (h : k' ≠ k) : lsum k' (l.map (putF p k a b)) = lsum k' l := by
  unfold lsum
  rw [List.map_map]
  congr 1
  apply List.map_congr_left
  intro q _
  exact putF_least_ne h
theorem map_putF_no {p : Tx} {k : Nat} {a b : Int} (l : List QD) (h : ∀ q ∈ l, q.path ≠ p) : l.map (putF p k a b) = l := by
  conv => rhs; rw [← List.map_id l]
  apply List.map_congr_left
  intro q hq
  exact putF_ne (h q hq)
theorem kidL_above {pp : Tx} {ds : List QD} {q : QD} (h : q ∈ kidL pp ds) : above q.path = pp ∧ pp ≠ [] := by
  unfold kidL at h
  have := (List.mem_filter.1 h).2
  simp [isKidB] at this
  exact ⟨this.2, this.1⟩
theorem kidL_paths (pp : Tx) (ds : List QD) : (kidL pp ds).map (·.path) = kidsOf pp ds := rfl
theorem Gd.set {nl k : Nat} {p : Tx} {n mo : Int} {ps : List Tx} {ds : List QD} (h : Gd nl ps ds) (hp : p ≠ sRoot) (h0 : 0 ≤ n) (h2 : n ≤ mo) (h3 : mo ≤ 10000) : Gd nl ps (setAll p k n mo ds) := by
  refine ⟨?_, fun q hq => ?_, fun q hq hr => ?_⟩
  · unfold setAll
    rw [List.map_map, ← h.paths]
    apply List.map_congr_left
    intro q _
    exact putF_path _ _ _ _ _
  · unfold setAll at hq
    obtain ⟨q', hq', rfl⟩ := List.mem_map.1 hq
    obtain ⟨h4, h5, h6, h7⟩ := h.each q' hq'
    refine ⟨by rw [putF_caps]; exact h4, by rw [putF_user]; exact h5, by rw [putF_user]; exact h6, fun c hc => ?_⟩
    unfold putF at hc
    split at hc
    · rcases List.mem_or_eq_of_mem_set hc with hc | hc
      · exact h7 c hc
      · subst hc; exact ⟨h0, h2, h3⟩
    · exact h7 c hc
  · unfold setAll at hq
    obtain ⟨q', hq', rfl⟩ := List.mem_map.1 hq
    rw [putF_path] at hr
    rw [putF_ne (by rw [hr]; exact fun e => hp e.symm)]
    exact h.root q' hq' hr
theorem GJ.step {nl i k j : Nat} {left n mo : Int} {ps : List Tx} {ds : List QD} (h : GJ nl ps i k j left ds) (hps : ps.Nodup) (hi : i < ps.length) (hj : j < (kidsOf ps[i] ds).length) (hk : k < nl) (h0 : 0 ≤ n) (h1 : n ≤ left) (hlast : j + 1 = (kidsOf ps[i] ds).length → n = left) (h2 : n ≤ mo) (h3 : mo ≤ 10000) :
    GJ nl ps i k (j + 1) (left - n) (setAll ((kidsOf ps[i] ds)[j]) k n mo ds) := by
  have hgd := h.gk.gi.gd
  have hjl : j < (kidL ps[i] ds).length := by rw [kidL_length]; exact hj
  obtain ⟨p, hp⟩ : ∃ p, p = (kidsOf ps[i] ds)[j] := ⟨_, rfl⟩
  have hpp : (kidL ps[i] ds)[j].path = p := by rw [hp]; simp [kidsOf, kidL]
  have hmem : (kidL ps[i] ds)[j] ∈ kidL ps[i] ds := List.getElem_mem hjl
  have hab : above p = ps[i] := by rw [← hpp]; exact (kidL_above hmem).1
  have hne0 : ps[i] ≠ [] := (kidL_above hmem).2
  have hroot : p ≠ sRoot := by
    intro e
    rw [e] at hab
    exact hne0 (hab.symm.trans (by decide))
  rw [← hp]
  have hnd : ((kidL ps[i] ds).map (·.path)).Nodup := by
    unfold kidL
    have h5 : (ds.map (·.path)).Nodup := by rw [hgd.paths]; exact hps
    exact List.Nodup.sublist (List.Sublist.map _ List.filter_sublist) h5
  have other : ∀ i' (hi' : i' < ps.length), i' ≠ i → kidL ps[i'] (setAll p k n mo ds) = kidL ps[i'] ds := by
    intro i' hi' hne
    rw [kidL_set, map_putF_no]
    intro q hq e
    have := (kidL_above hq).1
    rw [e, hab] at this
    exact hne (nodup_at hps hi' hi this.symm)
  have hcap : k < ((kidL ps[i] ds)[j]).caps.length := by
    have : (kidL ps[i] ds)[j] ∈ ds := (List.mem_filter.1 hmem).1
    rw [(hgd.each _ this).1]; exact hk
  have before : ((kidL ps[i] ds).take j).map (putF p k n mo) = (kidL ps[i] ds).take j := by
    apply map_putF_no
    intro q hq e
    obtain ⟨j', hj', e2⟩ := List.mem_iff_getElem.1 hq
    rw [List.length_take] at hj'
    rw [List.getElem_take] at e2
    have e3 : ((kidL ps[i] ds).map (·.path))[j']'(by simp; omega) = ((kidL ps[i] ds).map (·.path))[j]'(by simpa using hjl) := by
      simp only [List.getElem_map]
      rw [e2, e, hpp]
    have := nodup_at hnd _ _ e3
    omega
  refine ⟨⟨⟨hgd.set hroot h0 h2 h3, fun i' hi' hlt k' hk' => ?_⟩, fun _ k' hk' => ?_⟩, by omega, by have := h.hi; omega, fun _ => ?_, fun _ _ hjj => ?_⟩
  · unfold Full
    rw [other i' hi' (by omega)]
    exact h.gk.gi.done i' hi' hlt k' hk'
  · unfold Full
    rw [kidL_set, lsum_ne _ (by omega)]
    intro hne
    exact h.gk.part hi k' hk' (fun e => hne (by rw [e]; rfl))
  · rw [kidL_set, ← List.map_take, List.take_succ_eq_append_getElem hjl, List.map_append, before]
    have hs := h.sum hi
    unfold lsum at hs ⊢
    rw [List.map_append, List.sum_append, hs]
    simp only [List.map_cons, List.map_nil, List.sum_cons, List.sum_nil]
    rw [putF_least_yes hpp hcap]
    omega
  · rw [kidL_set, List.length_map, kidL_length] at hjj
    rw [hlast hjj]
    omega
end Go.Proofs.YtflbhnckhbcboaaDoor
