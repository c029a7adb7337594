/- The law AsksPending holds at every input: what is pending of a label is the sum of Sizes times Counts of its asks. No condition. -/
import Derived.Test.YtbocpkdnlpobkaaAkX
import Derived.Deep.CutBlock
import Derived.Test.YtbocpkdnlpobkaaSched3
import Derived.ChangeSlices
import Derived.OpenShut
import Derived.ChangeOld
import Derived.ChangeSame
import Derived.ChangeMaps
import Derived.JoinedOf
import Derived.JoinedAt
import Derived.RowKit3
import Derived.Lib.SmallJoins
namespace Go.Proofs.Ytbocpkdnlpobkaa.AsksPending
open Go.ChangeShapes Go.WideShapes Go.ChangeAt Go.RowKit Go.Joins

def zM (a : AD) : AD := { a with missed := 0 }
def listB (bs : List AD) : List AD := (bs.filter (fun x => decide (x.count ≠ 0))).map zM
theorem listB_app (a b : List AD) : listB (a ++ b) = listB a ++ listB b := by simp [listB]
/-- Each stands at its Prio. -/
def AtP (bs : List AD) : Prop := ∀ (i : Nat) (h : i < bs.length), bs[i].count ≠ 0 → bs[i].prio = (i : Int)
theorem listB_set {bs : List AD} {p : Nat} (hp : p < bs.length) (h : AtP bs) (a : AD) (ha : a.prio = (p : Int)) : listB (bs.set p a) = setA (listB bs) a := by
  have hs : bs.set p a = bs.take p ++ a :: bs.drop (p + 1) := List.set_eq_take_append_cons_drop.trans (by rw [if_pos hp])
  have hb : bs = bs.take p ++ bs[p] :: bs.drop (p + 1) := split_at p hp
  have h1 : ∀ x ∈ listB (bs.take p), x.prio < (p : Int) := by
    intro x hx
    unfold listB at hx
    rw [List.mem_map] at hx
    obtain ⟨y, hy, rfl⟩ := hx
    obtain ⟨hy1, hy2⟩ := List.mem_filter.1 hy
    obtain ⟨i, hi, rfl⟩ := List.getElem_of_mem hy1
    rw [List.length_take] at hi
    have := h i (by omega) (by simpa using hy2)
    rw [List.getElem_take]
    show bs[i].prio < _
    omega
  have h2 : ∀ x ∈ listB (bs.drop (p + 1)), (p : Int) < x.prio := by
    intro x hx
    unfold listB at hx
    rw [List.mem_map] at hx
    obtain ⟨y, hy, rfl⟩ := hx
    obtain ⟨hy1, hy2⟩ := List.mem_filter.1 hy
    obtain ⟨i, hi, rfl⟩ := List.getElem_of_mem hy1
    rw [List.length_drop] at hi
    have := h (p + 1 + i) (by omega) (by simpa using hy2)
    rw [List.getElem_drop]
    show _ < bs[p + 1 + i].prio
    omega
  have h3 : ∀ x ∈ listB [bs[p]], x.prio = (p : Int) := by
    intro x hx
    unfold listB at hx
    rw [List.mem_map] at hx
    obtain ⟨y, hy, rfl⟩ := hx
    obtain ⟨hy1, hy2⟩ := List.mem_filter.1 hy
    rw [List.mem_singleton] at hy1
    subst hy1
    exact h p hp (by simpa using hy2)
  have e1 : listB bs = listB (bs.take p) ++ listB [bs[p]] ++ listB (bs.drop (p + 1)) := by
    conv => lhs; rw [hb]
    rw [listB_app, show bs[p] :: bs.drop (p + 1) = [bs[p]] ++ bs.drop (p + 1) from rfl, listB_app, List.append_assoc]
  have el : lowA (p : Int) (listB bs) = listB (bs.take p) := by
    rw [e1, lowA_app, lowA_app, lowA_all h1, lowA_none (fun x hx => by rw [h3 x hx]; exact Int.le_refl _), lowA_none (fun x hx => by have := h2 x hx; omega)]
    simp
  have eh : highA (p : Int) (listB bs) = listB (bs.drop (p + 1)) := by
    rw [e1, highA_app, highA_app, highA_none (fun x hx => by have := h1 x hx; omega), highA_none (fun x hx => by rw [h3 x hx]; exact Int.le_refl _), highA_all h2]
    simp
  unfold setA putA midA
  rw [show ({ a with missed := 0 } : AD).prio = (p : Int) from ha, el, eh, hs, listB_app, show a :: bs.drop (p + 1) = [a] ++ bs.drop (p + 1) from rfl, listB_app, ← List.append_assoc]
  congr 2
  unfold listB setOne zM
  by_cases hc : a.count = 0
  · rw [if_pos (show ({ a with missed := 0 } : AD).count = 0 from hc), List.filter_cons_of_neg (by simp [hc])]; rfl
  · rw [if_neg (show ¬ ({ a with missed := 0 } : AD).count = 0 from hc), List.filter_cons_of_pos (by simp [hc])]; simp [ha]
theorem AtP.set {bs : List AD} (h : AtP bs) (p : Nat) (a : AD) (ha : a.prio = (p : Int)) : AtP (bs.set p a) := by
  intro i hi hc
  rw [List.length_set] at hi
  rw [List.getElem_set] at hc ⊢
  split
  · rename_i e; subst e; exact ha
  · rename_i e; rw [if_neg e] at hc; exact h i hi hc
theorem wrap_wrap (x : Int) : wrap64 (wrap64 x) = wrap64 x := by unfold wrap64; omega
def stepP (L : Int) (s : Int × Int) (d : AD) : Int × Int := if d.label = L then (wrap64 (s.1 + wrap64 (d.mem * d.count)), wrap64 (s.2 + wrap64 (d.cores * d.count))) else s
def pendB (L : Int) (bs : List AD) : Int × Int := bs.foldl (stepP L) (0, 0)
theorem pendB_snoc (L : Int) (bs : List AD) (d : AD) : pendB L (bs ++ [d]) = stepP L (pendB L bs) d := by simp [pendB]
theorem pend_fold (L : Int) : ∀ (bs : List AD) (s : Int × Int), wrap64 s.1 = s.1 ∧ wrap64 s.2 = s.2 → bs.foldl (stepP L) s = (listB bs).foldl (fun s d => if d.label = L then (wrap64 (s.1 + wrap64 (d.count * d.mem)), wrap64 (s.2 + wrap64 (d.count * d.cores))) else s) s
  | [], _, _ => rfl
  | d :: bs, s, hw => by
    rw [List.foldl_cons]
    by_cases hc : d.count = 0
    · have e : listB (d :: bs) = listB bs := by unfold listB; rw [List.filter_cons_of_neg (by simp [hc])]
      have es : stepP L s d = s := by
        unfold stepP
        rw [hc, Int.mul_zero, Int.mul_zero, show wrap64 0 = 0 by unfold wrap64; omega, Int.add_zero, Int.add_zero, hw.1, hw.2]
        simp
      rw [e, es]
      exact pend_fold L bs s hw
    · have e : listB (d :: bs) = zM d :: listB bs := by unfold listB; rw [List.filter_cons_of_pos (by simp [hc])]; rfl
      rw [e, List.foldl_cons]
      have es : stepP L s d = if (zM d).label = L then (wrap64 (s.1 + wrap64 ((zM d).count * (zM d).mem)), wrap64 (s.2 + wrap64 ((zM d).count * (zM d).cores))) else s := by
        unfold stepP zM
        rw [Int.mul_comm d.mem, Int.mul_comm d.cores]
      rw [← es]
      refine pend_fold L bs _ ?_
      unfold stepP
      split
      · exact ⟨wrap_wrap _, wrap_wrap _⟩
      · exact hw
theorem pendB_is (L : Int) (bs : List AD) : pendB L bs = pendA (listB bs) L := pend_fold L bs (0, 0) (by simp [wrap64])
theorem good_in (a : AD) : 0 ≤ (goodA a).prio ∧ (goodA a).prio < 10 := by unfold goodA; simp only; omega
def zB : List AD := List.replicate 10 zAD
theorem zB_at : AtP zB := by
  intro i hi hc
  have h0 : zB[i] = zAD := List.eq_of_mem_replicate (List.getElem_mem hi)
  rw [h0] at hc
  exact absurd rfl hc
theorem listB_z : listB zB = [] := by decide
theorem Try.infoBy : (Try.prog.info? 48).map (fun i => (i.zero, i.size, i.bytes)) = some (some (.agg (acells zB).toArray), 80, 640) := by kernel_rfl
theorem zeroBy (W : World) : (zeroValue 48).run Try.prog W = .ok (.agg (acells zB).toArray) W := by
  obtain ⟨i0, hi, hz, _, _⟩ := info_parts Try.infoBy
  unfold zeroValue
  simp [typeInfo, hi, hz]
/-- Eight cells of a row are written anew. -/
theorem set8A (bs : List AD) (p : Nat) (hp : p < bs.length) (a : AD) : ((((((((acells bs).set (p * 8) (.int .i64 a.prio)).set (p * 8 + 1) (.int .i64 a.label)).set (p * 8 + 2) (.int .i64 a.mem)).set (p * 8 + 3) (.int .i64 a.cores)).set (p * 8 + 4) (.int .i64 a.count)).set (p * 8 + 5) (.int .i64 a.node)).set (p * 8 + 6) (.int .i64 a.rack)).set (p * 8 + 7) (.int .i64 a.missed) = acells (bs.set p a) := by
  induction bs generalizing p with
  | nil => simp at hp
  | cons d bs ih =>
    cases p with
    | zero => rfl
    | succ p =>
      have ih := ih p (by simpa using hp)
      rw [List.set_cons_succ]
      show _ = aenc d ++ acells (bs.set p a)
      rw [← ih]
      have hl : (aenc d).length = 8 := rfl
      have e : ∀ (X : List Value) (j : Nat) (u : Value), (aenc d ++ X).set ((p + 1) * 8 + j) u = aenc d ++ X.set (p * 8 + j) u := fun X j u => by
        rw [List.set_append_right _ _ (by rw [hl]; omega), hl]
        congr 2
        omega
      show (((((((((aenc d ++ acells bs).set ((p + 1) * 8 + 0) _).set ((p + 1) * 8 + 1) _).set ((p + 1) * 8 + 2) _).set ((p + 1) * 8 + 3) _).set ((p + 1) * 8 + 4) _).set ((p + 1) * 8 + 5) _).set ((p + 1) * 8 + 6) _).set ((p + 1) * 8 + 7) _) = _
      rw [e, e, e, e, e, e, e, e]
      rfl
theorem bset8A {w : World} {Q : Nat} {t : TypeId} {bs : List AD} (h : w.heap[Q]? = some (.cells (acells bs).toArray t (0, 0))) {p : Nat} (hp : p < bs.length) (a : AD) :
    ((((((((w.setCell ⟨Q, p * 8, none⟩ (.int .i64 a.prio)).setCell ⟨Q, p * 8 + 1, none⟩ (.int .i64 a.label)).setCell ⟨Q, p * 8 + 2, none⟩ (.int .i64 a.mem)).setCell ⟨Q, p * 8 + 3, none⟩ (.int .i64 a.cores)).setCell ⟨Q, p * 8 + 4, none⟩ (.int .i64 a.count)).setCell ⟨Q, p * 8 + 5, none⟩ (.int .i64 a.node)).setCell ⟨Q, p * 8 + 6, none⟩ (.int .i64 a.rack)).setCell ⟨Q, p * 8 + 7, none⟩ (.int .i64 a.missed)).heap[Q]? = some (.cells (acells (bs.set p a)).toArray t (0, 0)) := by
  have e := bset (bset (bset (bset (bset (bset (bset (bset h (p * 8) (.int .i64 a.prio)) (p * 8 + 1) (.int .i64 a.label)) (p * 8 + 2) (.int .i64 a.mem)) (p * 8 + 3) (.int .i64 a.cores)) (p * 8 + 4) (.int .i64 a.count)) (p * 8 + 5) (.int .i64 a.node)) (p * 8 + 6) (.int .i64 a.rack)) (p * 8 + 7) (.int .i64 a.missed)
  rw [e]
  simp only [List.setIfInBounds_toArray, set8A bs p hp a]
theorem foot8A (w : World) (Q p : Nat) (v0 v1 v2 v3 v4 v5 v6 v7 : Value) : FootL (fun i => i = Q) w ((((((((w.setCell ⟨Q, p, none⟩ v0).setCell ⟨Q, p + 1, none⟩ v1).setCell ⟨Q, p + 2, none⟩ v2).setCell ⟨Q, p + 3, none⟩ v3).setCell ⟨Q, p + 4, none⟩ v4).setCell ⟨Q, p + 5, none⟩ v5).setCell ⟨Q, p + 6, none⟩ v6).setCell ⟨Q, p + 7, none⟩ v7) := by
  have s := fun (W : World) j u => FootL.setCell (fun i => i = Q) W Q j u rfl
  have t : ∀ {a b c : World}, FootL (fun i => i = Q) a b → FootL (fun i => i = Q) b c → FootL (fun i => i = Q) a c := fun h k => (FootL_way (fun i => i = Q)).trans h k
  exact t (t (t (t (t (t (t (s w p v0) (s _ (p + 1) v1)) (s _ (p + 2) v2)) (s _ (p + 3) v3)) (s _ (p + 4) v4)) (s _ (p + 5) v5)) (s _ (p + 6) v6)) (s _ (p + 7) v7)

set_option maxRecDepth 100000 in
set_option maxHeartbeats 12800000 in
theorem walk (w : World) (v : Value) (N : Nat) (f : Nat → Nat → Int) (r0 : RdS 8 w v N f) (label : Int) (_ : (Lit.int .i64 label).wf = true) :
    Calls Try.prog 8 #[v, .int .i64 label] w fun e w' => e = .returned (.bool true) ∧ Below w.heap.size w w' := by
  obtain ⟨A, c, rfl, hc1, hc2, hcell⟩ := r0
  unfold maxLen at hc2
  have HC := Lib.hid hcell
  have HW2 := Lib.hid (fun W => within9_some label 2 2 W rfl ⟨by omega, by omega⟩)
  clear hcell
  go_enter Try.func8, Try.ntmps8
  go_wp2_with fail
  (with_reducible refine (known9_any _).mono ?_)
  rintro e w1 ⟨rfl, hx1⟩
  have X1 := Lib.hid hx1
  clear hx1
  go_wp2_with fail
  (with_reducible refine (HW2.out _).mono ?_)
  rintro e w2 ⟨y, rfl, hyy, hy, rfl⟩
  clear hyy
  have hal := fun (W : World) => zeroBy W
  obtain ⟨ZC, hZC⟩ : ∃ ZC, ZC = (acells zB).toArray := ⟨_, rfl⟩
  rw [← hZC] at hal
  go_upto_region 7 with fail
  refine at_world (fun W0 hW0 => ?_)
  have HV0 := Lib.hid (show W0.heap[w1.heap.size]? = some (.cells #[.int .i64 0, .int .i64 0] 23 (0, 0)) by rw [hW0]; exact (box2_at _ _ _).1)
  have HQ0 := Lib.hid (show W0.heap[w1.heap.size + 1]? = some (.cells (acells zB).toArray 48 (0, 0)) by rw [hW0, ← hZC]; exact (box2_at _ _ _).2)
  have X0 := Lib.hid (X1.out.trans (show Ext w1 W0 by rw [hW0]; exact (ext_alloc _ _).trans (ext_alloc _ _)))
  obtain ⟨R, hR⟩ : ∃ R, R = w1.heap.size := ⟨_, rfl⟩
  obtain ⟨Q, hQ⟩ : ∃ Q, Q = w1.heap.size + 1 := ⟨_, rfl⟩
  obtain ⟨U, hU⟩ : ∃ U, U = Q + 1 := ⟨_, rfl⟩
  have HWR := Lib.hid (show w.heap.size ≤ R by rw [hR]; exact X1.out.size)
  have HRQ := Lib.hid (show Q = R + 1 by omega)
  have HUQ := Lib.hid hU
  rw [← hR] at HV0 ⊢
  rw [← hQ] at HQ0
  try rw [← HRQ.out]
  clear hW0 hR hQ hU hal hZC ZC
  go_wp2
  go_loopw [5, 8] (fun va i wr => ∃ (k : Nat) (ds bs : List AD), k ≤ N ∧ k ≤ 8 ∧ i = .int .i64 k ∧ wr.ownsRow U 25 8 va ds.length (acells ds) ∧ SrtA ds ∧ OkA ds ∧ ds.length ≤ k ∧ wr.heap[R]? = some (.cells #[.int .i64 0, .int .i64 0] 23 (0, 0)) ∧ wr.heap[Q]? = some (.cells (acells bs).toArray 48 (0, 0)) ∧ bs.length = 10 ∧ AtP bs ∧ ds = listB bs ∧ Ext w wr) (fun _ i _ => 8 - (intOf i).toNat)
  case atStart => exact ⟨0, [], zB, by omega, by omega, rfl, World.ownsRow_nil _ _ _ 8, List.Pairwise.nil, OkA.nil, by simp, HV0.out, HQ0.out, rfl, zB_at, listB_z.symm, X0.out⟩
  case round =>
    obtain ⟨k, ds, bs, hkN, hk8, rfl, hoa, hsr, hok, hlk, hv, hq, hb10, hatp, hdb, hx⟩ := hrel
    have HX := Lib.hid hx
    have HSR := Lib.hid hsr
    have HOK := Lib.hid hok
    have HL8 := Lib.hid (show ds.length ≤ 8 by omega)
    have HLK := Lib.hid hlk
    have HV := Lib.hid hv
    have HQ := Lib.hid hq
    have HBS := Lib.hid (And.intro hb10 (And.intro hatp hdb))
    obtain ⟨n, hn⟩ : ∃ n, n = ds.length := ⟨_, rfl⟩
    rw [← hn] at hoa
    obtain ⟨Aa, ca, rfl, ha1, ha2⟩ := own_shape hoa
    have HNN := Lib.hid hn
    have HOA := Lib.hid hoa
    have hn8 : n ≤ 8 := by omega
    clear hx hsr hok hlk hoa hn hv hq hb10 hatp hdb
    have k0 : (0 : Int) ≤ (k : Int) := by omega
    obtain ⟨tb, htb⟩ : ∃ tb : Bool, tb = (decide (k < N) && decide (k < 8)) := ⟨_, rfl⟩
    have HTB := Lib.hid htb
    clear htb
    go_upto_region 8 with fail
    go_cut [25] from 18 to 25 (fun s_ wx => s_ = .bool tb ∧ wx = wr)
    case first =>
      by_cases hlt : k < N
      · have k1 : (k : Int) < (N : Int) := by omega
        by_cases hlt2 : k < 8
        · have k2 : (k : Int) < 8 := by omega
          obtain rfl : tb = true := by rw [HTB.out]; simp [hlt, hlt2]
          go_wp2_with fail
          go_meet
          case rel => exact ⟨rfl, rfl⟩
        · have k2 : ¬ (k : Int) < 8 := by omega
          obtain rfl : tb = false := by rw [HTB.out]; simp [hlt2]
          go_wp2_with fail
          go_meet
          case rel => exact ⟨rfl, rfl⟩
      · have k1 : ¬ (k : Int) < (N : Int) := by omega
        obtain rfl : tb = false := by rw [HTB.out]; simp [hlt]
        go_wp2_with fail
        go_meet
        case rel => exact ⟨rfl, rfl⟩
    case rest =>
     obtain ⟨rfl, rfl⟩ := hcut
     cases tb
     case true =>
      obtain ⟨hlt, hlt2⟩ : k < N ∧ k < 8 := by simpa using HTB.out.symm
      have k1 : (k : Int) < (N : Int) := by omega
      have HK1 := Lib.hid (show k + 1 ≤ N ∧ k + 1 ≤ 8 by omega)
      obtain ⟨a_, rfl, hb_, hcs⟩ := HC.out (by omega)
      obtain ⟨q0, q1, q2, q3, q4, q5, q6, q7⟩ := ask_cells (fun j hj => HX.out.cell' (hcs k hlt j hj))
      have HGD := Lib.hid (fun W => good_any ⟨f k 0, f k 1, f k 2, f k 3, f k 4, f k 5, f k 6, f k 7⟩ W)
      have HGP := Lib.hid (good_in ⟨f k 0, f k 1, f k 2, f k 3, f k 4, f k 5, f k 6, f k 7⟩)
      have HGC := Lib.hid (good_count ⟨f k 0, f k 1, f k 2, f k 3, f k 4, f k 5, f k 6, f k 7⟩)
      obtain ⟨x0, e0⟩ : ∃ x, x = f k 0 := ⟨_, rfl⟩
      rw [← e0] at q0 HGD HGC HGP
      obtain ⟨x1, e1⟩ : ∃ x, x = f k 1 := ⟨_, rfl⟩
      rw [← e1] at q1 HGD HGC HGP
      obtain ⟨x2, e2⟩ : ∃ x, x = f k 2 := ⟨_, rfl⟩
      rw [← e2] at q2 HGD HGC HGP
      obtain ⟨x3, e3⟩ : ∃ x, x = f k 3 := ⟨_, rfl⟩
      rw [← e3] at q3 HGD HGC HGP
      obtain ⟨x4, e4⟩ : ∃ x, x = f k 4 := ⟨_, rfl⟩
      rw [← e4] at q4 HGD HGC HGP
      obtain ⟨x5, e5⟩ : ∃ x, x = f k 5 := ⟨_, rfl⟩
      rw [← e5] at q5 HGD HGC HGP
      obtain ⟨x6, e6⟩ : ∃ x, x = f k 6 := ⟨_, rfl⟩
      rw [← e6] at q6 HGD HGC HGP
      obtain ⟨x7, e7⟩ : ∃ x, x = f k 7 := ⟨_, rfl⟩
      rw [← e7] at q7 HGD HGC HGP
      clear e0 e1 e2 e3 e4 e5 e6 e7 hcs hb_
      obtain ⟨g, hg⟩ : ∃ g, g = goodA ⟨x0, x1, x2, x3, x4, x5, x6, x7⟩ := ⟨_, rfl⟩
      rw [← hg] at HGD HGC HGP
      clear hg
      obtain ⟨g0, g1, g2, g3, g4, g5, g6, g7⟩ := g
      simp only [askV] at HGD HGC HGP
      try simp only at HGP
      obtain ⟨p, hp⟩ : ∃ p : Nat, g0 = (p : Int) := ⟨g0.toNat, by have := HGP.out; omega⟩
      subst hp
      have p0 : (0 : Int) ≤ (p : Int) := by omega
      have p1 : (p : Int) < 10 := HGP.out.2
      have HP := Lib.hid (show p < 10 by omega)
      go_wp2_with fail
      (with_reducible refine (HGD.out _).mono ?_)
      rintro e w2 ⟨rfl, hx2⟩
      go_upto_region 11 with fail
      refine at_world (fun W3 hW3 => ?_)
      have E3 := Lib.hid (show Ext wc W3 by rw [hW3]; exact hx2.trans (ext_alloc _ _))
      have HB3 := Lib.hid (show W3.heap[w2.heap.size]? = some (.cells #[.int .i64 (p : Int), .int .i64 g1, .int .i64 g2, .int .i64 g3, .int .i64 g4, .int .i64 g5, .int .i64 g6, .int .i64 g7] 25 (0, 0)) by rw [hW3]; exact heap_alloc_new w2 _)
      have Y2 := Lib.hid (HX.out.trans E3.out)
      have HOA2 := Lib.hid (own_ExtK HOA.out E3.out)
      have HU3 := Lib.hid (show U ≤ W3.heap.size by have := (Array.getElem?_eq_some_iff.1 (ext_blk E3.out HQ.out)).1; have := HUQ.out; omega)
      have HBQ := Lib.hid (show Q < w2.heap.size from (Array.getElem?_eq_some_iff.1 (ext_blk hx2 HQ.out)).1)
      obtain ⟨B, hB⟩ : ∃ B, B = w2.heap.size := ⟨_, rfl⟩
      rw [← hB] at HB3 HBQ ⊢
      clear q0 q1 q2 q3 q4 q5 q6 q7 hx2 hW3 hB
      have c0 := bcel HB3.out 0 (.int .i64 (p : Int)) rfl
      have c1 := bcel HB3.out 1 (.int .i64 g1) rfl
      have c2 := bcel HB3.out 2 (.int .i64 g2) rfl
      have c3 := bcel HB3.out 3 (.int .i64 g3) rfl
      have c4 := bcel HB3.out 4 (.int .i64 g4) rfl
      have c5 := bcel HB3.out 5 (.int .i64 g5) rfl
      have c6 := bcel HB3.out 6 (.int .i64 g6) rfl
      have c7 := bcel HB3.out 7 (.int .i64 g7) rfl
      have HS1 := Set_any ds (.slice Aa n ca) ⟨(p : Int), g1, g2, g3, g4, g5, g6, g7⟩ W3 (hdA_of HOA2.out HNN.out) (by have := HL8.out; omega) HSR.out
      have HS1 := Lib.hid HS1
      have HTW := Lib.hid (setL_two ds ⟨(p : Int), g1, g2, g3, g4, g5, g6, g7⟩)
      have HSL := Lib.hid (HSR.out.setL ⟨(p : Int), g1, g2, g3, g4, g5, g6, g7⟩)
      have HKL := Lib.hid (HOK.out.setL (a := ⟨(p : Int), g1, g2, g3, g4, g5, g6, g7⟩) ⟨HGC.out.1, by have := HGC.out.2; simp only at this ⊢; omega⟩)
      obtain ⟨SE, hSE⟩ : ∃ SE, SE = setE ds ⟨(p : Int), g1, g2, g3, g4, g5, g6, g7⟩ := ⟨_, rfl⟩
      obtain ⟨SL, hSL⟩ : ∃ SL, SL = setL ds ⟨(p : Int), g1, g2, g3, g4, g5, g6, g7⟩ := ⟨_, rfl⟩
      rw [← hSE] at HS1 HTW
      rw [← hSL] at HS1 HTW HSL HKL
      clear hSE
      have HSLE := Lib.hid hSL
      clear hSL
      simp only [askV] at HS1
      go_wp2_with fail
      (with_reducible refine (HS1.out).mono ?_)
      rintro e w5 ⟨vp, rfl, hop, hx5⟩
      obtain ⟨np, hnp⟩ : ∃ np, np = SL.length := ⟨_, rfl⟩
      rw [← hnp] at hop
      obtain ⟨Ap, cp, rfl, hp1, hp2⟩ := own_shape hop
      have HOP := Lib.hid (own_lower (B' := U) hop HU3.out)
      have X5 := Lib.hid hx5
      have X5w := Lib.hid (Y2.out.trans hx5)
      have HOA5 := Lib.hid (own_ExtK HOA2.out hx5)
      have HNP := Lib.hid hnp
      clear hop hx5 HS1 hnp
      clear c0 c1 c2 c3 c4 c5 c6 c7
      rcases HTW.out with ⟨h1, h2, h3⟩ | ⟨h1, h2, h3⟩
      case inr =>
        exfalso
        have h4 := setA_len HSR.out ⟨(p : Int), g1, g2, g3, g4, g5, g6, g7⟩
        have h5 := HLK.out
        have h6 := HK1.out
        omega
      subst h1
      have HSA := Lib.hid (And.intro h2 h3)
      clear h2 h3 HTW
      have HB5 := Lib.hid (ext_blk X5.out HB3.out)
      have HQ5 := Lib.hid (ext_blk (E3.out.trans X5.out) HQ.out)
      have HV5 := Lib.hid (ext_blk (E3.out.trans X5.out) HV.out)
      have c0 := bcel HB5.out 0 (.int .i64 (p : Int)) rfl
      have c1 := bcel HB5.out 1 (.int .i64 g1) rfl
      have c2 := bcel HB5.out 2 (.int .i64 g2) rfl
      have c3 := bcel HB5.out 3 (.int .i64 g3) rfl
      have c4 := bcel HB5.out 4 (.int .i64 g4) rfl
      have c5 := bcel HB5.out 5 (.int .i64 g5) rfl
      have c6 := bcel HB5.out 6 (.int .i64 g6) rfl
      have c7 := bcel HB5.out 7 (.int .i64 g7) rfl
      have hpb : p < bs.length := by rw [HBS.out.1]; exact HP.out
      have HPB := Lib.hid hpb
      obtain ⟨o_, r0, r1, r2, r3, r4, r5, r6, r7⟩ : ∃ o_ : AD, AAt w5 Q p o_ := ⟨_, aAt_of (g := Q) (w := w5) (ds := bs) (fun j u hu => bcel HQ5.out j u (by rw [List.getElem?_toArray]; exact hu)) p hpb⟩
      have ff := fun j => bfre HQ5.out j
      clear hpb
      go_upto_region 9 with fail
      refine at_world (fun W6 hW6 => ?_)
      have HQ6 := Lib.hid (show W6.heap[Q]? = some (.cells (acells (bs.set p ⟨(p : Int), g1, g2, g3, g4, g5, g6, g7⟩)).toArray 48 (0, 0)) by rw [hW6]; exact bset8A HQ5.out HPB.out ⟨(p : Int), g1, g2, g3, g4, g5, g6, g7⟩)
      have HFT := Lib.hid (show FootL (fun i => i = Q) w5 W6 by rw [hW6]; exact foot8A w5 Q (p * 8) _ _ _ _ _ _ _ _)
      have HV6 := Lib.hid (HFT.out.blk HV5.out (by have := HRQ.out; omega))
      have HOP6 := Lib.hid (own_footL HOP.out HFT.out (fun g hg hq => by have := (HOP.out.lt g hg).1; have := HUQ.out; omega))
      have X6 := Lib.hid (HFT.out.ext X5w.out (fun i hi => by have := HWR.out; have := HRQ.out; omega))
      have HLS := Lib.hid (show setA ds ⟨(p : Int), g1, g2, g3, g4, g5, g6, g7⟩ = listB (bs.set p ⟨(p : Int), g1, g2, g3, g4, g5, g6, g7⟩) by rw [HBS.out.2.2]; exact (listB_set HPB.out HBS.out.2.1 ⟨(p : Int), g1, g2, g3, g4, g5, g6, g7⟩ rfl).symm)
      clear hW6 r0 r1 r2 r3 r4 r5 r6 r7 ff c0 c1 c2 c3 c4 c5 c6 c7
      go_wp2
      go_roundw
      case rel => exact ⟨k + 1, SL, bs.set p ⟨(p : Int), g1, g2, g3, g4, g5, g6, g7⟩, HK1.out.1, HK1.out.2, by simp, by rw [← HNP.out]; exact HOP6.out, HSL.out, HKL.out, by rw [HSA.out.1]; have := setA_len HSR.out ⟨(p : Int), g1, g2, g3, g4, g5, g6, g7⟩; have := HLK.out; omega, HV6.out, HQ6.out, by rw [List.length_set]; exact HBS.out.1, HBS.out.2.1.set p ⟨(p : Int), g1, g2, g3, g4, g5, g6, g7⟩ rfl, by rw [HSA.out.1]; exact HLS.out, X6.out⟩
      case measure => simp [intOf]; omega
     case false =>
      clear HTB HC
      go_wp2
      go_loopw [12] (fun i wr => ∃ (q : Nat), q ≤ 10 ∧ i = .int .i64 q ∧ wr.heap[R]? = some (.cells #[.int .i64 (pendB (y : Int) (bs.take q)).1, .int .i64 (pendB (y : Int) (bs.take q)).2] 23 (0, 0)) ∧ wr.heap[Q]? = some (.cells (acells bs).toArray 48 (0, 0)) ∧ wr.ownsRow U 25 8 (.slice Aa n ca) n (acells ds) ∧ Ext w wr) (fun i _ => 10 - (intOf i).toNat)
      case atStart => exact ⟨0, by omega, rfl, HV.out, HQ.out, HOA.out, HX.out⟩
      case round =>
        obtain ⟨q, hq10, rfl, hv, hqb, hoa, hx⟩ := hrel
        have HY := Lib.hid hx
        have HVR := Lib.hid hv
        have HQR := Lib.hid hqb
        have HOR := Lib.hid hoa
        clear hx hv hqb hoa
        obtain ⟨z1, hz1⟩ : ∃ z, z = (pendB (y : Int) (bs.take q)).1 := ⟨_, rfl⟩
        obtain ⟨z2, hz2⟩ : ∃ z, z = (pendB (y : Int) (bs.take q)).2 := ⟨_, rfl⟩
        have HZ := Lib.hid (show pendB (y : Int) (bs.take q) = (z1, z2) by rw [hz1, hz2])
        rw [← hz1, ← hz2] at HVR
        clear hz1 hz2
        have q0 : (0 : Int) ≤ (q : Int) := by omega
        by_cases hlt : q < 10
        case pos =>
          have q1 : (q : Int) < 10 := by omega
          have hqd : q < bs.length := by rw [HBS.out.1]; exact hlt
          have HAA := Lib.hid (fun (W : World) (h : W.heap[Q]? = some (.cells (acells bs).toArray 48 (0, 0))) => aAt_of (g := Q) (w := W) (ds := bs) (fun j u hu => bcel h j u (by rw [List.getElem?_toArray]; exact hu)) q hqd)
          have HSN := Lib.hid (show pendB (y : Int) (bs.take (q + 1)) = stepP (y : Int) (pendB (y : Int) (bs.take q)) bs[q] by rw [show bs.take (q + 1) = bs.take q ++ [bs[q]] from (List.take_append_getElem hqd).symm, pendB_snoc])
          obtain ⟨d, hd⟩ : ∃ d, d = bs[q] := ⟨_, rfl⟩
          rw [← hd] at HAA HSN
          clear hd hqd
          obtain ⟨dp, dl, dm, dc, dn, dno, dr, dmi⟩ := d
          obtain ⟨_, r1, _, _, _, _, _, _⟩ := HAA.out _ HQR.out
          simp only at r1
          by_cases hE : dl = (y : Int)
          · have t1 : (dl == (y : Int)) = true := by simpa using hE
            obtain ⟨m1, hm1⟩ : ∃ m, m = wrap64 (dm * dn) := ⟨_, rfl⟩
            obtain ⟨m2, hm2⟩ : ∃ m, m = wrap64 (dc * dn) := ⟨_, rfl⟩
            have HF := Lib.hid (show pendB (y : Int) (bs.take (q + 1)) = (wrap64 (z1 + m1), wrap64 (z2 + m2)) by rw [HSN.out, HZ.out]; unfold stepP; rw [if_pos hE, hm1, hm2])
            have hw1 : IntKind.wrap .i64 (dm * dn) = m1 := by rw [hm1]; unfold wrap64; exact IntKind.wrap_i64 _
            have hw2 : IntKind.wrap .i64 (dc * dn) = m2 := by rw [hm2]; unfold wrap64; exact IntKind.wrap_i64 _
            obtain ⟨s1, hs1⟩ : ∃ s, s = wrap64 (z1 + m1) := ⟨_, rfl⟩
            obtain ⟨s2, hs2⟩ : ∃ s, s = wrap64 (z2 + m2) := ⟨_, rfl⟩
            rw [← hs1, ← hs2] at HF
            have hw3 : IntKind.wrap .i64 (z1 + m1) = s1 := by rw [hs1]; unfold wrap64; exact IntKind.wrap_i64 _
            have hw4 : IntKind.wrap .i64 (z2 + m2) = s2 := by rw [hs2]; unfold wrap64; exact IntKind.wrap_i64 _
            clear hm1 hm2 hs1 hs2 hE
            go_upto_region 20 with fail
            clear r1
            have HCC := Lib.hid (fun (W : World) (h : FootL (fun i => i = R) wr W) => (let x := HAA.out W (h.blk HQR.out (by have := HRQ.out; omega)); ⟨x.2.2.1, x.2.2.2.1, x.2.2.2.2.1⟩ : W.cell? ⟨Q, q * 8 + 2, none⟩ = some (.int .i64 dm) ∧ W.cell? ⟨Q, q * 8 + 3, none⟩ = some (.int .i64 dc) ∧ W.cell? ⟨Q, q * 8 + 4, none⟩ = some (.int .i64 dn)))
            refine wp_region_tree (FootL (fun i => i = R)) (FootL_way _) (.free 0 (.free 2 (.free 3 (.free 4 (.free 5 (.free 6 (.free 7 (.free 8 (.free 9 (.free 10 (.free 11 (.free 13 (.free 15 (.free 16 (.free 17 (.free 18 (.free 19 (.free 20 (.free 21 (.free 22 (.free 23 (.free 24 (.two 1 14 (.free 12 (.step 14 (.free 25 (.free 26 (.step 27 (.free 28 (.step 29 .done))))))) (.free 25 (.step 1 (.free 12 (.free 26 (.step 27 (.free 28 (.step 29 .done)))))))))))))))))))))))))))))) (by kernel_rfl) (by kernel_rfl) (fun _ _ _ _ _ h => h) ?_
            repeat first | ((with_reducible refine tree_free ?_ ?_ ?_ ?_ (fun wk k1 => ?_) ?_); rotate_left 2; (rfl); (first | exact want_none rfl | exact want_some rfl rfl rfl rfl); (go_simp; first | exact OkX.val | (have hcc := HCC.out _ ((FootL_way _).trans (FootL.of_ext (Ext.drew _)) k1); go_simp; first | exact OkX.val | (simp only [hw1, hw2]; exact OkX.val))); simp only [Act.put, List.setIfInBounds_toArray, List.set_cons_zero, List.set_cons_succ]) | ((with_reducible refine tree_skip ?_ ?_ ?_ ?_); rotate_left; (rfl); (exact want_not rfl rfl rfl rfl rfl); simp only [Act.put, List.setIfInBounds_toArray, List.set_cons_zero, List.set_cons_succ])
            ((with_reducible refine tree_two ?_ ?_ ?_ ?_ ?_ ?_ (fun wk k1 => ?_) (fun wk k1 => ?_)); rotate_left 2; (rfl); (first | exact want_none rfl | exact want_some rfl rfl rfl rfl); (rfl); (first | exact want_none rfl | exact want_some rfl rfl rfl rfl))
            case' refine_6.refine_6.refine_7 =>

              have E1 := Lib.hid ((Ext.drew _).trans k1)
              have zz := bcel (ext_blk E1.out HVR.out) 0 (.int .i64 z1) rfl
              clear k1
              go_simp
              refine ⟨(FootL_way _).ext (Ext.refl _), ?_⟩
              try simp only [Act.put, List.setIfInBounds_toArray, List.set_cons_zero, List.set_cons_succ]
              clear zz
              repeat first | ((with_reducible refine tree_free ?_ ?_ ?_ ?_ (fun wk k1 => ?_) ?_); rotate_left 2; (rfl); (first | exact want_none rfl | exact want_some rfl rfl rfl rfl); (go_simp; first | exact OkX.val | (go_simp; first | exact OkX.val | (simp only [hw3, hw4]; exact OkX.val))); simp only [Act.put, List.setIfInBounds_toArray, List.set_cons_zero, List.set_cons_succ]) | ((with_reducible refine tree_skip ?_ ?_ ?_ ?_); rotate_left; (rfl); (exact want_not rfl rfl rfl rfl rfl); simp only [Act.put, List.setIfInBounds_toArray, List.set_cons_zero, List.set_cons_succ])
              ((with_reducible refine tree_step ?_ ?_ ?_ (fun wk k1 => ?_)); rotate_left; (rfl); (first | exact want_none rfl | exact want_some rfl rfl rfl rfl))
              have E2 := Lib.hid (E1.out.trans k1)
              have zz := bcel (ext_blk E2.out HVR.out) 1 (.int .i64 z2) rfl
              clear k1
              go_simp
              refine ⟨(FootL_way _).ext (Ext.refl _), ?_⟩
              try simp only [Act.put, List.setIfInBounds_toArray, List.set_cons_zero, List.set_cons_succ]
              clear zz
              repeat first | ((with_reducible refine tree_free ?_ ?_ ?_ ?_ (fun wk k1 => ?_) ?_); rotate_left 2; (rfl); (first | exact want_none rfl | exact want_some rfl rfl rfl rfl); (go_simp; first | exact OkX.val | (go_simp; first | exact OkX.val | (simp only [hw3, hw4]; exact OkX.val))); simp only [Act.put, List.setIfInBounds_toArray, List.set_cons_zero, List.set_cons_succ]) | ((with_reducible refine tree_skip ?_ ?_ ?_ ?_); rotate_left; (rfl); (exact want_not rfl rfl rfl rfl rfl); simp only [Act.put, List.setIfInBounds_toArray, List.set_cons_zero, List.set_cons_succ])
              have HV2 := Lib.hid (ext_blk E2.out HVR.out)
              ((with_reducible refine tree_step ?_ ?_ ?_ (fun wk k1 => ?_)); rotate_left; (rfl); (first | exact want_none rfl | exact want_some rfl rfl rfl rfl))
              have zz := bcel (ext_blk k1 HV2.out) 0 (.int .i64 z1) rfl
              have fz := bfre (ext_blk k1 HV2.out) 0
              have HV3 := Lib.hid (show (wk.setCell ⟨R, 0, none⟩ (.int .i64 s1)).heap[R]? = some (.cells #[.int .i64 s1, .int .i64 z2] 23 (0, 0)) by rw [bset (ext_blk k1 HV2.out)]; rfl)
              have HFX := Lib.hid ((FootL_way _).trans ((FootL_way _).trans (FootL.of_ext E2.out) (FootL.of_ext k1)) (FootL.setCell (fun i => i = R) wk R 0 (.int .i64 s1) rfl))
              clear k1
              go_simp
              refine ⟨FootL.setCell (fun i => i = R) wk R 0 _ rfl, ?_⟩
              clear zz fz
              have HF3 := Lib.hid HFX.out
              generalize wk.setCell ⟨R, 0, none⟩ (.int .i64 s1) = WA at HV3 HF3 HFX ⊢
              try simp only [Act.put, List.setIfInBounds_toArray, List.set_cons_zero, List.set_cons_succ]
              repeat first | ((with_reducible refine tree_free ?_ ?_ ?_ ?_ (fun wk k1 => ?_) ?_); rotate_left 2; (rfl); (first | exact want_none rfl | exact want_some rfl rfl rfl rfl); (go_simp; first | exact OkX.val); simp only [Act.put, List.setIfInBounds_toArray, List.set_cons_zero, List.set_cons_succ]) | ((with_reducible refine tree_skip ?_ ?_ ?_ ?_); rotate_left; (rfl); (exact want_not rfl rfl rfl rfl rfl); simp only [Act.put, List.setIfInBounds_toArray, List.set_cons_zero, List.set_cons_succ])
              ((with_reducible refine tree_step ?_ ?_ ?_ (fun wk k1 => ?_)); rotate_left; (rfl); (first | exact want_none rfl | exact want_some rfl rfl rfl rfl))
              have zz := bcel (ext_blk k1 HV3.out) 1 (.int .i64 z2) rfl
              have fz := bfre (ext_blk k1 HV3.out) 1
              have HV4 := Lib.hid (show (wk.setCell ⟨R, 1, none⟩ (.int .i64 s2)).heap[R]? = some (.cells #[.int .i64 s1, .int .i64 s2] 23 (0, 0)) by rw [bset (ext_blk k1 HV3.out)]; rfl)
              have HFY := Lib.hid ((FootL_way _).trans ((FootL_way _).trans HF3.out (FootL.of_ext k1)) (FootL.setCell (fun i => i = R) wk R 1 (.int .i64 s2) rfl))
              clear k1
              go_simp
              refine ⟨FootL.setCell (fun i => i = R) wk R 1 _ rfl, ?_⟩
              clear zz fz
              generalize wk.setCell ⟨R, 1, none⟩ (.int .i64 s2) = WB at HV4 HFY ⊢
              try simp only [Act.put, List.setIfInBounds_toArray, List.set_cons_zero, List.set_cons_succ]
              refine tree_done (fun W9 k9 => ?_)
              have HFZ := Lib.hid ((FootL_way _).trans HFY.out (FootL.of_ext k9))
              have HV9 := Lib.hid (ext_blk k9 HV4.out)
              have HQ9 := Lib.hid (HFZ.out.blk HQR.out (by have := HRQ.out; omega))
              have HO9 := Lib.hid (own_footL HOR.out HFZ.out (fun g hg hq => by have := (HOR.out.lt g hg).1; have := HUQ.out; have := HRQ.out; omega))
              have HX9 := Lib.hid (HFZ.out.ext HY.out (fun i hi => by have := HWR.out; omega))
              clear k9 hw1 hw2 hw3 hw4
            case' refine_6.refine_6.refine_8 =>

              have E1 := Lib.hid ((Ext.drew _).trans k1)
              have zz := bcel (ext_blk E1.out HVR.out) 1 (.int .i64 z2) rfl
              clear k1
              go_simp
              refine ⟨(FootL_way _).ext (Ext.refl _), ?_⟩
              try simp only [Act.put, List.setIfInBounds_toArray, List.set_cons_zero, List.set_cons_succ]
              clear zz
              repeat first | ((with_reducible refine tree_free ?_ ?_ ?_ ?_ (fun wk k1 => ?_) ?_); rotate_left 2; (rfl); (first | exact want_none rfl | exact want_some rfl rfl rfl rfl); (go_simp; first | exact OkX.val | (go_simp; first | exact OkX.val | (simp only [hw3, hw4]; exact OkX.val))); simp only [Act.put, List.setIfInBounds_toArray, List.set_cons_zero, List.set_cons_succ]) | ((with_reducible refine tree_skip ?_ ?_ ?_ ?_); rotate_left; (rfl); (exact want_not rfl rfl rfl rfl rfl); simp only [Act.put, List.setIfInBounds_toArray, List.set_cons_zero, List.set_cons_succ])
              ((with_reducible refine tree_step ?_ ?_ ?_ (fun wk k1 => ?_)); rotate_left; (rfl); (first | exact want_none rfl | exact want_some rfl rfl rfl rfl))
              have E2 := Lib.hid (E1.out.trans k1)
              have zz := bcel (ext_blk E2.out HVR.out) 0 (.int .i64 z1) rfl
              clear k1
              go_simp
              refine ⟨(FootL_way _).ext (Ext.refl _), ?_⟩
              try simp only [Act.put, List.setIfInBounds_toArray, List.set_cons_zero, List.set_cons_succ]
              clear zz
              repeat first | ((with_reducible refine tree_free ?_ ?_ ?_ ?_ (fun wk k1 => ?_) ?_); rotate_left 2; (rfl); (first | exact want_none rfl | exact want_some rfl rfl rfl rfl); (go_simp; first | exact OkX.val | (go_simp; first | exact OkX.val | (simp only [hw3, hw4]; exact OkX.val))); simp only [Act.put, List.setIfInBounds_toArray, List.set_cons_zero, List.set_cons_succ]) | ((with_reducible refine tree_skip ?_ ?_ ?_ ?_); rotate_left; (rfl); (exact want_not rfl rfl rfl rfl rfl); simp only [Act.put, List.setIfInBounds_toArray, List.set_cons_zero, List.set_cons_succ])
              have HV2 := Lib.hid (ext_blk E2.out HVR.out)
              ((with_reducible refine tree_step ?_ ?_ ?_ (fun wk k1 => ?_)); rotate_left; (rfl); (first | exact want_none rfl | exact want_some rfl rfl rfl rfl))
              have zz := bcel (ext_blk k1 HV2.out) 0 (.int .i64 z1) rfl
              have fz := bfre (ext_blk k1 HV2.out) 0
              have HV3 := Lib.hid (show (wk.setCell ⟨R, 0, none⟩ (.int .i64 s1)).heap[R]? = some (.cells #[.int .i64 s1, .int .i64 z2] 23 (0, 0)) by rw [bset (ext_blk k1 HV2.out)]; rfl)
              have HFX := Lib.hid ((FootL_way _).trans ((FootL_way _).trans (FootL.of_ext E2.out) (FootL.of_ext k1)) (FootL.setCell (fun i => i = R) wk R 0 (.int .i64 s1) rfl))
              clear k1
              go_simp
              refine ⟨FootL.setCell (fun i => i = R) wk R 0 _ rfl, ?_⟩
              clear zz fz
              have HF3 := Lib.hid HFX.out
              generalize wk.setCell ⟨R, 0, none⟩ (.int .i64 s1) = WA at HV3 HF3 HFX ⊢
              try simp only [Act.put, List.setIfInBounds_toArray, List.set_cons_zero, List.set_cons_succ]
              repeat first | ((with_reducible refine tree_free ?_ ?_ ?_ ?_ (fun wk k1 => ?_) ?_); rotate_left 2; (rfl); (first | exact want_none rfl | exact want_some rfl rfl rfl rfl); (go_simp; first | exact OkX.val); simp only [Act.put, List.setIfInBounds_toArray, List.set_cons_zero, List.set_cons_succ]) | ((with_reducible refine tree_skip ?_ ?_ ?_ ?_); rotate_left; (rfl); (exact want_not rfl rfl rfl rfl rfl); simp only [Act.put, List.setIfInBounds_toArray, List.set_cons_zero, List.set_cons_succ])
              ((with_reducible refine tree_step ?_ ?_ ?_ (fun wk k1 => ?_)); rotate_left; (rfl); (first | exact want_none rfl | exact want_some rfl rfl rfl rfl))
              have zz := bcel (ext_blk k1 HV3.out) 1 (.int .i64 z2) rfl
              have fz := bfre (ext_blk k1 HV3.out) 1
              have HV4 := Lib.hid (show (wk.setCell ⟨R, 1, none⟩ (.int .i64 s2)).heap[R]? = some (.cells #[.int .i64 s1, .int .i64 s2] 23 (0, 0)) by rw [bset (ext_blk k1 HV3.out)]; rfl)
              have HFY := Lib.hid ((FootL_way _).trans ((FootL_way _).trans HF3.out (FootL.of_ext k1)) (FootL.setCell (fun i => i = R) wk R 1 (.int .i64 s2) rfl))
              clear k1
              go_simp
              refine ⟨FootL.setCell (fun i => i = R) wk R 1 _ rfl, ?_⟩
              clear zz fz
              generalize wk.setCell ⟨R, 1, none⟩ (.int .i64 s2) = WB at HV4 HFY ⊢
              try simp only [Act.put, List.setIfInBounds_toArray, List.set_cons_zero, List.set_cons_succ]
              refine tree_done (fun W9 k9 => ?_)
              have HFZ := Lib.hid ((FootL_way _).trans HFY.out (FootL.of_ext k9))
              have HV9 := Lib.hid (ext_blk k9 HV4.out)
              have HQ9 := Lib.hid (HFZ.out.blk HQR.out (by have := HRQ.out; omega))
              have HO9 := Lib.hid (own_footL HOR.out HFZ.out (fun g hg hq => by have := (HOR.out.lt g hg).1; have := HUQ.out; have := HRQ.out; omega))
              have HX9 := Lib.hid (HFZ.out.ext HY.out (fun i hi => by have := HWR.out; omega))
              clear k9 hw1 hw2 hw3 hw4
            all_goals
              go_wp2
              go_roundw
              case rel => exact ⟨q + 1, by omega, by simp, by rw [HF.out]; exact HV9.out, HQ9.out, HO9.out, HX9.out⟩
              case measure => simp [intOf]; omega
          · have t1 : (dl == (y : Int)) = false := by simpa using hE
            have HF := Lib.hid (show pendB (y : Int) (bs.take (q + 1)) = (z1, z2) by rw [HSN.out, HZ.out]; unfold stepP; rw [if_neg hE])
            clear hE
            go_wp2
            go_roundw
            case rel => exact ⟨q + 1, by omega, by simp, by rw [HF.out]; exact HVR.out, HQR.out, HOR.out, HY.out⟩
            case measure => simp [intOf]; omega
        case neg =>
          obtain rfl : q = 10 := by omega
          have HT := Lib.hid (show pendA ds (y : Int) = (z1, z2) by
            have h := HZ.out
            rw [List.take_of_length_le (by rw [HBS.out.1]; exact Nat.le_refl _), pendB_is, ← HBS.out.2.2] at h
            exact h)
          have HPN := Lib.hid (fun W (x : Ext wr W) => Pending_any ds (.slice Aa n ca) (y : Int) W (hdA_of (own_ExtK HOR.out x) HNN.out) (by have := HL8.out; omega))
          rw [HT.out] at HPN
          simp only at HPN
          have tz1 : (z1 == z1) = true := by simp
          have tz2 : (z2 == z2) = true := by simp
          go_upto_region 21 with fail
          have HCC := Lib.hid (fun (w' : World) (h : Ext wr w') => (⟨h.cell (bcel HVR.out 0 (.int .i64 z1) rfl), h.cell (bcel HVR.out 1 (.int .i64 z2) rfl)⟩ : w'.cell? ⟨R, 0, none⟩ = some (.int .i64 z1) ∧ w'.cell? ⟨R, 1, none⟩ = some (.int .i64 z2)))
          refine wp_region_sched Ext ext_way [(0, true), (1, true), (2, true), (3, true), (4, true), (5, true)] (by kernel_rfl) (by kernel_rfl) (fun _ _ _ _ _ h => h) ?_
          repeat first | ((with_reducible refine sched_free ?_ ?_ ?_ ?_ (fun wk k1 => ?_) ?_); rotate_left 2; (rfl); (first | exact want_none rfl | exact want_some rfl rfl rfl rfl); (go_simp; first | exact OkX.val | (have hcc := HCC.out _ ((Ext.drew _).trans k1); go_simp; exact OkX.val) | ((with_reducible refine OkX.eqv (OkX.call (HPN.out _ ((Ext.drew _).trans k1))) ?_); exact rfl)); simp only [Act.put, List.setIfInBounds_toArray, List.set_cons_zero, List.set_cons_succ]) | ((with_reducible refine sched_skip ?_ ?_ ?_ ?_); rotate_left; (rfl); (exact want_not rfl rfl rfl rfl rfl); simp only [Act.put, List.setIfInBounds_toArray, List.set_cons_zero, List.set_cons_succ])
          refine sched_done (fun W9 k9 => ?_)
          have X9 := Lib.hid (HY.out.trans ((Ext.drew _).trans k9))
          clear HCC k9
          go_wp2
          go_ret
          exact ⟨rfl, X9.out⟩

theorem own : ownKnob Try.prog.godebug = none := by kernel_rfl
theorem laidOut : laidOutB Try.prog = true := by kernel_rfl
set_option maxRecDepth 100000 in
theorem lifted (os : Os) (started : os.Started) (H : Type) (enc : TypeId × Value → H) :
    ReturnsInHanded {} Try.checked os 8 .any (Rows.asksPendingSpec.pre6 enc Try.prog Try.f8 Rows.asksPendingRow.domain false) (Rows.asksPendingSpec.post enc Try.prog Try.f8 false true false false) := by
  refine returnsInHanded_of_change (C := Try.checked) own started (by kernel_rfl) Try.func8
    (ChangeSpec.witness6 (enc := enc) (C := Try.checked) false ⟨#[], #[.slice none 0 0, .int .i64 0], []⟩ 8 (by kernel_rfl) (by kernel_rfl) (by kernel_rfl) (by kernel_rfl)) ?_
  intro W base args ds gs before hval0 hW hcnd _
  have hval : ∀ (j : Nat) t v, Try.f8.params[j]? = some t → args[j]? = some v → Value.okWide Try.prog W .any base t v := hval0
  have hW' := hW
  obtain ⟨p, q, hA0, hV, rfl, hfz, hnd⟩ := hW
  have hA : DataW.TrodAll enc Try.prog W 0 (fun _ => true) true Try.f8.params.toList args.toList ds p := hA0
  rw [Try.params8] at hA hval
  obtain ⟨v0, vs0, d0, ds0, p0, q0, hargs, rfl, rfl, h0, r0⟩ := trodAll_cons hA
  obtain ⟨v1, vs1, d1, ds1, p1, q1, rfl, rfl, rfl, h1, r1⟩ := trodAll_cons r0
  obtain ⟨rfl, rfl, rfl⟩ := trodAll_nil r1
  obtain rfl : args = #[v0, v1] := by cases args; simp_all
  obtain ⟨rfl, rfl⟩ := trodVars_none hV
  have hlt0 : ∀ x ∈ p0, x.block < W.heap.size := fun x hx => by simpa using hW'.lt x (by simp [hx])
  obtain ⟨n0, f0, rd0⟩ := open_structs Try.underlying33 (by kernel_rfl) (by decide) askInts (hval 0 33 v0 rfl rfl) h0
  obtain ⟨a1, rfl, rfl, rfl, w1⟩ := open_int Try.underlying3 (hval 1 3 v1 rfl rfl) h1
  clear hA0 hval0
  refine (walk W v0 n0 f0 rd0 a1 w1).mono fun e W' ⟨he, bel⟩ => ?_
  subst he
  exact ⟨_, rfl, _, _, _, [], _, [], hW', trodAll_mk1 (shut_bool Try.underlying4 _), (trodAll_cons_mk (Below.trod laidOut (by kernel_rfl) (of_decide_eq_true (by kernel_rfl)) h0 bel hlt0) (trodAll_cons_mk (shut_int Try.underlying3 w1) trodAll_mk0)), rfl, bel.frame _, fun h => by cases h⟩

theorem over : Rows.asksPendingRow.holds Try.pinned (OpenSpec.ofChange Rows.asksPendingSpec) :=
  OpenClaim.holds_of_wide 8 Try.f8 rfl rfl rfl rfl rfl rfl rfl ⟨rfl, rfl, rfl, rfl, rfl⟩ rfl rfl rfl rfl rfl (by kernel_rfl) Try.func8 (by kernel_rfl)
    (of_decide_eq_true (by kernel_rfl)) (by unfold Func.isWrapper; first | (rw [if_pos (by decide +kernel)]; kernel_rfl) | (rw [if_neg (by decide +kernel)]; exact ⟨rfl, rfl⟩))
    (fun os started H enc _ => lifted os started H enc)

theorem proved : Rows.AsksPendingSaid := over
#print axioms proved
end Go.Proofs.Ytbocpkdnlpobkaa.AsksPending
