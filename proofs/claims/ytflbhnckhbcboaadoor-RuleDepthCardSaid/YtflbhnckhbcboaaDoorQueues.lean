/- rule.checkQueues. -/
import Derived.Test.YtflbhnckhbcboaaDoorPlace
namespace Go.Proofs.YtflbhnckhbcboaaDoor
open Go.RowKit

/-- The first error from k on, n steps. -/
def firstErr (f : Nat → Int) : Nat → Nat → Int
  | _, 0 => 0
  | k, n + 1 => if f k = 0 then firstErr f (k + 1) n else f k
def pathAt (ds : List QD) (k : Nat) : Tx := match ds[k]? with | none => [] | some q => q.path
theorem pathAt_eq {ds : List QD} {k : Nat} (h : k < ds.length) : ds[k].path = pathAt ds k := by
  unfold pathAt
  rw [List.getElem?_eq_getElem h]
def boundAt (ds : List QD) (n k : Nat) : Bool := match ds[k]? with | none => true | some q => boundB q.user q.caps n
theorem boundAt_eq {ds : List QD} {n k : Nat} (h : k < ds.length) : boundAt ds n k = boundB ds[k].user ds[k].caps n := by
  unfold boundAt
  rw [List.getElem?_eq_getElem h]
def oneC (ds : List QD) (n k : Nat) : Int := if placeC ds k (pathAt ds k) (pathAt ds (k - 1)) = 0 then if boundAt ds n k then 0 else 1 else placeC ds k (pathAt ds k) (pathAt ds (k - 1))
def queuesC (ds : List QD) (n : Nat) : Int := firstErr (oneC ds n) 0 ds.length

/-- The parts of all queues lie at the heads of blocks. -/
def CapsQ (w : World) (v : Value) (ds : List QD) : Prop := ∀ g N c, v = .slice (some ⟨g, 0, none⟩) N c → ∀ k (h : k < ds.length), ∃ vc, w.cell? ⟨g, k * 3 + 1, none⟩ = some vc ∧ CapsV w vc ds[k].caps
theorem CapsQ.ext {w w' : World} {v : Value} {ds : List QD} (h : CapsQ w v ds) (x : Ext w w') : CapsQ w' v ds := fun g N c e k hk => by
  obtain ⟨vc, h1, h2⟩ := h g N c e k hk
  exact ⟨vc, x.cell h1, h2.ext x⟩

set_option maxRecDepth 100000 in
set_option maxHeartbeats 1600000 in
theorem checkQueues_any (ds : List QD) (Al : Option Addr) (n cl : Nat) (vq : Value) (w : World) (hq : QAt w vq ds) (hcq : CapsQ w vq ds) (hlen : ds.length ≤ 1000) (hps : ∀ q ∈ ds, q.path.length ≤ 1000000000) (hcl : ∀ q ∈ ds, q.caps.length ≤ 1000) (hn : 1 ≤ n) (hn2 : n ≤ 1000)
    (hm : ∃ m, w.cell? ⟨0, 0, none⟩ = some (.int .i64 m)) :
    Calls Tryd.prog 21 #[.agg #[.slice Al n cl, vq]] w fun e w' => e = .returned (.int .i64 (queuesC ds n)) ∧ Ext w w' := by
  obtain ⟨r, hr⟩ : ∃ r, r = queuesC ds n := ⟨_, rfl⟩
  rw [← hr]
  have HR := Lib.hid hr
  have HQ := Lib.hid hq
  have HCQ := Lib.hid hcq
  have HM := Lib.hid hm
  obtain ⟨A, N, c, rfl, hN, hc1, hc2, hcell⟩ := hq.open
  have HC := Lib.hid hcell
  have HN := Lib.hid hN
  have hN1 : N ≤ 1000 := by omega
  clear hcell hN hq hr hcq hm
  go_enter Tryd.func21, Tryd.ntmps21
  go_wp2
  refine at_world (fun W0 hW0 => ?_)
  have X0 := Lib.hid (show Ext w W0 by rw [hW0]; exact ext_alloc _ _)
  have B0 := Lib.hid (show W0.cell? ⟨w.heap.size, 0, none⟩ = some (.slice Al n cl) by rw [hW0]; simp [go_sem])
  have B1 := Lib.hid (show W0.cell? ⟨w.heap.size, 1, none⟩ = some (.slice A N c) by rw [hW0]; simp [go_sem])
  clear hW0
  go_loopw [9] (fun i wr => ∃ (k : Nat), k ≤ N ∧ i = .int .i64 k ∧ r = firstErr (oneC ds n) k (N - k) ∧ Ext W0 wr) (fun i _ => N - (intOf i).toNat)
  case atStart => exact ⟨0, by omega, rfl, by rw [HR.out, queuesC, HN.out]; rfl, Ext.refl _⟩
  case round =>
    obtain ⟨k, hkN, rfl, hno, hx⟩ := hrel
    have HX := Lib.hid hx
    have HNO := Lib.hid hno
    clear hx hno
    have b0 := HX.out.cell B0.out
    have b1 := HX.out.cell B1.out
    have i0 : (0 : Int) ≤ (k : Int) := by omega
    by_cases hlt : k < N
    · have i1 : (k : Int) < (N : Int) := by omega
      have hkl : k < ds.length := by have := HN.out; omega
      have HST := Lib.hid (show r = if oneC ds n k = 0 then firstErr (oneC ds n) (k + 1) (N - (k + 1)) else oneC ds n k by
        rw [HNO.out, show N - k = (N - (k + 1)) + 1 by omega]; rfl)
      obtain ⟨g, rfl, hg, hqc⟩ := HC.out (by omega)
      obtain ⟨P, Ac, cc, h1, h2, h3, h4, h5⟩ := (hqc k hkl).ex
      obtain ⟨vc, hv1, hv2⟩ := HCQ.out g N c rfl k hkl
      rw [h2] at hv1
      injection hv1 with hv1
      subst hv1
      have c0 := (X0.out.trans HX.out).cell h1
      have c1 := (X0.out.trans HX.out).cell h2
      have c2 := (X0.out.trans HX.out).cell h3
      have HPP := Lib.hid h4
      have HV := Lib.hid hv2
      have hcl1 := hcl _ (List.getElem_mem hkl)
      have HBA := Lib.hid (boundAt_eq (n := n) hkl)
      have HPA := Lib.hid (pathAt_eq hkl)
      have HPB := Lib.hid (show 0 < k → ds[k - 1].path = pathAt ds (k - 1) from fun _ => pathAt_eq (by omega))
      obtain ⟨pc, hpc⟩ : ∃ pc, pc = placeC ds k (pathAt ds k) (pathAt ds (k - 1)) := ⟨_, rfl⟩
      obtain ⟨cs, hcs⟩ : ∃ cs, cs = ds[k].caps := ⟨_, rfl⟩
      obtain ⟨uu, huu⟩ : ∃ uu, uu = ds[k].user := ⟨_, rfl⟩
      have HON := Lib.hid (show oneC ds n k = if pc = 0 then if boundB uu cs n then 0 else 1 else pc by rw [oneC, HBA.out, hpc, hcs, huu])
      rw [← hcs] at c1 HV hcl1
      rw [← huu] at c2
      have HCP := Lib.hid (fun (w' : World) (x : Ext w w') => checkPlace_any ds (.slice Al n cl) (.slice (some ⟨g, 0, none⟩) N c) k (pathAt ds k) (pathAt ds (k - 1)) w' (HQ.out.ext x) hlen hps hkl HPA.out HPB.out (by obtain ⟨m, h⟩ := HM.out; exact ⟨m, x.cell h⟩))
      rw [← hpc] at HCP
      obtain ⟨ncs, hncs⟩ : ∃ ncs, ncs = cs.length := ⟨_, rfl⟩
      have HBD := Lib.hid (fun (w' : World) (x : Ext w w') => bounded_any P _ uu cs n w' (HV.out.ext x) hcl1 hn hn2)
      rw [← hncs] at c1 HBD
      have a0 := (ext_alloc wr (.cells #[.string P, .slice Ac ncs cc, .int .i64 uu] 32)).cell b0
      have a1 := (ext_alloc wr (.cells #[.string P, .slice Ac ncs cc, .int .i64 uu] 32)).cell b1
      clear h1 h2 h3 h4 h5 hv2 hqc hpc hcs huu HBA HPA HPB hncs
      go_wp2_with fail
      (with_reducible refine (HCP.out _ (X0.out.trans (HX.out.trans (ext_alloc _ _)))).mono ?_)
      rintro e w2 ⟨rfl, hx2⟩
      have X2 := Lib.hid (HX.out.trans ((ext_alloc wr _).trans hx2))
      have d0 : w2.cell? ⟨wr.heap.size, 0, none⟩ = some (.string P) := hx2.cell (by simp [go_sem])
      have d1 : w2.cell? ⟨wr.heap.size, 1, none⟩ = some (.slice Ac ncs cc) := hx2.cell (by simp [go_sem])
      have d2 : w2.cell? ⟨wr.heap.size, 2, none⟩ = some (.int .i64 uu) := hx2.cell (by simp [go_sem])
      have e0 := X2.out.cell B0.out
      clear hx2
      by_cases hz : pc = 0
      · subst hz
        go_wp2_with fail
        (with_reducible refine (HBD.out _ (X0.out.trans X2.out)).mono ?_)
        rintro e w3 ⟨rfl, hx3⟩
        have X3 := Lib.hid (X2.out.trans hx3)
        clear hx3
        cases hb : boundB uu cs n
        · have HF := Lib.hid (show r = 1 by rw [HST.out, HON.out, hb]; rfl)
          clear hb
          go_wp2
          go_ret
          rw [HF.out]
          exact ⟨rfl, X0.out.trans X3.out⟩
        · have HF := Lib.hid (show r = firstErr (oneC ds n) (k + 1) (N - (k + 1)) by rw [HST.out, HON.out, hb]; rfl)
          clear hb
          go_wp2
          go_roundw
          case rel => exact ⟨k + 1, by omega, by simp, HF.out, X3.out⟩
          case measure => simp [intOf]; omega
      · have HF := Lib.hid (show r = pc by rw [HST.out, HON.out, if_neg (by rw [if_neg hz]; exact hz), if_neg hz])
        have z1 : (pc == 0) = false := by simpa using hz
        clear hz
        go_wp2
        go_ret
        rw [HF.out]
        exact ⟨rfl, X0.out.trans X2.out⟩
    · have i1 : ¬ (k : Int) < (N : Int) := by omega
      have HF := Lib.hid (show r = 0 by rw [HNO.out, show N - k = 0 by omega]; rfl)
      go_wp2
      go_ret
      rw [HF.out]
      exact ⟨rfl, X0.out.trans HX.out⟩
end Go.Proofs.YtflbhnckhbcboaaDoor
