/- conf.sameQueue: two queues of the call's own are told apart; what it asks of slices.Equal at []api.Cap is a premise here (EqCapOk: the shelf's eqCap gives it). -/
import Derived.Test.YtigfoghkndoakaaDoorMakeP
import Derived.Deep.CutRange
import Derived.Deep.DeepCutAuto
import Derived.Deep.CutBlock
namespace Go.Proofs.YtigfoghkndoakaaDoor
open Go.RowKit

def EqCapOk : Prop := ∀ (B1 B2 : Nat) (v1 v2 : Value) (n1 n2 : Nat) (c1 c2 : List (Int × Int)) (w : World), n1 = c1.length → n2 = c2.length → w.ownsRow B1 38 2 v1 n1 (capCells c1) → w.ownsRow B2 38 2 v2 n2 (capCells c2) →
  Calls Tryd.prog 38 #[v1, v2] w fun e w' => e = .returned (.bool (decide (c1 = c2))) ∧ Ext w w'
def eqQ (d1 d2 : QD) : Bool := decide (d1.path = d2.path) && decide (d1.user = d2.user) && decide (d1.caps = d2.caps)
theorem eqQ_iff (d1 d2 : QD) : eqQ d1 d2 = true ↔ d1 = d2 := by
  cases d1; cases d2
  simp [eqQ]
  constructor
  · rintro ⟨⟨h1, h2⟩, h3⟩; exact ⟨h1, h3, h2⟩
  · rintro ⟨h1, h3, h2⟩; exact ⟨⟨h1, h2⟩, h3⟩
def SamePost (b : Bool) (w : World) (e : Ending) (w' : World) : Prop := e = .returned (.bool b) ∧ Ext w w'

set_option maxRecDepth 100000 in
set_option maxHeartbeats 3200000 in
theorem sameQueue_any (HE : EqCapOk) (B1 B2 : Nat) (q1 q2 : QC) (d1 d2 : QD) (w : World) (h1 : OwnQ1 w B1 q1 d1) (h2 : OwnQ1 w B2 q2 d2) :
    Calls Tryd.prog 19 #[.agg #[.string q1.p, .slice q1.A q1.n q1.c, .int .i64 q1.u], .agg #[.string q2.p, .slice q2.A q2.n q2.c, .int .i64 q2.u]] w (SamePost (eqQ d1 d2) w) := by
  obtain ⟨P1, A1, n1, c1, u1⟩ := q1
  obtain ⟨P2, A2, n2, c2, u2⟩ := q2
  obtain ⟨hp1, hu1, hn1, ho1⟩ := h1
  obtain ⟨hp2, hu2, hn2, ho2⟩ := h2
  dsimp only at *
  have HN1 := Lib.hid hn1
  have HN2 := Lib.hid hn2
  have HO1 := Lib.hid ho1
  have HO2 := Lib.hid ho2
  have HP1 := Lib.hid hp1
  have HP2 := Lib.hid hp2
  have HU1 := Lib.hid hu1
  have HU2 := Lib.hid hu2
  clear hp1 hp2 hu1 hu2 hn1 hn2 ho1 ho2
  go_enter Tryd.func19, Tryd.ntmps19
  go_upto_region 1 with fail
  obtain ⟨W2, hW2⟩ : ∃ W2, W2 = (w.alloc (.cells #[.string P1, .slice A1 n1 c1, .int .i64 u1] 36)).alloc (.cells #[.string P2, .slice A2 n2 c2, .int .i64 u2] 36) := ⟨_, rfl⟩
  have HX := Lib.hid (show Ext w W2 by rw [hW2]; exact (ext_alloc _ _).trans (ext_alloc _ _))
  have HB1 := Lib.hid (show W2.heap[w.heap.size]? = some (.cells #[.string P1, .slice A1 n1 c1, .int .i64 u1] 36 (0, 0)) by rw [hW2]; exact (Below.block (ext_alloc _ _) _ (by simp)).trans (heap_alloc_new w _))
  have HB2 := Lib.hid (show W2.heap[w.heap.size + 1]? = some (.cells #[.string P2, .slice A2 n2 c2, .int .i64 u2] 36 (0, 0)) by
    rw [hW2]
    have h := heap_alloc_new (w.alloc (.cells #[.string P1, .slice A1 n1 c1, .int .i64 u1] 36)) (.cells #[.string P2, .slice A2 n2 c2, .int .i64 u2] 36)
    simpa using h)
  rw [← hW2]
  clear hW2
  have x0 : W2.cell? ⟨w.heap.size, 0, none⟩ = some (.string P1) := by rw [cell_of_row W2 _ 0 _ _ (0, 0) HB1.out]; rfl
  have x1 : W2.cell? ⟨w.heap.size, 1, none⟩ = some (.slice A1 n1 c1) := by rw [cell_of_row W2 _ 1 _ _ (0, 0) HB1.out]; rfl
  have x2 : W2.cell? ⟨w.heap.size, 2, none⟩ = some (.int .i64 u1) := by rw [cell_of_row W2 _ 2 _ _ (0, 0) HB1.out]; rfl
  have y0 : W2.cell? ⟨w.heap.size + 1, 0, none⟩ = some (.string P2) := by rw [cell_of_row W2 _ 0 _ _ (0, 0) HB2.out]; rfl
  have y1 : W2.cell? ⟨w.heap.size + 1, 1, none⟩ = some (.slice A2 n2 c2) := by rw [cell_of_row W2 _ 1 _ _ (0, 0) HB2.out]; rfl
  have y2 : W2.cell? ⟨w.heap.size + 1, 2, none⟩ = some (.int .i64 u2) := by rw [cell_of_row W2 _ 2 _ _ (0, 0) HB2.out]; rfl
  by_cases hp : P1 = P2
  · have hpe : (P1.toList == P2.toList) = true := by rw [hp]; simp
    have hd : d1.path = d2.path := by rw [← HP1.out, ← HP2.out, hp]
    clear hp
    by_cases hu : u1 = u2
    · have hue : (u1 == u2) = true := by rw [hu]; simp
      have hdu : d1.user = d2.user := by rw [← HU1.out, ← HU2.out, hu]
      have hb := Lib.hid (show eqQ d1 d2 = decide (d1.caps = d2.caps) by unfold eqQ; simp [hd, hdu])
      clear hd hdu hu
      go_wp2_with fail
      unfold EqCapOk at HE
      (with_reducible refine (HE B1 B2 _ _ _ _ d1.caps d2.caps _ HN1.out HN2.out (own_ExtK HO1.out HX.out) (own_ExtK HO2.out HX.out)).mono ?_)
      rintro e w5 ⟨rfl, hx5⟩
      have HX5 := Lib.hid (HX.out.trans hx5)
      clear hx5
      go_wp2
      go_ret
      exact ⟨by rw [hb.out]; rfl, HX5.out⟩
    · have hue : (u1 == u2) = false := by simpa using hu
      have hb : eqQ d1 d2 = false := by unfold eqQ; rw [show decide (d1.user = d2.user) = false from decide_eq_false (fun h => hu (by rw [HU1.out, HU2.out, h]))]; simp
      have HE0 := Lib.hid hb
      clear hb hd
      go_wp2
      go_ret
      exact ⟨by rw [HE0.out]; rfl, HX.out⟩
  · have hpe := ba_ne hp
    have hb : eqQ d1 d2 = false := by
      unfold eqQ
      rw [show decide (d1.path = d2.path) = false from decide_eq_false (fun h => hp (by
        have h1 : P1.data.toList = P2.data.toList := by rw [HP1.out, HP2.out, h]
        cases P1; cases P2; simp at h1; rw [h1]))]
      simp
    have HE0 := Lib.hid hb
    clear hb
    go_wp2
    go_ret
    exact ⟨by rw [HE0.out]; rfl, HX.out⟩
end Go.Proofs.YtigfoghkndoakaaDoor
