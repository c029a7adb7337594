/- rule.bounded. -/
import Derived.Test.YtflbhnckhbcboaaDoorCapF
namespace Go.Proofs.YtflbhnckhbcboaaDoor
open Go.RowKit

/-- Parts of a queue that lie, if there are any, at the head of a block. -/
def CapsV (w : World) (v : Value) (cs : List (Int × Int)) : Prop := ∃ A c, v = .slice A cs.length c ∧ (0 < cs.length → ∃ g, A = some ⟨g, 0, none⟩ ∧ CapsAt w g cs)
theorem CapsV.ext {w w' : World} {v : Value} {cs : List (Int × Int)} (h : CapsV w v cs) (x : Ext w w') : CapsV w' v cs := by
  obtain ⟨A, c, rfl, h1⟩ := h
  refine ⟨A, c, rfl, fun hn => ?_⟩
  obtain ⟨g, rfl, hc⟩ := h1 hn
  exact ⟨g, rfl, hc.ext x⟩
def boundB (u : Int) (cs : List (Int × Int)) (n : Nat) : Bool := decide (1 ≤ u) && decide (u ≤ 1000000) && decide (cs.length = n) && !cs.any outB

set_option maxRecDepth 100000 in
theorem bounded_any (P : ByteArray) (vc : Value) (u : Int) (cs : List (Int × Int)) (n : Nat) (w : World) (hv : CapsV w vc cs) (hl : cs.length ≤ 1000) (hn : 1 ≤ n) (hn2 : n ≤ 1000) :
    Calls Tryd.prog 40 #[.agg #[.string P, vc, .int .i64 u], .int .i64 n] w fun e w' => e = .returned (.bool (boundB u cs n)) ∧ Ext w w' := by
  obtain ⟨r, hr⟩ : ∃ r, r = boundB u cs n := ⟨_, rfl⟩
  rw [← hr]
  have HR := Lib.hid hr
  clear hr
  obtain ⟨A, c, rfl, hA⟩ := hv
  by_cases h1 : 1 ≤ u
  · by_cases h2 : u ≤ 1000000
    · by_cases h3 : cs.length = n
      · obtain ⟨g, rfl, hc⟩ := hA (by omega)
        obtain ⟨N, hN⟩ : ∃ N, N = cs.length := ⟨_, rfl⟩
        have HR2 := Lib.hid (show r = !cs.any outB by rw [HR.out]; simp [boundB, h1, h2, h3])
        have h3' : (N : Int) = (n : Int) := by omega
        have HC := Lib.hid (fun (w' : World) (x : Ext w w') => ContainsOutside_any cs g c w' (hc.ext x) hl (by omega))
        rw [← hN] at HC ⊢
        clear h3 hA hN hc HR
        go_enter Tryd.func40, Tryd.ntmps40
        go_wp2_with fail
        (with_reducible refine (HC.out _ (ext_alloc _ _)).mono ?_)
        rintro e w1 ⟨rfl, hx⟩
        have X1 := Lib.hid hx
        clear hx
        cases hany : cs.any outB
        all_goals (
          have HR3 := Lib.hid (HR2.out.trans (congrArg not hany))
          clear hany
          go_wp2
          go_ret
          rw [HR3.out]
          exact ⟨rfl, (ext_alloc _ _).trans X1.out⟩)
      · have HR2 := Lib.hid (show r = false by rw [HR.out]; simp [boundB, h3])
        have h3' : ¬ (cs.length : Int) = (n : Int) := by omega
        obtain ⟨N, hN⟩ : ∃ N, N = cs.length := ⟨_, rfl⟩
        rw [← hN] at h3' ⊢
        clear hA h3 hN HR
        go_enter Tryd.func40, Tryd.ntmps40
        go_wp2
        go_ret
        rw [HR2.out]
        exact ⟨rfl, ext_alloc _ _⟩
    · have HR2 := Lib.hid (show r = false by rw [HR.out]; simp [boundB, h2])
      clear hA HR
      go_enter Tryd.func40, Tryd.ntmps40
      go_wp2
      go_ret
      rw [HR2.out]
      exact ⟨rfl, ext_alloc _ _⟩
  · have HR2 := Lib.hid (show r = false by rw [HR.out]; simp [boundB, h1])
    clear hA HR
    go_enter Tryd.func40, Tryd.ntmps40
    go_wp2
    go_ret
    rw [HR2.out]
    exact ⟨rfl, ext_alloc _ _⟩
end Go.Proofs.YtflbhnckhbcboaaDoor
