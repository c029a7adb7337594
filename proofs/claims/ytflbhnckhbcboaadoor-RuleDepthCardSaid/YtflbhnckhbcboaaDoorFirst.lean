/- rule.checkFirst. -/
import Derived.Test.YtflbhnckhbcboaaDoorBounded
import Derived.Test.YtflbhnckhbcboaaDoorIndex
namespace Go.Proofs.YtflbhnckhbcboaaDoor
open Go.RowKit

def firstC (ds : List QD) : Int := match ds with
  | [] => 12
  | q :: _ => if q.path = sRoot then 0 else 12
theorem checkFirst_any (ds : List QD) (vl vq : Value) (w : World) (hq : QAt w vq ds) :
    Calls Tryd.prog 20 #[.agg #[vl, vq]] w fun e w' => e = .returned (.int .i64 (firstC ds)) ∧ Ext w w' := by
  obtain ⟨A, N, c, rfl, hN, hc1, hc2, hcell⟩ := hq.open
  clear hq
  cases ds with
  | nil =>
    obtain rfl : N = 0 := hN
    clear hcell
    go_enter Tryd.func20, Tryd.ntmps20
    go_wp2
    go_ret
    exact ⟨rfl, ext_alloc _ _⟩
  | cons q l =>
    have hp : 0 < N := by rw [hN]; simp
    obtain ⟨g, rfl, hg, hqc⟩ := hcell hp
    obtain ⟨P, Ac, cc, h1, h2, h3, h4, h5⟩ := (hqc 0 (by simp)).ex
    have i1 : (0 : Int) < (N : Int) := by omega
    have i2 : ¬ (N : Int) = 0 := by omega
    have k0 : (w.alloc (.cells #[vl, .slice (some ⟨g, 0, none⟩) N c] 27)).cell? ⟨g, 0, none⟩ = some (.string P) := (ext_alloc w _).cell h1
    have HPP := Lib.hid (show P.data.toList = q.path from h4)
    clear hqc h1 h2 h3 h4 h5 hcell hN
    by_cases hr : P.data.toList = sRoot
    · have q1 : P.toList = [114, 111, 111, 116] := by rw [ByteArray.toList_eq, hr]; rfl
      have HF := Lib.hid (show firstC (q :: l) = 0 by simp only [firstC]; rw [← HPP.out, if_pos hr])
      clear hr
      go_enter Tryd.func20, Tryd.ntmps20
      go_wp2
      go_ret
      rw [HF.out]
      exact ⟨rfl, ext_alloc _ _⟩
    · have q1 : (P.toList == [114, 111, 111, 116]) = false := by
        rw [beq_eq_false_iff_ne, ByteArray.toList_eq]
        exact fun e => hr e
      have HF := Lib.hid (show firstC (q :: l) = 12 by simp only [firstC]; rw [← HPP.out, if_neg hr])
      clear hr
      go_enter Tryd.func20, Tryd.ntmps20
      go_wp2
      go_ret
      rw [HF.out]
      exact ⟨rfl, ext_alloc _ _⟩
end Go.Proofs.YtflbhnckhbcboaaDoor
