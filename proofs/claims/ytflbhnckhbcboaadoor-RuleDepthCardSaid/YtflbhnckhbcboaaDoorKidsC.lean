/- rule.checkKids, as far as sharesWhole's contract is given. -/
import Derived.Test.YtflbhnckhbcboaaDoorLabsC
import Derived.Test.YtflbhnckhbcboaaDoorRoot
namespace Go.Proofs.YtflbhnckhbcboaaDoor
open Go.RowKit

/-- The sum of Least at a label, of those whose path above is p. -/
def sumL (p : Tx) (label : Nat) (l : List QD) : Int := (l.filter fun q => decide (above q.path = p)).foldl (fun s q => s + (match q.caps[label]? with | none => 0 | some c => c.1)) 0
def wholeC (ds : List QD) (label : Nat) : Bool := (ds.drop 1).all fun q => decide (sumL (above q.path) label (ds.drop 1) = 10000)
def kidsC (ds : List QD) (n : Nat) : Int := firstErr (fun k => if wholeC ds k then 0 else 13) 0 n

/-- What sharesWhole is to answer. -/
def Shares (ds : List QD) (vl vq : Value) (n : Nat) (w : World) : Prop := ∀ (label : Nat), label < n → ∀ W, Ext w W → Calls Tryd.prog 43 #[.agg #[vl, vq], .int .i64 label] W fun e w' => e = .returned (.bool (wholeC ds label)) ∧ Ext W w'

theorem checkKids_any (ds : List QD) (Al : Option Addr) (n cl : Nat) (vq : Value) (w : World) (hn : n ≤ 1000) (hs : Shares ds (.slice Al n cl) vq n w) :
    Calls Tryd.prog 23 #[.agg #[.slice Al n cl, vq]] w fun e w' => e = .returned (.int .i64 (kidsC ds n)) ∧ Ext w w' := by
  obtain ⟨r, hr⟩ : ∃ r, r = kidsC ds n := ⟨_, rfl⟩
  rw [← hr]
  have HR := Lib.hid hr
  have HS := Lib.hid hs
  clear hr hs
  go_enter Tryd.func23, Tryd.ntmps23
  go_wp2
  refine at_world (fun W0 hW0 => ?_)
  have X0 := Lib.hid (show Ext w W0 by rw [hW0]; exact ext_alloc _ _)
  have B0 := Lib.hid (show W0.cell? ⟨w.heap.size, 0, none⟩ = some (.slice Al n cl) by rw [hW0]; simp [go_sem])
  have B1 := Lib.hid (show W0.cell? ⟨w.heap.size, 1, none⟩ = some vq by rw [hW0]; simp [go_sem])
  clear hW0
  go_loopw [7] (fun i wr => ∃ (k : Nat), k ≤ n ∧ i = .int .i64 k ∧ r = firstErr (fun k => if wholeC ds k then 0 else 13) k (n - k) ∧ Ext W0 wr) (fun i _ => n - (intOf i).toNat)
  case atStart => exact ⟨0, by omega, rfl, by rw [HR.out, kidsC]; rfl, Ext.refl _⟩
  case round =>
    obtain ⟨k, hkN, rfl, hno, hx⟩ := hrel
    have HX := Lib.hid hx
    have HNO := Lib.hid hno
    clear hx hno
    have b0 := HX.out.cell B0.out
    have b1 := HX.out.cell B1.out
    have i0 : (0 : Int) ≤ (k : Int) := by omega
    by_cases hlt : k < n
    · have i1 : (k : Int) < (n : Int) := by omega
      have HST := Lib.hid (show r = if (if wholeC ds k then (0 : Int) else 13) = 0 then firstErr (fun k => if wholeC ds k then 0 else 13) (k + 1) (n - (k + 1)) else (if wholeC ds k then 0 else 13) by
        rw [HNO.out, show n - k = (n - (k + 1)) + 1 by omega]; rfl)
      have HC := Lib.hid (HS.out k hlt _ (X0.out.trans HX.out))
      go_wp2_with fail
      (with_reducible refine HC.out.mono ?_)
      rintro e w2 ⟨rfl, hx2⟩
      have X2 := Lib.hid (HX.out.trans hx2)
      clear hx2
      cases hb : wholeC ds k
      · have HF := Lib.hid (show r = 13 by rw [HST.out, hb]; rfl)
        clear hb
        go_wp2
        go_ret
        rw [HF.out]
        exact ⟨rfl, X0.out.trans X2.out⟩
      · have HF := Lib.hid (show r = firstErr (fun k => if wholeC ds k then 0 else 13) (k + 1) (n - (k + 1)) by rw [HST.out, hb]; rfl)
        clear hb
        go_wp2
        go_roundw
        case rel => exact ⟨k + 1, by omega, by simp, HF.out, X2.out⟩
        case measure => simp [intOf]; omega
    · have i1 : ¬ (k : Int) < (n : Int) := by omega
      have HF := Lib.hid (show r = 0 by rw [HNO.out, show n - k = 0 by omega]; rfl)
      go_wp2
      go_ret
      rw [HF.out]
      exact ⟨rfl, X0.out.trans HX.out⟩
end Go.Proofs.YtflbhnckhbcboaaDoor
