/- rule.above, strings.Clone. -/
import Derived.Test.YtflbhnckhbcboaaNameP
import Derived.Test.YtflbhnckhbcboaaRdK
import Derived.Test.YtflbhnckhbcboaaShelf
import Derived.Laws.RangeAny
import Derived.Deep.QuietTactic
import Derived.BigQuiet
import Derived.WalkSmall
namespace Go.Proofs.Ytflbhnckhbcboaa
open Go.RowKit

theorem above_any (S : ByteArray) (w : World) (hs : S.size < 4611686018427387904) : Calls Try.prog 26 #[.string S] w fun e w' => ∃ T : ByteArray, e = .returned (.string T) ∧ T.data.toList = above S.data.toList ∧ T.size ≤ S.size ∧ w = w' := by
  have hcon := fun W => Try.strings_LastIndex_one S ⟨#[46]⟩ rfl hs W
  have hcon : ∀ W, Calls Try.prog 31 #[.string S, .string ⟨#[46]⟩] W fun e w' => e = .returned (.int .i64 (Lib.lastIndexByte S 46)) ∧ w' = W := hcon
  rcases lastDot S with ⟨h1, h2⟩ | ⟨i, hi, h1, h2⟩
  · have H2 := Lib.hid h2
    rw [h1] at hcon
    clear h1 h2
    go_enter Try.func26, Try.ntmps26
    go_wp2_with (go_at_call 31; refine (hcon _).mono ?_; rintro e w' ⟨rfl, rfl⟩)
    go_ret
    refine ⟨_, rfl, ?_, ?_, rfl⟩
    · rw [ext_toL, H2.out]; simp; exact .inl (by decide)
    · rw [ba_size, ext_toL]; simp; exact Nat.min_le_right _ _
  · have H2 := Lib.hid h2
    rw [h1] at hcon
    have hmx : (if (i : Int) > 0 then (i : Int) else 0) = (i : Int) := by split <;> omega
    have hmx' : (if (0 : Int) < (i : Int) then (i : Int) else 0) = (i : Int) := by split <;> omega
    have i0 : (0 : Int) ≤ (i : Int) := by omega
    have i1 : (i : Int) ≤ (S.size : Int) := by omega
    clear h1 h2
    go_enter Try.func26, Try.ntmps26
    go_wp2_with (go_at_call 31; refine (hcon _).mono ?_; rintro e w' ⟨rfl, rfl⟩)
    go_ret
    refine ⟨_, rfl, ?_, ?_, rfl⟩
    · rw [ext_toL, H2.out]; simp
    · rw [ba_size, ext_toL, ba_size]; simp; omega
theorem Clone_any (S : ByteArray) (w : World) (hs : S.size ≤ 1000000000000) : Calls Try.prog 23 #[.string S] w fun e w' => e = .returned (.string S) ∧ Ext w w' := by
  have hcon := fun W => Try.stringslite_Clone S W (by omega)
  go_enter Try.func23, Try.ntmps23
  go_wp2_with (go_at_call 30; refine (hcon _).mono ?_; rintro e w' ⟨rfl, hx⟩)
  go_ret
  exact ⟨rfl, hx⟩

end Go.Proofs.Ytflbhnckhbcboaa
