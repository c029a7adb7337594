/- rule.Name, rule.above, rule.Up. -/
import Derived.Test.YtflbhnckhbcboaaDoorNameP
import Derived.Test.YtflbhnckhbcboaaDoorRdK
import Derived.Test.YtflbhnckhbcboaaDoorShelf
import Derived.Laws.RangeAny
import Derived.Deep.QuietTactic
import Derived.BigQuiet
import Derived.WalkSmall
namespace Go.Proofs.YtflbhnckhbcboaaDoor
open Go.RowKit

theorem inName_any (r : Int) (w : World) : Calls Tryd.prog 69 #[.int .i32 r] w fun e w' => e = .returned (.bool (inNameR r)) ∧ w = w' := by
  unfold inNameR
  by_cases h1 : 97 ≤ r <;> by_cases h2 : r ≤ 122 <;> by_cases h3 : 48 ≤ r <;> by_cases h4 : r ≤ 57 <;> by_cases h5 : r = 45
  all_goals first | (exfalso; omega) | skip
  all_goals (go_enter Tryd.func69, Tryd.ntmps69; go_wp2; go_ret; exact ⟨by (simp [h1, h2, h3, h4, h5]; try (rw [Bool.eq_iff_iff]; simp; omega)), rfl⟩)

theorem ext_iter (w : World) (s : ByteArray) (p : Nat) : Ext w (w.iter s p) := ext_alloc w _

set_option maxHeartbeats 1600000 in
theorem Name_any (S : ByteArray) (w : World) : Calls Tryd.prog 57 #[.string S] w fun e w' => e = .returned (.bool (nameB S.data.toList)) ∧ Ext w w' := by
  by_cases h0 : S = ⟨#[]⟩
  · have HN := Lib.hid (name_len0 (ba_nil.1 h0))
    have hE : S.toList = [] := by rw [h0, ByteArray.toList_eq]
    clear h0
    go_enter Tryd.func57, Tryd.ntmps57
    go_wp2
    go_ret
    rw [HN.out]
    exact ⟨rfl, Ext.refl _⟩
  have hE : ¬ S.toList = [] := by rw [ByteArray.toList_eq]; exact fun h => h0 (ba_nil.2 h)
  have hE2 : S.toList.isEmpty = false := by simp [hE]
  by_cases h12 : (12 : Int) < (S.size : Int)
  · have HN := Lib.hid (name_long (l := S.data.toList) (by rw [← ba_size]; omega))
    go_enter Tryd.func57, Tryd.ntmps57
    go_wp2
    go_ret
    rw [HN.out]
    exact ⟨rfl, Ext.refl _⟩
  have HA := Lib.hid (name_all (l := S.data.toList) (fun h => h0 (ba_nil.2 h)) (by rw [← ba_size]; omega))
  clear h0
  go_enter Tryd.func57, Tryd.ntmps57
  go_wp2
  go_loopw [2] (fun x wr => ∃ pos : Nat, x = .bool false ∧ wr = w.iter S pos ∧ pos ≤ S.size ∧ (S.data.toList.take pos).all inName = true) (fun _ wr => S.size - wr.iterPos w.heap.size)
  case atStart => exact ⟨0, rfl, rfl, by omega, rfl⟩
  case round =>
    obtain ⟨pos, rfl, rfl, hpos, hall⟩ := hrel
    have HALL := Lib.hid hall
    clear hall
    by_cases hp : pos < S.size
    · have hl : pos < S.data.toList.length := by rw [← ba_size]; exact hp
      by_cases ha : (S[pos]'hp).toNat < 128
      · have hnx : ∀ ty, (Instr.next (.pointer (some ⟨w.heap.size, 0, none⟩)) true ty).run Tryd.prog (w.iter S pos) = _ := fun ty => run_next_ascii w S pos ty hp ha
        have HB := Lib.hid (show inNameR ((S[pos]'hp).toNat : Int) = inName (S.data.toList[pos]) by rw [← inName_R, ba_get S pos hp])
        obtain ⟨x, hx⟩ : ∃ x : Nat, x = (S[pos]'hp).toNat := ⟨_, rfl⟩
        rw [← hx] at hnx HB
        clear hx
        cases hin : inNameR (x : Int) with
        | true =>
          have HT := Lib.hid (show (S.data.toList.take (pos + 1)).all inName = true by
            rw [List.take_succ_eq_append_getElem hl, List.all_append, HALL.out]
            simp only [List.all_cons, List.all_nil, Bool.and_true, Bool.true_and]
            rw [← HB.out, hin])
          go_wp2_with (go_at_call 69; refine (inName_any _ _).mono ?_; rintro e w' ⟨rfl, rfl⟩)
          go_roundw
          case rel => exact ⟨pos + 1, rfl, rfl, by omega, HT.out⟩
          case measure => simp; omega
        | false =>
          have HF := Lib.hid (show nameB S.data.toList = false by rw [HA.out]; exact all_not hl (by rw [← HB.out, hin]))
          go_wp2_with (go_at_call 69; refine (inName_any _ _).mono ?_; rintro e w' ⟨rfl, rfl⟩)
          go_ret
          rw [HF.out]
          exact ⟨rfl, ext_iter _ _ _⟩
      · have hnx : ∀ ty, (Instr.next (.pointer (some ⟨w.heap.size, 0, none⟩)) true ty).run Tryd.prog (w.iter S pos) = _ := fun ty => run_next_any w S pos ty hp
        have hd := (decode_high S pos hp (by omega)).1
        have HF := Lib.hid (show nameB S.data.toList = false by
          rw [HA.out]
          refine all_not hl ?_
          rw [inName_R, ← ba_get S pos hp]
          exact inNameR_high (by omega))
        obtain ⟨x, hx⟩ : ∃ x : Nat, x = (Utf8.decode S pos).1 := ⟨_, rfl⟩
        obtain ⟨y, hy⟩ : ∃ y : Nat, y = (Utf8.decode S pos).2 := ⟨_, rfl⟩
        rw [← hx] at hd hnx
        rw [← hy] at hnx
        have hin : inNameR (x : Int) = false := inNameR_high (by omega)
        clear hx hy hd
        go_wp2_with (go_at_call 69; refine (inName_any _ _).mono ?_; rintro e w' ⟨rfl, rfl⟩)
        go_ret
        rw [HF.out]
        exact ⟨rfl, ext_iter _ _ _⟩
    · have hnx : ∀ ty, (Instr.next (.pointer (some ⟨w.heap.size, 0, none⟩)) true ty).run Tryd.prog (w.iter S pos) = _ := fun ty => run_next_end w S pos ty hp
      have HF := Lib.hid (show nameB S.data.toList = true by
        rw [HA.out]
        have := HALL.out
        rwa [List.take_of_length_le (by rw [← ba_size]; omega)] at this)
      go_wp2
      go_ret
      rw [HF.out]
      exact ⟨rfl, ext_iter _ _ _⟩

theorem above_any (S : ByteArray) (w : World) (hs : S.size < 4611686018427387904) : Calls Tryd.prog 35 #[.string S] w fun e w' => ∃ T : ByteArray, e = .returned (.string T) ∧ T.data.toList = above S.data.toList ∧ T.size ≤ S.size ∧ w = w' := by
  have hcon := fun W => Tryd.strings_LastIndex_one S ⟨#[46]⟩ rfl hs W
  have hcon : ∀ W, Calls Tryd.prog 55 #[.string S, .string ⟨#[46]⟩] W fun e w' => e = .returned (.int .i64 (Lib.lastIndexByte S 46)) ∧ w' = W := hcon
  rcases lastDot S with ⟨h1, h2⟩ | ⟨i, hi, h1, h2⟩
  · have H2 := Lib.hid h2
    rw [h1] at hcon
    clear h1 h2
    go_enter Tryd.func35, Tryd.ntmps35
    go_wp2_with (go_at_call 55; refine (hcon _).mono ?_; rintro e w' ⟨rfl, rfl⟩)
    go_ret
    refine ⟨_, rfl, ?_, ?_, rfl⟩
    · rw [ext_toL, H2.out]; simp; exact .inl (by decide)
    · rw [ba_size, ext_toL]; simp; exact Nat.min_le_right _ _
  · have H2 := Lib.hid h2
    rw [h1] at hcon
    have hmx : (if (i : Int) > 0 then (i : Int) else 0) = (i : Int) := by split <;> omega
    have hmx' : (if (0 : Int) < (i : Int) then (i : Int) else 0) = (i : Int) := by split <;> omega
    have i0 : (0 : Int) ≤ (i : Int) := by omega
    have i1 : (i : Int) ≤ (S.size : Int) := by omega
    clear h1 h2
    go_enter Tryd.func35, Tryd.ntmps35
    go_wp2_with (go_at_call 55; refine (hcon _).mono ?_; rintro e w' ⟨rfl, rfl⟩)
    go_ret
    refine ⟨_, rfl, ?_, ?_, rfl⟩
    · rw [ext_toL, H2.out]; simp
    · rw [ba_size, ext_toL, ba_size]; simp; omega
theorem Clone_any (S : ByteArray) (w : World) (hs : S.size ≤ 1000000000000) : Calls Tryd.prog 34 #[.string S] w fun e w' => e = .returned (.string S) ∧ Ext w w' := by
  have hcon := fun W => Tryd.stringslite_Clone S W (by omega)
  go_enter Tryd.func34, Tryd.ntmps34
  go_wp2_with (go_at_call 54; refine (hcon _).mono ?_; rintro e w' ⟨rfl, hx⟩)
  go_ret
  exact ⟨rfl, hx⟩

end Go.Proofs.YtflbhnckhbcboaaDoor
