/- dispatchref6.above, dispatchref6.Kids. -/
import Derived.Test.YtflbhnckhbcboaaDoorQAt
import Derived.Test.YtflbhnckhbcboaaDoorKnown6
namespace Go.Proofs.YtflbhnckhbcboaaDoor
open Go.RowKit

set_option maxRecDepth 100000 in
set_option maxHeartbeats 1600000 in
theorem rAbove_any (S : ByteArray) (w : World) (hs : S.size ≤ 1000000000) : Calls Tryd.prog 44 #[.string S] w fun e w' => ∃ T : ByteArray, e = .returned (.string T) ∧ T.data.toList = above S.data.toList ∧ T.size ≤ S.size ∧ w = w' := by
  go_enter Tryd.func44, Tryd.ntmps44
  go_wp2
  go_loop [3] (fun i => ∃ k : Nat, k ≤ S.size ∧ i = .int .i64 ((k : Int) - 1) ∧ (46 : UInt8) ∉ S.data.toList.drop k) (fun i => (intOf i + 1).toNat)
  case atStart => exact ⟨S.size, Nat.le_refl _, rfl, by rw [List.drop_of_length_le (by rw [ba_size]; omega)]; simp⟩
  case round =>
    obtain ⟨k, hk, rfl, hno⟩ := hrel
    have HNO := Lib.hid hno
    clear hno
    cases k with
    | zero =>
      have H2 := Lib.hid (above_no (l := S.data.toList) (by have := HNO.out; simpa using this))
      go_wp2
      go_ret
      exact ⟨⟨#[]⟩, rfl, H2.out.symm, Nat.zero_le _, rfl⟩
    | succ k =>
      have hkl : k < S.data.toList.length := by rw [← ba_size]; omega
      have e1 : ((k + 1 : Nat) : Int) - 1 = (k : Int) := by omega
      rw [e1]
      have i0 : (0 : Int) ≤ (k : Int) := by omega
      have i1 : (k : Int) < (S.size : Int) := by omega
      have i2 : (k : Int) ≤ 1000000000 := by omega
      clear e1
      by_cases hd : S[k]'(by omega) = 46
      · have H2 := Lib.hid (show above S.data.toList = S.data.toList.take k by
          have e : S.data.toList = S.data.toList.take k ++ 46 :: S.data.toList.drop (k + 1) := by
            have h4 : S.data.toList[k] = 46 := by rw [← ba_get S k (by omega)]; exact hd
            have := List.take_append_drop k S.data.toList
            rw [List.drop_eq_getElem_cons hkl, h4] at this
            exact this.symm
          have := above_at (a := S.data.toList.take k) HNO.out
          rw [← e] at this
          exact this)
        have hq : (((S[k]'(by omega)).toNat : Int) != 46) = false := by rw [hd]; rfl
        have hq2 : ((S[k]'(by omega)).toNat : Int) = 46 := by rw [hd]; rfl
        clear hd
        go_wp2
        go_ret
        refine ⟨_, rfl, ?_, ?_, rfl⟩
        · rw [ext_toL, H2.out]; simp
        · rw [ba_size, ext_toL, ba_size]; simp; omega
      · have hq : ¬ ((S[k]'(by omega)).toNat : Int) = 46 := fun h => hd (UInt8.toNat.inj (by have : (46 : UInt8).toNat = 46 := rfl; omega))
        have hq2 : (((S[k]'(by omega)).toNat : Int) != 46) = true := by simpa using hq
        have HN2 := Lib.hid (show (46 : UInt8) ∉ S.data.toList.drop k by
          rw [List.drop_eq_getElem_cons hkl, List.mem_cons, not_or]
          exact ⟨fun e => hd (by rw [ba_get S k (by omega)]; exact e.symm), HNO.out⟩)
        clear hd
        go_wp2
        go_round
        case rel => exact ⟨k, by omega, by simp, HN2.out⟩
        case measure => simp [intOf]
end Go.Proofs.YtflbhnckhbcboaaDoor
