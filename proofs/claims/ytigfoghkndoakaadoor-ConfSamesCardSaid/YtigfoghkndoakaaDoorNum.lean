/- conf.number, conf.share; strings.Cut at a stroke. -/
import Derived.Test.YtigfoghkndoakaaDoorBa
import Derived.Test.YtigfoghkndoakaaDoorMod
import Derived.Test.YtigfoghkndoakaaDoorSub
import Derived.Test.YtigfoghkndoakaaDoorOpenR
import Derived.Test.YtigfoghkndoakaaDoorShelf
import Derived.ProofKit
import Derived.Lib.Hide
import Derived.IntWalk
import Derived.Outline
import Derived.Lib.ConvBytes
namespace Go.Proofs.YtigfoghkndoakaaDoor
open Go.RowKit

/-- What 'number' answers. -/
def numV (o : Option Nat) : Value := .tuple #[.int .i64 (o.getD 0 : Nat), .bool o.isSome]

theorem dig_iff (b : UInt8) : dig b = (!(decide ((b.toNat : Int) < 48) || decide (57 < (b.toNat : Int)))) := by
  rw [Bool.eq_iff_iff]
  simp only [dig, Bool.and_eq_true, decide_eq_true_eq, Bool.not_eq_true', Bool.or_eq_false_iff, decide_eq_false_iff_not]
  rw [UInt8.le_iff_toNat_le, UInt8.le_iff_toNat_le]
  have h1 : (48 : UInt8).toNat = 48 := rfl
  have h2 : (57 : UInt8).toNat = 57 := rfl
  omega

set_option maxRecDepth 100000 in
set_option maxHeartbeats 1600000 in
theorem number_any (S : ByteArray) (w : World) : Calls Tryd.prog 65 #[.string S] w fun e w' => e = .returned (numV (num? S.data.toList)) ∧ Ext w w' := by
  have conv := fun (W : World) => Lib.run_convert_string_bytes (P := Tryd.prog) W 9 101 5 S Tryd.underlying9 Tryd.underlying101 Tryd.underlying5
  by_cases h0 : S = ⟨#[]⟩
  · have HN := Lib.hid (show num? S.data.toList = none by rw [h0]; rfl)
    have hE : S.toList = [] := by rw [h0, ByteArray.toList_eq]
    clear h0
    go_enter Tryd.func65, Tryd.ntmps65
    go_wp2
    go_ret2
    rw [HN.out]
    exact ⟨rfl, Ext.refl _⟩
  have hE : ¬ S.toList = [] := by rw [ByteArray.toList_eq]; exact fun h => h0 (ba_nil.2 h)
  have hE2 : S.toList.isEmpty = false := by simp [hE]
  have hs0 : 0 < S.size := by
    rcases Nat.eq_zero_or_pos S.size with h | h
    · rw [ba_size] at h; exact absurd (ba_nil.2 (List.eq_nil_of_length_eq_zero h)) h0
    · exact h
  have hs0' : (0 : Int) < (S.size : Int) := by omega
  by_cases h7 : (7 : Int) < (S.size : Int)
  · have H := Lib.hid (show num? S.data.toList = none by unfold num?; rw [if_pos (.inr (.inl (by rw [← ba_size]; omega)))])
    go_enter Tryd.func65, Tryd.ntmps65
    go_wp2
    go_ret2
    rw [H.out]
    exact ⟨rfl, Ext.refl _⟩
  have hs7 : S.size ≤ 7 := by omega
  have h7' : (S.size : Int) ≤ 7 := by omega
  have hne : S.data.toList ≠ [] := fun h => h0 (ba_nil.2 h)
  have hhd : S.data.toList.head? = some S[0] := by rw [ba_get S 0 hs0, List.head?_eq_getElem?, List.getElem?_eq_getElem]
  obtain ⟨w1, hw1⟩ : ∃ w1, w1 = Lib.bytesWorld w 5 S := ⟨_, rfl⟩
  have cv := conv w
  rw [← hw1] at cv
  clear conv
  have HX1 := Lib.hid (show Ext w w1 from hw1 ▸ bytes_ext w 5 S)
  have HC := Lib.hid (fun (j : Nat) (hj : j < S.size) => show w1.cell? ⟨w.heap.size, j, none⟩ = some (.int .u8 ((S.data.toList[j]'(by rw [← ba_size]; exact hj)).toNat : Int)) by
    rw [hw1, Lib.bytesWorld_cell w 5 S j hj]
    simp [List.getD, List.getElem?_eq_getElem (show j < S.data.toList.length by rw [← ba_size]; exact hj)])
  clear hw1
  by_cases hz : S[0] = 48
  · by_cases h1 : S = ⟨#[48]⟩
    · have HG := Lib.hid (show ¬ (S.data.toList = [] ∨ 7 < S.data.toList.length ∨ (S.data.toList.head? = some 48 ∧ S.data.toList ≠ [48])) by
        rw [← ba_size]; rintro (h | h | h)
        · exact hne h
        · omega
        · exact h.2 (ba_one.1 h1))
      have hz' : ((S[0]).toNat : Int) = 48 := by rw [hz]; rfl
      have h1' : S.toList = [48] := by rw [h1, ByteArray.toList_eq]
      clear h1 hz
      go_enter Tryd.func65, Tryd.ntmps65
      go_wp2
      go_loopw [4, 26] (fun n i wr => ∃ k : Nat, k ≤ S.size ∧ i = .int .i64 k ∧ n = .int .i64 (dec (S.data.toList.take k) : Nat) ∧ (S.data.toList.take k).all dig = true ∧ wr = w1) (fun _ i _ => S.size - (intOf i).toNat)
      case atStart => exact ⟨0, Nat.zero_le _, rfl, rfl, rfl, rfl⟩
      case round =>
        obtain ⟨k, hk, rfl, rfl, hd, rfl⟩ := hrel
        by_cases hlt : k < S.size
        · have hcell := HC.out k hlt
          have hlk : k < S.data.toList.length := by rw [← ba_size]; exact hlt
          have HT := Lib.hid (List.take_succ_eq_append_getElem hlk)
          have HDT := Lib.hid hd
          have hdl := dec_lt _ hd
          rw [List.length_take, Nat.min_eq_left (by omega)] at hdl
          have hp : 10 ^ k ≤ 10 ^ 6 := Nat.pow_le_pow_right (by omega) (by omega)
          have hdg := dig_iff (S.data.toList[k])
          obtain ⟨b, hb⟩ : ∃ b, b = S.data.toList[k] := ⟨_, rfl⟩
          rw [← hb] at hcell hdg HT
          have HB := Lib.hid hb
          clear hb hd
          obtain ⟨x, hx⟩ : ∃ x : Nat, x = b.toNat := ⟨_, rfl⟩
          rw [← hx] at hcell hdg
          have hb255 : (x : Int) ≤ 255 := by have := b.toNat_lt; omega
          have HXB := Lib.hid hx
          clear hx
          have hb0 : (0 : Int) ≤ (x : Int) := by omega
          obtain ⟨N, hN⟩ : ∃ N : Nat, N = dec (S.data.toList.take k) := ⟨_, rfl⟩
          rw [← hN] at hdl ⊢
          have HN := Lib.hid hN
          have hN6 : (N : Int) < 1000000 := by omega
          have hNp : (0 : Int) ≤ (N : Int) := by omega
          clear hN hdl hp
          have i0 : (0 : Int) ≤ (k : Int) := by omega
          have i1 : (k : Int) < (S.size : Int) := by omega
          by_cases hdb : dig b = true
          · have hr := hdg
            rw [hdb] at hr
            have hr1 : (48 : Int) ≤ (x : Int) := by simp at hr; omega
            have hr2 : (x : Int) ≤ 57 := by simp at hr; omega
            have HX := Lib.hid hdb
            have hd1 : decide ((x : Int) < 48) = false := by simp; omega
            have hd2 : decide ((57 : Int) < (x : Int)) = false := by simp; omega
            clear hr hdg hdb
            go_wp2
            go_roundw
            case rel => exact ⟨k + 1, by omega, by go_num, by rw [HT.out, dec_snoc, ← HN.out, ← HXB.out]; congr 1; omega, by rw [HT.out, List.all_append, HDT.out]; simp [HX.out], trivial⟩
            case measure => simp [intOf]; omega
          · have HF := Lib.hid (show num? S.data.toList = none by
              unfold num?
              split
              · rfl
              · rw [if_neg]
                intro h
                rw [List.all_eq_true] at h
                exact hdb (by rw [HB.out]; exact h _ (List.getElem_mem hlk)))
            rw [Bool.not_eq_true] at hdb
            rw [hdb] at hdg
            have hr : (x : Int) < 48 ∨ (57 : Int) < (x : Int) := by simp at hdg; omega
            clear hdg hdb
            rcases hr with hr | hr
            · have hd1 : decide ((x : Int) < 48) = true := by simp; omega
              go_wp2
              go_ret2
              rw [HF.out]
              exact ⟨rfl, HX1.out⟩
            · have hd1 : decide ((x : Int) < 48) = false := by simp; omega
              have hd2 : decide ((57 : Int) < (x : Int)) = true := by simp; omega
              go_wp2
              go_ret2
              rw [HF.out]
              exact ⟨rfl, HX1.out⟩
        · obtain rfl : k = S.size := by omega
          have HF := Lib.hid (show num? S.data.toList = some (dec (S.data.toList.take S.size)) by
            rw [ba_size, List.take_length] at *
            unfold num?
            rw [if_neg HG.out, if_pos hd])
          go_wp2
          go_ret2
          rw [HF.out]
          exact ⟨rfl, HX1.out⟩
    · have H := Lib.hid (show num? S.data.toList = none by unfold num?; rw [if_pos (.inr (.inr ⟨by rw [hhd, hz], fun h => h1 (ba_one.2 h)⟩))])
      have hz' : ((S[0]).toNat : Int) = 48 := by rw [hz]; rfl
      have h1' : (S.toList == [48]) = false := by have := ba_ne h1; rwa [ByteArray.toList_eq ⟨#[48]⟩] at this
      clear h1 hz
      go_enter Tryd.func65, Tryd.ntmps65
      go_wp2
      go_ret2
      rw [H.out]
      exact ⟨rfl, Ext.refl _⟩
  · have HG := Lib.hid (show ¬ (S.data.toList = [] ∨ 7 < S.data.toList.length ∨ (S.data.toList.head? = some 48 ∧ S.data.toList ≠ [48])) by
      rw [← ba_size, hhd]; rintro (h | h | h)
      · exact hne h
      · omega
      · exact hz (by injection h.1))
    have hz' : ¬ ((S[0]).toNat : Int) = 48 := fun h => hz (UInt8.toNat.inj (by have : (48 : UInt8).toNat = 48 := rfl; omega))
    clear hz
    go_enter Tryd.func65, Tryd.ntmps65
    go_wp2
    go_loopw [4, 26] (fun n i wr => ∃ k : Nat, k ≤ S.size ∧ i = .int .i64 k ∧ n = .int .i64 (dec (S.data.toList.take k) : Nat) ∧ (S.data.toList.take k).all dig = true ∧ wr = w1) (fun _ i _ => S.size - (intOf i).toNat)
    case atStart => exact ⟨0, Nat.zero_le _, rfl, rfl, rfl, rfl⟩
    case round =>
      obtain ⟨k, hk, rfl, rfl, hd, rfl⟩ := hrel
      by_cases hlt : k < S.size
      · have hcell := HC.out k hlt
        have hlk : k < S.data.toList.length := by rw [← ba_size]; exact hlt
        have HT := Lib.hid (List.take_succ_eq_append_getElem hlk)
        have HDT := Lib.hid hd
        have hdl := dec_lt _ hd
        rw [List.length_take, Nat.min_eq_left (by omega)] at hdl
        have hp : 10 ^ k ≤ 10 ^ 6 := Nat.pow_le_pow_right (by omega) (by omega)
        have hdg := dig_iff (S.data.toList[k])
        obtain ⟨b, hb⟩ : ∃ b, b = S.data.toList[k] := ⟨_, rfl⟩
        rw [← hb] at hcell hdg HT
        have HB := Lib.hid hb
        clear hb hd
        obtain ⟨x, hx⟩ : ∃ x : Nat, x = b.toNat := ⟨_, rfl⟩
        rw [← hx] at hcell hdg
        have hb255 : (x : Int) ≤ 255 := by have := b.toNat_lt; omega
        have HXB := Lib.hid hx
        clear hx
        have hb0 : (0 : Int) ≤ (x : Int) := by omega
        obtain ⟨N, hN⟩ : ∃ N : Nat, N = dec (S.data.toList.take k) := ⟨_, rfl⟩
        rw [← hN] at hdl ⊢
        have HN := Lib.hid hN
        have hN6 : (N : Int) < 1000000 := by omega
        have hNp : (0 : Int) ≤ (N : Int) := by omega
        clear hN hdl hp
        have i0 : (0 : Int) ≤ (k : Int) := by omega
        have i1 : (k : Int) < (S.size : Int) := by omega
        by_cases hdb : dig b = true
        · have hr := hdg
          rw [hdb] at hr
          have hr1 : (48 : Int) ≤ (x : Int) := by simp at hr; omega
          have hr2 : (x : Int) ≤ 57 := by simp at hr; omega
          have HX := Lib.hid hdb
          have hd1 : decide ((x : Int) < 48) = false := by simp; omega
          have hd2 : decide ((57 : Int) < (x : Int)) = false := by simp; omega
          clear hr hdg hdb
          go_wp2
          go_roundw
          case rel => exact ⟨k + 1, by omega, by go_num, by rw [HT.out, dec_snoc, ← HN.out, ← HXB.out]; congr 1; omega, by rw [HT.out, List.all_append, HDT.out]; simp [HX.out], trivial⟩
          case measure => simp [intOf]; omega
        · have HF := Lib.hid (show num? S.data.toList = none by
            unfold num?
            split
            · rfl
            · rw [if_neg]
              intro h
              rw [List.all_eq_true] at h
              exact hdb (by rw [HB.out]; exact h _ (List.getElem_mem hlk)))
          rw [Bool.not_eq_true] at hdb
          rw [hdb] at hdg
          have hr : (x : Int) < 48 ∨ (57 : Int) < (x : Int) := by simp at hdg; omega
          clear hdg hdb
          rcases hr with hr | hr
          · have hd1 : decide ((x : Int) < 48) = true := by simp; omega
            go_wp2
            go_ret2
            rw [HF.out]
            exact ⟨rfl, HX1.out⟩
          · have hd1 : decide ((x : Int) < 48) = false := by simp; omega
            have hd2 : decide ((57 : Int) < (x : Int)) = true := by simp; omega
            go_wp2
            go_ret2
            rw [HF.out]
            exact ⟨rfl, HX1.out⟩
      · obtain rfl : k = S.size := by omega
        have HF := Lib.hid (show num? S.data.toList = some (dec (S.data.toList.take S.size)) by
          rw [ba_size, List.take_length] at *
          unfold num?
          rw [if_neg HG.out, if_pos hd])
        go_wp2
        go_ret2
        rw [HF.out]
        exact ⟨rfl, HX1.out⟩
end Go.Proofs.YtigfoghkndoakaaDoor
