/- frames.divide, Crc; the reference's. -/
import Derived.Test.YtcofjimjbobdgaaFrm
import Derived.ProofKit
import Derived.Lib.Hide
import Derived.Laws.BitsAllLaws
import Derived.IntWalk
import Derived.Outline
namespace Go.Proofs.Ytcofjimjbobdgaa
open Go.RowKit

theorem Try.infoU8 : (Try.prog.info? 5).map (fun i => (i.zero, i.size, i.bytes)) = some (some (.int .u8 0), 1, 1) := by kernel_rfl

theorem u32_one (r : Nat) (hr : r < 4294967296) : bits .and .u32 (r : Int) 1 = ((r % 2 : Nat) : Int) := by
  have := u32_and_nat r 1 hr (by omega)
  rw [nat_mask1] at this
  exact this
theorem mask_all (x : Nat) (hx : x < 4294967296) : x &&& 4294967295 = x := by
  have := Nat.and_two_pow_sub_one_eq_mod x 32
  rw [show (2 : Nat) ^ 32 - 1 = 4294967295 from rfl] at this
  rw [this]; exact Nat.mod_eq_of_lt (by simpa using hx)
theorem div_step (r : Nat) (hr : r < 4294967296) : bits .xor .u32 ((r : Int) / 2) (bits .and .u32 3988292384 (-bits .and .u32 (r : Int) 1 % 4294967296)) = ((d1 r : Nat) : Int) := by
  rw [u32_one r hr]
  have h2 : r % 2 = 0 ∨ r % 2 = 1 := by omega
  have hd : ((r : Int) / 2) = ((r / 2 : Nat) : Int) := by omega
  rcases h2 with h | h
  · rw [h, hd, show (-((0 : Nat) : Int) % 4294967296) = ((0 : Nat) : Int) from rfl, show (3988292384 : Int) = ((3988292384 : Nat) : Int) from rfl, u32_and_nat _ _ (by omega) (by omega), Nat.and_zero, u32_xor_nat _ _ (by omega) (by omega), Nat.xor_zero]
    unfold d1
    rw [if_neg (by omega)]
  · rw [h, hd, show (-((1 : Nat) : Int) % 4294967296) = ((4294967295 : Nat) : Int) from rfl, show (3988292384 : Int) = ((3988292384 : Nat) : Int) from rfl, u32_and_nat _ _ (by omega) (by omega), mask_all _ (by omega), u32_xor_nat _ _ (by omega) (by omega)]
    unfold d1
    rw [if_pos h]
theorem xor_byte (s c : Nat) (hs : s < 4294967296) (hc : c < 256) : bits .xor .u32 (s : Int) (c : Int) = ((s ^^^ c : Nat) : Int) := u32_xor_nat s c hs (by omega)

set_option maxHeartbeats 400000 in
theorem divide_any (r : Nat) (w : World) (hr : r < 4294967296) :
    Calls Try.prog 22 #[.int .u32 (r : Int)] w fun e w' => e = .returned (.int .u32 (dn 8 r : Nat)) ∧ w = w' := by
  go_enter Try.func22, Try.ntmps22
  go_wp2
  go_loop [0, 3] (fun n i => ∃ k : Nat, k ≤ 8 ∧ i = .int .i64 k ∧ n = .int .u32 (dn k r : Nat)) (fun _ i => 8 - (intOf i).toNat)
  case atStart => exact ⟨0, Nat.zero_le _, rfl, rfl⟩
  case round =>
    obtain ⟨k, hk, rfl, rfl⟩ := hrel
    by_cases hlt : k < 8
    · have hd := dn_lt hr k
      go_wp2
      go_round
      case rel => exact ⟨k + 1, by omega, by go_num, by rw [div_step _ hd]; rfl⟩
      case measure => simp [intOf]; omega
    · obtain rfl : k = 8 := by omega
      go_wp2
      go_ret
      exact ⟨rfl, rfl⟩

theorem divide_as (x : Int) (r : Nat) (w : World) (hx : x = (r : Int)) (hr : r < 4294967296) :
    Calls Try.prog 22 #[.int .u32 x] w fun e w' => e = .returned (.int .u32 (dn 8 r : Nat)) ∧ w = w' := hx ▸ divide_any r w hr

theorem not32 (x : Nat) (hx : x < 4294967296) : 4294967295 ^^^ x = 4294967295 - x := by
  have h1 := BitVec.toNat_not (x := BitVec.ofNat 32 x)
  rw [BitVec.not_def, BitVec.toNat_xor, BitVec.toNat_allOnes, BitVec.toNat_ofNat, Nat.mod_eq_of_lt (by simpa using hx)] at h1
  simpa using h1
theorem not_step (x : Nat) (hx : x < 4294967296) : bits .xor .u32 IntKind.u32.max (x : Int) = ((4294967295 - x : Nat) : Int) := by
  rw [show IntKind.u32.max = ((4294967295 : Nat) : Int) from rfl, u32_xor_nat _ _ (by omega) hx, not32 x hx]

theorem take_snoc8 (l : List UInt8) (k : Nat) (h : k < l.length) : l.take (k + 1) = l.take k ++ [l[k]] := by
  rw [List.take_succ_eq_append_getElem h]
theorem ret_u {k : IntKind} {a b : Int} (h : a = b) : Ending.returned (.int k a) = .returned (.int k b) := by rw [h]

set_option maxHeartbeats 400000 in
theorem Crc_any (v : Value) (l : List UInt8) (w : World) (hr : Rd w v (bvs l)) :
    Calls Try.prog 13 #[v] w fun e w' => e = .returned (.int .u32 (crc l : Nat)) ∧ w = w' := by
  obtain ⟨A, c, rfl, hc1, hc2, hcell⟩ := hr
  rw [bvs_length] at *
  unfold maxLen at hc2
  have hcell := Lib.hid hcell
  go_enter Try.func13, Try.ntmps13
  go_wp2
  go_loop [3, 8] (fun n i => ∃ k : Nat, k ≤ l.length ∧ i = .int .i64 k ∧ n = .int .u32 (crcS 4294967295 (l.take k) : Nat)) (fun _ i => l.length - (intOf i).toNat)
  case atStart => exact ⟨0, Nat.zero_le _, rfl, rfl⟩
  case round =>
    obtain ⟨k, hk, rfl, rfl⟩ := hrel
    have hS := crcS_lt (l.take k) (s := 4294967295) (by omega)
    by_cases hlt : k < l.length
    · obtain ⟨a, rfl, hb, hcs⟩ := hcell.out (by omega)
      have h0 : w.cell? (a.add k) = some (.int .u8 (l[k].toNat : Int)) := hcs k (bv l[k]) (by simp [bvs, hlt])
      clear hcs
      have hc := l[k].toNat_lt
      have HX := Lib.hid (xor_byte _ l[k].toNat hS hc)
      have HL := Lib.hid (xor32 hS (b := l[k].toNat) (by omega))
      have HV := Lib.hid (crcS_snoc 4294967295 (l.take k) l[k])
      have HT := Lib.hid (take_snoc8 l k hlt)
      go_wp2_with fail
      refine (divide_as _ _ _ HX.out HL.out).mono ?_
      rintro e w' ⟨rfl, rfl⟩
      go_wp2
      go_round
      case rel => exact ⟨k + 1, by omega, by go_num, by rw [HT.out, HV.out]⟩
      case measure => simp [intOf]; omega
    · go_wp2
      go_ret
      exact ⟨ret_u (by rw [not_step _ hS, List.take_of_length_le (by omega)]; rfl), rfl⟩


/-! The reference's Crc. -/
theorem odd_step (r : Nat) (hr : r < 4294967296) (h : r % 2 = 1) : bits .xor .u32 ((r : Int) / 2) 3988292384 = ((d1 r : Nat) : Int) := by
  rw [show ((r : Int) / 2) = ((r / 2 : Nat) : Int) from by omega, show (3988292384 : Int) = ((3988292384 : Nat) : Int) from rfl, u32_xor_nat _ _ (by omega) (by omega)]
  unfold d1; rw [if_pos h]
theorem even_step (r : Nat) (h : ¬ r % 2 = 1) : ((r : Int) / 2) = ((d1 r : Nat) : Int) := by
  unfold d1; rw [if_neg h]; omega
theorem odd_test (r : Nat) (hr : r < 4294967296) : (bits .and .u32 (r : Int) 1 == 1) = decide (r % 2 = 1) := by
  rw [u32_one r hr, Bool.eq_iff_iff]; simp; omega

set_option maxHeartbeats 1000000 in
theorem rCrc_any (v : Value) (l : List UInt8) (w : World) (hr : Rd w v (bvs l)) :
    Calls Try.prog 15 #[v] w fun e w' => e = .returned (.int .u32 (crc l : Nat)) ∧ w = w' := by
  obtain ⟨A, c, rfl, hc1, hc2, hcell⟩ := hr
  rw [bvs_length] at *
  unfold maxLen at hc2
  have hcell := Lib.hid hcell
  go_enter Try.func15, Try.ntmps15
  go_wp2
  go_loop [3, 4] (fun n i => ∃ k : Nat, k ≤ l.length ∧ i = .int .i64 k ∧ n = .int .u32 (crcS 4294967295 (l.take k) : Nat)) (fun _ i => l.length - (intOf i).toNat)
  case atStart => exact ⟨0, Nat.zero_le _, rfl, rfl⟩
  case round =>
    obtain ⟨k, hk, rfl, rfl⟩ := hrel
    have hS := crcS_lt (l.take k) (s := 4294967295) (by omega)
    by_cases hlt : k < l.length
    · obtain ⟨a, rfl, hb, hcs⟩ := hcell.out (by omega)
      have h0 : w.cell? (a.add k) = some (.int .u8 (l[k].toNat : Int)) := hcs k (bv l[k]) (by simp [bvs, hlt])
      clear hcs
      have hc := l[k].toNat_lt
      have HX := Lib.hid (xor_byte _ l[k].toNat hS hc)
      have HL := Lib.hid (xor32 hS (b := l[k].toNat) (by omega))
      have HV := Lib.hid (crcS_snoc 4294967295 (l.take k) l[k])
      have HT := Lib.hid (take_snoc8 l k hlt)
      clear hS
      go_wp2
      go_loop [3, 5] (fun n i => ∃ j : Nat, j ≤ 8 ∧ i = .int .i64 j ∧ n = .int .u32 (dn j (crcS 4294967295 (l.take k) ^^^ l[k].toNat) : Nat)) (fun _ i => 8 - (intOf i).toNat)
      case atStart => exact ⟨0, Nat.zero_le _, rfl, by rw [HX.out]; rfl⟩
      case round =>
        obtain ⟨j, hj, rfl, rfl⟩ := hrel
        by_cases hlj : j < 8
        · have hd := dn_lt HL.out j
          have ho := odd_test _ hd
          by_cases hodd : dn j (crcS 4294967295 (l.take k) ^^^ l[k].toNat) % 2 = 1
          · rw [decide_eq_true hodd] at ho
            go_wp2
            go_round
            case rel => exact ⟨j + 1, by omega, by go_num, by rw [odd_step _ hd hodd]; rfl⟩
            case measure => simp [intOf]; omega
          · rw [decide_eq_false hodd] at ho
            go_wp2
            go_round
            case rel => exact ⟨j + 1, by omega, by go_num, by rw [even_step _ hodd]; rfl⟩
            case measure => simp [intOf]; omega
        · obtain rfl : j = 8 := by omega
          go_wp2
          go_round
          case rel => exact ⟨k + 1, by omega, by go_num, by rw [HT.out, HV.out]⟩
          case measure => simp [intOf]; omega
    · go_wp2
      go_ret
      exact ⟨ret_u (by rw [not_step _ hS, List.take_of_length_le (by omega)]; rfl), rfl⟩

end Go.Proofs.Ytcofjimjbobdgaa
