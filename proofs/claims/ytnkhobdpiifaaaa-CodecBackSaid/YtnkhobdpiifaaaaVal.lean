/- codec.value: the number that bytes say. -/
import Derived.Test.YtnkhobdpiifaaaaByt
import Derived.ProofKit
import Derived.Lib.Hide
import Derived.Laws.BitsAllLaws
import Derived.IntWalk
import Derived.Outline
namespace Go.Proofs.Ytnkhobdpiifaaaa
open Go.RowKit

theorem ret_int {k : IntKind} {a b : Int} (h : a = b) : Ending.returned (.int k a) = .returned (.int k b) := by rw [h]

theorem or_byte (x c : Nat) (hc : c < 256) : x * 256 ||| c = x * 256 + c := by
  have := nat_join 8 (x * 256) c (by omega) (by simpa using hc)
  simpa using this

theorem take_snoc8 (l : List UInt8) (k : Nat) (h : k < l.length) : l.take (k + 1) = l.take k ++ [l[k]] := by
  rw [List.take_succ_eq_append_getElem h]

theorem pow256 {k : Nat} (h : k ≤ 7) : 256 ^ k ≤ 72057594037927936 := by
  have : (256 : Nat) ^ k ≤ 256 ^ 7 := Nat.pow_le_pow_right (by decide) h
  simpa using this

theorem or_step (n c : Nat) (hn : n < 72057594037927936) (hc : c < 256) : bits .or .u64 (IntKind.u64.wrap ((n : Int) * 256)) (c : Int) = ((n * 256 + c : Nat) : Int) := by
  rw [show IntKind.u64.wrap ((n : Int) * 256) = ((n * 256 : Nat) : Int) from by rw [IntWalk.u64_in _ ⟨by omega, by omega⟩]; omega]
  rw [u64_or_nat _ _ (by omega) (by omega), or_byte n c hc]

set_option maxHeartbeats 400000 in
theorem value_any (v : Value) (l : List UInt8) (w : World) (hr : Rd w v (bvs l)) (h8 : l.length ≤ 8) :
    Calls Try.prog 28 #[v] w fun e w' => e = .returned (.int .u64 (va l : Int)) ∧ w = w' := by
  obtain ⟨A, c, rfl, hc1, hc2, hcell⟩ := hr
  rw [bvs_length] at *
  have hcell := Lib.hid hcell
  go_enter Try.func28, Try.ntmps28
  go_wp2
  go_loop [3, 8] (fun n i => ∃ k : Nat, k ≤ l.length ∧ i = .int .i64 k ∧ n = .int .u64 (va (l.take k) : Nat)) (fun _ i => l.length - (intOf i).toNat)
  case atStart => exact ⟨0, Nat.zero_le _, rfl, rfl⟩
  case round =>
    obtain ⟨k, hk, rfl, rfl⟩ := hrel
    by_cases hlt : k < l.length
    · obtain ⟨a, rfl, hb, hcs⟩ := hcell.out (by omega)
      have h0 : w.cell? (a.add k) = some (.int .u8 (l[k].toNat : Int)) := hcs k (bv l[k]) (by simp [bvs, hlt])
      clear hcs
      have hvl := va_lt (l.take k)
      have hlk : (l.take k).length = k := by simp; omega
      rw [hlk] at hvl
      have hp := pow256 (k := k) (by omega)
      have hc := l[k].toNat_lt
      have HO := Lib.hid (or_step (va (l.take k)) l[k].toNat (by omega) hc)
      have HV := Lib.hid (va_snoc (l.take k) l[k])
      have HT := Lib.hid (take_snoc8 l k hlt)
      clear hlk hp hvl
      go_wp2
      go_round
      case rel => exact ⟨k + 1, by omega, by go_num, by rw [HT.out, HV.out, ← HO.out]; try rfl⟩
      case measure => simp [intOf]; omega
    · go_wp2
      go_ret
      exact ⟨ret_int (by rw [List.take_of_length_le (by omega)]), rfl⟩

end Go.Proofs.Ytnkhobdpiifaaaa
