/- dispatchref2's reader: Int. -/
import Derived.Test.YtdooolafndpppaaRefT
namespace Go.Proofs.Ytdooolafndpppaa
open Go.RowKit

theorem take_drop_snoc (B : List UInt8) (p k : Nat) (h : p + k < B.length) : (B.drop p).take (k + 1) = (B.drop p).take k ++ [B[p + k]] := by
  rw [List.take_succ_eq_append_getElem (by rw [List.length_drop]; omega)]
  simp [List.getElem_drop]

set_option maxHeartbeats 800000 in
theorem rInt_ok (X : Nat) (a : Addr) (B : List UInt8) (c p : Nat) (w : World) (h : XAt w X (.slice (some a) B.length c) p 0) (hr : Rd w (.slice (some a) B.length c) (bvs B)) (hm : B.length ≤ 1000) (hp : p + 8 ≤ B.length) :
    Calls Try.prog 20 #[.pointer (some ⟨X, 0, none⟩)] w fun r w' => r = .returned (.int .i64 (num ((B.drop p).take 8))) ∧ w.grownBy w' (some X) ∧ XAt w' X (.slice (some a) B.length c) (p + 8) 0 := by
  have h0 := h.c0
  have h1 := h.c1
  have f1 := h.fr 1
  have HH := Lib.hid h
  have HR := Lib.hid hr
  have HS := Lib.hid (fun m => (h.drewN m).set1 (p + 8))
  clear h hr
  go_enter Try.func20, Try.ntmps20
  go_wp2_with fail
  refine (has_ok X _ _ c p 8 _ HH.out (by simp [maxLen]; omega) (by omega) (by omega)).mono ?_
  rintro e w1 ⟨rfl, m, rfl⟩
  go_wp2
  go_loopw [3, 4] (fun n i wr => ∃ k : Nat, k ≤ 8 ∧ i = .int .i64 k ∧ n = .int .u64 (va ((B.drop p).take k) : Nat) ∧ ∃ m, wr = w.drewN m) (fun _ i _ => 8 - (intOf i).toNat)
  case atStart => exact ⟨0, by omega, rfl, rfl, m, rfl⟩
  case round =>
    obtain ⟨k, hk, rfl, rfl, m', rfl⟩ := hrel
    by_cases hlt : k < 8
    · have hki : (k : Int) < 8 := by omega
      have hpk : p + k < B.length := by omega
      have hd := HR.out.byte (p + k) hpk
      have hN := va_lt ((B.drop p).take k)
      have hlk : ((B.drop p).take k).length = k := by rw [List.length_take, List.length_drop]; omega
      rw [hlk] at hN
      have hp256 := pow256 (k := k) (by omega)
      have hc := (B[p + k]'hpk).toNat_lt
      have HO := Lib.hid (or_step (va ((B.drop p).take k)) (B[p + k]'hpk).toNat (by omega) hc)
      have HV := Lib.hid (va_snoc ((B.drop p).take k) (B[p + k]'hpk))
      have HT := Lib.hid (take_drop_snoc B p k hpk)
      have hNb : (va ((B.drop p).take k) : Int) < 72057594037927936 := by omega
      clear hN hlk hp256
      have HX0 := HO.out
      generalize hcc : (B[p + k]'hpk).toNat = cc at *
      have e1 : IntKind.i64.wrap ((p : Int) + (k : Int)) = (p : Int) + (k : Int) := IntWalk.i64_in _ (by omega)
      have e2 : IntKind.u64.wrap (cc : Int) = (cc : Int) := IntWalk.u64_in _ (by omega)
      have i0 : (0 : Int) ≤ (p : Int) + (k : Int) := by omega
      have i1 : (p : Int) + (k : Int) < (B.length : Int) := by omega
      have i3 : ((p : Int) + (k : Int)).toNat = p + k := by omega
      have HCC := Lib.hid hcc
      clear hcc
      go_wp2
      go_quiet (fail)
      have HO2 : bits .or .u64 ((va ((B.drop p).take k) : Int) * 256) (cc : Int) = ((va ((B.drop p).take k) * 256 + cc : Nat) : Int) := by
        rw [← HO.out, IntWalk.u64_in _ (by omega)]
      have HO2 := Lib.hid HO2
      clear e1 e2 i3 HX0
      go_wp2
      go_roundw
      case rel => exact ⟨k + 1, by omega, by go_num, by rw [HT.out, HV.out]; exact congrArg (Value.int .u64) HO2.out, ⟨_, by first | rfl | exact World.drewN_drewN _ _ _⟩⟩
      case measure => simp [intOf]; omega
    · have hki : ¬ (k : Int) < 8 := by omega
      have hk8 : k = 8 := by omega
      have HK := Lib.hid hk8
      clear hk8
      go_wp2
      go_ret
      refine ⟨?_, World.grownBy.trans (grown_drewN _ _ _) (grown_setCell _ _ _ _), HS.out _⟩
      rw [HK.out]
      rfl

end Go.Proofs.Ytdooolafndpppaa
