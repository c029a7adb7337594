/- dispatchlaw4: known, within, rows, log. -/
import Derived.Test.YtcofjimjbobdgaaFrmF
import Derived.Lib.SlBytesConst
namespace Go.Proofs.Ytcofjimjbobdgaa
open Go.RowKit

/-- Bytes that are new. -/
theorem rd_new (w : World) (l : List UInt8) (xs : Array Value) (hx : xs.toList = bvs l) (n : Nat) (hn : n = l.length) (hm : l.length ≤ maxLen) (fr : Nat × Nat) : Rd (w.alloc (.cells xs 5 fr)) (.slice (some ⟨w.heap.size, 0, none⟩) n n) (bvs l) := by
  subst hn
  refine ⟨_, l.length, by rw [bvs_length], by rw [bvs_length]; exact Nat.le_refl _, hm, fun _ => ⟨_, rfl, by simp, fun j u hu => ?_⟩⟩
  have hadd : (⟨w.heap.size, 0, none⟩ : Addr).add j = ⟨w.heap.size, j, none⟩ := by unfold Addr.add; split <;> simp_all
  rw [hadd, cell_of_row _ w.heap.size j _ 5 fr (heap_alloc_new w _), ← Array.getElem?_toList, hx]
  exact hu

theorem crc_known : crc [49, 50, 51, 52, 53, 54, 55, 56, 57] = 3421780262 := by decide +kernel

theorem known_any (w : World) : Calls Try.prog 9 #[] w fun e w' => e = .returned (.bool true) ∧ Ext w w' := by
  have kc := fun (w : World) (C : Array Value) (n c : Nat) => Lib.run_convert_bytes_const (P := Try.prog) w 22 5 C n c Try.underlying22 Try.underlying5
  go_enter Try.func9, Try.ntmps9
  go_wp2_with fail
  (with_reducible refine (Crc_any _ [49, 50, 51, 52, 53, 54, 55, 56, 57] _ (rd_new w _ #[.int .u8 49, .int .u8 50, .int .u8 51, .int .u8 52, .int .u8 53, .int .u8 54, .int .u8 55, .int .u8 56, .int .u8 57] rfl 9 rfl (by simp [maxLen]) (9, 10))).mono ?_)
  rw [crc_known]
  rintro e w' ⟨rfl, rfl⟩
  go_wp2
  go_ret
  exact ⟨rfl, ext_alloc _ _⟩

theorem within_any (a n : Int) (w : World) (hn : 0 < n ∧ n ≤ 1125899906842625) :
    Calls Try.prog 10 #[.int .i64 a, .int .i64 n] w fun e w' => e = .returned (.int .i64 (a % n)) ∧ w = w' := by
  obtain ⟨n0, n1⟩ := hn
  have hz : (n == 0) = false := by simp; omega
  have l1 : a.tmod n < n := Int.tmod_lt_of_pos a n0
  have l2 : -n < a.tmod n := by have := Int.lt_tmod_of_pos a n0; omega
  by_cases hneg : a.tmod n < 0
  · rw [emod_neg n0 hneg]
    go_enter Try.func10, Try.ntmps10
    go_wp2
    go_ret
    exact ⟨rfl, rfl⟩
  · rw [emod_pos n0 hneg]
    go_enter Try.func10, Try.ntmps10
    go_wp2
    go_ret
    exact ⟨rfl, rfl⟩
theorem within_some (a : Int) (n : Nat) (m : Int) (w : World) (hm : m = (n : Int)) (hn : 0 < n ∧ n ≤ 1125899906842625) :
    Calls Try.prog 10 #[.int .i64 a, .int .i64 m] w fun e w' => ∃ y : Nat, e = .returned (.int .i64 (y : Int)) ∧ y < n ∧ w = w' := by
  subst hm
  refine (within_any a n w ⟨by omega, by omega⟩).mono ?_
  rintro e w' ⟨rfl, rfl⟩
  have h0 := Int.emod_nonneg a (show (n : Int) ≠ 0 by omega)
  have h1 := Int.emod_lt_of_pos a (show (0 : Int) < n by omega)
  refine ⟨(a % (n : Int)).toNat, ?_, by omega, rfl⟩
  rw [show (((a % (n : Int)).toNat : Nat) : Int) = a % (n : Int) from by omega]

theorem ba_ne {z x : ByteArray} (h : ¬ z = x) : (z.toList == x.toList) = false := by
  rw [beq_eq_false_iff_ne]
  intro e
  rw [ByteArray.toList_eq, ByteArray.toList_eq] at e
  apply h
  cases z; cases x
  simp only at e
  rw [Array.toList_inj] at e
  rw [e]

set_option maxHeartbeats 800000 in
theorem rows_any (u v : Value) (ls ms : List (List UInt8)) (w : World) (hu : RdR w u ls) (hv : RdR w v ms) :
    Calls Try.prog 18 #[u, v] w fun e w' => e = .returned (.bool (decide (ls = ms))) ∧ Ext w w' := by
  obtain ⟨A, N, c, rfl, hN, hc1, hc2, hcell⟩ := hu.open
  obtain ⟨A', N', c', rfl, hN', hc1', hc2', hcell'⟩ := hv.open
  have HC := Lib.hid hcell
  have HC' := Lib.hid hcell'
  have HN := Lib.hid hN
  have HN' := Lib.hid hN'
  clear hu hv hcell hcell'
  by_cases hl : N = N'
  · clear hN hN'
    subst hl
    go_enter Try.func18, Try.ntmps18
    go_wp2
    go_loopw [5] (fun i wr => ∃ k : Nat, k ≤ N ∧ i = .int .i64 k ∧ Ext w wr ∧ ls.take k = ms.take k) (fun i _ => N - (intOf i).toNat)
    case atStart => exact ⟨0, Nat.zero_le _, rfl, Ext.refl w, rfl⟩
    case round =>
      obtain ⟨k, hk, rfl, hx, he⟩ := hrel
      have HX := Lib.hid hx
      have HE := Lib.hid he
      clear hx he
      by_cases hlt : k < N
      · obtain ⟨a, rfl, hb, hcs⟩ := HC.out (by omega)
        obtain ⟨a', rfl, hb', hcs'⟩ := HC'.out (by omega)
        obtain ⟨x, h1, h2⟩ := hcs k (by have := HN.out; omega)
        obtain ⟨y, h3, h4⟩ := hcs' k (by have := HN'.out; omega)
        have g1 := HX.out.cell' h1
        have g2 := HX.out.cell' h3
        have s1 := fun n => (h2.ext (HX.out.trans (ext_drewN wr n))).str
        have s2 := fun n => (h4.ext (HX.out.trans (ext_drewN wr n))).str
        clear h1 h3 hcs hcs'
        generalize hx : ls[k]'(by have := HN.out; omega) = p at *
        generalize hy : ms[k]'(by have := HN'.out; omega) = q at *
        have HXX := Lib.hid hx
        have HYY := Lib.hid hy
        clear hx hy
        have i0 : (0 : Int) ≤ (k : Int) := by omega
        have i1 : (k : Int) < (N : Int) := by omega
        by_cases hpq : p = q
        · subst hpq
          obtain ⟨S, hS⟩ : ∃ S : ByteArray, S = ⟨p.toArray⟩ := ⟨_, rfl⟩
          rw [← hS] at s1 s2
          clear hS
          go_wp2
          go_quiet (fail)
          go_wp2
          go_roundw
          case rel => exact ⟨k + 1, by omega, by go_num, HX.out.trans (ext_drewN _ _), by rw [List.take_succ_eq_append_getElem (by have := HN.out; omega), List.take_succ_eq_append_getElem (by have := HN'.out; omega), HE.out, HXX.out, HYY.out]⟩
          case measure => simp [intOf]; omega
        · obtain ⟨S, hS⟩ : ∃ S : ByteArray, S = ⟨p.toArray⟩ := ⟨_, rfl⟩
          obtain ⟨S', hS'⟩ : ∃ S : ByteArray, S = ⟨q.toArray⟩ := ⟨_, rfl⟩
          have hne := ba_ne (z := S) (x := S') (fun e => by rw [hS, hS'] at e; injection e with e; exact hpq (by simpa using e))
          have hne' : (S.toList != S'.toList) = true := by rw [bne, hne]; rfl
          rw [← hS] at s1
          rw [← hS'] at s2
          have HP := Lib.hid (show ¬ ls = ms from fun e => by subst e; rw [HXX.out] at HYY; exact hpq HYY.out)
          clear hS hS' hpq
          go_wp2
          go_quiet (fail)
          go_wp2
          go_ret
          rw [decide_eq_false HP.out]
          exact ⟨rfl, HX.out.trans (ext_drewN _ _)⟩
      · obtain rfl : k = N := by omega
        have HP := Lib.hid (show ls = ms by
          have := HE.out
          rwa [List.take_of_length_le (by have := HN.out; omega), List.take_of_length_le (by have := HN'.out; omega)] at this)
        go_wp2
        go_ret
        rw [decide_eq_true HP.out]
        exact ⟨rfl, HX.out⟩
  · have hl' : ((N : Int) != (N' : Int)) = true := by simp; omega
    have HP := Lib.hid (show ¬ ls = ms from fun e => hl (by rw [hN, hN', e]))
    clear hl hN hN'
    go_enter Try.func18, Try.ntmps18
    go_wp2
    go_ret
    rw [decide_eq_false HP.out]
    exact ⟨rfl, Ext.refl w⟩

end Go.Proofs.Ytcofjimjbobdgaa
