/- The laws' own small functions: within, same. -/
import Derived.Test.YtbocpkdnlpobkaaAkT
import Derived.Laws.Concat
namespace Go.Proofs.Ytbocpkdnlpobkaa
open Go.RowKit

theorem within9_any (a n : Int) (w : World) (hn : 0 < n ∧ n ≤ 1125899906842625) :
    Calls Try.prog 10 #[.int .i64 a, .int .i64 n] w fun e w' => e = .returned (.int .i64 (a % n)) ∧ w = w' := by
  obtain ⟨n0, n1⟩ := hn
  have hz : (n == 0) = false := by simp; omega
  have l1 : a.tmod n < n := Int.tmod_lt_of_pos a n0
  have l2 : -n < a.tmod n := by have := Int.lt_tmod_of_pos a n0; omega
  by_cases hneg : a.tmod n < 0
  · rw [emod_neg n0 hneg]
    go_enter Try.func10, Try.ntmps10
    go_wp2
    go_ret
    exact ⟨rfl, rfl⟩
  · rw [emod_pos n0 hneg]
    go_enter Try.func10, Try.ntmps10
    go_wp2
    go_ret
    exact ⟨rfl, rfl⟩
theorem within9_some (a : Int) (n : Nat) (m : Int) (w : World) (hm : m = (n : Int)) (hn : 0 < n ∧ n ≤ 1125899906842625) :
    Calls Try.prog 10 #[.int .i64 a, .int .i64 m] w fun e w' => ∃ y : Nat, e = .returned (.int .i64 (y : Int)) ∧ (y : Int) = a % (n : Int) ∧ y < n ∧ w = w' := by
  subst hm
  refine (within9_any a n w ⟨by omega, by omega⟩).mono ?_
  rintro e w' ⟨rfl, rfl⟩
  have h0 := Int.emod_nonneg a (show (n : Int) ≠ 0 by omega)
  have h1 := Int.emod_lt_of_pos a (show (0 : Int) < n by omega)
  refine ⟨(a % (n : Int)).toNat, ?_, by omega, by omega, rfl⟩
  rw [show (((a % (n : Int)).toNat : Nat) : Int) = a % (n : Int) from by omega]


/-- Two asks are one just if their numbers are. -/
theorem ask_ext (x y : AD) : x = y ↔ x.prio = y.prio ∧ x.label = y.label ∧ x.mem = y.mem ∧ x.cores = y.cores ∧ x.count = y.count ∧ x.node = y.node ∧ x.rack = y.rack ∧ x.missed = y.missed := by
  cases x; cases y; simp
set_option maxRecDepth 100000 in
set_option maxHeartbeats 3200000 in
/-- same, of lists that are one. -/
theorem same_any (ds : List AD) (v u : Value) (w : World) (hn : HdA w v ds) (hm : HdA w u ds) (hlen : ds.length ≤ 1000) :
    Calls Try.prog 20 #[v, u] w fun e w' => e = .returned (.bool true) ∧ Ext w w' := by
  obtain ⟨A, N, c, rfl, hN, hc1, hc2, hcell⟩ := hn.ask
  obtain ⟨A', N', c', rfl, hN', hc1', hc2', hcell'⟩ := hm.ask
  obtain rfl : N' = N := by omega
  have HC := Lib.hid hcell
  have HC' := Lib.hid hcell'
  have HN := Lib.hid hN
  have hN1 : N' ≤ 1000 := by omega
  have t0 : ((N' : Int) != (N' : Int)) = false := by simp
  clear hcell hcell' hN hN' hn hm hlen
  go_enter Try.func20, Try.ntmps20
  go_wp2
  go_loopw [5] (fun i wr => ∃ (k : Nat), k ≤ N' ∧ i = .int .i64 k ∧ Ext w wr) (fun i _ => N' - (intOf i).toNat)
  case atStart => exact ⟨0, by omega, rfl, Ext.refl _⟩
  case round =>
    obtain ⟨k, hkN, rfl, hx⟩ := hrel
    have HX := Lib.hid hx
    clear hx
    have k0 : (0 : Int) ≤ (k : Int) := by omega
    by_cases hlt : k < N'
    · have k1 : (k : Int) < (N' : Int) := by omega
      obtain ⟨g, rfl, _, hg⟩ := HC.out (by omega)
      obtain ⟨g', rfl, _, hg'⟩ := HC'.out (by omega)
      have hkd : k < ds.length := by have := HN.out; omega
      obtain ⟨q0, q1, q2, q3, q4, q5, q6, q7⟩ := (hg k hkd).ext HX.out
      obtain ⟨p0, p1, p2, p3, p4, p5, p6, p7⟩ := (hg' k hkd).ext HX.out
      obtain ⟨d, hd⟩ : ∃ d, d = ds[k] := ⟨_, rfl⟩
      rw [← hd] at q0 q1 q2 q3 q4 q5 q6 q7 p0 p1 p2 p3 p4 p5 p6 p7
      clear hd hg hg'
      obtain ⟨ap, al, am, ac, an, ao, ar, ami⟩ := d
      simp only at q0 q1 q2 q3 q4 q5 q6 q7 p0 p1 p2 p3 p4 p5 p6 p7
      go_wp2_with fail
      go_quiet (fail)
      have X1 := Lib.hid (HX.out.trans (ext_drewN wr nq))
      generalize wr.drewN nq = W1 at X1 ⊢
      go_wp2
      go_roundw
      case rel => exact ⟨k + 1, by omega, by simp, X1.out⟩
      case measure => simp [intOf]; omega
    · obtain rfl : k = N' := by omega
      have k1 : ¬ (k : Int) < (k : Int) := by omega
      go_wp2
      go_ret
      exact ⟨rfl, HX.out⟩
end Go.Proofs.Ytbocpkdnlpobkaa
