/- dispatchlaw6: known, within. -/
import Derived.Test.YtflbhnckhbcboaaDoorUp
namespace Go.Proofs.YtflbhnckhbcboaaDoor
open Go.RowKit

theorem counts_any (A A' : Option Addr) (n c m c' : Nat) (w : World) (hn : (n : Int) ≤ 9223372036854775807) (hm : (m : Int) ≤ 9223372036854775807) :
    Calls Tryd.prog 18 #[.agg #[.slice A n c, .slice A' m c']] w fun e w' => e = .returned (.int .i64 (if n = 0 ∨ 3 < n ∨ 16 < m then 4 else 0)) ∧ Ext w w' := by
  by_cases h1 : n = 0
  · rw [if_pos (.inl h1)]
    subst h1
    go_enter Tryd.func18, Tryd.ntmps18
    go_wp2
    go_ret
    exact ⟨rfl, ext_alloc _ _⟩
  by_cases h2 : 3 < n
  · rw [if_pos (.inr (.inl h2))]
    have q1 : ((n : Int) == 0) = false := by simp; omega
    have q2 : (3 : Int) < (n : Int) := by omega
    go_enter Tryd.func18, Tryd.ntmps18
    go_wp2
    go_ret
    exact ⟨rfl, ext_alloc _ _⟩
  by_cases h3 : 16 < m
  · rw [if_pos (.inr (.inr h3))]
    have q1 : ((n : Int) == 0) = false := by simp; omega
    have q2 : ¬ (3 : Int) < (n : Int) := by omega
    have q3 : (16 : Int) < (m : Int) := by omega
    go_enter Tryd.func18, Tryd.ntmps18
    go_wp2
    go_ret
    exact ⟨rfl, ext_alloc _ _⟩
  · rw [if_neg (by omega)]
    have q1 : ((n : Int) == 0) = false := by simp; omega
    have q2 : ¬ (3 : Int) < (n : Int) := by omega
    have q3 : ¬ (16 : Int) < (m : Int) := by omega
    go_enter Tryd.func18, Tryd.ntmps18
    go_wp2
    go_ret
    exact ⟨rfl, ext_alloc _ _⟩

set_option maxHeartbeats 1600000 in
theorem Check_none (w : World) : Calls Tryd.prog 9 #[.agg #[.slice none 0 0, .slice none 0 0]] w fun e w' => e = .returned (.int .i64 4) ∧ Ext w w' := by
  go_enter Tryd.func9, Tryd.ntmps9
  go_wp2
  refine at_world (fun W0 hW0 => ?_)
  go_loopw [8] (fun i wr => i = .int .i64 0 ∧ wr = W0) (fun _ _ => 0)
  case atStart => exact ⟨rfl, rfl⟩
  case round =>
    obtain ⟨rfl, rfl⟩ := hrel
    have hB := Lib.hid (show Ext w wr by rw [hW0]; exact (ext_alloc _ _).trans (ext_alloc _ _))
    have c0 : wr.cell? ⟨w.heap.size, 0, none⟩ = some (.slice none 0 0) := by rw [hW0]; simp [go_sem]
    have c1 : wr.cell? ⟨w.heap.size, 1, none⟩ = some (.slice none 0 0) := by rw [hW0]; simp [go_sem]
    have d0 : wr.cell? ⟨w.heap.size + 1, 0, none⟩ = some (.func (.func 18) #[] #[]) := by rw [hW0]; simp [go_sem]
    clear hW0
    go_wp2_with (go_at_call 18; (with_reducible refine (counts_any none none 0 0 0 0 _ (by omega) (by omega)).mono ?_); rintro e w1 ⟨rfl, hx⟩)
    have X := Lib.hid (hB.out.trans hx)
    clear hx
    go_wp2
    go_ret
    exact ⟨rfl, X.out⟩

theorem ups_known : ups [114, 111, 111, 116, 46, 97] = [[114, 111, 111, 116, 46, 97], [114, 111, 111, 116]] := by decide

set_option maxHeartbeats 1600000 in
theorem known6_any (w : World) : Calls Tryd.prog 7 #[] w fun e w' => e = .returned (.bool true) ∧ Ext w w' := by
  have hp := fun W => Up_any ⟨#[114, 111, 111, 116, 46, 97]⟩ W (by decide)
  go_enter Tryd.func7, Tryd.ntmps7
  go_wp2_with fail
  (with_reducible refine (hp _).mono ?_)
  unfold UpPost
  rw [ups_known]
  rintro e w1 ⟨A, n, c, rfl, hn, ho, hx⟩
  obtain rfl : n = 2 := hn
  obtain ⟨A', N, c', e1, hN, hc1, hc2, hcell⟩ := strs_open (Rd.of_own ho)
  injection e1 with e1 e2 e3
  subst e1 e2 e3
  obtain ⟨a, rfl, hb, hcs⟩ := hcell (by omega)
  have k0 := hcs 0 (by simp)
  have k1 := hcs 1 (by simp)
  have X := Lib.hid hx
  clear hcell hcs ho hx hp hN
  have k0' : w1.cell? a = some (.string ⟨#[114, 111, 111, 116, 46, 97]⟩) := by
    have : a.add 0 = a := by unfold Addr.add; split <;> simp_all
    rw [this] at k0; exact k0
  have k1' : w1.cell? ⟨a.block, a.off + 1, none⟩ = some (.string ⟨#[114, 111, 111, 116]⟩) := by
    have : a.add 1 = ⟨a.block, a.off + 1, none⟩ := by unfold Addr.add; rw [if_neg (by omega)]
    rw [this] at k1; exact k1
  clear k0 k1
  go_wp2_with (go_at_call 9; (with_reducible refine (Check_none _).mono ?_); rintro e w2 ⟨rfl, hx2⟩)
  have X2 := Lib.hid (X.out.trans hx2)
  clear hx2
  go_wp2
  go_ret
  exact ⟨rfl, X2.out⟩

theorem within6_any (a n : Int) (w : World) (hn : 0 < n ∧ n ≤ 1125899906842625) :
    Calls Tryd.prog 8 #[.int .i64 a, .int .i64 n] w fun e w' => e = .returned (.int .i64 (a % n)) ∧ w = w' := by
  obtain ⟨n0, n1⟩ := hn
  have hz : (n == 0) = false := by simp; omega
  have l1 : a.tmod n < n := Int.tmod_lt_of_pos a n0
  have l2 : -n < a.tmod n := by have := Int.lt_tmod_of_pos a n0; omega
  by_cases hneg : a.tmod n < 0
  · rw [emod_neg n0 hneg]
    go_enter Tryd.func8, Tryd.ntmps8
    go_wp2
    go_ret
    exact ⟨rfl, rfl⟩
  · rw [emod_pos n0 hneg]
    go_enter Tryd.func8, Tryd.ntmps8
    go_wp2
    go_ret
    exact ⟨rfl, rfl⟩
theorem within6_some (a : Int) (n : Nat) (m : Int) (w : World) (hm : m = (n : Int)) (hn : 0 < n ∧ n ≤ 1125899906842625) :
    Calls Tryd.prog 8 #[.int .i64 a, .int .i64 m] w fun e w' => ∃ y : Nat, e = .returned (.int .i64 (y : Int)) ∧ (y : Int) = a % (n : Int) ∧ y < n ∧ w = w' := by
  subst hm
  refine (within6_any a n w ⟨by omega, by omega⟩).mono ?_
  rintro e w' ⟨rfl, rfl⟩
  have h0 := Int.emod_nonneg a (show (n : Int) ≠ 0 by omega)
  have h1 := Int.emod_lt_of_pos a (show (0 : Int) < n by omega)
  refine ⟨(a % (n : Int)).toNat, ?_, by omega, by omega, rfl⟩
  rw [show (((a % (n : Int)).toNat : Nat) : Int) = a % (n : Int) from by omega]
end Go.Proofs.YtflbhnckhbcboaaDoor
