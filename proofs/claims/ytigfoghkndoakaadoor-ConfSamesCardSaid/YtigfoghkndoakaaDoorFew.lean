/- dispatchlaw5.few. -/
import Derived.Test.YtigfoghkndoakaaDoorMakeD
import Derived.Test.YtigfoghkndoakaaDoorSub
import Derived.Deep.CutRange
import Derived.Deep.DeepCutAuto
import Derived.Deep.CutBlock
namespace Go.Proofs.YtigfoghkndoakaaDoor
open Go.RowKit

def FewPost (N : Nat) (w : World) (e : Ending) (w' : World) : Prop := ∃ b : Bool, e = .returned (.bool b) ∧ (b = true → N ≤ 20) ∧ Ext w w'

set_option maxRecDepth 100000 in
set_option maxHeartbeats 3200000 in
theorem few_any (lab : Int) (v : Value) (rs : List RQ) (w : World) (hr : RdRaw w v rs) :
    Calls Tryd.prog 6 #[.agg #[.int .i64 lab, v]] w fun e w' => FewPost rs.length w e w' := by
  obtain ⟨A, c, rfl, hc1, hc2, hcell, hrs⟩ := hr
  obtain ⟨N, hN⟩ : ∃ N, N = rs.length := ⟨_, rfl⟩
  rw [← hN] at hc1 ⊢
  have HN := Lib.hid hN
  have HC := Lib.hid hcell
  have HRS := Lib.hid hrs
  clear hcell hrs hN
  have hc2' : c ≤ 9223372036854775807 := by unfold maxLen at hc2; omega
  obtain ⟨W1, hW1⟩ : ∃ W1, W1 = w.alloc (.cells #[.int .i64 lab, .slice A N c] 24) := ⟨_, rfl⟩
  have HX := Lib.hid (show Ext w W1 by rw [hW1]; exact ext_alloc _ _)
  have HRB := Lib.hid (show W1.heap[w.heap.size]? = some (.cells #[.int .i64 lab, .slice A N c] 24 (0, 0)) by rw [hW1]; exact heap_alloc_new w _)
  have r1 : W1.cell? ⟨w.heap.size, 1, none⟩ = some (.slice A N c) := by rw [cell_of_row W1 w.heap.size 1 _ _ (0, 0) HRB.out]; rfl
  go_enter Tryd.func6, Tryd.ntmps6
  go_wp2_with fail
  rw [← hW1]
  clear hW1
  obtain ⟨M, hM⟩ : ∃ M, M = min N 20 := ⟨_, rfl⟩
  have hMN : M ≤ N := by omega
  have hM20 : M ≤ 20 := by omega
  have HM := Lib.hid (show ∀ k, k < N → k < 20 → k < M by omega)
  clear hM
  go_loopw [3] (fun i wr => ∃ k : Nat, i = .int .i64 k ∧ k ≤ M ∧ wr = W1) (fun i _ => M - (intOf i).toNat)
  case atStart => exact ⟨0, rfl, by omega, rfl⟩
  case round =>
    obtain ⟨k, rfl, hk, rfl⟩ := hrel
    have k0 : (0 : Int) ≤ (k : Int) := by omega
    by_cases hlt : k < M
    · have i1 : (k : Int) < (N : Int) := by omega
      have i2 : (k : Int) < 20 := by omega
      have i3 : decide ((k : Int) < (N : Int)) = true := by simp; omega
      have hkr : k < rs.length := by have := HN.out; omega
      obtain ⟨a, rfl, hb, hcs⟩ := HC.out (by have := HN.out; omega)
      obtain ⟨x, hxx⟩ : ∃ x, x = rs[k] := ⟨_, rfl⟩
      obtain ⟨c1, c2, _⟩ := hcs k hkr
      rw [← hxx] at c1 c2
      have hrx := HRS.out x (by rw [hxx]; exact List.getElem_mem hkr)
      obtain ⟨NA, NN, nc, hnv, hNN, hn1', hn2', _⟩ := ints_open hrx.1
      obtain ⟨CA, cc, hcv, hcn1, hcn2, _⟩ := hrx.2
      rw [hnv] at c1
      obtain ⟨XN, hXN⟩ : ∃ XN, XN = x.n := ⟨_, rfl⟩
      rw [hcv, ← hXN] at c2
      have c1 := HX.out.cell' c1
      have c2 := HX.out.cell' c2
      clear hrx hnv hcv hNN hcn1 hXN hxx hcs
      by_cases h8 : (8 : Int) < (NN : Int)
      · have d8 : decide ((8 : Int) < (NN : Int)) = true := by simp; omega
        go_wp2
        go_ret
        exact ⟨false, rfl, (fun h => by cases h), HX.out⟩
      · have d8 : decide ((8 : Int) < (NN : Int)) = false := by simp; omega
        by_cases h9 : (8 : Int) < (XN : Int)
        · have d9 : decide ((8 : Int) < (XN : Int)) = true := by simp; omega
          go_wp2
          go_ret
          exact ⟨false, rfl, (fun h => by cases h), HX.out⟩
        · have d9 : decide ((8 : Int) < (XN : Int)) = false := by simp; omega
          go_wp2
          go_roundw
          case rel => exact ⟨k + 1, by simp, by omega, trivial⟩
          case measure => simp [intOf]; omega
    · obtain rfl : k = M := by omega
      have hh : ¬ (k : Int) < (N : Int) ∨ ((k : Int) < (N : Int) ∧ ¬ (k : Int) < 20) := by
        by_cases h1 : k < N
        · by_cases h2 : k < 20
          · have := HM.out k h1 h2; omega
          · exact .inr ⟨by omega, by omega⟩
        · exact .inl (by omega)
      rcases hh with i1 | ⟨i1, i2⟩
      all_goals (
        go_wp2
        go_ret
        exact ⟨_, rfl, (fun h => by have h := of_decide_eq_true h; omega), HX.out⟩)
end Go.Proofs.YtigfoghkndoakaaDoor
