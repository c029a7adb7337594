/- The law RvecFit holds at every input: what fits into what fits into a third fits into that; of two that fit into one another both are one; Sub answers without an error just where the second fits into the first. No condition. -/
import Derived.Test.YtkmhbjeacoeomaaLaw
import Derived.Test.YtkmhbjeacoeomaaLeafC
import Derived.OpenShut
import Derived.ChangeOld
import Derived.ChangeSame
import Derived.JoinedOf
import Derived.JoinedAt
import Derived.RowKit3
import Derived.Lib.SmallJoins
namespace Go.Proofs.Ytkmhbjeacoeomaa.RvecFit
open Go.ChangeShapes Go.WideShapes Go.ChangeAt Go.RowKit Go.Joins

theorem fit_trans {a b c d e f : Int} (h : fitB a b c d = true) (k : fitB c d e f = true) : fitB a b e f = true := by
  simp [fitB] at *; omega
theorem fit_anti {a b c d : Int} (h : fitB a b c d = true) : fitB c d a b = (decide (a = c) && decide (b = d)) := by
  rw [Bool.eq_iff_iff]; simp [fitB] at *; omega
theorem fit_ne {a b c d : Int} (h : fitB a b c d = false) : (decide (a = c) && decide (b = d)) = false := by
  rw [Bool.eq_false_iff]; simp [fitB] at *; omega

theorem sub_fit (how a b c d : Int) : okV (vp how c - vp how a) (vp how d - vp how b) = fitB (vp how a) (vp how b) (vp how c) (vp how d) := by
  have h1 := vp_bd how a; have h2 := vp_bd how b; have h3 := vp_bd how c; have h4 := vp_bd how d
  rw [Bool.eq_iff_iff]; simp [okV, okI, fitB]; omega

theorem sub_E (how a b c d : Int) : sumE (vp how c) (vp how d) (vp how a) (vp how b) (vp how c - vp how a) (vp how d - vp how b) = if fitB (vp how a) (vp how b) (vp how c) (vp how d) then 0 else 11 := by
  simp only [sumE, resE, okV_vp, sub_fit, Bool.and_self, if_true]
theorem sub_P (how a b c d p : Int) (h : fitB (vp how a) (vp how b) (vp how c) (vp how d) = false) : sumX (vp how c) (vp how d) (vp how a) (vp how b) (vp how c - vp how a) (vp how d - vp how b) p = 0 := by
  simp only [sumX, resP, sub_fit, h, Bool.and_false, Bool.false_eq_true, if_false]

set_option maxHeartbeats 4000000 in
theorem walk (a0 b0 : Int) (_ : (Lit.int .i64 a0).wf = true) (_ : (Lit.int .i64 b0).wf = true) (a1 b1 : Int) (_ : (Lit.int .i64 a1).wf = true) (_ : (Lit.int .i64 b1).wf = true) (a2 b2 : Int) (_ : (Lit.int .i64 a2).wf = true) (_ : (Lit.int .i64 b2).wf = true) (how : Int) (_ : (Lit.int .i64 how).wf = true) (w : World) :
    Calls Try.prog 11 #[.agg #[.int .i64 a0, .int .i64 b0], .agg #[.int .i64 a1, .int .i64 b1], .agg #[.int .i64 a2, .int .i64 b2], .int .i64 how] w fun e w' => e = .returned (.bool true) ∧ Below w.heap.size w w' := by
  have HE := Lib.hid (sub_E how a0 b0 a1 b1)
  have HP := Lib.hid (sub_P how a0 b0 a1 b1)
  go_enter Try.func11, Try.ntmps11
  go_upto_region 3 with (go_at_call 12; (with_reducible refine (known_any _).mono ?_); rintro e w1 ⟨rfl, hb⟩; obtain ⟨hc, hf⟩ := bcell hb; have hz := hb.size; (try simp only [World.size_alloc, World.size_setCell, World.size_drew] at hz); have hB := step_below (B := w.heap.size) (w := w) (by go_grown) (by go_size) hb; have z0 : w.heap.size < w1.heap.size := (by omega); have z1 : w.heap.size + 1 < w1.heap.size := (by omega); have z2 : w.heap.size + 1 + 1 < w1.heap.size := (by omega))
  refine at_world (fun W0 hW0 => ?_)
  have hB0 : Below w.heap.size w W0 := by rw [hW0]; first | (with_reducible assumption) | (go_grown; done)
  have cc0 : W0.cell? ⟨w.heap.size, 0, none⟩ = some (.int .i64 a0) := by rw [hW0]; first | (with_reducible assumption) | (simp [go_sem]; done) | (simp [go_sem, *]; done)
  have cc1 : W0.cell? ⟨w.heap.size, 1, none⟩ = some (.int .i64 b0) := by rw [hW0]; first | (with_reducible assumption) | (simp [go_sem]; done) | (simp [go_sem, *]; done)
  have cc2 : W0.cell? ⟨w.heap.size + 1, 0, none⟩ = some (.int .i64 a1) := by rw [hW0]; first | (with_reducible assumption) | (simp [go_sem]; done) | (simp [go_sem, *]; done)
  have cc3 : W0.cell? ⟨w.heap.size + 1, 1, none⟩ = some (.int .i64 b1) := by rw [hW0]; first | (with_reducible assumption) | (simp [go_sem]; done) | (simp [go_sem, *]; done)
  have cc4 : W0.cell? ⟨w.heap.size + 1 + 1, 0, none⟩ = some (.int .i64 a2) := by rw [hW0]; first | (with_reducible assumption) | (simp [go_sem]; done) | (simp [go_sem, *]; done)
  have cc5 : W0.cell? ⟨w.heap.size + 1 + 1, 1, none⟩ = some (.int .i64 b2) := by rw [hW0]; first | (with_reducible assumption) | (simp [go_sem]; done) | (simp [go_sem, *]; done)
  have zz0 : w.heap.size < W0.heap.size := by rw [hW0]; first | (with_reducible assumption) | go_size
  have ff0 : ∀ o, W0.frozen? ⟨w.heap.size, o, none⟩ = false := by intro o; rw [hW0]; first | (simp [go_sem]; done) | (simp [go_sem, *]; done)
  have zz1 : w.heap.size + 1 < W0.heap.size := by rw [hW0]; first | (with_reducible assumption) | go_size
  have ff1 : ∀ o, W0.frozen? ⟨w.heap.size + 1, o, none⟩ = false := by intro o; rw [hW0]; first | (simp [go_sem]; done) | (simp [go_sem, *]; done)
  have zz2 : w.heap.size + 1 + 1 < W0.heap.size := by rw [hW0]; first | (with_reducible assumption) | go_size
  have ff2 : ∀ o, W0.frozen? ⟨w.heap.size + 1 + 1, o, none⟩ = false := by intro o; rw [hW0]; first | (simp [go_sem]; done) | (simp [go_sem, *]; done)
  have HC := Lib.hid (fun (w' : World) (h : Ext W0 w') => (⟨h.cell cc0, h.cell cc1, h.cell cc2, h.cell cc3, h.cell cc4, h.cell cc5, Nat.lt_of_lt_of_le zz0 h.size, (fun o => h.free zz0 (ff0 o)), Nat.lt_of_lt_of_le zz1 h.size, (fun o => h.free zz1 (ff1 o)), Nat.lt_of_lt_of_le zz2 h.size, (fun o => h.free zz2 (ff2 o)), h.from hB0 hB0.size, Nat.le_trans hB0.size h.size⟩ : w'.cell? ⟨w.heap.size, 0, none⟩ = some (.int .i64 a0) ∧ w'.cell? ⟨w.heap.size, 1, none⟩ = some (.int .i64 b0) ∧ w'.cell? ⟨w.heap.size + 1, 0, none⟩ = some (.int .i64 a1) ∧ w'.cell? ⟨w.heap.size + 1, 1, none⟩ = some (.int .i64 b1) ∧ w'.cell? ⟨w.heap.size + 1 + 1, 0, none⟩ = some (.int .i64 a2) ∧ w'.cell? ⟨w.heap.size + 1 + 1, 1, none⟩ = some (.int .i64 b2) ∧ w.heap.size < w'.heap.size ∧ (∀ o, w'.frozen? ⟨w.heap.size, o, none⟩ = false) ∧ w.heap.size + 1 < w'.heap.size ∧ (∀ o, w'.frozen? ⟨w.heap.size + 1, o, none⟩ = false) ∧ w.heap.size + 1 + 1 < w'.heap.size ∧ (∀ o, w'.frozen? ⟨w.heap.size + 1 + 1, o, none⟩ = false) ∧ Below w.heap.size w w' ∧ w.heap.size ≤ w'.heap.size))
  clear hW0 hB0 cc0 cc1 cc2 cc3 cc4 cc5 zz0 ff0 zz1 ff1 zz2 ff2
  refine wp_region_lex 9 (by kernel_rfl) (by kernel_rfl) (fun _ _ _ _ _ h => h) ?_
  simp only [List.take_succ_cons, List.take_zero, List.drop_succ_cons, List.drop_zero]
  repeat first | (refine seq_take ?_ (by rfl) (fun wk k1 => ?_) ?_; rotate_left; (have hcc := HC.out wk k1; go_simp; first | exact OkX.val | (refine OkX.eqv (OkX.call (vec_any _ _ _ _)) ?_; exact rfl)); simp only [Act.put, List.setIfInBounds_toArray, List.set_cons_zero, List.set_cons_succ]) | (refine seq_skip (by rfl) ?_; simp only [Act.put, List.setIfInBounds_toArray, List.set_cons_zero, List.set_cons_succ])
  refine seq_nil (fun wk k1 => ?_)
  obtain ⟨c0, c1, c2, c3, c4, c5, z0, f0, z1, f1, z2, f2, hB, hs⟩ := HC.out wk k1
  clear HC k1
  go_upto_region 4 with fail
  generalize vp how a0 = A0 at *
  generalize vp how b0 = B0 at *
  generalize vp how a1 = A1 at *
  generalize vp how b1 = B1 at *
  generalize vp how a2 = A2 at *
  generalize vp how b2 = B2 at *
  cases hx : fitB A0 B0 A1 B1
  · have hE : sumE A1 B1 A0 B0 (A1 - A0) (B1 - B0) = 11 := by rw [HE.out, hx]; rfl
    have hP := fun p => HP.out p hx
    have hne := fit_ne hx
    clear HE HP
    refine at_world (fun W0 hW0 => ?_)
    have hB0 : Below w.heap.size w W0 := by rw [hW0]; first | (with_reducible assumption) | (go_grown; done)
    have cc0 : W0.cell? ⟨w.heap.size, 0, none⟩ = some (.int .i64 A0) := by rw [hW0]; first | (with_reducible assumption) | (simp [go_sem]; done) | (simp [go_sem, *]; done)
    have cc1 : W0.cell? ⟨w.heap.size, 1, none⟩ = some (.int .i64 B0) := by rw [hW0]; first | (with_reducible assumption) | (simp [go_sem]; done) | (simp [go_sem, *]; done)
    have cc2 : W0.cell? ⟨w.heap.size + 1, 0, none⟩ = some (.int .i64 A1) := by rw [hW0]; first | (with_reducible assumption) | (simp [go_sem]; done) | (simp [go_sem, *]; done)
    have cc3 : W0.cell? ⟨w.heap.size + 1, 1, none⟩ = some (.int .i64 B1) := by rw [hW0]; first | (with_reducible assumption) | (simp [go_sem]; done) | (simp [go_sem, *]; done)
    have cc4 : W0.cell? ⟨w.heap.size + 1 + 1, 0, none⟩ = some (.int .i64 A2) := by rw [hW0]; first | (with_reducible assumption) | (simp [go_sem]; done) | (simp [go_sem, *]; done)
    have cc5 : W0.cell? ⟨w.heap.size + 1 + 1, 1, none⟩ = some (.int .i64 B2) := by rw [hW0]; first | (with_reducible assumption) | (simp [go_sem]; done) | (simp [go_sem, *]; done)
    have zz0 : w.heap.size < W0.heap.size := by rw [hW0]; first | (with_reducible assumption) | go_size
    have ff0 : ∀ o, W0.frozen? ⟨w.heap.size, o, none⟩ = false := by intro o; rw [hW0]; first | (simp [go_sem]; done) | (simp [go_sem, *]; done)
    have zz1 : w.heap.size + 1 < W0.heap.size := by rw [hW0]; first | (with_reducible assumption) | go_size
    have ff1 : ∀ o, W0.frozen? ⟨w.heap.size + 1, o, none⟩ = false := by intro o; rw [hW0]; first | (simp [go_sem]; done) | (simp [go_sem, *]; done)
    have zz2 : w.heap.size + 1 + 1 < W0.heap.size := by rw [hW0]; first | (with_reducible assumption) | go_size
    have ff2 : ∀ o, W0.frozen? ⟨w.heap.size + 1 + 1, o, none⟩ = false := by intro o; rw [hW0]; first | (simp [go_sem]; done) | (simp [go_sem, *]; done)
    have HC := Lib.hid (fun (w' : World) (h : Ext W0 w') => (⟨h.cell cc0, h.cell cc1, h.cell cc2, h.cell cc3, h.cell cc4, h.cell cc5, Nat.lt_of_lt_of_le zz0 h.size, (fun o => h.free zz0 (ff0 o)), Nat.lt_of_lt_of_le zz1 h.size, (fun o => h.free zz1 (ff1 o)), Nat.lt_of_lt_of_le zz2 h.size, (fun o => h.free zz2 (ff2 o)), h.from hB0 hB0.size, Nat.le_trans hB0.size h.size⟩ : w'.cell? ⟨w.heap.size, 0, none⟩ = some (.int .i64 A0) ∧ w'.cell? ⟨w.heap.size, 1, none⟩ = some (.int .i64 B0) ∧ w'.cell? ⟨w.heap.size + 1, 0, none⟩ = some (.int .i64 A1) ∧ w'.cell? ⟨w.heap.size + 1, 1, none⟩ = some (.int .i64 B1) ∧ w'.cell? ⟨w.heap.size + 1 + 1, 0, none⟩ = some (.int .i64 A2) ∧ w'.cell? ⟨w.heap.size + 1 + 1, 1, none⟩ = some (.int .i64 B2) ∧ w.heap.size < w'.heap.size ∧ (∀ o, w'.frozen? ⟨w.heap.size, o, none⟩ = false) ∧ w.heap.size + 1 < w'.heap.size ∧ (∀ o, w'.frozen? ⟨w.heap.size + 1, o, none⟩ = false) ∧ w.heap.size + 1 + 1 < w'.heap.size ∧ (∀ o, w'.frozen? ⟨w.heap.size + 1 + 1, o, none⟩ = false) ∧ Below w.heap.size w w' ∧ w.heap.size ≤ w'.heap.size))
    clear hW0 hB0 cc0 cc1 cc2 cc3 cc4 cc5 zz0 ff0 zz1 ff1 zz2 ff2
    refine wp_region_lex 12 (by kernel_rfl) (by kernel_rfl) (fun _ _ _ _ _ h => h) ?_
    simp only [List.take_succ_cons, List.take_zero, List.drop_succ_cons, List.drop_zero]
    repeat first | (refine seq_take ?_ (by rfl) (fun wk k1 => ?_) ?_; rotate_left; (have hcc := HC.out wk k1; go_simp; first | exact OkX.val | (refine OkX.eqv (OkX.call (Fits_any _ _ _ _ _)) ?_; (try simp only [hx]); exact rfl)); simp only [Act.put, List.setIfInBounds_toArray, List.set_cons_zero, List.set_cons_succ]) | (refine seq_skip (by rfl) ?_; simp only [Act.put, List.setIfInBounds_toArray, List.set_cons_zero, List.set_cons_succ])
    refine seq_nil (fun wk k1 => ?_)
    obtain ⟨c0, c1, c2, c3, c4, c5, z0, f0, z1, f1, z2, f2, hB, hs⟩ := HC.out wk k1
    clear HC k1
    go_upto_region 6 with (go_at_call 16; (with_reducible refine (Sub_any _ _ _ _ _).mono ?_); rw [hE, hP, hP]; rintro e w1 ⟨rfl, hb⟩; obtain ⟨hc, hf⟩ := bcell hb; have hz := hb.size; have hB1 := step_below hB hs hb; have hs1 := hB1.size; have z10 : w.heap.size < w1.heap.size := (by omega); have z11 : w.heap.size + 1 < w1.heap.size := (by omega); have z12 : w.heap.size + 1 + 1 < w1.heap.size := (by omega))
    refine at_world (fun W0 hW0 => ?_)
    have hB0 : Below w.heap.size w W0 := by rw [hW0]; first | (with_reducible assumption) | (go_grown; done)
    have cc0 : W0.cell? ⟨w.heap.size, 0, none⟩ = some (.int .i64 A0) := by rw [hW0]; first | (with_reducible assumption) | (simp [go_sem]; done) | (simp [go_sem, *]; done)
    have cc1 : W0.cell? ⟨w.heap.size, 1, none⟩ = some (.int .i64 B0) := by rw [hW0]; first | (with_reducible assumption) | (simp [go_sem]; done) | (simp [go_sem, *]; done)
    have cc2 : W0.cell? ⟨w.heap.size + 1, 0, none⟩ = some (.int .i64 A1) := by rw [hW0]; first | (with_reducible assumption) | (simp [go_sem]; done) | (simp [go_sem, *]; done)
    have cc3 : W0.cell? ⟨w.heap.size + 1, 1, none⟩ = some (.int .i64 B1) := by rw [hW0]; first | (with_reducible assumption) | (simp [go_sem]; done) | (simp [go_sem, *]; done)
    have cc4 : W0.cell? ⟨w.heap.size + 1 + 1, 0, none⟩ = some (.int .i64 A2) := by rw [hW0]; first | (with_reducible assumption) | (simp [go_sem]; done) | (simp [go_sem, *]; done)
    have cc5 : W0.cell? ⟨w.heap.size + 1 + 1, 1, none⟩ = some (.int .i64 B2) := by rw [hW0]; first | (with_reducible assumption) | (simp [go_sem]; done) | (simp [go_sem, *]; done)
    have cc6 : W0.cell? ⟨w1.heap.size, 0, none⟩ = some (.int .i64 0) := by rw [hW0]; first | (with_reducible assumption) | (simp [go_sem]; done) | (simp [go_sem, *]; done)
    have cc7 : W0.cell? ⟨w1.heap.size, 1, none⟩ = some (.int .i64 0) := by rw [hW0]; first | (with_reducible assumption) | (simp [go_sem]; done) | (simp [go_sem, *]; done)
    have zz0 : w.heap.size < W0.heap.size := by rw [hW0]; first | (with_reducible assumption) | go_size
    have ff0 : ∀ o, W0.frozen? ⟨w.heap.size, o, none⟩ = false := by intro o; rw [hW0]; first | (simp [go_sem]; done) | (simp [go_sem, *]; done)
    have zz1 : w.heap.size + 1 < W0.heap.size := by rw [hW0]; first | (with_reducible assumption) | go_size
    have ff1 : ∀ o, W0.frozen? ⟨w.heap.size + 1, o, none⟩ = false := by intro o; rw [hW0]; first | (simp [go_sem]; done) | (simp [go_sem, *]; done)
    have zz2 : w.heap.size + 1 + 1 < W0.heap.size := by rw [hW0]; first | (with_reducible assumption) | go_size
    have ff2 : ∀ o, W0.frozen? ⟨w.heap.size + 1 + 1, o, none⟩ = false := by intro o; rw [hW0]; first | (simp [go_sem]; done) | (simp [go_sem, *]; done)
    have zz3 : w1.heap.size < W0.heap.size := by rw [hW0]; first | (with_reducible assumption) | go_size
    have ff3 : ∀ o, W0.frozen? ⟨w1.heap.size, o, none⟩ = false := by intro o; rw [hW0]; first | (simp [go_sem]; done) | (simp [go_sem, *]; done)
    have HC := Lib.hid (fun (w' : World) (h : Ext W0 w') => (⟨h.cell cc0, h.cell cc1, h.cell cc2, h.cell cc3, h.cell cc4, h.cell cc5, h.cell cc6, h.cell cc7, Nat.lt_of_lt_of_le zz0 h.size, (fun o => h.free zz0 (ff0 o)), Nat.lt_of_lt_of_le zz1 h.size, (fun o => h.free zz1 (ff1 o)), Nat.lt_of_lt_of_le zz2 h.size, (fun o => h.free zz2 (ff2 o)), Nat.lt_of_lt_of_le zz3 h.size, (fun o => h.free zz3 (ff3 o)), h.from hB0 hB0.size, Nat.le_trans hB0.size h.size⟩ : w'.cell? ⟨w.heap.size, 0, none⟩ = some (.int .i64 A0) ∧ w'.cell? ⟨w.heap.size, 1, none⟩ = some (.int .i64 B0) ∧ w'.cell? ⟨w.heap.size + 1, 0, none⟩ = some (.int .i64 A1) ∧ w'.cell? ⟨w.heap.size + 1, 1, none⟩ = some (.int .i64 B1) ∧ w'.cell? ⟨w.heap.size + 1 + 1, 0, none⟩ = some (.int .i64 A2) ∧ w'.cell? ⟨w.heap.size + 1 + 1, 1, none⟩ = some (.int .i64 B2) ∧ w'.cell? ⟨w1.heap.size, 0, none⟩ = some (.int .i64 0) ∧ w'.cell? ⟨w1.heap.size, 1, none⟩ = some (.int .i64 0) ∧ w.heap.size < w'.heap.size ∧ (∀ o, w'.frozen? ⟨w.heap.size, o, none⟩ = false) ∧ w.heap.size + 1 < w'.heap.size ∧ (∀ o, w'.frozen? ⟨w.heap.size + 1, o, none⟩ = false) ∧ w.heap.size + 1 + 1 < w'.heap.size ∧ (∀ o, w'.frozen? ⟨w.heap.size + 1 + 1, o, none⟩ = false) ∧ w1.heap.size < w'.heap.size ∧ (∀ o, w'.frozen? ⟨w1.heap.size, o, none⟩ = false) ∧ Below w.heap.size w w' ∧ w.heap.size ≤ w'.heap.size))
    clear hW0 hB0 cc0 cc1 cc2 cc3 cc4 cc5 cc6 cc7 zz0 ff0 zz1 ff1 zz2 ff2 zz3 ff3
    refine wp_region_lex 37 (by kernel_rfl) (by kernel_rfl) (fun _ _ _ _ _ h => h) ?_
    simp only [List.take_succ_cons, List.take_zero, List.drop_succ_cons, List.drop_zero]
    repeat first | (refine seq_take ?_ (by rfl) (fun wk k1 => ?_) ?_; rotate_left; (have hcc := HC.out wk k1; go_simp; first | exact OkX.val | (refine OkX.eqv (OkX.call (Fits_any _ _ _ _ _)) ?_; (try simp only [hx]); exact rfl) | (refine OkX.eqv OkX.eq2 ?_; (try simp only [hne]); exact rfl)); simp only [Act.put, List.setIfInBounds_toArray, List.set_cons_zero, List.set_cons_succ]) | (refine seq_skip (by rfl) ?_; simp only [Act.put, List.setIfInBounds_toArray, List.set_cons_zero, List.set_cons_succ])
    refine seq_nil (fun wk k1 => ?_)
    obtain ⟨c0, c1, c2, c3, c4, c5, c6, c7, z0, f0, z1, f1, z2, f2, z3, f3, hB, hs⟩ := HC.out wk k1
    clear HC k1
    go_wp2
    go_ret
    exact ⟨rfl, by assumption⟩
  · have hE : sumE A1 B1 A0 B0 (A1 - A0) (B1 - B0) = 0 := by rw [HE.out, hx]; rfl
    have hu := fit_anti hx
    clear HE HP
    cases hy : fitB A1 B1 A2 B2
    · skip
      refine at_world (fun W0 hW0 => ?_)
      have hB0 : Below w.heap.size w W0 := by rw [hW0]; first | (with_reducible assumption) | (go_grown; done)
      have cc0 : W0.cell? ⟨w.heap.size, 0, none⟩ = some (.int .i64 A0) := by rw [hW0]; first | (with_reducible assumption) | (simp [go_sem]; done) | (simp [go_sem, *]; done)
      have cc1 : W0.cell? ⟨w.heap.size, 1, none⟩ = some (.int .i64 B0) := by rw [hW0]; first | (with_reducible assumption) | (simp [go_sem]; done) | (simp [go_sem, *]; done)
      have cc2 : W0.cell? ⟨w.heap.size + 1, 0, none⟩ = some (.int .i64 A1) := by rw [hW0]; first | (with_reducible assumption) | (simp [go_sem]; done) | (simp [go_sem, *]; done)
      have cc3 : W0.cell? ⟨w.heap.size + 1, 1, none⟩ = some (.int .i64 B1) := by rw [hW0]; first | (with_reducible assumption) | (simp [go_sem]; done) | (simp [go_sem, *]; done)
      have cc4 : W0.cell? ⟨w.heap.size + 1 + 1, 0, none⟩ = some (.int .i64 A2) := by rw [hW0]; first | (with_reducible assumption) | (simp [go_sem]; done) | (simp [go_sem, *]; done)
      have cc5 : W0.cell? ⟨w.heap.size + 1 + 1, 1, none⟩ = some (.int .i64 B2) := by rw [hW0]; first | (with_reducible assumption) | (simp [go_sem]; done) | (simp [go_sem, *]; done)
      have zz0 : w.heap.size < W0.heap.size := by rw [hW0]; first | (with_reducible assumption) | go_size
      have ff0 : ∀ o, W0.frozen? ⟨w.heap.size, o, none⟩ = false := by intro o; rw [hW0]; first | (simp [go_sem]; done) | (simp [go_sem, *]; done)
      have zz1 : w.heap.size + 1 < W0.heap.size := by rw [hW0]; first | (with_reducible assumption) | go_size
      have ff1 : ∀ o, W0.frozen? ⟨w.heap.size + 1, o, none⟩ = false := by intro o; rw [hW0]; first | (simp [go_sem]; done) | (simp [go_sem, *]; done)
      have zz2 : w.heap.size + 1 + 1 < W0.heap.size := by rw [hW0]; first | (with_reducible assumption) | go_size
      have ff2 : ∀ o, W0.frozen? ⟨w.heap.size + 1 + 1, o, none⟩ = false := by intro o; rw [hW0]; first | (simp [go_sem]; done) | (simp [go_sem, *]; done)
      have HC := Lib.hid (fun (w' : World) (h : Ext W0 w') => (⟨h.cell cc0, h.cell cc1, h.cell cc2, h.cell cc3, h.cell cc4, h.cell cc5, Nat.lt_of_lt_of_le zz0 h.size, (fun o => h.free zz0 (ff0 o)), Nat.lt_of_lt_of_le zz1 h.size, (fun o => h.free zz1 (ff1 o)), Nat.lt_of_lt_of_le zz2 h.size, (fun o => h.free zz2 (ff2 o)), h.from hB0 hB0.size, Nat.le_trans hB0.size h.size⟩ : w'.cell? ⟨w.heap.size, 0, none⟩ = some (.int .i64 A0) ∧ w'.cell? ⟨w.heap.size, 1, none⟩ = some (.int .i64 B0) ∧ w'.cell? ⟨w.heap.size + 1, 0, none⟩ = some (.int .i64 A1) ∧ w'.cell? ⟨w.heap.size + 1, 1, none⟩ = some (.int .i64 B1) ∧ w'.cell? ⟨w.heap.size + 1 + 1, 0, none⟩ = some (.int .i64 A2) ∧ w'.cell? ⟨w.heap.size + 1 + 1, 1, none⟩ = some (.int .i64 B2) ∧ w.heap.size < w'.heap.size ∧ (∀ o, w'.frozen? ⟨w.heap.size, o, none⟩ = false) ∧ w.heap.size + 1 < w'.heap.size ∧ (∀ o, w'.frozen? ⟨w.heap.size + 1, o, none⟩ = false) ∧ w.heap.size + 1 + 1 < w'.heap.size ∧ (∀ o, w'.frozen? ⟨w.heap.size + 1 + 1, o, none⟩ = false) ∧ Below w.heap.size w w' ∧ w.heap.size ≤ w'.heap.size))
      clear hW0 hB0 cc0 cc1 cc2 cc3 cc4 cc5 zz0 ff0 zz1 ff1 zz2 ff2
      refine wp_region_lex 12 (by kernel_rfl) (by kernel_rfl) (fun _ _ _ _ _ h => h) ?_
      simp only [List.take_succ_cons, List.take_zero, List.drop_succ_cons, List.drop_zero]
      repeat first | (refine seq_take ?_ (by rfl) (fun wk k1 => ?_) ?_; rotate_left; (have hcc := HC.out wk k1; go_simp; first | exact OkX.val | (refine OkX.eqv (OkX.call (Fits_any _ _ _ _ _)) ?_; (try simp only [hx, hy]); exact rfl)); simp only [Act.put, List.setIfInBounds_toArray, List.set_cons_zero, List.set_cons_succ]) | (refine seq_skip (by rfl) ?_; simp only [Act.put, List.setIfInBounds_toArray, List.set_cons_zero, List.set_cons_succ])
      refine seq_nil (fun wk k1 => ?_)
      obtain ⟨c0, c1, c2, c3, c4, c5, z0, f0, z1, f1, z2, f2, hB, hs⟩ := HC.out wk k1
      clear HC k1
      go_upto_region 6 with (go_at_call 16; (with_reducible refine (Sub_any _ _ _ _ _).mono ?_); rw [hE]; rintro e w1 ⟨rfl, hb⟩; obtain ⟨hc, hf⟩ := bcell hb; have hz := hb.size; have hB1 := step_below hB hs hb; have hs1 := hB1.size; have z10 : w.heap.size < w1.heap.size := (by omega); have z11 : w.heap.size + 1 < w1.heap.size := (by omega); have z12 : w.heap.size + 1 + 1 < w1.heap.size := (by omega))
      refine at_world (fun W0 hW0 => ?_)
      have hB0 : Below w.heap.size w W0 := by rw [hW0]; first | (with_reducible assumption) | (go_grown; done)
      have cc0 : W0.cell? ⟨w.heap.size, 0, none⟩ = some (.int .i64 A0) := by rw [hW0]; first | (with_reducible assumption) | (simp [go_sem]; done) | (simp [go_sem, *]; done)
      have cc1 : W0.cell? ⟨w.heap.size, 1, none⟩ = some (.int .i64 B0) := by rw [hW0]; first | (with_reducible assumption) | (simp [go_sem]; done) | (simp [go_sem, *]; done)
      have cc2 : W0.cell? ⟨w.heap.size + 1, 0, none⟩ = some (.int .i64 A1) := by rw [hW0]; first | (with_reducible assumption) | (simp [go_sem]; done) | (simp [go_sem, *]; done)
      have cc3 : W0.cell? ⟨w.heap.size + 1, 1, none⟩ = some (.int .i64 B1) := by rw [hW0]; first | (with_reducible assumption) | (simp [go_sem]; done) | (simp [go_sem, *]; done)
      have cc4 : W0.cell? ⟨w.heap.size + 1 + 1, 0, none⟩ = some (.int .i64 A2) := by rw [hW0]; first | (with_reducible assumption) | (simp [go_sem]; done) | (simp [go_sem, *]; done)
      have cc5 : W0.cell? ⟨w.heap.size + 1 + 1, 1, none⟩ = some (.int .i64 B2) := by rw [hW0]; first | (with_reducible assumption) | (simp [go_sem]; done) | (simp [go_sem, *]; done)
      have zz0 : w.heap.size < W0.heap.size := by rw [hW0]; first | (with_reducible assumption) | go_size
      have ff0 : ∀ o, W0.frozen? ⟨w.heap.size, o, none⟩ = false := by intro o; rw [hW0]; first | (simp [go_sem]; done) | (simp [go_sem, *]; done)
      have zz1 : w.heap.size + 1 < W0.heap.size := by rw [hW0]; first | (with_reducible assumption) | go_size
      have ff1 : ∀ o, W0.frozen? ⟨w.heap.size + 1, o, none⟩ = false := by intro o; rw [hW0]; first | (simp [go_sem]; done) | (simp [go_sem, *]; done)
      have zz2 : w.heap.size + 1 + 1 < W0.heap.size := by rw [hW0]; first | (with_reducible assumption) | go_size
      have ff2 : ∀ o, W0.frozen? ⟨w.heap.size + 1 + 1, o, none⟩ = false := by intro o; rw [hW0]; first | (simp [go_sem]; done) | (simp [go_sem, *]; done)
      have HC := Lib.hid (fun (w' : World) (h : Ext W0 w') => (⟨h.cell cc0, h.cell cc1, h.cell cc2, h.cell cc3, h.cell cc4, h.cell cc5, Nat.lt_of_lt_of_le zz0 h.size, (fun o => h.free zz0 (ff0 o)), Nat.lt_of_lt_of_le zz1 h.size, (fun o => h.free zz1 (ff1 o)), Nat.lt_of_lt_of_le zz2 h.size, (fun o => h.free zz2 (ff2 o)), h.from hB0 hB0.size, Nat.le_trans hB0.size h.size⟩ : w'.cell? ⟨w.heap.size, 0, none⟩ = some (.int .i64 A0) ∧ w'.cell? ⟨w.heap.size, 1, none⟩ = some (.int .i64 B0) ∧ w'.cell? ⟨w.heap.size + 1, 0, none⟩ = some (.int .i64 A1) ∧ w'.cell? ⟨w.heap.size + 1, 1, none⟩ = some (.int .i64 B1) ∧ w'.cell? ⟨w.heap.size + 1 + 1, 0, none⟩ = some (.int .i64 A2) ∧ w'.cell? ⟨w.heap.size + 1 + 1, 1, none⟩ = some (.int .i64 B2) ∧ w.heap.size < w'.heap.size ∧ (∀ o, w'.frozen? ⟨w.heap.size, o, none⟩ = false) ∧ w.heap.size + 1 < w'.heap.size ∧ (∀ o, w'.frozen? ⟨w.heap.size + 1, o, none⟩ = false) ∧ w.heap.size + 1 + 1 < w'.heap.size ∧ (∀ o, w'.frozen? ⟨w.heap.size + 1 + 1, o, none⟩ = false) ∧ Below w.heap.size w w' ∧ w.heap.size ≤ w'.heap.size))
      clear hW0 hB0 cc0 cc1 cc2 cc3 cc4 cc5 zz0 ff0 zz1 ff1 zz2 ff2
      refine wp_region_lex 37 (by kernel_rfl) (by kernel_rfl) (fun _ _ _ _ _ h => h) ?_
      simp only [List.take_succ_cons, List.take_zero, List.drop_succ_cons, List.drop_zero]
      repeat first | (refine seq_take ?_ (by rfl) (fun wk k1 => ?_) ?_; rotate_left; (have hcc := HC.out wk k1; go_simp; first | exact OkX.val | (refine OkX.eqv (OkX.call (Fits_any _ _ _ _ _)) ?_; (try simp only [hx, hu]); exact rfl) | (refine OkX.eqv OkX.eq2 ?_; exact rfl)); simp only [Act.put, List.setIfInBounds_toArray, List.set_cons_zero, List.set_cons_succ]) | (refine seq_skip (by rfl) ?_; simp only [Act.put, List.setIfInBounds_toArray, List.set_cons_zero, List.set_cons_succ])
      refine seq_nil (fun wk k1 => ?_)
      obtain ⟨c0, c1, c2, c3, c4, c5, z0, f0, z1, f1, z2, f2, hB, hs⟩ := HC.out wk k1
      clear HC k1
      go_wp2
      go_ret
      exact ⟨rfl, by assumption⟩
    · have hz' := fit_trans hx hy
      refine at_world (fun W0 hW0 => ?_)
      have hB0 : Below w.heap.size w W0 := by rw [hW0]; first | (with_reducible assumption) | (go_grown; done)
      have cc0 : W0.cell? ⟨w.heap.size, 0, none⟩ = some (.int .i64 A0) := by rw [hW0]; first | (with_reducible assumption) | (simp [go_sem]; done) | (simp [go_sem, *]; done)
      have cc1 : W0.cell? ⟨w.heap.size, 1, none⟩ = some (.int .i64 B0) := by rw [hW0]; first | (with_reducible assumption) | (simp [go_sem]; done) | (simp [go_sem, *]; done)
      have cc2 : W0.cell? ⟨w.heap.size + 1, 0, none⟩ = some (.int .i64 A1) := by rw [hW0]; first | (with_reducible assumption) | (simp [go_sem]; done) | (simp [go_sem, *]; done)
      have cc3 : W0.cell? ⟨w.heap.size + 1, 1, none⟩ = some (.int .i64 B1) := by rw [hW0]; first | (with_reducible assumption) | (simp [go_sem]; done) | (simp [go_sem, *]; done)
      have cc4 : W0.cell? ⟨w.heap.size + 1 + 1, 0, none⟩ = some (.int .i64 A2) := by rw [hW0]; first | (with_reducible assumption) | (simp [go_sem]; done) | (simp [go_sem, *]; done)
      have cc5 : W0.cell? ⟨w.heap.size + 1 + 1, 1, none⟩ = some (.int .i64 B2) := by rw [hW0]; first | (with_reducible assumption) | (simp [go_sem]; done) | (simp [go_sem, *]; done)
      have zz0 : w.heap.size < W0.heap.size := by rw [hW0]; first | (with_reducible assumption) | go_size
      have ff0 : ∀ o, W0.frozen? ⟨w.heap.size, o, none⟩ = false := by intro o; rw [hW0]; first | (simp [go_sem]; done) | (simp [go_sem, *]; done)
      have zz1 : w.heap.size + 1 < W0.heap.size := by rw [hW0]; first | (with_reducible assumption) | go_size
      have ff1 : ∀ o, W0.frozen? ⟨w.heap.size + 1, o, none⟩ = false := by intro o; rw [hW0]; first | (simp [go_sem]; done) | (simp [go_sem, *]; done)
      have zz2 : w.heap.size + 1 + 1 < W0.heap.size := by rw [hW0]; first | (with_reducible assumption) | go_size
      have ff2 : ∀ o, W0.frozen? ⟨w.heap.size + 1 + 1, o, none⟩ = false := by intro o; rw [hW0]; first | (simp [go_sem]; done) | (simp [go_sem, *]; done)
      have HC := Lib.hid (fun (w' : World) (h : Ext W0 w') => (⟨h.cell cc0, h.cell cc1, h.cell cc2, h.cell cc3, h.cell cc4, h.cell cc5, Nat.lt_of_lt_of_le zz0 h.size, (fun o => h.free zz0 (ff0 o)), Nat.lt_of_lt_of_le zz1 h.size, (fun o => h.free zz1 (ff1 o)), Nat.lt_of_lt_of_le zz2 h.size, (fun o => h.free zz2 (ff2 o)), h.from hB0 hB0.size, Nat.le_trans hB0.size h.size⟩ : w'.cell? ⟨w.heap.size, 0, none⟩ = some (.int .i64 A0) ∧ w'.cell? ⟨w.heap.size, 1, none⟩ = some (.int .i64 B0) ∧ w'.cell? ⟨w.heap.size + 1, 0, none⟩ = some (.int .i64 A1) ∧ w'.cell? ⟨w.heap.size + 1, 1, none⟩ = some (.int .i64 B1) ∧ w'.cell? ⟨w.heap.size + 1 + 1, 0, none⟩ = some (.int .i64 A2) ∧ w'.cell? ⟨w.heap.size + 1 + 1, 1, none⟩ = some (.int .i64 B2) ∧ w.heap.size < w'.heap.size ∧ (∀ o, w'.frozen? ⟨w.heap.size, o, none⟩ = false) ∧ w.heap.size + 1 < w'.heap.size ∧ (∀ o, w'.frozen? ⟨w.heap.size + 1, o, none⟩ = false) ∧ w.heap.size + 1 + 1 < w'.heap.size ∧ (∀ o, w'.frozen? ⟨w.heap.size + 1 + 1, o, none⟩ = false) ∧ Below w.heap.size w w' ∧ w.heap.size ≤ w'.heap.size))
      clear hW0 hB0 cc0 cc1 cc2 cc3 cc4 cc5 zz0 ff0 zz1 ff1 zz2 ff2
      refine wp_region_lex 12 (by kernel_rfl) (by kernel_rfl) (fun _ _ _ _ _ h => h) ?_
      simp only [List.take_succ_cons, List.take_zero, List.drop_succ_cons, List.drop_zero]
      repeat first | (refine seq_take ?_ (by rfl) (fun wk k1 => ?_) ?_; rotate_left; (have hcc := HC.out wk k1; go_simp; first | exact OkX.val | (refine OkX.eqv (OkX.call (Fits_any _ _ _ _ _)) ?_; (try simp only [hx, hy, hz']); exact rfl)); simp only [Act.put, List.setIfInBounds_toArray, List.set_cons_zero, List.set_cons_succ]) | (refine seq_skip (by rfl) ?_; simp only [Act.put, List.setIfInBounds_toArray, List.set_cons_zero, List.set_cons_succ])
      refine seq_nil (fun wk k1 => ?_)
      obtain ⟨c0, c1, c2, c3, c4, c5, z0, f0, z1, f1, z2, f2, hB, hs⟩ := HC.out wk k1
      clear HC k1
      go_upto_region 6 with (go_at_call 16; (with_reducible refine (Sub_any _ _ _ _ _).mono ?_); rw [hE]; rintro e w1 ⟨rfl, hb⟩; obtain ⟨hc, hf⟩ := bcell hb; have hz := hb.size; have hB1 := step_below hB hs hb; have hs1 := hB1.size; have z10 : w.heap.size < w1.heap.size := (by omega); have z11 : w.heap.size + 1 < w1.heap.size := (by omega); have z12 : w.heap.size + 1 + 1 < w1.heap.size := (by omega))
      refine at_world (fun W0 hW0 => ?_)
      have hB0 : Below w.heap.size w W0 := by rw [hW0]; first | (with_reducible assumption) | (go_grown; done)
      have cc0 : W0.cell? ⟨w.heap.size, 0, none⟩ = some (.int .i64 A0) := by rw [hW0]; first | (with_reducible assumption) | (simp [go_sem]; done) | (simp [go_sem, *]; done)
      have cc1 : W0.cell? ⟨w.heap.size, 1, none⟩ = some (.int .i64 B0) := by rw [hW0]; first | (with_reducible assumption) | (simp [go_sem]; done) | (simp [go_sem, *]; done)
      have cc2 : W0.cell? ⟨w.heap.size + 1, 0, none⟩ = some (.int .i64 A1) := by rw [hW0]; first | (with_reducible assumption) | (simp [go_sem]; done) | (simp [go_sem, *]; done)
      have cc3 : W0.cell? ⟨w.heap.size + 1, 1, none⟩ = some (.int .i64 B1) := by rw [hW0]; first | (with_reducible assumption) | (simp [go_sem]; done) | (simp [go_sem, *]; done)
      have cc4 : W0.cell? ⟨w.heap.size + 1 + 1, 0, none⟩ = some (.int .i64 A2) := by rw [hW0]; first | (with_reducible assumption) | (simp [go_sem]; done) | (simp [go_sem, *]; done)
      have cc5 : W0.cell? ⟨w.heap.size + 1 + 1, 1, none⟩ = some (.int .i64 B2) := by rw [hW0]; first | (with_reducible assumption) | (simp [go_sem]; done) | (simp [go_sem, *]; done)
      have zz0 : w.heap.size < W0.heap.size := by rw [hW0]; first | (with_reducible assumption) | go_size
      have ff0 : ∀ o, W0.frozen? ⟨w.heap.size, o, none⟩ = false := by intro o; rw [hW0]; first | (simp [go_sem]; done) | (simp [go_sem, *]; done)
      have zz1 : w.heap.size + 1 < W0.heap.size := by rw [hW0]; first | (with_reducible assumption) | go_size
      have ff1 : ∀ o, W0.frozen? ⟨w.heap.size + 1, o, none⟩ = false := by intro o; rw [hW0]; first | (simp [go_sem]; done) | (simp [go_sem, *]; done)
      have zz2 : w.heap.size + 1 + 1 < W0.heap.size := by rw [hW0]; first | (with_reducible assumption) | go_size
      have ff2 : ∀ o, W0.frozen? ⟨w.heap.size + 1 + 1, o, none⟩ = false := by intro o; rw [hW0]; first | (simp [go_sem]; done) | (simp [go_sem, *]; done)
      have HC := Lib.hid (fun (w' : World) (h : Ext W0 w') => (⟨h.cell cc0, h.cell cc1, h.cell cc2, h.cell cc3, h.cell cc4, h.cell cc5, Nat.lt_of_lt_of_le zz0 h.size, (fun o => h.free zz0 (ff0 o)), Nat.lt_of_lt_of_le zz1 h.size, (fun o => h.free zz1 (ff1 o)), Nat.lt_of_lt_of_le zz2 h.size, (fun o => h.free zz2 (ff2 o)), h.from hB0 hB0.size, Nat.le_trans hB0.size h.size⟩ : w'.cell? ⟨w.heap.size, 0, none⟩ = some (.int .i64 A0) ∧ w'.cell? ⟨w.heap.size, 1, none⟩ = some (.int .i64 B0) ∧ w'.cell? ⟨w.heap.size + 1, 0, none⟩ = some (.int .i64 A1) ∧ w'.cell? ⟨w.heap.size + 1, 1, none⟩ = some (.int .i64 B1) ∧ w'.cell? ⟨w.heap.size + 1 + 1, 0, none⟩ = some (.int .i64 A2) ∧ w'.cell? ⟨w.heap.size + 1 + 1, 1, none⟩ = some (.int .i64 B2) ∧ w.heap.size < w'.heap.size ∧ (∀ o, w'.frozen? ⟨w.heap.size, o, none⟩ = false) ∧ w.heap.size + 1 < w'.heap.size ∧ (∀ o, w'.frozen? ⟨w.heap.size + 1, o, none⟩ = false) ∧ w.heap.size + 1 + 1 < w'.heap.size ∧ (∀ o, w'.frozen? ⟨w.heap.size + 1 + 1, o, none⟩ = false) ∧ Below w.heap.size w w' ∧ w.heap.size ≤ w'.heap.size))
      clear hW0 hB0 cc0 cc1 cc2 cc3 cc4 cc5 zz0 ff0 zz1 ff1 zz2 ff2
      refine wp_region_lex 37 (by kernel_rfl) (by kernel_rfl) (fun _ _ _ _ _ h => h) ?_
      simp only [List.take_succ_cons, List.take_zero, List.drop_succ_cons, List.drop_zero]
      repeat first | (refine seq_take ?_ (by rfl) (fun wk k1 => ?_) ?_; rotate_left; (have hcc := HC.out wk k1; go_simp; first | exact OkX.val | (refine OkX.eqv (OkX.call (Fits_any _ _ _ _ _)) ?_; (try simp only [hx, hu]); exact rfl) | (refine OkX.eqv OkX.eq2 ?_; exact rfl)); simp only [Act.put, List.setIfInBounds_toArray, List.set_cons_zero, List.set_cons_succ]) | (refine seq_skip (by rfl) ?_; simp only [Act.put, List.setIfInBounds_toArray, List.set_cons_zero, List.set_cons_succ])
      refine seq_nil (fun wk k1 => ?_)
      obtain ⟨c0, c1, c2, c3, c4, c5, z0, f0, z1, f1, z2, f2, hB, hs⟩ := HC.out wk k1
      clear HC k1
      go_wp2
      go_ret
      exact ⟨rfl, by assumption⟩

theorem own : ownKnob Try.prog.godebug = none := by kernel_rfl
theorem cellsVec : Try.prog.cellsOf 23 = 2 := by kernel_rfl
set_option maxRecDepth 100000 in
theorem lifted (os : Os) (started : os.Started) (H : Type) (enc : TypeId × Value → H) :
    ReturnsInHanded {} Try.checked os 11 .any (Rows.rvecFitSpec.pre6 enc Try.prog Try.f11 Rows.rvecFitRow.domain false) (Rows.rvecFitSpec.post enc Try.prog Try.f11 false true false false) := by
  refine returnsInHanded_of_change (C := Try.checked) own started (by kernel_rfl) Try.func11
    (ChangeSpec.witness6 (enc := enc) (C := Try.checked) false ⟨#[], #[.agg #[.int .i64 0, .int .i64 0], .agg #[.int .i64 0, .int .i64 0], .agg #[.int .i64 0, .int .i64 0], .int .i64 0], []⟩ 8 (by kernel_rfl) (by kernel_rfl) (by kernel_rfl) (by kernel_rfl)) ?_
  intro W base args ds gs before hval0 hW hcnd _
  have hval : ∀ (j : Nat) t v, Try.f11.params[j]? = some t → args[j]? = some v → Value.okWide Try.prog W .any base t v := hval0
  have hW' := hW
  obtain ⟨p, q, hA0, hV, rfl, hfz, hnd⟩ := hW
  have hA : DataW.TrodAll enc Try.prog W 0 (fun _ => true) true Try.f11.params.toList args.toList ds p := hA0
  rw [Try.params11] at hA hval
  obtain ⟨v0, vs0, d0, ds0, p0, q0, hargs, rfl, rfl, h0, r0⟩ := trodAll_cons hA
  obtain ⟨v1, vs1, d1, ds1, p1, q1, rfl, rfl, rfl, h1, r1⟩ := trodAll_cons r0
  obtain ⟨v2, vs2, d2, ds2, p2, q2, rfl, rfl, rfl, h2, r2⟩ := trodAll_cons r1
  obtain ⟨v3, vs3, d3, ds3, p3, q3, rfl, rfl, rfl, h3, r3⟩ := trodAll_cons r2
  obtain ⟨rfl, rfl, rfl⟩ := trodAll_nil r3
  obtain rfl : args = #[v0, v1, v2, v3] := by cases args; simp_all
  obtain ⟨rfl, rfl⟩ := trodVars_none hV
  obtain ⟨c0, e0, y0, z0, m0, rfl, rfl, rfl, hy0, hz0⟩ := open_agg2 Try.underlying23 (by kernel_rfl) cellsVec (hval 0 23 v0 rfl rfl) h0
  obtain ⟨a0, ea0, rfl, wa0⟩ := DataW.trod_int Try.underlying3 hy0
  obtain ⟨b0, eb0, rfl, wb0⟩ := DataW.trod_int Try.underlying3 hz0
  simp at ea0 eb0
  subst ea0 eb0
  obtain ⟨c1, e1, y1, z1, m1, rfl, rfl, rfl, hy1, hz1⟩ := open_agg2 Try.underlying23 (by kernel_rfl) cellsVec (hval 1 23 v1 rfl rfl) h1
  obtain ⟨a1, ea1, rfl, wa1⟩ := DataW.trod_int Try.underlying3 hy1
  obtain ⟨b1, eb1, rfl, wb1⟩ := DataW.trod_int Try.underlying3 hz1
  simp at ea1 eb1
  subst ea1 eb1
  obtain ⟨c2, e2, y2, z2, m2, rfl, rfl, rfl, hy2, hz2⟩ := open_agg2 Try.underlying23 (by kernel_rfl) cellsVec (hval 2 23 v2 rfl rfl) h2
  obtain ⟨a2, ea2, rfl, wa2⟩ := DataW.trod_int Try.underlying3 hy2
  obtain ⟨b2, eb2, rfl, wb2⟩ := DataW.trod_int Try.underlying3 hz2
  simp at ea2 eb2
  subst ea2 eb2
  obtain ⟨a3, rfl, rfl, rfl, w3⟩ := open_int Try.underlying3 (hval 3 3 v3 rfl rfl) h3
  clear hA0 hval0
  have structReads0 : ∀ (W' : World) (sp : Nat → Bool), DataW.Trod enc Try.prog W' 0 sp true 23 (.agg #[.int .i64 a0, .int .i64 b0]) (.agg [.lit (.int .i64 a0), .lit (.int .i64 b0)]) [] := fun W' sp =>
    shut_agg2 (y0 := (.lit (.int .i64 a0), [])) (y1 := (.lit (.int .i64 b0), [])) Try.underlying23 (by kernel_rfl) cellsVec ⟨1, by simp [DataW.trod, Try.underlying3, wa0]⟩ ⟨1, by simp [DataW.trod, Try.underlying3, wb0]⟩
  have structReads1 : ∀ (W' : World) (sp : Nat → Bool), DataW.Trod enc Try.prog W' 0 sp true 23 (.agg #[.int .i64 a1, .int .i64 b1]) (.agg [.lit (.int .i64 a1), .lit (.int .i64 b1)]) [] := fun W' sp =>
    shut_agg2 (y0 := (.lit (.int .i64 a1), [])) (y1 := (.lit (.int .i64 b1), [])) Try.underlying23 (by kernel_rfl) cellsVec ⟨1, by simp [DataW.trod, Try.underlying3, wa1]⟩ ⟨1, by simp [DataW.trod, Try.underlying3, wb1]⟩
  have structReads2 : ∀ (W' : World) (sp : Nat → Bool), DataW.Trod enc Try.prog W' 0 sp true 23 (.agg #[.int .i64 a2, .int .i64 b2]) (.agg [.lit (.int .i64 a2), .lit (.int .i64 b2)]) [] := fun W' sp =>
    shut_agg2 (y0 := (.lit (.int .i64 a2), [])) (y1 := (.lit (.int .i64 b2), [])) Try.underlying23 (by kernel_rfl) cellsVec ⟨1, by simp [DataW.trod, Try.underlying3, wa2]⟩ ⟨1, by simp [DataW.trod, Try.underlying3, wb2]⟩
  refine (walk a0 b0 wa0 wb0 a1 b1 wa1 wb1 a2 b2 wa2 wb2 a3 w3 W).mono fun e W' ⟨he, bel⟩ => ?_
  subst he
  exact ⟨_, rfl, _, _, _, [], _, [], hW', trodAll_mk1 (shut_bool Try.underlying4 _), (trodAll_cons_mk (structReads0 W' _) (trodAll_cons_mk (structReads1 W' _) (trodAll_cons_mk (structReads2 W' _) (trodAll_cons_mk (shut_int Try.underlying3 w3) trodAll_mk0)))), rfl, bel.frame _, fun h => by cases h⟩

theorem over : Rows.rvecFitRow.holds Try.pinned (OpenSpec.ofChange Rows.rvecFitSpec) :=
  OpenClaim.holds_of_wide 11 Try.f11 rfl rfl rfl rfl rfl rfl rfl ⟨rfl, rfl, rfl, rfl, rfl⟩ rfl rfl rfl rfl rfl (by kernel_rfl) Try.func11 (by kernel_rfl)
    (of_decide_eq_true (by kernel_rfl)) (by unfold Func.isWrapper; first | (rw [if_pos (by decide +kernel)]; kernel_rfl) | (rw [if_neg (by decide +kernel)]; exact ⟨rfl, rfl⟩))
    (fun os started H enc _ => lifted os started H enc)

theorem proved : Rows.RvecFitSaid := over
#print axioms proved
end Go.Proofs.Ytkmhbjeacoeomaa.RvecFit
