/- asks.Check, dispatchref9.Check. -/
import Derived.Test.YtbocpkdnlpobkaaAkT
import Derived.Laws.Bits64
import Derived.Deep.CutRange
namespace Go.Proofs.Ytbocpkdnlpobkaa
open Go.RowKit

def inA (x l m : Int) : Bool := decide (l ≤ x) && decide (x ≤ m)
theorem awithin_any (x l m : Int) (w : World) : Calls Try.prog 26 #[.int .i64 x, .int .i64 l, .int .i64 m] w fun e w' => e = .returned (.bool (inA x l m)) ∧ w = w' := by
  by_cases h : l ≤ x
  · have h1 : decide (l ≤ x) = true := by simpa using h
    have HV := Lib.hid (show inA x l m = decide (x ≤ m) by unfold inA; rw [h1]; rfl)
    clear h
    go_enter Try.func26, Try.ntmps26
    go_wp2
    go_ret
    exact ⟨by rw [HV.out]; rfl, rfl⟩
  · have h1 : decide (l ≤ x) = false := by simpa using h
    have HV := Lib.hid (show inA x l m = false by unfold inA; rw [h1]; rfl)
    clear h
    go_enter Try.func26, Try.ntmps26
    go_wp2
    go_ret
    exact ⟨by rw [HV.out]; rfl, rfl⟩
def bndA (a : AD) : Bool := inA a.prio 0 9 && (inA a.mem 1 1073741824 && inA a.cores 1 1073741824)
def labA (a : AD) (L : Int) : Bool := decide (0 ≤ a.label) && decide (a.label < L)
def plcA (a : AD) : Bool := inA a.node (-1) 999 && (inA a.rack (-1) 99 && (a.node == -1 || a.rack != -1))
def chkE (b1 b2 b3 b4 : Bool) : Int := if b1 && b2 && b3 then if b4 then 0 else 4 else 1
def chkA (a : AD) (L : Int) : Int := chkE (bndA a) (labA a L) (plcA a) (inA a.count 0 50)

set_option maxRecDepth 100000 in
set_option maxHeartbeats 1600000 in
theorem abounded_any (a : AD) (w : World) : Calls Try.prog 23 #[askV a] w fun e w' => e = .returned (.bool (bndA a)) ∧ Ext w w' := by
  have key : ∀ b1 b2 b3 : Bool, inA a.prio 0 9 = b1 → inA a.mem 1 1073741824 = b2 → inA a.cores 1 1073741824 = b3 → Calls Try.prog 23 #[askV a] w fun e w' => e = .returned (.bool (b1 && (b2 && b3))) ∧ Ext w w' := by
    intro b1 b2 b3 e1 e2 e3
    have H1 := Lib.hid (fun W => (e1 ▸ awithin_any a.prio 0 9 W : Calls Try.prog 26 #[.int .i64 a.prio, .int .i64 0, .int .i64 9] W fun e w' => e = .returned (.bool b1) ∧ W = w'))
    have H2 := Lib.hid (fun W => (e2 ▸ awithin_any a.mem 1 1073741824 W : Calls Try.prog 26 #[.int .i64 a.mem, .int .i64 1, .int .i64 1073741824] W fun e w' => e = .returned (.bool b2) ∧ W = w'))
    have H3 := Lib.hid (fun W => (e3 ▸ awithin_any a.cores 1 1073741824 W : Calls Try.prog 26 #[.int .i64 a.cores, .int .i64 1, .int .i64 1073741824] W fun e w' => e = .returned (.bool b3) ∧ W = w'))
    clear e1 e2 e3
    unfold askV
    go_enter Try.func23, Try.ntmps23
    go_wp2_with fail
    (with_reducible refine (H1.out _).mono ?_)
    rintro e w1 ⟨rfl, rfl⟩
    cases b1
    · go_wp2
      go_ret
      exact ⟨rfl, ext_alloc _ _⟩
    go_wp2_with fail
    (with_reducible refine (H2.out _).mono ?_)
    rintro e w1 ⟨rfl, rfl⟩
    cases b2
    · go_wp2
      go_ret
      exact ⟨rfl, ext_alloc _ _⟩
    go_wp2_with fail
    (with_reducible refine (H3.out _).mono ?_)
    rintro e w1 ⟨rfl, rfl⟩
    go_wp2
    go_ret
    exact ⟨rfl, ext_alloc _ _⟩
  exact key _ _ _ rfl rfl rfl
theorem alabelled_any (a : AD) (L : Int) (w : World) : Calls Try.prog 24 #[askV a, .int .i64 L] w fun e w' => e = .returned (.bool (labA a L)) ∧ Ext w w' := by
  unfold askV
  by_cases h : 0 ≤ a.label
  · have h1 : decide (0 ≤ a.label) = true := by simpa using h
    have HV := Lib.hid (show labA a L = decide (a.label < L) by unfold labA; rw [h1]; rfl)
    clear h
    go_enter Try.func24, Try.ntmps24
    go_wp2
    go_ret
    exact ⟨by rw [HV.out]; rfl, ext_alloc _ _⟩
  · have h1 : decide (0 ≤ a.label) = false := by simpa using h
    have HV := Lib.hid (show labA a L = false by unfold labA; rw [h1]; rfl)
    clear h
    go_enter Try.func24, Try.ntmps24
    go_wp2
    go_ret
    exact ⟨by rw [HV.out]; rfl, ext_alloc _ _⟩
set_option maxRecDepth 100000 in
set_option maxHeartbeats 1600000 in
theorem aplaced_any (a : AD) (w : World) : Calls Try.prog 25 #[askV a] w fun e w' => e = .returned (.bool (plcA a)) ∧ Ext w w' := by
  have key : ∀ b1 b2 b3 b4 : Bool, inA a.node (-1) 999 = b1 → inA a.rack (-1) 99 = b2 → (a.node == -1) = b3 → (a.rack != -1) = b4 → Calls Try.prog 25 #[askV a] w fun e w' => e = .returned (.bool (b1 && (b2 && (b3 || b4)))) ∧ Ext w w' := by
    intro b1 b2 b3 b4 e1 e2 e3 e4
    have H1 := Lib.hid (fun W => (e1 ▸ awithin_any a.node (-1) 999 W : Calls Try.prog 26 #[.int .i64 a.node, .int .i64 (-1), .int .i64 999] W fun e w' => e = .returned (.bool b1) ∧ W = w'))
    have H2 := Lib.hid (fun W => (e2 ▸ awithin_any a.rack (-1) 99 W : Calls Try.prog 26 #[.int .i64 a.rack, .int .i64 (-1), .int .i64 99] W fun e w' => e = .returned (.bool b2) ∧ W = w'))
    clear e1 e2
    unfold askV
    go_enter Try.func25, Try.ntmps25
    go_wp2_with fail
    (with_reducible refine (H1.out _).mono ?_)
    rintro e w1 ⟨rfl, rfl⟩
    cases b1
    · go_wp2
      go_ret
      exact ⟨rfl, ext_alloc _ _⟩
    go_wp2_with fail
    (with_reducible refine (H2.out _).mono ?_)
    rintro e w1 ⟨rfl, rfl⟩
    cases b2
    · go_wp2
      go_ret
      exact ⟨rfl, ext_alloc _ _⟩
    cases b3
    · cases b4
      · go_wp2
        go_ret
        exact ⟨rfl, ext_alloc _ _⟩
      · go_wp2
        go_ret
        exact ⟨rfl, ext_alloc _ _⟩
    · go_wp2
      go_ret
      exact ⟨rfl, ext_alloc _ _⟩
  exact key _ _ _ _ rfl rfl rfl rfl

set_option maxRecDepth 100000 in
set_option maxHeartbeats 1600000 in
theorem Check_any9 (a : AD) (L : Int) (w : World) : Calls Try.prog 11 #[askV a, .int .i64 L] w fun e w' => e = .returned (.int .i64 (chkA a L)) ∧ Ext w w' := by
  have key : ∀ b1 b2 b3 b4 : Bool, bndA a = b1 → labA a L = b2 → plcA a = b3 → inA a.count 0 50 = b4 → Calls Try.prog 11 #[askV a, .int .i64 L] w fun e w' => e = .returned (.int .i64 (chkE b1 b2 b3 b4)) ∧ Ext w w' := by
    intro b1 b2 b3 b4 e1 e2 e3 e4
    have H1 := Lib.hid (fun W => (e1 ▸ abounded_any a W : Calls Try.prog 23 #[askV a] W fun e w' => e = .returned (.bool b1) ∧ Ext W w'))
    have H2 := Lib.hid (fun W => (e2 ▸ alabelled_any a L W : Calls Try.prog 24 #[askV a, .int .i64 L] W fun e w' => e = .returned (.bool b2) ∧ Ext W w'))
    have H3 := Lib.hid (fun W => (e3 ▸ aplaced_any a W : Calls Try.prog 25 #[askV a] W fun e w' => e = .returned (.bool b3) ∧ Ext W w'))
    have H4 := Lib.hid (fun W => (e4 ▸ awithin_any a.count 0 50 W : Calls Try.prog 26 #[.int .i64 a.count, .int .i64 0, .int .i64 50] W fun e w' => e = .returned (.bool b4) ∧ W = w'))
    clear e1 e2 e3 e4
    obtain ⟨ap, al, am, ac, an, ao, ar, ami⟩ := a
    simp only [askV] at H1 H2 H3 H4 ⊢
    go_enter Try.func11, Try.ntmps11
    go_wp2_with fail
    (with_reducible refine (H1.out _).mono ?_)
    rintro e w1 ⟨rfl, hx1⟩
    have X1 := Lib.hid ((ext_alloc w (.cells #[.int .i64 ap, .int .i64 al, .int .i64 am, .int .i64 ac, .int .i64 an, .int .i64 ao, .int .i64 ar, .int .i64 ami] 25)).trans hx1)
    have HB1 := Lib.hid (ext_blk hx1 (heap_alloc_new w (.cells #[.int .i64 ap, .int .i64 al, .int .i64 am, .int .i64 ac, .int .i64 an, .int .i64 ao, .int .i64 ar, .int .i64 ami] 25)))
    obtain ⟨B, hB⟩ : ∃ B, B = w.heap.size := ⟨_, rfl⟩
    rw [← hB] at HB1 ⊢
    clear hx1 hB
    have t0 := bcel (HB1.out) 0 (.int .i64 ap) rfl
    have t1 := bcel (HB1.out) 1 (.int .i64 al) rfl
    have t2 := bcel (HB1.out) 2 (.int .i64 am) rfl
    have t3 := bcel (HB1.out) 3 (.int .i64 ac) rfl
    have t4 := bcel (HB1.out) 4 (.int .i64 an) rfl
    have t5 := bcel (HB1.out) 5 (.int .i64 ao) rfl
    have t6 := bcel (HB1.out) 6 (.int .i64 ar) rfl
    have t7 := bcel (HB1.out) 7 (.int .i64 ami) rfl
    cases b1
    · go_wp2
      go_ret
      exact ⟨rfl, X1.out⟩
    go_wp2_with fail
    (with_reducible refine (H2.out _).mono ?_)
    rintro e w2 ⟨rfl, hx2⟩
    have X2 := Lib.hid (X1.out.trans hx2)
    have HB2 := Lib.hid (ext_blk hx2 HB1.out)
    clear hx2 t0 t1 t2 t3 t4 t5 t6 t7
    have t0 := bcel (HB2.out) 0 (.int .i64 ap) rfl
    have t1 := bcel (HB2.out) 1 (.int .i64 al) rfl
    have t2 := bcel (HB2.out) 2 (.int .i64 am) rfl
    have t3 := bcel (HB2.out) 3 (.int .i64 ac) rfl
    have t4 := bcel (HB2.out) 4 (.int .i64 an) rfl
    have t5 := bcel (HB2.out) 5 (.int .i64 ao) rfl
    have t6 := bcel (HB2.out) 6 (.int .i64 ar) rfl
    have t7 := bcel (HB2.out) 7 (.int .i64 ami) rfl
    cases b2
    · go_wp2
      go_ret
      exact ⟨rfl, X2.out⟩
    go_wp2_with fail
    (with_reducible refine (H3.out _).mono ?_)
    rintro e w3 ⟨rfl, hx3⟩
    have X3 := Lib.hid (X2.out.trans hx3)
    have HB3 := Lib.hid (ext_blk hx3 HB2.out)
    clear hx3 t0 t1 t2 t3 t4 t5 t6 t7
    have t0 := bcel (HB3.out) 0 (.int .i64 ap) rfl
    have t1 := bcel (HB3.out) 1 (.int .i64 al) rfl
    have t2 := bcel (HB3.out) 2 (.int .i64 am) rfl
    have t3 := bcel (HB3.out) 3 (.int .i64 ac) rfl
    have t4 := bcel (HB3.out) 4 (.int .i64 an) rfl
    have t5 := bcel (HB3.out) 5 (.int .i64 ao) rfl
    have t6 := bcel (HB3.out) 6 (.int .i64 ar) rfl
    have t7 := bcel (HB3.out) 7 (.int .i64 ami) rfl
    cases b3
    · go_wp2
      go_ret
      exact ⟨rfl, X3.out⟩
    go_wp2_with fail
    (with_reducible refine (H4.out _).mono ?_)
    rintro e w4 ⟨rfl, rfl⟩
    cases b4
    · go_wp2
      go_ret
      exact ⟨rfl, X3.out⟩
    · go_wp2
      go_ret
      exact ⟨rfl, X3.out⟩
  exact key _ _ _ _ rfl rfl rfl rfl

theorem rpart_any (x : Int) (w : World) : Calls Try.prog 27 #[.int .i64 x] w fun e w' => e = .returned (.bool (inA x 1 1073741824)) ∧ w = w' := by
  by_cases h : 1 ≤ x
  · have h1 : decide (1 ≤ x) = true := by simpa using h
    have HV := Lib.hid (show inA x 1 1073741824 = decide (x ≤ 1073741824) by unfold inA; rw [h1]; rfl)
    clear h
    go_enter Try.func27, Try.ntmps27
    go_wp2
    go_ret
    exact ⟨by rw [HV.out]; rfl, rfl⟩
  · have h1 : decide (1 ≤ x) = false := by simpa using h
    have HV := Lib.hid (show inA x 1 1073741824 = false by unfold inA; rw [h1]; rfl)
    clear h
    go_enter Try.func27, Try.ntmps27
    go_wp2
    go_ret
    exact ⟨by rw [HV.out]; rfl, rfl⟩
set_option maxRecDepth 100000 in
set_option maxHeartbeats 3200000 in
theorem rCheck_any9 (a : AD) (L : Int) (w : World) : Calls Try.prog 12 #[askV a, .int .i64 L] w fun e w' => e = .returned (.int .i64 (chkA a L)) ∧ Ext w w' := by
  have HP5 := Lib.hid (fun W => rpart_any a.mem W)
  have HP6 := Lib.hid (fun W => rpart_any a.cores W)
  obtain ⟨ap, al, am, ac, an, ao, ar, ami⟩ := a
  obtain ⟨z5, hz5⟩ : ∃ z, z = inA am 1 1073741824 := ⟨_, rfl⟩
  obtain ⟨z6, hz6⟩ : ∃ z, z = inA ac 1 1073741824 := ⟨_, rfl⟩
  simp only [askV] at HP5 HP6 ⊢
  rw [← hz5] at HP5
  rw [← hz6] at HP6
  have HE := Lib.hid (show chkA ⟨ap, al, am, ac, an, ao, ar, ami⟩ L = if (ap < 0 ∨ 9 < ap ∨ al < 0 ∨ L ≤ al ∨ z5 = false ∨ z6 = false ∨ ao < -1 ∨ 999 < ao ∨ ar < -1 ∨ 99 < ar ∨ (0 ≤ ao ∧ ar < 0)) then 1 else if (an < 0 ∨ 50 < an) then 4 else 0 by
    unfold chkA chkE bndA labA plcA
    simp only
    rw [← hz5, ← hz6]
    clear hz5 hz6 HP5 HP6
    have hb : ((inA ap 0 9 && (z5 && z6)) && (decide (0 ≤ al) && decide (al < L)) && (inA ao (-1) 999 && (inA ar (-1) 99 && (ao == -1 || ar != -1)))) = true ↔ ¬ (ap < 0 ∨ 9 < ap ∨ al < 0 ∨ L ≤ al ∨ z5 = false ∨ z6 = false ∨ ao < -1 ∨ 999 < ao ∨ ar < -1 ∨ 99 < ar ∨ (0 ≤ ao ∧ ar < 0)) := by
      unfold inA
      cases z5 <;> cases z6 <;> simp <;> omega
    have hc : inA an 0 50 = true ↔ ¬ (an < 0 ∨ 50 < an) := by unfold inA; simp
    by_cases h1 : ap < 0 ∨ 9 < ap ∨ al < 0 ∨ L ≤ al ∨ z5 = false ∨ z6 = false ∨ ao < -1 ∨ 999 < ao ∨ ar < -1 ∨ 99 < ar ∨ (0 ≤ ao ∧ ar < 0)
    · rw [if_pos h1, if_neg (fun h => (hb.1 h) h1)]
    · rw [if_neg h1, if_pos (hb.2 h1)]
      by_cases h2 : an < 0 ∨ 50 < an
      · rw [if_pos h2, if_neg (fun h => (hc.1 h) h2)]
      · rw [if_neg h2, if_pos (hc.2 h2)])
  clear hz5 hz6
  by_cases ha : ap < 0
  · have HV := Lib.hid (HE.out.trans (if_pos (by simp [ha])))
    have ua0 : decide (ap < 0) = true := by simp; omega
    clear ha HE
    go_enter Try.func12, Try.ntmps12
    go_wp2_with (first | (go_at_call 27; (with_reducible refine (HP5.out _).mono ?_); rintro e w1 ⟨rfl, rfl⟩) | (go_at_call 27; (with_reducible refine (HP6.out _).mono ?_); rintro e w1 ⟨rfl, rfl⟩))
    go_ret
    exact ⟨by rw [HV.out]; rfl, ext_alloc _ _⟩
  have ua0 : decide (ap < 0) = false := by simp; omega
  by_cases hb : 9 < ap
  · have HV := Lib.hid (HE.out.trans (if_pos (by simp [hb])))
    have ub0 : decide (9 < ap) = true := by simp; omega
    have ub1 : decide (ap > 9) = true := by simp; omega
    clear hb HE
    go_enter Try.func12, Try.ntmps12
    go_wp2_with (first | (go_at_call 27; (with_reducible refine (HP5.out _).mono ?_); rintro e w1 ⟨rfl, rfl⟩) | (go_at_call 27; (with_reducible refine (HP6.out _).mono ?_); rintro e w1 ⟨rfl, rfl⟩))
    go_ret
    exact ⟨by rw [HV.out]; rfl, ext_alloc _ _⟩
  have ub0 : decide (9 < ap) = false := by simp; omega
  have ub1 : decide (ap > 9) = false := by simp; omega
  by_cases hc : al < 0
  · have HV := Lib.hid (HE.out.trans (if_pos (by simp [hc])))
    have uc0 : decide (al < 0) = true := by simp; omega
    clear hc HE
    go_enter Try.func12, Try.ntmps12
    go_wp2_with (first | (go_at_call 27; (with_reducible refine (HP5.out _).mono ?_); rintro e w1 ⟨rfl, rfl⟩) | (go_at_call 27; (with_reducible refine (HP6.out _).mono ?_); rintro e w1 ⟨rfl, rfl⟩))
    go_ret
    exact ⟨by rw [HV.out]; rfl, ext_alloc _ _⟩
  have uc0 : decide (al < 0) = false := by simp; omega
  by_cases hd : L ≤ al
  · have HV := Lib.hid (HE.out.trans (if_pos (by simp [hd])))
    have ud0 : decide (L ≤ al) = true := by simp; omega
    have ud1 : decide (al ≥ L) = true := by simp; omega
    clear hd HE
    go_enter Try.func12, Try.ntmps12
    go_wp2_with (first | (go_at_call 27; (with_reducible refine (HP5.out _).mono ?_); rintro e w1 ⟨rfl, rfl⟩) | (go_at_call 27; (with_reducible refine (HP6.out _).mono ?_); rintro e w1 ⟨rfl, rfl⟩))
    go_ret
    exact ⟨by rw [HV.out]; rfl, ext_alloc _ _⟩
  have ud0 : decide (L ≤ al) = false := by simp; omega
  have ud1 : decide (al ≥ L) = false := by simp; omega
  cases z5
  · have HV := Lib.hid (HE.out.trans (if_pos (by simp)))
    go_enter Try.func12, Try.ntmps12
    go_wp2_with (first | (go_at_call 27; (with_reducible refine (HP5.out _).mono ?_); rintro e w1 ⟨rfl, rfl⟩) | (go_at_call 27; (with_reducible refine (HP6.out _).mono ?_); rintro e w1 ⟨rfl, rfl⟩))
    go_ret
    exact ⟨by rw [HV.out]; rfl, ext_alloc _ _⟩
  cases z6
  · have HV := Lib.hid (HE.out.trans (if_pos (by simp)))
    go_enter Try.func12, Try.ntmps12
    go_wp2_with (first | (go_at_call 27; (with_reducible refine (HP5.out _).mono ?_); rintro e w1 ⟨rfl, rfl⟩) | (go_at_call 27; (with_reducible refine (HP6.out _).mono ?_); rintro e w1 ⟨rfl, rfl⟩))
    go_ret
    exact ⟨by rw [HV.out]; rfl, ext_alloc _ _⟩
  by_cases hg : ao < -1
  · have HV := Lib.hid (HE.out.trans (if_pos (by simp [hg])))
    have ug0 : decide (ao < -1) = true := by simp; omega
    clear hg HE
    go_enter Try.func12, Try.ntmps12
    go_wp2_with (first | (go_at_call 27; (with_reducible refine (HP5.out _).mono ?_); rintro e w1 ⟨rfl, rfl⟩) | (go_at_call 27; (with_reducible refine (HP6.out _).mono ?_); rintro e w1 ⟨rfl, rfl⟩))
    go_ret
    exact ⟨by rw [HV.out]; rfl, ext_alloc _ _⟩
  have ug0 : decide (ao < -1) = false := by simp; omega
  by_cases hh : 999 < ao
  · have HV := Lib.hid (HE.out.trans (if_pos (by simp [hh])))
    have uh0 : decide (999 < ao) = true := by simp; omega
    have uh1 : decide (ao > 999) = true := by simp; omega
    clear hh HE
    go_enter Try.func12, Try.ntmps12
    go_wp2_with (first | (go_at_call 27; (with_reducible refine (HP5.out _).mono ?_); rintro e w1 ⟨rfl, rfl⟩) | (go_at_call 27; (with_reducible refine (HP6.out _).mono ?_); rintro e w1 ⟨rfl, rfl⟩))
    go_ret
    exact ⟨by rw [HV.out]; rfl, ext_alloc _ _⟩
  have uh0 : decide (999 < ao) = false := by simp; omega
  have uh1 : decide (ao > 999) = false := by simp; omega
  by_cases hi : ar < -1
  · have HV := Lib.hid (HE.out.trans (if_pos (by simp [hi])))
    have ui0 : decide (ar < -1) = true := by simp; omega
    clear hi HE
    go_enter Try.func12, Try.ntmps12
    go_wp2_with (first | (go_at_call 27; (with_reducible refine (HP5.out _).mono ?_); rintro e w1 ⟨rfl, rfl⟩) | (go_at_call 27; (with_reducible refine (HP6.out _).mono ?_); rintro e w1 ⟨rfl, rfl⟩))
    go_ret
    exact ⟨by rw [HV.out]; rfl, ext_alloc _ _⟩
  have ui0 : decide (ar < -1) = false := by simp; omega
  by_cases hj : 99 < ar
  · have HV := Lib.hid (HE.out.trans (if_pos (by simp [hj])))
    have uj0 : decide (99 < ar) = true := by simp; omega
    have uj1 : decide (ar > 99) = true := by simp; omega
    clear hj HE
    go_enter Try.func12, Try.ntmps12
    go_wp2_with (first | (go_at_call 27; (with_reducible refine (HP5.out _).mono ?_); rintro e w1 ⟨rfl, rfl⟩) | (go_at_call 27; (with_reducible refine (HP6.out _).mono ?_); rintro e w1 ⟨rfl, rfl⟩))
    go_ret
    exact ⟨by rw [HV.out]; rfl, ext_alloc _ _⟩
  have uj0 : decide (99 < ar) = false := by simp; omega
  have uj1 : decide (ar > 99) = false := by simp; omega
  by_cases hk : 0 ≤ ao
  · have uk0 : decide (ao ≥ 0) = true := by simp; omega
    have uk1 : decide (0 ≤ ao) = true := by simp; omega
    by_cases hl : ar < 0
    · have HV := Lib.hid (HE.out.trans (if_pos (by simp [hk, hl])))
      have ul0 : decide (ar < 0) = true := by simp; omega
      clear HE
      go_enter Try.func12, Try.ntmps12
      go_wp2_with (first | (go_at_call 27; (with_reducible refine (HP5.out _).mono ?_); rintro e w1 ⟨rfl, rfl⟩) | (go_at_call 27; (with_reducible refine (HP6.out _).mono ?_); rintro e w1 ⟨rfl, rfl⟩))
      go_ret
      exact ⟨by rw [HV.out]; rfl, ext_alloc _ _⟩
    · have ul0 : decide (ar < 0) = false := by simp; omega
      have HE2 := Lib.hid (HE.out.trans (if_neg (by simp; omega)))
      by_cases hm : an < 0
      · have um : decide (an < 0) = true := by simp; omega
        have HV := Lib.hid (HE2.out.trans (if_pos (by simp [hm])))
        go_enter Try.func12, Try.ntmps12
        go_wp2_with (first | (go_at_call 27; (with_reducible refine (HP5.out _).mono ?_); rintro e w1 ⟨rfl, rfl⟩) | (go_at_call 27; (with_reducible refine (HP6.out _).mono ?_); rintro e w1 ⟨rfl, rfl⟩))
        go_ret
        exact ⟨by rw [HV.out]; rfl, ext_alloc _ _⟩
      · have um : decide (an < 0) = false := by simp; omega
        by_cases hn : 50 < an
        · have un : decide (50 < an) = true := by simp; omega
          have un2 : decide (an > 50) = true := by simp; omega
          have HV := Lib.hid (HE2.out.trans (if_pos (by simp [hn])))
          go_enter Try.func12, Try.ntmps12
          go_wp2_with (first | (go_at_call 27; (with_reducible refine (HP5.out _).mono ?_); rintro e w1 ⟨rfl, rfl⟩) | (go_at_call 27; (with_reducible refine (HP6.out _).mono ?_); rintro e w1 ⟨rfl, rfl⟩))
          go_ret
          exact ⟨by rw [HV.out]; rfl, ext_alloc _ _⟩
        · have un : decide (50 < an) = false := by simp; omega
          have un2 : decide (an > 50) = false := by simp; omega
          have HV := Lib.hid (HE2.out.trans (if_neg (by omega)))
          go_enter Try.func12, Try.ntmps12
          go_wp2_with (first | (go_at_call 27; (with_reducible refine (HP5.out _).mono ?_); rintro e w1 ⟨rfl, rfl⟩) | (go_at_call 27; (with_reducible refine (HP6.out _).mono ?_); rintro e w1 ⟨rfl, rfl⟩))
          go_ret
          exact ⟨by rw [HV.out]; rfl, ext_alloc _ _⟩
  · have uk0 : decide (ao ≥ 0) = false := by simp; omega
    have uk1 : decide (0 ≤ ao) = false := by simp; omega
    have HE2 := Lib.hid (HE.out.trans (if_neg (by simp; omega)))
    by_cases hm : an < 0
    · have um : decide (an < 0) = true := by simp; omega
      have HV := Lib.hid (HE2.out.trans (if_pos (by simp [hm])))
      go_enter Try.func12, Try.ntmps12
      go_wp2_with (first | (go_at_call 27; (with_reducible refine (HP5.out _).mono ?_); rintro e w1 ⟨rfl, rfl⟩) | (go_at_call 27; (with_reducible refine (HP6.out _).mono ?_); rintro e w1 ⟨rfl, rfl⟩))
      go_ret
      exact ⟨by rw [HV.out]; rfl, ext_alloc _ _⟩
    · have um : decide (an < 0) = false := by simp; omega
      by_cases hn : 50 < an
      · have un : decide (50 < an) = true := by simp; omega
        have un2 : decide (an > 50) = true := by simp; omega
        have HV := Lib.hid (HE2.out.trans (if_pos (by simp [hn])))
        go_enter Try.func12, Try.ntmps12
        go_wp2_with (first | (go_at_call 27; (with_reducible refine (HP5.out _).mono ?_); rintro e w1 ⟨rfl, rfl⟩) | (go_at_call 27; (with_reducible refine (HP6.out _).mono ?_); rintro e w1 ⟨rfl, rfl⟩))
        go_ret
        exact ⟨by rw [HV.out]; rfl, ext_alloc _ _⟩
      · have un : decide (50 < an) = false := by simp; omega
        have un2 : decide (an > 50) = false := by simp; omega
        have HV := Lib.hid (HE2.out.trans (if_neg (by omega)))
        go_enter Try.func12, Try.ntmps12
        go_wp2_with (first | (go_at_call 27; (with_reducible refine (HP5.out _).mono ?_); rintro e w1 ⟨rfl, rfl⟩) | (go_at_call 27; (with_reducible refine (HP6.out _).mono ?_); rintro e w1 ⟨rfl, rfl⟩))
        go_ret
        exact ⟨by rw [HV.out]; rfl, ext_alloc _ _⟩
end Go.Proofs.Ytbocpkdnlpobkaa
