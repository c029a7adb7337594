/- rvec: ratio.compare, load, Order: contracts. -/
import Derived.Test.YtlifgdhieelihaaOrdA
namespace Go.Proofs.Ytlifgdhieelihaa
open Go.RowKit

theorem cmp_hilo (X Y : Int) : (if cmpI (X / 18446744073709551616) (Y / 18446744073709551616) = 0 then cmpI (X % 18446744073709551616) (Y % 18446744073709551616) else cmpI (X / 18446744073709551616) (Y / 18446744073709551616)) = cmpI X Y := by
  rcases Int.lt_trichotomy (X / 18446744073709551616) (Y / 18446744073709551616) with h | h | h
  · have e1 : cmpI (X / 18446744073709551616) (Y / 18446744073709551616) = -1 := by simp [cmpI, h]
    have e2 : cmpI X Y = -1 := by unfold cmpI; rw [if_pos (by omega)]
    rw [e1, e2]; rfl
  · have e1 : cmpI (X / 18446744073709551616) (Y / 18446744073709551616) = 0 := by simp [cmpI, h]
    rw [e1, if_pos rfl]
    unfold cmpI
    rcases Int.lt_trichotomy (X % 18446744073709551616) (Y % 18446744073709551616) with g | g | g
    · rw [if_pos g, if_pos (by omega)]
    · rw [if_neg (by omega), if_neg (by omega), if_neg (by omega), if_neg (by omega)]
    · rw [if_neg (by omega), if_pos g, if_neg (by omega), if_pos (by omega)]
  · have e1 : cmpI (X / 18446744073709551616) (Y / 18446744073709551616) = 1 := by unfold cmpI; rw [if_neg (by omega), if_pos h]
    have e2 : cmpI X Y = 1 := by unfold cmpI; rw [if_neg (by omega), if_pos (by omega)]
    rw [e1, e2]; rfl

def cmpH (X Y : Int) : Int := cmpI (X / 18446744073709551616) (Y / 18446744073709551616)
def cmpL (X Y : Int) : Int := cmpI (X % 18446744073709551616) (Y % 18446744073709551616)

theorem cmp_hl (X Y : Int) : orI (cmpH X Y) (cmpL X Y) = cmpI X Y := cmp_hilo X Y

abbrev Bd (n : Int) : Prop := 0 ≤ n ∧ n ≤ 1125899906842624

set_option maxHeartbeats 1000000 in
theorem compare_any (x y z u : Int) (w : World) (hx : Bd x) (hy : Bd y) (hz : Bd z) (hu : Bd u) :
    Calls Try.prog 26 #[.agg #[.int .u64 x, .int .u64 y], .agg #[.int .u64 z, .int .u64 u]] w fun e w' => e = .returned (.int .i64 (cmpI (x * u) (z * y))) ∧ Below w.heap.size w w' := by
  rw [← cmp_hl]
  unfold cmpH cmpL
  go_enter Try.func26, Try.ntmps26
  go_wp2_with fail
  (with_reducible refine (Mul64_any _ _ _ hx hu).mono ?_); rintro e w1 ⟨rfl, rfl⟩
  go_wp2_with fail
  (with_reducible refine (Mul64_any _ _ _ hz hy).mono ?_); rintro e w1 ⟨rfl, rfl⟩
  go_wp2_with (go_at_call 35; (with_reducible refine (Compare_any _ _ _).mono ?_); rintro e w1 ⟨rfl, rfl⟩)
  refine (Or_two _ (cmpI (x * u / 18446744073709551616) (z * y / 18446744073709551616)) (cmpI (x * u % 18446744073709551616) (z * y % 18446744073709551616)) _ ?_ ?_).mono ?_
  · simp [go_sem]
  · simp [go_sem]
  rintro e w1 ⟨rfl, rfl⟩
  go_wp2
  go_ret
  exact ⟨rfl, by go_grown⟩

def ordI (a p b q : Int) : Int := cmpI (a * nrm b q) (b * nrm a p)
def ldA (a b p q : Int) : Int := if ordI a p b q < 0 then b else a
def ldP (a b p q : Int) : Int := if ordI a p b q < 0 then q else p
def ldN (a b p q : Int) : Int := nrm (ldA a b p q) (ldP a b p q)

theorem nrm_bd {a p : Int} (hp : Bd p) : Bd (nrm a p) := by
  unfold nrm; split
  · exact ⟨by omega, by omega⟩
  · exact hp

set_option maxHeartbeats 4000000 in
theorem load_any (a b p q : Int) (w : World) (ha : Bd a) (hb : Bd b) (hp : Bd p) (hq : Bd q) :
    Calls Try.prog 25 #[.agg #[.int .i64 a, .int .i64 b], .agg #[.int .i64 p, .int .i64 q]] w fun e w' => e = .returned (.agg #[.int .u64 (ldA a b p q), .int .u64 (ldN a b p q)]) ∧ Below w.heap.size w w' := by
  go_enter Try.func25, Try.ntmps25
  go_upto_region 1 with fail
  go_cut [5, 6] (fun s5 s6 wx => ∃ g h : Nat, s5 = .pointer (some ⟨g, 0, none⟩) ∧ s6 = .pointer (some ⟨h, 0, none⟩) ∧
    wx.cell? ⟨g, 0, none⟩ = some (.int .u64 a) ∧ wx.cell? ⟨g, 1, none⟩ = some (.int .u64 (nrm a p)) ∧ wx.cell? ⟨h, 0, none⟩ = some (.int .u64 b) ∧ wx.cell? ⟨h, 1, none⟩ = some (.int .u64 (nrm b q)) ∧
    wx.cell? ⟨w.heap.size + 1 + 1, 0, none⟩ = some (.int .u64 0) ∧ wx.cell? ⟨w.heap.size + 1 + 1, 1, none⟩ = some (.int .u64 0) ∧ wx.frozen? ⟨w.heap.size + 1 + 1, 0, none⟩ = false ∧ wx.frozen? ⟨w.heap.size + 1 + 1, 1, none⟩ = false ∧ w.heap.size + 1 + 1 < wx.heap.size ∧ Below w.heap.size w wx)
  case first =>
    refine at_world (fun W0 hW0 => ?_)
    have c0 : W0.cell? ⟨w.heap.size, 0, none⟩ = some (.int .i64 a) := by rw [hW0]; simp [go_sem]
    have c1 : W0.cell? ⟨w.heap.size, 1, none⟩ = some (.int .i64 b) := by rw [hW0]; simp [go_sem]
    have c2 : W0.cell? ⟨w.heap.size + 1, 0, none⟩ = some (.int .i64 p) := by rw [hW0]; simp [go_sem]
    have c3 : W0.cell? ⟨w.heap.size + 1, 1, none⟩ = some (.int .i64 q) := by rw [hW0]; simp [go_sem]
    have c4 : W0.cell? ⟨w.heap.size + 1 + 1, 0, none⟩ = some (.int .u64 0) := by rw [hW0]; simp [go_sem]
    have c5 : W0.cell? ⟨w.heap.size + 1 + 1, 1, none⟩ = some (.int .u64 0) := by rw [hW0]; simp [go_sem]
    have f4 : ∀ o, W0.frozen? ⟨w.heap.size + 1 + 1, o, none⟩ = false := by intro o; rw [hW0]; simp [go_sem]
    have hB0 : Below w.heap.size w W0 := by rw [hW0]; go_grown
    have hn : W0.heap.size = w.heap.size + 3 := by rw [hW0]; simp
    have HC := Lib.hid (fun (w' : World) (h : Below W0.heap.size W0 w') => (⟨⟨bcell_some h c0, bcell_some h c1⟩, bcell_some h c2, bcell_some h c3⟩ : (w'.cell? ⟨w.heap.size, 0, none⟩ = some (.int .i64 a) ∧ w'.cell? ⟨w.heap.size, 1, none⟩ = some (.int .i64 b)) ∧ w'.cell? ⟨w.heap.size + 1, 0, none⟩ = some (.int .i64 p) ∧ w'.cell? ⟨w.heap.size + 1, 1, none⟩ = some (.int .i64 q)))
    have HR := Lib.hid (fun (w' : World) (h : Below W0.heap.size W0 w') => (⟨bcell_some h c4, bcell_some h c5, (h.frozen (p := ⟨w.heap.size + 1 + 1, 0, none⟩) (by rw [hn]; simp)).trans (f4 0), (h.frozen (p := ⟨w.heap.size + 1 + 1, 1, none⟩) (by rw [hn]; simp)).trans (f4 1), by have := h.size; omega, hB0.trans (h.mono (by omega))⟩ :
      w'.cell? ⟨w.heap.size + 1 + 1, 0, none⟩ = some (.int .u64 0) ∧ w'.cell? ⟨w.heap.size + 1 + 1, 1, none⟩ = some (.int .u64 0) ∧ w'.frozen? ⟨w.heap.size + 1 + 1, 0, none⟩ = false ∧ w'.frozen? ⟨w.heap.size + 1 + 1, 1, none⟩ = false ∧ w.heap.size + 1 + 1 < w'.heap.size ∧ Below w.heap.size w w'))
    clear hn hW0 c0 c1 c2 c3 c4 c5 f4
    go_region_held3 (fun w' => Below W0.heap.size W0 w' ∧ W0.heap.size ≤ w'.heap.size ∧ (w'.cell? ⟨w.heap.size, 0, none⟩ = some (.int .i64 a) ∧ w'.cell? ⟨w.heap.size, 1, none⟩ = some (.int .i64 b)) ∧ w'.cell? ⟨w.heap.size + 1, 0, none⟩ = some (.int .i64 p) ∧ w'.cell? ⟨w.heap.size + 1, 1, none⟩ = some (.int .i64 q))
      ((refine keepS HC.out ?_; (go_grown; done))) (first
      | (go_at_call 32; (with_reducible refine (ratioOf_exact a p _ ha hp).mono ?_); rintro e w1 ⟨rfl, rfl⟩)
      | (go_at_call 32; (with_reducible refine (ratioOf_exact b q _ hb hq).mono ?_); rintro e w1 ⟨rfl, rfl⟩))
    all_goals
      go_split_ands
      go_wp2_with fail
      go_meet
      refine ⟨_, _, rfl, rfl, ?_, ?_, ?_, ?_, HR.out _ ?_⟩
      · (first | (simp [go_sem]; done) | (simp [go_sem, *]; done) | (simp [go_sem, *]; done) | (simp [go_sem, World.cell?_setCell_other, hc, *]; done))
      · (first | (simp [go_sem]; done) | (simp [go_sem, *]; done) | (simp [go_sem, *]; done) | (simp [go_sem, World.cell?_setCell_other, hc, *]; done))
      · (first | (simp [go_sem]; done) | (simp [go_sem, *]; done) | (simp [go_sem, *]; done) | (simp [go_sem, World.cell?_setCell_other, hc, *]; done))
      · (first | (simp [go_sem]; done) | (simp [go_sem, *]; done) | (simp [go_sem, *]; done) | (simp [go_sem, World.cell?_setCell_other, hc, *]; done))
      · (go_grown; done)
  case rest =>
    obtain ⟨g, h, rfl, rfl, c0, c1, c2, c3, c4, c5, f4, f5, hn, hB⟩ := hcut
    have lg : g < wc.heap.size := World.block_lt_of_cell? wc _ c0
    have lh : h < wc.heap.size := World.block_lt_of_cell? wc _ c2
    have e : cmpI (a * nrm b q) (b * nrm a p) = ordI a p b q := rfl
    have HEE := Lib.hid e; clear e
    by_cases hlt : ordI a p b q < 0
    · have eA : ldA a b p q = b := if_pos hlt
      have eN : ldN a b p q = nrm b q := by unfold ldN ldP; rw [eA, if_pos hlt]
      have HE := Lib.hid (And.intro eA eN); clear eA eN
      go_wp2_with (go_at_call 26; refine (compare_any _ _ _ _ _ ha (nrm_bd hp) hb (nrm_bd hq)).mono ?_; rw [HEE.out]; rintro e w1 ⟨rfl, hb1⟩; obtain ⟨hc, hf⟩ := bcell hb1; have hB1 := step_below hB hB.size hb1; have hs1 := hB1.size)
      refine bodyPost_ret (by simp [results, Try.results25, go_sem, hc, *]; try rfl) rfl ?_
      exact ⟨by rw [HE.out.1, HE.out.2], by go_grown⟩
    · have eA : ldA a b p q = a := if_neg hlt
      have eN : ldN a b p q = nrm a p := by unfold ldN ldP; rw [eA, if_neg hlt]
      have HE := Lib.hid (And.intro eA eN); clear eA eN
      go_wp2_with (go_at_call 26; refine (compare_any _ _ _ _ _ ha (nrm_bd hp) hb (nrm_bd hq)).mono ?_; rw [HEE.out]; rintro e w1 ⟨rfl, hb1⟩; obtain ⟨hc, hf⟩ := bcell hb1; have hB1 := step_below hB hB.size hb1; have hs1 := hB1.size)
      refine bodyPost_ret (by simp [results, Try.results25, go_sem, hc, *]; try rfl) rfl ?_
      exact ⟨by rw [HE.out.1, HE.out.2], by go_grown⟩

end Go.Proofs.Ytlifgdhieelihaa
