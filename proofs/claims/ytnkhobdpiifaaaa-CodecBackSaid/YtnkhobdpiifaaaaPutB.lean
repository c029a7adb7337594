/- codec's writers: copied, putInt, putCount, Int, Text, Ints. -/
import Derived.Test.YtnkhobdpiifaaaaPut
import Derived.Laws.MakeOwn
namespace Go.Proofs.Ytnkhobdpiifaaaa
open Go.RowKit

/-- A row of the call's own; all that was there is as it was. -/
def Made (n : Nat) (xs : List Value) (w : World) (e : Ending) (w' : World) : Prop :=
  ∃ v', e = .returned v' ∧ w'.ownsRow w.heap.size 5 1 v' n xs ∧ Ext w w'

theorem own_ge {w : World} {base : Nat} {e : TypeId} {v : Value} {n : Nat} {xs : List Value} (h : w.ownsRow base e 1 v n xs) {B : Nat} (hB : B ≤ base) : ∀ k, v.ownBlock = some k → B ≤ k :=
  fun k hk => Nat.le_trans hB (h.lt k hk).1

theorem copied_any (v : Value) (xs : List Value) (room : Nat) (w : World) (hr : Rd w v xs) (h1 : ∀ u ∈ xs, u.oneCell' = true) (hn : xs.length + room ≤ 140737488355328) :
    Calls Try.prog 15 #[v, .int .i64 room] w (Made xs.length xs w) := by
  obtain ⟨i0, hi, hz0, hz1, hz2⟩ := info_parts Try.infoU8
  have hr' := Lib.hid hr
  obtain ⟨A, c, rfl, hc1, hc2, hcell⟩ := hr
  have hmk : ∀ W : World, (Instr.makeSlice 26 (.int .i64 0) (.int .i64 ((xs.length : Int) + room))).run Try.prog W = .ok (.slice (some ⟨W.heap.size, 0, none⟩) 0 (xs.length + room)) (W.alloc (.cells (madeCells #[.int .u8 0] (xs.length + room)) 5)) := by
    intro W
    have := run_make (P := Try.prog) W 26 5 i0 (.int .u8 0) Try.underlying26 hi hz0 .i64 .i64 0 ((xs.length : Int) + room) (by omega) (by omega) (by rw [hz2]; omega) (by omega)
    rw [this, hz1]
    rw [show ((xs.length : Int) + room).toNat = xs.length + room from by omega]
    simp [Value.cells]
  have hown : ∀ W : World, w.heap.size ≤ W.heap.size → (W.alloc (.cells (madeCells #[.int .u8 0] (xs.length + room)) 5)).ownsRow w.heap.size 5 1 (.slice (some ⟨W.heap.size, 0, none⟩) 0 (xs.length + room)) 0 [] := fun W h =>
    World.ownsRow_made W _ _ h (by simp [maxLen]; omega) (by simp [madeCells])
  have hcell := Lib.hid hcell
  go_enter Try.func15, Try.ntmps15
  have hown := Lib.hid hown
  go_wp2_with (at_builtin; refine wpList_app_src _ rfl (.tmp 9) (.tmp 10) 26 26 rfl w.heap.size 5 i0 (.int .u8 0) 1 Try.underlying26 hi hz0 hz1 hz2 rfl _ 0 [] rfl (hown.out _ (Nat.le_refl _)) _ xs.length xs rfl ((hr'.out.ext ((Ext.refl w).alloc (Nat.le_refl _) _)).src h1 Try.underlying26) ?c3 ?c4 ?c5 ?_)
  case c3 => simp [maxLen]; omega
  case c4 => omega
  case c5 => simp
  intro v' w1 hown' hgrow hat' hfr'
  clear hown
  go_wp2
  go_ret
  exact ⟨v', rfl, by simpa using hown', ((Ext.refl w).alloc (Nat.le_refl _) _).trans (grown_below hgrow (by simp) (fun k hk => by simp [Value.ownBlock] at hk; omega))⟩

theorem copied_as (v : Value) (xs : List Value) (y : Int) (room : Nat) (w : World) (hy : y = (room : Int)) (hr : Rd w v xs) (h1 : ∀ u ∈ xs, u.oneCell' = true) (hn : xs.length + room ≤ 140737488355328) :
    Calls Try.prog 15 #[v, .int .i64 y] w (Made xs.length xs w) := by
  subst hy
  exact copied_any v xs room w hr h1 hn

/-- A number's two's complement. -/
def two (x : Int) : Nat := (x % 18446744073709551616).toNat
theorem two_lt (x : Int) : two x < 18446744073709551616 := by unfold two; omega
theorem two_cast (x : Int) : ((two x : Nat) : Int) = x % 18446744073709551616 := by unfold two; omega

theorem two_wrap (x : Int) : IntKind.u64.wrap x = ((two x : Nat) : Int) := by rw [two_cast]; simp [IntKind.wrap, IntKind.bits, IntKind.signed]
theorem wrap_small {x : Nat} (h : x < 65536) : IntKind.u64.wrap (x : Int) = (x : Int) := IntWalk.u64_in _ ⟨by omega, by omega⟩

theorem c8 : (8 : Int) = ((8 : Nat) : Int) := rfl
theorem c2 : (2 : Int) = ((2 : Nat) : Int) := rfl

theorem put_as (v : Value) (x y : Int) (n N s base : Nat) (xs : List Value) (w : World) (hx : x = (N : Int)) (hy : y = (s : Int)) (hown : w.ownsRow base 5 1 v n xs) (hN : N < 18446744073709551616) (hs : s ≤ 8) (hn : n + 8 ≤ 140737488355328) (hbase : base ≤ w.heap.size) :
    Calls Try.prog 26 #[v, .int .u64 x, .int .i64 y] w (Grew base v n (n + s) (xs ++ bvs (be N s)) w) := by
  subst hx hy
  exact put_any v n N s base xs w hown hN hs hn hbase

theorem putInt_any (v : Value) (x : Int) (n base : Nat) (xs : List Value) (w : World) (hown : w.ownsRow base 5 1 v n xs) (hn : n + 8 ≤ 140737488355328) (hbase : base ≤ w.heap.size) :
    Calls Try.prog 14 #[v, .int .i64 x] w (Grew base v n (n + 8) (xs ++ bvs (be (two x) 8)) w) := by
  go_enter Try.func14, Try.ntmps14
  go_wp2_with fail
  refine (put_as _ _ _ n (two x) 8 base xs _ (two_wrap x) c8 hown (two_lt x) (Nat.le_refl _) hn hbase).mono ?_
  rintro e w1 hG
  obtain ⟨v', rfl, h1, h2, h3, h4⟩ := hG
  go_wp2
  go_ret
  exact ⟨v', rfl, h1, h2, h3, h4⟩

set_option maxHeartbeats 100000 in
theorem putCount_any (v : Value) (x : Nat) (hx : x < 65536) (n base : Nat) (xs : List Value) (w : World) (hown : w.ownsRow base 5 1 v n xs) (hn : n + 8 ≤ 140737488355328) (hbase : base ≤ w.heap.size) :
    Calls Try.prog 16 #[v, .int .i64 x] w (Grew base v n (n + 2) (xs ++ bvs (be x 2)) w) := by
  have hx' : x < 18446744073709551616 := by omega
  go_enter Try.func16, Try.ntmps16
  go_wp2_with fail
  refine (put_as _ _ _ n x 2 base xs _ rfl c2 hown hx' (by decide) hn hbase).mono ?_
  rintro e w1 hG
  obtain ⟨v', rfl, h1, h2, h3, h4⟩ := hG
  go_wp2
  go_ret
  exact ⟨v', rfl, h1, h2, h3, h4⟩

/-- What Int writes. -/
def eInt (x : Int) : List UInt8 := be (two x) 8
theorem eInt_length (x : Int) : (eInt x).length = 8 := be_length _ _

theorem made_grew {w w1 w2 : World} {n m : Nat} {xs ys : List Value} {v : Value} {e : Ending} (h : w1.ownsRow w.heap.size 5 1 v n xs) (k : Ext w w1) {n0 : Nat} (g : Grew w.heap.size v n0 m ys w1 e w2) : Made m ys w e w2 := by
  obtain ⟨v', rfl, h1, h2, h3, _⟩ := g
  exact ⟨v', rfl, h1, k.trans' (grown_below h2 k.size (own_ge h (Nat.le_refl _)))⟩

theorem Int_any (v : Value) (l : List UInt8) (x : Int) (w : World) (hr : Rd w v (bvs l)) (hn : l.length + 8 ≤ 140737488355328) :
    Calls Try.prog 5 #[v, .int .i64 x] w (Made (l.length + 8) (bvs (l ++ eInt x)) w) := by
  have hr := Lib.hid hr
  go_enter Try.func5, Try.ntmps5
  go_wp2_with fail
  refine (copied_as v (bvs l) _ 8 _ c8 hr.out bvs_one (by rw [bvs_length]; exact hn)).mono ?_
  rintro e w1 hM
  obtain ⟨v1, rfl, ho1, hx1⟩ := hM
  rw [bvs_length] at ho1
  go_wp2_with fail
  refine (putInt_any _ x l.length w.heap.size (bvs l) _ ho1 (by omega) hx1.size).mono ?_
  rintro e w2 hG
  have hM := made_grew ho1 hx1 hG
  obtain ⟨v2, rfl, ho2, hx2⟩ := hM
  clear hG
  go_wp2
  go_ret
  exact ⟨v2, rfl, by rw [bvs_append]; exact ho2, hx2⟩

end Go.Proofs.Ytnkhobdpiifaaaa
