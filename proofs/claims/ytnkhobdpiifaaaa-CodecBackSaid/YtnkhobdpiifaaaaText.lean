/- codec.Text. -/
import Derived.Test.YtnkhobdpiifaaaaPutB
import Derived.WalkSpells
namespace Go.Proofs.Ytnkhobdpiifaaaa
open Go.RowKit

theorem copied_sum (v : Value) (xs : List Value) (a b : Nat) (w : World) (hr : Rd w v xs) (h1 : ∀ u ∈ xs, u.oneCell' = true) (hn : xs.length + (a + b) ≤ 140737488355328) {y : Int} (hy : y = (a : Int) + (b : Int)) :
    Calls Try.prog 15 #[v, .int .i64 y] w (Made xs.length xs w) :=
  copied_as v xs y (a + b) w (by omega) hr h1 hn

theorem bytes_cells (s : ByteArray) : byteCells s = bvs s.data.toList := rfl

set_option maxHeartbeats 400000 in
theorem Text_short (v : Value) (l : List UInt8) (s : ByteArray) (w : World) (hr : Rd w v (bvs l)) (hn : l.length + 65545 ≤ 140737488355328) (hs : s.size ≤ 65535) :
    Calls Try.prog 6 #[v, .string s] w (Made (l.length + 2 + s.size) (bvs (l ++ be s.size 2 ++ s.data.toList)) w) := by
  obtain ⟨i0, hi, hz0, hz1, hz2⟩ := info_parts Try.infoU8
  have hr := Lib.hid hr
  go_enter Try.func6, Try.ntmps6
  go_wp2_with fail
  refine (copied_sum v (bvs l) 2 s.size _ hr.out bvs_one (by rw [bvs_length]; omega) rfl).mono ?_
  rintro e w1 hM
  obtain ⟨v1, rfl, ho1, hx1⟩ := hM
  rw [bvs_length] at ho1
  go_wp2_with fail
  refine (putCount_any _ s.size (by omega) l.length w.heap.size (bvs l) _ ho1 (by omega) hx1.size).mono ?_
  rintro e w2 hG
  have hM := made_grew ho1 hx1 hG
  obtain ⟨v2, rfl, ho2, hx2⟩ := hM
  clear hG
  have hS := Lib.hid (Src.ofString (P := Try.prog) w2 Try.underlying9 s)
  go_wp2_with (at_builtin; refine wpList_app_src _ rfl (.tmp 17) (.tmp 18) 26 9 rfl w.heap.size 5 i0 (.int .u8 0) 1 Try.underlying26 hi hz0 hz1 hz2 rfl _ (l.length + 2) _ rfl ho2 _ s.size (byteCells s) rfl hS.out ?c3 ?c4 ?c5 ?_)
  case c3 => simp [maxLen]; omega
  case c4 => omega
  case c5 => exact hx2.size
  intro v' w3 hown' hgrow hat' hfr'
  have hE := Lib.hid (hx2.trans' (grown_below hgrow hx2.size (own_ge ho2 (Nat.le_refl _))))
  clear hgrow hat' hfr'
  go_wp2
  go_ret
  exact ⟨v', rfl, by rw [bvs_append, bvs_append, List.append_assoc]; exact hown', hE.out⟩

theorem putCount_as (v : Value) (y : Int) (x : Nat) (hy : y = (x : Int)) (hx : x < 65536) (n base : Nat) (xs : List Value) (w : World) (hown : w.ownsRow base 5 1 v n xs) (hn : n + 8 ≤ 140737488355328) (hbase : base ≤ w.heap.size) :
    Calls Try.prog 16 #[v, .int .i64 y] w (Grew base v n (n + 2) (xs ++ bvs (be x 2)) w) := by
  subst hy
  exact putCount_any v x hx n base xs w hown hn hbase

set_option maxHeartbeats 400000 in
theorem Text_long (v : Value) (l : List UInt8) (s : ByteArray) (w : World) (hr : Rd w v (bvs l)) (hn : l.length + 65545 ≤ 140737488355328) (hs : 65535 < s.size) (hm : s.size ≤ maxLen) (m : Nat) (h65 : m = 65535) :
    Calls Try.prog 6 #[v, .string s] w (Made (l.length + 2 + m) (bvs (l ++ be m 2 ++ (s.extract 0 65535).data.toList)) w) := by
  obtain ⟨i0, hi, hz0, hz1, hz2⟩ := info_parts Try.infoU8
  have hr := Lib.hid hr
  unfold maxLen at hm
  have hsz : (s.extract 0 65535).size = m := by simp; omega
  have hmin : min 65535 s.size = 65535 := by omega
  have hS0 := Lib.hid (hsz)
  clear hsz
  have h1 : m ≤ 65535 := by omega
  have h2 : 65535 ≤ m := by omega
  clear h65
  go_enter Try.func6, Try.ntmps6
  go_wp2_with fail
  refine (copied_as v (bvs l) _ (m + 2) _ (by omega) hr.out bvs_one (by rw [bvs_length]; omega)).mono ?_
  rintro e w1 hM
  obtain ⟨v1, rfl, ho1, hx1⟩ := hM
  rw [bvs_length] at ho1
  go_wp2_with fail
  refine (putCount_as _ _ m (by omega) (by omega) l.length w.heap.size (bvs l) _ ho1 (by omega) hx1.size).mono ?_
  rintro e w2 hG
  have hM := made_grew ho1 hx1 hG
  obtain ⟨v2, rfl, ho2, hx2⟩ := hM
  clear hG
  have hS := Lib.hid (hS0.out ▸ Src.ofString (P := Try.prog) w2 Try.underlying9 (s.extract 0 65535))
  go_wp2_with (at_builtin; refine wpList_app_src _ rfl (.tmp 17) (.tmp 18) 26 9 rfl w.heap.size 5 i0 (.int .u8 0) 1 Try.underlying26 hi hz0 hz1 hz2 rfl _ (l.length + 2) _ rfl ho2 _ m (byteCells (s.extract 0 65535)) rfl hS.out ?c3 ?c4 ?c5 ?_)
  case c3 => simp [maxLen]; omega
  case c4 => omega
  case c5 => exact hx2.size
  intro v' w3 hown' hgrow hat' hfr'
  have hE := Lib.hid (hx2.trans' (grown_below hgrow hx2.size (own_ge ho2 (Nat.le_refl _))))
  clear hgrow hat' hfr'
  go_wp2
  go_ret
  exact ⟨v', rfl, by rw [bvs_append, bvs_append, List.append_assoc]; exact hown', hE.out⟩

end Go.Proofs.Ytnkhobdpiifaaaa
