/- dispatchref4: four, Frame; frames.first. -/
import Derived.Test.YtcofjimjbobdgaaFrmB
namespace Go.Proofs.Ytcofjimjbobdgaa
open Go.RowKit

/-- The four cells of a new block. -/
theorem Rd.four (w : World) (x y z u : Value) (t : TypeId) (n c : Nat) (hn : n = 4) (hc : c = 4) : Rd (w.alloc (.cells #[x, y, z, u] t)) (.slice (some ⟨w.heap.size, 0, none⟩) n c) [x, y, z, u] := by
  subst hn hc
  exact ⟨_, _, rfl, Nat.le_refl _, by simp [maxLen], fun _ => ⟨_, rfl, by simp, World.news_of_block (heap_alloc_new w _)⟩⟩
theorem be4 (N : Nat) (hN : N < 4294967296) : [Value.int .u8 ((N : Int) / 16777216), .int .u8 ((N : Int) / 65536 % 256), .int .u8 ((N : Int) / 256 % 256), .int .u8 ((N : Int) % 256)] = bvs (be N 4) := by
  have : (N : Int) / 16777216 = (N : Int) / 16777216 % 256 := by omega
  rw [this]
  simp [be, bvs, bv, UInt8.toNat_ofNat']

set_option maxHeartbeats 400000 in
theorem four_any (v : Value) (n N base : Nat) (xs : List Value) (w : World) (hown : w.ownsRow base 5 1 v n xs) (hN : N < 4294967296) (hn : n + 4 ≤ 140737488355328) (hbase : base ≤ w.heap.size) :
    Calls Try.prog 23 #[v, .int .u32 N] w (Grew base v n (n + 4) (xs ++ bvs (be N 4)) w) := by
  obtain ⟨i0, hi, hz0, hz1, hz2⟩ := info_parts Try.infoU8
  have HB := Lib.hid (be4 N hN)
  go_enter Try.func23, Try.ntmps23
  go_wp2_with (at_builtin; refine wpList_app_src _ rfl (.tmp 5) (.tmp 17) 22 22 rfl base 5 i0 (.int .u8 0) 1 Try.underlying22 hi hz0 hz1 hz2 rfl _ n xs rfl (hown.alloc _) _ 4 _ rfl ((Rd.four _ _ _ _ _ _ _ _ rfl rfl).src ?c1 Try.underlying22) ?c3 ?c4 ?c5 ?_)
  case c1 => intro u hu; simp at hu; rcases hu with rfl | rfl | rfl | rfl <;> rfl
  case c3 => simp [maxLen]; omega
  case c4 => omega
  case c5 => simp; omega
  intro v1 w1 hown1 hgrow1 hat1 hfr1
  have e : xs ++ [Value.int .u8 ((N : Int) / 16777216), .int .u8 ((N : Int) / 65536 % 256), .int .u8 ((N : Int) / 256 % 256), .int .u8 ((N : Int) % 256)] = xs ++ bvs (be N 4) := by rw [HB.out]
  rw [e] at hown1
  have HG := Lib.hid (show Grew base v n (n + 4) (xs ++ bvs (be N 4)) w (.returned v1) w1 from ⟨v1, rfl, hown1, World.grownBy.trans (World.grownBy_alloc w _ _) hgrow1, by
    rcases hat1 with h | h
    · exact .inl h
    · exact .inr fun k hk => by rw [h] at hk; injection hk with hk; omega, Fronts.trans (Fronts.ext (ext_alloc w _) v n) (.inl rfl) (Nat.le_refl _) hfr1⟩)
  obtain ⟨A3, n3, c3, rfl⟩ := Rd.shape (Rd.of_own hown1)
  clear hown1 hgrow1 hat1 hfr1
  go_wp2
  go_ret
  exact HG.out

set_option maxHeartbeats 800000 in
theorem rfrm_ok (v : Value) (l : List UInt8) (w : World) (hr : Rd w v (bvs l)) (hl : l.length ≤ 4000) :
    Calls Try.prog 14 #[v] w (Made2 (frameB l) (.i64, 0) w) := by
  obtain ⟨i0, hi, hz0, hz1, hz2⟩ := info_parts Try.infoU8
  have HR := Lib.hid hr
  obtain ⟨A, N, c, rfl, hN, hc1, hc2, hcell⟩ := hr.open
  have h : ¬ (4000 : Int) < (N : Int) := by omega
  have h1 : N ≤ 4000 := by omega
  have hw : IntKind.u32.wrap (N : Int) = (N : Int) := IntWalk.u32_in _ ⟨by omega, by omega⟩
  have HN := Lib.hid hN
  clear hN hcell hr hl
  go_enter Try.func14, Try.ntmps14
  go_wp2_with fail
  (with_reducible refine (four_any _ 0 N w.heap.size [] _ (World.ownsRow_nil w _ _ 1) (by omega) (by omega) (Nat.le_refl _)).mono ?_)
  rintro e w1 hG
  obtain ⟨v1, rfl, ho1, hx1⟩ := hG.ext (Ext.refl w) (fun k hk => by simp [Value.ownBlock] at hk)
  have HO1 := Lib.hid ho1
  have HX1 := Lib.hid hx1
  clear hG ho1 hx1 hw
  go_wp2_with fail
  (with_reducible refine (rCrc_any _ l _ (HR.out.ext HX1.out)).mono ?_)
  rintro e w' ⟨rfl, rfl⟩
  go_wp2_with fail
  (with_reducible refine (four_any _ (0 + 4) (crc l) w.heap.size _ _ HO1.out (crc_lt l) (by omega) (HX1.out.size)).mono ?_)
  rintro e w2 hG
  obtain ⟨v2, rfl, ho2, hx2⟩ := hG.ext HX1.out (own_ge HO1.out (Nat.le_refl _))
  have HO2 := Lib.hid ho2
  have HX2 := Lib.hid hx2
  have HS := Lib.hid ((HR.out.ext hx2).src bvs_one Try.underlying22)
  rw [bvs_length] at HS
  clear hG ho2 hx2 HO1 HX1
  go_wp2_with (at_builtin; refine wpList_app_src _ rfl (.tmp 13) (.tmp 14) 22 22 rfl w.heap.size 5 i0 (.int .u8 0) 1 Try.underlying22 hi hz0 hz1 hz2 rfl _ (0 + 4 + 4) _ rfl HO2.out _ l.length (bvs l) rfl HS.out ?c3 ?c4 ?c5 ?_)
  case c3 => have := HN.out; simp [maxLen]; omega
  case c4 => have := HN.out; omega
  case c5 => exact HX2.out.size
  intro v' w3 hown' hgrow hat' hfr'
  have HE := Lib.hid (HX2.out.trans' (grown_below hgrow HX2.out.size (own_ge HO2.out (Nat.le_refl _))))
  have HO := Lib.hid hown'
  obtain ⟨A3, n3, c3, rfl⟩ := Rd.shape (Rd.of_own hown')
  clear hown' hgrow hat' hfr' HO2 HX2
  go_wp2
  go_ret2
  refine ⟨_, rfl, ?_, HE.out⟩
  simpa [frameB, bvs_append, be_length, HN.out, Nat.add_comm, Nat.add_left_comm, Nat.add_assoc] using HO.out

end Go.Proofs.Ytcofjimjbobdgaa
