/- frames.word, putWord, Frame; the reference's get, four, Frame. -/
import Derived.Test.YtcofjimjbobdgaaFrmA
import Derived.Test.YtcofjimjbobdgaaSub
import Derived.Laws.MakeOwn
import Derived.Deep.QuietTactic
import Derived.BigQuiet
import Derived.WalkSmall
namespace Go.Proofs.Ytcofjimjbobdgaa
open Go.RowKit

theorem bvs_at (l : List UInt8) (k : Nat) (h : k < l.length) : (bvs l)[k]? = some (bv l[k]) := by simp [bvs, h]

theorem or32 (n c : Nat) (hn : n < 16777216) (hc : c < 256) : bits .or .u32 ((n : Int) * 256) (c : Int) = ((n * 256 + c : Nat) : Int) := by
  rw [show ((n : Int) * 256) = ((n * 256 : Nat) : Int) from by omega, u32_or_nat _ _ (by omega) (by omega)]
  congr 1
  have := nat_join 8 (n * 256) c (by omega) (by simpa using hc)
  simpa using this

set_option maxHeartbeats 400000 in
theorem word_any (v : Value) (l : List UInt8) (w : World) (hr : Rd w v (bvs l)) (h4 : 4 ≤ l.length) :
    Calls Try.prog 25 #[v] w fun e w' => e = .returned (.int .u32 (va (l.take 4) : Nat)) ∧ w = w' := by
  obtain ⟨A, c, rfl, hc1, hc2, hcell⟩ := hr
  rw [bvs_length] at *
  unfold maxLen at hc2
  obtain ⟨a, rfl, hb, hcs⟩ := hcell (by omega)
  have hcs := Lib.hid hcs
  clear hcell
  go_enter Try.func25, Try.ntmps25
  go_wp2
  go_loop [3, 5] (fun n i => ∃ k : Nat, k ≤ 4 ∧ i = .int .i64 k ∧ n = .int .u32 (va (l.take k) : Nat)) (fun _ i => 4 - (intOf i).toNat)
  case atStart => exact ⟨0, Nat.zero_le _, rfl, rfl⟩
  case round =>
    obtain ⟨k, hk, rfl, rfl⟩ := hrel
    by_cases hlt : k < 4
    · have hkl : k < l.length := by omega
      have h0 : w.cell? (a.add k) = some (.int .u8 (l[k].toNat : Int)) := hcs.out k (bv l[k]) (by simp [bvs, hkl])
      have hc := l[k].toNat_lt
      have hvl := va_lt (l.take k)
      have hlk : (l.take k).length = k := by simp; omega
      rw [hlk] at hvl
      have hp : 256 ^ k ≤ 16777216 := by
        have : (256 : Nat) ^ k ≤ 256 ^ 3 := Nat.pow_le_pow_right (by decide) (by omega)
        simpa using this
      have hv : va (l.take k) < 16777216 := by omega
      have HO := Lib.hid (or32 (va (l.take k)) l[k].toNat hv hc)
      have HV := Lib.hid (va_snoc (l.take k) l[k])
      have HT := Lib.hid (take_snoc8 l k hkl)
      clear hlk hp hvl
      go_wp2
      go_round
      case rel => exact ⟨k + 1, by omega, by go_num, by rw [HT.out, HV.out, ← HO.out]⟩
      case measure => simp [intOf]; omega
    · obtain rfl : k = 4 := by omega
      go_wp2
      go_ret
      exact ⟨rfl, rfl⟩

theorem four_of (l : List UInt8) (h : 4 ≤ l.length) : ∃ a b c d m, l = a :: b :: c :: d :: m := by
  match l, h with
  | a :: b :: c :: d :: m, _ => exact ⟨a, b, c, d, m, rfl⟩

theorem or4 (x0 x1 x2 x3 : UInt8) (m : List UInt8) :
    bits .or .u32 (bits .or .u32 (bits .or .u32 ((x0.toNat : Int) * 16777216) ((x1.toNat : Int) * 65536)) ((x2.toNat : Int) * 256)) (x3.toNat : Int) = ((va ((x0 :: x1 :: x2 :: x3 :: m).take 4) : Nat) : Int) := by
  have g0 := x0.toNat_lt
  have g1 := x1.toNat_lt
  have g2 := x2.toNat_lt
  have g3 := x3.toNat_lt
  rw [show ((x0.toNat : Int) * 16777216) = ((x0.toNat * 16777216 : Nat) : Int) from by omega, show ((x1.toNat : Int) * 65536) = ((x1.toNat * 65536 : Nat) : Int) from by omega, show ((x2.toNat : Int) * 256) = ((x2.toNat * 256 : Nat) : Int) from by omega]
  rw [u32_or_nat _ _ (by omega) (by omega), nat_join 24 (x0.toNat * 16777216) (x1.toNat * 65536) (by omega) (by simp; omega)]
  rw [u32_or_nat _ _ (by omega) (by omega), nat_join 16 _ (x2.toNat * 256) (by omega) (by simp; omega)]
  rw [u32_or_nat _ _ (by omega) (by omega), nat_join 8 _ x3.toNat (by omega) (by simp; omega)]
  simp [va]
  omega

set_option maxHeartbeats 400000 in
theorem get_any (v : Value) (l : List UInt8) (w : World) (hr : Rd w v (bvs l)) (h4 : 4 ≤ l.length) :
    Calls Try.prog 24 #[v] w fun e w' => e = .returned (.int .u32 (va (l.take 4) : Nat)) ∧ ∃ n, w' = w.drewN n := by
  obtain ⟨x0, x1, x2, x3, m, rfl⟩ := four_of l h4
  obtain ⟨A, N, c, rfl, hN, hc1, hc2, hcell⟩ := hr.open
  simp only [List.length_cons] at hN hcell
  obtain ⟨a, rfl, hb, hcs⟩ := hcell (by omega)
  have h0 : w.cell? (a.add 0) = some (.int .u8 (x0.toNat : Int)) := hcs 0 (by omega)
  have h0' : w.cell? a = some (.int .u8 (x0.toNat : Int)) := by simpa [Addr.add] using h0
  have h1 : w.cell? ⟨a.block, a.off + 1, none⟩ = some (.int .u8 (x1.toNat : Int)) := by simpa [Addr.add] using hcs 1 (by omega)
  have h2 : w.cell? ⟨a.block, a.off + 2, none⟩ = some (.int .u8 (x2.toNat : Int)) := by simpa [Addr.add] using hcs 2 (by omega)
  have h3 : w.cell? ⟨a.block, a.off + 3, none⟩ = some (.int .u8 (x3.toNat : Int)) := by simpa [Addr.add] using hcs 3 (by omega)
  have g0 := x0.toNat_lt
  have g1 := x1.toNat_lt
  have g2 := x2.toNat_lt
  have g3 := x3.toNat_lt
  have l4 : 0 < N := by omega
  have l5 : (1 : Int) < (N : Int) := by omega
  have l6 : (2 : Int) < (N : Int) := by omega
  have l7 : (3 : Int) < (N : Int) := by omega
  have b0 : IntKind.u32.wrap (x0.toNat : Int) = (x0.toNat : Int) := IntWalk.u32_in _ ⟨by omega, by omega⟩
  have b1 : IntKind.u32.wrap (x1.toNat : Int) = (x1.toNat : Int) := IntWalk.u32_in _ ⟨by omega, by omega⟩
  have b2 : IntKind.u32.wrap (x2.toNat : Int) = (x2.toNat : Int) := IntWalk.u32_in _ ⟨by omega, by omega⟩
  have b3 : IntKind.u32.wrap (x3.toNat : Int) = (x3.toNat : Int) := IntWalk.u32_in _ ⟨by omega, by omega⟩
  have b4 : IntKind.u32.wrap ((x0.toNat : Int) * 16777216) = (x0.toNat : Int) * 16777216 := IntWalk.u32_in _ ⟨by omega, by omega⟩
  have b5 : IntKind.u32.wrap ((x1.toNat : Int) * 65536) = (x1.toNat : Int) * 65536 := IntWalk.u32_in _ ⟨by omega, by omega⟩
  have b6 : IntKind.u32.wrap ((x2.toNat : Int) * 256) = (x2.toNat : Int) * 256 := IntWalk.u32_in _ ⟨by omega, by omega⟩
  clear hcs hcell hN hr h4
  go_enter Try.func24, Try.ntmps24
  go_wp2
  go_quiet (fail)
  go_wp2
  go_ret
  exact ⟨ret_u (or4 x0 x1 x2 x3 m), _, rfl⟩

/-- The slice is owned from block g on; only v's own row and what is new has turned. -/
def Grew (base : Nat) (v : Value) (n0 n : Nat) (xs : List Value) (w : World) (e : Ending) (w' : World) : Prop :=
  ∃ v', e = .returned v' ∧ w'.ownsRow base 5 1 v' n xs ∧ w.grownBy w' v.ownBlock ∧ (v'.ownBlock = v.ownBlock ∨ ∀ k, v'.ownBlock = some k → w.heap.size ≤ k) ∧ Fronts w w' v n0

theorem byte_at (N k : Nat) (x : Int) (hk : k < 4) (hx : x = ((N / 256 ^ (3 - k) : Nat) : Int) % 256) : bvs ((be N 4).take k) ++ [Value.int .u8 x] = bvs ((be N 4).take (k + 1)) := by
  subst hx
  have : k = 0 ∨ k = 1 ∨ k = 2 ∨ k = 3 := by omega
  rcases this with rfl | rfl | rfl | rfl <;> simp [bvs, bv, be, UInt8.toNat_ofNat']

theorem shr8 (N r : Nat) : (N : Int) / 2 ^ (8 * r) % 256 = ((N / 256 ^ r : Nat) : Int) % 256 := by
  rw [show (2 : Int) ^ (8 * r) = ((256 ^ r : Nat) : Int) from by rw [Int.pow_mul, Int.natCast_pow]; rfl]
  simp

set_option maxHeartbeats 800000 in
theorem putWord_any (v : Value) (n N base : Nat) (xs : List Value) (w : World) (hown : w.ownsRow base 5 1 v n xs) (hN : N < 4294967296) (hn : n + 4 ≤ 140737488355328) (hbase : base ≤ w.heap.size) :
    Calls Try.prog 19 #[v, .int .u32 N] w (Grew base v n (n + 4) (xs ++ bvs (be N 4)) w) := by
  obtain ⟨i0, hi, hz0, hz1, hz2⟩ := info_parts Try.infoU8
  go_enter Try.func19, Try.ntmps19
  go_wp2
  go_loopw [0, 6] (fun b i wr => ∃ k : Nat, k ≤ 4 ∧ i = .int .i64 k ∧ wr.ownsRow base 5 1 b (n + k) (xs ++ bvs ((be N 4).take k)) ∧ w.grownBy wr v.ownBlock ∧
      (b.ownBlock = v.ownBlock ∨ ∀ k, b.ownBlock = some k → w.heap.size ≤ k) ∧ Fronts w wr v n) (fun _ i _ => 4 - (intOf i).toNat)
  case atStart => exact ⟨0, Nat.zero_le _, rfl, by simpa [bvs] using hown, World.grownBy.refl w _, .inl rfl, fun _ _ _ _ _ hu _ => hu⟩
  case round =>
    obtain ⟨k, hk, rfl, hown1, hgr, hat, hfr⟩ := hrel
    by_cases hlt : k < 4
    · have hsz := hgr.size
      have k0 : (0 : Int) ≤ (k : Int) := by omega
      have k4 : (k : Int) < 4 := by omega
      have k3 : (0 : Int) ≤ 8 * (3 - (k : Int)) := by omega
      have k5 : 8 * (3 - (k : Int)) ≤ 32 := by omega
      go_wp2_with (at_builtin; refine wpList_app_src _ rfl (.tmp 9) (.tmp 16) 22 22 rfl base 5 i0 (.int .u8 0) 1 Try.underlying22 hi hz0 hz1 hz2 rfl _ (n + k) (xs ++ bvs ((be N 4).take k)) rfl (hown1.alloc _) _ 1 _ rfl ((Rd.one _ _ _ _ _ rfl rfl).src ?c1 Try.underlying22) ?c3 ?c4 ?c5 ?_)
      case c1 => intro u hu; simp at hu; subst hu; rfl
      case c3 => simp [maxLen]; omega
      case c4 => omega
      case c5 => simp; omega
      intro v' w1 hown' hgrow hat' hfr'
      rw [byte_at N k _ hlt (shr8 N (3 - k))] at hown'
      have hA : w.grownBy w1 v.ownBlock ∧ (v'.ownBlock = v.ownBlock ∨ ∀ k, v'.ownBlock = some k → w.heap.size ≤ k) ∧ Fronts w w1 v n := by
        refine ⟨grow_chain (hgr.trans (World.grownBy_alloc wr _ _)) hat hgrow, ?_, ?_⟩
        case refine_2 => exact Fronts.trans (Fronts.trans hfr hat (Nat.le_add_right n k) (Fronts.ext ((Ext.refl wr).alloc (Nat.le_refl _) _) _ _)) hat (Nat.le_add_right n k) hfr'
        rcases hat' with e | e
        · rw [e]; exact hat
        · right; intro k hk; rw [e] at hk; injection hk with hk; omega
      clear hown1 hgr hat hgrow hat' hfr hfr'
      have hA := Lib.hid hA
      go_wp2
      go_roundw
      case rel => exact ⟨k + 1, by omega, by go_num, by rw [show n + (k + 1) = n + k + 1 from by omega]; exact hown', hA.out.1, hA.out.2.1, hA.out.2.2⟩
      case measure => simp [intOf]; omega
    · obtain rfl : k = 4 := by omega
      go_wp2
      go_ret
      exact ⟨_, rfl, by simpa [be] using hown1, hgr, hat, hfr⟩

theorem putWord_as (v : Value) (y : Int) (n N base : Nat) (xs : List Value) (w : World) (hy : y = (N : Int)) (hown : w.ownsRow base 5 1 v n xs) (hN : N < 4294967296) (hn : n + 4 ≤ 140737488355328) (hbase : base ≤ w.heap.size) :
    Calls Try.prog 19 #[v, .int .u32 y] w (Grew base v n (n + 4) (xs ++ bvs (be N 4)) w) := by
  subst hy; exact putWord_any v n N base xs w hown hN hn hbase

theorem own_ge {w : World} {base : Nat} {e : TypeId} {v : Value} {n : Nat} {xs : List Value} (h : w.ownsRow base e 1 v n xs) {B : Nat} (hB : B ≤ base) : ∀ k, v.ownBlock = some k → B ≤ k :=
  fun k hk => Nat.le_trans hB (h.lt k hk).1
theorem ext_alloc (w : World) (o : Obj) : Ext w (w.alloc o) := (Below.refl _ _).alloc (Nat.le_refl _) o
theorem ext_drewN (w : World) (n : Nat) : Ext w (w.drewN n) := ⟨rfl, rfl, rfl, Nat.le_refl _, fun _ _ => rfl⟩
theorem Rd.shape {w : World} {v : Value} {xs : List Value} (h : Rd w v xs) : ∃ A n c, v = .slice A n c := by
  obtain ⟨A, c, h, _⟩ := h.len
  exact ⟨A, _, c, h⟩

/-- A row of the call's own, and an error; all that was there is as it was. -/
def Made2 (l : List UInt8) (f : IntKind × Int) (w : World) (e : Ending) (w' : World) : Prop :=
  ∃ v', e = .returned (.tuple #[v', .int f.1 f.2]) ∧ w'.ownsRow w.heap.size 5 1 v' l.length (bvs l) ∧ Ext w w'

theorem frm_long (v : Value) (l : List UInt8) (w : World) (hr : Rd w v (bvs l)) (hl : 4000 < l.length) :
    Calls Try.prog 11 #[v] w (Made2 [] (.i64, 5) w) := by
  obtain ⟨A, N, c, rfl, hN, hc1, hc2, hcell⟩ := hr.open
  have h : (4000 : Int) < (N : Int) := by omega
  clear hN hcell hr hl
  go_enter Try.func11, Try.ntmps11
  go_wp2
  go_ret2
  exact ⟨_, rfl, World.ownsRow_nil w _ _ 1, Ext.refl w⟩

theorem rfrm_long (v : Value) (l : List UInt8) (w : World) (hr : Rd w v (bvs l)) (hl : 4000 < l.length) :
    Calls Try.prog 14 #[v] w (Made2 [] (.i64, 5) w) := by
  obtain ⟨A, N, c, rfl, hN, hc1, hc2, hcell⟩ := hr.open
  have h : (4000 : Int) < (N : Int) := by omega
  clear hN hcell hr hl
  go_enter Try.func14, Try.ntmps14
  go_wp2
  go_ret2
  exact ⟨_, rfl, World.ownsRow_nil w _ _ 1, Ext.refl w⟩

theorem Grew.ext {base n0 n : Nat} {v : Value} {xs : List Value} {w0 w w' : World} {e : Ending} (h : Grew base v n0 n xs w e w') (hx : Ext w0 w) (hv : ∀ k, v.ownBlock = some k → w0.heap.size ≤ k) : ∃ v', e = .returned v' ∧ w'.ownsRow base 5 1 v' n xs ∧ Ext w0 w' := by
  obtain ⟨v', rfl, h1, h2, _, _⟩ := h
  exact ⟨v', rfl, h1, hx.trans' (grown_below h2 hx.size hv)⟩

set_option maxHeartbeats 800000 in
theorem frm_ok (v : Value) (l : List UInt8) (w : World) (hr : Rd w v (bvs l)) (hl : l.length ≤ 4000) :
    Calls Try.prog 11 #[v] w (Made2 (frameB l) (.i64, 0) w) := by
  obtain ⟨i0, hi, hz0, hz1, hz2⟩ := info_parts Try.infoU8
  have HR := Lib.hid hr
  obtain ⟨A, N, c, rfl, hN, hc1, hc2, hcell⟩ := hr.open
  have h : ¬ (4000 : Int) < (N : Int) := by omega
  have h1 : N ≤ 4000 := by omega
  have hw : IntKind.u32.wrap (N : Int) = (N : Int) := IntWalk.u32_in _ ⟨by omega, by omega⟩
  have hmk : ∀ W : World, (Instr.makeSlice 22 (.int .i64 0) (.int .i64 (8 + (N : Int)))).run Try.prog W = .ok (.slice (some ⟨W.heap.size, 0, none⟩) 0 (8 + N)) (W.alloc (.cells (madeCells #[.int .u8 0] (8 + N)) 5)) := by
    intro W
    have := run_make (P := Try.prog) W 22 5 i0 (.int .u8 0) Try.underlying22 hi hz0 .i64 .i64 0 (8 + (N : Int)) (by omega) (by omega) (by rw [hz2]; omega) (by omega)
    rw [this, hz1]
    rw [show (8 + (N : Int)).toNat = 8 + N from by omega]
    simp [Value.cells]
  have hown := Lib.hid (show (w.alloc (.cells (madeCells #[.int .u8 0] (8 + N)) 5)).ownsRow w.heap.size 5 1 (.slice (some ⟨w.heap.size, 0, none⟩) 0 (8 + N)) 0 [] from
    World.ownsRow_made w _ _ (Nat.le_refl _) (by simp [maxLen]; omega) (by simp [madeCells]))
  have HN := Lib.hid hN
  clear hN hcell hr hl
  go_enter Try.func11, Try.ntmps11
  go_wp2_with fail
  (with_reducible refine (putWord_any _ 0 N w.heap.size [] _ hown.out (by omega) (by omega) (by simp)).mono ?_)
  rintro e w1 hG
  obtain ⟨v1, rfl, ho1, hx1⟩ := hG.ext (ext_alloc w _) (fun k hk => by simp [Value.ownBlock] at hk; omega)
  have HO1 := Lib.hid ho1
  have HX1 := Lib.hid hx1
  clear hG ho1 hx1 hown hw
  go_wp2_with fail
  refine (Crc_any _ l _ (HR.out.ext HX1.out)).mono ?_
  rintro e w' ⟨rfl, rfl⟩
  go_wp2_with fail
  refine (putWord_any _ (0 + 4) (crc l) w.heap.size _ _ HO1.out (crc_lt l) (by omega) (HX1.out.size)).mono ?_
  rintro e w2 hG
  obtain ⟨v2, rfl, ho2, hx2⟩ := hG.ext HX1.out (own_ge HO1.out (Nat.le_refl _))
  have HO2 := Lib.hid ho2
  have HX2 := Lib.hid hx2
  have HS := Lib.hid ((HR.out.ext hx2).src bvs_one Try.underlying22)
  rw [bvs_length] at HS
  clear hG ho2 hx2 HO1 HX1
  go_wp2_with (at_builtin; refine wpList_app_src _ rfl (.tmp 19) (.tmp 20) 22 22 rfl w.heap.size 5 i0 (.int .u8 0) 1 Try.underlying22 hi hz0 hz1 hz2 rfl _ (0 + 4 + 4) _ rfl HO2.out _ l.length (bvs l) rfl HS.out ?c3 ?c4 ?c5 ?_)
  case c3 => have := HN.out; simp [maxLen]; omega
  case c4 => have := HN.out; omega
  case c5 => exact HX2.out.size
  intro v' w3 hown' hgrow hat' hfr'
  have HE := Lib.hid (HX2.out.trans' (grown_below hgrow HX2.out.size (own_ge HO2.out (Nat.le_refl _))))
  have HO := Lib.hid hown'
  obtain ⟨A3, n3, c3, rfl⟩ := Rd.shape (Rd.of_own hown')
  clear hown' hgrow hat' hfr' HO2 HX2
  go_wp2
  go_ret2
  refine ⟨_, rfl, ?_, HE.out⟩
  have := HO.out
  rw [← HN.out] at this
  simpa [frameB, bvs_append, be_length, HN.out, Nat.add_comm, Nat.add_left_comm, Nat.add_assoc] using HO.out

end Go.Proofs.Ytcofjimjbobdgaa
