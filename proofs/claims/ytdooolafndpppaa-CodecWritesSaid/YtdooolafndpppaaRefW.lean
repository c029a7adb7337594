/- dispatchref2's writers: Int, Text, Ints. -/
import Derived.Test.YtdooolafndpppaaInts
namespace Go.Proofs.Ytdooolafndpppaa
open Go.RowKit

theorem two_div (x : Int) (r : Nat) (hr : r ≤ 7) : (x / 2 ^ (8 * r)) % 256 = ((two x / 256 ^ r : Nat) : Int) % 256 := by
  have h2 : (2 : Int) ^ (8 * r) = ((256 ^ r : Nat) : Int) := by
    have := two8 r
    rwa [show (8 * (r : Int)).toNat = 8 * r from by omega] at this
  have hc := two_cast x
  have : r = 0 ∨ r = 1 ∨ r = 2 ∨ r = 3 ∨ r = 4 ∨ r = 5 ∨ r = 6 ∨ r = 7 := by omega
  rw [h2]
  rcases this with rfl | rfl | rfl | rfl | rfl | rfl | rfl | rfl <;> (simp only [Nat.reducePow]; omega)

set_option maxHeartbeats 800000 in
theorem rInt_any (v : Value) (x : Int) (n base : Nat) (xs : List Value) (w : World) (hown : w.ownsRow base 5 1 v n xs) (hn : n + 8 ≤ 140737488355328) (hbase : base ≤ w.heap.size) :
    Calls Try.prog 11 #[v, .int .i64 x] w (Grew base v n (n + 8) (xs ++ bvs (eInt x)) w) := by
  obtain ⟨i0, hi, hz0, hz1, hz2⟩ := info_parts Try.infoU8
  go_enter Try.func11, Try.ntmps11
  go_wp2
  go_loopw [0, 5] (fun b i wr => ∃ (r k : Nat) (pre : List UInt8), r ≤ 8 ∧ i = .int .i64 ((r : Int) - 1) ∧ pre ++ be (two x) r = eInt x ∧ pre.length = k ∧ k + r = 8 ∧ wr.ownsRow base 5 1 b (n + k) (xs ++ bvs pre) ∧ w.grownBy wr v.ownBlock ∧
      (b.ownBlock = v.ownBlock ∨ ∀ k, b.ownBlock = some k → w.heap.size ≤ k) ∧ Fronts w wr v n) (fun _ i _ => (intOf i + 1).toNat)
  case atStart => exact ⟨8, 0, [], Nat.le_refl _, rfl, by simp [eInt], rfl, by omega, by simpa [bvs] using hown, World.grownBy.refl w _, .inl rfl, fun _ _ _ _ _ hu _ => hu⟩
  case round =>
    obtain ⟨r, k, pre, hr, rfl, hpre, hpl, hkr, hown1, hgr, hat, hfr⟩ := hrel
    rcases Nat.eq_zero_or_pos r with h0 | h0
    · subst h0
      have hp : pre = eInt x := by simpa [be] using hpre
      have hk : k = 8 := by omega
      have HP := Lib.hid hp
      have HK := Lib.hid hk
      clear hp hk hpre hkr
      rw [show (((0 : Nat) : Int) - 1) = -1 from rfl] at *
      go_wp2
      go_ret
      exact ⟨_, rfl, by rw [← HP.out, ← HK.out]; exact hown1, hgr, hat, hfr⟩
    · obtain ⟨r, rfl⟩ : ∃ r', r = r' + 1 := ⟨r - 1, by omega⟩
      have hsub : (((r + 1 : Nat) : Int) - 1) = (r : Int) := by omega
      rw [hsub]; clear hsub
      have hb : be (two x) (r + 1) = UInt8.ofNat (two x / 256 ^ r) :: be (two x) r := rfl
      rw [hb] at hpre
      have hpre' := Lib.hid (show (pre ++ [UInt8.ofNat (two x / 256 ^ r)]) ++ be (two x) r = eInt x by rw [← hpre]; simp)
      clear hpre hb
      have h8 : (0 : Int) ≤ 8 * (r : Int) := by omega
      have h9 : 8 * (r : Int) ≤ 64 := by omega
      have hv := Lib.hid (byte_of (two x) r (x / 2 ^ (8 * r) % 256) (two_div x r (by omega)))
      have hsz := hgr.size
      have hkr' := Lib.hid hkr
      have hkb : k + r < 8 := by omega
      clear hkr
      go_wp2_with (at_builtin; refine wpList_app_src _ rfl (.tmp 10) (.tmp 17) 22 22 rfl base 5 i0 (.int .u8 0) 1 Try.underlying22 hi hz0 hz1 hz2 rfl _ (n + k) (xs ++ bvs pre) rfl (hown1.alloc _) _ 1 _ rfl ((Rd.one _ _ _ _ _ rfl rfl).src ?c1 Try.underlying22) ?c3 ?c4 ?c5 ?_)
      case c1 => intro u hu; simp at hu; subst hu; rfl
      case c3 => simp [maxLen]; omega
      case c4 => omega
      case c5 => simp; omega
      intro v' w1 hown' hgrow hat' hfr'
      rw [hv.out, ← bvs_append] at hown'
      have hA : w.grownBy w1 v.ownBlock ∧ (v'.ownBlock = v.ownBlock ∨ ∀ k, v'.ownBlock = some k → w.heap.size ≤ k) ∧ Fronts w w1 v n := by
        refine ⟨grow_chain (hgr.trans (World.grownBy_alloc wr _ _)) hat hgrow, ?_, ?_⟩
        case refine_2 => exact Fronts.trans (Fronts.trans hfr hat (Nat.le_add_right n k) (Fronts.ext ((Ext.refl wr).alloc (Nat.le_refl _) _) _ _)) hat (Nat.le_add_right n k) hfr'
        rcases hat' with e | e
        · rw [e]; exact hat
        · right; intro k hk; rw [e] at hk; injection hk with hk; omega
      clear hown1 hgr hat hgrow hat' hfr hfr'
      have hA := Lib.hid hA
      go_wp2
      go_roundw
      case rel => exact ⟨r, k + 1, pre ++ [UInt8.ofNat (two x / 256 ^ r)], by omega, by go_num, hpre'.out, by simp [hpl], by have := hkr'.out; omega, by rw [show n + (k + 1) = n + k + 1 from by omega]; exact hown', hA.out.1, hA.out.2.1, hA.out.2.2⟩
      case measure => simp [intOf]

theorem two_bytes {s : Nat} (h : s ≤ 65535) : [Value.int .u8 (((s : Nat) : Int) / 256), Value.int .u8 ((s : Int) % 256)] = bvs (be s 2) := by
  have : (s : Int) / 256 = (s : Int) / 256 % 256 := by omega
  rw [this]
  simp [be, bvs, bv, UInt8.toNat_ofNat']

/-- The two cells of a new block. -/
theorem Rd.two (w : World) (x y : Value) (t : TypeId) (n c : Nat) (hn : n = 2) (hc : c = 2) : Rd (w.alloc (.cells #[x, y] t)) (.slice (some ⟨w.heap.size, 0, none⟩) n c) [x, y] := by
  subst hn hc
  exact ⟨_, _, rfl, Nat.le_refl _, by simp [maxLen], fun _ => ⟨_, rfl, by simp, World.news_of_block (heap_alloc_new w _)⟩⟩

theorem Fronts.chain {w w1 w2 : World} {v v1 : Value} {n n1 : Nat} (g1 : w.grownBy w1 v.ownBlock) (a1 : v1.ownBlock = v.ownBlock ∨ ∀ k, v1.ownBlock = some k → w.heap.size ≤ k) (f1 : Fronts w w1 v n) (hn : n ≤ n1)
    {base m : Nat} {ys : List Value} {e : Ending} (g : Grew base v1 n1 m ys w1 e w2) : Grew base v n m ys w e w2 := by
  obtain ⟨v', rfl, h1, h2, h3, h4⟩ := g
  refine ⟨v', rfl, h1, grow_chain g1 a1 h2, ?_, f1.trans a1 hn h4⟩
  rcases h3 with h3 | h3
  · rw [h3]; exact a1
  · exact .inr fun k hk => Nat.le_trans g1.size (h3 k hk)

theorem at_new {w : World} {v v1 : Value} {b : Nat} (h : v1.ownBlock = v.ownBlock ∨ v1.ownBlock = some b) (hb : w.heap.size ≤ b) : v1.ownBlock = v.ownBlock ∨ ∀ k, v1.ownBlock = some k → w.heap.size ≤ k := by
  rcases h with h | h
  · exact .inl h
  · exact .inr fun k hk => by rw [h] at hk; injection hk with hk; omega

theorem first_step {w w1 : World} {v v1 : Value} {n : Nat} {o : Obj} (hgrow1 : (w.alloc o).grownBy w1 v.ownBlock) (hat1 : v1.ownBlock = v.ownBlock ∨ v1.ownBlock = some (w.heap.size + 1)) (hfr1 : Fronts (w.alloc o) w1 v n) :
    w.grownBy w1 v.ownBlock ∧ (v1.ownBlock = v.ownBlock ∨ ∀ k, v1.ownBlock = some k → w.heap.size ≤ k) ∧ Fronts w w1 v n :=
  ⟨World.grownBy.trans (World.grownBy_alloc w _ _) hgrow1, at_new hat1 (by omega), Fronts.trans (Fronts.ext ((Below.refl _ _).alloc (Nat.le_refl _) _) v n) (.inl rfl) (Nat.le_refl _) hfr1⟩

set_option maxHeartbeats 400000 in
theorem rText_any (v : Value) (s : ByteArray) (n base : Nat) (xs : List Value) (w : World) (hown : w.ownsRow base 5 1 v n xs) (hn : n + 70000 ≤ 140737488355328) (hbase : base ≤ w.heap.size) (hs : s.size ≤ 65535) :
    Calls Try.prog 13 #[v, .string s] w (Grew base v n (n + 2 + s.size) (xs ++ (bvs (be s.size 2) ++ bvs s.data.toList)) w) := by
  obtain ⟨i0, hi, hz0, hz1, hz2⟩ := info_parts Try.infoU8
  have hv := Lib.hid (two_bytes hs)
  go_enter Try.func13, Try.ntmps13
  go_wp2_with (at_builtin; refine wpList_app_src _ rfl (.tmp 10) (.tmp 18) 22 22 rfl base 5 i0 (.int .u8 0) 1 Try.underlying22 hi hz0 hz1 hz2 rfl _ n xs rfl (hown.alloc _) _ 2 _ rfl ((Rd.two _ _ _ _ _ _ rfl rfl).src ?c1 Try.underlying22) ?c3 ?c4 ?c5 ?_)
  case c1 => intro u hu; simp at hu; rcases hu with rfl | rfl <;> rfl
  case c3 => simp [maxLen]; omega
  case c4 => omega
  case c5 => simp; omega
  intro v1 w1 hown1 hgrow1 hat1 hfr1
  rw [hv.out] at hown1
  have hG := Lib.hid (first_step hgrow1 hat1 hfr1)
  have hbs := hG.out.1.size
  clear hgrow1 hat1 hfr1
  have hS := Lib.hid (Src.ofString (P := Try.prog) w1 Try.underlying9 s)
  go_wp2_with (at_builtin; refine wpList_app_src _ rfl (.tmp 20) (.tmp 21) 22 9 rfl base 5 i0 (.int .u8 0) 1 Try.underlying22 hi hz0 hz1 hz2 rfl _ (n + 2) _ rfl hown1 _ s.size (byteCells s) rfl hS.out ?d3 ?d4 ?d5 ?_)
  case d3 => simp [maxLen]; omega
  case d4 => omega
  case d5 => omega
  intro v2 w2 hown2 hgrow2 hat2 hfr2
  have hF := Lib.hid (Fronts.chain hG.out.1 hG.out.2.1 hG.out.2.2 (Nat.le_add_right n 2) (show Grew base v1 (n + 2) (n + 2 + s.size) (xs ++ (bvs (be s.size 2) ++ bvs s.data.toList)) w1 (.returned v2) w2 from ⟨v2, rfl, hown2, hgrow2, at_new hat2 (Nat.le_refl _), hfr2⟩))
  clear hgrow2 hat2 hfr2 hown2 hown1
  go_wp2
  go_ret
  exact hF.out

set_option maxHeartbeats 800000 in
theorem rInts_any (v u : Value) (l : List Int) (n base : Nat) (xs : List Value) (w : World) (hown : w.ownsRow base 5 1 v n xs) (hu : Rd w u (ivs l)) (hub : 0 < l.length → ∀ a b c, u = .slice (some a) b c → v.ownBlock ≠ some a.block) (hn : n + 600000 ≤ 140737488355328) (hbase : base ≤ w.heap.size) (hl : l.length ≤ 65535) :
    Calls Try.prog 15 #[v, u] w (Grew base v n (n + 2 + 8 * l.length) (xs ++ (bvs (be l.length 2) ++ bvs (eNums l))) w) := by
  obtain ⟨i0, hi, hz0, hz1, hz2⟩ := info_parts Try.infoU8
  obtain ⟨A, c, rfl, hc1, hc2, hcell⟩ := hu
  rw [ivs_length] at *
  unfold maxLen at hc2
  have hcell := Lib.hid hcell
  have hub := Lib.hid hub
  have hv := Lib.hid (two_bytes hl)
  go_enter Try.func15, Try.ntmps15
  go_wp2_with (at_builtin; refine wpList_app_src _ rfl (.tmp 11) (.tmp 19) 22 22 rfl base 5 i0 (.int .u8 0) 1 Try.underlying22 hi hz0 hz1 hz2 rfl _ n xs rfl (hown.alloc _) _ 2 _ rfl ((Rd.two _ _ _ _ _ _ rfl rfl).src ?c1 Try.underlying22) ?c3 ?c4 ?c5 ?_)
  case c1 => intro u hu; simp at hu; rcases hu with rfl | rfl <;> rfl
  case c3 => simp [maxLen]; omega
  case c4 => omega
  case c5 => simp; omega
  intro v1 w1 hown1 hgrow1 hat1 hfr1
  rw [hv.out] at hown1
  have hG := Lib.hid (first_step hgrow1 hat1 hfr1)
  have hbs := hG.out.1.size
  clear hgrow1 hat1 hfr1
  go_wp2
  go_loopw [0, 5] (fun o i wr => ∃ k : Nat, k ≤ l.length ∧ i = .int .i64 k ∧ Grew base v n (n + 2 + 8 * k) (xs ++ (bvs (be l.length 2) ++ bvs (eNums (l.take k)))) w (.returned o) wr) (fun _ i _ => l.length - (intOf i).toNat)
  case atStart => exact ⟨0, Nat.zero_le _, rfl, v1, rfl, by simpa [eNums, bvs] using hown1, hG.out.1, hG.out.2.1, hG.out.2.2⟩
  case round =>
    obtain ⟨k, hk, rfl, v2, hv2, hown2, hgr2, hat2, hfr2⟩ := hrel
    injection hv2 with hv2
    subst hv2
    have hrs := hgr2.size
    by_cases hlt : k < l.length
    · obtain ⟨a, rfl, hb, hcs⟩ := hcell.out (by omega)
      have h0 : wr.cell? (a.add k) = some (.int .i64 l[k]) := by
        rw [World.cell?_of_block (hgr2.block (a.add k).block (by rw [add_block]; exact hb) (fun e => hub.out (by omega) a _ _ rfl (by rw [← e, add_block])))]
        exact hcs k (.int .i64 l[k]) (by simp [ivs, hlt])
      clear hcs
      have HT := Lib.hid (take_snocI l k hlt)
      go_wp2_with fail
      refine (rInt_any _ l[k] (n + 2 + 8 * k) base _ _ hown2 (by omega) (by omega)).mono ?_
      rintro e w3 hG3
      have hF := Fronts.chain hgr2 hat2 hfr2 (by omega) hG3
      obtain ⟨v3, rfl, hF⟩ := hF
      have hF := Lib.hid hF
      clear hG3 hgr2 hat2 hfr2 hown2 h0 hG
      go_wp2
      go_roundw
      case rel => exact ⟨k + 1, by omega, by go_num, v3, rfl, by rw [HT.out, eNums_snoc, bvs_append, ← List.append_assoc (bvs _), ← List.append_assoc]; exact hF.out.1, hF.out.2.1, hF.out.2.2.1, hF.out.2.2.2⟩
      case measure => simp [intOf]; omega
    · have hkl : k = l.length := by omega
      have HK := Lib.hid hkl
      clear hkl
      go_wp2
      go_ret
      exact ⟨_, rfl, by rw [HK.out] at hown2; simpa using hown2, hgr2, hat2, hfr2⟩

end Go.Proofs.Ytdooolafndpppaa
