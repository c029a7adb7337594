/- nodes.put: a list of its own, the node at its place. -/
import Derived.Test.YtffioglbgnbieaaNdCheck
import Derived.Test.YtffioglbgnbieaaCopyK
import Derived.Test.YtffioglbgnbieaaClones
namespace Go.Proofs.Ytffioglbgnbieaa
open Go.RowKit

/-- Behind all of lower Ids, ahead of all of higher ones. -/
def putN (ds : List ND) (d : ND) : List ND := ds.take (ds.findIdx (fun x => decide (d.id ≤ x.id))) ++ d :: ds.drop (ds.findIdx (fun x => decide (d.id < x.id)))

theorem ncells_take (ds : List ND) (k : Nat) : ncells (ds.take k) = (ncells ds).take (k * 8) := by
  induction ds generalizing k with
  | nil => simp [ncells]
  | cons d ds ih =>
    cases k with
    | zero => simp [ncells]
    | succ k =>
      rw [List.take_succ_cons]
      show nenc d ++ ncells (ds.take k) = (nenc d ++ ncells ds).take ((k + 1) * 8)
      rw [ih, show (k + 1) * 8 = (nenc d).length + k * 8 by simp [nenc]; omega, List.take_length_add_append]
theorem ncells_drop (ds : List ND) (k : Nat) : ncells (ds.drop k) = (ncells ds).drop (k * 8) := by
  induction ds generalizing k with
  | nil => simp [ncells]
  | cons d ds ih =>
    cases k with
    | zero => simp
    | succ k =>
      rw [List.drop_succ_cons]
      show ncells (ds.drop k) = (nenc d ++ ncells ds).drop ((k + 1) * 8)
      rw [ih, show (k + 1) * 8 = (nenc d).length + k * 8 by simp [nenc]; omega, List.drop_length_add_append]
theorem ncells_app (a b : List ND) : ncells (a ++ b) = ncells a ++ ncells b := by simp [ncells]
theorem ncells_one (ds : List ND) : ∀ u ∈ ncells ds, u.oneCell' = true := by
  intro u hu
  unfold ncells at hu
  rw [List.mem_flatMap] at hu
  obtain ⟨d, _, hu⟩ := hu
  simp [nenc] at hu
  rcases hu with rfl | rfl | rfl | rfl | rfl | rfl | rfl | rfl <;> rfl
/-- Eight cells of a row are written anew. -/
theorem set8 (L R : List Value) (p : Nat) (hp : L.length = p) (x0 x1 x2 x3 x4 x5 x6 x7 v0 v1 v2 v3 v4 v5 v6 v7 : Value) :
    ((((((((L ++ x0 :: x1 :: x2 :: x3 :: x4 :: x5 :: x6 :: x7 :: R).set p v0).set (p + 1) v1).set (p + 2) v2).set (p + 3) v3).set (p + 4) v4).set (p + 5) v5).set (p + 6) v6).set (p + 7) v7 = L ++ v0 :: v1 :: v2 :: v3 :: v4 :: v5 :: v6 :: v7 :: R := by
  subst hp
  induction L with
  | nil => rfl
  | cons a l ih => simp
theorem bset8k {w : World} {b p : Nat} {t : TypeId} {L R : List Value} {x0 x1 x2 x3 x4 x5 x6 x7 : Value} (hp : L.length = p) (h : w.heap[b]? = some (.cells (L ++ x0 :: x1 :: x2 :: x3 :: x4 :: x5 :: x6 :: x7 :: R).toArray t (0, 0))) (v0 v1 v2 v3 v4 v5 v6 v7 : Value) :
    ((((((((w.setCell ⟨b, p, none⟩ v0).setCell ⟨b, p + 1, none⟩ v1).setCell ⟨b, p + 2, none⟩ v2).setCell ⟨b, p + 3, none⟩ v3).setCell ⟨b, p + 4, none⟩ v4).setCell ⟨b, p + 5, none⟩ v5).setCell ⟨b, p + 6, none⟩ v6).setCell ⟨b, p + 7, none⟩ v7).heap[b]? =
      some (.cells (L ++ v0 :: v1 :: v2 :: v3 :: v4 :: v5 :: v6 :: v7 :: R).toArray t (0, 0)) := by
  have e := bset (bset (bset (bset (bset (bset (bset (bset h p v0) (p + 1) v1) (p + 2) v2) (p + 3) v3) (p + 4) v4) (p + 5) v5) (p + 6) v6) (p + 7) v7
  rw [e]
  simp only [List.setIfInBounds_toArray, set8 L R p hp]
theorem eight (Z : List Value) (n : Nat) (h : Z.length = (n + 1) * 8) : ∃ x0 x1 x2 x3 x4 x5 x6 x7 R, Z = x0 :: x1 :: x2 :: x3 :: x4 :: x5 :: x6 :: x7 :: R ∧ R.length = n * 8 := by
  match Z, h with
  | x0 :: x1 :: x2 :: x3 :: x4 :: x5 :: x6 :: x7 :: R, h => exact ⟨x0, x1, x2, x3, x4, x5, x6, x7, R, rfl, by simp at h; omega⟩
  | [], h => simp at h <;> omega
  | [_], h => simp at h <;> omega
  | [_, _], h => simp at h <;> omega
  | [_, _, _], h => simp at h <;> omega
  | [_, _, _, _], h => simp at h <;> omega
  | [_, _, _, _, _], h => simp at h <;> omega
  | [_, _, _, _, _, _], h => simp at h <;> omega
  | [_, _, _, _, _, _, _], h => simp at h <;> omega

theorem get_behind {L X : List Value} {p : Nat} (hp : L.length = p) (j : Nat) {u : Value} (h : X[j]? = some u) : (L ++ X).toArray[p + j]? = some u := by
  rw [List.getElem?_toArray, List.getElem?_append_right (by omega), hp, Nat.add_sub_cancel_left]
  exact h
def PutPost (xs : List ND) (w : World) (e : Ending) (w' : World) : Prop := ∃ g, e = .returned (.slice (some ⟨g, 0, none⟩) xs.length xs.length) ∧ w.heap.size ≤ g ∧ w'.heap[g]? = some (.cells (ncells xs).toArray 44 (0, 0)) ∧ Ext w w'

set_option maxRecDepth 100000 in
set_option maxHeartbeats 3200000 in
theorem put_any (ds : List ND) (v : Value) (d : ND) (w : World) (hn : Hd w v ds.length (ncells ds)) (hlen : ds.length ≤ 1000) :
    Calls Try.prog 17 #[v, nodeV d] w (PutPost (putN ds d) w) := by
  obtain ⟨c0, hc, hcz0, hcz1, hcz2⟩ := info_parts Try.infoClNode
  have HU := Lib.hid (fun W (x : Ext w W) => first_any 31 d.id _ (isUpTo_means d.id) v ds W (hn.ext x) hlen)
  have HB := Lib.hid (fun W (x : Ext w W) => first_any 32 d.id _ (isBelow_means d.id) v ds W (hn.ext x) hlen)
  have hi := List.findIdx_le_length (p := fun x => decide (d.id ≤ x.id)) (xs := ds)
  have hj := List.findIdx_le_length (p := fun x => decide (d.id < x.id)) (xs := ds)
  obtain ⟨i, ei⟩ : ∃ i, i = ds.findIdx (fun x => decide (d.id ≤ x.id)) := ⟨_, rfl⟩
  obtain ⟨j, ej⟩ : ∃ j, j = ds.findIdx (fun x => decide (d.id < x.id)) := ⟨_, rfl⟩
  have HP := Lib.hid (show putN ds d = ds.take i ++ d :: ds.drop j by unfold putN; rw [← ei, ← ej])
  rw [← ei] at HU hi
  rw [← ej] at HB hj
  clear ei ej
  obtain ⟨A, c, rfl, hc1, hc2, hcell⟩ := hn
  unfold maxLen at hc2
  obtain ⟨N, hN⟩ : ∃ N, N = ds.length := ⟨_, rfl⟩
  rw [← hN] at HU HB hi hj hc1 hlen hcell ⊢
  have HN := Lib.hid hN
  have HC := Lib.hid hcell
  have sh := fun (W : World) (kl : IntKind) => slK_h (P := Try.prog) (A := A) (n := N) (c := c) Try.underlying28 hc hcz1 (h := i) (by omega) W kl
  have sl := fun (W : World) (kl : IntKind) => slK_l (P := Try.prog) (A := A) (n := N) (c := c) Try.underlying28 hc hcz1 (l := j) (by omega) W kl
  clear hN hcell
  obtain ⟨m, hm⟩ : ∃ m, m = N - j := ⟨_, rfl⟩
  obtain ⟨c9, hc9⟩ : ∃ c9, c9 = c - j := ⟨_, rfl⟩
  obtain ⟨A1, hA1⟩ : ∃ A1, A1 = subK 8 A 0 c := ⟨_, rfl⟩
  obtain ⟨A2, hA2⟩ : ∃ A2, A2 = subK 8 A j c := ⟨_, rfl⟩
  rw [← hA1] at sh
  rw [← hm, ← hc9, ← hA2] at sl
  have HM := Lib.hid hm
  have HA1 := Lib.hid hA1
  have HA2 := Lib.hid hA2
  have hm9 : m ≤ c9 := by omega
  have hm1 : m ≤ 1000 := by omega
  have hi1 : i ≤ 1000 := by omega
  have HIJ := Lib.hid (show i ≤ N ∧ j ≤ N ∧ N ≤ c from ⟨hi, hj, hc1⟩)
  clear hm hc9 hA1 hA2 hc1 hi hj hlen
  have w1 : wrap64 ((i : Int) + 1) = ((i + 1 : Nat) : Int) := by unfold wrap64; omega
  have w2 : wrap64 (((i + 1 : Nat) : Int) + (m : Int)) = ((i + 1 + m : Nat) : Int) := by unfold wrap64; omega
  have hmk : ∀ W : World, (Instr.makeSlice 28 (.int .i64 ((i : Int) + 1 + (m : Int))) (.int .i64 ((i : Int) + 1 + (m : Int)))).run Try.prog W = .ok (.slice (some ⟨W.heap.size, 0, none⟩) (i + 1 + m) (i + 1 + m)) (W.alloc (.cells (madeCells c0.zero.get!.cells ((i + 1 + m) * 8)) 44)) := by
    intro W
    have := run_make (P := Try.prog) W 28 44 c0 _ Try.underlying28 hc hcz0 .i64 .i64 ((i + 1 + m : Nat) : Int) ((i + 1 + m : Nat) : Int) (by omega) (by omega) (by rw [hcz2]; omega) (by omega)
    rw [show (i : Int) + 1 + (m : Int) = ((i + 1 + m : Nat) : Int) by omega, this, hcz1, hcz0, Int.toNat_natCast]
    rfl
  obtain ⟨Z, hZ⟩ : ∃ Z, Z = madeCells c0.zero.get!.cells ((i + 1 + m) * 8) := ⟨_, rfl⟩
  have HZ := Lib.hid (show Z.toList.length = (i + 1 + m) * 8 by rw [hZ]; simp [size_madeCells])
  rw [← hZ] at hmk
  have hZZ : Z = Z.toList.toArray := by simp
  have hsz : (Try.prog.info? 44).map (·.size) = some 8 := by rw [hc]; simp [hcz1]
  obtain ⟨ZL, hZL⟩ : ∃ ZL, ZL = Z.toList := ⟨_, rfl⟩
  rw [← hZL] at HZ hZZ
  rw [hZZ] at hmk
  clear hZ hZZ hZL Z
  unfold nodeV
  go_enter Try.func17, Try.ntmps17
  go_upto_region 2 with fail
  obtain ⟨W1, hW1⟩ : ∃ W1, W1 = w.alloc (.cells #[.int .i64 d.id, .int .i64 d.label, .int .i64 d.rack, .int .i64 d.mem, .int .i64 d.cores, .int .i64 d.seen, .int .i64 d.beat, .bool d.up] 44) := ⟨_, rfl⟩
  have X1 := Lib.hid (show Ext w W1 by rw [hW1]; exact ext_alloc _ _)
  have HT := Lib.hid (show W1.heap[w.heap.size]? = some (.cells #[.int .i64 d.id, .int .i64 d.label, .int .i64 d.rack, .int .i64 d.mem, .int .i64 d.cores, .int .i64 d.seen, .int .i64 d.beat, .bool d.up] 44 (0, 0)) by rw [hW1]; exact heap_alloc_new w _)
  obtain ⟨B, hB⟩ : ∃ B, B = w.heap.size := ⟨_, rfl⟩
  have HBB := Lib.hid hB
  rw [← hW1, ← hB]
  rw [← hB] at HT
  clear hW1 hB
  refine wp_region_sched Ext ext_way [(0, true), (1, true), (2, true), (3, true), (4, true), (5, true), (6, true), (7, true), (8, true), (9, true), (10, true), (11, true), (12, true), (13, true)] (by kernel_rfl) (by kernel_rfl) (fun _ _ _ _ _ h => h) ?_
  repeat first | ((with_reducible refine sched_free ?_ ?_ ?_ ?_ (fun wk k1 => ?_) ?_); rotate_left 2; (rfl); (first | exact want_none rfl | exact want_some rfl rfl rfl rfl); (go_simp; first | exact OkX.val | ((with_reducible refine OkX.eqv (OkX.call (HU.out _ (X1.out.trans ((Ext.drew _).trans k1)))) ?_); exact rfl) | ((with_reducible refine OkX.eqv (OkX.call (HB.out _ (X1.out.trans ((Ext.drew _).trans k1)))) ?_); exact rfl)); simp only [Act.put, List.setIfInBounds_toArray, List.set_cons_zero, List.set_cons_succ]) | ((with_reducible refine sched_skip ?_ ?_ ?_ ?_); rotate_left; (rfl); (exact want_not rfl rfl rfl rfl rfl); simp only [Act.put, List.setIfInBounds_toArray, List.set_cons_zero, List.set_cons_succ])
  refine sched_done (fun W2 k1 => ?_)
  have X2 := Lib.hid (X1.out.trans ((Ext.drew _).trans k1))
  have HT2 := Lib.hid (ext_blk ((Ext.drew _).trans k1) HT.out)
  clear k1 HT
  have HW2 := Lib.hid (show B < W2.heap.size from (Array.getElem?_eq_some_iff.1 HT2.out).1)
  go_upto_region 4 with fail
  refine at_world (fun W3 hW3 => ?_)
  have HG := Lib.hid (show W3.heap[W2.heap.size]? = some (.cells ZL.toArray 44 (0, 0)) by rw [hW3]; exact heap_alloc_new W2 _)
  have E3 := Lib.hid (show Ext W2 W3 by rw [hW3]; exact ext_alloc _ _)
  have X3 := Lib.hid (X2.out.trans E3.out)
  have HGW := Lib.hid (show w.heap.size ≤ W2.heap.size from X2.out.size)
  have B3 := Lib.hid (show Below w.heap.size w W3 from X3.out)
  obtain ⟨G, hG⟩ : ∃ G, G = W2.heap.size := ⟨_, rfl⟩
  rw [← hG] at HG HGW HW2 ⊢
  have HT3 := Lib.hid (ext_blk E3.out HT2.out)
  clear hW3 hG E3 HT2
  have HL1 := Lib.hid (show (ncells (ds.take i)).length = i * 8 by rw [ncells_len, List.length_take]; have := HIJ.out; have := HN.out; rw [Nat.min_eq_left (by omega)])
  have HL2 := Lib.hid (show (ncells (ds.drop j)).length = m * 8 by rw [ncells_len, List.length_drop, HM.out, HN.out])
  have HP1 := Lib.hid (show 0 < i → ∃ ad, A1 = some ad ∧ ∀ k u, (ncells (ds.take i))[k]? = some u → w.cell? (ad.add k) = some u from fun h0 => by
    obtain ⟨g, rfl, _, hc⟩ := HC.out (by have := HIJ.out; omega)
    refine ⟨⟨g, 0, none⟩, by rw [HA1.out, subK_head 8 g 0 c (.inr rfl), Nat.zero_mul], fun k u hu => ?_⟩
    rw [head_add, Nat.zero_add]
    refine hc k u ?_
    rw [ncells_take, List.getElem?_take] at hu
    split at hu
    · exact hu
    · cases hu)
  have HP2 := Lib.hid (show 0 < m → ∃ ad, A2 = some ad ∧ ∀ k u, (ncells (ds.drop j))[k]? = some u → w.cell? (ad.add k) = some u from fun h0 => by
    obtain ⟨g, rfl, _, hc⟩ := HC.out (by have := HIJ.out; have := HM.out; omega)
    refine ⟨⟨g, j * 8, none⟩, by rw [HA2.out, subK_head 8 g j c (by have := HIJ.out; have := HM.out; omega)], fun k u hu => ?_⟩
    rw [head_add]
    refine hc _ u ?_
    rw [ncells_drop, List.getElem?_drop] at hu
    exact hu)
  obtain ⟨L1, hL1⟩ : ∃ L, L = ncells (ds.take i) := ⟨_, rfl⟩
  obtain ⟨L2, hL2⟩ : ∃ L, L = ncells (ds.drop j) := ⟨_, rfl⟩
  have HO1 := Lib.hid (show ∀ u ∈ L1, u.oneCell' = true by rw [hL1]; exact ncells_one _)
  have HO2 := Lib.hid (show ∀ u ∈ L2, u.oneCell' = true by rw [hL2]; exact ncells_one _)
  have HR := Lib.hid (show ncells (putN ds d) = L1 ++ .int .i64 d.id :: .int .i64 d.label :: .int .i64 d.rack :: .int .i64 d.mem :: .int .i64 d.cores :: .int .i64 d.seen :: .int .i64 d.beat :: .bool d.up :: L2 by rw [HP.out, ncells_app, hL1, hL2]; rfl)
  have HRL := Lib.hid (show (putN ds d).length = i + 1 + m by rw [HP.out, List.length_append, List.length_cons, List.length_take, List.length_drop]; have := HIJ.out; have := HN.out; have := HM.out; omega)
  rw [← hL1] at HL1 HP1
  rw [← hL2] at HL2 HP2
  clear hL1 hL2 HC HA1 HA2 HP HU HB
  obtain ⟨y0, y1, y2, y3, y4, y5, y6, y7, R, hy, hRl⟩ := eight (ZL.drop (i * 8)) m (by rw [List.length_drop, HZ.out]; omega)
  have HS1 := Lib.hid (show splice ZL 0 L1 = L1 ++ y0 :: y1 :: y2 :: y3 :: y4 :: y5 :: y6 :: y7 :: R by unfold splice; rw [← hy, HL1.out]; simp)
  have HRl := Lib.hid hRl
  clear hy hRl
  go_wp2_with (with_reducible refine wpList_copyK rfl (.tmp 30) (.tmp 31) 28 28 rfl 44 8 Try.underlying28 hsz (some ⟨G, 0, none⟩) A1 (i + 1 + m) (i + 1 + m) i c i rfl rfl G 0 ZL 44 HG.out L1 ?c1 HL1.out ?c2 ?c3 HO1.out w.heap.size w B3.out HGW.out ?_)
  case c1 => exact Nat.min_eq_left (by omega)
  case c2 =>
    intro h0
    obtain ⟨ad, e, h⟩ := HP1.out h0
    first | exact ⟨ad, e, fun k u hu => X3.out.cell' (h k u hu)⟩ | exact ⟨rfl, ad, e, fun k u hu => X3.out.cell' (h k u hu)⟩
  case c3 => rw [HL1.out, HZ.out]; omega
  intro W4 hg4 hb4 hgr4
  have HG4 := Lib.hid (show W4.heap[G]? = some (.cells (L1 ++ y0 :: y1 :: y2 :: y3 :: y4 :: y5 :: y6 :: y7 :: R).toArray 44 (0, 0)) by rw [← HS1.out]; exact hg4.out)
  have X4 := Lib.hid hb4
  have HT4 := Lib.hid (show W4.heap[B]? = some (.cells #[.int .i64 d.id, .int .i64 d.label, .int .i64 d.rack, .int .i64 d.mem, .int .i64 d.cores, .int .i64 d.seen, .int .i64 d.beat, .bool d.up] 44 (0, 0)) by rw [hgr4.block B (by have := (Array.getElem?_eq_some_iff.1 HT3.out).1; exact this) (by have := HW2.out; intro e; injection e; omega)]; exact HT3.out)
  clear hg4 hb4 hgr4 HS1 HG HT3
  have t0 := bcel HT4.out 0 (.int .i64 d.id) rfl
  have t1 := bcel HT4.out 1 (.int .i64 d.label) rfl
  have t2 := bcel HT4.out 2 (.int .i64 d.rack) rfl
  have t3 := bcel HT4.out 3 (.int .i64 d.mem) rfl
  have t4 := bcel HT4.out 4 (.int .i64 d.cores) rfl
  have t5 := bcel HT4.out 5 (.int .i64 d.seen) rfl
  have t6 := bcel HT4.out 6 (.int .i64 d.beat) rfl
  have t7 := bcel HT4.out 7 (.bool d.up) rfl
  have f := fun j => bfre HG4.out j
  have q0 := bcel HG4.out (i * 8 + 0) y0 (get_behind HL1.out 0 rfl)
  have q1 := bcel HG4.out (i * 8 + 1) y1 (get_behind HL1.out 1 rfl)
  have q2 := bcel HG4.out (i * 8 + 2) y2 (get_behind HL1.out 2 rfl)
  have q3 := bcel HG4.out (i * 8 + 3) y3 (get_behind HL1.out 3 rfl)
  have q4 := bcel HG4.out (i * 8 + 4) y4 (get_behind HL1.out 4 rfl)
  have q5 := bcel HG4.out (i * 8 + 5) y5 (get_behind HL1.out 5 rfl)
  have q6 := bcel HG4.out (i * 8 + 6) y6 (get_behind HL1.out 6 rfl)
  have q7 := bcel HG4.out (i * 8 + 7) y7 (get_behind HL1.out 7 rfl)
  rw [Nat.add_zero] at q0
  have k0 : (0 : Int) ≤ (i : Int) := by omega
  have k1 : (i : Int) < (i : Int) + 1 + (m : Int) := by omega
  go_upto_region 6 with fail
  refine at_world (fun W5 hW5 => ?_)
  have HG5 := Lib.hid (show W5.heap[G]? = some (.cells (L1 ++ .int .i64 d.id :: .int .i64 d.label :: .int .i64 d.rack :: .int .i64 d.mem :: .int .i64 d.cores :: .int .i64 d.seen :: .int .i64 d.beat :: .bool d.up :: R).toArray 44 (0, 0)) by rw [hW5]; exact bset8k HL1.out HG4.out _ _ _ _ _ _ _ _)
  have X5 := Lib.hid (show Ext w W5 by rw [hW5]; exact ext_set (ext_set (ext_set (ext_set (ext_set (ext_set (ext_set (ext_set X4.out HGW.out _) HGW.out _) HGW.out _) HGW.out _) HGW.out _) HGW.out _) HGW.out _) HGW.out _)
  clear hW5 q0 q1 q2 q3 q4 q5 q6 q7 f t0 t1 t2 t3 t4 t5 t6 t7 HG4 X4 HT4
  have B5 := Lib.hid (show Below w.heap.size w W5 from X5.out)
  obtain ⟨A5, hA5⟩ : ∃ A5, A5 = subK 8 (some ⟨G, 0, none⟩) (i + 1) (i + 1 + m) := ⟨_, rfl⟩
  have sl5 := fun (W : World) (kl : IntKind) => (show (Instr.slice 28 (.slice (some ⟨G, 0, none⟩) (i + 1 + m) (i + 1 + m)) (some (.int kl ((i : Int) + 1))) none none).run Try.prog W = .ok (.slice A5 m m) W by
    have h := slK_l (P := Try.prog) (A := some ⟨G, 0, none⟩) (n := i + 1 + m) (c := i + 1 + m) Try.underlying28 hc hcz1 (l := i + 1) (by omega) W kl
    rw [← hA5, show i + 1 + m - (i + 1) = m by omega] at h
    rw [show (i : Int) + 1 = ((i + 1 : Nat) : Int) by omega]
    exact h)
  have HA5 := Lib.hid (show 0 < m → A5 = some ⟨G, (i + 1) * 8, none⟩ from fun h0 => by rw [hA5]; exact subK_head 8 G (i + 1) (i + 1 + m) (by omega))
  clear hA5
  obtain ⟨CL, hCL⟩ : ∃ CL, CL = L1 ++ .int .i64 d.id :: .int .i64 d.label :: .int .i64 d.rack :: .int .i64 d.mem :: .int .i64 d.cores :: .int .i64 d.seen :: .int .i64 d.beat :: .bool d.up :: R := ⟨_, rfl⟩
  rw [← hCL] at HG5
  have HCL := Lib.hid (show CL.length = (i + 1) * 8 + m * 8 by rw [hCL]; simp [HL1.out, HRl.out]; omega)
  have HSP := Lib.hid (show splice CL ((i + 1) * 8) L2 = ncells (putN ds d) by
    rw [HR.out, hCL]
    unfold splice
    have e : ∀ (X : List Value), L1 ++ .int .i64 d.id :: .int .i64 d.label :: .int .i64 d.rack :: .int .i64 d.mem :: .int .i64 d.cores :: .int .i64 d.seen :: .int .i64 d.beat :: .bool d.up :: X = (L1 ++ nenc d) ++ X := fun X => by simp [nenc]
    rw [e R, e L2, List.take_left' (by simp [HL1.out, nenc]; omega), List.drop_of_length_le (by simp [HL1.out, HL2.out, HRl.out, nenc]; omega), List.append_nil])
  clear hCL
  go_wp2_with (with_reducible refine wpList_copyK rfl (.tmp 42) (.tmp 43) 28 28 rfl 44 8 Try.underlying28 hsz A5 A2 m m m c9 m rfl rfl G ((i + 1) * 8) CL 44 HG5.out L2 ?d1 HL2.out ?d2 ?d3 HO2.out w.heap.size w B5.out HGW.out ?_)
  case d1 => exact Nat.min_self _
  case d2 =>
    intro h0
    obtain ⟨ad, e, h⟩ := HP2.out h0
    exact ⟨HA5.out h0, ad, e, fun k u hu => X5.out.cell' (h k u hu)⟩
  case d3 => rw [HL2.out, HCL.out]; omega
  intro W6 hg6 hb6 _
  have HG6 := Lib.hid (show W6.heap[G]? = some (.cells (ncells (putN ds d)).toArray 44 (0, 0)) by rw [← HSP.out]; exact hg6.out)
  have X6 := Lib.hid hb6
  clear hg6 hb6 sl5
  go_wp2
  go_ret
  exact ⟨G, by rw [HRL.out]; rfl, HGW.out, HG6.out, X6.out⟩
end Go.Proofs.Ytffioglbgnbieaa
