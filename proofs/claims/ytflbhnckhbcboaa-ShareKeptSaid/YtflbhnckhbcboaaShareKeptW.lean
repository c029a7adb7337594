/- dispatchlaw7.ShareKept: the walk. -/
import Derived.Test.YtflbhnckhbcboaaKnown7
import Derived.Test.YtflbhnckhbcboaaKept
import Derived.Test.YtflbhnckhbcboaaOpenS
import Derived.Test.YtflbhnckhbcboaaSched2
import Derived.Deep.CutRange
import Derived.Laws.Concat
import Derived.Laws.Cover1
import Derived.ChangeSlices
import Derived.OpenShut
import Derived.ChangeOld
import Derived.ChangeSame
import Derived.ChangeMaps
import Derived.JoinedOf
import Derived.JoinedAt
import Derived.RowKit3
import Derived.Lib.SmallJoins
namespace Go.Proofs.Ytflbhnckhbcboaa.ShareKept
open Go.ChangeShapes Go.WideShapes Go.ChangeAt Go.RowKit Go.Joins

theorem Try.infoP : (Try.prog.info? 54).map (fun i => (i.zero, i.size, i.bytes)) = some (some (.agg #[.int .i64 0, .int .i64 0, .int .i64 0, .int .i64 0, .int .i64 0, .int .i64 0]), 6, 48) := by kernel_rfl

theorem cell_six_new (w : World) (a b c d x y : Value) (t : TypeId) : ∀ j u, [a, b, c, d, x, y][j]? = some u → (w.alloc (.cells #[a, b, c, d, x, y] t)).cell? ((⟨w.heap.size, 0, none⟩ : Addr).add j) = some u := by
  intro j u hu
  have hadd : (⟨w.heap.size, 0, none⟩ : Addr).add j = ⟨w.heap.size, j, none⟩ := by unfold Addr.add; split <;> simp_all
  rw [hadd]
  exact bcel (heap_alloc_new w _) j u (by rw [← Array.getElem?_toList]; exact hu)
theorem one6 {a b c d x y : Int} : ∀ u ∈ [Value.int .i64 a, .int .i64 b, .int .i64 c, .int .i64 d, .int .i64 x, .int .i64 y], u.oneCell' = true := by
  intro u hu
  simp only [List.mem_cons, List.mem_nil_iff, or_false] at hu
  rcases hu with rfl | rfl | rfl | rfl | rfl | rfl <;> rfl

set_option maxRecDepth 100000 in
set_option maxHeartbeats 6400000 in
theorem walk (w : World) (v : Value) (n : Nat) (f : Nat → Nat → Int) (r0 : RdS 6 w v n f) (now : Int) (_ : (Lit.int .i64 now).wf = true) (label : Int) (_ : (Lit.int .i64 label).wf = true) :
    Calls Try.prog 4 #[v, .int .i64 now, .int .i64 label] w fun e w' => e = .returned (.bool true) ∧ Below w.heap.size w w' := by
  obtain ⟨p0, hp, hpz0, hpz1, hpz2⟩ := info_parts Try.infoP
  obtain ⟨A, c, rfl, hc1, hc2, hcell⟩ := r0
  unfold maxLen at hc2
  have HC := Lib.hid hcell
  clear hcell
  go_enter Try.func4, Try.ntmps4
  go_wp2_with fail
  refine (known7_any _).mono ?_
  rintro e w1 ⟨rfl, hx1⟩
  have X1 := Lib.hid hx1
  clear hx1
  by_cases h10 : (10 : Int) < (n : Int)
  · go_wp2
    go_ret
    exact ⟨rfl, X1.out⟩
  have hn10 : n ≤ 10 := by omega
  go_wp2_with fail
  (with_reducible refine (New_any _).mono ?_)
  rintro e w2 ⟨rfl, hnew, hsz, hx2⟩
  have HNEW := Lib.hid hnew
  have X2 := Lib.hid (X1.out.trans hx2)
  obtain ⟨g, hg⟩ : ∃ g, g = w1.heap.size := ⟨_, rfl⟩
  have HG := Lib.hid (show w.heap.size ≤ g by rw [hg]; exact X1.out.size)
  have HG2 := Lib.hid (show w2.heap.size = g + 4 by rw [hg]; exact hsz)
  rw [← hg] at HNEW ⊢
  clear hnew hx2 hsz hg
  unfold newSV
  simp only [SV.val]
  have q1 := fun o o' o'' => bcel (ext_blk (((ext_alloc w2 o).trans (ext_alloc _ o')).trans (ext_alloc _ o'')) HNEW.out.queue) 1 (.slice (some ⟨g + 1 + 1, 0, none⟩) 1 1) rfl
  have q2 := fun o o' o'' => bfre (ext_blk (((ext_alloc w2 o).trans (ext_alloc _ o')).trans (ext_alloc _ o'')) HNEW.out.queue) 1
  go_wp2_with fail
  obtain ⟨W3, hW3⟩ : ∃ W3, W3 = (((w2.alloc (.cells #[.slice (some ⟨w2.heap.size + 1, 0, none⟩) 2 2, .slice (some ⟨g + 1 + 1 + 1, 0, none⟩) 1 1, .slice none 0 0, .slice none 0 0, .slice none 0 0, .slice none 0 0, .slice none 0 0, .int .i64 0, .int .i64 0, .int .i64 0] 36)).alloc (.cells #[.string ⟨#[]⟩, .string ⟨#[103, 112, 117]⟩] 9)).alloc (.cells #[.int .i64 10000, .int .i64 10000, .int .i64 10000, .int .i64 10000] 42)).setCell ⟨g + 1 + 1 + 1, 1, none⟩ (.slice (some ⟨w2.heap.size + 1 + 1, 0, none⟩) 2 2) := ⟨_, rfl⟩
  rw [← hW3]
  have X3 := Lib.hid (show Ext w W3 by
    rw [hW3]
    exact ext_set (((X2.out.trans (ext_alloc _ _)).trans (ext_alloc _ _)).trans (ext_alloc _ _)) (by have := HG.out; omega) _)
  have HSB := Lib.hid (show W3.heap[w2.heap.size]? = some (.cells #[.slice (some ⟨w2.heap.size + 1, 0, none⟩) 2 2, .slice (some ⟨g + 1 + 1 + 1, 0, none⟩) 1 1, .slice none 0 0, .slice none 0 0, .slice none 0 0, .slice none 0 0, .slice none 0 0, .int .i64 0, .int .i64 0, .int .i64 0] 36 (0, 0)) by
    rw [hW3, heap_setCell_other _ _ _ _ (by have := HG2.out; simp; omega)]
    exact ext_blk ((ext_alloc _ _).trans (ext_alloc _ _)) (heap_alloc_new w2 _))
  have HGW := Lib.hid (show w.heap.size ≤ w2.heap.size from X2.out.size)
  obtain ⟨SB, hSB⟩ : ∃ SB, SB = w2.heap.size := ⟨_, rfl⟩
  rw [← hSB] at HSB HGW ⊢
  clear hW3 q1 q2 hSB HG2
  have sf := bfre HSB.out 7
  have s7 := bcel HSB.out 7 (.int .i64 0) rfl
  obtain ⟨u0, hu0⟩ : ∃ u, u = now % 60 := ⟨_, rfl⟩
  (with_reducible refine (within7_any now 60 _ (by omega)).mono ?_)
  rintro e w4 ⟨rfl, rfl⟩
  rw [← hu0]
  obtain ⟨u1, hu1⟩ : ∃ u, u = label % 2 := ⟨_, rfl⟩
  clear hu0
  go_wp2_with fail
  (with_reducible refine (within7_any label 2 _ (by omega)).mono ?_)
  rintro e w4 ⟨rfl, rfl⟩
  rw [← hu1]
  clear hu1
  obtain ⟨W5, hW5⟩ : ∃ W5, W5 = (W3.setCell ⟨SB, 7, none⟩ (.int .i64 u0)).alloc (.cells #[.int .i64 0, .int .i64 0] 44) := ⟨_, rfl⟩
  obtain ⟨WB, hWB⟩ : ∃ WB, WB = W3.heap.size := ⟨_, rfl⟩
  have hSW : SB < WB := by rw [hWB]; exact (Array.getElem?_eq_some_iff.1 HSB.out).1
  have HSB5 := Lib.hid (show W5.heap[SB]? = some (.cells #[.slice (some ⟨SB + 1, 0, none⟩) 2 2, .slice (some ⟨g + 1 + 1 + 1, 0, none⟩) 1 1, .slice none 0 0, .slice none 0 0, .slice none 0 0, .slice none 0 0, .slice none 0 0, .int .i64 u0, .int .i64 0, .int .i64 0] 36 (0, 0)) by
    rw [hW5]
    exact ext_blk (ext_alloc _ _) (by rw [bset HSB.out]; rfl))
  have HWB5 := Lib.hid (show W5.heap[WB]? = some (.cells #[.int .i64 0, .int .i64 0] 44 (0, 0)) by rw [hW5, hWB]; exact alloc_at (by simp))
  have X5 := Lib.hid (show Ext w W5 by rw [hW5]; exact (ext_set X3.out HGW.out _).trans (ext_alloc _ _))
  have HWW := Lib.hid (show w.heap.size ≤ WB by have := HGW.out; omega)
  go_wp2
  rw [← hW5, ← hWB]
  clear hW5 hWB sf s7 HSB X3
  go_loopw [9] (fun i wr => ∃ (k : Nat) (vp : Value) (ds : List PD), i = .int .i64 k ∧ k ≤ n ∧ ds.length = k ∧ wr.heap[SB]? = some (.cells #[.slice (some ⟨SB + 1, 0, none⟩) 2 2, .slice (some ⟨g + 1 + 1 + 1, 0, none⟩) 1 1, .slice none 0 0, .slice none 0 0, .slice none 0 0, .slice none 0 0, vp, .int .i64 u0, .int .i64 0, .int .i64 0] 36 (0, 0)) ∧ wr.heap[WB]? = some (.cells #[.int .i64 (keptV u1 u0 ds).1, .int .i64 (keptV u1 u0 ds).2] 44 (0, 0)) ∧ wr.ownsRow WB 54 6 vp k (pcells ds) ∧ Ext w wr) (fun i _ => n - (intOf i).toNat)
  case atStart => exact ⟨0, _, [], rfl, by omega, rfl, HSB5.out, HWB5.out, World.ownsRow_nil _ _ _ 6, X5.out⟩
  case round =>
    obtain ⟨k, vp, ds, rfl, hk, hdk, hsb, hwb, hown, hx⟩ := hrel
    obtain ⟨Av, cv, rfl, hv1, hv2⟩ := own_shape hown
    have HS := Lib.hid hsb
    have HWB := Lib.hid hwb
    have HO := Lib.hid hown
    have HX := Lib.hid hx
    have HDK := Lib.hid hdk
    clear hsb hwb hown hx hdk
    have k0 : (0 : Int) ≤ (k : Int) := by omega
    by_cases hlt : k < n
    · have k1 : (k : Int) < (n : Int) := by omega
      obtain ⟨a, rfl, hb, hcs⟩ := HC.out (by omega)
      have HCS := Lib.hid (fun j hj => HX.out.cell' (hcs k hlt j hj))
      clear hcs
      obtain ⟨x1, e1⟩ : ∃ x, x = f k 1 := ⟨_, rfl⟩
      obtain ⟨x2, e2⟩ : ∃ x, x = f k 2 := ⟨_, rfl⟩
      obtain ⟨x3, e3⟩ : ∃ x, x = f k 3 := ⟨_, rfl⟩
      obtain ⟨x4, e4⟩ : ∃ x, x = f k 4 := ⟨_, rfl⟩
      obtain ⟨x5, e5⟩ : ∃ x, x = f k 5 := ⟨_, rfl⟩
      have ad : ∀ j, a.add (k * 6 + (j + 1)) = ⟨(a.add (k * 6)).block, (a.add (k * 6)).off + (j + 1), none⟩ := fun j => by rw [← Go.Deep.add_add]; generalize a.add (k * 6) = z; unfold Addr.add; rw [if_neg (by omega)]
      have c1 : wr.cell? ⟨(a.add (k * 6)).block, (a.add (k * 6)).off + 1, none⟩ = some (.int .i64 x1) := by rw [← ad 0, e1]; exact HCS.out 1 (by omega)
      have c2 : wr.cell? ⟨(a.add (k * 6)).block, (a.add (k * 6)).off + 2, none⟩ = some (.int .i64 x2) := by rw [← ad 1, e2]; exact HCS.out 2 (by omega)
      have c3 : wr.cell? ⟨(a.add (k * 6)).block, (a.add (k * 6)).off + 3, none⟩ = some (.int .i64 x3) := by rw [← ad 2, e3]; exact HCS.out 3 (by omega)
      have c4 : wr.cell? ⟨(a.add (k * 6)).block, (a.add (k * 6)).off + 4, none⟩ = some (.int .i64 x4) := by rw [← ad 3, e4]; exact HCS.out 4 (by omega)
      have c5 : wr.cell? ⟨(a.add (k * 6)).block, (a.add (k * 6)).off + 5, none⟩ = some (.int .i64 x5) := by rw [← ad 4, e5]; exact HCS.out 5 (by omega)
      clear e1 e2 e3 e4 e5 ad
      obtain ⟨y1, e1⟩ : ∃ y, y = x1 % 2 := ⟨_, rfl⟩
      obtain ⟨y2, e2⟩ : ∃ y, y = x2 % 50 := ⟨_, rfl⟩
      obtain ⟨y3, e3⟩ : ∃ y, y = x3 % 20 := ⟨_, rfl⟩
      obtain ⟨y4, e4⟩ : ∃ y, y = x4 % 9 := ⟨_, rfl⟩
      obtain ⟨y5, e5⟩ : ∃ y, y = x5 % 9 := ⟨_, rfl⟩
      have HI1 := Lib.hid (fun W => (e1 ▸ within7_any x1 2 W (by omega) : Calls Try.prog 7 #[.int .i64 x1, .int .i64 2] W fun e w' => e = .returned (.int .i64 y1) ∧ W = w'))
      have HI2 := Lib.hid (fun W => (e2 ▸ within7_any x2 50 W (by omega) : Calls Try.prog 7 #[.int .i64 x2, .int .i64 50] W fun e w' => e = .returned (.int .i64 y2) ∧ W = w'))
      have HI3 := Lib.hid (fun W => (e3 ▸ within7_any x3 20 W (by omega) : Calls Try.prog 7 #[.int .i64 x3, .int .i64 20] W fun e w' => e = .returned (.int .i64 y3) ∧ W = w'))
      have HI4 := Lib.hid (fun W => (e4 ▸ within7_any x4 9 W (by omega) : Calls Try.prog 7 #[.int .i64 x4, .int .i64 9] W fun e w' => e = .returned (.int .i64 y4) ∧ W = w'))
      have HI5 := Lib.hid (fun W => (e5 ▸ within7_any x5 9 W (by omega) : Calls Try.prog 7 #[.int .i64 x5, .int .i64 9] W fun e w' => e = .returned (.int .i64 y5) ∧ W = w'))
      have b2 : 0 ≤ y2 ∧ y2 < 50 := by omega
      have b3 : 0 ≤ y3 ∧ y3 < 20 := by omega
      clear e1 e2 e3 e4 e5
      go_wp2
      refine wp_region_sched (LBelow wr.heap.size) (LBelow_way _) [(0, true), (1, true), (2, true), (3, true), (4, true), (5, true), (6, true), (7, true), (8, true), (9, true), (10, true), (11, true), (12, true), (13, true), (14, true), (15, true), (16, true), (17, true), (18, true), (19, true), (20, true), (21, true), (22, true), (23, true), (24, true), (25, true), (26, true), (27, true), (28, true), (29, false), (30, false)] (by kernel_rfl) (by kernel_rfl) (fun _ _ _ _ _ h => h) ?_
      repeat first | ((with_reducible refine sched_free ?_ ?_ ?_ ?_ (fun wk k1 => ?_) ?_); rotate_left 2; (rfl); (first | exact want_none rfl | exact want_some rfl rfl rfl rfl); (go_simp; first | exact OkX.val | (have kk := LBelow.ext k1; have d1 := kk.cell' c1; have d2 := kk.cell' c2; have d4 := kk.cell' c4; have d5 := kk.cell' c5; go_simp; exact OkX.val) | ((with_reducible refine OkX.eqv (OkX.same (HI1.out _)) ?_); exact rfl) | ((with_reducible refine OkX.eqv (OkX.same (HI2.out _)) ?_); exact rfl) | ((with_reducible refine OkX.eqv (OkX.same (HI4.out _)) ?_); exact rfl) | ((with_reducible refine OkX.eqv (OkX.same (HI5.out _)) ?_); exact rfl)); simp only [Act.put, List.setIfInBounds_toArray, List.set_cons_zero, List.set_cons_succ]) | ((with_reducible refine sched_skip ?_ ?_ ?_ ?_); rotate_left; (rfl); (exact want_not rfl rfl rfl rfl rfl); simp only [Act.put, List.setIfInBounds_toArray, List.set_cons_zero, List.set_cons_succ])
      ((with_reducible refine sched_step ?_ ?_ ?_ (fun wk k1 => ?_)); rotate_left; (rfl); (first | exact want_none rfl | exact want_some rfl rfl rfl rfl))
      have E0 := Lib.hid ((Ext.drew _).trans k1)
      clear k1
      go_simp
      refine ⟨(LBelow_way _).ext (ext_alloc _ _), ?_⟩
      try simp only [Act.put, List.setIfInBounds_toArray, List.set_cons_zero, List.set_cons_succ]
      have HBP := Lib.hid (show (wk.alloc (.cells #[.int .i64 0, .int .i64 0, .int .i64 0, .int .i64 0, .int .i64 0, .int .i64 0] 54)).heap[wk.heap.size]? = some (.cells #[.int .i64 0, .int .i64 0, .int .i64 0, .int .i64 0, .int .i64 0, .int .i64 0] 54 (0, 0)) from heap_alloc_new wk _)
      have hPb : wr.heap.size ≤ wk.heap.size := E0.out.size
      have E2 := Lib.hid (E0.out.trans (ext_alloc wk (.cells #[.int .i64 0, .int .i64 0, .int .i64 0, .int .i64 0, .int .i64 0, .int .i64 0] 54)))
      generalize hPbe : wk.heap.size = Pb at HBP hPb ⊢
      ((with_reducible refine sched_step ?_ ?_ ?_ (fun wk k1 => ?_)); rotate_left; (rfl); (first | exact want_none rfl | exact want_some rfl rfl rfl rfl))
      have hb2 := ext_blk k1 HBP.out
      have z0 := bcel hb2 0 (.int .i64 0) rfl
      have z1 := bcel hb2 1 (.int .i64 0) rfl
      have z2 := bcel hb2 2 (.int .i64 0) rfl
      have z3 := bcel hb2 3 (.int .i64 0) rfl
      have z4 := bcel hb2 4 (.int .i64 0) rfl
      have z5 := bcel hb2 5 (.int .i64 0) rfl
      have fz := fun j => bfre hb2 j
      have E3 := Lib.hid (E2.out.trans k1)
      clear k1
      go_simp
      refine ⟨fun _ => (((((((Below.refl _ _).setCell (p := ⟨Pb, 0, none⟩) hPb _).setCell (p := ⟨Pb, 1, none⟩) hPb _).setCell (p := ⟨Pb, 2, none⟩) hPb _).setCell (p := ⟨Pb, 3, none⟩) hPb _).setCell (p := ⟨Pb, 4, none⟩) hPb _).setCell (p := ⟨Pb, 5, none⟩) hPb _), ?_⟩
      try simp only [Act.put, List.setIfInBounds_toArray, List.set_cons_zero, List.set_cons_succ]
      obtain ⟨W6, hW6⟩ : ∃ W6, W6 = (((((((((((wk.setCell ⟨Pb, 0, none⟩ (.int .i64 (k : Int)))).setCell ⟨Pb, 1, none⟩ (.int .i64 y1))).setCell ⟨Pb, 2, none⟩ (.int .i64 y2))).setCell ⟨Pb, 3, none⟩ (.int .i64 0))).setCell ⟨Pb, 4, none⟩ (.int .i64 y4))).setCell ⟨Pb, 5, none⟩ (.int .i64 y5)) := ⟨_, rfl⟩
      rw [← hW6]
      have hb6 : W6.heap[Pb]? = some (.cells #[.int .i64 (k : Int), .int .i64 y1, .int .i64 y2, .int .i64 0, .int .i64 y4, .int .i64 y5] 54 (0, 0)) := by rw [hW6, (bset (bset (bset (bset (bset (bset hb2 0 _) 1 _) 2 _) 3 _) 4 _) 5 _)]; rfl
      have hE6 : Ext wr W6 := by rw [hW6]; exact (ext_set (o := 5) (ext_set (o := 4) (ext_set (o := 3) (ext_set (o := 2) (ext_set (o := 1) (ext_set (o := 0) (E3.out) hPb _) hPb _) hPb _) hPb _) hPb _) hPb _)
      refine sched_done (fun wz k1 => ?_)
      have HB7 := Lib.hid (ext_blk k1 hb6)
      have E7 := Lib.hid (hE6.trans k1)
      have HPb := Lib.hid hPb
      clear k1 hb6 hE6 hW6 hb2 z0 z1 z2 z3 z4 z5 fz c1 c2 c4 c5 hPbe hPb
      have c3z := E7.out.cell' c3
      have p2 := bcel HB7.out 2 (.int .i64 y2) rfl
      have w1 : wrap64 (y2 + 1) = y2 + 1 := by unfold wrap64; omega
      have w2 : wrap64 (y2 + 1 + y3) = y2 + 1 + y3 := by unfold wrap64; omega
      have w3 : IntKind.wrap .i64 (y2 + 1) = y2 + 1 := by rw [IntKind.wrap_i64]; omega
      have w4 : IntKind.wrap .i64 (y2 + 1 + y3) = y2 + 1 + y3 := by rw [IntKind.wrap_i64]; omega
      go_wp2
      refine wp_region_lex 11 (by kernel_rfl) (by kernel_rfl) (fun _ _ _ _ _ h => h) ?_
      simp only [List.take_succ_cons, List.take_zero, List.drop_succ_cons, List.drop_zero]
      repeat first | (refine seq_take ?_ (by rfl) (fun wk k1 => ?_) ?_; rotate_left; (have d1 := k1.cell' c3z; have d2 := k1.cell p2; go_simp; first | exact OkX.val | ((with_reducible refine OkX.eqv (OkX.same (HI3.out _)) ?_); exact rfl)); simp only [Act.put, List.setIfInBounds_toArray, List.set_cons_zero, List.set_cons_succ]) | (refine seq_skip (by rfl) ?_; simp only [Act.put, List.setIfInBounds_toArray, List.set_cons_zero, List.set_cons_succ])
      refine seq_nil (fun wk k1 => ?_)
      have HB8 := Lib.hid (ext_blk k1 HB7.out)
      have E8 := Lib.hid (E7.out.trans k1)
      have q3 := bcel HB8.out 3 (.int .i64 0) rfl
      have f3 := bfre HB8.out 3
      clear k1 c3z p2 c3
      obtain ⟨W9, hW9⟩ : ∃ W9, W9 = wk.setCell ⟨Pb, 3, none⟩ (.int .i64 (y2 + 1 + y3)) := ⟨_, rfl⟩
      have HB9 := Lib.hid (show W9.heap[Pb]? = some (.cells #[.int .i64 (k : Int), .int .i64 y1, .int .i64 y2, .int .i64 (y2 + 1 + y3), .int .i64 y4, .int .i64 y5] 54 (0, 0)) by rw [hW9, bset HB8.out]; rfl)
      have E9 := Lib.hid (show Ext wr W9 by rw [hW9]; exact ext_set E8.out HPb.out _)
      have HS9 := Lib.hid (ext_blk E9.out HS.out)
      have HW9' := Lib.hid (ext_blk E9.out HWB.out)
      have HO9 := Lib.hid (own_ExtK HO.out E9.out)
      have HPlt := Lib.hid (show Pb < W9.heap.size from (Array.getElem?_eq_some_iff.1 HB9.out).1)
      have s6 := bcel HS9.out 6 (.slice Av k cv) rfl
      have p0' := bcel HB9.out 0 (.int .i64 (k : Int)) rfl
      have p1' := bcel HB9.out 1 (.int .i64 y1) rfl
      have p2' := bcel HB9.out 2 (.int .i64 y2) rfl
      have p3' := bcel HB9.out 3 (.int .i64 (y2 + 1 + y3)) rfl
      have p4' := bcel HB9.out 4 (.int .i64 y4) rfl
      have p5' := bcel HB9.out 5 (.int .i64 y5) rfl
      obtain ⟨pd, hpd⟩ : ∃ pd : PD, pd = ⟨k, y1, y2, y2 + 1 + y3, y4, y5⟩ := ⟨_, rfl⟩
      have HPD := Lib.hid (show penc pd = [.int .i64 (k : Int), .int .i64 y1, .int .i64 y2, .int .i64 (y2 + 1 + y3), .int .i64 y4, .int .i64 y5] by rw [hpd]; rfl)
      have HPDL := Lib.hid (show pd.label = y1 ∧ pd.frm = y2 ∧ pd.til = y2 + 1 + y3 ∧ pd.mem = y4 ∧ pd.cores = y5 by rw [hpd]; exact ⟨rfl, rfl, rfl, rfl, rfl⟩)
      clear hpd
      have hWBs : WB ≤ W9.heap.size := Nat.le_of_lt (Array.getElem?_eq_some_iff.1 HW9'.out).1
      go_upto_region 15 with fail
      rw [← hW9]
      clear hW9 q3 f3
      go_wp2_with (at_builtin; go_loud (refine wpList_append_own_at _ rfl (.tmp 81) (.tmp 83) 34 rfl WB 54 p0 _ 6 48 Try.underlying34 hp hpz0 hpz1 hpz2 rfl (by decide) _ k (pcells ds) rfl (HO9.out.alloc _) ⟨_, 0, none⟩ 1 1 [.int .i64 (k : Int), .int .i64 y1, .int .i64 y2, .int .i64 (y2 + 1 + y3), .int .i64 y4, .int .i64 y5] rfl rfl (cell_six_new _ _ _ _ _ _ _ _) one6 ?e3 ?e4 ?e5 ?_))
      case e3 => simp [maxLen]; omega
      case e4 => omega
      case e5 => simp; omega
      intro v' w10 ho10 hg10 _ hat10
      have hX10 : Ext wr (W9.alloc (.cells #[.int .i64 (k : Int), .int .i64 y1, .int .i64 y2, .int .i64 (y2 + 1 + y3), .int .i64 y4, .int .i64 y5] 54)) := E9.out.trans (ext_alloc _ _)
      have hneS : (Value.slice Av k cv).ownBlock ≠ some SB := own_other HO9.out HS9.out (by decide)
      have hneW : (Value.slice Av k cv).ownBlock ≠ some WB := own_other HO9.out HW9'.out (by decide)
      have hneP : (Value.slice Av k cv).ownBlock ≠ some Pb := fun e => by have := (HO.out.lt Pb e).2; have := HPb.out; omega
      have hs10 := bapp (ext_alloc W9 (.cells #[.int .i64 (k : Int), .int .i64 y1, .int .i64 y2, .int .i64 (y2 + 1 + y3), .int .i64 y4, .int .i64 y5] 54)) hg10 HS9.out hneS
      have hw10 := bapp (ext_alloc W9 (.cells #[.int .i64 (k : Int), .int .i64 y1, .int .i64 y2, .int .i64 (y2 + 1 + y3), .int .i64 y4, .int .i64 y5] 54)) hg10 HW9'.out hneW
      have hp10 := bapp (ext_alloc W9 (.cells #[.int .i64 (k : Int), .int .i64 y1, .int .i64 y2, .int .i64 (y2 + 1 + y3), .int .i64 y4, .int .i64 y5] 54)) hg10 HB9.out hneP
      have E10 := Lib.hid (HX.out.trans' (show Below w.heap.size wr w10 from (Below.mono hX10 HX.out.size).trans (grown_below hg10 (by have := HX.out.size; have := hX10.size; omega) (fun q e => by have := (HO.out.lt q e).1; have := HWW.out; omega))))
      obtain ⟨A10, c10, rfl, _, _⟩ := own_shape ho10
      have g6 := bfre hs10 6
      have s6' := bcel hs10 6 (.slice Av k cv) rfl
      obtain ⟨W11, hW11⟩ : ∃ W11, W11 = w10.setCell ⟨SB, 6, none⟩ (.slice A10 (k + 1) c10) := ⟨_, rfl⟩
      have HS11 := Lib.hid (show W11.heap[SB]? = some (.cells #[.slice (some ⟨SB + 1, 0, none⟩) 2 2, .slice (some ⟨g + 1 + 1 + 1, 0, none⟩) 1 1, .slice none 0 0, .slice none 0 0, .slice none 0 0, .slice none 0 0, .slice A10 (k + 1) c10, .int .i64 u0, .int .i64 0, .int .i64 0] 36 (0, 0)) by rw [hW11, bset hs10]; rfl)
      have HW11 := Lib.hid (show W11.heap[WB]? = some (.cells #[.int .i64 (keptV u1 u0 ds).1, .int .i64 (keptV u1 u0 ds).2] 44 (0, 0)) by rw [hW11, heap_setCell_other _ _ _ _ (by simp; omega)]; exact hw10)
      have HB11 := Lib.hid (show W11.heap[Pb]? = some (.cells #[.int .i64 (k : Int), .int .i64 y1, .int .i64 y2, .int .i64 (y2 + 1 + y3), .int .i64 y4, .int .i64 y5] 54 (0, 0)) by
        rw [hW11, heap_setCell_other _ _ _ _ (by
          have h1 := (Array.getElem?_eq_some_iff.1 HS.out).1
          have h2 := HPb.out
          simp; omega)]
        exact hp10)
      have E11 := Lib.hid (show Ext w W11 by rw [hW11]; exact ext_set E10.out HGW.out _)
      have HO11 := Lib.hid (show W11.ownsRow WB 54 6 (.slice A10 (k + 1) c10) (k + 1) (pcells (ds ++ [pd])) by
        rw [pcells_snoc, HPD.out, hW11]
        exact ho10.kept (bgrown _ SB 6 _) (.inr fun e => by have := (ho10.lt SB e).1; omega))
      go_upto_region 16 with fail
      rw [← hW11]
      obtain ⟨t1, ht1⟩ : ∃ t, t = (keptV u1 u0 ds).1 := ⟨_, rfl⟩
      obtain ⟨t2, ht2⟩ : ∃ t, t = (keptV u1 u0 ds).2 := ⟨_, rfl⟩
      have HT1 := Lib.hid ht1
      have HT2 := Lib.hid ht2
      have hw11 := HW11.out
      rw [← ht1, ← ht2] at hw11
      have m0 := bcel hw11 0 (.int .i64 t1) rfl
      have m1 := bcel hw11 1 (.int .i64 t2) rfl
      have n0 := bfre hw11 0
      have n1 := bfre hw11 1
      have s7 := bcel HS11.out 7 (.int .i64 u0) rfl
      have p1' := bcel HB11.out 1 (.int .i64 y1) rfl
      have p2' := bcel HB11.out 2 (.int .i64 y2) rfl
      have p3' := bcel HB11.out 3 (.int .i64 (y2 + 1 + y3)) rfl
      have p4' := bcel HB11.out 4 (.int .i64 y4) rfl
      have p5' := bcel HB11.out 5 (.int .i64 y5) rfl
      have hkeep := HW11.out
      clear hW11 ho10 hg10 hat10 hs10 hw10 hp10 hneS hneW hneP hX10 g6 s6' s6 p0' ht1 ht2 hw11 hWBs hkeep
      by_cases hlb : y1 = u1
      · have hb' : (y1 == u1) = true := by simp [hlb]
        by_cases hf : y2 ≤ u0
        · by_cases ht : u0 < y2 + 1 + y3
          · have HF := Lib.hid (show keptV u1 u0 (ds ++ [pd]) = plusV (keptV u1 u0 ds) (y4, y5) by obtain ⟨h1, h2, h3, h4, h5⟩ := HPDL.out; rw [keptV_snoc, if_pos (by rw [h1, h2, h3]; exact ⟨hlb, hf, ht⟩), h4, h5])
            have hf' : decide (y2 ≤ u0) = true := by simpa using hf
            have ht' : decide (u0 < y2 + 1 + y3) = true := by simpa using ht
            clear hlb
            go_wp2_with fail
            (with_reducible refine (rplus_any t1 t2 y4 y5 _).mono ?_)
            rintro e w12 ⟨rfl, hx12⟩
            have hw12 := ext_blk hx12 HW11.out
            have HNW2 := Lib.hid (own_other (own_ExtK HO11.out hx12) hw12 (by decide))
            have m0 := bcel hw12 0 _ rfl
            have m1 := bcel hw12 1 _ rfl
            have n0 := bfre hw12 0
            have n1 := bfre hw12 1
            have X12 := Lib.hid hx12
            clear hx12 s7 p1' p2' p3' p4' p5'
            go_wp2
            go_roundw
            case rel =>
              refine ⟨k + 1, .slice A10 (k + 1) c10, ds ++ [pd], by simp, by omega, by simp [HDK.out], ?_, ?_, ?_, ?_⟩
              · rw [heap_setCell_other _ _ _ _ (by simp; omega), heap_setCell_other _ _ _ _ (by simp; omega)]
                exact ext_blk X12.out HS11.out
              · rw [bset (bset hw12 0 _) 1 _, HF.out, plusV, ← HT1.out, ← HT2.out]
                rfl
              · exact ((own_ExtK HO11.out X12.out).kept (bgrown _ WB 0 _) (.inr HNW2.out)).kept (bgrown _ WB 1 _) (.inr HNW2.out)
              · exact ext_set (ext_set (E11.out.trans X12.out) HWW.out _) HWW.out _
            case measure => simp [intOf]; omega
          · have hf' : decide (y2 ≤ u0) = true := by simpa using hf
            have ht' : decide (u0 < y2 + 1 + y3) = false := by simpa using ht
            have HF := Lib.hid (show keptV u1 u0 (ds ++ [pd]) = keptV u1 u0 ds by rw [keptV_snoc, if_neg (by obtain ⟨h1, h2, h3, _, _⟩ := HPDL.out; rw [h1, h2, h3]; omega)])
            clear hlb
            go_wp2
            go_roundw
            case rel => exact ⟨k + 1, _, ds ++ [pd], by simp, by omega, by simp [HDK.out], HS11.out, by rw [HF.out]; exact HW11.out, HO11.out, E11.out⟩
            case measure => simp [intOf]; omega
        · have hf' : decide (y2 ≤ u0) = false := by simpa using hf
          have HF := Lib.hid (show keptV u1 u0 (ds ++ [pd]) = keptV u1 u0 ds by rw [keptV_snoc, if_neg (by obtain ⟨h1, h2, h3, _, _⟩ := HPDL.out; rw [h1, h2, h3]; omega)])
          clear hlb
          go_wp2
          go_roundw
          case rel => exact ⟨k + 1, _, ds ++ [pd], by simp, by omega, by simp [HDK.out], HS11.out, by rw [HF.out]; exact HW11.out, HO11.out, E11.out⟩
          case measure => simp [intOf]; omega
      · have hb' : (y1 == u1) = false := by simp [hlb]
        have HF := Lib.hid (show keptV u1 u0 (ds ++ [pd]) = keptV u1 u0 ds by rw [keptV_snoc, if_neg (by obtain ⟨h1, h2, h3, _, _⟩ := HPDL.out; rw [h1, h2, h3]; omega)])
        clear hlb
        go_wp2
        go_roundw
        case rel => exact ⟨k + 1, _, ds ++ [pd], by simp, by omega, by simp [HDK.out], HS11.out, by rw [HF.out]; exact HW11.out, HO11.out, E11.out⟩
        case measure => simp [intOf]; omega
    · obtain rfl : k = n := by omega
      have k1 : ¬ (k : Int) < (k : Int) := by omega
      have s0 := bcel HS.out 0 (.slice (some ⟨SB + 1, 0, none⟩) 2 2) rfl
      have s1 := bcel HS.out 1 (.slice (some ⟨g + 1 + 1 + 1, 0, none⟩) 1 1) rfl
      have s2 := bcel HS.out 2 (.slice none 0 0) rfl
      have s3 := bcel HS.out 3 (.slice none 0 0) rfl
      have s4 := bcel HS.out 4 (.slice none 0 0) rfl
      have s5 := bcel HS.out 5 (.slice none 0 0) rfl
      have s6 := bcel HS.out 6 (.slice Av k cv) rfl
      have s7 := bcel HS.out 7 (.int .i64 u0) rfl
      have s8 := bcel HS.out 8 (.int .i64 0) rfl
      have s9 := bcel HS.out 9 (.int .i64 0) rfl
      obtain ⟨t1, ht1⟩ : ∃ t, t = (keptV u1 u0 ds).1 := ⟨_, rfl⟩
      obtain ⟨t2, ht2⟩ : ∃ t, t = (keptV u1 u0 ds).2 := ⟨_, rfl⟩
      have HT1 := Lib.hid ht1
      have HT2 := Lib.hid ht2
      have hw := HWB.out
      rw [← ht1, ← ht2] at hw
      have m0 := bcel hw 0 (.int .i64 t1) rfl
      have m1 := bcel hw 1 (.int .i64 t2) rfl
      have HP := Lib.hid (show Hd wr (.slice Av k cv) ds.length (pcells ds) by have := Hd.of_own HO.out; rw [HDK.out]; exact this)
      clear ht1 ht2 hw
      go_wp2
      refine wp_region_sched Ext ext_way [(0, true), (1, true), (3, true), (2, false), (4, true), (5, true)] (by kernel_rfl) (by kernel_rfl) (fun _ _ _ _ _ h => h) ?_
      repeat first | ((with_reducible refine sched_free ?_ ?_ ?_ ?_ (fun wk k1 => ?_) ?_); rotate_left 2; (rfl); (first | exact want_none rfl | exact want_some rfl rfl rfl rfl); (go_simp; first | exact OkX.val | (have e0 := k1.cell s0; have e1 := k1.cell s1; have e2 := k1.cell s2; have e3 := k1.cell s3; have e4 := k1.cell s4; have e5 := k1.cell s5; have e6 := k1.cell s6; have e7 := k1.cell s7; have e8 := k1.cell s8; have e9 := k1.cell s9; have n0 := k1.cell m0; have n1 := k1.cell m1; go_simp; exact OkX.val)); simp only [Act.put, List.setIfInBounds_toArray, List.set_cons_zero, List.set_cons_succ]) | ((with_reducible refine sched_skip ?_ ?_ ?_ ?_); rotate_left; (rfl); (exact want_not rfl rfl rfl rfl rfl); simp only [Act.put, List.setIfInBounds_toArray, List.set_cons_zero, List.set_cons_succ])
      ((with_reducible refine sched_step ?_ ?_ ?_ (fun wk k1 => ?_)); rotate_left; (rfl); (first | exact want_none rfl | exact want_some rfl rfl rfl rfl))
      have F0 := Lib.hid ((Ext.drew _).trans k1)
      clear k1
      go_simp
      refine (Kept_any ⟨.slice (some ⟨SB + 1, 0, none⟩) 2 2, .slice (some ⟨g + 1 + 1 + 1, 0, none⟩) 1 1, .slice none 0 0, .slice none 0 0, .slice none 0 0, .slice none 0 0, .slice Av k cv, u0, 0, 0⟩ ds u1 wk (HP.out.ext F0.out) (by rw [HDK.out]; omega)).mono ?_
      unfold vecV
      rw [← HT1.out, ← HT2.out]
      rintro e wk2 ⟨rfl, hx⟩
      refine ⟨hx, ?_⟩
      try simp only [Act.put, List.setIfInBounds_toArray, List.set_cons_zero, List.set_cons_succ]
      have F1 := Lib.hid (F0.out.trans hx)
      clear hx
      repeat first | ((with_reducible refine sched_free ?_ ?_ ?_ ?_ (fun wk k1 => ?_) ?_); rotate_left 2; (rfl); (first | exact want_none rfl | exact want_some rfl rfl rfl rfl); (go_simp; first | exact OkX.val); simp only [Act.put, List.setIfInBounds_toArray, List.set_cons_zero, List.set_cons_succ]) | ((with_reducible refine sched_skip ?_ ?_ ?_ ?_); rotate_left; (rfl); (exact want_not rfl rfl rfl rfl rfl); simp only [Act.put, List.setIfInBounds_toArray, List.set_cons_zero, List.set_cons_succ])
      refine sched_done (fun wq k1 => ?_)
      have F2 := Lib.hid (HX.out.trans (F1.out.trans k1))
      clear k1
      go_wp2
      go_ret
      exact ⟨rfl, F2.out⟩
end Go.Proofs.Ytflbhnckhbcboaa.ShareKept
