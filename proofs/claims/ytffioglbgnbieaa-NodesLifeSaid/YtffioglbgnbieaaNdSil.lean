/- nodes.Silent. -/
import Derived.Test.YtffioglbgnbieaaNdReg
namespace Go.Proofs.Ytffioglbgnbieaa
open Go.RowKit

/-- It was silent too long. -/
def misB (nw : Int) (d : ND) : Bool := d.up && (decide (d.seen ≤ nw) && decide (10 ≤ nw - d.seen))
def silN (nw : Int) (ds : List ND) : List Int := (ds.filter (misB nw)).map ND.id
theorem silN_snoc (nw : Int) (ds : List ND) (d : ND) : silN nw (ds ++ [d]) = if misB nw d then silN nw ds ++ [d.id] else silN nw ds := by
  unfold silN
  rw [List.filter_append]
  cases h : misB nw d <;> simp [List.filter_cons, h]
def intVs (l : List Int) : List Value := l.map (Value.int .i64)
theorem silN_len (nw : Int) (ds : List ND) : (silN nw ds).length ≤ ds.length := by
  unfold silN
  rw [List.length_map]
  exact List.length_filter_le _ _

set_option maxRecDepth 100000 in
set_option maxHeartbeats 1600000 in
theorem misses_any (nw : Int) (d : ND) (w : World) (hb : -4611686018427387904 ≤ d.seen ∧ d.seen ≤ 4611686018427387904 ∧ -4611686018427387904 ≤ nw ∧ nw ≤ 4611686018427387904) :
    Calls Try.prog 21 #[.int .i64 nw, nodeV d] w fun e w' => e = .returned (.bool (misB nw d)) ∧ Ext w w' := by
  obtain ⟨id, label, rack, mem, cores, seen, beat, up⟩ := d
  dsimp only at hb
  unfold misB nodeV
  dsimp only
  have HB := Lib.hid hb
  clear hb
  cases up
  · go_enter Try.func21, Try.ntmps21
    go_wp2
    go_ret
    exact ⟨rfl, ext_alloc _ _⟩
  by_cases h : seen ≤ nw
  · have h1 : decide (seen ≤ nw) = true := by simpa using h
    have HA := Lib.hid (fun W => ahead_any nw seen W (by have := HB.out; omega))
    have HV := Lib.hid (show (true && (decide (seen ≤ nw) && decide (10 ≤ nw - seen))) = decide (10 ≤ nw - seen) by rw [h1]; rfl)
    clear h
    go_enter Try.func21, Try.ntmps21
    go_wp2_with fail
    (with_reducible refine (HA.out _).mono ?_)
    rintro e w3 ⟨rfl, rfl⟩
    go_wp2
    go_ret
    exact ⟨by rw [HV.out]; rfl, ext_alloc _ _⟩
  · have h1 : decide (seen ≤ nw) = false := by simpa using h
    have HV := Lib.hid (show (true && (decide (seen ≤ nw) && decide (10 ≤ nw - seen))) = false by rw [h1]; rfl)
    clear h
    go_enter Try.func21, Try.ntmps21
    go_wp2
    go_ret
    exact ⟨by rw [HV.out]; rfl, ext_alloc _ _⟩

theorem Try.infoIntS : (Try.prog.info? 3).map (fun i => (i.zero, i.size, i.bytes)) = some (some (.int .i64 0), 1, 8) := by kernel_rfl
def SilPost (xs : List Int) (w : World) (e : Ending) (w' : World) : Prop := ∃ v, e = .returned v ∧ w'.ownsRow w.heap.size 3 1 v xs.length (intVs xs) ∧ Ext w w'

set_option maxRecDepth 100000 in
set_option maxHeartbeats 6400000 in
theorem Silent_any (s : SV) (ds : List ND) (w : World) (hn : Hd w s.vn ds.length (ncells ds)) (hlen : ds.length ≤ 1000) (hw : -4611686018427387904 ≤ s.now ∧ s.now ≤ 4611686018427387904) (hb : ∀ d ∈ ds, -4611686018427387904 ≤ d.seen ∧ d.seen ≤ 4611686018427387904) :
    Calls Try.prog 13 #[s.val] w (SilPost (silN s.now ds) w) := by
  obtain ⟨c0, hc, hcz0, hcz1, hcz2⟩ := info_parts Try.infoIntS
  obtain ⟨vl, vq, vn, va, vc, vs, vp, nw, ep, sq⟩ := s
  obtain ⟨A, N, c, e, hN, hc1, hc2, hcell⟩ := hn.node
  dsimp only at e hw ⊢
  subst e
  have HC := Lib.hid hcell
  have HN := Lib.hid hN
  have HBD := Lib.hid hb
  have HW := Lib.hid hw
  have hN1 : N ≤ 1000 := by omega
  clear hcell hN hn hlen hb hw
  simp only [SV.val]
  go_enter Try.func13, Try.ntmps13
  go_wp2
  go_loopw [2, 12] (fun v i wr => ∃ (k : Nat), k ≤ N ∧ i = .int .i64 k ∧ wr.ownsRow w.heap.size 3 1 v (silN nw (ds.take k)).length (intVs (silN nw (ds.take k))) ∧ Ext w wr) (fun _ i _ => N - (intOf i).toNat)
  case atStart => exact ⟨0, by omega, rfl, World.ownsRow_nil _ _ _ 1, ext_alloc _ _⟩
  case round =>
    obtain ⟨k, hkN, rfl, ho, hx⟩ := hrel
    have HO := Lib.hid ho
    have HX := Lib.hid hx
    have i0 : (0 : Int) ≤ (k : Int) := by omega
    by_cases hlt : k < N
    · have i1 : (k : Int) < (N : Int) := by omega
      obtain ⟨Av, cv, rfl, hv1, hv2⟩ := own_shape ho
      clear ho hx
      obtain ⟨g, rfl, hg⟩ := HC.out (by omega)
      have hkd : k < ds.length := by have := HN.out; omega
      obtain ⟨q0, q1, q2, q3, q4, q5, q6, q7⟩ := (show NAt w g k ds[k] from hg k hkd).ext HX.out
      have hbd := HBD.out _ (List.getElem_mem hkd)
      have HTK := Lib.hid (show ds.take (k + 1) = ds.take k ++ [ds[k]] by rw [List.take_succ_eq_append_getElem hkd])
      obtain ⟨d, hd⟩ : ∃ d, d = ds[k] := ⟨_, rfl⟩
      rw [← hd] at q0 q1 q2 q3 q4 q5 q6 q7 HTK hbd
      obtain ⟨M, hM⟩ : ∃ M, M = (silN nw (ds.take k)).length := ⟨_, rfl⟩
      rw [← hM] at HO hv1 ⊢
      have HM := Lib.hid (show M ≤ 1000 by rw [hM]; have := silN_len nw (ds.take k); rw [List.length_take] at this; omega)
      have HMM := Lib.hid hM
      have HI := Lib.hid (fun W => misses_any nw d W ⟨hbd.1, hbd.2, HW.out.1, HW.out.2⟩)
      clear hd hg hbd hM
      go_upto_region 5 with fail
      refine at_world (fun W2 hW2 => ?_)
      have HT := Lib.hid (show W2.heap[wr.heap.size]? = some (.cells #[.int .i64 d.id, .int .i64 d.label, .int .i64 d.rack, .int .i64 d.mem, .int .i64 d.cores, .int .i64 d.seen, .int .i64 d.beat, .bool d.up] 44 (0, 0)) by rw [hW2]; exact heap_alloc_new wr _)
      have E2 := Lib.hid (show Ext wr W2 by rw [hW2]; exact ext_alloc _ _)
      obtain ⟨T, hT⟩ : ∃ T, T = wr.heap.size := ⟨_, rfl⟩
      rw [← hT] at HT ⊢
      clear hW2 hT q0 q1 q2 q3 q4 q5 q6 q7
      have t0 := bcel HT.out 0 (.int .i64 d.id) rfl
      have t1 := bcel HT.out 1 (.int .i64 d.label) rfl
      have t2 := bcel HT.out 2 (.int .i64 d.rack) rfl
      have t3 := bcel HT.out 3 (.int .i64 d.mem) rfl
      have t4 := bcel HT.out 4 (.int .i64 d.cores) rfl
      have t5 := bcel HT.out 5 (.int .i64 d.seen) rfl
      have t6 := bcel HT.out 6 (.int .i64 d.beat) rfl
      have t7 := bcel HT.out 7 (.bool d.up) rfl
      go_wp2_with fail
      simp only [nodeV] at HI
      (with_reducible refine (HI.out _).mono ?_)
      rintro e w3 ⟨rfl, hx3⟩
      have E3 := Lib.hid (E2.out.trans hx3)
      have X3 := Lib.hid (HX.out.trans E3.out)
      have HT3 := Lib.hid (ext_blk hx3 HT.out)
      have HO3 := Lib.hid (own_ExtK HO.out E3.out)
      clear hx3 t0 t1 t2 t3 t4 t5 t6 t7 E2 HT HO
      cases hm : misB nw d
      · have HS := Lib.hid (show silN nw (ds.take (k + 1)) = silN nw (ds.take k) by rw [HTK.out, silN_snoc, hm]; rfl)
        clear hm
        go_wp2
        go_roundw
        case rel => exact ⟨k + 1, by omega, by simp, by rw [HS.out, ← HMM.out]; exact HO3.out, X3.out⟩
        case measure => simp [intOf]; omega
      · have HS := Lib.hid (show silN nw (ds.take (k + 1)) = silN nw (ds.take k) ++ [d.id] by rw [HTK.out, silN_snoc, hm]; rfl)
        have t0 := bcel HT3.out 0 (.int .i64 d.id) rfl
        clear hm
        go_wp2_with (at_builtin; go_loud (refine wpList_append_own_at _ rfl (.tmp 19) (.tmp 22) 22 rfl w.heap.size 3 c0 _ 1 8 Try.underlying22 hc hcz0 hcz1 hcz2 rfl (by decide) _ M (intVs (silN nw (ds.take k))) rfl (own_ExtK HO3.out (ext_alloc _ _)) ⟨w3.heap.size, 0, none⟩ 1 1 [.int .i64 d.id] rfl rfl (cell_one_new _ _ _) (by simp [Value.oneCell']) ?c3 ?c4 ?c5 ?_))
        case c3 => have := HM.out; simp [maxLen]; omega
        case c4 => have := HM.out; omega
        case c5 => have := X3.out.size; simp; omega
        intro v' w5 ho5 hg5 _ hat5
        have HO5 := Lib.hid ho5
        have X5 := Lib.hid ((X3.out.trans (ext_alloc w3 (.cells #[.int .i64 d.id] 3))).trans' (grown_below hg5 (by have := X3.out.size; simp; omega) (fun q hq => (HO3.out.lt q hq).1)))
        clear ho5 hg5 hat5
        go_wp2
        go_roundw
        case rel => exact ⟨k + 1, by omega, by simp, by rw [HS.out, List.length_append, List.length_singleton, ← HMM.out]; simpa [intVs] using HO5.out, X5.out⟩
        case measure => simp [intOf]; omega
    · obtain rfl : k = N := by omega
      have i1 : ¬ (k : Int) < (k : Int) := by omega
      have HT := Lib.hid (show ds.take k = ds by rw [HN.out, List.take_length])
      clear ho hx
      go_wp2
      go_ret
      exact ⟨_, rfl, by have := HO.out; rwa [HT.out] at this, HX.out⟩
end Go.Proofs.Ytffioglbgnbieaa
