/- rule.sharesWhole. -/
import Derived.Test.YtflbhnckhbcboaaDoorKidsC
import Derived.Maps.Own
import Derived.Maps.OwnOps
import Derived.Maps.RangeWalk
import Derived.Maps.Views
namespace Go.Proofs.YtflbhnckhbcboaaDoor
open Go.RowKit Go.Maps Go.WideMaps

def leastAt (q : QD) (label : Nat) : Int := match q.caps[label]? with | none => 0 | some c => c.1
theorem sumL_snoc (p : Tx) (label : Nat) (l : List QD) (q : QD) : sumL p label (l ++ [q]) = if above q.path = p then sumL p label l + leastAt q label else sumL p label l := by
  unfold sumL leastAt
  rw [List.filter_append, List.foldl_append]
  by_cases h : above q.path = p
  · simp [h]
    cases q.caps[label]? <;> rfl
  · simp [h]
theorem above_val (S : ByteArray) (w : World) (hs : S.size < 4611686018427387904) : Calls Tryd.prog 35 #[.string S] w fun e w' => e = .returned (.string ⟨(above S.data.toList).toArray⟩) ∧ w = w' := by
  refine (above_any S w hs).mono ?_
  rintro e w' ⟨T, rfl, hT, _, rfl⟩
  exact ⟨by rw [← hT], rfl⟩
theorem size_q (w : World) : (sizeOf (Tryd.prog.elem 25)).run Tryd.prog w = .ok 3 w := by
  obtain ⟨i, hi, _, h1, _⟩ := info_parts Tryd.infoQ
  have he : Tryd.prog.elem 25 = 32 := by unfold Program.elem; rw [Tryd.underlying25]
  rw [he]
  simp [sizeOf, Sem.run, hi, h1]
  rfl
set_option maxRecDepth 100000 in
theorem slice_q (g N c : Nat) (hN : 1 ≤ N) (hc : N ≤ c) : ∃ A1, (∀ (W : World) (kl : IntKind), (Instr.slice 25 (.slice (some ⟨g, 0, none⟩) N c) (some (.int kl 1)) none none).run Tryd.prog W = .ok (.slice A1 (N - 1) (c - 1)) W) ∧ (0 < N - 1 → A1 = some ⟨g, 3, none⟩) := by
  refine ⟨if 1 < c then some ⟨g, 3, none⟩ else some ⟨g, 0, none⟩, fun W kl => ?_, fun h => by rw [if_pos (by omega)]⟩
  have := run_slice_l W 25 (some ⟨g, 0, none⟩) N c (P := Tryd.prog) Tryd.underlying25 kl 1 (by omega) (by omega)
  rw [this, size_q]
  by_cases h : 1 < c
  · simp [Result.andThen, sliced, h, Addr.add]
    omega
  · simp [Result.andThen, sliced, h]
    omega
theorem mapLaw : Keyed Tryd.prog 9 := string_keyed Tryd.underlying9
set_option maxRecDepth 100000 in
theorem zeroI (w : World) : (zeroValue 3).run Tryd.prog w = .ok (.int .i64 0) w := by
  simp [go_sem, zeroValue]
  rfl
theorem sumL_bound (p : Tx) (label : Nat) (l : List QD) (h : ∀ q ∈ l, 0 ≤ leastAt q label ∧ leastAt q label ≤ 10000) : ∀ k, k ≤ l.length → 0 ≤ sumL p label (l.take k) ∧ sumL p label (l.take k) ≤ 10000 * k
  | 0, _ => by simp [sumL]
  | k + 1, hk => by
    have ih := sumL_bound p label l h k (by omega)
    rw [List.take_succ_eq_append_getElem (by omega), sumL_snoc]
    have hh := h _ (List.getElem_mem (show k < l.length by omega))
    split <;> omega

set_option maxRecDepth 100000 in
set_option maxHeartbeats 3200000 in
theorem sharesWhole_any (ds : List QD) (vl vq : Value) (label : Nat) (w : World) (hq : QAt w vq ds) (hcq : CapsQ w vq ds) (h1 : 1 ≤ ds.length) (hlen : ds.length ≤ 16) (hps : ∀ q ∈ ds, q.path.length ≤ 1000000000) (hcl : ∀ q ∈ ds, label < q.caps.length ∧ q.caps.length ≤ 1000)
    (hle : ∀ q ∈ ds, 0 ≤ leastAt q label ∧ leastAt q label ≤ 10000) :
    Calls Tryd.prog 43 #[.agg #[vl, vq], .int .i64 label] w fun e w' => e = .returned (.bool (wholeC ds label)) ∧ Ext w w' := by
  obtain ⟨A, N, c, rfl, hN, hc1, hc2, hcell⟩ := hq.open
  obtain ⟨g, rfl, hg, hqc⟩ := hcell (by omega)
  obtain ⟨A1, hs1, hA1⟩ := slice_q g N c (by omega) hc1
  obtain ⟨M, hM⟩ : ∃ M, M = N - 1 := ⟨_, rfl⟩
  obtain ⟨l, hl⟩ : ∃ l, l = ds.drop 1 := ⟨_, rfl⟩
  have HLL := Lib.hid (show l.length = M by rw [hl, List.length_drop]; omega)
  have HQ := Lib.hid (show ∀ k (h : k < l.length), QCell w g (k + 1) l[k] ∧ ∃ gc cc, w.cell? ⟨g, (k + 1) * 3 + 1, none⟩ = some (.slice (some ⟨gc, 0, none⟩) l[k].caps.length cc) ∧ CapsAt w gc l[k].caps ∧ label < l[k].caps.length ∧ l[k].caps.length ≤ 1000 ∧ l[k].path.length ≤ 1000000000 by
    intro k h
    have hk : k + 1 < ds.length := by rw [hl, List.length_drop] at h; omega
    have e : l[k] = ds[k + 1] := by subst hl; simp [List.getElem_drop, Nat.add_comm]
    rw [e]
    have hm := List.getElem_mem hk
    obtain ⟨vc, hv1, Ac, cc, rfl, hv2⟩ := hcq g N c rfl (k + 1) hk
    obtain ⟨gc, rfl, hv3⟩ := hv2 (by have := hcl _ hm; omega)
    exact ⟨hqc (k + 1) hk, gc, cc, hv1, hv3, (hcl _ hm).1, (hcl _ hm).2, hps _ hm⟩)
  have HLE := Lib.hid (show ∀ q ∈ l, 0 ≤ leastAt q label ∧ leastAt q label ≤ 10000 from fun q hq => hle q (List.mem_of_mem_drop (by rw [← hl]; exact hq)))
  have HWC := Lib.hid (show wholeC ds label = l.all fun q => decide (sumL (above q.path) label l = 10000) by rw [hl]; rfl)
  obtain ⟨r, hr⟩ : ∃ r, r = wholeC ds label := ⟨_, rfl⟩
  rw [← hr] at HWC ⊢
  have hM1 : M ≤ 15 := by omega
  obtain ⟨c1, hc3⟩ : ∃ c1, c1 = c - 1 := ⟨_, rfl⟩
  rw [← hM, ← hc3] at hs1
  rw [← hM] at hA1
  have HA1 := Lib.hid hA1
  have hM2 : c1 = c - 1 := hc3
  clear hq hcq hqc hcell hps hcl hle hr hl hA1 hM hN hc3 hM2
  have hmm := @run_makeMap Tryd.prog
  go_enter Tryd.func43, Tryd.ntmps43
  go_wp2
  refine at_world (fun W0 hW0 => ?_)
  have X0 := Lib.hid (show Ext w W0 by rw [hW0]; exact (ext_alloc _ _).trans (ext_alloc _ _))
  have HO0 := Lib.hid (show W0.ownsMap Tryd.prog 9 (plainElem (H := Nat) Tryd.prog 3) (w.heap.size + 1) 0 (.map []) by
    have := World.ownsMap_made (H := Nat) (w.alloc (.cells #[vl, .slice (some ⟨g, 0, none⟩) N c] 27)) Tryd.prog 9 (plainElem (H := Nat) Tryd.prog 3)
    rw [show (w.alloc (.cells #[vl, .slice (some ⟨g, 0, none⟩) N c] 27)).heap.size = w.heap.size + 1 by simp only [World.alloc, Array.size_push]] at this
    rw [hW0]
    exact this)
  clear hW0 hmm
  go_loopw [15] (fun i wr => ∃ (k : Nat) (D : DataW Nat), k ≤ M ∧ i = .int .i64 k ∧ wr.ownsMap Tryd.prog 9 (plainElem (H := Nat) Tryd.prog 3) (w.heap.size + 1) k D ∧ IsMap D ∧ (∀ p : Tx, D.atKey (.string p) (.lit (.int .i64 0)) = .lit (.int .i64 (sumL p label (l.take k)))) ∧ (∀ p : Tx, has D (.string p) = (l.take k).any (fun q => decide (above q.path = p))) ∧ Ext w wr) (fun i _ => M - (intOf i).toNat)
  case atStart => exact ⟨0, .map [], by omega, rfl, HO0.out, isMap_empty, fun p => rfl, fun p => rfl, X0.out⟩
  case round =>
    obtain ⟨k, D, hkM, rfl, hown, hD, hat, hhas, hx⟩ := hrel
    have HX := Lib.hid hx
    have HOW := Lib.hid hown
    have HD := Lib.hid hD
    have HAT := Lib.hid hat
    have HHAS := Lib.hid hhas
    clear hx hown hD hat hhas
    have i0 : (0 : Int) ≤ (k : Int) := by omega
    by_cases hlt : k < M
    · have i1 : (k : Int) < (M : Int) := by omega
      have hkl : k < l.length := by have := HLL.out; omega
      obtain rfl := HA1.out (by omega)
      obtain ⟨hqc, gc, cc, hv1, hv2, hlb, hcl, hpl⟩ := HQ.out k hkl
      obtain ⟨P, Ac, cc', q1, q2, q3, q4, q5⟩ := hqc.ex
      rw [q2] at hv1
      injection hv1 with hv1
      injection hv1 with e1 e2 e3
      subst e1
      subst e3
      have hoff : 3 + k * 3 = (k + 1) * 3 := by omega
      rw [← hoff] at q1 q2 q3
      rw [show 3 + k * 3 + 1 = 3 + k * 3 + 1 from rfl] at q2
      have c0 := HX.out.cell q1
      have c1' := HX.out.cell q2
      have c2 := HX.out.cell q3
      obtain ⟨v1, _⟩ := hv2 label hlb
      have v1 := HX.out.cell v1
      obtain ⟨lst, hls⟩ : ∃ lst, lst = leastAt l[k] label := ⟨_, rfl⟩
      have hle1 : l[k].caps[label].1 = lst := by rw [hls]; unfold leastAt; rw [List.getElem?_eq_getElem hlb]
      rw [hle1] at v1
      obtain ⟨ncs, hncs⟩ : ∃ ncs, ncs = l[k].caps.length := ⟨_, rfl⟩
      rw [← hncs] at c1' hlb hcl
      have hb := HLE.out _ (List.getElem_mem hkl)
      rw [← hls] at hb
      have HPP := Lib.hid q4
      have hPs : P.size < 4611686018427387904 := by rw [ba_size, q4]; omega
      generalize (l[k].user) = uu at c2
      have HST := Lib.hid (fun p => (show sumL p label (l.take (k + 1)) = if above P.data.toList = p then sumL p label (l.take k) + lst else sumL p label (l.take k) by
        rw [List.take_succ_eq_append_getElem hkl, sumL_snoc, HPP.out, hls]))
      have HLS := Lib.hid hls
      clear hqc hv2 q1 q2 q3 q4 q5 hoff hle1 hncs hls
      have hlb' : (label : Int) < (ncs : Int) := by omega
      have hl0 : (0 : Int) ≤ (label : Int) := by omega
      go_wp2
      refine at_world (fun W1 hW1 => ?_)
      have Y1 := Lib.hid (show Ext wr W1 by rw [hW1]; exact ext_alloc _ _)
      have d0 : W1.cell? ⟨wr.heap.size, 0, none⟩ = some (.string P) := by rw [hW1]; simp [go_sem]
      have d1 : W1.cell? ⟨wr.heap.size, 1, none⟩ = some (.slice (some ⟨gc, 0, none⟩) ncs cc') := by rw [hW1]; simp [go_sem]
      have v2 := Y1.out.cell v1
      clear hW1 c0 c1' c2 v1
      obtain ⟨T, hT⟩ : ∃ T : ByteArray, T = ⟨(above P.data.toList).toArray⟩ := ⟨_, rfl⟩
      have HT := Lib.hid (show T.data.toList = above P.data.toList by rw [hT])
      have HAB := Lib.hid (fun (W : World) => by have := above_val P W hPs; rw [← hT] at this; exact this)
      clear hT
      have hTl : T.size ≤ maxLen := by
        rw [ba_size, HT.out]
        have h2 : (above P.data.toList).length ≤ P.data.toList.length := by
          by_cases h : P.data.toList = []
          · rw [h]; decide
          · exact Nat.le_of_lt (above_lt h)
        rw [ba_size] at hPs
        unfold maxLen
        omega
      have hkey := keyOf_string_mk (P := Tryd.prog) Tryd.underlying9 hTl
      rw [HT.out] at hkey
      have HKEY := Lib.hid hkey
      obtain ⟨sm, hsm⟩ : ∃ sm, sm = sumL (above P.data.toList) label (l.take k) := ⟨_, rfl⟩
      have HLK := Lib.hid (fun (wk : World) (x : Ext W1 wk) => (show (Instr.lookup 91 (.map (some (w.heap.size + 1))) (.string T) false).run Tryd.prog wk = .ok (.int .i64 sm) wk by
        obtain ⟨cz, hrun, hatz, _⟩ := (HOW.out.kept (grown_of_ext (Y1.out.trans x) none) (by simp)).lookup_int mapLaw Tryd.underlying91 Tryd.underlying3 (zeroI _) HKEY.out
        rw [HAT.out] at hatz
        injection hatz with hatz
        injection hatz with _ hatz
        rw [hrun, hsm, hatz]))
      have hsb := sumL_bound (above P.data.toList) label l HLE.out k (by omega)
      rw [← hsm] at hsb
      have HSM := Lib.hid hsm
      have HKL := Lib.hid hkl
      clear hsm hkey hpl
      have w1 : (0 : Int) ≤ sm + lst := by omega
      have w2 : sm + lst ≤ 1000000 := by omega
      have w3 : wrap64 (sm + lst) = sm + lst := by unfold wrap64; omega
      refine wp_region_lex 12 (by kernel_rfl) (by kernel_rfl) (fun _ _ _ _ _ h => h) ?_
      simp only [List.take_succ_cons, List.take_zero, List.drop_succ_cons, List.drop_zero]
      repeat first | (refine seq_take ?_ (by rfl) (fun wk k1 => ?_) ?_; rotate_left; (have e0 := k1.cell d0; have e1 := k1.cell d1; have e2 := k1.cell v2; have e3 := HLK.out wk k1; go_simp; first | exact OkX.val | (refine OkX.eqv (OkX.same (HAB.out _)) ?_; exact rfl)); simp only [Act.put, List.setIfInBounds_toArray, List.set_cons_zero, List.set_cons_succ]) | (refine seq_skip (by rfl) ?_; simp only [Act.put, List.setIfInBounds_toArray, List.set_cons_zero, List.set_cons_succ])
      have w4 : IntKind.wrap .i64 (sm + lst) = sm + lst := by rw [IntKind.wrap_i64]; omega
      rw [w4]
      have W5 : (Lit.int .i64 (sm + lst)).wf = true := WalkArith.wf_i64 (by omega)
      clear w1 w2 w3 w4
      refine seq_nil (fun wk k1 => ?_)
      have HOK := Lib.hid (HOW.out.kept (grown_of_ext (Y1.out.trans k1) none) (by simp))
      have HXK := Lib.hid (HX.out.trans (Y1.out.trans k1))
      clear k1
      go_wp2_with (first | (at_mapUpdate; refine wpList_mapUpdate_own _ rfl _ _ _ 91 rfl 9 3 mapLaw Tryd.underlying91 _ (w.heap.size + 1) k _ rfl HOK.out (by unfold maxLen; omega) _ _ _ rfl rfl HKEY.out _ [] (plainElem_int Tryd.underlying3 W5) ?_) | go_in)
      intro w2 hown2 hgrow2
      have HOZ := Lib.hid hown2
      have HXZ := Lib.hid (show Ext w w2 from HXK.out.trans' (grown_below hgrow2 HXK.out.size (fun j e => by injection e with e; omega)))
      clear hown2 hgrow2
      have HAT2 := Lib.hid (show ∀ p : Tx, (D.put (Lit.string (above P.data.toList)) (DataW.lit (Lit.int .i64 (sm + lst)))).atKey (.string p) (.lit (.int .i64 0)) = .lit (.int .i64 (sumL p label (l.take (k + 1)))) by
        intro p
        rw [HST.out p]
        by_cases h : above P.data.toList = p
        · subst h
          rw [if_pos rfl, atKey_put_same HD.out (show WideAt.IsKeyLit (Lit.string _) from trivial), HSM.out]
        · rw [if_neg h, atKey_put_other (fun e => h (by injection e with e; exact e.symm)), HAT.out])
      have HHAS2 := Lib.hid (show ∀ p : Tx, has (D.put (Lit.string (above P.data.toList)) (DataW.lit (Lit.int .i64 (sm + lst)))) (.string p) = (l.take (k + 1)).any (fun q => decide (above q.path = p)) by
        intro p
        rw [List.take_succ_eq_append_getElem HKL.out, List.any_append]
        simp only [List.any_cons, List.any_nil, Bool.or_false]
        rw [← HPP.out]
        by_cases h : above P.data.toList = p
        · subst h
          rw [has_put_same HD.out (show WideAt.IsKeyLit (Lit.string _) from trivial)]
          simp
        · rw [has_put_other (fun e => h (by injection e with e; exact e.symm)), HHAS.out, decide_eq_false h, Bool.or_false])
      go_wp2
      go_roundw
      case rel => exact ⟨k + 1, _, by omega, by simp, HOZ.out, HD.out.put _ _, HAT2.out, HHAS2.out, HXZ.out⟩
      case measure => simp [intOf]; omega
    · have i1 : ¬ (k : Int) < (M : Int) := by omega
      obtain rfl : k = M := by omega
      have HTK := Lib.hid (show l.take k = l from List.take_of_length_le (by have := HLL.out; omega))
      clear HQ HLE HO0 X0
      rw [HTK.out] at HAT HHAS
      clear HTK
      go_wp2_with (first | (at_range; refine wpList_range_own _ rfl _ 91 rfl 9 3 mapLaw Tryd.underlying91 _ (w.heap.size + 1) k D rfl HOW.out ?_; intro w0 hrg0 hg0 hs0) | go_in)
      try go_frame
      have hsz : w.heap.size ≤ wr.heap.size := HX.out.size
      have HX0 := Lib.hid (show Ext w w0 from HX.out.trans' (grown_below hg0 HX.out.size (fun j e => by cases e)))
      have HRG0 := Lib.hid hrg0
      clear hg0 hs0 hrg0 HX HOW
      generalize wr.heap.size = R at HRG0 hsz ⊢
      go_loopw [34] (fun _ wr2 => ∃ (left : Lit → Bool) (cnt : Nat), wr2.ranges Tryd.prog 9 (plainElem (H := Nat) Tryd.prog 3) (w.heap.size + 1) R k D left cnt ∧ (∀ p : Tx, has D (.string p) = true → left (.string p) = false → sumL p label l = 10000) ∧ Ext w wr2) (fun _ wr2 => wr2.rangeLeft (w.heap.size + 1) R)
      case atStart => exact ⟨_, _, HRG0.out, (fun p h1 h2 => absurd (h1.symm.trans h2) (by decide)), HX0.out⟩
      case round =>
        obtain ⟨left, cnt, hrg, hdone, hx⟩ := hrel
        have HX2 := Lib.hid hx
        have HRG := Lib.hid hrg
        have HDN := Lib.hid hdone
        clear hx hrg hdone
        go_wp2_with (first | (at_next; refine wpList_next_ranges _ rfl _ rfl 9 mapLaw (plainElem (H := Nat) Tryd.prog 3) Value.string (Value.int .i64) (fun key kl h => by obtain ⟨s, rfl, _, _⟩ := string_of_keyOf Tryd.underlying9 h; exact ⟨s, rfl⟩) (fun v y h => by obtain ⟨c, rfl, _⟩ := plainElem_int_inv Tryd.underlying3 h; exact ⟨c, rfl⟩) (w.heap.size + 1) R k D left cnt rfl HRG.out ?_ ?_) | go_in)
        · intro _ hl0
          have HF := Lib.hid (show r = true by
            rw [HWC.out, List.all_eq_true]
            intro q hq
            rw [decide_eq_true_eq]
            refine HDN.out _ ?_ (hl0 _)
            rw [HHAS.out, List.any_eq_true]
            exact ⟨q, hq, by simp⟩)
          clear hl0
          go_wp2
          go_ret
          rw [HF.out]
          exact ⟨rfl, HX2.out⟩
        · intro x cv kl y yp w1 cnt1 hkey hlk hv hat1 hrg1 hlt1 hg1 hs1 hen
          obtain ⟨x', ex, rfl, _⟩ := string_of_keyOf Tryd.underlying9 hkey
          injection ex with ex
          subst ex
          obtain ⟨c', ec, hy, _⟩ := plainElem_int_inv Tryd.underlying3 hv
          injection ec with _ ec
          subst ec
          injection hy with hy _
          subst hy
          have hsum : cv = sumL x.data.toList label l := by
            have := (hat1 (.lit (.int .i64 0))).symm.trans (HAT.out x.data.toList)
            injection this with this
            injection this
          have hhk : has D (.string x.data.toList) = true := has_true_of_atKey hat1
          have HXZ := Lib.hid (show Ext w w1 from HX2.out.trans' (grown_below hg1 HX2.out.size (fun j e => by injection e with e; omega)))
          by_cases hc : cv = 10000
          · have HDN2 := Lib.hid (show ∀ p : Tx, has D (.string p) = true → (left (.string p) && !(Lit.string p).sameKey (.string x.data.toList)) = false → sumL p label l = 10000 by
              intro p h1 h2
              cases hlp : left (.string p) with
              | false => exact HDN.out p h1 hlp
              | true =>
                rw [hlp, Bool.true_and, Bool.not_eq_false'] at h2
                have e := WideAt.sameKey_eq h2
                injection e with e
                rw [e, ← hsum, hc])
            have HR1 := Lib.hid hrg1
            have hleft : w1.rangeLeft (w.heap.size + 1) R < wr.rangeLeft (w.heap.size + 1) R := by rw [hrg1.left_eq, HRG.out.left_eq]; exact hlt1
            clear hrg1 hlt1 hg1 hs1 hlk hv hat1 hsum hhk hkey
            subst hc
            go_wp2
            go_roundw
            case rel => exact ⟨fun z => left z && !z.sameKey (Lit.string x.data.toList), cnt1, HR1.out, HDN2.out, HXZ.out⟩
            case measure => exact hleft
          · have HF := Lib.hid (show r = false by
              rw [HWC.out, List.all_eq_false]
              have := HHAS.out x.data.toList
              rw [hhk] at this
              obtain ⟨q, hq, he⟩ := List.any_eq_true.1 this.symm
              refine ⟨q, hq, ?_⟩
              rw [decide_eq_true_eq] at he
              rw [decide_eq_true_eq, he, ← hsum]
              exact hc)
            have hc1 : (cv == 10000) = false := by simpa using hc
            clear hrg1 hlt1 hg1 hs1 hlk hv hat1 hsum hhk hkey hc
            go_wp2
            go_ret
            rw [HF.out]
            exact ⟨rfl, HXZ.out⟩
end Go.Proofs.YtflbhnckhbcboaaDoor
