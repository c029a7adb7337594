/- dispatchref9.Miss, Pending. -/
import Derived.Test.YtbocpkdnlpobkaaAkR
import Derived.Test.YtbocpkdnlpobkaaAkPd
import Derived.Test.YtbocpkdnlpobkaaAkQ
namespace Go.Proofs.Ytbocpkdnlpobkaa
open Go.RowKit

theorem own_two {w : World} {B : Nat} {v : Value} {ds : List AD} (h : w.ownsRow B 25 8 v ds.length (acells ds)) : (v = .slice none 0 0 ∧ ds.length = 0 ∧ acells ds = []) ∨ ∃ ad c, v = .slice (some ad) ds.length c ∧ (acells ds).length = ds.length * 8 ∧ ∀ j u, (acells ds)[j]? = some u → w.cell? (ad.add j) = some u := by
  rcases h.2 with ⟨rfl, h0⟩ | ⟨g, c, cur, rfl, _⟩
  · exact .inl ⟨rfl, h0, by rw [List.eq_nil_of_length_eq_zero h0]; rfl⟩
  · exact .inr ⟨⟨g, 0, none⟩, c, rfl, acells_len ds, h.cells (g := g) rfl⟩
/-- The first k are missed. -/
def missK (ds : List AD) (p : Int) (k : Nat) : List AD := missA (ds.take k) p ++ ds.drop k
theorem missK_len (ds : List AD) (p : Int) (k : Nat) : (missK ds p k).length = ds.length := by
  unfold missK
  rw [List.length_append, missA_len, List.length_take, List.length_drop]
  omega
theorem missK_get (ds : List AD) (p : Int) (k : Nat) (hk : k < ds.length) : (missK ds p k)[k]'(by rw [missK_len]; exact hk) = ds[k] := by
  unfold missK
  rw [List.getElem_append_right (by rw [missA_len, List.length_take]; omega)]
  simp only [missA_len, List.length_take, List.getElem_drop]
  congr 1
  omega
theorem missK_step (ds : List AD) (p : Int) (k : Nat) (hk : k < ds.length) : missK ds p (k + 1) = if ds[k].prio = p then (missK ds p k).take k ++ { (missK ds p k)[k]'(by rw [missK_len]; exact hk) with missed := min (ds[k].missed + 1) 100 } :: (missK ds p k).drop (k + 1) else missK ds p k := by
  have hg := missK_get ds p k hk
  have e1 : (missK ds p k).take k = missA (ds.take k) p := by
    unfold missK
    rw [List.take_left' (by rw [missA_len, List.length_take]; omega)]
  have e2 : (missK ds p k).drop (k + 1) = ds.drop (k + 1) := by
    unfold missK
    have hl : (missA (ds.take k) p).length = k := by rw [missA_len, List.length_take]; omega
    rw [List.drop_append, hl, List.drop_of_length_le (by omega), List.nil_append, List.drop_drop]
    congr 1
    omega
  have e3 : missK ds p (k + 1) = missA (ds.take k) p ++ (if ds[k].prio = p then { ds[k] with missed := min (ds[k].missed + 1) 100 } else ds[k]) :: ds.drop (k + 1) := by
    unfold missK
    rw [show ds.take (k + 1) = ds.take k ++ [ds[k]] from (List.take_append_getElem hk).symm]
    unfold missA
    rw [List.map_append, List.append_assoc]
    rfl
  rw [e3, e1, e2, hg]
  split
  · rfl
  · unfold missK
    rw [List.getElem_cons_drop]
theorem missK_all (ds : List AD) (p : Int) : missK ds p ds.length = missA ds p := by unfold missK; rw [List.take_length, List.drop_length, List.append_nil]
theorem missK_zero (ds : List AD) (p : Int) : missK ds p 0 = ds := rfl

set_option maxRecDepth 100000 in
set_option maxHeartbeats 6400000 in
theorem rMiss_any (ds : List AD) (v : Value) (p : Int) (B : Nat) (w : World) (hn : w.ownsRow B 25 8 v ds.length (acells ds)) (hlen : ds.length ≤ 1000) (hk : OkA ds) :
    Calls Try.prog 19 #[v, .int .i64 p] w (OnePost (missA ds p) w) := by
  obtain ⟨c0, hc, hcz0, hcz1, hcz2⟩ := info_parts Try.infoAk
  have HK := Lib.hid hk
  have HOW := Lib.hid (own_two (hn.alloc (.cells #[] 25)))
  have HEM := Lib.hid (own_emptyT w w.heap.size 25 8 (Nat.le_refl _))
  obtain ⟨N, hN⟩ : ∃ N, N = ds.length := ⟨_, rfl⟩
  rw [← hN] at HOW hn hlen
  obtain ⟨Av, cv, rfl, hv1, hv2⟩ := own_shape hn
  have HN := Lib.hid hN
  clear hn hN hk
  go_enter Try.func19, Try.ntmps19
  go_wp2_with (at_builtin; go_loud (refine wpList_append_twoR rfl (.tmp 7) (.tmp 8) 33 rfl w.heap.size 25 c0 _ 8 64 Try.underlying33 hc hcz0 hcz1 hcz2 rfl (by decide) _ rfl HEM.out (.slice Av N cv) N (acells ds) rfl HOW.out (acells_one _) (by simp [maxLen]; omega) (by omega) (by simp) ?_))
  intro v' w3 ho3 hg3
  have HX3 := Lib.hid (show Ext w w3 from (FootL.of_grown (S := fun i => w.heap.size ≤ i) hg3 (fun k hk => by simp [Value.ownBlock] at hk; omega)).ext (ext_alloc _ _) (fun i h => h))
  obtain ⟨A3, c3, rfl, hv3, hv4⟩ := own_shape ho3
  have HO3 := Lib.hid ho3
  clear ho3 hg3 HOW HEM
  go_wp2
  go_loopw [6] (fun i wr => ∃ (k : Nat), k ≤ N ∧ i = .int .i64 k ∧ wr.ownsRow w.heap.size 25 8 (.slice A3 N c3) N (acells (missK ds p k)) ∧ Ext w wr) (fun i _ => N - (intOf i).toNat)
  case atStart => exact ⟨0, by omega, rfl, by rw [missK_zero]; exact HO3.out, HX3.out⟩
  case round =>
    obtain ⟨k, hkN, rfl, hown, hx⟩ := hrel
    have HX := Lib.hid hx
    have HO := Lib.hid hown
    have k0 : (0 : Int) ≤ (k : Int) := by omega
    by_cases hlt : k < N
    · have k1 : (k : Int) < (N : Int) := by omega
      have hkd : k < ds.length := by have := HN.out; omega
      obtain ⟨_, _, hm1, hm2⟩ := HK.out _ (List.getElem_mem hkd)
      have HMS := Lib.hid (missK_step ds p k hkd)
      have HMG := Lib.hid (missK_get ds p k hkd)
      have HML := Lib.hid (missK_len ds p k)
      rcases hown.2 with ⟨_, h0⟩ | ⟨g, cap, cur, e, hgB, hgc, _⟩
      · omega
      injection e with e1 e2 e3
      subst e1 e3
      obtain ⟨q0, q1, q2, q3, q4, q5, q6, q7⟩ := aAt_of (g := g) (w := wr) (ds := missK ds p k) (fun j u hu => by have := hown.cells (g := g) rfl j u hu; rw [head_add, Nat.zero_add] at this; exact this) k (by rw [HML.out]; exact hkd)
      have f := fun j => hown.frozenAt j
      have HST := Lib.hid (fun u => hown.stored (k * 8 + 7) u)
      have HGB := Lib.hid hgB
      rw [HMG.out] at q0 q1 q2 q3 q4 q5 q6 q7
      obtain ⟨d, hd⟩ : ∃ d, d = ds[k] := ⟨_, rfl⟩
      have HD := Lib.hid hd
      rw [← hd] at q0 q1 q2 q3 q4 q5 q6 q7 HMS hm1 hm2
      clear hd hx hown hgc hgB
      obtain ⟨dp, dl, dm, dc, dnn, dno, dr, dmi⟩ := d
      simp only at q0 q1 q2 q3 q4 q5 q6 q7 HMS hm1 hm2
      by_cases hE : dp = p
      · have t1 : (dp == p) = true := by simpa using hE
        have HF := Lib.hid (HMS.out.trans (if_pos hE))
        clear hE
        have HCM := Lib.hid (acells_miss (missK ds p k) k (by rw [HML.out]; exact hkd))
        go_upto_region 4 with fail
        refine at_world (fun W1 hW1 => ?_)
        have hmin : (if (100 : Int) < dmi + 1 then (100 : Int) else dmi + 1) = min (dmi + 1) 100 := by split <;> omega
        rw [hmin] at hW1 ⊢
        have HO1 := Lib.hid (show W1.ownsRow w.heap.size 25 8 (.slice (some ⟨g, 0, none⟩) N c3) N (acells (missK ds p (k + 1))) by rw [hW1, HF.out, HCM.out]; exact (HST.out _).1)
        have X1 := Lib.hid (show Ext w W1 by rw [hW1]; exact ext_set HX.out HGB.out _)
        clear hW1 hmin q0 q1 q2 q3 q4 q5 q6 q7 f
        go_wp2
        go_roundw
        case rel => exact ⟨k + 1, by omega, by simp, HO1.out, X1.out⟩
        case measure => simp [intOf]; omega
      · have t1 : (dp == p) = false := by simpa using hE
        have HF := Lib.hid (HMS.out.trans (if_neg hE))
        clear hE
        go_wp2
        go_roundw
        case rel => exact ⟨k + 1, by omega, by simp, by rw [HF.out]; exact HO.out, HX.out⟩
        case measure => simp [intOf]; omega
    · obtain rfl : k = N := by omega
      have k1 : ¬ (k : Int) < (k : Int) := by omega
      have HF := Lib.hid (show missK ds p k = missA ds p by rw [HN.out]; exact missK_all ds p)
      clear hx hown
      go_wp2
      go_ret
      exact ⟨_, rfl, by rw [missA_len, ← HN.out, ← HF.out]; exact HO.out, HX.out⟩

set_option maxRecDepth 100000 in
set_option maxHeartbeats 3200000 in
theorem rPending_any (ds : List AD) (v : Value) (label : Int) (w : World) (hn : HdA w v ds) (hlen : ds.length ≤ 1000) :
    Calls Try.prog 22 #[v, .int .i64 label] w fun e w' => e = .returned (.agg #[.int .i64 (pendA ds label).1, .int .i64 (pendA ds label).2]) ∧ Ext w w' := by
  obtain ⟨A, N, c, rfl, hN, hc1, hc2, hcell⟩ := hn.ask
  have HC := Lib.hid hcell
  have HN := Lib.hid hN
  have hN1 : N ≤ 1000 := by omega
  clear hcell hN hn hlen
  go_enter Try.func22, Try.ntmps22
  go_wp2
  refine at_world (fun W0 hW0 => ?_)
  have X0 := Lib.hid (show Ext w W0 by rw [hW0]; exact (ext_alloc _ _).trans (ext_alloc _ _))
  have HB := Lib.hid (show W0.heap[w.heap.size]? = some (.cells #[.int .i64 0, .int .i64 0] 23 (0, 0)) ∧ W0.heap[w.heap.size + 1]? = some (.cells #[.int .i64 0, .int .i64 0] 23 (0, 0)) by rw [hW0]; exact alloc2_at _ _ _)
  obtain ⟨R, hR⟩ : ∃ R, R = w.heap.size := ⟨_, rfl⟩
  have HR := Lib.hid hR
  rw [← hR] at HB ⊢
  clear hW0 hR
  go_loopw [6] (fun i wr => ∃ (k : Nat), i = .int .i64 k ∧ k ≤ N ∧ wr.heap[R + 1]? = some (.cells #[.int .i64 (pendA (ds.take k) label).1, .int .i64 (pendA (ds.take k) label).2] 23 (0, 0)) ∧ wr.heap[R]? = some (.cells #[.int .i64 0, .int .i64 0] 23 (0, 0)) ∧ Ext w wr) (fun i _ => N - (intOf i).toNat)
  case atStart => exact ⟨0, rfl, by omega, HB.out.2, HB.out.1, X0.out⟩
  case round =>
    obtain ⟨k, rfl, hk, h5, h4, hx⟩ := hrel
    have H5 := Lib.hid h5
    have H4 := Lib.hid h4
    have HX := Lib.hid hx
    obtain ⟨t1, ht1⟩ : ∃ t, t = (pendA (ds.take k) label).1 := ⟨_, rfl⟩
    obtain ⟨t2, ht2⟩ : ∃ t, t = (pendA (ds.take k) label).2 := ⟨_, rfl⟩
    have HT := Lib.hid (And.intro ht1 ht2)
    rw [← ht1, ← ht2] at h5 H5
    have c0 := bcel h5 0 (.int .i64 t1) rfl
    have c1 := bcel h5 1 (.int .i64 t2) rfl
    have d0 := bfre h4 0
    have d1 := bfre h4 1
    have e0 := bcel h4 0 (.int .i64 0) rfl
    have e1 := bcel h4 1 (.int .i64 0) rfl
    have hr : R + 1 < wr.heap.size := (Array.getElem?_eq_some_iff.1 h5).1
    clear h5 h4 hx ht1 ht2
    have k0 : (0 : Int) ≤ (k : Int) := by omega
    by_cases hlt : k < N
    · have k1 : (k : Int) < (N : Int) := by omega
      obtain ⟨g, rfl, _, hg⟩ := HC.out (by omega)
      have hkd : k < ds.length := by have := HN.out; omega
      obtain ⟨q0, q1, q2, q3, q4, q5, q6, q7⟩ := (hg k hkd).ext HX.out
      have HQ := Lib.hid ((hg k hkd).ext HX.out)
      obtain ⟨d, hd⟩ : ∃ d, d = ds[k] := ⟨_, rfl⟩
      have HTK := Lib.hid (show ds.take (k + 1) = ds.take k ++ [d] by rw [hd]; exact (List.take_append_getElem hkd).symm)
      rw [← hd] at q0 q1 q2 q3 q4 q5 q6 q7 HQ
      clear hd hg
      obtain ⟨ap, al, am, ac, an, ao, ar, ami⟩ := d
      simp only at q0 q1 q2 q3 q4 q5 q6 q7
      by_cases hlb : al = label
      · have HF := Lib.hid (show pendA (ds.take (k + 1)) label = (wrap64 (t1 + wrap64 (am * an)), wrap64 (t2 + wrap64 (ac * an))) by rw [HTK.out, pendA_snoc, if_pos hlb, HT.out.1, HT.out.2, Int.mul_comm am, Int.mul_comm ac])
        have hb : (al == label) = true := by simp [hlb]
        clear hlb
        obtain ⟨m1, hm1⟩ : ∃ m, m = wrap64 (am * an) := ⟨_, rfl⟩
        obtain ⟨m2, hm2⟩ : ∃ m, m = wrap64 (ac * an) := ⟨_, rfl⟩
        rw [← hm1, ← hm2] at HF
        have hw1 : IntKind.wrap .i64 (am * an) = m1 := by rw [hm1]; unfold wrap64; exact IntKind.wrap_i64 _
        have hw2 : IntKind.wrap .i64 (ac * an) = m2 := by rw [hm2]; unfold wrap64; exact IntKind.wrap_i64 _
        clear hm1 hm2
        have HPL := Lib.hid (fun W => plus9_any t1 t2 m1 m2 W)
        go_wp2_with fail
        clear q0 q1 q2 q3 q4 q5 q6 q7 c0 c1 e0 e1 d0 d1
        have HCC := Lib.hid (fun (w' : World) (h : Ext wr w') => (⟨h.cell (bcel H5.out 0 (.int .i64 t1) rfl), h.cell (bcel H5.out 1 (.int .i64 t2) rfl), (HQ.out.ext h).2.2.1, (HQ.out.ext h).2.2.2.1, (HQ.out.ext h).2.2.2.2.1, bfre (ext_blk h H5.out) 0, bfre (ext_blk h H5.out) 1⟩ : w'.cell? ⟨R + 1, 0, none⟩ = some (.int .i64 t1) ∧ w'.cell? ⟨R + 1, 1, none⟩ = some (.int .i64 t2) ∧ w'.cell? ⟨g, k * 8 + 2, none⟩ = some (.int .i64 am) ∧ w'.cell? ⟨g, k * 8 + 3, none⟩ = some (.int .i64 ac) ∧ w'.cell? ⟨g, k * 8 + 4, none⟩ = some (.int .i64 an) ∧ w'.frozen? ⟨R + 1, 0, none⟩ = false ∧ w'.frozen? ⟨R + 1, 1, none⟩ = false))
        refine wp_region_lex 27 (by kernel_rfl) (by kernel_rfl) (fun _ _ _ _ _ h => h) ?_
        simp only [List.take_succ_cons, List.take_zero, List.drop_succ_cons, List.drop_zero]
        repeat first | (refine seq_take ?_ (by rfl) (fun wk k1 => ?_) ?_; rotate_left; (have hcc := HCC.out wk k1; go_simp; first | exact OkX.val | ((with_reducible refine OkX.eqv (OkX.call (HPL.out wk)) ?_); exact rfl)); simp only [Act.put, List.setIfInBounds_toArray, List.set_cons_zero, List.set_cons_succ]) | (refine seq_skip (by rfl) ?_; simp only [Act.put, List.setIfInBounds_toArray, List.set_cons_zero, List.set_cons_succ])
        refine seq_nil (fun wk k1 => ?_)
        obtain ⟨c0, c1, _, _, _, f0, f1⟩ := HCC.out wk k1
        have HK := Lib.hid k1
        clear HCC k1 hw1 hw2
        go_wp2
        go_roundw
        case rel =>
          refine ⟨k + 1, by simp, by omega, ?_, ?_, ?_⟩
          · rw [bset (bset (ext_blk HK.out H5.out) 0 _) 1 _, HF.out]
            rfl
          · rw [heap_setCell_other _ _ _ _ (by simp), heap_setCell_other _ _ _ _ (by simp)]
            exact ext_blk HK.out H4.out
          · exact ext_set (ext_set (HX.out.trans HK.out) (by have := HR.out; omega) _) (by have := HR.out; omega) _
        case measure => simp [intOf]; omega
      · have HF := Lib.hid (show pendA (ds.take (k + 1)) label = pendA (ds.take k) label by rw [HTK.out, pendA_snoc, if_neg hlb])
        have hb : (al == label) = false := by simpa using hlb
        clear hlb
        go_wp2
        go_roundw
        case rel => exact ⟨k + 1, by simp, by omega, by rw [HF.out, ← HT.out.1, ← HT.out.2]; exact H5.out, H4.out, HX.out⟩
        case measure => simp [intOf]; omega
    · obtain rfl : k = N := by omega
      have k1 : ¬ (k : Int) < (k : Int) := by omega
      have HF := Lib.hid (show pendA ds label = (t1, t2) by have h := HT.out; rw [HN.out, List.take_length] at h; rw [h.1, h.2])
      go_wp2
      refine at_worldB (fun W9 hW9 => ?_)
      have hb := bset (bset H4.out 0 (.int .i64 t1)) 1 (.int .i64 t2)
      rw [← hW9] at hb
      have g0 := bcel hb 0 (.int .i64 t1) rfl
      have g1 := bcel hb 1 (.int .i64 t2) rfl
      refine bodyPost_ret (by simp [results, Try.results22, go_sem, g0, g1]; try rfl) rfl ?_
      refine ⟨by rw [HF.out], ?_⟩
      rw [hW9]
      exact ext_set (ext_set HX.out (by have := HR.out; omega) _) (by have := HR.out; omega) _
end Go.Proofs.Ytbocpkdnlpobkaa
