/- asks.Miss. -/
import Derived.Test.YtbocpkdnlpobkaaAkT
namespace Go.Proofs.Ytbocpkdnlpobkaa
open Go.RowKit

theorem missA_no {p : Int} {ds : List AD} (h : hasA p ds = false) : missA ds p = ds := by
  unfold missA
  rw [show (fun x : AD => if x.prio = p then { x with missed := min (x.missed + 1) 100 } else x) = _ from rfl]
  conv => rhs; rw [← List.map_id ds]
  refine List.map_congr_left fun x hx => ?_
  rw [if_neg (hasA_no h x hx)]
  rfl
theorem missA_at {ds : List AD} (h : SrtA ds) {p : Int} {k : Nat} (hk : k < ds.length) (he : ds[k].prio = p) : missA ds p = ds.take k ++ { ds[k] with missed := min (ds[k].missed + 1) 100 } :: ds.drop (k + 1) := by
  obtain ⟨h1, h2⟩ := h.parts k hk
  have e : missA ds p = missA (ds.take k ++ ds[k] :: ds.drop (k + 1)) p := by rw [← split_at k hk]
  rw [e]
  have m1 : missA (ds.take k) p = ds.take k := missA_no (by unfold hasA; rw [List.any_eq_false]; intro x hx; have := h1 x hx; simp; omega)
  have m2 : missA (ds.drop (k + 1)) p = ds.drop (k + 1) := missA_no (by unfold hasA; rw [List.any_eq_false]; intro x hx; have := h2 x hx; simp; omega)
  unfold missA at m1 m2 ⊢
  rw [List.map_append, List.map_cons, m1, m2, if_pos he]
theorem acells_miss (ds : List AD) (k : Nat) (hk : k < ds.length) (z : Int) : acells (ds.take k ++ { ds[k] with missed := z } :: ds.drop (k + 1)) = (acells ds).set (k * 8 + 7) (.int .i64 z) := by
  induction ds generalizing k with
  | nil => simp at hk
  | cons d ds ih =>
    cases k with
    | zero => rfl
    | succ k =>
      have hk' : k < ds.length := by simpa using hk
      have := ih k hk'
      simp only [List.take_succ_cons, List.drop_succ_cons, List.cons_append, List.getElem_cons_succ]
      show aenc d ++ acells (ds.take k ++ { ds[k] with missed := z } :: ds.drop (k + 1)) = (aenc d ++ acells ds).set ((k + 1) * 8 + 7) _
      rw [this, List.set_append_right _ _ (by simp [aenc]; omega)]
      congr 2
      simp [aenc]
      omega

set_option maxRecDepth 100000 in
set_option maxHeartbeats 1600000 in
theorem Miss_any (ds : List AD) (v : Value) (p : Int) (w : World) (hn : HdA w v ds) (hlen : ds.length ≤ 1000) (hs : SrtA ds) (hk : OkA ds) :
    Calls Try.prog 18 #[v, .int .i64 p] w (OnePost (missA ds p) w) := by
  have HLN := Lib.hid (show [ds].flatten.length ≤ 10000 by simp; omega)
  have HF := Lib.hid (show [ds].flatten = ds by simp)
  have HPL := Lib.hid (fun v' W (hn' : HdA W v' ds) => place_any ds v' p W hn' hlen hs)
  have HH := Lib.hid hn
  obtain ⟨A, N, c, rfl, hN, hc1, hc2, hcell⟩ := hn.ask
  have HN := Lib.hid hN
  have hN1 : N ≤ 1000 := by omega
  have HSK := Lib.hid (And.intro hs hk)
  clear hcell hn hN hlen hs hk
  go_enter Try.func18, Try.ntmps18
  go_wp2_with fail
  refine (joined_any w.heap.size 1 [.slice A N c] [ds] _ (heap_alloc_new w _) rfl (by omega) (fun k hk => match k, hk with | 0, _ => ⟨_, rfl, (HH.out.ext (ext_alloc w _)).rdK⟩) HLN.out).mono ?_
  intro e w1 hj
  obtain ⟨g, rfl, hg, hgc, hx⟩ := hj
  rw [HF.out] at hgc ⊢
  rw [← HN.out]
  have HG := Lib.hid hgc
  have X1 := Lib.hid ((ext_alloc w _).trans hx)
  have HGW := Lib.hid (show w.heap.size ≤ g by simp at hg; omega)
  have HHD := Lib.hid (show HdA w1 (.slice (some ⟨g, 0, none⟩) N N) ds from ⟨_, N, by rw [← HN.out], by rw [← HN.out]; exact Nat.le_refl _, by simp [maxLen]; omega, fun _ => ⟨g, rfl, (Array.getElem?_eq_some_iff.1 hgc).1, fun j u hu => bcel hgc j u (by rw [List.getElem?_toArray]; exact hu)⟩⟩)
  have HHO := Lib.hid (show ∀ (W : World) (xs : List AD), xs.length = N → W.heap[g]? = some (.cells (acells xs).toArray 25 (0, 0)) → W.ownsRow w.heap.size 25 8 (.slice (some ⟨g, 0, none⟩) N N) xs.length (acells xs) from fun W xs hl h => by rw [hl]; exact ⟨by rw [acells_len, hl], .inr ⟨g, N, _, rfl, HGW.out, h, Nat.le_refl _, by simp [maxLen]; omega, by simp [acells_len, hl], by rw [← hl, ← acells_len]; simp⟩⟩)
  clear hg hgc hx
  go_wp2_with fail
  (with_reducible refine (HPL.out _ _ HHD.out).mono ?_)
  rintro e w2 ⟨rfl, hx2⟩
  have X2 := Lib.hid (X1.out.trans hx2)
  have HG2 := Lib.hid (ext_blk hx2 HG.out)
  clear hx2 HG
  obtain ⟨hh, hhd⟩ : ∃ hh, hh = hasA p ds := ⟨_, rfl⟩
  rw [← hhd]
  cases hh
  · have HT := Lib.hid (missA_no hhd.symm)
    obtain ⟨i, hi⟩ : ∃ i, i = (lowA p ds).length := ⟨_, rfl⟩
    rw [← hi]
    clear hhd hi
    go_wp2
    go_ret
    exact ⟨_, rfl, by rw [HT.out]; exact HHO.out w2 ds HN.out.symm HG2.out, X2.out⟩
  · obtain ⟨k, hkd, hkp⟩ := hasA_idx hhd.symm
    have HPH := Lib.hid (place_hit HSK.out.1 hkd hkp)
    rw [HPH.out.1]
    have HM := Lib.hid (missA_at HSK.out.1 hkd hkp)
    obtain ⟨_, _, hk3, hk4⟩ := HSK.out.2 _ (List.getElem_mem hkd)
    have HCM := Lib.hid (acells_miss ds k hkd)
    obtain ⟨q0, q1, q2, q3, q4, q5, q6, q7⟩ := aAt_of (g := g) (w := w2) (fun j u hu => bcel HG2.out j u (by rw [List.getElem?_toArray]; exact hu)) k hkd
    have HSP := Lib.hid (split_at k hkd)
    obtain ⟨d, hd⟩ : ∃ d, d = ds[k] := ⟨_, rfl⟩
    have HD := Lib.hid hd
    rw [← hd] at HM HCM hk3 hk4 q0 q1 q2 q3 q4 q5 q6 q7
    have k0 : (0 : Int) ≤ (k : Int) := by omega
    have k1 : (k : Int) < (N : Int) := by have := HN.out; omega
    have f := fun j => bfre HG2.out j
    obtain ⟨ap, al, am, ac, an, ao, ar, ami⟩ := d
    simp only at HM HCM hk3 hk4 q0 q1 q2 q3 q4 q5 q6 q7
    clear hd hhd
    by_cases h : ami < 100
    · have t : decide (ami < 100) = true := by simpa using h
      go_wp2
      refine at_worldB (fun W9 hW9 => ?_)
      go_ret
      refine ⟨_, rfl, ?_, ?_⟩
      · have hm : min (ami + 1) 100 = ami + 1 := by omega
        have hl : (missA ds p).length = N := by rw [missA_len]; exact HN.out.symm
        have hc : W9.heap[g]? = some (.cells (acells (missA ds p)).toArray 25 (0, 0)) := by
          rw [hW9, bset HG2.out (k * 8 + 7), HM.out, HCM.out, hm]
          simp
        exact HHO.out W9 _ hl hc
      · rw [hW9]
        exact ext_set X2.out HGW.out _
    · have t : decide (ami < 100) = false := by simpa using h
      have HT := Lib.hid (show missA ds p = ds by
        rw [HM.out]
        have e : ami = 100 := by omega
        subst e
        conv => rhs; rw [HSP.out]
        rw [← HD.out]
        rfl)
      go_wp2
      go_ret
      exact ⟨_, rfl, by rw [HT.out]; exact HHO.out w2 ds HN.out.symm HG2.out, X2.out⟩
end Go.Proofs.Ytbocpkdnlpobkaa
