/- dispatchref3: the reference's Append, Sync, Swap, Crash. -/
import Derived.Test.YtpinpljmabhdhaaDkR
namespace Go.Proofs.Ytpinpljmabhdhaa
open Go.RowKit

section
variable {w : World} {X : Nat} {bl bs : Option Nat} {s : DS}

theorem rd_foot {S : Nat → Prop} {w w' : World} {v : Value} {xs : List Value} (h : Rd w v xs) (k : Foot S w w') (hS : 0 < xs.length → ∀ g, v.ownBlock = some g → ¬ S g) : Rd w' v xs := by
  obtain ⟨A, c, rfl, h1, h2, h3⟩ := h
  refine ⟨A, c, rfl, h1, h2, fun hn => ?_⟩
  obtain ⟨a, rfl, hb, hc⟩ := h3 hn
  refine ⟨a, rfl, Nat.lt_of_lt_of_le hb k.size, fun j u hu => ?_⟩
  rw [World.cell?_of_block (k.block (a.add j).block (by rw [add_block]; exact hb) (by rw [add_block]; exact hS hn _ rfl))]
  exact hc j u hu
/-- Bytes that lie below B, if there are any. -/
theorem Rd.below {w : World} {v : Value} {l : List UInt8} (h : Rd w v (bvs l)) : 0 < l.length → ∀ g, v.ownBlock = some g → g < w.heap.size := by
  intro hn g hg
  obtain ⟨A, c, rfl, _, _, h3⟩ := h
  obtain ⟨a, rfl, hb, _⟩ := h3 (by rw [bvs_length]; exact hn)
  injection hg with hg
  omega

theorem own_ge' {w : World} {base : Nat} {e : TypeId} {v : Value} {n : Nat} {xs : List Value} (h : w.ownsRow base e 1 v n xs) {B : Nat} (hB : B ≤ base) : ∀ k, v.ownBlock = some k → B ≤ k :=
  fun k hk => Nat.le_trans hB (h.lt k hk).1

theorem rd_new_ne {w : World} {v : Value} {n : Nat} {xs : List Value} {B X : Nat} (h : w.ownsRow B 5 1 v n xs) (hX : X < B) : v.ownBlock ≠ some X := by
  intro e
  have := (h.lt X e).1
  omega

set_option maxHeartbeats 800000 in
theorem rAppend_any (h : XDk w X bl bs s) (v : Value) (l : List UInt8) (hr : Rd w v (bvs l)) (hl : l.length ≤ 16777216) (hvX : 0 < l.length → ∀ k, v.ownBlock = some k → k ≠ X) :
    Calls Try.prog 24 #[.pointer (some ⟨X, 0, none⟩), v] w (XDid w X bl bs (app s l) (.int .i64 (appE s l))) := by
  obtain ⟨i0, hi, hz0, hz1, hz2⟩ := info_parts Try.infoB
  have H := Lib.hid h
  have ok := h.ok
  have HR := Lib.hid hr
  obtain ⟨A, c, rfl, _⟩ := hr.len
  rw [bvs_length] at *
  have b1 := ok.used
  have b2 := ok.room2
  obtain ⟨vl, vs, ev, h0, h1, _, h2, _⟩ := h
  obtain ⟨Al, cl, rfl, _⟩ := h1.len
  obtain ⟨As, cs, rfl, _⟩ := h2.len
  simp only [bvs_length] at *
  have c0 := h0.c0
  have c1 := h0.c1
  have c3 := h0.c3
  have c6 := h0.c6
  cases ho : s.off
  · rw [ho] at c6
    by_cases hf : s.room < (s.log.length : Int) + s.snap.length + l.length
    · have hq : refusal s (size s + l.length) = 16 := by unfold refusal size; rw [ho, if_neg (by simp), if_pos hf]
      have e1 : app s l = s := by simp [app, hq]
      have e2 : appE s l = 16 := by simp [appE, hq]
      rw [e1, e2]
      clear h0 h1 h2 ok hr e1 e2 hq ho
      go_enter Try.func24, Try.ntmps24
      go_wp2
      go_quiet (fail)
      have HD := Lib.hid (XDid.same H.out (ext_drewN w nq) (.int .i64 16))
      go_wp2
      go_ret
      exact HD.out
    · have hq : refusal s (size s + l.length) = 0 := by unfold refusal size; rw [ho, if_neg (by simp), if_neg hf]
      have e1 : app s l = ending (drw { s with log := s.log ++ l }) := by rw [ending_fin]; simp [app, hq]
      have e2 : appE s l = endE (drw { s with log := s.log ++ l }) := by rw [endE_fin]; simp only [appE, hq, if_true]; rfl
      rw [e1, e2]
      have HO := Lib.hid ho
      clear h0 h1 h2 ok hr e1 e2 hq ho
      go_enter Try.func24, Try.ntmps24
      go_wp2
      go_quiet (fail)
      have HQ := Lib.hid (H.out.ext (ext_drewN w nq))
      have XQ := Lib.hid (ext_drewN w nq)
      generalize w.drewN nq = w0 at *
      clear c0 c1 c3 c6
      go_wp2_with fail
      refine (goes_any HQ.out HO.out).mono ?_
      rintro e w1 ⟨rfl, hf1, bl1, bs1, hd1, hbl1, hbs1⟩
      have ok1 := Lib.hid hd1.ok
      have F1 := Lib.hid (show Foot (fun k => k = X) w w1 from (Foot.of_ext XQ.out).trans hf1 (fun _ _ h => h))
      have RB := Lib.hid (rd_foot (HR.out.ext XQ.out) hf1 (fun h0 g hg e => hvX (by rw [bvs_length] at h0; exact h0) g hg e))
      have BL1 := Lib.hid (show ∀ k, bl1 = some k → bl = some k ∨ w.heap.size ≤ k from fun k e => (hbl1 k e).imp id (fun h => Nat.le_trans XQ.out.size h))
      have BS1 := Lib.hid (show ∀ k, bs1 = some k → bs = some k ∨ w.heap.size ≤ k from fun k e => (hbs1 k e).imp id (fun h => Nat.le_trans XQ.out.size h))
      obtain ⟨vl, vs, ev, h0, h1, hb1, h2, hb2, h3, h4, h5, h6, h7, _⟩ := hd1
      have h1 : Rd w1 vl (bvs s.log) := h1
      have h2 : Rd w1 vs (bvs s.snap) := h2
      have c1 := h0.c1
      have hX1 := h0.lt
      have A0 := Lib.hid h0
      have A1 := Lib.hid h1
      have A2 := Lib.hid h2
      have HB2 := Lib.hid (And.intro hb2 (And.intro h4 (And.intro h6 h7)))
      have xal := ext_alloc w1 (.cells #[] 5)
      have hr0 := Lib.hid ((h1.ext xal).src bvs_one Try.underlying26)
      have ho0 := Lib.hid (World.ownsRow_made (w := w1) (base := w1.heap.size) (e := 5) (size := 1) #[] 0 (Nat.le_refl _) (by simp [maxLen]) rfl)
      have XA := Lib.hid xal
      clear h0 h1 h2 h3 h4 h5 h6 h7 hb1 hb2 hf1 hbl1 hbs1 xal HQ XQ
      go_wp2_with (at_builtin; refine wpList_app_src _ rfl (.tmp 31) (.tmp 35) 26 26 rfl w1.heap.size 5 i0 (.int .u8 0) 1 Try.underlying26 hi hz0 hz1 hz2 rfl _ 0 [] rfl ho0.out _ (bvs s.log).length (bvs s.log) rfl hr0.out ?c3 ?c4 ?c5 ?_)
      case c3 => rw [bvs_length]; simp [maxLen]; omega
      case c4 => rw [bvs_length]; omega
      case c5 => simp
      intro va w2 hown hgrow hat hfr
      have E2 := Lib.hid (XA.out.trans' (grown_below hgrow XA.out.size (fun k hk => by simp [Value.ownBlock] at hk; omega)))
      have O2 := Lib.hid (show w2.ownsRow w1.heap.size 5 1 va (bvs s.log).length (bvs s.log) by simpa using hown)
      have R2 := Lib.hid ((RB.out.ext E2.out).src bvs_one Try.underlying26)
      have hs2 := E2.out.size
      clear hown hgrow hat hfr hr0 ho0 XA
      go_wp2_with (at_builtin; refine wpList_app_src _ rfl (.tmp 36) (.tmp 37) 26 26 rfl w1.heap.size 5 i0 (.int .u8 0) 1 Try.underlying26 hi hz0 hz1 hz2 rfl va (bvs s.log).length (bvs s.log) rfl O2.out _ (bvs l).length (bvs l) rfl R2.out ?d3 ?d4 ?d5 ?_)
      case d3 => simp only [bvs_length]; simp [maxLen]; omega
      case d4 => simp only [bvs_length]; omega
      case d5 => exact hs2
      intro vb w3 hown hgrow hat hfr
      have hE3 : Ext w1 w3 := E2.out.trans' (grown_below hgrow hs2 (own_ge' O2.out (Nat.le_refl _)))
      have hne : vb.ownBlock ≠ some X := rd_new_ne hown hX1
      have a3 := A0.out.foot (Foot.of_ext (S := fun _ => False) hE3) id
      have d1 := a3.c1
      have f1 := a3.fr 1
      have hk : Foot (fun k => k = X) w3 (w3.setCell ⟨X, 1, none⟩ vb) := xset _ _ _ _
      have HD : XDk (w3.setCell ⟨X, 1, none⟩ vb) X vb.ownBlock bs1 (drw { s with log := s.log ++ l }) := by
        refine ⟨vb, vs, ev, XAt.set a3 1 vb (by simp [drw]), ?_, rfl, ((A2.out.ext hE3).foot hk (fun g hg e => ?_)), HB2.out.1, hne, HB2.out.2.1, fun k hk => ?_, fun k hk => ?_, ?_, ?_⟩
        · have := (Rd.of_own hown).foot hk (fun g hg e => hne (by rw [hg, e]))
          rw [← bvs_append] at this
          exact this
        · exact HB2.out.2.1 (by rw [← HB2.out.1, hg, e])
        · simpa [World.setCell] using (hown.lt k hk).2
        · simpa [World.setCell] using Nat.lt_of_lt_of_le (HB2.out.2.2.1 k hk) hE3.size
        · exact HB2.out.2.2.2
        · obtain ⟨h1, h2, h3, h4, h5, h6, h7, h8, h9⟩ := ok1.out
          refine ⟨h1, h2, ?_, h4, ?_, h6, h7, h8, h9⟩
          · simp only [drw, List.length_append]; omega
          · have : s.syn ≤ s.log.length := h5
            simp only [drw, List.length_append]; omega
      have HD := Lib.hid HD
      have HF := Lib.hid (show Foot (fun k => k = X) w (w3.setCell ⟨X, 1, none⟩ vb) from (F1.out.trans (Foot.of_ext (S := fun k => k = X) hE3) (fun _ _ h => h)).trans hk (fun _ _ h => h))
      have HL := Lib.hid (show ∀ k, vb.ownBlock = some k → bl = some k ∨ w.heap.size ≤ k from fun k e => .inr (Nat.le_trans F1.out.size (hown.lt k e).1))
      obtain ⟨Ab, nb, cb, rfl⟩ : ∃ A n c, vb = .slice A n c := by
        obtain ⟨A, c, h, _⟩ := (Rd.of_own hown).len
        exact ⟨A, _, c, h⟩
      clear hown hgrow hat hfr hE3 hne a3 hk
      go_wp2_with fail
      refine (end_any HD.out).mono ?_
      rintro e w4 hD
      have hD4 := XDid.then_ HF.out HL.out BS1.out hD
      have he := hD4.1
      subst he
      have HE := Lib.hid hD4
      clear hD hD4
      go_wp2
      go_ret
      exact HE.out
  · have hq : refusal s (size s + l.length) = 17 := by unfold refusal; rw [ho, if_pos rfl]
    have e1 : app s l = s := by simp [app, hq]
    have e2 : appE s l = 17 := by simp [appE, hq]
    rw [e1, e2]
    rw [ho] at c6
    have HD := Lib.hid (XDid.same H.out (Ext.refl w) (.int .i64 17))
    clear h0 h1 h2 ok hr e1 e2 hq ho c0 c1 c3
    go_enter Try.func24, Try.ntmps24
    go_wp2
    go_ret
    exact HD.out


theorem rSync_any (h : XDk w X bl bs s) :
    Calls Try.prog 26 #[.pointer (some ⟨X, 0, none⟩)] w (XDid w X bl bs (snc s) (.int .i64 (sncE s))) := by
  have H := Lib.hid h
  have ok := h.ok
  obtain ⟨vl, vs, ev, h0, _⟩ := h
  have c6 := h0.c6
  cases ho : s.off
  · rw [ho] at c6
    have HO := Lib.hid ho
    by_cases hl : s.left = 1
    · have e1 : snc s = ending (drw s) := by rw [ending_fin]; simp [snc, ho, syncs, hl]
      have e2 : sncE s = endE (drw s) := by rw [endE_fin]; simp [sncE, ho]
      have hd : decide (s.left = 1) = true := by simpa using hl
      rw [e1, e2]
      clear h0 ok ho e1 e2 hl
      go_enter Try.func26, Try.ntmps26
      go_wp2_with fail
      refine (goes_any H.out HO.out).mono ?_
      rw [hd]
      rintro e w1 ⟨rfl, hf1, bl1, bs1, hd1, hbl1, hbs1⟩
      have H1 := Lib.hid hd1
      have HT := Lib.hid (And.intro hf1 (And.intro hbl1 hbs1))
      clear hf1 hd1 hbl1 hbs1
      go_wp2_with fail
      refine (end_any H1.out).mono ?_
      rintro e w4 hD
      have hD4 := XDid.then_ HT.out.1 HT.out.2.1 HT.out.2.2 hD
      have he := hD4.1
      subst he
      have HE := Lib.hid hD4
      clear hD hD4
      go_wp2
      go_ret
      exact HE.out
    · have hsy : syncs s = { s with syn := (s.log.length : Int) } := by simp [syncs, hl]
      have e1 : snc s = ending (drw { s with syn := (s.log.length : Int) }) := by rw [ending_fin, ← hsy]; simp [snc, ho]
      have e2 : sncE s = endE (drw { s with syn := (s.log.length : Int) }) := by rw [endE_fin]; simp [sncE, ho]; rfl
      have hd : decide (s.left = 1) = false := by simpa using hl
      rw [e1, e2]
      clear h0 ok ho e1 e2 hl hsy
      go_enter Try.func26, Try.ntmps26
      go_wp2_with fail
      refine (goes_any H.out HO.out).mono ?_
      rw [hd]
      rintro e w1 ⟨rfl, hf1, bl1, bs1, hd1, hbl1, hbs1⟩
      have ok1 := hd1.ok
      have HD := Lib.hid (XDk.cells (w' := w1.setCell ⟨X, 2, none⟩ (.int .i64 (s.log.length : Int))) (s' := drw { s with syn := (s.log.length : Int) }) hd1 (xset _ _ _ _)
        (fun vl vs ev h hev => ⟨ev, XAt.set h 2 _ (by simp [drw]), hev⟩) rfl rfl (by
          have hsl : s.syn ≤ s.log.length := ok1.syn1
          obtain ⟨h1, h2, h3, h4, h5, h6, h7, h8, h9⟩ := ok1; exact ⟨h1, h2, h3, by simp only [drw]; omega, by simp only [drw]; omega, h6, h7, h8, h9⟩) (.tuple #[]))
      obtain ⟨vl, vs, ev, h0, h1, _⟩ := hd1
      have h1 : Rd w1 vl (bvs s.log) := h1
      obtain ⟨Al, cl, rfl, _⟩ := h1.len
      have c1 := h0.c1
      have c2 := h0.c2
      have f2 := h0.fr 2
      simp only [bvs_length] at c1
      have HT := Lib.hid (And.intro hf1 (And.intro hbl1 hbs1))
      clear hf1 hbl1 hbs1 h0 h1 ok1 c6 hd
      go_wp2_with fail
      obtain ⟨_, hf2, bl2, bs2, hd2, hbl2, hbs2⟩ := XDid.then_ HT.out.1 HT.out.2.1 HT.out.2.2 HD.out
      refine (end_any hd2).mono ?_
      rintro e w4 hD
      have hD4 := XDid.then_ hf2 hbl2 hbs2 hD
      have he := hD4.1
      subst he
      have HE := Lib.hid hD4
      clear hD hD4 hf2 hd2 hbl2 hbs2
      go_wp2
      go_ret
      exact HE.out
  · have e1 : snc s = s := by simp [snc, ho]
    have e2 : sncE s = 17 := by simp [sncE, ho]
    rw [e1, e2]
    rw [ho] at c6
    have HD := Lib.hid (XDid.same H.out (Ext.refl w) (.int .i64 17))
    clear h0 ok ho e1 e2
    go_enter Try.func26, Try.ntmps26
    go_wp2
    go_ret
    exact HD.out


theorem xset3 (w : World) (X i j k : Nat) (u v x : Value) : Foot (fun k => k = X) w (((w.setCell ⟨X, i, none⟩ u).setCell ⟨X, j, none⟩ v).setCell ⟨X, k, none⟩ x) := (xset2 _ _ _ _ _ _).trans (xset _ _ _ _) (fun _ _ h => h)

set_option maxHeartbeats 800000 in
theorem rSwap_any (h : XDk w X bl bs s) (v : Value) (l : List UInt8) (hr : Rd w v (bvs l)) (hl : l.length ≤ 16777216) (hvX : 0 < l.length → ∀ k, v.ownBlock = some k → k ≠ X) :
    Calls Try.prog 32 #[.pointer (some ⟨X, 0, none⟩), v] w (XDid w X bl bs (swp s l) (.int .i64 (swpE s l))) := by
  obtain ⟨i0, hi, hz0, hz1, hz2⟩ := info_parts Try.infoB
  have H := Lib.hid h
  have ok := h.ok
  have HR := Lib.hid hr
  obtain ⟨A, c, rfl, _⟩ := hr.len
  rw [bvs_length] at *
  obtain ⟨vl, vs, ev, h0, _⟩ := h
  have c0 := h0.c0
  have c6 := h0.c6
  cases ho : s.off
  · rw [ho] at c6
    by_cases hf : s.room < (l.length : Int)
    · have hq : refusal s l.length = 16 := by unfold refusal; rw [ho, if_neg (by simp), if_pos hf]
      have e1 : swp s l = s := by simp [swp, hq]
      have e2 : swpE s l = 16 := by simp [swpE, hq]
      rw [e1, e2]
      have HD := Lib.hid (XDid.same H.out (Ext.refl w) (.int .i64 16))
      clear h0 ok hr e1 e2 hq ho
      go_enter Try.func32, Try.ntmps32
      go_wp2
      go_ret
      exact HD.out
    · have hq : refusal s l.length = 0 := by unfold refusal; rw [ho, if_neg (by simp), if_neg hf]
      have HO := Lib.hid ho
      by_cases hs : s.left = 1 ∧ s.stop % 2 ≠ 0
      · have e1 : swp s l = ending (drw s) := by rw [ending_fin]; simp only [swp, hq, if_true, swaps, if_pos hs]
        have e2 : swpE s l = endE (drw s) := by rw [endE_fin]; simp only [swpE, hq, if_true]
        have hd : decide (s.left = 1) = true := by simpa using hs.1
        have hpos : 0 < s.left := by omega
        have hodd : decide (s.stop % 2 = 0) = false := by simpa using hs.2
        rw [e1, e2]
        have HP := Lib.hid hpos
        have HOD := Lib.hid hodd
        clear h0 ok hr e1 e2 hq ho hs hpos hodd
        go_enter Try.func32, Try.ntmps32
        go_wp2_with fail
        refine (goes_any H.out HO.out).mono ?_
        rw [hd]
        rintro e w1 ⟨rfl, hf1, bl1, bs1, hd1, hbl1, hbs1⟩
        have H1 := Lib.hid hd1
        have HT := Lib.hid (And.intro hf1 (And.intro hbl1 hbs1))
        obtain ⟨vl, vs, ev, h0, _, _, _, _, _, _, _, _, hev, _⟩ := hd1
        have c5 := h0.c5
        rw [show ev = false from (hev (.inr hd)).trans HOD.out] at c5
        clear hf1 hbl1 hbs1 h0 hev c0 c6 hd
        go_wp2_with fail
        refine (end_any H1.out).mono ?_
        rintro e w4 hD
        have hD4 := XDid.then_ HT.out.1 HT.out.2.1 HT.out.2.2 hD
        have he := hD4.1
        subst he
        have HE := Lib.hid hD4
        clear hD hD4
        go_wp2
        go_ret
        exact HE.out
      · have e1 : swp s l = ending (drw { s with log := [], syn := 0, snap := l }) := by rw [ending_fin]; simp only [swp, hq, if_true, swaps, if_neg hs]
        have e2 : swpE s l = endE (drw { s with log := [], syn := 0, snap := l }) := by rw [endE_fin]; simp only [swpE, hq, if_true]; rfl
        have heven : s.left = 1 → decide (s.stop % 2 = 0) = true := fun h1 => by
          rcases Int.emod_two_eq s.stop with h | h
          · simpa using h
          · exact absurd ⟨h1, by omega⟩ hs
        rw [e1, e2]
        have HEV := Lib.hid heven
        have hroom : (l.length : Int) ≤ s.room := by omega
        clear h0 hr e1 e2 hq ho hs heven
        go_enter Try.func32, Try.ntmps32
        go_wp2_with fail
        refine (goes_any H.out HO.out).mono ?_
        cases hd : decide (s.left = 1)
        · rintro e w1 ⟨rfl, hf1, bl1, bs1, hd1, hbl1, hbs1⟩
          have hdo : (drw s).off = false := hd
          clear c0 c6 hd
          have F1 := Lib.hid hf1
          have RB := Lib.hid (rd_foot HR.out hf1 (fun h0 g hg e => hvX (by rw [bvs_length] at h0; exact h0) g hg e))
          have BL1 := Lib.hid hbl1
          have BS1 := Lib.hid hbs1
          obtain ⟨vl, vs, ev, h0, h1, hb1, h2, hb2, h3, h4, h5, h6, h7, ok1⟩ := hd1
          have OK1 := Lib.hid ok1
          have H7 := Lib.hid h7
          have A0 := Lib.hid h0
          have hX1 := h0.lt
          have xal := ext_alloc w1 (.cells #[] 5)
          have hr0 := Lib.hid ((RB.out.ext xal).src bvs_one Try.underlying26)
          have ho0 := Lib.hid (World.ownsRow_made (w := w1) (base := w1.heap.size) (e := 5) (size := 1) #[] 0 (Nat.le_refl _) (by simp [maxLen]) rfl)
          have XA := Lib.hid xal
          clear h0 h1 h2 h3 h4 h5 h6 h7 hb1 hb2 hf1 hbl1 hbs1 xal ok1 hdo
          go_wp2_with (at_builtin; refine wpList_app_src _ rfl (.tmp 28) (.tmp 29) 26 26 rfl w1.heap.size 5 i0 (.int .u8 0) 1 Try.underlying26 hi hz0 hz1 hz2 rfl _ 0 [] rfl ho0.out _ (bvs l).length (bvs l) rfl hr0.out ?c3 ?c4 ?c5 ?_)
          case c3 => rw [bvs_length]; simp [maxLen]; omega
          case c4 => rw [bvs_length]; omega
          case c5 => simp
          intro vb w3 hown hgrow hat hfr
          have hown : w3.ownsRow w1.heap.size 5 1 vb (bvs l).length (bvs l) := by simpa using hown
          have hE3 : Ext w1 w3 := XA.out.trans' (grown_below hgrow XA.out.size (fun k hk => by simp [Value.ownBlock] at hk; omega))
          have hne : vb.ownBlock ≠ some X := rd_new_ne hown hX1
          have a3 := A0.out.foot (Foot.of_ext (S := fun _ => False) hE3) id
          have d1 := a3.c1
          have d2 := a3.c2
          have d3 := a3.c3
          have f1 := a3.fr 1
          have f2 := a3.fr 2
          have f3 := a3.fr 3
          have hk : Foot (fun k => k = X) w3 (((w3.setCell ⟨X, 3, none⟩ vb).setCell ⟨X, 1, none⟩ (.slice none 0 0)).setCell ⟨X, 2, none⟩ (.int .i64 0)) := xset3 _ _ _ _ _ _ _ _
          have HD : XDk (((w3.setCell ⟨X, 3, none⟩ vb).setCell ⟨X, 1, none⟩ (.slice none 0 0)).setCell ⟨X, 2, none⟩ (.int .i64 0)) X none vb.ownBlock (drw { s with log := [], syn := 0, snap := l }) := by
            refine ⟨.slice none 0 0, vb, ev, XAt.set (vl := .slice none 0 0) (vs := vb) (ev := ev) (s := drw s) (XAt.set (vl := vl) (vs := vb) (ev := ev) (s := drw s) (XAt.set (vl' := vl) (vs' := vb) (ev' := ev) (s' := drw s) a3 3 vb (by simp)) 1 _ (by simp)) 2 _ (by simp [drw]), Rd.nil _, rfl, (Rd.of_own hown).foot hk (fun g hg e => hne (by rw [hg, e])), rfl, by simp, hne, by simp, fun k hk => ?_, H7.out, ?_⟩
            · simpa [World.setCell] using (hown.lt k hk).2
            · obtain ⟨h1, h2, h3, h4, h5, h6, h7, h8, h9⟩ := OK1.out
              refine ⟨h1, h2, ?_, by simp [drw], by simp [drw], h6, h7, h8, h9⟩
              simp only [drw, List.length_nil]; omega
          have HD := Lib.hid HD
          have HF := Lib.hid (show Foot (fun k => k = X) w _ from (F1.out.trans (Foot.of_ext (S := fun k => k = X) hE3) (fun _ _ h => h)).trans hk (fun _ _ h => h))
          have HL := Lib.hid (show ∀ k, vb.ownBlock = some k → bs = some k ∨ w.heap.size ≤ k from fun k e => .inr (Nat.le_trans F1.out.size (hown.lt k e).1))
          obtain ⟨Ab, nb, cb, rfl⟩ : ∃ A n c, vb = .slice A n c := by
            obtain ⟨A, c, h, _⟩ := (Rd.of_own hown).len
            exact ⟨A, _, c, h⟩
          clear hown hgrow hat hfr hE3 hne a3 hk
          go_wp2_with fail
          refine (end_any HD.out).mono ?_
          rintro e w4 hD
          have hD4 := XDid.then_ (bl := bl) HF.out (by simp) HL.out hD
          have he := hD4.1
          subst he
          have HE := Lib.hid hD4
          clear hD hD4
          go_wp2
          go_ret
          exact HE.out
        · rintro e w1 ⟨rfl, hf1, bl1, bs1, hd1, hbl1, hbs1⟩
          have hdo : (drw s).off = true := hd
          have hone : s.left = 1 := by simpa using hd
          have c5 : w1.cell? ⟨X, 5, none⟩ = some (.bool true) := by
            obtain ⟨vl, vs, ev, h0, _, _, _, _, _, _, _, _, hev, _⟩ := hd1
            rw [h0.c5, hev (.inr hdo)]
            exact congrArg (fun b => some (Value.bool b)) (HEV.out hone)
          clear c0 c6 hd hone
          have F1 := Lib.hid hf1
          have RB := Lib.hid (rd_foot HR.out hf1 (fun h0 g hg e => hvX (by rw [bvs_length] at h0; exact h0) g hg e))
          have BL1 := Lib.hid hbl1
          have BS1 := Lib.hid hbs1
          obtain ⟨vl, vs, ev, h0, h1, hb1, h2, hb2, h3, h4, h5, h6, h7, ok1⟩ := hd1
          have OK1 := Lib.hid ok1
          have H7 := Lib.hid h7
          have A0 := Lib.hid h0
          have hX1 := h0.lt
          have xal := ext_alloc w1 (.cells #[] 5)
          have hr0 := Lib.hid ((RB.out.ext xal).src bvs_one Try.underlying26)
          have ho0 := Lib.hid (World.ownsRow_made (w := w1) (base := w1.heap.size) (e := 5) (size := 1) #[] 0 (Nat.le_refl _) (by simp [maxLen]) rfl)
          have XA := Lib.hid xal
          clear h0 h1 h2 h3 h4 h5 h6 h7 hb1 hb2 hf1 hbl1 hbs1 xal ok1 hdo
          go_wp2_with (at_builtin; refine wpList_app_src _ rfl (.tmp 28) (.tmp 29) 26 26 rfl w1.heap.size 5 i0 (.int .u8 0) 1 Try.underlying26 hi hz0 hz1 hz2 rfl _ 0 [] rfl ho0.out _ (bvs l).length (bvs l) rfl hr0.out ?c3 ?c4 ?c5 ?_)
          case c3 => rw [bvs_length]; simp [maxLen]; omega
          case c4 => rw [bvs_length]; omega
          case c5 => simp
          intro vb w3 hown hgrow hat hfr
          have hown : w3.ownsRow w1.heap.size 5 1 vb (bvs l).length (bvs l) := by simpa using hown
          have hE3 : Ext w1 w3 := XA.out.trans' (grown_below hgrow XA.out.size (fun k hk => by simp [Value.ownBlock] at hk; omega))
          have hne : vb.ownBlock ≠ some X := rd_new_ne hown hX1
          have a3 := A0.out.foot (Foot.of_ext (S := fun _ => False) hE3) id
          have d1 := a3.c1
          have d2 := a3.c2
          have d3 := a3.c3
          have f1 := a3.fr 1
          have f2 := a3.fr 2
          have f3 := a3.fr 3
          have hk : Foot (fun k => k = X) w3 (((w3.setCell ⟨X, 3, none⟩ vb).setCell ⟨X, 1, none⟩ (.slice none 0 0)).setCell ⟨X, 2, none⟩ (.int .i64 0)) := xset3 _ _ _ _ _ _ _ _
          have HD : XDk (((w3.setCell ⟨X, 3, none⟩ vb).setCell ⟨X, 1, none⟩ (.slice none 0 0)).setCell ⟨X, 2, none⟩ (.int .i64 0)) X none vb.ownBlock (drw { s with log := [], syn := 0, snap := l }) := by
            refine ⟨.slice none 0 0, vb, ev, XAt.set (vl := .slice none 0 0) (vs := vb) (ev := ev) (s := drw s) (XAt.set (vl := vl) (vs := vb) (ev := ev) (s := drw s) (XAt.set (vl' := vl) (vs' := vb) (ev' := ev) (s' := drw s) a3 3 vb (by simp)) 1 _ (by simp)) 2 _ (by simp [drw]), Rd.nil _, rfl, (Rd.of_own hown).foot hk (fun g hg e => hne (by rw [hg, e])), rfl, by simp, hne, by simp, fun k hk => ?_, H7.out, ?_⟩
            · simpa [World.setCell] using (hown.lt k hk).2
            · obtain ⟨h1, h2, h3, h4, h5, h6, h7, h8, h9⟩ := OK1.out
              refine ⟨h1, h2, ?_, by simp [drw], by simp [drw], h6, h7, h8, h9⟩
              simp only [drw, List.length_nil]; omega
          have HD := Lib.hid HD
          have HF := Lib.hid (show Foot (fun k => k = X) w _ from (F1.out.trans (Foot.of_ext (S := fun k => k = X) hE3) (fun _ _ h => h)).trans hk (fun _ _ h => h))
          have HL := Lib.hid (show ∀ k, vb.ownBlock = some k → bs = some k ∨ w.heap.size ≤ k from fun k e => .inr (Nat.le_trans F1.out.size (hown.lt k e).1))
          obtain ⟨Ab, nb, cb, rfl⟩ : ∃ A n c, vb = .slice A n c := by
            obtain ⟨A, c, h, _⟩ := (Rd.of_own hown).len
            exact ⟨A, _, c, h⟩
          clear hown hgrow hat hfr hE3 hne a3 hk
          go_wp2_with fail
          refine (end_any HD.out).mono ?_
          rintro e w4 hD
          have hD4 := XDid.then_ (bl := bl) HF.out (by simp) HL.out hD
          have he := hD4.1
          subst he
          have HE := Lib.hid hD4
          clear hD hD4
          go_wp2
          go_ret
          exact HE.out
  · have hq : refusal s l.length = 17 := by unfold refusal; rw [ho, if_pos rfl]
    have e1 : swp s l = s := by simp [swp, hq]
    have e2 : swpE s l = 17 := by simp [swpE, hq]
    rw [e1, e2]
    rw [ho] at c6
    have HD := Lib.hid (XDid.same H.out (Ext.refl w) (.int .i64 17))
    clear h0 ok hr e1 e2 hq ho c0
    go_enter Try.func32, Try.ntmps32
    go_wp2
    go_ret
    exact HD.out


theorem rd_front {w : World} {A : Option Addr} {n c k : Nat} {xs : List Value} (h : Rd w (.slice A n c) xs) (hk : k ≤ n) : Rd w (.slice A k c) (xs.take k) := by
  obtain ⟨A', c', e, h1, h2, h3⟩ := h
  injection e with e1 e2 e3
  subst e1 e3
  refine ⟨A, c, by rw [List.length_take]; congr 1; omega, by rw [List.length_take]; omega, h2, fun hn => ?_⟩
  obtain ⟨a, e, hb, hc⟩ := h3 (by rw [List.length_take] at hn; omega)
  exact ⟨a, e, hb, fun j u hu => hc j u (by rw [List.getElem?_take] at hu; split at hu; exact hu; cases hu)⟩

set_option maxHeartbeats 800000 in
theorem rCrash_any (h : XDk w X bl bs s) (p : Int) (hp : -9223372036854775808 ≤ p ∧ p ≤ 9223372036854775807) :
    Calls Try.prog 30 #[.pointer (some ⟨X, 0, none⟩), .int .i64 p] w (XDid w X bl bs (crs s p) (.int .i64 (kept s p))) := by
  have ok := h.ok
  have OK := Lib.hid ok
  obtain ⟨p1, p2⟩ := hp
  have b0 := ok.syn0
  have b1 := ok.syn1
  have b2 := ok.used
  have b3 := ok.room2
  obtain ⟨k, hk⟩ : ∃ k : Nat, kept s p = (k : Int) := ⟨(kept s p).toNat, by
    have := Int.emod_nonneg p (show (s.log.length : Int) - s.syn + 1 ≠ 0 by omega)
    unfold kept; omega⟩
  have hk2 : s.syn + k ≤ s.log.length := by
    have := Int.emod_lt_of_pos p (show (0 : Int) < (s.log.length : Int) - s.syn + 1 by omega)
    rw [← hk]; unfold kept; omega
  obtain ⟨m, hm⟩ : ∃ m : Nat, s.syn + (k : Int) = (m : Int) := ⟨(s.syn + k).toNat, by omega⟩
  have hmn : (s.syn + (k : Int)).toNat = m := by omega
  have hcr : crs s p = { { { s with off := false, stop := 0, left := 0 } with log := s.log.take m } with syn := (m : Int) } := by
    have : (s.log.take m).length = m := by rw [List.length_take]; omega
    simp only [crs, hk, hmn, this]
  have hkk : p % ((s.log.length : Int) - s.syn + 1) = (k : Int) := hk
  rw [hcr, hk]
  obtain ⟨vl, vs, ev, h0, h1, hb1, h2, hb2, h3, h4, h5, h6, h7, _⟩ := h
  obtain ⟨A, c, rfl, hc, hcm⟩ := h1.len
  have hlb := bvs_length s.log
  rw [hlb] at hc h1 h0 hb1
  have c1 := h0.c1
  have c2 := h0.c2
  have c4 := h0.c4
  have c6 := h0.c6
  have ff := h0.fr
  have hz : X < w.heap.size := h0.lt
  have hmc : (m : Int) ≤ c := by omega
  have HD : ∀ wk, Ext w wk → XDid w X bl bs { { { s with off := false, stop := 0, left := 0 } with log := s.log.take m } with syn := (m : Int) } (.int .i64 (k : Int)) (.returned (.int .i64 (k : Int)))
      ((((wk.setCell ⟨X, 1, none⟩ (.slice A m c)).setCell ⟨X, 2, none⟩ (.int .i64 (m : Int))).setCell ⟨X, 6, none⟩ (.bool false)).setCell ⟨X, 4, none⟩ (.int .i64 0)) := by
    intro wk hx
    have a := h0.foot (Foot.of_ext (S := fun _ => False) hx) id
    have hlm : (s.log.take m).length = m := by rw [List.length_take]; omega
    have k4 : Foot (fun k => k = X) wk ((((wk.setCell ⟨X, 1, none⟩ (.slice A m c)).setCell ⟨X, 2, none⟩ (.int .i64 (m : Int))).setCell ⟨X, 6, none⟩ (.bool false)).setCell ⟨X, 4, none⟩ (.int .i64 0)) := (xset2 _ _ _ _ _ _).trans (xset2 _ _ _ _ _ _) (fun _ _ h => h)
    have hbl : (Value.slice A m c).ownBlock = bl := by rw [← hb1]; cases A <;> rfl
    refine XDid.mk (bl' := bl) (bs' := bs) (s' := { { { s with off := false, stop := 0, left := 0 } with log := s.log.take m } with syn := (m : Int) }) ((Foot.of_ext hx).trans k4 (fun _ _ h => h)) ⟨.slice A m c, vs, ev, ?_, ?_, hbl, ((h2.ext hx).foot k4 (fun g hg e => h4 (by rw [← hb2, hg, e]))), hb2, h3, h4, fun i hi => ?_, fun i hi => ?_, ?_, ?_⟩ (fun _ e => .inl e) (fun _ e => .inl e) _
    · exact XAt.set (vl := .slice A m c) (vs := vs) (ev := ev) (s := { s with syn := (m : Int), off := false }) (XAt.set (vl := .slice A m c) (vs := vs) (ev := ev) (s := { s with syn := (m : Int) }) (XAt.set (vl := .slice A m c) (vs := vs) (ev := ev) (s := s) (XAt.set (vl' := .slice A m c) (vs' := vs) (ev' := ev) (s' := s) a 1 _ (by first | rfl | simp)) 2 _ (by first | rfl | simp)) 6 _ (by first | rfl | simp)) 4 _ (by first | rfl | simp [lft])
    · have hr := (rd_front (h1.ext hx) (k := m) (by omega)).foot k4 (fun g hg e => h3 (by rw [← hbl, hg, e]))
      rw [show (bvs s.log).take m = bvs (s.log.take m) by simp [bvs, List.map_take]] at hr
      exact hr
    · have := h5 i hi
      have := hx.size
      simp only [World.setCell, Array.size_modify]; omega
    · have := h6 i hi
      have := hx.size
      simp only [World.setCell, Array.size_modify]; omega
    · intro h; rcases h with h | h <;> simp at h
    · obtain ⟨h1, h2, h3, h4, h5, h6, h7, h8, h9⟩ := OK.out
      refine ⟨h1, h2, ?_, ?_, ?_, by simp, by simp, by simp, by simp⟩ <;> simp only [hlm] <;> omega
  have HD := Lib.hid HD
  have hw : IntKind.i64.wrap (s.syn + k) = (m : Int) := by rw [hm, IntWalk.i64_in _ (by omega)]
  have HM := Lib.hid hm
  have hn1 : (((s.log.length : Int) - s.syn + 1) == 0) = false := by simp; omega
  have l1 : p.tmod ((s.log.length : Int) - s.syn + 1) < (s.log.length : Int) - s.syn + 1 := Int.tmod_lt_of_pos p (by omega)
  have l2 : -((s.log.length : Int) - s.syn + 1) < p.tmod ((s.log.length : Int) - s.syn + 1) := by have := Int.lt_tmod_of_pos p (b := (s.log.length : Int) - s.syn + 1) (by omega); omega
  clear h0 h1 h2 h3 h4 h5 h6 h7 hb1 hb2 ok hcr hk hmn hlb hm
  by_cases hneg : p.tmod ((s.log.length : Int) - s.syn + 1) < 0
  · skip
    have hsum : p.tmod ((s.log.length : Int) - s.syn + 1) + ((s.log.length : Int) - s.syn + 1) = (k : Int) := by rw [← emod_neg (by omega) hneg]; exact hkk
    clear hkk
    cases A with
    | none =>
        go_enter Try.func30, Try.ntmps30
        go_wp2
        go_quiet (fail)
        have xq : Below w.heap.size w (w.drewN nq) := ext_drewN w nq
        go_wp2
        refine at_world (fun W0 hW0 => ?_)
        have hB0 : Below w.heap.size w W0 := by rw [hW0]; first | (with_reducible assumption) | (go_grown; done)
        have cc0 : W0.cell? ⟨X, 1, none⟩ = some (.slice none s.log.length c) := by rw [hW0]; first | (with_reducible assumption) | (simp [go_sem]; done) | (simp [go_sem, *]; done)
        have cc1 : W0.cell? ⟨X, 2, none⟩ = some (.int .i64 s.syn) := by rw [hW0]; first | (with_reducible assumption) | (simp [go_sem]; done) | (simp [go_sem, *]; done)
        have cc2 : W0.cell? ⟨X, 4, none⟩ = some (.int .i64 (lft s.left)) := by rw [hW0]; first | (with_reducible assumption) | (simp [go_sem]; done) | (simp [go_sem, *]; done)
        have cc3 : W0.cell? ⟨X, 6, none⟩ = some (.bool s.off) := by rw [hW0]; first | (with_reducible assumption) | (simp [go_sem]; done) | (simp [go_sem, *]; done)
        have zz0 : X < W0.heap.size := by rw [hW0]; first | (with_reducible assumption) | go_size
        have ff0 : ∀ o, W0.frozen? ⟨X, o, none⟩ = false := by intro o; rw [hW0]; first | (simp [go_sem]; done) | (simp [go_sem, *]; done)
        have HC := Lib.hid (fun (w' : World) (h : Ext W0 w') => (⟨h.cell cc0, h.cell cc1, h.cell cc2, h.cell cc3, Nat.lt_of_lt_of_le zz0 h.size, (fun o => h.free zz0 (ff0 o)), h.from hB0 hB0.size, Nat.le_trans hB0.size h.size⟩ : w'.cell? ⟨X, 1, none⟩ = some (.slice none s.log.length c) ∧ w'.cell? ⟨X, 2, none⟩ = some (.int .i64 s.syn) ∧ w'.cell? ⟨X, 4, none⟩ = some (.int .i64 (lft s.left)) ∧ w'.cell? ⟨X, 6, none⟩ = some (.bool s.off) ∧ X < w'.heap.size ∧ (∀ o, w'.frozen? ⟨X, o, none⟩ = false) ∧ Below w.heap.size w w' ∧ w.heap.size ≤ w'.heap.size))
        clear hW0 hB0 cc0 cc1 cc2 cc3 zz0 ff0
        refine wp_region_lex 14 (by kernel_rfl) (by kernel_rfl) (fun _ _ _ _ _ h => h) ?_
        simp only [List.take_succ_cons, List.take_zero, List.drop_succ_cons, List.drop_zero]
        repeat first | (refine seq_take ?_ (by rfl) (fun wk k1 => ?_) ?_; rotate_left; (have hcc := HC.out wk k1; go_simp; first | exact OkX.val); simp only [Act.put, List.setIfInBounds_toArray, List.set_cons_zero, List.set_cons_succ]) | (refine seq_skip (by rfl) ?_; simp only [Act.put, List.setIfInBounds_toArray, List.set_cons_zero, List.set_cons_succ])
        refine seq_nil (fun wk k1 => ?_)
        obtain ⟨c0, c1, c2, c3, z0, f0, hB, hs⟩ := HC.out wk k1
        clear HC
        go_wp2
        go_ret
        exact HD.out _ (by assumption)
    | some a =>
        go_enter Try.func30, Try.ntmps30
        go_wp2
        go_quiet (fail)
        have xq : Below w.heap.size w (w.drewN nq) := ext_drewN w nq
        go_wp2
        refine at_world (fun W0 hW0 => ?_)
        have hB0 : Below w.heap.size w W0 := by rw [hW0]; first | (with_reducible assumption) | (go_grown; done)
        have cc0 : W0.cell? ⟨X, 1, none⟩ = some (.slice (some a) s.log.length c) := by rw [hW0]; first | (with_reducible assumption) | (simp [go_sem]; done) | (simp [go_sem, *]; done)
        have cc1 : W0.cell? ⟨X, 2, none⟩ = some (.int .i64 s.syn) := by rw [hW0]; first | (with_reducible assumption) | (simp [go_sem]; done) | (simp [go_sem, *]; done)
        have cc2 : W0.cell? ⟨X, 4, none⟩ = some (.int .i64 (lft s.left)) := by rw [hW0]; first | (with_reducible assumption) | (simp [go_sem]; done) | (simp [go_sem, *]; done)
        have cc3 : W0.cell? ⟨X, 6, none⟩ = some (.bool s.off) := by rw [hW0]; first | (with_reducible assumption) | (simp [go_sem]; done) | (simp [go_sem, *]; done)
        have zz0 : X < W0.heap.size := by rw [hW0]; first | (with_reducible assumption) | go_size
        have ff0 : ∀ o, W0.frozen? ⟨X, o, none⟩ = false := by intro o; rw [hW0]; first | (simp [go_sem]; done) | (simp [go_sem, *]; done)
        have HC := Lib.hid (fun (w' : World) (h : Ext W0 w') => (⟨h.cell cc0, h.cell cc1, h.cell cc2, h.cell cc3, Nat.lt_of_lt_of_le zz0 h.size, (fun o => h.free zz0 (ff0 o)), h.from hB0 hB0.size, Nat.le_trans hB0.size h.size⟩ : w'.cell? ⟨X, 1, none⟩ = some (.slice (some a) s.log.length c) ∧ w'.cell? ⟨X, 2, none⟩ = some (.int .i64 s.syn) ∧ w'.cell? ⟨X, 4, none⟩ = some (.int .i64 (lft s.left)) ∧ w'.cell? ⟨X, 6, none⟩ = some (.bool s.off) ∧ X < w'.heap.size ∧ (∀ o, w'.frozen? ⟨X, o, none⟩ = false) ∧ Below w.heap.size w w' ∧ w.heap.size ≤ w'.heap.size))
        clear hW0 hB0 cc0 cc1 cc2 cc3 zz0 ff0
        refine wp_region_lex 14 (by kernel_rfl) (by kernel_rfl) (fun _ _ _ _ _ h => h) ?_
        simp only [List.take_succ_cons, List.take_zero, List.drop_succ_cons, List.drop_zero]
        repeat first | (refine seq_take ?_ (by rfl) (fun wk k1 => ?_) ?_; rotate_left; (have hcc := HC.out wk k1; go_simp; first | exact OkX.val); simp only [Act.put, List.setIfInBounds_toArray, List.set_cons_zero, List.set_cons_succ]) | (refine seq_skip (by rfl) ?_; simp only [Act.put, List.setIfInBounds_toArray, List.set_cons_zero, List.set_cons_succ])
        refine seq_nil (fun wk k1 => ?_)
        obtain ⟨c0, c1, c2, c3, z0, f0, hB, hs⟩ := HC.out wk k1
        clear HC
        go_wp2
        go_ret
        exact HD.out _ (by assumption)
  · skip
    have hsum : p.tmod ((s.log.length : Int) - s.syn + 1) = (k : Int) := by rw [← emod_pos (by omega) hneg]; exact hkk
    clear hkk
    cases A with
    | none =>
        go_enter Try.func30, Try.ntmps30
        go_wp2
        go_quiet (fail)
        have xq : Below w.heap.size w (w.drewN nq) := ext_drewN w nq
        go_wp2
        refine at_world (fun W0 hW0 => ?_)
        have hB0 : Below w.heap.size w W0 := by rw [hW0]; first | (with_reducible assumption) | (go_grown; done)
        have cc0 : W0.cell? ⟨X, 1, none⟩ = some (.slice none s.log.length c) := by rw [hW0]; first | (with_reducible assumption) | (simp [go_sem]; done) | (simp [go_sem, *]; done)
        have cc1 : W0.cell? ⟨X, 2, none⟩ = some (.int .i64 s.syn) := by rw [hW0]; first | (with_reducible assumption) | (simp [go_sem]; done) | (simp [go_sem, *]; done)
        have cc2 : W0.cell? ⟨X, 4, none⟩ = some (.int .i64 (lft s.left)) := by rw [hW0]; first | (with_reducible assumption) | (simp [go_sem]; done) | (simp [go_sem, *]; done)
        have cc3 : W0.cell? ⟨X, 6, none⟩ = some (.bool s.off) := by rw [hW0]; first | (with_reducible assumption) | (simp [go_sem]; done) | (simp [go_sem, *]; done)
        have zz0 : X < W0.heap.size := by rw [hW0]; first | (with_reducible assumption) | go_size
        have ff0 : ∀ o, W0.frozen? ⟨X, o, none⟩ = false := by intro o; rw [hW0]; first | (simp [go_sem]; done) | (simp [go_sem, *]; done)
        have HC := Lib.hid (fun (w' : World) (h : Ext W0 w') => (⟨h.cell cc0, h.cell cc1, h.cell cc2, h.cell cc3, Nat.lt_of_lt_of_le zz0 h.size, (fun o => h.free zz0 (ff0 o)), h.from hB0 hB0.size, Nat.le_trans hB0.size h.size⟩ : w'.cell? ⟨X, 1, none⟩ = some (.slice none s.log.length c) ∧ w'.cell? ⟨X, 2, none⟩ = some (.int .i64 s.syn) ∧ w'.cell? ⟨X, 4, none⟩ = some (.int .i64 (lft s.left)) ∧ w'.cell? ⟨X, 6, none⟩ = some (.bool s.off) ∧ X < w'.heap.size ∧ (∀ o, w'.frozen? ⟨X, o, none⟩ = false) ∧ Below w.heap.size w w' ∧ w.heap.size ≤ w'.heap.size))
        clear hW0 hB0 cc0 cc1 cc2 cc3 zz0 ff0
        refine wp_region_lex 14 (by kernel_rfl) (by kernel_rfl) (fun _ _ _ _ _ h => h) ?_
        simp only [List.take_succ_cons, List.take_zero, List.drop_succ_cons, List.drop_zero]
        repeat first | (refine seq_take ?_ (by rfl) (fun wk k1 => ?_) ?_; rotate_left; (have hcc := HC.out wk k1; go_simp; first | exact OkX.val); simp only [Act.put, List.setIfInBounds_toArray, List.set_cons_zero, List.set_cons_succ]) | (refine seq_skip (by rfl) ?_; simp only [Act.put, List.setIfInBounds_toArray, List.set_cons_zero, List.set_cons_succ])
        refine seq_nil (fun wk k1 => ?_)
        obtain ⟨c0, c1, c2, c3, z0, f0, hB, hs⟩ := HC.out wk k1
        clear HC
        go_wp2
        go_ret
        exact HD.out _ (by assumption)
    | some a =>
        go_enter Try.func30, Try.ntmps30
        go_wp2
        go_quiet (fail)
        have xq : Below w.heap.size w (w.drewN nq) := ext_drewN w nq
        go_wp2
        refine at_world (fun W0 hW0 => ?_)
        have hB0 : Below w.heap.size w W0 := by rw [hW0]; first | (with_reducible assumption) | (go_grown; done)
        have cc0 : W0.cell? ⟨X, 1, none⟩ = some (.slice (some a) s.log.length c) := by rw [hW0]; first | (with_reducible assumption) | (simp [go_sem]; done) | (simp [go_sem, *]; done)
        have cc1 : W0.cell? ⟨X, 2, none⟩ = some (.int .i64 s.syn) := by rw [hW0]; first | (with_reducible assumption) | (simp [go_sem]; done) | (simp [go_sem, *]; done)
        have cc2 : W0.cell? ⟨X, 4, none⟩ = some (.int .i64 (lft s.left)) := by rw [hW0]; first | (with_reducible assumption) | (simp [go_sem]; done) | (simp [go_sem, *]; done)
        have cc3 : W0.cell? ⟨X, 6, none⟩ = some (.bool s.off) := by rw [hW0]; first | (with_reducible assumption) | (simp [go_sem]; done) | (simp [go_sem, *]; done)
        have zz0 : X < W0.heap.size := by rw [hW0]; first | (with_reducible assumption) | go_size
        have ff0 : ∀ o, W0.frozen? ⟨X, o, none⟩ = false := by intro o; rw [hW0]; first | (simp [go_sem]; done) | (simp [go_sem, *]; done)
        have HC := Lib.hid (fun (w' : World) (h : Ext W0 w') => (⟨h.cell cc0, h.cell cc1, h.cell cc2, h.cell cc3, Nat.lt_of_lt_of_le zz0 h.size, (fun o => h.free zz0 (ff0 o)), h.from hB0 hB0.size, Nat.le_trans hB0.size h.size⟩ : w'.cell? ⟨X, 1, none⟩ = some (.slice (some a) s.log.length c) ∧ w'.cell? ⟨X, 2, none⟩ = some (.int .i64 s.syn) ∧ w'.cell? ⟨X, 4, none⟩ = some (.int .i64 (lft s.left)) ∧ w'.cell? ⟨X, 6, none⟩ = some (.bool s.off) ∧ X < w'.heap.size ∧ (∀ o, w'.frozen? ⟨X, o, none⟩ = false) ∧ Below w.heap.size w w' ∧ w.heap.size ≤ w'.heap.size))
        clear hW0 hB0 cc0 cc1 cc2 cc3 zz0 ff0
        refine wp_region_lex 14 (by kernel_rfl) (by kernel_rfl) (fun _ _ _ _ _ h => h) ?_
        simp only [List.take_succ_cons, List.take_zero, List.drop_succ_cons, List.drop_zero]
        repeat first | (refine seq_take ?_ (by rfl) (fun wk k1 => ?_) ?_; rotate_left; (have hcc := HC.out wk k1; go_simp; first | exact OkX.val); simp only [Act.put, List.setIfInBounds_toArray, List.set_cons_zero, List.set_cons_succ]) | (refine seq_skip (by rfl) ?_; simp only [Act.put, List.setIfInBounds_toArray, List.set_cons_zero, List.set_cons_succ])
        refine seq_nil (fun wk k1 => ?_)
        obtain ⟨c0, c1, c2, c3, z0, f0, hB, hs⟩ := HC.out wk k1
        clear HC
        go_wp2
        go_ret
        exact HD.out _ (by assumption)

end
end Go.Proofs.Ytpinpljmabhdhaa
