/- dispatchref4.Scan. -/
import Derived.Test.YtcofjimjbobdgaaFrmC
import Derived.Test.YtcofjimjbobdgaaFrmE
import Derived.Test.YtcofjimjbobdgaaMod
namespace Go.Proofs.Ytcofjimjbobdgaa
open Go.RowKit

structure RScanAt (l : List UInt8) (w wr : World) (acc : List (List UInt8)) (vl vn : Value) : Prop where
  rows : RowsAt wr w.heap.size vl acc
  num : vn = .int .i64 (bulk acc : Nat)
  so : scan l = acc ++ scan (l.drop (bulk acc))
  fits : bulk acc ≤ l.length
  ext : Ext w wr
theorem RScanAt.done {l : List UInt8} {w wr w' : World} {acc : List (List UInt8)} {vl : Value} {A : Option Addr} {n c b : Nat} (h : RScanAt l w wr acc (.slice A n c) vl) (hq : fst? (l.drop (bulk acc)) = none) (hb : b = bulk acc) (k : Ext wr w') :
    Scanned (scan l) w (.returned (.tuple #[.slice A n c, .int .i64 (b : Nat)])) w' := by
  have e : scan l = acc := by rw [h.so, scan_none hq, List.append_nil]
  exact ⟨_, _, _, by rw [e, hb], by rw [e]; exact h.rows.rd.ext k, h.ext.trans k⟩

set_option maxHeartbeats 3200000 in
theorem rScan_any (v : Value) (l : List UInt8) (w : World) (hr : Rd w v (bvs l)) (hl : l.length ≤ 100000000) :
    Calls Try.prog 17 #[v] w (Scanned (scan l) w) := by
  obtain ⟨i0, hi, hz0, hz1, hz2⟩ := info_parts Try.infoU8
  obtain ⟨j0, hj, hy0, hy1, hy2⟩ := info_parts Try.infoS
  have HR := Lib.hid hr
  obtain ⟨A, N, c, rfl, hN, hc1, hc2, hcell⟩ := hr.open
  have HN := Lib.hid hN
  have HL := Lib.hid hl
  clear hcell hr hN hl
  go_enter Try.func17, Try.ntmps17
  go_wp2
  go_loopw [4, 5] (fun vl vn wr => ∃ acc, RScanAt l w wr acc vl vn) (fun _ n _ => l.length - (intOf n).toNat)
  case atStart => exact ⟨[], ⟨RowsAt.nil _ _, rfl, by simp [bulk], by simp [bulk], Ext.refl w⟩⟩
  case round =>
    obtain ⟨acc, hS⟩ := hrel
    obtain rfl := hS.num
    obtain ⟨A3, n3, c3, rfl⟩ := Rd.shape (hS.rows.rd).choose_spec.1
    have hbb := hS.fits
    have hbg := bulk_ge acc
    have hll := HL.out
    have hNl := HN.out
    have H := Lib.hid hS
    obtain ⟨b, hb⟩ : ∃ b, b = bulk acc := ⟨_, rfl⟩
    rw [← hb] at hbb hbg H ⊢
    have B := Lib.hid hb
    have k1 : (b : Int) ≤ 100000000 := by omega
    have k2 : (N : Int) ≤ 100000000 := by omega
    by_cases h8 : (b : Int) + 8 ≤ (N : Int)
    · have hsi : ∀ (W : World) (kl : IntKind), (Instr.slice 22 (.slice A N c) (some (.int kl (b : Int))) none none).run Try.prog W = .ok (.slice (subA A b c) (N - b) (c - b)) W := fun W kl => sl_l Try.underlying22 hi hz1 (by omega) W kl
      have hL8 : 8 ≤ (l.drop b).length := by simp; omega
      have hq := fst?_parts hL8
      have G0 := Lib.hid (get_any _ (l.drop b) wr (by have := (HR.out.ext hS.ext).subl (l := b) (by omega); rwa [bvs_drop] at this) (by omega))
      have G4 := fun W (h : Ext wr W) => get_any _ (l.drop (b + 4)) W (by have := (HR.out.ext (hS.ext.trans h)).subl (l := b + 4) (by omega); rwa [bvs_drop] at this) (by simp; omega)
      have hn4 := va_lt ((l.drop b).take 4)
      rw [show ((l.drop b).take 4).length = 4 by rw [List.length_take]; omega] at hn4
      simp only [Nat.reducePow] at hn4
      have e4 : (l.drop b).drop 4 = l.drop (b + 4) := by rw [List.drop_drop]
      have e8 : (l.drop b).drop 8 = l.drop (b + 8) := by rw [List.drop_drop]
      have eN : (l.drop b).length - 8 = N - (b + 8) := by rw [List.length_drop]; omega
      rw [e4, e8, eN] at hq
      generalize va ((l.drop b).take 4) = x at *
      have hw : IntKind.i64.wrap (x : Int) = (x : Int) := IntWalk.i64_in _ (by omega)
      have HQ := Lib.hid hq
      have G4' := Lib.hid G4
      clear hS hq G4 hL8 e4 e8 eN
      by_cases h1 : 4000 < x
      · have HD := Lib.hid (fun w' k => RScanAt.done (w' := w') H.out (by rw [← B.out, HQ.out, if_pos (.inl h1)]) B.out k)
        have h1 : (4000 : Int) < (x : Int) := by omega
        clear hNl hb hbb hll hbg
        go_wp2_with fail
        (with_reducible refine (G0.out).mono ?_)
        rintro e W ⟨rfl, nq0, hW⟩
        have HW := Lib.hid (hW ▸ ext_drewN wr nq0 : Ext wr W)
        clear hW
        go_wp2
        go_quiet (fail)
        go_wp2
        go_ret2
        exact HD.out _ (HW.out.trans (ext_drewN _ _))
      · by_cases h2 : N - (b + 8) < x
        · have HD := Lib.hid (fun w' k => RScanAt.done (w' := w') H.out (by rw [← B.out, HQ.out, if_pos (.inr h2)]) B.out k)
          have h2 : (N : Int) < (b : Int) + 8 + (x : Int) := by omega
          have h1 : decide ((4000 : Int) < (x : Int)) = false := by simp; omega
          clear hNl hb hbb hll hbg
          go_wp2_with fail
          (with_reducible refine (G0.out).mono ?_)
          rintro e W ⟨rfl, nq0, hW⟩
          have HW := Lib.hid (hW ▸ ext_drewN wr nq0 : Ext wr W)
          clear hW
          go_wp2
          go_quiet (fail)
          go_wp2
          go_ret2
          exact HD.out _ (HW.out.trans (ext_drewN _ _))
        · have HQ2 := Lib.hid (show fst? (l.drop b) = if crc ((l.drop (b + 8)).take x) = va ((l.drop (b + 4)).take 4) then some ((l.drop (b + 8)).take x) else none by rw [HQ.out, if_neg (by omega)])
          have h2' : decide ((N : Int) < (b : Int) + 8 + (x : Int)) = false := by simp; omega
          have h1' : decide ((4000 : Int) < (x : Int)) = false := by simp; omega
          have hx4 : (x : Int) ≤ 4000 := by omega
          have hs4 : ∀ (W : World) (kl : IntKind), (Instr.slice 22 (.slice A N c) (some (.int kl ((b : Int) + 4))) none none).run Try.prog W = .ok (.slice (subA A (b + 4) c) (N - (b + 4)) (c - (b + 4))) W := fun W kl => by
            have := sl_l (A := A) (n := N) (c := c) (l := b + 4) Try.underlying22 hi hz1 (by omega) W kl
            rw [← this]; simp
          have hs8 : ∀ (W : World) (kl kh : IntKind), (Instr.slice 22 (.slice A N c) (some (.int kl ((b : Int) + 8))) (some (.int kh ((b : Int) + 8 + (x : Int)))) none).run Try.prog W = .ok (.slice (subA A (b + 8) c) x (c - (b + 8))) W := fun W kl kh => by
            have := sl_lh (A := A) (n := N) (c := c) (l := b + 8) (h := b + 8 + x) Try.underlying22 hi hz1 (by omega) (by omega) W kl kh
            rw [show b + 8 + x - (b + 8) = x from by omega] at this
            rw [← this]; simp
          have hrec : ∀ w', Ext wr w' → Rd w' (.slice (subA A (b + 8) c) x (c - (b + 8))) (bvs ((l.drop (b + 8)).take x)) := fun w' k => by
            have := (HR.out.ext (H.out.ext.trans k)).sub (l := b + 8) (k := x) (by omega)
            rwa [bvs_drop, bvs_take] at this
          have hrl : ((l.drop (b + 8)).take x).length = x := by simp; omega
          have HREC := Lib.hid hrec
          have HRL := Lib.hid hrl
          have hy4 := va_lt ((l.drop (b + 4)).take 4)
          rw [show ((l.drop (b + 4)).take 4).length = 4 by rw [List.length_take, List.length_drop]; omega] at hy4
          simp only [Nat.reducePow] at hy4
          clear hrec hrl
          generalize (l.drop (b + 8)).take x = rec at *
          generalize va ((l.drop (b + 4)).take 4) = y at *
          have GC := Lib.hid (fun W (h : Ext wr W) k => rCrc_any _ rec (W.drewN k) (HREC.out _ (h.trans (ext_drewN _ _))))
          have GY := Lib.hid (fun W (h : Ext wr W) k => Calls.quiet_of (n := k) (G4'.out (W.drewN k) (h.trans (ext_drewN _ _))))
          have hbx : b + (8 + x) ≤ l.length := by omega
          have WA := Lib.hid (show IntKind.i64.wrap ((b : Int) + 8) = (b : Int) + 8 from IntWalk.i64_in _ (by omega))
          have WB := Lib.hid (show IntKind.i64.wrap ((b : Int) + 8 + (x : Int)) = (b : Int) + 8 + (x : Int) from IntWalk.i64_in _ (by omega))
          have WC := Lib.hid (show IntKind.i64.wrap ((b : Int) + 4) = (b : Int) + 4 from IntWalk.i64_in _ (by omega))
          by_cases h3 : crc rec = y
          · subst h3
            have HQ3 := Lib.hid (show fst? (l.drop b) = some rec by rw [HQ2.out, if_pos rfl])
            have HBX := Lib.hid hbx
            clear hNl hb hbb hll hbx hn4 hy4
            go_wp2_with fail
            (with_reducible refine (G0.out).mono ?_)
            rintro e W ⟨rfl, nq0, hW⟩
            have HW := Lib.hid (hW ▸ ext_drewN wr nq0 : Ext wr W)
            clear hW
            go_wp2
            have wa := WA.out
            have wb := WB.out
            have wc := WC.out
            refine wp_region_quiet_lit (by kernel_rfl) (by kernel_rfl) ?_
            repeat (go_big_quiet_step ((go_at_call 15; (with_reducible exact quiet_same (GC.out _ HW.out _)))))
            go_big_quiet_step ((go_at_call 24; exact GY.out _ HW.out _))
            repeat (go_big_quiet_step (fail))
            refine wpQuiet_nil ?_
            intro _ hw'
            obtain ⟨nq, hw''⟩ := hw'
            subst hw''
            have hx2 := HW.out.trans (ext_drewN W nq)
            generalize W.drewN nq = W2 at *
            have HX2 := Lib.hid hx2
            clear hx2 HW
            have HO := Lib.hid (own_empty W2 W2.heap.size (Nat.le_refl _))
            have HS := Lib.hid ((HREC.out _ (HX2.out.trans (ext_alloc W2 (.cells #[] 5)))).src bvs_one Try.underlying22)
            rw [bvs_length, HRL.out] at HS
            go_wp2_with (at_builtin; refine wpList_app_src _ rfl (.tmp 46) (.tmp 54) 22 22 rfl W2.heap.size 5 i0 (.int .u8 0) 1 Try.underlying22 hi hz0 hz1 hz2 rfl _ 0 [] rfl HO.out _ x (bvs rec) rfl HS.out ?c3 ?c4 ?c5 ?_)
            case c3 => simp [maxLen]; omega
            case c4 => omega
            case c5 => simp
            intro u w3 hou hgrow hat' hfr'
            have hxu : Ext W2 w3 := (ext_alloc W2 (.cells #[] 5)).trans' (grown_below hgrow (by simp) (fun k hk => by simp [Value.ownBlock] at hk; omega))
            have hub : ∀ g, u.ownBlock = some g → (Value.slice A3 n3 c3).ownBlock ≠ some g ∧ g < w3.heap.size := by
              intro g hg
              have h1 := hou.lt g hg
              refine ⟨fun e => ?_, h1.2⟩
              obtain ⟨_, h2, _⟩ := H.out.rows
              have := (h2.lt g e).2
              have := HX2.out.size
              omega
            have hxw := HX2.out.trans (Ext.trans hxu (ext_alloc w3 (.cells #[u] 22)))
            obtain ⟨xs, ho, hxl, hxs⟩ := H.out.rows.ext hxw
            have HE2 := Lib.hid (H.out.ext.trans hxw)
            have hru := (Rd.of_own hou).ext (ext_alloc w3 (.cells #[u] 22))
            have HRU := Lib.hid hru
            have HUB := Lib.hid hub
            have HO2 := Lib.hid ho
            have HXL := Lib.hid hxl
            have HXS := Lib.hid hxs
            obtain ⟨A5, n5, c5, rfl⟩ := Rd.shape (Rd.of_own hou)
            clear hub ho hxl hxs hou hxu hgrow hat' hfr' hxw hru
            go_wp2_with (at_builtin; refine wpList_app_src _ rfl (.tmp 45) (.tmp 56) 28 28 rfl w.heap.size 22 j0 (.slice none 0 0) 24 Try.underlying28 hj hy0 hy1 hy2 rfl _ acc.length xs rfl HO2.out _ 1 _ rfl ((Rd.one _ _ _ _ _ rfl rfl).src ?d1 Try.underlying28) ?d3 ?d4 ?d5 ?_)
            case d1 => intro u hu; simp at hu; subst hu; rfl
            case d3 => simp [maxLen]; omega
            case d4 => omega
            case d5 => exact HE2.out.size
            intro v' w4 hown' hgrow hat' hfr'
            have hrow : RowsAt w4 w.heap.size v' (acc ++ [rec]) := RowsAt.snoc HO2.out HXL.out HXS.out HRU.out (fun g hg => ⟨(HUB.out g hg).1, by have := (HUB.out g hg).2; simp; omega⟩) hown' hgrow (by
              rcases hat' with e | e
              · exact .inl e
              · exact .inr fun k hk => by rw [e] at hk; injection hk with hk; simp at hk ⊢; omega)
            have hext : Ext w w4 := HE2.out.trans' (grown_below hgrow HE2.out.size (own_ge HO2.out (Nat.le_refl _)))
            have HS4 := Lib.hid (show RScanAt l w w4 (acc ++ [rec]) v' (.int .i64 ((b : Int) + 8 + (x : Int))) from
              ⟨hrow, by rw [bulk_snoc, ← B.out, HRL.out]; congr 1; omega, by rw [bulk_snoc, ← B.out, H.out.so, ← B.out, scan_some HQ3.out, List.drop_drop]; simp, by rw [bulk_snoc, ← B.out, HRL.out]; exact HBX.out, hext⟩)
            clear hown' hgrow hat' hfr' hrow hext HO2 HXL HXS HRU HUB
            go_wp2
            go_roundw
            case rel => exact ⟨_, HS4.out⟩
            case measure => simp [intOf]; have := HBX.out; omega
          · have h3' : (((crc rec : Nat) : Int) != (y : Int)) = true := by simp; omega
            have HD := Lib.hid (fun w' k => RScanAt.done (w' := w') H.out (by rw [← B.out, HQ2.out, if_neg h3]) B.out k)
            clear hNl hb hbb hll hbg h3
            go_wp2_with fail
            (with_reducible refine (G0.out).mono ?_)
            rintro e W ⟨rfl, nq0, hW⟩
            have HW := Lib.hid (hW ▸ ext_drewN wr nq0 : Ext wr W)
            clear hW
            go_wp2
            have wa := WA.out
            have wb := WB.out
            have wc := WC.out
            refine wp_region_quiet_lit (by kernel_rfl) (by kernel_rfl) ?_
            repeat (go_big_quiet_step ((go_at_call 15; (with_reducible exact quiet_same (GC.out _ HW.out _)))))
            go_big_quiet_step ((go_at_call 24; exact GY.out _ HW.out _))
            repeat (go_big_quiet_step (fail))
            refine wpQuiet_nil ?_
            intro _ hw'
            obtain ⟨nq, hw''⟩ := hw'
            subst hw''
            go_wp2
            go_ret2
            exact HD.out _ (HW.out.trans (ext_drewN _ _))
    · have HD := Lib.hid (fun w' k => RScanAt.done (w' := w') H.out (by rw [← B.out]; unfold fst?; rw [if_pos (by rw [List.length_drop]; omega)]) B.out k)
      clear hNl hb hbb hll hbg hS
      go_wp2
      go_ret2
      exact HD.out _ (Ext.refl _)

end Go.Proofs.Ytcofjimjbobdgaa
