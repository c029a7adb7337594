/- bytes.Clone; frames.Scan. -/
import Derived.Test.YtcofjimjbobdgaaFrmD
import Derived.Test.YtcofjimjbobdgaaRows2
import Derived.WalkSpells
namespace Go.Proofs.Ytcofjimjbobdgaa
open Go.RowKit

theorem Try.infoS : (Try.prog.info? 22).map (fun i => (i.zero, i.size, i.bytes)) = some (some (.slice none 0 0), 1, 24) := by kernel_rfl

/-- A row of the call's own; all that was there is as it was. -/
def Made (l : List UInt8) (w : World) (e : Ending) (w' : World) : Prop :=
  ∃ v', e = .returned v' ∧ w'.ownsRow w.heap.size 5 1 v' l.length (bvs l) ∧ Ext w w'

theorem own_empty (W : World) (B : Nat) (h : B ≤ W.heap.size) : (W.alloc (.cells #[] 5)).ownsRow B 5 1 (.slice (some ⟨W.heap.size, 0, none⟩) 0 0) 0 [] :=
  ⟨rfl, .inr ⟨W.heap.size, 0, #[], rfl, h, heap_alloc_new W _, Nat.le_refl _, by simp [maxLen], by simp, by simp⟩⟩

theorem Clone_any (v : Value) (l : List UInt8) (w : World) (hr : Rd w v (bvs l)) (hl : l.length ≤ 100000000) :
    Calls Try.prog 21 #[v] w (Made l w) := by
  obtain ⟨i0, hi, hz0, hz1, hz2⟩ := info_parts Try.infoU8
  have HR := Lib.hid hr
  obtain ⟨A, N, c, rfl, hN, hc1, hc2, hcell⟩ := hr.open
  cases A with
  | none =>
    have hN0 : l.length = 0 := by
      rcases Nat.eq_zero_or_pos N with h0 | h0
      · omega
      · obtain ⟨a, h, _⟩ := hcell h0; cases h
    have hl0 : l = [] := List.eq_nil_of_length_eq_zero hN0
    subst hl0
    have hn := fun (W : World) (n c n' c' : Nat) => Lib.run_eql_slice_nil (P := Try.prog) W 22 5 none n c n' c' Try.underlying22
    clear hcell hr hN hN0
    go_enter Try.func21, Try.ntmps21
    go_wp2
    go_ret
    exact ⟨_, rfl, World.ownsRow_nil w _ _ 1, Ext.refl w⟩
  | some a =>
    have hn := fun (W : World) (n c n' c' : Nat) => Lib.run_eql_slice_nil (P := Try.prog) W 22 5 (some a) n c n' c' Try.underlying22
    have HO := Lib.hid (own_empty w w.heap.size (Nat.le_refl _))
    have HS := Lib.hid ((HR.out.ext (ext_alloc w (.cells #[] 5))).src bvs_one Try.underlying22)
    rw [bvs_length] at HS
    clear hcell hr hN
    go_enter Try.func21, Try.ntmps21
    go_wp2_with (at_builtin; refine wpList_app_src _ rfl (.tmp 5) (.tmp 6) 22 22 rfl w.heap.size 5 i0 (.int .u8 0) 1 Try.underlying22 hi hz0 hz1 hz2 rfl _ 0 [] rfl HO.out _ l.length (bvs l) rfl HS.out ?c3 ?c4 ?c5 ?_)
    case c3 => simp [maxLen]; omega
    case c4 => omega
    case c5 => simp
    intro v' w3 hown' hgrow hat' hfr'
    have HE := Lib.hid ((ext_alloc w (.cells #[] 5)).trans' (grown_below hgrow (by simp) (fun k hk => by simp [Value.ownBlock] at hk; omega)))
    have HO := Lib.hid hown'
    obtain ⟨A3, n3, c3, rfl⟩ := Rd.shape (Rd.of_own hown')
    clear hown' hgrow hat' hfr'
    go_wp2
    go_ret
    exact ⟨_, rfl, by simpa using HO.out, HE.out⟩

/-- What 'first' answered of what is left. -/
def FH (w : World) (q : Option (List UInt8)) (vr vb : Value) : Prop := match q with
  | none => (∃ A n c, vr = .slice A n c) ∧ vb = .bool false
  | some r => ∃ A c, vr = .slice A r.length c ∧ vb = .bool true ∧ Rd w (.slice A r.length c) (bvs r)
theorem FH.ext {w w' : World} {q : Option (List UInt8)} {vr vb : Value} (h : FH w q vr vb) (k : Ext w w') : FH w' q vr vb := by
  cases q with
  | none => exact h
  | some r => obtain ⟨A, c, h1, h2, h3⟩ := h; exact ⟨A, c, h1, h2, h3.ext k⟩
theorem FAns.to {v : Value} {q : Option (List UInt8)} {w w' : World} {e : Ending} (h : FAns v q w e w') : ∃ A n c b, e = .returned (.tuple #[.slice A n c, .bool b]) ∧ FH w' q (.slice A n c) (.bool b) ∧ Ext w w' := by
  cases q with
  | none => obtain ⟨A, n, c, h1, h2⟩ := h; exact ⟨A, n, c, _, h1, ⟨⟨A, n, c, rfl⟩, rfl⟩, h2⟩
  | some r => obtain ⟨A, c, h1, h2, _, h3⟩ := h; exact ⟨A, _, c, _, h1, ⟨A, c, rfl, rfl, h2⟩, h3⟩

/-- The records, and how many bytes their frames have. -/
def Scanned (ls : List (List UInt8)) (w : World) (e : Ending) (w' : World) : Prop :=
  ∃ A n c, e = .returned (.tuple #[.slice A n c, .int .i64 (bulk ls : Nat)]) ∧ RdR w' (.slice A n c) ls ∧ Ext w w'

theorem bulk_ge (ls : List (List UInt8)) : ls.length ≤ bulk ls := by
  induction ls with
  | nil => simp
  | cons r ls ih => rw [bulk_cons]; simp; omega

/-- At the loop's head. -/
structure ScanAt (l : List UInt8) (w wr : World) (acc : List (List UInt8)) (vl vn vr vb : Value) : Prop where
  rows : RowsAt wr w.heap.size vl acc
  num : vn = .int .i64 (bulk acc : Nat)
  so : scan l = acc ++ scan (l.drop (bulk acc))
  fits : bulk acc ≤ l.length
  fh : FH wr (fst? (l.drop (bulk acc))) vr vb
  ext : Ext w wr

set_option maxHeartbeats 1600000 in
theorem Scan_any (v : Value) (l : List UInt8) (w : World) (hr : Rd w v (bvs l)) (hl : l.length ≤ 100000000) :
    Calls Try.prog 12 #[v] w (Scanned (scan l) w) := by
  obtain ⟨i0, hi, hz0, hz1, hz2⟩ := info_parts Try.infoU8
  obtain ⟨j0, hj, hy0, hy1, hy2⟩ := info_parts Try.infoS
  have HR := Lib.hid hr
  obtain ⟨A, N, c, rfl, hN, hc1, hc2, hcell⟩ := hr.open
  have HN := Lib.hid hN
  have HL := Lib.hid hl
  clear hcell hr hN hl
  go_enter Try.func12, Try.ntmps12
  go_wp2_with fail
  (with_reducible refine (fst_all _ l _ HR.out).mono ?_)
  rintro e w1 hA
  obtain ⟨A1, n1, c1, b1, rfl, hf, hx⟩ := hA.to
  have HF := Lib.hid hf
  have HX := Lib.hid hx
  clear hf hx hA
  go_wp2
  go_loopw [2, 3, 4, 5] (fun vl vn vr vb wr => ∃ acc, ScanAt l w wr acc vl vn vr vb) (fun _ n _ _ _ => l.length - (intOf n).toNat)
  case atStart => exact ⟨[], ⟨RowsAt.nil _ _, rfl, by simp [bulk], by simp [bulk], by simpa [bulk] using HF.out, HX.out⟩⟩
  case round =>
    obtain ⟨acc, hS⟩ := hrel
    obtain rfl := hS.num
    cases hq : fst? (l.drop (bulk acc)) with
    | none =>
      have hfh := hS.fh
      rw [hq] at hfh
      obtain ⟨⟨A2, n2, c2, rfl⟩, rfl⟩ := hfh
      obtain ⟨A3, n3, c3, rfl⟩ := Rd.shape (hS.rows.rd).choose_spec.1
      have e : scan l = acc := by rw [hS.so, scan_none hq, List.append_nil]
      have H := Lib.hid (show Scanned (scan l) w (.returned (.tuple #[.slice A3 n3 c3, .int .i64 (bulk acc : Nat)])) wr from ⟨_, _, _, by rw [e], by rw [e]; exact hS.rows.rd, hS.ext⟩)
      clear hS hq e
      go_wp2
      go_ret2
      exact H.out
    | some r =>
      have hfh := hS.fh
      rw [hq] at hfh
      obtain ⟨A2, c2, rfl, rfl, hrec⟩ := hfh
      have hso := hS.so
      rw [scan_some hq] at hso
      have hfit := fst?_some hq
      rw [List.length_drop] at hfit
      have hbb := hS.fits
      have hbg := bulk_ge acc
      have hll := HL.out
      obtain ⟨b, hb⟩ : ∃ b, b = bulk acc := ⟨_, rfl⟩
      rw [← hb] at hso hfit hbb hbg ⊢
      have B := Lib.hid hb
      have SO := Lib.hid (show scan l = (acc ++ [r]) ++ scan (l.drop (bulk (acc ++ [r]))) by rw [bulk_snoc, ← hb, hso, List.drop_drop]; simp)
      have H := Lib.hid hS
      obtain ⟨R, hR⟩ : ∃ R, R = r.length := ⟨_, rfl⟩
      rw [← hR] at hrec hfit ⊢
      have HR' := Lib.hid hR
      have hsl : ∀ (W : World) (kl : IntKind), (Instr.slice 22 (.slice A N c) (some (.int kl ((b : Int) + (8 + (R : Int))))) none none).run Try.prog W = .ok (.slice (subA A (b + (8 + R)) c) (N - (b + (8 + R))) (c - (b + (8 + R)))) W := fun W kl => by
        have := sl_l (A := A) (n := N) (c := c) (l := b + (8 + R)) Try.underlying22 hi hz1 (by have := HN.out; omega) W kl
        rw [← this]; simp
      have k1 : (b : Int) ≤ 100000000 := by omega
      have k2 : (R : Int) ≤ 100000000 := by omega
      have HREC := Lib.hid hrec
      have HFIT := Lib.hid hfit
      clear hS hq hso hb hR hrec hfit hbb hll
      go_wp2_with fail
      (with_reducible refine (Clone_any _ r _ HREC.out (by have := HFIT.out; have := HR'.out; omega)).mono ?_)
      rintro e w2 ⟨u, rfl, hou, hxu⟩
      have hub : ∀ g, u.ownBlock = some g → u2.ownBlock ≠ some g ∧ g < w2.heap.size := by
        intro g hg
        have h1 := hou.lt g hg
        refine ⟨fun e => ?_, h1.2⟩
        obtain ⟨_, h2, _⟩ := H.out.rows
        have := (h2.lt g e).2
        omega
      obtain ⟨xs, ho, hxl, hxs⟩ := H.out.rows.ext (hxu.trans (ext_alloc w2 (.cells #[u] 22)))
      have HE2 := Lib.hid (H.out.ext.trans (Ext.trans hxu (ext_alloc w2 (.cells #[u] 22))))
      have HRU := Lib.hid ((Rd.of_own hou).ext (ext_alloc w2 (.cells #[u] 22)))
      have HUB := Lib.hid hub
      have HO := Lib.hid ho
      have HXL := Lib.hid hxl
      have HXS := Lib.hid hxs
      obtain ⟨A5, n5, c5, rfl⟩ := Rd.shape (Rd.of_own hou)
      clear hub ho hxl hxs hou hxu
      go_wp2_with (at_builtin; refine wpList_app_src _ rfl (.tmp 12) (.tmp 15) 28 28 rfl w.heap.size 22 j0 (.slice none 0 0) 24 Try.underlying28 hj hy0 hy1 hy2 rfl _ acc.length xs rfl HO.out _ 1 _ rfl ((Rd.one _ _ _ _ _ rfl rfl).src ?c1 Try.underlying28) ?c3 ?c4 ?c5 ?_)
      case c1 => intro u hu; simp at hu; subst hu; rfl
      case c3 => simp [maxLen]; omega
      case c4 => omega
      case c5 => exact HE2.out.size
      intro v' w3 hown' hgrow hat' hfr'
      have hrow : RowsAt w3 w.heap.size v' (acc ++ [r]) := RowsAt.snoc HO.out HXL.out HXS.out HRU.out (fun g hg => ⟨(HUB.out g hg).1, by have := (HUB.out g hg).2; simp; omega⟩) hown' hgrow (by
        rcases hat' with e | e
        · exact .inl e
        · exact .inr fun k hk => by rw [e] at hk; injection hk with hk; simp at hk ⊢; omega)
      have hext : Ext w w3 := HE2.out.trans' (grown_below hgrow HE2.out.size (own_ge HO.out (Nat.le_refl _)))
      have HROW := Lib.hid hrow
      have HEXT := Lib.hid hext
      have HFST := Lib.hid (fst_all _ (l.drop (b + (8 + R))) w3 (by have := (HR.out.ext hext).subl (l := b + (8 + R)) (by have := HFIT.out; have := HN.out; omega); rwa [bvs_drop] at this))
      clear hown' hgrow hat' hfr' hrow hext HO HXL HXS HRU HUB
      go_wp2_with fail
      (with_reducible refine (HFST.out).mono ?_)
      rintro e w4 hA
      obtain ⟨A6, n6, c6, b6, rfl, hf, hx⟩ := hA.to
      have HS4 := Lib.hid (show ScanAt l w w4 (acc ++ [r]) v' (.int .i64 (b + (8 + R) : Nat)) (.slice A6 n6 c6) (.bool b6) from
        ⟨HROW.out.ext hx, by rw [bulk_snoc, ← B.out, ← HR'.out], SO.out, by rw [bulk_snoc, ← B.out, ← HR'.out]; have := HFIT.out; omega, by rw [bulk_snoc, ← B.out, ← HR'.out]; exact hf, HEXT.out.trans hx⟩)
      clear hA hf hx HFST
      go_wp2
      go_roundw
      case rel => exact ⟨_, by simpa using HS4.out⟩
      case measure => simp [intOf]; have := HFIT.out; omega

end Go.Proofs.Ytcofjimjbobdgaa
