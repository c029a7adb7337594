/- bytes.Clone, codec.New. -/
import Derived.Test.YtnkhobdpiifaaaaRdr
import Derived.Test.YtnkhobdpiifaaaaPutB
import Derived.WalkSpells
namespace Go.Proofs.Ytnkhobdpiifaaaa
open Go.RowKit

/-- A copy, nil of nil. -/
def Copy (w : World) (l : List UInt8) (e : Ending) (w' : World) : Prop := ∃ v', e = .returned v' ∧ Rd w' v' (bvs l) ∧ Ext w w' ∧ ∀ k, v'.ownBlock = some k → w.heap.size ≤ k ∧ k < w'.heap.size

theorem Clone_any (v : Value) (l : List UInt8) (w : World) (hr : Rd w v (bvs l)) (hl : l.length ≤ 140737488355328) :
    Calls Try.prog 17 #[v] w (Copy w l) := by
  obtain ⟨i0, hi, hz0, hz1, hz2⟩ := info_parts Try.infoU8
  have hr' := Lib.hid hr
  obtain ⟨A, c, rfl, _, _⟩ := hr.len
  cases A with
  | none =>
    have hl' : l = [] := by
      obtain ⟨A', c', e1, _, _, h3⟩ := hr
      rcases Nat.eq_zero_or_pos l.length with hz | hz
      · exact List.eq_nil_of_length_eq_zero hz
      · obtain ⟨a, e, _⟩ := h3 (by rw [bvs_length]; exact hz)
        injection e1 with e1
        rw [e] at e1; cases e1
    subst hl'
    clear hr
    have hn := fun (W : World) (n c n' c' : Nat) => Lib.run_eql_slice_nil (P := Try.prog) W 26 5 none n c n' c' Try.underlying26
    go_enter Try.func17, Try.ntmps17
    go_wp2
    go_ret
    exact ⟨_, rfl, Rd.nil _, Ext.refl _, by simp [Value.ownBlock]⟩
  | some a =>
    rw [bvs_length] at *
    clear hr
    have hn := fun (W : World) (n c n' c' : Nat) => Lib.run_eql_slice_nil (P := Try.prog) W 26 5 (some a) n c n' c' Try.underlying26
    have hx : Ext w (w.alloc (.cells #[] 5)) := (Below.refl _ _).alloc (Nat.le_refl _) _
    have hr0 := Lib.hid ((hr'.out.ext hx).src bvs_one Try.underlying26)
    have ho0 := Lib.hid (World.ownsRow_made (w := w) (base := w.heap.size) (e := 5) (size := 1) #[] 0 (Nat.le_refl _) (by simp [maxLen]) rfl)
    have HX := Lib.hid hx
    clear hx
    go_enter Try.func17, Try.ntmps17
    go_wp2_with (at_builtin; refine wpList_app_src _ rfl (.tmp 5) (.tmp 6) 26 26 rfl w.heap.size 5 i0 (.int .u8 0) 1 Try.underlying26 hi hz0 hz1 hz2 rfl _ 0 [] rfl ho0.out _ (bvs l).length (bvs l) rfl hr0.out ?c3 ?c4 ?c5 ?_)
    case c3 => rw [bvs_length]; simp [maxLen]; omega
    case c4 => rw [bvs_length]; omega
    case c5 => simp
    intro va w2 hown hgrow hat hfr
    have hE := Lib.hid (HX.out.trans' (grown_below hgrow (by simp) (fun k hk => by simp [Value.ownBlock] at hk; omega)))
    clear hgrow hat hfr ho0 hr0
    have hown := Lib.hid hown
    go_wp2
    go_ret
    exact ⟨_, rfl, Rd.of_own hown.out, hE.out, hown.out.lt⟩

theorem New_any (v : Value) (l : List UInt8) (w : World) (hr : Rd w v (bvs l)) (hl : l.length ≤ 140737488355328) :
    Calls Try.prog 8 #[v] w fun e w' => ∃ R, e = .returned (.pointer (some ⟨R, 0, none⟩)) ∧ Ext w w' ∧ Rdr w' R l 0 ∧ w.heap.size ≤ R := by
  have hr := Lib.hid hr
  go_enter Try.func8, Try.ntmps8
  go_wp2_with fail
  refine (Clone_any v l _ hr.out hl).mono ?_
  rintro e w1 ⟨v1, rfl, hr1, hx1, hk⟩
  have hs := hx1.size
  obtain ⟨A1, c1, rfl, _, _⟩ := hr1.len
  have H1 := Lib.hid hr1
  have HX := Lib.hid hx1
  have HK := Lib.hid hk
  clear hr1 hx1 hk
  go_wp2
  go_ret
  have hx2 : Ext w1 (w1.alloc (.cells #[.slice A1 (bvs l).length c1, .int .i64 0] 41)) := (Below.refl _ _).alloc (Nat.le_refl _) _
  refine ⟨w1.heap.size, rfl, HX.out.trans hx2, ⟨_, heap_alloc_new w1 _, H1.out.ext hx2, fun h => ?_, .inr rfl⟩, hs⟩
  have := (HK.out _ h).2
  omega

end Go.Proofs.Ytnkhobdpiifaaaa
