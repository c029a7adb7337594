/- dispatchref2's reader: where bytes are missing; Text. -/
import Derived.Test.YtdooolafndpppaaRefI
import Derived.Test.YtdooolafndpppaaWith
import Derived.Test.YtdooolafndpppaaSettle
namespace Go.Proofs.Ytdooolafndpppaa
open Go.RowKit

/-- There is an error already, or too few bytes are left. -/
def Lack (e : Int) (left : Int) (k : Int) : Prop := ¬ e = 0 ∨ (e = 0 ∧ left < k)

theorem cutE_of {e : Int} (h : ¬ e = 0) : cutE e = e := if_neg h

theorem has_no (X : Nat) (A : Option Addr) (n c p : Nat) (e k : Int) (w : World) (h : XAt w X (.slice A n c) p e) (hm : n ≤ maxLen) (hp : p ≤ n ∨ ¬ e = 0) (hk : Lack e ((n : Int) - (p : Int)) k) :
    Calls Try.prog 37 #[.pointer (some ⟨X, 0, none⟩), .int .i64 k] w fun r w' => r = .returned (.bool false) ∧ w.grownBy w' (some X) ∧ XAt w' X (.slice A n c) p (cutE e) := by
  by_cases he : e = 0
  · subst he
    have hk' : (n : Int) - (p : Int) < k := by rcases hk with h | h; exact absurd rfl h; exact h.2
    have hp' : p ≤ n := by rcases hp with h | h; exact h; exact absurd rfl h
    exact has_cut X A n c p k w h hm hp' hk'
  · rw [cutE_of he]
    refine (has_err X _ p e k w h he).mono ?_
    rintro r w' ⟨rfl, m, rfl⟩
    exact ⟨rfl, grown_drewN _ _ _, h.drewN _⟩

theorem rInt_no (X : Nat) (A : Option Addr) (n c p : Nat) (e : Int) (w : World) (h : XAt w X (.slice A n c) p e) (hm : n ≤ maxLen) (hp : p ≤ n ∨ ¬ e = 0) (hk : Lack e ((n : Int) - (p : Int)) 8) :
    Calls Try.prog 20 #[.pointer (some ⟨X, 0, none⟩)] w fun r w' => r = .returned (.int .i64 0) ∧ w.grownBy w' (some X) ∧ ∃ p', XAt w' X (.slice A n c) p' (cutE e) := by
  have H := Lib.hid h
  have hp := Lib.hid hp
  have hk := Lib.hid hk
  clear h
  go_enter Try.func20, Try.ntmps20
  go_wp2_with fail
  refine (has_no X A n c p e _ _ H.out hm hp.out hk.out).mono ?_
  rintro r w1 ⟨rfl, hg, hX⟩
  have HX := Lib.hid hX
  clear hX
  go_wp2
  go_ret
  exact ⟨rfl, hg, _, HX.out⟩

theorem two_no (X : Nat) (A : Option Addr) (n c p : Nat) (e : Int) (w : World) (h : XAt w X (.slice A n c) p e) (hm : n ≤ maxLen) (hp : p ≤ n ∨ ¬ e = 0) (hk : Lack e ((n : Int) - (p : Int)) 2) :
    Calls Try.prog 41 #[.pointer (some ⟨X, 0, none⟩)] w fun r w' => r = .returned (.int .i64 0) ∧ w.grownBy w' (some X) ∧ XAt w' X (.slice A n c) p (cutE e) := by
  have H := Lib.hid h
  have hp := Lib.hid hp
  have hk := Lib.hid hk
  clear h
  go_enter Try.func41, Try.ntmps41
  go_wp2_with fail
  refine (has_no X A n c p e _ _ H.out hm hp.out hk.out).mono ?_
  rintro r w1 ⟨rfl, hg, hX⟩
  have HX := Lib.hid hX
  clear hX
  go_wp2
  go_ret
  exact ⟨rfl, hg, HX.out⟩

theorem cutE_ne {e : Int} (h : ¬ e = 0) : ¬ cutE e = 0 := by rw [cutE_of h]; exact h
theorem cutE_ne' (e : Int) : ¬ cutE e = 0 := by unfold cutE; split <;> omega
theorem cutE_cutE (e : Int) : cutE (cutE e) = cutE e := cutE_of (cutE_ne' e)

/-- Nothing to be read by a length: an error, no length, or too few bytes behind it. -/
def Short (B : List UInt8) (p : Nat) (e : Int) (unit : Nat) : Prop := ¬ e = 0 ∨ (e = 0 ∧ p ≤ B.length ∧ (B.length - p < 2 ∨ B.length - p - 2 < unit * va ((B.drop p).take 2)))

theorem rText_no (X : Nat) (A : Option Addr) (B : List UInt8) (c p : Nat) (e : Int) (w : World) (h : XAt w X (.slice A B.length c) p e) (hr : Rd w (.slice A B.length c) (bvs B)) (hX : 0 < B.length → ∀ a, A = some a → a.block ≠ X) (hm : B.length ≤ 1000) (hk : Short B p e 1) :
    Calls Try.prog 22 #[.pointer (some ⟨X, 0, none⟩)] w fun r w' => r = .returned (.string ⟨#[]⟩) ∧ w.grownBy w' (some X) ∧ ∃ p', XAt w' X (.slice A B.length c) p' (cutE e) := by
  have H := Lib.hid h
  have HR := Lib.hid hr
  clear h hr
  have hm' : B.length ≤ maxLen := by simp [maxLen]; omega
  by_cases h2 : Lack e ((B.length : Int) - (p : Int)) 2
  · have hp : p ≤ B.length ∨ ¬ e = 0 := by rcases hk with h | h; exact .inr h; exact .inl h.2.1
    have h2 := Lib.hid h2
    have hp := Lib.hid hp
    have hX := Lib.hid hX
    clear hk
    go_enter Try.func22, Try.ntmps22
    go_wp2_with fail
    refine (two_no X A _ c p e _ H.out hm' hp.out h2.out).mono ?_
    rintro r w1 ⟨rfl, hg, hx⟩
    have HX := Lib.hid hx
    have HG := Lib.hid hg
    clear hx hg
    go_wp2_with fail
    refine (has_no X A _ c p _ _ _ HX.out hm' (.inr (cutE_ne' e)) (.inl (cutE_ne' e))).mono ?_
    rintro r w2 ⟨rfl, hg, hx⟩
    rw [cutE_cutE] at hx
    have HX2 := Lib.hid hx
    clear hx
    go_wp2
    go_ret
    exact ⟨rfl, HG.out.trans hg, _, HX2.out⟩
  · have he : e = 0 := by
      rcases hk with h | h
      · exact absurd (.inl h) h2
      · exact h.1
    subst he
    obtain ⟨hp, hk⟩ : p ≤ B.length ∧ B.length - p - 2 < va ((B.drop p).take 2) ∧ p + 2 ≤ B.length := by
      rcases hk with h | h
      · exact absurd rfl h
      · have h3 : ¬ ((B.length : Int) - (p : Int) < 2) := fun h => h2 (.inr ⟨rfl, h⟩)
        refine ⟨h.2.1, ?_, by omega⟩
        rcases h.2.2 with h | h
        · omega
        · simpa using h
    obtain ⟨hk, hp2⟩ := hk
    obtain ⟨a, rfl⟩ := Rd.some_ HR.out (by omega)
    have hk' := Lib.hid (show (B.length : Int) - ((p + 2 : Nat) : Int) < (va ((B.drop p).take 2) : Int) by omega)
    have ha := hX (by omega) a rfl
    clear h2 hk hX
    go_enter Try.func22, Try.ntmps22
    go_wp2_with fail
    refine (rtwo_ok X a B c p _ H.out HR.out ha hm hp2).mono ?_
    rintro r w1 ⟨rfl, hg, hx⟩
    have HX := Lib.hid hx
    have HG := Lib.hid hg
    clear hx hg
    go_wp2_with fail
    refine (has_no X _ _ c (p + 2) 0 _ _ HX.out hm' (.inl hp2) (.inr ⟨rfl, hk'.out⟩)).mono ?_
    rintro r w2 ⟨rfl, hg, hx⟩
    have HX2 := Lib.hid hx
    clear hx
    go_wp2
    go_ret
    exact ⟨rfl, HG.out.trans hg, _, HX2.out⟩

set_option maxHeartbeats 400000 in
theorem rText_ok (X : Nat) (a : Addr) (B : List UInt8) (c p n : Nat) (w : World) (h : XAt w X (.slice (some a) B.length c) p 0) (hr : Rd w (.slice (some a) B.length c) (bvs B)) (ha : a.block ≠ X) (hm : B.length ≤ 1000) (hn : n = va ((B.drop p).take 2)) (hp : p + 2 + n ≤ B.length) (S : ByteArray) (hS : S = ⟨((B.drop (p + 2)).take n).toArray⟩) :
    Calls Try.prog 22 #[.pointer (some ⟨X, 0, none⟩)] w fun r w' => r = .returned (.string S) ∧ w.grownBy w' (some X) ∧ XAt w' X (.slice (some a) B.length c) (p + 2 + n) 0 := by
  have H := Lib.hid h
  have HR := Lib.hid hr
  have HN := Lib.hid hn
  have HS := Lib.hid hS
  have hcap : B.length ≤ c ∧ c ≤ maxLen := by
    obtain ⟨A', c', e, h1, h2, _⟩ := hr
    injection e with _ _ e3
    subst e3
    rw [bvs_length] at h1
    exact ⟨h1, h2⟩
  obtain ⟨hc1, hc2⟩ := hcap
  unfold maxLen at hc2
  clear h hr hn hS
  go_enter Try.func22, Try.ntmps22
  go_wp2_with fail
  refine (rtwo_ok X a B c p _ H.out HR.out ha hm (by omega)).mono ?_
  rintro r w1 ⟨rfl, hg, hx⟩
  rw [← HN.out]
  have HX := Lib.hid hx
  have HG := Lib.hid hg
  clear hx hg
  go_wp2_with fail
  refine (has_ok X _ _ c (p + 2) _ _ HX.out (by simp [maxLen]; omega) (by omega) (by omega)).mono ?_
  rintro r w2 ⟨rfl, m, rfl⟩
  have h0 := (HX.out.drewN m).c0
  have h1 := (HX.out.drewN m).c1
  have f1 := (HX.out.drewN m).fr 1
  have HT := Lib.hid ((HX.out.drewN m).set1 (p + 2 + n))
  go_wp2
  refine at_worldR (fun W0 hW0 => ?_)
  have hg : w.grownBy W0 (some X) := by rw [hW0]; exact HG.out.trans (World.grownBy.trans (grown_drewN _ _ _) (grown_setCell _ _ _ _))
  have hX : XAt W0 X (.slice (some a) B.length c) (p + 2 + n) 0 := by rw [hW0]; exact HT.out
  have c0 := hX.c0
  have c1 : W0.cell? ⟨X, 1, none⟩ = some (.int .i64 ((p : Int) + 2 + n)) := hX.c1
  have hRW : Rd W0 (.slice (some a) B.length c) (bvs B) := HR.out.grown hg (fun g e h => by injection e with e; subst e; exact ha (by injection h))
  have HRW := Lib.hid hRW
  have HX := Lib.hid hX
  have HG := Lib.hid hg
  have e1 : IntKind.i64.wrap ((p : Int) + 2) = (p : Int) + 2 := IntWalk.i64_in _ (by omega)
  have i0 : (0 : Int) ≤ (p : Int) + 2 := by omega
  have i1 : (p : Int) + 2 ≤ (p : Int) + 2 + n := by omega
  have i2 : (p : Int) + 2 + n ≤ (c : Int) := by omega
  have i3 : ((p : Int) + 2).toNat = p + 2 := by omega
  have i4 : ((p : Int) + 2 + n).toNat = p + 2 + n := by omega
  clear hW0 hg hX hRW h0 h1 f1 HT
  by_cases hcc : c = p + 2
  · have hn0 : n = 0 := by omega
    subst hn0
    subst hcc
    have hcv : ∀ m, (convert 22 9 (.slice (some a) 0 0)).run Try.prog (W0.drewN m) = .ok (.string S) (W0.drewN m) := fun m => by
      have h1 : Rd (W0.drewN m) (.slice (some a) 0 0) (bvs []) := ⟨some a, 0, rfl, Nat.le_refl _, by simp [maxLen], fun h => absurd h (by simp [bvs])⟩
      rw [HS.out]
      simpa using h1.str
    go_quiet (fail)
    clear e1 i3 i4 hcv
    go_wp2
    go_ret
    exact ⟨rfl, HG.out.trans (grown_drewN _ _ _), HX.out.drewN _⟩
  · have hcv : ∀ m, (convert 22 9 (.slice (some ⟨a.block, a.off + (p + 1 + 1), none⟩) n (c - (p + 2)))).run Try.prog (W0.drewN m) = .ok (.string S) (W0.drewN m) := fun m => by
      have h1 : Rd W0 (.slice (some (a.add (p + 2))) n (c - (p + 2))) (bvs ((B.drop (p + 2)).take n)) := by
        have := (HRW.out.back (k := p + 2) (by omega)).front (k := n) (by omega)
        rw [bvs_drop, bvs_take] at this
        exact this
      rw [← add_succ, HS.out]
      exact (h1.ext (show Ext W0 (W0.drewN m) from ⟨rfl, rfl, rfl, Nat.le_refl _, fun _ _ => rfl⟩)).str
    go_quiet (fail)
    clear e1 i3 i4 hcv
    go_wp2
    go_ret
    exact ⟨rfl, HG.out.trans (grown_drewN _ _ _), HX.out.drewN _⟩

end Go.Proofs.Ytdooolafndpppaa
