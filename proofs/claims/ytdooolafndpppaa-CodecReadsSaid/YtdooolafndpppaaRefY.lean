/- dispatchref2's reader: Ints; dispatchlaw2's ints. -/
import Derived.Test.YtdooolafndpppaaRefX
import Derived.Test.YtdooolafndpppaaPutB
namespace Go.Proofs.Ytdooolafndpppaa
open Go.RowKit

theorem rInts_no (X : Nat) (A : Option Addr) (B : List UInt8) (c p : Nat) (e : Int) (w : World) (h : XAt w X (.slice A B.length c) p e) (hr : Rd w (.slice A B.length c) (bvs B)) (hX : 0 < B.length → ∀ a, A = some a → a.block ≠ X) (hm : B.length ≤ 1000) (hk : Short B p e 8) :
    Calls Try.prog 25 #[.pointer (some ⟨X, 0, none⟩)] w fun r w' => r = .returned (.slice none 0 0) ∧ w.grownBy w' (some X) ∧ ∃ p', XAt w' X (.slice A B.length c) p' (cutE e) := by
  have H := Lib.hid h
  have HR := Lib.hid hr
  clear h hr
  have hm' : B.length ≤ maxLen := by simp [maxLen]; omega
  by_cases h2 : Lack e ((B.length : Int) - (p : Int)) 2
  · have hp : p ≤ B.length ∨ ¬ e = 0 := by rcases hk with h | h; exact .inr h; exact .inl h.2.1
    have h2 := Lib.hid h2
    have hp := Lib.hid hp
    have hX := Lib.hid hX
    clear hk
    go_enter Try.func25, Try.ntmps25
    go_wp2_with fail
    refine (two_no X A _ c p e _ H.out hm' hp.out h2.out).mono ?_
    rintro r w1 ⟨rfl, hg, hx⟩
    have HX := Lib.hid hx
    have HG := Lib.hid hg
    clear hx hg
    go_wp2_with fail
    refine (has_no X A _ c p _ _ _ HX.out hm' (.inr (cutE_ne' e)) (.inl (cutE_ne' e))).mono ?_
    rintro r w2 ⟨rfl, hg, hx⟩
    rw [cutE_cutE] at hx
    have HX2 := Lib.hid hx
    clear hx
    go_wp2
    go_ret
    exact ⟨rfl, HG.out.trans hg, _, HX2.out⟩
  · have he : e = 0 := by
      rcases hk with h | h
      · exact absurd (.inl h) h2
      · exact h.1
    subst he
    obtain ⟨hp, hk⟩ : p ≤ B.length ∧ B.length - p - 2 < 8 * va ((B.drop p).take 2) ∧ p + 2 ≤ B.length := by
      rcases hk with h | h
      · exact absurd rfl h
      · have h3 : ¬ ((B.length : Int) - (p : Int) < 2) := fun h => h2 (.inr ⟨rfl, h⟩)
        refine ⟨h.2.1, ?_, by omega⟩
        rcases h.2.2 with h | h
        · omega
        · exact h
    obtain ⟨hk, hp2⟩ := hk
    obtain ⟨a, rfl⟩ := Rd.some_ HR.out (by omega)
    have hv : va ((B.drop p).take 2) < 65536 := by
      have hv := va_lt ((B.drop p).take 2)
      have hl2 : ((B.drop p).take 2).length = 2 := by rw [List.length_take, List.length_drop]; omega
      rw [hl2] at hv
      exact hv
    have hk' := Lib.hid (show (B.length : Int) - ((p + 2 : Nat) : Int) < 8 * (va ((B.drop p).take 2) : Int) by omega)
    have ha := hX (by omega) a rfl
    clear h2 hk hX
    go_enter Try.func25, Try.ntmps25
    go_wp2_with fail
    refine (rtwo_ok X a B c p _ H.out HR.out ha hm hp2).mono ?_
    rintro r w1 ⟨rfl, hg, hx⟩
    have HX := Lib.hid hx
    have HG := Lib.hid hg
    clear hx hg
    go_wp2_with fail
    refine (has_no X _ _ c (p + 2) 0 _ _ HX.out hm' (.inl hp2) (.inr ⟨rfl, hk'.out⟩)).mono ?_
    rintro r w2 ⟨rfl, hg, hx⟩
    have HX2 := Lib.hid hx
    clear hx
    go_wp2
    go_ret
    exact ⟨rfl, HG.out.trans hg, _, HX2.out⟩

theorem own_far {w w' : World} {base X : Nat} {e : TypeId} {v : Value} {n : Nat} {xs : List Value} (h : w.ownsRow base e 1 v n xs) (k : w.grownBy w' (some X)) (hX : X < base) : w'.ownsRow base e 1 v n xs :=
  own_same h fun g hg => k.block g (h.lt g hg).2 (fun e => by injection e with e; have := (h.lt g hg).1; omega)

set_option maxHeartbeats 1000000 in
theorem rInts_ok (X : Nat) (a : Addr) (B : List UInt8) (c p n : Nat) (w : World) (h : XAt w X (.slice (some a) B.length c) p 0) (hr : Rd w (.slice (some a) B.length c) (bvs B)) (ha : a.block ≠ X) (hm : B.length ≤ 1000) (hn : n = va ((B.drop p).take 2)) (hp : p + 2 + 8 * n ≤ B.length) :
    Calls Try.prog 25 #[.pointer (some ⟨X, 0, none⟩)] w fun r w' => ∃ v, r = .returned v ∧ Rd w' v ((nums n (B.drop (p + 2))).map (Value.int .i64)) ∧ w.grownBy w' (some X) ∧ XAt w' X (.slice (some a) B.length c) (p + 2 + 8 * n) 0 := by
  obtain ⟨i0, hi, hz0, hz1, hz2⟩ := info_parts Try.infoInt
  have H := Lib.hid h
  have HR := Lib.hid hr
  have HN := Lib.hid hn
  have hXlt := h.lt
  clear h hr hn
  go_enter Try.func25, Try.ntmps25
  go_wp2_with fail
  refine (rtwo_ok X a B c p _ H.out HR.out ha hm (by omega)).mono ?_
  rintro r w1 ⟨rfl, hg, hx⟩
  rw [← HN.out]
  have HX := Lib.hid hx
  have HG := Lib.hid hg
  clear hx hg
  go_wp2_with fail
  refine (has_ok X _ _ c (p + 2) _ _ HX.out (by simp [maxLen]; omega) (by omega) (by omega)).mono ?_
  rintro r w2 ⟨rfl, m, rfl⟩
  have HX2 := Lib.hid (HX.out.drewN m)
  have HG2 := Lib.hid (HG.out.trans (grown_drewN w1 m (some X)))
  go_wp2
  go_loopw [4, 5] (fun l i wr => ∃ k : Nat, k ≤ n ∧ i = .int .i64 k ∧ wr.ownsRow w.heap.size 3 1 l k ((nums k (B.drop (p + 2))).map (Value.int .i64)) ∧ w.grownBy wr (some X) ∧ XAt wr X (.slice (some a) B.length c) (p + 2 + 8 * k) 0) (fun _ i _ => n - (intOf i).toNat)
  case atStart => exact ⟨0, Nat.zero_le _, rfl, World.ownsRow_nil _ _ _ _, HG2.out, HX2.out⟩
  case round =>
    obtain ⟨k, hk, rfl, hown, hg, hx⟩ := hrel
    by_cases hlt : k < n
    · have hRr : Rd wr (.slice (some a) B.length c) (bvs B) := HR.out.grown hg (fun g e h => by injection e with e; subst e; exact ha (by injection h))
      have HRr := Lib.hid hRr
      have HXr := Lib.hid hx
      have HGr := Lib.hid hg
      have HO := Lib.hid hown
      have hsz := hg.size
      clear hRr hx hg hown
      go_wp2_with fail
      refine (rInt_ok X a B c (p + 2 + 8 * k) _ HXr.out HRr.out hm (by omega)).mono ?_
      rintro r w3 ⟨rfl, hg3, hx3⟩
      have HX3 := Lib.hid hx3
      have HG3 := Lib.hid (HGr.out.trans hg3)
      have HO3 := Lib.hid (own_far HO.out hg3 hXlt)
      have hsz3 := HG3.out.size
      have HNN := Lib.hid (nums_snoc k (B.drop (p + 2)))
      clear hx3 hg3
      go_wp2_with (at_builtin; refine wpList_app_src _ rfl (.tmp 18) (.tmp 21) 23 23 rfl w.heap.size 3 i0 (.int .i64 0) 8 Try.underlying23 hi hz0 hz1 hz2 rfl _ k ((nums k (B.drop (p + 2))).map (Value.int .i64)) rfl (HO3.out.alloc _) _ 1 _ rfl ((Rd.one _ _ _ _ _ rfl rfl).src ?c1 Try.underlying23) ?c3 ?c4 ?c5 ?_)
      case c1 => intro u hu; simp at hu; subst hu; rfl
      case c3 => simp [maxLen]; omega
      case c4 => omega
      case c5 => simp; omega
      intro v' w4 hown4 hgrow4 _ _
      have hge := own_ge HO3.out (Nat.le_refl w.heap.size)
      have HG4 := Lib.hid (grow_chain (HG3.out.trans (World.grownBy_alloc w3 _ (some X))) (.inr hge) hgrow4)
      have HX4 := Lib.hid ((HX3.out.ext ((Below.refl _ _).alloc (Nat.le_refl _) _)).grown hgrow4 (fun e => by have := hge X e; omega))
      have HO4 := Lib.hid hown4
      clear hown4 hgrow4 hge
      go_wp2
      go_roundw
      case rel =>
        refine ⟨k + 1, by omega, by go_num, ?_, HG4.out, HX4.out⟩
        rw [HNN.out, List.map_append]
        have h := HO4.out
        rw [List.drop_drop] at *
        exact h
      case measure => simp [intOf]; omega
    · have hkn : k = n := by omega
      have HK := Lib.hid hkn
      have HXr := Lib.hid hx
      have HGr := Lib.hid hg
      have HO := Lib.hid hown
      clear hkn hx hg hown
      go_wp2
      go_ret
      exact ⟨_, rfl, by rw [← HK.out]; exact Rd.of_own HO.out, HGr.out, by rw [← HK.out]; exact HXr.out⟩

theorem ints_same (u v : Value) (L : List Int) (w : World) (hu : Rd w u (L.map (Value.int .i64))) (hv : Rd w v (L.map (Value.int .i64))) :
    Calls Try.prog 23 #[u, v] w fun r w' => r = .returned (.bool true) ∧ ∃ m, w' = w.drewN m := by
  obtain ⟨A, c, rfl, hc1, hm1, hcu⟩ := hu
  obtain ⟨A', c', rfl, hc2, hm2, hcv⟩ := hv
  rw [List.length_map] at *
  unfold maxLen at hm1 hm2
  have hcu := Lib.hid hcu
  have hcv := Lib.hid hcv
  go_enter Try.func23, Try.ntmps23
  go_wp2
  go_loopw [5] (fun i wr => ∃ k : Nat, k ≤ L.length ∧ i = .int .i64 k ∧ ∃ m, wr = w.drewN m) (fun i _ => L.length - (intOf i).toNat)
  case atStart => exact ⟨0, Nat.zero_le _, rfl, 0, rfl⟩
  case round =>
    obtain ⟨k, hk, rfl, m, rfl⟩ := hrel
    by_cases hlt : k < L.length
    · obtain ⟨a, rfl, _, ha⟩ := hcu.out (by omega)
      obtain ⟨b, rfl, _, hb⟩ := hcv.out (by omega)
      have d0 : w.cell? (a.add k) = some (.int .i64 L[k]) := ha k _ (by simp [hlt])
      have d1 : w.cell? (b.add k) = some (.int .i64 L[k]) := hb k _ (by simp [hlt])
      have i0 : (0 : Int) ≤ (k : Int) := by omega
      have i1 : (k : Int) < (L.length : Int) := by omega
      clear ha hb
      generalize L[k] = x at *
      go_wp2
      go_quiet (fail)
      go_wp2
      go_roundw
      case rel => exact ⟨k + 1, by omega, by go_num, ⟨_, by first | rfl | exact World.drewN_drewN _ _ _⟩⟩
      case measure => simp [intOf]; omega
    · go_wp2
      go_ret
      exact ⟨rfl, m, rfl⟩

end Go.Proofs.Ytdooolafndpppaa
