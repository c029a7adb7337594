/- rule.isOutside, rule.isPart, slices.ContainsFunc at them (gen_capf.py writes it). -/
import Derived.Test.YtflbhnckhbcboaaDoorPath
import Derived.Test.YtflbhnckhbcboaaDoorOwnC
import Derived.Laws.StructEq
namespace Go.Proofs.YtflbhnckhbcboaaDoor
open Go.RowKit

/-- Parts that lie at the head of a block. -/
def CapsAt (w : World) (g : Nat) (cs : List (Int × Int)) : Prop := ∀ k (h : k < cs.length), w.cell? ⟨g, k * 2, none⟩ = some (.int .i64 cs[k].1) ∧ w.cell? ⟨g, k * 2 + 1, none⟩ = some (.int .i64 cs[k].2)
theorem CapsAt.ext {w w' : World} {g : Nat} {cs : List (Int × Int)} (h : CapsAt w g cs) (x : Ext w w') : CapsAt w' g cs := fun k hk => ⟨x.cell (h k hk).1, x.cell (h k hk).2⟩
def CapIdx (p : Int × Int → Bool) (cs : List (Int × Int)) (r : Int) : Prop := (r = -1 ∧ cs.any p = false) ∨ (0 ≤ r ∧ cs.any p = true)
def outB (c : Int × Int) : Bool := decide (c.1 < 0) || decide (c.2 < c.1) || decide (10000 < c.2)
def partB (c : Int × Int) : Bool := decide (c ≠ (10000, 10000))

theorem isOutside_any (a b : Int) (w : World) : Calls Tryd.prog 61 #[.agg #[.int .i64 a, .int .i64 b]] w fun e w' => e = .returned (.bool (outB (a, b))) ∧ Ext w w' := by
  obtain ⟨v, hv⟩ : ∃ v, v = outB (a, b) := ⟨_, rfl⟩
  rw [← hv]
  have HV := Lib.hid hv
  clear hv
  by_cases h1 : a < 0 <;> by_cases h2 : b < a <;> by_cases h3 : 10000 < b
  · exact absurd h3 (by omega)
  all_goals (
    go_enter Tryd.func61, Tryd.ntmps61
    go_wp2
    go_ret
    refine ⟨?_, ext_alloc _ _⟩
    rw [HV.out]
    simp [outB, h1, h2, h3])

theorem isPart_any (a b : Int) (w : World) : Calls Tryd.prog 42 #[.agg #[.int .i64 a, .int .i64 b]] w fun e w' => e = .returned (.bool (partB (a, b))) ∧ Ext w w' := by
  obtain ⟨v, hv⟩ : ∃ v, v = partB (a, b) := ⟨_, rfl⟩
  rw [← hv]
  have HV := Lib.hid hv
  clear hv
  by_cases h1 : a = 10000 <;> by_cases h2 : b = 10000
  all_goals (
    try subst h1
    try subst h2
    go_enter Tryd.func42, Tryd.ntmps42
    go_wp2
    go_ret
    refine ⟨?_, ext_alloc _ _⟩
    rw [HV.out]
    simp [partB, *])

set_option maxRecDepth 100000 in
set_option maxHeartbeats 1600000 in
theorem IndexOutside_any (cs : List (Int × Int)) (g c : Nat) (w : World) (hcs : CapsAt w g cs) (hl : cs.length ≤ 1000) (h1 : 1 ≤ cs.length) :
    Calls Tryd.prog 62 #[.slice (some ⟨g, 0, none⟩) cs.length c, .func (.func 61) #[] #[]] w fun e w' => ∃ r : Int, e = .returned (.int .i64 r) ∧ Ext w w' ∧ CapIdx outB cs r := by
  obtain ⟨N, hN⟩ : ∃ N, N = cs.length := ⟨_, rfl⟩
  rw [← hN]
  have HC := Lib.hid hcs
  have HN := Lib.hid hN
  have hN1 : N ≤ 1000 := by omega
  clear hcs hN hl
  go_enter Tryd.func62, Tryd.ntmps62
  go_wp2
  go_loopw [8] (fun i wr => ∃ (k : Nat), k ≤ N ∧ i = .int .i64 k ∧ (cs.take k).any outB = false ∧ Ext w wr) (fun i _ => N - (intOf i).toNat)
  case atStart => exact ⟨0, by omega, rfl, rfl, Ext.refl _⟩
  case round =>
    obtain ⟨k, hkN, rfl, hno, hx⟩ := hrel
    have HX := Lib.hid hx
    have HNO := Lib.hid hno
    clear hx hno
    have i0 : (0 : Int) ≤ (k : Int) := by omega
    by_cases hlt : k < N
    · have i1 : (k : Int) < (N : Int) := by omega
      have hkl : k < cs.length := by have := HN.out; omega
      obtain ⟨e1, e2⟩ := HC.out k hkl
      have c0 := HX.out.cell e1
      have c1 := HX.out.cell e2
      obtain ⟨p, hp⟩ : ∃ p, p = cs[k] := ⟨_, rfl⟩
      rw [← hp] at c0 c1
      have HP := Lib.hid hp
      have HI := Lib.hid (isOutside_any p.1 p.2 wr)
      clear e1 e2 hp
      cases hn : outB p with
      | true =>
        have HI2 := Lib.hid (HI.out.mono fun e w' h => by rw [show (p.1, p.2) = p from rfl, hn] at h; exact h)
        have HK := Lib.hid (show cs.any outB = true by
          rw [List.any_eq_true]
          exact ⟨p, by rw [HP.out]; exact List.getElem_mem hkl, hn⟩)
        clear hn HI
        go_wp2_with (go_at_call 61; (with_reducible refine (HI2.out).mono ?_); rintro e w2 ⟨rfl, hx2⟩)
        have X2 := Lib.hid (HX.out.trans hx2)
        clear hx2
        go_wp2
        go_ret
        exact ⟨_, rfl, X2.out, .inr ⟨by omega, HK.out⟩⟩
      | false =>
        have HI2 := Lib.hid (HI.out.mono fun e w' h => by rw [show (p.1, p.2) = p from rfl, hn] at h; exact h)
        have HK := Lib.hid (show (cs.take (k + 1)).any outB = false by
          rw [List.take_succ_eq_append_getElem hkl, List.any_append, HNO.out, ← HP.out]
          simp only [List.any_cons, List.any_nil, Bool.or_false, Bool.false_or]
          exact hn)
        clear hn HI
        go_wp2_with (go_at_call 61; (with_reducible refine (HI2.out).mono ?_); rintro e w2 ⟨rfl, hx2⟩)
        have X2 := Lib.hid (HX.out.trans hx2)
        clear hx2
        go_wp2
        go_roundw
        case rel => exact ⟨k + 1, by omega, by simp, HK.out, X2.out⟩
        case measure => simp [intOf]; omega
    · have i1 : ¬ (k : Int) < (N : Int) := by omega
      have HK := Lib.hid (show cs.any outB = false by have := HNO.out; rwa [List.take_of_length_le (by have := HN.out; omega)] at this)
      go_wp2
      go_ret
      exact ⟨_, rfl, HX.out, .inl ⟨rfl, HK.out⟩⟩

theorem ContainsOutside_any (cs : List (Int × Int)) (g c : Nat) (w : World) (hcs : CapsAt w g cs) (hl : cs.length ≤ 1000) (h1 : 1 ≤ cs.length) :
    Calls Tryd.prog 41 #[.slice (some ⟨g, 0, none⟩) cs.length c, .func (.func 61) #[] #[]] w fun e w' => e = .returned (.bool (cs.any outB)) ∧ Ext w w' := by
  have HI := Lib.hid (IndexOutside_any cs g c w hcs hl h1)
  clear hcs
  go_enter Tryd.func41, Tryd.ntmps41
  go_wp2_with fail
  (with_reducible refine HI.out.mono ?_)
  rintro e w1 ⟨r, rfl, hx, hr⟩
  have X := Lib.hid hx
  clear hx
  rcases hr with ⟨rfl, h⟩ | ⟨h0, h⟩
  · have H := Lib.hid h
    clear h
    go_wp2
    go_ret
    rw [H.out]
    exact ⟨rfl, X.out⟩
  · have H := Lib.hid h
    clear h
    go_wp2
    go_ret
    rw [H.out]
    exact ⟨by simp [h0], X.out⟩

set_option maxRecDepth 100000 in
set_option maxHeartbeats 1600000 in
theorem IndexPart_any (cs : List (Int × Int)) (g c : Nat) (w : World) (hcs : CapsAt w g cs) (hl : cs.length ≤ 1000) (h1 : 1 ≤ cs.length) :
    Calls Tryd.prog 62 #[.slice (some ⟨g, 0, none⟩) cs.length c, .func (.func 42) #[] #[]] w fun e w' => ∃ r : Int, e = .returned (.int .i64 r) ∧ Ext w w' ∧ CapIdx partB cs r := by
  obtain ⟨N, hN⟩ : ∃ N, N = cs.length := ⟨_, rfl⟩
  rw [← hN]
  have HC := Lib.hid hcs
  have HN := Lib.hid hN
  have hN1 : N ≤ 1000 := by omega
  clear hcs hN hl
  go_enter Tryd.func62, Tryd.ntmps62
  go_wp2
  go_loopw [8] (fun i wr => ∃ (k : Nat), k ≤ N ∧ i = .int .i64 k ∧ (cs.take k).any partB = false ∧ Ext w wr) (fun i _ => N - (intOf i).toNat)
  case atStart => exact ⟨0, by omega, rfl, rfl, Ext.refl _⟩
  case round =>
    obtain ⟨k, hkN, rfl, hno, hx⟩ := hrel
    have HX := Lib.hid hx
    have HNO := Lib.hid hno
    clear hx hno
    have i0 : (0 : Int) ≤ (k : Int) := by omega
    by_cases hlt : k < N
    · have i1 : (k : Int) < (N : Int) := by omega
      have hkl : k < cs.length := by have := HN.out; omega
      obtain ⟨e1, e2⟩ := HC.out k hkl
      have c0 := HX.out.cell e1
      have c1 := HX.out.cell e2
      obtain ⟨p, hp⟩ : ∃ p, p = cs[k] := ⟨_, rfl⟩
      rw [← hp] at c0 c1
      have HP := Lib.hid hp
      have HI := Lib.hid (isPart_any p.1 p.2 wr)
      clear e1 e2 hp
      cases hn : partB p with
      | true =>
        have HI2 := Lib.hid (HI.out.mono fun e w' h => by rw [show (p.1, p.2) = p from rfl, hn] at h; exact h)
        have HK := Lib.hid (show cs.any partB = true by
          rw [List.any_eq_true]
          exact ⟨p, by rw [HP.out]; exact List.getElem_mem hkl, hn⟩)
        clear hn HI
        go_wp2_with (go_at_call 42; (with_reducible refine (HI2.out).mono ?_); rintro e w2 ⟨rfl, hx2⟩)
        have X2 := Lib.hid (HX.out.trans hx2)
        clear hx2
        go_wp2
        go_ret
        exact ⟨_, rfl, X2.out, .inr ⟨by omega, HK.out⟩⟩
      | false =>
        have HI2 := Lib.hid (HI.out.mono fun e w' h => by rw [show (p.1, p.2) = p from rfl, hn] at h; exact h)
        have HK := Lib.hid (show (cs.take (k + 1)).any partB = false by
          rw [List.take_succ_eq_append_getElem hkl, List.any_append, HNO.out, ← HP.out]
          simp only [List.any_cons, List.any_nil, Bool.or_false, Bool.false_or]
          exact hn)
        clear hn HI
        go_wp2_with (go_at_call 42; (with_reducible refine (HI2.out).mono ?_); rintro e w2 ⟨rfl, hx2⟩)
        have X2 := Lib.hid (HX.out.trans hx2)
        clear hx2
        go_wp2
        go_roundw
        case rel => exact ⟨k + 1, by omega, by simp, HK.out, X2.out⟩
        case measure => simp [intOf]; omega
    · have i1 : ¬ (k : Int) < (N : Int) := by omega
      have HK := Lib.hid (show cs.any partB = false by have := HNO.out; rwa [List.take_of_length_le (by have := HN.out; omega)] at this)
      go_wp2
      go_ret
      exact ⟨_, rfl, HX.out, .inl ⟨rfl, HK.out⟩⟩

theorem ContainsPart_any (cs : List (Int × Int)) (g c : Nat) (w : World) (hcs : CapsAt w g cs) (hl : cs.length ≤ 1000) (h1 : 1 ≤ cs.length) :
    Calls Tryd.prog 41 #[.slice (some ⟨g, 0, none⟩) cs.length c, .func (.func 42) #[] #[]] w fun e w' => e = .returned (.bool (cs.any partB)) ∧ Ext w w' := by
  have HI := Lib.hid (IndexPart_any cs g c w hcs hl h1)
  clear hcs
  go_enter Tryd.func41, Tryd.ntmps41
  go_wp2_with fail
  (with_reducible refine HI.out.mono ?_)
  rintro e w1 ⟨r, rfl, hx, hr⟩
  have X := Lib.hid hx
  clear hx
  rcases hr with ⟨rfl, h⟩ | ⟨h0, h⟩
  · have H := Lib.hid h
    clear h
    go_wp2
    go_ret
    rw [H.out]
    exact ⟨rfl, X.out⟩
  · have H := Lib.hid h
    clear h
    go_wp2
    go_ret
    rw [H.out]
    exact ⟨by simp [h0], X.out⟩
end Go.Proofs.YtflbhnckhbcboaaDoor
