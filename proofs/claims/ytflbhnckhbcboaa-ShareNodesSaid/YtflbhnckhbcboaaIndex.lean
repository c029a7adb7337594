/- rule.index, rule.Leaf. -/
import Derived.Test.YtflbhnckhbcboaaQAt
import Derived.Test.YtflbhnckhbcboaaUp
import Derived.FnLit
namespace Go.Proofs.Ytflbhnckhbcboaa
open Go.RowKit

theorem ba_eq {T S : ByteArray} (e : T.data.toList = S.data.toList) : T = S := by
  cases T; cases S; simp only at e; rw [Array.toList_inj] at e; rw [e]

/-- The first queue with that path. -/
def idxP (p : Tx) (l : List QD) (r : Int) : Prop := (r = -1 ∧ ∀ q ∈ l, q.path ≠ p) ∨ ∃ k : Nat, ∃ h : k < l.length, r = (k : Int) ∧ l[k].path = p

theorem index1_any (P S : ByteArray) (vc : Value) (u : Int) (b : Nat) (w : World) (hc : w.cell? ⟨b, 0, none⟩ = some (.string S)) :
    Calls Try.prog 29 #[.agg #[.string P, vc, .int .i64 u], .pointer (some ⟨b, 0, none⟩)] w fun e w' => e = .returned (.bool (decide (P = S))) ∧ Ext w w' := by
  have hc' : (w.alloc (.cells #[.string P, vc, .int .i64 u] 40)).cell? ⟨b, 0, none⟩ = some (.string S) := (ext_alloc w _).cell hc
  clear hc
  by_cases h : P = S
  · have HD := Lib.hid (show decide (P = S) = true by simpa using h)
    have q1 : (P.toList == S.toList) = true := by rw [h]; simp
    clear h
    go_enter Try.func29, Try.ntmps29
    go_wp2
    go_ret
    rw [HD.out]
    exact ⟨rfl, ext_alloc _ _⟩
  · have HD := Lib.hid (show decide (P = S) = false by simpa using h)
    have q1 : (P.toList == S.toList) = false := ba_ne h
    clear h
    go_enter Try.func29, Try.ntmps29
    go_wp2
    go_ret
    rw [HD.out]
    exact ⟨rfl, ext_alloc _ _⟩

def IdxPost (p : Tx) (ds : List QD) (w : World) (e : Ending) (w' : World) : Prop := ∃ r : Int, e = .returned (.int .i64 r) ∧ idxP p ds r ∧ Ext w w'

set_option maxRecDepth 100000 in
set_option maxHeartbeats 1600000 in
theorem IndexFunc_any (ds : List QD) (vq : Value) (S : ByteArray) (b : Nat) (w : World) (hq : QAt w vq ds) (hlen : ds.length ≤ 1000) (hc : w.cell? ⟨b, 0, none⟩ = some (.string S)) :
    Calls Try.prog 28 #[vq, .func (.func 29) #[] #[.pointer (some ⟨b, 0, none⟩)]] w (IdxPost S.data.toList ds w) := by
  obtain ⟨A, N, c, rfl, hN, hc1, hc2, hcell⟩ := hq.open
  have HC := Lib.hid hcell
  have HN := Lib.hid hN
  have hN1 : N ≤ 1000 := by omega
  have HB := Lib.hid hc
  clear hcell hN hq hc
  go_enter Try.func28, Try.ntmps28
  go_wp2
  go_loopw [8] (fun i wr => ∃ (k : Nat), k ≤ N ∧ i = .int .i64 k ∧ (∀ q ∈ ds.take k, q.path ≠ S.data.toList) ∧ Ext w wr) (fun i _ => N - (intOf i).toNat)
  case atStart => exact ⟨0, by omega, rfl, by simp, Ext.refl _⟩
  case round =>
    obtain ⟨k, hkN, rfl, hno, hx⟩ := hrel
    have HX := Lib.hid hx
    have HNO := Lib.hid hno
    clear hx hno
    have i0 : (0 : Int) ≤ (k : Int) := by omega
    by_cases hlt : k < N
    · have i1 : (k : Int) < (N : Int) := by omega
      have hkl : k < ds.length := by have := HN.out; omega
      obtain ⟨g, rfl, hg, hqc⟩ := HC.out (by omega)
      obtain ⟨P, Ac, cc, h1, h2, h3, h4, h5⟩ := (hqc k hkl).ex
      have c0 := HX.out.cell h1
      have c1 := HX.out.cell h2
      have c2 := HX.out.cell h3
      have HPP := Lib.hid h4
      have hb := HX.out.cell HB.out
      generalize (ds[k].caps.length) = nc at c1
      generalize (ds[k].user) = uu at c2
      have HI := Lib.hid (index1_any P S (.slice Ac nc cc) uu b wr hb)
      clear hqc h1 h2 h3 h4 h5 hb
      by_cases hPS : P = S
      · have HI2 := Lib.hid (HI.out.mono fun e w' h => by rw [decide_eq_true hPS] at h; exact h)
        have HK := Lib.hid (show ds[k].path = S.data.toList by rw [← HPP.out, hPS])
        clear hPS
        go_wp2_with (go_at_call 29; (with_reducible refine (HI2.out).mono ?_); rintro e w2 ⟨rfl, hx2⟩)
        have X2 := Lib.hid (HX.out.trans hx2)
        clear hx2
        go_wp2
        go_ret
        exact ⟨_, rfl, .inr ⟨k, hkl, rfl, HK.out⟩, X2.out⟩
      · have HI2 := Lib.hid (HI.out.mono fun e w' h => by rw [decide_eq_false hPS] at h; exact h)
        have HK := Lib.hid (show ∀ q ∈ ds.take (k + 1), q.path ≠ S.data.toList by
          rw [List.take_succ_eq_append_getElem hkl]
          intro q hq
          rcases List.mem_append.1 hq with h | h
          · exact HNO.out q h
          · simp at h
            subst h
            intro e
            exact hPS (ba_eq (by rw [HPP.out, e])))
        clear hPS
        go_wp2_with (go_at_call 29; (with_reducible refine (HI2.out).mono ?_); rintro e w2 ⟨rfl, hx2⟩)
        have X2 := Lib.hid (HX.out.trans hx2)
        clear hx2
        go_wp2
        go_roundw
        case rel => exact ⟨k + 1, by omega, by simp, HK.out, X2.out⟩
        case measure => simp [intOf]; omega
    · have i1 : ¬ (k : Int) < (N : Int) := by omega
      have HK := Lib.hid (show ∀ q ∈ ds, q.path ≠ S.data.toList by have := HNO.out; rwa [List.take_of_length_le (by have := HN.out; omega)] at this)
      go_wp2
      go_ret
      exact ⟨_, rfl, .inl ⟨rfl, HK.out⟩, HX.out⟩

set_option maxRecDepth 100000 in
theorem index_any (ds : List QD) (vl vq : Value) (S : ByteArray) (w : World) (hq : QAt w vq ds) (hlen : ds.length ≤ 1000) :
    Calls Try.prog 22 #[.agg #[vl, vq], .string S] w (IdxPost S.data.toList ds w) := by
  obtain ⟨W0, hW0⟩ : ∃ W0, W0 = (w.alloc (.cells #[vl, vq] 29)).alloc (.cells #[.string S] 9) := ⟨_, rfl⟩
  have X0 := Lib.hid (show Ext w W0 by rw [hW0]; exact (ext_alloc _ _).trans (ext_alloc _ _))
  have hb : W0.cell? ⟨w.heap.size + 1, 0, none⟩ = some (.string S) := by rw [hW0]; simp [go_sem]
  go_enter Try.func22, Try.ntmps22
  go_wp2_with fail
  rw [← hW0]
  clear hW0
  (with_reducible refine (IndexFunc_any ds vq S _ W0 (hq.ext X0.out) hlen hb).mono ?_)
  rintro e w2 ⟨r, rfl, hr, hx2⟩
  have X2 := Lib.hid (X0.out.trans hx2)
  have HR := Lib.hid hr
  clear hx2 hr hb hq
  go_wp2
  go_ret
  exact ⟨r, rfl, HR.out, X2.out⟩

/-- Is there such a queue; is it a leaf? -/
def hasB (p : Tx) (l : List QD) : Bool := l.any fun q => decide (q.path = p)
def leafB' (p : Tx) (l : List QD) : Bool := hasB p l && (kidsOf p l).isEmpty
theorem has_no {p : Tx} {l : List QD} (h : ∀ q ∈ l, q.path ≠ p) : hasB p l = false := by
  unfold hasB
  rw [List.any_eq_false]
  intro q hq
  simp [h q hq]
theorem has_yes {p : Tx} {l : List QD} {k : Nat} (h : k < l.length) (e : l[k].path = p) : hasB p l = true := by
  unfold hasB
  rw [List.any_eq_true]
  exact ⟨l[k], List.getElem_mem h, by simp [e]⟩

end Go.Proofs.Ytflbhnckhbcboaa
