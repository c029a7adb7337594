/- fresh.each at texts, at queues, at no applications. -/
import Derived.Test.YtffioglbgnbieaaFrQ
import Derived.Test.YtffioglbgnbieaaCopyK
namespace Go.Proofs.Ytffioglbgnbieaa
open Go.RowKit

theorem qcells_set3 : ∀ (qs : List QC) (k : Nat) (q : QC), k < qs.length → qcells (qs.set k q) = (((qcells qs).set (k * 3) (.string q.p)).set (k * 3 + 1) (.slice q.A q.n q.c)).set (k * 3 + 2) (.int .i64 q.u)
  | [], k, _, h => by simp at h
  | p :: qs, 0, q, _ => rfl
  | p :: qs, k + 1, q, h => by
    have ih := qcells_set3 qs k q (by simpa using h)
    rw [List.set_cons_succ]
    show qenc p ++ qcells (qs.set k q) = (((qenc p ++ qcells qs).set ((k + 1) * 3) _).set ((k + 1) * 3 + 1) _).set ((k + 1) * 3 + 2) _
    rw [ih, show (k + 1) * 3 = k * 3 + 1 + 1 + 1 by omega]
    rfl
theorem qcells_at (qs : List QC) (k : Nat) (q : QC) (h : qs[k]? = some q) : (qcells qs)[k * 3]? = some (.string q.p) ∧ (qcells qs)[k * 3 + 1]? = some (.slice q.A q.n q.c) ∧ (qcells qs)[k * 3 + 2]? = some (.int .i64 q.u) := by
  induction qs generalizing k with
  | nil => simp at h
  | cons p qs ih =>
    have e : qcells (p :: qs) = .string p.p :: .slice p.A p.n p.c :: .int .i64 p.u :: qcells qs := rfl
    cases k with
    | zero =>
      simp at h
      subst h
      exact ⟨rfl, rfl, rfl⟩
    | succ k =>
      obtain ⟨h1, h2, h3⟩ := ih k (by simpa using h)
      rw [e, show (k + 1) * 3 = k * 3 + 1 + 1 + 1 by omega]
      exact ⟨h1, h2, h3⟩
theorem qcells_oneF (qs : List QC) : ∀ u ∈ qcells qs, u.oneCell' = true := by
  intro u hu
  unfold qcells at hu
  rw [List.mem_flatMap] at hu
  obtain ⟨d, _, hu⟩ := hu
  simp [qenc] at hu
  rcases hu with rfl | rfl | rfl <;> rfl
/-- The row of an owned slice that is not empty. -/
theorem own_head {w : World} {B e k n : Nat} {A : Option Addr} {c : Nat} {xs : List Value} (h : w.ownsRow B e k (.slice A n c) n xs) (hn : 0 < n) :
    ∃ g, A = some ⟨g, 0, none⟩ ∧ B ≤ g ∧ g < w.heap.size ∧ (∀ j, w.frozen? ⟨g, j, none⟩ = false) ∧ ∀ j u, xs[j]? = some u → w.cell? ⟨g, j, none⟩ = some u := by
  rcases h.2 with ⟨h', h0⟩ | ⟨g, cap, cur, h', hb, hg, hr⟩
  · omega
  · simp only [Value.slice.injEq] at h'
    obtain ⟨rfl, _, rfl⟩ := h'
    refine ⟨g, rfl, hb, (Array.getElem?_eq_some_iff.1 hg).1, fun j => by simp [World.frozen?, hg], fun j u hu => ?_⟩
    rw [h.cellAt (g := g) j (by have := (List.getElem?_eq_some_iff.1 hu).1; have := h.1; omega), hu]

def strVs (xs : List ByteArray) : List Value := xs.map Value.string
theorem strVs_one (xs : List ByteArray) : ∀ u ∈ strVs xs, u.oneCell' = true := by
  intro u hu
  simp [strVs] at hu
  obtain ⟨a, _, rfl⟩ := hu
  rfl
def EachPost (k : Nat) (t : TypeId) (n : Nat) (xs : List Value) (w : World) (e : Ending) (w' : World) : Prop := ∃ A' c', e = .returned (.slice A' n c') ∧ w'.ownsRow w.heap.size t k (.slice A' n c') n xs ∧ Ext w w'

set_option maxRecDepth 100000 in
set_option maxHeartbeats 3200000 in
theorem eachStr_any (v : Value) (xs : List ByteArray) (w : World) (hr : RdK 1 w v xs.length (strVs xs)) (hl : xs.length ≤ 1000000) (hs : ∀ x ∈ xs, x.size ≤ 1000000000000) :
    Calls Try.prog 35 #[v, .func (.func 36) #[] #[]] w (EachPost 1 9 xs.length (strVs xs) w) := by
  have HI := Lib.hid (cloneStr_any v xs.length (strVs xs) w hr (strVs_one xs) hl)
  have HS := Lib.hid hs
  obtain ⟨N, hN⟩ : ∃ N, N = xs.length := ⟨_, rfl⟩
  rw [← hN] at HI ⊢
  have HN := Lib.hid hN
  have hN1 : N ≤ 1000000 := by omega
  clear hr hs hN hl
  go_enter Try.func35, Try.ntmps35
  go_wp2_with fail
  (with_reducible refine (HI.out).mono ?_)
  unfold ClonePost
  rintro e w1 ⟨A, c, rfl, ho, hx⟩
  have HO := Lib.hid ho
  have HX := Lib.hid hx
  obtain ⟨_, _, hc1, hc2⟩ := own_shape ho
  clear ho hx
  go_wp2
  go_loopw [11] (fun i wr => ∃ (k : Nat), k ≤ N ∧ i = .int .i64 k ∧ wr.ownsRow w.heap.size 9 1 (.slice A N c) N (strVs xs) ∧ Ext w wr) (fun i _ => N - (intOf i).toNat)
  case atStart => exact ⟨0, by omega, rfl, HO.out, HX.out⟩
  case round =>
    obtain ⟨k, hkN, rfl, ho, hx⟩ := hrel
    have HR := Lib.hid ho
    have HXR := Lib.hid hx
    clear ho hx
    have i0 : (0 : Int) ≤ (k : Int) := by omega
    by_cases hlt : k < N
    · have i1 : (k : Int) < (N : Int) := by omega
      obtain ⟨g, rfl, hg1, hg2, hg3, hg4⟩ := own_head HR.out (by omega)
      have hkx : k < xs.length := by have := HN.out; omega
      obtain ⟨S, hS⟩ : ∃ S, S = xs[k] := ⟨_, rfl⟩
      have q0 := hg4 k (.string S) (by unfold strVs; rw [List.getElem?_map, List.getElem?_eq_getElem hkx, hS]; rfl)
      have HCS := Lib.hid (fun W => strClone_any S W (HS.out S (by rw [hS]; exact List.getElem_mem hkx)))
      have HGW := Lib.hid hg1
      clear hS hg4 hg1 hg2 hg3
      go_wp2_with fail
      (with_reducible refine (HCS.out _).mono ?_)
      rintro e w2 ⟨rfl, hx2⟩
      have X2 := Lib.hid (HXR.out.trans hx2)
      have HR2 := Lib.hid (own_ExtK HR.out hx2)
      have q2 := hx2.cell q0
      obtain ⟨g', e', _, _, hf, _⟩ := own_head HR2.out (by omega)
      simp only [Option.some.injEq, Addr.mk.injEq, and_true] at e'
      subst e'
      clear hx2 q0
      go_wp2
      rw [setCell_id q2]
      go_roundw
      case rel => exact ⟨k + 1, by omega, by simp, HR2.out, X2.out⟩
      case measure => simp [intOf]; omega
    · obtain rfl : k = N := by omega
      have i1 : ¬ (k : Int) < (k : Int) := by omega
      go_wp2
      go_ret
      exact ⟨A, c, rfl, HR.out, HXR.out⟩
end Go.Proofs.Ytffioglbgnbieaa
