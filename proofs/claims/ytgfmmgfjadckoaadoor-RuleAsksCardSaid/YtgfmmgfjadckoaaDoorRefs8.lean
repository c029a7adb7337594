/- dispatchref6.Leaf. -/
import Derived.Test.YtgfmmgfjadckoaaDoorRefs7
namespace Go.Proofs.YtgfmmgfjadckoaaDoor
open Go.RowKit

set_option maxRecDepth 100000 in
set_option maxHeartbeats 3200000 in
theorem rLeaf_any (ds : List QD) (vl vq : Value) (S : ByteArray) (w : World) (hq : QAt w vq ds) (hlen : ds.length ≤ 1000) (hp : ∀ q ∈ ds, q.path.length ≤ 1000000000) (hcp : ∀ q ∈ ds, 1 ≤ q.caps.length ∧ q.caps.length ≤ 1000) :
    Calls Tryd.prog 22 #[.agg #[vl, vq], .string S] w fun e w' => e = .returned (.bool (leafB' S.data.toList ds)) ∧ Ext w w' := by
  obtain ⟨W0, hW0⟩ : ∃ W0, W0 = w.alloc (.cells #[vl, vq] 25) := ⟨_, rfl⟩
  have X0 := Lib.hid (show Ext w W0 by rw [hW0]; exact ext_alloc _ _)
  have b0 : W0.cell? ⟨w.heap.size, 0, none⟩ = some vl := by rw [hW0]; simp [go_sem]
  have b1 : W0.cell? ⟨w.heap.size, 1, none⟩ = some vq := by rw [hW0]; simp [go_sem]
  have HQ := Lib.hid hq
  clear hq
  go_enter Tryd.func22, Tryd.ntmps22
  go_wp2_with fail
  rw [← hW0]
  clear hW0
  (with_reducible refine (rFind_any ds vl vq S W0 (HQ.out.ext X0.out) hlen hcp).mono ?_)
  rintro e w2 ⟨P, A, n, c, u, rfl, hx2, _⟩
  have X2 := Lib.hid (X0.out.trans hx2)
  have c0 := hx2.cell b0
  have c1 := hx2.cell b1
  clear hx2 b0 b1
  cases hh : hasB S.data.toList ds with
  | false =>
    have HL := Lib.hid (show leafB' S.data.toList ds = false by unfold leafB'; rw [hh]; rfl)
    clear hh
    go_wp2
    go_ret
    rw [HL.out]
    exact ⟨rfl, X2.out.trans (ext_alloc _ _)⟩
  | true =>
    have HL := Lib.hid (show leafB' S.data.toList ds = (kidsOf S.data.toList ds).isEmpty by unfold leafB'; rw [hh]; rfl)
    clear hh
    have d0 := (ext_alloc w2 (.cells #[.string P, .slice A n c, .int .i64 u] 33)).cell c0
    have d1 := (ext_alloc w2 (.cells #[.string P, .slice A n c, .int .i64 u] 33)).cell c1
    go_wp2_with fail
    (with_reducible refine (rKids_any ds vl vq S _ (HQ.out.ext (X2.out.trans (ext_alloc w2 _))) hlen hp).mono ?_)
    rintro e w3 ⟨A3, n3, c3, rfl, hn, _, hx3⟩
    have X3 := Lib.hid ((X2.out.trans (ext_alloc w2 _)).trans hx3)
    have hn1 : n3 ≤ 1000 := by have := kids_len S.data.toList ds; omega
    clear hx3
    by_cases h0 : n3 = 0
    · have HL2 := Lib.hid (show leafB' S.data.toList ds = true by rw [HL.out, List.isEmpty_iff]; exact List.eq_nil_of_length_eq_zero (by omega))
      subst h0
      clear hn
      go_wp2
      go_ret
      rw [HL2.out]
      exact ⟨rfl, X3.out⟩
    · have HL2 := Lib.hid (show leafB' S.data.toList ds = false by
        rw [HL.out]
        cases hk : kidsOf S.data.toList ds with
        | nil => rw [hk] at hn; exact absurd hn h0
        | cons a b => rfl)
      have q0 : ((n3 : Int) == 0) = false := by simp; omega
      clear hn h0
      go_wp2
      go_ret
      rw [HL2.out]
      exact ⟨rfl, X3.out⟩
end Go.Proofs.YtgfmmgfjadckoaaDoor
