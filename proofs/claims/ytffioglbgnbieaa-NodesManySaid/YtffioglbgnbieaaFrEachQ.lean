/- fresh.each at queues, at no applications. -/
import Derived.Test.YtffioglbgnbieaaFrEach
import Derived.Maps.AppendAt
namespace Go.Proofs.Ytffioglbgnbieaa
open Go.RowKit

/-- Queues that may be copied: no longer than that. -/
def QBnd (ds : List QD) : Prop := ds.length ≤ 1000000 ∧ ∀ q ∈ ds, q.path.length ≤ 1000000000000 ∧ q.caps.length ≤ 1000000
def QsPost (ds : List QD) (w : World) (e : Ending) (w' : World) : Prop := ∃ A c, e = .returned (.slice A ds.length c) ∧ QsAt w' w.heap.size (.slice A ds.length c) ds ∧ Ext w w'

set_option maxRecDepth 100000 in
set_option maxHeartbeats 6400000 in
theorem eachQ_any (v : Value) (ds : List QD) (w : World) (hr : RdQs w v ds) (hb : QBnd ds) :
    Calls Try.prog 37 #[v, .func (.func 38) #[] #[]] w (QsPost ds w) := by
  obtain ⟨qs, hr1, hr2, hr3⟩ := hr
  have HI := Lib.hid (cloneQueue_any v ds.length (qcells qs) w hr1 (qcells_oneF qs) hb.1)
  have HB := Lib.hid hb.2
  have HQ := Lib.hid hr3
  have HQL := Lib.hid hr2
  have hN1 := hb.1
  obtain ⟨N, hN⟩ : ∃ N, N = ds.length := ⟨_, rfl⟩
  rw [← hN] at HI HQL hN1
  have HN := Lib.hid hN
  clear hr1 hr2 hr3 hN hb
  go_enter Try.func37, Try.ntmps37
  go_wp2_with fail
  (with_reducible refine (HI.out).mono ?_)
  unfold ClonePost
  rintro e w1 ⟨A, c, rfl, ho, hx⟩
  have HO := Lib.hid ho
  have HX := Lib.hid hx
  obtain ⟨_, _, hc1, hc2⟩ := own_shape ho
  clear ho hx
  go_wp2
  go_loopw [11] (fun i wr => ∃ (k : Nat) (rs : List QC), k ≤ N ∧ i = .int .i64 k ∧ wr.ownsRow w.heap.size 58 3 (.slice A N c) N (qcells rs) ∧ rs.length = N ∧ Ext w wr ∧ (∀ (j : Nat) (h : j < ds.length), j < k → ∃ q, rs[j]? = some q ∧ IsQ wr q ds[j] ∧ ∀ g, (Value.slice q.A q.n q.c).ownBlock = some g → (Value.slice A N c).ownBlock ≠ some g ∧ w.heap.size ≤ g ∧ g < wr.heap.size) ∧ (∀ j, k ≤ j → rs[j]? = qs[j]?)) (fun i _ => N - (intOf i).toNat)
  case atStart => exact ⟨0, qs, by omega, rfl, HO.out, HQL.out, HX.out, fun j _ h => absurd h (by omega), fun _ _ => rfl⟩
  case round =>
    obtain ⟨k, rs, hkN, rfl, ho, hrl, hx, hdone, hrest⟩ := hrel
    have HR := Lib.hid ho
    have HRL := Lib.hid hrl
    have HXR := Lib.hid hx
    have HD := Lib.hid hdone
    have HT := Lib.hid hrest
    clear ho hx hrl hdone hrest
    have i0 : (0 : Int) ≤ (k : Int) := by omega
    by_cases hlt : k < N
    · have i1 : (k : Int) < (N : Int) := by omega
      obtain ⟨g, rfl, hg1, hg2, hg3, hg4⟩ := own_head HR.out (by omega)
      have hkx : k < ds.length := by have := HN.out; omega
      obtain ⟨q, hq1, hq2⟩ := HQ.out k hkx
      have hrk : rs[k]? = some q := by rw [HT.out k (Nat.le_refl _)]; exact hq1
      obtain ⟨x0, x1, x2⟩ := qcells_at rs k q hrk
      have q0 := hg4 _ _ x0
      have q1 := hg4 _ _ x1
      have q2 := hg4 _ _ x2
      have HIQ := Lib.hid (hq2.ext HXR.out)
      obtain ⟨p, Aq, nq, cq, u⟩ := q
      dsimp only at q0 q1 q2 x0 x1 x2
      have hbd := HB.out _ (List.getElem_mem hkx)
      obtain ⟨d, hd⟩ : ∃ d, d = ds[k] := ⟨_, rfl⟩
      rw [← hd] at HIQ hbd
      have HDK := Lib.hid hd
      have HGW := Lib.hid hg1
      have hnq : nq = d.caps.length := by
        obtain ⟨A', c', e, _⟩ := HIQ.out.2.2
        injection e
      subst hnq
      have HFQ := Lib.hid (fun W (x : Ext wr W) => frQueue_any p Aq d.caps.length cq u d.caps W (by rw [ba_size, HIQ.out.1]; exact hbd.1) (HIQ.out.2.2.ext x) hbd.2)
      obtain ⟨nq, hnq⟩ : ∃ nq, nq = d.caps.length := ⟨_, rfl⟩
      rw [← hnq] at HFQ q1 hrk
      have HNQ := Lib.hid hnq
      have HRK := Lib.hid hrk
      clear hd hg4 hg1 hg3 hq1 hq2 hrk x0 x1 x2 hbd hnq
      go_wp2_with fail
      (with_reducible refine (HFQ.out _ (ext_alloc _ _)).mono ?_)
      unfold FrQPost
      rintro e w2 ⟨A', c', rfl, ho', hx2⟩
      have X2 := Lib.hid (HXR.out.trans ((ext_alloc _ _).trans hx2))
      have E2 := Lib.hid (show Ext wr w2 from (ext_alloc wr (.cells #[.string p, .slice Aq nq cq, .int .i64 u] 58)).trans hx2)
      have HR2 := Lib.hid (own_ExtK HR.out E2.out)
      have HOC := Lib.hid ho'
      have HNE := Lib.hid (show ∀ g', (Value.slice A' nq c').ownBlock = some g' → g < g' from fun g' h' => by have := (ho'.lt g' h').1; simp at this; omega)
      have q0 := E2.out.cell q0
      have q1 := E2.out.cell q1
      have q2 := E2.out.cell q2
      obtain ⟨g', e', _, _, hf, _⟩ := own_head HR2.out (by omega)
      simp only [Option.some.injEq, Addr.mk.injEq, and_true] at e'
      subst e'
      clear hx2 ho' hg2
      have s1 := HR2.out.stored (k * 3) (.string p)
      have s2 := s1.1.stored (k * 3 + 1) (.slice A' nq c')
      have s3 := s2.1.stored (k * 3 + 2) (.int .i64 u)
      have HG3 := Lib.hid ((s1.2.trans s2.2).trans s3.2)
      have HROW := Lib.hid s3.1
      clear s1 s2 s3
      go_wp2
      go_roundw
      case rel =>
        have hkr : k < rs.length := by rw [HRL.out]; exact hlt
        refine ⟨k + 1, rs.set k ⟨p, A', nq, c', u⟩, by omega, by simp, ?_, by rw [List.length_set]; exact HRL.out, ?_, ?_, ?_⟩
        · rw [qcells_set3 rs k _ hkr]
          exact HROW.out
        · exact ext_set (ext_set (ext_set X2.out HGW.out _) HGW.out _) HGW.out _
        · intro j hj hjk
          by_cases hjk' : j = k
          · subst hjk'
            refine ⟨⟨p, A', nq, c', u⟩, by rw [List.getElem?_set]; simp [hkr], ?_, fun g' h' => ⟨fun e => by simp [Value.ownBlock] at e; subst e; have := HNE.out _ h'; omega, by have := HNE.out _ h'; have := HGW.out; omega, by have := (HOC.out.lt g' h').2; simpa using this⟩⟩
            have h9 := (RdK.of_own HOC.out).grown HG3.out (fun g' e h' => by injection e with e; subst e; have := HNE.out _ h'; omega)
            rw [← HDK.out]
            exact ⟨HIQ.out.1, HIQ.out.2.1, by rw [← HNQ.out]; exact h9⟩
          · obtain ⟨q', h1, h2, h3⟩ := HD.out j hj (by omega)
            refine ⟨q', by rw [List.getElem?_set, if_neg (by omega)]; exact h1, ?_, fun g' h' => ⟨(h3 g' h').1, (h3 g' h').2.1, by have h4 := (h3 g' h').2.2; have h5 := E2.out.size; simp; omega⟩⟩
            have h2' := h2.ext E2.out
            exact ⟨h2'.1, h2'.2.1, h2'.2.2.grown HG3.out (fun g' e h' => by injection e with e; subst e; exact (h3 g h').1 rfl)⟩
        · intro j hj
          rw [List.getElem?_set, if_neg (by omega)]
          exact HT.out j (by omega)
      case measure => simp [intOf]; omega
    · obtain rfl : k = N := by omega
      have i1 : ¬ (k : Int) < (k : Int) := by omega
      go_wp2
      go_ret
      refine ⟨A, c, by rw [← HN.out]; rfl, ?_, HXR.out⟩
      rw [← HN.out]
      exact ⟨rs, by rw [← HN.out]; exact HR.out, by rw [HRL.out, HN.out], fun j hj => HD.out j hj (by have := HN.out; omega)⟩
end Go.Proofs.Ytffioglbgnbieaa
