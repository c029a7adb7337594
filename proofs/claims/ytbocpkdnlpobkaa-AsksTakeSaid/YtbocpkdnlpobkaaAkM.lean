/- Asks in memory; asks.place, asks.joined. -/
import Derived.Test.YtbocpkdnlpobkaaAkP
import Derived.Test.YtbocpkdnlpobkaaBlk0
import Derived.Test.YtbocpkdnlpobkaaSched
import Derived.Test.YtbocpkdnlpobkaaCopyK
import Derived.Test.YtbocpkdnlpobkaaFoot
import Derived.Laws.Cover1
namespace Go.Proofs.Ytbocpkdnlpobkaa
open Go.RowKit

theorem Try.infoAk : (Try.prog.info? 25).map (fun i => (i.zero, i.size, i.bytes)) = some (some (.agg #[.int .i64 0, .int .i64 0, .int .i64 0, .int .i64 0, .int .i64 0, .int .i64 0, .int .i64 0, .int .i64 0]), 8, 64) := by kernel_rfl
/-- Ask d is the k-th one of block g. -/
def AAt (w : World) (g k : Nat) (d : AD) : Prop :=
  w.cell? ⟨g, k * 8, none⟩ = some (.int .i64 d.prio) ∧ w.cell? ⟨g, k * 8 + 1, none⟩ = some (.int .i64 d.label) ∧ w.cell? ⟨g, k * 8 + 2, none⟩ = some (.int .i64 d.mem) ∧ w.cell? ⟨g, k * 8 + 3, none⟩ = some (.int .i64 d.cores) ∧
    w.cell? ⟨g, k * 8 + 4, none⟩ = some (.int .i64 d.count) ∧ w.cell? ⟨g, k * 8 + 5, none⟩ = some (.int .i64 d.node) ∧ w.cell? ⟨g, k * 8 + 6, none⟩ = some (.int .i64 d.rack) ∧ w.cell? ⟨g, k * 8 + 7, none⟩ = some (.int .i64 d.missed)
theorem AAt.ext {w w' : World} {g k : Nat} {d : AD} (h : AAt w g k d) (x : Ext w w') : AAt w' g k d :=
  ⟨x.cell h.1, x.cell h.2.1, x.cell h.2.2.1, x.cell h.2.2.2.1, x.cell h.2.2.2.2.1, x.cell h.2.2.2.2.2.1, x.cell h.2.2.2.2.2.2.1, x.cell h.2.2.2.2.2.2.2⟩
/-- A list of asks at the head of a block. -/
abbrev HdA (w : World) (v : Value) (ds : List AD) : Prop := Hd w v ds.length (acells ds)
theorem Hd.ask {w : World} {v : Value} {ds : List AD} (h : HdA w v ds) : ∃ A N c, v = .slice A N c ∧ N = ds.length ∧ N ≤ c ∧ c ≤ 9223372036854775807 ∧ (0 < N → ∃ g, A = some ⟨g, 0, none⟩ ∧ g < w.heap.size ∧ ∀ k (hk : k < ds.length), AAt w g k ds[k]) := by
  obtain ⟨A, c, rfl, h1, h2, h3⟩ := h
  unfold maxLen at h2
  refine ⟨A, _, c, rfl, rfl, h1, by omega, fun hn => ?_⟩
  obtain ⟨g, rfl, hg, hc⟩ := h3 hn
  refine ⟨g, rfl, hg, fun k hk => ?_⟩
  have hj : ∀ j, j < 8 → (acells ds)[k * 8 + j]? = (aenc ds[k])[j]? := fun j hj => acells_get ds k hk j hj
  exact ⟨hc _ _ (hj 0 (by omega)), hc _ _ (hj 1 (by omega)), hc _ _ (hj 2 (by omega)), hc _ _ (hj 3 (by omega)), hc _ _ (hj 4 (by omega)), hc _ _ (hj 5 (by omega)), hc _ _ (hj 6 (by omega)), hc _ _ (hj 7 (by omega))⟩
theorem aAt_of {w : World} {g : Nat} {ds : List AD} (hc : ∀ j u, (acells ds)[j]? = some u → w.cell? ⟨g, j, none⟩ = some u) (k : Nat) (hk : k < ds.length) : AAt w g k ds[k] := by
  have hj : ∀ j, j < 8 → (acells ds)[k * 8 + j]? = (aenc ds[k])[j]? := fun j hj => acells_get ds k hk j hj
  exact ⟨hc _ _ (hj 0 (by omega)), hc _ _ (hj 1 (by omega)), hc _ _ (hj 2 (by omega)), hc _ _ (hj 3 (by omega)), hc _ _ (hj 4 (by omega)), hc _ _ (hj 5 (by omega)), hc _ _ (hj 6 (by omega)), hc _ _ (hj 7 (by omega))⟩
theorem Hd.rdK {w : World} {v : Value} {ds : List AD} (h : HdA w v ds) : RdK 8 w v ds.length (acells ds) := by
  obtain ⟨A, c, rfl, h1, h2, h3⟩ := h
  refine ⟨A, c, rfl, h1, h2, acells_len ds, fun hn => ?_⟩
  rw [acells_len] at hn
  obtain ⟨g, rfl, hg, hc⟩ := h3 (by omega)
  exact ⟨⟨g, 0, none⟩, rfl, hg, fun j u hu => by rw [head_add, Nat.zero_add]; exact hc j u hu⟩

/-- How far place has come. -/
theorem place_step {ds : List AD} (h : SrtA ds) {p : Int} {k : Nat} (hk : k < ds.length) (hno : ∀ x ∈ ds.take k, x.prio ≠ p) (hne : ds[k].prio ≠ p) : (∀ x ∈ ds.take (k + 1), x.prio ≠ p) ∧ (lowA p (ds.take (k + 1))).length = if ds[k].prio < p then k + 1 else (lowA p (ds.take k)).length := by
  have e : ds.take (k + 1) = ds.take k ++ [ds[k]] := (List.take_append_getElem hk).symm
  refine ⟨fun x hx => ?_, ?_⟩
  · rw [e] at hx
    rcases List.mem_append.1 hx with hx | hx
    · exact hno x hx
    · rw [List.mem_singleton] at hx; rw [hx]; exact hne
  · obtain ⟨h1, _⟩ := h.parts k hk
    split
    · rename_i hlt
      rw [lowA_all]
      · rw [List.length_take]; omega
      · intro x hx
        rw [e] at hx
        rcases List.mem_append.1 hx with hx | hx
        · have := h1 x hx; omega
        · rw [List.mem_singleton] at hx; rw [hx]; exact hlt
    · rename_i hlt
      rw [e, lowA_app]
      have : lowA p [ds[k]] = [] := lowA_none (fun x hx => by rw [List.mem_singleton] at hx; rw [hx]; omega)
      rw [this, List.append_nil]
theorem place_hit {ds : List AD} (h : SrtA ds) {p : Int} {k : Nat} (hk : k < ds.length) (he : ds[k].prio = p) : (lowA p ds).length = k ∧ hasA p ds = true := by
  subst he
  refine ⟨?_, hasA_at k hk⟩
  rw [lowA_at h k hk, List.length_take]
  omega
theorem place_end {ds : List AD} {p : Int} (hno : ∀ x ∈ ds, x.prio ≠ p) : hasA p ds = false := by
  unfold hasA
  rw [List.any_eq_false]
  intro x hx
  have := hno x hx
  simpa using this

/-- A struct of eight cells is laid and written. -/
theorem ext_new8 (w : World) (o : Obj) (v0 v1 v2 v3 v4 v5 v6 v7 : Value) : Ext w (((((((((w.alloc o).setCell ⟨w.heap.size, 0, none⟩ v0).setCell ⟨w.heap.size, 1, none⟩ v1).setCell ⟨w.heap.size, 2, none⟩ v2).setCell ⟨w.heap.size, 3, none⟩ v3).setCell ⟨w.heap.size, 4, none⟩ v4).setCell ⟨w.heap.size, 5, none⟩ v5).setCell ⟨w.heap.size, 6, none⟩ v6).setCell ⟨w.heap.size, 7, none⟩ v7) :=
  ext_set (ext_set (ext_set (ext_set (ext_set (ext_set (ext_set (ext_set (ext_alloc _ _) (Nat.le_refl _) _) (Nat.le_refl _) _) (Nat.le_refl _) _) (Nat.le_refl _) _) (Nat.le_refl _) _) (Nat.le_refl _) _) (Nat.le_refl _) _) (Nat.le_refl _) _

set_option maxRecDepth 100000 in
set_option maxHeartbeats 1600000 in
theorem place_any (ds : List AD) (v : Value) (p : Int) (w : World) (hn : HdA w v ds) (hlen : ds.length ≤ 1000) (hs : SrtA ds) :
    Calls Try.prog 29 #[v, .int .i64 p] w fun e w' => e = .returned (.tuple #[.int .i64 ((lowA p ds).length : Nat), .bool (hasA p ds)]) ∧ Ext w w' := by
  obtain ⟨A, N, c, rfl, hN, hc1, hc2, hcell⟩ := hn.ask
  have HC := Lib.hid hcell
  have HN := Lib.hid hN
  have HSR := Lib.hid hs
  have hN1 : N ≤ 1000 := by omega
  clear hcell hN hn hlen hs
  go_enter Try.func29, Try.ntmps29
  go_wp2
  go_loopw [4, 10] (fun at_ i wr => ∃ (k a : Nat), k ≤ N ∧ a ≤ N ∧ i = .int .i64 k ∧ at_ = .int .i64 a ∧ a = (lowA p (ds.take k)).length ∧ (∀ x ∈ ds.take k, x.prio ≠ p) ∧ Ext w wr) (fun _ i _ => N - (intOf i).toNat)
  case atStart => exact ⟨0, 0, by omega, by omega, rfl, rfl, by simp [lowA], fun x hx => absurd hx (by simp), Ext.refl _⟩
  case round =>
    obtain ⟨k, a, hkN, haN, rfl, rfl, ha, hno, hx⟩ := hrel
    have HX := Lib.hid hx
    have HNO := Lib.hid hno
    have HA := Lib.hid ha
    clear hx hno ha
    have i0 : (0 : Int) ≤ (k : Int) := by omega
    by_cases hlt : k < N
    · have i1 : (k : Int) < (N : Int) := by omega
      have hkd : k < ds.length := by have := HN.out; omega
      obtain ⟨g, rfl, _, hg⟩ := HC.out (by omega)
      obtain ⟨q0, q1, q2, q3, q4, q5, q6, q7⟩ := (hg k hkd).ext HX.out
      have HPL := Lib.hid (fun h => place_step HSR.out (p := p) hkd HNO.out h)
      have HPH := Lib.hid (fun h => place_hit HSR.out (p := p) hkd h)
      obtain ⟨d, hd⟩ : ∃ d, d = ds[k] := ⟨_, rfl⟩
      rw [← hd] at q0 q1 q2 q3 q4 q5 q6 q7 HPL HPH
      clear hd hg
      obtain ⟨dp, dl, dm, dc, dn, dno, dr, dmi⟩ := d
      simp only at q0 q1 q2 q3 q4 q5 q6 q7 HPL HPH
      by_cases h1 : dp = p
      · have HV := Lib.hid (HPH.out h1)
        have t1 : (dp == p) = true := by simpa using h1
        clear h1 HPL HPH
        go_wp2
        refine bodyPost_ret (by simp [results, Try.results29, go_sem]; try rfl) rfl ?_
        exact ⟨by rw [HV.out.1, HV.out.2], HX.out.trans (ext_alloc _ _)⟩
      · have HV := Lib.hid (HPL.out h1)
        have t1 : (dp == p) = false := by simpa using h1
        clear h1 HPL HPH
        by_cases h2 : dp < p
        · have t2 : decide (dp < p) = true := by simpa using h2
          have HV2 := Lib.hid (show k + 1 = (lowA p (ds.take (k + 1))).length by rw [HV.out.2, if_pos h2])
          clear h2
          go_wp2
          go_roundw
          case rel => exact ⟨k + 1, k + 1, by omega, by omega, by simp, by simp, HV2.out, HV.out.1, HX.out.trans (ext_alloc _ _)⟩
          case measure => simp [intOf]; omega
        · have t2 : decide (dp < p) = false := by simpa using h2
          have HV2 := Lib.hid (show a = (lowA p (ds.take (k + 1))).length by rw [HV.out.2, if_neg h2, HA.out])
          clear h2
          go_wp2
          go_roundw
          case rel => exact ⟨k + 1, a, by omega, by omega, by simp, rfl, HV2.out, HV.out.1, HX.out.trans (ext_alloc _ _)⟩
          case measure => simp [intOf]; omega
    · obtain rfl : k = N := by omega
      have i1 : ¬ (k : Int) < (k : Int) := by omega
      have ht : ds.take k = ds := by rw [HN.out, List.take_length]
      have HV := Lib.hid (show a = (lowA p ds).length ∧ hasA p ds = false by have h1 := HA.out; have h2 := HNO.out; rw [ht] at h1 h2; exact ⟨h1, place_end h2⟩)
      clear ht
      go_wp2
      refine bodyPost_ret (by simp [results, Try.results29, go_sem]; try rfl) rfl ?_
      exact ⟨by rw [HV.out.1, HV.out.2], HX.out⟩
end Go.Proofs.Ytbocpkdnlpobkaa
