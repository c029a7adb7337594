/- dispatchlaw5: known, within. -/
import Derived.Test.YtigfoghkndoakaaDoorParse2
import Derived.Test.YtigfoghkndoakaaDoorWith5
namespace Go.Proofs.YtigfoghkndoakaaDoor
open Go.RowKit

theorem RdConf.shape {w : World} {v : Value} {d : CD} (h : RdConf w v d) : ∃ A c A' c', v = .agg #[.slice A d.labels.length c, .slice A' d.queues.length c'] ∧ d.labels.length ≤ c ∧ d.queues.length ≤ c' ∧ c ≤ 9223372036854775807 ∧ c' ≤ 9223372036854775807 ∧
    Rd w (.slice A d.labels.length c) (d.labels.map sv) ∧ RdQs w (.slice A' d.queues.length c') d.queues := by
  obtain ⟨vl, vq, rfl, h1, h2⟩ := h
  obtain ⟨A, c, e1, l1, m1⟩ := h1.len
  rw [List.length_map] at e1 l1
  subst e1
  obtain ⟨qs, h3, h4⟩ := id h2
  obtain ⟨A', c', e2, l2, m2, _⟩ := id h3
  subst e2
  unfold maxLen at m1 m2
  exact ⟨A, c, A', c', rfl, l1, l2, by omega, by omega, h1, h2⟩

set_option maxRecDepth 100000 in
set_option maxHeartbeats 1600000 in
theorem known_any (w : World) : Calls Tryd.prog 5 #[] w fun e w' => e = .returned (.bool true) ∧ Ext w w' := by
  have hp := fun W => parse_any ⟨#[108, 97, 98, 101, 108, 115, 32, 103, 112, 117, 10, 113, 117, 101, 117, 101, 32, 114, 111, 111, 116, 32, 49, 48, 48, 48, 48, 32, 49, 48, 48, 48, 48, 47, 49, 48, 48, 48, 48, 32, 49, 48, 48, 48, 48, 47, 49, 48, 48, 48, 48, 10]⟩ W
  go_enter Tryd.func5, Tryd.ntmps5
  go_wp2_with fail
  (with_reducible refine (hp _).mono ?_)
  unfold ParsePost
  rw [show parseC (ByteArray.mk #[108, 97, 98, 101, 108, 115, 32, 103, 112, 117, 10, 113, 117, 101, 117, 101, 32, 114, 111, 111, 116, 32, 49, 48, 48, 48, 48, 32, 49, 48, 48, 48, 48, 47, 49, 48, 48, 48, 48, 32, 49, 48, 48, 48, 48, 47, 49, 48, 48, 48, 48, 10]).data.toList = _ from parse_known]
  rintro e w1 ⟨v, rfl, hv, hx⟩
  obtain ⟨A, c, A', c', rfl, _, _, hc1, hc2, hl, qs, hq1, hq2, hq3⟩ := hv.shape
  obtain ⟨q, hq4, hq5⟩ := hq3 0 (by simp)
  obtain ⟨A2, c2, e2, _, _, _, hcell⟩ := id hq1
  injection e2 with e3 _ e4
  subst e3 e4
  obtain ⟨a, rfl, hab, hcs⟩ := hcell (by rw [qcells_length, hq2]; simp)
  have hn : q.n = 2 := by
    obtain ⟨_, _, h⟩ := hq5
    obtain ⟨_, _, e, _⟩ := h
    injection e
  have x1 := hcs 1 (.slice q.A q.n q.c) (by have := qcells_get qs 0 1 (by omega); simp only [Nat.zero_mul, Nat.zero_add] at this; rw [this, hq4]; rfl)
  rw [show a.add 1 = (⟨a.block, a.off + 1, none⟩ : Addr) from by simp [Addr.add], hn] at x1
  have X := Lib.hid hx
  clear hv hl hq1 hq2 hq3 hq4 hq5 hcell hcs hx hn hp
  simp only [List.length_cons, List.length_nil, Nat.zero_add]
  go_wp2
  go_ret
  exact ⟨rfl, X.out.trans (ext_alloc _ _)⟩

end Go.Proofs.YtigfoghkndoakaaDoor
