/- rule.Check, whole. -/
import Derived.Test.YtflbhnckhbcboaaDoorShW
import Derived.Test.YtflbhnckhbcboaaDoorCheckC
namespace Go.Proofs.YtflbhnckhbcboaaDoor
open Go.RowKit

theorem bound_ok {ds : List QD} {n : Nat} (h : queuesC ds n = 0) : ∀ q ∈ ds, boundB q.user q.caps n = true := by
  intro q hq
  obtain ⟨k, hk, rfl⟩ := List.getElem_of_mem hq
  have := firstErr_zero _ _ h k (by omega) (by omega)
  unfold oneC at this
  split at this
  · split at this
    · rename_i hb
      rwa [boundAt_eq hk] at hb
    · cases this
  · exact absurd this (by assumption)
theorem least_ok {u : Int} {cs : List (Int × Int)} {n : Nat} {p : Tx} (h : boundB u cs n = true) (label : Nat) : 0 ≤ leastAt ⟨p, cs, u⟩ label ∧ leastAt ⟨p, cs, u⟩ label ≤ 10000 := by
  unfold boundB at h
  simp only [Bool.and_eq_true, Bool.not_eq_true', List.any_eq_false] at h
  unfold leastAt
  cases hc : cs[label]? with
  | none => simp
  | some c =>
    have := h.2 c (List.mem_of_getElem? hc)
    unfold outB at this
    simp only [Bool.or_eq_true, decide_eq_true_eq, not_or] at this
    simp only
    omega

/-- What Check asks of a configuration in memory. -/
structure ConfAt (w : World) (vl vq : Value) (ls : List Tx) (ds : List QD) : Prop where
  labs : Rd w vl (ls.map sv)
  qs : QAt w vq ds
  caps : CapsQ w vq ds
  llen : ls.length ≤ 1000
  qlen : ds.length ≤ 1000
  plen : ∀ q ∈ ds, q.path.length ≤ 1000000000
  clen : ∀ q ∈ ds, q.caps.length ≤ 1000
  mlen : ∃ m, w.cell? ⟨0, 0, none⟩ = some (.int .i64 m)
theorem ConfAt.ok {w : World} {vl vq : Value} {ls : List Tx} {ds : List QD} (h : ConfAt w vl vq ls ds) : ConfOk w vl vq ls ds :=
  ⟨h.labs, h.qs, h.caps, h.llen, h.qlen, h.plen, h.clen, h.mlen, fun hl1 hl3 h0 hd hz label hlab W hx =>
    sharesWhole_any ds vl vq label W (h.qs.ext hx) (h.caps.ext hx) h0 hd h.plen (fun q hq => by rw [caps_len hz q hq]; omega) (fun q hq => least_ok (p := q.path) (bound_ok hz q hq) label)⟩
theorem Check_all {w : World} {vl vq : Value} {ls : List Tx} {ds : List QD} (h : ConfAt w vl vq ls ds) :
    Calls Tryd.prog 9 #[.agg #[vl, vq]] w fun e w' => e = .returned (.int .i64 (checkC ls ds)) ∧ Ext w w' := Check_any h.ok
end Go.Proofs.YtflbhnckhbcboaaDoor
