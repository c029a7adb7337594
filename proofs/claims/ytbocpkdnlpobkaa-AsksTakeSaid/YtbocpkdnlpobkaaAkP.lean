/- Asks as plain lists: what stands below, at, above a Prio; what is set, taken, missed, pending. -/
import Derived.Test.YtbocpkdnlpobkaaStG
namespace Go.Proofs.Ytbocpkdnlpobkaa
open Go.RowKit

structure AD where
  prio : Int
  label : Int
  mem : Int
  cores : Int
  count : Int
  node : Int
  rack : Int
  missed : Int
  deriving DecidableEq
def aenc (d : AD) : List Value := [.int .i64 d.prio, .int .i64 d.label, .int .i64 d.mem, .int .i64 d.cores, .int .i64 d.count, .int .i64 d.node, .int .i64 d.rack, .int .i64 d.missed]
def askV (d : AD) : Value := .agg #[.int .i64 d.prio, .int .i64 d.label, .int .i64 d.mem, .int .i64 d.cores, .int .i64 d.count, .int .i64 d.node, .int .i64 d.rack, .int .i64 d.missed]
def acells (ds : List AD) : List Value := ds.flatMap aenc
theorem acells_app (a b : List AD) : acells (a ++ b) = acells a ++ acells b := by simp [acells]
theorem acells_snoc (ds : List AD) (d : AD) : acells (ds ++ [d]) = acells ds ++ aenc d := by simp [acells]
theorem acells_len (ds : List AD) : (acells ds).length = ds.length * 8 := flat_len aenc 8 (fun _ => rfl) ds
theorem acells_take (ds : List AD) (k : Nat) : acells (ds.take k) = (acells ds).take (k * 8) := by
  induction ds generalizing k with
  | nil => simp [acells]
  | cons d ds ih =>
    cases k with
    | zero => simp [acells]
    | succ k =>
      rw [List.take_succ_cons]
      show aenc d ++ acells (ds.take k) = (aenc d ++ acells ds).take ((k + 1) * 8)
      rw [ih, show (k + 1) * 8 = (aenc d).length + k * 8 by simp [aenc]; omega, List.take_length_add_append]
theorem acells_drop (ds : List AD) (k : Nat) : acells (ds.drop k) = (acells ds).drop (k * 8) := by
  induction ds generalizing k with
  | nil => simp [acells]
  | cons d ds ih =>
    cases k with
    | zero => simp
    | succ k =>
      rw [List.drop_succ_cons]
      show acells (ds.drop k) = (aenc d ++ acells ds).drop ((k + 1) * 8)
      rw [ih, show (k + 1) * 8 = (aenc d).length + k * 8 by simp [aenc]; omega, List.drop_length_add_append]
theorem aenc_one (d : AD) : ∀ u ∈ aenc d, u.oneCell' = true := by
  intro u hu
  simp [aenc] at hu
  rcases hu with rfl | rfl | rfl | rfl | rfl | rfl | rfl | rfl <;> rfl
theorem acells_one (ds : List AD) : ∀ u ∈ acells ds, u.oneCell' = true := by
  intro u hu
  unfold acells at hu
  rw [List.mem_flatMap] at hu
  obtain ⟨d, _, hu⟩ := hu
  exact aenc_one d u hu
theorem acells_get (ds : List AD) (k : Nat) (hk : k < ds.length) (j : Nat) (hj : j < 8) : (acells ds)[k * 8 + j]? = (aenc ds[k])[j]? := flat_get aenc 8 (fun _ => rfl) ds k j hk hj

/-- By Prio, each once. -/
def SrtA (ds : List AD) : Prop := ds.Pairwise (fun a b => a.prio < b.prio)
def lowA (p : Int) (ds : List AD) : List AD := ds.filter (fun x => decide (x.prio < p))
def highA (p : Int) (ds : List AD) : List AD := ds.filter (fun x => decide (p < x.prio))
def hasA (p : Int) (ds : List AD) : Bool := ds.any (fun x => x.prio == p)
theorem lowA_app (p : Int) (a b : List AD) : lowA p (a ++ b) = lowA p a ++ lowA p b := by simp [lowA]
theorem highA_app (p : Int) (a b : List AD) : highA p (a ++ b) = highA p a ++ highA p b := by simp [highA]
theorem lowA_all {p : Int} {ds : List AD} (h : ∀ x ∈ ds, x.prio < p) : lowA p ds = ds := by unfold lowA; rw [List.filter_eq_self]; intro x hx; simpa using h x hx
theorem lowA_none {p : Int} {ds : List AD} (h : ∀ x ∈ ds, p ≤ x.prio) : lowA p ds = [] := by unfold lowA; rw [List.filter_eq_nil_iff]; intro x hx; have := h x hx; simp; omega
theorem highA_all {p : Int} {ds : List AD} (h : ∀ x ∈ ds, p < x.prio) : highA p ds = ds := by unfold highA; rw [List.filter_eq_self]; intro x hx; simpa using h x hx
theorem highA_none {p : Int} {ds : List AD} (h : ∀ x ∈ ds, x.prio ≤ p) : highA p ds = [] := by unfold highA; rw [List.filter_eq_nil_iff]; intro x hx; have := h x hx; simp; omega
theorem lowA_le (p : Int) (ds : List AD) : (lowA p ds).length ≤ ds.length := List.length_filter_le _ _
theorem highA_le (p : Int) (ds : List AD) : (highA p ds).length ≤ ds.length := List.length_filter_le _ _

theorem SrtA.parts {ds : List AD} (h : SrtA ds) (k : Nat) (hk : k < ds.length) : (∀ x ∈ ds.take k, x.prio < ds[k].prio) ∧ (∀ x ∈ ds.drop (k + 1), ds[k].prio < x.prio) := by
  unfold SrtA at h
  have hp := List.pairwise_iff_getElem.1 h
  constructor
  · intro x hx
    obtain ⟨i, hi, rfl⟩ := List.getElem_of_mem hx
    rw [List.length_take] at hi
    rw [List.getElem_take]
    exact hp i k (by omega) hk (by omega)
  · intro x hx
    obtain ⟨i, hi, rfl⟩ := List.getElem_of_mem hx
    rw [List.length_drop] at hi
    rw [List.getElem_drop]
    exact hp k (k + 1 + i) hk (by omega) (by omega)
theorem split_at {ds : List AD} (k : Nat) (hk : k < ds.length) : ds = ds.take k ++ ds[k] :: ds.drop (k + 1) := by
  rw [List.getElem_cons_drop, List.take_append_drop]
theorem lowA_at {ds : List AD} (h : SrtA ds) (k : Nat) (hk : k < ds.length) : lowA ds[k].prio ds = ds.take k := by
  obtain ⟨h1, h2⟩ := h.parts k hk
  rw [show lowA ds[k].prio ds = lowA ds[k].prio (ds.take k ++ ds[k] :: ds.drop (k + 1)) by rw [← split_at k hk], lowA_app, lowA_all h1, lowA_none, List.append_nil]
  intro x hx
  rcases List.mem_cons.1 hx with rfl | hx
  · exact Int.le_refl _
  · have := h2 x hx; omega
theorem highA_at {ds : List AD} (h : SrtA ds) (k : Nat) (hk : k < ds.length) : highA ds[k].prio ds = ds.drop (k + 1) := by
  obtain ⟨h1, h2⟩ := h.parts k hk
  rw [show highA ds[k].prio ds = highA ds[k].prio (ds.take k ++ ds[k] :: ds.drop (k + 1)) by rw [← split_at k hk], highA_app, highA_none (fun x hx => by have := h1 x hx; omega), List.nil_append]
  show List.filter _ (ds[k] :: ds.drop (k + 1)) = _
  rw [List.filter_cons_of_neg (by simp)]
  exact highA_all h2
/-- One that is not there: below it the first ones, above it all others. -/
theorem low_high {ds : List AD} (h : SrtA ds) {p : Int} (hn : hasA p ds = false) : ds = lowA p ds ++ highA p ds := by
  induction ds with
  | nil => rfl
  | cons x l ih =>
    have hs := List.pairwise_cons.1 h
    simp [hasA] at hn
    have ih := ih hs.2 (by simp [hasA]; exact hn.2)
    by_cases h1 : x.prio < p
    · have e1 : lowA p (x :: l) = x :: lowA p l := by unfold lowA; rw [List.filter_cons_of_pos (by simpa using h1)]
      have e2 : highA p (x :: l) = highA p l := by unfold highA; rw [List.filter_cons_of_neg (by simp; omega)]
      rw [e1, e2, List.cons_append, ← ih]
    · have h2 : p < x.prio := by have := hn.1; omega
      rw [lowA_none (ds := x :: l) (fun y hy => (List.mem_cons.1 hy).elim (fun e => by subst e; omega) (fun hy => by have := hs.1 y hy; omega)), highA_all (ds := x :: l) (fun y hy => (List.mem_cons.1 hy).elim (fun e => by subst e; omega) (fun hy => by have := hs.1 y hy; omega))]
      rfl
theorem SrtA.low {ds : List AD} (h : SrtA ds) (p : Int) : SrtA (lowA p ds) := List.Pairwise.filter _ h
theorem SrtA.high {ds : List AD} (h : SrtA ds) (p : Int) : SrtA (highA p ds) := List.Pairwise.filter _ h

/-- What stands at Prio p is x instead. -/
def midA (p : Int) (ds x : List AD) : List AD := lowA p ds ++ x ++ highA p ds
def setOne (a : AD) : List AD := if a.count = 0 then [] else [a]
def putA (ds : List AD) (a : AD) : List AD := midA a.prio ds (setOne a)
def setA (ds : List AD) (a : AD) : List AD := putA ds { a with missed := 0 }
def setE (ds : List AD) (a : AD) : Int := if (setA ds a).length > 8 then 4 else 0
def setL (ds : List AD) (a : AD) : List AD := if (setA ds a).length > 8 then [] else setA ds a
def zAD : AD := ⟨0, 0, 0, 0, 0, 0, 0, 0⟩
def getA (p : Int) (ds : List AD) : AD := (ds.find? (fun x => x.prio == p)).getD zAD
def takeA (ds : List AD) (p : Int) : List AD := if hasA p ds then putA ds { getA p ds with count := (getA p ds).count - 1, missed := 0 } else ds
def missA (ds : List AD) (p : Int) : List AD := ds.map (fun x => if x.prio = p then { x with missed := min (x.missed + 1) 100 } else x)
def pendA (ds : List AD) (label : Int) : Int × Int := ds.foldl (fun s d => if d.label = label then (wrap64 (s.1 + wrap64 (d.count * d.mem)), wrap64 (s.2 + wrap64 (d.count * d.cores))) else s) (0, 0)
theorem pendA_snoc (ds : List AD) (d : AD) (label : Int) : pendA (ds ++ [d]) label = if d.label = label then (wrap64 ((pendA ds label).1 + wrap64 (d.count * d.mem)), wrap64 ((pendA ds label).2 + wrap64 (d.count * d.cores))) else pendA ds label := by simp [pendA]

theorem SrtA.mid {ds : List AD} (h : SrtA ds) {p : Int} {x : List AD} (hx : x.length ≤ 1 ∧ ∀ y ∈ x, y.prio = p) : SrtA (midA p ds x) := by
  unfold midA SrtA
  have hl : ∀ y ∈ lowA p ds, y.prio < p := fun y hy => by simpa using (List.mem_filter.1 hy).2
  have hh : ∀ y ∈ highA p ds, p < y.prio := fun y hy => by simpa using (List.mem_filter.1 hy).2
  rw [List.append_assoc, List.pairwise_append, List.pairwise_append]
  refine ⟨h.low p, ⟨?_, h.high p, fun a ha b hb => ?_⟩, fun a ha b hb => ?_⟩
  · match x, hx with
    | [], _ => exact List.Pairwise.nil
    | [y], _ => exact List.pairwise_singleton _ _
    | _ :: _ :: _, hx => simp at hx
  · have := hx.2 a ha; have := hh b hb; omega
  · have := hl a ha
    rcases List.mem_append.1 hb with hb | hb
    · have := hx.2 b hb; omega
    · have := hh b hb; omega
theorem setOne_ok (a : AD) : (setOne a).length ≤ 1 ∧ ∀ y ∈ setOne a, y.prio = a.prio := by
  unfold setOne
  split
  · exact ⟨by simp, by simp⟩
  · exact ⟨by simp, by simp⟩
theorem SrtA.put {ds : List AD} (h : SrtA ds) (a : AD) : SrtA (putA ds a) := h.mid (setOne_ok a)
theorem SrtA.set {ds : List AD} (h : SrtA ds) (a : AD) : SrtA (setA ds a) := h.put _
theorem SrtA.setL {ds : List AD} (h : SrtA ds) (a : AD) : SrtA (setL ds a) := by
  unfold Go.Proofs.Ytbocpkdnlpobkaa.setL
  split
  · exact List.Pairwise.nil
  · exact h.set a
theorem getA_at {ds : List AD} (h : SrtA ds) (k : Nat) (hk : k < ds.length) : getA ds[k].prio ds = ds[k] := by
  obtain ⟨h1, _⟩ := h.parts k hk
  unfold getA
  rw [show ds.find? (fun x => x.prio == ds[k].prio) = (ds.take k ++ ds[k] :: ds.drop (k + 1)).find? (fun x => x.prio == ds[k].prio) by rw [← split_at k hk], List.find?_append, List.find?_eq_none.2 (fun x hx => by have := h1 x hx; simp; omega), Option.none_or, List.find?_cons_of_pos (by simp)]
  rfl
theorem hasA_at {ds : List AD} (k : Nat) (hk : k < ds.length) : hasA ds[k].prio ds = true := by
  unfold hasA
  rw [List.any_eq_true]
  exact ⟨ds[k], List.getElem_mem hk, by simp⟩
theorem hasA_idx {p : Int} {ds : List AD} (h : hasA p ds = true) : ∃ k, ∃ hk : k < ds.length, ds[k].prio = p := by
  unfold hasA at h
  rw [List.any_eq_true] at h
  obtain ⟨x, hx, e⟩ := h
  obtain ⟨k, hk, rfl⟩ := List.getElem_of_mem hx
  exact ⟨k, hk, by simpa using e⟩
theorem hasA_no {p : Int} {ds : List AD} (h : hasA p ds = false) : ∀ x ∈ ds, x.prio ≠ p := by
  intro x hx e
  have : hasA p ds = true := by unfold hasA; rw [List.any_eq_true]; exact ⟨x, hx, by simpa using e⟩
  rw [this] at h; cases h
theorem SrtA.take {ds : List AD} (h : SrtA ds) (p : Int) : SrtA (takeA ds p) := by
  unfold takeA
  split
  · exact h.put _
  · exact h
theorem SrtA.miss {ds : List AD} (h : SrtA ds) (p : Int) : SrtA (missA ds p) := by
  unfold missA SrtA
  rw [List.pairwise_map]
  refine List.Pairwise.imp ?_ h
  intro a b hab
  have e : ∀ x : AD, (if x.prio = p then { x with missed := min (x.missed + 1) 100 } else x).prio = x.prio := fun x => by split <;> rfl
  rw [e, e]
  exact hab
/-- Such as a list holds: Counts and what was missed stay small. -/
def OkA (ds : List AD) : Prop := ∀ x ∈ ds, 1 ≤ x.count ∧ x.count ≤ 1000 ∧ 0 ≤ x.missed ∧ x.missed ≤ 100
theorem OkA.nil : OkA [] := fun _ h => absurd h (by simp)
theorem OkA.mid {ds x : List AD} {p : Int} (h : OkA ds) (hx : OkA x) : OkA (midA p ds x) := by
  intro y hy
  unfold midA at hy
  rcases List.mem_append.1 hy with hy | hy
  · rcases List.mem_append.1 hy with hy | hy
    · exact h y (List.mem_filter.1 hy).1
    · exact hx y hy
  · exact h y (List.mem_filter.1 hy).1
theorem OkA.put {ds : List AD} {a : AD} (h : OkA ds) (h1 : 0 ≤ a.count ∧ a.count ≤ 1000) (h2 : 0 ≤ a.missed ∧ a.missed ≤ 100) : OkA (putA ds a) := by
  refine h.mid ?_
  unfold setOne
  split
  · exact OkA.nil
  · intro y hy
    rw [List.mem_singleton] at hy
    subst hy
    exact ⟨by omega, h1.2, h2⟩
theorem OkA.set {ds : List AD} {a : AD} (h : OkA ds) (h1 : 0 ≤ a.count ∧ a.count ≤ 1000) : OkA (setA ds a) := OkA.put h h1 ⟨Int.le_refl _, by show (0 : Int) ≤ 100; omega⟩
theorem OkA.setL {ds : List AD} {a : AD} (h : OkA ds) (h1 : 0 ≤ a.count ∧ a.count ≤ 1000) : OkA (setL ds a) := by
  unfold Go.Proofs.Ytbocpkdnlpobkaa.setL
  split
  · exact OkA.nil
  · exact h.set h1
theorem getA_mem {p : Int} {ds : List AD} (h : hasA p ds = true) : getA p ds ∈ ds ∧ (getA p ds).prio = p := by
  unfold getA
  cases he : ds.find? (fun x => x.prio == p) with
  | none =>
    rw [List.find?_eq_none] at he
    obtain ⟨k, hk, e⟩ := hasA_idx h
    exact absurd (he ds[k] (List.getElem_mem hk)) (by simp [e])
  | some x =>
    have h1 := List.find?_some he
    exact ⟨List.mem_of_find?_eq_some he, by simpa using h1⟩
theorem OkA.take {ds : List AD} (h : OkA ds) (p : Int) : OkA (takeA ds p) := by
  unfold takeA
  split
  · rename_i hh
    obtain ⟨h1, _⟩ := getA_mem hh
    have := h _ h1
    exact h.put ⟨by show 0 ≤ (getA p ds).count - 1; omega, by show (getA p ds).count - 1 ≤ 1000; omega⟩ ⟨Int.le_refl _, by show (0 : Int) ≤ 100; omega⟩
  · exact h
theorem OkA.miss {ds : List AD} (h : OkA ds) (p : Int) : OkA (missA ds p) := by
  intro y hy
  unfold missA at hy
  rw [List.mem_map] at hy
  obtain ⟨x, hx, rfl⟩ := hy
  have := h x hx
  split
  · refine ⟨this.1, this.2.1, ?_, ?_⟩
    · show 0 ≤ min (x.missed + 1) 100; omega
    · show min (x.missed + 1) 100 ≤ 100; omega
  · exact this
theorem putA_len (ds : List AD) (a : AD) (h : SrtA ds) : (putA ds a).length ≤ ds.length + 1 := by
  have h1 := (setOne_ok a).1
  unfold putA midA
  rw [List.length_append, List.length_append]
  have : (lowA a.prio ds).length + (highA a.prio ds).length ≤ ds.length := by
    clear h h1
    induction ds with
    | nil => simp [lowA, highA]
    | cons x l ih =>
      unfold lowA highA at *
      rw [List.filter_cons, List.filter_cons]
      split <;> split <;> simp_all <;> omega
  omega
theorem missA_len (ds : List AD) (p : Int) : (missA ds p).length = ds.length := by simp [missA]
end Go.Proofs.Ytbocpkdnlpobkaa
