/- codec's readers: what recovers; settle; Int, Text, Ints. -/
import Derived.Test.YtnkhobdpiifaaaaRdr
import Derived.Defers
import Derived.Recover
import Derived.Orders
namespace Go.Proofs.Ytnkhobdpiifaaaa
open Go.RowKit

section
variable {P : Program} {Q : Exit → Act → List Frame → World → Prop} {a : Act} {cs : List Frame} {w : World}

theorem wpS_region_draw {id : Nat} {ops : Array Oper} (h : ∀ t, wpOpsS P ops Q (Region.schedule (P.follows .mixedOrders) ops t) a cs w.drew) : (Code.region id ops true).wpS P Q a cs w :=
  fun b k hb hr => let ⟨e, a', cs', w', q, r⟩ := wp_opsS _ a cs _ (h _) b k hb hr; ⟨e, a', cs', w', q, .of_steps (.one step_region_draw) r⟩

theorem go_cons (ops : Array Oper) (f t : Nat) (listed : Array Bool) (acc : List Nat) (rs : List Nat) (h : Region.ready .any ops listed = rs) :
    Region.linearise.go .any ops (f + 1) t listed acc = match rs[t % rs.length]? with | some i => Region.linearise.go .any ops f (t / rs.length) (listed.setIfInBounds i true) (i :: acc) | none => acc.reverse := by
  subst h
  rfl

/-- Two that may come up in either order, and a third behind them. -/
theorem order3 (ops : Array Oper) (hs : ops.size = 3) (h0 : Region.ready .any ops #[false, false, false] = [0, 1]) (h1 : Region.ready .any ops #[true, false, false] = [1]) (h2 : Region.ready .any ops #[false, true, false] = [0])
    (h3 : Region.ready .any ops #[true, true, false] = [2]) (t : Nat) : Region.schedule true ops t = [0, 1, 2] ∨ Region.schedule true ops t = [1, 0, 2] := by
  have e : Region.schedule true ops t = Region.linearise.go .any ops 3 t #[false, false, false] [] := by
    simp only [Region.schedule, Bool.true_or, if_true, Region.linearise, hs]
    rfl
  rw [e, go_cons ops 2 t _ _ _ h0]
  rcases Nat.mod_two_eq_zero_or_one t with ht | ht
  · left
    simp only [List.length_cons, List.length_nil, Nat.zero_add, Nat.reduceAdd, ht, List.getElem?_cons_zero]
    show Region.linearise.go .any ops (1 + 1) (t / 2) #[true, false, false] [0] = _
    rw [go_cons ops 1 _ _ _ _ h1]
    simp only [List.length_cons, List.length_nil, Nat.zero_add, Nat.mod_one, List.getElem?_cons_zero]
    show Region.linearise.go .any ops (0 + 1) (t / 2 / 1) #[true, true, false] [1, 0] = _
    rw [go_cons ops 0 _ _ _ _ h3]
    simp only [List.length_cons, List.length_nil, Nat.zero_add, Nat.mod_one, List.getElem?_cons_zero]
    rfl
  · right
    simp only [List.length_cons, List.length_nil, Nat.zero_add, Nat.reduceAdd, ht, List.getElem?_cons_zero, List.getElem?_cons_succ]
    show Region.linearise.go .any ops (1 + 1) (t / 2) #[false, true, false] [1] = _
    rw [go_cons ops 1 _ _ _ _ h2]
    simp only [List.length_cons, List.length_nil, Nat.zero_add, Nat.mod_one, List.getElem?_cons_zero]
    show Region.linearise.go .any ops (0 + 1) (t / 2 / 1) #[true, true, false] [0, 1] = _
    rw [go_cons ops 0 _ _ _ _ h3]
    simp only [List.length_cons, List.length_nil, Nat.zero_add, Nat.mod_one, List.getElem?_cons_zero]
    rfl

theorem wpS_region3 {id : Nat} {ops : Array Oper} (hm : P.follows .mixedOrders = true)
    (hB : (ops.size == 3 && Region.ready .any ops #[false, false, false] == [0, 1] && Region.ready .any ops #[true, false, false] == [1] && Region.ready .any ops #[false, true, false] == [0] && Region.ready .any ops #[true, true, false] == [2]) = true)
    (h1 : wpOpsS P ops Q [0, 1, 2] a cs w.drew) (h2 : wpOpsS P ops Q [1, 0, 2] a cs w.drew) : (Code.region id ops true).wpS P Q a cs w := by
  simp only [Bool.and_eq_true, beq_iff_eq] at hB
  obtain ⟨⟨⟨⟨b0, b1⟩, b2⟩, b3⟩, b4⟩ := hB
  refine wpS_region_draw fun t => ?_
  rw [hm]
  rcases order3 ops b0 b1 b2 b3 b4 t with e | e <;> rw [e] <;> assumption

end

def cutE (e : Int) : Int := if e = 0 then 8 else e

/-- What Fail does. -/
def failL (l : List UInt8) (e0 f : Int) : List UInt8 := if e0 = 0 ∧ f ≠ 0 then [] else l
def failE (e0 f : Int) : Int := if e0 = 0 then f else e0

theorem Fail_any (R : Nat) (l : List UInt8) (e0 f : Int) (w : World) (h : Rdr w R l e0) :
    Calls Try.prog 27 #[.pointer (some ⟨R, 0, none⟩), .int .i64 f] w fun e w' => e = .returned (.tuple #[]) ∧ w.grownBy w' (some R) ∧ Rdr w' R (failL l e0 f) (failE e0 f) := by
  have hh := h
  obtain ⟨v, hr, hd, ho, he⟩ := h
  by_cases h0 : e0 = 0
  · by_cases hf : f = 0
    · refine (Fail_keeps R v e0 f w hr (.inr hf)).mono ?_
      rintro e w' ⟨rfl, rfl⟩
      refine ⟨rfl, World.grownBy.refl _ _, ?_⟩
      simpa [failL, failE, h0, hf] using (h0 ▸ hh)
    · subst h0
      refine (Fail_sets R v f w hr (by simpa using hf)).mono ?_
      rintro e w' ⟨rfl, hg, hR⟩
      refine ⟨rfl, hg, ?_⟩
      simpa [failL, failE, hf] using Rdr.nil hR
  · refine (Fail_keeps R v e0 f w hr (.inl (by simpa using h0))).mono ?_
    rintro e w' ⟨rfl, rfl⟩
    refine ⟨rfl, World.grownBy.refl _ _, ?_⟩
    simpa [failL, failE, h0] using hh

theorem settle_nil (p : Value) (w : World) : Calls Try.prog 19 #[p, .nilIface] w fun e w' => e = .returned (.tuple #[]) ∧ Ext w w' := by
  have hta : ∀ W : World, (Instr.typeAssert .nilIface 20 47 true).run Try.prog W = .ok (.tuple #[.agg #[.int .i64 0], .bool false]) W := fun _ => by kernel_rfl
  have hne : ∀ W : World, (binOp .neq 20 .nilIface .nilIface).run Try.prog W = .ok (.bool false) W := fun _ => by kernel_rfl
  go_enter Try.func19, Try.ntmps19
  go_wp2
  go_end0
  exact ⟨rfl, (Below.refl _ _).alloc (Nat.le_refl _) _⟩

theorem settle_cut (R : Nat) (l : List UInt8) (e0 : Int) (w : World) (h : Rdr w R l e0) :
    Calls Try.prog 19 #[.pointer (some ⟨R, 0, none⟩), cut] w fun e w' => e = .returned (.tuple #[]) ∧ w.grownBy w' (some R) ∧ Rdr w' R [] (cutE e0) := by
  have H := Lib.hid h
  clear h
  unfold cut
  have hta : ∀ W : World, (Instr.typeAssert (.iface 47 (.agg #[.int .i64 8])) 20 47 true).run Try.prog W = .ok (.tuple #[.agg #[.int .i64 8], .bool true]) W := fun _ => by kernel_rfl
  go_enter Try.func19, Try.ntmps19
  go_wp2_with fail
  have hx : Ext w (w.alloc (.cells #[.int .i64 8] 47)) := (Below.refl _ _).alloc (Nat.le_refl _) _
  refine (Fail_any R l e0 8 _ (H.out.ext hx)).mono ?_
  rintro e w1 ⟨rfl, hg, hR⟩
  have HR := Lib.hid (And.intro (World.grownBy.trans (grown_of_ext hx (some R)) hg) (show Rdr w1 R [] (cutE e0) by
    obtain ⟨_, _, _, _, hl⟩ := H.out
    have e1 : failL l e0 8 = [] := by
      unfold failL
      rcases hl with rfl | rfl
      · split <;> rfl
      · simp
    have e2 : failE e0 8 = cutE e0 := rfl
    rw [← e1, ← e2]; exact hR))
  clear hg hR hx
  go_wp2
  go_end0
  exact ⟨rfl, HR.out.1, HR.out.2⟩

/-- What a deferred closure of the reader's does where nothing has panicked. -/
def Idle (f : FuncId) : Prop := ∀ (p : Addr) (R : Nat) (w : World), w.cell? p = some (.pointer (some ⟨R, 0, none⟩)) →
  CallsD Try.prog f #[.pointer (some p)] .returning w fun e u' w' => e = .returned (.tuple #[]) ∧ u' = .returning ∧ Ext w w'
/-- And where bytes were missing. -/
def Caught (f : FuncId) : Prop := ∀ (p : Addr) (R : Nat) (l : List UInt8) (e0 : Int) (w : World), w.cell? p = some (.pointer (some ⟨R, 0, none⟩)) → Rdr w R l e0 →
  CallsD Try.prog f #[.pointer (some p)] (.panicking [{ v := cut, recovered := false }]) w fun e u' w' => e = .returned (.tuple #[]) ∧ u' = .panicking [{ v := cut, recovered := true }] ∧ w.grownBy w' (some R) ∧ Rdr w' R [] (cutE e0)

theorem idle_Int : Idle 18 := by
  intro p R w hc
  have hs := fun (W : World) => settle_nil (.pointer (some ⟨R, 0, none⟩)) W
  refine callsD_of_wpS Try.func18 rfl fun c₀ cs hu => ?_
  have hc0 : c₀ = { c₀ with mode := .returning } := by cases c₀; simp_all
  refine wpS_region3 (by kernel_rfl) (by kernel_rfl) ?_ ?_ <;>
  · simp [wpOpsS, go_sem, recoverD, hu, hc, Try.ntmps18]
    refine (hs _).mono ?_
    rintro e w1 ⟨rfl, hx⟩
    refine ⟨rfl, .returning, by rw [← hc0], .tuple #[], by simp [results, Try.results18], rfl, rfl, (Ext.drew w).trans hx⟩

theorem caught_Int : Caught 18 := by
  intro p R l e0 w hc hR
  have hs := Lib.hid (settle_cut R l e0 w.drew (hR.ext (Ext.drew w)))
  refine callsD_of_wpS Try.func18 rfl fun c₀ cs hu => ?_
  refine wpS_region3 (by kernel_rfl) (by kernel_rfl) ?_ ?_ <;>
  · simp [wpOpsS, go_sem, recoverD, hu, hc, Try.ntmps18]
    refine hs.out.mono ?_
    rintro e w1 ⟨rfl, hg, hR'⟩
    exact ⟨rfl, .panicking [{ v := cut, recovered := true }], rfl, .tuple #[], by simp [results, Try.results18], rfl, rfl, World.grownBy.trans (grown_of_ext (Ext.drew w) _) hg, hR'⟩

theorem idle_Text : Idle 21 := by
  intro p R w hc
  have hs := fun (W : World) => settle_nil (.pointer (some ⟨R, 0, none⟩)) W
  refine callsD_of_wpS Try.func21 rfl fun c₀ cs hu => ?_
  have hc0 : c₀ = { c₀ with mode := .returning } := by cases c₀; simp_all
  refine wpS_region3 (by kernel_rfl) (by kernel_rfl) ?_ ?_ <;>
  · simp [wpOpsS, go_sem, recoverD, hu, hc, Try.ntmps21]
    refine (hs _).mono ?_
    rintro e w1 ⟨rfl, hx⟩
    refine ⟨rfl, .returning, by rw [← hc0], .tuple #[], by simp [results, Try.results21], rfl, rfl, (Ext.drew w).trans hx⟩

theorem caught_Text : Caught 21 := by
  intro p R l e0 w hc hR
  have hs := Lib.hid (settle_cut R l e0 w.drew (hR.ext (Ext.drew w)))
  refine callsD_of_wpS Try.func21 rfl fun c₀ cs hu => ?_
  refine wpS_region3 (by kernel_rfl) (by kernel_rfl) ?_ ?_ <;>
  · simp [wpOpsS, go_sem, recoverD, hu, hc, Try.ntmps21]
    refine hs.out.mono ?_
    rintro e w1 ⟨rfl, hg, hR'⟩
    exact ⟨rfl, .panicking [{ v := cut, recovered := true }], rfl, .tuple #[], by simp [results, Try.results21], rfl, rfl, World.grownBy.trans (grown_of_ext (Ext.drew w) _) hg, hR'⟩

theorem idle_Ints : Idle 24 := by
  intro p R w hc
  have hs := fun (W : World) => settle_nil (.pointer (some ⟨R, 0, none⟩)) W
  refine callsD_of_wpS Try.func24 rfl fun c₀ cs hu => ?_
  have hc0 : c₀ = { c₀ with mode := .returning } := by cases c₀; simp_all
  refine wpS_region3 (by kernel_rfl) (by kernel_rfl) ?_ ?_ <;>
  · simp [wpOpsS, go_sem, recoverD, hu, hc, Try.ntmps24]
    refine (hs _).mono ?_
    rintro e w1 ⟨rfl, hx⟩
    refine ⟨rfl, .returning, by rw [← hc0], .tuple #[], by simp [results, Try.results24], rfl, rfl, (Ext.drew w).trans hx⟩

theorem caught_Ints : Caught 24 := by
  intro p R l e0 w hc hR
  have hs := Lib.hid (settle_cut R l e0 w.drew (hR.ext (Ext.drew w)))
  refine callsD_of_wpS Try.func24 rfl fun c₀ cs hu => ?_
  refine wpS_region3 (by kernel_rfl) (by kernel_rfl) ?_ ?_ <;>
  · simp [wpOpsS, go_sem, recoverD, hu, hc, Try.ntmps24]
    refine hs.out.mono ?_
    rintro e w1 ⟨rfl, hg, hR'⟩
    exact ⟨rfl, .panicking [{ v := cut, recovered := true }], rfl, .tuple #[], by simp [results, Try.results24], rfl, rfl, World.grownBy.trans (grown_of_ext (Ext.drew w) _) hg, hR'⟩

end Go.Proofs.Ytnkhobdpiifaaaa
