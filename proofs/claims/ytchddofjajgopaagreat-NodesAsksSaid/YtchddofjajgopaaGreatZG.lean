/- My texts, in one. -/
import Derived.Test.YtchddofjajgopaaGreatZF
set_option linter.all false
set_option maxRecDepth 100000
set_option maxHeartbeats 4000000
namespace Go.Proofs.YtchddofjajgopaaGreat
open Go.RowKit
open IntKind (i64)
open Go.Proofs.Tryz (prog)
theorem SF (l : List a6) (k t : Int) (hl : l.length ≤ 1000000) : ∃ r, ud l k t = some r := by
 unfold ud
 dsimp only
 rw [B9 l k t _ hl]
 obtain ⟨r, e1, _⟩ := aR (g := iV l k t) (fin := fun b => (b, (l.length : Int))) (fun _ _ => True) (fun _ => True) l 0 (⟨0, 0⟩ : aw) (fun j b x hx _ => by
  unfold iV
  simp only [ej, zb, d6]
  split <;> exact ⟨_, rfl, fun _ _ => trivial, fun _ _ => trivial⟩) (fun _ _ => trivial) trivial
 rw [e1]
 exact ⟨_, rfl⟩
def AtV (l : List a6) (k t : Int) : aw := (ud l k t).getD ⟨0, 0⟩
theorem HU (l : List a6) (k t : Int) (hl : l.length ≤ 1000000) : ud l k t = some (AtV l k t) := by
 obtain ⟨r, e⟩ := SF l k t hl
 unfold AtV
 rw [e]
 rfl
theorem Mg (n : Int) : ub n = some (decide (n ≥ 0) && decide (n ≤ 1073741824)) := by unfold ub; simp only [d6, zb]
def WV (l : List a6) (v : aw) (p : a6) (t n : Int) : Bool := (rp l v p t n).getD false
theorem Mh (l : List a6) (v : aw) (p : a6) (t n : Int) (hl : l.length ≤ 1000000) : rp l v p t n = some (WV l v p t n) := by
 have : ∃ r, rp l v p t n = some r := by
  unfold rp
  simp only [HU l _ _ hl, ej, kg, zb]
  split
  ·exact ⟨_, rfl⟩
  rw [yO l t n p v () hl]
  obtain ⟨r, e1, _⟩ := aR (g := ga l t n p v) (fin := fun _ => (.inl (l.length : Int))) (fun _ _ => True) (fun _ => True) l 0 () (fun j b x hx _ => by
   unfold ga
   simp only [HU l _ _ hl, ej, kg, zb, d6]
   split <;> exact ⟨_, rfl, fun _ _ => trivial, fun _ _ => trivial⟩) (fun _ _ => trivial) trivial
  rw [e1]
  cases r <;> exact ⟨_, rfl⟩
 obtain ⟨r, e⟩ := this
 unfold WV
 rw [e]
 rfl
theorem JK (l : List a6) (v : aw) (p : a6) (n : Int) (hl : l.length ≤ 1000000) : ∃ r, u5 l v p n = some r := by
 unfold u5
 simp only [Mg, zb, orB]
 split
 ·exact ⟨_, rfl⟩
 have hw : ∀ k : Int, -1 ≤ k → k ≤ 1000000000 → i64.wrap (k + 1) = k + 1 := fun k h1 h2 => Gg (by omega) (by omega)
 obtain ⟨r, e1, _⟩ := aH (f := nX l p n v) (fun st => -1 ≤ st.2 ∧ st.2 ≤ (l.length : Int)) (fun st => ((l.length : Int) - st.2).toNat) (fun _ => True) (fun st ⟨h1, h2⟩ => by
  unfold nX
  by_cases hlt : st.2 < (l.length : Int)
  ·have hn : ((l.length : Int) - (st.2 + 1)).toNat < ((l.length : Int) - st.2).toNat := by omega
   simp only [hlt, decide_true, if_true, Mh l _ _ _ _ hl, d6, orB, zb, hw _ h1 (by omega)]
   by_cases h0 : st.2 ≥ 0
   ·obtain ⟨x, hx, _⟩ := KV h0 hlt
    simp only [h0, decide_true, if_true, hx, zb]
    split <;> exact .inl ⟨_, rfl, ⟨by show -1 ≤ st.2 + 1; omega, by show st.2 + 1 ≤ _; omega⟩, hn⟩
   ·simp only [h0, decide_false, zf, if_false, zb]
    split <;> exact .inl ⟨_, rfl, ⟨by show -1 ≤ st.2 + 1; omega, by show st.2 + 1 ≤ _; omega⟩, hn⟩
  ·simp only [hlt, decide_false, zf, if_false]
   exact .inr ⟨_, rfl, trivial⟩) ab (-1, -1) ⟨by simp, by show (-1 : Int) ≤ _; omega⟩ (by show ((l.length : Int) - (-1)).toNat < ab; unfold ab; omega)
 rw [e1]
 simp only [zb]
 split <;> exact ⟨_, rfl⟩
theorem SzS.plan {B : Nat} {s : aa} (h : SzS B s) {l : List a6} (hl : l.length ≤ B) : SzS B { s with bw := l } := ⟨h.conf, h.nodes, h.apps, h.conts, h.slots, hl, h.app⟩
theorem O0 {B : Nat} {s : aa} (h : SzS B s) (hB : B + 1 ≤ 1000000) (p : a6) (n : Int) : ∃ r, yQ s p n = some r ∧ SzS (B + 1) r.1 ∧ r.1.ac = s.ac ∧ r.1.ao = s.ao := by
 have k1 := h.plans; have k2 := h.nodes.1
 have hm := h.mono (Nat.le_succ B)
 unfold yQ
 simp only [zb, orB]
 split
 ·exact ⟨_, rfl, hm, rfl, rfl⟩
 rw [AJ s p 0 (by omega)]
 obtain ⟨r, e1, e2⟩ := mh (g := g5 s p) (fin := fun b => (.inl (b, (s.bw.length : Int)))) (fun j b => ∃ K : Nat, b = (K : Int) ∧ K ≤ j) (fun r => match r with | .inl m => ∃ K : Nat, m.1 = (K : Int) ∧ K ≤ s.bw.length | .inr m => m.1 = s) s.bw 0 0 (fun j b x hx ⟨K, hK, hj⟩ => by
  have hj2 := (zg.1 hx).1
  unfold g5
  dsimp only
  split
  ·exact ⟨_, rfl, fun a' e => (by cases e), fun r e => (by injection e with e; subst e; rfl)⟩
  split
  ·refine ⟨_, rfl, fun a' e => ?_, fun r e => by cases e⟩
   injection e with e
   subst e
   exact ⟨0 + j + 1, bj (by omega : 0 + j < 1000000) (Nat.le_refl _), Nat.le_refl _⟩
  ·refine ⟨_, rfl, fun a' e => ?_, fun r e => by cases e⟩
   injection e with e
   subst e
   exact ⟨K, hK, by omega⟩) (fun b ⟨K, hK, hj⟩ => ⟨K, hK, by omega⟩) ⟨0, rfl, Nat.le_refl _⟩
 rw [e1]
 simp only [zb]
 cases r with
 | inr m => exact ⟨_, rfl, by rw [show m.1 = s from e2]; exact hm, by rw [show m.1 = s from e2], by rw [show m.1 = s from e2]⟩
 | inl m =>
  obtain ⟨K, hK, hK2⟩ := e2
  obtain ⟨c, hc⟩ := JK s.bw (tQ s p.bc) p n (by omega)
  simp only [hK, nw s _ (Nat.le_trans k2 (by omega)), hc, zb]
  split
  ·exact ⟨_, rfl, hm, rfl, rfl⟩
  split
  ·exact ⟨_, rfl, hm, rfl, rfl⟩
  split
  ·exact ⟨_, rfl, hm, rfl, rfl⟩
  rw [oX hK2]
  simp only [zb]
  rw [aD (by simp; omega)]
  simp only [zb]
  rw [aD (by simp; omega)]
  simp only [zb]
  rw [kQ hK2]
  simp only [zb]
  rw [aD (by simp; omega)]
  exact ⟨_, rfl, hm.plan (by simp; omega), rfl, rfl⟩
theorem Ml {B : Nat} {s : aa} (h : SzS B s) (hB : B ≤ 1000000) (id : Int) : ∃ r, uc s id = some r ∧ SzS B r.1 ∧ r.1.ac = s.ac ∧ r.1.ao = s.ao := by
 have k1 := h.plans
 unfold uc
 dsimp only
 have e : gb s id = fun acc x => if (x.fId != id) = true then (aU acc [id' x]).map (fun a => (.inl a : List a6 ⊕ (List a6 × Int))) else some (.inl acc) := by
  funext acc x
  unfold gb
  dsimp only [id']
  split
  ·cases aU acc [x] <;> rfl
  ·rfl
 rw [yP s id [] (by omega), e, cw (fun c : a6 => c.fId != id) id' _ s.bw [] (by simp; omega)]
 simp only [zb, List.nil_append, xK]
 split
 ·exact ⟨_, rfl, h, rfl, rfl⟩
 ·exact ⟨_, rfl, h.plan (Nat.le_trans (List.length_filter_le _ _) k1), rfl, rfl⟩
theorem kh (s : aa) (e : Int) : dG s e = some (s, ⟨e, [], [], [], 0⟩) := rfl
theorem OkS.node {M : Nat} {s : aa} (h : OkS M s) {l : List aM} (hl : l.length ≤ s.aq.length + 1) (hs : kA aM.fId l) (hn : ∀ n ∈ l, 0 ≤ n.bO ∧ n.bO ≤ 1000000000) : OkS (M + 1) { s with aq := l } := by
 obtain ⟨⟨B, h1, h2⟩, h3⟩ := h
 have k := h1.mono (Nat.le_succ B)
 have k1 := h1.nodes
 exact ⟨⟨B + 1, ⟨k.conf, ⟨by show l.length ≤ B + 1; omega, hs, k1.2.2.1, hn⟩, k.apps, k.conts, k.slots, k.plans, k.app⟩, by show B + 1 + s.ac.length ≤ _; omega⟩, h3⟩
theorem OkS.nodeIn {M : Nat} {s : aa} (h : OkS M s) {n : aM} (hi : og s n.fId = true) (hn : 0 ≤ n.bO ∧ n.bO ≤ 1000000000) : OkS M { s with aq := dZ aM.fId s.aq n } := by
 obtain ⟨⟨B, h1, h2⟩, h3⟩ := h
 have k1 := h1.nodes
 unfold og at hi
 rw [List.any_eq_true] at hi
 obtain ⟨x, hx, hxe⟩ := hi
 have hlen := qh aM.fId n s.aq k1.2.1 ⟨x, hx, by simpa using hxe⟩
 exact ⟨⟨B, ⟨h1.conf, ⟨by show (dZ _ _ _).length ≤ B; omega, iG _ _ _ k1.2.1, k1.2.2.1, fun y hy => by rcases oW hy with rfl | hy; exact hn; exact k1.2.2.2 y hy⟩, h1.apps, h1.conts, h1.slots, h1.plans, h1.app⟩, h2⟩, h3⟩
theorem OkS.small {M : Nat} {s : aa} (h : OkS M s) : s.aq.length ≤ M ∧ s.ao.length ≤ M ∧ s.ac.length ≤ M ∧ s.aY.length ≤ M ∧ s.bw.length ≤ M := ⟨h.sz.nodes.1, h.sz.apps, h.sz.conts, h.sz.slots, h.sz.plans⟩
theorem KT {s : aa} {id : Int} (h : og s id = true) : (dv s id).fId = id := by
 unfold og at h
 rw [List.any_eq_true] at h
 obtain ⟨x, hx, e⟩ := h
 unfold dv
 cases hf : s.aq.find? fun c => c.fId == id with
 | none => have := List.find?_eq_none.1 hf x hx; exact absurd e (by simpa using this)
 | some a => simpa using List.find?_some hf
theorem Tq {M : Nat} {s : aa} (h : OkS M s) {id : Int} : 0 ≤ (dv s id).bO ∧ (dv s id).bO ≤ 1000000000 := by
 unfold dv
 cases hf : s.aq.find? fun c => c.fId == id with
 | none => exact ⟨Int.le_refl _, by decide⟩
 | some a => exact h.sz.nodes.2.2.2 a (List.mem_of_find?_eq_some hf)
theorem Xm {M : Nat} {s : aa} (h : OkS M s) (n : aM) : OkS (M + 1) (VH s n).1 := by
 unfold VH
 split
 ·exact h.mono (Nat.le_succ _)
 split
 ·exact h.mono (Nat.le_succ _)
 split
 ·exact h.mono (Nat.le_succ _)
 ·exact h.node (Dc _ _ _) (iG _ _ _ h.sz.nodes.2.1) (fun y hy => by rcases oW hy with rfl | hy; exact h.sz.nodes.2.2.1; exact h.sz.nodes.2.2.2 y hy)
theorem WE {M : Nat} {s : aa} (h : OkS M s) (id b : Int) : OkS M (LD s id b).1 := by
 unfold LD
 split
 ·exact h
 split
 ·exact h
 split
 ·exact h
 split
 ·exact h
 split
 ·exact h
 ·rename_i hu _ _ _ _
  have hu : og s id = true := by simpa using hu
  exact h.nodeIn (n := { dv s id with bO := s.bR, cJ := b }) (by show og s (dv s id).fId = true; rw [KT hu]; exact hu) h.sz.nodes.2.2.1
theorem Wl {M : Nat} {s : aa} (h : OkS M s) (id : Int) : OkS M (Qu s id) := by
 unfold Qu
 split
 ·rename_i hu
  exact h.nodeIn (n := { dv s id with fUp := false }) (by show og s (dv s id).fId = true; rw [KT hu]; exact hu) (Tq h)
 ·exact h
theorem OkS.fewer {M : Nat} {s : aa} (h : OkS M s) {c : List al} {l : List bu} (hc : c.length ≤ s.ac.length) (hl : l.length ≤ s.aY.length) : OkS M { s with ac := c, aY := l } := by
 obtain ⟨⟨B, h1, h2⟩, h3⟩ := h
 exact ⟨⟨B, h1.fewer hc hl, by show B + c.length ≤ M; omega⟩, h3⟩
theorem OkS.put {M : Nat} {s : aa} (h : OkS M s) {a : aB} {k : Nat} (ha : ∀ B, SzS B s → SzA (B + k) a) : OkS (M + k + 1) { s with ao := dZ aB.fId s.ao a } := by
 obtain ⟨⟨B, h1, h2⟩, h3⟩ := h
 have k1 := (h1.mono (Nat.le_add_right B k)).put ((ha B h1).mono (Nat.le_succ _))
 exact ⟨⟨B + k + 1, k1, by show B + k + 1 + s.ac.length ≤ _; omega⟩, iG _ _ _ h3⟩
theorem OkS.now {M : Nat} {s : aa} (h : OkS M s) {n : Int} (hn : 0 ≤ n ∧ n ≤ 1000000000) : OkS M { s with bR := n } := by
 obtain ⟨⟨B, h1, h2⟩, h3⟩ := h
 exact ⟨⟨B, ⟨h1.conf, ⟨h1.nodes.1, h1.nodes.2.1, hn, h1.nodes.2.2.2⟩, h1.apps, h1.conts, h1.slots, h1.plans, h1.app⟩, h2⟩, h3⟩
theorem OkS.epoch {M : Nat} {s : aa} (h : OkS M s) (n k : Int) : OkS M { s with ql := n, rQ := k } := by
 obtain ⟨⟨B, h1, h2⟩, h3⟩ := h
 exact ⟨⟨B, ⟨h1.conf, h1.nodes, h1.apps, h1.conts, h1.slots, h1.plans, h1.app⟩, h2⟩, h3⟩
theorem OkS.newConf {M : Nat} {s : aa} (h : OkS M s) {c : az} (hc : zy c) : OkS M { s with bN := c } := by
 obtain ⟨⟨B, h1, h2⟩, h3⟩ := h
 exact ⟨⟨B, ⟨hc, h1.nodes, h1.apps, h1.conts, h1.slots, h1.plans, h1.app⟩, h2⟩, h3⟩
theorem OkS.plans {M : Nat} {s : aa} (h : OkS M s) {l : List a6} (hl : l.length ≤ s.bw.length) : OkS M { s with bw := l } := by
 obtain ⟨⟨B, h1, h2⟩, h3⟩ := h
 exact ⟨⟨B, h1.plan (Nat.le_trans hl h1.plans), h2⟩, h3⟩
theorem OkS.lose {M : Nat} {s : aa} (h : OkS M s) (ids : List Int) (hI : ids.length ≤ 1000000) (hM : M + 1 ≤ 1000000) : ∃ r, i7 s ids = some r ∧ OkS M r := by
 obtain ⟨r, h1, h2, h3, _⟩ := Fh h.m h.srt ids hI hM
 exact ⟨r, h1, h2, h3⟩
theorem OkS.r14 {M : Nat} {s : aa} (h : OkS M s) (hM : M + 100 ≤ 1000000) (id : Int) : ∃ r, pB s id = some r ∧ OkS (M + 40) r.1 := by
 obtain ⟨⟨B, h1, h2⟩, h3⟩ := h
 obtain ⟨r, r1, r2, _⟩ := Mu h1 h3 (by omega) id
 have r4 := E7 r1
 exact ⟨r, r1, ⟨B + 24 + 2, r2.1, by omega⟩, r2.2⟩
theorem RR {M : Nat} {s : aa} (h : OkS M s) (hM : M ≤ 1000000) (text : ByteArray) : ∃ r, sp s text = some r ∧ OkS M r.1 := by
 obtain ⟨p, p1, p2⟩ := LY text
 have k1 := h.small
 have kc := h.sz.conf.sz.labels
 unfold sp
 simp only [p1, zb]
 have hchk : ∃ e, (if (p.2 == 0) = true then Option.bind (tT p.1) fun c3 => some c3 else some p.2) = some e ∧ (e = 0 → zy p.1) := by
  split
  ·obtain ⟨c, c1, c2⟩ := LR p2
   rw [c1]
   exact ⟨c, rfl, fun e => (c2 e).form⟩
  ·rename_i hne
   exact ⟨_, rfl, fun e => absurd (by rw [e]; rfl) hne⟩
 obtain ⟨e, e1, e2⟩ := hchk
 rw [e1]
 simp only [zb, kh]
 split
 ·exact ⟨_, rfl, h⟩
 rename_i hz
 have hf := e2 (by simpa using hz)
 split
 ·exact ⟨_, rfl, h⟩
 rename_i hlab
 have hlab : s.bN.ak.length ≤ p.1.ak.length := by have := of_decide_eq_false (by simpa using hlab : decide ((p.1.ak.length : Int) < (s.bN.ak.length : Int)) = false); omega
 rw [vr s p.1 () (by omega)]
 obtain ⟨r, r1, r2⟩ := mh (g := ep s p.1) (fin := fun _ => (.inl (s.bN.ak.length : Int))) (fun _ _ => True) (fun r => ∀ m, r = .inr m → OkS M m.1) s.bN.ak 0 () (fun j a x hx _ => by
  have hj := (zg.1 hx).1
  unfold ep
  simp only [Nat.zero_add, aK (zq (show j < p.1.ak.length by omega)), zb, kh]
  split
  ·exact ⟨_, rfl, fun a' e => (by cases e), fun r e m em => (by injection e with e; subst e; injection em with em; subst em; exact h)⟩
  ·exact ⟨_, rfl, fun a' e => trivial, fun r e => (by cases e)⟩) (fun b _ m em => by cases em) trivial
 rw [r1]
 simp only [zb]
 cases r with
 | inr m => exact ⟨m, rfl, r2 m rfl⟩
 | inl m =>
  dsimp only
  rw [vp s p.1 () (by omega)]
  obtain ⟨q, q1, q2⟩ := aR (g := eo s p.1) (fin := fun _ => (.inl (s.ao.length : Int))) (fun _ _ => True) (fun r => ∀ m, r = .inr m → OkS M m.1) s.ao 0 () (fun j a x hx _ => by
   unfold eo
   simp only [fg, wS _ _ hf.sz, zb, kh, d6]
   split
   ·exact ⟨_, rfl, fun a' e => (by cases e), fun r e m em => (by injection e with e; subst e; injection em with em; subst em; exact h)⟩
   ·exact ⟨_, rfl, fun a' e => trivial, fun r e => (by cases e)⟩) (fun b _ m em => by cases em) trivial
  rw [q1]
  simp only [zb]
  cases q with
  | inr m => exact ⟨m, rfl, q2 m rfl⟩
  | inl m => exact ⟨_, rfl, h.newConf hf⟩
theorem TP (s : aa) (n : Int) (hl : s.ac.length ≤ 1000000) : ∃ r, wU s n = some r ∧ r.length ≤ s.ac.length := by
 unfold wU
 dsimp only
 rw [B7 s n [] hl]
 obtain ⟨r, r1, r2⟩ := aR (g := iT s n) (fin := fun b => (b, (s.ac.length : Int))) (fun k b => b.length ≤ k) (fun r => r.1.length ≤ s.ac.length) s.ac 0 [] (fun j b x hx hb => by
  have hj := (zg.1 hx).1
  unfold iT
  dsimp only
  split
  ·rw [aD (by simp; omega)]
   exact ⟨_, rfl, fun a' e => (by injection e with e; subst e; simp; omega), fun r e => (by cases e)⟩
  ·exact ⟨_, rfl, fun a' e => (by injection e with e; subst e; omega), fun r e => (by cases e)⟩) (fun b hb => (by simpa using hb)) (by simp)
 rw [r1]
 exact ⟨_, rfl, r2⟩
theorem Dr (s : aa) (n : Int) (hl : s.ac.length ≤ 1000000) : ∃ r, nA s n = some r := by
 unfold nA
 dsimp only
 rw [tW s n [] hl]
 obtain ⟨r, r1, r2⟩ := aR (g := dR s n) (fin := fun b => (b, (s.ac.length : Int))) (fun k b => b.length ≤ k) (fun _ => True) s.ac 0 [] (fun j b x hx hb => by
  have hj := (zg.1 hx).1
  unfold dR
  simp only [d6, zb]
  split
  ·rw [aD (by simp; omega)]
   exact ⟨_, rfl, fun a' e => (by injection e with e; subst e; simp; omega), fun r e => (by cases e)⟩
  ·exact ⟨_, rfl, fun a' e => (by injection e with e; subst e; omega), fun r e => (by cases e)⟩) (fun b hb => trivial) (by simp)
 rw [r1]
 exact ⟨_, rfl⟩
theorem Ly (ids : List Int) (s : aa) (hl : s.ac.length ≤ 1000000) (hi : ids.length ≤ 1000000) : ∃ r, rl s ids = some r := by
 unfold rl
 dsimp only
 rw [wV ids s [] hi]
 obtain ⟨r, r1, r2⟩ := aR (g := eY ids s) (fin := fun b => (b, (ids.length : Int))) (fun k b => b.length ≤ k) (fun _ => True) ids 0 [] (fun j b x hx hb => by
  have hj := (zg.1 hx).1
  unfold eY
  simp only [kw s x hl, zb]
  split
  ·rw [aD (by simp; omega)]
   exact ⟨_, rfl, fun a' e => (by injection e with e; subst e; simp; omega), fun r e => (by cases e)⟩
  ·exact ⟨_, rfl, fun a' e => (by injection e with e; subst e; omega), fun r e => (by cases e)⟩) (fun b hb => trivial) (by simp)
 rw [r1]
 exact ⟨_, rfl⟩
theorem Ta (s : aa) (l more : List aO) (hl : l.length ≤ 100000) (hm : more.length ≤ 1000000) : ∃ r, uY s l more = some r ∧ r.1.length ≤ l.length + 8 := by
 unfold uY
 dsimp only
 rw [wT more s l hm]
 obtain ⟨r, r1, r2⟩ := aR (g := eX more s) (fin := fun b => (.inl (b, (more.length : Int)))) (fun _ b => b.length ≤ l.length + 8 ∧ b.length ≤ 100000) (fun r => (∀ m, r = .inl m → m.1.length ≤ l.length + 8) ∧ ∀ m, r = .inr m → m.1.length ≤ l.length + 8) more 0 l (fun j b x hx hb => by
  unfold eX
  simp only [LK, zb]
  split
  ·exact ⟨_, rfl, fun a' e => (by cases e), fun r e => (by injection e with e; subst e; exact ⟨fun m em => (by cases em), fun m em => (by injection em with em; subst em; exact Nat.zero_le _)⟩)⟩
  obtain ⟨t, t1, t2⟩ := R3 b x hb.2
  simp only [t1, zb]
  split
  ·exact ⟨_, rfl, fun a' e => (by cases e), fun r e => (by injection e with e; subst e; exact ⟨fun m em => (by cases em), fun m em => (by injection em with em; subst em; exact Nat.zero_le _)⟩)⟩
  ·exact ⟨_, rfl, fun a' e => (by injection e with e; subst e; exact ⟨by omega, by omega⟩), fun r e => (by cases e)⟩) (fun b hb => ⟨fun m em => (by injection em with em; subst em; exact hb.1), fun m em => (by cases em)⟩) ⟨by omega, hl⟩
 rw [r1]
 simp only [zb]
 cases r with
 | inr m => exact ⟨_, rfl, r2.2 _ rfl⟩
 | inl m => exact ⟨_, rfl, r2.1 m rfl⟩
theorem WB (s : aa) (n : Int) (hl : s.ac.length ≤ 1000000) : ∃ r, tX s n = some r := by
 unfold tX
 dsimp only
 rw [yD s n () hl]
 obtain ⟨r, r1, r2⟩ := aR (g := fW s n) (fin := fun _ => (.inl (s.ac.length : Int))) (fun _ _ => True) (fun _ => True) s.ac 0 () (fun j b x hx hb => by
  unfold fW
  simp only [d6, zb]
  split
  ·exact ⟨_, rfl, fun a' e => trivial, fun r e => trivial⟩
  ·exact ⟨_, rfl, fun a' e => trivial, fun r e => trivial⟩) (fun b hb => trivial) trivial
 rw [r1]
 simp only [zb]
 cases r <;> exact ⟨_, rfl⟩
theorem KH {M : Nat} {s : aa} (h : OkS M s) (hM : M + 100 ≤ 1000000) (x : aJ) (hx : x.fO.length ≤ 1000000) : ∃ r, yF s x = some r ∧ OkS (M + 40) r.1 := by
 have k1 := h.small
 unfold yF
 simp only [ke s _ (show s.aq.length ≤ 1000000 by omega), zb, d6]
 obtain ⟨o, o1, _⟩ := TP s x.fId (by omega)
 split
 ·rw [o1]
  exact ⟨_, rfl, h.mono (by omega)⟩
 rw [N3 s _ _ (by omega)]
 simp only [zb, kh]
 split
 ·exact ⟨_, rfl, h.mono (by omega)⟩
 have hb := WE h x.fId x.cJ
 generalize (LD s x.fId x.cJ).1 = t at hb
 have k2 := hb.small
 rw [yE x t [] hx]
 obtain ⟨r, r1, r2⟩ := aR (g := fX x t) (fin := fun b => (b, (x.fO.length : Int))) (fun k b => b.length ≤ k) (fun r => r.1.length ≤ x.fO.length) x.fO 0 [] (fun j b y hy hb => by
  have hj := (zg.1 hy).1
  unfold fX
  simp only [kw t y (show t.ac.length ≤ 1000000 by omega), zb, d6]
  split
  ·rw [aD (by simp; omega)]
   exact ⟨_, rfl, fun a' e => (by injection e with e; subst e; simp; omega), fun r e => (by cases e)⟩
  ·exact ⟨_, rfl, fun a' e => (by injection e with e; subst e; omega), fun r e => (by cases e)⟩) (fun b hb => (by simpa using hb)) (by simp)
 rw [r1]
 simp only [zb]
 obtain ⟨a, a1, a2⟩ := hb.lose r.1 (by omega) (by omega)
 obtain ⟨c, c1, c2⟩ := a2.r14 (by omega) x.fId
 have k3 := c2.small
 obtain ⟨o, o1, _⟩ := TP c.1 x.fId (by omega)
 simp only [a1, c1, o1, zb]
 exact ⟨_, rfl, c2⟩
theorem mz {α : Type} (p : α → Bool) (l : List α) : (l.filter p).length ≤ l.length := List.length_filter_le _ _
theorem Ro {M : Nat} {s : aa} (h : OkS M s) (hM : M + 100 ≤ 100000) (x : aJ) (hx : x.fO.length ≤ 1000000) (ha : x.cf.length ≤ 1000000) : ∃ r, so s x = some r ∧ OkS (M + 10) r.1 := by
 have k1 := h.small
 unfold so
 simp only [d7 s _ (show s.ao.length ≤ 1000000 by omega), zb, kh]
 have stay : OkS (M + 10) s := h.mono (by omega)
 split
 ·exact ⟨_, rfl, stay⟩
 split
 ·exact ⟨_, rfl, stay⟩
 split
 ·exact ⟨_, rfl, stay⟩
 have hA := h.sz.get x.fId
 obtain ⟨n, hn⟩ := Dr s (cm s x.fId).fId (by omega)
 have q1 := hA.told; have q2 := hA.lost; have q3 := hA.asks; have q4 := hA.grants; have q5 := hA.kills
 split
 ·obtain ⟨c, hc⟩ := Ly (cm s x.fId).sI s (by omega) (by omega)
  simp only [hc, hn, zb]
  rw [aD (by simp; omega)]
  exact ⟨_, rfl, stay⟩
 split
 ·exact ⟨_, rfl, stay⟩
 obtain ⟨w, w1, w2⟩ := Ta s (cm s x.fId).cf x.cf (by omega) ha
 simp only [w1, zb]
 split
 ·exact ⟨_, rfl, stay⟩
 rw [vo x (s, cm s x.fId) hx]
 obtain ⟨r, r1, l, g, r2, r3, r4, r5⟩ := aR (g := ek x) (fin := fun b => (b.1, b.2, (x.fO.length : Int))) (fun _ b => ∃ (l : List al) (g : List Int), b.1 = { s with ac := l } ∧ l.length ≤ s.ac.length ∧ b.2 = { cm s x.fId with cA := g } ∧ g.length ≤ (cm s x.fId).cA.length) (fun r => ∃ (l : List al) (g : List Int), r.1 = { s with ac := l } ∧ l.length ≤ s.ac.length ∧ r.2.1 = { cm s x.fId with cA := g } ∧ g.length ≤ (cm s x.fId).cA.length) x.fO 0 (s, cm s x.fId) (fun j b y hy ⟨l, g, b1, b2, b3, b4⟩ => by
  obtain ⟨bs, ba⟩ := b
  dsimp only at b1 b3
  subst b1
  subst b3
  unfold ek
  dsimp only
  rw [kw { s with ac := l } y (show l.length ≤ 1000000 by omega)]
  simp only [zb, d6]
  split
  ·rw [BM { s with ac := l } _ (show l.length ≤ 1000000 by omega), un g _ (by omega)]
   simp only [zb]
   exact ⟨_, rfl, fun a' e => (by injection e with e; subst e; exact ⟨_, _, rfl, Nat.le_trans (mz _ _) b2, rfl, Nat.le_trans (mz _ _) b4⟩), fun r e => (by cases e)⟩
  ·exact ⟨_, rfl, fun a' e => (by injection e with e; subst e; exact ⟨l, g, rfl, b2, rfl, b4⟩), fun r e => (by cases e)⟩) (fun b hb => hb) ⟨s.ac, (cm s x.fId).cA, rfl, Nat.le_refl _, rfl, Nat.le_refl _⟩
 rw [r1]
 obtain ⟨rs, ra, ri⟩ := r
 dsimp only at r2 r4
 subst r2
 subst r4
 have ht : OkS M { s with ac := l } := h.fewer (c := l) (l := s.aY) r3 (Nat.le_refl _)
 simp only [zb]
 obtain ⟨c, hc⟩ := Ly g { s with ac := l } (show l.length ≤ 1000000 by omega) (by omega)
 obtain ⟨n, hn⟩ := Dr { s with ac := l } (cm s x.fId).fId (show l.length ≤ 1000000 by omega)
 simp only [hc, hn, zb]
 rw [aD (by simp; omega)]
 simp only [zb]
 rw [kj { s with ac := l } _ (by show s.ao.length + 1 ≤ _; omega)]
 refine ⟨_, rfl, OkS.mono (ht.put (k := 8) (fun B hB => ?_)) (by omega)⟩
 have hb : SzA B (cm s x.fId) := hB.get x.fId
 have p1 := hb.asks; have p2 := hb.grants; have p3 := hb.kills
 exact ⟨hb.queue, by show w.1.length ≤ _; omega, Nat.zero_le _, Nat.zero_le _, by show g.length ≤ _; omega, by show (cm s x.fId).iK.length ≤ _; omega⟩
theorem Ur {M : Nat} {s : aa} (h : OkS M s) (hM : M + 100 ≤ 100000) (id st : Int) : ∃ r, yC s id st = some r ∧ OkS (M + 10) r.1 := by
 have k1 := h.small
 unfold yC
 simp only [d7 s _ (show s.ao.length ≤ 1000000 by omega), zb, kh, fg]
 split
 ·exact ⟨_, rfl, h.mono (by omega)⟩
 split
 ·exact ⟨_, rfl, h.mono (by omega)⟩
 unfold JX
 simp only [d7 s id (show s.ao.length ≤ 1000000 by omega), zb, fg, orB]
 split
 ·exact ⟨_, rfl, h.mono (by omega)⟩
 ·rw [kj s _ (by omega)]
  simp only [zb]
  rw [BK _ _ (by show s.ac.length ≤ _; omega) (by show s.aY.length ≤ _; omega)]
  have ht := h.put (k := 0) (a := { cm s id with ed := st, cf := [], cA := [], iK := [], sI := [], tG := [] }) (fun B hB => ⟨(hB.get id).queue, Nat.zero_le _, Nat.zero_le _, Nat.zero_le _, Nat.zero_le _, Nat.zero_le _⟩)
  exact ⟨_, rfl, (ht.fewer (c := s.ac.filter fun c => !(c.bE == id)) (l := s.aY.filter fun c => c.bE != id) (mz _ _) (mz _ _)).mono (by omega)⟩
theorem Ny (s : aa) (hl : s.ao.length ≤ 1000000) : ∃ l, ss s = some { s with ao := l } ∧ l.Sublist s.ao := by
 unfold ss
 dsimp only
 rw [vz s (false, []) hl]
 obtain ⟨r, h1, h2⟩ := aR (g := eB s) (fin := fun b => (b.1, b.2, (s.ao.length : Int))) (fun k b => b.2.length ≤ k ∧ b.2.Sublist (s.ao.take k)) (fun r => r.2.1.Sublist s.ao) s.ao 0 (false, []) (fun j b x hx ⟨hb, hm⟩ => by
  have hj := (zg.1 hx).1
  have hmono : ∀ {l : List aB}, l.Sublist (s.ao.take (0 + j)) → l.Sublist (s.ao.take (0 + j + 1)) := fun hk => hk.trans (List.take_sublist_take_left (by omega))
  unfold eB
  simp only [fg, d6, zb]
  split
  ·exact ⟨_, rfl, fun a' e => (by injection e with e; subst e; exact ⟨by show b.2.length ≤ _; omega, hmono hm⟩), fun r e => (by cases e)⟩
  ·rw [aD (by simp; omega)]
   refine ⟨_, rfl, fun a' e => ?_, fun r e => (by cases e)⟩
   injection e with e
   subst e
   refine ⟨by simp; omega, ?_⟩
   show (b.2 ++ [x]).Sublist _
   rw [List.take_add_one, show s.ao[0 + j]? = some x by rw [Nat.zero_add]; exact hx]
   exact hm.append (List.Sublist.refl _)) (fun b ⟨hb, hm⟩ => by simpa using hm) ⟨by simp, by simp⟩
 rw [h1]
 exact ⟨_, rfl, h2⟩
theorem OkS.apps {M : Nat} {s : aa} (h : OkS M s) {l : List aB} (hl : l.Sublist s.ao) : OkS M { s with ao := l } := by
 obtain ⟨⟨B, h1, h2⟩, h3⟩ := h
 exact ⟨⟨B, ⟨h1.conf, h1.nodes, Nat.le_trans hl.length_le h1.apps, h1.conts, h1.slots, h1.plans, fun x hx => h1.app x (hl.subset hx)⟩, h2⟩, List.Pairwise.sublist hl h3⟩
theorem QV {M : Nat} {s : aa} (h : OkS M s) (hM : M + 100 ≤ 100000) (a : aB) (hq : a.bW.size ≤ 1000000) : ∃ r, su s a = some r ∧ OkS (M + 10) r.1 := by
 have k1 := h.small
 have stay : OkS (M + 10) s := h.mono (by omega)
 unfold su
 simp only [MC, orB, zb, d7 s _ (show s.ao.length ≤ 1000000 by omega), wS _ _ h.sz.conf.sz]
 split
 ·exact ⟨_, rfl, stay⟩
 split
 ·exact ⟨_, rfl, stay⟩
 rw [vA s 0 (by omega)]
 obtain ⟨r, hr, _⟩ := aR (g := eD s) (fin := fun b => (b, (s.ao.length : Int))) (fun _ _ => True) (fun _ => True) s.ao 0 0 (fun j b x hx _ => by
  unfold eD
  simp only [fg, zb, rF]
  exact ⟨_, rfl, fun _ _ => trivial, fun _ _ => trivial⟩) (fun _ _ => trivial) trivial
 rw [hr]
 simp only [zb]
 split
 ·exact ⟨_, rfl, stay⟩
 split
 ·exact ⟨_, rfl, stay⟩
 obtain ⟨l, hl, hl1⟩ := Ny s (by omega)
 have fin : ∀ t : aa, OkS M t → ∃ r, Option.bind (oL a) (fun c17 => Option.bind (eH t ⟨a.fId, 1, a.bW, a.dw, a.bI, a.bU, c17, t.bR, 0, [], [], [], []⟩) fun c18 => some (c18, (0 : Int))) = some r ∧ OkS (M + 10) r.1 := by
  intro t ht
  have h5 := ht.small
  rw [zi]
  simp only [zb]
  rw [kj t _ (by omega)]
  exact ⟨_, rfl, (ht.put (k := 1) (a := ⟨a.fId, 1, a.bW, a.dw, a.bI, a.bU, [⟨0, 0, a.bU, 1, -1, -1, 0⟩], t.bR, 0, [], [], [], []⟩) fun B hB => ⟨hq, by simp, Nat.zero_le _, Nat.zero_le _, Nat.zero_le _, Nat.zero_le _⟩).mono (by omega)⟩
 split
 ·rw [hl]
  simp only [zb]
  exact fin { s with ao := l } (h.apps hl1)
 ·exact fin s h
theorem OkS.noSlot {M : Nat} {s : aa} (h : OkS M s) (hM : M ≤ 1000000) (n : Int) : ∃ r, fu s n = some r ∧ OkS M r := by
 have k1 := h.small
 exact ⟨_, vN s n (by omega), h.fewer (c := s.ac) (Nat.le_refl _) (mz _ _)⟩
theorem Vz {M : Nat} {s : aa} (h : OkS M s) (hM : M + 100 ≤ 100000) (n : Int) : ∃ r, yB s n = some r ∧ OkS (M + 10) r.1 := by
 have k1 := h.small
 have stay : OkS (M + 10) s := h.mono (by omega)
 unfold yB
 simp only [orB, zb, kh]
 split
 ·exact ⟨_, rfl, stay⟩
 split
 ·exact ⟨_, rfl, stay⟩
 rename_i hq1 hq2
 have hq1 : 1 ≤ n ∧ n ≤ 100 := by
  have h9 : (decide (n < 1) || decide (n > 100)) = false := by simpa using hq1
  simp at h9
  omega
 have hnow := h.sz.nodes.2.2.1
 have hq2 : i64.wrap (s.bR + n) = s.bR + n ∧ s.bR + n ≤ 1000000000 := by
  have e : i64.wrap (s.bR + n) = s.bR + n := by rw [IntKind.wrap_i64]; omega
  have h9 : ¬ (i64.wrap (s.bR + n) > 1000000000) := fun h => hq2 (by simpa using h)
  exact ⟨e, by omega⟩
 have h1 := h.now (n := i64.wrap (s.bR + n)) (by rw [hq2.1]; omega)
 have hconts : ({ s with bR := i64.wrap (s.bR + n) } : aa).ac.length ≤ M := h1.small.2.2.1
 generalize ({ s with bR := i64.wrap (s.bR + n) } : aa) = t at h1
 have k2 := h1.small
 rw [yh t (by omega)]
 simp only [zb]
 have hl : ((t.aq.filter fun b => b.fUp && decide (i64.wrap (t.bR - b.bO) ≥ 10)).map aM.fId).length ≤ 1000000 := by
  rw [List.length_map]
  exact Nat.le_trans (mz _ _) (by omega)
 generalize ((t.aq.filter fun b => b.fUp && decide (i64.wrap (t.bR - b.bO) ≥ 10)).map aM.fId) = l at hl
 rw [yA l t hl]
 obtain ⟨r, r1, r2⟩ := aR (g := fV l) (fin := fun b => (b, (l.length : Int))) (fun _ b => OkS M b) (fun r => OkS M r.1) l 0 t (fun j b y hy hb => by
  have k3 := hb.small
  unfold fV
  dsimp only
  rw [N2 b y (by omega)]
  simp only [zb]
  obtain ⟨c, c1, c2⟩ := (Wl hb y).noSlot (by omega) y
  have k4 := c2.small
  obtain ⟨o, o1, o2⟩ := TP c y (by omega)
  obtain ⟨z, z1, z2⟩ := c2.lose o (by omega) (by omega)
  simp only [c1, o1, z1, zb]
  exact ⟨_, rfl, fun a' e => (by injection e with e; subst e; exact z2), fun r e => (by cases e)⟩) (fun b hb => hb) h1
 rw [r1]
 simp only [zb]
 have k5 := r2.small
 rw [F6 r.1 (by omega)]
 simp only [zb]
 have hl2 : ((r.1.ao.filter fun b => b.ed == 2 && decide (i64.wrap (r.1.bR - b.bO) ≥ 15)).map aB.fId).length ≤ 1000000 := by
  rw [List.length_map]
  exact Nat.le_trans (mz _ _) (by omega)
 generalize ((r.1.ao.filter fun b => b.ed == 2 && decide (i64.wrap (r.1.bR - b.bO) ≥ 15)).map aB.fId) = l2 at hl2
 rw [yz l2 r.1 hl2]
 obtain ⟨q, q1, q2⟩ := aR (g := fU l2) (fin := fun b => (b, (l2.length : Int))) (fun _ b => OkS M b) (fun r => OkS M r.1) l2 0 r.1 (fun j b y hy hb => by
  have k3 := hb.small
  unfold fU
  dsimp only
  obtain ⟨c, c1⟩ := WB b y (by omega)
  obtain ⟨z, z1, z2⟩ := hb.lose [c] (by simp) (by omega)
  simp only [c1, z1, zb]
  exact ⟨_, rfl, fun a' e => (by injection e with e; subst e; exact z2), fun r e => (by cases e)⟩) (fun b hb => hb) r2
 rw [q1]
 simp only [zb]
 have k6 := q2.small
 rw [yy q.1 [] (by omega)]
 obtain ⟨p, p1, p2⟩ := aR (g := fT q.1) (fin := fun b => (b, (q.1.bw.length : Int))) (fun k b => b.length ≤ k) (fun r => r.1.length ≤ q.1.bw.length) q.1.bw 0 [] (fun j b y hy hb => by
  have hj := (zg.1 hy).1
  unfold fT
  dsimp only
  split
  ·rw [aD (by simp; omega)]
   exact ⟨_, rfl, fun a' e => (by injection e with e; subst e; simp; omega), fun r e => (by cases e)⟩
  ·exact ⟨_, rfl, fun a' e => (by injection e with e; subst e; omega), fun r e => (by cases e)⟩) (fun b hb => (by simpa using hb)) (by simp)
 rw [p1]
 simp only [zb]
 obtain ⟨z, z1, z2, z3⟩ := JH (q2.plans p2) (by omega)
 have k7 := z2.small
 simp only [z1, zb]
 rw [BB s z.1 (by omega) (by omega)]
 exact ⟨_, rfl, z2.mono (by omega)⟩
theorem XQ {M : Nat} {s : aa} (h : OkS M s) (hM : M + 100 ≤ 100000) (p : a6) (n : Int) : ∃ r, yQ s p n = some r ∧ OkS (M + 10) r.1 := by
 obtain ⟨⟨B, h1, h2⟩, h3⟩ := h
 obtain ⟨r, r1, r2, r3, r4⟩ := O0 h1 (by omega) p n
 exact ⟨r, r1, ⟨B + 1, r2, by rw [r3]; omega⟩, by rw [r4]; exact h3⟩
theorem Wk {M : Nat} {s : aa} (h : OkS M s) (hM : M + 100 ≤ 100000) (id : Int) : ∃ r, uc s id = some r ∧ OkS (M + 10) r.1 := by
 obtain ⟨⟨B, h1, h2⟩, h3⟩ := h
 obtain ⟨r, r1, r2, r3, r4⟩ := Ml h1 (by omega) id
 exact ⟨r, r1, ⟨B, r2, by rw [r3]; omega⟩, by rw [r4]; exact h3⟩
structure InP (x : aJ) : Prop where
 ids : x.fO.length ≤ 1000000
 asks : x.cf.length ≤ 1000000
 queue : x.bE.bW.size ≤ 1000000
theorem nM {α : Type} {c : Prop} [Decidable c] {a b : Option α} {Q : α → Prop} (h1 : ∃ r, a = some r ∧ Q r) (h2 : ∃ r, b = some r ∧ Q r) : ∃ r, (if c then a else b) = some r ∧ Q r := by
 by_cases h : c
 ·rw [if_pos h]; exact h1
 ·rw [if_neg h]; exact h2
theorem QJ {M : Nat} {s : aa} (h : OkS M s) (hM : M + 100 ≤ 100000) {x : aJ} (hx : InP x) : ∃ r, rm s x = some r ∧ OkS (M + 40) r.1 := by
 have k1 := h.small
 have up : ∀ {o : Option (aa × bt)}, (∃ r, o = some r ∧ OkS (M + 10) r.1) → ∃ r, (Option.bind o fun c => some c) = some r ∧ OkS (M + 40) r.1 := fun ⟨r, e, hr⟩ => by
  rw [e]
  exact ⟨r, rfl, hr.mono (by omega)⟩
 unfold rm
 refine nM ?_ ?_
 ·obtain ⟨r, r1, r2⟩ := RR h (by omega) x.K6
  exact up ⟨r, r1, r2.mono (by omega)⟩
 refine nM ?_ ?_
 ·rw [EJ s _ (by omega)]
  exact ⟨_, rfl, (Xm h x.bK).mono (by omega)⟩
 refine nM ?_ ?_
 ·obtain ⟨r, r1, r2⟩ := KH h (by omega) x hx.ids
  rw [r1]
  exact ⟨_, rfl, r2⟩
 refine nM ?_ ?_
 ·obtain ⟨r, r1, r2⟩ := QV h hM x.bE hx.queue
  rw [r1]
  exact ⟨_, rfl, r2.mono (by omega)⟩
 refine nM ?_ ?_
 ·exact up (Ro h hM x hx.ids hx.asks)
 refine nM ?_ ?_
 ·exact up (Ur h hM x.fId 3)
 refine nM ?_ ?_
 ·exact up (Ur h hM x.fId 4)
 refine nM ?_ ?_
 ·exact up (Vz h hM x.fN)
 refine nM ?_ ?_
 ·obtain ⟨r, r1, r2⟩ := XQ h hM x.o5 x.fN
  rw [r1]
  exact ⟨_, rfl, r2.mono (by omega)⟩
 refine nM ?_ ?_
 ·obtain ⟨r, r1, r2⟩ := Wk h hM x.fId
  rw [r1]
  exact ⟨_, rfl, r2.mono (by omega)⟩
 refine nM ?_ ?_
 ·refine nM ?_ ?_
  ·exact ⟨_, rfl, h.mono (by omega)⟩
  ·exact ⟨_, rfl, (h.epoch (i64.wrap (s.ql + 1)) 0).mono (by omega)⟩
 ·exact ⟨_, rfl, h.mono (by omega)⟩
def Du : aa := ⟨⟨[⟨#[]⟩], [⟨⟨#[114, 111, 111, 116]⟩, [⟨10000, 10000⟩], 10000⟩]⟩, [], [], [], [], [], 0, 0, 0⟩
theorem OH : Jz = some Du := rfl
theorem VF : yk ⟨#[114, 111, 111, 116]⟩ = some [⟨#[114, 111, 111, 116]⟩] := by kernel_rfl
theorem P2 : OkS 1 Du := by
 refine ⟨⟨0, ⟨⟨⟨by decide, by decide, ?_, ?_⟩, ?_, ?_, ⟨by decide, ?_⟩, by decide, ?_, ?_⟩, ⟨by decide, List.Pairwise.nil, by decide, fun n hn => by cases hn⟩, by decide, by decide, by decide, by decide, ?_⟩, by decide⟩, List.Pairwise.nil⟩
 ·intro q hq; simp only [Du, List.mem_singleton] at hq; subst hq; decide
 ·intro q hq; simp only [Du, List.mem_singleton] at hq; subst hq; decide
 ·intro q hq; simp only [Du, List.mem_singleton] at hq; subst hq; rfl
 ·intro q hq r hr x hx
  simp only [Du, List.mem_singleton] at hq
  subst hq
  rw [VF] at hr
  injection hr with hr
  subst hr
  simp only [List.mem_singleton] at hx
  subst hx
  exact CC (c := Du.bN) (q := ⟨⟨#[114, 111, 111, 116]⟩, [⟨10000, 10000⟩], 10000⟩) (by simp [Du])
 ·intro q hq; simp only [Du, List.mem_singleton] at hq; subst hq; show dx 6 _ ≤ 4; rw [show dx 6 ⟨#[114, 111, 111, 116]⟩ = 1 by kernel_rfl]; decide
 ·exact ⟨⟨⟨#[114, 111, 111, 116]⟩, [⟨10000, 10000⟩], 10000⟩, by simp [Du], by kernel_rfl⟩
 ·intro x hx; simp only [Du, List.mem_singleton] at hx; subst hx; decide
 ·intro a ha; cases ha
def fh (v_c : az) (st : (List ByteArray)) (x_ : aC) : Option (((List ByteArray)) ⊕ (((List ByteArray) × Int))) :=
let v_l := st
(jL v_c x_.aI).bind fun c5 => if c5 = true then
(aU v_l [x_.aI]).bind fun b6 => let v_l : (List ByteArray) := b6
some (.inl v_l)
else
some (.inl v_l)
theorem xg (v_c : az) (a_ : (List ByteArray)) (hl : v_c.ae.length ≤ 1000000) : ah (jU v_c) ab (a_, (0)) = bk (fh v_c) (fun a_ => (a_, ((v_c.ae.length : Int)))) a_ v_c.ae :=
 ay v_c.ae (S := (List ByteArray) × Int) (fun a_ k_ => (a_, (k_))) (fh v_c) (fun a_ => (a_, ((v_c.ae.length : Int)))) (am hl) (fun k a x hx => by
  unfold jU fh; exact bG)
  (fun a => by unfold jU; exact cK) a_
def dh (v_s : aa) (v_p : aB) (v_a : aP) (st : aJ) (v_i : Int) (x_ : al) : Option ((aJ) ⊕ ((aJ × Int))) :=
let v_x := st
(if (x_.bE == v_p.fId) = true then (bh (i64.wrap (v_a.fD + v_i)) 11).bind fun c23 => some (c23 == 10) else some false).bind fun q24 => if q24 = true then
(aU v_x.fO [x_.fId]).bind fun b25 => let v_x : aJ := { v_x with fO := b25 }
some (.inl v_x)
else
some (.inl v_x)
theorem sA (v_s : aa) (v_p : aB) (v_a : aP) (a_ : aJ) (hl : v_s.ac.length ≤ 1000000) : ah (fF v_s v_p v_a) ab (a_, (0)) = nh (dh v_s v_p v_a) (fun a_ => (a_, ((v_s.ac.length : Int)))) a_ 0 v_s.ac :=
 eU v_s.ac (S := aJ × Int) (fun a_ k_ => (a_, (k_))) (dh v_s v_p v_a) (fun a_ => (a_, ((v_s.ac.length : Int)))) (am hl) (fun k a x hx => by
  unfold fF dh; exact bG)
  (fun a => by unfold fF; exact cK) a_
def dC (v_s : aa) (v_a : aP) (bD : Int) (st : aJ) (x_ : aM) : Option ((aJ) ⊕ ((aJ × Int))) :=
let v_x := st
if (x_.fId == bD) = true then
(bh v_a.fB 8).bind fun c17 => let v_x : aJ := { v_x with cJ := (i64.wrap ((i64.wrap (x_.cJ + 1)) - (i64.wrap (Int.tdiv c17 6)))) }
some (.inl v_x)
else
some (.inl v_x)
theorem sZ (v_s : aa) (v_a : aP) (bD : Int) (a_ : aJ) (hl : v_s.aq.length ≤ 1000000) : ah (gI v_s v_a bD) ab (a_, (0)) = bk (dC v_s v_a bD) (fun a_ => (a_, ((v_s.aq.length : Int)))) a_ v_s.aq :=
 ay v_s.aq (S := aJ × Int) (fun a_ k_ => (a_, (k_))) (dC v_s v_a bD) (fun a_ => (a_, ((v_s.aq.length : Int)))) (am hl) (fun k a x hx => by
  unfold gI dC; exact bG)
  (fun a => by unfold gI; exact cK) a_
def dB (v_s : aa) (bD : Int) (v_a : aP) (st : aJ) (aQ : Int) (x_ : al) : Option ((aJ) ⊕ ((aJ × Int))) :=
let v_x := st
(if (x_.bK == bD) = true then (bh (i64.wrap (v_a.fC + aQ)) 9).bind fun c23 => some (c23 == 8) else some false).bind fun q24 => if q24 = true then
(aU v_x.fO [x_.fId]).bind fun b25 => let v_x : aJ := { v_x with fO := b25 }
some (.inl v_x)
else
some (.inl v_x)
theorem sY (v_s : aa) (bD : Int) (v_a : aP) (a_ : aJ) (hl : v_s.ac.length ≤ 1000000) : ah (gH v_s bD v_a) ab (a_, (0)) = nh (dB v_s bD v_a) (fun a_ => (a_, ((v_s.ac.length : Int)))) a_ 0 v_s.ac :=
 eU v_s.ac (S := aJ × Int) (fun a_ k_ => (a_, (k_))) (dB v_s bD v_a) (fun a_ => (a_, ((v_s.ac.length : Int)))) (am hl) (fun k a x hx => by
  unfold gH dB; exact bG)
  (fun a => by unfold gH; exact cK) a_
def cX (v_x : aE) (st : aa) (x_ : aP) : Option ((aa) ⊕ ((aa × Int))) :=
let v_s := st
(gJ x_ v_s).bind fun c9 => (rm v_s c9).bind fun c10 => let v_s : aa := c10.1
some (.inl v_s)
theorem qw (v_x : aE) (a_ : aa) (hl : v_x.l5.length ≤ 1000000) : ah (eI v_x) ab (a_, (0)) = bk (cX v_x) (fun a_ => (a_, ((v_x.l5.length : Int)))) a_ v_x.l5 :=
 ay v_x.l5 (S := aa × Int) (fun a_ k_ => (a_, (k_))) (cX v_x) (fun a_ => (a_, ((v_x.l5.length : Int)))) (am hl) (fun k a x hx => by
  unfold eI cX; exact bG)
  (fun a => by unfold eI; exact cK) a_
theorem aV (a : Int) {n : Int} (h0 : 0 < n) (h1 : n ≤ 1000000000) : Ok (bh a n) (fun k => 0 ≤ k ∧ k < n) := by
 unfold bh BR
 rw [if_neg (by omega)]
 have h := Cs (a := a) h0
 simp only [zb]
 refine Ok.bind (P := fun k => 0 ≤ k ∧ k < n) (Ok.ite (fun hc => ?_) fun hc => ?_) fun r hr => Ok.pure hr
 ·have := zd hc
  refine Ok.pure ?_
  rw [IntKind.wrap_i64]; omega
 ·have := of_decide_eq_false (by simpa using hc : decide (a.tmod n < 0) = false)
  exact Ok.pure (by omega)
theorem xf (n : Int) : Ok (vb n) (fun _ => True) := by
 unfold vb
 exact Ok.bind (aV _ (by omega) (by omega)) fun k hk => Ok.bind (jI hk.1 hk.2) fun b _ => Ok.pure trivial
theorem J1 {c : az} (h : zy c) : Ok (vd c) (fun l => 0 < l.length ∧ l.length ≤ 1000 ∧ ∀ x ∈ l, x.size ≤ 1000000) := by
 have hq := h.sz.queues
 unfold vd
 dsimp only
 have e : fh c = fun acc x => if Bc c x.aI = true then (aU acc [x.aI]).map (fun a => (.inl a : List ByteArray ⊕ (List ByteArray × Int))) else some (.inl acc) := by
  funext acc x
  unfold fh
  simp only [wS _ _ h.sz, zb]
  split
  ·cases aU acc [x.aI] <;> rfl
  ·rfl
 rw [xg c [] (by omega), e, cw (fun q : aC => Bc c q.aI) aC.aI _ c.ae [] (by simp; omega)]
 simp only [zb, List.nil_append]
 refine Ok.pure ⟨?_, ?_, fun x hx => ?_⟩
 ·obtain ⟨q, hq, hl⟩ := h.leaf
  rw [List.length_map]
  exact List.length_pos_of_mem (List.mem_filter.2 ⟨hq, hl⟩)
 ·rw [List.length_map]
  exact Nat.le_trans (List.length_filter_le _ _) hq
 ·obtain ⟨q, hq, rfl⟩ := List.mem_map.1 hx
  exact h.sz.paths q (List.mem_filter.1 hq).1
theorem J0 {M : Nat} {s : aa} (h : OkS M s) (hM : M ≤ 100000) (a : aP) : Ok (nf a s) InP := by
 have k1 := h.small
 have hlab := h.sz.conf.lab1
 have hlab2 := h.sz.conf.sz.labels
 unfold nf
 dsimp only
 refine Ok.ite (fun _ => Ok.pure ⟨by simp, by simp, by decide⟩) fun hc => ?_
 have hn : (s.ao.length : Int) ≠ 0 := fun e => hc (by rw [e]; rfl)
 refine Ok.bind (aV _ (by omega) (by omega)) fun w hw => Ok.bind (jI hw.1 hw.2) fun p _ => Ok.bind (aV _ (by omega) (by omega)) fun u _ => ?_
 refine Ok.bind (P := fun x : aJ => x.fO = [] ∧ x.cf.length ≤ 1 ∧ x.bE.bW.size = 0) (Ok.ite (fun _ => ?_) fun _ => Ok.pure ⟨rfl, by simp, rfl⟩) fun x ⟨x1, x2, x3⟩ => ?_
 ·refine Ok.bind (aV _ (by omega) (by omega)) fun c7 _ => Ok.bind (aV _ (by omega) (by omega)) fun c8 _ => Ok.bind (xf _) fun c9 _ => Ok.bind (aV _ (by omega) (by omega)) fun c10 _ => ?_
  refine Ok.bind (P := fun j : aO × aJ => j.2.fO = [] ∧ j.2.bE.bW.size = 0) (Ok.ite (fun _ => Ok.bind (aV _ (by omega) (by omega)) fun _ _ => Ok.pure ⟨rfl, rfl⟩) fun _ => Ok.pure ⟨rfl, rfl⟩) fun j1 ⟨j2, j3⟩ => ?_
  refine Ok.bind (P := fun j : aO × aJ => j.2.fO = [] ∧ j.2.bE.bW.size = 0) (Ok.ite (fun _ => Ok.bind (aV _ (by omega) (by omega)) fun _ _ => Ok.bind (aV _ (by omega) (by omega)) fun _ _ => Ok.pure ⟨j2, j3⟩) fun _ => Ok.pure ⟨j2, j3⟩) fun j4 ⟨j5, j6⟩ => Ok.pure ⟨j5, by simp, j6⟩
 ·rw [sA s p a x (by omega)]
  refine Ok.bind (tc (g := dh s p a) (fin := fun a_ => (a_, ((s.ac.length : Int)))) (fun k b => b.fO.length ≤ k ∧ b.cf.length ≤ 1 ∧ b.bE.bW.size = 0) s.ac x (fun j b y hy ⟨b1, b2, b3⟩ => ?_) ⟨by rw [x1]; simp, x2, x3⟩) fun r ⟨q, e, q1, q2, q3⟩ => ?_
  ·have hj := (zg.1 hy).1
   unfold dh
   dsimp only
   refine Ok.bind (P := fun _ => True) (Ok.ite (fun _ => Ok.bind (aV _ (by omega) (by omega)) fun _ _ => Ok.pure trivial) fun _ => Ok.pure trivial) fun t _ => Ok.ite (fun _ => ?_) fun _ => Ok.pure ⟨_, rfl, by omega, b2, b3⟩
   rw [aD (by simp; omega)]
   exact Ok.pure ⟨_, rfl, by simp; omega, b2, b3⟩
  ·subst e
   exact Ok.pure ⟨by dsimp only; omega, by dsimp only; omega, by dsimp only; omega⟩
theorem MJ {M : Nat} {s : aa} (h : OkS M s) (hM : M ≤ 100000) (a : aP) : Ok (gJ a s) InP := by
 have k1 := h.small
 have hlab := h.sz.conf.lab1
 have hlab2 := h.sz.conf.sz.labels
 have orOk : ∀ {c : Prop} [Decidable c] {d : Bool}, Ok (if c then some true else some d) (fun _ => True) := fun {c} _ {d} => Ok.ite (fun _ => Ok.pure trivial) fun _ => Ok.pure trivial
 have hx0 : ∀ k id b n t nd ap pl, ap.bW.size ≤ 1000000 → InP (⟨k, id, b, n, t, nd, ap, [], [], pl⟩ : aJ) := fun k id b n t nd ap pl hq => ⟨by simp, by simp, hq⟩
 unfold gJ
 dsimp only
 refine Ok.bind (aV _ (by omega) (by omega)) fun c1 _ => Ok.bind (J1 h.sz.conf) fun lv ⟨l1, l2, l3⟩ => Ok.bind (aV _ (by omega) (by omega)) fun c5 _ => Ok.bind (aV _ (by omega) (by omega)) fun c6 _ => Ok.bind orOk fun q7 _ => ?_
 refine Ok.bind (P := InP) (Ok.ite (fun _ => ?_) fun _ => ?_) fun r hr => Ok.pure hr
 ·exact Ok.bind (aV _ (by omega) (by omega)) fun _ _ => Ok.bind (aV _ (by omega) (by omega)) fun _ _ => Ok.bind (aV _ (by omega) (by omega)) fun _ _ => Ok.bind (aV _ (by omega) (by omega)) fun _ _ => Ok.pure (hx0 _ _ _ _ _ _ _ _ (by decide))
 refine Ok.bind (P := fun _ => True) (Ok.ite (fun _ => Ok.pure trivial) fun _ => Ok.ite (fun _ => Ok.pure trivial) fun _ => orOk) fun q13 _ => Ok.ite (fun _ => ?_) fun _ => ?_
 ·rw [sZ s a c1 _ (by omega)]
  refine Ok.bind (C6 (g := dC s a c1) (fin := fun a_ => (a_, ((s.aq.length : Int)))) (fun k b => b.fO = [] ∧ b.cf = [] ∧ b.bE.bW.size = 0) s.aq _ (fun j b y hy ⟨b1, b2, b3⟩ => ?_) ⟨rfl, rfl, rfl⟩) fun r ⟨q, e, q1, q2, q3⟩ => ?_
  ·unfold dC
   dsimp only
   exact Ok.ite (fun _ => Ok.bind (aV _ (by omega) (by omega)) fun _ _ => Ok.pure ⟨_, rfl, b1, b2, b3⟩) fun _ => Ok.pure ⟨_, rfl, b1, b2, b3⟩
  subst e
  dsimp only
  rw [sY s c1 a q (by omega)]
  refine Ok.bind (tc (g := dB s c1 a) (fin := fun a_ => (a_, ((s.ac.length : Int)))) (fun k b => b.fO.length ≤ k ∧ b.cf = [] ∧ b.bE.bW.size = 0) s.ac q (fun j b y hy ⟨b1, b2, b3⟩ => ?_) ⟨by rw [q1]; simp, q2, q3⟩) fun r ⟨q, e, q1, q2, q3⟩ => ?_
  ·have hj := (zg.1 hy).1
   unfold dB
   dsimp only
   refine Ok.bind (P := fun _ => True) (Ok.ite (fun _ => Ok.bind (aV _ (by omega) (by omega)) fun _ _ => Ok.pure trivial) fun _ => Ok.pure trivial) fun t _ => Ok.ite (fun _ => ?_) fun _ => Ok.pure ⟨_, rfl, by omega, b2, b3⟩
   rw [aD (by simp; omega)]
   exact Ok.pure ⟨_, rfl, by simp; omega, b2, b3⟩
  ·subst e
   exact Ok.pure ⟨by dsimp only; omega, by dsimp only; rw [q2]; simp, by dsimp only; omega⟩
 refine Ok.bind orOk fun q24 _ => Ok.ite (fun _ => ?_) fun _ => ?_
 ·exact Ok.bind (aV _ (by omega) (by omega)) fun _ _ => Ok.bind (aV _ (by omega) (by omega)) fun w hw => Ok.bind (jI hw.1 hw.2) fun b hb => Ok.bind (aV _ (by omega) (by omega)) fun _ _ => Ok.bind (aV _ (by omega) (by omega)) fun _ _ => Ok.bind (xf _) fun _ _ => Ok.pure (hx0 _ _ _ _ _ _ _ _ (l3 b hb))
 refine Ok.bind (P := fun _ => True) (Ok.ite (fun _ => Ok.pure trivial) fun _ => orOk) fun q31 _ => Ok.ite (fun _ => ?_) fun _ => ?_
 ·exact Ok.bind (J0 h hM a) fun x hx => Ok.pure hx
 refine Ok.ite (fun _ => ?_) fun _ => ?_
 ·exact Ok.bind (aV _ (by omega) (by omega)) fun w hw => Ok.bind (jI hw.1 hw.2) fun _ _ => Ok.bind (aV _ (by omega) (by omega)) fun _ _ => Ok.pure (hx0 _ _ _ _ _ _ _ _ (by decide))
 refine Ok.bind orOk fun q36 _ => Ok.ite (fun _ => ?_) fun _ => ?_
 ·exact Ok.bind (aV _ (by omega) (by omega)) fun _ _ => Ok.pure (hx0 _ _ _ _ _ _ _ _ (by decide))
 refine Ok.ite (fun _ => ?_) fun _ => ?_
 ·exact Ok.bind (aV _ (by omega) (by omega)) fun w hw => Ok.bind (jI hw.1 hw.2) fun _ _ => Ok.bind (aV _ (by omega) (by omega)) fun _ _ => Ok.bind (aV _ (by omega) (by omega)) fun _ _ => Ok.bind (xf _) fun _ _ => Ok.bind (aV _ (by omega) (by omega)) fun _ _ => Ok.pure (hx0 _ _ _ _ _ _ _ _ (by decide))
 refine Ok.ite (fun _ => ?_) fun _ => ?_
 ·refine Ok.bind (aV _ (by omega) (by omega)) fun w hw => Ok.bind (jI hw.1 hw.2) fun _ _ => Ok.bind (Fz _ _) fun c hc => ?_
  obtain ⟨t, ht⟩ := ER hc
  exact Ok.bind (P := fun _ => True) ⟨t, ht, trivial⟩ fun _ _ => Ok.pure (hx0 _ _ _ _ _ _ _ _ (by decide))
 ·exact Ok.pure (hx0 _ _ _ _ _ _ _ _ (by decide))
theorem UW (x : aE) (hx : x.l5.length ≤ 80) : Ok (dK x) (OkS 10000) := by
 unfold dK
 rw [OH]
 simp only [zb]
 refine Ok.bind (Fz _ _) fun c hc => ?_
 obtain ⟨t, ht⟩ := ER hc
 refine Ok.bind (P := fun _ => True) ⟨t, ht, trivial⟩ fun t _ => Ok.bind (P := fun r : aa × bt => OkS 41 r.1) (QJ (M := 1) (x := ⟨1, 0, 0, 0, t, aM.zero, aB.zero, [], [], a6.zero⟩) P2 (by omega) ⟨by simp, by simp, Nat.zero_le _⟩) fun r hr => ?_
 refine Ok.bind (P := OkS 41) (Ok.ite (fun _ => Ok.pure hr) fun _ => Ok.pure (P2.mono (by omega))) fun s hs => ?_
 rw [qw x s (by omega)]
 refine Ok.bind (C6 (g := cX x) (fin := fun a_ => (a_, ((x.l5.length : Int)))) (fun k b => OkS (41 + 40 * k) b) x.l5 s (fun j b y hy hb => ?_) hs) fun r ⟨q, e, hq⟩ => ?_
 ·have hj := (zg.1 hy).1
  unfold cX
  dsimp only
  exact Ok.bind (MJ hb (by omega) y) fun i hi => Ok.bind (QJ hb (by omega) hi) fun r hr => Ok.pure ⟨_, rfl, hr.mono (by omega)⟩
 ·subst e
  exact Ok.pure (hq.mono (by omega))
noncomputable def H6 (a n : Int) : Option Int := uB (a, (n, ()))
noncomputable def T9 (a b : List Int) : Option Bool := AV (a, (b, ()))
noncomputable def T3 : Option Bool := xe ()
theorem Rt : T3 = some true := by kernel_rfl
theorem QO (a n : Int) : H6 a n = Option.bind (BR a n) fun q => if decide (q < 0) = true then some (i64.wrap (q + n)) else some q := by kernel_rfl
theorem MN (a : Int) {n : Int} (h0 : 0 < n) (h1 : n ≤ 1000000000) : Ok (H6 a n) (fun k => 0 ≤ k ∧ k < n) := by
 rw [QO]
 unfold BR
 rw [if_neg (by omega)]
 have h := Cs (a := a) h0
 simp only [zb]
 refine Ok.ite (fun hc => ?_) fun hc => ?_
 ·have := zd hc
  refine Ok.pure ?_
  rw [IntKind.wrap_i64]; omega
 ·have := of_decide_eq_false (by simpa using hc : decide (a.tmod n < 0) = false)
  exact Ok.pure (by omega)
theorem V6 (a b : List Int) : T9 a b = if ((a.length : Int) != (b.length : Int)) = true then some false else Option.bind (ah (fun st : Bool × Int => if decide (st.2 < (a.length : Int)) = true then Option.bind (ax a st.2) fun x => Option.bind (ax b st.2) fun y => if (x != y) = true then some (.inr (.inr false)) else some (.inl (st.1, i64.wrap (st.2 + 1))) else some (.inr (.inl (st.1, st.2)))) ab (false, (0 : Int))) fun o : (Bool × Int) ⊕ Bool => match o with | .inl _ => some true | .inr v => some v := by kernel_rfl
theorem Ns (a : List Int) (hl : a.length ≤ 1000000) : T9 a a = some true := by
 rw [V6, if_neg (by simp)]
 have hp : ∃ r, ah (fun st : Bool × Int => if decide (st.2 < (a.length : Int)) = true then Option.bind (ax a st.2) fun x => Option.bind (ax a st.2) fun y => if (x != y) = true then some (.inr (.inr false)) else some (.inl (st.1, i64.wrap (st.2 + 1))) else some (.inr (.inl (st.1, st.2)))) ab (false, (0 : Int)) = some r ∧ ∃ q, (r : (Bool × Int) ⊕ Bool) = .inl q := by
  refine aH (fun st => ∃ k : Nat, st.2 = (k : Int) ∧ k ≤ a.length) (fun st => a.length - st.2.toNat) _ (fun st ⟨k, h1, h2⟩ => ?_) ab _ ⟨0, rfl, Nat.zero_le _⟩ (by have := am hl; show a.length - (0 : Int).toNat < ab; omega)
  simp only [h1]
  rcases Nat.lt_or_ge k a.length with hlt | hge
  ·have d1 : decide ((k : Int) < (a.length : Int)) = true := by simpa using hlt
   rw [if_pos d1, aK (zq hlt)]
   simp only [zb, bne_self_eq_false, zf, if_false, bj hlt hl]
   exact .inl ⟨_, rfl, ⟨k + 1, rfl, hlt⟩, by simp only [zt]; omega⟩
  ·have d1 : decide ((k : Int) < (a.length : Int)) = false := by simp; omega
   rw [if_neg (by rw [d1]; decide)]
   exact .inr ⟨_, rfl, _, rfl⟩
 obtain ⟨r, h1, q, rfl⟩ := hp
 rw [h1]
 rfl
theorem XD (x : aE) : nc x = some (decide ((x.fNs.length : Int) ≤ 30) && decide ((x.l5.length : Int) ≤ 80)) := by
 unfold nc
 simp only [d6, zb]
theorem OkS.later {M : Nat} {s : aa} (h : OkS M s) : (s.aq.length ≤ M ∧ s.ac.length ≤ M) ∧ (0 ≤ s.bR ∧ s.bR ≤ 1000000000) ∧ ∀ x ∈ s.aq, 0 ≤ x.bO ∧ x.bO ≤ 1000000000 := ⟨⟨h.small.1, h.small.2.2.1⟩, h.sz.nodes.2.2.1, h.sz.nodes.2.2.2⟩
def nL (s : aa) (w : Int) : aa := { s with bR := i64.wrap (s.bR + w) }
noncomputable def XN (s : aa) (st : Bool × List Int × Int) : Option ((Bool × List Int × Int) ⊕ ((Bool × List Int × Int) ⊕ Bool)) :=
 if decide (st.2.2 < (st.2.1.length : Int)) = true then
  Option.bind (ax st.2.1 st.2.2) fun x => Option.bind (Ql s x) fun a => Option.bind (ax st.2.1 st.2.2) fun y => Option.bind (kZ s y) fun b =>
  Option.bind (if (!(a.1.fId == b.1.fId && (a.1.bc == b.1.bc && (a.1.fM == b.1.fM && (a.1.jc.bA == b.1.jc.bA && (a.1.jc.aZ == b.1.jc.aZ && (a.1.bO == b.1.bO && (a.1.cJ == b.1.cJ && a.1.fUp == b.1.fUp)))))))) = true then some true else some (!(a.2 == b.2))) fun q =>
  Option.bind (if q = true then some true else Option.bind (ax st.2.1 st.2.2) fun x => Option.bind (PB s x) fun u => Option.bind (ax st.2.1 st.2.2) fun y => Option.bind (yg s y) fun v => some (!(u.bA == v.bA && u.aZ == v.aZ))) fun q =>
  Option.bind (if q = true then some true else Option.bind (ax st.2.1 st.2.2) fun x => Option.bind (Ui s x) fun u => Option.bind (ax st.2.1 st.2.2) fun y => Option.bind (uS s y) fun v => some (!(u.bA == v.bA && u.aZ == v.aZ))) fun q =>
  if q = true then some (.inr (.inr false)) else some (.inl (st.1, st.2.1, i64.wrap (st.2.2 + 1)))
 else some (.inr (.inl (st.1, st.2.1, st.2.2)))
def XM (s : aa) (st : List Int × Int) : Option ((List Int × Int) ⊕ (List Int × Int)) :=
 if decide (st.2 < (s.aq.length : Int)) = true then Option.bind (ax s.aq st.2) fun n => Option.bind (aU st.1 [n.fId]) fun zs => some (.inl (zs, i64.wrap (st.2 + 1))) else some (.inr (st.1, st.2))
theorem WF (x : aE) (id more : Int) : pI (x, (id, (more, ()))) = Option.bind T3 fun r => if (!r) = true then some false else Option.bind (nc x) fun r => if (!r) = true then some true else Option.bind (dK x) fun s => Option.bind (H6 more 15) fun w => Option.bind (ah (XM s) ab ([id], 0)) fun st => Option.bind (ah (XN (nL s w)) ab (false, st.1, 0)) fun o => match o with | .inl _ => Option.bind (Ik (nL s w)) fun a => Option.bind (rf (nL s w)) fun b => Option.bind (T9 a b) fun r => some r | .inr v => some v := by kernel_rfl
theorem Wy (s : aa) (id : Int) (hl : s.aq.length ≤ 100000) : Ok (ah (XM s) ab ([id], 0)) (fun r => r.1.length ≤ 100001) := by
 refine aH (fun st => ∃ k : Nat, st.2 = (k : Int) ∧ k ≤ s.aq.length ∧ st.1.length ≤ k + 1) (fun st => s.aq.length - st.2.toNat) _ (fun st ⟨k, h1, h2, h3⟩ => ?_) ab _ ⟨0, rfl, Nat.zero_le _, by simp⟩ (by have := am (show s.aq.length ≤ 1000000 by omega); show s.aq.length - (0 : Int).toNat < ab; omega)
 unfold XM
 simp only [h1]
 rcases Nat.lt_or_ge k s.aq.length with hlt | hge
 ·have d1 : decide ((k : Int) < (s.aq.length : Int)) = true := by simpa using hlt
  rw [if_pos d1, aK (zq hlt)]
  simp only [zb]
  rw [aD (by simp; omega)]
  simp only [zb, bj hlt (show s.aq.length ≤ 1000000 by omega)]
  exact .inl ⟨_, rfl, ⟨k + 1, rfl, hlt, by simp; omega⟩, by simp only [zt]; omega⟩
 ·have d1 : decide ((k : Int) < (s.aq.length : Int)) = false := by simp; omega
  rw [if_neg (by rw [d1]; decide)]
  exact .inr ⟨_, rfl, by dsimp only; omega⟩
theorem Wz {s : aa} (hn : s.aq.length ≤ 1000000) (hc : s.ac.length ≤ 1000000) (ids : List Int) (hl : ids.length ≤ 1000000) : Ok (ah (XN s) ab (false, ids, 0)) (fun r => ∃ q, r = .inl q) := by
 refine aH (fun st => ∃ k : Nat, st.2.2 = (k : Int) ∧ k ≤ ids.length ∧ st.2.1 = ids) (fun st => ids.length - st.2.2.toNat) _ (fun st ⟨k, h1, h2, h3⟩ => ?_) ab _ ⟨0, rfl, Nat.zero_le _, rfl⟩ (by have := am hl; show ids.length - (0 : Int).toNat < ab; omega)
 unfold XN
 simp only [h1, h3]
 rcases Nat.lt_or_ge k ids.length with hlt | hge
 ·have d1 : decide ((k : Int) < (ids.length : Int)) = true := by simpa using hlt
  rw [if_pos d1]
  simp only [aK (zq hlt), zb, K3 s _ hn, ke s _ hn, Ka s _ hc, EI s _ hc, Uh s _ hn hc, wQ s _ hn hc, BEq.rfl, Bool.and_self, Bool.not_true, zf, if_false, bj hlt hl]
  exact .inl ⟨_, rfl, ⟨k + 1, rfl, hlt, rfl⟩, by simp only [zt]; omega⟩
 ·have d1 : decide ((k : Int) < (ids.length : Int)) = false := by simp; omega
  rw [if_neg (by rw [d1]; decide)]
  exact .inr ⟨_, rfl, _, rfl⟩
theorem NodesAsks.plain (a0 : aE) (_k0 : aE.ok a0) (a1 : Int) (_k1 : wfI a1) (a2 : Int) (_k2 : wfI a2) : pI (a0, (a1, (a2, ()))) = some true := by
 rw [WF, Rt, XD]
 simp only [zb, Bool.not_true, zf, if_false]
 cases hf : (decide ((a0.fNs.length : Int) ≤ 30) && decide ((a0.l5.length : Int) ≤ 80)) with
 | false => rfl
 | true =>
  simp only [Bool.not_true, zf, if_false]
  rw [Bool.and_eq_true] at hf
  have hacts : a0.l5.length ≤ 80 := by have := zd hf.2; omega
  obtain ⟨s, h1, h2⟩ := UW a0 hacts
  obtain ⟨w, w1, w2⟩ := MN a2 (n := 15) (by decide) (by decide)
  obtain ⟨⟨k1, k2⟩, k3, k4⟩ := h2.later
  rw [h1]
  simp only [zb]
  rw [w1]
  simp only [zb]
  obtain ⟨r, r1, r2⟩ := Wy s a1 (by omega)
  rw [r1]
  simp only [zb]
  have n1 : (nL s w).aq.length ≤ 1000000 := by show s.aq.length ≤ _; omega
  have n2 : (nL s w).ac.length ≤ 1000000 := by show s.ac.length ≤ _; omega
  have n3 : 0 ≤ (nL s w).bR ∧ (nL s w).bR ≤ 2000000000 := by
   show 0 ≤ i64.wrap (s.bR + w) ∧ i64.wrap (s.bR + w) ≤ 2000000000
   rw [IntKind.wrap_i64]; omega
  obtain ⟨o, o1, q, rfl⟩ := Wz n1 n2 r.1 (by omega)
  rw [o1]
  simp only [zb]
  rw [M0 n1 n3 (show ∀ x ∈ (nL s w).aq, _ from k4), yh _ n1]
  simp only [zb]
  have e : ((nL s w).aq.filter (GG (nL s w))).map aM.fId = ((nL s w).aq.filter fun b => b.fUp && decide (i64.wrap ((nL s w).bR - b.bO) ≥ 10)).map aM.fId := rfl
  rw [← e, Ns _ (by rw [List.length_map]; exact Nat.le_trans (List.length_filter_le _ _) n1)]
  rfl
section
set_option maxHeartbeats 0
theorem rA : ∀ (w r : List Char), (∀ c ∈ w, c ≠ ' ') → wordsSigns (w ++ ' ' :: r) = w :: wordsSigns r
 | [], r, _ => by simp [wordsSigns]
 | c :: w, r, h => by
  have h1 : c ≠ ' ' := h c (List.mem_cons_self ..)
  have h2 := rA w r (fun d hd => h d (List.mem_cons_of_mem _ hd))
  rw [List.cons_append, wordsSigns.eq_3 _ _ (fun e => h1 e), h2]
theorem Er (R : List (List Char)) : stripLifts liftWords (['c', 'u', 't'] :: R) = ([], ['c', 'u', 't'] :: R) := by kernel_rfl
theorem TV (P : Program) {R : List (List Char)} (h : behindMainWord (wordsSigns P.initOrder.toList) = ['c', 'u', 't'] :: R) : P.make = some .cut := by
 unfold Program.make
 rw [h]
 rfl
theorem Ua (P : Program) {R : List (List Char)} (h : behindMainWord (wordsSigns P.initOrder.toList) = ['c', 'u', 't'] :: R) : P.headLifts = [] := by
 unfold Program.headLifts
 rw [h, Er]
 rfl
theorem Rq (P : Program) {R : List (List Char)} (h : behindMainWord (wordsSigns P.initOrder.toList) = ['c', 'u', 't'] :: R) : P.liftsFinal = false := by
 unfold Program.liftsFinal
 rw [h, Ua P h]
 rfl
theorem RG (P : Program) {R : List (List Char)} (h : behindMainWord (wordsSigns P.initOrder.toList) = ['c', 'u', 't'] :: R) (h1 : P.laysLater = false) (h2 : P.bearsReflect = false) (h3 : P.doorFits [] = true) : P.mayEnter = true := by
 unfold Program.mayEnter
 rw [h]
 dsimp only
 rw [Er, h1, h2]
 dsimp only
 rw [h3]
 rfl
theorem Wm (P : Program) (h : P.doorRows = []) : P.doorFits [] = true := by
 unfold Program.doorFits
 rw [h]
 rfl
theorem io : prog.initOrder = "harness 58a20c62235d9809ebcafe714ca5663238b0b371f2c5e82917cdde0493278123 cut at dispatch/dispatchlaw8.NodesRegister dispatch/dispatchlaw8.NodesBeat dispatch/dispatchlaw8.NodesAsks dispatch/dispatchlaw8.NodesFree" := by kernel_rfl
theorem ioL : prog.initOrder.toList = ['h', 'a', 'r', 'n', 'e', 's', 's'] ++ ' ' :: (['5', '8', 'a', '2', '0', 'c', '6', '2', '2', '3', '5', 'd', '9', '8', '0', '9', 'e', 'b', 'c', 'a', 'f', 'e', '7', '1', '4', 'c', 'a', '5', '6', '6', '3', '2', '3', '8', 'b', '0', 'b', '3', '7', '1', 'f', '2', 'c', '5', 'e', '8', '2', '9', '1', '7', 'c', 'd', 'd', 'e', '0', '4', '9', '3', '2', '7', '8', '1', '2', '3'] ++ ' ' :: (['c', 'u', 't'] ++ ' ' :: ['a', 't', ' ', 'd', 'i', 's', 'p', 'a', 't', 'c', 'h', '/', 'd', 'i', 's', 'p', 'a', 't', 'c', 'h', 'l', 'a', 'w', '8', '.', 'N', 'o', 'd', 'e', 's', 'R', 'e', 'g', 'i', 's', 't', 'e', 'r', ' ', 'd', 'i', 's', 'p', 'a', 't', 'c', 'h', '/', 'd', 'i', 's', 'p', 'a', 't', 'c', 'h', 'l', 'a', 'w', '8', '.', 'N', 'o', 'd', 'e', 's', 'B', 'e', 'a', 't', ' ', 'd', 'i', 's', 'p', 'a', 't', 'c', 'h', '/', 'd', 'i', 's', 'p', 'a', 't', 'c', 'h', 'l', 'a', 'w', '8', '.', 'N', 'o', 'd', 'e', 's', 'A', 's', 'k', 's', ' ', 'd', 'i', 's', 'p', 'a', 't', 'c', 'h', '/', 'd', 'i', 's', 'p', 'a', 't', 'c', 'h', 'l', 'a', 'w', '8', '.', 'N', 'o', 'd', 'e', 's', 'F', 'r', 'e', 'e'])) := by rw [io]; exact String.toList_ofList
theorem ioW : ∃ R, wordsSigns prog.initOrder.toList = ['h', 'a', 'r', 'n', 'e', 's', 's'] :: ['5', '8', 'a', '2', '0', 'c', '6', '2', '2', '3', '5', 'd', '9', '8', '0', '9', 'e', 'b', 'c', 'a', 'f', 'e', '7', '1', '4', 'c', 'a', '5', '6', '6', '3', '2', '3', '8', 'b', '0', 'b', '3', '7', '1', 'f', '2', 'c', '5', 'e', '8', '2', '9', '1', '7', 'c', 'd', 'd', 'e', '0', '4', '9', '3', '2', '7', '8', '1', '2', '3'] :: ['c', 'u', 't'] :: R := by
 rw [ioL, rA _ _ (by decide), rA _ _ (by decide), rA _ _ (by decide)]
 exact ⟨_, rfl⟩
theorem ioB : ∃ R, behindMainWord (wordsSigns prog.initOrder.toList) = ['c', 'u', 't'] :: R := by
 obtain ⟨R, h⟩ := ioW
 rw [h]
 exact ⟨R, by kernel_rfl⟩
theorem Yd : prog.laysLater = false := by kernel_rfl
theorem Yr : prog.bearsReflect = false := by kernel_rfl
theorem Ym : prog.doorRows = [] := by kernel_rfl
theorem XH : prog.mayEnter = true := by
 obtain ⟨R, h⟩ := ioB
 exact RG _ h Yd Yr (Wm _ Ym)
theorem Yb : prog.liftsFinal = false := by
 obtain ⟨R, h⟩ := ioB
 exact Rq _ h
theorem X8 : prog.make = some .cut := by
 obtain ⟨R, h⟩ := ioB
 exact TV _ h
end
end Go.Proofs.YtchddofjajgopaaGreat
