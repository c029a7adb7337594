/- strings.SplitSeq at the line feed: what it yields. -/
import Derived.Test.YtigfoghkndoakaaDoorWords
import Derived.Test.YtigfoghkndoakaaDoorLabels
import Derived.RangeFuncNested
import Derived.RangeFuncBound
import Derived.RangeFuncCalls
import Derived.RangeFuncLeaves
import Derived.OwnWalkIn
import Derived.TacticsInMore
import Derived.LoopNIn
import Derived.LoopIn
import Derived.Deep.RegionHeld
namespace Go.Proofs.YtigfoghkndoakaaDoor
open Go.RowKit

attribute [local go_sem] Oper.semAt_some

/-- The three boxes lie as they lay. -/
def Boxes (b0 b1 b2 : Nat) (A B : World) : Prop := ∀ k, (k = b0 ∨ k = b1 ∨ k = b2) → B.heap[k]? = A.heap[k]?
theorem Boxes.trans {b0 b1 b2 : Nat} {A B C : World} (h : Boxes b0 b1 b2 A B) (k : Boxes b0 b1 b2 B C) : Boxes b0 b1 b2 A C := fun i hi => (k i hi).trans (h i hi)
theorem Boxes.cell {b0 b1 b2 k : Nat} {A B : World} (h : Boxes b0 b1 b2 A B) (hk : k = b0 ∨ k = b1 ∨ k = b2) : B.cell? ⟨k, 0, none⟩ = A.cell? ⟨k, 0, none⟩ := World.cell?_of_block (h k hk)
theorem Boxes.frozen {b0 b1 b2 k : Nat} {A B : World} (h : Boxes b0 b1 b2 A B) (hk : k = b0 ∨ k = b1 ∨ k = b2) : B.frozen? ⟨k, 0, none⟩ = A.frozen? ⟨k, 0, none⟩ := World.frozen?_of_block (h k hk)

def boxLen (b : Nat) (w : World) : Nat := match w.cell? ⟨b, 0, none⟩ with
  | some (.string s) => s.size
  | _ => 0
theorem boxLen_of {b : Nat} {w : World} {T : ByteArray} (h : w.cell? ⟨b, 0, none⟩ = some (.string T)) : boxLen b w = T.size := by unfold boxLen; rw [h]

theorem lines_at {l a t : Tx} (h : l = a ++ 10 :: t) (ha : (10 : UInt8) ∉ a) : linesOf l = a :: linesOf t := by
  unfold linesOf; rw [h, pcs_at 10 a [] t ha]; simp
theorem lines_no {l : Tx} (ha : (10 : UInt8) ∉ l) : linesOf l = [l] := by
  unfold linesOf; rw [pcs_ne 10 l [] ha]; simp

structure LinesAt (b0 b1 b2 : Nat) (l : Tx) (wr : World) (pre : List Tx) (T : ByteArray) : Prop where
  so : linesOf l = pre ++ linesOf T.data.toList
  sep : wr.cell? ⟨b1, 0, none⟩ = some (.string ⟨#[10]⟩)
  text : wr.cell? ⟨b0, 0, none⟩ = some (.string T)
  save : wr.cell? ⟨b2, 0, none⟩ = some (.int .i64 0)
  free : wr.frozen? ⟨b0, 0, none⟩ = false
  small : T.size ≤ l.length ∧ l.length ≤ 9223372036854775807

set_option maxRecDepth 100000 in
set_option maxHeartbeats 4000000 in
theorem split_lines (n l b0 b1 b2 : Nat) (hn : 4 ≤ n) (h01 : b0 ≠ b1) (h02 : b0 ≠ b2) (S : ByteArray) (W : World) (J Jx : List Tx → World → Prop) (hL : LinesAt b0 b1 b2 S.data.toList W [] S)
    (hJ : ∀ pre A v, J pre A → J pre (A.setCell ⟨b0, 0, none⟩ v))
    (hY : ∀ pre (x : ByteArray) W1, J pre W1 → x.size ≤ S.size → YieldAt Fence.wide (n - 1) Tryd.prog l #[.string x] W1 fun e W' =>
      (e = .returned (.bool true) ∧ J (pre ++ [x.data.toList]) W' ∧ Boxes b0 b1 b2 W1 W') ∨ (e = .returned (.bool false) ∧ Jx (pre ++ [x.data.toList]) W'))
    (h0 : J [] W) :
    CallsIn Fence.wide n Tryd.prog 67 #[.func (.yield l) #[] #[], .pointer (some ⟨b1, 0, none⟩), .pointer (some ⟨b0, 0, none⟩), .pointer (some ⟨b2, 0, none⟩)] W fun e W' => (∃ v, e = .returned v) ∧
      (J (linesOf S.data.toList) W' ∨ ∃ pre, pre <+: linesOf S.data.toList ∧ Jx pre W') := by
  have hidx := fun (T : ByteArray) W => Tryd.strings_Index_one T 10 W
  have hd : 1 ≤ n - 1 := by omega
  have l0 := hL.sep
  refine callsIn_of_wp Tryd.func67 rfl trivial ?_ rfl
  simp only [Tryd.ntmps67, List.size_toArray, List.length_cons, List.length_nil, Nat.reduceAdd, Nat.reduceSub, Array.replicate_succ, Array.replicate_zero, List.push_toArray, List.append_toArray, List.nil_append, List.cons_append]
  gi_wp2
  gi_loopw [7] (fun _ wr => ∃ pre T, LinesAt b0 b1 b2 S.data.toList wr pre T ∧ J pre wr) (fun _ wr => boxLen b0 wr)
  case atStart => exact ⟨[], S, hL, h0⟩
  case round =>
    obtain ⟨pre, T, hA, hj⟩ := hrel
    have HA := Lib.hid hA
    have c1 := hA.sep
    have c0 := hA.text
    have c2 := hA.save
    have f0 := hA.free
    have hTs : T.size ≤ 9223372036854775807 := Nat.le_trans hA.small.1 hA.small.2
    have hTS : T.size ≤ S.size := by rw [ba_size S]; exact hA.small.1
    have HSM := Lib.hid hA.small
    have hge := Lib.indexByte_ge T.data.toList 10
    by_cases hneg : Lib.indexByte T.data.toList 10 < 0
    · have hno := lines_no (idx_none _ _ hneg)
      have hso : linesOf S.data.toList = pre ++ [T.data.toList] := by rw [hA.so, hno]
      have HSO := Lib.hid hso
      have hix := hidx T wr
      obtain ⟨i, hi⟩ : ∃ i, i = Lib.indexByte T.data.toList 10 := ⟨_, rfl⟩
      rw [← hi] at hix hneg
      obtain ⟨fn, tmps, assign, body, hy, hR⟩ := hY pre T wr hj hTS
      clear hA hge hno hso hi
      gi_wp2_with fail
      refine ⟨trivial, fun _ => (by omega), (callsIn_wide.2 hix).mono ?_⟩
      rintro e w' ⟨rfl, rfl⟩
      gi_wp2
      refine ⟨fun _ => (by omega), hR.mono ?_⟩
      rintro e W3 (⟨rfl, hJ3, hk3⟩ | ⟨rfl, hJx3⟩)
      · gi_wp2
        go_end0
        exact ⟨⟨_, rfl⟩, .inl (by rw [HSO.out]; exact hJ3)⟩
      · gi_wp2
        go_end0
        exact ⟨⟨_, rfl⟩, .inr ⟨_, by rw [HSO.out]; exact List.prefix_refl _, hJx3⟩⟩
    · obtain ⟨i, hi⟩ : ∃ i : Nat, Lib.indexByte T.data.toList 10 = (i : Int) := ⟨(Lib.indexByte T.data.toList 10).toNat, by omega⟩
      obtain ⟨a, t, h1, h2, h3⟩ := idx_some _ _ _ hi
      have hsz : T.size = i + 1 + t.length := by rw [ba_size, h1]; simp; omega
      have hso := hA.so
      rw [lines_at h1 h3] at hso
      have E1 : (T.extract 0 i).data.toList = a := by rw [ext_toL, h1, ← h2]; simp
      have E2 : (T.extract (i + 1) T.size).data.toList = t := by rw [ext_toL, ba_size, h1]; simp [← h2]; exact List.take_of_length_le (by omega)
      have HSO := Lib.hid (show linesOf S.data.toList = (pre ++ [(T.extract 0 i).data.toList]) ++ linesOf (T.extract (i + 1) T.size).data.toList by rw [E1, E2, hso]; simp)
      have HE2 := Lib.hid (show (T.extract (i + 1) T.size).size < T.size by rw [ba_size, E2, hsz]; omega)
      have hix := hidx T wr
      rw [hi] at hix
      obtain ⟨fn, tmps, assign, body, hy, hR⟩ := hY pre (T.extract 0 i) wr hj (by rw [ba_size, E1, h2]; omega)
      have i0 : (0 : Int) ≤ (i : Int) := by omega
      have i1 : (i : Int) + 1 ≤ (T.size : Int) := by omega
      have i2 : (i : Int) ≤ (T.size : Int) := by omega
      clear hA hge hso hi h1 h2 h3 E1 E2 hsz hneg
      gi_wp2_with fail
      refine ⟨trivial, fun _ => (by omega), (callsIn_wide.2 hix).mono ?_⟩
      rintro e w' ⟨rfl, rfl⟩
      gi_wp2
      refine ⟨fun _ => (by omega), hR.mono ?_⟩
      rintro e W3 (⟨rfl, hJ3, hk3⟩ | ⟨rfl, hJx3⟩)
      · have d1 := (hk3.cell (k := b1) (.inr (.inl rfl))).trans c1
        have d0 := (hk3.cell (k := b0) (.inl rfl)).trans c0
        have d2 := (hk3.cell (k := b2) (.inr (.inr rfl))).trans c2
        have g0 := (hk3.frozen (k := b0) (.inl rfl)).trans f0
        gi_wp2
        go_roundw
        case rel =>
          refine ⟨_, _, ⟨HSO.out, ?_, ?_, ?_, ?_, ?_⟩, hJ _ _ _ hJ3⟩
          · exact (World.cell?_setCell_far _ _ _ _ h01).trans d1
          · exact World.cell?_setCell_same' _ _ _ (by rw [d0]; rfl)
          · exact (World.cell?_setCell_far _ _ _ _ h02).trans d2
          · rw [World.frozen?_setCell]; exact g0
          · have := HE2.out; have := HSM.out; omega
        case measure =>
          rw [boxLen_of c0, boxLen_of (World.cell?_setCell_same' _ _ _ (by rw [d0]; rfl))]
          exact HE2.out
      · gi_wp2
        refine bodyPost_ret (results_none rfl _ _ _) rfl ?_
        exact ⟨⟨_, rfl⟩, .inr ⟨_, ⟨_, HSO.out.symm⟩, hJx3⟩⟩

/-- What the caller keeps between two lines: it bears new blocks, a turn of the first box, and of what is no cells and lies at or beyond B. -/
def Bears {β : Type} (b0 B : Nat) (I : β → World → Prop) : Prop :=
  ∀ s A C row, I s A → A.grownBy C row → (∀ r, row = some r → r = b0 ∨ (B ≤ r ∧ ∃ o : Obj, A.heap[r]? = some o ∧ o.isCells = false)) → I s C
theorem Bears.alloc {β : Type} {b0 B : Nat} {I : β → World → Prop} (h : Bears b0 B I) {s : β} {A : World} (o : Obj) (hs : I s A) : I s (A.alloc o) := h s A _ none hs (World.grownBy_alloc A o none) (fun r e => by cases e)
theorem Bears.put {β : Type} {b0 B : Nat} {I : β → World → Prop} (h : Bears b0 B I) {s : β} {A : World} {l : Nat} {o : Obj} (o' : Obj) (hs : I s A) (hB : B ≤ l) (hl : A.heap[l]? = some o) (ho : o.isCells = false) : I s (A.putObj l o') :=
  h s A _ (some l) hs (grownBy_putObj' A l o') (fun r e => by cases e; exact .inr ⟨hB, o, hl, ho⟩)
theorem Boxes.put {b0 b1 b2 l : Nat} (A : World) (o : Obj) (h : b0 < l ∧ b1 < l ∧ b2 < l) : Boxes b0 b1 b2 A (A.putObj l o) := fun k hk => World.putObj_heap_other (by rcases hk with rfl | rfl | rfl <;> omega)
theorem Boxes.alloc {b0 b1 b2 : Nat} (A : World) (o : Obj) (h : b0 < A.heap.size ∧ b1 < A.heap.size ∧ b2 < A.heap.size) : Boxes b0 b1 b2 A (A.alloc o) := fun k hk => Below.heap_alloc A o k (by rcases hk with rfl | rfl | rfl <;> omega)
theorem LinesAt.boxes {b0 b1 b2 : Nat} {l : Tx} {A C : World} {pre : List Tx} {T : ByteArray} (h : LinesAt b0 b1 b2 l A pre T) (k : Boxes b0 b1 b2 A C) : LinesAt b0 b1 b2 l C pre T :=
  ⟨h.so, (k.cell (.inr (.inl rfl))).trans h.sep, (k.cell (.inl rfl)).trans h.text, (k.cell (.inr (.inr rfl))).trans h.save, (k.frozen (.inl rfl)).trans h.free, h.small⟩

set_option maxHeartbeats 1600000 in
/-- A loop over the lines of a text. -/
theorem wpIn_lines {n : Nat} {g : Operand} {ps : Array Tmp} {assign body : Code} {Q : Exit → Act → World → Prop} {a : Act} {w : World} {b0 b1 b2 : Nat} {S : ByteArray} (hn : 6 ≤ n)
    (hg : a.eval g = .func (.func 67) #[] #[.pointer (some ⟨b1, 0, none⟩), .pointer (some ⟨b0, 0, none⟩), .pointer (some ⟨b2, 0, none⟩)])
    (h01 : b0 ≠ b1) (h02 : b0 ≠ b2) (hb : b0 < w.heap.size ∧ b1 < w.heap.size ∧ b2 < w.heap.size) (hL : LinesAt b0 b1 b2 S.data.toList w [] S) (hps : ps.size = 1)
    (I : List Tx → World → Prop) (Ix : Code → List Tx → World → Prop) (hI : Bears b0 w.heap.size I) (hIx : ∀ c, Bears b0 w.heap.size (Ix c)) (h0 : I [] w) (a₁ : ByteArray → Act)
    (hassign : ∀ (l : Nat) (x : ByteArray) (W : World) (K : Act → World → Prop), K (a₁ x) W →
      assign.wpIn (Fence.wide.inRound l) (n - 1 - 1) Tryd.prog (Exit.then K (fun _ _ _ => False)) { tmps := (ps.zip #[Value.string x]).foldl (fun t (p, v) => t.setIfInBounds p v) a.tmps, defers := [] } W)
    (hbody : ∀ (l : Nat) (pre : List Tx) (x : ByteArray) (W : World), I pre W → x.size ≤ S.size → body.wpIn (Fence.wide.inRound l) (n - 1 - 1) Tryd.prog (ownPostK (Boxes b0 b1 b2) I Ix (pre ++ [x.data.toList]) W) (a₁ x) W)
    (hdone : ∀ (D : Nat) (W : World), w.heap.size ≤ D → I (linesOf S.data.toList) W → W.heap[D]? = some (.deferred (some [])) → Q .normal { a with defers := { target := .collected D, args := #[] } :: a.defers } W)
    (hstop : ∀ (D : Nat) (c : Code) (pre : List Tx) (W : World), w.heap.size ≤ D → pre <+: linesOf S.data.toList → Ix c pre W → W.heap[D]? = some (.deferred (some [])) → c.wpIn Fence.wide n Tryd.prog Q { a with defers := { target := .collected D, args := #[] } :: a.defers } W) :
    (Code.rangeFunc g ps assign body).wpIn Fence.wide n Tryd.prog Q a w := by
  have eg : ∀ args w, (callFunc 67 args).run Tryd.prog w = .ok (.enter 67 args) w := enters_of Tryd.func67 (by kernel_rfl) rfl
  refine wpIn_rangeFunc ?_
  intro fn _
  rw [Fence.wide_round]
  -- the loop's two blocks: the deferred calls' at D, the record behind it
  let rec' : LoopState → Option Code → Obj := fun st pe => .loop { state := st, pending := pe, fn, tmps := a.tmps, params := ps, assign, body, defers := w.heap.size }
  obtain ⟨V, hV⟩ : ∃ V, V = (w.alloc (.deferred (some []))).alloc (rec' .ready none) := ⟨_, rfl⟩
  have hVD : V.heap[w.heap.size]? = some (.deferred (some [])) := by
    rw [hV]; exact (Below.heap_alloc _ _ _ (by simp)).trans (World.alloc_heap_new w _)
  have hVR : V.heap[w.heap.size + 1]? = some (rec' .ready none) := by
    rw [hV]; have := World.alloc_heap_new (w.alloc (.deferred (some []))) (rec' .ready none); rwa [World.size_alloc] at this
  have hVI : I [] V := by rw [hV]; exact hI.alloc _ (hI.alloc _ h0)
  have hVL : LinesAt b0 b1 b2 S.data.toList V [] S := by
    rw [hV]; exact hL.boxes ((Boxes.alloc w _ hb).trans (Boxes.alloc _ _ (by simp; omega)))
  refine ⟨w.heap.size + 1, [{ target := .collected w.heap.size, args := #[] }], V, { target := .fn (.func 67) #[.pointer (some ⟨b1, 0, none⟩), .pointer (some ⟨b0, 0, none⟩), .pointer (some ⟨b2, 0, none⟩)], args := #[.func (.yield (w.heap.size + 1)) #[] #[]] }, V, 67,
    #[.func (.yield (w.heap.size + 1)) #[] #[]] ++ #[.pointer (some ⟨b1, 0, none⟩), .pointer (some ⟨b0, 0, none⟩), .pointer (some ⟨b2, 0, none⟩)], V, by rw [hV]; exact run_enterLoop_outer _ _ _ _ _, ?_, fun _ _ => trivial, ?_, fun _ => (by omega), ?_⟩
  · simp only [resolve, hg]
    simp [go_sem]
  · simp [invoke, go_sem, eg]
  have same : ∀ (A : World) (v : Value) (k : Nat), k ≠ b0 → (A.setCell ⟨b0, 0, none⟩ v).heap[k]? = A.heap[k]? := fun A v k hk => heap_setCell_other A ⟨b0, 0, none⟩ k v hk
  have hlt : ∀ {A : World} {k : Nat} {o : Obj}, A.heap[k]? = some o → k < A.heap.size := fun h => (Array.getElem?_eq_some_iff.1 h).1
  refine (split_lines (n - 1) (w.heap.size + 1) b0 b1 b2 (by omega) h01 h02 S V
    (fun pre A => I pre A ∧ A.heap[w.heap.size + 1]? = some (rec' .ready none) ∧ A.heap[w.heap.size]? = some (.deferred (some [])))
    (fun pre A => ∃ c, Ix c pre A ∧ A.heap[w.heap.size + 1]? = some (rec' .done (some c)) ∧ A.heap[w.heap.size]? = some (.deferred (some [])))
    hVL ?_ ?_ ⟨hVI, hVR, hVD⟩).mono ?_
  · rintro pre A v ⟨hi, hr, hd⟩
    exact ⟨hI _ _ _ (some b0) hi (grown_set A b0 0 v) (fun r e => .inl (by injection e with e; exact e.symm)), (same A v _ (by omega)).trans hr, (same A v _ (by omega)).trans hd⟩
  · -- one line
    rintro pre x W1 ⟨hi, hr, hd⟩ hx
    refine ⟨fn, _, assign, body, run_yield hr (by simpa using hps.symm), roundIn_of_wpIn trivial (hassign _ x W1 _ ⟨_, run_beginRound hr rfl, ?_⟩)⟩
    obtain ⟨W2, hW2⟩ : ∃ W2, W2 = W1.putObj (w.heap.size + 1) (rec' .busy none) := ⟨_, rfl⟩
    have hr2 : W2.heap[w.heap.size + 1]? = some (rec' .busy none) := by rw [hW2]; exact World.putObj_heap_same (hlt hr)
    have hd2 : W2.heap[w.heap.size]? = some (.deferred (some [])) := by rw [hW2]; exact (World.putObj_heap_other (by omega)).trans hd
    have hb2 : Boxes b0 b1 b2 W1 W2 := by rw [hW2]; exact Boxes.put W1 _ (by omega)
    have hi2 : I pre W2 := by rw [hW2]; exact hI.put _ hi (by omega) hr rfl
    show body.wpIn _ _ _ _ _ (W1.putObj (w.heap.size + 1) (rec' .busy none))
    rw [← hW2]
    refine wpIn_mono (hbody _ pre x W2 hi2 hx) ?_
    clear hW2
    have out : ∀ (c : Code) (W3 : World), KeepsOthers W2 W3 → Ix c (pre ++ [x.data.toList]) W3 → ∃ v w', (Instr.endRound (w.heap.size + 1) (some c)).run Tryd.prog W3 = .ok v w' ∧ (fun e W' =>
        (e = Ending.returned (.bool true) ∧ (I (pre ++ [x.data.toList]) W' ∧ W'.heap[w.heap.size + 1]? = some (rec' .ready none) ∧ W'.heap[w.heap.size]? = some (.deferred (some []))) ∧ Boxes b0 b1 b2 W1 W') ∨
        (e = Ending.returned (.bool false) ∧ ∃ c, Ix c (pre ++ [x.data.toList]) W' ∧ W'.heap[w.heap.size + 1]? = some (rec' .done (some c)) ∧ W'.heap[w.heap.size]? = some (.deferred (some [])))) (.returned v) w' := fun c W3 hk hx3 => by
      have hr3 := hk.same _ _ hr2 rfl
      have hd3 := hk.same _ _ hd2 rfl
      exact ⟨_, _, run_endRound (some c) hr3, .inr ⟨rfl, c, (hIx c).put _ hx3 (by omega) hr3 rfl, World.putObj_heap_same (hlt hr3), (World.putObj_heap_other (by omega)).trans hd3⟩⟩
    rintro e a3 W3 hp
    cases e with
    | normal =>
      obtain ⟨hk, hbx, hi3⟩ := hp
      have hr3 := hk.same _ _ hr2 rfl
      have hd3 := hk.same _ _ hd2 rfl
      exact ⟨_, _, run_endRound none hr3, .inl ⟨rfl, ⟨hI.put _ hi3 (by omega) hr3 rfl, World.putObj_heap_same (hlt hr3), (World.putObj_heap_other (by omega)).trans hd3⟩, (hb2.trans hbx).trans (Boxes.put W3 _ (by omega))⟩⟩
    | ret => exact out .ret W3 hp.1 hp.2
    | exit id => exact out (.exit id) W3 hp.1 hp.2
    | goto t => exact out (.goto t) W3 hp.1 hp.2
    | panic ch => exact hp.elim
    | outgrown => exact hp.elim
  · rintro e W2 ⟨⟨v, rfl⟩, ⟨hi, hr, hd⟩ | ⟨pre, hpre, c, hi, hr, hd⟩⟩
    · exact ⟨none, _, run_endLoop hr (by simp), hdone _ _ (Nat.le_refl _) (hI.put _ hi (by omega) hr rfl) ((World.putObj_heap_other (by omega)).trans hd)⟩
    · exact ⟨some c, _, run_endLoop hr (by simp), hstop _ c pre _ (Nat.le_refl _) hpre ((hIx c).put _ hi (by omega) hr rfl) ((World.putObj_heap_other (by omega)).trans hd)⟩
end Go.Proofs.YtigfoghkndoakaaDoor
