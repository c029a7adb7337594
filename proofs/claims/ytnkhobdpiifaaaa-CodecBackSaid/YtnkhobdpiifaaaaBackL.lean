/- What was written, read again: the plain facts on bytes. -/
import Derived.Test.YtnkhobdpiifaaaaPairA
import Derived.Test.YtnkhobdpiifaaaaInts
import Derived.Test.YtnkhobdpiifaaaaText
namespace Go.Proofs.Ytnkhobdpiifaaaa
open Go.RowKit

theorem two_byte (n : Nat) (h : n < 65536) : va (be n 2) = n := by
  rw [va_be]; omega
theorem num_eInt' (x : Int) (h : (Lit.int .i64 x).wf = true) : num (eInt x) = x := by
  have hx : -9223372036854775808 ≤ x ∧ x ≤ 9223372036854775807 := by simpa [Lit.wf, IntKind.min, IntKind.max, IntKind.signed, IntKind.bits] using h
  unfold num eInt
  rw [va_be]
  have h2 := two_cast x
  have h3 : two x % 256 ^ 8 = two x := Nat.mod_eq_of_lt (two_lt x)
  rw [h3, h2]
  unfold wrap64
  omega

def eText (s : ByteArray) : List UInt8 := be s.size 2 ++ s.data.toList
def eList (l : List Int) : List UInt8 := be l.length 2 ++ eNums l
def eTexts (l : List ByteArray) : List UInt8 := l.flatMap eText
def eLists (l : List (List Int)) : List UInt8 := l.flatMap eList

/-- Something that is written is read, whatever stands behind it; without its last byte it is cut. -/
structure Item (c : List UInt8) (L : List UInt8 → List UInt8) (E : List UInt8 → Int → Int) : Prop where
  some : c ≠ []
  left : ∀ Y, L (c ++ Y) = Y
  err : ∀ Y e, E (c ++ Y) e = e
  cutL : L c.dropLast = []
  cutE : E c.dropLast 0 = 8

theorem item_int (x : Int) : Item (eInt x) iL iE := by
  have h8 := eInt_length x
  refine ⟨fun h => by rw [h] at h8; simp at h8, fun Y => ?_, fun Y e => ?_, ?_, ?_⟩
  · unfold iL; rw [if_pos (by rw [List.length_append]; omega), List.drop_left' h8]
  · unfold iE; rw [if_pos (by rw [List.length_append]; omega)]
  · unfold iL; rw [if_neg (by rw [List.length_dropLast]; omega)]
  · unfold iE; rw [if_neg (by rw [List.length_dropLast]; omega)]; rfl
theorem int_val (x : Int) (h : (Lit.int .i64 x).wf = true) (Y : List UInt8) : iV (eInt x ++ Y) = x := by
  have h8 := eInt_length x
  unfold iV; rw [if_pos (by rw [List.length_append]; omega), List.take_left' h8, num_eInt' x h]

/-- A count, and so many bytes behind it. -/
theorem item_count (u n : Nat) (b : List UInt8) (hu : 0 < u) (hn : n < 65536) (hb : b.length = u * n) : Item (be n 2 ++ b) (tL u) (tE u) := by
  have h2 : (be n 2).length = 2 := be_length _ _
  have fit : ∀ Y, Fits u (be n 2 ++ b ++ Y) := fun Y => by
    refine ⟨by simp only [List.length_append]; omega, ?_⟩
    rw [List.append_assoc, List.take_left' h2, two_byte n hn]
    simp only [List.length_append]; omega
  have nofit : ¬ Fits u (be n 2 ++ b).dropLast := by
    rintro ⟨h, k⟩
    rw [List.length_dropLast, List.length_append] at h k
    have hne : b ≠ [] := by
      rintro rfl
      simp at h; omega
    rw [List.dropLast_append_of_ne_nil hne, List.take_left' h2, two_byte n hn] at k
    have : 0 < b.length := List.length_pos_iff.2 hne
    omega
  refine ⟨fun h => by rw [List.append_eq_nil_iff] at h; rw [h.1] at h2; simp at h2, fun Y => ?_, fun Y e => ?_, ?_, ?_⟩
  · unfold tL
    rw [if_pos (fit Y)]
    have e : (be n 2 ++ b ++ Y).take 2 = be n 2 := by rw [List.append_assoc, List.take_left' h2]
    rw [e, two_byte n hn]
    exact List.drop_left' (by rw [List.length_append]; omega)
  · unfold tE; rw [if_pos (fit Y)]
  · unfold tL; rw [if_neg nofit]
  · unfold tE; rw [if_neg nofit]; rfl

theorem item_text (s : ByteArray) (h : s.size < 65536) : Item (eText s) (tL 1) (tE 1) := item_count 1 s.size s.data.toList (by decide) h (by rw [Nat.one_mul]; exact Array.length_toList)
theorem item_list (l : List Int) (h : l.length < 65536) : Item (eList l) (tL 8) (tE 8) := item_count 8 l.length (eNums l) (by decide) h (eNums_length l)

theorem text_val (s : ByteArray) (h : s.size < 65536) (Y : List UInt8) : tV (eText s ++ Y) = s := by
  have h2 : (be s.size 2).length = 2 := be_length _ _
  have hl : s.data.toList.length = s.size := Array.length_toList
  have e : (eText s ++ Y).take 2 = be s.size 2 := by unfold eText; rw [List.append_assoc, List.take_left' h2]
  have fit : Fits 1 (eText s ++ Y) := by
    refine ⟨by unfold eText; simp only [List.length_append]; omega, ?_⟩
    rw [e, two_byte _ h]
    unfold eText; simp only [List.length_append]; omega
  unfold tV
  rw [if_pos fit, e, two_byte _ h]
  have e2 : (eText s ++ Y).drop 2 = s.data.toList ++ Y := by unfold eText; rw [List.append_assoc, List.drop_left' h2]
  rw [e2, List.take_left' hl]

theorem nums_eNums : ∀ (l : List Int) (Y : List UInt8), (∀ x ∈ l, (Lit.int .i64 x).wf = true) → nums l.length (eNums l ++ Y) = l
  | [], _, _ => rfl
  | x :: l, Y, h => by
    have e : eNums (x :: l) ++ Y = eInt x ++ (eNums l ++ Y) := by simp [eNums]
    rw [e, List.length_cons, nums, List.take_left' (eInt_length x), List.drop_left' (eInt_length x), num_eInt' x (h x (List.mem_cons_self)), nums_eNums l Y (fun y hy => h y (List.mem_cons_of_mem _ hy))]

theorem list_val (l : List Int) (h : l.length < 65536) (hw : ∀ x ∈ l, (Lit.int .i64 x).wf = true) (Y : List UInt8) : nV (eList l ++ Y) = l := by
  have h2 : (be l.length 2).length = 2 := be_length _ _
  have e : (eList l ++ Y).take 2 = be l.length 2 := by unfold eList; rw [List.append_assoc, List.take_left' h2]
  have fit : Fits 8 (eList l ++ Y) := by
    refine ⟨by unfold eList; simp only [List.length_append]; omega, ?_⟩
    rw [e, two_byte _ h]
    unfold eList; simp only [List.length_append, eNums_length]; omega
  unfold nV
  rw [if_pos fit, e, two_byte _ h]
  have e2 : (eList l ++ Y).drop 2 = eNums l ++ Y := by unfold eList; rw [List.append_assoc, List.drop_left' h2]
  rw [e2, nums_eNums l Y hw]

/-- How far a reader is: what is left of the parts, and T behind them; or one byte is lacking. -/
def J (T : Option (List UInt8)) (rest l : List UInt8) (e : Int) (ok : Bool) : Prop :=
  match T with
  | some T => l = rest ++ T ∧ e = 0 ∧ ok = true
  | none => (rest ≠ [] → l = rest.dropLast ∧ e = 0) ∧ (rest = [] → l = [] ∧ e = 8)

theorem J.step {T : Option (List UInt8)} {c rest l : List UInt8} {e : Int} {ok : Bool} {L : List UInt8 → List UInt8} {E : List UInt8 → Int → Int} (h : J T (c ++ rest) l e ok) (I : Item c L E)
    (q : Bool) (hq : ∀ Y, l = c ++ Y → q = true) : J T rest (L l) (E l e) (if q then ok else false) := by
  cases T with
  | some T =>
    obtain ⟨rfl, rfl, rfl⟩ := h
    rw [List.append_assoc] at hq ⊢
    rw [hq _ rfl, I.left, I.err]
    exact ⟨rfl, rfl, rfl⟩
  | none =>
    have hne : c ++ rest ≠ [] := fun h => I.some (List.append_eq_nil_iff.1 h).1
    obtain ⟨rfl, rfl⟩ := h.1 hne
    refine ⟨fun hr => ?_, fun hr => ?_⟩
    · rw [List.dropLast_append_of_ne_nil hr, I.left, I.err]
      exact ⟨rfl, rfl⟩
    · subst hr
      rw [List.append_nil, I.cutL, I.cutE]
      exact ⟨rfl, rfl⟩

theorem J.start (B T : List UInt8) : J (some T) B (B ++ T) 0 true := ⟨rfl, rfl, rfl⟩
theorem J.start0 (B : List UInt8) : J (some []) B B 0 true := ⟨by simp, rfl, rfl⟩
theorem J.startC (B : List UInt8) (h : B ≠ []) : J none B B.dropLast 0 true := ⟨fun _ => ⟨rfl, rfl⟩, fun e => absurd e h⟩
/-- What End answers. -/
theorem J.end0 {l : List UInt8} {e : Int} {ok : Bool} (h : J (some []) [] l e ok) : endV l e = 0 ∧ ok = true := by
  obtain ⟨rfl, rfl, rfl⟩ := h
  exact ⟨rfl, rfl⟩
theorem J.end9 {l : List UInt8} {e : Int} {ok : Bool} {c : UInt8} (h : J (some [c]) [] l e ok) : endV l e = 9 ∧ ok = true := by
  obtain ⟨rfl, rfl, rfl⟩ := h
  exact ⟨by simp [endV], rfl⟩
theorem J.end8 {l : List UInt8} {e : Int} {ok : Bool} (h : J none [] l e ok) : endV l e = 8 := by
  obtain ⟨rfl, rfl⟩ := h.2 rfl
  rfl
theorem J.ok_ {T l rest : List UInt8} {e : Int} {ok : Bool} (h : J (some T) rest l e ok) : ok = true := h.2.2

theorem drop_cons {α : Type} (l : List α) (k : Nat) (h : k < l.length) : l.drop k = l[k] :: l.drop (k + 1) := List.drop_eq_getElem_cons h
theorem nums_drop (l : List Int) (k : Nat) (h : k < l.length) (Y : List UInt8) : eNums (l.drop k) ++ Y = eInt l[k] ++ (eNums (l.drop (k + 1)) ++ Y) := by
  unfold eNums; rw [drop_cons l k h, List.flatMap_cons, List.append_assoc]
theorem texts_drop (l : List ByteArray) (k : Nat) (h : k < l.length) (Y : List UInt8) : eTexts (l.drop k) ++ Y = eText l[k] ++ (eTexts (l.drop (k + 1)) ++ Y) := by
  unfold eTexts; rw [drop_cons l k h, List.flatMap_cons, List.append_assoc]
theorem lists_drop (l : List (List Int)) (k : Nat) (h : k < l.length) : eLists (l.drop k) = eList l[k] ++ eLists (l.drop (k + 1)) := by
  unfold eLists; rw [drop_cons l k h, List.flatMap_cons]
theorem texts_snoc (l : List ByteArray) (k : Nat) (h : k < l.length) : eTexts (l.take (k + 1)) = eTexts (l.take k) ++ eText l[k] := by
  unfold eTexts; rw [List.take_succ_eq_append_getElem h, List.flatMap_append]; simp only [List.flatMap_cons, List.flatMap_nil, List.append_nil]
theorem lists_snoc (l : List (List Int)) (k : Nat) (h : k < l.length) : eLists (l.take (k + 1)) = eLists (l.take k) ++ eList l[k] := by
  unfold eLists; rw [List.take_succ_eq_append_getElem h, List.flatMap_append]; simp only [List.flatMap_cons, List.flatMap_nil, List.append_nil]
theorem numsT_snoc (l : List Int) (k : Nat) (h : k < l.length) : eNums (l.take (k + 1)) = eNums (l.take k) ++ eInt l[k] := by
  rw [List.take_succ_eq_append_getElem h, eNums_snoc]

end Go.Proofs.Ytnkhobdpiifaaaa
