/- Configurations as text: plain words, of no program. -/
import Derived.Test.YtffioglbgnbieaaByt
import Derived.Lib.Bytealg
import Derived.Lib.FieldsP
namespace Go.Proofs.Ytffioglbgnbieaa
open Go.RowKit

abbrev Tx := List UInt8
/-- A text as a value. -/
def sv (l : Tx) : Value := .string ⟨l.toArray⟩
theorem tx_of (S : ByteArray) : S = ⟨S.data.toList.toArray⟩ := by cases S; rfl
theorem sv_of (S : ByteArray) : sv S.data.toList = .string S := by cases S; rfl

/-- The pieces of a text at a byte. -/
def pcs (c : UInt8) : Tx → Tx → List Tx
  | cur, [] => [cur]
  | cur, b :: r => if b = c then cur :: pcs c [] r else pcs c (cur ++ [b]) r
def linesOf (l : Tx) : List Tx := pcs 10 [] l
def wordsOf (l : Tx) : List Tx := (pcs 32 [] l).filter fun x => x != []

theorem pcs_ne (c : UInt8) : ∀ (r cur : Tx), c ∉ r → pcs c cur r = [cur ++ r]
  | [], cur, _ => by simp [pcs]
  | b :: r, cur, h => by
    have h1 : b ≠ c := fun e => h (by simp [e])
    simp only [pcs, h1, if_false]
    rw [pcs_ne c r (cur ++ [b]) (fun h2 => h (List.mem_cons_of_mem _ h2))]
    simp
theorem pcs_at (c : UInt8) : ∀ (r cur t : Tx), c ∉ r → pcs c cur (r ++ c :: t) = (cur ++ r) :: pcs c [] t
  | [], cur, t, _ => by simp [pcs]
  | b :: r, cur, t, h => by
    have h1 : b ≠ c := fun e => h (by simp [e])
    simp only [List.cons_append, pcs, h1, if_false]
    rw [pcs_at c r (cur ++ [b]) t (fun h2 => h (List.mem_cons_of_mem _ h2))]
    simp
theorem pcs_cur (c : UInt8) : ∀ (a cur r : Tx), c ∉ a → pcs c cur (a ++ r) = pcs c (cur ++ a) r
  | [], cur, r, _ => by simp
  | b :: a, cur, r, h => by
    have h1 : b ≠ c := fun e => h (by simp [e])
    simp only [List.cons_append, pcs, h1, if_false]
    rw [pcs_cur c a (cur ++ [b]) r (fun h2 => h (List.mem_cons_of_mem _ h2))]
    simp

/-- A number of 1 to 7 digits. -/
def dig (b : UInt8) : Bool := 48 ≤ b && b ≤ 57
def dec (l : Tx) : Nat := l.foldl (fun n b => 10 * n + (b.toNat - 48)) 0
def num? (l : Tx) : Option Nat := if l = [] ∨ 7 < l.length ∨ (l.head? = some 48 ∧ l ≠ [48]) then none else if l.all dig then some (dec l) else none
theorem dec_snoc (l : Tx) (b : UInt8) : dec (l ++ [b]) = 10 * dec l + (b.toNat - 48) := by simp [dec]
theorem dec_from : ∀ (l : Tx) (n : Nat), l.all dig = true → l.foldl (fun n b => 10 * n + (b.toNat - 48)) n < (n + 1) * 10 ^ l.length
  | [], n, _ => by simp
  | b :: l, n, h => by
    simp only [List.all_cons, Bool.and_eq_true] at h
    have hb : b.toNat ≤ 57 := by
      have h2 := h.1
      simp only [dig, Bool.and_eq_true, decide_eq_true_eq] at h2
      exact UInt8.le_iff_toNat_le.1 h2.2
    have ih := dec_from l (10 * n + (b.toNat - 48)) h.2
    have hle : (10 * n + (b.toNat - 48) + 1) * 10 ^ l.length ≤ (10 * (n + 1)) * 10 ^ l.length := Nat.mul_le_mul_right _ (by omega)
    rw [List.foldl_cons, List.length_cons, Nat.pow_succ]
    have e : (n + 1) * (10 ^ l.length * 10) = (10 * (n + 1)) * 10 ^ l.length := by grind
    omega
theorem dec_lt (l : Tx) (h : l.all dig = true) : dec l < 10 ^ l.length := by
  have := dec_from l 0 h
  simpa [dec] using this
theorem num_lt {l : Tx} {n : Nat} (h : num? l = some n) : n < 10000000 := by
  unfold num? at h
  split at h
  · cases h
  · rename_i h1
    split at h
    · rename_i h2
      have := dec_lt l h2
      have hl : l.length ≤ 7 := by
        rcases Nat.lt_or_ge 7 l.length with h3 | h3
        · exact absurd (.inr (.inl h3)) h1
        · exact h3
      have hp : 10 ^ l.length ≤ 10 ^ 7 := Nat.pow_le_pow_right (by omega) hl
      injection h with h
      subst h
      omega
    · cases h

/-- least/most -/
def befo (l : Tx) : Tx := l.takeWhile fun b => b != 47
def behi (l : Tx) : Tx := (l.dropWhile fun b => b != 47).drop 1
def cap? (l : Tx) : Option (Nat × Nat) := match num? (befo l), num? (behi l) with
  | some a, some b => some (a, b)
  | _, _ => none
def caps? : List Tx → Option (List (Nat × Nat))
  | [] => some []
  | l :: r => match cap? l, caps? r with
    | some a, some b => some (a :: b)
    | _, _ => none

/-- A queue, a configuration; what was read of one. -/
structure QD where
  path : Tx
  caps : List (Int × Int)
  user : Int
structure CD where
  labels : List Tx
  queues : List QD
instance QD.deq : DecidableEq QD := fun a b => match a, b with
  | ⟨p, c, u⟩, ⟨p', c', u'⟩ => decidable_of_iff (p = p' ∧ c = c' ∧ u = u') (by simp)
instance CD.deq : DecidableEq CD := fun a b => match a, b with
  | ⟨p, c⟩, ⟨p', c'⟩ => decidable_of_iff (p = p' ∧ c = c') (by simp)
def CD.none : CD := ⟨[], []⟩

def wLabels : Tx := [108, 97, 98, 101, 108, 115]
def wQueue : Tx := [113, 117, 101, 117, 101]
def inj (l : List (Nat × Nat)) : List (Int × Int) := l.map fun p => ((p.1 : Int), (p.2 : Int))
def queue? (n : Nat) (ws : List Tx) : Option QD := if ws.length ≠ 3 + n then none else
  match num? (ws.getD 2 []), caps? (ws.drop 3) with
  | some u, some cs => some ⟨ws.getD 1 [], inj cs, u⟩
  | _, _ => none
def step (s : CD) (ws : List Tx) : Int × CD :=
  if s.labels = [] then
    (if ws.head? ≠ some wLabels then (6, s) else if 3 < ws.length then (4, s) else (0, ⟨[] :: ws.tail, s.queues⟩))
  else if ws.head? ≠ some wQueue then (6, s) else if s.queues.length = 16 then (4, s)
  else match queue? s.labels.length ws with
    | none => (6, s)
    | some q => (0, ⟨s.labels, s.queues ++ [q]⟩)
def runC : CD → List (List Tx) → Int × CD
  | s, [] => (0, s)
  | s, ws :: r => if ws = [] then runC s r else if (step s ws).1 = 0 then runC (step s ws).2 r else step s ws
/-- In the order of the paths. -/
def lt8 : Tx → Tx → Bool
  | _, [] => false
  | [], _ :: _ => true
  | a :: p, b :: q => if a < b then true else if b < a then false else lt8 p q
def insQ (q : QD) (l : List QD) : List QD := l.takeWhile (fun x => lt8 x.path q.path) ++ q :: l.dropWhile (fun x => lt8 x.path q.path)
def sortQ (l : List QD) : List QD := l.foldl (fun a q => insQ q a) []
def fin (s : CD) : Int × CD := if s.labels = [] then (6, .none) else if (s.queues.map (·.path)).Nodup then (0, ⟨s.labels, sortQ s.queues⟩) else (7, .none)
def parseC (l : Tx) : Int × CD := if 2000 < l.length then (5, .none) else
  let r := runC .none ((linesOf l).map wordsOf)
  if r.1 = 0 then fin r.2 else (r.1, .none)

theorem parse_known : parseC [108, 97, 98, 101, 108, 115, 32, 103, 112, 117, 10, 113, 117, 101, 117, 101, 32, 114, 111, 111, 116, 32, 49, 48, 48, 48, 48, 32, 49, 48, 48, 48, 48, 47, 49, 48, 48, 48, 48, 32, 49, 48, 48, 48, 48, 47, 49, 48, 48, 48, 48, 10] =
    (0, ⟨[[], [103, 112, 117]], [⟨[114, 111, 111, 116], [(10000, 10000), (10000, 10000)], 10000⟩]⟩) := by decide +kernel

theorem step_len {s : CD} {ws : List Tx} (h : s.queues.length ≤ 16 ∧ s.labels.length ≤ 3) : (step s ws).2.queues.length ≤ 16 ∧ (step s ws).2.labels.length ≤ 3 := by
  unfold step
  repeat' split
  all_goals first | exact h | (simp; omega)
end Go.Proofs.Ytffioglbgnbieaa
