/- Queues that may be: plain words, of no program. -/
import Derived.Test.YtigfoghkndoakaaDoorPar
namespace Go.Proofs.YtigfoghkndoakaaDoor

def inName (b : UInt8) : Bool := (97 ≤ b && b ≤ 122) || (48 ≤ b && b ≤ 57) || b == 45
def nameB (l : Tx) : Bool := decide (1 ≤ l.length) && decide (l.length ≤ 12) && l.all inName
theorem inName_iff (b : UInt8) : inName b = ((decide (97 ≤ (b.toNat : Int)) && decide ((b.toNat : Int) ≤ 122)) || (decide (48 ≤ (b.toNat : Int)) && decide ((b.toNat : Int) ≤ 57)) || decide ((b.toNat : Int) = 45)) := by
  have h45 : (b == 45) = decide ((b.toNat : Int) = 45) := by
    rw [Bool.eq_iff_iff]
    simp only [beq_iff_eq, decide_eq_true_eq]
    constructor
    · intro h; subst h; rfl
    · intro h; exact UInt8.toNat.inj (by have : (45 : UInt8).toNat = 45 := rfl; omega)
  have e1 : (97 ≤ b) = (97 ≤ (b.toNat : Int)) := by rw [UInt8.le_iff_toNat_le]; have : (97 : UInt8).toNat = 97 := rfl; rw [this]; exact propext (by omega)
  have e2 : (b ≤ 122) = ((b.toNat : Int) ≤ 122) := by rw [UInt8.le_iff_toNat_le]; have : (122 : UInt8).toNat = 122 := rfl; rw [this]; exact propext (by omega)
  have e3 : (48 ≤ b) = (48 ≤ (b.toNat : Int)) := by rw [UInt8.le_iff_toNat_le]; have : (48 : UInt8).toNat = 48 := rfl; rw [this]; exact propext (by omega)
  have e4 : (b ≤ 57) = ((b.toNat : Int) ≤ 57) := by rw [UInt8.le_iff_toNat_le]; have : (57 : UInt8).toNat = 57 := rfl; rw [this]; exact propext (by omega)
  unfold inName
  rw [h45]
  simp only [e1, e2, e3, e4]
/-- Of a rune. -/
def inNameR (r : Int) : Bool := (decide (97 ≤ r) && decide (r ≤ 122)) || (decide (48 ≤ r) && decide (r ≤ 57)) || decide (r = 45)
theorem inName_R (b : UInt8) : inName b = inNameR (b.toNat : Int) := inName_iff b
theorem inNameR_high {r : Int} (h : 128 ≤ r) : inNameR r = false := by
  unfold inNameR
  simp
  omega

theorem name_len0 {l : Tx} (h : l = []) : nameB l = false := by subst h; rfl
theorem name_long {l : Tx} (h : 12 < l.length) : nameB l = false := by
  unfold nameB
  have : decide (l.length ≤ 12) = false := by simp; omega
  rw [this]; simp
theorem name_all {l : Tx} (h0 : l ≠ []) (h : l.length ≤ 12) : nameB l = l.all inName := by
  unfold nameB
  have h1 : decide (1 ≤ l.length) = true := by
    have : l.length ≠ 0 := fun e => h0 (List.eq_nil_of_length_eq_zero e)
    simp; omega
  have h2 : decide (l.length ≤ 12) = true := by simpa using h
  rw [h1, h2]; simp
theorem all_not {l : Tx} {k : Nat} (hk : k < l.length) (h : inName l[k] = false) : l.all inName = false := by
  rw [List.all_eq_false]
  exact ⟨l[k], List.getElem_mem hk, by simp [h]⟩

/-- A path without its last name. -/
def above (l : Tx) : Tx := ((l.reverse.dropWhile (fun b => b != 46)).drop 1).reverse
theorem above_no {l : Tx} (h : (46 : UInt8) ∉ l) : above l = [] := by
  unfold above
  have hp : ∀ x ∈ l.reverse, (x != 46) = true := fun x hx => by
    simp
    intro e
    subst e
    exact h (List.mem_reverse.1 hx)
  have := List.dropWhile_append_of_pos (l₂ := []) hp
  rw [List.append_nil] at this
  rw [this]
  rfl
theorem above_at {a t : Tx} (h : (46 : UInt8) ∉ t) : above (a ++ 46 :: t) = a := by
  unfold above
  have hp : ∀ x ∈ t.reverse, (x != 46) = true := fun x hx => by simp; intro e; subst e; exact h (List.mem_reverse.1 hx)
  rw [List.reverse_append, List.reverse_cons, List.append_assoc, List.dropWhile_append_of_pos hp]
  simp
theorem above_lt {l : Tx} (h : l ≠ []) : (above l).length < l.length := by
  unfold above
  rw [List.length_reverse, List.length_drop]
  have h1 : (l.reverse.dropWhile (fun b => b != 46)).length ≤ l.length := by
    have := (List.dropWhile_sublist (p := fun b : UInt8 => b != 46) (l := l.reverse)).length_le
    rwa [List.length_reverse] at this
  have : l.length ≠ 0 := fun e => h (List.eq_nil_of_length_eq_zero e)
  omega

def upsN : Nat → Tx → List Tx
  | 0, _ => []
  | n + 1, l => if l = [] then [] else l :: upsN n (above l)
def ups (l : Tx) : List Tx := upsN l.length l
theorem upsN_nil : ∀ n, upsN n [] = []
  | 0 => rfl
  | _ + 1 => rfl
theorem upsN_enough : ∀ (n m : Nat) (l : Tx), l.length ≤ n → l.length ≤ m → upsN n l = upsN m l
  | 0, m, l, h, _ => by
    have : l = [] := List.eq_nil_of_length_eq_zero (by omega)
    subst this
    rw [upsN_nil, upsN_nil]
  | n + 1, 0, l, _, h => by
    have : l = [] := List.eq_nil_of_length_eq_zero (by omega)
    subst this
    rw [upsN_nil, upsN_nil]
  | n + 1, m + 1, l, h1, h2 => by
    by_cases h : l = []
    · subst h; rfl
    · have := above_lt h
      simp only [upsN, h, if_false]
      rw [upsN_enough n m (above l) (by omega) (by omega)]
theorem ups_nil : ups [] = [] := rfl
theorem ups_cons {l : Tx} (h : l ≠ []) : ups l = l :: ups (above l) := by
  unfold ups
  have hl : l.length ≠ 0 := fun e => h (List.eq_nil_of_length_eq_zero e)
  obtain ⟨n, hn⟩ : ∃ n, l.length = n + 1 := ⟨l.length - 1, by omega⟩
  rw [hn, upsN, if_neg h]
  have := above_lt h
  rw [upsN_enough n (above l).length _ (by omega) (Nat.le_refl _)]
theorem ups_length (l : Tx) : (ups l).length ≤ l.length := by
  have : ∀ n l, (upsN n l).length ≤ n := by
    intro n
    induction n with
    | zero => intro l; simp [upsN]
    | succ n ih =>
      intro l
      rw [upsN]
      split
      · simp
      · simp; exact ih _
  exact this _ l
end Go.Proofs.YtigfoghkndoakaaDoor
