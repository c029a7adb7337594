/- The checksum, frames and what is scanned of a log, by numbers and lists alone. -/
import Derived.Test.YtcofjimjbobdgaaByt
namespace Go.Proofs.Ytcofjimjbobdgaa
open Go.RowKit

/-- One bit's division; so many; a byte's. -/
def d1 (r : Nat) : Nat := if r % 2 = 1 then r / 2 ^^^ 3988292384 else r / 2
def dn : Nat → Nat → Nat
  | 0, r => r
  | k + 1, r => d1 (dn k r)
def crcS (s : Nat) (l : List UInt8) : Nat := l.foldl (fun s c => dn 8 (s ^^^ c.toNat)) s
def crc (l : List UInt8) : Nat := 4294967295 - crcS 4294967295 l

theorem xor32 {a b : Nat} (ha : a < 4294967296) (hb : b < 4294967296) : a ^^^ b < 4294967296 := Nat.xor_lt_two_pow (n := 32) ha hb
theorem d1_lt {r : Nat} (h : r < 4294967296) : d1 r < 4294967296 := by
  unfold d1; split
  · exact xor32 (by omega) (by omega)
  · omega
theorem dn_lt {r : Nat} (h : r < 4294967296) : ∀ k, dn k r < 4294967296
  | 0 => h
  | k + 1 => d1_lt (dn_lt h k)
theorem u8_lt (c : UInt8) : c.toNat < 256 := c.toNat_lt
theorem crcS_lt : ∀ (l : List UInt8) {s : Nat}, s < 4294967296 → crcS s l < 4294967296
  | [], _, h => h
  | c :: l, _, h => crcS_lt l (dn_lt (xor32 h (by have := u8_lt c; omega)) 8)
theorem crc_lt (l : List UInt8) : crc l < 4294967296 := by unfold crc; omega
theorem crcS_snoc (s : Nat) (l : List UInt8) (c : UInt8) : crcS s (l ++ [c]) = dn 8 (crcS s l ^^^ c.toNat) := by simp [crcS]
theorem crcS_app (s : Nat) (l m : List UInt8) : crcS s (l ++ m) = crcS (crcS s l) m := by simp [crcS]

/-! A byte turned turns the sum. -/
theorem xor_left {a b c : Nat} (h : a ^^^ b = a ^^^ c) : b = c := by
  have : a ^^^ (a ^^^ b) = a ^^^ (a ^^^ c) := by rw [h]
  simpa [← Nat.xor_assoc] using this
theorem xor_right {a b c : Nat} (h : b ^^^ a = c ^^^ a) : b = c := by
  rw [Nat.xor_comm b, Nat.xor_comm c] at h; exact xor_left h
theorem top_of_lt {x : Nat} (h : x < 2147483648) : x.testBit 31 = false := Nat.testBit_lt_two_pow (by simpa using h)
theorem d1_inj {r s : Nat} (hr : r < 4294967296) (hs : s < 4294967296) (h : d1 r = d1 s) : r = s := by
  have t1 := top_of_lt (x := r / 2) (by omega)
  have t2 := top_of_lt (x := s / 2) (by omega)
  have tp : (3988292384 : Nat).testBit 31 = true := by decide
  unfold d1 at h
  split at h <;> split at h
  · have := xor_right h; omega
  · have := congrArg (Nat.testBit · 31) h
    simp only [Nat.testBit_xor, t1, t2, tp] at this
    simp at this
  · have := congrArg (Nat.testBit · 31) h
    simp only [Nat.testBit_xor, t1, t2, tp] at this
    simp at this
  · omega
theorem dn_inj {r s : Nat} (hr : r < 4294967296) (hs : s < 4294967296) : ∀ k, dn k r = dn k s → r = s
  | 0, h => h
  | k + 1, h => dn_inj hr hs k (d1_inj (dn_lt hr k) (dn_lt hs k) h)
theorem crcS_inj : ∀ (l : List UInt8) {r s : Nat}, r < 4294967296 → s < 4294967296 → crcS r l = crcS s l → r = s
  | [], _, _, _, _, h => h
  | c :: l, r, s, hr, hs, h => by
    have hc : c.toNat < 4294967296 := by have := u8_lt c; omega
    exact xor_right (dn_inj (xor32 hr hc) (xor32 hs hc) 8 (crcS_inj l (dn_lt (xor32 hr hc) 8) (dn_lt (xor32 hs hc) 8) h))
theorem crc_turned (l m : List UInt8) {c d : UInt8} (h : c ≠ d) : crc (l ++ c :: m) ≠ crc (l ++ d :: m) := by
  intro e
  have hS := crcS_lt l (s := 4294967295) (by omega)
  have hc : c.toNat < 4294967296 := by have := u8_lt c; omega
  have hd : d.toNat < 4294967296 := by have := u8_lt d; omega
  have e1 : crcS 4294967295 (l ++ c :: m) = crcS 4294967295 (l ++ d :: m) := by
    have h1 := crcS_lt (l ++ c :: m) (s := 4294967295) (by omega)
    have h2 := crcS_lt (l ++ d :: m) (s := 4294967295) (by omega)
    unfold crc at e; omega
  rw [crcS_app, crcS_app] at e1
  have := dn_inj (xor32 hS hc) (xor32 hS hd) 8 (crcS_inj m (dn_lt (xor32 hS hc) 8) (dn_lt (xor32 hS hd) 8) e1)
  exact h (UInt8.toNat_inj.1 (xor_left this))

/-! Frames. -/
def frameB (r : List UInt8) : List UInt8 := be r.length 4 ++ (be (crc r) 4 ++ r)
theorem frameB_length (r : List UInt8) : (frameB r).length = r.length + 8 := by simp [frameB, be_length]; omega

/-- The record of the frame that a log begins with. -/
def fst? (log : List UInt8) : Option (List UInt8) :=
  if log.length < 8 then none
  else if 4000 < va (log.take 4) ∨ log.length - 8 < va (log.take 4) then none
  else if crc ((log.drop 8).take (va (log.take 4))) = va ((log.drop 4).take 4) then some ((log.drop 8).take (va (log.take 4))) else none
theorem fst?_some {log r : List UInt8} (h : fst? log = some r) : 8 + r.length ≤ log.length ∧ r.length ≤ 4000 := by
  unfold fst? at h
  split at h; · cases h
  split at h; · cases h
  split at h
  · injection h with h
    subst h
    simp only [List.length_take, List.length_drop]
    omega
  · cases h
def scanF : Nat → List UInt8 → List (List UInt8)
  | 0, _ => []
  | f + 1, log => match fst? log with
    | none => []
    | some r => r :: scanF f (log.drop (8 + r.length))
def scan (log : List UInt8) : List (List UInt8) := scanF log.length log
def bulk (ls : List (List UInt8)) : Nat := (ls.map fun r => 8 + r.length).sum

theorem scanF_nil {log : List UInt8} (h : fst? log = none) : ∀ f, scanF f log = []
  | 0 => rfl
  | f + 1 => by simp [scanF, h]
theorem scanF_any : ∀ (f g : Nat) (log : List UInt8), log.length ≤ f → log.length ≤ g → scanF f log = scanF g log
  | 0, 0, _, _, _ => rfl
  | 0, g + 1, log, h, _ => by
    have : fst? log = none := by unfold fst?; rw [if_pos (by omega)]
    rw [scanF_nil this, scanF_nil this]
  | f + 1, 0, log, _, h => by
    have : fst? log = none := by unfold fst?; rw [if_pos (by omega)]
    rw [scanF_nil this, scanF_nil this]
  | f + 1, g + 1, log, h1, h2 => by
    simp only [scanF]
    cases hf : fst? log with
    | none => rfl
    | some r =>
      have := fst?_some hf
      simp only
      rw [scanF_any f g _ (by simp; omega) (by simp; omega)]
theorem scan_none {log : List UInt8} (h : fst? log = none) : scan log = [] := scanF_nil h _
theorem scan_some {log r : List UInt8} (h : fst? log = some r) : scan log = r :: scan (log.drop (8 + r.length)) := by
  have h0 := fst?_some h
  unfold scan
  rw [scanF_any log.length (log.length + 1) log (Nat.le_refl _) (by omega)]
  simp only [scanF, h]
  rw [scanF_any log.length (log.drop (8 + r.length)).length _ (by simp) (Nat.le_refl _)]
theorem bulk_cons (r : List UInt8) (ls : List (List UInt8)) : bulk (r :: ls) = 8 + r.length + bulk ls := by simp [bulk]
theorem bulk_snoc (r : List UInt8) (ls : List (List UInt8)) : bulk (ls ++ [r]) = bulk ls + (8 + r.length) := by simp [bulk]
theorem bulk_app (ls ms : List (List UInt8)) : bulk (ls ++ ms) = bulk ls + bulk ms := by simp [bulk]

theorem be4_va {n : Nat} (h : n < 4294967296) : va (be n 4) = n := by rw [va_be, Nat.mod_eq_of_lt (by simpa using h)]
theorem take_be4 (n : Nat) (l : List UInt8) : (be n 4 ++ l).take 4 = be n 4 := by rw [List.take_append_of_le_length (by simp [be_length]), List.take_of_length_le (by simp [be_length])]
theorem drop_be4 (n : Nat) (l : List UInt8) : (be n 4 ++ l).drop 4 = l := by
  rw [List.drop_append_of_le_length (by simp [be_length]), List.drop_of_length_le (by simp [be_length])]; rfl

/-- What stands ahead decides; what it decides of a length, a sum and what is behind. -/
theorem fst?_of (n s : Nat) (l : List UInt8) (hn : n < 4294967296) (hs : s < 4294967296) :
    fst? (be n 4 ++ (be s 4 ++ l)) = if n ≤ 4000 ∧ n ≤ l.length ∧ crc (l.take n) = s then some (l.take n) else none := by
  have e8 : (be n 4 ++ (be s 4 ++ l)).drop 8 = l := by
    rw [show (8 : Nat) = 4 + 4 from rfl, ← List.drop_drop, drop_be4, drop_be4]
  unfold fst?
  rw [if_neg (by simp [be_length]; omega), take_be4, be4_va hn, drop_be4, take_be4, be4_va hs, e8]
  have el : (be n 4 ++ (be s 4 ++ l)).length - 8 = l.length := by simp [be_length]; omega
  rw [el]
  by_cases h1 : 4000 < n ∨ l.length < n
  · rw [if_pos h1, if_neg (by omega)]
  · rw [if_neg h1]
    by_cases h2 : crc (l.take n) = s
    · rw [if_pos h2, if_pos ⟨by omega, by omega, h2⟩]
    · rw [if_neg h2, if_neg (fun h => h2 h.2.2)]
theorem fst?_frame {r : List UInt8} (l : List UInt8) (h : r.length ≤ 4000) : fst? (frameB r ++ l) = some r := by
  have e : frameB r ++ l = be r.length 4 ++ (be (crc r) 4 ++ (r ++ l)) := by simp [frameB]
  have et : (r ++ l).take r.length = r := by simp
  rw [e, fst?_of _ _ _ (by omega) (crc_lt r), if_pos ⟨h, by simp, by rw [et]⟩, et]
theorem scan_frame {r : List UInt8} (l : List UInt8) (h : r.length ≤ 4000) : scan (frameB r ++ l) = r :: scan l := by
  rw [scan_some (fst?_frame l h)]
  congr 2
  rw [show 8 + r.length = (frameB r).length by rw [frameB_length]; omega]
  simp
def logB (ls : List (List UInt8)) : List UInt8 := (ls.map frameB).flatten
theorem logB_cons (r : List UInt8) (ls : List (List UInt8)) : logB (r :: ls) = frameB r ++ logB ls := by simp [logB]
theorem logB_app (ls ms : List (List UInt8)) : logB (ls ++ ms) = logB ls ++ logB ms := by simp [logB]
theorem logB_snoc (r : List UInt8) (ls : List (List UInt8)) : logB (ls ++ [r]) = logB ls ++ frameB r := by simp [logB]
theorem logB_length : ∀ ls : List (List UInt8), (logB ls).length = bulk ls
  | [] => rfl
  | r :: ls => by rw [logB_cons, bulk_cons, List.length_append, frameB_length, logB_length ls]; omega
theorem scan_log (l : List UInt8) : ∀ ls : List (List UInt8), (∀ r ∈ ls, r.length ≤ 4000) → scan (logB ls ++ l) = ls ++ scan l
  | [], _ => rfl
  | r :: ls, h => by
    rw [logB_cons, List.append_assoc, scan_frame _ (h r List.mem_cons_self), scan_log l ls (fun x hx => h x (List.mem_cons_of_mem _ hx))]; simp
/-- A proper front of a frame is none. -/
theorem fst?_torn (r : List UInt8) (h : r.length ≤ 4000) {k : Nat} (hk : k < r.length + 8) : fst? ((frameB r).take k) = none := by
  by_cases h8 : k < 8
  · unfold fst?; rw [if_pos (by simp [frameB_length]; omega)]
  · obtain ⟨j, rfl⟩ : ∃ j, k = 8 + j := ⟨k - 8, by omega⟩
    have e : (frameB r).take (8 + j) = be r.length 4 ++ (be (crc r) 4 ++ r.take j) := by
      unfold frameB
      rw [← List.append_assoc, ← List.append_assoc, List.take_append, List.take_of_length_le (by simp [be_length])]
      congr 2
      simp [be_length]
    rw [e, fst?_of _ _ _ (by omega) (crc_lt r), if_neg]
    simp only [List.length_take]
    omega
theorem scan_nil : scan [] = [] := rfl

end Go.Proofs.Ytcofjimjbobdgaa
