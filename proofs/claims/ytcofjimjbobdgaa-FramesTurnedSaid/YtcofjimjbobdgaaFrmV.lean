/- A log one of whose bytes is another: what is told of it. -/
import Derived.Test.YtcofjimjbobdgaaFrm
namespace Go.Proofs.Ytcofjimjbobdgaa
open Go.RowKit

theorem va_cons (c : UInt8) (l : List UInt8) : va (c :: l) = c.toNat * 256 ^ l.length + va l := by
  have h := va_from l c.toNat
  simp only [va, List.foldl_cons, Nat.zero_mul, Nat.zero_add] at h ⊢
  exact h
theorem va_inj : ∀ (l m : List UInt8), l.length = m.length → va l = va m → l = m
  | [], [], _, _ => rfl
  | [], _ :: _, h, _ => by simp at h
  | _ :: _, [], h, _ => by simp at h
  | c :: l, d :: m, h, e => by
    have hl : l.length = m.length := by simpa using h
    rw [va_cons, va_cons, ← hl] at e
    have h1 := va_lt l
    have h2 := va_lt m
    rw [← hl] at h2
    have hcd : c.toNat = d.toNat := by
      rcases Nat.lt_trichotomy c.toNat d.toNat with h | h | h
      · have := Nat.mul_le_mul_right (256 ^ l.length) (show c.toNat + 1 ≤ d.toNat from h)
        rw [Nat.succ_mul] at this; omega
      · exact h
      · have := Nat.mul_le_mul_right (256 ^ l.length) (show d.toNat + 1 ≤ c.toNat from h)
        rw [Nat.succ_mul] at this; omega
    have e2 : va l = va m := by rw [hcd] at e; omega
    rw [UInt8.toNat_inj.1 hcd, va_inj l m hl e2]

theorem fst?_sum (n : Nat) (S l : List UInt8) (hn : n < 4294967296) (hS : S.length = 4) :
    fst? (be n 4 ++ (S ++ l)) = if n ≤ 4000 ∧ n ≤ l.length ∧ crc (l.take n) = va S then some (l.take n) else none := by
  have hs : va S < 4294967296 := by have := va_lt S; rw [hS] at this; simpa using this
  have e : S = be (va S) 4 := va_inj S _ (by rw [hS, be_length]) (be4_va hs).symm
  have h := fst?_of n (va S) l hn hs
  rw [← e] at h
  exact h

theorem set_ne {l : List UInt8} {k : Nat} {c : UInt8} (hk : k < l.length) (h : l[k] ≠ c) : l.set k c ≠ l := by
  intro e
  have : (l.set k c)[k]? = l[k]? := by rw [e]
  rw [List.getElem?_set_self hk, List.getElem?_eq_getElem hk] at this
  injection this with this
  exact h this.symm
theorem crc_set {r : List UInt8} {k : Nat} {c : UInt8} (hk : k < r.length) (h : r[k] ≠ c) : crc (r.set k c) ≠ crc r := by
  have e1 : r = r.take k ++ r[k] :: r.drop (k + 1) := by
    rw [← List.drop_eq_getElem_cons hk, List.take_append_drop]
  have e2 : r.set k c = r.take k ++ c :: r.drop (k + 1) := by
    rw [List.set_eq_take_append_cons_drop, if_pos hk]
  rw [e2]
  conv => rhs; rw [e1]
  exact crc_turned _ _ (fun e => h e.symm)

/-- A frame with another byte behind its length is none. -/
theorem fst?_turned (r P : List UInt8) (hr : r.length ≤ 4000) {j : Nat} {c : UInt8} (hj : j < (frameB r).length) (h4 : 4 ≤ j) (hc : (frameB r)[j] ≠ c) : fst? ((frameB r).set j c ++ P) = none := by
  rw [frameB_length] at hj
  have hset : (frameB r).set j c = be r.length 4 ++ (be (crc r) 4 ++ r).set (j - 4) c := by
    unfold frameB
    rw [List.set_append_right _ _ (by rw [be_length]; exact h4), be_length]
  have hget : (frameB r)[j]'(by rw [frameB_length]; exact hj) = (be (crc r) 4 ++ r)[j - 4]'(by simp [be_length]; omega) := by
    unfold frameB
    rw [List.getElem_append_right (by rw [be_length]; exact h4)]
    simp [be_length]
  rw [hget] at hc
  rw [hset]
  by_cases h8 : j < 8
  · rw [List.getElem_append_left (by rw [be_length]; omega)] at hc
    rw [List.set_append_left _ _ (by rw [be_length]; omega)]
    rw [List.append_assoc, List.append_assoc, fst?_sum _ _ _ (by omega) (by rw [List.length_set, be_length]), if_neg]
    rintro ⟨_, _, h⟩
    have et : (r ++ P).take r.length = r := by simp
    rw [et] at h
    have := va_inj ((be (crc r) 4).set (j - 4) c) (be (crc r) 4) (by rw [List.length_set]) (by rw [← h, be4_va (crc_lt r)])
    exact set_ne (by rw [be_length]; omega) hc this
  · rw [List.getElem_append_right (by rw [be_length]; omega)] at hc
    rw [List.set_append_right _ _ (by rw [be_length]; omega)]
    simp only [be_length] at hc ⊢
    rw [List.append_assoc, List.append_assoc, fst?_of _ _ _ (by omega) (crc_lt r), if_neg]
    rintro ⟨_, _, h⟩
    have et : (r.set (j - 4 - 4) c ++ P).take r.length = r.set (j - 4 - 4) c := by
      rw [List.take_append_of_le_length (by simp), List.take_of_length_le (by simp)]
    rw [et] at h
    exact crc_set (by omega) hc h

theorem split_at (ls : List (List UInt8)) (h : Nat) (hh : h < ls.length) : ls = ls.take h ++ ls[h] :: ls.drop (h + 1) := by
  rw [← List.drop_eq_getElem_cons hh, List.take_append_drop]
theorem log_set (ls : List (List UInt8)) (h : Nat) (hh : h < ls.length) {k : Nat} {c : UInt8} (h1 : bulk (ls.take h) ≤ k) (h2 : k < bulk (ls.take (h + 1))) :
    ∃ hj : k - bulk (ls.take h) < (frameB ls[h]).length, (logB ls).set k c = logB (ls.take h) ++ ((frameB ls[h]).set (k - bulk (ls.take h)) c ++ logB (ls.drop (h + 1))) ∧
      ∀ hk : k < (logB ls).length, (logB ls)[k] = (frameB ls[h])[k - bulk (ls.take h)] := by
  have hb : bulk (ls.take (h + 1)) = bulk (ls.take h) + (8 + ls[h].length) := by rw [List.take_succ_eq_append_getElem hh, bulk_snoc]
  have hj : k - bulk (ls.take h) < (frameB ls[h]).length := by rw [frameB_length]; omega
  have e : logB ls = logB (ls.take h) ++ (frameB ls[h] ++ logB (ls.drop (h + 1))) := by
    conv => lhs; rw [split_at ls h hh]
    rw [logB_app, logB_cons]
  refine ⟨hj, ?_, fun hk => ?_⟩
  · rw [e, List.set_append_right _ _ (by rw [logB_length]; exact h1), logB_length, List.set_append_left _ _ hj]
  · simp only [e]
    rw [List.getElem_append_right (by rw [logB_length]; exact h1)]
    simp only [logB_length]
    rw [List.getElem_append_left hj]
theorem scan_turned (ls : List (List UInt8)) (hs : ∀ r ∈ ls, r.length ≤ 4000) (h : Nat) (hh : h < ls.length) {k : Nat} {c : UInt8} (h1 : bulk (ls.take h) ≤ k) (h2 : k < bulk (ls.take (h + 1))) :
    (scan ((logB ls).set k c)).take h = ls.take h ∧ h ≤ (scan ((logB ls).set k c)).length := by
  obtain ⟨hj, e, _⟩ := log_set ls h hh (c := c) h1 h2
  rw [e, scan_log _ _ (fun r hr => hs r (List.mem_of_mem_take hr))]
  have hl : (ls.take h).length = h := by simp; omega
  constructor
  · rw [List.take_append_of_le_length (by omega), List.take_of_length_le (by omega)]
  · rw [List.length_append]; omega
theorem scan_gone (ls : List (List UInt8)) (hs : ∀ r ∈ ls, r.length ≤ 4000) (h : Nat) (hh : h < ls.length) {k : Nat} {c : UInt8} (h1 : bulk (ls.take h) ≤ k) (h2 : k < bulk (ls.take (h + 1))) (h4 : 4 ≤ k - bulk (ls.take h))
    (hk : k < (logB ls).length) (hc : (logB ls)[k] ≠ c) : scan ((logB ls).set k c) = ls.take h := by
  obtain ⟨hj, e, e2⟩ := log_set ls h hh (c := c) h1 h2
  rw [e, scan_log _ _ (fun r hr => hs r (List.mem_of_mem_take hr)), scan_none (fst?_turned _ _ (hs _ (List.getElem_mem hh)) hj h4 (by rw [← e2 hk]; exact hc)), List.append_nil]

end Go.Proofs.Ytcofjimjbobdgaa
