/- codec.Reader: its block; take, number, count; Fail, End; what panics. -/
import Derived.Test.YtnkhobdpiifaaaaVal
import Derived.Laws.OwnMore
import Derived.BigQuiet
import Derived.Deep.QuietTactic
import Derived.Laws.Rows
import Derived.WalkSmall
namespace Go.Proofs.Ytnkhobdpiifaaaa
open Go.RowKit

/-- Block R is a reader: what is left, and its error. -/
def RAt (w : World) (R : Nat) (v : Value) (e : Int) : Prop := w.heap[R]? = some (.cells #[v, .int .i64 e] 41 (0, 0))

section
variable {w w' : World} {R : Nat} {v : Value} {e : Int}
theorem RAt.lt (h : RAt w R v e) : R < w.heap.size := (Array.getElem?_eq_some_iff.1 h).1
theorem RAt.c0 (h : RAt w R v e) : w.cell? ⟨R, 0, none⟩ = some v := by rw [cell_of_row w R 0 _ _ (0, 0) h]; rfl
theorem RAt.c1 (h : RAt w R v e) : w.cell? ⟨R, 1, none⟩ = some (.int .i64 e) := by rw [cell_of_row w R 1 _ _ (0, 0) h]; rfl
theorem RAt.fr (h : RAt w R v e) (i : Nat) : w.frozen? ⟨R, i, none⟩ = false := by unfold RAt at h; simp [World.frozen?, h]
theorem RAt.ext (h : RAt w R v e) (k : Ext w w') : RAt w' R v e := (k.block R h.lt).trans h
theorem RAt.grown {row : Option Nat} (h : RAt w R v e) (k : w.grownBy w' row) (hr : row ≠ some R) : RAt w' R v e := (k.block R h.lt (fun e => hr e.symm)).trans h
theorem RAt.set0 (h : RAt w R v e) (u : Value) : RAt (w.setCell ⟨R, 0, none⟩ u) R u e := by
  unfold RAt at *
  simp [World.setCell, Array.getElem?_modify, h]
theorem RAt.set1 (h : RAt w R v e) (u : Int) : RAt (w.setCell ⟨R, 1, none⟩ (.int .i64 u)) R v u := by
  unfold RAt at *
  simp [World.setCell, Array.getElem?_modify, h]
end

theorem grown_setCell (w : World) (R i : Nat) (u : Value) : w.grownBy (w.setCell ⟨R, i, none⟩ u) (some R) :=
  ⟨rfl, rfl, rfl, by simp [World.setCell], fun k _ hk => Below.heap_setCell _ _ _ _ (fun e => hk (by rw [e]))⟩

/-- Only the reader's own block has turned, and it holds this now. -/
def Read1 (w : World) (R : Nat) (v : Value) (e : Int) (w' : World) : Prop := w.grownBy w' (some R) ∧ RAt w' R v e

theorem Fail_sets (R : Nat) (v : Value) (f : Int) (w : World) (h : RAt w R v 0) (hf : (f == 0) = false) :
    Calls Try.prog 27 #[.pointer (some ⟨R, 0, none⟩), .int .i64 f] w fun e w' => e = .returned (.tuple #[]) ∧ Read1 w R (.slice none 0 0) f w' := by
  have h0 := h.c0
  have h1 := h.c1
  have f0 := h.fr 0
  have f1 := h.fr 1
  have hfn : (f != 0) = true := by simpa using hf
  have hR := Lib.hid (And.intro (World.grownBy.trans (grown_setCell w R 1 (.int .i64 f)) (grown_setCell _ R 0 (.slice none 0 0))) ((h.set1 f).set0 (.slice none 0 0)))
  have H := Lib.hid h
  clear h
  go_enter Try.func27, Try.ntmps27
  go_wp2
  go_end0
  exact ⟨rfl, hR.out.1, hR.out.2⟩

theorem Fail_keeps (R : Nat) (v : Value) (e0 f : Int) (w : World) (h : RAt w R v e0) (hf : (e0 == 0) = false ∨ f = 0) :
    Calls Try.prog 27 #[.pointer (some ⟨R, 0, none⟩), .int .i64 f] w fun e w' => e = .returned (.tuple #[]) ∧ w = w' := by
  have h0 := h.c0
  have h1 := h.c1
  clear h
  by_cases he : (e0 == 0) = true
  · rcases hf with hf | rfl
    · rw [he] at hf; cases hf
    · obtain rfl : e0 = 0 := by simpa using he
      go_enter Try.func27, Try.ntmps27
      go_wp2
      go_end0
      exact ⟨rfl, rfl⟩
  · have he : (e0 == 0) = false := by simpa using he
    clear hf
    go_enter Try.func27, Try.ntmps27
    go_wp2
    go_end0
    exact ⟨rfl, rfl⟩

theorem End_err (R : Nat) (v : Value) (e0 : Int) (w : World) (h : RAt w R v e0) (he : (e0 == 0) = false) :
    Calls Try.prog 13 #[.pointer (some ⟨R, 0, none⟩)] w fun e w' => e = .returned (.int .i64 e0) ∧ w = w' := by
  have h0 := h.c0
  have h1 := h.c1
  clear h
  go_enter Try.func13, Try.ntmps13
  go_wp2
  go_ret
  exact ⟨rfl, rfl⟩

theorem End_ok (R : Nat) (A : Option Addr) (n c : Nat) (w : World) (h : RAt w R (.slice A n c) 0) :
    Calls Try.prog 13 #[.pointer (some ⟨R, 0, none⟩)] w fun e w' => e = .returned (.int .i64 (if 0 < n then 9 else 0)) ∧ w = w' := by
  have h0 := h.c0
  have h1 := h.c1
  clear h
  by_cases hn : 0 < n
  · rw [if_pos hn]
    have hn' : (0 : Int) < (n : Int) := by omega
    go_enter Try.func13, Try.ntmps13
    go_wp2
    go_ret
    exact ⟨rfl, rfl⟩
  · rw [if_neg hn]
    have hn' : ¬ (0 : Int) < (n : Int) := by omega
    go_enter Try.func13, Try.ntmps13
    go_wp2
    go_ret
    exact ⟨rfl, rfl⟩

/-- What take panics with. -/
def cut : Value := .iface 47 (.agg #[.int .i64 8])

/-- The bytes that a slice reads as lie in its own memory; the rest of it behind the first k. -/
theorem Rd.front {w : World} {A : Option Addr} {n c k : Nat} {xs : List Value} (h : Rd w (.slice A n c) xs) (hk : k ≤ n) : Rd w (.slice A k c) (xs.take k) := by
  obtain ⟨A', c', e, h1, h2, h3⟩ := h
  injection e with e1 e2 e3
  subst e1 e3
  refine ⟨A, c, by rw [List.length_take]; congr 1; omega, by rw [List.length_take]; omega, h2, fun hn => ?_⟩
  obtain ⟨a, e, hb, hc⟩ := h3 (by rw [List.length_take] at hn; omega)
  exact ⟨a, e, hb, fun j u hu => hc j u (by rw [List.getElem?_take] at hu; split at hu; exact hu; cases hu)⟩
theorem Rd.back {w : World} {a : Addr} {n c k : Nat} {xs : List Value} (h : Rd w (.slice (some a) n c) xs) (hk : k ≤ n) : Rd w (.slice (some (a.add k)) (n - k) (c - k)) (xs.drop k) := by
  obtain ⟨A', c', e, h1, h2, h3⟩ := h
  injection e with e1 e2 e3
  subst e1 e3
  refine ⟨some (a.add k), c - k, by rw [List.length_drop, e2], by rw [List.length_drop]; omega, by omega, fun hn => ?_⟩
  obtain ⟨a', e, hb, hc⟩ := h3 (by rw [List.length_drop] at hn; omega)
  injection e with e
  subst e
  refine ⟨_, rfl, by rw [add_block]; exact hb, fun j u hu => ?_⟩
  rw [add_add']
  exact hc _ u (by rw [List.getElem?_drop] at hu; exact hu)

/-- A reader with the bytes l left. -/
def Rdr (w : World) (R : Nat) (l : List UInt8) (e : Int) : Prop := ∃ v, RAt w R v e ∧ Rd w v (bvs l) ∧ v.ownBlock ≠ some R ∧ (l = [] ∨ e = 0)
theorem Rdr.ext {w w' : World} {R : Nat} {l : List UInt8} {e : Int} (h : Rdr w R l e) (k : Ext w w') : Rdr w' R l e := by
  obtain ⟨v, h1, h2, h3, h4⟩ := h
  exact ⟨v, h1.ext k, h2.ext k, h3, h4⟩
theorem Rdr.nil {w : World} {R : Nat} {e : Int} (h : RAt w R (.slice none 0 0) e) : Rdr w R [] e := ⟨_, h, Rd.nil w, by simp [Value.ownBlock], .inl rfl⟩

theorem take_cut (R : Nat) (l : List UInt8) (e0 k : Int) (w : World) (h : Rdr w R l e0) (hk : (l.length : Int) < k) :
    Calls Try.prog 22 #[.pointer (some ⟨R, 0, none⟩), .int .i64 k] w fun e w' => e = .panicked [{ v := cut, recovered := false }] ∧ w = w' := by
  obtain ⟨v, h, hr, _, _⟩ := h
  obtain ⟨A, c, rfl, _, _⟩ := hr.len
  rw [bvs_length] at *
  have h0 := h.c0
  clear h hr
  go_enter Try.func22, Try.ntmps22
  go_wp2
  exact ⟨rfl, rfl, rfl⟩

def Took (w : World) (R : Nat) (l : List UInt8) (k : Nat) (e0 : Int) (e : Ending) (w' : World) : Prop :=
  ∃ v', e = .returned v' ∧ Rd w' v' (bvs (l.take k)) ∧ w.grownBy w' (some R) ∧ Rdr w' R (l.drop k) e0

theorem bvs_take (l : List UInt8) (k : Nat) : (bvs l).take k = bvs (l.take k) := by simp [bvs, List.map_take]
theorem bvs_drop (l : List UInt8) (k : Nat) : (bvs l).drop k = bvs (l.drop k) := by simp [bvs, List.map_drop]

theorem took_at {w : World} {R : Nat} {l : List UInt8} {k : Nat} {e0 : Int} {v v1 v2 : Value} (h : RAt w R v e0) (h1 : Rd w v1 (bvs (l.take k))) (o1 : v1.ownBlock ≠ some R) (h2 : Rd w v2 (bvs (l.drop k))) (o2 : v2.ownBlock ≠ some R) (he : l = [] ∨ e0 = 0) :
    Took w R l k e0 (.returned v1) (w.setCell ⟨R, 0, none⟩ v2) := by
  have g := grown_setCell w R 0 v2
  refine ⟨v1, rfl, h1.grown g (fun g' e => by injection e with e; subst e; exact o1), g, v2, h.set0 v2, h2.grown g (fun g' e => by injection e with e; subst e; exact o2), o2, ?_⟩
  rcases he with rfl | he
  · exact .inl (by simp)
  · exact .inr he

theorem own_add (a : Addr) (k : Nat) (n c n' c' : Nat) : (Value.slice (some (a.add k)) n c).ownBlock = (Value.slice (some a) n' c').ownBlock := by simp [Value.ownBlock, add_block]

theorem take_any (R : Nat) (l : List UInt8) (e0 : Int) (k : Nat) (w : World) (h : Rdr w R l e0) (hk : k ≤ l.length) :
    Calls Try.prog 22 #[.pointer (some ⟨R, 0, none⟩), .int .i64 k] w (Took w R l k e0) := by
  obtain ⟨v, h, hr, ho, he⟩ := h
  obtain ⟨A, c, rfl, hc, hm⟩ := hr.len
  rw [bvs_length] at *
  have h0 := h.c0
  have f0 := h.fr 0
  unfold maxLen at hm
  cases A with
  | none =>
    have hl : l.length = 0 := by
      obtain ⟨A', c', e1, _, _, h3⟩ := hr
      rcases Nat.eq_zero_or_pos l.length with hz | hz
      · exact hz
      · obtain ⟨a, e, _⟩ := h3 (by rw [bvs_length]; exact hz)
        injection e1 with e1
        rw [e] at e1; cases e1
    have hl' : l = [] := List.eq_nil_of_length_eq_zero hl
    subst hl'
    obtain rfl : k = 0 := by simpa using hk
    have HT := Lib.hid (fun c' (hc' : c' ≤ maxLen) => took_at (k := 0) (v1 := .slice none 0 c) (v2 := .slice none 0 c') h (by simpa using hr) (by simp [Value.ownBlock]) ⟨none, c', by simp [bvs], by simp [bvs], hc', by simp [bvs]⟩ (by simp [Value.ownBlock]) he)
    clear h hr ho he
    go_enter Try.func22, Try.ntmps22
    go_wp2
    go_ret
    exact HT.out _ (by simp [maxLen]; omega)
  | some a =>
    by_cases hck : c = k
    · have hlk : l.length = k := by omega
      have HT := Lib.hid (took_at (k := k) (v1 := .slice (some a) k c) (v2 := .slice (some a) 0 0) h (by rw [← bvs_take]; exact hr.front hk) ho
        ⟨some a, 0, by rw [← bvs_drop, List.length_drop, bvs_length, hlk, Nat.sub_self], by rw [← bvs_drop, List.length_drop, bvs_length]; omega, by simp [maxLen], fun hn => by rw [← bvs_drop, List.length_drop, bvs_length] at hn; omega⟩ ho he)
      clear h hr ho he
      subst hck
      go_enter Try.func22, Try.ntmps22
      go_wp2
      go_ret
      simpa using HT.out
    · have HT := Lib.hid (took_at (k := k) (v1 := .slice (some a) k c) (v2 := .slice (some (a.add k)) (l.length - k) (c - k)) h (by rw [← bvs_take]; exact hr.front hk) ho (by rw [← bvs_drop]; exact hr.back hk) (by rw [own_add]; exact ho) he)
      clear h hr ho he
      go_enter Try.func22, Try.ntmps22
      go_wp2
      go_ret
      exact HT.out

theorem count_cut (R : Nat) (l : List UInt8) (e0 : Int) (w : World) (h : Rdr w R l e0) (hk : l.length < 2) :
    Calls Try.prog 23 #[.pointer (some ⟨R, 0, none⟩)] w fun e w' => e = .panicked [{ v := cut, recovered := false }] ∧ w = w' := by
  have hk' : (l.length : Int) < 2 := by omega
  have H := Lib.hid h
  clear h
  go_enter Try.func23, Try.ntmps23
  go_wp2_with fail
  refine (take_cut R l e0 _ _ H.out hk').mono ?_
  rintro e w' ⟨rfl, rfl⟩
  exact ⟨rfl, rfl, rfl⟩

theorem number_cut (R : Nat) (l : List UInt8) (e0 : Int) (w : World) (h : Rdr w R l e0) (hk : l.length < 8) :
    Calls Try.prog 20 #[.pointer (some ⟨R, 0, none⟩)] w fun e w' => e = .panicked [{ v := cut, recovered := false }] ∧ w = w' := by
  have hk' : (l.length : Int) < 8 := by omega
  have H := Lib.hid h
  clear h
  go_enter Try.func20, Try.ntmps20
  go_wp2_with fail
  refine (take_cut R l e0 _ _ H.out hk').mono ?_
  rintro e w' ⟨rfl, rfl⟩
  exact ⟨rfl, rfl, rfl⟩

theorem take_as (R : Nat) (l : List UInt8) (e0 y : Int) (k : Nat) (w : World) (hy : y = (k : Int)) (h : Rdr w R l e0) (hk : k ≤ l.length) :
    Calls Try.prog 22 #[.pointer (some ⟨R, 0, none⟩), .int .i64 y] w (Took w R l k e0) := by
  subst hy
  exact take_any R l e0 k w h hk

/-- The number that eight bytes are. -/
def num (l : List UInt8) : Int := wrap64 (va l : Int)

theorem count_ok (R : Nat) (l : List UInt8) (e0 : Int) (w : World) (h : Rdr w R l e0) (hk : 2 ≤ l.length) :
    Calls Try.prog 23 #[.pointer (some ⟨R, 0, none⟩)] w fun e w' => e = .returned (.int .i64 (va (l.take 2) : Int)) ∧ w.grownBy w' (some R) ∧ Rdr w' R (l.drop 2) e0 := by
  have H := Lib.hid h
  clear h
  have hv := va_lt (l.take 2)
  have hl2 : (l.take 2).length = 2 := by simp; omega
  rw [hl2] at hv
  have hv' : va (l.take 2) < 65536 := hv
  clear hv
  go_enter Try.func23, Try.ntmps23
  go_wp2_with fail
  refine (take_as R l e0 _ 2 _ (by rfl) H.out hk).mono ?_
  rintro e w1 ⟨v1, rfl, hr, hg, hR⟩
  have HR := Lib.hid hR
  clear hR
  go_wp2_with fail
  refine (value_any v1 (l.take 2) w1 hr (by omega)).mono ?_
  rintro e w2 ⟨rfl, rfl⟩
  clear hl2
  go_wp2
  go_ret
  exact ⟨rfl, hg, HR.out⟩

theorem number_ok (R : Nat) (l : List UInt8) (e0 : Int) (w : World) (h : Rdr w R l e0) (hk : 8 ≤ l.length) :
    Calls Try.prog 20 #[.pointer (some ⟨R, 0, none⟩)] w fun e w' => e = .returned (.int .i64 (num (l.take 8))) ∧ w.grownBy w' (some R) ∧ Rdr w' R (l.drop 8) e0 := by
  have H := Lib.hid h
  clear h
  have hl2 : (l.take 8).length ≤ 8 := by simp; omega
  go_enter Try.func20, Try.ntmps20
  go_wp2_with fail
  refine (take_as R l e0 _ 8 _ (by rfl) H.out hk).mono ?_
  rintro e w1 ⟨v1, rfl, hr, hg, hR⟩
  have HR := Lib.hid hR
  clear hR
  go_wp2_with fail
  refine (value_any v1 (l.take 8) w1 hr hl2).mono ?_
  rintro e w2 ⟨rfl, rfl⟩
  clear hl2
  go_wp2
  go_ret
  exact ⟨rfl, hg, HR.out⟩

end Go.Proofs.Ytnkhobdpiifaaaa
