/- codec's readers: numbers, Ints, Text. -/
import Derived.Test.YtnkhobdpiifaaaaRead
import Derived.Laws.MakeOwn
import Derived.Laws.OwnMore
namespace Go.Proofs.Ytnkhobdpiifaaaa
open Go.RowKit

/-- The numbers that so many bytes are. -/
def nums : Nat → List UInt8 → List Int
  | 0, _ => []
  | n + 1, l => num (l.take 8) :: nums n (l.drop 8)
theorem nums_length : ∀ (n : Nat) (l : List UInt8), (nums n l).length = n
  | 0, _ => rfl
  | n + 1, l => by simp [nums, nums_length n]

/-- What came when bytes were missing in the midst: they are gone on to some place. -/
def Gone (w : World) (R : Nat) (e0 : Int) (e : Ending) (w' : World) : Prop := e = .panicked [{ v := cut, recovered := false }] ∧ w.grownBy w' (some R) ∧ ∃ l', Rdr w' R l' e0

theorem numbers_cut (R : Nat) (l : List UInt8) (e0 : Int) (w : World) (h : Rdr w R l e0) (hk : l.length < 2 ∨ l.length - 2 < 8 * va (l.take 2)) :
    Calls Try.prog 25 #[.pointer (some ⟨R, 0, none⟩)] w (Gone w R e0) := by
  have H := Lib.hid h
  clear h
  by_cases h2 : l.length < 2
  · clear hk
    go_enter Try.func25, Try.ntmps25
    go_wp2_with fail
    refine (count_cut R l e0 _ H.out h2).mono ?_
    rintro e w1 ⟨rfl, rfl⟩
    exact ⟨rfl, rfl, World.grownBy.refl _ _, l, H.out⟩
  · have hk : l.length - 2 < 8 * va (l.take 2) := by omega
    have hv : va (l.take 2) < 65536 := by
      have hv := va_lt (l.take 2)
      have hl2 : (l.take 2).length = 2 := by simp; omega
      rw [hl2] at hv
      exact hv
    have hk' : ((l.drop 2).length : Int) < 8 * (va (l.take 2) : Int) := by rw [List.length_drop]; omega
    have hk' := Lib.hid hk'
    clear hk
    go_enter Try.func25, Try.ntmps25
    go_wp2_with fail
    refine (count_ok R l e0 _ H.out (by omega)).mono ?_
    rintro e w1 ⟨rfl, hg, hR⟩
    have HR := Lib.hid hR
    clear hR
    go_wp2_with fail
    refine (take_cut R _ e0 _ _ HR.out hk'.out).mono ?_
    rintro e w2 ⟨rfl, rfl⟩
    exact ⟨rfl, rfl, hg, _, HR.out⟩

theorem take_sum (R : Nat) (l : List UInt8) (e0 : Int) (y : Int) (k : Nat) (w : World) (hy : y = 8 * (k : Int)) (h : Rdr w R l e0) (hk : 8 * k ≤ l.length) :
    Calls Try.prog 22 #[.pointer (some ⟨R, 0, none⟩), .int .i64 y] w (Took w R l (8 * k) e0) := take_as R l e0 y (8 * k) w (by omega) h hk

theorem Rd.some_ {w : World} {A : Option Addr} {n c : Nat} {xs : List Value} (h : Rd w (.slice A n c) xs) (hn : 0 < n) : ∃ a, A = some a := by
  obtain ⟨A', c', e, _, _, h3⟩ := h
  injection e with e1 e2 _
  obtain ⟨a, e3, _⟩ := h3 (by omega)
  exact ⟨a, e1.trans e3⟩

theorem Try.infoInt : (Try.prog.info? 3).map (fun i => (i.zero, i.size, i.bytes)) = some (some (.int .i64 0), 1, 8) := by kernel_rfl

theorem nums_snoc : ∀ (k : Nat) (D : List UInt8), nums (k + 1) D = nums k D ++ [num ((D.drop (8 * k)).take 8)]
  | 0, D => by simp [nums]
  | k + 1, D => by
    rw [nums, nums_snoc k (D.drop 8), nums, List.cons_append, List.drop_drop]
    rw [show 8 + 8 * k = 8 * (k + 1) from by omega]

/-- So many numbers of the row are there, the others are nought. -/
def part (n k : Nat) (D : List UInt8) : List Value := (nums k D).map (Value.int .i64) ++ List.replicate (n - k) (.int .i64 0)
theorem part_length {n k : Nat} (D : List UInt8) (h : k ≤ n) : (part n k D).length = n := by simp [part, nums_length]; omega
theorem part_set {n k : Nat} (D : List UInt8) (h : k < n) : (part n k D).set k (.int .i64 (num ((D.drop (8 * k)).take 8))) = part n (k + 1) D := by
  unfold part
  rw [List.set_append_right _ _ (by simp [nums_length]), nums_snoc, List.map_append, List.length_map, nums_length, Nat.sub_self, show n - k = (n - (k + 1)) + 1 from by omega, List.replicate_succ, List.set_cons_zero]
  simp

set_option maxHeartbeats 1000000 in
theorem numbers_ok (R : Nat) (l : List UInt8) (e0 : Int) (w : World) (h : Rdr w R l e0) (h2 : 2 ≤ l.length) (n : Nat) (hn : n = va (l.take 2)) (hk : 8 * n ≤ l.length - 2) :
    Calls Try.prog 25 #[.pointer (some ⟨R, 0, none⟩)] w fun e w' => ∃ v, e = .returned v ∧ Rd w' v (nums n (l.drop 2) |>.map (Value.int .i64)) ∧ w.grownBy w' (some R) ∧ Rdr w' R (l.drop (2 + 8 * n)) e0 ∧ ∀ g, v.ownBlock = some g → w.heap.size ≤ g := by
  have H := Lib.hid h
  have hv : n < 65536 := by
    have hv := va_lt (l.take 2)
    have hl2 : (l.take 2).length = 2 := by simp; omega
    rw [hl2] at hv
    rw [hn]
    exact hv
  have hRlt : R < w.heap.size := by obtain ⟨_, h1, _⟩ := h; exact h1.lt
  clear h
  have HN := Lib.hid hn
  clear hn
  obtain ⟨j0, ji, jz0, jz1, jz2⟩ := info_parts Try.infoInt
  have hmk : ∀ W : World, (Instr.makeSlice 22 (.int .i64 (n : Int)) (.int .i64 (n : Int))).run Try.prog W = .ok (.slice (some ⟨W.heap.size, 0, none⟩) n n) (W.alloc (.cells (madeCells #[.int .i64 0] n) 3)) := by
    intro W
    have := run_make (P := Try.prog) W 22 3 j0 (.int .i64 0) Try.underlying22 ji jz0 .i64 .i64 (n : Int) (n : Int) (by omega) (by omega) (by rw [jz2]; omega) (by omega)
    rw [this, jz1]
    simp [Value.cells]
  go_enter Try.func25, Try.ntmps25
  go_wp2_with fail
  refine (count_ok R l e0 _ H.out h2).mono ?_
  rintro e w1 ⟨rfl, hg1, hR⟩
  rw [← HN.out]
  have HR := Lib.hid hR
  have HG1 := Lib.hid hg1
  clear hR hg1
  go_wp2_with fail
  refine (take_sum R _ e0 _ n _ (by rfl) HR.out (by rw [List.length_drop]; exact hk)).mono ?_
  rintro e w2 ⟨v2, rfl, hr2, hg2, hR2⟩
  have hl2 : ((l.drop 2).take (8 * n)).length = 8 * n := by rw [List.length_take, List.length_drop]; omega
  obtain ⟨A2, c2, rfl, hc2, hm2⟩ := hr2.len
  rw [bvs_length, hl2] at hc2 hr2 ⊢
  have hl2' := Lib.hid hl2
  clear hl2
  have HR2 := Lib.hid hr2
  have HRR := Lib.hid hR2
  have HG2 := Lib.hid (HG1.out.trans hg2)
  clear hr2 hR2 hg2
  have HH0 := Lib.hid (show (w2.alloc (.cells (madeCells #[.int .i64 0] n) 3)).heap[w2.heap.size]? = some (.cells (part n 0 (l.drop 2)).toArray 3 (0, 0)) by
    rw [heap_alloc_new]
    congr 2
    apply Array.ext'
    rw [toList_madeCells_one]
    simp [part, nums])
  have HE0 := Lib.hid (show Ext w2 (w2.alloc (.cells (madeCells #[.int .i64 0] n) 3)) from (Below.refl _ _).alloc (Nat.le_refl _) _)
  go_wp2
  go_loopw [5, 17] (fun _ i wr => ∃ k : Nat, k ≤ n ∧ i = .int .i64 k ∧ wr.heap[w2.heap.size]? = some (.cells (part n k (l.drop 2)).toArray 3 (0, 0)) ∧ Ext w2 wr) (fun _ i _ => n - (intOf i).toNat)
  case atStart => exact ⟨0, Nat.zero_le _, rfl, HH0.out, HE0.out⟩
  case round =>
    obtain ⟨k, hk', rfl, hh, hx⟩ := hrel
    by_cases hlt : k < n
    · obtain ⟨a, rfl⟩ := Rd.some_ HR2.out (by omega)
      have hlt' : k < (part n k (l.drop 2)).length := by rw [part_length _ hk']; exact hlt
      have hc0 : wr.cell? ⟨w2.heap.size, k, none⟩ = some ((part n k (l.drop 2))[k]) := by
        rw [cell_of_row wr w2.heap.size k _ 3 (0, 0) hh]
        simp [hlt']
      have hf0 : wr.frozen? ⟨w2.heap.size, k, none⟩ = false := by simp [World.frozen?, hh]
      have HS := Lib.hid (show ∀ x, (wr.setCell ⟨w2.heap.size, k, none⟩ x).heap[w2.heap.size]? = some (.cells ((part n k (l.drop 2)).set k x).toArray 3 (0, 0)) by
        intro x
        simp [World.setCell, Array.getElem?_modify, hh])
      have HX3 := Lib.hid (show ∀ x, Ext w2 (wr.setCell ⟨w2.heap.size, k, none⟩ x) from fun x => Below.setCell hx (Nat.le_refl _) x)
      have HRV := Lib.hid (((HR2.out.ext hx).back (k := 8 * k) (by omega)).front (k := 8) (by omega))
      have HXr := Lib.hid hx
      generalize (part n k (l.drop 2))[k] = old at *
      have hck : ¬ c2 = 8 * k := by omega
      clear hh hx hlt'
      go_wp2_with fail
      rw [show 8 * (k + 1) - 8 * k = 8 from by omega]
      have hE8 : ((List.take (8 * n) (l.drop 2)).drop (8 * k)).take 8 = ((l.drop 2).drop (8 * k)).take 8 := by
        rw [List.drop_take, List.take_take, Nat.min_eq_left (by omega)]
      have hrv := HRV.out
      rw [bvs_drop, bvs_take, hE8] at hrv
      refine (value_any _ _ wr hrv (by rw [List.length_take]; omega)).mono ?_
      rintro e w3 ⟨rfl, rfl⟩
      clear hE8 hrv
      have HP := Lib.hid (show (part n k (l.drop 2)).set k (.int .i64 (num ((l.drop (2 + 8 * k)).take 8))) = part n (k + 1) (l.drop 2) by
        have := part_set (l.drop 2) hlt
        rw [List.drop_drop] at this
        exact this)
      go_wp2
      go_roundw
      case rel => exact ⟨k + 1, by omega, by go_num, by rw [← HP.out]; exact HS.out _, HX3.out _⟩
      case measure => simp [intOf]; omega
    · have hkn : k = n := by omega
      have HKN := Lib.hid hkn
      clear hkn
      have HXr := Lib.hid hx
      have HHr := Lib.hid hh
      clear hx hh
      go_wp2
      go_ret
      refine ⟨.slice (some ⟨w2.heap.size, 0, none⟩) n n, rfl, ?_, HG2.out.trans (grown_of_ext HXr.out _), ?_, fun g hg => by injection hg with hg; have := HG2.out.size; simp only at hg; omega⟩
      · have hp : part n k (l.drop 2) = (nums n (l.drop 2)).map (Value.int .i64) := by rw [HKN.out]; simp [part]
        have hh := HHr.out
        rw [hp] at hh
        refine ⟨some ⟨w2.heap.size, 0, none⟩, n, by rw [List.length_map, nums_length], by rw [List.length_map, nums_length]; exact Nat.le_refl _, by simp [maxLen]; omega, fun _ => ⟨_, rfl, (Array.getElem?_eq_some_iff.1 hh).1, ?_⟩⟩
        exact World.news_of_block (cs := ((nums n (l.drop 2)).map (Value.int .i64)).toArray) hh
      · have := HRR.out.ext HXr.out
        rw [List.drop_drop] at this
        exact this

/-- What Ints reads, and what is left. -/
theorem Ints_ok (R : Nat) (l : List UInt8) (e0 : Int) (w : World) (h : Rdr w R l e0) (h2 : 2 ≤ l.length) (n : Nat) (hn : n = va (l.take 2)) (hk : 8 * n ≤ l.length - 2) :
    Calls Try.prog 12 #[.pointer (some ⟨R, 0, none⟩)] w fun e w' => ∃ v, e = .returned v ∧ Rd w' v ((nums n (l.drop 2)).map (Value.int .i64)) ∧ w.grownBy w' (some R) ∧ Rdr w' R (l.drop (2 + 8 * n)) e0 ∧ ∀ g, v.ownBlock = some g → w.heap.size ≤ g := by
  have hmf : ∀ (fn : Fn) (first cap : Array Value) (w : World), (Instr.makeFunc fn first cap).run Try.prog w = .ok (.func fn first cap) w := fun _ _ _ _ => rfl
  have hx := (Below.refl w.heap.size w).alloc (Nat.le_refl _) (.cells #[.pointer (some ⟨R, 0, none⟩)] 30)
  have H := Lib.hid (Rdr.ext h hx)
  have hRlt : R < w.heap.size := by obtain ⟨_, h1, _⟩ := h; exact h1.lt
  clear h hx
  go_enter_defers Try.func12, Try.ntmps12
  go_wp2_with fail
  refine (numbers_ok R l e0 _ H.out h2 n hn hk).mono ?_
  rintro e w1 ⟨v1, rfl, hr1, hg, hR, hnew⟩
  have HNW := Lib.hid hnew
  clear hnew
  have HG := Lib.hid (grown_alloc_then hg)
  have HR := Lib.hid hR
  have H1 := Lib.hid hr1
  have hB := box_far hg hRlt
  clear hg hR hr1
  go_wp2
  refine leaves_cons (f := 24) (args := #[.pointer (some ⟨w.heap.size, 0, none⟩)]) (by simp) (by simp [go_sem]) ?_
  refine (idle_Ints _ R _ hB).mono ?_
  rintro e u' w2 ⟨rfl, rfl, hx⟩
  exact ⟨_, results_tmp rfl _ _ _, v1, rfl, H1.out.ext hx, HG.out.trans (grown_of_ext hx _), HR.out.ext hx, fun g hg => by have := HNW.out g hg; simp at this; omega⟩

theorem Ints_cut (R : Nat) (l : List UInt8) (e0 : Int) (w : World) (h : Rdr w R l e0) (hk : l.length < 2 ∨ l.length - 2 < 8 * va (l.take 2)) :
    Calls Try.prog 12 #[.pointer (some ⟨R, 0, none⟩)] w fun e w' => e = .returned (.slice none 0 0) ∧ w.grownBy w' (some R) ∧ Rdr w' R [] (cutE e0) := by
  have hmf : ∀ (fn : Fn) (first cap : Array Value) (w : World), (Instr.makeFunc fn first cap).run Try.prog w = .ok (.func fn first cap) w := fun _ _ _ _ => rfl
  have hx := (Below.refl w.heap.size w).alloc (Nat.le_refl _) (.cells #[.pointer (some ⟨R, 0, none⟩)] 30)
  have H := Lib.hid (Rdr.ext h hx)
  have hRlt : R < w.heap.size := by obtain ⟨_, h1, _⟩ := h; exact h1.lt
  clear h hx
  have hk := Lib.hid hk
  go_enter_defers Try.func12, Try.ntmps12
  go_wp2_with fail
  refine (numbers_cut R l e0 _ H.out hk.out).mono ?_
  rintro e w1 ⟨rfl, hg1, l', hR1⟩
  have hB := box_far hg1 hRlt
  refine leaves_cons (f := 24) (args := #[.pointer (some ⟨w.heap.size, 0, none⟩)]) (by simp) (by simp [go_sem]) ?_
  refine (caught_Ints _ R l' e0 _ hB hR1).mono ?_
  rintro e u' w2 ⟨rfl, rfl, hg, hR⟩
  have HG := (grown_alloc_then hg1).trans hg
  simp [Leaves, settle, results, Try.results12, go_sem]
  exact ⟨HG, hR⟩

end Go.Proofs.Ytnkhobdpiifaaaa
