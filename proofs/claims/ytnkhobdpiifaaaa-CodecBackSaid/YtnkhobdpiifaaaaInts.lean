/- codec.Ints. -/
import Derived.Test.YtnkhobdpiifaaaaText
namespace Go.Proofs.Ytnkhobdpiifaaaa
open Go.RowKit

def ivs (l : List Int) : List Value := l.map (Value.int .i64)
theorem ivs_length (l : List Int) : (ivs l).length = l.length := by simp [ivs]
/-- The numbers, one behind the other. -/
def eNums (l : List Int) : List UInt8 := l.flatMap eInt
theorem eNums_length (l : List Int) : (eNums l).length = 8 * l.length := by
  induction l with
  | nil => rfl
  | cons x l ih => simp only [eNums, List.flatMap_cons, List.length_append, eInt_length, List.length_cons] at ih ⊢; omega
theorem eNums_snoc (l : List Int) (x : Int) : eNums (l ++ [x]) = eNums l ++ eInt x := by simp [eNums]
theorem take_snocI (l : List Int) (k : Nat) (h : k < l.length) : l.take (k + 1) = l.take k ++ [l[k]] := by rw [List.take_succ_eq_append_getElem h]

set_option maxHeartbeats 800000 in
theorem Ints_short (v u : Value) (b : List UInt8) (l : List Int) (w : World) (hr : Rd w v (bvs b)) (hu : Rd w u (ivs l)) (hn : b.length + 600000 ≤ 140737488355328) (hl : l.length ≤ 65535) :
    Calls Try.prog 7 #[v, u] w (Made (b.length + 2 + 8 * l.length) (bvs (b ++ be l.length 2 ++ eNums l)) w) := by
  have hr := Lib.hid hr
  obtain ⟨A, c, rfl, hc1, hc2, hcell⟩ := hu
  rw [ivs_length] at *
  unfold maxLen at hc2
  have hcell := Lib.hid hcell
  go_enter Try.func7, Try.ntmps7
  go_wp2_with fail
  refine (copied_as v (bvs b) _ (2 + 8 * l.length) _ (by omega) hr.out bvs_one (by rw [bvs_length]; omega)).mono ?_
  rintro e w1 hM
  obtain ⟨v1, rfl, ho1, hx1⟩ := hM
  rw [bvs_length] at ho1
  go_wp2_with fail
  refine (putCount_as _ _ l.length (by rfl) (by omega) b.length w.heap.size (bvs b) _ ho1 (by omega) hx1.size).mono ?_
  rintro e w2 hG
  have hM := made_grew ho1 hx1 hG
  obtain ⟨v2, rfl, ho2, hx2⟩ := hM
  clear hG hx1 ho1
  have hx2' := hx2.size
  go_wp2
  go_loopw [5, 24] (fun o i wr => ∃ k : Nat, k ≤ l.length ∧ i = .int .i64 k ∧ wr.ownsRow w.heap.size 5 1 o (b.length + 2 + 8 * k) (bvs (b ++ be l.length 2 ++ eNums (l.take k))) ∧ Ext w wr) (fun _ i _ => l.length - (intOf i).toNat)
  case atStart => exact ⟨0, Nat.zero_le _, rfl, by simpa [eNums, bvs_append] using ho2, hx2⟩
  case round =>
    obtain ⟨k, hk, rfl, hown, hx⟩ := hrel
    have hxs := hx.size
    by_cases hlt : k < l.length
    · obtain ⟨a, rfl, hb, hcs⟩ := hcell.out (by omega)
      have h0 : wr.cell? (a.add k) = some (.int .i64 l[k]) := (Below.cell hx (p := a.add k) (by rw [add_block]; exact hb)).trans (hcs k (.int .i64 l[k]) (by simp [ivs, hlt]))
      clear hcs
      have HT := Lib.hid (take_snocI l k hlt)
      go_wp2_with fail
      refine (putInt_any _ l[k] (b.length + 2 + 8 * k) w.heap.size _ _ hown (by omega) hxs).mono ?_
      rintro e w3 hG
      have hM := made_grew hown hx hG
      obtain ⟨v3, rfl, ho3, hx3⟩ := hM
      clear hG hx hown h0
      go_wp2
      go_roundw
      case rel => exact ⟨k + 1, by omega, by go_num, by rw [HT.out, eNums_snoc, ← List.append_assoc, bvs_append]; exact ho3, hx3⟩
      case measure => simp [intOf]; omega
    · have hkl : k = l.length := by omega
      have HK := Lib.hid hkl
      clear hkl
      go_wp2
      go_ret
      exact ⟨_, rfl, by rw [HK.out] at hown; simpa using hown, hx⟩

set_option maxHeartbeats 800000 in
theorem Ints_long (v u : Value) (b : List UInt8) (l : List Int) (w : World) (hr : Rd w v (bvs b)) (hu : Rd w u (ivs l)) (hn : b.length + 600000 ≤ 140737488355328) (hl : 65535 < l.length) (m : Nat) (h65 : m = 65535) :
    Calls Try.prog 7 #[v, u] w (Made (b.length + 2 + 8 * m) (bvs (b ++ be m 2 ++ eNums (l.take m))) w) := by
  have hr := Lib.hid hr
  obtain ⟨A, c, rfl, hc1, hc2, hcell⟩ := hu
  rw [ivs_length] at *
  unfold maxLen at hc2
  obtain ⟨a, rfl, hb, hcs⟩ := hcell (by omega)
  clear hcell
  have h1 : m ≤ 65535 := by omega
  have h2 : 65535 ≤ m := by omega
  clear h65
  have hb := Lib.hid hb
  have hcs := Lib.hid hcs
  go_enter Try.func7, Try.ntmps7
  go_wp2_with fail
  refine (copied_as v (bvs b) _ (2 + 8 * m) _ (by omega) hr.out bvs_one (by rw [bvs_length]; omega)).mono ?_
  rintro e w1 hM
  obtain ⟨v1, rfl, ho1, hx1⟩ := hM
  rw [bvs_length] at ho1
  go_wp2_with fail
  refine (putCount_as _ _ m (by omega) (by omega) b.length w.heap.size (bvs b) _ ho1 (by omega) hx1.size).mono ?_
  rintro e w2 hG
  have hM := made_grew ho1 hx1 hG
  obtain ⟨v2, rfl, ho2, hx2⟩ := hM
  clear hG hx1 ho1
  have hx2' := hx2.size
  go_wp2
  go_loopw [5, 24] (fun o i wr => ∃ k : Nat, k ≤ m ∧ i = .int .i64 k ∧ wr.ownsRow w.heap.size 5 1 o (b.length + 2 + 8 * k) (bvs (b ++ be m 2 ++ eNums (l.take k))) ∧ Ext w wr) (fun _ i _ => m - (intOf i).toNat)
  case atStart => exact ⟨0, Nat.zero_le _, rfl, by simpa [eNums, bvs_append] using ho2, hx2⟩
  case round =>
    obtain ⟨k, hk, rfl, hown, hx⟩ := hrel
    have hxs := hx.size
    by_cases hlt : k < m
    · have hlt' : k < l.length := by omega
      have hki : (k : Int) < 65535 := by omega
      have h0 : wr.cell? (a.add k) = some (.int .i64 l[k]) := (Below.cell hx (p := a.add k) (by rw [add_block]; exact hb.out)).trans (hcs.out k (.int .i64 l[k]) (by simp [ivs, hlt']))
      have HT := Lib.hid (take_snocI l k hlt')
      go_wp2_with fail
      refine (putInt_any _ l[k] (b.length + 2 + 8 * k) w.heap.size _ _ hown (by omega) hxs).mono ?_
      rintro e w3 hG
      have hM := made_grew hown hx hG
      obtain ⟨v3, rfl, ho3, hx3⟩ := hM
      clear hG hx hown h0
      go_wp2
      go_roundw
      case rel => exact ⟨k + 1, by omega, by go_num, by rw [HT.out, eNums_snoc, ← List.append_assoc, bvs_append]; exact ho3, hx3⟩
      case measure => simp [intOf]; omega
    · have hki : ¬ (k : Int) < 65535 := by omega
      have hkl : k = m := by omega
      have HK := Lib.hid hkl
      clear hkl
      go_wp2
      go_ret
      exact ⟨_, rfl, by rw [HK.out] at hown; simpa using hown, hx⟩

end Go.Proofs.Ytnkhobdpiifaaaa
