/- dispatchlaw7.known, within. -/
import Derived.Test.YtflbhnckhbcboaaLeastR
import Derived.Test.YtflbhnckhbcboaaNewS
namespace Go.Proofs.Ytflbhnckhbcboaa
open Go.RowKit

def newQ : List QD := [⟨rootT, [(10000, 10000)], 10000⟩]
theorem NewAt.qat {g : Nat} {w : World} (h : NewAt g w) : QAt w (newSV g).vq newQ := by
  refine ⟨some ⟨g + 1 + 1 + 1, 0, none⟩, 1, rfl, Nat.le_refl _, by simp [maxLen], fun _ => ⟨_, rfl, (Array.getElem?_eq_some_iff.1 h.queue).1, fun k hk => ?_⟩⟩
  obtain rfl : k = 0 := by simp [newQ] at hk; omega
  refine ⟨⟨#[114, 111, 111, 116]⟩, some ⟨g + 1 + 1, 0, none⟩, 1, bcel h.queue 0 _ rfl, bcel h.queue 1 _ rfl, bcel h.queue 2 _ rfl, rfl, ?_⟩
  refine ⟨_, 1, rfl, Nat.le_refl _, by simp [maxLen], rfl, fun _ => ⟨⟨g + 1 + 1, 0, none⟩, rfl, (Array.getElem?_eq_some_iff.1 h.caps).1, fun j u hu => ?_⟩⟩
  have hj := (List.getElem?_eq_some_iff.1 hu).1
  have hadd : (⟨g + 1 + 1, 0, none⟩ : Addr).add j = ⟨g + 1 + 1, j, none⟩ := by unfold Addr.add; split <;> simp_all
  rw [hadd]
  refine bcel h.caps j u ?_
  rw [← hu]
  simp [newQ, capCells] at hj ⊢
theorem newQ_len : ∀ q ∈ newQ, q.path.length ≤ 1000000000 := by decide
theorem newQ_caps : ∀ q ∈ newQ, 1 ≤ q.caps.length ∧ q.caps.length ≤ 1000 := by decide
theorem NewAt.port {g : Nat} {w : World} (h : NewAt g w) {vn : Value} {ds : List ND} (hn : Hd w vn ds.length (ncells ds)) (hl : ds.length ≤ 1000) {vl vp va vc vs : Value} {nw ep sq : Int} : PortOk w ⟨vl, (newSV g).vq, vn, va, vc, vs, vp, nw, ep, sq⟩ ds newQ :=
  ⟨hn, hl, h.qat, by decide, newQ_len, newQ_caps⟩

set_option maxRecDepth 100000 in
set_option maxHeartbeats 4000000 in
theorem known7_any (w : World) : Calls Try.prog 5 #[] w fun e w' => e = .returned (.bool true) ∧ Ext w w' := by
  go_enter Try.func5, Try.ntmps5
  go_wp2_with fail
  (with_reducible refine (New_any _).mono ?_)
  rintro e w1 ⟨rfl, hnew, hsz, hx1⟩
  have HNEW := Lib.hid hnew
  have X1 := Lib.hid hx1
  obtain ⟨g, hg⟩ : ∃ g, g = w.heap.size := ⟨_, rfl⟩
  rw [← hg] at HNEW ⊢
  clear hnew hx1 hsz hg
  unfold newSV
  simp only [SV.val]
  go_wp2_with fail
  obtain ⟨W3, hW3⟩ : ∃ W3, W3 = ((w1.alloc (.cells #[.slice (some ⟨g + 1, 0, none⟩) 1 1, .slice (some ⟨g + 1 + 1 + 1, 0, none⟩) 1 1, .slice none 0 0, .slice none 0 0, .slice none 0 0, .slice none 0 0, .slice none 0 0, .int .i64 0, .int .i64 0, .int .i64 0] 36)).alloc (.cells #[.slice (some ⟨g + 1, 0, none⟩) 1 1, .slice (some ⟨g + 1 + 1 + 1, 0, none⟩) 1 1, .slice (some ⟨w1.heap.size + 1 + 1, 0, none⟩) 1 1, .slice none 0 0, .slice none 0 0, .slice none 0 0, .slice none 0 0, .int .i64 0, .int .i64 0, .int .i64 0] 36)).alloc (.cells #[.int .i64 0, .int .i64 0, .int .i64 0, .int .i64 8, .int .i64 4, .int .i64 0, .int .i64 0, .bool true] 48) := ⟨_, rfl⟩
  rw [← hW3]
  have HX3 := Lib.hid (show Ext w1 W3 by rw [hW3]; exact ((ext_alloc _ _).trans (ext_alloc _ _)).trans (ext_alloc _ _))
  have HS := Lib.hid (show W3.heap[w1.heap.size]? = some (.cells #[.slice (some ⟨g + 1, 0, none⟩) 1 1, .slice (some ⟨g + 1 + 1 + 1, 0, none⟩) 1 1, .slice none 0 0, .slice none 0 0, .slice none 0 0, .slice none 0 0, .slice none 0 0, .int .i64 0, .int .i64 0, .int .i64 0] 36 (0, 0)) by rw [hW3]; exact ext_blk ((ext_alloc _ _).trans (ext_alloc _ _)) (heap_alloc_new w1 _))
  have HT := Lib.hid (show W3.heap[w1.heap.size + 1]? = some (.cells #[.slice (some ⟨g + 1, 0, none⟩) 1 1, .slice (some ⟨g + 1 + 1 + 1, 0, none⟩) 1 1, .slice (some ⟨w1.heap.size + 1 + 1, 0, none⟩) 1 1, .slice none 0 0, .slice none 0 0, .slice none 0 0, .slice none 0 0, .int .i64 0, .int .i64 0, .int .i64 0] 36 (0, 0)) by rw [hW3]; exact ext_blk (ext_alloc _ _) (alloc_at (by simp)))
  have HN := Lib.hid (show W3.heap[w1.heap.size + 1 + 1]? = some (.cells #[.int .i64 0, .int .i64 0, .int .i64 0, .int .i64 8, .int .i64 4, .int .i64 0, .int .i64 0, .bool true] 48 (0, 0)) by rw [hW3]; exact alloc_at (by simp))
  have HNH := Lib.hid (show Hd W3 (.slice (some ⟨w1.heap.size + 1 + 1, 0, none⟩) 1 1) 1 (ncells [⟨0, 0, 0, 8, 4, 0, 0, true⟩]) from
    ⟨_, 1, rfl, Nat.le_refl _, by simp [maxLen], fun _ => ⟨_, rfl, (Array.getElem?_eq_some_iff.1 HN.out).1, fun j u hu => bcel HN.out j u (by rw [← hu, ← Array.getElem?_toList]; rfl)⟩⟩)
  clear hW3
  (refine (Total_any ⟨.slice (some ⟨g + 1, 0, none⟩) 1 1, .slice (some ⟨g + 1 + 1 + 1, 0, none⟩) 1 1, .slice none 0 0, .slice none 0 0, .slice none 0 0, .slice none 0 0, .slice none 0 0, 0, 0, 0⟩ [] 0 W3 (Hd.nil _) (by decide)).mono ?_)
  rintro e w4 ⟨rfl, hx4⟩
  have hz : vecV (totV 0 []) = .agg #[.int .i64 0, .int .i64 0] := rfl
  rw [hz]
  clear hz
  have HX4 := Lib.hid hx4
  have hs4 := ext_blk hx4 HS.out
  have a0 := bcel hs4 0 (.slice (some ⟨g + 1, 0, none⟩) 1 1) rfl
  have a1 := bcel hs4 1 (.slice (some ⟨g + 1 + 1 + 1, 0, none⟩) 1 1) rfl
  have a2 := bcel hs4 2 (.slice none 0 0) rfl
  have a3 := bcel hs4 3 (.slice none 0 0) rfl
  have a4 := bcel hs4 4 (.slice none 0 0) rfl
  have a5 := bcel hs4 5 (.slice none 0 0) rfl
  have a6 := bcel hs4 6 (.slice none 0 0) rfl
  have a7 := bcel hs4 7 (.int .i64 0) rfl
  have a8 := bcel hs4 8 (.int .i64 0) rfl
  have a9 := bcel hs4 9 (.int .i64 0) rfl
  clear hs4 hx4
  go_wp2_with fail
  (refine (Least_root ⟨.slice (some ⟨g + 1, 0, none⟩) 1 1, .slice (some ⟨g + 1 + 1 + 1, 0, none⟩) 1 1, .slice none 0 0, .slice none 0 0, .slice none 0 0, .slice none 0 0, .slice none 0 0, 0, 0, 0⟩ [] newQ ⟨#[114, 111, 111, 116]⟩ 0 w4 ((HNEW.out.ext (HX3.out.trans HX4.out)).port (Hd.nil _) (by decide)) rfl (by decide)).mono ?_)
  rintro e w5 ⟨rfl, hx5⟩
  have hz : vecV (totV 0 []) = .agg #[.int .i64 0, .int .i64 0] := rfl
  rw [hz]
  clear hz a0 a1 a2 a3 a4 a5 a6 a7 a8 a9
  have HX5 := Lib.hid (HX4.out.trans hx5)
  have ht5 := ext_blk HX5.out HT.out
  have b0 := bcel ht5 0 (.slice (some ⟨g + 1, 0, none⟩) 1 1) rfl
  have b1 := bcel ht5 1 (.slice (some ⟨g + 1 + 1 + 1, 0, none⟩) 1 1) rfl
  have b2 := bcel ht5 2 (.slice (some ⟨w1.heap.size + 1 + 1, 0, none⟩) 1 1) rfl
  have b3 := bcel ht5 3 (.slice none 0 0) rfl
  have b4 := bcel ht5 4 (.slice none 0 0) rfl
  have b5 := bcel ht5 5 (.slice none 0 0) rfl
  have b6 := bcel ht5 6 (.slice none 0 0) rfl
  have b7 := bcel ht5 7 (.int .i64 0) rfl
  have b8 := bcel ht5 8 (.int .i64 0) rfl
  have b9 := bcel ht5 9 (.int .i64 0) rfl
  clear ht5 hx5
  go_wp2_with fail
  (refine (Most_root ⟨.slice (some ⟨g + 1, 0, none⟩) 1 1, .slice (some ⟨g + 1 + 1 + 1, 0, none⟩) 1 1, .slice (some ⟨w1.heap.size + 1 + 1, 0, none⟩) 1 1, .slice none 0 0, .slice none 0 0, .slice none 0 0, .slice none 0 0, 0, 0, 0⟩ [⟨0, 0, 0, 8, 4, 0, 0, true⟩] newQ ⟨#[114, 111, 111, 116]⟩ 0 w5 ((HNEW.out.ext (HX3.out.trans HX5.out)).port (HNH.out.ext HX5.out) (by decide)) rfl (by decide)).mono ?_)
  rintro e w6 ⟨rfl, hx6⟩
  have hz : vecV (totV 0 [⟨0, 0, 0, 8, 4, 0, 0, true⟩]) = .agg #[.int .i64 8, .int .i64 4] := by rw [show totV 0 [⟨0, 0, 0, 8, 4, 0, 0, true⟩] = (8, 4) by decide +kernel]; rfl
  rw [hz]
  clear hz
  have HX6 := Lib.hid (X1.out.trans (HX3.out.trans (HX5.out.trans hx6)))
  clear hx6
  go_wp2
  go_ret
  exact ⟨rfl, HX6.out⟩
theorem within7_any (a n : Int) (w : World) (hn : 0 < n ∧ n ≤ 1125899906842625) :
    Calls Try.prog 7 #[.int .i64 a, .int .i64 n] w fun e w' => e = .returned (.int .i64 (a % n)) ∧ w = w' := by
  obtain ⟨n0, n1⟩ := hn
  have hz : (n == 0) = false := by simp; omega
  have l1 : a.tmod n < n := Int.tmod_lt_of_pos a n0
  have l2 : -n < a.tmod n := by have := Int.lt_tmod_of_pos a n0; omega
  by_cases hneg : a.tmod n < 0
  · rw [emod_neg n0 hneg]
    go_enter Try.func7, Try.ntmps7
    go_wp2
    go_ret
    exact ⟨rfl, rfl⟩
  · rw [emod_pos n0 hneg]
    go_enter Try.func7, Try.ntmps7
    go_wp2
    go_ret
    exact ⟨rfl, rfl⟩
theorem within7_some (a : Int) (n : Nat) (m : Int) (w : World) (hm : m = (n : Int)) (hn : 0 < n ∧ n ≤ 1125899906842625) :
    Calls Try.prog 7 #[.int .i64 a, .int .i64 m] w fun e w' => ∃ y : Nat, e = .returned (.int .i64 (y : Int)) ∧ (y : Int) = a % (n : Int) ∧ y < n ∧ w = w' := by
  subst hm
  refine (within7_any a n w ⟨by omega, by omega⟩).mono ?_
  rintro e w' ⟨rfl, rfl⟩
  have h0 := Int.emod_nonneg a (show (n : Int) ≠ 0 by omega)
  have h1 := Int.emod_lt_of_pos a (show (0 : Int) < n by omega)
  refine ⟨(a % (n : Int)).toNat, ?_, by omega, by omega, rfl⟩
  rw [show (((a % (n : Int)).toNat : Nat) : Int) = a % (n : Int) from by omega]
end Go.Proofs.Ytflbhnckhbcboaa
