/- dispatchlaw8: within, known. -/
import Derived.Test.YtffioglbgnbieaaNdFree
import Derived.Test.YtffioglbgnbieaaNewM
namespace Go.Proofs.Ytffioglbgnbieaa
open Go.RowKit

theorem within8_any (a n : Int) (w : World) (hn : 0 < n ∧ n ≤ 1125899906842625) :
    Calls Try.prog 9 #[.int .i64 a, .int .i64 n] w fun e w' => e = .returned (.int .i64 (a % n)) ∧ w = w' := by
  obtain ⟨n0, n1⟩ := hn
  have hz : (n == 0) = false := by simp; omega
  have l1 : a.tmod n < n := Int.tmod_lt_of_pos a n0
  have l2 : -n < a.tmod n := by have := Int.lt_tmod_of_pos a n0; omega
  by_cases hneg : a.tmod n < 0
  · rw [emod_neg n0 hneg]
    go_enter Try.func9, Try.ntmps9
    go_wp2
    go_ret
    exact ⟨rfl, rfl⟩
  · rw [emod_pos n0 hneg]
    go_enter Try.func9, Try.ntmps9
    go_wp2
    go_ret
    exact ⟨rfl, rfl⟩
theorem within8_some (a : Int) (n : Nat) (m : Int) (w : World) (hm : m = (n : Int)) (hn : 0 < n ∧ n ≤ 1125899906842625) :
    Calls Try.prog 9 #[.int .i64 a, .int .i64 m] w fun e w' => ∃ y : Nat, e = .returned (.int .i64 (y : Int)) ∧ (y : Int) = a % (n : Int) ∧ y < n ∧ w = w' := by
  subst hm
  refine (within8_any a n w ⟨by omega, by omega⟩).mono ?_
  rintro e w' ⟨rfl, rfl⟩
  have h0 := Int.emod_nonneg a (show (n : Int) ≠ 0 by omega)
  have h1 := Int.emod_lt_of_pos a (show (0 : Int) < n by omega)
  refine ⟨(a % (n : Int)).toNat, ?_, by omega, by omega, rfl⟩
  rw [show (((a % (n : Int)).toNat : Nat) : Int) = a % (n : Int) from by omega]

/-- What a new state says. -/
def newD (ds : List ND) : StD := ⟨[⟨#[]⟩], [⟨[114, 111, 111, 116], [(10000, 10000)], 10000⟩], ds, 0, [], 0, [], 0, []⟩
theorem rdk_nil (k : Nat) (w : World) : RdK k w (.slice none 0 0) 0 [] := ⟨none, 0, rfl, Nat.le_refl _, by simp [maxLen], by simp, fun h => by simp at h⟩
theorem rdk_blk {w : World} {g k n : Nat} {cs : List Value} {t : TypeId} (h : w.heap[g]? = some (.cells cs.toArray t (0, 0))) (hl : cs.length = n * k) (hn : n ≤ 1000) : RdK k w (.slice (some ⟨g, 0, none⟩) n n) n cs :=
  ⟨_, n, rfl, Nat.le_refl _, by simp [maxLen]; omega, hl, fun _ => ⟨_, rfl, (Array.getElem?_eq_some_iff.1 h).1, fun j u hu => by rw [head_add, Nat.zero_add]; exact bcel h j u (by rw [List.getElem?_toArray]; exact hu)⟩⟩
theorem NewAt.rd {g : Nat} {w : World} {vn : Value} {ds : List ND} (h : NewAt g w) (hn : Hd w vn ds.length (ncells ds)) (nw ep sq : Int) :
    StRd w ⟨.slice (some ⟨g + 1, 0, none⟩) 1 1, .slice (some ⟨g + 1 + 1 + 1, 0, none⟩) 1 1, vn, .slice none 0 0, .slice none 0 0, .slice none 0 0, .slice none 0 0, nw, ep, sq⟩ (newD ds) where
  labs := rdk_blk (cs := [.string ⟨#[]⟩]) h.labs rfl (by omega)
  queues := ⟨[⟨⟨#[114, 111, 111, 116]⟩, some ⟨g + 1 + 1, 0, none⟩, 1, 1, 10000⟩], rdk_blk (cs := [.string ⟨#[114, 111, 111, 116]⟩, .slice (some ⟨g + 1 + 1, 0, none⟩) 1 1, .int .i64 10000]) h.queue rfl (by simp [newD]), rfl, fun k hk => by
    obtain rfl : k = 0 := by simp [newD] at hk; omega
    exact ⟨_, rfl, rfl, rfl, rdk_blk (cs := [.int .i64 10000, .int .i64 10000]) h.caps rfl (by simp [newD])⟩⟩
  nodes := hn
  apps := rdk_nil _ _
  conts := rdk_nil _ _
  slots := rdk_nil _ _
  plans := rdk_nil _ _
theorem newD_ok {ds : List ND} (h : ds.length ≤ 1000) : StOk (newD ds) where
  labs := ⟨by simp [newD], by intro x hx; simp [newD] at hx; subst hx; decide⟩
  queues := ⟨by simp [newD], by simp [newD]⟩
  nodes := h
  nc := ⟨by simp [newD], by simp [newD]⟩
  ns := ⟨by simp [newD], by simp [newD]⟩
  np := ⟨by simp [newD], by simp [newD]⟩

theorem StOwn.shapeN {w : World} {B : Nat} {s : SV} {ds : List ND} (h : StOwn w B s (newD ds)) : ∃ A0 c0 A1 c1 A2 c2 A3 c3 A4 c4 A5 c5 A6 c6, s = ⟨.slice A0 1 c0, .slice A1 1 c1, .slice A2 ds.length c2, .slice A3 0 c3, .slice A4 0 c4, .slice A5 0 c5, .slice A6 0 c6, s.now, s.ep, s.sq⟩ := h.shape

set_option maxRecDepth 100000 in
set_option maxHeartbeats 3200000 in
theorem known8_any (w : World) : Calls Try.prog 7 #[] w fun e w' => e = .returned (.bool true) ∧ Ext w w' := by
  go_enter Try.func7, Try.ntmps7
  go_wp2_with fail
  (with_reducible refine (New_any _).mono ?_)
  rintro e w1 ⟨rfl, hnew, _, hx1⟩
  have HR := Lib.hid (hnew.rd (show Hd w1 (.slice none 0 0) ([] : List ND).length (ncells []) from Hd.nil w1) 0 0 0)
  obtain ⟨g, hg⟩ : ∃ g, g = w.heap.size := ⟨_, rfl⟩
  have X1 := Lib.hid hx1
  unfold newSV
  rw [← hg] at HR ⊢
  clear hnew hx1 hg
  simp only [SV.val]
  go_wp2_with fail
  have hr := Register_any ⟨.slice (some ⟨g + 1, 0, none⟩) 1 1, .slice (some ⟨g + 1 + 1 + 1, 0, none⟩) 1 1, .slice none 0 0, .slice none 0 0, .slice none 0 0, .slice none 0 0, .slice none 0 0, 0, 0, 0⟩ (newD []) ⟨3, 0, 0, 8, 4, 0, 0, false⟩ w1 HR.out (newD_ok (by simp)) (by simp [newD])
  rw [show newE (newD []).nodes (newD []).labels.length ⟨3, 0, 0, 8, 4, 0, 0, false⟩ = 0 by decide +kernel] at hr
  simp only [SV.val, nodeV] at hr
  refine hr.mono ?_
  unfold RegPost
  rintro e w2 ⟨s, e1, e2, e3, rfl, ho, hx2⟩
  have hD : regD (newD []) ⟨3, 0, 0, 8, 4, 0, 0, false⟩ 0 0 = newD [⟨3, 0, 0, 8, 4, 0, 0, true⟩] := rfl
  rw [hD] at ho
  have HO := Lib.hid ho
  have X2 := Lib.hid (X1.out.trans hx2)
  obtain ⟨A0, c0, A1, c1, A2, c2, A3, c3, A4, c4, A5, c5, A6, c6, es⟩ := ho.shapeN
  rw [e1, e2, e3] at es
  subst es
  clear ho hx2 e1 e2 e3 hD hr HR
  simp only [SV.val, List.length_cons, List.length_nil, Nat.zero_add] at HO ⊢
  go_upto_region 2 with fail
  refine at_world (fun W3 hW3 => ?_)
  have HS := Lib.hid (show W3.heap[w2.heap.size]? = some (.cells #[.slice A0 1 c0, .slice A1 1 c1, .slice A2 1 c2, .slice A3 0 c3, .slice A4 0 c4, .slice A5 0 c5, .slice A6 0 c6, .int .i64 0, .int .i64 0, .int .i64 0] 34 (0, 0)) by rw [hW3]; exact heap_alloc_new w2 _)
  have E3 := Lib.hid (show Ext w2 W3 by rw [hW3]; exact ext_alloc _ _)
  have HR := Lib.hid (show StRd W3 ⟨.slice A0 1 c0, .slice A1 1 c1, .slice A2 1 c2, .slice A3 0 c3, .slice A4 0 c4, .slice A5 0 c5, .slice A6 0 c6, 0, 0, 0⟩ (newD [⟨3, 0, 0, 8, 4, 0, 0, true⟩]) from (HO.out.ext E3.out).rd)
  have X3 := Lib.hid (X2.out.trans E3.out)
  obtain ⟨S, hS⟩ : ∃ S, S = w2.heap.size := ⟨_, rfl⟩
  rw [← hS] at HS ⊢
  clear hW3 E3 HO hS
  have s0 := bcel HS.out 0 (.slice A0 1 c0) rfl
  have s1 := bcel HS.out 1 (.slice A1 1 c1) rfl
  have s2 := bcel HS.out 2 (.slice A2 1 c2) rfl
  have s3 := bcel HS.out 3 (.slice A3 0 c3) rfl
  have s4 := bcel HS.out 4 (.slice A4 0 c4) rfl
  have s5 := bcel HS.out 5 (.slice A5 0 c5) rfl
  have s6 := bcel HS.out 6 (.slice A6 0 c6) rfl
  have s7 := bcel HS.out 7 (.int .i64 0) rfl
  have s8 := bcel HS.out 8 (.int .i64 0) rfl
  have s9 := bcel HS.out 9 (.int .i64 0) rfl
  have hf := Find_any ⟨.slice A0 1 c0, .slice A1 1 c1, .slice A2 1 c2, .slice A3 0 c3, .slice A4 0 c4, .slice A5 0 c5, .slice A6 0 c6, 0, 0, 0⟩ [⟨3, 0, 0, 8, 4, 0, 0, true⟩] 3 W3 HR.out.nodes (by simp)
  rw [show getN [⟨3, 0, 0, 8, 4, 0, 0, true⟩] 3 = ⟨3, 0, 0, 8, 4, 0, 0, true⟩ from rfl, show hasN [⟨3, 0, 0, 8, 4, 0, 0, true⟩] 3 = true by decide +kernel] at hf
  simp only [SV.val, nodeV] at hf
  have HF := Lib.hid hf
  clear hf
  go_wp2_with fail
  (with_reducible refine (HF.out).mono ?_)
  rintro e w4 ⟨rfl, hx4⟩
  have X4 := Lib.hid (X3.out.trans hx4)
  have HS4 := Lib.hid (ext_blk hx4 HS.out)
  have HR4 := Lib.hid (HR.out.ext hx4)
  clear hx4 s0 s1 s2 s3 s4 s5 s6 s7 s8 s9 HS HR HF
  go_upto_region 3 with fail
  refine at_world (fun W5 hW5 => ?_)
  have HN := Lib.hid (show W5.heap[w4.heap.size]? = some (.cells #[.int .i64 3, .int .i64 0, .int .i64 0, .int .i64 8, .int .i64 4, .int .i64 0, .int .i64 0, .bool true] 44 (0, 0)) by rw [hW5]; exact heap_alloc_new w4 _)
  have E5 := Lib.hid (show Ext w4 W5 by rw [hW5]; exact ext_alloc _ _)
  obtain ⟨T, hT⟩ : ∃ T, T = w4.heap.size := ⟨_, rfl⟩
  rw [← hT] at HN ⊢
  have HS5 := Lib.hid (ext_blk E5.out HS4.out)
  have HR5 := Lib.hid (HR4.out.ext E5.out)
  have X5 := Lib.hid (X4.out.trans E5.out)
  clear hW5 hT HS4 HR4
  have s0 := bcel HS5.out 0 (.slice A0 1 c0) rfl
  have s1 := bcel HS5.out 1 (.slice A1 1 c1) rfl
  have s2 := bcel HS5.out 2 (.slice A2 1 c2) rfl
  have s3 := bcel HS5.out 3 (.slice A3 0 c3) rfl
  have s4 := bcel HS5.out 4 (.slice A4 0 c4) rfl
  have s5 := bcel HS5.out 5 (.slice A5 0 c5) rfl
  have s6 := bcel HS5.out 6 (.slice A6 0 c6) rfl
  have s7 := bcel HS5.out 7 (.int .i64 0) rfl
  have s8 := bcel HS5.out 8 (.int .i64 0) rfl
  have s9 := bcel HS5.out 9 (.int .i64 0) rfl
  have n6 := bcel HN.out 6 (.int .i64 0) rfl
  have n7 := bcel HN.out 7 (.bool true) rfl
  have hf := Free0_any ⟨.slice A0 1 c0, .slice A1 1 c1, .slice A2 1 c2, .slice A3 0 c3, .slice A4 0 c4, .slice A5 0 c5, .slice A6 0 c6, 0, 0, 0⟩ [⟨3, 0, 0, 8, 4, 0, 0, true⟩] 3 W5 HR5.out.nodes (by simp) HR5.out.conts (by simp)
  rw [show free0 [⟨3, 0, 0, 8, 4, 0, 0, true⟩] 3 = (8, 4) by decide +kernel] at hf
  simp only [SV.val, vecV] at hf
  have HF := Lib.hid hf
  clear hf
  go_wp2_with fail
  (with_reducible refine (HF.out).mono ?_)
  rintro e w6 ⟨rfl, hx6⟩
  have X6 := Lib.hid (X5.out.trans hx6)
  clear hx6 s0 s1 s2 s3 s4 s5 s6 s7 s8 s9 n6 n7 HS5 HR5 HF
  go_wp2
  go_ret
  exact ⟨rfl, X6.out⟩
end Go.Proofs.Ytffioglbgnbieaa
