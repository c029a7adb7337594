/- The law NodesStale holds at every input: a node's heartbeats are numbered one by one; an elder number is stale, one too far ahead is refused. No condition. -/
import Derived.Test.YtffioglbgnbieaaNdKnown
import Derived.Test.YtffioglbgnbieaaNdBeat
import Derived.Deep.CutRange
import Derived.ChangeSlices
import Derived.OpenShut
import Derived.ChangeOld
import Derived.ChangeSame
import Derived.ChangeMaps
import Derived.JoinedOf
import Derived.JoinedAt
import Derived.RowKit3
import Derived.Lib.SmallJoins
namespace Go.Proofs.Ytffioglbgnbieaa.NodesStale
open Go.ChangeShapes Go.WideShapes Go.ChangeAt Go.RowKit Go.Joins

theorem beatE1 (b x : Int) : beatE [⟨1, 0, 0, 0, 0, 0, b, true⟩] 1 x = errBeat true true x b := rfl
theorem beatD1 (b x E : Int) : beatD (newD [⟨1, 0, 0, 0, 0, 0, b, true⟩]) 1 x 0 E = newD [⟨1, 0, 0, 0, 0, 0, if E = 0 then x else b, true⟩] := by
  unfold beatD
  split <;> rfl
theorem beatE2 (b x : Int) : beatE [⟨1, 0, 0, 0, 0, 0, b, true⟩] 2 x = 2 := rfl
theorem beatD2 (b x : Int) : beatD (newD [⟨1, 0, 0, 0, 0, 0, b, true⟩]) 2 x 0 2 = newD [⟨1, 0, 0, 0, 0, 0, b, true⟩] := rfl

set_option maxRecDepth 100000 in
set_option maxHeartbeats 12800000 in
theorem walk (n : Int) (_ : (Lit.int .i64 n).wf = true) (x : Int) (hxw : (Lit.int .i64 x).wf = true) (w : World) :
    Calls Try.prog 4 #[.int .i64 n, .int .i64 x] w fun e w' => e = .returned (.bool true) ∧ Below w.heap.size w w' := by
  have hxb : -9223372036854775808 ≤ x ∧ x ≤ 9223372036854775807 := by simpa [Lit.wf, IntKind.min, IntKind.max, IntKind.signed, IntKind.bits] using hxw
  have HXB := Lib.hid hxb
  have HY := Lib.hid (fun W => within8_some n 20 20 W rfl (by omega))
  clear hxb hxw
  go_enter Try.func4, Try.ntmps4
  go_wp2_with fail
  (with_reducible refine (known8_any _).mono ?_)
  rintro e w1 ⟨rfl, hx⟩
  have X1 := Lib.hid hx
  clear hx
  go_wp2_with fail
  (with_reducible refine (HY.out _).mono ?_)
  rintro e w2 ⟨y, rfl, hy, hy1, rfl⟩
  clear hy HY
  go_wp2_with fail
  (with_reducible refine (New_any _).mono ?_)
  rintro e w2 ⟨rfl, hnew, hsz, hx⟩
  have X2 := Lib.hid (X1.out.trans hx)
  have HNEW := Lib.hid hnew
  obtain ⟨g, hg⟩ : ∃ g, g = w1.heap.size := ⟨_, rfl⟩
  unfold newSV
  rw [← hg] at HNEW ⊢
  clear hx hnew hg hsz
  simp only [SV.val]
  go_upto_region 5 with fail
  refine at_world (fun W3 hW3 => ?_)
  obtain ⟨S, hS⟩ : ∃ S, S = w2.heap.size := ⟨_, rfl⟩
  have HS := Lib.hid (show W3.heap[S]? = some (.cells #[.slice (some ⟨g + 1, 0, none⟩) 1 1, .slice (some ⟨g + 1 + 1 + 1, 0, none⟩) 1 1, .slice none 0 0, .slice none 0 0, .slice none 0 0, .slice none 0 0, .slice none 0 0, .int .i64 0, .int .i64 0, .int .i64 0] 34 (0, 0)) by rw [hW3, hS]; exact heap_alloc_new w2 _)
  have E3 := Lib.hid (show Ext w2 W3 by rw [hW3]; exact ext_alloc _ _)
  have X3 := Lib.hid (X2.out.trans E3.out)
  have HR := Lib.hid ((HNEW.out.ext E3.out).rd (show Hd W3 (.slice none 0 0) ([] : List ND).length (ncells []) from Hd.nil W3) 0 0 0)
  have HSW := Lib.hid (show w.heap.size ≤ S by rw [hS]; exact X2.out.size)
  have HSS := Lib.hid (show S < W3.heap.size from (Array.getElem?_eq_some_iff.1 HS.out).1)
  rw [← hS]
  clear hW3 hS E3 HNEW
  have s0 := bcel HS.out 0 (.slice (some ⟨g + 1, 0, none⟩) 1 1) rfl
  have s1 := bcel HS.out 1 (.slice (some ⟨g + 1 + 1 + 1, 0, none⟩) 1 1) rfl
  have s2 := bcel HS.out 2 (.slice none 0 0) rfl
  have s3 := bcel HS.out 3 (.slice none 0 0) rfl
  have s4 := bcel HS.out 4 (.slice none 0 0) rfl
  have s5 := bcel HS.out 5 (.slice none 0 0) rfl
  have s6 := bcel HS.out 6 (.slice none 0 0) rfl
  have s7 := bcel HS.out 7 (.int .i64 0) rfl
  have s8 := bcel HS.out 8 (.int .i64 0) rfl
  have s9 := bcel HS.out 9 (.int .i64 0) rfl
  have hr := Register_any ⟨.slice (some ⟨g + 1, 0, none⟩) 1 1, .slice (some ⟨g + 1 + 1 + 1, 0, none⟩) 1 1, .slice none 0 0, .slice none 0 0, .slice none 0 0, .slice none 0 0, .slice none 0 0, 0, 0, 0⟩ (newD []) ⟨1, 0, 0, 0, 0, 0, 0, false⟩ W3 HR.out (newD_ok (by simp)) (by simp [newD])
  rw [show newE (newD []).nodes (newD []).labels.length ⟨1, 0, 0, 0, 0, 0, 0, false⟩ = 0 by decide +kernel] at hr
  simp only [SV.val, nodeV] at hr
  have HF := Lib.hid hr
  clear hr
  go_wp2_with fail
  (with_reducible refine (HF.out).mono ?_)
  unfold RegPost
  rintro e w4 ⟨s, e1, e2, e3, rfl, ho, hx⟩
  have hD : regD (newD []) ⟨1, 0, 0, 0, 0, 0, 0, false⟩ 0 0 = newD [⟨1, 0, 0, 0, 0, 0, 0, true⟩] := rfl
  rw [hD] at ho
  obtain ⟨A10, c10, A11, c11, A12, c12, A13, c13, A14, c14, A15, c15, A16, c16, es⟩ := ho.shapeN
  rw [e1, e2, e3] at es
  subst es
  have HO := Lib.hid ho
  have HS4 := Lib.hid (ext_blk hx HS.out)
  have X4 := Lib.hid (X3.out.trans hx)
  clear ho hx e1 e2 e3 hD HF HR HS s0 s1 s2 s3 s4 s5 s6 s7 s8 s9
  simp only [SV.val, List.length_cons, List.length_nil, Nat.zero_add] at HO ⊢
  have s0 := bcel HS4.out 0 (.slice (some ⟨g + 1, 0, none⟩) 1 1) rfl
  have s1 := bcel HS4.out 1 (.slice (some ⟨g + 1 + 1 + 1, 0, none⟩) 1 1) rfl
  have s2 := bcel HS4.out 2 (.slice none 0 0) rfl
  have s3 := bcel HS4.out 3 (.slice none 0 0) rfl
  have s4 := bcel HS4.out 4 (.slice none 0 0) rfl
  have s5 := bcel HS4.out 5 (.slice none 0 0) rfl
  have s6 := bcel HS4.out 6 (.slice none 0 0) rfl
  have s7 := bcel HS4.out 7 (.int .i64 0) rfl
  have s8 := bcel HS4.out 8 (.int .i64 0) rfl
  have s9 := bcel HS4.out 9 (.int .i64 0) rfl
  have sf := fun j => bfre HS4.out j
  go_wp2
  refine at_world (fun W5 hW5 => ?_)
  have hb5 := bset10 HS4.out (.slice A10 1 c10) (.slice A11 1 c11) (.slice A12 1 c12) (.slice A13 0 c13) (.slice A14 0 c14) (.slice A15 0 c15) (.slice A16 0 c16) (.int .i64 0) (.int .i64 0) (.int .i64 0)
  have hg5 := grown10 w4 S (.slice A10 1 c10) (.slice A11 1 c11) (.slice A12 1 c12) (.slice A13 0 c13) (.slice A14 0 c14) (.slice A15 0 c15) (.slice A16 0 c16) (.int .i64 0) (.int .i64 0) (.int .i64 0)
  rw [← hW5] at hb5 hg5
  have HS5 := Lib.hid (show W5.heap[S]? = some (.cells #[.slice A10 1 c10, .slice A11 1 c11, .slice A12 1 c12, .slice A13 0 c13, .slice A14 0 c14, .slice A15 0 c15, .slice A16 0 c16, .int .i64 0, .int .i64 0, .int .i64 0] 34 (0, 0)) from hb5)
  have HO5 := Lib.hid ((HO.out.low hg5 HSS.out).base (show S + 1 ≤ W3.heap.size from HSS.out))
  have X5 := Lib.hid (ext_grown X4.out hg5 HSW.out)
  clear hW5 hb5 hg5 HO HS4 X4 s0 s1 s2 s3 s4 s5 s6 s7 s8 s9 sf
  go_loopw [6] (fun i wr => ∃ (k : Nat) (s : SV), i = .int .i64 ((k : Int) + 1) ∧ k ≤ y ∧ s.now = 0 ∧ s.ep = 0 ∧ s.sq = 0 ∧ wr.heap[S]? = some (.cells (scells s) 34 (0, 0)) ∧ StOwn wr (S + 1) s (newD [⟨1, 0, 0, 0, 0, 0, (k : Int), true⟩]) ∧ Ext w wr) (fun i _ => y + 1 - (intOf i).toNat)
  case atStart => exact ⟨0, ⟨.slice A10 1 c10, .slice A11 1 c11, .slice A12 1 c12, .slice A13 0 c13, .slice A14 0 c14, .slice A15 0 c15, .slice A16 0 c16, 0, 0, 0⟩, rfl, by omega, rfl, rfl, rfl, HS5.out, HO5.out, X5.out⟩
  case round =>
    obtain ⟨k, s, rfl, hk, e1, e2, e3, hs, ho, hx⟩ := hrel
    obtain ⟨A20, c20, A21, c21, A22, c22, A23, c23, A24, c24, A25, c25, A26, c26, es⟩ := ho.shapeN
    rw [e1, e2, e3] at es
    subst es
    simp only [List.length_cons, List.length_nil, Nat.zero_add] at hs ho
    have HR := Lib.hid hs
    have HO := Lib.hid ho
    have HX := Lib.hid hx
    have HSR := Lib.hid (show S < wr.heap.size from (Array.getElem?_eq_some_iff.1 hs).1)
    clear hs ho hx e1 e2 e3 HS5 HO5 X5
    have hs : wr.heap[S]? = some (.cells #[.slice A20 1 c20, .slice A21 1 c21, .slice A22 1 c22, .slice A23 0 c23, .slice A24 0 c24, .slice A25 0 c25, .slice A26 0 c26, .int .i64 0, .int .i64 0, .int .i64 0] 34 (0, 0)) := HR.out
    have s0 := bcel hs 0 (.slice A20 1 c20) rfl
    have s1 := bcel hs 1 (.slice A21 1 c21) rfl
    have s2 := bcel hs 2 (.slice A22 1 c22) rfl
    have s3 := bcel hs 3 (.slice A23 0 c23) rfl
    have s4 := bcel hs 4 (.slice A24 0 c24) rfl
    have s5 := bcel hs 5 (.slice A25 0 c25) rfl
    have s6 := bcel hs 6 (.slice A26 0 c26) rfl
    have s7 := bcel hs 7 (.int .i64 0) rfl
    have s8 := bcel hs 8 (.int .i64 0) rfl
    have s9 := bcel hs 9 (.int .i64 0) rfl
    have HSR' := Lib.hid hs
    clear hs
    have i0 : (0 : Int) ≤ (k : Int) := by omega
    by_cases hlt : k < y
    · have i1 : (k : Int) + 1 ≤ (y : Int) := by omega
      have hb := Beat_any ⟨.slice A20 1 c20, .slice A21 1 c21, .slice A22 1 c22, .slice A23 0 c23, .slice A24 0 c24, .slice A25 0 c25, .slice A26 0 c26, 0, 0, 0⟩ (newD [⟨1, 0, 0, 0, 0, 0, (k : Int), true⟩]) 1 ((k : Int) + 1) wr HO.out.rd (newD_ok (by simp)) (by omega) (by show (0 : Int) ≤ (k : Int); omega)
      rw [show beatE (newD [⟨1, 0, 0, 0, 0, 0, (k : Int), true⟩]).nodes 1 ((k : Int) + 1) = 0 by
        show beatE [⟨1, 0, 0, 0, 0, 0, (k : Int), true⟩] 1 ((k : Int) + 1) = 0
        rw [beatE1]
        unfold errBeat
        rw [if_pos rfl, if_pos rfl, if_neg (by omega), if_neg (by omega)]] at hb
      rw [beatD1, if_pos rfl] at hb
      simp only [SV.val] at hb
      have HF := Lib.hid hb
      clear hb
      go_wp2_with fail
      (with_reducible refine (HF.out).mono ?_)
      unfold RegPost
      rintro e w6 ⟨s, e1, e2, e3, rfl, ho, hx⟩
      obtain ⟨A30, c30, A31, c31, A32, c32, A33, c33, A34, c34, A35, c35, A36, c36, es⟩ := ho.shapeN
      rw [e1, e2, e3] at es
      subst es
      have HO6 := Lib.hid ho
      have HS6 := Lib.hid (ext_blk hx HSR'.out)
      have X6 := Lib.hid (HX.out.trans hx)
      clear ho hx e1 e2 e3 HF s0 s1 s2 s3 s4 s5 s6 s7 s8 s9
      simp only [SV.val, List.length_cons, List.length_nil, Nat.zero_add] at HO6 ⊢
      go_upto_region 10 with fail
      refine at_world (fun W7 hW7 => ?_)
      have HT7 := Lib.hid (show W7.heap[w6.heap.size]? = some (.cells #[.slice A30 1 c30, .slice A31 1 c31, .slice A32 1 c32, .slice A33 0 c33, .slice A34 0 c34, .slice A35 0 c35, .slice A36 0 c36, .int .i64 0, .int .i64 0, .int .i64 0] 34 (0, 0)) by rw [hW7]; exact heap_alloc_new w6 _)
      have E7 := Lib.hid (show Ext w6 W7 by rw [hW7]; exact ext_alloc _ _)
      obtain ⟨T, hT⟩ : ∃ T, T = w6.heap.size := ⟨_, rfl⟩
      rw [← hT] at HT7 ⊢
      have HS7 := Lib.hid (ext_blk E7.out HS6.out)
      have HO7 := Lib.hid (HO6.out.ext E7.out)
      have X7 := Lib.hid (X6.out.trans E7.out)
      clear hW7 hT E7 HS6 HO6 X6
      have t0 := bcel HT7.out 0 (.slice A30 1 c30) rfl
      have t1 := bcel HT7.out 1 (.slice A31 1 c31) rfl
      have t2 := bcel HT7.out 2 (.slice A32 1 c32) rfl
      have t3 := bcel HT7.out 3 (.slice A33 0 c33) rfl
      have t4 := bcel HT7.out 4 (.slice A34 0 c34) rfl
      have t5 := bcel HT7.out 5 (.slice A35 0 c35) rfl
      have t6 := bcel HT7.out 6 (.slice A36 0 c36) rfl
      have t7 := bcel HT7.out 7 (.int .i64 0) rfl
      have t8 := bcel HT7.out 8 (.int .i64 0) rfl
      have t9 := bcel HT7.out 9 (.int .i64 0) rfl
      have s0 := bcel HS7.out 0 (.slice A20 1 c20) rfl
      have s1 := bcel HS7.out 1 (.slice A21 1 c21) rfl
      have s2 := bcel HS7.out 2 (.slice A22 1 c22) rfl
      have s3 := bcel HS7.out 3 (.slice A23 0 c23) rfl
      have s4 := bcel HS7.out 4 (.slice A24 0 c24) rfl
      have s5 := bcel HS7.out 5 (.slice A25 0 c25) rfl
      have s6 := bcel HS7.out 6 (.slice A26 0 c26) rfl
      have s7 := bcel HS7.out 7 (.int .i64 0) rfl
      have s8 := bcel HS7.out 8 (.int .i64 0) rfl
      have s9 := bcel HS7.out 9 (.int .i64 0) rfl
      have sf := fun j => bfre HS7.out j
      go_wp2
      go_roundw
      case rel =>
        have hb8 := bset10 HS7.out (.slice A30 1 c30) (.slice A31 1 c31) (.slice A32 1 c32) (.slice A33 0 c33) (.slice A34 0 c34) (.slice A35 0 c35) (.slice A36 0 c36) (.int .i64 0) (.int .i64 0) (.int .i64 0)
        have hg8 := grown10 W7 S (.slice A30 1 c30) (.slice A31 1 c31) (.slice A32 1 c32) (.slice A33 0 c33) (.slice A34 0 c34) (.slice A35 0 c35) (.slice A36 0 c36) (.int .i64 0) (.int .i64 0) (.int .i64 0)
        exact ⟨k + 1, ⟨.slice A30 1 c30, .slice A31 1 c31, .slice A32 1 c32, .slice A33 0 c33, .slice A34 0 c34, .slice A35 0 c35, .slice A36 0 c36, 0, 0, 0⟩, by simp, by omega, rfl, rfl, rfl, hb8, (HO7.out.low hg8 HSR.out).base (show S + 1 ≤ wr.heap.size from HSR.out), ext_grown X7.out hg8 HSW.out⟩
      case measure => simp [intOf]; omega
    · obtain rfl : k = y := by omega
      have i1 : ¬ (k : Int) + 1 ≤ (k : Int) := by omega
      obtain ⟨E, hE⟩ : ∃ E, E = errBeat true true x (k : Int) := ⟨_, rfl⟩
      have hb := Beat_any ⟨.slice A20 1 c20, .slice A21 1 c21, .slice A22 1 c22, .slice A23 0 c23, .slice A24 0 c24, .slice A25 0 c25, .slice A26 0 c26, 0, 0, 0⟩ (newD [⟨1, 0, 0, 0, 0, 0, (k : Int), true⟩]) 1 x wr HO.out.rd (newD_ok (by simp)) HXB.out.2 (by show (0 : Int) ≤ (k : Int); omega)
      rw [show beatE (newD [⟨1, 0, 0, 0, 0, 0, (k : Int), true⟩]).nodes 1 x = E from (beatE1 _ _).trans hE.symm, beatD1] at hb
      obtain ⟨z, hz⟩ : ∃ z, z = if E = 0 then x else (k : Int) := ⟨_, rfl⟩
      rw [← hz] at hb
      simp only [SV.val] at hb
      have HF := Lib.hid hb
      have HE := Lib.hid hE
      have HZ := Lib.hid hz
      clear hb hE hz
      go_wp2_with fail
      (with_reducible refine (HF.out).mono ?_)
      unfold RegPost
      rintro e w6 ⟨s, e1, e2, e3, rfl, ho, hx⟩
      obtain ⟨A30, c30, A31, c31, A32, c32, A33, c33, A34, c34, A35, c35, A36, c36, es⟩ := ho.shapeN
      rw [e1, e2, e3] at es
      subst es
      have HO6 := Lib.hid ho
      have HS6 := Lib.hid (ext_blk hx HSR'.out)
      have HOS6 := Lib.hid (HO.out.ext hx)
      have X6 := Lib.hid (HX.out.trans hx)
      clear ho hx e1 e2 e3 HF s0 s1 s2 s3 s4 s5 s6 s7 s8 s9
      simp only [SV.val, List.length_cons, List.length_nil, Nat.zero_add] at HO6 ⊢
      go_upto_region 14 with fail
      refine at_world (fun W7 hW7 => ?_)
      have HT7 := Lib.hid (show W7.heap[w6.heap.size]? = some (.cells #[.slice A30 1 c30, .slice A31 1 c31, .slice A32 1 c32, .slice A33 0 c33, .slice A34 0 c34, .slice A35 0 c35, .slice A36 0 c36, .int .i64 0, .int .i64 0, .int .i64 0] 34 (0, 0)) by rw [hW7]; exact heap_alloc_new w6 _)
      have E7 := Lib.hid (show Ext w6 W7 by rw [hW7]; exact ext_alloc _ _)
      obtain ⟨T, hT⟩ : ∃ T, T = w6.heap.size := ⟨_, rfl⟩
      rw [← hT] at HT7 ⊢
      have HS7 := Lib.hid (ext_blk E7.out HS6.out)
      have HO7 := Lib.hid (HO6.out.ext E7.out)
      have HOS7 := Lib.hid (HOS6.out.ext E7.out)
      have X7 := Lib.hid (X6.out.trans E7.out)
      clear hW7 hT E7 HS6 HO6 X6 HOS6
      have HB2 := Lib.hid (fun W (xx : Ext W7 W) => Beat_any ⟨.slice A20 1 c20, .slice A21 1 c21, .slice A22 1 c22, .slice A23 0 c23, .slice A24 0 c24, .slice A25 0 c25, .slice A26 0 c26, 0, 0, 0⟩ (newD [⟨1, 0, 0, 0, 0, 0, (k : Int), true⟩]) 2 x W (HOS7.out.ext xx).rd (newD_ok (by simp)) HXB.out.2 (by show (0 : Int) ≤ 0; omega))
      simp only [show beatE (newD [⟨1, 0, 0, 0, 0, 0, (k : Int), true⟩]).nodes 2 x = 2 from beatE2 _ _, beatD2, SV.val] at HB2
      have w1 : k ≤ 20 := by omega
      by_cases h1 : x < (k : Int)
      · have q : decide (x < (k : Int)) = true := by simpa using h1
        obtain rfl : E = 15 := by rw [HE.out]; unfold errBeat; simp [h1]
        clear HE h1
        have s0 := bcel HS7.out 0 (.slice A20 1 c20) rfl
        have s1 := bcel HS7.out 1 (.slice A21 1 c21) rfl
        have s2 := bcel HS7.out 2 (.slice A22 1 c22) rfl
        have s3 := bcel HS7.out 3 (.slice A23 0 c23) rfl
        have s4 := bcel HS7.out 4 (.slice A24 0 c24) rfl
        have s5 := bcel HS7.out 5 (.slice A25 0 c25) rfl
        have s6 := bcel HS7.out 6 (.slice A26 0 c26) rfl
        have s7 := bcel HS7.out 7 (.int .i64 0) rfl
        have s8 := bcel HS7.out 8 (.int .i64 0) rfl
        have s9 := bcel HS7.out 9 (.int .i64 0) rfl
        go_wp2_with fail
        (with_reducible refine (HB2.out _ (Ext.refl _)).mono ?_)
        unfold RegPost
        rintro e w8 ⟨s, e1, e2, e3, rfl, ho, hx⟩
        obtain ⟨A40, c40, A41, c41, A42, c42, A43, c43, A44, c44, A45, c45, A46, c46, es⟩ := ho.shapeN
        rw [e1, e2, e3] at es
        subst es
        have HT8 := Lib.hid (ext_blk hx HT7.out)
        have HO8 := Lib.hid (HO7.out.ext hx)
        have X8 := Lib.hid (X7.out.trans hx)
        clear ho hx e1 e2 e3 HB2 HT7 HO7 X7 HS7 HOS7 s0 s1 s2 s3 s4 s5 s6 s7 s8 s9
        simp only [SV.val, List.length_cons, List.length_nil, Nat.zero_add]
        go_upto_region 20 with fail
        refine at_world (fun W9 hW9 => ?_)
        have E9 := Lib.hid (show Ext w8 W9 by rw [hW9]; exact ext_alloc _ _)
        have HT9 := Lib.hid (ext_blk E9.out HT8.out)
        have HO9 := Lib.hid (HO8.out.ext E9.out)
        have X9 := Lib.hid (X8.out.trans E9.out)
        generalize w8.heap.size = T9
        clear hW9 E9 HT8 HO8 X8
        have hf := Find_any ⟨.slice A30 1 c30, .slice A31 1 c31, .slice A32 1 c32, .slice A33 0 c33, .slice A34 0 c34, .slice A35 0 c35, .slice A36 0 c36, 0, 0, 0⟩ [⟨1, 0, 0, 0, 0, 0, z, true⟩] 1 W9 HO9.out.rd.nodes (by simp)
        rw [show getN [⟨1, 0, 0, 0, 0, 0, z, true⟩] 1 = ⟨1, 0, 0, 0, 0, 0, z, true⟩ from rfl, show hasN [⟨1, 0, 0, 0, 0, 0, z, true⟩] 1 = true from rfl] at hf
        simp only [SV.val, nodeV] at hf
        have HF := Lib.hid hf
        clear hf
        have t0 := bcel HT9.out 0 (.slice A30 1 c30) rfl
        have t1 := bcel HT9.out 1 (.slice A31 1 c31) rfl
        have t2 := bcel HT9.out 2 (.slice A32 1 c32) rfl
        have t3 := bcel HT9.out 3 (.slice A33 0 c33) rfl
        have t4 := bcel HT9.out 4 (.slice A34 0 c34) rfl
        have t5 := bcel HT9.out 5 (.slice A35 0 c35) rfl
        have t6 := bcel HT9.out 6 (.slice A36 0 c36) rfl
        have t7 := bcel HT9.out 7 (.int .i64 0) rfl
        have t8 := bcel HT9.out 8 (.int .i64 0) rfl
        have t9 := bcel HT9.out 9 (.int .i64 0) rfl
        go_wp2_with fail
        (with_reducible refine (HF.out).mono ?_)
        rintro e w10 ⟨rfl, hx⟩
        have X10 := Lib.hid (X9.out.trans hx)
        clear hx HF HT9 HO9 X9 t0 t1 t2 t3 t4 t5 t6 t7 t8 t9
        go_upto_region 21 with fail
        refine at_world (fun W11 hW11 => ?_)
        have HN := Lib.hid (show W11.heap[w10.heap.size]? = some (.cells #[.int .i64 1, .int .i64 0, .int .i64 0, .int .i64 0, .int .i64 0, .int .i64 0, .int .i64 z, .bool true] 44 (0, 0)) by rw [hW11]; exact heap_alloc_new w10 _)
        have X11 := Lib.hid (X10.out.trans (show Ext w10 W11 by rw [hW11]; exact ext_alloc _ _))
        have n6 := bcel HN.out 6 (.int .i64 z) rfl
        clear hW11
        clear HZ
        go_wp2
        go_ret
        exact ⟨rfl, X11.out⟩
      have q : decide (x < (k : Int)) = false := by simpa using h1
      by_cases h2 : (k : Int) < x
      · have q2 : decide (x > (k : Int)) = true := by simpa using h2
        have q2' : decide ((k : Int) < x) = true := by simpa using h2
        have hw := HXB.out
        have w3 : wrap64 (x - (k : Int)) = x - (k : Int) := by unfold wrap64; omega
        have w4 : IntKind.wrap .i64 (x - (k : Int)) = x - (k : Int) := by rw [IntKind.wrap_i64]; omega
        by_cases h3 : x - (k : Int) > 1
        · have q3 : decide (x - (k : Int) > 1) = true := by simpa using h3
          have q3' : decide (1 < x - (k : Int)) = true := by simpa using h3
          obtain rfl : E = 1 := by rw [HE.out]; unfold errBeat; simp [h1, h3]
          clear HE h1 h2 h3 hw
          have s0 := bcel HS7.out 0 (.slice A20 1 c20) rfl
          have s1 := bcel HS7.out 1 (.slice A21 1 c21) rfl
          have s2 := bcel HS7.out 2 (.slice A22 1 c22) rfl
          have s3 := bcel HS7.out 3 (.slice A23 0 c23) rfl
          have s4 := bcel HS7.out 4 (.slice A24 0 c24) rfl
          have s5 := bcel HS7.out 5 (.slice A25 0 c25) rfl
          have s6 := bcel HS7.out 6 (.slice A26 0 c26) rfl
          have s7 := bcel HS7.out 7 (.int .i64 0) rfl
          have s8 := bcel HS7.out 8 (.int .i64 0) rfl
          have s9 := bcel HS7.out 9 (.int .i64 0) rfl
          go_wp2_with fail
          (with_reducible refine (HB2.out _ (Ext.refl _)).mono ?_)
          unfold RegPost
          rintro e w8 ⟨s, e1, e2, e3, rfl, ho, hx⟩
          obtain ⟨A40, c40, A41, c41, A42, c42, A43, c43, A44, c44, A45, c45, A46, c46, es⟩ := ho.shapeN
          rw [e1, e2, e3] at es
          subst es
          have HT8 := Lib.hid (ext_blk hx HT7.out)
          have HO8 := Lib.hid (HO7.out.ext hx)
          have X8 := Lib.hid (X7.out.trans hx)
          clear ho hx e1 e2 e3 HB2 HT7 HO7 X7 HS7 HOS7 s0 s1 s2 s3 s4 s5 s6 s7 s8 s9
          simp only [SV.val, List.length_cons, List.length_nil, Nat.zero_add]
          go_upto_region 20 with fail
          refine at_world (fun W9 hW9 => ?_)
          have E9 := Lib.hid (show Ext w8 W9 by rw [hW9]; exact ext_alloc _ _)
          have HT9 := Lib.hid (ext_blk E9.out HT8.out)
          have HO9 := Lib.hid (HO8.out.ext E9.out)
          have X9 := Lib.hid (X8.out.trans E9.out)
          generalize w8.heap.size = T9
          clear hW9 E9 HT8 HO8 X8
          have hf := Find_any ⟨.slice A30 1 c30, .slice A31 1 c31, .slice A32 1 c32, .slice A33 0 c33, .slice A34 0 c34, .slice A35 0 c35, .slice A36 0 c36, 0, 0, 0⟩ [⟨1, 0, 0, 0, 0, 0, z, true⟩] 1 W9 HO9.out.rd.nodes (by simp)
          rw [show getN [⟨1, 0, 0, 0, 0, 0, z, true⟩] 1 = ⟨1, 0, 0, 0, 0, 0, z, true⟩ from rfl, show hasN [⟨1, 0, 0, 0, 0, 0, z, true⟩] 1 = true from rfl] at hf
          simp only [SV.val, nodeV] at hf
          have HF := Lib.hid hf
          clear hf
          have t0 := bcel HT9.out 0 (.slice A30 1 c30) rfl
          have t1 := bcel HT9.out 1 (.slice A31 1 c31) rfl
          have t2 := bcel HT9.out 2 (.slice A32 1 c32) rfl
          have t3 := bcel HT9.out 3 (.slice A33 0 c33) rfl
          have t4 := bcel HT9.out 4 (.slice A34 0 c34) rfl
          have t5 := bcel HT9.out 5 (.slice A35 0 c35) rfl
          have t6 := bcel HT9.out 6 (.slice A36 0 c36) rfl
          have t7 := bcel HT9.out 7 (.int .i64 0) rfl
          have t8 := bcel HT9.out 8 (.int .i64 0) rfl
          have t9 := bcel HT9.out 9 (.int .i64 0) rfl
          go_wp2_with fail
          (with_reducible refine (HF.out).mono ?_)
          rintro e w10 ⟨rfl, hx⟩
          have X10 := Lib.hid (X9.out.trans hx)
          clear hx HF HT9 HO9 X9 t0 t1 t2 t3 t4 t5 t6 t7 t8 t9
          go_upto_region 21 with fail
          refine at_world (fun W11 hW11 => ?_)
          have HN := Lib.hid (show W11.heap[w10.heap.size]? = some (.cells #[.int .i64 1, .int .i64 0, .int .i64 0, .int .i64 0, .int .i64 0, .int .i64 0, .int .i64 z, .bool true] 44 (0, 0)) by rw [hW11]; exact heap_alloc_new w10 _)
          have X11 := Lib.hid (X10.out.trans (show Ext w10 W11 by rw [hW11]; exact ext_alloc _ _))
          have n6 := bcel HN.out 6 (.int .i64 z) rfl
          clear hW11
          clear HZ
          go_wp2
          go_ret
          exact ⟨rfl, X11.out⟩
        · have q3 : decide (x - (k : Int) > 1) = false := by simpa using h3
          have q3' : decide (1 < x - (k : Int)) = false := by simpa using h3
          obtain rfl : E = 0 := by rw [HE.out]; unfold errBeat; simp [h1, h3]
          clear HE h1 h2 h3 hw
          have s0 := bcel HS7.out 0 (.slice A20 1 c20) rfl
          have s1 := bcel HS7.out 1 (.slice A21 1 c21) rfl
          have s2 := bcel HS7.out 2 (.slice A22 1 c22) rfl
          have s3 := bcel HS7.out 3 (.slice A23 0 c23) rfl
          have s4 := bcel HS7.out 4 (.slice A24 0 c24) rfl
          have s5 := bcel HS7.out 5 (.slice A25 0 c25) rfl
          have s6 := bcel HS7.out 6 (.slice A26 0 c26) rfl
          have s7 := bcel HS7.out 7 (.int .i64 0) rfl
          have s8 := bcel HS7.out 8 (.int .i64 0) rfl
          have s9 := bcel HS7.out 9 (.int .i64 0) rfl
          go_wp2_with fail
          (with_reducible refine (HB2.out _ (Ext.refl _)).mono ?_)
          unfold RegPost
          rintro e w8 ⟨s, e1, e2, e3, rfl, ho, hx⟩
          obtain ⟨A40, c40, A41, c41, A42, c42, A43, c43, A44, c44, A45, c45, A46, c46, es⟩ := ho.shapeN
          rw [e1, e2, e3] at es
          subst es
          have HT8 := Lib.hid (ext_blk hx HT7.out)
          have HO8 := Lib.hid (HO7.out.ext hx)
          have X8 := Lib.hid (X7.out.trans hx)
          clear ho hx e1 e2 e3 HB2 HT7 HO7 X7 HS7 HOS7 s0 s1 s2 s3 s4 s5 s6 s7 s8 s9
          simp only [SV.val, List.length_cons, List.length_nil, Nat.zero_add]
          go_upto_region 20 with fail
          refine at_world (fun W9 hW9 => ?_)
          have E9 := Lib.hid (show Ext w8 W9 by rw [hW9]; exact ext_alloc _ _)
          have HT9 := Lib.hid (ext_blk E9.out HT8.out)
          have HO9 := Lib.hid (HO8.out.ext E9.out)
          have X9 := Lib.hid (X8.out.trans E9.out)
          generalize w8.heap.size = T9
          clear hW9 E9 HT8 HO8 X8
          have hf := Find_any ⟨.slice A30 1 c30, .slice A31 1 c31, .slice A32 1 c32, .slice A33 0 c33, .slice A34 0 c34, .slice A35 0 c35, .slice A36 0 c36, 0, 0, 0⟩ [⟨1, 0, 0, 0, 0, 0, z, true⟩] 1 W9 HO9.out.rd.nodes (by simp)
          rw [show getN [⟨1, 0, 0, 0, 0, 0, z, true⟩] 1 = ⟨1, 0, 0, 0, 0, 0, z, true⟩ from rfl, show hasN [⟨1, 0, 0, 0, 0, 0, z, true⟩] 1 = true from rfl] at hf
          simp only [SV.val, nodeV] at hf
          have HF := Lib.hid hf
          clear hf
          have t0 := bcel HT9.out 0 (.slice A30 1 c30) rfl
          have t1 := bcel HT9.out 1 (.slice A31 1 c31) rfl
          have t2 := bcel HT9.out 2 (.slice A32 1 c32) rfl
          have t3 := bcel HT9.out 3 (.slice A33 0 c33) rfl
          have t4 := bcel HT9.out 4 (.slice A34 0 c34) rfl
          have t5 := bcel HT9.out 5 (.slice A35 0 c35) rfl
          have t6 := bcel HT9.out 6 (.slice A36 0 c36) rfl
          have t7 := bcel HT9.out 7 (.int .i64 0) rfl
          have t8 := bcel HT9.out 8 (.int .i64 0) rfl
          have t9 := bcel HT9.out 9 (.int .i64 0) rfl
          go_wp2_with fail
          (with_reducible refine (HF.out).mono ?_)
          rintro e w10 ⟨rfl, hx⟩
          have X10 := Lib.hid (X9.out.trans hx)
          clear hx HF HT9 HO9 X9 t0 t1 t2 t3 t4 t5 t6 t7 t8 t9
          go_upto_region 21 with fail
          refine at_world (fun W11 hW11 => ?_)
          have HN := Lib.hid (show W11.heap[w10.heap.size]? = some (.cells #[.int .i64 1, .int .i64 0, .int .i64 0, .int .i64 0, .int .i64 0, .int .i64 0, .int .i64 z, .bool true] 44 (0, 0)) by rw [hW11]; exact heap_alloc_new w10 _)
          have X11 := Lib.hid (X10.out.trans (show Ext w10 W11 by rw [hW11]; exact ext_alloc _ _))
          have n6 := bcel HN.out 6 (.int .i64 z) rfl
          clear hW11
          have hz : z = x := HZ.out
          subst hz
          have r3 : (z == z) = true := by simp
          clear HZ
          go_wp2
          go_ret
          exact ⟨rfl, X11.out⟩
      · have q2 : decide (x > (k : Int)) = false := by simpa using h2
        have q2' : decide ((k : Int) < x) = false := by simpa using h2
        obtain rfl : E = 0 := by rw [HE.out]; unfold errBeat; simp [h1]; omega
        clear HE h1 h2
        have s0 := bcel HS7.out 0 (.slice A20 1 c20) rfl
        have s1 := bcel HS7.out 1 (.slice A21 1 c21) rfl
        have s2 := bcel HS7.out 2 (.slice A22 1 c22) rfl
        have s3 := bcel HS7.out 3 (.slice A23 0 c23) rfl
        have s4 := bcel HS7.out 4 (.slice A24 0 c24) rfl
        have s5 := bcel HS7.out 5 (.slice A25 0 c25) rfl
        have s6 := bcel HS7.out 6 (.slice A26 0 c26) rfl
        have s7 := bcel HS7.out 7 (.int .i64 0) rfl
        have s8 := bcel HS7.out 8 (.int .i64 0) rfl
        have s9 := bcel HS7.out 9 (.int .i64 0) rfl
        go_wp2_with fail
        (with_reducible refine (HB2.out _ (Ext.refl _)).mono ?_)
        unfold RegPost
        rintro e w8 ⟨s, e1, e2, e3, rfl, ho, hx⟩
        obtain ⟨A40, c40, A41, c41, A42, c42, A43, c43, A44, c44, A45, c45, A46, c46, es⟩ := ho.shapeN
        rw [e1, e2, e3] at es
        subst es
        have HT8 := Lib.hid (ext_blk hx HT7.out)
        have HO8 := Lib.hid (HO7.out.ext hx)
        have X8 := Lib.hid (X7.out.trans hx)
        clear ho hx e1 e2 e3 HB2 HT7 HO7 X7 HS7 HOS7 s0 s1 s2 s3 s4 s5 s6 s7 s8 s9
        simp only [SV.val, List.length_cons, List.length_nil, Nat.zero_add]
        go_upto_region 20 with fail
        refine at_world (fun W9 hW9 => ?_)
        have E9 := Lib.hid (show Ext w8 W9 by rw [hW9]; exact ext_alloc _ _)
        have HT9 := Lib.hid (ext_blk E9.out HT8.out)
        have HO9 := Lib.hid (HO8.out.ext E9.out)
        have X9 := Lib.hid (X8.out.trans E9.out)
        generalize w8.heap.size = T9
        clear hW9 E9 HT8 HO8 X8
        have hf := Find_any ⟨.slice A30 1 c30, .slice A31 1 c31, .slice A32 1 c32, .slice A33 0 c33, .slice A34 0 c34, .slice A35 0 c35, .slice A36 0 c36, 0, 0, 0⟩ [⟨1, 0, 0, 0, 0, 0, z, true⟩] 1 W9 HO9.out.rd.nodes (by simp)
        rw [show getN [⟨1, 0, 0, 0, 0, 0, z, true⟩] 1 = ⟨1, 0, 0, 0, 0, 0, z, true⟩ from rfl, show hasN [⟨1, 0, 0, 0, 0, 0, z, true⟩] 1 = true from rfl] at hf
        simp only [SV.val, nodeV] at hf
        have HF := Lib.hid hf
        clear hf
        have t0 := bcel HT9.out 0 (.slice A30 1 c30) rfl
        have t1 := bcel HT9.out 1 (.slice A31 1 c31) rfl
        have t2 := bcel HT9.out 2 (.slice A32 1 c32) rfl
        have t3 := bcel HT9.out 3 (.slice A33 0 c33) rfl
        have t4 := bcel HT9.out 4 (.slice A34 0 c34) rfl
        have t5 := bcel HT9.out 5 (.slice A35 0 c35) rfl
        have t6 := bcel HT9.out 6 (.slice A36 0 c36) rfl
        have t7 := bcel HT9.out 7 (.int .i64 0) rfl
        have t8 := bcel HT9.out 8 (.int .i64 0) rfl
        have t9 := bcel HT9.out 9 (.int .i64 0) rfl
        go_wp2_with fail
        (with_reducible refine (HF.out).mono ?_)
        rintro e w10 ⟨rfl, hx⟩
        have X10 := Lib.hid (X9.out.trans hx)
        clear hx HF HT9 HO9 X9 t0 t1 t2 t3 t4 t5 t6 t7 t8 t9
        go_upto_region 21 with fail
        refine at_world (fun W11 hW11 => ?_)
        have HN := Lib.hid (show W11.heap[w10.heap.size]? = some (.cells #[.int .i64 1, .int .i64 0, .int .i64 0, .int .i64 0, .int .i64 0, .int .i64 0, .int .i64 z, .bool true] 44 (0, 0)) by rw [hW11]; exact heap_alloc_new w10 _)
        have X11 := Lib.hid (X10.out.trans (show Ext w10 W11 by rw [hW11]; exact ext_alloc _ _))
        have n6 := bcel HN.out 6 (.int .i64 z) rfl
        clear hW11
        have hz : z = x := HZ.out
        subst hz
        have r3 : (z == z) = true := by simp
        clear HZ
        go_wp2
        go_ret
        exact ⟨rfl, X11.out⟩

theorem own : ownKnob Try.prog.godebug = none := by kernel_rfl
set_option maxRecDepth 100000 in
theorem lifted (os : Os) (started : os.Started) (H : Type) (enc : TypeId × Value → H) :
    ReturnsInHanded {} Try.checked os 4 .any (Rows.nodesStaleSpec.pre6 enc Try.prog Try.f4 Rows.nodesStaleRow.domain false) (Rows.nodesStaleSpec.post enc Try.prog Try.f4 false true false false) := by
  refine returnsInHanded_of_change (C := Try.checked) own started (by kernel_rfl) Try.func4
    (ChangeSpec.witness6 (enc := enc) (C := Try.checked) false ⟨#[], #[.int .i64 0, .int .i64 0], []⟩ 8 (by kernel_rfl) (by kernel_rfl) (by kernel_rfl) (by kernel_rfl)) ?_
  intro W base args ds gs before hval0 hW hcnd _
  have hval : ∀ (j : Nat) t v, Try.f4.params[j]? = some t → args[j]? = some v → Value.okWide Try.prog W .any base t v := hval0
  have hW' := hW
  obtain ⟨p, q, hA0, hV, rfl, hfz, hnd⟩ := hW
  have hA : DataW.TrodAll enc Try.prog W 0 (fun _ => true) true Try.f4.params.toList args.toList ds p := hA0
  rw [Try.params4] at hA hval
  obtain ⟨v0, vs0, d0, ds0, p0, q0, hargs, rfl, rfl, h0, r0⟩ := trodAll_cons hA
  obtain ⟨v1, vs1, d1, ds1, p1, q1, rfl, rfl, rfl, h1, r1⟩ := trodAll_cons r0
  obtain ⟨rfl, rfl, rfl⟩ := trodAll_nil r1
  obtain rfl : args = #[v0, v1] := by cases args; simp_all
  obtain ⟨rfl, rfl⟩ := trodVars_none hV
  obtain ⟨a0, rfl, rfl, rfl, w0⟩ := open_int Try.underlying3 (hval 0 3 v0 rfl rfl) h0
  obtain ⟨a1, rfl, rfl, rfl, w1⟩ := open_int Try.underlying3 (hval 1 3 v1 rfl rfl) h1
  clear hA0 hval0
  refine (walk a0 w0 a1 w1 W).mono fun e W' ⟨he, bel⟩ => ?_
  subst he
  exact ⟨_, rfl, _, _, _, [], _, [], hW', trodAll_mk1 (shut_bool Try.underlying4 _), (trodAll_cons_mk (shut_int Try.underlying3 w0) (trodAll_cons_mk (shut_int Try.underlying3 w1) trodAll_mk0)), rfl, bel.frame _, fun h => by cases h⟩

theorem over : Rows.nodesStaleRow.holds Try.pinned (OpenSpec.ofChange Rows.nodesStaleSpec) :=
  OpenClaim.holds_of_wide 4 Try.f4 rfl rfl rfl rfl rfl rfl rfl ⟨rfl, rfl, rfl, rfl, rfl⟩ rfl rfl rfl rfl rfl (by kernel_rfl) Try.func4 (by kernel_rfl)
    (of_decide_eq_true (by kernel_rfl)) (by unfold Func.isWrapper; first | (rw [if_pos (by decide +kernel)]; kernel_rfl) | (rw [if_neg (by decide +kernel)]; exact ⟨rfl, rfl⟩))
    (fun os started H enc _ => lifted os started H enc)

theorem proved : Rows.NodesStaleSaid := over
#print axioms proved
end Go.Proofs.Ytffioglbgnbieaa.NodesStale
