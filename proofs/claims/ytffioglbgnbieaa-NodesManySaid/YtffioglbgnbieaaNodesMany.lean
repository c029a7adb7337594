/- The law NodesMany holds at every input: as many nodes as may be are registered, in the order of Ids; one more is refused; one that is not live comes again in its place. No condition. -/
import Derived.Test.YtffioglbgnbieaaNdKnown
import Derived.Test.YtffioglbgnbieaaNdManyP
import Derived.Test.YtffioglbgnbieaaOpenR
import Derived.Test.YtffioglbgnbieaaFoot
import Derived.Test.YtffioglbgnbieaaSched2
import Derived.Deep.CutRange
import Derived.ChangeSlices
import Derived.OpenShut
import Derived.ChangeOld
import Derived.ChangeSame
import Derived.ChangeMaps
import Derived.JoinedOf
import Derived.JoinedAt
import Derived.RowKit3
import Derived.Lib.SmallJoins
namespace Go.Proofs.Ytffioglbgnbieaa.NodesMany
open Go.ChangeShapes Go.WideShapes Go.ChangeAt Go.RowKit Go.Joins

def seesV (ds : List ND) : List Value := (List.range 20).map fun (j : Nat) => Value.bool (ds.any fun x => x.id == ((j : Nat) : Int))
theorem seesV_get (ds : List ND) {y : Nat} (h : y < 20) : (seesV ds)[y]? = some (.bool (ds.any fun x => x.id == (y : Int))) := by
  unfold seesV
  rw [List.getElem?_map, List.getElem?_range h]
  rfl
theorem seesV_put {ds ds' : List ND} {y : Nat} {d : ND} (h : ∀ x, x ∈ ds' ↔ (x = d ∨ x ∈ ds)) (hd : d.id = (y : Int)) : (seesV ds).set y (.bool true) = seesV ds' := by
  apply List.ext_getElem?
  intro j
  by_cases hj : j < 20
  · rw [List.getElem?_set, seesV_get ds' hj, seesV_get ds hj]
    by_cases e : y = j
    · subst e
      have h1 : (ds'.any fun x => x.id == (y : Int)) = true := by
        rw [List.any_eq_true]
        exact ⟨d, (h d).2 (.inl rfl), by simp [hd]⟩
      rw [h1, if_pos rfl, if_pos (by simp [seesV]; exact hj)]
    · have h1 : (ds'.any fun x => x.id == (j : Int)) = (ds.any fun x => x.id == (j : Int)) := by
        rw [Bool.eq_iff_iff, List.any_eq_true, List.any_eq_true]
        constructor
        · rintro ⟨x, hx, hxe⟩
          rcases (h x).1 hx with rfl | hx
          · rw [hd] at hxe; simp at hxe; omega
          · exact ⟨x, hx, hxe⟩
        · rintro ⟨x, hx, hxe⟩
          exact ⟨x, (h x).2 (.inr hx), hxe⟩
      rw [h1, if_neg e]
  · rw [List.getElem?_eq_none (by simp [seesV]; omega), List.getElem?_eq_none (by simp [seesV]; omega)]
/-- Nodes as the law registers them. -/
def Fresh (ds : List ND) : Prop := ∀ x ∈ ds, ∃ y : Nat, y < 20 ∧ x = ⟨(y : Int), 0, 0, (y : Int), 0, 0, 0, true⟩
theorem ok_y (ds : List ND) {y : Nat} (h : y < 20) : okN ⟨(y : Int), 0, 0, (y : Int), 0, 0, 0, false⟩ ((newD ds).labels.length : Int) = true := by
  unfold okN inB
  simp [newD]
  omega
theorem new_is {ds : List ND} (hs : Srt ds) (hf : Fresh ds) {y : Nat} (h : y < 20) (hin : (ds.any fun x => x.id == (y : Int)) = true) : newE (newD ds).nodes (newD ds).labels.length ⟨(y : Int), 0, 0, (y : Int), 0, 0, 0, false⟩ = 7 := by
  rw [List.any_eq_true] at hin
  obtain ⟨x, hx, he⟩ := hin
  simp at he
  obtain ⟨i, hi, rfl⟩ := List.getElem_of_mem hx
  have h1 : idxN ds (y : Int) = i := by rw [← he]; exact idx_of hs hi
  have h2 : getN ds (y : Int) = ds[i] := by rw [getN_at (by rw [h1]; exact hi)]; simp only [h1]
  obtain ⟨z, _, hz⟩ := hf _ (List.getElem_mem hi)
  unfold newE
  rw [ok_y ds h]
  show errNew true (getN ds (y : Int)).up _ _ = 7
  rw [h2, hz]
  rfl
theorem new_no {ds : List ND} {y : Nat} (h : y < 20) (hin : (ds.any fun x => x.id == (y : Int)) = false) : newE (newD ds).nodes (newD ds).labels.length ⟨(y : Int), 0, 0, (y : Int), 0, 0, 0, false⟩ = if 12 ≤ ds.length then 4 else 0 := by
  have hno : ∀ x ∈ ds, x.id ≠ (y : Int) := by
    intro x hx e
    rw [List.any_eq_false] at hin
    exact hin x hx (by simp [e])
  have h1 : idxN ds (y : Int) = ds.length := idx_no hno
  unfold newE
  rw [ok_y ds h]
  show errNew true (getN ds (y : Int)).up (hasN ds (y : Int)) (decide ((12 : Int) ≤ ds.length)) = _
  rw [getN_no (by omega), show hasN ds (y : Int) = false by unfold hasN; simp; omega]
  by_cases h2 : 12 ≤ ds.length
  · rw [if_pos h2, show decide ((12 : Int) ≤ ds.length) = true by simp; omega]; rfl
  · rw [if_neg h2, show decide ((12 : Int) ≤ ds.length) = false by simp; omega]; rfl
theorem fresh_put {ds : List ND} (hf : Fresh ds) {y : Nat} (h : y < 20) (hm : ∀ x, x ∈ putN ds (nodeY y) ↔ (x = nodeY y ∨ x ∈ ds)) : Fresh (putN ds (nodeY y)) := fun x hx => by
  rcases (hm x).1 hx with rfl | hx
  · exact ⟨y, h, rfl⟩
  · exact hf x hx

set_option maxRecDepth 100000 in
set_option maxHeartbeats 12800000 in
theorem walk (w : World) (v : Value) (l : List Int) (r0 : Rd w v (l.map (Value.int .i64))) (_ : ∀ z ∈ l, (Lit.int .i64 z).wf = true) (again : Int) (_ : (Lit.int .i64 again).wf = true) :
    Calls Try.prog 3 #[v, .int .i64 again] w fun e w' => e = .returned (.bool true) ∧ Below w.heap.size w w' := by
  obtain ⟨A, NL, c, rfl, hNL, hc1, hc2, hcell⟩ := ints_open r0
  have HC := Lib.hid hcell
  have HNL := Lib.hid hNL
  clear hcell hNL r0
  go_enter Try.func3, Try.ntmps3
  go_wp2_with fail
  (with_reducible refine (known8_any _).mono ?_)
  rintro e w1 ⟨rfl, hx⟩
  have X1 := Lib.hid hx
  clear hx
  go_wp2_with fail
  (with_reducible refine (New_any _).mono ?_)
  rintro e w2 ⟨rfl, hnew, hsz, hx⟩
  have X2 := Lib.hid (X1.out.trans hx)
  have HNEW := Lib.hid hnew
  obtain ⟨g, hg⟩ : ∃ g, g = w1.heap.size := ⟨_, rfl⟩
  unfold newSV
  rw [← hg] at HNEW ⊢
  clear hx hnew hg hsz
  simp only [SV.val]
  go_wp2
  refine at_world (fun W3 hW3 => ?_)
  obtain ⟨S, hS⟩ : ∃ S, S = w2.heap.size := ⟨_, rfl⟩
  have HS3 := Lib.hid (show W3.heap[S]? = some (.cells #[.slice (some ⟨g + 1, 0, none⟩) 1 1, .slice (some ⟨g + 1 + 1 + 1, 0, none⟩) 1 1, .slice none 0 0, .slice none 0 0, .slice none 0 0, .slice none 0 0, .slice none 0 0, .int .i64 0, .int .i64 0, .int .i64 0] 34 (0, 0)) by rw [hW3, hS]; exact ext_blk (ext_alloc _ _) (heap_alloc_new w2 _))
  have HP3 := Lib.hid (show W3.heap[S + 1]? = some (.cells (seesV []).toArray 36 (0, 0)) by rw [hW3, hS]; exact alloc_at (by simp))
  have E3 := Lib.hid (show Ext w2 W3 by rw [hW3]; exact (ext_alloc _ _).trans (ext_alloc _ _))
  have X3 := Lib.hid (X2.out.trans E3.out)
  have HSW := Lib.hid (show w.heap.size ≤ S by rw [hS]; exact X2.out.size)
  have HNW3 := Lib.hid (HNEW.out.ext E3.out)
  have HSG := Lib.hid (show g + 4 ≤ S by have := (Array.getElem?_eq_some_iff.1 HNEW.out.queue).1; omega)
  rw [← hS]
  clear hW3 hS E3 HNEW
  have HK3 := Lib.hid (HNW3.out.keeps (Q := fun q => q = S ∨ q = S + 1) (fun q hq => by have := HSG.out; omega) 0 0 0)
  clear HNW3 HSG
  go_loopw [6, 8] (fun sn i wr => ∃ (k : Nat) (ds : List ND) (s : SV), sn = .int .i64 (ds.length : Int) ∧ i = .int .i64 (k : Int) ∧ k ≤ NL ∧ k ≤ 40 ∧ ds.length ≤ 12 ∧ Srt ds ∧ Fresh ds ∧ Shp s ds.length ∧ wr.heap[S]? = some (.cells (scells s) 34 (0, 0)) ∧ wr.heap[S + 1]? = some (.cells (seesV ds).toArray 36 (0, 0)) ∧ Keeps (fun q => q = S ∨ q = S + 1) wr s (newD ds) ∧ Ext w wr) (fun _ i _ => 41 - (intOf i).toNat)
  case atStart => exact ⟨0, [], ⟨.slice (some ⟨g + 1, 0, none⟩) 1 1, .slice (some ⟨g + 1 + 1 + 1, 0, none⟩) 1 1, .slice none 0 0, .slice none 0 0, .slice none 0 0, .slice none 0 0, .slice none 0 0, 0, 0, 0⟩, rfl, rfl, by omega, by omega, by simp, List.Pairwise.nil, fun x hx => by simp at hx, ⟨_, _, _, _, _, _, _, _, _, _, _, _, _, _, rfl⟩, HS3.out, HP3.out, HK3.out, X3.out⟩
  case round =>
    obtain ⟨k, ds, s, rfl, rfl, hk, hk40, hlen, hsrt, hfre, ⟨A20, c20, A21, c21, A22, c22, A23, c23, A24, c24, A25, c25, A26, c26, rfl⟩, hs, hp, hkp, hx⟩ := hrel
    obtain ⟨nn, hnn⟩ : ∃ n, n = ds.length := ⟨_, rfl⟩
    rw [← hnn] at hs hkp hlen ⊢
    have HNN := Lib.hid (show nn = ds.length ∧ ds.length ≤ 12 from ⟨hnn, by omega⟩)
    have HSR := Lib.hid (show wr.heap[S]? = some (.cells #[.slice A20 1 c20, .slice A21 1 c21, .slice A22 nn c22, .slice A23 0 c23, .slice A24 0 c24, .slice A25 0 c25, .slice A26 0 c26, .int .i64 0, .int .i64 0, .int .i64 0] 34 (0, 0)) from hs)
    have HPR := Lib.hid hp
    have HKR := Lib.hid hkp
    have HXR := Lib.hid hx
    have HSO := Lib.hid (And.intro hsrt hfre)
    have HSB := Lib.hid (show S + 1 < wr.heap.size from (Array.getElem?_eq_some_iff.1 hp).1)
    clear hs hp hkp hx hnn hsrt hfre HS3 HP3 HK3 X3
    have i0 : (0 : Int) ≤ (k : Int) := by omega
    by_cases hlt : k < NL ∧ k < 40
    · have q1 : decide ((k : Int) < (NL : Int)) = true := by simp; omega
      have q2 : decide ((k : Int) < 40) = true := by simp; omega
      have q3 : (k : Int) < (NL : Int) := by omega
      obtain ⟨a, rfl, hab, hcs⟩ := HC.out (by omega)
      have hkl : k < l.length := by have := HNL.out; omega
      have c0 := HXR.out.cell' (hcs k hkl)
      obtain ⟨z, hz⟩ : ∃ z, z = l[k] := ⟨_, rfl⟩
      rw [← hz] at c0
      clear hz hcs hab
      go_wp2_with fail
      (with_reducible refine (within8_some z 20 20 _ rfl (by omega)).mono ?_)
      rintro e w5 ⟨y, rfl, hy, hy20, rfl⟩
      clear hy c0
      have hyB : (y : Int) < 20 := by omega
      have y0 : (0 : Int) ≤ (y : Int) := by omega
      cases hin : ds.any fun x => x.id == (y : Int)
      · by_cases h12 : 12 ≤ ds.length
        · have HE := Lib.hid (show newE (newD ds).nodes (newD ds).labels.length ⟨(y : Int), 0, 0, (y : Int), 0, 0, 0, false⟩ = 4 by rw [new_no hy20 hin, if_pos h12])
          have HF := Lib.hid (show Calls Try.prog 10 #[.agg #[.slice A20 1 c20, .slice A21 1 c21, .slice A22 nn c22, .slice A23 0 c23, .slice A24 0 c24, .slice A25 0 c25, .slice A26 0 c26, .int .i64 0, .int .i64 0, .int .i64 0], .agg #[.int .i64 (y : Int), .int .i64 0, .int .i64 0, .int .i64 (y : Int), .int .i64 0, .int .i64 0, .int .i64 0, .bool false]] wr (RegPost 0 0 0 4 (newD ds) wr) from by
            have hr := Register_any ⟨.slice A20 1 c20, .slice A21 1 c21, .slice A22 nn c22, .slice A23 0 c23, .slice A24 0 c24, .slice A25 0 c25, .slice A26 0 c26, 0, 0, 0⟩ (newD ds) ⟨(y : Int), 0, 0, (y : Int), 0, 0, 0, false⟩ wr HKR.out.rd (newD_ok (by have := HNN.out; omega)) (by show ds.length ≤ 500; have := HNN.out; omega)
            rw [HE.out] at hr
            exact hr)
          have s0 := bcel HSR.out 0 (.slice A20 1 c20) rfl
          have s1 := bcel HSR.out 1 (.slice A21 1 c21) rfl
          have s2 := bcel HSR.out 2 (.slice A22 nn c22) rfl
          have s3 := bcel HSR.out 3 (.slice A23 0 c23) rfl
          have s4 := bcel HSR.out 4 (.slice A24 0 c24) rfl
          have s5 := bcel HSR.out 5 (.slice A25 0 c25) rfl
          have s6 := bcel HSR.out 6 (.slice A26 0 c26) rfl
          have s7 := bcel HSR.out 7 (.int .i64 0) rfl
          have s8 := bcel HSR.out 8 (.int .i64 0) rfl
          have s9 := bcel HSR.out 9 (.int .i64 0) rfl
          go_wp2_with fail
          (with_reducible refine (HF.out).mono ?_)
          unfold RegPost
          rintro e w6 ⟨s, e1, e2, e3, rfl, ho, hx⟩
          obtain ⟨A30, c30, A31, c31, A32, c32, A33, c33, A34, c34, A35, c35, A36, c36, es⟩ := ho.shapeN
          rw [e1, e2, e3] at es
          subst es
          have HO6 := Lib.hid ho
          have HS6 := Lib.hid (ext_blk hx HSR.out)
          have HP6 := Lib.hid (ext_blk hx HPR.out)
          have HK6 := Lib.hid (HKR.out.ext hx)
          have X6 := Lib.hid (HXR.out.trans hx)
          clear ho hx e1 e2 e3 HF HSR HPR HKR HXR s0 s1 s2 s3 s4 s5 s6 s7 s8 s9
          simp only [SV.val]
          obtain ⟨mm, hmm⟩ : ∃ m, m = (ds).length := ⟨_, rfl⟩
          rw [← hmm] at HO6 ⊢
          have HMM := Lib.hid hmm
          clear hmm
          go_upto_region 11 with fail
          refine at_world (fun W7 hW7 => ?_)
          have HT7 := Lib.hid (show W7.heap[w6.heap.size]? = some (.cells #[.slice A30 1 c30, .slice A31 1 c31, .slice A32 mm c32, .slice A33 0 c33, .slice A34 0 c34, .slice A35 0 c35, .slice A36 0 c36, .int .i64 0, .int .i64 0, .int .i64 0] 34 (0, 0)) by rw [hW7]; exact heap_alloc_new w6 _)
          have hx : Ext w6 W7 := by rw [hW7]; exact ext_alloc _ _
          obtain ⟨T, hT⟩ : ∃ T, T = w6.heap.size := ⟨_, rfl⟩
          rw [← hT] at HT7 ⊢
          have HO7 := Lib.hid (HO6.out.ext hx)
          have HTT := Lib.hid (show S < T by rw [hT]; exact (Array.getElem?_eq_some_iff.1 HS6.out).1)
          have HS7 := Lib.hid (ext_blk hx HS6.out)
          have HP7 := Lib.hid (ext_blk hx HP6.out)
          have HK7 := Lib.hid (HK6.out.ext hx)
          have X7 := Lib.hid (X6.out.trans hx)
          clear hx hW7 hT HO6 HS6 HP6 HK6 X6
          have p0 := bcel HP7.out y (.bool false) (by rw [List.getElem?_toArray, seesV_get ds hy20, hin])
          have r1 : decide ((nn : Int) ≥ 12) = true := by have := HNN.out; simp; omega
          have r2 : decide ((12 : Int) ≤ (nn : Int)) = true := by have := HNN.out; simp; omega
          clear hin h12
          go_wp2
          go_roundw
          case rel => exact ⟨k + 1, ds, ⟨.slice A20 1 c20, .slice A21 1 c21, .slice A22 nn c22, .slice A23 0 c23, .slice A24 0 c24, .slice A25 0 c25, .slice A26 0 c26, 0, 0, 0⟩, by rw [HNN.out.1], by simp, by omega, by omega, HNN.out.2, HSO.out.1, HSO.out.2, ⟨_, _, _, _, _, _, _, _, _, _, _, _, _, _, by rw [HNN.out.1]⟩, HS7.out, HP7.out, HK7.out, X7.out⟩
          case measure => simp [intOf]; omega
        · have HE := Lib.hid (show newE (newD ds).nodes (newD ds).labels.length ⟨(y : Int), 0, 0, (y : Int), 0, 0, 0, false⟩ = 0 by rw [new_no hy20 hin, if_neg h12])
          obtain ⟨hp1, hp2, hp3⟩ := putN_new (nodeY y) ds HSO.out.1 (fun x hx e => by rw [List.any_eq_false] at hin; exact hin x hx (by simp [e, nodeY]))
          have HPU := Lib.hid (And.intro hp1 (And.intro hp2 hp3))
          clear hp1 hp2 hp3
          have HF := Lib.hid (show Calls Try.prog 10 #[.agg #[.slice A20 1 c20, .slice A21 1 c21, .slice A22 nn c22, .slice A23 0 c23, .slice A24 0 c24, .slice A25 0 c25, .slice A26 0 c26, .int .i64 0, .int .i64 0, .int .i64 0], .agg #[.int .i64 (y : Int), .int .i64 0, .int .i64 0, .int .i64 (y : Int), .int .i64 0, .int .i64 0, .int .i64 0, .bool false]] wr (RegPost 0 0 0 0 (newD (putN ds (nodeY y))) wr) from by
            have hr := Register_any ⟨.slice A20 1 c20, .slice A21 1 c21, .slice A22 nn c22, .slice A23 0 c23, .slice A24 0 c24, .slice A25 0 c25, .slice A26 0 c26, 0, 0, 0⟩ (newD ds) ⟨(y : Int), 0, 0, (y : Int), 0, 0, 0, false⟩ wr HKR.out.rd (newD_ok (by have := HNN.out; omega)) (by show ds.length ≤ 500; have := HNN.out; omega)
            rw [HE.out] at hr
            exact hr)
          have s0 := bcel HSR.out 0 (.slice A20 1 c20) rfl
          have s1 := bcel HSR.out 1 (.slice A21 1 c21) rfl
          have s2 := bcel HSR.out 2 (.slice A22 nn c22) rfl
          have s3 := bcel HSR.out 3 (.slice A23 0 c23) rfl
          have s4 := bcel HSR.out 4 (.slice A24 0 c24) rfl
          have s5 := bcel HSR.out 5 (.slice A25 0 c25) rfl
          have s6 := bcel HSR.out 6 (.slice A26 0 c26) rfl
          have s7 := bcel HSR.out 7 (.int .i64 0) rfl
          have s8 := bcel HSR.out 8 (.int .i64 0) rfl
          have s9 := bcel HSR.out 9 (.int .i64 0) rfl
          go_wp2_with fail
          (with_reducible refine (HF.out).mono ?_)
          unfold RegPost
          rintro e w6 ⟨s, e1, e2, e3, rfl, ho, hx⟩
          obtain ⟨A30, c30, A31, c31, A32, c32, A33, c33, A34, c34, A35, c35, A36, c36, es⟩ := ho.shapeN
          rw [e1, e2, e3] at es
          subst es
          have HO6 := Lib.hid ho
          have HS6 := Lib.hid (ext_blk hx HSR.out)
          have HP6 := Lib.hid (ext_blk hx HPR.out)
          have HK6 := Lib.hid (HKR.out.ext hx)
          have X6 := Lib.hid (HXR.out.trans hx)
          clear ho hx e1 e2 e3 HF HSR HPR HKR HXR s0 s1 s2 s3 s4 s5 s6 s7 s8 s9
          simp only [SV.val]
          obtain ⟨mm, hmm⟩ : ∃ m, m = ((putN ds (nodeY y))).length := ⟨_, rfl⟩
          rw [← hmm] at HO6 ⊢
          have HMM := Lib.hid hmm
          clear hmm
          go_upto_region 11 with fail
          refine at_world (fun W7 hW7 => ?_)
          have HT7 := Lib.hid (show W7.heap[w6.heap.size]? = some (.cells #[.slice A30 1 c30, .slice A31 1 c31, .slice A32 mm c32, .slice A33 0 c33, .slice A34 0 c34, .slice A35 0 c35, .slice A36 0 c36, .int .i64 0, .int .i64 0, .int .i64 0] 34 (0, 0)) by rw [hW7]; exact heap_alloc_new w6 _)
          have hx : Ext w6 W7 := by rw [hW7]; exact ext_alloc _ _
          obtain ⟨T, hT⟩ : ∃ T, T = w6.heap.size := ⟨_, rfl⟩
          rw [← hT] at HT7 ⊢
          have HO7 := Lib.hid (HO6.out.ext hx)
          have HTT := Lib.hid (show S < T by rw [hT]; exact (Array.getElem?_eq_some_iff.1 HS6.out).1)
          have HS7 := Lib.hid (ext_blk hx HS6.out)
          have HP7 := Lib.hid (ext_blk hx HP6.out)
          have HK7 := Lib.hid (HK6.out.ext hx)
          have X7 := Lib.hid (X6.out.trans hx)
          clear hx hW7 hT HO6 HS6 HP6 HK6 X6
          have p0 := bcel HP7.out y (.bool false) (by rw [List.getElem?_toArray, seesV_get ds hy20, hin])
          have pf := fun j => bfre HP7.out j
          have r1 : decide ((nn : Int) ≥ 12) = false := by have := HNN.out; simp; omega
          have r2 : decide ((12 : Int) ≤ (nn : Int)) = false := by have := HNN.out; simp; omega
          have w1' : wrap64 ((nn : Int) + 1) = (nn : Int) + 1 := by have := HNN.out; unfold wrap64; omega
          have w2' : IntKind.wrap .i64 ((nn : Int) + 1) = (nn : Int) + 1 := by have := HNN.out; rw [IntKind.wrap_i64]; omega
          have HNI := Lib.hid h12
          clear hin h12
          go_upto_region 21 with fail
          refine at_world (fun W8 hW8 => ?_)
          have hb8 := bset HP7.out y (.bool true)
          have hg8 := bgrown W7 (S + 1) y (.bool true)
          rw [← hW8] at hb8 hg8
          have HP8 := Lib.hid (show W8.heap[S + 1]? = some (.cells (seesV (putN ds (nodeY y))).toArray 36 (0, 0)) by rw [hb8, List.setIfInBounds_toArray, seesV_put HPU.out.2.1 rfl])
          have HS8 := Lib.hid ((hg8.block S (Array.getElem?_eq_some_iff.1 HS7.out).1 (fun e => by injection e with e; omega)).trans HS7.out)
          have HTN := Lib.hid (show T ≠ S + 1 ∧ T ≠ S from by
            have h1 := HT7.out
            constructor
            · intro e; rw [e, HP7.out] at h1; injection h1 with h1; injection h1 with _ h2; exact absurd h2 (by decide)
            · intro e; have := HSB.out; have := HTT.out; omega)
          have HT8 := Lib.hid ((hg8.block T (Array.getElem?_eq_some_iff.1 HT7.out).1 (fun e => by injection e with e; exact HTN.out.1 e)).trans HT7.out)
          have HK8 := Lib.hid ((HO7.out.keeps (Q := fun q => q = S ∨ q = S + 1) (fun q hq => by have := HSB.out; omega)).foot (FootL.of_grown hg8 (fun q hq => by injection hq with hq; exact .inr hq.symm)))
          have X8 := Lib.hid (ext_grown X7.out hg8 (by have := HSW.out; omega))
          clear hW8 hb8 hg8 p0 pf r1 r2 w1' w2' HP7 HS7 HT7 HK7 X7 HO7
          have t0 := bcel HT8.out 0 (.slice A30 1 c30) rfl
          have t1 := bcel HT8.out 1 (.slice A31 1 c31) rfl
          have t2 := bcel HT8.out 2 (.slice A32 mm c32) rfl
          have t3 := bcel HT8.out 3 (.slice A33 0 c33) rfl
          have t4 := bcel HT8.out 4 (.slice A34 0 c34) rfl
          have t5 := bcel HT8.out 5 (.slice A35 0 c35) rfl
          have t6 := bcel HT8.out 6 (.slice A36 0 c36) rfl
          have t7 := bcel HT8.out 7 (.int .i64 0) rfl
          have t8 := bcel HT8.out 8 (.int .i64 0) rfl
          have t9 := bcel HT8.out 9 (.int .i64 0) rfl
          have s0 := bcel HS8.out 0 (.slice A20 1 c20) rfl
          have s1 := bcel HS8.out 1 (.slice A21 1 c21) rfl
          have s2 := bcel HS8.out 2 (.slice A22 nn c22) rfl
          have s3 := bcel HS8.out 3 (.slice A23 0 c23) rfl
          have s4 := bcel HS8.out 4 (.slice A24 0 c24) rfl
          have s5 := bcel HS8.out 5 (.slice A25 0 c25) rfl
          have s6 := bcel HS8.out 6 (.slice A26 0 c26) rfl
          have s7 := bcel HS8.out 7 (.int .i64 0) rfl
          have s8 := bcel HS8.out 8 (.int .i64 0) rfl
          have s9 := bcel HS8.out 9 (.int .i64 0) rfl
          have sf := fun j => bfre HS8.out j
          go_wp2
          go_roundw
          case rel =>
            have hb9 := bset10 HS8.out (.slice A30 1 c30) (.slice A31 1 c31) (.slice A32 mm c32) (.slice A33 0 c33) (.slice A34 0 c34) (.slice A35 0 c35) (.slice A36 0 c36) (.int .i64 0) (.int .i64 0) (.int .i64 0)
            have hg9 := grown10 W8 S (.slice A30 1 c30) (.slice A31 1 c31) (.slice A32 mm c32) (.slice A33 0 c33) (.slice A34 0 c34) (.slice A35 0 c35) (.slice A36 0 c36) (.int .i64 0) (.int .i64 0) (.int .i64 0)
            have hm : mm = ds.length + 1 := HMM.out.trans HPU.out.1
            exact ⟨k + 1, putN ds (nodeY y), ⟨.slice A30 1 c30, .slice A31 1 c31, .slice A32 mm c32, .slice A33 0 c33, .slice A34 0 c34, .slice A35 0 c35, .slice A36 0 c36, 0, 0, 0⟩, by rw [HPU.out.1, HNN.out.1]; simp, by simp, by omega, by omega, by rw [HPU.out.1]; have := HNI.out; omega, HPU.out.2.2, fresh_put HSO.out.2 hy20 HPU.out.2.1, ⟨_, _, _, _, _, _, _, _, _, _, _, _, _, _, by rw [HMM.out]⟩, hb9, (hg9.block (S + 1) (Array.getElem?_eq_some_iff.1 HP8.out).1 (fun e => by injection e with e; omega)).trans HP8.out, HK8.out.foot (FootL.of_grown hg9 (fun q hq => by injection hq with hq; exact .inl hq.symm)), ext_grown X8.out hg9 HSW.out⟩
          case measure => simp [intOf]; omega
      · have HE := Lib.hid (show newE (newD ds).nodes (newD ds).labels.length ⟨(y : Int), 0, 0, (y : Int), 0, 0, 0, false⟩ = 7 from new_is HSO.out.1 HSO.out.2 hy20 hin)
        have HF := Lib.hid (show Calls Try.prog 10 #[.agg #[.slice A20 1 c20, .slice A21 1 c21, .slice A22 nn c22, .slice A23 0 c23, .slice A24 0 c24, .slice A25 0 c25, .slice A26 0 c26, .int .i64 0, .int .i64 0, .int .i64 0], .agg #[.int .i64 (y : Int), .int .i64 0, .int .i64 0, .int .i64 (y : Int), .int .i64 0, .int .i64 0, .int .i64 0, .bool false]] wr (RegPost 0 0 0 7 (newD ds) wr) from by
          have hr := Register_any ⟨.slice A20 1 c20, .slice A21 1 c21, .slice A22 nn c22, .slice A23 0 c23, .slice A24 0 c24, .slice A25 0 c25, .slice A26 0 c26, 0, 0, 0⟩ (newD ds) ⟨(y : Int), 0, 0, (y : Int), 0, 0, 0, false⟩ wr HKR.out.rd (newD_ok (by have := HNN.out; omega)) (by show ds.length ≤ 500; have := HNN.out; omega)
          rw [HE.out] at hr
          exact hr)
        have s0 := bcel HSR.out 0 (.slice A20 1 c20) rfl
        have s1 := bcel HSR.out 1 (.slice A21 1 c21) rfl
        have s2 := bcel HSR.out 2 (.slice A22 nn c22) rfl
        have s3 := bcel HSR.out 3 (.slice A23 0 c23) rfl
        have s4 := bcel HSR.out 4 (.slice A24 0 c24) rfl
        have s5 := bcel HSR.out 5 (.slice A25 0 c25) rfl
        have s6 := bcel HSR.out 6 (.slice A26 0 c26) rfl
        have s7 := bcel HSR.out 7 (.int .i64 0) rfl
        have s8 := bcel HSR.out 8 (.int .i64 0) rfl
        have s9 := bcel HSR.out 9 (.int .i64 0) rfl
        go_wp2_with fail
        (with_reducible refine (HF.out).mono ?_)
        unfold RegPost
        rintro e w6 ⟨s, e1, e2, e3, rfl, ho, hx⟩
        obtain ⟨A30, c30, A31, c31, A32, c32, A33, c33, A34, c34, A35, c35, A36, c36, es⟩ := ho.shapeN
        rw [e1, e2, e3] at es
        subst es
        have HO6 := Lib.hid ho
        have HS6 := Lib.hid (ext_blk hx HSR.out)
        have HP6 := Lib.hid (ext_blk hx HPR.out)
        have HK6 := Lib.hid (HKR.out.ext hx)
        have X6 := Lib.hid (HXR.out.trans hx)
        clear ho hx e1 e2 e3 HF HSR HPR HKR HXR s0 s1 s2 s3 s4 s5 s6 s7 s8 s9
        simp only [SV.val]
        obtain ⟨mm, hmm⟩ : ∃ m, m = (ds).length := ⟨_, rfl⟩
        rw [← hmm] at HO6 ⊢
        have HMM := Lib.hid hmm
        clear hmm
        go_upto_region 11 with fail
        refine at_world (fun W7 hW7 => ?_)
        have HT7 := Lib.hid (show W7.heap[w6.heap.size]? = some (.cells #[.slice A30 1 c30, .slice A31 1 c31, .slice A32 mm c32, .slice A33 0 c33, .slice A34 0 c34, .slice A35 0 c35, .slice A36 0 c36, .int .i64 0, .int .i64 0, .int .i64 0] 34 (0, 0)) by rw [hW7]; exact heap_alloc_new w6 _)
        have hx : Ext w6 W7 := by rw [hW7]; exact ext_alloc _ _
        obtain ⟨T, hT⟩ : ∃ T, T = w6.heap.size := ⟨_, rfl⟩
        rw [← hT] at HT7 ⊢
        have HO7 := Lib.hid (HO6.out.ext hx)
        have HTT := Lib.hid (show S < T by rw [hT]; exact (Array.getElem?_eq_some_iff.1 HS6.out).1)
        have HS7 := Lib.hid (ext_blk hx HS6.out)
        have HP7 := Lib.hid (ext_blk hx HP6.out)
        have HK7 := Lib.hid (HK6.out.ext hx)
        have X7 := Lib.hid (X6.out.trans hx)
        clear hx hW7 hT HO6 HS6 HP6 HK6 X6
        have p0 := bcel HP7.out y (.bool true) (by rw [List.getElem?_toArray, seesV_get ds hy20, hin])
        clear hin
        go_wp2
        go_roundw
        case rel => exact ⟨k + 1, ds, ⟨.slice A20 1 c20, .slice A21 1 c21, .slice A22 nn c22, .slice A23 0 c23, .slice A24 0 c24, .slice A25 0 c25, .slice A26 0 c26, 0, 0, 0⟩, by rw [HNN.out.1], by simp, by omega, by omega, HNN.out.2, HSO.out.1, HSO.out.2, ⟨_, _, _, _, _, _, _, _, _, _, _, _, _, _, by rw [HNN.out.1]⟩, HS7.out, HP7.out, HK7.out, X7.out⟩
        case measure => simp [intOf]; omega
    by_cases hln : k < NL
    · obtain rfl : k = 40 := by omega
      have q1 : decide ((40 : Int) < (NL : Int)) = true := by simp; omega
      have q3 : (40 : Int) < (NL : Int) := by omega
      clear hlt i0
      obtain ⟨WE, hWE⟩ : ∃ W, W = wr := ⟨_, rfl⟩
      rw [← hWE] at HSR HKR HXR HSB ⊢
      clear hWE HPR
      go_wp2
      go_loopw [13] (fun i wx => ∃ (j : Nat), i = .int .i64 ((j : Int) + 1) ∧ j ≤ 20 ∧ wx.heap[S]? = some (.cells #[.slice A20 1 c20, .slice A21 1 c21, .slice A22 nn c22, .slice A23 0 c23, .slice A24 0 c24, .slice A25 0 c25, .slice A26 0 c26, .int .i64 0, .int .i64 0, .int .i64 0] 34 (0, 0)) ∧ Keeps (fun q => q = S ∨ q = S + 1) wx ⟨.slice A20 1 c20, .slice A21 1 c21, .slice A22 nn c22, .slice A23 0 c23, .slice A24 0 c24, .slice A25 0 c25, .slice A26 0 c26, 0, 0, 0⟩ (newD ds) ∧ Ext w wx) (fun i _ => 30 - (intOf i).toNat)
      case atStart => exact ⟨0, rfl, by omega, HSR.out, HKR.out, HXR.out⟩
      case round =>
        obtain ⟨j, rfl, hj, hs, hkp, hx⟩ := hrel
        clear HSR HKR HXR
        have HSR := Lib.hid hs
        have HKR := Lib.hid hkp
        have HXR := Lib.hid hx
        clear hs hkp hx
        have s2 := bcel HSR.out 2 (.slice A22 nn c22) rfl
        by_cases hjn : j + 1 < nn
        · have r1 : decide ((j : Int) + 1 < (nn : Int)) = true := by simp; omega
          have r2 : (j : Int) + 1 < (nn : Int) := by omega
          have r3 : (j : Int) < (nn : Int) := by omega
          have r4 : (0 : Int) ≤ (j : Int) := by omega
          have r5 : (0 : Int) ≤ (j : Int) + 1 := by omega
          have r6 : ((j : Int) + 1).toNat = j + 1 := by omega
          have w1' : wrap64 ((j : Int) + 1 - 1) = (j : Int) := by have := HNN.out; unfold wrap64; omega
          have w2' : IntKind.wrap .i64 ((j : Int) + 1 - 1) = (j : Int) := by have := HNN.out; rw [IntKind.wrap_i64]; omega
          have hnd : Hd wr (.slice A22 nn c22) ds.length (ncells ds) := HKR.out.rd.nodes
          have w3' : wrap64 (j : Int) = (j : Int) := by have := HNN.out; unfold wrap64; omega
          have w4' : IntKind.wrap .i64 (j : Int) = (j : Int) := by have := HNN.out; rw [IntKind.wrap_i64]; omega
          obtain ⟨A9, N9, c9, e9, hN9, _, _, hc9⟩ := hnd.node
          injection e9 with e91 e92 e93
          obtain ⟨gn, hgn, hcells⟩ := hc9 (by have := HNN.out; omega)
          subst e91
          subst hgn
          have hl1 : j < ds.length := by have := HNN.out; omega
          have hl2 : j + 1 < ds.length := by have := HNN.out; omega
          have q1 := (hcells j hl1).1
          have q2 := (hcells (j + 1) hl2).1
          have hlt2 : (ds[j]).id < (ds[j + 1]).id := by
            have h := HSO.out.1
            unfold Srt at h
            rw [List.pairwise_iff_getElem] at h
            exact h j (j + 1) hl1 hl2 (by omega)
          obtain ⟨x1, hx1⟩ : ∃ x, x = (ds[j]).id := ⟨_, rfl⟩
          obtain ⟨x2, hx2⟩ : ∃ x, x = (ds[j + 1]).id := ⟨_, rfl⟩
          rw [← hx1] at q1 hlt2
          rw [← hx2] at q2 hlt2
          have r7 : decide (x1 ≥ x2) = false := by simp; omega
          have r8 : decide (x2 ≤ x1) = false := by simp; omega
          clear hnd hcells hc9 hx1 hx2 hlt2 hN9 e92 e93
          go_wp2
          refine wp_region_sched Ext ext_way [(0, true), (1, true), (2, true), (3, true), (4, true), (5, true), (6, true), (7, true), (8, true), (9, true), (10, true), (11, true), (12, true), (13, true)] (by kernel_rfl) (by kernel_rfl) (fun _ _ _ _ _ h => h) ?_
          repeat first | ((with_reducible refine sched_free ?_ ?_ ?_ ?_ (fun wk k1 => ?_) ?_); rotate_left 2; (rfl); (first | exact want_none rfl | exact want_some rfl rfl rfl rfl); (go_simp; first | exact OkX.val | (have y2 := k1.cell ((Ext.drew _).cell s2); have y3 := k1.cell ((Ext.drew _).cell q1); have y4 := k1.cell ((Ext.drew _).cell q2); go_simp; exact OkX.val)); simp only [Act.put, List.setIfInBounds_toArray, List.set_cons_zero, List.set_cons_succ]) | ((with_reducible refine sched_skip ?_ ?_ ?_ ?_); rotate_left; (rfl); (exact want_not rfl rfl rfl rfl rfl); simp only [Act.put, List.setIfInBounds_toArray, List.set_cons_zero, List.set_cons_succ])
          refine sched_done (fun wz k1 => ?_)
          have EZ := Lib.hid ((Ext.drew _).trans k1)
          clear k1 s2 q1 q2
          go_wp2
          go_roundw
          case rel => exact ⟨j + 1, by simp, by omega, ext_blk EZ.out HSR.out, HKR.out.ext EZ.out, HXR.out.trans EZ.out⟩
          case measure => simp [intOf]; omega
        · have r1 : decide ((j : Int) + 1 < (nn : Int)) = false := by simp; omega
          have r2 : ¬ (j : Int) + 1 < (nn : Int) := by omega
          by_cases hn0 : nn = 0
          · subst hn0
            go_wp2
            go_ret
            exact ⟨rfl, HXR.out⟩
          have r3 : ((nn : Int) == 0) = false := by simp; omega
          have r4 : ¬ (nn : Int) = 0 := by omega
          go_wp2_with fail
          (with_reducible refine (within8_some again nn (nn : Int) _ rfl (by omega)).mono ?_)
          rintro e w5 ⟨k2, rfl, hk2', hk2, rfl⟩
          clear hk2' r1 r2 hjn
          have hnd : Hd wr (.slice A22 nn c22) ds.length (ncells ds) := HKR.out.rd.nodes
          obtain ⟨A9, c9, e9, _, _, hc9⟩ := hnd
          injection e9 with e91 e92 e93
          subst e91
          obtain ⟨gn, hgn, hgl, hcells⟩ := hc9 (by have := HNN.out; omega)
          subst hgn
          have HSRC := Lib.hid (show ∀ (q : Nat) (u : Value), (ncells ds)[q]? = some u → (wr.alloc (.cells #[] 44)).cell? ((⟨gn, 0, none⟩ : Addr).add q) = some u from fun q u hu => by rw [head_add, Nat.zero_add]; exact (ext_alloc _ _).cell (hcells q u hu))
          have HNL2 := Lib.hid (show (ncells ds).length = nn * 8 by rw [ncells_len, HNN.out.1])
          have HOE := Lib.hid (own_emptyT wr wr.heap.size 44 8 (Nat.le_refl _))
          have s2 := fun o => bcel (ext_blk (ext_alloc wr o) HSR.out) 2 (.slice (some ⟨gn, 0, none⟩) nn c22) rfl
          obtain ⟨i0, hi, hz0, hz1, hz2⟩ := info_parts Try.infoClNode
          clear hgl hcells hc9 e92 e93
          go_wp2_with (at_builtin; go_loud (refine wpList_append_own_at _ rfl (.tmp 90) (.tmp 92) 28 rfl wr.heap.size 44 i0 _ 8 64 Try.underlying28 hi hz0 hz1 hz2 rfl (by decide) _ 0 [] rfl HOE.out ⟨gn, 0, none⟩ nn c22 (ncells ds) rfl HNL2.out HSRC.out (ncells_one ds) (by have := HNN.out; simp [maxLen]; omega) (by have := HNN.out; omega) (by simp) ?_))
          intro v' w6 ho6 hg6 _ _
          have X6 := Lib.hid ((ext_alloc wr (.cells #[] 44)).trans' (grown_below hg6 (by simp) (fun q hq => by simp [Value.ownBlock] at hq; omega)))
          obtain ⟨AL, cL, rfl, hcL1, hcL2⟩ := own_shape ho6
          have ho6 : w6.ownsRow wr.heap.size 44 8 (.slice AL nn cL) nn (ncells ds) := by simpa using ho6
          obtain ⟨L, hAL, hL1, hL2, hLf, hLc⟩ := own_head ho6 (by omega)
          subst hAL
          have HO6 := Lib.hid ho6
          have HLB := Lib.hid (show wr.heap.size ≤ L ∧ L < w6.heap.size from ⟨hL1, hL2⟩)
          have hkd : k2 < ds.length := by have := HNN.out; omega
          obtain ⟨y, hy20, hdk⟩ := HSO.out.2 _ (List.getElem_mem hkd)
          have HDK := Lib.hid (show ds[k2] = nodeY y from hdk)
          have q6 := hLc (k2 * 8 + 6) (.int .i64 0) (by have := flat_get nenc 8 (fun _ => rfl) ds k2 6 hkd (by omega); rw [hdk] at this; exact this)
          have q7 := hLc (k2 * 8 + 7) (.bool true) (by have := flat_get nenc 8 (fun _ => rfl) ds k2 7 hkd (by omega); rw [hdk] at this; exact this)
          have HS6 := Lib.hid (ext_blk X6.out HSR.out)
          have k0' : (0 : Int) ≤ (k2 : Int) := by omega
          have k1' : (k2 : Int) < (nn : Int) := by omega
          clear ho6 hg6 hL1 hL2 hLc s2 HSRC HNL2 HOE hdk
          go_upto_region 32 with fail
          refine at_world (fun W7 hW7 => ?_)
          have hg7 := (bgrown w6 L (k2 * 8 + 7) (.bool false)).trans (bgrown (w6.setCell ⟨L, k2 * 8 + 7, none⟩ (.bool false)) L (k2 * 8 + 6) (.int .i64 7))
          have hr7 := ((HO6.out.stored (k2 * 8 + 7) (.bool false)).1.stored (k2 * 8 + 6) (.int .i64 7)).1
          rw [← hW7] at hg7 hr7
          have HSL := Lib.hid (show S < wr.heap.size from (Array.getElem?_eq_some_iff.1 HSR.out).1)
          have HS7 := Lib.hid ((hg7.block S (Array.getElem?_eq_some_iff.1 HS6.out).1 (fun e => by injection e with e; have := HLB.out; have := HSL.out; omega)).trans HS6.out)
          have HO7 := Lib.hid (show W7.ownsRow wr.heap.size 44 8 (.slice (some ⟨L, 0, none⟩) nn cL) nn (ncells (ds.set k2 (nodeD y))) by rw [ncells_down ds k2 hkd HDK.out]; exact hr7)
          have F7 := Lib.hid (show FootL (fun q => q = S ∨ q = S + 1) wr W7 from ⟨(hg7.os).trans X6.out.os, (hg7.tape).trans X6.out.tape, (hg7.output).trans X6.out.output, Nat.le_trans X6.out.size hg7.size, fun q hq _ => (hg7.block q (Nat.lt_of_lt_of_le hq X6.out.size) (fun e => by injection e with e; have := HLB.out; omega)).trans (X6.out.block q hq)⟩)
          have X7 := Lib.hid (show Ext wr W7 from X6.out.trans' (grown_below hg7 X6.out.size (fun q hq => by injection hq with hq; have := HLB.out; omega)))
          clear hW7 hg7 hr7 q6 q7 hLf HS6 HO6 X6
          have s2 := bcel HS7.out 2 (.slice (some ⟨gn, 0, none⟩) nn c22) rfl
          have sf := fun q => bfre HS7.out q
          go_upto_region 33 with fail
          refine at_world (fun W8 hW8 => ?_)
          have hg8 := bgrown W7 S 2 (.slice (some ⟨L, 0, none⟩) nn cL)
          have hb8 := bset HS7.out 2 (.slice (some ⟨L, 0, none⟩) nn cL)
          rw [← hW8] at hg8 hb8
          have HS8 := Lib.hid (show W8.heap[S]? = some (.cells #[.slice A20 1 c20, .slice A21 1 c21, .slice (some ⟨L, 0, none⟩) nn cL, .slice A23 0 c23, .slice A24 0 c24, .slice A25 0 c25, .slice A26 0 c26, .int .i64 0, .int .i64 0, .int .i64 0] 34 (0, 0)) from hb8)
          have HO8 := Lib.hid (own_low HO7.out hg8 HSL.out)
          have F8 := Lib.hid ((FootL_way _).trans F7.out (FootL.of_grown hg8 (fun q hq => by injection hq with hq; exact .inl hq.symm)))
          have X8 := Lib.hid (ext_grown (HXR.out.trans X7.out) hg8 HSW.out)
          obtain ⟨ds2, hds2⟩ : ∃ d, d = ds.set k2 (nodeD y) := ⟨_, rfl⟩
          rw [← hds2] at HO8
          have hl2 : ds2.length = nn := by rw [hds2, List.length_set, HNN.out.1]
          have HL2 := Lib.hid hl2
          have HRS := Lib.hid (show StRd W8 ⟨.slice A20 1 c20, .slice A21 1 c21, .slice (some ⟨L, 0, none⟩) nn cL, .slice A23 0 c23, .slice A24 0 c24, .slice A25 0 c25, .slice A26 0 c26, 0, 0, 0⟩ (newD ds2) from (fun (h : StRd W8 ⟨.slice A20 1 c20, .slice A21 1 c21, .slice (some ⟨gn, 0, none⟩) nn c22, .slice A23 0 c23, .slice A24 0 c24, .slice A25 0 c25, .slice A26 0 c26, 0, 0, 0⟩ (newD ds)) => ⟨h.labs, h.queues, by have h9 := Hd.of_own HO8.out; rw [← hl2] at h9; exact (by rw [← hl2]; exact h9), h.apps, h.conts, h.slots, h.plans⟩) (HKR.out W8 F8.out))
          have hkk : k2 < ds2.length := by rw [hl2]; exact hk2
          have hid2 : ds2[k2] = nodeD y := by simp only [hds2, List.getElem_set_self]
          have hsr2 : Srt ds2 := by rw [hds2]; exact srt_set HSO.out.1 hkd _ (by rw [HDK.out]; rfl)
          have hix : idxN ds2 (y : Int) = k2 := by have := idx_of hsr2 hkk; rw [hid2] at this; exact this
          have hE : newE (newD ds2).nodes (newD ds2).labels.length ⟨(y : Int), 0, 9, 0, 0, 0, 0, false⟩ = 0 := by
            unfold newE
            show errNew (okN _ _) (getN ds2 (y : Int)).up (hasN ds2 (y : Int)) _ = 0
            rw [getN_at (by rw [hix]; exact hkk), show hasN ds2 (y : Int) = true by unfold hasN; rw [hix]; simpa using hkk]
            simp only [hix, hid2]
            rw [show okN ⟨(y : Int), 0, 9, 0, 0, 0, 0, false⟩ ((newD ds2).labels.length : Int) = true by unfold okN inB; simp [newD]; omega]
            rfl
          have hD : regD (newD ds2) ⟨(y : Int), 0, 9, 0, 0, 0, 0, false⟩ 0 0 = newD (ds2.set k2 (nodeZ y)) := by
            show newD (putN ds2 (nodeZ y)) = _
            rw [putN_again (nodeZ y) ds2 k2 hkk hsr2 (by rw [hid2]; rfl)]
          have HF := Lib.hid (fun W (x : Ext W8 W) => (show Calls Try.prog 10 #[.agg #[.slice A20 1 c20, .slice A21 1 c21, .slice (some ⟨L, 0, none⟩) nn cL, .slice A23 0 c23, .slice A24 0 c24, .slice A25 0 c25, .slice A26 0 c26, .int .i64 0, .int .i64 0, .int .i64 0], .agg #[.int .i64 (y : Int), .int .i64 0, .int .i64 9, .int .i64 0, .int .i64 0, .int .i64 0, .int .i64 0, .bool false]] W (RegPost 0 0 0 0 (newD (ds2.set k2 (nodeZ y))) W) from by
            have hr := Register_any ⟨.slice A20 1 c20, .slice A21 1 c21, .slice (some ⟨L, 0, none⟩) nn cL, .slice A23 0 c23, .slice A24 0 c24, .slice A25 0 c25, .slice A26 0 c26, 0, 0, 0⟩ (newD ds2) ⟨(y : Int), 0, 9, 0, 0, 0, 0, false⟩ W (HRS.out.ext x) (newD_ok (by have := HNN.out; omega)) (by show ds2.length ≤ 500; have := HNN.out; omega)
            rw [hE, hD] at hr
            exact hr))
          have l0 := (show W8.cell? ⟨L, k2 * 8, none⟩ = some (.int .i64 (y : Int)) from by
            obtain ⟨L', hL', _, _, _, hc⟩ := own_head HO8.out (by omega)
            simp only [Option.some.injEq, Addr.mk.injEq, and_true] at hL'
            subst hL'
            have h9 := flat_get nenc 8 (fun _ => rfl) ds2 k2 0 hkk (by omega)
            rw [hid2] at h9
            exact hc (k2 * 8) _ h9)
          have HZN := Lib.hid (show (ds2.set k2 (nodeZ y))[k2]? = some (nodeZ y) by rw [List.getElem?_set_self hkk])
          have HZL := Lib.hid (show (ds2.set k2 (nodeZ y)).length = nn by rw [List.length_set]; exact hl2)
          have HL0 := Lib.hid l0
          clear hW8 hg8 hb8 hE hD hds2 hl2 hkk hid2 hsr2 hix s2 sf HS7 HO7 F7 X7 F8 HKR HO8 HRS HDK HSO hkd
          go_cut [16, 17] from 104 to 114 (fun s16 s17 wx => Md W8 nn (ncells (ds2.set k2 (nodeZ y))) s16 s17 wx)
          case first =>
            have s0 := bcel HS8.out 0 (.slice A20 1 c20) rfl
            have s1 := bcel HS8.out 1 (.slice A21 1 c21) rfl
            have s2 := bcel HS8.out 2 (.slice (some ⟨L, 0, none⟩) nn cL) rfl
            have s3 := bcel HS8.out 3 (.slice A23 0 c23) rfl
            have s4 := bcel HS8.out 4 (.slice A24 0 c24) rfl
            have s5 := bcel HS8.out 5 (.slice A25 0 c25) rfl
            have s6 := bcel HS8.out 6 (.slice A26 0 c26) rfl
            have s7 := bcel HS8.out 7 (.int .i64 0) rfl
            have s8 := bcel HS8.out 8 (.int .i64 0) rfl
            have s9 := bcel HS8.out 9 (.int .i64 0) rfl
            refine wp_region_tree (LBelow W8.heap.size) (LBelow_way _) (.free 0 (.free 1 (.free 2 (.free 3 (.free 4 (.free 5 (.free 6 (.two 7 11 (.free 8 (.free 9 (.free 10 (.step 11 (.step 12 (.free 13 .done)))))) (.step 7 (.free 8 (.free 9 (.free 10 (.step 12 (.free 13 .done)))))))))))))) (by kernel_rfl) (by kernel_rfl) (fun _ _ _ _ _ h => h) ?_
            repeat first | ((with_reducible refine tree_free ?_ ?_ ?_ ?_ (fun wk k1 => ?_) ?_); rotate_left 2; (rfl); (first | exact want_none rfl | exact want_some rfl rfl rfl rfl); (go_simp; first | exact OkX.val | (have kk := LBelow.ext k1; have y0 := kk.cell s0; have y1 := kk.cell s1; have y2 := kk.cell s2; have y3 := kk.cell s3; have y4 := kk.cell s4; have y5 := kk.cell s5; have y6 := kk.cell s6; have y7 := kk.cell s7; have y8 := kk.cell s8; have y9 := kk.cell s9; have x0 := kk.cell l0; go_simp; exact OkX.val)); simp only [Act.put, List.setIfInBounds_toArray, List.set_cons_zero, List.set_cons_succ]) | ((with_reducible refine tree_skip ?_ ?_ ?_ ?_); rotate_left; (rfl); (exact want_not rfl rfl rfl rfl rfl); simp only [Act.put, List.setIfInBounds_toArray, List.set_cons_zero, List.set_cons_succ])
            clear l0 s0 s1 s2 s3 s4 s5 s6 s7 s8 s9
            ((with_reducible refine tree_two ?_ ?_ ?_ ?_ ?_ ?_ (fun wk k1 => ?_) (fun wk k1 => ?_)); rotate_left 2; (rfl); (first | exact want_none rfl | exact want_some rfl rfl rfl rfl); (rfl); (first | exact want_none rfl | exact want_some rfl rfl rfl rfl))
            · have EC := Lib.hid ((Ext.drew _).trans k1)
              clear k1
              go_simp
              (with_reducible refine (HF.out _ EC.out).mono ?_)
              unfold RegPost
              rintro e wf ⟨s, e1, e2, e3, rfl, ho, hxf⟩
              refine ⟨(LBelow_way _).ext hxf, ?_⟩
              try simp only [Act.put, List.setIfInBounds_toArray, List.set_cons_zero, List.set_cons_succ]
              obtain ⟨A40, c40, A41, c41, A42, c42, A43, c43, A44, c44, A45, c45, A46, c46, es⟩ := ho.shapeN
              rw [e1, e2, e3] at es
              subst es
              obtain ⟨mm, hmm⟩ : ∃ m, m = (ds2.set k2 (nodeZ y)).length := ⟨_, rfl⟩
              rw [← hmm] at ho ⊢
              have hmn : mm = nn := hmm.trans HZL.out
              have HOW := Lib.hid (show wf.ownsRow W8.heap.size 44 8 (.slice A42 mm c42) mm (ncells (ds2.set k2 (nodeZ y))) from own_base (by have h := ho.nodes; dsimp only at h; rw [hmm] at h ⊢; exact h) EC.out.size)
              have HMN := Lib.hid hmn
              clear e1 e2 e3 ho hmm hmn
              simp only [SV.val]
              have E1 := Lib.hid (EC.out.trans hxf)
              clear hxf EC
              repeat first | ((with_reducible refine tree_free ?_ ?_ ?_ ?_ (fun wk k1 => ?_) ?_); rotate_left 2; (rfl); (first | exact want_none rfl | exact want_some rfl rfl rfl rfl); (go_simp; first | exact OkX.val); simp only [Act.put, List.setIfInBounds_toArray, List.set_cons_zero, List.set_cons_succ]) | ((with_reducible refine tree_skip ?_ ?_ ?_ ?_); rotate_left; (rfl); (exact want_not rfl rfl rfl rfl rfl); simp only [Act.put, List.setIfInBounds_toArray, List.set_cons_zero, List.set_cons_succ])
              ((with_reducible refine tree_step ?_ ?_ ?_ (fun wk k1 => ?_)); rotate_left; (rfl); (first | exact want_none rfl | exact want_some rfl rfl rfl rfl))
              have E1' := Lib.hid (E1.out.trans k1)
              have HOW' := Lib.hid (own_ExtK HOW.out k1)
              clear k1 HOW
              go_simp
              refine ⟨(LBelow_way _).ext (ext_alloc _ _), ?_⟩
              try simp only [Act.put, List.setIfInBounds_toArray, List.set_cons_zero, List.set_cons_succ]
              have HT := Lib.hid (heap_alloc_new wk (.cells #[.slice none 0 0, .slice none 0 0, .slice none 0 0, .slice none 0 0, .slice none 0 0, .slice none 0 0, .slice none 0 0, .int .i64 0, .int .i64 0, .int .i64 0] 34 (0, 0)))
              have E2 := Lib.hid (E1'.out.trans (ext_alloc wk (.cells #[.slice none 0 0, .slice none 0 0, .slice none 0 0, .slice none 0 0, .slice none 0 0, .slice none 0 0, .slice none 0 0, .int .i64 0, .int .i64 0, .int .i64 0] 34 (0, 0))))
              have HOW := Lib.hid (own_ExtK HOW'.out (ext_alloc wk (.cells #[.slice none 0 0, .slice none 0 0, .slice none 0 0, .slice none 0 0, .slice none 0 0, .slice none 0 0, .slice none 0 0, .int .i64 0, .int .i64 0, .int .i64 0] 34 (0, 0))))
              obtain ⟨T, hT⟩ : ∃ T, T = wk.heap.size := ⟨_, rfl⟩
              have HTB := Lib.hid (show W8.heap.size ≤ T by rw [hT]; exact E1'.out.size)
              rw [← hT] at HT ⊢
              clear hT HOW' E1'
              ((with_reducible refine tree_step ?_ ?_ ?_ (fun wk k1 => ?_)); rotate_left; (rfl); (first | exact want_none rfl | exact want_some rfl rfl rfl rfl))
              have hb2 := ext_blk k1 HT.out
              have E3 := Lib.hid (E2.out.trans k1)
              have HW3 := Lib.hid (own_ExtK HOW.out k1)
              clear k1 HOW
              have d0 := bcel hb2 0 (.slice none 0 0) rfl
              have d1 := bcel hb2 1 (.slice none 0 0) rfl
              have d2 := bcel hb2 2 (.slice none 0 0) rfl
              have d3 := bcel hb2 3 (.slice none 0 0) rfl
              have d4 := bcel hb2 4 (.slice none 0 0) rfl
              have d5 := bcel hb2 5 (.slice none 0 0) rfl
              have d6 := bcel hb2 6 (.slice none 0 0) rfl
              have d7 := bcel hb2 7 (.int .i64 0) rfl
              have d8 := bcel hb2 8 (.int .i64 0) rfl
              have d9 := bcel hb2 9 (.int .i64 0) rfl
              have fd := fun j => bfre hb2 j
              go_simp
              have hgr := grown10 wk T (.slice A40 1 c40) (.slice A41 1 c41) (.slice A42 mm c42) (.slice A43 0 c43) (.slice A44 0 c44) (.slice A45 0 c45) (.slice A46 0 c46) (.int .i64 0) (.int .i64 0) (.int .i64 0)
              refine ⟨fun _ => grown_below hgr E3.out.size (fun k hk => by injection hk with hk; have := HTB.out; omega), ?_⟩
              try simp only [Act.put, List.setIfInBounds_toArray, List.set_cons_zero, List.set_cons_succ]
              have hb9 := bset10 hb2 (.slice A40 1 c40) (.slice A41 1 c41) (.slice A42 mm c42) (.slice A43 0 c43) (.slice A44 0 c44) (.slice A45 0 c45) (.slice A46 0 c46) (.int .i64 0) (.int .i64 0) (.int .i64 0)
              obtain ⟨W9, hW9⟩ : ∃ W9, W9 = ((((((((((wk.setCell ⟨T, 0, none⟩ (.slice A40 1 c40)).setCell ⟨T, 1, none⟩ (.slice A41 1 c41)).setCell ⟨T, 2, none⟩ (.slice A42 mm c42)).setCell ⟨T, 3, none⟩ (.slice A43 0 c43)).setCell ⟨T, 4, none⟩ (.slice A44 0 c44)).setCell ⟨T, 5, none⟩ (.slice A45 0 c45)).setCell ⟨T, 6, none⟩ (.slice A46 0 c46)).setCell ⟨T, 7, none⟩ (.int .i64 0)).setCell ⟨T, 8, none⟩ (.int .i64 0)).setCell ⟨T, 9, none⟩ (.int .i64 0)) := ⟨_, rfl⟩
              rw [← hW9] at hgr hb9 ⊢
              have HW9 := Lib.hid (HW3.out.kept hgr (.inr (own_other HW3.out hb2 (by decide))))
              clear hW9 hb2 fd d0 d1 d2 d3 d4 d5 d6 d7 d8 d9
              repeat first | ((with_reducible refine tree_free ?_ ?_ ?_ ?_ (fun wk k1 => ?_) ?_); rotate_left 2; (rfl); (first | exact want_none rfl | exact want_some rfl rfl rfl rfl); (go_simp; first | exact OkX.val); simp only [Act.put, List.setIfInBounds_toArray, List.set_cons_zero, List.set_cons_succ]) | ((with_reducible refine tree_skip ?_ ?_ ?_ ?_); rotate_left; (rfl); (exact want_not rfl rfl rfl rfl rfl); simp only [Act.put, List.setIfInBounds_toArray, List.set_cons_zero, List.set_cons_succ])
              refine tree_done (fun wz k1 => ?_)
              have hfin := Lib.hid (show Md W8 nn (ncells (ds2.set k2 (nodeZ y))) (.pointer (some ⟨T, 0, none⟩)) (.int .i64 0) wz from
                ⟨T, ⟨.slice A40 1 c40, .slice A41 1 c41, .slice A42 mm c42, .slice A43 0 c43, .slice A44 0 c44, .slice A45 0 c45, .slice A46 0 c46, 0, 0, 0⟩, rfl, rfl, ext_blk k1 hb9, by rw [← HMN.out]; exact own_ExtK HW9.out k1, (ext_grown E3.out hgr HTB.out).trans k1⟩)
              clear k1
              go_wp2
              go_meet
              case rel => exact hfin.out
            · have E0 := Lib.hid ((Ext.drew _).trans k1)
              clear k1
              go_simp
              refine ⟨(LBelow_way _).ext (ext_alloc _ _), ?_⟩
              try simp only [Act.put, List.setIfInBounds_toArray, List.set_cons_zero, List.set_cons_succ]
              have HT' := Lib.hid (heap_alloc_new wk (.cells #[.slice none 0 0, .slice none 0 0, .slice none 0 0, .slice none 0 0, .slice none 0 0, .slice none 0 0, .slice none 0 0, .int .i64 0, .int .i64 0, .int .i64 0] 34 (0, 0)))
              have E2' := Lib.hid (E0.out.trans (ext_alloc wk (.cells #[.slice none 0 0, .slice none 0 0, .slice none 0 0, .slice none 0 0, .slice none 0 0, .slice none 0 0, .slice none 0 0, .int .i64 0, .int .i64 0, .int .i64 0] 34 (0, 0))))
              obtain ⟨T, hT⟩ : ∃ T, T = wk.heap.size := ⟨_, rfl⟩
              have HTB := Lib.hid (show W8.heap.size ≤ T by rw [hT]; exact E0.out.size)
              rw [← hT] at HT' ⊢
              clear hT
              ((with_reducible refine tree_step ?_ ?_ ?_ (fun wk k1 => ?_)); rotate_left; (rfl); (first | exact want_none rfl | exact want_some rfl rfl rfl rfl))
              have EC := Lib.hid (E2'.out.trans k1)
              have HT'' := Lib.hid (ext_blk k1 HT'.out)
              clear k1
              go_simp
              (with_reducible refine (HF.out _ EC.out).mono ?_)
              unfold RegPost
              rintro e wf ⟨s, e1, e2, e3, rfl, ho, hxf⟩
              refine ⟨(LBelow_way _).ext hxf, ?_⟩
              try simp only [Act.put, List.setIfInBounds_toArray, List.set_cons_zero, List.set_cons_succ]
              obtain ⟨A40, c40, A41, c41, A42, c42, A43, c43, A44, c44, A45, c45, A46, c46, es⟩ := ho.shapeN
              rw [e1, e2, e3] at es
              subst es
              obtain ⟨mm, hmm⟩ : ∃ m, m = (ds2.set k2 (nodeZ y)).length := ⟨_, rfl⟩
              rw [← hmm] at ho ⊢
              have hmn : mm = nn := hmm.trans HZL.out
              have HOW := Lib.hid (show wf.ownsRow W8.heap.size 44 8 (.slice A42 mm c42) mm (ncells (ds2.set k2 (nodeZ y))) from own_base (by have h := ho.nodes; dsimp only at h; rw [hmm] at h ⊢; exact h) EC.out.size)
              have HMN := Lib.hid hmn
              clear e1 e2 e3 ho hmm hmn
              simp only [SV.val]
              have E2 := Lib.hid (EC.out.trans hxf)
              have HT := Lib.hid (ext_blk hxf HT''.out)
              clear hxf EC HT' HT''
              repeat first | ((with_reducible refine tree_free ?_ ?_ ?_ ?_ (fun wk k1 => ?_) ?_); rotate_left 2; (rfl); (first | exact want_none rfl | exact want_some rfl rfl rfl rfl); (go_simp; first | exact OkX.val); simp only [Act.put, List.setIfInBounds_toArray, List.set_cons_zero, List.set_cons_succ]) | ((with_reducible refine tree_skip ?_ ?_ ?_ ?_); rotate_left; (rfl); (exact want_not rfl rfl rfl rfl rfl); simp only [Act.put, List.setIfInBounds_toArray, List.set_cons_zero, List.set_cons_succ])
              ((with_reducible refine tree_step ?_ ?_ ?_ (fun wk k1 => ?_)); rotate_left; (rfl); (first | exact want_none rfl | exact want_some rfl rfl rfl rfl))
              have hb2 := ext_blk k1 HT.out
              have E3 := Lib.hid (E2.out.trans k1)
              have HW3 := Lib.hid (own_ExtK HOW.out k1)
              clear k1 HOW
              have d0 := bcel hb2 0 (.slice none 0 0) rfl
              have d1 := bcel hb2 1 (.slice none 0 0) rfl
              have d2 := bcel hb2 2 (.slice none 0 0) rfl
              have d3 := bcel hb2 3 (.slice none 0 0) rfl
              have d4 := bcel hb2 4 (.slice none 0 0) rfl
              have d5 := bcel hb2 5 (.slice none 0 0) rfl
              have d6 := bcel hb2 6 (.slice none 0 0) rfl
              have d7 := bcel hb2 7 (.int .i64 0) rfl
              have d8 := bcel hb2 8 (.int .i64 0) rfl
              have d9 := bcel hb2 9 (.int .i64 0) rfl
              have fd := fun j => bfre hb2 j
              go_simp
              have hgr := grown10 wk T (.slice A40 1 c40) (.slice A41 1 c41) (.slice A42 mm c42) (.slice A43 0 c43) (.slice A44 0 c44) (.slice A45 0 c45) (.slice A46 0 c46) (.int .i64 0) (.int .i64 0) (.int .i64 0)
              refine ⟨fun _ => grown_below hgr E3.out.size (fun k hk => by injection hk with hk; have := HTB.out; omega), ?_⟩
              try simp only [Act.put, List.setIfInBounds_toArray, List.set_cons_zero, List.set_cons_succ]
              have hb9 := bset10 hb2 (.slice A40 1 c40) (.slice A41 1 c41) (.slice A42 mm c42) (.slice A43 0 c43) (.slice A44 0 c44) (.slice A45 0 c45) (.slice A46 0 c46) (.int .i64 0) (.int .i64 0) (.int .i64 0)
              obtain ⟨W9, hW9⟩ : ∃ W9, W9 = ((((((((((wk.setCell ⟨T, 0, none⟩ (.slice A40 1 c40)).setCell ⟨T, 1, none⟩ (.slice A41 1 c41)).setCell ⟨T, 2, none⟩ (.slice A42 mm c42)).setCell ⟨T, 3, none⟩ (.slice A43 0 c43)).setCell ⟨T, 4, none⟩ (.slice A44 0 c44)).setCell ⟨T, 5, none⟩ (.slice A45 0 c45)).setCell ⟨T, 6, none⟩ (.slice A46 0 c46)).setCell ⟨T, 7, none⟩ (.int .i64 0)).setCell ⟨T, 8, none⟩ (.int .i64 0)).setCell ⟨T, 9, none⟩ (.int .i64 0)) := ⟨_, rfl⟩
              rw [← hW9] at hgr hb9 ⊢
              have HW9 := Lib.hid (HW3.out.kept hgr (.inr (own_other HW3.out hb2 (by decide))))
              clear hW9 hb2 fd d0 d1 d2 d3 d4 d5 d6 d7 d8 d9
              repeat first | ((with_reducible refine tree_free ?_ ?_ ?_ ?_ (fun wk k1 => ?_) ?_); rotate_left 2; (rfl); (first | exact want_none rfl | exact want_some rfl rfl rfl rfl); (go_simp; first | exact OkX.val); simp only [Act.put, List.setIfInBounds_toArray, List.set_cons_zero, List.set_cons_succ]) | ((with_reducible refine tree_skip ?_ ?_ ?_ ?_); rotate_left; (rfl); (exact want_not rfl rfl rfl rfl rfl); simp only [Act.put, List.setIfInBounds_toArray, List.set_cons_zero, List.set_cons_succ])
              refine tree_done (fun wz k1 => ?_)
              have hfin := Lib.hid (show Md W8 nn (ncells (ds2.set k2 (nodeZ y))) (.pointer (some ⟨T, 0, none⟩)) (.int .i64 0) wz from
                ⟨T, ⟨.slice A40 1 c40, .slice A41 1 c41, .slice A42 mm c42, .slice A43 0 c43, .slice A44 0 c44, .slice A45 0 c45, .slice A46 0 c46, 0, 0, 0⟩, rfl, rfl, ext_blk k1 hb9, by rw [← HMN.out]; exact own_ExtK HW9.out k1, (ext_grown E3.out hgr HTB.out).trans k1⟩)
              clear k1
              go_wp2
              go_meet
              case rel => exact hfin.out
          case rest =>
          obtain ⟨T, s3, rfl, rfl, hT, hown, hx⟩ := hcut
          obtain ⟨AG, cG, eG, hcG1, hcG2⟩ := own_shape hown
          rw [eG] at hown
          obtain ⟨G, hAG, _, _, _, hGc⟩ := own_head hown (by omega)
          subst hAG
          have t2 := bcel hT 2 (.slice (some ⟨G, 0, none⟩) nn cG) (by show some s3.vn = _; rw [eG])
          have hkz : k2 < (ds2.set k2 (nodeZ y)).length := by rw [HZL.out]; exact hk2
          have hz : (ds2.set k2 (nodeZ y))[k2] = nodeZ y := by simp
          have g0 := hGc (k2 * 8) (.int .i64 (y : Int)) (by have h9 := flat_get nenc 8 (fun _ => rfl) (ds2.set k2 (nodeZ y)) k2 0 hkz (by omega); rw [hz] at h9; exact h9)
          have g2 := hGc (k2 * 8 + 2) (.int .i64 9) (by have h9 := flat_get nenc 8 (fun _ => rfl) (ds2.set k2 (nodeZ y)) k2 2 hkz (by omega); rw [hz] at h9; exact h9)
          have g6 := hGc (k2 * 8 + 6) (.int .i64 0) (by have h9 := flat_get nenc 8 (fun _ => rfl) (ds2.set k2 (nodeZ y)) k2 6 hkz (by omega); rw [hz] at h9; exact h9)
          have g7 := hGc (k2 * 8 + 7) (.bool true) (by have h9 := flat_get nenc 8 (fun _ => rfl) (ds2.set k2 (nodeZ y)) k2 7 hkz (by omega); rw [hz] at h9; exact h9)
          have l0 := hx.cell HL0.out
          have XF := Lib.hid (X8.out.trans hx)
          clear hT hown hx eG hGc hkz hz HZN HZL HL0 X8 HS8 HF
          go_wp2
          refine wp_region_sched Ext ext_way [(0, true), (1, true), (2, true), (3, true), (4, true), (5, true), (6, true), (7, true), (8, true), (9, true), (10, true), (11, true), (12, true), (13, true), (14, true), (15, true), (16, true), (17, true), (18, true), (19, true), (20, true), (21, true), (22, true), (23, true), (24, true), (25, true), (26, true), (27, true), (28, true), (29, true), (30, true), (31, true), (32, true), (33, true), (34, true), (35, true), (36, true), (37, true), (38, true), (39, true), (40, true), (41, true), (42, true), (43, true), (44, true), (45, true), (46, true), (47, true), (48, true), (49, true)] (by kernel_rfl) (by kernel_rfl) (fun _ _ _ _ _ h => h) ?_
          repeat first | ((with_reducible refine sched_free ?_ ?_ ?_ ?_ (fun wk k1 => ?_) ?_); rotate_left 2; (rfl); (first | exact want_none rfl | exact want_some rfl rfl rfl rfl); (go_simp; first | exact OkX.val | (have y0 := k1.cell ((Ext.drew _).cell t2); have y1 := k1.cell ((Ext.drew _).cell g0); have y2 := k1.cell ((Ext.drew _).cell g2); have y3 := k1.cell ((Ext.drew _).cell g6); have y4 := k1.cell ((Ext.drew _).cell g7); have y5 := k1.cell ((Ext.drew _).cell l0); go_simp; exact OkX.val)); simp only [Act.put, List.setIfInBounds_toArray, List.set_cons_zero, List.set_cons_succ]) | ((with_reducible refine sched_skip ?_ ?_ ?_ ?_); rotate_left; (rfl); (exact want_not rfl rfl rfl rfl rfl); simp only [Act.put, List.setIfInBounds_toArray, List.set_cons_zero, List.set_cons_succ])
          refine sched_done (fun wz k1 => ?_)
          have XZ := Lib.hid (XF.out.trans ((Ext.drew _).trans k1))
          clear k1 t2 g0 g2 g6 g7 l0
          go_wp2
          go_ret
          exact ⟨rfl, XZ.out⟩
    · obtain rfl : k = NL := by omega
      have q1 : decide ((k : Int) < (k : Int)) = false := by simp
      have i1 : ¬ (k : Int) < (k : Int) := by omega
      clear hlt hln
      obtain ⟨WE, hWE⟩ : ∃ W, W = wr := ⟨_, rfl⟩
      rw [← hWE] at HSR HKR HXR HSB ⊢
      clear hWE HPR
      go_wp2
      go_loopw [13] (fun i wx => ∃ (j : Nat), i = .int .i64 ((j : Int) + 1) ∧ j ≤ 20 ∧ wx.heap[S]? = some (.cells #[.slice A20 1 c20, .slice A21 1 c21, .slice A22 nn c22, .slice A23 0 c23, .slice A24 0 c24, .slice A25 0 c25, .slice A26 0 c26, .int .i64 0, .int .i64 0, .int .i64 0] 34 (0, 0)) ∧ Keeps (fun q => q = S ∨ q = S + 1) wx ⟨.slice A20 1 c20, .slice A21 1 c21, .slice A22 nn c22, .slice A23 0 c23, .slice A24 0 c24, .slice A25 0 c25, .slice A26 0 c26, 0, 0, 0⟩ (newD ds) ∧ Ext w wx) (fun i _ => 30 - (intOf i).toNat)
      case atStart => exact ⟨0, rfl, by omega, HSR.out, HKR.out, HXR.out⟩
      case round =>
        obtain ⟨j, rfl, hj, hs, hkp, hx⟩ := hrel
        clear HSR HKR HXR
        have HSR := Lib.hid hs
        have HKR := Lib.hid hkp
        have HXR := Lib.hid hx
        clear hs hkp hx
        have s2 := bcel HSR.out 2 (.slice A22 nn c22) rfl
        by_cases hjn : j + 1 < nn
        · have r1 : decide ((j : Int) + 1 < (nn : Int)) = true := by simp; omega
          have r2 : (j : Int) + 1 < (nn : Int) := by omega
          have r3 : (j : Int) < (nn : Int) := by omega
          have r4 : (0 : Int) ≤ (j : Int) := by omega
          have r5 : (0 : Int) ≤ (j : Int) + 1 := by omega
          have r6 : ((j : Int) + 1).toNat = j + 1 := by omega
          have w1' : wrap64 ((j : Int) + 1 - 1) = (j : Int) := by have := HNN.out; unfold wrap64; omega
          have w2' : IntKind.wrap .i64 ((j : Int) + 1 - 1) = (j : Int) := by have := HNN.out; rw [IntKind.wrap_i64]; omega
          have hnd : Hd wr (.slice A22 nn c22) ds.length (ncells ds) := HKR.out.rd.nodes
          have w3' : wrap64 (j : Int) = (j : Int) := by have := HNN.out; unfold wrap64; omega
          have w4' : IntKind.wrap .i64 (j : Int) = (j : Int) := by have := HNN.out; rw [IntKind.wrap_i64]; omega
          obtain ⟨A9, N9, c9, e9, hN9, _, _, hc9⟩ := hnd.node
          injection e9 with e91 e92 e93
          obtain ⟨gn, hgn, hcells⟩ := hc9 (by have := HNN.out; omega)
          subst e91
          subst hgn
          have hl1 : j < ds.length := by have := HNN.out; omega
          have hl2 : j + 1 < ds.length := by have := HNN.out; omega
          have q1 := (hcells j hl1).1
          have q2 := (hcells (j + 1) hl2).1
          have hlt2 : (ds[j]).id < (ds[j + 1]).id := by
            have h := HSO.out.1
            unfold Srt at h
            rw [List.pairwise_iff_getElem] at h
            exact h j (j + 1) hl1 hl2 (by omega)
          obtain ⟨x1, hx1⟩ : ∃ x, x = (ds[j]).id := ⟨_, rfl⟩
          obtain ⟨x2, hx2⟩ : ∃ x, x = (ds[j + 1]).id := ⟨_, rfl⟩
          rw [← hx1] at q1 hlt2
          rw [← hx2] at q2 hlt2
          have r7 : decide (x1 ≥ x2) = false := by simp; omega
          have r8 : decide (x2 ≤ x1) = false := by simp; omega
          clear hnd hcells hc9 hx1 hx2 hlt2 hN9 e92 e93
          go_wp2
          refine wp_region_sched Ext ext_way [(0, true), (1, true), (2, true), (3, true), (4, true), (5, true), (6, true), (7, true), (8, true), (9, true), (10, true), (11, true), (12, true), (13, true)] (by kernel_rfl) (by kernel_rfl) (fun _ _ _ _ _ h => h) ?_
          repeat first | ((with_reducible refine sched_free ?_ ?_ ?_ ?_ (fun wk k1 => ?_) ?_); rotate_left 2; (rfl); (first | exact want_none rfl | exact want_some rfl rfl rfl rfl); (go_simp; first | exact OkX.val | (have y2 := k1.cell ((Ext.drew _).cell s2); have y3 := k1.cell ((Ext.drew _).cell q1); have y4 := k1.cell ((Ext.drew _).cell q2); go_simp; exact OkX.val)); simp only [Act.put, List.setIfInBounds_toArray, List.set_cons_zero, List.set_cons_succ]) | ((with_reducible refine sched_skip ?_ ?_ ?_ ?_); rotate_left; (rfl); (exact want_not rfl rfl rfl rfl rfl); simp only [Act.put, List.setIfInBounds_toArray, List.set_cons_zero, List.set_cons_succ])
          refine sched_done (fun wz k1 => ?_)
          have EZ := Lib.hid ((Ext.drew _).trans k1)
          clear k1 s2 q1 q2
          go_wp2
          go_roundw
          case rel => exact ⟨j + 1, by simp, by omega, ext_blk EZ.out HSR.out, HKR.out.ext EZ.out, HXR.out.trans EZ.out⟩
          case measure => simp [intOf]; omega
        · have r1 : decide ((j : Int) + 1 < (nn : Int)) = false := by simp; omega
          have r2 : ¬ (j : Int) + 1 < (nn : Int) := by omega
          by_cases hn0 : nn = 0
          · subst hn0
            go_wp2
            go_ret
            exact ⟨rfl, HXR.out⟩
          have r3 : ((nn : Int) == 0) = false := by simp; omega
          have r4 : ¬ (nn : Int) = 0 := by omega
          go_wp2_with fail
          (with_reducible refine (within8_some again nn (nn : Int) _ rfl (by omega)).mono ?_)
          rintro e w5 ⟨k2, rfl, hk2', hk2, rfl⟩
          clear hk2' r1 r2 hjn
          have hnd : Hd wr (.slice A22 nn c22) ds.length (ncells ds) := HKR.out.rd.nodes
          obtain ⟨A9, c9, e9, _, _, hc9⟩ := hnd
          injection e9 with e91 e92 e93
          subst e91
          obtain ⟨gn, hgn, hgl, hcells⟩ := hc9 (by have := HNN.out; omega)
          subst hgn
          have HSRC := Lib.hid (show ∀ (q : Nat) (u : Value), (ncells ds)[q]? = some u → (wr.alloc (.cells #[] 44)).cell? ((⟨gn, 0, none⟩ : Addr).add q) = some u from fun q u hu => by rw [head_add, Nat.zero_add]; exact (ext_alloc _ _).cell (hcells q u hu))
          have HNL2 := Lib.hid (show (ncells ds).length = nn * 8 by rw [ncells_len, HNN.out.1])
          have HOE := Lib.hid (own_emptyT wr wr.heap.size 44 8 (Nat.le_refl _))
          have s2 := fun o => bcel (ext_blk (ext_alloc wr o) HSR.out) 2 (.slice (some ⟨gn, 0, none⟩) nn c22) rfl
          obtain ⟨i0, hi, hz0, hz1, hz2⟩ := info_parts Try.infoClNode
          clear hgl hcells hc9 e92 e93
          go_wp2_with (at_builtin; go_loud (refine wpList_append_own_at _ rfl (.tmp 90) (.tmp 92) 28 rfl wr.heap.size 44 i0 _ 8 64 Try.underlying28 hi hz0 hz1 hz2 rfl (by decide) _ 0 [] rfl HOE.out ⟨gn, 0, none⟩ nn c22 (ncells ds) rfl HNL2.out HSRC.out (ncells_one ds) (by have := HNN.out; simp [maxLen]; omega) (by have := HNN.out; omega) (by simp) ?_))
          intro v' w6 ho6 hg6 _ _
          have X6 := Lib.hid ((ext_alloc wr (.cells #[] 44)).trans' (grown_below hg6 (by simp) (fun q hq => by simp [Value.ownBlock] at hq; omega)))
          obtain ⟨AL, cL, rfl, hcL1, hcL2⟩ := own_shape ho6
          have ho6 : w6.ownsRow wr.heap.size 44 8 (.slice AL nn cL) nn (ncells ds) := by simpa using ho6
          obtain ⟨L, hAL, hL1, hL2, hLf, hLc⟩ := own_head ho6 (by omega)
          subst hAL
          have HO6 := Lib.hid ho6
          have HLB := Lib.hid (show wr.heap.size ≤ L ∧ L < w6.heap.size from ⟨hL1, hL2⟩)
          have hkd : k2 < ds.length := by have := HNN.out; omega
          obtain ⟨y, hy20, hdk⟩ := HSO.out.2 _ (List.getElem_mem hkd)
          have HDK := Lib.hid (show ds[k2] = nodeY y from hdk)
          have q6 := hLc (k2 * 8 + 6) (.int .i64 0) (by have := flat_get nenc 8 (fun _ => rfl) ds k2 6 hkd (by omega); rw [hdk] at this; exact this)
          have q7 := hLc (k2 * 8 + 7) (.bool true) (by have := flat_get nenc 8 (fun _ => rfl) ds k2 7 hkd (by omega); rw [hdk] at this; exact this)
          have HS6 := Lib.hid (ext_blk X6.out HSR.out)
          have k0' : (0 : Int) ≤ (k2 : Int) := by omega
          have k1' : (k2 : Int) < (nn : Int) := by omega
          clear ho6 hg6 hL1 hL2 hLc s2 HSRC HNL2 HOE hdk
          go_upto_region 32 with fail
          refine at_world (fun W7 hW7 => ?_)
          have hg7 := (bgrown w6 L (k2 * 8 + 7) (.bool false)).trans (bgrown (w6.setCell ⟨L, k2 * 8 + 7, none⟩ (.bool false)) L (k2 * 8 + 6) (.int .i64 7))
          have hr7 := ((HO6.out.stored (k2 * 8 + 7) (.bool false)).1.stored (k2 * 8 + 6) (.int .i64 7)).1
          rw [← hW7] at hg7 hr7
          have HSL := Lib.hid (show S < wr.heap.size from (Array.getElem?_eq_some_iff.1 HSR.out).1)
          have HS7 := Lib.hid ((hg7.block S (Array.getElem?_eq_some_iff.1 HS6.out).1 (fun e => by injection e with e; have := HLB.out; have := HSL.out; omega)).trans HS6.out)
          have HO7 := Lib.hid (show W7.ownsRow wr.heap.size 44 8 (.slice (some ⟨L, 0, none⟩) nn cL) nn (ncells (ds.set k2 (nodeD y))) by rw [ncells_down ds k2 hkd HDK.out]; exact hr7)
          have F7 := Lib.hid (show FootL (fun q => q = S ∨ q = S + 1) wr W7 from ⟨(hg7.os).trans X6.out.os, (hg7.tape).trans X6.out.tape, (hg7.output).trans X6.out.output, Nat.le_trans X6.out.size hg7.size, fun q hq _ => (hg7.block q (Nat.lt_of_lt_of_le hq X6.out.size) (fun e => by injection e with e; have := HLB.out; omega)).trans (X6.out.block q hq)⟩)
          have X7 := Lib.hid (show Ext wr W7 from X6.out.trans' (grown_below hg7 X6.out.size (fun q hq => by injection hq with hq; have := HLB.out; omega)))
          clear hW7 hg7 hr7 q6 q7 hLf HS6 HO6 X6
          have s2 := bcel HS7.out 2 (.slice (some ⟨gn, 0, none⟩) nn c22) rfl
          have sf := fun q => bfre HS7.out q
          go_upto_region 33 with fail
          refine at_world (fun W8 hW8 => ?_)
          have hg8 := bgrown W7 S 2 (.slice (some ⟨L, 0, none⟩) nn cL)
          have hb8 := bset HS7.out 2 (.slice (some ⟨L, 0, none⟩) nn cL)
          rw [← hW8] at hg8 hb8
          have HS8 := Lib.hid (show W8.heap[S]? = some (.cells #[.slice A20 1 c20, .slice A21 1 c21, .slice (some ⟨L, 0, none⟩) nn cL, .slice A23 0 c23, .slice A24 0 c24, .slice A25 0 c25, .slice A26 0 c26, .int .i64 0, .int .i64 0, .int .i64 0] 34 (0, 0)) from hb8)
          have HO8 := Lib.hid (own_low HO7.out hg8 HSL.out)
          have F8 := Lib.hid ((FootL_way _).trans F7.out (FootL.of_grown hg8 (fun q hq => by injection hq with hq; exact .inl hq.symm)))
          have X8 := Lib.hid (ext_grown (HXR.out.trans X7.out) hg8 HSW.out)
          obtain ⟨ds2, hds2⟩ : ∃ d, d = ds.set k2 (nodeD y) := ⟨_, rfl⟩
          rw [← hds2] at HO8
          have hl2 : ds2.length = nn := by rw [hds2, List.length_set, HNN.out.1]
          have HL2 := Lib.hid hl2
          have HRS := Lib.hid (show StRd W8 ⟨.slice A20 1 c20, .slice A21 1 c21, .slice (some ⟨L, 0, none⟩) nn cL, .slice A23 0 c23, .slice A24 0 c24, .slice A25 0 c25, .slice A26 0 c26, 0, 0, 0⟩ (newD ds2) from (fun (h : StRd W8 ⟨.slice A20 1 c20, .slice A21 1 c21, .slice (some ⟨gn, 0, none⟩) nn c22, .slice A23 0 c23, .slice A24 0 c24, .slice A25 0 c25, .slice A26 0 c26, 0, 0, 0⟩ (newD ds)) => ⟨h.labs, h.queues, by have h9 := Hd.of_own HO8.out; rw [← hl2] at h9; exact (by rw [← hl2]; exact h9), h.apps, h.conts, h.slots, h.plans⟩) (HKR.out W8 F8.out))
          have hkk : k2 < ds2.length := by rw [hl2]; exact hk2
          have hid2 : ds2[k2] = nodeD y := by simp only [hds2, List.getElem_set_self]
          have hsr2 : Srt ds2 := by rw [hds2]; exact srt_set HSO.out.1 hkd _ (by rw [HDK.out]; rfl)
          have hix : idxN ds2 (y : Int) = k2 := by have := idx_of hsr2 hkk; rw [hid2] at this; exact this
          have hE : newE (newD ds2).nodes (newD ds2).labels.length ⟨(y : Int), 0, 9, 0, 0, 0, 0, false⟩ = 0 := by
            unfold newE
            show errNew (okN _ _) (getN ds2 (y : Int)).up (hasN ds2 (y : Int)) _ = 0
            rw [getN_at (by rw [hix]; exact hkk), show hasN ds2 (y : Int) = true by unfold hasN; rw [hix]; simpa using hkk]
            simp only [hix, hid2]
            rw [show okN ⟨(y : Int), 0, 9, 0, 0, 0, 0, false⟩ ((newD ds2).labels.length : Int) = true by unfold okN inB; simp [newD]; omega]
            rfl
          have hD : regD (newD ds2) ⟨(y : Int), 0, 9, 0, 0, 0, 0, false⟩ 0 0 = newD (ds2.set k2 (nodeZ y)) := by
            show newD (putN ds2 (nodeZ y)) = _
            rw [putN_again (nodeZ y) ds2 k2 hkk hsr2 (by rw [hid2]; rfl)]
          have HF := Lib.hid (fun W (x : Ext W8 W) => (show Calls Try.prog 10 #[.agg #[.slice A20 1 c20, .slice A21 1 c21, .slice (some ⟨L, 0, none⟩) nn cL, .slice A23 0 c23, .slice A24 0 c24, .slice A25 0 c25, .slice A26 0 c26, .int .i64 0, .int .i64 0, .int .i64 0], .agg #[.int .i64 (y : Int), .int .i64 0, .int .i64 9, .int .i64 0, .int .i64 0, .int .i64 0, .int .i64 0, .bool false]] W (RegPost 0 0 0 0 (newD (ds2.set k2 (nodeZ y))) W) from by
            have hr := Register_any ⟨.slice A20 1 c20, .slice A21 1 c21, .slice (some ⟨L, 0, none⟩) nn cL, .slice A23 0 c23, .slice A24 0 c24, .slice A25 0 c25, .slice A26 0 c26, 0, 0, 0⟩ (newD ds2) ⟨(y : Int), 0, 9, 0, 0, 0, 0, false⟩ W (HRS.out.ext x) (newD_ok (by have := HNN.out; omega)) (by show ds2.length ≤ 500; have := HNN.out; omega)
            rw [hE, hD] at hr
            exact hr))
          have l0 := (show W8.cell? ⟨L, k2 * 8, none⟩ = some (.int .i64 (y : Int)) from by
            obtain ⟨L', hL', _, _, _, hc⟩ := own_head HO8.out (by omega)
            simp only [Option.some.injEq, Addr.mk.injEq, and_true] at hL'
            subst hL'
            have h9 := flat_get nenc 8 (fun _ => rfl) ds2 k2 0 hkk (by omega)
            rw [hid2] at h9
            exact hc (k2 * 8) _ h9)
          have HZN := Lib.hid (show (ds2.set k2 (nodeZ y))[k2]? = some (nodeZ y) by rw [List.getElem?_set_self hkk])
          have HZL := Lib.hid (show (ds2.set k2 (nodeZ y)).length = nn by rw [List.length_set]; exact hl2)
          have HL0 := Lib.hid l0
          clear hW8 hg8 hb8 hE hD hds2 hl2 hkk hid2 hsr2 hix s2 sf HS7 HO7 F7 X7 F8 HKR HO8 HRS HDK HSO hkd
          go_cut [16, 17] from 104 to 114 (fun s16 s17 wx => Md W8 nn (ncells (ds2.set k2 (nodeZ y))) s16 s17 wx)
          case first =>
            have s0 := bcel HS8.out 0 (.slice A20 1 c20) rfl
            have s1 := bcel HS8.out 1 (.slice A21 1 c21) rfl
            have s2 := bcel HS8.out 2 (.slice (some ⟨L, 0, none⟩) nn cL) rfl
            have s3 := bcel HS8.out 3 (.slice A23 0 c23) rfl
            have s4 := bcel HS8.out 4 (.slice A24 0 c24) rfl
            have s5 := bcel HS8.out 5 (.slice A25 0 c25) rfl
            have s6 := bcel HS8.out 6 (.slice A26 0 c26) rfl
            have s7 := bcel HS8.out 7 (.int .i64 0) rfl
            have s8 := bcel HS8.out 8 (.int .i64 0) rfl
            have s9 := bcel HS8.out 9 (.int .i64 0) rfl
            refine wp_region_tree (LBelow W8.heap.size) (LBelow_way _) (.free 0 (.free 1 (.free 2 (.free 3 (.free 4 (.free 5 (.free 6 (.two 7 11 (.free 8 (.free 9 (.free 10 (.step 11 (.step 12 (.free 13 .done)))))) (.step 7 (.free 8 (.free 9 (.free 10 (.step 12 (.free 13 .done)))))))))))))) (by kernel_rfl) (by kernel_rfl) (fun _ _ _ _ _ h => h) ?_
            repeat first | ((with_reducible refine tree_free ?_ ?_ ?_ ?_ (fun wk k1 => ?_) ?_); rotate_left 2; (rfl); (first | exact want_none rfl | exact want_some rfl rfl rfl rfl); (go_simp; first | exact OkX.val | (have kk := LBelow.ext k1; have y0 := kk.cell s0; have y1 := kk.cell s1; have y2 := kk.cell s2; have y3 := kk.cell s3; have y4 := kk.cell s4; have y5 := kk.cell s5; have y6 := kk.cell s6; have y7 := kk.cell s7; have y8 := kk.cell s8; have y9 := kk.cell s9; have x0 := kk.cell l0; go_simp; exact OkX.val)); simp only [Act.put, List.setIfInBounds_toArray, List.set_cons_zero, List.set_cons_succ]) | ((with_reducible refine tree_skip ?_ ?_ ?_ ?_); rotate_left; (rfl); (exact want_not rfl rfl rfl rfl rfl); simp only [Act.put, List.setIfInBounds_toArray, List.set_cons_zero, List.set_cons_succ])
            clear l0 s0 s1 s2 s3 s4 s5 s6 s7 s8 s9
            ((with_reducible refine tree_two ?_ ?_ ?_ ?_ ?_ ?_ (fun wk k1 => ?_) (fun wk k1 => ?_)); rotate_left 2; (rfl); (first | exact want_none rfl | exact want_some rfl rfl rfl rfl); (rfl); (first | exact want_none rfl | exact want_some rfl rfl rfl rfl))
            · have EC := Lib.hid ((Ext.drew _).trans k1)
              clear k1
              go_simp
              (with_reducible refine (HF.out _ EC.out).mono ?_)
              unfold RegPost
              rintro e wf ⟨s, e1, e2, e3, rfl, ho, hxf⟩
              refine ⟨(LBelow_way _).ext hxf, ?_⟩
              try simp only [Act.put, List.setIfInBounds_toArray, List.set_cons_zero, List.set_cons_succ]
              obtain ⟨A40, c40, A41, c41, A42, c42, A43, c43, A44, c44, A45, c45, A46, c46, es⟩ := ho.shapeN
              rw [e1, e2, e3] at es
              subst es
              obtain ⟨mm, hmm⟩ : ∃ m, m = (ds2.set k2 (nodeZ y)).length := ⟨_, rfl⟩
              rw [← hmm] at ho ⊢
              have hmn : mm = nn := hmm.trans HZL.out
              have HOW := Lib.hid (show wf.ownsRow W8.heap.size 44 8 (.slice A42 mm c42) mm (ncells (ds2.set k2 (nodeZ y))) from own_base (by have h := ho.nodes; dsimp only at h; rw [hmm] at h ⊢; exact h) EC.out.size)
              have HMN := Lib.hid hmn
              clear e1 e2 e3 ho hmm hmn
              simp only [SV.val]
              have E1 := Lib.hid (EC.out.trans hxf)
              clear hxf EC
              repeat first | ((with_reducible refine tree_free ?_ ?_ ?_ ?_ (fun wk k1 => ?_) ?_); rotate_left 2; (rfl); (first | exact want_none rfl | exact want_some rfl rfl rfl rfl); (go_simp; first | exact OkX.val); simp only [Act.put, List.setIfInBounds_toArray, List.set_cons_zero, List.set_cons_succ]) | ((with_reducible refine tree_skip ?_ ?_ ?_ ?_); rotate_left; (rfl); (exact want_not rfl rfl rfl rfl rfl); simp only [Act.put, List.setIfInBounds_toArray, List.set_cons_zero, List.set_cons_succ])
              ((with_reducible refine tree_step ?_ ?_ ?_ (fun wk k1 => ?_)); rotate_left; (rfl); (first | exact want_none rfl | exact want_some rfl rfl rfl rfl))
              have E1' := Lib.hid (E1.out.trans k1)
              have HOW' := Lib.hid (own_ExtK HOW.out k1)
              clear k1 HOW
              go_simp
              refine ⟨(LBelow_way _).ext (ext_alloc _ _), ?_⟩
              try simp only [Act.put, List.setIfInBounds_toArray, List.set_cons_zero, List.set_cons_succ]
              have HT := Lib.hid (heap_alloc_new wk (.cells #[.slice none 0 0, .slice none 0 0, .slice none 0 0, .slice none 0 0, .slice none 0 0, .slice none 0 0, .slice none 0 0, .int .i64 0, .int .i64 0, .int .i64 0] 34 (0, 0)))
              have E2 := Lib.hid (E1'.out.trans (ext_alloc wk (.cells #[.slice none 0 0, .slice none 0 0, .slice none 0 0, .slice none 0 0, .slice none 0 0, .slice none 0 0, .slice none 0 0, .int .i64 0, .int .i64 0, .int .i64 0] 34 (0, 0))))
              have HOW := Lib.hid (own_ExtK HOW'.out (ext_alloc wk (.cells #[.slice none 0 0, .slice none 0 0, .slice none 0 0, .slice none 0 0, .slice none 0 0, .slice none 0 0, .slice none 0 0, .int .i64 0, .int .i64 0, .int .i64 0] 34 (0, 0))))
              obtain ⟨T, hT⟩ : ∃ T, T = wk.heap.size := ⟨_, rfl⟩
              have HTB := Lib.hid (show W8.heap.size ≤ T by rw [hT]; exact E1'.out.size)
              rw [← hT] at HT ⊢
              clear hT HOW' E1'
              ((with_reducible refine tree_step ?_ ?_ ?_ (fun wk k1 => ?_)); rotate_left; (rfl); (first | exact want_none rfl | exact want_some rfl rfl rfl rfl))
              have hb2 := ext_blk k1 HT.out
              have E3 := Lib.hid (E2.out.trans k1)
              have HW3 := Lib.hid (own_ExtK HOW.out k1)
              clear k1 HOW
              have d0 := bcel hb2 0 (.slice none 0 0) rfl
              have d1 := bcel hb2 1 (.slice none 0 0) rfl
              have d2 := bcel hb2 2 (.slice none 0 0) rfl
              have d3 := bcel hb2 3 (.slice none 0 0) rfl
              have d4 := bcel hb2 4 (.slice none 0 0) rfl
              have d5 := bcel hb2 5 (.slice none 0 0) rfl
              have d6 := bcel hb2 6 (.slice none 0 0) rfl
              have d7 := bcel hb2 7 (.int .i64 0) rfl
              have d8 := bcel hb2 8 (.int .i64 0) rfl
              have d9 := bcel hb2 9 (.int .i64 0) rfl
              have fd := fun j => bfre hb2 j
              go_simp
              have hgr := grown10 wk T (.slice A40 1 c40) (.slice A41 1 c41) (.slice A42 mm c42) (.slice A43 0 c43) (.slice A44 0 c44) (.slice A45 0 c45) (.slice A46 0 c46) (.int .i64 0) (.int .i64 0) (.int .i64 0)
              refine ⟨fun _ => grown_below hgr E3.out.size (fun k hk => by injection hk with hk; have := HTB.out; omega), ?_⟩
              try simp only [Act.put, List.setIfInBounds_toArray, List.set_cons_zero, List.set_cons_succ]
              have hb9 := bset10 hb2 (.slice A40 1 c40) (.slice A41 1 c41) (.slice A42 mm c42) (.slice A43 0 c43) (.slice A44 0 c44) (.slice A45 0 c45) (.slice A46 0 c46) (.int .i64 0) (.int .i64 0) (.int .i64 0)
              obtain ⟨W9, hW9⟩ : ∃ W9, W9 = ((((((((((wk.setCell ⟨T, 0, none⟩ (.slice A40 1 c40)).setCell ⟨T, 1, none⟩ (.slice A41 1 c41)).setCell ⟨T, 2, none⟩ (.slice A42 mm c42)).setCell ⟨T, 3, none⟩ (.slice A43 0 c43)).setCell ⟨T, 4, none⟩ (.slice A44 0 c44)).setCell ⟨T, 5, none⟩ (.slice A45 0 c45)).setCell ⟨T, 6, none⟩ (.slice A46 0 c46)).setCell ⟨T, 7, none⟩ (.int .i64 0)).setCell ⟨T, 8, none⟩ (.int .i64 0)).setCell ⟨T, 9, none⟩ (.int .i64 0)) := ⟨_, rfl⟩
              rw [← hW9] at hgr hb9 ⊢
              have HW9 := Lib.hid (HW3.out.kept hgr (.inr (own_other HW3.out hb2 (by decide))))
              clear hW9 hb2 fd d0 d1 d2 d3 d4 d5 d6 d7 d8 d9
              repeat first | ((with_reducible refine tree_free ?_ ?_ ?_ ?_ (fun wk k1 => ?_) ?_); rotate_left 2; (rfl); (first | exact want_none rfl | exact want_some rfl rfl rfl rfl); (go_simp; first | exact OkX.val); simp only [Act.put, List.setIfInBounds_toArray, List.set_cons_zero, List.set_cons_succ]) | ((with_reducible refine tree_skip ?_ ?_ ?_ ?_); rotate_left; (rfl); (exact want_not rfl rfl rfl rfl rfl); simp only [Act.put, List.setIfInBounds_toArray, List.set_cons_zero, List.set_cons_succ])
              refine tree_done (fun wz k1 => ?_)
              have hfin := Lib.hid (show Md W8 nn (ncells (ds2.set k2 (nodeZ y))) (.pointer (some ⟨T, 0, none⟩)) (.int .i64 0) wz from
                ⟨T, ⟨.slice A40 1 c40, .slice A41 1 c41, .slice A42 mm c42, .slice A43 0 c43, .slice A44 0 c44, .slice A45 0 c45, .slice A46 0 c46, 0, 0, 0⟩, rfl, rfl, ext_blk k1 hb9, by rw [← HMN.out]; exact own_ExtK HW9.out k1, (ext_grown E3.out hgr HTB.out).trans k1⟩)
              clear k1
              go_wp2
              go_meet
              case rel => exact hfin.out
            · have E0 := Lib.hid ((Ext.drew _).trans k1)
              clear k1
              go_simp
              refine ⟨(LBelow_way _).ext (ext_alloc _ _), ?_⟩
              try simp only [Act.put, List.setIfInBounds_toArray, List.set_cons_zero, List.set_cons_succ]
              have HT' := Lib.hid (heap_alloc_new wk (.cells #[.slice none 0 0, .slice none 0 0, .slice none 0 0, .slice none 0 0, .slice none 0 0, .slice none 0 0, .slice none 0 0, .int .i64 0, .int .i64 0, .int .i64 0] 34 (0, 0)))
              have E2' := Lib.hid (E0.out.trans (ext_alloc wk (.cells #[.slice none 0 0, .slice none 0 0, .slice none 0 0, .slice none 0 0, .slice none 0 0, .slice none 0 0, .slice none 0 0, .int .i64 0, .int .i64 0, .int .i64 0] 34 (0, 0))))
              obtain ⟨T, hT⟩ : ∃ T, T = wk.heap.size := ⟨_, rfl⟩
              have HTB := Lib.hid (show W8.heap.size ≤ T by rw [hT]; exact E0.out.size)
              rw [← hT] at HT' ⊢
              clear hT
              ((with_reducible refine tree_step ?_ ?_ ?_ (fun wk k1 => ?_)); rotate_left; (rfl); (first | exact want_none rfl | exact want_some rfl rfl rfl rfl))
              have EC := Lib.hid (E2'.out.trans k1)
              have HT'' := Lib.hid (ext_blk k1 HT'.out)
              clear k1
              go_simp
              (with_reducible refine (HF.out _ EC.out).mono ?_)
              unfold RegPost
              rintro e wf ⟨s, e1, e2, e3, rfl, ho, hxf⟩
              refine ⟨(LBelow_way _).ext hxf, ?_⟩
              try simp only [Act.put, List.setIfInBounds_toArray, List.set_cons_zero, List.set_cons_succ]
              obtain ⟨A40, c40, A41, c41, A42, c42, A43, c43, A44, c44, A45, c45, A46, c46, es⟩ := ho.shapeN
              rw [e1, e2, e3] at es
              subst es
              obtain ⟨mm, hmm⟩ : ∃ m, m = (ds2.set k2 (nodeZ y)).length := ⟨_, rfl⟩
              rw [← hmm] at ho ⊢
              have hmn : mm = nn := hmm.trans HZL.out
              have HOW := Lib.hid (show wf.ownsRow W8.heap.size 44 8 (.slice A42 mm c42) mm (ncells (ds2.set k2 (nodeZ y))) from own_base (by have h := ho.nodes; dsimp only at h; rw [hmm] at h ⊢; exact h) EC.out.size)
              have HMN := Lib.hid hmn
              clear e1 e2 e3 ho hmm hmn
              simp only [SV.val]
              have E2 := Lib.hid (EC.out.trans hxf)
              have HT := Lib.hid (ext_blk hxf HT''.out)
              clear hxf EC HT' HT''
              repeat first | ((with_reducible refine tree_free ?_ ?_ ?_ ?_ (fun wk k1 => ?_) ?_); rotate_left 2; (rfl); (first | exact want_none rfl | exact want_some rfl rfl rfl rfl); (go_simp; first | exact OkX.val); simp only [Act.put, List.setIfInBounds_toArray, List.set_cons_zero, List.set_cons_succ]) | ((with_reducible refine tree_skip ?_ ?_ ?_ ?_); rotate_left; (rfl); (exact want_not rfl rfl rfl rfl rfl); simp only [Act.put, List.setIfInBounds_toArray, List.set_cons_zero, List.set_cons_succ])
              ((with_reducible refine tree_step ?_ ?_ ?_ (fun wk k1 => ?_)); rotate_left; (rfl); (first | exact want_none rfl | exact want_some rfl rfl rfl rfl))
              have hb2 := ext_blk k1 HT.out
              have E3 := Lib.hid (E2.out.trans k1)
              have HW3 := Lib.hid (own_ExtK HOW.out k1)
              clear k1 HOW
              have d0 := bcel hb2 0 (.slice none 0 0) rfl
              have d1 := bcel hb2 1 (.slice none 0 0) rfl
              have d2 := bcel hb2 2 (.slice none 0 0) rfl
              have d3 := bcel hb2 3 (.slice none 0 0) rfl
              have d4 := bcel hb2 4 (.slice none 0 0) rfl
              have d5 := bcel hb2 5 (.slice none 0 0) rfl
              have d6 := bcel hb2 6 (.slice none 0 0) rfl
              have d7 := bcel hb2 7 (.int .i64 0) rfl
              have d8 := bcel hb2 8 (.int .i64 0) rfl
              have d9 := bcel hb2 9 (.int .i64 0) rfl
              have fd := fun j => bfre hb2 j
              go_simp
              have hgr := grown10 wk T (.slice A40 1 c40) (.slice A41 1 c41) (.slice A42 mm c42) (.slice A43 0 c43) (.slice A44 0 c44) (.slice A45 0 c45) (.slice A46 0 c46) (.int .i64 0) (.int .i64 0) (.int .i64 0)
              refine ⟨fun _ => grown_below hgr E3.out.size (fun k hk => by injection hk with hk; have := HTB.out; omega), ?_⟩
              try simp only [Act.put, List.setIfInBounds_toArray, List.set_cons_zero, List.set_cons_succ]
              have hb9 := bset10 hb2 (.slice A40 1 c40) (.slice A41 1 c41) (.slice A42 mm c42) (.slice A43 0 c43) (.slice A44 0 c44) (.slice A45 0 c45) (.slice A46 0 c46) (.int .i64 0) (.int .i64 0) (.int .i64 0)
              obtain ⟨W9, hW9⟩ : ∃ W9, W9 = ((((((((((wk.setCell ⟨T, 0, none⟩ (.slice A40 1 c40)).setCell ⟨T, 1, none⟩ (.slice A41 1 c41)).setCell ⟨T, 2, none⟩ (.slice A42 mm c42)).setCell ⟨T, 3, none⟩ (.slice A43 0 c43)).setCell ⟨T, 4, none⟩ (.slice A44 0 c44)).setCell ⟨T, 5, none⟩ (.slice A45 0 c45)).setCell ⟨T, 6, none⟩ (.slice A46 0 c46)).setCell ⟨T, 7, none⟩ (.int .i64 0)).setCell ⟨T, 8, none⟩ (.int .i64 0)).setCell ⟨T, 9, none⟩ (.int .i64 0)) := ⟨_, rfl⟩
              rw [← hW9] at hgr hb9 ⊢
              have HW9 := Lib.hid (HW3.out.kept hgr (.inr (own_other HW3.out hb2 (by decide))))
              clear hW9 hb2 fd d0 d1 d2 d3 d4 d5 d6 d7 d8 d9
              repeat first | ((with_reducible refine tree_free ?_ ?_ ?_ ?_ (fun wk k1 => ?_) ?_); rotate_left 2; (rfl); (first | exact want_none rfl | exact want_some rfl rfl rfl rfl); (go_simp; first | exact OkX.val); simp only [Act.put, List.setIfInBounds_toArray, List.set_cons_zero, List.set_cons_succ]) | ((with_reducible refine tree_skip ?_ ?_ ?_ ?_); rotate_left; (rfl); (exact want_not rfl rfl rfl rfl rfl); simp only [Act.put, List.setIfInBounds_toArray, List.set_cons_zero, List.set_cons_succ])
              refine tree_done (fun wz k1 => ?_)
              have hfin := Lib.hid (show Md W8 nn (ncells (ds2.set k2 (nodeZ y))) (.pointer (some ⟨T, 0, none⟩)) (.int .i64 0) wz from
                ⟨T, ⟨.slice A40 1 c40, .slice A41 1 c41, .slice A42 mm c42, .slice A43 0 c43, .slice A44 0 c44, .slice A45 0 c45, .slice A46 0 c46, 0, 0, 0⟩, rfl, rfl, ext_blk k1 hb9, by rw [← HMN.out]; exact own_ExtK HW9.out k1, (ext_grown E3.out hgr HTB.out).trans k1⟩)
              clear k1
              go_wp2
              go_meet
              case rel => exact hfin.out
          case rest =>
          obtain ⟨T, s3, rfl, rfl, hT, hown, hx⟩ := hcut
          obtain ⟨AG, cG, eG, hcG1, hcG2⟩ := own_shape hown
          rw [eG] at hown
          obtain ⟨G, hAG, _, _, _, hGc⟩ := own_head hown (by omega)
          subst hAG
          have t2 := bcel hT 2 (.slice (some ⟨G, 0, none⟩) nn cG) (by show some s3.vn = _; rw [eG])
          have hkz : k2 < (ds2.set k2 (nodeZ y)).length := by rw [HZL.out]; exact hk2
          have hz : (ds2.set k2 (nodeZ y))[k2] = nodeZ y := by simp
          have g0 := hGc (k2 * 8) (.int .i64 (y : Int)) (by have h9 := flat_get nenc 8 (fun _ => rfl) (ds2.set k2 (nodeZ y)) k2 0 hkz (by omega); rw [hz] at h9; exact h9)
          have g2 := hGc (k2 * 8 + 2) (.int .i64 9) (by have h9 := flat_get nenc 8 (fun _ => rfl) (ds2.set k2 (nodeZ y)) k2 2 hkz (by omega); rw [hz] at h9; exact h9)
          have g6 := hGc (k2 * 8 + 6) (.int .i64 0) (by have h9 := flat_get nenc 8 (fun _ => rfl) (ds2.set k2 (nodeZ y)) k2 6 hkz (by omega); rw [hz] at h9; exact h9)
          have g7 := hGc (k2 * 8 + 7) (.bool true) (by have h9 := flat_get nenc 8 (fun _ => rfl) (ds2.set k2 (nodeZ y)) k2 7 hkz (by omega); rw [hz] at h9; exact h9)
          have l0 := hx.cell HL0.out
          have XF := Lib.hid (X8.out.trans hx)
          clear hT hown hx eG hGc hkz hz HZN HZL HL0 X8 HS8 HF
          go_wp2
          refine wp_region_sched Ext ext_way [(0, true), (1, true), (2, true), (3, true), (4, true), (5, true), (6, true), (7, true), (8, true), (9, true), (10, true), (11, true), (12, true), (13, true), (14, true), (15, true), (16, true), (17, true), (18, true), (19, true), (20, true), (21, true), (22, true), (23, true), (24, true), (25, true), (26, true), (27, true), (28, true), (29, true), (30, true), (31, true), (32, true), (33, true), (34, true), (35, true), (36, true), (37, true), (38, true), (39, true), (40, true), (41, true), (42, true), (43, true), (44, true), (45, true), (46, true), (47, true), (48, true), (49, true)] (by kernel_rfl) (by kernel_rfl) (fun _ _ _ _ _ h => h) ?_
          repeat first | ((with_reducible refine sched_free ?_ ?_ ?_ ?_ (fun wk k1 => ?_) ?_); rotate_left 2; (rfl); (first | exact want_none rfl | exact want_some rfl rfl rfl rfl); (go_simp; first | exact OkX.val | (have y0 := k1.cell ((Ext.drew _).cell t2); have y1 := k1.cell ((Ext.drew _).cell g0); have y2 := k1.cell ((Ext.drew _).cell g2); have y3 := k1.cell ((Ext.drew _).cell g6); have y4 := k1.cell ((Ext.drew _).cell g7); have y5 := k1.cell ((Ext.drew _).cell l0); go_simp; exact OkX.val)); simp only [Act.put, List.setIfInBounds_toArray, List.set_cons_zero, List.set_cons_succ]) | ((with_reducible refine sched_skip ?_ ?_ ?_ ?_); rotate_left; (rfl); (exact want_not rfl rfl rfl rfl rfl); simp only [Act.put, List.setIfInBounds_toArray, List.set_cons_zero, List.set_cons_succ])
          refine sched_done (fun wz k1 => ?_)
          have XZ := Lib.hid (XF.out.trans ((Ext.drew _).trans k1))
          clear k1 t2 g0 g2 g6 g7 l0
          go_wp2
          go_ret
          exact ⟨rfl, XZ.out⟩

theorem own : ownKnob Try.prog.godebug = none := by kernel_rfl
theorem laidOut : laidOutB Try.prog = true := by kernel_rfl
set_option maxRecDepth 100000 in
theorem lifted (os : Os) (started : os.Started) (H : Type) (enc : TypeId × Value → H) :
    ReturnsInHanded {} Try.checked os 3 .any (Rows.nodesManySpec.pre6 enc Try.prog Try.f3 Rows.nodesManyRow.domain false) (Rows.nodesManySpec.post enc Try.prog Try.f3 false true false false) := by
  refine returnsInHanded_of_change (C := Try.checked) own started (by kernel_rfl) Try.func3
    (ChangeSpec.witness6 (enc := enc) (C := Try.checked) false ⟨#[], #[.slice none 0 0, .int .i64 0], []⟩ 8 (by kernel_rfl) (by kernel_rfl) (by kernel_rfl) (by kernel_rfl)) ?_
  intro W base args ds gs before hval0 hW hcnd _
  have hval : ∀ (j : Nat) t v, Try.f3.params[j]? = some t → args[j]? = some v → Value.okWide Try.prog W .any base t v := hval0
  have hW' := hW
  obtain ⟨p, q, hA0, hV, rfl, hfz, hnd⟩ := hW
  have hA : DataW.TrodAll enc Try.prog W 0 (fun _ => true) true Try.f3.params.toList args.toList ds p := hA0
  rw [Try.params3] at hA hval
  obtain ⟨v0, vs0, d0, ds0, p0, q0, hargs, rfl, rfl, h0, r0⟩ := trodAll_cons hA
  obtain ⟨v1, vs1, d1, ds1, p1, q1, rfl, rfl, rfl, h1, r1⟩ := trodAll_cons r0
  obtain ⟨rfl, rfl, rfl⟩ := trodAll_nil r1
  obtain rfl : args = #[v0, v1] := by cases args; simp_all
  obtain ⟨rfl, rfl⟩ := trodVars_none hV
  have hlt0 : ∀ x ∈ p0, x.block < W.heap.size := fun x hx => by simpa using hW'.lt x (by simp [hx])
  obtain ⟨l0, rd0, wf0⟩ := open_rd Try.underlying22 Try.underlying3 (by kernel_rfl) (hval 0 22 v0 rfl rfl) h0
  obtain ⟨a1, rfl, rfl, rfl, w1⟩ := open_int Try.underlying3 (hval 1 3 v1 rfl rfl) h1
  clear hA0 hval0
  refine (walk W v0 l0 rd0 wf0 a1 w1).mono fun e W' ⟨he, bel⟩ => ?_
  subst he
  exact ⟨_, rfl, _, _, _, [], _, [], hW', trodAll_mk1 (shut_bool Try.underlying4 _), (trodAll_cons_mk (Below.trod laidOut (by kernel_rfl) (of_decide_eq_true (by kernel_rfl)) h0 bel hlt0) (trodAll_cons_mk (shut_int Try.underlying3 w1) trodAll_mk0)), rfl, bel.frame _, fun h => by cases h⟩

theorem over : Rows.nodesManyRow.holds Try.pinned (OpenSpec.ofChange Rows.nodesManySpec) :=
  OpenClaim.holds_of_wide 3 Try.f3 rfl rfl rfl rfl rfl rfl rfl ⟨rfl, rfl, rfl, rfl, rfl⟩ rfl rfl rfl rfl rfl (by kernel_rfl) Try.func3 (by kernel_rfl)
    (of_decide_eq_true (by kernel_rfl)) (by unfold Func.isWrapper; first | (rw [if_pos (by decide +kernel)]; kernel_rfl) | (rw [if_neg (by decide +kernel)]; exact ⟨rfl, rfl⟩))
    (fun os started H enc _ => lifted os started H enc)

theorem proved : Rows.NodesManySaid := over
#print axioms proved
end Go.Proofs.Ytffioglbgnbieaa.NodesMany
