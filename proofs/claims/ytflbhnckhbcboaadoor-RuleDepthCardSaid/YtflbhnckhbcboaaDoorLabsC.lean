/- rule.checkLabels. -/
import Derived.Test.YtflbhnckhbcboaaDoorHasS
import Derived.Test.YtflbhnckhbcboaaDoorQueues
import Derived.Test.YtflbhnckhbcboaaDoorSub
namespace Go.Proofs.YtflbhnckhbcboaaDoor
open Go.RowKit

theorem add_zero' (a : Addr) : a.add 0 = a := by unfold Addr.add; split <;> simp_all
def nameAt (ls : List Tx) (k : Nat) : Int := match ls[k]? with | none => 0 | some x => if x ∈ ls.take k then 7 else 0
theorem nameAt_eq {ls : List Tx} {k : Nat} (h : k < ls.length) : nameAt ls k = if ls[k] ∈ ls.take k then 7 else 0 := by
  unfold nameAt
  rw [List.getElem?_eq_getElem h]
def labelsC (ls : List Tx) : Int := match ls with
  | [] => 0
  | l0 :: names => if l0 = [] ∧ names.all nameB = true then firstErr (nameAt names) 0 names.length else 12

set_option maxRecDepth 100000 in
set_option maxHeartbeats 1600000 in
theorem checkLabels_any (l0 : Tx) (names : List Tx) (vl vq : Value) (w : World) (hr : Rd w vl ((l0 :: names).map sv)) (hlen : names.length ≤ 1000) :
    Calls Tryd.prog 19 #[.agg #[vl, vq]] w fun e w' => e = .returned (.int .i64 (labelsC (l0 :: names))) ∧ Ext w w' := by
  obtain ⟨r, hrr⟩ : ∃ r, r = labelsC (l0 :: names) := ⟨_, rfl⟩
  rw [← hrr]
  have HR := Lib.hid hrr
  obtain ⟨is, hi, hz0, hz1, hz2⟩ := info_parts Tryd.infoStr
  have hrc := hr
  obtain ⟨A, N, c, rfl, hN, hc1, hc2, hcell⟩ := strs_open hr
  rw [List.length_cons] at hN
  obtain ⟨a, rfl, hab, hcs⟩ := hcell (by omega)
  have k0 := hcs 0 (by simp)
  rw [add_zero'] at k0
  obtain ⟨L0, hL0⟩ : ∃ L0 : ByteArray, L0 = ⟨((l0 :: names)[0]).toArray⟩ := ⟨_, rfl⟩
  rw [← hL0] at k0
  have HL0 := Lib.hid (show L0.data.toList = l0 by rw [hL0]; rfl)
  obtain ⟨M, hM⟩ : ∃ M, M = N - 1 := ⟨_, rfl⟩
  have HM := Lib.hid (show M = names.length by omega)
  obtain ⟨A1, hA1⟩ : ∃ A1, A1 = subA (some a) 1 c := ⟨_, rfl⟩
  obtain ⟨c1, hc3⟩ : ∃ c1, c1 = c - 1 := ⟨_, rfl⟩
  have HRN := Lib.hid (show Rd w (.slice A1 M c1) (names.map sv) by rw [hM, hA1, hc3]; exact hrc.subl (l := 1) (by omega))
  have hM1 : M ≤ 1000 := by have := HM.out; omega
  have sl1 : ∀ (W : World) (kl : IntKind), (Instr.slice 24 (.slice (some a) N c) (some (.int kl 1)) none none).run Tryd.prog W = .ok (.slice A1 M c1) W := fun W kl => by rw [hM, hA1, hc3]; exact sl_l (l := 1) Tryd.underlying24 hi hz1 (by omega) W kl
  have i9 : (0 : Int) < (N : Int) := by omega
  have a0 := (ext_alloc w (.cells #[.slice (some a) N c, vq] 27)).cell' k0
  clear hcs hL0 k0 hrr hr hrc hcell hN
  have hMc : M ≤ c1 := by omega
  clear hM hA1 hc3
  by_cases hl0 : L0 = ⟨#[]⟩
  · have q1 : L0.toList = [] := by rw [hl0, ByteArray.toList_eq]
    have HE := Lib.hid (show l0 = [] by rw [← HL0.out, hl0])
    clear hl0
    go_enter Tryd.func19, Tryd.ntmps19
    go_wp2_with fail
    (with_reducible refine (ContainsNoName_any _ _ _ (HRN.out.ext (ext_alloc _ _)) (by omega)).mono ?_)
    rintro e w1 ⟨rfl, hx⟩
    have X1 := Lib.hid ((ext_alloc _ _).trans hx)
    clear hx
    cases hall : names.all nameB
    · have HF := Lib.hid (show r = 12 by rw [HR.out, labelsC, hall]; simp)
      clear hall
      go_wp2
      go_ret
      rw [HF.out]
      exact ⟨rfl, X1.out⟩
    · have HF := Lib.hid (show r = firstErr (nameAt names) 0 names.length by rw [HR.out, labelsC, hall]; simp [HE.out])
      clear hall
      go_wp2
      go_loopw [20] (fun i wr => ∃ (k : Nat), k ≤ M ∧ i = .int .i64 k ∧ r = firstErr (nameAt names) k (M - k) ∧ wr = w1) (fun i _ => M - (intOf i).toNat)
      case atStart => exact ⟨0, by omega, rfl, by rw [HF.out, HM.out]; rfl, rfl⟩
      case round =>
        obtain ⟨k, hkN, rfl, hno, rfl⟩ := hrel
        have HNO := Lib.hid hno
        clear hno
        have i0 : (0 : Int) ≤ (k : Int) := by omega
        by_cases hlt : k < M
        · have i1 : (k : Int) < (M : Int) := by omega
          have hkl : k < names.length := by have := HM.out; omega
          have HRW := Lib.hid (HRN.out.ext X1.out)
          obtain ⟨A', N', c', e1, hN', hc1', hc2', hcell'⟩ := strs_open HRW.out
          injection e1 with e1 e2 e3
          obtain ⟨a', ha', hb', hcs'⟩ := hcell' (by omega)
          have k0 := hcs' k hkl
          obtain ⟨S, hS⟩ : ∃ S : ByteArray, S = ⟨(names[k]).toArray⟩ := ⟨_, rfl⟩
          rw [← hS] at k0
          have HS := Lib.hid (show S.data.toList = names[k] by rw [hS])
          have hA : A1 = some a' := e1.trans ha'
          clear e1 e2 e3 hN' hc1' hc2' hcell' hcs' ha' hb' hS
          subst hA
          have sl2 : ∀ (W : World) (kl : IntKind), (Instr.slice 24 (.slice (some a') M c1) none (some (.int kl (k : Int))) none).run Tryd.prog W = .ok (.slice (subA (some a') 0 c1) k c1) W := fun W kl => sl_h Tryd.underlying24 hi hz1 (by omega) W kl
          have HTK := Lib.hid (show Rd wr (.slice (subA (some a') 0 c1) k c1) ((names.take k).map sv) by rw [List.map_take]; exact HRW.out.sub0 (by omega))
          have HST := Lib.hid (show r = if nameAt names k = 0 then firstErr (nameAt names) (k + 1) (M - (k + 1)) else nameAt names k by
            rw [HNO.out, show M - k = (M - (k + 1)) + 1 by omega]; rfl)
          have HNA := Lib.hid (nameAt_eq hkl)
          have htl : (names.take k).length ≤ 1000000 := by rw [List.length_take]; omega
          go_wp2_with fail
          (with_reducible refine (ContainsS_any _ S _ _ HTK.out htl).mono ?_)
          rintro e w2 ⟨rfl, rfl⟩
          by_cases hin : S.data.toList ∈ names.take k
          · have HF2 := Lib.hid (show r = 7 by rw [HST.out, HNA.out, ← HS.out, if_pos hin]; rfl)
            rw [decide_eq_true hin]
            clear hin
            go_wp2
            go_ret
            rw [HF2.out]
            exact ⟨rfl, X1.out⟩
          · have HF2 := Lib.hid (show r = firstErr (nameAt names) (k + 1) (M - (k + 1)) by rw [HST.out, HNA.out, ← HS.out, if_neg hin]; rfl)
            rw [decide_eq_false hin]
            clear hin
            go_wp2
            go_roundw
            case rel => exact ⟨k + 1, by omega, by simp, HF2.out, trivial⟩
            case measure => simp [intOf]; omega
        · have i1 : ¬ (k : Int) < (M : Int) := by omega
          have HF2 := Lib.hid (show r = 0 by rw [HNO.out, show M - k = 0 by omega]; rfl)
          go_wp2
          go_ret
          rw [HF2.out]
          exact ⟨rfl, X1.out⟩
  · have q1 : (L0.toList == []) = false := by rw [beq_eq_false_iff_ne, ByteArray.toList_eq]; intro e; exact hl0 (ba_nil.2 e)
    have HE := Lib.hid (show l0 ≠ [] by rw [← HL0.out]; intro e; exact hl0 (ba_nil.2 e))
    have HF := Lib.hid (show r = 12 by rw [HR.out, labelsC, if_neg (fun h => HE.out h.1)])
    have q2 : ¬ L0.toList = [] := by simpa using q1
    clear hl0
    go_enter Tryd.func19, Tryd.ntmps19
    go_wp2
    go_ret
    rw [HF.out]
    exact ⟨rfl, ext_alloc _ _⟩
end Go.Proofs.YtflbhnckhbcboaaDoor
