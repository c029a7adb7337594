/- rule.isNoName, slices.ContainsFunc at it; rule.isPath. -/
import Derived.Test.YtflbhnckhbcboaaDoorPathP
import Derived.Test.YtflbhnckhbcboaaDoorIndex
import Derived.Lib.Split
namespace Go.Proofs.YtflbhnckhbcboaaDoor
open Go.RowKit

theorem isNoName_any (S : ByteArray) (w : World) : Calls Tryd.prog 37 #[.string S] w fun e w' => e = .returned (.bool (!nameB S.data.toList)) ∧ Ext w w' := by
  cases h : nameB S.data.toList
  all_goals (
    have HN := Lib.hid h
    clear h
    go_enter Tryd.func37, Tryd.ntmps37
    go_wp2_with fail
    (with_reducible refine (Name_any S _).mono ?_)
    rw [HN.out]
    rintro e w1 ⟨rfl, hx⟩
    have X := Lib.hid hx
    clear hx
    go_wp2
    go_ret
    exact ⟨rfl, X.out⟩)

def NoNameIdx (ws : List Tx) (r : Int) : Prop := (r = -1 ∧ ws.all nameB = true) ∨ (0 ≤ r ∧ ws.all nameB = false)
theorem all_notN {l : List Tx} {k : Nat} (hk : k < l.length) (h : nameB l[k] = false) : l.all nameB = false := by
  rw [List.all_eq_false]
  exact ⟨l[k], List.getElem_mem hk, by simp [h]⟩

set_option maxRecDepth 100000 in
set_option maxHeartbeats 1600000 in
theorem IndexNoName_any (v : Value) (ws : List Tx) (w : World) (hr : Rd w v (ws.map sv)) (hl : ws.length ≤ 1000000) :
    Calls Tryd.prog 56 #[v, .func (.func 37) #[] #[]] w fun e w' => ∃ r : Int, e = .returned (.int .i64 r) ∧ Ext w w' ∧ NoNameIdx ws r := by
  obtain ⟨A, N, c, rfl, hN, hc1, hc2, hcell⟩ := strs_open hr
  have HC := Lib.hid hcell
  have HN := Lib.hid hN
  have hN1 : N ≤ 1000000 := by omega
  clear hcell hN hr
  go_enter Tryd.func56, Tryd.ntmps56
  go_wp2
  go_loopw [8] (fun i wr => ∃ (k : Nat), k ≤ N ∧ i = .int .i64 k ∧ (ws.take k).all nameB = true ∧ Ext w wr) (fun i _ => N - (intOf i).toNat)
  case atStart => exact ⟨0, by omega, rfl, rfl, Ext.refl _⟩
  case round =>
    obtain ⟨k, hkN, rfl, hno, hx⟩ := hrel
    have HX := Lib.hid hx
    have HNO := Lib.hid hno
    clear hx hno
    have i0 : (0 : Int) ≤ (k : Int) := by omega
    by_cases hlt : k < N
    · have i1 : (k : Int) < (N : Int) := by omega
      have hkl : k < ws.length := by have := HN.out; omega
      obtain ⟨a, rfl, hb, hcs⟩ := HC.out (by omega)
      have c0 := HX.out.cell' (hcs k hkl)
      obtain ⟨S, hS⟩ : ∃ S : ByteArray, S = ⟨(ws[k]).toArray⟩ := ⟨_, rfl⟩
      rw [← hS] at c0
      have HS := Lib.hid (show S.data.toList = ws[k] by rw [hS])
      clear hS hcs
      cases hn : nameB ws[k] with
      | false =>
        have HI := Lib.hid ((isNoName_any S wr).mono fun e w' h => by rw [HS.out, hn] at h; exact h)
        have HK := Lib.hid (all_notN hkl hn)
        clear hn
        go_wp2_with (go_at_call 37; (with_reducible refine (HI.out).mono ?_); rintro e w2 ⟨rfl, hx2⟩)
        have X2 := Lib.hid (HX.out.trans hx2)
        clear hx2
        go_wp2
        go_ret
        exact ⟨_, rfl, X2.out, .inr ⟨by omega, HK.out⟩⟩
      | true =>
        have HI := Lib.hid ((isNoName_any S wr).mono fun e w' h => by rw [HS.out, hn] at h; exact h)
        have HK := Lib.hid (show (ws.take (k + 1)).all nameB = true by
          rw [List.take_succ_eq_append_getElem hkl, List.all_append, HNO.out]
          simp only [List.all_cons, List.all_nil, Bool.and_true, Bool.true_and]
          exact hn)
        clear hn
        go_wp2_with (go_at_call 37; (with_reducible refine (HI.out).mono ?_); rintro e w2 ⟨rfl, hx2⟩)
        have X2 := Lib.hid (HX.out.trans hx2)
        clear hx2
        go_wp2
        go_roundw
        case rel => exact ⟨k + 1, by omega, by simp, HK.out, X2.out⟩
        case measure => simp [intOf]; omega
    · have i1 : ¬ (k : Int) < (N : Int) := by omega
      have HK := Lib.hid (show ws.all nameB = true by have := HNO.out; rwa [List.take_of_length_le (by have := HN.out; omega)] at this)
      go_wp2
      go_ret
      exact ⟨_, rfl, HX.out, .inl ⟨rfl, HK.out⟩⟩

theorem ContainsNoName_any (v : Value) (ws : List Tx) (w : World) (hr : Rd w v (ws.map sv)) (hl : ws.length ≤ 1000000) :
    Calls Tryd.prog 36 #[v, .func (.func 37) #[] #[]] w fun e w' => e = .returned (.bool (!ws.all nameB)) ∧ Ext w w' := by
  have HR := Lib.hid hr
  clear hr
  go_enter Tryd.func36, Tryd.ntmps36
  go_wp2_with fail
  (with_reducible refine (IndexNoName_any v ws _ HR.out hl).mono ?_)
  rintro e w1 ⟨r, rfl, hx, hr⟩
  have X := Lib.hid hx
  clear hx
  rcases hr with ⟨rfl, h⟩ | ⟨h0, h⟩
  · have H := Lib.hid h
    clear h
    go_wp2
    go_ret
    rw [H.out]
    exact ⟨rfl, X.out⟩
  · have H := Lib.hid h
    clear h
    go_wp2
    go_ret
    rw [H.out]
    exact ⟨by simp [h0], X.out⟩

theorem rd_split (w : World) (Ps : List ByteArray) (N : Nat) (h : Ps.length ≤ N) (hN : N ≤ maxLen) (hp : 0 < Ps.length) : Rd (w.alloc (.cells (Lib.cellsOf Ps N) 9)) (.slice (some ⟨w.heap.size, 0, none⟩) Ps.length N) ((Ps.map (·.data.toList)).map sv) := by
  refine ⟨some ⟨w.heap.size, 0, none⟩, N, by simp, by simpa using h, hN, fun _ => ⟨_, rfl, by simp, fun j u hu => ?_⟩⟩
  have hj : j < Ps.length := by
    have := (List.getElem?_eq_some_iff.1 hu).1
    simpa using this
  have hadd : (⟨w.heap.size, 0, none⟩ : Addr).add j = ⟨w.heap.size, j, none⟩ := by unfold Addr.add; (split <;> simp_all)
  rw [hadd, cell_of_row _ w.heap.size j _ 9 (0, 0) (heap_alloc_new w _)]
  unfold Lib.cellsOf
  rw [List.getElem?_toArray, List.getElem?_append_left (by simpa using hj)]
  rw [← hu]
  simp only [List.getElem?_map, List.getElem?_eq_getElem hj, Option.map_some, sv_of]

set_option maxRecDepth 100000 in
set_option maxHeartbeats 1600000 in
theorem isPath_any (S : ByteArray) (w : World) (hs : S.size ≤ 1000000000) (hm : ∃ m, w.cell? ⟨0, 0, none⟩ = some (.int .i64 m)) :
    Calls Tryd.prog 59 #[.string S] w fun e w' => e = .returned (.bool (pathB S.data.toList)) ∧ Ext w w' := by
  obtain ⟨m, hm⟩ := hm
  obtain ⟨N, hN⟩ : ∃ N, N = min 4 (S.size + 1) := ⟨_, rfl⟩
  obtain ⟨Ps, hPs⟩ : ∃ Ps, Ps = Lib.splitB ⟨#[46]⟩ 0 (N - 1) S := ⟨_, rfl⟩
  have hcon : ∀ W, W.cell? ⟨0, 0, none⟩ = some (.int .i64 m) → Calls Tryd.prog 70 #[.string S, .string ⟨#[46]⟩, .int .i64 4] W fun e w' => e = .returned (.slice (some ⟨W.heap.size, 0, none⟩) Ps.length N) ∧ w' = W.alloc (.cells (Lib.cellsOf Ps N) 9) := fun W h => by
    have := Tryd.strings_SplitN S ⟨#[46]⟩ 4 m W (by omega) h (by decide) (by omega) (by omega)
    rw [← hN, ← hPs] at this
    exact this
  have hdat : Ps.map (·.data.toList) = spl (N - 1) S.data.toList := by rw [hPs, Lib.splitB_data, ← splitK_spl]
  have hle : Ps.length ≤ N := by
    have := Lib.splitB_length_le ⟨#[46]⟩ 0 (N - 1) S
    rw [← hPs] at this
    omega
  have hN4 : N ≤ 4 := by omega
  have hpos : 0 < Ps.length := by
    have h := congrArg List.length hdat
    rw [List.length_map] at h
    rw [h]
    cases hk : N - 1 with
    | zero => simp [spl]
    | succ k => simp only [spl]; split <;> simp
  have HRD := Lib.hid (rd_split w Ps N hle (by unfold maxLen; omega) hpos)
  rw [hdat] at HRD
  have HCON := Lib.hid (hcon w hm)
  have hsl : (spl (N - 1) S.data.toList).length = Ps.length := by rw [← hdat]; simp
  obtain ⟨A', N', c', ev, hN', hc1, hc2, hcell⟩ := strs_open HRD.out
  injection ev with e1 e2 e3
  subst e1 e2 e3
  obtain ⟨a, ea, hb, hcs⟩ := hcell hpos
  injection ea with ea
  subst ea
  have k0 := hcs 0 (by omega)
  obtain ⟨P0, hP0⟩ : ∃ P0 : ByteArray, P0 = ⟨((spl (N - 1) S.data.toList)[0]'(by omega)).toArray⟩ := ⟨_, rfl⟩
  rw [← hP0] at k0
  have k0' : (w.alloc (.cells (Lib.cellsOf Ps N) 9)).cell? ⟨w.heap.size, 0, none⟩ = some (.string P0) := by
    have : (⟨w.heap.size, 0, none⟩ : Addr).add 0 = ⟨w.heap.size, 0, none⟩ := by unfold Addr.add; rfl
    rw [this] at k0; exact k0
  have hhd : (spl (N - 1) S.data.toList).head? = some P0.data.toList := by
    rw [hP0, List.head?_eq_getElem?, List.getElem?_eq_getElem (by omega)]
  have HPB := Lib.hid (show pathB S.data.toList = (decide (P0.data.toList = sRoot) && (spl (N - 1) S.data.toList).all nameB) by
    by_cases h0 : S.size = 0
    · have hl : S.data.toList = [] := List.eq_nil_of_length_eq_zero (by rw [← ba_size]; exact h0)
      have hN1 : N - 1 = 0 := by omega
      rw [hN1, hl] at hhd ⊢
      injection hhd with hhd
      rw [← hhd]
      rfl
    · rw [pathB_spl (N - 1) (by omega) _ (by rw [← ba_size]; omega), hhd]
      congr 1
      exact decide_eq_decide.2 (by simp))
  obtain ⟨W1, hW1⟩ : ∃ W1, W1 = w.alloc (.cells (Lib.cellsOf Ps N) 9) := ⟨_, rfl⟩
  rw [← hW1] at k0' HRD HCON
  have X1 := Lib.hid (show Ext w W1 by rw [hW1]; exact ext_alloc _ _)
  have hsm : (spl (N - 1) S.data.toList).length ≤ 1000000 := by omega
  have hp1 : (0 : Int) < (Ps.length : Int) := by omega
  obtain ⟨pl, hpl⟩ : ∃ pl, pl = Ps.length := ⟨_, rfl⟩
  rw [← hpl] at HCON HRD hp1
  clear hcell hcs hP0 k0 hhd hW1 hdat hle hN' hc1 hc2 hcon hm hPs hN hsl hb hpl hpos
  by_cases hr : P0.data.toList = sRoot
  · have q1 : P0.toList = [114, 111, 111, 116] := by rw [ByteArray.toList_eq, hr]; rfl
    have HP2 := Lib.hid (show pathB S.data.toList = (spl (N - 1) S.data.toList).all nameB by rw [HPB.out, hr]; rfl)
    clear hr
    go_enter Tryd.func59, Tryd.ntmps59
    go_wp2_with fail
    (with_reducible refine HCON.out.mono ?_)
    rintro e w1 ⟨rfl, rfl⟩
    go_wp2_with fail
    (with_reducible refine (ContainsNoName_any _ _ _ HRD.out hsm).mono ?_)
    rintro e w2 ⟨rfl, hx2⟩
    have X2 := Lib.hid (X1.out.trans hx2)
    clear hx2
    cases hall : (spl (N - 1) S.data.toList).all nameB
    all_goals (
      have HP3 := Lib.hid (HP2.out.trans hall)
      clear hall
      go_wp2
      go_ret
      rw [HP3.out]
      exact ⟨rfl, X2.out⟩)
  · have q1 : (P0.toList == [114, 111, 111, 116]) = false := by
      rw [beq_eq_false_iff_ne, ByteArray.toList_eq]
      exact fun e => hr e
    have HP2 := Lib.hid (show pathB S.data.toList = false by rw [HPB.out, decide_eq_false hr]; rfl)
    clear hr
    go_enter Tryd.func59, Tryd.ntmps59
    go_wp2_with fail
    (with_reducible refine HCON.out.mono ?_)
    rintro e w1 ⟨rfl, rfl⟩
    go_wp2
    go_ret
    rw [HP2.out]
    exact ⟨rfl, X1.out⟩
end Go.Proofs.YtflbhnckhbcboaaDoor
