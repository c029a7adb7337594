/- rule.Check, as far as sharesWhole's contract is given (gen_check.py writes it). -/
import Derived.Test.YtflbhnckhbcboaaDoorKidsC
import Derived.Test.YtflbhnckhbcboaaDoorKnown6
namespace Go.Proofs.YtflbhnckhbcboaaDoor
open Go.RowKit

def countsC (n m : Nat) : Int := if n = 0 ∨ 3 < n ∨ 16 < m then 4 else 0
def checkF (ls : List Tx) (ds : List QD) : Nat → Int
  | 0 => countsC ls.length ds.length
  | 1 => labelsC ls
  | 2 => firstC ds
  | 3 => queuesC ds ls.length
  | 4 => rootC ds
  | _ => kidsC ds ls.length
def checkC (ls : List Tx) (ds : List QD) : Int := firstErr (checkF ls ds) 0 6

theorem firstErr_zero {f : Nat → Int} : ∀ (n k : Nat), firstErr f k n = 0 → ∀ m, k ≤ m → m < k + n → f m = 0
  | 0, k, _, m, h1, h2 => by omega
  | n + 1, k, h, m, h1, h2 => by
    rw [firstErr] at h
    split at h
    · rename_i h0
      by_cases e : m = k
      · rw [e]; exact h0
      · exact firstErr_zero n (k + 1) h m (by omega) (by omega)
    · exact absurd h (by assumption)
theorem caps_len {ds : List QD} {n : Nat} (h : queuesC ds n = 0) : ∀ q ∈ ds, q.caps.length = n := by
  intro q hq
  obtain ⟨k, hk, rfl⟩ := List.getElem_of_mem hq
  have := firstErr_zero _ _ h k (by omega) (by omega)
  unfold oneC at this
  split at this
  · split at this
    · rename_i hb
      rw [boundAt_eq hk] at hb
      unfold boundB at hb
      simp only [Bool.and_eq_true, decide_eq_true_eq] at hb
      exact hb.1.2
    · cases this
  · exact absurd this (by assumption)

/-- What Check asks of a configuration in memory. -/
structure ConfOk (w : World) (vl vq : Value) (ls : List Tx) (ds : List QD) : Prop where
  labs : Rd w vl (ls.map sv)
  qs : QAt w vq ds
  caps : CapsQ w vq ds
  llen : ls.length ≤ 1000
  qlen : ds.length ≤ 1000
  plen : ∀ q ∈ ds, q.path.length ≤ 1000000000
  clen : ∀ q ∈ ds, q.caps.length ≤ 1000
  mlen : ∃ m, w.cell? ⟨0, 0, none⟩ = some (.int .i64 m)
  shares : 1 ≤ ls.length → ls.length ≤ 3 → 0 < ds.length → ds.length ≤ 16 → queuesC ds ls.length = 0 → Shares ds vl vq ls.length w
theorem Shares.ext {ds : List QD} {vl vq : Value} {n : Nat} {w w' : World} (h : Shares ds vl vq n w) (x : Ext w w') : Shares ds vl vq n w' := fun l hl W hx => h l hl W (x.trans hx)
theorem ConfOk.ext {w w' : World} {vl vq : Value} {ls : List Tx} {ds : List QD} (h : ConfOk w vl vq ls ds) (x : Ext w w') : ConfOk w' vl vq ls ds :=
  ⟨h.labs.ext x, h.qs.ext x, h.caps.ext x, h.llen, h.qlen, h.plen, h.clen, by obtain ⟨m, e⟩ := h.mlen; exact ⟨m, x.cell e⟩, fun a b z c d => (h.shares a b z c d).ext x⟩

theorem counts_ok {n m : Nat} (h : countsC n m = 0) : 1 ≤ n ∧ n ≤ 3 ∧ m ≤ 16 := by
  unfold countsC at h
  split at h
  · cases h
  · omega
theorem first_ok {ds : List QD} (h : firstC ds = 0) : 0 < ds.length := by
  cases ds with
  | nil => cases h
  | cons q l => simp

theorem step0 {w : World} {vl vq : Value} {ls : List Tx} {ds : List QD} (h : ConfOk w vl vq ls ds) (hz : ∀ m, m < 0 → checkF ls ds m = 0) :
    Calls Tryd.prog 18 #[.agg #[vl, vq]] w fun e w' => e = .returned (.int .i64 (checkF ls ds 0)) ∧ Ext w w' := by
  obtain ⟨A, c, hvl, _⟩ := h.labs
  obtain ⟨A', c', hvq, _⟩ := h.qs
  rw [List.length_map] at hvl
  subst hvl hvq
  exact counts_any A A' ls.length c ds.length c' w (by have := h.llen; omega) (by have := h.qlen; omega)

theorem step1 {w : World} {vl vq : Value} {ls : List Tx} {ds : List QD} (h : ConfOk w vl vq ls ds) (hz : ∀ m, m < 1 → checkF ls ds m = 0) :
    Calls Tryd.prog 19 #[.agg #[vl, vq]] w fun e w' => e = .returned (.int .i64 (checkF ls ds 1)) ∧ Ext w w' := by
  have h0 := counts_ok (hz 0 (by omega))
  cases ls with
  | nil => exact absurd h0.1 (by simp)
  | cons l0 names => exact checkLabels_any l0 names vl vq w h.labs (by have := h.llen; simp at this; omega)

theorem step2 {w : World} {vl vq : Value} {ls : List Tx} {ds : List QD} (h : ConfOk w vl vq ls ds) (hz : ∀ m, m < 2 → checkF ls ds m = 0) :
    Calls Tryd.prog 20 #[.agg #[vl, vq]] w fun e w' => e = .returned (.int .i64 (checkF ls ds 2)) ∧ Ext w w' := by
  exact checkFirst_any ds vl vq w h.qs

theorem step3 {w : World} {vl vq : Value} {ls : List Tx} {ds : List QD} (h : ConfOk w vl vq ls ds) (hz : ∀ m, m < 3 → checkF ls ds m = 0) :
    Calls Tryd.prog 21 #[.agg #[vl, vq]] w fun e w' => e = .returned (.int .i64 (checkF ls ds 3)) ∧ Ext w w' := by
  have h0 := counts_ok (hz 0 (by omega))
  obtain ⟨A, c, hvl, _⟩ := h.labs
  rw [List.length_map] at hvl
  subst hvl
  exact checkQueues_any ds A ls.length c vq w h.qs h.caps h.qlen h.plen h.clen h0.1 (by omega) h.mlen

theorem step4 {w : World} {vl vq : Value} {ls : List Tx} {ds : List QD} (h : ConfOk w vl vq ls ds) (hz : ∀ m, m < 4 → checkF ls ds m = 0) :
    Calls Tryd.prog 22 #[.agg #[vl, vq]] w fun e w' => e = .returned (.int .i64 (checkF ls ds 4)) ∧ Ext w w' := by
  have h0 := counts_ok (hz 0 (by omega))
  have h2 := first_ok (hz 2 (by omega))
  have h3 := caps_len (hz 3 (by omega))
  exact checkRoot_any ds vl vq w h.qs h.caps h2 (fun q hq => by rw [h3 q hq]; omega)

theorem step5 {w : World} {vl vq : Value} {ls : List Tx} {ds : List QD} (h : ConfOk w vl vq ls ds) (hz : ∀ m, m < 5 → checkF ls ds m = 0) :
    Calls Tryd.prog 23 #[.agg #[vl, vq]] w fun e w' => e = .returned (.int .i64 (checkF ls ds 5)) ∧ Ext w w' := by
  have h0 := counts_ok (hz 0 (by omega))
  obtain ⟨A, c, hvl, _⟩ := id h.labs
  rw [List.length_map] at hvl
  subst hvl
  exact checkKids_any ds A ls.length c vq w (by omega) (h.shares h0.1 h0.2.1 (first_ok (hz 2 (by omega))) h0.2.2 (hz 3 (by omega)))

set_option maxRecDepth 100000 in
set_option maxHeartbeats 3200000 in
theorem Check_any {w : World} {vl vq : Value} {ls : List Tx} {ds : List QD} (h : ConfOk w vl vq ls ds) :
    Calls Tryd.prog 9 #[.agg #[vl, vq]] w fun e w' => e = .returned (.int .i64 (checkC ls ds)) ∧ Ext w w' := by
  obtain ⟨r, hr⟩ : ∃ r, r = checkC ls ds := ⟨_, rfl⟩
  rw [← hr]
  have HR := Lib.hid hr
  have HOK := Lib.hid h
  clear hr h
  go_enter Tryd.func9, Tryd.ntmps9
  go_wp2
  refine at_world (fun W0 hW0 => ?_)
  have X0 := Lib.hid (show Ext w W0 by rw [hW0]; exact (ext_alloc _ _).trans (ext_alloc _ _))
  have B0 := Lib.hid (show W0.cell? ⟨w.heap.size, 0, none⟩ = some vl by rw [hW0]; simp [go_sem])
  have B1 := Lib.hid (show W0.cell? ⟨w.heap.size, 1, none⟩ = some vq by rw [hW0]; simp [go_sem])
  have D0 := Lib.hid (show W0.cell? ⟨w.heap.size + 1, 0, none⟩ = some (.func (.func 18) #[] #[]) by rw [hW0]; simp [go_sem])
  have D1 := Lib.hid (show W0.cell? ⟨w.heap.size + 1, 1, none⟩ = some (.func (.func 19) #[] #[]) by rw [hW0]; simp [go_sem])
  have D2 := Lib.hid (show W0.cell? ⟨w.heap.size + 1, 2, none⟩ = some (.func (.func 20) #[] #[]) by rw [hW0]; simp [go_sem])
  have D3 := Lib.hid (show W0.cell? ⟨w.heap.size + 1, 3, none⟩ = some (.func (.func 21) #[] #[]) by rw [hW0]; simp [go_sem])
  have D4 := Lib.hid (show W0.cell? ⟨w.heap.size + 1, 4, none⟩ = some (.func (.func 22) #[] #[]) by rw [hW0]; simp [go_sem])
  have D5 := Lib.hid (show W0.cell? ⟨w.heap.size + 1, 5, none⟩ = some (.func (.func 23) #[] #[]) by rw [hW0]; simp [go_sem])
  clear hW0
  go_loopw [8] (fun i wr => ∃ (k : Nat), k ≤ 6 ∧ i = .int .i64 k ∧ (∀ m, m < k → checkF ls ds m = 0) ∧ r = firstErr (checkF ls ds) k (6 - k) ∧ Ext W0 wr) (fun i _ => 6 - (intOf i).toNat)
  case atStart => exact ⟨0, by omega, rfl, fun m hm => by omega, HR.out, Ext.refl _⟩
  case round =>
    obtain ⟨k, hkN, rfl, hz, hno, hx⟩ := hrel
    have HX := Lib.hid hx
    have HZ := Lib.hid hz
    have HNO := Lib.hid hno
    clear hx hz hno
    have b0 := HX.out.cell B0.out
    have b1 := HX.out.cell B1.out
    have HCK := Lib.hid (HOK.out.ext (X0.out.trans HX.out))
    rcases (show k = 0 ∨ k = 1 ∨ k = 2 ∨ k = 3 ∨ k = 4 ∨ k = 5 ∨ k = 6 by omega) with rfl | rfl | rfl | rfl | rfl | rfl | rfl
    · have d := HX.out.cell D0.out
      have HS := Lib.hid (step0 HCK.out HZ.out)
      have HST := Lib.hid (show r = if checkF ls ds 0 = 0 then firstErr (checkF ls ds) (0 + 1) (6 - (0 + 1)) else checkF ls ds 0 from HNO.out)
      have HZ2 := Lib.hid (fun (h0 : checkF ls ds 0 = 0) => (fun m hm => if e : m = 0 then by rw [e]; exact h0 else HZ.out m (by omega) : ∀ m, m < 0 + 1 → checkF ls ds m = 0))
      obtain ⟨pc, hpc⟩ : ∃ pc, pc = checkF ls ds 0 := ⟨_, rfl⟩
      rw [← hpc] at HS HST HZ2
      clear hpc
      by_cases hz : pc = 0
      · have HF := Lib.hid (HST.out.trans (if_pos hz))
        have HZ3 := Lib.hid (HZ2.out hz)
        clear HZ2 HST
        subst hz
        go_wp2_with (go_at_call 18; (with_reducible refine HS.out.mono ?_); rintro e w2 ⟨rfl, hx2⟩)
        have X2 := Lib.hid (HX.out.trans hx2)
        clear hx2
        go_wp2
        go_roundw
        case rel => exact ⟨0 + 1, by omega, by simp, HZ3.out, HF.out, X2.out⟩
        case measure => simp [intOf]
      · have HF := Lib.hid (HST.out.trans (if_neg hz))
        have z1 : (pc == 0) = false := by simpa using hz
        clear hz HZ2 HST
        go_wp2_with (go_at_call 18; (with_reducible refine HS.out.mono ?_); rintro e w2 ⟨rfl, hx2⟩)
        have X2 := Lib.hid (HX.out.trans hx2)
        clear hx2
        go_wp2
        go_ret
        rw [HF.out]
        exact ⟨rfl, X0.out.trans X2.out⟩
    · have d := HX.out.cell D1.out
      have HS := Lib.hid (step1 HCK.out HZ.out)
      have HST := Lib.hid (show r = if checkF ls ds 1 = 0 then firstErr (checkF ls ds) (1 + 1) (6 - (1 + 1)) else checkF ls ds 1 from HNO.out)
      have HZ2 := Lib.hid (fun (h0 : checkF ls ds 1 = 0) => (fun m hm => if e : m = 1 then by rw [e]; exact h0 else HZ.out m (by omega) : ∀ m, m < 1 + 1 → checkF ls ds m = 0))
      obtain ⟨pc, hpc⟩ : ∃ pc, pc = checkF ls ds 1 := ⟨_, rfl⟩
      rw [← hpc] at HS HST HZ2
      clear hpc
      by_cases hz : pc = 0
      · have HF := Lib.hid (HST.out.trans (if_pos hz))
        have HZ3 := Lib.hid (HZ2.out hz)
        clear HZ2 HST
        subst hz
        go_wp2_with (go_at_call 19; (with_reducible refine HS.out.mono ?_); rintro e w2 ⟨rfl, hx2⟩)
        have X2 := Lib.hid (HX.out.trans hx2)
        clear hx2
        go_wp2
        go_roundw
        case rel => exact ⟨1 + 1, by omega, by simp, HZ3.out, HF.out, X2.out⟩
        case measure => simp [intOf]
      · have HF := Lib.hid (HST.out.trans (if_neg hz))
        have z1 : (pc == 0) = false := by simpa using hz
        clear hz HZ2 HST
        go_wp2_with (go_at_call 19; (with_reducible refine HS.out.mono ?_); rintro e w2 ⟨rfl, hx2⟩)
        have X2 := Lib.hid (HX.out.trans hx2)
        clear hx2
        go_wp2
        go_ret
        rw [HF.out]
        exact ⟨rfl, X0.out.trans X2.out⟩
    · have d := HX.out.cell D2.out
      have HS := Lib.hid (step2 HCK.out HZ.out)
      have HST := Lib.hid (show r = if checkF ls ds 2 = 0 then firstErr (checkF ls ds) (2 + 1) (6 - (2 + 1)) else checkF ls ds 2 from HNO.out)
      have HZ2 := Lib.hid (fun (h0 : checkF ls ds 2 = 0) => (fun m hm => if e : m = 2 then by rw [e]; exact h0 else HZ.out m (by omega) : ∀ m, m < 2 + 1 → checkF ls ds m = 0))
      obtain ⟨pc, hpc⟩ : ∃ pc, pc = checkF ls ds 2 := ⟨_, rfl⟩
      rw [← hpc] at HS HST HZ2
      clear hpc
      by_cases hz : pc = 0
      · have HF := Lib.hid (HST.out.trans (if_pos hz))
        have HZ3 := Lib.hid (HZ2.out hz)
        clear HZ2 HST
        subst hz
        go_wp2_with (go_at_call 20; (with_reducible refine HS.out.mono ?_); rintro e w2 ⟨rfl, hx2⟩)
        have X2 := Lib.hid (HX.out.trans hx2)
        clear hx2
        go_wp2
        go_roundw
        case rel => exact ⟨2 + 1, by omega, by simp, HZ3.out, HF.out, X2.out⟩
        case measure => simp [intOf]
      · have HF := Lib.hid (HST.out.trans (if_neg hz))
        have z1 : (pc == 0) = false := by simpa using hz
        clear hz HZ2 HST
        go_wp2_with (go_at_call 20; (with_reducible refine HS.out.mono ?_); rintro e w2 ⟨rfl, hx2⟩)
        have X2 := Lib.hid (HX.out.trans hx2)
        clear hx2
        go_wp2
        go_ret
        rw [HF.out]
        exact ⟨rfl, X0.out.trans X2.out⟩
    · have d := HX.out.cell D3.out
      have HS := Lib.hid (step3 HCK.out HZ.out)
      have HST := Lib.hid (show r = if checkF ls ds 3 = 0 then firstErr (checkF ls ds) (3 + 1) (6 - (3 + 1)) else checkF ls ds 3 from HNO.out)
      have HZ2 := Lib.hid (fun (h0 : checkF ls ds 3 = 0) => (fun m hm => if e : m = 3 then by rw [e]; exact h0 else HZ.out m (by omega) : ∀ m, m < 3 + 1 → checkF ls ds m = 0))
      obtain ⟨pc, hpc⟩ : ∃ pc, pc = checkF ls ds 3 := ⟨_, rfl⟩
      rw [← hpc] at HS HST HZ2
      clear hpc
      by_cases hz : pc = 0
      · have HF := Lib.hid (HST.out.trans (if_pos hz))
        have HZ3 := Lib.hid (HZ2.out hz)
        clear HZ2 HST
        subst hz
        go_wp2_with (go_at_call 21; (with_reducible refine HS.out.mono ?_); rintro e w2 ⟨rfl, hx2⟩)
        have X2 := Lib.hid (HX.out.trans hx2)
        clear hx2
        go_wp2
        go_roundw
        case rel => exact ⟨3 + 1, by omega, by simp, HZ3.out, HF.out, X2.out⟩
        case measure => simp [intOf]
      · have HF := Lib.hid (HST.out.trans (if_neg hz))
        have z1 : (pc == 0) = false := by simpa using hz
        clear hz HZ2 HST
        go_wp2_with (go_at_call 21; (with_reducible refine HS.out.mono ?_); rintro e w2 ⟨rfl, hx2⟩)
        have X2 := Lib.hid (HX.out.trans hx2)
        clear hx2
        go_wp2
        go_ret
        rw [HF.out]
        exact ⟨rfl, X0.out.trans X2.out⟩
    · have d := HX.out.cell D4.out
      have HS := Lib.hid (step4 HCK.out HZ.out)
      have HST := Lib.hid (show r = if checkF ls ds 4 = 0 then firstErr (checkF ls ds) (4 + 1) (6 - (4 + 1)) else checkF ls ds 4 from HNO.out)
      have HZ2 := Lib.hid (fun (h0 : checkF ls ds 4 = 0) => (fun m hm => if e : m = 4 then by rw [e]; exact h0 else HZ.out m (by omega) : ∀ m, m < 4 + 1 → checkF ls ds m = 0))
      obtain ⟨pc, hpc⟩ : ∃ pc, pc = checkF ls ds 4 := ⟨_, rfl⟩
      rw [← hpc] at HS HST HZ2
      clear hpc
      by_cases hz : pc = 0
      · have HF := Lib.hid (HST.out.trans (if_pos hz))
        have HZ3 := Lib.hid (HZ2.out hz)
        clear HZ2 HST
        subst hz
        go_wp2_with (go_at_call 22; (with_reducible refine HS.out.mono ?_); rintro e w2 ⟨rfl, hx2⟩)
        have X2 := Lib.hid (HX.out.trans hx2)
        clear hx2
        go_wp2
        go_roundw
        case rel => exact ⟨4 + 1, by omega, by simp, HZ3.out, HF.out, X2.out⟩
        case measure => simp [intOf]
      · have HF := Lib.hid (HST.out.trans (if_neg hz))
        have z1 : (pc == 0) = false := by simpa using hz
        clear hz HZ2 HST
        go_wp2_with (go_at_call 22; (with_reducible refine HS.out.mono ?_); rintro e w2 ⟨rfl, hx2⟩)
        have X2 := Lib.hid (HX.out.trans hx2)
        clear hx2
        go_wp2
        go_ret
        rw [HF.out]
        exact ⟨rfl, X0.out.trans X2.out⟩
    · have d := HX.out.cell D5.out
      have HS := Lib.hid (step5 HCK.out HZ.out)
      have HST := Lib.hid (show r = if checkF ls ds 5 = 0 then firstErr (checkF ls ds) (5 + 1) (6 - (5 + 1)) else checkF ls ds 5 from HNO.out)
      have HZ2 := Lib.hid (fun (h0 : checkF ls ds 5 = 0) => (fun m hm => if e : m = 5 then by rw [e]; exact h0 else HZ.out m (by omega) : ∀ m, m < 5 + 1 → checkF ls ds m = 0))
      obtain ⟨pc, hpc⟩ : ∃ pc, pc = checkF ls ds 5 := ⟨_, rfl⟩
      rw [← hpc] at HS HST HZ2
      clear hpc
      by_cases hz : pc = 0
      · have HF := Lib.hid (HST.out.trans (if_pos hz))
        have HZ3 := Lib.hid (HZ2.out hz)
        clear HZ2 HST
        subst hz
        go_wp2_with (go_at_call 23; (with_reducible refine HS.out.mono ?_); rintro e w2 ⟨rfl, hx2⟩)
        have X2 := Lib.hid (HX.out.trans hx2)
        clear hx2
        go_wp2
        go_roundw
        case rel => exact ⟨5 + 1, by omega, by simp, HZ3.out, HF.out, X2.out⟩
        case measure => simp [intOf]
      · have HF := Lib.hid (HST.out.trans (if_neg hz))
        have z1 : (pc == 0) = false := by simpa using hz
        clear hz HZ2 HST
        go_wp2_with (go_at_call 23; (with_reducible refine HS.out.mono ?_); rintro e w2 ⟨rfl, hx2⟩)
        have X2 := Lib.hid (HX.out.trans hx2)
        clear hx2
        go_wp2
        go_ret
        rw [HF.out]
        exact ⟨rfl, X0.out.trans X2.out⟩
    · have HF := Lib.hid (show r = 0 from HNO.out)
      go_wp2
      go_ret
      rw [HF.out]
      exact ⟨rfl, X0.out.trans HX.out⟩
end Go.Proofs.YtflbhnckhbcboaaDoor
