/- conf.shares. -/
import Derived.Test.YtigfoghkndoakaaDoorCut
import Derived.Test.YtigfoghkndoakaaDoorRdK
import Derived.Laws.MakeOwn
import Derived.Laws.OwnMore
namespace Go.Proofs.YtigfoghkndoakaaDoor
open Go.RowKit

theorem Tryd.infoCap : (Tryd.prog.info? 38).map (fun i => (i.zero, i.size, i.bytes)) = some (some (.agg #[.int .i64 0, .int .i64 0]), 2, 16) := by kernel_rfl

theorem inj_snoc (l : List (Nat × Nat)) (p : Nat × Nat) : inj (l ++ [p]) = inj l ++ [((p.1 : Int), (p.2 : Int))] := by simp [inj]
theorem inj_length (l : List (Nat × Nat)) : (inj l).length = l.length := by simp [inj]

theorem caps_some {l : List Tx} {cs : List (Nat × Nat)} (h : caps? l = some cs) : cs.length = l.length := by
  induction l generalizing cs with
  | nil => simp [caps?] at h; subst h; rfl
  | cons x l ih =>
    unfold caps? at h
    split at h
    · rename_i a b ha hb
      injection h with h
      subst h
      simp [ih hb]
    · cases h
/-- Behind the first k words. -/
theorem caps_take {l : List Tx} {k : Nat} (hk : k < l.length) {cs : List (Nat × Nat)} (h : caps? (l.take k) = some cs) :
    (∀ p, cap? l[k] = some p → caps? (l.take (k + 1)) = some (cs ++ [p])) ∧ (cap? l[k] = none → caps? l = none) := by
  induction l generalizing k cs with
  | nil => simp at hk
  | cons x l ih =>
    cases k with
    | zero =>
      simp [caps?] at h
      subst h
      simp only [List.getElem_cons_zero, List.take_succ_cons, List.take_zero, List.nil_append]
      refine ⟨fun p hp => by simp [caps?, hp], fun hn => by simp [caps?, hn]⟩
    | succ k =>
      simp only [List.take_succ_cons] at h ⊢
      unfold caps? at h
      split at h
      · rename_i a b ha hb
        injection h with h
        subst h
        obtain ⟨h1, h2⟩ := ih (by simpa using hk) hb
        simp only [List.getElem_cons_succ]
        refine ⟨fun p hp => ?_, fun hn => ?_⟩
        · rw [caps?, ha, h1 p hp]; rfl
        · rw [caps?, ha, h2 hn]
      · cases h

theorem two_more {l : List Value} (h : 2 ≤ l.length) : ∃ u v r, l = u :: v :: r := by
  match l, h with
  | u :: v :: r, _ => exact ⟨u, v, r, rfl⟩

def SharesPost (ws : List Tx) (w : World) (e : Ending) (w' : World) : Prop := match caps? ws with
  | some cs => ∃ A c, e = .returned (.tuple #[.slice A cs.length c, .bool true]) ∧ w'.ownsRow w.heap.size 38 2 (.slice A cs.length c) cs.length (capCells (inj cs)) ∧ Ext w w'
  | none => e = .returned (.tuple #[.slice none 0 0, .bool false]) ∧ Ext w w'

structure SharesAt (ws : List Tx) (w wr : World) (g n k : Nat) : Prop where
  le : k ≤ n
  some : ∃ cs rest, caps? (ws.take k) = some cs ∧ wr.ownsRow w.heap.size 38 2 (.slice (some ⟨g, 0, none⟩) n n) n (capCells (inj cs) ++ rest)
  ext : Ext w wr

set_option maxHeartbeats 1600000 in
set_option maxRecDepth 100000 in
theorem shares_any (v : Value) (ws : List Tx) (w : World) (hr : Rd w v (ws.map sv)) (hl : ws.length ≤ 1000000) (hz : ∀ l ∈ ws, l.length ≤ 4294967296) :
    Calls Tryd.prog 66 #[v] w (SharesPost ws w) := by
  obtain ⟨i0, hi, hz0, hz1, hz2⟩ := info_parts Tryd.infoCap
  have HR := Lib.hid hr
  obtain ⟨A, N, c, rfl, hN, hc1, hc2, hcell⟩ := strs_open hr
  have HN := Lib.hid hN
  have HC := Lib.hid hcell
  have HZ := Lib.hid hz
  have hN6 : N ≤ 1000000 := by omega
  obtain ⟨W0, hmk, hown0, hg0⟩ := run_make_full (P := Tryd.prog) w w.heap.size 34 38 i0 _ 2 Tryd.underlying34 hi hz0 hz1 .i64 .i64 N (by rw [hz2]; omega) (by unfold maxLen; omega) (Nat.le_refl _)
  have X0 := Lib.hid (grown_ext hg0)
  have O0 := Lib.hid hown0
  have hNp : (0 : Int) ≤ (N : Int) := by omega
  clear hr hcell hN hz hl hown0 hg0
  go_enter Tryd.func66, Tryd.ntmps66
  go_wp2
  go_loopw [14] (fun i wr => ∃ k : Nat, i = .int .i64 k ∧ SharesAt ws w wr w.heap.size N k) (fun i _ => N - (intOf i).toNat)
  case atStart => exact ⟨0, rfl, Nat.zero_le _, ⟨[], _, rfl, O0.out⟩, X0.out⟩
  case round =>
    obtain ⟨k, rfl, hS⟩ := hrel
    have hk := hS.le
    obtain ⟨cs, rest, hcs, hown⟩ := hS.some
    have X := Lib.hid hS.ext
    have CS := Lib.hid hcs
    have OW := Lib.hid hown
    have hcl : cs.length = k := by rw [caps_some hcs, List.length_take, Nat.min_eq_left (by rw [← HN.out]; exact hk)]
    have HCL := Lib.hid hcl
    clear hS hcs hown hcl
    have i0' : (0 : Int) ≤ (k : Int) := by omega
    by_cases hlt : k < N
    · have i1 : (k : Int) < (N : Int) := by omega
      obtain ⟨a, rfl, hb, hcs⟩ := HC.out (by omega)
      have hkl : k < ws.length := by rw [← HN.out]; exact hlt
      have hc := X.out.cell' (hcs k hkl)
      have HT := Lib.hid (caps_take hkl CS.out)
      have hzz := HZ.out ws[k] (List.getElem_mem hkl)
      obtain ⟨x, hx⟩ : ∃ x, x = ws[k] := ⟨_, rfl⟩
      rw [← hx] at hc hzz HT
      obtain ⟨S, hS⟩ : ∃ S : ByteArray, S = ⟨x.toArray⟩ := ⟨_, rfl⟩
      have hSx : S.data.toList = x := by rw [hS]
      have hSs : S.size ≤ 9223372036854775807 := by rw [ba_size, hSx]; omega
      rw [← hS] at hc
      have HSX := Lib.hid hSx
      clear hcs hx hS hSx hzz hb
      go_wp2_with fail
      (with_reducible refine (share_any S _ hSs).mono ?_)
      rw [HSX.out]
      rintro e w1 ⟨rfl, hx1⟩
      cases hq : cap? x with
      | none =>
        have H := Lib.hid (show caps? ws = none from HT.out.2 hq)
        have X1 := Lib.hid (X.out.trans hx1)
        simp only [capV, Option.getD_none, Option.isSome_none]
        clear hx1 hq
        go_wp2
        go_ret2
        unfold SharesPost
        rw [H.out]
        exact ⟨rfl, X1.out.trans (ext_alloc _ _)⟩
      | some p =>
        have HTK := Lib.hid (HT.out.1 p hq)
        obtain ⟨g1, g2⟩ := p
        simp only [capV, Option.getD_some, Option.isSome_some]
        obtain ⟨u, v', r', hrest⟩ := two_more (l := rest) (by
          have h1 := OW.out.1
          rw [List.length_append, capCells_length, inj_length, HCL.out] at h1
          omega)
        have own0 := own_ExtK OW.out hx1
        have f0 := fun j => own0.frozenAt j
        have lt0 := (own0.lt _ rfl).2
        have c0 := own0.cellAt (k * 2) (by omega)
        have c1 := own0.cellAt (k * 2 + 1) (by omega)
        have st1 := own0.stored (k * 2) (.int .i64 (g1 : Int))
        have st2 := st1.1.stored (k * 2 + 1) (.int .i64 (g2 : Int))
        subst hrest
        rw [set_two _ (k * 2) (by rw [capCells_length, inj_length, HCL.out])] at st2
        rw [(get_two (capCells (inj cs)) (k * 2) (by rw [capCells_length, inj_length, HCL.out]) u v' r').1] at c0
        rw [(get_two (capCells (inj cs)) (k * 2) (by rw [capCells_length, inj_length, HCL.out]) u v' r').2] at c1
        have ST := Lib.hid (st2.1.alloc (.cells #[.int .i64 (g1 : Int), .int .i64 (g2 : Int)] 38))
        have HE := Lib.hid ((show Ext w _ from ext_set (o := k * 2 + 1) (ext_set (o := k * 2) (X.out.trans hx1) (Nat.le_refl _) (.int .i64 (g1 : Int))) (Nat.le_refl _) (.int .i64 (g2 : Int))).trans (ext_alloc _ (.cells #[.int .i64 (g1 : Int), .int .i64 (g2 : Int)] 38)))
        clear hx1 hq own0 st1 st2
        go_wp2
        go_roundw
        case rel =>
          refine ⟨k + 1, by go_num, by omega, ⟨cs ++ [(g1, g2)], r', HTK.out, ?_⟩, HE.out⟩
          rw [inj_snoc, capCells_snoc, List.append_assoc]
          exact ST.out
        case measure => simp [intOf]; omega
    · obtain rfl : k = N := by omega
      have hfull : rest = [] := by
        have h1 := OW.out.1
        rw [List.length_append, capCells_length, inj_length, HCL.out] at h1
        exact List.eq_nil_of_length_eq_zero (by omega)
      have H := Lib.hid (show caps? ws = some cs by have := CS.out; rwa [HN.out, List.take_length] at this)
      have O := Lib.hid (show wr.ownsRow w.heap.size 38 2 (.slice (some ⟨w.heap.size, 0, none⟩) cs.length cs.length) cs.length (capCells (inj cs)) by
        have := OW.out; rw [hfull, List.append_nil] at this; rw [HCL.out]; exact this)
      go_wp2
      go_ret2
      unfold SharesPost
      rw [H.out]
      exact ⟨some ⟨w.heap.size, 0, none⟩, cs.length, by rw [HCL.out]; rfl, O.out, X.out⟩
end Go.Proofs.YtigfoghkndoakaaDoor
