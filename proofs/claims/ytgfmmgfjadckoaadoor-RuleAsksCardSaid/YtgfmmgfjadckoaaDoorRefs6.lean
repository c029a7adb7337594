/- dispatchref6: Name, Up, Find, Leaf; dispatchlaw6.texts. -/
import Derived.Test.YtgfmmgfjadckoaaDoorFind
namespace Go.Proofs.YtgfmmgfjadckoaaDoor
open Go.RowKit

set_option maxRecDepth 100000 in
set_option maxHeartbeats 1600000 in
theorem texts_any (v u : Value) (ws : List Tx) (w : World) (h1 : Rd w v (ws.map sv)) (h2 : Rd w u (ws.map sv)) (hl : ws.length ≤ 1000000000) :
    Calls Tryd.prog 18 #[v, u] w fun e w' => e = .returned (.bool true) ∧ Ext w w' := by
  obtain ⟨A, N, c, rfl, hN, hc1, hc2, hcell⟩ := strs_open h1
  obtain ⟨A', N', c', rfl, hN', hc1', hc2', hcell'⟩ := strs_open h2
  have HC := Lib.hid hcell
  have HC' := Lib.hid hcell'
  have HN := Lib.hid hN
  obtain rfl : N = N' := by omega
  have hN6 : N ≤ 1000000000 := by omega
  clear hcell hcell' hN hN' h1 h2
  go_enter Tryd.func18, Tryd.ntmps18
  go_wp2
  go_loopw [5] (fun i wr => ∃ k : Nat, i = .int .i64 k ∧ k ≤ N ∧ Ext w wr) (fun i _ => N - (intOf i).toNat)
  case atStart => exact ⟨0, rfl, by omega, Ext.refl _⟩
  case round =>
    obtain ⟨k, rfl, hk, hx⟩ := hrel
    have HX := Lib.hid hx
    have k0 : (0 : Int) ≤ (k : Int) := by omega
    clear hx
    by_cases hlt : k < N
    · have k1' : (k : Int) < (N : Int) := by omega
      obtain ⟨a, rfl, hb, hcs⟩ := HC.out (by omega)
      obtain ⟨a', rfl, hb', hcs'⟩ := HC'.out (by omega)
      have hkl : k < ws.length := by have := HN.out; omega
      have e1 := HX.out.cell' (hcs k hkl)
      have e2 := HX.out.cell' (hcs' k hkl)
      obtain ⟨S, hS⟩ : ∃ S : ByteArray, S = ⟨(ws[k]).toArray⟩ := ⟨_, rfl⟩
      obtain ⟨T, hT⟩ : ∃ T : ByteArray, T = ⟨(ws[k]).toArray⟩ := ⟨_, rfl⟩
      rw [← hS] at e1
      rw [← hT] at e2
      have q1 : (S.toList != T.toList) = false := by rw [hS, hT]; simp
      have q2 : (S.toList == T.toList) = true := by rw [hS, hT]; simp
      clear hS hT hcs hcs'
      go_wp2
      refine wp_region_sched Ext ext_way [(0, true), (1, true), (2, true), (3, true), (4, true), (5, true), (6, true), (7, true), (8, true)] (by kernel_rfl) (by kernel_rfl) (fun _ _ _ _ _ h => h) ?_
      repeat first | ((with_reducible refine sched_free ?_ ?_ ?_ ?_ (fun wk k1 => ?_) ?_); rotate_left 2; (rfl); (first | exact want_none rfl | exact want_some rfl rfl rfl rfl); (go_simp; first | exact OkX.val | (have c0' := k1.cell' e1; have c1' := k1.cell' e2; go_simp; exact OkX.val)); simp only [Act.put, List.setIfInBounds_toArray, List.set_cons_zero, List.set_cons_succ]) | ((with_reducible refine sched_skip ?_ ?_ ?_ ?_); rotate_left; (rfl); (exact want_not rfl rfl rfl rfl rfl); simp only [Act.put, List.setIfInBounds_toArray, List.set_cons_zero, List.set_cons_succ])
      refine sched_done (fun wq k1 => ?_)
      have F := Lib.hid (HX.out.trans ((Ext.drew _).trans k1))
      clear k1
      go_wp2
      go_roundw
      case rel => exact ⟨k + 1, by simp, by omega, F.out⟩
      case measure => simp [intOf]; omega
    · have k1' : ¬ (k : Int) < (N : Int) := by omega
      go_wp2
      go_ret
      exact ⟨rfl, HX.out⟩

set_option maxRecDepth 100000 in
set_option maxHeartbeats 1600000 in
theorem rUp_any (S : ByteArray) (w : World) (hs : S.size ≤ 1000000000) : Calls Tryd.prog 24 #[.string S] w (UpPost S.data.toList w) := by
  obtain ⟨j0, hj, hy0, hy1, hy2⟩ := info_parts Tryd.infoStr
  go_enter Tryd.func24, Tryd.ntmps24
  go_wp2
  go_loopw [3, 0] (fun v s wr => ∃ (done : List Tx) (T : ByteArray), s = .string T ∧ wr.ownsRow w.heap.size 9 1 v done.length (done.map sv) ∧ done ++ ups T.data.toList = ups S.data.toList ∧ T.size ≤ S.size ∧ Ext w wr) (fun _ s _ => strLen s)
  case atStart => exact ⟨[], S, rfl, World.ownsRow_nil w _ _ 1, rfl, Nat.le_refl _, Ext.refl _⟩
  case round =>
    obtain ⟨done, T, rfl, ho, hd, hT, hx⟩ := hrel
    have HX := Lib.hid hx
    have HD := Lib.hid hd
    have hdl : done.length ≤ 1000000000 := by
      have h1 := ups_length S.data.toList
      rw [← hd, List.length_append, ← ba_size] at h1
      omega
    obtain ⟨n, hn⟩ : ∃ n, n = done.length := ⟨_, rfl⟩
    rw [← hn] at ho hdl
    obtain ⟨A, c, rfl, hc1, hc2⟩ := own_shape ho
    have HN := Lib.hid hn
    have HO := Lib.hid ho
    clear hx hd ho hn
    by_cases h0 : T = ⟨#[]⟩
    · have hE : T.toList = [] := by rw [h0, ByteArray.toList_eq]
      have HU := Lib.hid (show ups S.data.toList = done by rw [← HD.out, h0]; show done ++ ups [] = done; rw [ups_nil, List.append_nil])
      clear h0
      go_wp2
      go_ret
      exact ⟨A, n, c, rfl, by rw [HU.out]; exact HN.out, by rw [HU.out]; exact HO.out, HX.out⟩
    · have hne : T.data.toList ≠ [] := fun h => h0 (ba_nil.2 h)
      have hE : ¬ T.toList = [] := by rw [ByteArray.toList_eq]; exact hne
      have hE2 : T.toList.isEmpty = false := by simp [hE]
      have hE3 : (!T.toList.isEmpty) = true := by simp [hE]
      have HU := Lib.hid (ups_cons hne)
      have HLT := Lib.hid (above_lt hne)
      clear h0 hne
      go_wp2_with (at_builtin; refine wpList_app_src _ rfl (.tmp 6) (.tmp 8) 22 22 rfl w.heap.size 9 j0 (.string ⟨#[]⟩) 16 Tryd.underlying22 hj hy0 hy1 hy2 rfl _ n (done.map sv) rfl (HO.out.alloc _) _ 1 _ rfl ((Rd.one _ _ _ _ _ rfl rfl).src ?c1 Tryd.underlying22) ?c3 ?c4 ?c5 ?_)
      case c1 => first | rfl | (intro u hu; simp at hu; subst hu; rfl)
      case c3 => simp [maxLen]; omega
      case c4 => omega
      case c5 => have := HX.out.size; simp; omega
      intro v' w3 ho3 hg3 _ _
      obtain ⟨y1, y2⟩ := app_str_done HX.out (ext_alloc wr _) HN.out HO.out (Nat.le_refl _) ho3 hg3
      have HO3 := Lib.hid y1
      have E3 := Lib.hid y2
      obtain ⟨Av, cv, rfl, _, _⟩ := own_shape ho3
      clear ho3 hg3 y1 y2
      go_wp2_with fail
      (with_reducible refine (rAbove_any T _ (by omega)).mono ?_)
      rintro e w4 ⟨U, rfl, hU, hUs, rfl⟩
      have HUU := Lib.hid hU
      clear hU
      go_wp2
      go_roundw
      case rel => exact ⟨done ++ [T.data.toList], U, rfl, HO3.out, by rw [← HD.out, HU.out, HUU.out]; simp, by omega, E3.out⟩
      case measure =>
        have h1 := HLT.out
        rw [← HUU.out, ← ba_size, ← ba_size] at h1
        simpa [strLen] using h1

set_option maxRecDepth 100000 in
set_option maxHeartbeats 1600000 in
theorem rName_any (S : ByteArray) (w : World) : Calls Tryd.prog 26 #[.string S] w fun e w' => e = .returned (.bool (nameB S.data.toList)) ∧ w = w' := by
  by_cases h0 : (S.size : Int) < 1
  · have HN := Lib.hid (name_len0 (l := S.data.toList) (List.eq_nil_of_length_eq_zero (by rw [← ba_size]; omega)))
    go_enter Tryd.func26, Tryd.ntmps26
    go_wp2
    go_ret
    rw [HN.out]
    exact ⟨rfl, rfl⟩
  by_cases h12 : (12 : Int) < (S.size : Int)
  · have HN := Lib.hid (name_long (l := S.data.toList) (by rw [← ba_size]; omega))
    go_enter Tryd.func26, Tryd.ntmps26
    go_wp2
    go_ret
    rw [HN.out]
    exact ⟨rfl, rfl⟩
  have HA := Lib.hid (name_all (l := S.data.toList) (fun h => by have h2 : S.size = 0 := (by rw [ba_size, h]; rfl); omega) (by rw [← ba_size]; omega))
  go_enter Tryd.func26, Tryd.ntmps26
  go_wp2
  go_loop [3] (fun i => ∃ k : Nat, i = .int .i64 k ∧ k ≤ S.size ∧ (S.data.toList.take k).all inName = true) (fun i => S.size - (intOf i).toNat)
  case atStart => exact ⟨0, rfl, by omega, rfl⟩
  case round =>
    obtain ⟨k, rfl, hk, hall⟩ := hrel
    have HALL := Lib.hid hall
    have k0 : (0 : Int) ≤ (k : Int) := by omega
    clear hall
    by_cases hlt : k < S.size
    · have k1 : (k : Int) < (S.size : Int) := by omega
      have hl : k < S.data.toList.length := by rw [← ba_size]; exact hlt
      have HB := Lib.hid (show inNameR ((S[k]'hlt).toNat : Int) = inName (S.data.toList[k]) by rw [← inName_R, ba_get S k hlt])
      have hx255 : ((S[k]'hlt).toNat : Int) ≤ 255 := by have := (S[k]'hlt).toNat_lt; omega
      have HT := Lib.hid (show inName (S.data.toList[k]) = true → (S.data.toList.take (k + 1)).all inName = true by
        intro h
        rw [List.take_succ_eq_append_getElem hl, List.all_append, HALL.out]
        simp only [List.all_cons, List.all_nil, Bool.and_true, Bool.true_and]
        exact h)
      have HF := Lib.hid (show inName (S.data.toList[k]) = false → nameB S.data.toList = false by
        intro h
        rw [HA.out]
        exact all_not hl h)
      obtain ⟨x, hx⟩ : ∃ x : Nat, x = (S[k]'hlt).toNat := ⟨_, rfl⟩
      rw [← hx] at HB hx255
      have HXX := Lib.hid hx
      have hxs : ((S[k]'hlt).toNat : Int) = (x : Int) := by rw [hx]
      clear hx
      unfold inNameR at HB
      by_cases h1 : (x : Int) < 97 <;> by_cases h2 : (122 : Int) < (x : Int) <;> by_cases h3 : (x : Int) < 48 <;> by_cases h4 : (57 : Int) < (x : Int) <;> cases h5 : ((x : Int) != 45)
      all_goals first | (exfalso; simp at h5; omega) | skip
      all_goals (
        have hin := HB.out
        simp at h5
        first
          | (have hin2 : inName (S.data.toList[k]) = true := by rw [← hin]; simp; omega
             have hn := HT.out hin2
             have HN := Lib.hid hn
             have h5' : ((x : Int) != 45) = _ := rfl
             clear hin hin2 hn h5'
             go_wp2
             go_round
             case rel => exact ⟨k + 1, by simp, by omega, HN.out⟩
             case measure => simp [intOf]; omega)
          | (have hin2 : inName (S.data.toList[k]) = false := by rw [← hin]; simp; omega
             have HN := Lib.hid (HF.out hin2)
             clear hin hin2
             go_wp2
             go_ret
             rw [HN.out]
             exact ⟨rfl, rfl⟩))
    · have k1 : ¬ (k : Int) < (S.size : Int) := by omega
      have HN := Lib.hid (show nameB S.data.toList = true by
        rw [HA.out]
        have := HALL.out
        rwa [List.take_of_length_le (by rw [← ba_size]; omega)] at this)
      go_wp2
      go_ret
      rw [HN.out]
      exact ⟨rfl, rfl⟩
end Go.Proofs.YtgfmmgfjadckoaaDoor
