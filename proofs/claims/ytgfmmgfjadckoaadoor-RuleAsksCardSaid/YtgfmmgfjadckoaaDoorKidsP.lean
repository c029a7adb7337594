/- rule.isKid, rule.Kids. -/
import Derived.Test.YtgfmmgfjadckoaaDoorKids
namespace Go.Proofs.YtgfmmgfjadckoaaDoor
open Go.RowKit

set_option maxRecDepth 100000 in
theorem isKid_any (P S : ByteArray) (q : QD) (vc : Value) (u : Int) (w : World) (hP : P.data.toList = q.path) (hs : P.size ≤ 1000000000) :
    Calls Tryd.prog 42 #[.agg #[.string P, vc, .int .i64 u], .string S] w fun e w' => e = .returned (.bool (isKidB S.data.toList q)) ∧ Ext w w' := by
  by_cases hS : S = ⟨#[]⟩
  · have hE : S.toList = [] := by rw [hS, ByteArray.toList_eq]
    have HK := Lib.hid (show isKidB S.data.toList q = false by rw [hS]; simp [isKidB])
    clear hS
    go_enter Tryd.func42, Tryd.ntmps42
    go_wp2
    go_ret
    rw [HK.out]
    exact ⟨rfl, ext_alloc _ _⟩
  · have hne : S.data.toList ≠ [] := fun h => hS (ba_nil.2 h)
    have hE : ¬ S.toList = [] := by rw [ByteArray.toList_eq]; exact hne
    have hE2 : S.toList.isEmpty = false := by simp [hE]
    have hE3 : (!S.toList.isEmpty) = true := by simp [hE]
    have HP := Lib.hid hP
    clear hS hP
    go_enter Tryd.func42, Tryd.ntmps42
    go_wp2_with fail
    (with_reducible refine (above_any P _ (by omega)).mono ?_)
    rintro e w2 ⟨T, rfl, hT, hTs, rfl⟩
    by_cases hTS : T = S
    · have HK := Lib.hid (show isKidB S.data.toList q = true from kid_yes hne (by rw [← HP.out, ← hT, hTS]))
      have q1 : (T.toList == S.toList) = true := by rw [hTS]; simp
      clear hTS hne hT
      go_wp2
      go_ret
      rw [HK.out]
      exact ⟨rfl, ext_alloc _ _⟩
    · have HK := Lib.hid (show isKidB S.data.toList q = false from kid_no (by intro e; apply hTS; rw [← HP.out, ← hT] at e; cases T; cases S; simp only at e; rw [Array.toList_inj] at e; rw [e]))
      have q1 : (T.toList == S.toList) = false := ba_ne hTS
      clear hTS hne hT
      go_wp2
      go_ret
      rw [HK.out]
      exact ⟨rfl, ext_alloc _ _⟩

set_option maxRecDepth 100000 in
set_option maxHeartbeats 1600000 in
theorem Kids_any (ds : List QD) (vl vq : Value) (S : ByteArray) (w : World) (hq : QAt w vq ds) (hlen : ds.length ≤ 1000) (hp : ∀ q ∈ ds, q.path.length ≤ 1000000000) :
    Calls Tryd.prog 19 #[.agg #[vl, vq], .string S] w (KidsPost S.data.toList ds w) := by
  obtain ⟨j0, hj, hy0, hy1, hy2⟩ := info_parts Tryd.infoStr
  obtain ⟨A, N, c, rfl, hN, hc1, hc2, hcell⟩ := hq.open
  have HC := Lib.hid hcell
  have HN := Lib.hid hN
  have HP := Lib.hid hp
  have hN1 : N ≤ 1000 := by omega
  clear hcell hN hq hp
  go_enter Tryd.func19, Tryd.ntmps19
  go_wp2
  refine at_world (fun W0 hW0 => ?_)
  have X0 := Lib.hid (show Ext w W0 by rw [hW0]; exact ext_alloc _ _)
  clear hW0
  go_loopw [4, 10] (fun v i wr => ∃ (k : Nat), k ≤ N ∧ i = .int .i64 k ∧ wr.ownsRow W0.heap.size 9 1 v (kidsOf S.data.toList (ds.take k)).length ((kidsOf S.data.toList (ds.take k)).map sv) ∧ Ext W0 wr) (fun _ i _ => N - (intOf i).toNat)
  case atStart => exact ⟨0, by omega, rfl, World.ownsRow_nil W0 _ _ 1, Ext.refl _⟩
  case round =>
    obtain ⟨k, hkN, rfl, ho, hx⟩ := hrel
    have HX := Lib.hid hx
    have hkd := kids_len S.data.toList (ds.take k)
    rw [List.length_take] at hkd
    obtain ⟨n, hn⟩ : ∃ n, n = (kidsOf S.data.toList (ds.take k)).length := ⟨_, rfl⟩
    rw [← hn] at ho hkd
    obtain ⟨Av, cv, rfl, hv1, hv2⟩ := own_shape ho
    have HNN := Lib.hid hn
    have HO := Lib.hid ho
    have hn1 : n ≤ 1000 := by omega
    clear hx ho hn hkd
    have i0 : (0 : Int) ≤ (k : Int) := by omega
    by_cases hlt : k < N
    · have i1 : (k : Int) < (N : Int) := by omega
      have hkl : k < ds.length := by have := HN.out; omega
      have HS := Lib.hid (kids_step (p := S.data.toList) hkl)
      obtain ⟨g, rfl, hg, hqc⟩ := HC.out (by omega)
      obtain ⟨P, Ac, cc, h1, h2, h3, h4, h5⟩ := (hqc k hkl).ex
      have c0 := (X0.out.trans HX.out).cell h1
      have c1 := (X0.out.trans HX.out).cell h2
      have c2 := (X0.out.trans HX.out).cell h3
      have HPP := Lib.hid h4
      have hPs : P.size ≤ 1000000000 := by rw [ba_size, h4]; exact HP.out _ (List.getElem_mem hkl)
      generalize (ds[k].caps.length) = nc at c1
      generalize (ds[k].user) = uu at c2
      clear hqc h1 h2 h3 h4 h5
      go_wp2_with fail
      (with_reducible refine (isKid_any P S ds[k] _ _ _ HPP.out hPs).mono ?_)
      cases hk : isKidB S.data.toList ds[k] with
      | false =>
        have HK := Lib.hid (show kidsOf S.data.toList (ds.take (k + 1)) = kidsOf S.data.toList (ds.take k) by rw [HS.out, hk]; simp)
        clear hk
        rintro e w2 ⟨rfl, hx2⟩
        have X2 := Lib.hid ((HX.out.trans (ext_alloc wr _)).trans hx2)
        have HO2 := Lib.hid (own_ExtK (own_ExtK HO.out (ext_alloc wr _)) hx2)
        clear hx2
        go_wp2
        go_roundw
        case rel => exact ⟨k + 1, by omega, by simp, by rw [HK.out, ← HNN.out]; exact HO2.out, X2.out⟩
        case measure => simp [intOf]; omega
      | true =>
        have HK := Lib.hid (show kidsOf S.data.toList (ds.take (k + 1)) = kidsOf S.data.toList (ds.take k) ++ [P.data.toList] by rw [HS.out, hk, HPP.out]; rfl)
        clear hk
        rintro e w2 ⟨rfl, hx2⟩
        have X2 := Lib.hid ((HX.out.trans (ext_alloc wr _)).trans hx2)
        have HO2 := Lib.hid (own_ExtK (own_ExtK HO.out (ext_alloc wr _)) hx2)
        have d0 : w2.cell? ⟨wr.heap.size, 0, none⟩ = some (.string P) := hx2.cell (by simp [go_sem])
        clear hx2
        go_wp2_with fail
        (with_reducible refine (Clone_any P _ (by omega)).mono ?_)
        rintro e w4 ⟨rfl, hx4⟩
        have X4 := Lib.hid (X2.out.trans hx4)
        have HO4 := Lib.hid (own_ExtK HO2.out hx4)
        clear hx4 d0
        go_wp2_with (at_builtin; refine wpList_app_src _ rfl (.tmp 17) (.tmp 21) 22 22 rfl W0.heap.size 9 j0 (.string ⟨#[]⟩) 16 Tryd.underlying22 hj hy0 hy1 hy2 rfl _ n ((kidsOf S.data.toList (ds.take k)).map sv) rfl (HO4.out.alloc _) _ 1 _ rfl ((Rd.one _ _ _ _ _ rfl rfl).src ?c1 Tryd.underlying22) ?c3 ?c4 ?c5 ?_)
        case c1 => first | rfl | (intro u hu; simp at hu; subst hu; rfl)
        case c3 => simp [maxLen]; omega
        case c4 => omega
        case c5 => have h2 := X4.out.size; simp; omega
        intro v' w3 ho3 hg3 _ _
        obtain ⟨y1, y2⟩ := app_str_done X4.out (ext_alloc w4 _) HNN.out HO4.out (Nat.le_refl _) ho3 hg3
        have Y1 := Lib.hid y1
        have Y2 := Lib.hid y2
        obtain ⟨A3, c3, rfl, _, _⟩ := own_shape ho3
        clear y1 y2 ho3 hg3
        go_wp2
        go_roundw
        case rel => exact ⟨k + 1, by omega, by simp, by rw [HK.out]; exact Y1.out, Y2.out⟩
        case measure => simp [intOf]; omega
    · have i1 : ¬ (k : Int) < (N : Int) := by omega
      have HK := Lib.hid (show kidsOf S.data.toList (ds.take k) = kidsOf S.data.toList ds by rw [List.take_of_length_le (by have := HN.out; omega)])
      go_wp2
      go_ret
      exact ⟨Av, n, cv, rfl, by rw [← HK.out]; exact HNN.out, by rw [← HK.out]; exact own_base HO.out X0.out.size, X0.out.trans HX.out⟩
end Go.Proofs.YtgfmmgfjadckoaaDoor
