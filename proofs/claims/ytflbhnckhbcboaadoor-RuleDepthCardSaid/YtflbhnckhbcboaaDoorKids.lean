/- dispatchref6.Kids; rule.isKid, rule.Kids. -/
import Derived.Test.YtflbhnckhbcboaaDoorAboveR
namespace Go.Proofs.YtflbhnckhbcboaaDoor
open Go.RowKit

def KidsPost (p : Tx) (ds : List QD) (w : World) (e : Ending) (w' : World) : Prop := ∃ A n c, e = .returned (.slice A n c) ∧ n = (kidsOf p ds).length ∧ w'.ownsRow w.heap.size 9 1 (.slice A n c) n ((kidsOf p ds).map sv) ∧ Ext w w'

theorem own_base {w : World} {B B' : Nat} {e : TypeId} {k : Nat} {v : Value} {n : Nat} {xs : List Value} (h : w.ownsRow B e k v n xs) (hB : B' ≤ B) : w.ownsRow B' e k v n xs := by
  refine ⟨h.1, ?_⟩
  rcases h.2 with hn | ⟨g, cap, cur, rfl, hb, hr⟩
  · exact .inl hn
  · exact .inr ⟨g, cap, cur, rfl, Nat.le_trans hB hb, hr⟩
theorem app_str_done {w wr V w3 : World} {B n : Nat} {v v' : Value} {l : List Tx} {T : ByteArray} (HX : Ext w wr) (hV : Ext wr V) (hn : n = l.length) (HO : wr.ownsRow B 9 1 v n (l.map sv)) (hB : w.heap.size ≤ B)
    (ho3 : w3.ownsRow B 9 1 v' (n + 1) (l.map sv ++ [.string T])) (hg3 : V.grownBy w3 v.ownBlock) : w3.ownsRow B 9 1 v' (l ++ [T.data.toList]).length ((l ++ [T.data.toList]).map sv) ∧ Ext w w3 := by
  refine ⟨?_, (HX.trans hV).trans' (grown_below hg3 ?_ (own_ge HO hB))⟩
  · rw [List.length_append, List.length_singleton, ← hn, List.map_append, List.map_singleton, sv_of]
    exact ho3
  · exact Nat.le_trans HX.size hV.size

set_option maxRecDepth 100000 in
set_option maxHeartbeats 1600000 in
theorem rKids_any (ds : List QD) (vl vq : Value) (S : ByteArray) (w : World) (hq : QAt w vq ds) (hlen : ds.length ≤ 1000) (hp : ∀ q ∈ ds, q.path.length ≤ 1000000000) :
    Calls Tryd.prog 24 #[.agg #[vl, vq], .string S] w (KidsPost S.data.toList ds w) := by
  obtain ⟨j0, hj, hy0, hy1, hy2⟩ := info_parts Tryd.infoStr
  obtain ⟨A, N, c, rfl, hN, hc1, hc2, hcell⟩ := hq.open
  have HC := Lib.hid hcell
  have HN := Lib.hid hN
  have HP := Lib.hid hp
  have hN1 : N ≤ 1000 := by omega
  clear hcell hN hq hp
  go_enter Tryd.func24, Tryd.ntmps24
  go_wp2
  refine at_world (fun W0 hW0 => ?_)
  have X0 := Lib.hid (show Ext w W0 by rw [hW0]; exact ext_alloc _ _)
  have b1 : W0.cell? ⟨w.heap.size, 1, none⟩ = some (.slice A N c) := by rw [hW0]; simp [go_sem]
  clear hW0
  go_loopw [5, 6] (fun v i wr => ∃ (k : Nat), k ≤ N ∧ i = .int .i64 k ∧ wr.ownsRow W0.heap.size 9 1 v (kidsOf S.data.toList (ds.take k)).length ((kidsOf S.data.toList (ds.take k)).map sv) ∧ Ext W0 wr) (fun _ i _ => N - (intOf i).toNat)
  case atStart => exact ⟨0, by omega, rfl, World.ownsRow_nil W0 _ _ 1, Ext.refl _⟩
  case round =>
    obtain ⟨k, hkN, rfl, ho, hx⟩ := hrel
    have HX := Lib.hid hx
    have b1r := hx.cell' b1
    have hkd := kids_len S.data.toList (ds.take k)
    rw [List.length_take] at hkd
    obtain ⟨n, hn⟩ : ∃ n, n = (kidsOf S.data.toList (ds.take k)).length := ⟨_, rfl⟩
    rw [← hn] at ho hkd
    obtain ⟨Av, cv, rfl, hv1, hv2⟩ := own_shape ho
    have HNN := Lib.hid hn
    have HO := Lib.hid ho
    have hn1 : n ≤ 1000 := by omega
    clear hx ho hn hkd
    have i0 : (0 : Int) ≤ (k : Int) := by omega
    by_cases hlt : k < N
    · have i1 : (k : Int) < (N : Int) := by omega
      have hkl : k < ds.length := by have := HN.out; omega
      have HS := Lib.hid (kids_step (p := S.data.toList) hkl)
      by_cases hS : S = ⟨#[]⟩
      · have hE : S.toList = [] := by rw [hS, ByteArray.toList_eq]
        have HK := Lib.hid (show kidsOf S.data.toList (ds.take (k + 1)) = kidsOf S.data.toList (ds.take k) by rw [hS]; show kidsOf [] _ = kidsOf [] _; rw [kidsOf_nil, kidsOf_nil])
        clear hS
        go_wp2
        go_roundw
        case rel => exact ⟨k + 1, by omega, by simp, by rw [HK.out, ← HNN.out]; exact HO.out, HX.out⟩
        case measure => simp [intOf]; omega
      · have hne : S.data.toList ≠ [] := fun h => hS (ba_nil.2 h)
        have hE : ¬ S.toList = [] := by rw [ByteArray.toList_eq]; exact hne
        have hE2 : S.toList.isEmpty = false := by simp [hE]
        have hE3 : (!S.toList.isEmpty) = true := by simp [hE]
        obtain ⟨g, rfl, hg, hqc⟩ := HC.out (by omega)
        obtain ⟨P, Ac, cc, h1, h2, h3, h4, h5⟩ := (hqc k hkl).ex
        have c0 := (X0.out.trans HX.out).cell h1
        have HPP := Lib.hid h4
        have hPs : P.size ≤ 1000000000 := by rw [ba_size, h4]; exact HP.out _ (List.getElem_mem hkl)
        clear hqc h1 h2 h3 h4 h5 hS
        go_wp2_with fail
        (with_reducible refine (rAbove_any P _ hPs).mono ?_)
        rintro e w2 ⟨T, rfl, hT, hTs, rfl⟩
        have HT := Lib.hid hT
        clear hT
        by_cases hTS : T = S
        · have HK := Lib.hid (show kidsOf S.data.toList (ds.take (k + 1)) = kidsOf S.data.toList (ds.take k) ++ [P.data.toList] by
            rw [HS.out, kid_yes hne (by rw [← HPP.out, ← HT.out, hTS]), HPP.out]; rfl)
          have q1 : (T.toList == S.toList) = true := by rw [hTS]; simp
          clear hTS hne
          go_wp2_with (at_builtin; refine wpList_app_src _ rfl (.tmp 27) (.tmp 34) 24 24 rfl W0.heap.size 9 j0 (.string ⟨#[]⟩) 16 Tryd.underlying24 hj hy0 hy1 hy2 rfl _ n ((kidsOf S.data.toList (ds.take k)).map sv) rfl (HO.out.alloc _) _ 1 _ rfl ((Rd.one _ _ _ _ _ rfl rfl).src ?c1 Tryd.underlying24) ?c3 ?c4 ?c5 ?_)
          case c1 => first | rfl | (intro u hu; simp at hu; subst hu; rfl)
          case c3 => simp [maxLen]; omega
          case c4 => omega
          case c5 => have h2 := HX.out.size; simp; omega
          intro v' w3 ho3 hg3 _ _
          obtain ⟨y1, y2⟩ := app_str_done HX.out (ext_alloc wr _) HNN.out HO.out (Nat.le_refl _) ho3 hg3
          have Y1 := Lib.hid y1
          have Y2 := Lib.hid y2
          obtain ⟨A3, c3, rfl, _, _⟩ := own_shape ho3
          clear y1 y2 ho3 hg3
          go_wp2
          go_roundw
          case rel => exact ⟨k + 1, by omega, by simp, by rw [HK.out]; exact Y1.out, Y2.out⟩
          case measure => simp [intOf]; omega
        · have HK := Lib.hid (show kidsOf S.data.toList (ds.take (k + 1)) = kidsOf S.data.toList (ds.take k) by
            rw [HS.out, kid_no (by intro e; apply hTS; rw [← HPP.out, ← HT.out] at e; cases T; cases S; simp only at e; rw [Array.toList_inj] at e; rw [e])]; simp)
          have q1 : (T.toList == S.toList) = false := ba_ne hTS
          clear hTS hne
          go_wp2
          go_roundw
          case rel => exact ⟨k + 1, by omega, by simp, by rw [HK.out, ← HNN.out]; exact HO.out, HX.out⟩
          case measure => simp [intOf]; omega
    · have i1 : ¬ (k : Int) < (N : Int) := by omega
      have HK := Lib.hid (show kidsOf S.data.toList (ds.take k) = kidsOf S.data.toList ds by rw [List.take_of_length_le (by have := HN.out; omega)])
      go_wp2
      go_ret
      exact ⟨Av, n, cv, rfl, by rw [← HK.out]; exact HNN.out, by rw [← HK.out]; exact own_base HO.out X0.out.size, X0.out.trans HX.out⟩
end Go.Proofs.YtflbhnckhbcboaaDoor
