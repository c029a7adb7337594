/- dispatchlaw5.ConfOrder: the walk. -/
import Derived.Test.YtonbplofbcnijaaDoorConfOrderP
import Derived.Laws.Concat
import Derived.Laws.Cover1
import Derived.ChangeSlices
import Derived.OpenShut
import Derived.ChangeOld
import Derived.ChangeSame
import Derived.ChangeMaps
import Derived.JoinedOf
import Derived.JoinedAt
import Derived.RowKit3
import Derived.Lib.SmallJoins
namespace Go.Proofs.YtonbplofbcnijaaDoor.ConfOrder
open Go.ChangeShapes Go.WideShapes Go.ChangeAt Go.RowKit Go.Joins

theorem ba_app (a b : ByteArray) : (a ++ b).data.toList = a.data.toList ++ b.data.toList := by
  cases a; cases b; simp
theorem ba_ne {z x : ByteArray} (h : ¬ z = x) : (z.toList == x.toList) = false := by
  rw [beq_eq_false_iff_ne]
  intro e
  rw [ByteArray.toList_eq, ByteArray.toList_eq] at e
  apply h
  cases z; cases x
  simp only at e
  rw [Array.toList_inj] at e
  rw [e]
theorem ba_inj {z x : ByteArray} (h : z.data.toList = x.data.toList) : z = x := by
  cases z; cases x
  simp only at h
  rw [Array.toList_inj] at h
  rw [h]
theorem own_ge {w : World} {base : Nat} {e : TypeId} {v : Value} {n : Nat} {xs : List Value} (h : w.ownsRow base e 1 v n xs) {B : Nat} (hB : B ≤ base) : ∀ k, v.ownBlock = some k → B ≤ k :=
  fun k hk => Nat.le_trans hB (h.lt k hk).1
theorem rd_shape {w : World} {v : Value} {xs : List Value} (h : Rd w v xs) : ∃ A n c, v = .slice A n c := by
  obtain ⟨A, c, h, _⟩ := h.len
  exact ⟨A, _, c, h⟩
theorem parse_of {X : ByteArray} {l : Tx} {a : Int × CD} (h : parseC l = a) (hX : X.data.toList = l) : parseC X.data.toList = a := by rw [hX]; exact h
theorem add_lit (a : Addr) (n : Nat) (h : n ≠ 0) : a.add n = ⟨a.block, a.off + n, none⟩ := by unfold Addr.add; rw [if_neg h]
theorem add_nought (a : Addr) : a.add 0 = a := by unfold Addr.add; split <;> simp_all
theorem less8 : ∀ a b : Tx, Op.bytesLess a b = lt8 a b
  | [], [] => rfl
  | [], _ :: _ => rfl
  | _ :: _, [] => rfl
  | a :: p, b :: q => by
    simp only [Op.bytesLess, lt8]
    by_cases h1 : a < b
    · simp [h1]
    · by_cases h2 : b < a
      · have : a ≠ b := fun e => by subst e; exact h1 h2
        simp [h1, h2, this]
      · have : a = b := by
          simp only [UInt8.lt_iff_toNat_lt] at h1 h2
          exact UInt8.toNat.inj (by omega)
        subst this
        simp [h1, less8 p q]
theorem str_one (W : World) (c : UInt8) (v : Int) (hv : v = (c.toNat : Int)) : (convert 47 9 (.slice (some ⟨W.heap.size, 0, none⟩) 1 1)).run Tryd.prog (W.alloc (.cells #[.int .u8 v] 5)) = .ok (.string ⟨#[c]⟩) (W.alloc (.cells #[.int .u8 v] 5)) := by
  subst hv
  exact Rd.str (l := [c]) (Rd.one W (.int .u8 (c.toNat : Int)) 5 1 1 rfl rfl)

/-- The names so far. -/
structure Ks (ks : List Nat) (k : Nat) : Prop where
  nodup : ks.Nodup
  lt : ∀ x ∈ ks, x < 8
  len : ks.length ≤ k
theorem Ks.nil : Ks [] 0 := ⟨List.nodup_nil, fun _ h => (by cases h), Nat.le_refl _⟩
theorem Ks.same {ks : List Nat} {k : Nat} (h : Ks ks k) : Ks ks (k + 1) := ⟨h.nodup, h.lt, Nat.le_succ_of_le h.len⟩
theorem Ks.snoc {ks : List Nat} {k n : Nat} (h : Ks ks k) (hn : n ∉ ks) (h8 : n < 8) : Ks (ks ++ [n]) (k + 1) := by
  refine ⟨?_, fun x hx => ?_, by simp; exact h.len⟩
  · rw [List.nodup_append]
    exact ⟨h.nodup, by simp, fun a ha b hb => by
      have : b = n := by simpa using hb
      subst this
      intro e; subst e; exact hn ha⟩
  · rcases List.mem_append.1 hx with hx | hx
    · exact h.lt x hx
    · have : x = n := by simpa using hx
      omega
theorem take_in {ks : List Nat} {n m : Nat} (h : m < ks.length) : decide (n ∈ ks.take (m + 1)) = (decide (n ∈ ks.take m) || decide (n = ks[m])) := by
  have e : n ∈ ks.take (m + 1) ↔ n ∈ ks.take m ∨ n = ks[m] := by rw [List.take_succ_eq_append_getElem h, List.mem_append, List.mem_singleton]
  simp only [e, Bool.decide_or]

set_option maxRecDepth 100000 in
set_option maxHeartbeats 6400000 in
theorem walk (w : World) (v : Value) (xs : List Int) (r0 : Rd w v (xs.map (Value.int .i64))) (_ : ∀ z ∈ xs, (Lit.int .i64 z).wf = true) (b : Bool) :
    Calls Tryd.prog 5 #[v, .bool b] w fun e w' => e = .returned (.bool true) ∧ Below w.heap.size w w' := by
  obtain ⟨j0, hj, hy0, hy1, hy2⟩ := info_parts Tryd.infoStr
  obtain ⟨A, N, c, rfl, hN, hc1, hc2, hcell⟩ := ints_open r0
  have HC := Lib.hid hcell
  have HN := Lib.hid hN
  clear hcell hN r0
  go_enter Tryd.func5, Tryd.ntmps5
  go_wp2_with fail
  refine (known_any _).mono ?_
  rintro e w1 ⟨rfl, hx1⟩
  have X1 := Lib.hid hx1
  clear hx1
  go_wp2
  go_loopw [5, 6] (fun e i wr => ∃ (k : Nat) (ks : List Nat), k ≤ 12 ∧ k ≤ N ∧ i = .int .i64 k ∧ Ks ks k ∧ wr.ownsRow w.heap.size 9 1 e ks.length ((ks.map nm).map sv) ∧ Ext w wr) (fun _ i _ => 12 - (intOf i).toNat)
  case atStart => exact ⟨0, [], by omega, by omega, rfl, Ks.nil, World.ownsRow_nil w1 _ _ 1, X1.out⟩
  case round =>
    obtain ⟨k, ks, hk12, hkN, rfl, hks, ho, hx⟩ := hrel
    have HX := Lib.hid hx
    have HK := Lib.hid hks
    obtain ⟨Ae, ne, ce, rfl, hne, hce1, hce2, hce⟩ := strs_open (Rd.of_own ho)
    have HCE := Lib.hid hce
    have hnl : ne = ks.length := by rw [hne, List.length_map]
    have hne12 : ne ≤ 12 := by have := hks.len; omega
    have HNL := Lib.hid hnl
    have HO := Lib.hid (show wr.ownsRow w.heap.size 9 1 (.slice Ae ne ce) ne ((ks.map nm).map sv) by rw [hnl] at ho ⊢; exact ho)
    clear hks ho hx hce hne hnl
    have i0 : (0 : Int) ≤ (k : Int) := by omega
    by_cases hlt : k < N ∧ k < 12
    · obtain ⟨hlt, hl12⟩ := hlt
      obtain ⟨a, rfl, hb, hcs⟩ := HC.out (by omega)
      have h3 := HX.out.cell' (hcs k (by have := HN.out; omega))
      have i1 : (k : Int) < (N : Int) := by omega
      have i2 : (k : Int) < 12 := by omega
      clear hcs
      go_wp2_with fail
      (with_reducible refine (within_some _ 8 8 _ rfl (by omega)).mono ?_)
      rintro e w2 ⟨n, rfl, hn8, rfl⟩
      have hn7 : (n : Int) ≤ 7 := by omega
      obtain ⟨S1, hS1⟩ : ∃ S1 : ByteArray, S1 = ⟨#[UInt8.ofNat (97 + n)]⟩ := ⟨_, rfl⟩
      have hcv := str_one wr (UInt8.ofNat (97 + n)) (97 + (n : Int)) (by simp; omega)
      rw [← hS1] at hcv
      have HS1 := Lib.hid hS1
      have hz1' : S1.size = 1 := by rw [hS1]; rfl
      have hz1 : (S1.size : Int) ≤ 1 := by omega
      clear hz1'
      clear hS1
      go_wp2
      generalize hS7 : (⟨#[114, 111, 111, 116, 46]⟩ : ByteArray) ++ S1 = S7
      have HS7 := Lib.hid (show S7.data.toList = nm n by rw [← hS7, ba_app, HS1.out]; rfl)
      clear hS7 hcv
      refine at_world (fun W0 hW0 => ?_)
      have E0 := Lib.hid (show Ext wr W0 by rw [hW0]; exact ext_alloc _ _)
      clear hW0
      go_loopw [8, 9] (fun f i wr' => ∃ m : Nat, m ≤ ne ∧ f = .bool (decide (n ∈ ks.take m)) ∧ i = .int .i64 m ∧ wr' = W0) (fun _ i _ => 12 - (intOf i).toNat)
      case atStart => exact ⟨0, by omega, by simp, rfl, rfl⟩
      case round =>
        obtain ⟨m, hm, rfl, rfl, rfl⟩ := hrel
        have j0' : (0 : Int) ≤ (m : Int) := by omega
        by_cases hmn : m < ne
        · obtain ⟨ae, rfl, hbe, hcse⟩ := HCE.out (by omega)
          have hml : m < ks.length := by have := HNL.out; omega
          have hcell := E0.out.cell' (hcse m (by rw [List.length_map]; exact hml))
          obtain ⟨Sm, hSm⟩ : ∃ Sm : ByteArray, Sm = ⟨((ks.map nm)[m]'(by rw [List.length_map]; exact hml)).toArray⟩ := ⟨_, rfl⟩
          rw [← hSm] at hcell
          have HSM := Lib.hid (show Sm.data.toList = nm ks[m] by rw [hSm]; simp)
          have HT := Lib.hid (take_in (n := n) hml)
          have HML := Lib.hid hml
          clear hcse hSm
          have i3 : (m : Int) < (ne : Int) := by omega
          generalize hq : decide (n ∈ ks.take m) = bq
          have HQ := Lib.hid hq
          clear hq
          cases bq with
          | true =>
            go_wp2
            go_roundw
            case rel => exact ⟨m + 1, by omega, by rw [HT.out, HQ.out]; rfl, by simp, trivial⟩
            case measure => simp [intOf]; omega
          | false =>
            by_cases heq : Sm = S7
            · have HE := Lib.hid (show decide (n ∈ ks.take (m + 1)) = true by
                rw [HT.out, HQ.out, Bool.false_or, decide_eq_true_eq]
                exact nm_inj n hn8 _ (HK.out.lt _ (List.getElem_mem _)) (by rw [← HS7.out, ← HSM.out, heq]))
              have q1 : (Sm.toList == S7.toList) = true := by rw [heq]; simp
              clear heq
              go_wp2
              go_roundw
              case rel => exact ⟨m + 1, by omega, by rw [HE.out], by simp, trivial⟩
              case measure => simp [intOf]; omega
            · have HE := Lib.hid (show decide (n ∈ ks.take (m + 1)) = false by
                rw [HT.out, HQ.out, Bool.false_or, decide_eq_false_iff_not]
                intro e
                exact heq (ba_inj (by rw [HSM.out, HS7.out, ← e])))
              have q1 : (Sm.toList == S7.toList) = false := ba_ne heq
              clear heq
              go_wp2
              go_roundw
              case rel => exact ⟨m + 1, by omega, by rw [HE.out], by simp, trivial⟩
              case measure => simp [intOf]; omega
        · have i3 : ¬ (m : Int) < (ne : Int) := by omega
          have HT := Lib.hid (show decide (n ∈ ks.take m) = decide (n ∈ ks) by rw [List.take_of_length_le (by have := HNL.out; omega)])
          rw [HT.out]
          generalize hq : decide (n ∈ ks) = bq
          have HQ := Lib.hid hq
          clear hq
          have HO0 := Lib.hid (own_Ext HO.out E0.out)
          have HX0 := Lib.hid (HX.out.trans E0.out)
          cases bq with
          | true =>
            go_wp2
            go_roundw
            case rel => exact ⟨k + 1, ks, by omega, by omega, by simp, HK.out.same, by rw [← HNL.out]; exact HO0.out, HX0.out⟩
            case measure => simp [intOf]; omega
          | false =>
            go_wp2_with (at_builtin; refine wpList_app_src _ rfl (.tmp 54) (.tmp 56) 29 29 rfl w.heap.size 9 j0 (.string ⟨#[]⟩) 16 Tryd.underlying29 hj hy0 hy1 hy2 rfl _ ne ((ks.map nm).map sv) rfl (HO0.out.alloc _) _ 1 _ rfl ((Rd.one _ _ _ _ _ rfl rfl).src ?c1 Tryd.underlying29) ?c3 ?c4 ?c5 ?_)
            case c1 => first | rfl | (intro u hu; simp at hu; subst hu; rfl)
            case c3 => simp [maxLen]; omega
            case c4 => omega
            case c5 => have := HX0.out.size; simp; omega
            intro v' w3 ho3 hg3 _ _
            have E3 := Lib.hid ((HX0.out.trans (ext_alloc wr _)).trans' (grown_below hg3 (by have := HX0.out.size; simp; omega) (own_ge HO0.out (Nat.le_refl _))))
            have HO3 := Lib.hid (show w3.ownsRow w.heap.size 9 1 v' (ks ++ [n]).length (((ks ++ [n]).map nm).map sv) by
              rw [List.length_append, List.length_singleton, ← HNL.out, List.map_append, List.map_append]
              have e : [Value.string S7] = List.map sv (List.map nm [n]) := by
                simp only [List.map_cons, List.map_nil]
                rw [← HS7.out, sv_of]
              rw [← e, List.map_map]
              exact ho3)
            obtain ⟨Av, nv, cv, rfl⟩ := rd_shape (Rd.of_own ho3)
            clear ho3 hg3
            go_wp2
            go_roundw
            case rel => exact ⟨k + 1, ks ++ [n], by omega, by omega, by simp, HK.out.snoc (by simpa using HQ.out) hn8, HO3.out, E3.out⟩
            case measure => simp [intOf]; omega
    · have hh : ¬ (k : Int) < (N : Int) ∨ ((k : Int) < (N : Int) ∧ ¬ (k : Int) < 12) := by omega
      clear hlt
      by_cases h0 : ne = 0
      · subst h0
        rcases hh with i1 | ⟨i1, i2⟩
        all_goals (go_wp2; go_ret; exact ⟨rfl, HX.out⟩)
      · have q0 : ((ne : Int) == 0) = false := by simp; omega
        have q1 : ¬ (ne : Int) = 0 := by omega
        have hpos : 0 < ks.length := by have := HNL.out; omega
        obtain ⟨ae, rfl, hbe, hcse⟩ := HCE.out (by omega)
        have HCS := Lib.hid hcse
        have hcell0 := hcse 0 (by rw [List.length_map]; exact hpos)
        obtain ⟨S0, hS0⟩ : ∃ S0 : ByteArray, S0 = ⟨((ks.map nm)[0]'(by rw [List.length_map]; exact hpos)).toArray⟩ := ⟨_, rfl⟩
        rw [← hS0] at hcell0
        have HS0 := Lib.hid (show S0.data.toList = nm ks[0] by rw [hS0]; simp)
        have hz0 : (S0.size : Int) ≤ 6 := by rw [ba_size, HS0.out]; simp [nm]
        have HPOS := Lib.hid hpos
        have hcell00 : wr.cell? ae = some (.string S0) := by rw [← add_nought ae]; exact hcell0
        clear hcse hS0
        have n0 : (0 : Int) < (ne : Int) := by omega
        have HPO := Lib.hid (parse_O HK.out.nodup HK.out.lt (by have := HK.out.len; omega))
        have HPM := Lib.hid (parse_M (List.getElem_mem HPOS.out) HK.out.lt (by have := HK.out.len; omega))
        rcases hh with i1 | ⟨i1, i2⟩
        all_goals (
          go_wp2
          go_loopw [10, 11] (fun t j wr' => ∃ (m : Nat) (S : ByteArray), m ≤ ne ∧ t = .string S ∧ S.data.toList = textO (ks.take m) ∧ j = .int .i64 m ∧ wr' = wr) (fun _ j _ => 12 - (intOf j).toNat)
          case atStart => exact ⟨0, _, by omega, rfl, rfl, rfl, rfl⟩
          case round =>
            obtain ⟨m, S, hm, rfl, hS, rfl, rfl⟩ := hrel
            have HS := Lib.hid hS
            have hz : (S.size : Int) ≤ 300 := by
              have := textO_length (ks.take m)
              rw [← hS, ← ba_size, List.length_take] at this
              have := HNL.out
              omega
            clear hS
            have j0' : (0 : Int) ≤ (m : Int) := by omega
            by_cases hmn : m < ne
            · have hml : m < ks.length := by have := HNL.out; omega
              have hcell := HCS.out m (by rw [List.length_map]; exact hml)
              obtain ⟨Sm, hSm⟩ : ∃ Sm : ByteArray, Sm = ⟨((ks.map nm)[m]'(by rw [List.length_map]; exact hml)).toArray⟩ := ⟨_, rfl⟩
              rw [← hSm] at hcell
              have HSM := Lib.hid (show Sm.data.toList = nm ks[m] by rw [hSm]; simp)
              have HML := Lib.hid hml
              have hzm : (Sm.size : Int) ≤ 6 := by rw [ba_size, HSM.out]; simp [nm]
              clear hSm hcell0
              have i3 : (m : Int) < (ne : Int) := by omega
              go_wp2
              go_roundw
              case rel => exact ⟨m + 1, _, by omega, rfl, by rw [ba_app, ba_app, ba_app, HS.out, HSM.out, List.take_succ_eq_append_getElem HML.out, textO_snoc], by simp, trivial⟩
              case measure => simp [intOf]; omega
            · have i3 : ¬ (m : Int) < (ne : Int) := by omega
              have HT := Lib.hid (show S.data.toList = textO ks by rw [HS.out, List.take_of_length_le (by have := HNL.out; omega)])
              clear hmn
              cases b with
              | true =>
                go_wp2_with fail
                (with_reducible refine (parse_any _ _).mono ?_)
                unfold ParsePost
                rw [parse_of HPM.out (by rw [ba_app, ba_app, ba_app, HT.out, HS0.out]; simp [qB])]
                rintro e w3 ⟨v, rfl, hv, hx3⟩
                obtain ⟨A2, c2, A3, c3, hvv, _⟩ := hv.shape
                have hvv : v = .agg #[.slice A2 0 c2, .slice A3 0 c3] := hvv
                subst hvv
                have X3 := Lib.hid (HX.out.trans hx3)
                clear hv hx3
                go_wp2
                go_ret
                exact ⟨rfl, X3.out.trans (ext_alloc _ _)⟩
              | false =>
                go_wp2_with fail
                (with_reducible refine (parse_any _ _).mono ?_)
                unfold ParsePost
                rw [parse_of HPO.out HT.out]
                rintro e w3 ⟨v, rfl, hv, hx3⟩
                obtain ⟨A2, c2, A3, c3, hvv, y1, hl3, y2, hc3, y3, hqs⟩ := hv.shape
                have hsl : (sortQ (ks.map qd)).length = ne := by rw [sorted_length, HNL.out]
                have hv5 : v = .agg #[.slice A2 1 c2, .slice A3 (sortQ (ks.map qd)).length c3] := hvv
                have hl5 : (sortQ (ks.map qd)).length ≤ c3 := hl3
                rw [hsl] at hv5 hl5
                clear hvv hl3 y1 y2 y3 hv
                subst hv5
                obtain ⟨qs, hK, hlen', hel'⟩ := hqs
                have hlen : qs.length = ne := hlen'.trans hsl
                obtain ⟨A4, c4, e4, y1, y2, y3, hcl⟩ := hK
                injection e4 with e4 y4 y5
                subst e4
                clear y1 y2 y3 y4 y5 hlen'
                obtain ⟨g, rfl, hbg, hcg⟩ := hcl (by rw [qcells_length]; omega)
                have hel : ∀ i (h : i < (sortQ (ks.map qd)).length), ∃ q, qs[i]? = some q ∧ IsQ w3 q (sortQ (ks.map qd))[i] := hel'
                clear hel'
                have PATH := Lib.hid (show ∀ i (h : i < (sortQ (ks.map qd)).length), ∃ P : ByteArray, w3.cell? (g.add (i * 3)) = some (.string P) ∧ P.data.toList = ((sortQ (ks.map qd))[i]).path from fun i h => by
                  obtain ⟨q, h1, h2⟩ := hel i h
                  have := hcg (i * 3 + 0) (.string q.p) (by rw [qcells_get qs i 0 (by omega), h1]; rfl)
                  exact ⟨q.p, this, h2.1⟩)
                have HSL := Lib.hid hsl
                obtain ⟨u0, hu0, hi0⟩ := hel 0 (by omega)
                have hcaps := hi0.2.2
                rw [sorted_caps (List.getElem_mem _)] at hcaps
                obtain ⟨B0, d0, e0, hd1, hd0, y1, hcp⟩ := hcaps
                have hd1 : 1 ≤ d0 := hd1
                unfold maxLen at hd0
                obtain ⟨qa, rfl, hqb, hqc⟩ := hcp (by simp [capCells])
                have k0 := hqc 0 (.int .i64 2) rfl
                have k1 := hqc 1 (.int .i64 3) rfl
                have k2 := hcg (0 * 3 + 1) (.slice u0.A u0.n u0.c) (by rw [qcells_get qs 0 1 (by omega), hu0]; rfl)
                rw [e0] at k2
                have k3 : w3.cell? (g.add 1) = some (.slice (some qa) 1 d0) := k2
                clear k2 y1
                rw [add_nought] at k0
                have X3 := Lib.hid (HX.out.trans hx3)
                clear hx3 hel hcg hcl hlen hi0 hcp hqc e0 hu0 hsl
                go_wp2
                refine at_world (fun W4 hW4 => ?_)
                have E4 := Lib.hid (show Ext w3 W4 by rw [hW4]; exact ext_alloc _ _)
                have r1 := cell_of_row W4 w3.heap.size 1 _ _ _ (by rw [hW4]; exact heap_alloc_new w3 _)
                simp at r1
                have K0 := E4.out.cell' k0
                have K1 := E4.out.cell' k1
                have K2 := E4.out.cell' k3
                clear hW4 k0 k1 k3
                go_loopw [14] (fun i wr' => ∃ j : Nat, j + 1 ≤ ne ∧ i = .int .i64 ((j : Int) + 1) ∧ Ext W4 wr') (fun i _ => 12 - (intOf i).toNat)
                case atStart => exact ⟨0, by omega, rfl, Ext.refl _⟩
                case round =>
                  obtain ⟨j, hj, rfl, hx5⟩ := hrel
                  have R1 := hx5.cell r1
                  by_cases hjn : j + 1 < ne
                  · obtain ⟨P1, p1, p2⟩ := PATH.out j (by have := HSL.out; omega)
                    obtain ⟨P2, p3, p4⟩ := PATH.out (j + 1) (by have := HSL.out; omega)
                    have hlt := sorted_lt HK.out.nodup HK.out.lt (i := j) (by have := HSL.out; omega)
                    rw [← p2, ← p4] at hlt
                    have b1 : Op.bytesLess P1.toList P2.toList = true := by rw [ByteArray.toList_eq, ByteArray.toList_eq, less8]; exact hlt
                    have P1c := hx5.cell' (E4.out.cell' p1)
                    have P2c := hx5.cell' (E4.out.cell' p3)
                    have X5 := Lib.hid hx5
                    have kp : (0 : Int) < (j : Int) + 1 := by omega
                    have kq : (0 : Int) ≤ (j : Int) + 1 := by omega
                    have kr : (j : Int) + 1 < (ne : Int) := by omega
                    have ks' : (j : Int) < (ne : Int) := by omega
                    have kt : (0 : Int) ≤ (j : Int) := by omega
                    have P2d : wr.cell? ⟨g.block, g.off + (j + 1) * 3, none⟩ = some (.string P2) := by rw [← add_lit g _ (by omega)]; exact P2c
                    have e1 : IntKind.i64.wrap ((j : Int) + 1 - 1) = (j : Int) := by rw [show (j : Int) + 1 - 1 = (j : Int) by omega]; exact IntWalk.i64_in _ (by omega)
                    have e2 : IntKind.i64.wrap (j : Int) = (j : Int) := IntWalk.i64_in _ (by omega)
                    have e3 : ((j : Int) + 1).toNat = j + 1 := by omega
                    have e4 : (j : Int).toNat = j := by omega
                    clear p1 p2 p3 p4 hlt hx5
                    go_wp2
                    go_quiet (fail)
                    go_wp2
                    go_roundw
                    case rel => exact ⟨j + 1, by omega, by simp, X5.out.trans (ext_drewN _ _)⟩
                    case measure => simp [intOf]; omega
                  · have kr : ¬ (j : Int) + 1 < (ne : Int) := by omega
                    have K0 := hx5.cell' K0
                    have K1 := hx5.cell' K1
                    have K2 := hx5.cell' K2
                    have X5 := Lib.hid ((X3.out.trans E4.out).trans hx5)
                    rw [add_lit _ 1 (by omega)] at K1 K2
                    clear hx5
                    go_wp2
                    go_ret
                    exact ⟨rfl, X5.out⟩)
end Go.Proofs.YtonbplofbcnijaaDoor.ConfOrder
