/- asks.joined: pieces laid one behind another, in a block of its own. -/
import Derived.Test.YtbocpkdnlpobkaaAkM
import Derived.Laws.MakeOwn
import Derived.Deep.CutRange
import Derived.Laws.Bits64
namespace Go.Proofs.Ytbocpkdnlpobkaa
open Go.RowKit

def JoinPost (xs : List AD) (w : World) (e : Ending) (w' : World) : Prop := ∃ g, e = .returned (.slice (some ⟨g, 0, none⟩) xs.length xs.length) ∧ w.heap.size ≤ g ∧ w'.heap[g]? = some (.cells (acells xs).toArray 25 (0, 0)) ∧ Ext w w'
theorem flat_step (dss : List (List AD)) (k : Nat) (hk : k < dss.length) : (dss.take (k + 1)).flatten = (dss.take k).flatten ++ dss[k] := by
  rw [show dss.take (k + 1) = dss.take k ++ [dss[k]] from (List.take_append_getElem hk).symm, List.flatten_append, List.flatten_singleton]
theorem flat_le (dss : List (List AD)) (k : Nat) : (dss.take k).flatten.length ≤ dss.flatten.length := by
  have h : dss.flatten = (dss.take k).flatten ++ (dss.drop k).flatten := by rw [← List.flatten_append, List.take_append_drop]
  rw [h, List.length_append]
  omega

set_option maxRecDepth 100000 in
set_option maxHeartbeats 3200000 in
theorem joined_any (b M : Nat) (vs : List Value) (dss : List (List AD)) (w : World) (hb : w.heap[b]? = some (.cells vs.toArray 33 (0, 0))) (hl : M = dss.length) (hM : M ≤ 10)
    (hv : ∀ k (h : k < dss.length), ∃ v, vs[k]? = some v ∧ RdK 8 w v dss[k].length (acells dss[k])) (htot : dss.flatten.length ≤ 10000) :
    Calls Try.prog 30 #[.slice (some ⟨b, 0, none⟩) M M] w (JoinPost dss.flatten w) := by
  obtain ⟨c0, hc, hcz0, hcz1, hcz2⟩ := info_parts Try.infoAk
  have HB := Lib.hid hb
  have HL := Lib.hid hl
  have HV := Lib.hid hv
  obtain ⟨n, hn⟩ : ∃ n, n = dss.flatten.length := ⟨_, rfl⟩
  have HN := Lib.hid hn
  have HLE := Lib.hid (fun k => (show (dss.take k).flatten.length ≤ n by rw [hn]; exact flat_le dss k))
  have hn1 : n ≤ 10000 := by omega
  have hmk : ∀ W : World, (Instr.makeSlice 33 (.int .i64 (n : Int)) (.int .i64 (n : Int))).run Try.prog W = .ok (.slice (some ⟨W.heap.size, 0, none⟩) n n) (W.alloc (.cells (madeCells c0.zero.get!.cells (n * 8)) 25)) := by
    intro W
    have := run_make (P := Try.prog) W 33 25 c0 _ Try.underlying33 hc hcz0 .i64 .i64 (n : Int) (n : Int) (by omega) (by omega) (by rw [hcz2]; omega) (by omega)
    rw [this, hcz1, hcz0, Int.toNat_natCast]
    rfl
  obtain ⟨Z, hZ⟩ : ∃ Z, Z = madeCells c0.zero.get!.cells (n * 8) := ⟨_, rfl⟩
  have HZ := Lib.hid (show Z.toList.length = n * 8 by rw [hZ]; simp [size_madeCells])
  rw [← hZ] at hmk
  have hZZ : Z = Z.toList.toArray := by simp
  have hsz : (Try.prog.info? 25).map (·.size) = some 8 := by rw [hc]; simp [hcz1]
  obtain ⟨ZL, hZL⟩ : ∃ ZL, ZL = Z.toList := ⟨_, rfl⟩
  rw [← hZL] at HZ hZZ
  rw [hZZ] at hmk
  clear hZ hZZ hZL Z hb hl hv hn htot
  go_enter Try.func30, Try.ntmps30
  go_wp2
  go_loopw [3, 12] (fun s i wr => ∃ (k q : Nat), k ≤ M ∧ i = .int .i64 k ∧ s = .int .i64 q ∧ q = (dss.take k).flatten.length ∧ Ext w wr) (fun _ i _ => M - (intOf i).toNat)
  case atStart => exact ⟨0, 0, by omega, rfl, rfl, rfl, Ext.refl _⟩
  case round =>
    obtain ⟨k, q, hkM, rfl, rfl, hq, hx⟩ := hrel
    have HX := Lib.hid hx
    have HQ := Lib.hid hq
    have hq1 : q ≤ n := by rw [hq]; exact HLE.out k
    clear hx hq
    have i0 : (0 : Int) ≤ (k : Int) := by omega
    by_cases hlt : k < M
    · have i1 : (k : Int) < (M : Int) := by omega
      have hkd : k < dss.length := by have := HL.out; omega
      obtain ⟨v, hvk, hrd⟩ := HV.out k hkd
      obtain ⟨A, c, rfl, _⟩ := hrd
      have q0 := HX.out.cell (bcel HB.out k _ (by rw [List.getElem?_toArray]; exact hvk))
      have HD := Lib.hid (flat_step dss k hkd)
      obtain ⟨dl, hdl⟩ : ∃ dl, dl = dss[k].length := ⟨_, rfl⟩
      rw [← hdl] at q0
      have HQ2 := Lib.hid (show q + dl = (dss.take (k + 1)).flatten.length by rw [HD.out, List.length_append, ← HQ.out, hdl])
      have hq2 : q + dl ≤ n := by rw [HQ2.out]; exact HLE.out (k + 1)
      clear hdl hvk
      go_wp2
      go_roundw
      case rel => exact ⟨k + 1, q + dl, by omega, by simp, by simp, HQ2.out, HX.out⟩
      case measure => simp [intOf]; omega
    · obtain rfl : k = M := by omega
      have i1 : ¬ (k : Int) < (k : Int) := by omega
      obtain rfl : q = n := by rw [HQ.out, HL.out, List.take_length]; exact HN.out.symm
      clear HQ
      go_upto_region 8 with fail
      refine at_world (fun W1 hW1 => ?_)
      have HG := Lib.hid (show W1.heap[wr.heap.size]? = some (.cells ZL.toArray 25 (0, 0)) by rw [hW1]; exact heap_alloc_new wr _)
      have X1 := Lib.hid (HX.out.trans (show Ext wr W1 by rw [hW1]; exact ext_alloc _ _))
      have HGW := Lib.hid (show w.heap.size ≤ wr.heap.size from HX.out.size)
      obtain ⟨G, hG⟩ : ∃ G, G = wr.heap.size := ⟨_, rfl⟩
      rw [← hG] at HG HGW ⊢
      clear hW1 hG HX hmk
      go_wp2
      go_loopw [7, 25] (fun s i wr => ∃ (j p : Nat) (R : List Value), j ≤ k ∧ i = .int .i64 j ∧ s = .int .i64 p ∧ p = (dss.take j).flatten.length ∧ R.length = (q - p) * 8 ∧ wr.heap[G]? = some (.cells (acells (dss.take j).flatten ++ R).toArray 25 (0, 0)) ∧ Ext w wr) (fun _ i _ => k - (intOf i).toNat)
      case atStart => exact ⟨0, 0, ZL, by omega, rfl, rfl, rfl, by rw [HZ.out, Nat.sub_zero], HG.out, X1.out⟩
      case round =>
        obtain ⟨j, p, R, hjM, rfl, rfl, hp, hR, hg, hx⟩ := hrel
        have HX := Lib.hid hx
        have HP := Lib.hid hp
        have HR := Lib.hid hR
        have HGR := Lib.hid hg
        have hp1 : p ≤ q := by rw [hp]; exact HLE.out j
        clear hx hp hR hg X1 HG
        have j0 : (0 : Int) ≤ (j : Int) := by omega
        by_cases hlt2 : j < k
        · have j1 : (j : Int) < (k : Int) := by omega
          have hkd : j < dss.length := by have := HL.out; omega
          obtain ⟨v, hvk, hrd⟩ := HV.out j hkd
          have HRD := Lib.hid (hrd.ext HX.out)
          obtain ⟨A, c, rfl, _, hc2, _⟩ := hrd
          have q0 := HX.out.cell (bcel HB.out j _ (by rw [List.getElem?_toArray]; exact hvk))
          have HD := Lib.hid (flat_step dss j hkd)
          obtain ⟨dl, hdl⟩ : ∃ dl, dl = dss[j].length := ⟨_, rfl⟩
          have HDL := Lib.hid (show (acells dss[j]).length = dl * 8 by rw [acells_len, hdl])
          rw [← hdl] at q0 HRD
          have HQ2 := Lib.hid (show p + dl = (dss.take (j + 1)).flatten.length by rw [HD.out, List.length_append, ← HP.out, hdl])
          have hq2 : p + dl ≤ q := by rw [HQ2.out]; exact HLE.out (j + 1)
          have sl := fun (W : World) (kl : IntKind) => slK_l (P := Try.prog) (A := some ⟨G, 0, none⟩) (n := q) (c := q) Try.underlying33 hc hcz1 (l := p) (by omega) W kl
          obtain ⟨m, hm⟩ : ∃ m, m = q - p := ⟨_, rfl⟩
          obtain ⟨A2, hA2⟩ : ∃ A2, A2 = subK 8 (some ⟨G, 0, none⟩) p q := ⟨_, rfl⟩
          rw [← hm, ← hA2] at sl
          have HA2 := Lib.hid (show 0 < dl → A2 = some ⟨G, p * 8, none⟩ from fun h => by rw [hA2]; exact subK_head 8 G p q (by omega))
          have hmd : dl ≤ m := by omega
          have HM := Lib.hid hm
          have HPL := Lib.hid (show (acells (dss.take j).flatten).length = p * 8 by rw [acells_len, HP.out])
          obtain ⟨L1, hL1⟩ : ∃ L1, L1 = acells (dss.take j).flatten := ⟨_, rfl⟩
          rw [← hL1] at HGR HPL
          obtain ⟨L2, hL2⟩ : ∃ L2, L2 = acells dss[j] := ⟨_, rfl⟩
          have HO := Lib.hid (show ∀ u ∈ L2, u.oneCell' = true by rw [hL2]; exact acells_one _)
          rw [← hL2] at HRD HDL
          have HSP := Lib.hid (show splice (L1 ++ R) (p * 8) L2 = acells (dss.take (j + 1)).flatten ++ R.drop (dl * 8) by
            unfold splice
            rw [HD.out, acells_app, ← hL1, ← hL2, List.take_left' HPL.out, HDL.out, ← HPL.out, List.drop_length_add_append, List.append_assoc])
          have HRR := Lib.hid (show (R.drop (dl * 8)).length = (q - (p + dl)) * 8 by rw [List.length_drop, HR.out]; omega)
          have BX := Lib.hid (show Below w.heap.size w wr from HX.out)
          clear hdl hvk hm hA2 hL1 hL2
          go_wp2_with (with_reducible refine wpList_copyK rfl (.tmp 32) (.tmp 33) 33 33 rfl 25 8 Try.underlying33 hsz A2 A m m dl c dl rfl rfl G (p * 8) (L1 ++ R) 25 HGR.out L2 ?c1 HDL.out ?c2 ?c3 HO.out w.heap.size w BX.out HGW.out ?_)
          case c1 => exact Nat.min_eq_left (by omega)
          case c2 =>
            intro h0
            obtain ⟨A', c', e, _, _, _, hcs⟩ := HRD.out
            injection e with e1 e2 e3
            subst e1
            obtain ⟨ad, e4, _, hcc⟩ := hcs (by rw [HDL.out]; omega)
            exact ⟨HA2.out h0, ad, e4, hcc⟩
          case c3 => rw [HDL.out, List.length_append, HPL.out, HR.out]; omega
          intro W4 hg4 hb4 hgr4
          have HG4 := Lib.hid (show W4.heap[G]? = some (.cells (acells (dss.take (j + 1)).flatten ++ R.drop (dl * 8)).toArray 25 (0, 0)) by rw [← HSP.out]; exact hg4.out)
          have X4 := Lib.hid (show Ext w W4 from hb4)
          clear hg4 hb4 hgr4
          go_wp2
          go_roundw
          case rel => exact ⟨j + 1, p + dl, _, by omega, by simp, by simp, HQ2.out, HRR.out, HG4.out, X4.out⟩
          case measure => simp [intOf]; omega
        · obtain rfl : j = k := by omega
          have j1 : ¬ (j : Int) < (j : Int) := by omega
          obtain rfl : p = q := by rw [HP.out, HL.out, List.take_length]; exact HN.out.symm
          have HR0 := Lib.hid (show R = [] from List.eq_nil_of_length_eq_zero (by rw [HR.out]; omega))
          go_wp2
          go_ret
          refine ⟨G, by rw [← HN.out]; rfl, HGW.out, ?_, HX.out⟩
          have := HGR.out
          rw [HR0.out, List.append_nil, HL.out, List.take_length] at this
          exact this
end Go.Proofs.Ytbocpkdnlpobkaa
