/- The law CodecBack holds at every input: what was written, one behind the other, is read as it was, and there is an end; a byte less is cut, one more is more. No condition. -/
import Derived.Test.YtnkhobdpiifaaaaBackI
import Derived.Test.YtnkhobdpiifaaaaNew
import Derived.Test.YtnkhobdpiifaaaaKnown
import Derived.Test.YtnkhobdpiifaaaaOpenR
import Derived.Test.YtnkhobdpiifaaaaSched
import Derived.WalkLawsBesides
import Derived.Laws.Strings
import Derived.JoinedOf
import Derived.JoinedAt
import Derived.RowKit3
import Derived.Lib.SmallJoins
namespace Go.Proofs.Ytnkhobdpiifaaaa.CodecBack
open Go.ChangeShapes Go.WideShapes Go.ChangeAt Go.RowKit Go.Joins

theorem ba_ne {z x : ByteArray} (h : ¬ z = x) : (z.toList == x.toList) = false := by
  rw [beq_eq_false_iff_ne]
  intro e
  rw [ByteArray.toList_eq, ByteArray.toList_eq] at e
  apply h
  cases z; cases x
  simp only at e
  rw [Array.toList_inj] at e
  rw [e]

theorem ext_alloc (w : World) (o : Obj) : Ext w (w.alloc o) := (Below.refl _ _).alloc (Nat.le_refl _) o
/-- What lies below B stays. -/
def LB (B : Nat) (a b : World) : Prop := B ≤ a.heap.size → Below B a b
theorem LB_way (B : Nat) : Way (LB B) := ⟨fun h hB => Below.mono h hB, fun h k hB => (h hB).trans (k (Nat.le_trans hB (h hB).size))⟩
theorem lb_cell {B : Nat} {a b : World} (h : LB B a b) (hB : B ≤ a.heap.size) {p : Addr} {v : Value} (hc : a.cell? p = some v) (hp : p.block < B) : b.cell? p = some v := (Below.cell (h hB) hp).trans hc
theorem lb_grown {B R : Nat} {a b : World} (h : a.grownBy b (some R)) (hR : B ≤ R) : LB B a b := fun hB => grown_below h hB (fun k hk => by injection hk with hk; omega)

theorem Rd.shape {w : World} {v : Value} {xs : List Value} (h : Rd w v xs) : ∃ A n c, v = .slice A n c := by
  obtain ⟨A, c, h, _⟩ := h.len
  exact ⟨A, _, c, h⟩

theorem rows_list {w : World} : ∀ (rows : List Value), (∀ u ∈ rows, ∃ zs : List Int, Rd w u (zs.map (Value.int .i64)) ∧ ∀ z ∈ zs, (Lit.int .i64 z).wf = true) →
    ∃ ls : List (List Int), ls.length = rows.length ∧ ∀ k (h : k < rows.length) (h' : k < ls.length), Rd w rows[k] (ls[k].map (Value.int .i64)) ∧ ∀ z ∈ ls[k], (Lit.int .i64 z).wf = true
  | [], _ => ⟨[], rfl, fun k h _ => absurd h (by simp)⟩
  | u :: rows, h => by
    obtain ⟨ls, h1, h2⟩ := rows_list rows (fun x hx => h x (List.mem_cons_of_mem _ hx))
    obtain ⟨zs, h3, h4⟩ := h u (List.mem_cons_self)
    refine ⟨zs :: ls, by simp [h1], fun k hk hk' => ?_⟩
    cases k with
    | zero => exact ⟨h3, h4⟩
    | succ k => simpa using h2 k (by simpa using hk) (by simpa using hk')

set_option maxRecDepth 100000 in
set_option maxHeartbeats 16000000 in
theorem walk (w : World) (v0 : Value) (ns : List Int) (r0 : Rd w v0 (ns.map (Value.int .i64))) (wf0 : ∀ z ∈ ns, (Lit.int .i64 z).wf = true) (v1 : Value) (ss : List ByteArray) (r1 : Rd w v1 (ss.map Value.string)) (_ : ∀ s ∈ ss, s.size ≤ maxLen)
    (v2 : Value) (rows : List Value) (r2 : Rd w v2 rows) (hrows : ∀ u ∈ rows, ∃ zs : List Int, Rd w u (zs.map (Value.int .i64)) ∧ ∀ z ∈ zs, (Lit.int .i64 z).wf = true) :
    Calls Try.prog 3 #[v0, v1, v2] w fun e w' => e = .returned (.bool true) ∧ Below w.heap.size w w' := by
  obtain ⟨i0', hi, hz0, hz1, hz2⟩ := info_parts Try.infoU8
  obtain ⟨ls, hls, hrow⟩ := rows_list rows hrows
  obtain ⟨A0, c0, rfl, hc0, hm0, hcn⟩ := r0
  obtain ⟨A1, c1, rfl, hc1, hm1, hcs⟩ := r1
  obtain ⟨A2, c2, rfl, hc2, hm2, hcl⟩ := r2
  simp only [List.length_map] at *
  have HN := Lib.hid hcn
  have HS := Lib.hid hcs
  have HL := Lib.hid hcl
  have HRow := Lib.hid hrow
  have HLs := Lib.hid hls
  have HW0 := Lib.hid wf0
  unfold maxLen at hm0 hm1 hm2
  clear hcn hcs hcl hrow hls wf0 hrows
  by_cases h1 : (20 : Int) < ns.length
  · go_enter Try.func3, Try.ntmps3
    go_wp2_with fail
    refine (known_any _).mono ?_
    rintro e w1 ⟨rfl, hx1⟩
    have E1 := Lib.hid hx1
    clear hx1
    go_wp2
    go_ret
    exact ⟨rfl, E1.out⟩
  by_cases h2 : (10 : Int) < ss.length
  · go_enter Try.func3, Try.ntmps3
    go_wp2_with fail
    refine (known_any _).mono ?_
    rintro e w1 ⟨rfl, hx1⟩
    have E1 := Lib.hid hx1
    clear hx1
    go_wp2
    go_ret
    exact ⟨rfl, E1.out⟩
  by_cases h3 : (10 : Int) < rows.length
  · go_enter Try.func3, Try.ntmps3
    go_wp2_with fail
    refine (known_any _).mono ?_
    rintro e w1 ⟨rfl, hx1⟩
    have E1 := Lib.hid hx1
    clear hx1
    go_wp2
    go_ret
    exact ⟨rfl, E1.out⟩
  go_enter Try.func3, Try.ntmps3
  go_wp2_with fail
  refine (known_any _).mono ?_
  rintro e w1 ⟨rfl, hx1⟩
  have E1 := Lib.hid hx1
  clear hx1
  go_wp2
  go_loopw [7, 8] (fun b i wr => ∃ k : Nat, k ≤ ns.length ∧ i = .int .i64 k ∧ Rd wr b (bvs (eNums (ns.take k))) ∧ Ext w wr) (fun _ i _ => ns.length - (intOf i).toNat)
  case atStart => exact ⟨0, Nat.zero_le _, rfl, Rd.nil _, E1.out⟩
  case round =>
    obtain ⟨k, hk, rfl, hB, hE⟩ := hrel
    have RB := Lib.hid hB
    have HE := Lib.hid hE
    clear hB hE
    by_cases hlt : k < ns.length
    · obtain ⟨an, rfl, hab, hcs⟩ := HN.out (by omega)
      have cw : wr.cell? (an.add k) = some (.int .i64 ns[k]) := (World.cell?_of_block (HE.out.block _ (by rw [add_block]; exact hab))).trans (hcs k _ (by simp [hlt]))
      have i0 : (0 : Int) ≤ (k : Int) := by omega
      have i1 : (k : Int) < (ns.length : Int) := by omega
      have SN := Lib.hid (numsT_snoc ns k hlt)
      have hln : (eNums (ns.take k)).length ≤ 160 := by rw [eNums_length, List.length_take]; omega
      generalize ns[k] = x at *
      clear hcs
      go_wp2_with fail
      refine (Int_any _ (eNums (ns.take k)) x _ RB.out (by omega)).mono ?_
      rintro e w2 ⟨v', rfl, ho, hx2⟩
      rw [← SN.out] at ho
      have RB2 := Lib.hid (Rd.of_own ho)
      have E2 := Lib.hid (HE.out.trans hx2)
      obtain ⟨Ab, nb, cb, rfl⟩ := Rd.shape RB2.out
      clear ho hx2 hln
      go_wp2
      go_roundw
      case rel => exact ⟨k + 1, by omega, by go_num, RB2.out, E2.out⟩
      case measure => simp [intOf]; omega
    · obtain rfl : k = ns.length := by omega
      rw [List.take_length] at RB
      have RB := Lib.hid RB.out
      go_wp2
      go_loopw [7, 9] (fun b i wr => ∃ k : Nat, k ≤ ss.length ∧ i = .int .i64 k ∧ Rd wr b (bvs (eNums ns ++ eTexts (ss.take k))) ∧ (eNums ns ++ eTexts (ss.take k)).length ≤ 160 + 202 * k ∧ (∀ s ∈ ss.take k, s.size ≤ 200) ∧ Ext w wr) (fun _ i _ => ss.length - (intOf i).toNat)
      case atStart => exact ⟨0, Nat.zero_le _, rfl, by simpa [eTexts] using RB.out, by simp [eTexts, eNums_length]; omega, by simp, HE.out⟩
      case round =>
        obtain ⟨k, hk, rfl, hB, hBl, hsz, hE⟩ := hrel
        have RB := Lib.hid hB
        have HE := Lib.hid hE
        have HZ := Lib.hid hsz
        clear hB hE hsz
        by_cases hlt : k < ss.length
        · obtain ⟨ast, rfl, hab, hcs⟩ := HS.out (by omega)
          have cw : wr.cell? (ast.add k) = some (.string ss[k]) := (World.cell?_of_block (HE.out.block _ (by rw [add_block]; exact hab))).trans (hcs k _ (by simp [hlt]))
          have i0 : (0 : Int) ≤ (k : Int) := by omega
          have i1 : (k : Int) < (ss.length : Int) := by omega
          have SN := Lib.hid (texts_snoc ss k hlt)
          have SZ := Lib.hid (show ss[k].size ≤ 200 → ∀ s ∈ ss.take (k + 1), s.size ≤ 200 from fun h s hs => by
            rw [List.take_succ_eq_append_getElem hlt] at hs
            rcases List.mem_append.1 hs with hs | hs
            · exact HZ.out s hs
            · rw [List.mem_singleton.1 hs]; exact h)
          generalize ss[k] = x at *
          clear hcs
          by_cases hbig : (200 : Int) < x.size
          · go_wp2
            go_ret
            exact ⟨rfl, HE.out⟩
          · have hsm : x.size ≤ 200 := by omega
            go_wp2_with fail
            refine (Text_short _ (eNums ns ++ eTexts (ss.take k)) x _ RB.out (by omega) (by omega)).mono ?_
            rintro e w2 ⟨v', rfl, ho, hx2⟩
            have e1 : eNums ns ++ eTexts (ss.take k) ++ be x.size 2 ++ x.data.toList = eNums ns ++ eTexts (ss.take (k + 1)) := by rw [SN.out]; simp only [eText, List.append_assoc]
            have hl1 : (eNums ns ++ eTexts (ss.take (k + 1))).length ≤ 160 + 202 * (k + 1) := by
              rw [← e1]
              have : x.data.toList.length = x.size := Array.length_toList
              simp only [List.length_append, be_length] at hBl ⊢
              omega
            rw [e1] at ho
            have RB2 := Lib.hid (Rd.of_own ho)
            have E2 := Lib.hid (HE.out.trans hx2)
            have HL1 := Lib.hid hl1
            obtain ⟨Ab, nb, cb, rfl⟩ := Rd.shape RB2.out
            clear ho hx2 e1 hl1
            go_wp2
            go_roundw
            case rel => exact ⟨k + 1, by omega, by go_num, RB2.out, HL1.out, SZ.out hsm, E2.out⟩
            case measure => simp [intOf]; omega
        · obtain rfl : k = ss.length := by omega
          rw [List.take_length] at RB HZ hBl
          have RB := Lib.hid RB.out
          go_wp2
          go_loopw [7, 10] (fun b i wr => ∃ k : Nat, k ≤ rows.length ∧ i = .int .i64 k ∧ Rd wr b (bvs (eNums ns ++ eTexts ss ++ eLists (ls.take k))) ∧ (eNums ns ++ eTexts ss ++ eLists (ls.take k)).length ≤ 2180 + 402 * k ∧ (∀ s ∈ ls.take k, s.length ≤ 50) ∧ Ext w wr) (fun _ i _ => rows.length - (intOf i).toNat)
          case atStart => exact ⟨0, Nat.zero_le _, rfl, by simpa [eLists] using RB.out, by simp [eLists]; simp at hBl; omega, by simp, HE.out⟩
          case round =>
            obtain ⟨k, hk, rfl, hB, hBl3, hsz, hE⟩ := hrel
            have RB := Lib.hid hB
            have HE := Lib.hid hE
            have HZ3 := Lib.hid hsz
            clear hB hE hsz
            by_cases hlt : k < rows.length
            · obtain ⟨al, rfl, hab, hcs⟩ := HL.out (by omega)
              have hlt' : k < ls.length := by rw [HLs.out]; exact hlt
              have cw : wr.cell? (al.add k) = some rows[k] := (World.cell?_of_block (HE.out.block _ (by rw [add_block]; exact hab))).trans (hcs k _ (by simp [hlt]))
              have i0 : (0 : Int) ≤ (k : Int) := by omega
              have i1 : (k : Int) < (rows.length : Int) := by omega
              have SN := Lib.hid (lists_snoc ls k hlt')
              have SZ := Lib.hid (show ls[k].length ≤ 50 → ∀ s ∈ ls.take (k + 1), s.length ≤ 50 from fun h s hs => by
                rw [List.take_succ_eq_append_getElem hlt'] at hs
                rcases List.mem_append.1 hs with hs | hs
                · exact HZ3.out s hs
                · rw [List.mem_singleton.1 hs]; exact h)
              have RR := Lib.hid (HRow.out k hlt hlt').1
              generalize ls[k] = x at *
              generalize rows[k] = u at *
              obtain ⟨Au, cu, rfl, _, _⟩ := RR.out.len
              rw [List.length_map] at *
              clear hcs
              by_cases hbig : (50 : Int) < x.length
              · go_wp2
                go_ret
                exact ⟨rfl, HE.out⟩
              · have hsm : x.length ≤ 50 := by omega
                go_wp2_with fail
                refine (Ints_short _ _ (eNums ns ++ eTexts ss ++ eLists (ls.take k)) x _ RB.out (RR.out.ext HE.out) (by omega) (by omega)).mono ?_
                rintro e w2 ⟨v', rfl, ho, hx2⟩
                have e1 : eNums ns ++ eTexts ss ++ eLists (ls.take k) ++ be x.length 2 ++ eNums x = eNums ns ++ eTexts ss ++ eLists (ls.take (k + 1)) := by rw [SN.out]; simp only [eList, List.append_assoc]
                have hl1 : (eNums ns ++ eTexts ss ++ eLists (ls.take (k + 1))).length ≤ 2180 + 402 * (k + 1) := by
                  rw [← e1]
                  simp only [List.length_append, be_length, eNums_length] at hBl3 ⊢
                  omega
                rw [e1] at ho
                have RB2 := Lib.hid (Rd.of_own ho)
                have E2 := Lib.hid (HE.out.trans hx2)
                have HL1 := Lib.hid hl1
                obtain ⟨Ab, nb, cb, rfl⟩ := Rd.shape RB2.out
                clear ho hx2 e1 hl1
                go_wp2
                go_roundw
                case rel => exact ⟨k + 1, by omega, by go_num, RB2.out, HL1.out, SZ.out hsm, E2.out⟩
                case measure => simp [intOf]; omega
            · obtain rfl : k = rows.length := by omega
              have hlk : ls.take rows.length = ls := List.take_of_length_le (by rw [HLs.out]; exact Nat.le_refl _)
              rw [hlk] at RB HZ3 hBl3
              have EB := Lib.hid HE.out
              have hBB : ∃ B : List UInt8, B = eNums ns ++ (eTexts ss ++ eLists ls) ∧ Rd wr _ (bvs B) ∧ B.length ≤ 6200 := ⟨_, rfl, by rw [← List.append_assoc]; exact RB.out, by rw [← List.append_assoc]; omega⟩
              obtain ⟨B, hBe, hRB, hBl4⟩ := hBB
              have HBe := Lib.hid hBe
              have RB4 := Lib.hid hRB
              obtain ⟨Ab, cb, rfl, hcb, hmb⟩ := hRB.len
              rw [bvs_length] at *
              clear hBe hRB hBl3 hBl hlk RB HE
              generalize wr = wb at *
              go_wp2
              go_loopw [11] (fun i wr => ∃ k : Nat, k ≤ 3 ∧ i = .int .i64 k ∧ Ext wb wr) (fun i _ => 3 - (intOf i).toNat)
              case atStart => exact ⟨0, by decide, rfl, Ext.refl _⟩
              case round =>
                obtain ⟨k, hk3, rfl, hE⟩ := hrel
                have E4 := Lib.hid hE
                clear hE
                by_cases hlt3 : k < 3
                · obtain rfl | rfl | rfl : k = 0 ∨ k = 1 ∨ k = 2 := by omega
                  · skip
                    have E5 := E4
                    obtain ⟨X, hX⟩ : ∃ X, X = B := ⟨_, rfl⟩
                    have RX := Lib.hid (show Rd wr (.slice Ab B.length cb) (bvs X) from by rw [hX]; exact RB4.out.ext E4.out)
                    have HJ := Lib.hid (show J (some []) B X 0 true from hX ▸ J.start0 B)
                    have hXl : X.length ≤ 140737488355328 := by rw [hX]; omega
                    clear hX
                    go_wp2_with fail
                    refine (New_any _ X _ RX.out hXl).mono ?_
                    rintro e w5 ⟨R, rfl, hx5, hR5, hRw5⟩
                    have hR : wb.heap.size ≤ R := Nat.le_trans E5.out.size hRw5
                    have hbs := EB.out.size
                    have HR := Lib.hid hR5
                    have E6 := Lib.hid (E5.out.trans hx5)
                    have HJ := Lib.hid (HBe.out ▸ HJ.out : J (some []) (eNums ns ++ (eTexts ss ++ eLists ls)) X 0 true)
                    clear hx5 hR5 hRw5
                    go_wp2
                    go_loopw [14, 15] (fun s14 i wr => ∃ (j : Nat) (q : Bool) (l : List UInt8) (e : Int), j ≤ ns.length ∧ i = .int .i64 j ∧ s14 = .bool q ∧ Rdr wr R l e ∧ J (some []) (eNums (ns.drop j) ++ (eTexts ss ++ eLists ls)) l e q ∧ Ext wb wr) (fun _ i _ => ns.length - (intOf i).toNat)
                    case atStart => exact ⟨0, true, X, 0, Nat.zero_le _, rfl, rfl, HR.out, HJ.out, E6.out⟩
                    case round =>
                      obtain ⟨j, q, l, e, hj, rfl, rfl, hRd, hJ, hE⟩ := hrel
                      have HR := Lib.hid hRd
                      have HJ := Lib.hid hJ
                      have E6 := Lib.hid hE
                      clear hRd hJ hE
                      by_cases hlt : j < ns.length
                      · obtain ⟨an, rfl, hab, hcs⟩ := HN.out (by omega)
                        have hbl : (an.add j).block < wb.heap.size := by rw [add_block]; omega
                        have cw : wr.cell? (an.add j) = some (.int .i64 ns[j]) := (World.cell?_of_block ((EB.out.trans E6.out).block _ (by rw [add_block]; exact hab))).trans (hcs j _ (by simp [hlt]))
                        have i0 : (0 : Int) ≤ (j : Int) := by omega
                        have i1 : (j : Int) < (ns.length : Int) := by omega
                        have DJ := Lib.hid (nums_drop ns j hlt (eTexts ss ++ eLists ls) ▸ HJ.out : J (some []) (eInt ns[j] ++ (eNums (ns.drop (j + 1)) ++ (eTexts ss ++ eLists ls))) l e q)
                        have WX := Lib.hid (HW0.out ns[j] (List.getElem_mem hlt))
                        generalize ns[j] = x at *
                        clear hcs
                        obtain ⟨z, hz⟩ : ∃ z, iV l = z := ⟨_, rfl⟩
                        have HZ := Lib.hid hz
                        clear hz
                        have hsz6 := E6.out.size
                        by_cases hzx : z = x
                        · subst hzx
                          have SJ := Lib.hid (DJ.out.step (item_int z) true (fun _ _ => rfl))
                          go_wp2
                          refine wp_region_sched (LB wb.heap.size) (LB_way _) [(0, true), (2, true), (3, true), (4, true), (5, true), (1, false), (6, true), (7, true), (8, true), (9, true), (10, true)] (by kernel_rfl) (by kernel_rfl) (fun _ _ _ _ _ h => h) ?_
                          repeat first | ((with_reducible refine sched_free ?_ ?_ ?_ ?_ (fun wk k1 => ?_) ?_); rotate_left 2; (rfl); (first | exact want_none rfl | exact want_some rfl rfl rfl rfl); (go_simp; first | exact OkX.val | (have cc := lb_cell k1 hsz6 cw hbl; go_simp; exact OkX.val)); simp only [Act.put, List.setIfInBounds_toArray, List.set_cons_zero, List.set_cons_succ]) | ((with_reducible refine sched_skip ?_ ?_ ?_ ?_); rotate_left; (rfl); (exact want_not rfl rfl rfl rfl rfl); simp only [Act.put, List.setIfInBounds_toArray, List.set_cons_zero, List.set_cons_succ])
                          ((with_reducible refine sched_step ?_ ?_ ?_ (fun wk k1 => ?_)); rotate_left; (rfl); (first | exact want_none rfl | exact want_some rfl rfl rfl rfl))
                          have X1 := Lib.hid ((Ext.drew _).trans k1)
                          clear k1
                          go_simp
                          refine (Int_S R l e _ (HR.out.ext X1.out)).mono ?_
                          rw [HZ.out]
                          rintro r w6 ⟨rfl, hg, hR6⟩
                          refine ⟨lb_grown hg hR, ?_⟩
                          have HR6 := Lib.hid hR6
                          have E7 := Lib.hid ((E6.out.trans X1.out).trans' (grown_below hg (E6.out.trans X1.out).size (fun k hk => by injection hk with hk; omega)))
                          clear hg hR6
                          try simp only [Act.put, List.setIfInBounds_toArray, List.set_cons_zero, List.set_cons_succ]
                          repeat first | ((with_reducible refine sched_free ?_ ?_ ?_ ?_ (fun wk k1 => ?_) ?_); rotate_left 2; (rfl); (first | exact want_none rfl | exact want_some rfl rfl rfl rfl); (go_simp; first | exact OkX.val); simp only [Act.put, List.setIfInBounds_toArray, List.set_cons_zero, List.set_cons_succ]) | ((with_reducible refine sched_skip ?_ ?_ ?_ ?_); rotate_left; (rfl); (exact want_not rfl rfl rfl rfl rfl); simp only [Act.put, List.setIfInBounds_toArray, List.set_cons_zero, List.set_cons_succ])
                          refine sched_done (fun wk k1 => ?_)
                          have E8 := Lib.hid (E7.out.trans k1)
                          have HR8 := Lib.hid (HR6.out.ext k1)
                          clear k1
                          go_wp2
                          go_roundw
                          case rel => exact ⟨j + 1, _, _, _, by omega, by go_num, rfl, HR8.out, SJ.out, E8.out⟩
                          case measure => simp [intOf]; omega
                        · have hv : (z == x) = false := by simpa using hzx
                          have SJ := Lib.hid (DJ.out.step (item_int x) false (fun Y hY => absurd ((HZ.out.symm.trans (hY ▸ int_val x WX.out Y))) hzx))
                          clear hzx
                          go_wp2
                          refine wp_region_sched (LB wb.heap.size) (LB_way _) [(0, true), (2, true), (3, true), (4, true), (5, true), (1, false), (6, true), (7, true), (8, true), (9, true), (10, true)] (by kernel_rfl) (by kernel_rfl) (fun _ _ _ _ _ h => h) ?_
                          repeat first | ((with_reducible refine sched_free ?_ ?_ ?_ ?_ (fun wk k1 => ?_) ?_); rotate_left 2; (rfl); (first | exact want_none rfl | exact want_some rfl rfl rfl rfl); (go_simp; first | exact OkX.val | (have cc := lb_cell k1 hsz6 cw hbl; go_simp; exact OkX.val)); simp only [Act.put, List.setIfInBounds_toArray, List.set_cons_zero, List.set_cons_succ]) | ((with_reducible refine sched_skip ?_ ?_ ?_ ?_); rotate_left; (rfl); (exact want_not rfl rfl rfl rfl rfl); simp only [Act.put, List.setIfInBounds_toArray, List.set_cons_zero, List.set_cons_succ])
                          ((with_reducible refine sched_step ?_ ?_ ?_ (fun wk k1 => ?_)); rotate_left; (rfl); (first | exact want_none rfl | exact want_some rfl rfl rfl rfl))
                          have X1 := Lib.hid ((Ext.drew _).trans k1)
                          clear k1
                          go_simp
                          refine (Int_S R l e _ (HR.out.ext X1.out)).mono ?_
                          rw [HZ.out]
                          rintro r w6 ⟨rfl, hg, hR6⟩
                          refine ⟨lb_grown hg hR, ?_⟩
                          have HR6 := Lib.hid hR6
                          have E7 := Lib.hid ((E6.out.trans X1.out).trans' (grown_below hg (E6.out.trans X1.out).size (fun k hk => by injection hk with hk; omega)))
                          clear hg hR6
                          try simp only [Act.put, List.setIfInBounds_toArray, List.set_cons_zero, List.set_cons_succ]
                          repeat first | ((with_reducible refine sched_free ?_ ?_ ?_ ?_ (fun wk k1 => ?_) ?_); rotate_left 2; (rfl); (first | exact want_none rfl | exact want_some rfl rfl rfl rfl); (go_simp; first | exact OkX.val); simp only [Act.put, List.setIfInBounds_toArray, List.set_cons_zero, List.set_cons_succ]) | ((with_reducible refine sched_skip ?_ ?_ ?_ ?_); rotate_left; (rfl); (exact want_not rfl rfl rfl rfl rfl); simp only [Act.put, List.setIfInBounds_toArray, List.set_cons_zero, List.set_cons_succ])
                          refine sched_done (fun wk k1 => ?_)
                          have E8 := Lib.hid (E7.out.trans k1)
                          have HR8 := Lib.hid (HR6.out.ext k1)
                          clear k1
                          go_wp2
                          go_roundw
                          case rel => exact ⟨j + 1, _, _, _, by omega, by go_num, rfl, HR8.out, SJ.out, E8.out⟩
                          case measure => simp [intOf]; omega
                      · obtain rfl : j = ns.length := by omega
                        have HJ := Lib.hid (by have h := HJ.out; rw [List.drop_length] at h; exact h : J (some []) (eTexts ss ++ eLists ls) l e q)
                        go_wp2
                        go_loopw [14, 16] (fun s14 i wr => ∃ (j : Nat) (q : Bool) (l : List UInt8) (e : Int), j ≤ ss.length ∧ i = .int .i64 j ∧ s14 = .bool q ∧ Rdr wr R l e ∧ J (some []) (eTexts (ss.drop j) ++ eLists ls) l e q ∧ Ext wb wr) (fun _ i _ => ss.length - (intOf i).toNat)
                        case atStart => exact ⟨0, q, l, e, Nat.zero_le _, rfl, rfl, HR.out, HJ.out, E6.out⟩
                        case round =>
                          obtain ⟨j, q, l, e, hj, rfl, rfl, hRd, hJ, hE⟩ := hrel
                          have HR := Lib.hid hRd
                          have HJ := Lib.hid hJ
                          have E6 := Lib.hid hE
                          clear hRd hJ hE
                          by_cases hlt : j < ss.length
                          · obtain ⟨ast, rfl, hab, hcs⟩ := HS.out (by omega)
                            have hbl : (ast.add j).block < wb.heap.size := by rw [add_block]; omega
                            have cw : wr.cell? (ast.add j) = some (.string ss[j]) := (World.cell?_of_block ((EB.out.trans E6.out).block _ (by rw [add_block]; exact hab))).trans (hcs j _ (by simp [hlt]))
                            have i0 : (0 : Int) ≤ (j : Int) := by omega
                            have i1 : (j : Int) < (ss.length : Int) := by omega
                            have DJ := Lib.hid (texts_drop ss j hlt (eLists ls) ▸ HJ.out : J (some []) (eText ss[j] ++ (eTexts (ss.drop (j + 1)) ++ eLists ls)) l e q)
                            have WX := HZ.out ss[j] (List.getElem_mem hlt)
                            generalize ss[j] = x at *
                            clear hcs
                            have WX : x.size < 65536 := by omega
                            obtain ⟨z, hz⟩ : ∃ z, tV l = z := ⟨_, rfl⟩
                            have HV := Lib.hid hz
                            clear hz
                            have hsz6 := E6.out.size
                            by_cases hzx : z = x
                            · subst hzx
                              have SJ := Lib.hid (DJ.out.step (item_text z WX) true (fun _ _ => rfl))
                              go_wp2
                              refine wp_region_sched (LB wb.heap.size) (LB_way _) [(0, true), (2, true), (3, true), (4, true), (5, true), (1, false), (6, true), (7, true), (8, true), (9, true), (10, true)] (by kernel_rfl) (by kernel_rfl) (fun _ _ _ _ _ h => h) ?_
                              repeat first | ((with_reducible refine sched_free ?_ ?_ ?_ ?_ (fun wk k1 => ?_) ?_); rotate_left 2; (rfl); (first | exact want_none rfl | exact want_some rfl rfl rfl rfl); (go_simp; first | exact OkX.val | (have cc := lb_cell k1 hsz6 cw hbl; go_simp; exact OkX.val)); simp only [Act.put, List.setIfInBounds_toArray, List.set_cons_zero, List.set_cons_succ]) | ((with_reducible refine sched_skip ?_ ?_ ?_ ?_); rotate_left; (rfl); (exact want_not rfl rfl rfl rfl rfl); simp only [Act.put, List.setIfInBounds_toArray, List.set_cons_zero, List.set_cons_succ])
                              ((with_reducible refine sched_step ?_ ?_ ?_ (fun wk k1 => ?_)); rotate_left; (rfl); (first | exact want_none rfl | exact want_some rfl rfl rfl rfl))
                              have X1 := Lib.hid ((Ext.drew _).trans k1)
                              clear k1
                              go_simp
                              refine (Text_S R l e _ (HR.out.ext X1.out)).mono ?_
                              rw [HV.out]
                              rintro r w6 ⟨rfl, hg, hR6⟩
                              refine ⟨lb_grown hg hR, ?_⟩
                              have HR6 := Lib.hid hR6
                              have E7 := Lib.hid ((E6.out.trans X1.out).trans' (grown_below hg (E6.out.trans X1.out).size (fun k hk => by injection hk with hk; omega)))
                              clear hg hR6
                              try simp only [Act.put, List.setIfInBounds_toArray, List.set_cons_zero, List.set_cons_succ]
                              repeat first | ((with_reducible refine sched_free ?_ ?_ ?_ ?_ (fun wk k1 => ?_) ?_); rotate_left 2; (rfl); (first | exact want_none rfl | exact want_some rfl rfl rfl rfl); (go_simp; first | exact OkX.val); simp only [Act.put, List.setIfInBounds_toArray, List.set_cons_zero, List.set_cons_succ]) | ((with_reducible refine sched_skip ?_ ?_ ?_ ?_); rotate_left; (rfl); (exact want_not rfl rfl rfl rfl rfl); simp only [Act.put, List.setIfInBounds_toArray, List.set_cons_zero, List.set_cons_succ])
                              refine sched_done (fun wk k1 => ?_)
                              have E8 := Lib.hid (E7.out.trans k1)
                              have HR8 := Lib.hid (HR6.out.ext k1)
                              clear k1
                              go_wp2
                              go_roundw
                              case rel => exact ⟨j + 1, _, _, _, by omega, by go_num, rfl, HR8.out, SJ.out, E8.out⟩
                              case measure => simp [intOf]; omega
                            · have hv : (z.toList == x.toList) = false := ba_ne hzx
                              have SJ := Lib.hid (DJ.out.step (item_text x WX) false (fun Y hY => absurd ((HV.out.symm.trans (hY ▸ text_val x WX Y))) hzx))
                              clear hzx
                              go_wp2
                              refine wp_region_sched (LB wb.heap.size) (LB_way _) [(0, true), (2, true), (3, true), (4, true), (5, true), (1, false), (6, true), (7, true), (8, true), (9, true), (10, true)] (by kernel_rfl) (by kernel_rfl) (fun _ _ _ _ _ h => h) ?_
                              repeat first | ((with_reducible refine sched_free ?_ ?_ ?_ ?_ (fun wk k1 => ?_) ?_); rotate_left 2; (rfl); (first | exact want_none rfl | exact want_some rfl rfl rfl rfl); (go_simp; first | exact OkX.val | (have cc := lb_cell k1 hsz6 cw hbl; go_simp; exact OkX.val)); simp only [Act.put, List.setIfInBounds_toArray, List.set_cons_zero, List.set_cons_succ]) | ((with_reducible refine sched_skip ?_ ?_ ?_ ?_); rotate_left; (rfl); (exact want_not rfl rfl rfl rfl rfl); simp only [Act.put, List.setIfInBounds_toArray, List.set_cons_zero, List.set_cons_succ])
                              ((with_reducible refine sched_step ?_ ?_ ?_ (fun wk k1 => ?_)); rotate_left; (rfl); (first | exact want_none rfl | exact want_some rfl rfl rfl rfl))
                              have X1 := Lib.hid ((Ext.drew _).trans k1)
                              clear k1
                              go_simp
                              refine (Text_S R l e _ (HR.out.ext X1.out)).mono ?_
                              rw [HV.out]
                              rintro r w6 ⟨rfl, hg, hR6⟩
                              refine ⟨lb_grown hg hR, ?_⟩
                              have HR6 := Lib.hid hR6
                              have E7 := Lib.hid ((E6.out.trans X1.out).trans' (grown_below hg (E6.out.trans X1.out).size (fun k hk => by injection hk with hk; omega)))
                              clear hg hR6
                              try simp only [Act.put, List.setIfInBounds_toArray, List.set_cons_zero, List.set_cons_succ]
                              repeat first | ((with_reducible refine sched_free ?_ ?_ ?_ ?_ (fun wk k1 => ?_) ?_); rotate_left 2; (rfl); (first | exact want_none rfl | exact want_some rfl rfl rfl rfl); (go_simp; first | exact OkX.val); simp only [Act.put, List.setIfInBounds_toArray, List.set_cons_zero, List.set_cons_succ]) | ((with_reducible refine sched_skip ?_ ?_ ?_ ?_); rotate_left; (rfl); (exact want_not rfl rfl rfl rfl rfl); simp only [Act.put, List.setIfInBounds_toArray, List.set_cons_zero, List.set_cons_succ])
                              refine sched_done (fun wk k1 => ?_)
                              have E8 := Lib.hid (E7.out.trans k1)
                              have HR8 := Lib.hid (HR6.out.ext k1)
                              clear k1
                              go_wp2
                              go_roundw
                              case rel => exact ⟨j + 1, _, _, _, by omega, by go_num, rfl, HR8.out, SJ.out, E8.out⟩
                              case measure => simp [intOf]; omega
                          · obtain rfl : j = ss.length := by omega
                            have HJ := Lib.hid (by have h := HJ.out; rw [List.drop_length] at h; exact h : J (some []) (eLists ls) l e q)
                            go_wp2
                            go_loopw [14, 17] (fun s14 i wr => ∃ (j : Nat) (q : Bool) (l : List UInt8) (e : Int), j ≤ rows.length ∧ i = .int .i64 j ∧ s14 = .bool q ∧ Rdr wr R l e ∧ J (some []) (eLists (ls.drop j)) l e q ∧ Ext wb wr) (fun _ i _ => rows.length - (intOf i).toNat)
                            case atStart => exact ⟨0, q, l, e, Nat.zero_le _, rfl, rfl, HR.out, HJ.out, E6.out⟩
                            case round =>
                              obtain ⟨j, q, l, e, hj, rfl, rfl, hRd, hJ, hE⟩ := hrel
                              have HR := Lib.hid hRd
                              have HJ := Lib.hid hJ
                              have E6 := Lib.hid hE
                              clear hRd hJ hE
                              by_cases hlt : j < rows.length
                              · obtain ⟨al, rfl, hab, hcs⟩ := HL.out (by omega)
                                have hlt' : j < ls.length := by rw [HLs.out]; exact hlt
                                have hbl : (al.add j).block < wb.heap.size := by rw [add_block]; omega
                                have cw : wr.cell? (al.add j) = some rows[j] := (World.cell?_of_block ((EB.out.trans E6.out).block _ (by rw [add_block]; exact hab))).trans (hcs j _ (by simp [hlt]))
                                have i0 : (0 : Int) ≤ (j : Int) := by omega
                                have i1 : (j : Int) < (rows.length : Int) := by omega
                                have DJ := Lib.hid (lists_drop ls j hlt' ▸ HJ.out : J (some []) (eList ls[j] ++ eLists (ls.drop (j + 1))) l e q)
                                have WX := HZ3.out ls[j] (List.getElem_mem hlt')
                                have WF := Lib.hid (HRow.out j hlt hlt').2
                                have RR := Lib.hid (HRow.out j hlt hlt').1
                                generalize ls[j] = x at *
                                generalize rows[j] = u at *
                                clear hcs
                                have WX : x.length < 65536 := by omega
                                have hsz6 := E6.out.size
                                go_wp2
                                refine wp_region_sched (LB wb.heap.size) (LB_way _) [(0, true), (2, true), (3, true), (4, true), (5, true), (1, false), (6, false), (7, true), (8, true), (9, true), (10, true)] (by kernel_rfl) (by kernel_rfl) (fun _ _ _ _ _ h => h) ?_
                                repeat first | ((with_reducible refine sched_free ?_ ?_ ?_ ?_ (fun wk k1 => ?_) ?_); rotate_left 2; (rfl); (first | exact want_none rfl | exact want_some rfl rfl rfl rfl); (go_simp; first | exact OkX.val | (have cc := lb_cell k1 hsz6 cw hbl; go_simp; exact OkX.val)); simp only [Act.put, List.setIfInBounds_toArray, List.set_cons_zero, List.set_cons_succ]) | ((with_reducible refine sched_skip ?_ ?_ ?_ ?_); rotate_left; (rfl); (exact want_not rfl rfl rfl rfl rfl); simp only [Act.put, List.setIfInBounds_toArray, List.set_cons_zero, List.set_cons_succ])
                                ((with_reducible refine sched_step ?_ ?_ ?_ (fun wk k1 => ?_)); rotate_left; (rfl); (first | exact want_none rfl | exact want_some rfl rfl rfl rfl))
                                have X1 := Lib.hid ((Ext.drew _).trans k1)
                                clear k1
                                go_simp
                                refine (Ints_S R l e _ (HR.out.ext X1.out)).mono ?_
                                rintro r w6 ⟨v6, rfl, hv6, hg, hR6, _⟩
                                refine ⟨lb_grown hg hR, ?_⟩
                                have HR6 := Lib.hid hR6
                                have HV6 := Lib.hid hv6
                                have E7 := Lib.hid ((E6.out.trans X1.out).trans' (grown_below hg (E6.out.trans X1.out).size (fun k hk => by injection hk with hk; omega)))
                                clear hg hR6 hv6
                                try simp only [Act.put, List.setIfInBounds_toArray, List.set_cons_zero, List.set_cons_succ]
                                ((with_reducible refine sched_step ?_ ?_ ?_ (fun wk k1 => ?_)); rotate_left; (rfl); (first | exact want_none rfl | exact want_some rfl rfl rfl rfl))
                                have X2 := Lib.hid k1
                                clear k1
                                go_simp
                                refine (ints_told _ _ _ x _ (HV6.out.ext X2.out) (RR.out.ext ((EB.out.trans E7.out).trans X2.out))).mono ?_
                                rintro r w7 ⟨qq, rfl, hqq, hx7⟩
                                refine ⟨(LB_way _).ext hx7, ?_⟩
                                have HR8 := Lib.hid (HR6.out.ext (X2.out.trans hx7))
                                have E8 := Lib.hid (E7.out.trans (X2.out.trans hx7))
                                have SJ := Lib.hid (DJ.out.step (item_list x WX) qq (fun Y hY => hqq (hY ▸ list_val x WX WF.out Y)))
                                clear hx7 hqq
                                cases qq
                                · skip
                                  try simp only [Act.put, List.setIfInBounds_toArray, List.set_cons_zero, List.set_cons_succ]
                                  repeat first | ((with_reducible refine sched_free ?_ ?_ ?_ ?_ (fun wk k1 => ?_) ?_); rotate_left 2; (rfl); (first | exact want_none rfl | exact want_some rfl rfl rfl rfl); (go_simp; first | exact OkX.val); simp only [Act.put, List.setIfInBounds_toArray, List.set_cons_zero, List.set_cons_succ]) | ((with_reducible refine sched_skip ?_ ?_ ?_ ?_); rotate_left; (rfl); (exact want_not rfl rfl rfl rfl rfl); simp only [Act.put, List.setIfInBounds_toArray, List.set_cons_zero, List.set_cons_succ])
                                  refine sched_done (fun wk k1 => ?_)
                                  have E9 := Lib.hid (E8.out.trans k1)
                                  have HR9 := Lib.hid (HR8.out.ext k1)
                                  clear k1
                                  go_wp2
                                  go_roundw
                                  case rel => exact ⟨j + 1, _, _, _, by omega, by go_num, rfl, HR9.out, SJ.out, E9.out⟩
                                  case measure => simp [intOf]; omega
                                
                                · skip
                                  try simp only [Act.put, List.setIfInBounds_toArray, List.set_cons_zero, List.set_cons_succ]
                                  repeat first | ((with_reducible refine sched_free ?_ ?_ ?_ ?_ (fun wk k1 => ?_) ?_); rotate_left 2; (rfl); (first | exact want_none rfl | exact want_some rfl rfl rfl rfl); (go_simp; first | exact OkX.val); simp only [Act.put, List.setIfInBounds_toArray, List.set_cons_zero, List.set_cons_succ]) | ((with_reducible refine sched_skip ?_ ?_ ?_ ?_); rotate_left; (rfl); (exact want_not rfl rfl rfl rfl rfl); simp only [Act.put, List.setIfInBounds_toArray, List.set_cons_zero, List.set_cons_succ])
                                  refine sched_done (fun wk k1 => ?_)
                                  have E9 := Lib.hid (E8.out.trans k1)
                                  have HR9 := Lib.hid (HR8.out.ext k1)
                                  clear k1
                                  go_wp2
                                  go_roundw
                                  case rel => exact ⟨j + 1, _, _, _, by omega, by go_num, rfl, HR9.out, SJ.out, E9.out⟩
                                  case measure => simp [intOf]; omega
                              · obtain rfl : j = rows.length := by omega
                                have HJ := Lib.hid (by have h := HJ.out; rw [List.drop_of_length_le (by rw [HLs.out]; exact Nat.le_refl _)] at h; exact h : J (some []) [] l e q)
                                go_wp2_with fail
                                refine (End_any R l e _ HR.out).mono ?_
                                obtain ⟨ee, eq⟩ := HJ.out.end0
                                subst eq
                                rw [ee]
                                clear ee
                                rintro e' w' ⟨rfl, rfl⟩
                                go_wp2
                                go_roundw
                                case rel => exact ⟨0 + 1, by omega, by go_num, E6.out⟩
                                case measure => simp [intOf]; try omega
                  · skip
                    have hr0 := Lib.hid ((RB4.out.ext (E4.out.trans (ext_alloc wr (.cells #[] 5)))).src bvs_one Try.underlying26)
                    have ho0 := Lib.hid (World.ownsRow_made (w := wr) (base := wb.heap.size) (e := 5) (size := 1) #[] 0 E4.out.size (by simp [maxLen]) rfl)
                    have E40 := Lib.hid (E4.out.trans (ext_alloc wr (.cells #[] 5)))
                    have hsz4 := E40.out.size
                    go_wp2_with (at_builtin; refine wpList_app_src _ rfl (.tmp 89) (.tmp 90) 26 26 rfl wb.heap.size 5 i0' (.int .u8 0) 1 Try.underlying26 hi hz0 hz1 hz2 rfl _ 0 [] rfl ho0.out _ (bvs B).length (bvs B) rfl hr0.out ?c3 ?c4 ?c5 ?_)
                    case c3 => rw [bvs_length]; simp [maxLen]; omega
                    case c4 => rw [bvs_length]; omega
                    case c5 => exact hsz4
                    intro va w41 hown hgrow hat hfr
                    have hsz41 := hgrow.size
                    have hown1 := Lib.hid (show w41.ownsRow wb.heap.size 5 1 va (bvs B).length (bvs B) by simpa using hown)
                    have E41 := Lib.hid (E40.out.trans' (grown_below hgrow hsz4 (fun k hk => by simp [Value.ownBlock] at hk; have := E4.out.size; omega)))
                    clear hown hgrow hat hfr hsz41
                    have hs41 := E41.out.size
                    go_wp2_with (at_builtin; refine wpList_app_src _ rfl (.tmp 91) (.tmp 92) 26 26 rfl wb.heap.size 5 i0' (.int .u8 0) 1 Try.underlying26 hi hz0 hz1 hz2 rfl _ (bvs B).length (bvs B) rfl (hown1.out.alloc _) _ 1 _ rfl ((Rd.one _ _ _ _ _ rfl rfl).src ?d1 Try.underlying26) ?d3 ?d4 ?d5 ?_)
                    case d1 => intro u hu; simp at hu; subst hu; rfl
                    case d3 => rw [bvs_length]; simp [maxLen]; omega
                    case d4 => rw [bvs_length]; simp; omega
                    case d5 => simp; omega
                    intro vb w42 hown hgrow hat hfr
                    have e7 : bvs B ++ [Value.int .u8 7] = bvs (B ++ [7]) := by rw [bvs_append]; rfl
                    rw [e7] at hown
                    obtain ⟨X, hX⟩ : ∃ X, X = B ++ [7] := ⟨_, rfl⟩
                    rw [← hX] at hown
                    have RX := Lib.hid (Rd.of_own hown)
                    have E5 := Lib.hid ((E41.out.trans (ext_alloc w41 _)).trans' (grown_below hgrow (by simp; omega) (own_ge hown1.out (Nat.le_refl _))))
                    have HJ := Lib.hid (show J (some [7]) B X 0 true from hX ▸ J.start B [7])
                    have hXl : X.length ≤ 140737488355328 := by rw [hX]; simp; omega
                    obtain ⟨Ax, nx, cx, rfl⟩ := Rd.shape RX.out
                    clear hX e7 hown hgrow hat hfr
                    go_wp2_with fail
                    refine (New_any _ X _ RX.out hXl).mono ?_
                    rintro e w5 ⟨R, rfl, hx5, hR5, hRw5⟩
                    have hR : wb.heap.size ≤ R := Nat.le_trans E5.out.size hRw5
                    have hbs := EB.out.size
                    have HR := Lib.hid hR5
                    have E6 := Lib.hid (E5.out.trans hx5)
                    have HJ := Lib.hid (HBe.out ▸ HJ.out : J (some [7]) (eNums ns ++ (eTexts ss ++ eLists ls)) X 0 true)
                    clear hx5 hR5 hRw5
                    go_wp2
                    go_loopw [14, 15] (fun s14 i wr => ∃ (j : Nat) (q : Bool) (l : List UInt8) (e : Int), j ≤ ns.length ∧ i = .int .i64 j ∧ s14 = .bool q ∧ Rdr wr R l e ∧ J (some [7]) (eNums (ns.drop j) ++ (eTexts ss ++ eLists ls)) l e q ∧ Ext wb wr) (fun _ i _ => ns.length - (intOf i).toNat)
                    case atStart => exact ⟨0, true, X, 0, Nat.zero_le _, rfl, rfl, HR.out, HJ.out, E6.out⟩
                    case round =>
                      obtain ⟨j, q, l, e, hj, rfl, rfl, hRd, hJ, hE⟩ := hrel
                      have HR := Lib.hid hRd
                      have HJ := Lib.hid hJ
                      have E6 := Lib.hid hE
                      clear hRd hJ hE
                      by_cases hlt : j < ns.length
                      · obtain ⟨an, rfl, hab, hcs⟩ := HN.out (by omega)
                        have hbl : (an.add j).block < wb.heap.size := by rw [add_block]; omega
                        have cw : wr.cell? (an.add j) = some (.int .i64 ns[j]) := (World.cell?_of_block ((EB.out.trans E6.out).block _ (by rw [add_block]; exact hab))).trans (hcs j _ (by simp [hlt]))
                        have i0 : (0 : Int) ≤ (j : Int) := by omega
                        have i1 : (j : Int) < (ns.length : Int) := by omega
                        have DJ := Lib.hid (nums_drop ns j hlt (eTexts ss ++ eLists ls) ▸ HJ.out : J (some [7]) (eInt ns[j] ++ (eNums (ns.drop (j + 1)) ++ (eTexts ss ++ eLists ls))) l e q)
                        have WX := Lib.hid (HW0.out ns[j] (List.getElem_mem hlt))
                        generalize ns[j] = x at *
                        clear hcs
                        obtain ⟨z, hz⟩ : ∃ z, iV l = z := ⟨_, rfl⟩
                        have HZ := Lib.hid hz
                        clear hz
                        have hsz6 := E6.out.size
                        by_cases hzx : z = x
                        · subst hzx
                          have SJ := Lib.hid (DJ.out.step (item_int z) true (fun _ _ => rfl))
                          go_wp2
                          refine wp_region_sched (LB wb.heap.size) (LB_way _) [(0, true), (2, true), (3, true), (4, true), (5, true), (1, false), (6, true), (7, true), (8, true), (9, true), (10, true)] (by kernel_rfl) (by kernel_rfl) (fun _ _ _ _ _ h => h) ?_
                          repeat first | ((with_reducible refine sched_free ?_ ?_ ?_ ?_ (fun wk k1 => ?_) ?_); rotate_left 2; (rfl); (first | exact want_none rfl | exact want_some rfl rfl rfl rfl); (go_simp; first | exact OkX.val | (have cc := lb_cell k1 hsz6 cw hbl; go_simp; exact OkX.val)); simp only [Act.put, List.setIfInBounds_toArray, List.set_cons_zero, List.set_cons_succ]) | ((with_reducible refine sched_skip ?_ ?_ ?_ ?_); rotate_left; (rfl); (exact want_not rfl rfl rfl rfl rfl); simp only [Act.put, List.setIfInBounds_toArray, List.set_cons_zero, List.set_cons_succ])
                          ((with_reducible refine sched_step ?_ ?_ ?_ (fun wk k1 => ?_)); rotate_left; (rfl); (first | exact want_none rfl | exact want_some rfl rfl rfl rfl))
                          have X1 := Lib.hid ((Ext.drew _).trans k1)
                          clear k1
                          go_simp
                          refine (Int_S R l e _ (HR.out.ext X1.out)).mono ?_
                          rw [HZ.out]
                          rintro r w6 ⟨rfl, hg, hR6⟩
                          refine ⟨lb_grown hg hR, ?_⟩
                          have HR6 := Lib.hid hR6
                          have E7 := Lib.hid ((E6.out.trans X1.out).trans' (grown_below hg (E6.out.trans X1.out).size (fun k hk => by injection hk with hk; omega)))
                          clear hg hR6
                          try simp only [Act.put, List.setIfInBounds_toArray, List.set_cons_zero, List.set_cons_succ]
                          repeat first | ((with_reducible refine sched_free ?_ ?_ ?_ ?_ (fun wk k1 => ?_) ?_); rotate_left 2; (rfl); (first | exact want_none rfl | exact want_some rfl rfl rfl rfl); (go_simp; first | exact OkX.val); simp only [Act.put, List.setIfInBounds_toArray, List.set_cons_zero, List.set_cons_succ]) | ((with_reducible refine sched_skip ?_ ?_ ?_ ?_); rotate_left; (rfl); (exact want_not rfl rfl rfl rfl rfl); simp only [Act.put, List.setIfInBounds_toArray, List.set_cons_zero, List.set_cons_succ])
                          refine sched_done (fun wk k1 => ?_)
                          have E8 := Lib.hid (E7.out.trans k1)
                          have HR8 := Lib.hid (HR6.out.ext k1)
                          clear k1
                          go_wp2
                          go_roundw
                          case rel => exact ⟨j + 1, _, _, _, by omega, by go_num, rfl, HR8.out, SJ.out, E8.out⟩
                          case measure => simp [intOf]; omega
                        · have hv : (z == x) = false := by simpa using hzx
                          have SJ := Lib.hid (DJ.out.step (item_int x) false (fun Y hY => absurd ((HZ.out.symm.trans (hY ▸ int_val x WX.out Y))) hzx))
                          clear hzx
                          go_wp2
                          refine wp_region_sched (LB wb.heap.size) (LB_way _) [(0, true), (2, true), (3, true), (4, true), (5, true), (1, false), (6, true), (7, true), (8, true), (9, true), (10, true)] (by kernel_rfl) (by kernel_rfl) (fun _ _ _ _ _ h => h) ?_
                          repeat first | ((with_reducible refine sched_free ?_ ?_ ?_ ?_ (fun wk k1 => ?_) ?_); rotate_left 2; (rfl); (first | exact want_none rfl | exact want_some rfl rfl rfl rfl); (go_simp; first | exact OkX.val | (have cc := lb_cell k1 hsz6 cw hbl; go_simp; exact OkX.val)); simp only [Act.put, List.setIfInBounds_toArray, List.set_cons_zero, List.set_cons_succ]) | ((with_reducible refine sched_skip ?_ ?_ ?_ ?_); rotate_left; (rfl); (exact want_not rfl rfl rfl rfl rfl); simp only [Act.put, List.setIfInBounds_toArray, List.set_cons_zero, List.set_cons_succ])
                          ((with_reducible refine sched_step ?_ ?_ ?_ (fun wk k1 => ?_)); rotate_left; (rfl); (first | exact want_none rfl | exact want_some rfl rfl rfl rfl))
                          have X1 := Lib.hid ((Ext.drew _).trans k1)
                          clear k1
                          go_simp
                          refine (Int_S R l e _ (HR.out.ext X1.out)).mono ?_
                          rw [HZ.out]
                          rintro r w6 ⟨rfl, hg, hR6⟩
                          refine ⟨lb_grown hg hR, ?_⟩
                          have HR6 := Lib.hid hR6
                          have E7 := Lib.hid ((E6.out.trans X1.out).trans' (grown_below hg (E6.out.trans X1.out).size (fun k hk => by injection hk with hk; omega)))
                          clear hg hR6
                          try simp only [Act.put, List.setIfInBounds_toArray, List.set_cons_zero, List.set_cons_succ]
                          repeat first | ((with_reducible refine sched_free ?_ ?_ ?_ ?_ (fun wk k1 => ?_) ?_); rotate_left 2; (rfl); (first | exact want_none rfl | exact want_some rfl rfl rfl rfl); (go_simp; first | exact OkX.val); simp only [Act.put, List.setIfInBounds_toArray, List.set_cons_zero, List.set_cons_succ]) | ((with_reducible refine sched_skip ?_ ?_ ?_ ?_); rotate_left; (rfl); (exact want_not rfl rfl rfl rfl rfl); simp only [Act.put, List.setIfInBounds_toArray, List.set_cons_zero, List.set_cons_succ])
                          refine sched_done (fun wk k1 => ?_)
                          have E8 := Lib.hid (E7.out.trans k1)
                          have HR8 := Lib.hid (HR6.out.ext k1)
                          clear k1
                          go_wp2
                          go_roundw
                          case rel => exact ⟨j + 1, _, _, _, by omega, by go_num, rfl, HR8.out, SJ.out, E8.out⟩
                          case measure => simp [intOf]; omega
                      · obtain rfl : j = ns.length := by omega
                        have HJ := Lib.hid (by have h := HJ.out; rw [List.drop_length] at h; exact h : J (some [7]) (eTexts ss ++ eLists ls) l e q)
                        go_wp2
                        go_loopw [14, 16] (fun s14 i wr => ∃ (j : Nat) (q : Bool) (l : List UInt8) (e : Int), j ≤ ss.length ∧ i = .int .i64 j ∧ s14 = .bool q ∧ Rdr wr R l e ∧ J (some [7]) (eTexts (ss.drop j) ++ eLists ls) l e q ∧ Ext wb wr) (fun _ i _ => ss.length - (intOf i).toNat)
                        case atStart => exact ⟨0, q, l, e, Nat.zero_le _, rfl, rfl, HR.out, HJ.out, E6.out⟩
                        case round =>
                          obtain ⟨j, q, l, e, hj, rfl, rfl, hRd, hJ, hE⟩ := hrel
                          have HR := Lib.hid hRd
                          have HJ := Lib.hid hJ
                          have E6 := Lib.hid hE
                          clear hRd hJ hE
                          by_cases hlt : j < ss.length
                          · obtain ⟨ast, rfl, hab, hcs⟩ := HS.out (by omega)
                            have hbl : (ast.add j).block < wb.heap.size := by rw [add_block]; omega
                            have cw : wr.cell? (ast.add j) = some (.string ss[j]) := (World.cell?_of_block ((EB.out.trans E6.out).block _ (by rw [add_block]; exact hab))).trans (hcs j _ (by simp [hlt]))
                            have i0 : (0 : Int) ≤ (j : Int) := by omega
                            have i1 : (j : Int) < (ss.length : Int) := by omega
                            have DJ := Lib.hid (texts_drop ss j hlt (eLists ls) ▸ HJ.out : J (some [7]) (eText ss[j] ++ (eTexts (ss.drop (j + 1)) ++ eLists ls)) l e q)
                            have WX := HZ.out ss[j] (List.getElem_mem hlt)
                            generalize ss[j] = x at *
                            clear hcs
                            have WX : x.size < 65536 := by omega
                            obtain ⟨z, hz⟩ : ∃ z, tV l = z := ⟨_, rfl⟩
                            have HV := Lib.hid hz
                            clear hz
                            have hsz6 := E6.out.size
                            by_cases hzx : z = x
                            · subst hzx
                              have SJ := Lib.hid (DJ.out.step (item_text z WX) true (fun _ _ => rfl))
                              go_wp2
                              refine wp_region_sched (LB wb.heap.size) (LB_way _) [(0, true), (2, true), (3, true), (4, true), (5, true), (1, false), (6, true), (7, true), (8, true), (9, true), (10, true)] (by kernel_rfl) (by kernel_rfl) (fun _ _ _ _ _ h => h) ?_
                              repeat first | ((with_reducible refine sched_free ?_ ?_ ?_ ?_ (fun wk k1 => ?_) ?_); rotate_left 2; (rfl); (first | exact want_none rfl | exact want_some rfl rfl rfl rfl); (go_simp; first | exact OkX.val | (have cc := lb_cell k1 hsz6 cw hbl; go_simp; exact OkX.val)); simp only [Act.put, List.setIfInBounds_toArray, List.set_cons_zero, List.set_cons_succ]) | ((with_reducible refine sched_skip ?_ ?_ ?_ ?_); rotate_left; (rfl); (exact want_not rfl rfl rfl rfl rfl); simp only [Act.put, List.setIfInBounds_toArray, List.set_cons_zero, List.set_cons_succ])
                              ((with_reducible refine sched_step ?_ ?_ ?_ (fun wk k1 => ?_)); rotate_left; (rfl); (first | exact want_none rfl | exact want_some rfl rfl rfl rfl))
                              have X1 := Lib.hid ((Ext.drew _).trans k1)
                              clear k1
                              go_simp
                              refine (Text_S R l e _ (HR.out.ext X1.out)).mono ?_
                              rw [HV.out]
                              rintro r w6 ⟨rfl, hg, hR6⟩
                              refine ⟨lb_grown hg hR, ?_⟩
                              have HR6 := Lib.hid hR6
                              have E7 := Lib.hid ((E6.out.trans X1.out).trans' (grown_below hg (E6.out.trans X1.out).size (fun k hk => by injection hk with hk; omega)))
                              clear hg hR6
                              try simp only [Act.put, List.setIfInBounds_toArray, List.set_cons_zero, List.set_cons_succ]
                              repeat first | ((with_reducible refine sched_free ?_ ?_ ?_ ?_ (fun wk k1 => ?_) ?_); rotate_left 2; (rfl); (first | exact want_none rfl | exact want_some rfl rfl rfl rfl); (go_simp; first | exact OkX.val); simp only [Act.put, List.setIfInBounds_toArray, List.set_cons_zero, List.set_cons_succ]) | ((with_reducible refine sched_skip ?_ ?_ ?_ ?_); rotate_left; (rfl); (exact want_not rfl rfl rfl rfl rfl); simp only [Act.put, List.setIfInBounds_toArray, List.set_cons_zero, List.set_cons_succ])
                              refine sched_done (fun wk k1 => ?_)
                              have E8 := Lib.hid (E7.out.trans k1)
                              have HR8 := Lib.hid (HR6.out.ext k1)
                              clear k1
                              go_wp2
                              go_roundw
                              case rel => exact ⟨j + 1, _, _, _, by omega, by go_num, rfl, HR8.out, SJ.out, E8.out⟩
                              case measure => simp [intOf]; omega
                            · have hv : (z.toList == x.toList) = false := ba_ne hzx
                              have SJ := Lib.hid (DJ.out.step (item_text x WX) false (fun Y hY => absurd ((HV.out.symm.trans (hY ▸ text_val x WX Y))) hzx))
                              clear hzx
                              go_wp2
                              refine wp_region_sched (LB wb.heap.size) (LB_way _) [(0, true), (2, true), (3, true), (4, true), (5, true), (1, false), (6, true), (7, true), (8, true), (9, true), (10, true)] (by kernel_rfl) (by kernel_rfl) (fun _ _ _ _ _ h => h) ?_
                              repeat first | ((with_reducible refine sched_free ?_ ?_ ?_ ?_ (fun wk k1 => ?_) ?_); rotate_left 2; (rfl); (first | exact want_none rfl | exact want_some rfl rfl rfl rfl); (go_simp; first | exact OkX.val | (have cc := lb_cell k1 hsz6 cw hbl; go_simp; exact OkX.val)); simp only [Act.put, List.setIfInBounds_toArray, List.set_cons_zero, List.set_cons_succ]) | ((with_reducible refine sched_skip ?_ ?_ ?_ ?_); rotate_left; (rfl); (exact want_not rfl rfl rfl rfl rfl); simp only [Act.put, List.setIfInBounds_toArray, List.set_cons_zero, List.set_cons_succ])
                              ((with_reducible refine sched_step ?_ ?_ ?_ (fun wk k1 => ?_)); rotate_left; (rfl); (first | exact want_none rfl | exact want_some rfl rfl rfl rfl))
                              have X1 := Lib.hid ((Ext.drew _).trans k1)
                              clear k1
                              go_simp
                              refine (Text_S R l e _ (HR.out.ext X1.out)).mono ?_
                              rw [HV.out]
                              rintro r w6 ⟨rfl, hg, hR6⟩
                              refine ⟨lb_grown hg hR, ?_⟩
                              have HR6 := Lib.hid hR6
                              have E7 := Lib.hid ((E6.out.trans X1.out).trans' (grown_below hg (E6.out.trans X1.out).size (fun k hk => by injection hk with hk; omega)))
                              clear hg hR6
                              try simp only [Act.put, List.setIfInBounds_toArray, List.set_cons_zero, List.set_cons_succ]
                              repeat first | ((with_reducible refine sched_free ?_ ?_ ?_ ?_ (fun wk k1 => ?_) ?_); rotate_left 2; (rfl); (first | exact want_none rfl | exact want_some rfl rfl rfl rfl); (go_simp; first | exact OkX.val); simp only [Act.put, List.setIfInBounds_toArray, List.set_cons_zero, List.set_cons_succ]) | ((with_reducible refine sched_skip ?_ ?_ ?_ ?_); rotate_left; (rfl); (exact want_not rfl rfl rfl rfl rfl); simp only [Act.put, List.setIfInBounds_toArray, List.set_cons_zero, List.set_cons_succ])
                              refine sched_done (fun wk k1 => ?_)
                              have E8 := Lib.hid (E7.out.trans k1)
                              have HR8 := Lib.hid (HR6.out.ext k1)
                              clear k1
                              go_wp2
                              go_roundw
                              case rel => exact ⟨j + 1, _, _, _, by omega, by go_num, rfl, HR8.out, SJ.out, E8.out⟩
                              case measure => simp [intOf]; omega
                          · obtain rfl : j = ss.length := by omega
                            have HJ := Lib.hid (by have h := HJ.out; rw [List.drop_length] at h; exact h : J (some [7]) (eLists ls) l e q)
                            go_wp2
                            go_loopw [14, 17] (fun s14 i wr => ∃ (j : Nat) (q : Bool) (l : List UInt8) (e : Int), j ≤ rows.length ∧ i = .int .i64 j ∧ s14 = .bool q ∧ Rdr wr R l e ∧ J (some [7]) (eLists (ls.drop j)) l e q ∧ Ext wb wr) (fun _ i _ => rows.length - (intOf i).toNat)
                            case atStart => exact ⟨0, q, l, e, Nat.zero_le _, rfl, rfl, HR.out, HJ.out, E6.out⟩
                            case round =>
                              obtain ⟨j, q, l, e, hj, rfl, rfl, hRd, hJ, hE⟩ := hrel
                              have HR := Lib.hid hRd
                              have HJ := Lib.hid hJ
                              have E6 := Lib.hid hE
                              clear hRd hJ hE
                              by_cases hlt : j < rows.length
                              · obtain ⟨al, rfl, hab, hcs⟩ := HL.out (by omega)
                                have hlt' : j < ls.length := by rw [HLs.out]; exact hlt
                                have hbl : (al.add j).block < wb.heap.size := by rw [add_block]; omega
                                have cw : wr.cell? (al.add j) = some rows[j] := (World.cell?_of_block ((EB.out.trans E6.out).block _ (by rw [add_block]; exact hab))).trans (hcs j _ (by simp [hlt]))
                                have i0 : (0 : Int) ≤ (j : Int) := by omega
                                have i1 : (j : Int) < (rows.length : Int) := by omega
                                have DJ := Lib.hid (lists_drop ls j hlt' ▸ HJ.out : J (some [7]) (eList ls[j] ++ eLists (ls.drop (j + 1))) l e q)
                                have WX := HZ3.out ls[j] (List.getElem_mem hlt')
                                have WF := Lib.hid (HRow.out j hlt hlt').2
                                have RR := Lib.hid (HRow.out j hlt hlt').1
                                generalize ls[j] = x at *
                                generalize rows[j] = u at *
                                clear hcs
                                have WX : x.length < 65536 := by omega
                                have hsz6 := E6.out.size
                                go_wp2
                                refine wp_region_sched (LB wb.heap.size) (LB_way _) [(0, true), (2, true), (3, true), (4, true), (5, true), (1, false), (6, false), (7, true), (8, true), (9, true), (10, true)] (by kernel_rfl) (by kernel_rfl) (fun _ _ _ _ _ h => h) ?_
                                repeat first | ((with_reducible refine sched_free ?_ ?_ ?_ ?_ (fun wk k1 => ?_) ?_); rotate_left 2; (rfl); (first | exact want_none rfl | exact want_some rfl rfl rfl rfl); (go_simp; first | exact OkX.val | (have cc := lb_cell k1 hsz6 cw hbl; go_simp; exact OkX.val)); simp only [Act.put, List.setIfInBounds_toArray, List.set_cons_zero, List.set_cons_succ]) | ((with_reducible refine sched_skip ?_ ?_ ?_ ?_); rotate_left; (rfl); (exact want_not rfl rfl rfl rfl rfl); simp only [Act.put, List.setIfInBounds_toArray, List.set_cons_zero, List.set_cons_succ])
                                ((with_reducible refine sched_step ?_ ?_ ?_ (fun wk k1 => ?_)); rotate_left; (rfl); (first | exact want_none rfl | exact want_some rfl rfl rfl rfl))
                                have X1 := Lib.hid ((Ext.drew _).trans k1)
                                clear k1
                                go_simp
                                refine (Ints_S R l e _ (HR.out.ext X1.out)).mono ?_
                                rintro r w6 ⟨v6, rfl, hv6, hg, hR6, _⟩
                                refine ⟨lb_grown hg hR, ?_⟩
                                have HR6 := Lib.hid hR6
                                have HV6 := Lib.hid hv6
                                have E7 := Lib.hid ((E6.out.trans X1.out).trans' (grown_below hg (E6.out.trans X1.out).size (fun k hk => by injection hk with hk; omega)))
                                clear hg hR6 hv6
                                try simp only [Act.put, List.setIfInBounds_toArray, List.set_cons_zero, List.set_cons_succ]
                                ((with_reducible refine sched_step ?_ ?_ ?_ (fun wk k1 => ?_)); rotate_left; (rfl); (first | exact want_none rfl | exact want_some rfl rfl rfl rfl))
                                have X2 := Lib.hid k1
                                clear k1
                                go_simp
                                refine (ints_told _ _ _ x _ (HV6.out.ext X2.out) (RR.out.ext ((EB.out.trans E7.out).trans X2.out))).mono ?_
                                rintro r w7 ⟨qq, rfl, hqq, hx7⟩
                                refine ⟨(LB_way _).ext hx7, ?_⟩
                                have HR8 := Lib.hid (HR6.out.ext (X2.out.trans hx7))
                                have E8 := Lib.hid (E7.out.trans (X2.out.trans hx7))
                                have SJ := Lib.hid (DJ.out.step (item_list x WX) qq (fun Y hY => hqq (hY ▸ list_val x WX WF.out Y)))
                                clear hx7 hqq
                                cases qq
                                · skip
                                  try simp only [Act.put, List.setIfInBounds_toArray, List.set_cons_zero, List.set_cons_succ]
                                  repeat first | ((with_reducible refine sched_free ?_ ?_ ?_ ?_ (fun wk k1 => ?_) ?_); rotate_left 2; (rfl); (first | exact want_none rfl | exact want_some rfl rfl rfl rfl); (go_simp; first | exact OkX.val); simp only [Act.put, List.setIfInBounds_toArray, List.set_cons_zero, List.set_cons_succ]) | ((with_reducible refine sched_skip ?_ ?_ ?_ ?_); rotate_left; (rfl); (exact want_not rfl rfl rfl rfl rfl); simp only [Act.put, List.setIfInBounds_toArray, List.set_cons_zero, List.set_cons_succ])
                                  refine sched_done (fun wk k1 => ?_)
                                  have E9 := Lib.hid (E8.out.trans k1)
                                  have HR9 := Lib.hid (HR8.out.ext k1)
                                  clear k1
                                  go_wp2
                                  go_roundw
                                  case rel => exact ⟨j + 1, _, _, _, by omega, by go_num, rfl, HR9.out, SJ.out, E9.out⟩
                                  case measure => simp [intOf]; omega
                                
                                · skip
                                  try simp only [Act.put, List.setIfInBounds_toArray, List.set_cons_zero, List.set_cons_succ]
                                  repeat first | ((with_reducible refine sched_free ?_ ?_ ?_ ?_ (fun wk k1 => ?_) ?_); rotate_left 2; (rfl); (first | exact want_none rfl | exact want_some rfl rfl rfl rfl); (go_simp; first | exact OkX.val); simp only [Act.put, List.setIfInBounds_toArray, List.set_cons_zero, List.set_cons_succ]) | ((with_reducible refine sched_skip ?_ ?_ ?_ ?_); rotate_left; (rfl); (exact want_not rfl rfl rfl rfl rfl); simp only [Act.put, List.setIfInBounds_toArray, List.set_cons_zero, List.set_cons_succ])
                                  refine sched_done (fun wk k1 => ?_)
                                  have E9 := Lib.hid (E8.out.trans k1)
                                  have HR9 := Lib.hid (HR8.out.ext k1)
                                  clear k1
                                  go_wp2
                                  go_roundw
                                  case rel => exact ⟨j + 1, _, _, _, by omega, by go_num, rfl, HR9.out, SJ.out, E9.out⟩
                                  case measure => simp [intOf]; omega
                              · obtain rfl : j = rows.length := by omega
                                have HJ := Lib.hid (by have h := HJ.out; rw [List.drop_of_length_le (by rw [HLs.out]; exact Nat.le_refl _)] at h; exact h : J (some [7]) [] l e q)
                                go_wp2_with fail
                                refine (End_any R l e _ HR.out).mono ?_
                                obtain ⟨ee, eq⟩ := HJ.out.end9
                                subst eq
                                rw [ee]
                                clear ee
                                rintro e' w' ⟨rfl, rfl⟩
                                go_wp2
                                go_roundw
                                case rel => exact ⟨1 + 1, by omega, by go_num, E6.out⟩
                                case measure => simp [intOf]; try omega
                  · by_cases hB0 : B = []
                    · skip
                      have hb0 : ¬ (0 : Int) < (B.length : Int) := by have : B.length = 0 := (by rw [hB0]; rfl); omega
                      clear hB0
                      have E5 := E4
                      obtain ⟨X, hX⟩ : ∃ X, X = B := ⟨_, rfl⟩
                      have RX := Lib.hid (show Rd wr (.slice Ab B.length cb) (bvs X) from by rw [hX]; exact RB4.out.ext E4.out)
                      have HJ := Lib.hid (show J (some []) B X 0 true from hX ▸ J.start0 B)
                      have hXl : X.length ≤ 140737488355328 := by rw [hX]; omega
                      clear hX
                      go_wp2_with fail
                      refine (New_any _ X _ RX.out hXl).mono ?_
                      rintro e w5 ⟨R, rfl, hx5, hR5, hRw5⟩
                      have hR : wb.heap.size ≤ R := Nat.le_trans E5.out.size hRw5
                      have hbs := EB.out.size
                      have HR := Lib.hid hR5
                      have E6 := Lib.hid (E5.out.trans hx5)
                      have HJ := Lib.hid (HBe.out ▸ HJ.out : J (some []) (eNums ns ++ (eTexts ss ++ eLists ls)) X 0 true)
                      clear hx5 hR5 hRw5
                      go_wp2
                      go_loopw [14, 15] (fun s14 i wr => ∃ (j : Nat) (q : Bool) (l : List UInt8) (e : Int), j ≤ ns.length ∧ i = .int .i64 j ∧ s14 = .bool q ∧ Rdr wr R l e ∧ J (some []) (eNums (ns.drop j) ++ (eTexts ss ++ eLists ls)) l e q ∧ Ext wb wr) (fun _ i _ => ns.length - (intOf i).toNat)
                      case atStart => exact ⟨0, true, X, 0, Nat.zero_le _, rfl, rfl, HR.out, HJ.out, E6.out⟩
                      case round =>
                        obtain ⟨j, q, l, e, hj, rfl, rfl, hRd, hJ, hE⟩ := hrel
                        have HR := Lib.hid hRd
                        have HJ := Lib.hid hJ
                        have E6 := Lib.hid hE
                        clear hRd hJ hE
                        by_cases hlt : j < ns.length
                        · obtain ⟨an, rfl, hab, hcs⟩ := HN.out (by omega)
                          have hbl : (an.add j).block < wb.heap.size := by rw [add_block]; omega
                          have cw : wr.cell? (an.add j) = some (.int .i64 ns[j]) := (World.cell?_of_block ((EB.out.trans E6.out).block _ (by rw [add_block]; exact hab))).trans (hcs j _ (by simp [hlt]))
                          have i0 : (0 : Int) ≤ (j : Int) := by omega
                          have i1 : (j : Int) < (ns.length : Int) := by omega
                          have DJ := Lib.hid (nums_drop ns j hlt (eTexts ss ++ eLists ls) ▸ HJ.out : J (some []) (eInt ns[j] ++ (eNums (ns.drop (j + 1)) ++ (eTexts ss ++ eLists ls))) l e q)
                          have WX := Lib.hid (HW0.out ns[j] (List.getElem_mem hlt))
                          generalize ns[j] = x at *
                          clear hcs
                          obtain ⟨z, hz⟩ : ∃ z, iV l = z := ⟨_, rfl⟩
                          have HZ := Lib.hid hz
                          clear hz
                          have hsz6 := E6.out.size
                          by_cases hzx : z = x
                          · subst hzx
                            have SJ := Lib.hid (DJ.out.step (item_int z) true (fun _ _ => rfl))
                            go_wp2
                            refine wp_region_sched (LB wb.heap.size) (LB_way _) [(0, true), (2, true), (3, true), (4, true), (5, true), (1, false), (6, true), (7, true), (8, true), (9, true), (10, true)] (by kernel_rfl) (by kernel_rfl) (fun _ _ _ _ _ h => h) ?_
                            repeat first | ((with_reducible refine sched_free ?_ ?_ ?_ ?_ (fun wk k1 => ?_) ?_); rotate_left 2; (rfl); (first | exact want_none rfl | exact want_some rfl rfl rfl rfl); (go_simp; first | exact OkX.val | (have cc := lb_cell k1 hsz6 cw hbl; go_simp; exact OkX.val)); simp only [Act.put, List.setIfInBounds_toArray, List.set_cons_zero, List.set_cons_succ]) | ((with_reducible refine sched_skip ?_ ?_ ?_ ?_); rotate_left; (rfl); (exact want_not rfl rfl rfl rfl rfl); simp only [Act.put, List.setIfInBounds_toArray, List.set_cons_zero, List.set_cons_succ])
                            ((with_reducible refine sched_step ?_ ?_ ?_ (fun wk k1 => ?_)); rotate_left; (rfl); (first | exact want_none rfl | exact want_some rfl rfl rfl rfl))
                            have X1 := Lib.hid ((Ext.drew _).trans k1)
                            clear k1
                            go_simp
                            refine (Int_S R l e _ (HR.out.ext X1.out)).mono ?_
                            rw [HZ.out]
                            rintro r w6 ⟨rfl, hg, hR6⟩
                            refine ⟨lb_grown hg hR, ?_⟩
                            have HR6 := Lib.hid hR6
                            have E7 := Lib.hid ((E6.out.trans X1.out).trans' (grown_below hg (E6.out.trans X1.out).size (fun k hk => by injection hk with hk; omega)))
                            clear hg hR6
                            try simp only [Act.put, List.setIfInBounds_toArray, List.set_cons_zero, List.set_cons_succ]
                            repeat first | ((with_reducible refine sched_free ?_ ?_ ?_ ?_ (fun wk k1 => ?_) ?_); rotate_left 2; (rfl); (first | exact want_none rfl | exact want_some rfl rfl rfl rfl); (go_simp; first | exact OkX.val); simp only [Act.put, List.setIfInBounds_toArray, List.set_cons_zero, List.set_cons_succ]) | ((with_reducible refine sched_skip ?_ ?_ ?_ ?_); rotate_left; (rfl); (exact want_not rfl rfl rfl rfl rfl); simp only [Act.put, List.setIfInBounds_toArray, List.set_cons_zero, List.set_cons_succ])
                            refine sched_done (fun wk k1 => ?_)
                            have E8 := Lib.hid (E7.out.trans k1)
                            have HR8 := Lib.hid (HR6.out.ext k1)
                            clear k1
                            go_wp2
                            go_roundw
                            case rel => exact ⟨j + 1, _, _, _, by omega, by go_num, rfl, HR8.out, SJ.out, E8.out⟩
                            case measure => simp [intOf]; omega
                          · have hv : (z == x) = false := by simpa using hzx
                            have SJ := Lib.hid (DJ.out.step (item_int x) false (fun Y hY => absurd ((HZ.out.symm.trans (hY ▸ int_val x WX.out Y))) hzx))
                            clear hzx
                            go_wp2
                            refine wp_region_sched (LB wb.heap.size) (LB_way _) [(0, true), (2, true), (3, true), (4, true), (5, true), (1, false), (6, true), (7, true), (8, true), (9, true), (10, true)] (by kernel_rfl) (by kernel_rfl) (fun _ _ _ _ _ h => h) ?_
                            repeat first | ((with_reducible refine sched_free ?_ ?_ ?_ ?_ (fun wk k1 => ?_) ?_); rotate_left 2; (rfl); (first | exact want_none rfl | exact want_some rfl rfl rfl rfl); (go_simp; first | exact OkX.val | (have cc := lb_cell k1 hsz6 cw hbl; go_simp; exact OkX.val)); simp only [Act.put, List.setIfInBounds_toArray, List.set_cons_zero, List.set_cons_succ]) | ((with_reducible refine sched_skip ?_ ?_ ?_ ?_); rotate_left; (rfl); (exact want_not rfl rfl rfl rfl rfl); simp only [Act.put, List.setIfInBounds_toArray, List.set_cons_zero, List.set_cons_succ])
                            ((with_reducible refine sched_step ?_ ?_ ?_ (fun wk k1 => ?_)); rotate_left; (rfl); (first | exact want_none rfl | exact want_some rfl rfl rfl rfl))
                            have X1 := Lib.hid ((Ext.drew _).trans k1)
                            clear k1
                            go_simp
                            refine (Int_S R l e _ (HR.out.ext X1.out)).mono ?_
                            rw [HZ.out]
                            rintro r w6 ⟨rfl, hg, hR6⟩
                            refine ⟨lb_grown hg hR, ?_⟩
                            have HR6 := Lib.hid hR6
                            have E7 := Lib.hid ((E6.out.trans X1.out).trans' (grown_below hg (E6.out.trans X1.out).size (fun k hk => by injection hk with hk; omega)))
                            clear hg hR6
                            try simp only [Act.put, List.setIfInBounds_toArray, List.set_cons_zero, List.set_cons_succ]
                            repeat first | ((with_reducible refine sched_free ?_ ?_ ?_ ?_ (fun wk k1 => ?_) ?_); rotate_left 2; (rfl); (first | exact want_none rfl | exact want_some rfl rfl rfl rfl); (go_simp; first | exact OkX.val); simp only [Act.put, List.setIfInBounds_toArray, List.set_cons_zero, List.set_cons_succ]) | ((with_reducible refine sched_skip ?_ ?_ ?_ ?_); rotate_left; (rfl); (exact want_not rfl rfl rfl rfl rfl); simp only [Act.put, List.setIfInBounds_toArray, List.set_cons_zero, List.set_cons_succ])
                            refine sched_done (fun wk k1 => ?_)
                            have E8 := Lib.hid (E7.out.trans k1)
                            have HR8 := Lib.hid (HR6.out.ext k1)
                            clear k1
                            go_wp2
                            go_roundw
                            case rel => exact ⟨j + 1, _, _, _, by omega, by go_num, rfl, HR8.out, SJ.out, E8.out⟩
                            case measure => simp [intOf]; omega
                        · obtain rfl : j = ns.length := by omega
                          have HJ := Lib.hid (by have h := HJ.out; rw [List.drop_length] at h; exact h : J (some []) (eTexts ss ++ eLists ls) l e q)
                          go_wp2
                          go_loopw [14, 16] (fun s14 i wr => ∃ (j : Nat) (q : Bool) (l : List UInt8) (e : Int), j ≤ ss.length ∧ i = .int .i64 j ∧ s14 = .bool q ∧ Rdr wr R l e ∧ J (some []) (eTexts (ss.drop j) ++ eLists ls) l e q ∧ Ext wb wr) (fun _ i _ => ss.length - (intOf i).toNat)
                          case atStart => exact ⟨0, q, l, e, Nat.zero_le _, rfl, rfl, HR.out, HJ.out, E6.out⟩
                          case round =>
                            obtain ⟨j, q, l, e, hj, rfl, rfl, hRd, hJ, hE⟩ := hrel
                            have HR := Lib.hid hRd
                            have HJ := Lib.hid hJ
                            have E6 := Lib.hid hE
                            clear hRd hJ hE
                            by_cases hlt : j < ss.length
                            · obtain ⟨ast, rfl, hab, hcs⟩ := HS.out (by omega)
                              have hbl : (ast.add j).block < wb.heap.size := by rw [add_block]; omega
                              have cw : wr.cell? (ast.add j) = some (.string ss[j]) := (World.cell?_of_block ((EB.out.trans E6.out).block _ (by rw [add_block]; exact hab))).trans (hcs j _ (by simp [hlt]))
                              have i0 : (0 : Int) ≤ (j : Int) := by omega
                              have i1 : (j : Int) < (ss.length : Int) := by omega
                              have DJ := Lib.hid (texts_drop ss j hlt (eLists ls) ▸ HJ.out : J (some []) (eText ss[j] ++ (eTexts (ss.drop (j + 1)) ++ eLists ls)) l e q)
                              have WX := HZ.out ss[j] (List.getElem_mem hlt)
                              generalize ss[j] = x at *
                              clear hcs
                              have WX : x.size < 65536 := by omega
                              obtain ⟨z, hz⟩ : ∃ z, tV l = z := ⟨_, rfl⟩
                              have HV := Lib.hid hz
                              clear hz
                              have hsz6 := E6.out.size
                              by_cases hzx : z = x
                              · subst hzx
                                have SJ := Lib.hid (DJ.out.step (item_text z WX) true (fun _ _ => rfl))
                                go_wp2
                                refine wp_region_sched (LB wb.heap.size) (LB_way _) [(0, true), (2, true), (3, true), (4, true), (5, true), (1, false), (6, true), (7, true), (8, true), (9, true), (10, true)] (by kernel_rfl) (by kernel_rfl) (fun _ _ _ _ _ h => h) ?_
                                repeat first | ((with_reducible refine sched_free ?_ ?_ ?_ ?_ (fun wk k1 => ?_) ?_); rotate_left 2; (rfl); (first | exact want_none rfl | exact want_some rfl rfl rfl rfl); (go_simp; first | exact OkX.val | (have cc := lb_cell k1 hsz6 cw hbl; go_simp; exact OkX.val)); simp only [Act.put, List.setIfInBounds_toArray, List.set_cons_zero, List.set_cons_succ]) | ((with_reducible refine sched_skip ?_ ?_ ?_ ?_); rotate_left; (rfl); (exact want_not rfl rfl rfl rfl rfl); simp only [Act.put, List.setIfInBounds_toArray, List.set_cons_zero, List.set_cons_succ])
                                ((with_reducible refine sched_step ?_ ?_ ?_ (fun wk k1 => ?_)); rotate_left; (rfl); (first | exact want_none rfl | exact want_some rfl rfl rfl rfl))
                                have X1 := Lib.hid ((Ext.drew _).trans k1)
                                clear k1
                                go_simp
                                refine (Text_S R l e _ (HR.out.ext X1.out)).mono ?_
                                rw [HV.out]
                                rintro r w6 ⟨rfl, hg, hR6⟩
                                refine ⟨lb_grown hg hR, ?_⟩
                                have HR6 := Lib.hid hR6
                                have E7 := Lib.hid ((E6.out.trans X1.out).trans' (grown_below hg (E6.out.trans X1.out).size (fun k hk => by injection hk with hk; omega)))
                                clear hg hR6
                                try simp only [Act.put, List.setIfInBounds_toArray, List.set_cons_zero, List.set_cons_succ]
                                repeat first | ((with_reducible refine sched_free ?_ ?_ ?_ ?_ (fun wk k1 => ?_) ?_); rotate_left 2; (rfl); (first | exact want_none rfl | exact want_some rfl rfl rfl rfl); (go_simp; first | exact OkX.val); simp only [Act.put, List.setIfInBounds_toArray, List.set_cons_zero, List.set_cons_succ]) | ((with_reducible refine sched_skip ?_ ?_ ?_ ?_); rotate_left; (rfl); (exact want_not rfl rfl rfl rfl rfl); simp only [Act.put, List.setIfInBounds_toArray, List.set_cons_zero, List.set_cons_succ])
                                refine sched_done (fun wk k1 => ?_)
                                have E8 := Lib.hid (E7.out.trans k1)
                                have HR8 := Lib.hid (HR6.out.ext k1)
                                clear k1
                                go_wp2
                                go_roundw
                                case rel => exact ⟨j + 1, _, _, _, by omega, by go_num, rfl, HR8.out, SJ.out, E8.out⟩
                                case measure => simp [intOf]; omega
                              · have hv : (z.toList == x.toList) = false := ba_ne hzx
                                have SJ := Lib.hid (DJ.out.step (item_text x WX) false (fun Y hY => absurd ((HV.out.symm.trans (hY ▸ text_val x WX Y))) hzx))
                                clear hzx
                                go_wp2
                                refine wp_region_sched (LB wb.heap.size) (LB_way _) [(0, true), (2, true), (3, true), (4, true), (5, true), (1, false), (6, true), (7, true), (8, true), (9, true), (10, true)] (by kernel_rfl) (by kernel_rfl) (fun _ _ _ _ _ h => h) ?_
                                repeat first | ((with_reducible refine sched_free ?_ ?_ ?_ ?_ (fun wk k1 => ?_) ?_); rotate_left 2; (rfl); (first | exact want_none rfl | exact want_some rfl rfl rfl rfl); (go_simp; first | exact OkX.val | (have cc := lb_cell k1 hsz6 cw hbl; go_simp; exact OkX.val)); simp only [Act.put, List.setIfInBounds_toArray, List.set_cons_zero, List.set_cons_succ]) | ((with_reducible refine sched_skip ?_ ?_ ?_ ?_); rotate_left; (rfl); (exact want_not rfl rfl rfl rfl rfl); simp only [Act.put, List.setIfInBounds_toArray, List.set_cons_zero, List.set_cons_succ])
                                ((with_reducible refine sched_step ?_ ?_ ?_ (fun wk k1 => ?_)); rotate_left; (rfl); (first | exact want_none rfl | exact want_some rfl rfl rfl rfl))
                                have X1 := Lib.hid ((Ext.drew _).trans k1)
                                clear k1
                                go_simp
                                refine (Text_S R l e _ (HR.out.ext X1.out)).mono ?_
                                rw [HV.out]
                                rintro r w6 ⟨rfl, hg, hR6⟩
                                refine ⟨lb_grown hg hR, ?_⟩
                                have HR6 := Lib.hid hR6
                                have E7 := Lib.hid ((E6.out.trans X1.out).trans' (grown_below hg (E6.out.trans X1.out).size (fun k hk => by injection hk with hk; omega)))
                                clear hg hR6
                                try simp only [Act.put, List.setIfInBounds_toArray, List.set_cons_zero, List.set_cons_succ]
                                repeat first | ((with_reducible refine sched_free ?_ ?_ ?_ ?_ (fun wk k1 => ?_) ?_); rotate_left 2; (rfl); (first | exact want_none rfl | exact want_some rfl rfl rfl rfl); (go_simp; first | exact OkX.val); simp only [Act.put, List.setIfInBounds_toArray, List.set_cons_zero, List.set_cons_succ]) | ((with_reducible refine sched_skip ?_ ?_ ?_ ?_); rotate_left; (rfl); (exact want_not rfl rfl rfl rfl rfl); simp only [Act.put, List.setIfInBounds_toArray, List.set_cons_zero, List.set_cons_succ])
                                refine sched_done (fun wk k1 => ?_)
                                have E8 := Lib.hid (E7.out.trans k1)
                                have HR8 := Lib.hid (HR6.out.ext k1)
                                clear k1
                                go_wp2
                                go_roundw
                                case rel => exact ⟨j + 1, _, _, _, by omega, by go_num, rfl, HR8.out, SJ.out, E8.out⟩
                                case measure => simp [intOf]; omega
                            · obtain rfl : j = ss.length := by omega
                              have HJ := Lib.hid (by have h := HJ.out; rw [List.drop_length] at h; exact h : J (some []) (eLists ls) l e q)
                              go_wp2
                              go_loopw [14, 17] (fun s14 i wr => ∃ (j : Nat) (q : Bool) (l : List UInt8) (e : Int), j ≤ rows.length ∧ i = .int .i64 j ∧ s14 = .bool q ∧ Rdr wr R l e ∧ J (some []) (eLists (ls.drop j)) l e q ∧ Ext wb wr) (fun _ i _ => rows.length - (intOf i).toNat)
                              case atStart => exact ⟨0, q, l, e, Nat.zero_le _, rfl, rfl, HR.out, HJ.out, E6.out⟩
                              case round =>
                                obtain ⟨j, q, l, e, hj, rfl, rfl, hRd, hJ, hE⟩ := hrel
                                have HR := Lib.hid hRd
                                have HJ := Lib.hid hJ
                                have E6 := Lib.hid hE
                                clear hRd hJ hE
                                by_cases hlt : j < rows.length
                                · obtain ⟨al, rfl, hab, hcs⟩ := HL.out (by omega)
                                  have hlt' : j < ls.length := by rw [HLs.out]; exact hlt
                                  have hbl : (al.add j).block < wb.heap.size := by rw [add_block]; omega
                                  have cw : wr.cell? (al.add j) = some rows[j] := (World.cell?_of_block ((EB.out.trans E6.out).block _ (by rw [add_block]; exact hab))).trans (hcs j _ (by simp [hlt]))
                                  have i0 : (0 : Int) ≤ (j : Int) := by omega
                                  have i1 : (j : Int) < (rows.length : Int) := by omega
                                  have DJ := Lib.hid (lists_drop ls j hlt' ▸ HJ.out : J (some []) (eList ls[j] ++ eLists (ls.drop (j + 1))) l e q)
                                  have WX := HZ3.out ls[j] (List.getElem_mem hlt')
                                  have WF := Lib.hid (HRow.out j hlt hlt').2
                                  have RR := Lib.hid (HRow.out j hlt hlt').1
                                  generalize ls[j] = x at *
                                  generalize rows[j] = u at *
                                  clear hcs
                                  have WX : x.length < 65536 := by omega
                                  have hsz6 := E6.out.size
                                  go_wp2
                                  refine wp_region_sched (LB wb.heap.size) (LB_way _) [(0, true), (2, true), (3, true), (4, true), (5, true), (1, false), (6, false), (7, true), (8, true), (9, true), (10, true)] (by kernel_rfl) (by kernel_rfl) (fun _ _ _ _ _ h => h) ?_
                                  repeat first | ((with_reducible refine sched_free ?_ ?_ ?_ ?_ (fun wk k1 => ?_) ?_); rotate_left 2; (rfl); (first | exact want_none rfl | exact want_some rfl rfl rfl rfl); (go_simp; first | exact OkX.val | (have cc := lb_cell k1 hsz6 cw hbl; go_simp; exact OkX.val)); simp only [Act.put, List.setIfInBounds_toArray, List.set_cons_zero, List.set_cons_succ]) | ((with_reducible refine sched_skip ?_ ?_ ?_ ?_); rotate_left; (rfl); (exact want_not rfl rfl rfl rfl rfl); simp only [Act.put, List.setIfInBounds_toArray, List.set_cons_zero, List.set_cons_succ])
                                  ((with_reducible refine sched_step ?_ ?_ ?_ (fun wk k1 => ?_)); rotate_left; (rfl); (first | exact want_none rfl | exact want_some rfl rfl rfl rfl))
                                  have X1 := Lib.hid ((Ext.drew _).trans k1)
                                  clear k1
                                  go_simp
                                  refine (Ints_S R l e _ (HR.out.ext X1.out)).mono ?_
                                  rintro r w6 ⟨v6, rfl, hv6, hg, hR6, _⟩
                                  refine ⟨lb_grown hg hR, ?_⟩
                                  have HR6 := Lib.hid hR6
                                  have HV6 := Lib.hid hv6
                                  have E7 := Lib.hid ((E6.out.trans X1.out).trans' (grown_below hg (E6.out.trans X1.out).size (fun k hk => by injection hk with hk; omega)))
                                  clear hg hR6 hv6
                                  try simp only [Act.put, List.setIfInBounds_toArray, List.set_cons_zero, List.set_cons_succ]
                                  ((with_reducible refine sched_step ?_ ?_ ?_ (fun wk k1 => ?_)); rotate_left; (rfl); (first | exact want_none rfl | exact want_some rfl rfl rfl rfl))
                                  have X2 := Lib.hid k1
                                  clear k1
                                  go_simp
                                  refine (ints_told _ _ _ x _ (HV6.out.ext X2.out) (RR.out.ext ((EB.out.trans E7.out).trans X2.out))).mono ?_
                                  rintro r w7 ⟨qq, rfl, hqq, hx7⟩
                                  refine ⟨(LB_way _).ext hx7, ?_⟩
                                  have HR8 := Lib.hid (HR6.out.ext (X2.out.trans hx7))
                                  have E8 := Lib.hid (E7.out.trans (X2.out.trans hx7))
                                  have SJ := Lib.hid (DJ.out.step (item_list x WX) qq (fun Y hY => hqq (hY ▸ list_val x WX WF.out Y)))
                                  clear hx7 hqq
                                  cases qq
                                  · skip
                                    try simp only [Act.put, List.setIfInBounds_toArray, List.set_cons_zero, List.set_cons_succ]
                                    repeat first | ((with_reducible refine sched_free ?_ ?_ ?_ ?_ (fun wk k1 => ?_) ?_); rotate_left 2; (rfl); (first | exact want_none rfl | exact want_some rfl rfl rfl rfl); (go_simp; first | exact OkX.val); simp only [Act.put, List.setIfInBounds_toArray, List.set_cons_zero, List.set_cons_succ]) | ((with_reducible refine sched_skip ?_ ?_ ?_ ?_); rotate_left; (rfl); (exact want_not rfl rfl rfl rfl rfl); simp only [Act.put, List.setIfInBounds_toArray, List.set_cons_zero, List.set_cons_succ])
                                    refine sched_done (fun wk k1 => ?_)
                                    have E9 := Lib.hid (E8.out.trans k1)
                                    have HR9 := Lib.hid (HR8.out.ext k1)
                                    clear k1
                                    go_wp2
                                    go_roundw
                                    case rel => exact ⟨j + 1, _, _, _, by omega, by go_num, rfl, HR9.out, SJ.out, E9.out⟩
                                    case measure => simp [intOf]; omega
                                  
                                  · skip
                                    try simp only [Act.put, List.setIfInBounds_toArray, List.set_cons_zero, List.set_cons_succ]
                                    repeat first | ((with_reducible refine sched_free ?_ ?_ ?_ ?_ (fun wk k1 => ?_) ?_); rotate_left 2; (rfl); (first | exact want_none rfl | exact want_some rfl rfl rfl rfl); (go_simp; first | exact OkX.val); simp only [Act.put, List.setIfInBounds_toArray, List.set_cons_zero, List.set_cons_succ]) | ((with_reducible refine sched_skip ?_ ?_ ?_ ?_); rotate_left; (rfl); (exact want_not rfl rfl rfl rfl rfl); simp only [Act.put, List.setIfInBounds_toArray, List.set_cons_zero, List.set_cons_succ])
                                    refine sched_done (fun wk k1 => ?_)
                                    have E9 := Lib.hid (E8.out.trans k1)
                                    have HR9 := Lib.hid (HR8.out.ext k1)
                                    clear k1
                                    go_wp2
                                    go_roundw
                                    case rel => exact ⟨j + 1, _, _, _, by omega, by go_num, rfl, HR9.out, SJ.out, E9.out⟩
                                    case measure => simp [intOf]; omega
                                · obtain rfl : j = rows.length := by omega
                                  have HJ := Lib.hid (by have h := HJ.out; rw [List.drop_of_length_le (by rw [HLs.out]; exact Nat.le_refl _)] at h; exact h : J (some []) [] l e q)
                                  go_wp2_with fail
                                  refine (End_any R l e _ HR.out).mono ?_
                                  obtain ⟨ee, eq⟩ := HJ.out.end0
                                  subst eq
                                  rw [ee]
                                  clear ee
                                  rintro e' w' ⟨rfl, rfl⟩
                                  go_wp2
                                  go_roundw
                                  case rel => exact ⟨2 + 1, by omega, by go_num, E6.out⟩
                                  case measure => simp [intOf]; try omega
                    · skip
                      have hB1 : 0 < B.length := List.length_pos_iff.2 hB0
                      have hb0 : (0 : Int) < (B.length : Int) := by omega
                      obtain ⟨X, hX⟩ : ∃ X, X = B.dropLast := ⟨_, rfl⟩
                      obtain ⟨nx, hnx⟩ : ∃ n : Nat, (B.length : Int) - 1 = (n : Int) := ⟨B.length - 1, by omega⟩
                      have RX := Lib.hid (show Rd wr (.slice Ab nx cb) (bvs X) from by
                        have h := (RB4.out.ext E4.out)
                        rw [show B.length = (bvs B).length from (bvs_length B).symm] at h
                        have h2 := h.front (k := nx) (by rw [bvs_length]; omega)
                        have e1 : nx = B.length - 1 := by omega
                        have e : (bvs B).take nx = bvs X := by rw [hX, bvs_take, List.dropLast_eq_take, e1]
                        rw [e] at h2
                        exact h2)
                      have E5 := E4
                      have HJ := Lib.hid (show J none B X 0 true from hX ▸ J.startC B hB0)
                      have hXl : X.length ≤ 140737488355328 := by rw [hX, List.length_dropLast]; omega
                      have hnc : (nx : Int) ≤ (cb : Int) := by omega
                      have hw1 : (B.length : Int) - 1 = (nx : Int) := hnx
                      clear hX hB0
                      go_wp2_with fail
                      refine (New_any _ X _ RX.out hXl).mono ?_
                      rintro e w5 ⟨R, rfl, hx5, hR5, hRw5⟩
                      have hR : wb.heap.size ≤ R := Nat.le_trans E5.out.size hRw5
                      have hbs := EB.out.size
                      have HR := Lib.hid hR5
                      have E6 := Lib.hid (E5.out.trans hx5)
                      have HJ := Lib.hid (HBe.out ▸ HJ.out : J none (eNums ns ++ (eTexts ss ++ eLists ls)) X 0 true)
                      clear hx5 hR5 hRw5
                      go_wp2
                      go_loopw [14, 15] (fun s14 i wr => ∃ (j : Nat) (q : Bool) (l : List UInt8) (e : Int), j ≤ ns.length ∧ i = .int .i64 j ∧ s14 = .bool q ∧ Rdr wr R l e ∧ J none (eNums (ns.drop j) ++ (eTexts ss ++ eLists ls)) l e q ∧ Ext wb wr) (fun _ i _ => ns.length - (intOf i).toNat)
                      case atStart => exact ⟨0, true, X, 0, Nat.zero_le _, rfl, rfl, HR.out, HJ.out, E6.out⟩
                      case round =>
                        obtain ⟨j, q, l, e, hj, rfl, rfl, hRd, hJ, hE⟩ := hrel
                        have HR := Lib.hid hRd
                        have HJ := Lib.hid hJ
                        have E6 := Lib.hid hE
                        clear hRd hJ hE
                        by_cases hlt : j < ns.length
                        · obtain ⟨an, rfl, hab, hcs⟩ := HN.out (by omega)
                          have hbl : (an.add j).block < wb.heap.size := by rw [add_block]; omega
                          have cw : wr.cell? (an.add j) = some (.int .i64 ns[j]) := (World.cell?_of_block ((EB.out.trans E6.out).block _ (by rw [add_block]; exact hab))).trans (hcs j _ (by simp [hlt]))
                          have i0 : (0 : Int) ≤ (j : Int) := by omega
                          have i1 : (j : Int) < (ns.length : Int) := by omega
                          have DJ := Lib.hid (nums_drop ns j hlt (eTexts ss ++ eLists ls) ▸ HJ.out : J none (eInt ns[j] ++ (eNums (ns.drop (j + 1)) ++ (eTexts ss ++ eLists ls))) l e q)
                          have WX := Lib.hid (HW0.out ns[j] (List.getElem_mem hlt))
                          generalize ns[j] = x at *
                          clear hcs
                          obtain ⟨z, hz⟩ : ∃ z, iV l = z := ⟨_, rfl⟩
                          have HZ := Lib.hid hz
                          clear hz
                          have hsz6 := E6.out.size
                          by_cases hzx : z = x
                          · subst hzx
                            have SJ := Lib.hid (DJ.out.step (item_int z) true (fun _ _ => rfl))
                            go_wp2
                            refine wp_region_sched (LB wb.heap.size) (LB_way _) [(0, true), (2, true), (3, true), (4, true), (5, true), (1, false), (6, true), (7, true), (8, true), (9, true), (10, true)] (by kernel_rfl) (by kernel_rfl) (fun _ _ _ _ _ h => h) ?_
                            repeat first | ((with_reducible refine sched_free ?_ ?_ ?_ ?_ (fun wk k1 => ?_) ?_); rotate_left 2; (rfl); (first | exact want_none rfl | exact want_some rfl rfl rfl rfl); (go_simp; first | exact OkX.val | (have cc := lb_cell k1 hsz6 cw hbl; go_simp; exact OkX.val)); simp only [Act.put, List.setIfInBounds_toArray, List.set_cons_zero, List.set_cons_succ]) | ((with_reducible refine sched_skip ?_ ?_ ?_ ?_); rotate_left; (rfl); (exact want_not rfl rfl rfl rfl rfl); simp only [Act.put, List.setIfInBounds_toArray, List.set_cons_zero, List.set_cons_succ])
                            ((with_reducible refine sched_step ?_ ?_ ?_ (fun wk k1 => ?_)); rotate_left; (rfl); (first | exact want_none rfl | exact want_some rfl rfl rfl rfl))
                            have X1 := Lib.hid ((Ext.drew _).trans k1)
                            clear k1
                            go_simp
                            refine (Int_S R l e _ (HR.out.ext X1.out)).mono ?_
                            rw [HZ.out]
                            rintro r w6 ⟨rfl, hg, hR6⟩
                            refine ⟨lb_grown hg hR, ?_⟩
                            have HR6 := Lib.hid hR6
                            have E7 := Lib.hid ((E6.out.trans X1.out).trans' (grown_below hg (E6.out.trans X1.out).size (fun k hk => by injection hk with hk; omega)))
                            clear hg hR6
                            try simp only [Act.put, List.setIfInBounds_toArray, List.set_cons_zero, List.set_cons_succ]
                            repeat first | ((with_reducible refine sched_free ?_ ?_ ?_ ?_ (fun wk k1 => ?_) ?_); rotate_left 2; (rfl); (first | exact want_none rfl | exact want_some rfl rfl rfl rfl); (go_simp; first | exact OkX.val); simp only [Act.put, List.setIfInBounds_toArray, List.set_cons_zero, List.set_cons_succ]) | ((with_reducible refine sched_skip ?_ ?_ ?_ ?_); rotate_left; (rfl); (exact want_not rfl rfl rfl rfl rfl); simp only [Act.put, List.setIfInBounds_toArray, List.set_cons_zero, List.set_cons_succ])
                            refine sched_done (fun wk k1 => ?_)
                            have E8 := Lib.hid (E7.out.trans k1)
                            have HR8 := Lib.hid (HR6.out.ext k1)
                            clear k1
                            go_wp2
                            go_roundw
                            case rel => exact ⟨j + 1, _, _, _, by omega, by go_num, rfl, HR8.out, SJ.out, E8.out⟩
                            case measure => simp [intOf]; omega
                          · have hv : (z == x) = false := by simpa using hzx
                            have SJ := Lib.hid (DJ.out.step (item_int x) false (fun Y hY => absurd ((HZ.out.symm.trans (hY ▸ int_val x WX.out Y))) hzx))
                            clear hzx
                            go_wp2
                            refine wp_region_sched (LB wb.heap.size) (LB_way _) [(0, true), (2, true), (3, true), (4, true), (5, true), (1, false), (6, true), (7, true), (8, true), (9, true), (10, true)] (by kernel_rfl) (by kernel_rfl) (fun _ _ _ _ _ h => h) ?_
                            repeat first | ((with_reducible refine sched_free ?_ ?_ ?_ ?_ (fun wk k1 => ?_) ?_); rotate_left 2; (rfl); (first | exact want_none rfl | exact want_some rfl rfl rfl rfl); (go_simp; first | exact OkX.val | (have cc := lb_cell k1 hsz6 cw hbl; go_simp; exact OkX.val)); simp only [Act.put, List.setIfInBounds_toArray, List.set_cons_zero, List.set_cons_succ]) | ((with_reducible refine sched_skip ?_ ?_ ?_ ?_); rotate_left; (rfl); (exact want_not rfl rfl rfl rfl rfl); simp only [Act.put, List.setIfInBounds_toArray, List.set_cons_zero, List.set_cons_succ])
                            ((with_reducible refine sched_step ?_ ?_ ?_ (fun wk k1 => ?_)); rotate_left; (rfl); (first | exact want_none rfl | exact want_some rfl rfl rfl rfl))
                            have X1 := Lib.hid ((Ext.drew _).trans k1)
                            clear k1
                            go_simp
                            refine (Int_S R l e _ (HR.out.ext X1.out)).mono ?_
                            rw [HZ.out]
                            rintro r w6 ⟨rfl, hg, hR6⟩
                            refine ⟨lb_grown hg hR, ?_⟩
                            have HR6 := Lib.hid hR6
                            have E7 := Lib.hid ((E6.out.trans X1.out).trans' (grown_below hg (E6.out.trans X1.out).size (fun k hk => by injection hk with hk; omega)))
                            clear hg hR6
                            try simp only [Act.put, List.setIfInBounds_toArray, List.set_cons_zero, List.set_cons_succ]
                            repeat first | ((with_reducible refine sched_free ?_ ?_ ?_ ?_ (fun wk k1 => ?_) ?_); rotate_left 2; (rfl); (first | exact want_none rfl | exact want_some rfl rfl rfl rfl); (go_simp; first | exact OkX.val); simp only [Act.put, List.setIfInBounds_toArray, List.set_cons_zero, List.set_cons_succ]) | ((with_reducible refine sched_skip ?_ ?_ ?_ ?_); rotate_left; (rfl); (exact want_not rfl rfl rfl rfl rfl); simp only [Act.put, List.setIfInBounds_toArray, List.set_cons_zero, List.set_cons_succ])
                            refine sched_done (fun wk k1 => ?_)
                            have E8 := Lib.hid (E7.out.trans k1)
                            have HR8 := Lib.hid (HR6.out.ext k1)
                            clear k1
                            go_wp2
                            go_roundw
                            case rel => exact ⟨j + 1, _, _, _, by omega, by go_num, rfl, HR8.out, SJ.out, E8.out⟩
                            case measure => simp [intOf]; omega
                        · obtain rfl : j = ns.length := by omega
                          have HJ := Lib.hid (by have h := HJ.out; rw [List.drop_length] at h; exact h : J none (eTexts ss ++ eLists ls) l e q)
                          go_wp2
                          go_loopw [14, 16] (fun s14 i wr => ∃ (j : Nat) (q : Bool) (l : List UInt8) (e : Int), j ≤ ss.length ∧ i = .int .i64 j ∧ s14 = .bool q ∧ Rdr wr R l e ∧ J none (eTexts (ss.drop j) ++ eLists ls) l e q ∧ Ext wb wr) (fun _ i _ => ss.length - (intOf i).toNat)
                          case atStart => exact ⟨0, q, l, e, Nat.zero_le _, rfl, rfl, HR.out, HJ.out, E6.out⟩
                          case round =>
                            obtain ⟨j, q, l, e, hj, rfl, rfl, hRd, hJ, hE⟩ := hrel
                            have HR := Lib.hid hRd
                            have HJ := Lib.hid hJ
                            have E6 := Lib.hid hE
                            clear hRd hJ hE
                            by_cases hlt : j < ss.length
                            · obtain ⟨ast, rfl, hab, hcs⟩ := HS.out (by omega)
                              have hbl : (ast.add j).block < wb.heap.size := by rw [add_block]; omega
                              have cw : wr.cell? (ast.add j) = some (.string ss[j]) := (World.cell?_of_block ((EB.out.trans E6.out).block _ (by rw [add_block]; exact hab))).trans (hcs j _ (by simp [hlt]))
                              have i0 : (0 : Int) ≤ (j : Int) := by omega
                              have i1 : (j : Int) < (ss.length : Int) := by omega
                              have DJ := Lib.hid (texts_drop ss j hlt (eLists ls) ▸ HJ.out : J none (eText ss[j] ++ (eTexts (ss.drop (j + 1)) ++ eLists ls)) l e q)
                              have WX := HZ.out ss[j] (List.getElem_mem hlt)
                              generalize ss[j] = x at *
                              clear hcs
                              have WX : x.size < 65536 := by omega
                              obtain ⟨z, hz⟩ : ∃ z, tV l = z := ⟨_, rfl⟩
                              have HV := Lib.hid hz
                              clear hz
                              have hsz6 := E6.out.size
                              by_cases hzx : z = x
                              · subst hzx
                                have SJ := Lib.hid (DJ.out.step (item_text z WX) true (fun _ _ => rfl))
                                go_wp2
                                refine wp_region_sched (LB wb.heap.size) (LB_way _) [(0, true), (2, true), (3, true), (4, true), (5, true), (1, false), (6, true), (7, true), (8, true), (9, true), (10, true)] (by kernel_rfl) (by kernel_rfl) (fun _ _ _ _ _ h => h) ?_
                                repeat first | ((with_reducible refine sched_free ?_ ?_ ?_ ?_ (fun wk k1 => ?_) ?_); rotate_left 2; (rfl); (first | exact want_none rfl | exact want_some rfl rfl rfl rfl); (go_simp; first | exact OkX.val | (have cc := lb_cell k1 hsz6 cw hbl; go_simp; exact OkX.val)); simp only [Act.put, List.setIfInBounds_toArray, List.set_cons_zero, List.set_cons_succ]) | ((with_reducible refine sched_skip ?_ ?_ ?_ ?_); rotate_left; (rfl); (exact want_not rfl rfl rfl rfl rfl); simp only [Act.put, List.setIfInBounds_toArray, List.set_cons_zero, List.set_cons_succ])
                                ((with_reducible refine sched_step ?_ ?_ ?_ (fun wk k1 => ?_)); rotate_left; (rfl); (first | exact want_none rfl | exact want_some rfl rfl rfl rfl))
                                have X1 := Lib.hid ((Ext.drew _).trans k1)
                                clear k1
                                go_simp
                                refine (Text_S R l e _ (HR.out.ext X1.out)).mono ?_
                                rw [HV.out]
                                rintro r w6 ⟨rfl, hg, hR6⟩
                                refine ⟨lb_grown hg hR, ?_⟩
                                have HR6 := Lib.hid hR6
                                have E7 := Lib.hid ((E6.out.trans X1.out).trans' (grown_below hg (E6.out.trans X1.out).size (fun k hk => by injection hk with hk; omega)))
                                clear hg hR6
                                try simp only [Act.put, List.setIfInBounds_toArray, List.set_cons_zero, List.set_cons_succ]
                                repeat first | ((with_reducible refine sched_free ?_ ?_ ?_ ?_ (fun wk k1 => ?_) ?_); rotate_left 2; (rfl); (first | exact want_none rfl | exact want_some rfl rfl rfl rfl); (go_simp; first | exact OkX.val); simp only [Act.put, List.setIfInBounds_toArray, List.set_cons_zero, List.set_cons_succ]) | ((with_reducible refine sched_skip ?_ ?_ ?_ ?_); rotate_left; (rfl); (exact want_not rfl rfl rfl rfl rfl); simp only [Act.put, List.setIfInBounds_toArray, List.set_cons_zero, List.set_cons_succ])
                                refine sched_done (fun wk k1 => ?_)
                                have E8 := Lib.hid (E7.out.trans k1)
                                have HR8 := Lib.hid (HR6.out.ext k1)
                                clear k1
                                go_wp2
                                go_roundw
                                case rel => exact ⟨j + 1, _, _, _, by omega, by go_num, rfl, HR8.out, SJ.out, E8.out⟩
                                case measure => simp [intOf]; omega
                              · have hv : (z.toList == x.toList) = false := ba_ne hzx
                                have SJ := Lib.hid (DJ.out.step (item_text x WX) false (fun Y hY => absurd ((HV.out.symm.trans (hY ▸ text_val x WX Y))) hzx))
                                clear hzx
                                go_wp2
                                refine wp_region_sched (LB wb.heap.size) (LB_way _) [(0, true), (2, true), (3, true), (4, true), (5, true), (1, false), (6, true), (7, true), (8, true), (9, true), (10, true)] (by kernel_rfl) (by kernel_rfl) (fun _ _ _ _ _ h => h) ?_
                                repeat first | ((with_reducible refine sched_free ?_ ?_ ?_ ?_ (fun wk k1 => ?_) ?_); rotate_left 2; (rfl); (first | exact want_none rfl | exact want_some rfl rfl rfl rfl); (go_simp; first | exact OkX.val | (have cc := lb_cell k1 hsz6 cw hbl; go_simp; exact OkX.val)); simp only [Act.put, List.setIfInBounds_toArray, List.set_cons_zero, List.set_cons_succ]) | ((with_reducible refine sched_skip ?_ ?_ ?_ ?_); rotate_left; (rfl); (exact want_not rfl rfl rfl rfl rfl); simp only [Act.put, List.setIfInBounds_toArray, List.set_cons_zero, List.set_cons_succ])
                                ((with_reducible refine sched_step ?_ ?_ ?_ (fun wk k1 => ?_)); rotate_left; (rfl); (first | exact want_none rfl | exact want_some rfl rfl rfl rfl))
                                have X1 := Lib.hid ((Ext.drew _).trans k1)
                                clear k1
                                go_simp
                                refine (Text_S R l e _ (HR.out.ext X1.out)).mono ?_
                                rw [HV.out]
                                rintro r w6 ⟨rfl, hg, hR6⟩
                                refine ⟨lb_grown hg hR, ?_⟩
                                have HR6 := Lib.hid hR6
                                have E7 := Lib.hid ((E6.out.trans X1.out).trans' (grown_below hg (E6.out.trans X1.out).size (fun k hk => by injection hk with hk; omega)))
                                clear hg hR6
                                try simp only [Act.put, List.setIfInBounds_toArray, List.set_cons_zero, List.set_cons_succ]
                                repeat first | ((with_reducible refine sched_free ?_ ?_ ?_ ?_ (fun wk k1 => ?_) ?_); rotate_left 2; (rfl); (first | exact want_none rfl | exact want_some rfl rfl rfl rfl); (go_simp; first | exact OkX.val); simp only [Act.put, List.setIfInBounds_toArray, List.set_cons_zero, List.set_cons_succ]) | ((with_reducible refine sched_skip ?_ ?_ ?_ ?_); rotate_left; (rfl); (exact want_not rfl rfl rfl rfl rfl); simp only [Act.put, List.setIfInBounds_toArray, List.set_cons_zero, List.set_cons_succ])
                                refine sched_done (fun wk k1 => ?_)
                                have E8 := Lib.hid (E7.out.trans k1)
                                have HR8 := Lib.hid (HR6.out.ext k1)
                                clear k1
                                go_wp2
                                go_roundw
                                case rel => exact ⟨j + 1, _, _, _, by omega, by go_num, rfl, HR8.out, SJ.out, E8.out⟩
                                case measure => simp [intOf]; omega
                            · obtain rfl : j = ss.length := by omega
                              have HJ := Lib.hid (by have h := HJ.out; rw [List.drop_length] at h; exact h : J none (eLists ls) l e q)
                              go_wp2
                              go_loopw [14, 17] (fun s14 i wr => ∃ (j : Nat) (q : Bool) (l : List UInt8) (e : Int), j ≤ rows.length ∧ i = .int .i64 j ∧ s14 = .bool q ∧ Rdr wr R l e ∧ J none (eLists (ls.drop j)) l e q ∧ Ext wb wr) (fun _ i _ => rows.length - (intOf i).toNat)
                              case atStart => exact ⟨0, q, l, e, Nat.zero_le _, rfl, rfl, HR.out, HJ.out, E6.out⟩
                              case round =>
                                obtain ⟨j, q, l, e, hj, rfl, rfl, hRd, hJ, hE⟩ := hrel
                                have HR := Lib.hid hRd
                                have HJ := Lib.hid hJ
                                have E6 := Lib.hid hE
                                clear hRd hJ hE
                                by_cases hlt : j < rows.length
                                · obtain ⟨al, rfl, hab, hcs⟩ := HL.out (by omega)
                                  have hlt' : j < ls.length := by rw [HLs.out]; exact hlt
                                  have hbl : (al.add j).block < wb.heap.size := by rw [add_block]; omega
                                  have cw : wr.cell? (al.add j) = some rows[j] := (World.cell?_of_block ((EB.out.trans E6.out).block _ (by rw [add_block]; exact hab))).trans (hcs j _ (by simp [hlt]))
                                  have i0 : (0 : Int) ≤ (j : Int) := by omega
                                  have i1 : (j : Int) < (rows.length : Int) := by omega
                                  have DJ := Lib.hid (lists_drop ls j hlt' ▸ HJ.out : J none (eList ls[j] ++ eLists (ls.drop (j + 1))) l e q)
                                  have WX := HZ3.out ls[j] (List.getElem_mem hlt')
                                  have WF := Lib.hid (HRow.out j hlt hlt').2
                                  have RR := Lib.hid (HRow.out j hlt hlt').1
                                  generalize ls[j] = x at *
                                  generalize rows[j] = u at *
                                  clear hcs
                                  have WX : x.length < 65536 := by omega
                                  have hsz6 := E6.out.size
                                  go_wp2
                                  refine wp_region_sched (LB wb.heap.size) (LB_way _) [(0, true), (2, true), (3, true), (4, true), (5, true), (1, false), (6, false), (7, true), (8, true), (9, true), (10, true)] (by kernel_rfl) (by kernel_rfl) (fun _ _ _ _ _ h => h) ?_
                                  repeat first | ((with_reducible refine sched_free ?_ ?_ ?_ ?_ (fun wk k1 => ?_) ?_); rotate_left 2; (rfl); (first | exact want_none rfl | exact want_some rfl rfl rfl rfl); (go_simp; first | exact OkX.val | (have cc := lb_cell k1 hsz6 cw hbl; go_simp; exact OkX.val)); simp only [Act.put, List.setIfInBounds_toArray, List.set_cons_zero, List.set_cons_succ]) | ((with_reducible refine sched_skip ?_ ?_ ?_ ?_); rotate_left; (rfl); (exact want_not rfl rfl rfl rfl rfl); simp only [Act.put, List.setIfInBounds_toArray, List.set_cons_zero, List.set_cons_succ])
                                  ((with_reducible refine sched_step ?_ ?_ ?_ (fun wk k1 => ?_)); rotate_left; (rfl); (first | exact want_none rfl | exact want_some rfl rfl rfl rfl))
                                  have X1 := Lib.hid ((Ext.drew _).trans k1)
                                  clear k1
                                  go_simp
                                  refine (Ints_S R l e _ (HR.out.ext X1.out)).mono ?_
                                  rintro r w6 ⟨v6, rfl, hv6, hg, hR6, _⟩
                                  refine ⟨lb_grown hg hR, ?_⟩
                                  have HR6 := Lib.hid hR6
                                  have HV6 := Lib.hid hv6
                                  have E7 := Lib.hid ((E6.out.trans X1.out).trans' (grown_below hg (E6.out.trans X1.out).size (fun k hk => by injection hk with hk; omega)))
                                  clear hg hR6 hv6
                                  try simp only [Act.put, List.setIfInBounds_toArray, List.set_cons_zero, List.set_cons_succ]
                                  ((with_reducible refine sched_step ?_ ?_ ?_ (fun wk k1 => ?_)); rotate_left; (rfl); (first | exact want_none rfl | exact want_some rfl rfl rfl rfl))
                                  have X2 := Lib.hid k1
                                  clear k1
                                  go_simp
                                  refine (ints_told _ _ _ x _ (HV6.out.ext X2.out) (RR.out.ext ((EB.out.trans E7.out).trans X2.out))).mono ?_
                                  rintro r w7 ⟨qq, rfl, hqq, hx7⟩
                                  refine ⟨(LB_way _).ext hx7, ?_⟩
                                  have HR8 := Lib.hid (HR6.out.ext (X2.out.trans hx7))
                                  have E8 := Lib.hid (E7.out.trans (X2.out.trans hx7))
                                  have SJ := Lib.hid (DJ.out.step (item_list x WX) qq (fun Y hY => hqq (hY ▸ list_val x WX WF.out Y)))
                                  clear hx7 hqq
                                  cases qq
                                  · skip
                                    try simp only [Act.put, List.setIfInBounds_toArray, List.set_cons_zero, List.set_cons_succ]
                                    repeat first | ((with_reducible refine sched_free ?_ ?_ ?_ ?_ (fun wk k1 => ?_) ?_); rotate_left 2; (rfl); (first | exact want_none rfl | exact want_some rfl rfl rfl rfl); (go_simp; first | exact OkX.val); simp only [Act.put, List.setIfInBounds_toArray, List.set_cons_zero, List.set_cons_succ]) | ((with_reducible refine sched_skip ?_ ?_ ?_ ?_); rotate_left; (rfl); (exact want_not rfl rfl rfl rfl rfl); simp only [Act.put, List.setIfInBounds_toArray, List.set_cons_zero, List.set_cons_succ])
                                    refine sched_done (fun wk k1 => ?_)
                                    have E9 := Lib.hid (E8.out.trans k1)
                                    have HR9 := Lib.hid (HR8.out.ext k1)
                                    clear k1
                                    go_wp2
                                    go_roundw
                                    case rel => exact ⟨j + 1, _, _, _, by omega, by go_num, rfl, HR9.out, SJ.out, E9.out⟩
                                    case measure => simp [intOf]; omega
                                  
                                  · skip
                                    try simp only [Act.put, List.setIfInBounds_toArray, List.set_cons_zero, List.set_cons_succ]
                                    repeat first | ((with_reducible refine sched_free ?_ ?_ ?_ ?_ (fun wk k1 => ?_) ?_); rotate_left 2; (rfl); (first | exact want_none rfl | exact want_some rfl rfl rfl rfl); (go_simp; first | exact OkX.val); simp only [Act.put, List.setIfInBounds_toArray, List.set_cons_zero, List.set_cons_succ]) | ((with_reducible refine sched_skip ?_ ?_ ?_ ?_); rotate_left; (rfl); (exact want_not rfl rfl rfl rfl rfl); simp only [Act.put, List.setIfInBounds_toArray, List.set_cons_zero, List.set_cons_succ])
                                    refine sched_done (fun wk k1 => ?_)
                                    have E9 := Lib.hid (E8.out.trans k1)
                                    have HR9 := Lib.hid (HR8.out.ext k1)
                                    clear k1
                                    go_wp2
                                    go_roundw
                                    case rel => exact ⟨j + 1, _, _, _, by omega, by go_num, rfl, HR9.out, SJ.out, E9.out⟩
                                    case measure => simp [intOf]; omega
                                · obtain rfl : j = rows.length := by omega
                                  have HJ := Lib.hid (by have h := HJ.out; rw [List.drop_of_length_le (by rw [HLs.out]; exact Nat.le_refl _)] at h; exact h : J none [] l e q)
                                  go_wp2_with fail
                                  refine (End_any R l e _ HR.out).mono ?_
                                  have ee := HJ.out.end8
                                  rw [ee]
                                  clear ee
                                  rintro e' w' ⟨rfl, rfl⟩
                                  go_wp2
                                  go_roundw
                                  case rel => exact ⟨2 + 1, by omega, by go_num, E6.out⟩
                                  case measure => simp [intOf]; try omega
                · go_wp2
                  go_ret
                  exact ⟨rfl, EB.out.trans E4.out⟩

theorem own : ownKnob Try.prog.godebug = none := by kernel_rfl
theorem laidOut : laidOutB Try.prog = true := by kernel_rfl
set_option maxRecDepth 100000 in
theorem lifted (os : Os) (started : os.Started) (H : Type) (enc : TypeId × Value → H) :
    ReturnsInHanded {} Try.checked os 3 .any (Rows.codecBackSpec.pre6 enc Try.prog Try.f3 Rows.codecBackRow.domain false) (Rows.codecBackSpec.post enc Try.prog Try.f3 false true false false) := by
  refine returnsInHanded_of_change (C := Try.checked) own started (by kernel_rfl) Try.func3
    (ChangeSpec.witness6 (enc := enc) (C := Try.checked) false ⟨#[], #[.slice none 0 0, .slice none 0 0, .slice none 0 0], []⟩ 8 (by kernel_rfl) (by kernel_rfl) (by kernel_rfl) (by kernel_rfl)) ?_
  intro W base args ds gs before hval0 hW hcnd _
  have hval : ∀ (j : Nat) t v, Try.f3.params[j]? = some t → args[j]? = some v → Value.okWide Try.prog W .any base t v := hval0
  have hW' := hW
  obtain ⟨p, q, hA0, hV, rfl, hfz, hnd⟩ := hW
  have hA : DataW.TrodAll enc Try.prog W 0 (fun _ => true) true Try.f3.params.toList args.toList ds p := hA0
  rw [Try.params3] at hA hval
  obtain ⟨v0, vs0, d0, ds0, p0, q0, hargs, rfl, rfl, h0, r0⟩ := trodAll_cons hA
  obtain ⟨v1, vs1, d1, ds1, p1, q1, rfl, rfl, rfl, h1, r1⟩ := trodAll_cons r0
  obtain ⟨v2, vs2, d2, ds2, p2, q2, rfl, rfl, rfl, h2, r2⟩ := trodAll_cons r1
  obtain ⟨rfl, rfl, rfl⟩ := trodAll_nil r2
  obtain rfl : args = #[v0, v1, v2] := by cases args; simp_all
  obtain ⟨rfl, rfl⟩ := trodVars_none hV
  have hlt0 : ∀ x ∈ p0, x.block < W.heap.size := fun x hx => by simpa using hW'.lt x (by simp [hx])
  obtain ⟨l0, rd0, wf0⟩ := open_rd Try.underlying22 Try.underlying3 (by kernel_rfl) (hval 0 22 v0 rfl rfl) h0
  have hlt1 : ∀ x ∈ p1, x.block < W.heap.size := fun x hx => by simpa using hW'.lt x (by simp [hx])
  obtain ⟨l1, rd1, wf1⟩ := open_strs Try.underlying23 Try.underlying9 (by kernel_rfl) (hval 1 23 v1 rfl rfl) h1
  have hlt2 : ∀ x ∈ p2, x.block < W.heap.size := fun x hx => by simpa using hW'.lt x (by simp [hx])
  obtain ⟨l2, rd2, wf2⟩ := open_rows Try.underlying24 Try.underlying22 Try.underlying3 (by kernel_rfl) (by kernel_rfl) (hval 2 24 v2 rfl rfl) h2
  clear hA0 hval0
  refine (walk W v0 l0 rd0 wf0 v1 l1 rd1 wf1 v2 l2 rd2 wf2).mono fun e W' ⟨he, bel⟩ => ?_
  subst he
  exact ⟨_, rfl, _, _, _, [], _, [], hW', trodAll_mk1 (shut_bool Try.underlying4 _), (trodAll_cons_mk (Below.trod laidOut (by kernel_rfl) (of_decide_eq_true (by kernel_rfl)) h0 bel hlt0) (trodAll_cons_mk (Below.trod laidOut (by kernel_rfl) (of_decide_eq_true (by kernel_rfl)) h1 bel hlt1) (trodAll_cons_mk (Below.trod laidOut (by kernel_rfl) (of_decide_eq_true (by kernel_rfl)) h2 bel hlt2) trodAll_mk0))), rfl, bel.frame _, fun h => by cases h⟩

theorem over : Rows.codecBackRow.holds Try.pinned (OpenSpec.ofChange Rows.codecBackSpec) :=
  OpenClaim.holds_of_wide 3 Try.f3 rfl rfl rfl rfl rfl rfl rfl ⟨rfl, rfl, rfl, rfl, rfl⟩ rfl rfl rfl rfl rfl (by kernel_rfl) Try.func3 (by kernel_rfl)
    (of_decide_eq_true (by kernel_rfl)) (by unfold Func.isWrapper; first | (rw [if_pos (by decide +kernel)]; kernel_rfl) | (rw [if_neg (by decide +kernel)]; exact ⟨rfl, rfl⟩))
    (fun os started H enc _ => lifted os started H enc)

theorem proved : Rows.CodecBackSaid := over
#print axioms proved
end Go.Proofs.Ytnkhobdpiifaaaa.CodecBack
