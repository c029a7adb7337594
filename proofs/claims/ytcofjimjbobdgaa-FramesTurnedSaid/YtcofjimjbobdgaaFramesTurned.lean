/- The law FramesTurned holds at every input: a frame one of whose bits is turned is told no more, nor is what stands behind it. No condition. -/
import Derived.Test.YtcofjimjbobdgaaFrmU
import Derived.Test.YtcofjimjbobdgaaFrmV
import Derived.JoinedOf
import Derived.JoinedAt
import Derived.RowKit3
import Derived.Lib.SmallJoins
import Derived.Deep.DeepCutAuto
import Derived.Deep.CutBlock
namespace Go.Proofs.Ytcofjimjbobdgaa.FramesTurned
open Go.ChangeShapes Go.WideShapes Go.ChangeAt Go.RowKit Go.Joins

theorem Try.infoI : (Try.prog.info? 3).map (fun i => (i.zero, i.size, i.bytes)) = some (some (.int .i64 0), 1, 8) := by kernel_rfl

/-- Where the frames of the first m end. -/
def ends (ls : List (List UInt8)) (m : Nat) : List Value := (List.range m).map fun i => Value.int .i64 (bulk (ls.take (i + 1)) : Nat)
theorem ends_length (ls : List (List UInt8)) (m : Nat) : (ends ls m).length = m := by simp [ends]
theorem ends_snoc (ls : List (List UInt8)) (m : Nat) : ends ls (m + 1) = ends ls m ++ [Value.int .i64 (bulk (ls.take (m + 1)) : Nat)] := by simp [ends, List.range_succ]
theorem ends_at (ls : List (List UInt8)) (m i : Nat) (h : i < m) : (ends ls m)[i]? = some (Value.int .i64 (bulk (ls.take (i + 1)) : Nat)) := by simp [ends, h]

theorem rdR_sub0 {w : World} {A : Option Addr} {n c k : Nat} {ls : List (List UInt8)} (h : RdR w (.slice A n c) ls) (hk : k ≤ n) : RdR w (.slice (subA A 0 c) k c) (ls.take k) := by
  obtain ⟨xs, h1, h2, h3⟩ := h
  refine ⟨xs.take k, h1.sub0 hk, by simp [h2], fun i hi => ?_⟩
  rw [List.length_take] at hi
  obtain ⟨u, h4, h5⟩ := h3 i (by omega)
  refine ⟨u, by rw [List.getElem?_take, if_pos (by omega)]; exact h4, ?_⟩
  rw [List.getElem_take]; exact h5

theorem turn_bit (ly : UInt8) (bt : Nat) (h : bt < 8) : ∃ c : UInt8, c ≠ ly ∧ bits .xor .u8 (ly.toNat : Int) (IntKind.u8.wrap (2 ^ min (IntKind.u64.wrap (bt : Int)).toNat 8)) = (c.toNat : Int) := by
  have hl := ly.toNat_lt
  have key : ∀ m : Nat, m < 256 → m ≠ 0 → ∃ c : UInt8, c ≠ ly ∧ bits .xor .u8 (ly.toNat : Int) (m : Int) = (c.toNat : Int) := by
    intro m hm h0
    have hx : ly.toNat ^^^ m < 256 := Nat.xor_lt_two_pow (n := 8) hl hm
    refine ⟨UInt8.ofNat (ly.toNat ^^^ m), fun e => ?_, ?_⟩
    · have e2 := congrArg UInt8.toNat e
      rw [UInt8.toNat_ofNat', Nat.mod_eq_of_lt (by simpa using hx)] at e2
      have : ly.toNat ^^^ m = ly.toNat ^^^ 0 := by simpa using e2
      exact h0 (xor_left this)
    · rw [u8_xor_nat _ _ hl hm, UInt8.toNat_ofNat', Nat.mod_eq_of_lt (by simpa using hx)]
  rw [IntWalk.u64_in _ ⟨by omega, by omega⟩]
  have : bt = 0 ∨ bt = 1 ∨ bt = 2 ∨ bt = 3 ∨ bt = 4 ∨ bt = 5 ∨ bt = 6 ∨ bt = 7 := by omega
  rcases this with rfl | rfl | rfl | rfl | rfl | rfl | rfl | rfl
  · exact key 1 (by omega) (by omega)
  · exact key 2 (by omega) (by omega)
  · exact key 4 (by omega) (by omega)
  · exact key 8 (by omega) (by omega)
  · exact key 16 (by omega) (by omega)
  · exact key 32 (by omega) (by omega)
  · exact key 64 (by omega) (by omega)
  · exact key 128 (by omega) (by omega)

set_option maxRecDepth 100000 in
set_option maxHeartbeats 3200000 in
theorem walk (w : World) (v0 : Value) (rows : List Value) (r0 : Rd w v0 rows) (wf0 : ∀ u ∈ rows, ∃ l : List UInt8, Rd w u (bvs l)) (at_ : Int) (_ : (Lit.int .i64 at_).wf = true) (bit : Int) (_ : (Lit.int .i64 bit).wf = true) :
    Calls Try.prog 6 #[v0, .int .i64 at_, .int .i64 bit] w fun e w' => e = .returned (.bool true) ∧ Below w.heap.size w w' := by
  obtain ⟨i0, hi, hz0, hz1, hz2⟩ := info_parts Try.infoU8
  obtain ⟨j0, hj, hy0, hy1, hy2⟩ := info_parts Try.infoI
  obtain ⟨k0, hkI, hx0, hxI, hx2⟩ := info_parts Try.infoS
  obtain ⟨ls, rl⟩ := rdR_of r0 wf0
  have RL := Lib.hid rl
  obtain ⟨A, N, c, rfl, hN, hc1, hc2, hcell⟩ := rl.open
  have HC := Lib.hid hcell
  have HN := Lib.hid hN
  clear hcell rl r0 wf0 hN
  by_cases h0 : N = 0 ∨ 6 < N
  · have h00 : (((N : Int) == 0) || decide ((6 : Int) < (N : Int))) = true := by
      rcases h0 with h | h
      · subst h; rfl
      · rw [decide_eq_true (by omega), Bool.or_true]
    clear h0
    go_enter Try.func6, Try.ntmps6
    go_wp2_with fail
    refine (known_any _).mono ?_
    rintro e w1 ⟨rfl, hx1⟩
    go_wp2
    all_goals first | (go_ret; exact ⟨rfl, hx1⟩) | skip
    all_goals (exfalso; simp at h00; omega)
  · have n0 : ((N : Int) == 0) = false := by simp; omega
    have n6 : decide ((6 : Int) < (N : Int)) = false := by simp; omega
    have n1 : 1 ≤ N := by omega
    have n2 : N ≤ 6 := by omega
    clear h0
    go_enter Try.func6, Try.ntmps6
    go_wp2_with fail
    refine (known_any _).mono ?_
    rintro e w1 ⟨rfl, hx1⟩
    have X1 := Lib.hid (show Ext w w1 from hx1)
    clear hx1
    go_wp2
    go_loopw [7, 8, 9] (fun e n i wr => ∃ k : Nat, k ≤ N ∧ i = .int .i64 k ∧ n = .int .i64 (bulk (ls.take k) : Nat) ∧ wr.ownsRow w.heap.size 3 1 e k (ends ls k) ∧ Ext w wr ∧ ∀ j (h : j < ls.length), j < k → ls[j].length ≤ 200) (fun _ _ i _ => N - (intOf i).toNat)
    case atStart => exact ⟨0, Nat.zero_le _, rfl, rfl, World.ownsRow_nil w1 _ _ 1, X1.out, fun j h hj => absurd hj (by omega)⟩
    case round =>
      obtain ⟨k, hk, rfl, rfl, ho, hx, hall⟩ := hrel
      have HX := Lib.hid hx
      have HO := Lib.hid ho
      have HALL := Lib.hid hall
      obtain ⟨Ae, ne, ce, rfl⟩ := Rd.shape (Rd.of_own ho)
      clear hall hx ho
      have hbs := bulk_small (ls.take k) 200 (fun r hr => by
        obtain ⟨j, hj, rfl⟩ := List.getElem_of_mem hr
        rw [List.length_take] at hj
        rw [List.getElem_take]
        exact HALL.out j (by omega) (by omega))
      rw [List.length_take, Nat.min_eq_left (by have := HN.out; omega)] at hbs
      obtain ⟨B, hB⟩ : ∃ B, B = bulk (ls.take k) := ⟨_, rfl⟩
      rw [← hB] at hbs ⊢
      have hbs : B ≤ 1248 := by omega
      have HB := Lib.hid hB
      clear hB
      by_cases hlt : k < N
      · obtain ⟨a, rfl, hb, hcs⟩ := HC.out (by omega)
        have hkl : k < ls.length := by have := HN.out; omega
        obtain ⟨u, h1, h2⟩ := hcs k hkl
        have h3 := HX.out.cell' h1
        obtain ⟨Au, nu, cu, rfl, hnu, _⟩ := h2.open
        have i0' : (0 : Int) ≤ (k : Int) := by omega
        have i1 : (k : Int) < (N : Int) := by omega
        clear hcs h1 h2
        by_cases hbig : (200 : Int) < (nu : Int)
        · clear hnu
          go_wp2
          go_ret
          exact ⟨rfl, HX.out⟩
        · have HNU := Lib.hid hnu
          have hnb : nu ≤ 200 := by omega
          have HB2 := Lib.hid (show ((bulk (ls.take (k + 1)) : Nat) : Int) = (B : Int) + 8 + (nu : Int) by rw [List.take_succ_eq_append_getElem hkl, bulk_snoc, ← HB.out, ← HNU.out]; omega)
          clear hnu
          go_wp2_with (at_builtin; refine wpList_app_src _ rfl (.tmp 48) (.tmp 50) 38 38 rfl w.heap.size 3 j0 (.int .i64 0) 8 Try.underlying38 hj hy0 hy1 hy2 rfl _ k (ends ls k) rfl (HO.out.alloc _) _ 1 _ rfl ((Rd.one _ _ _ _ _ rfl rfl).src ?c1 Try.underlying38) ?c3 ?c4 ?c5 ?_)
          case c1 => first | rfl | (intro u hu; simp at hu; subst hu; rfl)
          case c3 => simp [maxLen]; omega
          case c4 => omega
          case c5 => have := HX.out.size; simp; omega
          intro v' w3 ho3 hg3 _ _
          have E3 := Lib.hid ((HX.out.trans (ext_alloc wr _)).trans' (grown_below hg3 (by have := HX.out.size; simp; omega) (own_ge HO.out (Nat.le_refl _))))
          have HO3 := Lib.hid (show w3.ownsRow w.heap.size 3 1 v' (k + 1) (ends ls (k + 1)) by rw [ends_snoc, HB2.out]; exact ho3)
          clear ho3 hg3
          go_wp2
          go_roundw
          case rel => exact ⟨k + 1, by omega, by go_num, by rw [HB2.out], HO3.out, E3.out, fun j h hj => by
            by_cases e : j < k
            · exact HALL.out j h e
            · obtain rfl : j = k := by omega
              have := HNU.out; omega⟩
          case measure => simp [intOf]; omega
      · obtain rfl : k = N := by omega
        have HSM := Lib.hid (show ∀ r ∈ ls, r.length ≤ 200 from fun r hr => by
          obtain ⟨j, hj, rfl⟩ := List.getElem_of_mem hr
          exact HALL.out j hj (by have := HN.out; omega))
        have HT := Lib.hid (show ls.take k = ls from List.take_of_length_le (by have := HN.out; omega))
        have HT10 := Lib.hid (show ls.take 10 = ls from List.take_of_length_le (by have := HN.out; omega))
        clear HALL
        go_wp2_with fail
        (with_reducible refine (log_any _ ls _ (RL.out.ext HX.out) (fun r hr => by have := HSM.out r hr; omega)).mono ?_)
        rw [HT10.out]
        rintro e w2 ⟨v2, rfl, ho2, hx2⟩
        have X2 := Lib.hid (HX.out.trans hx2)
        rw [logB_length, ← (show ls.take k = ls from HT.out), ← HB.out, HT.out] at ho2
        have hBpos : 8 ≤ B := by
          have := bulk_ge ls
          rw [HB.out, HT.out]
          have hl : 1 ≤ ls.length := by have := HN.out; omega
          match ls, hl with
          | r :: ls', _ => rw [bulk_cons]; omega
        obtain ⟨g, cap, rfl, hgb, hgl⟩ := ho2.form (by omega)
        have HO2 := Lib.hid ho2
        have HE2 := Lib.hid (own_Ext HO.out hx2)
        have hgx : wr.heap.size ≤ g := hgb
        clear ho2 hx2
        go_wp2_with fail
        (with_reducible refine (within_some at_ B (B : Int) _ rfl (by omega)).mono ?_)
        rintro e w' ⟨y, rfl, hy, rfl⟩
        obtain ⟨ge, ce', hve, _, _⟩ := HE2.out.form (by omega)
        injection hve with e1 e2 e3
        have e2 := e2.symm
        have e3 := e3.symm
        subst e1 e2 e3
        have HCE := Lib.hid (fun (i : Nat) (hi : i < k) => (show w2.cell? ⟨ge, i, none⟩ = some (.int .i64 (bulk (ls.take (i + 1)) : Nat)) by
          have := HE2.out.cells (g := ge) rfl i _ (ends_at ls k i hi)
          rwa [show (⟨ge, 0, none⟩ : Addr).add i = ⟨ge, i, none⟩ from by unfold Addr.add; split <;> simp_all] at this))
        go_wp2
        go_loop [12] (fun i => ∃ h : Nat, i = .int .i64 h ∧ h ≤ k ∧ bulk (ls.take h) ≤ y) (fun i => k - (intOf i).toNat)
        case atStart => exact ⟨0, rfl, Nat.zero_le _, by simp [bulk]⟩
        case round =>
          obtain ⟨h, rfl, hhk, hby⟩ := hrel
          have hlt : h < k := by
            rcases Nat.lt_or_ge h k with h1 | h1
            · exact h1
            · obtain rfl : h = k := by omega
              have := HB.out; omega
          have ce := HCE.out h hlt
          have HBY := Lib.hid hby
          clear hby
          obtain ⟨E, hE⟩ : ∃ E, E = bulk (ls.take (h + 1)) := ⟨_, rfl⟩
          rw [← hE] at ce
          have HEE := Lib.hid hE
          clear hE
          have p0 : (0 : Int) ≤ (h : Int) := by omega
          have p1 : (h : Int) < (k : Int) := by omega
          by_cases hle : E ≤ y
          · have p2 : (E : Int) ≤ (y : Int) := by omega
            go_wp2
            go_round
            case rel => exact ⟨h + 1, by go_num, by omega, by rw [← HEE.out]; exact hle⟩
            case measure => simp [intOf]; omega
          · have p2 : ¬ (E : Int) ≤ (y : Int) := by omega
            obtain ⟨S, hS⟩ : ∃ S, S = bulk (ls.take h) := ⟨_, rfl⟩
            have HS := Lib.hid hS
            have hSy : S ≤ y := by rw [hS]; exact HBY.out
            clear hS
            go_upto_if 67 with fail
            go_cut [13] from 66 to 72 (fun s13 wx => s13 = .int .i64 (S : Nat) ∧ wx = w2)
            case first =>
              by_cases hz : h = 0
              · subst hz
                have e : S = 0 := by rw [HS.out]; simp [bulk]
                subst e
                go_wp2_with fail
                go_meet
                case rel => exact ⟨rfl, rfl⟩
              · obtain ⟨h', rfl⟩ : ∃ h', h = h' + 1 := ⟨h - 1, by omega⟩
                have cs := HCE.out h' (by omega)
                rw [← HS.out] at cs
                have p3 : (0 : Int) ≤ (h' : Int) := by omega
                have p4 : (h' : Int) < (k : Int) := by omega
                clear ce
                go_wp2_with fail
                go_meet
                case rel => exact ⟨rfl, rfl⟩
            case rest =>
              obtain ⟨rfl, rfl⟩ := hcut
              obtain ⟨bt, hbt⟩ : ∃ bt : Nat, (bt : Int) = bit % 8 := ⟨(bit % 8).toNat, by omega⟩
              have hb8 : bt < 8 := by omega
              have hwi := fun W => (hbt ▸ within_any bit 8 W (by omega) : Calls Try.prog 10 #[.int .i64 bit, .int .i64 8] W fun e w' => e = .returned (.int .i64 (bt : Int)) ∧ W = w')
              have HWI := Lib.hid hwi
              clear hwi hbt
              have q0 : (0 : Int) ≤ (y : Int) := by omega
              have q1 : (y : Int) < (B : Int) := by omega
              have q2 : (0 : Int) ≤ (bt : Int) := by omega
              have q3 : (bt : Int) < 8 := by omega
              go_wp2
              refine wp_region_sched (LB w.heap.size) (LB_way w.heap.size) [(0, true), (1, true), (2, true), (4, true), (5, true), (6, true), (7, true), (3, false), (8, true), (9, true), (10, false)] (by kernel_rfl) (by kernel_rfl) (fun _ _ _ _ _ h => h) ?_
              repeat first | ((with_reducible refine sched_free ?_ ?_ ?_ ?_ (fun wk k1 => ?_) ?_); rotate_left 2; (rfl); (first | exact want_none rfl | exact want_some rfl rfl rfl rfl); (go_simp; first | exact OkX.val | (refine OkX.eqv (OkX.same (HWI.out _)) ?_; exact rfl)); simp only [Act.put, List.setIfInBounds_toArray, List.set_cons_zero, List.set_cons_succ]) | ((with_reducible refine sched_skip ?_ ?_ ?_ ?_); rotate_left; (rfl); (exact want_not rfl rfl rfl rfl rfl); simp only [Act.put, List.setIfInBounds_toArray, List.set_cons_zero, List.set_cons_succ])
              ((with_reducible refine sched_step ?_ ?_ ?_ (fun wk k1 => ?_)); rotate_left; (rfl); (first | exact want_none rfl | exact want_some rfl rfl rfl rfl))
              have E1 := Lib.hid (X2.out.trans ((Ext.drew _).trans k1))
              have O1 := Lib.hid (own_Ext HO2.out ((Ext.drew _).trans k1))
              have hyl : y < (logB ls).length := by rw [logB_length, ← (show ls.take k = ls from HT.out), ← HB.out]; exact hy
              have c9 := own_cell O1.out y hyl
              obtain ⟨ly, hly⟩ : ∃ ly, ly = (logB ls)[y]'hyl := ⟨_, rfl⟩
              rw [← hly] at c9
              have HLY := Lib.hid hly
              clear k1 hly
              go_simp
              refine ⟨LB.ext (Ext.refl _), ?_⟩
              try simp only [Act.put, List.setIfInBounds_toArray, List.set_cons_zero, List.set_cons_succ]
              clear c9
              repeat first | ((with_reducible refine sched_free ?_ ?_ ?_ ?_ (fun wk k1 => ?_) ?_); rotate_left 2; (rfl); (first | exact want_none rfl | exact want_some rfl rfl rfl rfl); (go_simp; first | exact OkX.val); simp only [Act.put, List.setIfInBounds_toArray, List.set_cons_zero, List.set_cons_succ]) | ((with_reducible refine sched_skip ?_ ?_ ?_ ?_); rotate_left; (rfl); (exact want_not rfl rfl rfl rfl rfl); simp only [Act.put, List.setIfInBounds_toArray, List.set_cons_zero, List.set_cons_succ])
              ((with_reducible refine sched_step ?_ ?_ ?_ (fun wk k1 => ?_)); rotate_left; (rfl); (first | exact want_none rfl | exact want_some rfl rfl rfl rfl))
              have E2 := Lib.hid (E1.out.trans k1)
              have O2 := Lib.hid (own_Ext O1.out k1)
              have c16 := own_cell O2.out y hyl
              have f16 := own_free O2.out y
              clear k1 E1 O1
              go_simp
              obtain ⟨c', hne, hc'⟩ := turn_bit ly bt hb8
              rw [hc']
              refine ⟨LB.set (Nat.le_trans HX.out.size hgx), ?_⟩
              have O3 := own_set O2.out y (bv c')
              rw [bvs_set] at O3
              have E3 := Lib.hid (show Ext w (wk.setCell ⟨g, y, none⟩ (.int .u8 (c'.toNat : Int))) from LB.from E2.out (LB.set (Nat.le_trans HX.out.size hgx)))
              have R4 := Lib.hid (Rd.of_own O3)
              have hSm : ∀ r ∈ ls, r.length ≤ 4000 := fun r hr => by have := HSM.out r hr; omega
              have hhl : h < ls.length := by have := HN.out; omega
              have QA := Lib.hid (scan_turned ls hSm h hhl (k := y) (c := c') (by rw [← HS.out]; exact hSy) (by rw [← HEE.out]; omega))
              have QB := Lib.hid (fun (h4 : 4 ≤ y - S) => scan_gone ls hSm h hhl (k := y) (c := c') (by rw [← HS.out]; exact hSy) (by rw [← HEE.out]; omega) (by rw [← HS.out]; exact h4) hyl (by rw [← HLY.out]; exact fun e => hne e.symm))
              have HLL := Lib.hid (show ((logB ls).set y c').length ≤ 100000000 by rw [List.length_set, logB_length, ← (show ls.take k = ls from HT.out), ← HB.out]; omega)
              clear O3 c16 f16 O2 E2 hc' hne hSm
              try simp only [Act.put, List.setIfInBounds_toArray, List.set_cons_zero, List.set_cons_succ]
              refine sched_done (fun wk k1 => ?_)
              have E5 := Lib.hid (E3.out.trans k1)
              have R5 := Lib.hid (R4.out.ext k1)
              clear k1 E3 R4
              generalize (logB ls).set y c' = L at *
              go_wp2_with fail
              (with_reducible refine (Scan_any _ L _ R5.out HLL.out).mono ?_)
              generalize hQe : scan L = Q at *
              have HQE := Lib.hid hQe
              clear hQe
              rintro e w15 ⟨A15, n15, c15, rfl, hr15, hx15⟩
              have E6 := Lib.hid (E5.out.trans hx15)
              have R6 := Lib.hid (R5.out.ext hx15)
              have R15 := Lib.hid hr15
              obtain ⟨A16, n16, c16, hv16, hn16, hc16, _, _⟩ := hr15.open
              injection hv16 with e1 e2 e3
              subst e1 e2 e3
              have HN15 := Lib.hid hn16
              clear hr15 hx15 hn16 R5 E5
              have hsl : ∀ (W : World) (kh : IntKind), (Instr.slice 28 (.slice A k c) none (some (.int kh (h : Int))) none).run Try.prog W = .ok (.slice (subA A 0 c) h c) W := fun W kh => sl_h (A := A) (n := k) (c := c) (h := h) Try.underlying28 hkI hxI (by omega) W kh
              have RLH := Lib.hid (rdR_sub0 RL.out (k := h) (by omega))
              by_cases h4 : y - S < 4
              · have h4' : (y : Int) - (S : Int) < 4 := by omega
                have hnh : h ≤ n15 := by have := QA.out.2; have := HN15.out; omega
                have hdec : decide ((h : Int) ≤ (n15 : Int)) = true := by simp; omega
                have hsx : ∀ (W : World) (kh : IntKind), (Instr.slice 28 (.slice A15 n15 c15) none (some (.int kh (h : Int))) none).run Try.prog W = .ok (.slice (subA A15 0 c15) h c15) W := fun W kh => sl_h (A := A15) (n := n15) (c := c15) (h := h) Try.underlying28 hkI hxI (by omega) W kh
                have RXH := Lib.hid (rdR_sub0 R15.out (k := h) (by omega))
                have QA1 := Lib.hid QA.out.1
                go_wp2_with fail
                (with_reducible refine (rScan_any _ L _ R6.out HLL.out).mono ?_)
                rw [HQE.out]
                rintro e w16 ⟨A17, n17, c17, rfl, hr17, hx17⟩
                have E7 := Lib.hid (E6.out.trans hx17)
                have R16 := Lib.hid (R15.out.ext hx17)
                have RX16 := Lib.hid (RXH.out.ext hx17)
                have R17 := Lib.hid hr17
                clear hr17 hx17 R15 RXH R6 E6 QB
                go_wp2
                refine wp_region_sched Ext ext_way [(0, true), (1, true), (2, false), (3, true), (4, true), (5, true), (6, true), (7, true), (8, true), (9, true), (10, true), (11, true), (12, true), (13, true), (14, true), (15, true), (16, true), (17, true), (18, true), (19, true), (20, true), (21, false), (22, true), (23, true)] (by kernel_rfl) (by kernel_rfl) (fun _ _ _ _ _ h => h) ?_
                repeat first | ((with_reducible refine sched_free ?_ ?_ ?_ ?_ (fun wk k1 => ?_) ?_); rotate_left 2; (rfl); (first | exact want_none rfl | exact want_some rfl rfl rfl rfl); (go_simp; first | exact OkX.val); simp only [Act.put, List.setIfInBounds_toArray, List.set_cons_zero, List.set_cons_succ]) | ((with_reducible refine sched_skip ?_ ?_ ?_ ?_); rotate_left; (rfl); (exact want_not rfl rfl rfl rfl rfl); simp only [Act.put, List.setIfInBounds_toArray, List.set_cons_zero, List.set_cons_succ])
                ((with_reducible refine sched_step ?_ ?_ ?_ (fun wk k1 => ?_)); rotate_left; (rfl); (first | exact want_none rfl | exact want_some rfl rfl rfl rfl))
                have F0 := Lib.hid ((Ext.drew _).trans k1)
                go_simp
                (with_reducible refine (rows_any _ _ Q Q _ (R16.out.ext F0.out) (R17.out.ext F0.out)).mono ?_)
                rw [decide_eq_true rfl]
                rintro e w18 ⟨rfl, hx18⟩
                refine ⟨hx18, ?_⟩
                have F1 := Lib.hid (F0.out.trans hx18)
                clear k1 hx18 F0
                try simp only [Act.put, List.setIfInBounds_toArray, List.set_cons_zero, List.set_cons_succ]
                repeat first | ((with_reducible refine sched_free ?_ ?_ ?_ ?_ (fun wk k1 => ?_) ?_); rotate_left 2; (rfl); (first | exact want_none rfl | exact want_some rfl rfl rfl rfl); (go_simp; first | exact OkX.val | (rw [hsx]; exact OkX.val) | (rw [hsl]; exact OkX.val)); simp only [Act.put, List.setIfInBounds_toArray, List.set_cons_zero, List.set_cons_succ]) | ((with_reducible refine sched_skip ?_ ?_ ?_ ?_); rotate_left; (rfl); (exact want_not rfl rfl rfl rfl rfl); simp only [Act.put, List.setIfInBounds_toArray, List.set_cons_zero, List.set_cons_succ])
                ((with_reducible refine sched_step ?_ ?_ ?_ (fun wk k1 => ?_)); rotate_left; (rfl); (first | exact want_none rfl | exact want_some rfl rfl rfl rfl))
                have F2 := Lib.hid (F1.out.trans k1)
                go_simp
                (with_reducible refine (rows_any _ _ (Q.take h) (ls.take h) _ (RX16.out.ext F2.out) (RLH.out.ext (E7.out.trans F2.out))).mono ?_)
                rw [decide_eq_true QA1.out]
                rintro e w19 ⟨rfl, hx19⟩
                refine ⟨hx19, ?_⟩
                have F3 := Lib.hid (F2.out.trans hx19)
                clear k1 hx19 F2 F1
                try simp only [Act.put, List.setIfInBounds_toArray, List.set_cons_zero, List.set_cons_succ]
                repeat first | ((with_reducible refine sched_free ?_ ?_ ?_ ?_ (fun wk k1 => ?_) ?_); rotate_left 2; (rfl); (first | exact want_none rfl | exact want_some rfl rfl rfl rfl); (go_simp; first | exact OkX.val); simp only [Act.put, List.setIfInBounds_toArray, List.set_cons_zero, List.set_cons_succ]) | ((with_reducible refine sched_skip ?_ ?_ ?_ ?_); rotate_left; (rfl); (exact want_not rfl rfl rfl rfl rfl); simp only [Act.put, List.setIfInBounds_toArray, List.set_cons_zero, List.set_cons_succ])
                refine sched_done (fun wk k1 => ?_)
                go_wp2
                go_ret
                exact ⟨rfl, E7.out.trans (F3.out.trans k1)⟩
              · have hQ := QB.out (by omega)
                have h4' : ¬ (y : Int) - (S : Int) < 4 := by omega
                have hnh : n15 = h := by rw [HN15.out, hQ, List.length_take]; omega
                subst hnh
                have HQ := Lib.hid hQ
                clear hQ
                have HBS := Lib.hid (show ((bulk Q : Nat) : Int) = (S : Int) by rw [HQ.out, ← HS.out])
                rw [HBS.out]
                go_wp2_with fail
                (with_reducible refine (rows_any _ _ Q (ls.take n15) _ R15.out (RLH.out.ext E6.out)).mono ?_)
                rw [decide_eq_true HQ.out]
                rintro e w17 ⟨rfl, hx17⟩
                go_wp2
                go_ret
                exact ⟨rfl, E6.out.trans hx17⟩

theorem own : ownKnob Try.prog.godebug = none := by kernel_rfl
theorem laidOut : laidOutB Try.prog = true := by kernel_rfl
set_option maxRecDepth 100000 in
theorem lifted (os : Os) (started : os.Started) (H : Type) (enc : TypeId × Value → H) :
    ReturnsInHanded {} Try.checked os 6 .any (Rows.framesTurnedSpec.pre6 enc Try.prog Try.f6 Rows.framesTurnedRow.domain false) (Rows.framesTurnedSpec.post enc Try.prog Try.f6 false true false false) := by
  refine returnsInHanded_of_change (C := Try.checked) own started (by kernel_rfl) Try.func6
    (ChangeSpec.witness6 (enc := enc) (C := Try.checked) false ⟨#[], #[.slice none 0 0, .int .i64 0, .int .i64 0], []⟩ 8 (by kernel_rfl) (by kernel_rfl) (by kernel_rfl) (by kernel_rfl)) ?_
  intro W base args ds gs before hval0 hW hcnd _
  have hval : ∀ (j : Nat) t v, Try.f6.params[j]? = some t → args[j]? = some v → Value.okWide Try.prog W .any base t v := hval0
  have hW' := hW
  obtain ⟨p, q, hA0, hV, rfl, hfz, hnd⟩ := hW
  have hA : DataW.TrodAll enc Try.prog W 0 (fun _ => true) true Try.f6.params.toList args.toList ds p := hA0
  rw [Try.params6] at hA hval
  obtain ⟨v0, vs0, d0, ds0, p0, q0, hargs, rfl, rfl, h0, r0⟩ := trodAll_cons hA
  obtain ⟨v1, vs1, d1, ds1, p1, q1, rfl, rfl, rfl, h1, r1⟩ := trodAll_cons r0
  obtain ⟨v2, vs2, d2, ds2, p2, q2, rfl, rfl, rfl, h2, r2⟩ := trodAll_cons r1
  obtain ⟨rfl, rfl, rfl⟩ := trodAll_nil r2
  obtain rfl : args = #[v0, v1, v2] := by cases args; simp_all
  obtain ⟨rfl, rfl⟩ := trodVars_none hV
  have hlt0 : ∀ x ∈ p0, x.block < W.heap.size := fun x hx => by simpa using hW'.lt x (by simp [hx])
  obtain ⟨l0, rd0, wf0⟩ := open_brows Try.underlying28 Try.underlying22 Try.underlying5 (by kernel_rfl) (by kernel_rfl) (hval 0 28 v0 rfl rfl) h0
  obtain ⟨a1, rfl, rfl, rfl, w1⟩ := open_int Try.underlying3 (hval 1 3 v1 rfl rfl) h1
  obtain ⟨a2, rfl, rfl, rfl, w2⟩ := open_int Try.underlying3 (hval 2 3 v2 rfl rfl) h2
  clear hA0 hval0
  refine (walk W v0 l0 rd0 wf0 a1 w1 a2 w2).mono fun e W' ⟨he, bel⟩ => ?_
  subst he
  exact ⟨_, rfl, _, _, _, [], _, [], hW', trodAll_mk1 (shut_bool Try.underlying4 _), (trodAll_cons_mk (Below.trod laidOut (by kernel_rfl) (of_decide_eq_true (by kernel_rfl)) h0 bel hlt0) (trodAll_cons_mk (shut_int Try.underlying3 w1) (trodAll_cons_mk (shut_int Try.underlying3 w2) trodAll_mk0))), rfl, bel.frame _, fun h => by cases h⟩

theorem over : Rows.framesTurnedRow.holds Try.pinned (OpenSpec.ofChange Rows.framesTurnedSpec) :=
  OpenClaim.holds_of_wide 6 Try.f6 rfl rfl rfl rfl rfl rfl rfl ⟨rfl, rfl, rfl, rfl, rfl⟩ rfl rfl rfl rfl rfl (by kernel_rfl) Try.func6 (by kernel_rfl)
    (of_decide_eq_true (by kernel_rfl)) (by unfold Func.isWrapper; first | (rw [if_pos (by decide +kernel)]; kernel_rfl) | (rw [if_neg (by decide +kernel)]; exact ⟨rfl, rfl⟩))
    (fun os started H enc _ => lifted os started H enc)

theorem proved : Rows.FramesTurnedSaid := over
#print axioms proved
end Go.Proofs.Ytcofjimjbobdgaa.FramesTurned
