/- The law DiskStays holds at every input: what was synced stays a front of the log, whatever is appended, and however often the power goes; a swap is whole, or not done. No condition. -/
import Derived.Test.YtpinpljmabhdhaaKnown3
import Derived.Test.YtpinpljmabhdhaaOpenR
import Derived.Test.YtpinpljmabhdhaaSched
import Derived.WalkLawsBesides
import Derived.JoinedOf
import Derived.JoinedAt
import Derived.RowKit3
import Derived.Lib.SmallJoins
namespace Go.Proofs.Ytpinpljmabhdhaa.DiskStays
open Go.ChangeShapes Go.WideShapes Go.ChangeAt Go.RowKit Go.Joins

theorem ExtW : Way Ext := ⟨fun h => h, fun h k => h.trans k⟩

/-- A disk whose power is on, with a in front of its log, synced. -/
structure Ts (a : List UInt8) (s : DS) (k : Nat) : Prop where
  room : s.room = 100000
  off : s.off = false
  left : s.left = 0
  snap : s.snap = []
  log : ∃ X, s.log = a ++ X ∧ X.length ≤ 300 * k
  syn : (a.length : Int) ≤ s.syn

section
variable {a : List UInt8} {s : DS} {k : Nat}

theorem Ts.more (h : Ts a s k) : Ts a s (k + 1) := by
  obtain ⟨X, h1, h2⟩ := h.log
  exact ⟨h.room, h.off, h.left, h.snap, ⟨X, h1, by omega⟩, h.syn⟩

theorem first (ha : a.length ≤ 300) : appE (nw 100000) a = 0 ∧ sncE (app (nw 100000) a) = 0 ∧ Ts a (snc (app (nw 100000) a)) 0 := by
  have hr : refusal (nw 100000) (size (nw 100000) + a.length) = 0 := by
    unfold refusal size nw
    simp only
    rw [if_neg (by simp), if_neg (by simp; omega)]
  have e1 : app (nw 100000) a = fin { nw 100000 with log := a } := by simp only [app, hr, if_true]; rfl
  refine ⟨by simp only [appE, hr, if_true]; rfl, by rw [e1]; rfl, ?_⟩
  rw [e1]
  refine ⟨rfl, rfl, rfl, rfl, ⟨[], by simp [snc, syncs, fin, drw, nw], by simp⟩, ?_⟩
  simp [snc, syncs, fin, drw, nw]

theorem app_T (h : Ts a s k) (ha : a.length ≤ 300) (hk : k < 20) (l : List UInt8) (hl : l.length ≤ 300) : appE s l = 0 ∧ Ts a (app s l) (k + 1) := by
  obtain ⟨X, h1, h2⟩ := h.log
  have hr : refusal s (size s + l.length) = 0 := by
    unfold refusal size
    rw [h.off, h.room, h.snap, h1, if_neg (by simp), if_neg (by simp; omega)]
  have hf : finE s = 0 := by simp [finE, h.left]
  refine ⟨by simp only [appE, hr, if_true, hf], ?_⟩
  have e1 : app s l = fin { s with log := s.log ++ l } := by simp only [app, hr, if_true]
  rw [e1]
  refine ⟨h.room, by simp [fin, drw, h.left], by simp [fin, drw, h.left], h.snap, ⟨X ++ l, by simp [fin, drw, h1], by simp only [List.length_append]; omega⟩, h.syn⟩

theorem crs_T (h : Ts a s k) (ok : s.Ok) (p : Int) : Ts a (crs s p) k := by
  obtain ⟨X, h1, h2⟩ := h.log
  have hk : 0 ≤ kept s p := Int.emod_nonneg p (by have := ok.syn1; omega)
  have hs := h.syn
  obtain ⟨m, hm⟩ : ∃ m, (s.syn + kept s p).toNat = a.length + m := ⟨(s.syn + kept s p).toNat - a.length, by omega⟩
  have e : (crs s p).log = a ++ X.take m := by
    show s.log.take (s.syn + kept s p).toNat = _
    rw [hm, h1, List.take_append, List.take_of_length_le (by omega), Nat.add_sub_cancel_left]
  refine ⟨h.room, rfl, rfl, h.snap, ⟨_, e, by rw [List.length_take]; omega⟩, ?_⟩
  show (a.length : Int) ≤ ((crs s p).log.length : Int)
  rw [e, List.length_append]
  omega

theorem swp_yes (h : Ts a s k) (l : List UInt8) (hl : l.length ≤ 300) (q : Int) (hq : q ≠ 1) : swpE (stp s q) l = 0 ∧ (swp (stp s q) l).log = [] ∧ (swp (stp s q) l).snap = l := by
  have hr : refusal (stp s q) l.length = 0 := by
    unfold refusal stp
    simp only [h.off, h.room]
    rw [if_neg (by simp), if_neg (by omega)]
  have hs : swaps (stp s q) l = { stp s q with log := [], syn := 0, snap := l } := by
    unfold swaps
    rw [if_neg (by simp [stp, hq])]
  have hf : finE (stp s q) = 0 := by simp [finE, stp, hq]
  refine ⟨by simp only [swpE, hr, if_true, hf], ?_, ?_⟩
  · simp only [swp, hr, if_true, hs]; rfl
  · simp only [swp, hr, if_true, hs]; rfl
theorem swp_no (h : Ts a s k) (l : List UInt8) (hl : l.length ≤ 300) : swpE (stp s 1) l = 17 ∧ (swp (stp s 1) l).log = s.log ∧ (swp (stp s 1) l).snap = [] ∧ (swp (stp s 1) l).off = true := by
  have hr : refusal (stp s 1) l.length = 0 := by
    unfold refusal stp
    simp only [h.off, h.room]
    rw [if_neg (by simp), if_neg (by omega)]
  have hs : swaps (stp s 1) l = stp s 1 := by
    unfold swaps
    rw [if_pos (by simp [stp])]
  have hf : finE (stp s 1) = 17 := by simp [finE, stp]
  refine ⟨by simp only [swpE, hr, if_true, hf], ?_, ?_, ?_⟩
  · simp only [swp, hr, if_true, hs]; rfl
  · simp only [swp, hr, if_true, hs]; exact h.snap
  · simp only [swp, hr, if_true, hs]; simp [fin, drw, stp]
end

def Rel (w wr : World) (R : Nat) (a : List UInt8) (k : Nat) : Prop := Ext w wr ∧ ∃ L s, Dk wr w.heap.size R L s ∧ Ts a s k

set_option maxRecDepth 100000 in
set_option maxHeartbeats 8000000 in
theorem walk (w : World) (va : Value) (a : List UInt8) (ra : Rd w va (bvs a)) (v0 : Value) (rows : List Value) (r0 : Rd w v0 rows) (hrows : ∀ u ∈ rows, ∃ l : List UInt8, Rd w u (bvs l)) (v1 : Value) (qs : List Int) (r1 : Rd w v1 (qs.map (Value.int .i64))) (_ : ∀ z ∈ qs, (Lit.int .i64 z).wf = true)
    (vp : Value) (sp : List UInt8) (rp : Rd w vp (bvs sp)) (stop : Int) (_ : (Lit.int .i64 stop).wf = true) :
    Calls Try.prog 5 #[va, v0, v1, vp, .int .i64 stop] w fun e w' => e = .returned (.bool true) ∧ Below w.heap.size w w' := by
  have RA := Lib.hid ra
  obtain ⟨Aa, ca, rfl, _, _⟩ := ra.len
  have RP := Lib.hid rp
  obtain ⟨Ap, cp, rfl, _, _⟩ := rp.len
  simp only [bvs_length] at *
  obtain ⟨A1, c1, rfl, hc1, hm1, hcu⟩ := r1
  have Hcu := Lib.hid hcu
  rw [List.length_map] at *
  obtain ⟨A0, c0, rfl, hc0, hm0, hru⟩ := r0
  have Hru := Lib.hid hru
  have HRows := Lib.hid hrows
  unfold maxLen at hm1 hm0
  clear hcu hru hrows ra rp
  by_cases h1 : (300 : Int) < a.length
  · go_enter Try.func5, Try.ntmps5
    go_wp2_with fail
    refine (known_any _).mono ?_
    rintro e w1 ⟨rfl, hx1⟩
    have E1 := Lib.hid hx1
    clear hx1
    go_wp2
    go_ret
    exact ⟨rfl, E1.out⟩
  by_cases h2 : (300 : Int) < sp.length
  · go_enter Try.func5, Try.ntmps5
    go_wp2_with fail
    refine (known_any _).mono ?_
    rintro e w1 ⟨rfl, hx1⟩
    have E1 := Lib.hid hx1
    clear hx1
    go_wp2
    go_ret
    exact ⟨rfl, E1.out⟩
  have ha300 : a.length ≤ 300 := by omega
  have hs300 : sp.length ≤ 300 := by omega
  obtain ⟨e1, e2, e3⟩ := first ha300
  have EA := Lib.hid e1
  have ES := Lib.hid e2
  have HT := Lib.hid e3
  clear e1 e2 e3
  go_enter Try.func5, Try.ntmps5
  go_wp2_with fail
  refine (known_any _).mono ?_
  rintro e w1 ⟨rfl, hx1⟩
  have E1 := Lib.hid hx1
  clear hx1
  go_wp2_with fail
  refine (New_any 100000 _ (by decide) (by decide)).mono ?_
  rintro e w2 ⟨rfl, hx2, hd2, hlt⟩
  have hs1 := E1.out.size
  have E2 := Lib.hid (E1.out.trans hx2)
  have D2 := Lib.hid (hd2.base hs1)
  generalize w1.heap.size = R at *
  clear hx2 hd2 E1 hs1 hlt
  go_wp2_with fail
  refine (Append_any D2.out _ a (RA.out.ext E2.out) (by omega)).mono ?_
  rw [EA.out]
  rintro e w3 hD
  obtain ⟨rfl, hx, L3, hd⟩ := hD.next E2.out D2.out
  have E3 := Lib.hid hx
  have D3 := Lib.hid hd
  clear hD hx hd
  go_wp2_with fail
  refine (Sync_any D3.out).mono ?_
  rw [ES.out]
  rintro e w4 hD
  obtain ⟨rfl, hx, L4, hd⟩ := hD.next E3.out D3.out
  have HS := Lib.hid (show Rel w w4 R a 0 from ⟨hx, L4, _, hd, HT.out⟩)
  clear hD hx hd HT EA ES E2 D2 E3 D3
  go_wp2
  go_loopw [13] (fun i wr => ∃ k : Nat, k ≤ rows.length ∧ k ≤ 20 ∧ i = .int .i64 k ∧ Rel w wr R a k) (fun i _ => 20 - (intOf i).toNat)
  case atStart => exact ⟨0, Nat.zero_le _, Nat.zero_le _, rfl, HS.out⟩
  case round =>
    obtain ⟨k, hk, hk30, rfl, hE, L, s, hD, hP⟩ := hrel
    have HE := Lib.hid hE
    have HD := Lib.hid hD
    have HP := Lib.hid hP
    clear hE hD hP HS
    by_cases hlt : k < rows.length ∧ k < 20
    · obtain ⟨hlt, hl3⟩ := hlt
      obtain ⟨ad, rfl, hab', hcs⟩ := Hru.out (by omega)
      have hcw : w.cell? (ad.add k) = some rows[k] := hcs k _ (by simp [hlt])
      have hadb : (ad.add k).block < w.heap.size := by rw [add_block]; exact hab'
      obtain ⟨l, hl⟩ := HRows.out rows[k] (List.getElem_mem hlt)
      generalize rows[k] = u at *
      have RU := Lib.hid hl
      obtain ⟨Au, cu, rfl, _, _⟩ := hl.len
      rw [bvs_length] at *
      have hkeep : ∀ w', Ext w w' → w'.cell? (ad.add k) = some (.slice Au l.length cu) := fun w' h => (World.cell?_of_block (h.block _ hadb)).trans hcw
      have cw := hkeep _ HE.out
      have i0 : (0 : Int) ≤ (k : Int) := by omega
      have i1 : (k : Int) < (rows.length : Int) := by omega
      have i2 : (k : Int) < 20 := by omega
      clear hcs hcw hadb hkeep hl
      by_cases hbig : (300 : Int) < l.length
      · go_wp2
        go_roundw
        case rel => exact ⟨k + 1, by omega, by omega, by go_num, HE.out, _, _, HD.out, HP.out.more⟩
        case measure => simp [intOf]; omega
      · obtain ⟨e1, e2⟩ := app_T HP.out ha300 hl3 l (by omega)
        have EV := Lib.hid e1
        have P3 := Lib.hid e2
        clear e1 e2
        by_cases hp : k < qs.length
        · obtain ⟨aq, rfl, haq, hqs⟩ := Hcu.out (by omega)
          have hqw : w.cell? (aq.add k) = some (.int .i64 qs[k]) := hqs k _ (by simp [hp])
          have haqb : (aq.add k).block < w.heap.size := by rw [add_block]; exact haq
          have hkq : ∀ w', Ext w w' → w'.cell? (aq.add k) = some (.int .i64 qs[k]) := fun w' h => (World.cell?_of_block (h.block _ haqb)).trans hqw
          have ip : (k : Int) < (qs.length : Int) := by omega
          generalize qs[k] = x at *
          have KQ := Lib.hid hkq
          clear hqs hqw haqb hkq
          by_cases hodd : (x.tmod 2 == 1) = true
          · skip
            go_wp2_with fail
            refine (Append_any HD.out _ l (RU.out.ext HE.out) (by omega)).mono ?_
            rw [EV.out]
            rintro e w3 hD
            obtain ⟨rfl, hx, L3, hd⟩ := hD.next HE.out HD.out
            have E3 := Lib.hid hx
            have D3 := Lib.hid hd
            clear hD hx hd cw
            have cq := KQ.out _ E3.out
            go_wp2_with fail
            refine (Crash_any D3.out _).mono ?_
            rintro e w4 hD
            have P4 := Lib.hid (fun p => crs_T P3.out D3.out.ok p)
            obtain ⟨rfl, hx, L4, hd⟩ := hD.next E3.out D3.out
            have E4 := Lib.hid hx
            have D4 := Lib.hid hd
            clear hD hx hd cq
            go_wp2_with fail
            refine (Log_any D4.out).mono ?_
            rintro e w5 ⟨v5, rfl, ho, hx5⟩
            obtain ⟨X, hX, hXl⟩ := (P4.out _).log
            rw [hX] at ho
            have D5 := Lib.hid (D4.out.ext hx5)
            have E5 := Lib.hid (E4.out.trans hx5)
            obtain ⟨A5, c5, rfl, hc5, hm5⟩ := (Rd.of_own ho).len
            rw [bvs_length] at *
            have hfr := Rd.of_own (own_front ho (m := a.length) (by rw [List.length_append]; omega))
            have etk : (bvs (a ++ X)).take a.length = bvs a := by rw [bvs_append, ← bvs_length a, List.take_left]
            rw [etk] at hfr
            have hcv : ∀ n, (convert 26 9 (.slice A5 a.length c5)).run Try.prog (w5.drewN n) = .ok (.string ⟨a.toArray⟩) (w5.drewN n) := fun n => (hfr.ext (ext_drewN w5 n)).str
            have hca : ∀ n, (convert 26 9 (.slice Aa a.length ca)).run Try.prog (w5.drewN n) = .ok (.string ⟨a.toArray⟩) (w5.drewN n) := fun n => (RA.out.ext (E5.out.trans (ext_drewN w5 n))).str
            have hlen : a.length ≤ (a ++ X).length := by rw [List.length_append]; omega
            generalize (a ++ X).length = N5 at *
            have hd5 : decide (N5 < a.length) = false := by simp; omega
            have hlc : (a.length : Int) ≤ (c5 : Int) := by omega
            clear ho hx5 hX hXl hfr etk
            go_wp2
            go_quiet (fail)
            go_wp2
            go_roundw
            case rel => exact ⟨k + 1, by omega, by omega, by go_num, E5.out.trans (ext_drewN w5 _), _, _, D5.out.ext (ext_drewN w5 _), (P4.out _)⟩
            case measure => simp [intOf]; omega
          have hodd : (x.tmod 2 == 1) = false := by simpa using hodd
          go_wp2_with fail
          refine (Append_any HD.out _ l (RU.out.ext HE.out) (by omega)).mono ?_
          rw [EV.out]
          rintro e w3 hD
          obtain ⟨rfl, hx, L3, hd⟩ := hD.next HE.out HD.out
          have E3 := Lib.hid hx
          have D3 := Lib.hid hd
          clear hD hx hd cw
          have cq := KQ.out _ E3.out
          go_wp2_with fail
          refine (Log_any D3.out).mono ?_
          rintro e w5 ⟨v5, rfl, ho, hx5⟩
          obtain ⟨X, hX, hXl⟩ := P3.out.log
          rw [hX] at ho
          have D5 := Lib.hid (D3.out.ext hx5)
          have E5 := Lib.hid (E3.out.trans hx5)
          obtain ⟨A5, c5, rfl, hc5, hm5⟩ := (Rd.of_own ho).len
          rw [bvs_length] at *
          have hfr := Rd.of_own (own_front ho (m := a.length) (by rw [List.length_append]; omega))
          have etk : (bvs (a ++ X)).take a.length = bvs a := by rw [bvs_append, ← bvs_length a, List.take_left]
          rw [etk] at hfr
          have hcv : ∀ n, (convert 26 9 (.slice A5 a.length c5)).run Try.prog (w5.drewN n) = .ok (.string ⟨a.toArray⟩) (w5.drewN n) := fun n => (hfr.ext (ext_drewN w5 n)).str
          have hca : ∀ n, (convert 26 9 (.slice Aa a.length ca)).run Try.prog (w5.drewN n) = .ok (.string ⟨a.toArray⟩) (w5.drewN n) := fun n => (RA.out.ext (E5.out.trans (ext_drewN w5 n))).str
          have hlen : a.length ≤ (a ++ X).length := by rw [List.length_append]; omega
          generalize (a ++ X).length = N5 at *
          have hd5 : decide (N5 < a.length) = false := by simp; omega
          have hlc : (a.length : Int) ≤ (c5 : Int) := by omega
          clear ho hx5 hX hXl hfr etk
          go_wp2
          go_quiet (fail)
          go_wp2
          go_roundw
          case rel => exact ⟨k + 1, by omega, by omega, by go_num, E5.out.trans (ext_drewN w5 _), _, _, D5.out.ext (ext_drewN w5 _), P3.out⟩
          case measure => simp [intOf]; omega
        · have ip : ¬ (k : Int) < (qs.length : Int) := by omega
          go_wp2_with fail
          refine (Append_any HD.out _ l (RU.out.ext HE.out) (by omega)).mono ?_
          rw [EV.out]
          rintro e w3 hD
          obtain ⟨rfl, hx, L3, hd⟩ := hD.next HE.out HD.out
          have E3 := Lib.hid hx
          have D3 := Lib.hid hd
          clear hD hx hd cw
          go_wp2_with fail
          refine (Log_any D3.out).mono ?_
          rintro e w5 ⟨v5, rfl, ho, hx5⟩
          obtain ⟨X, hX, hXl⟩ := P3.out.log
          rw [hX] at ho
          have D5 := Lib.hid (D3.out.ext hx5)
          have E5 := Lib.hid (E3.out.trans hx5)
          obtain ⟨A5, c5, rfl, hc5, hm5⟩ := (Rd.of_own ho).len
          rw [bvs_length] at *
          have hfr := Rd.of_own (own_front ho (m := a.length) (by rw [List.length_append]; omega))
          have etk : (bvs (a ++ X)).take a.length = bvs a := by rw [bvs_append, ← bvs_length a, List.take_left]
          rw [etk] at hfr
          have hcv : ∀ n, (convert 26 9 (.slice A5 a.length c5)).run Try.prog (w5.drewN n) = .ok (.string ⟨a.toArray⟩) (w5.drewN n) := fun n => (hfr.ext (ext_drewN w5 n)).str
          have hca : ∀ n, (convert 26 9 (.slice Aa a.length ca)).run Try.prog (w5.drewN n) = .ok (.string ⟨a.toArray⟩) (w5.drewN n) := fun n => (RA.out.ext (E5.out.trans (ext_drewN w5 n))).str
          have hlen : a.length ≤ (a ++ X).length := by rw [List.length_append]; omega
          generalize (a ++ X).length = N5 at *
          have hd5 : decide (N5 < a.length) = false := by simp; omega
          have hlc : (a.length : Int) ≤ (c5 : Int) := by omega
          clear ho hx5 hX hXl hfr etk
          go_wp2
          go_quiet (fail)
          go_wp2
          go_roundw
          case rel => exact ⟨k + 1, by omega, by omega, by go_num, E5.out.trans (ext_drewN w5 _), _, _, D5.out.ext (ext_drewN w5 _), P3.out⟩
          case measure => simp [intOf]; omega
    · by_cases i1 : (k : Int) < (rows.length : Int)
      · have i2 : ¬ (k : Int) < 20 := by omega
        go_wp2_with fail
        refine (Log_any HD.out).mono ?_
        rintro e w3 ⟨v3, rfl, ho, hx3⟩
        have hcv := (Rd.of_own ho).str
        have D3 := Lib.hid (HD.out.ext hx3)
        have E3 := Lib.hid (HE.out.trans hx3)
        clear ho hx3
        go_wp2_with fail
        refine (within_some stop 4 4 _ rfl (by decide)).mono ?_
        rintro e w' ⟨y, rfl, hy, rfl⟩
        go_wp2_with fail
        refine (Stop_any D3.out _ (by omega)).mono ?_
        rintro e w4 hD
        obtain ⟨rfl, hx, L4, hd⟩ := hD.next E3.out D3.out
        have E4 := Lib.hid hx
        have D4 := Lib.hid hd
        clear hD hx hd hcv
        by_cases hy0 : y = 0
        · subst hy0
          obtain ⟨e1, e2, e3, e4⟩ := swp_no HP.out sp hs300
          have EV := Lib.hid e1
          have EL := Lib.hid e2
          have ES := Lib.hid e3
          have EO := Lib.hid e4
          clear e1 e2 e3 e4
          go_wp2_with fail
          refine (Swap_any D4.out _ sp (RP.out.ext E4.out) (by omega)).mono ?_
          rw [show (1 : Int) + ((0 : Nat) : Int) = 1 from rfl, EV.out]
          rintro e w5 hD
          obtain ⟨rfl, hx, L5, hd⟩ := hD.next E4.out D4.out
          have E5 := Lib.hid hx
          have D5 := Lib.hid hd
          clear hD hx hd
          go_wp2_with fail
          refine (Dead_any D5.out).mono ?_
          rw [EO.out]
          rintro e w' ⟨rfl, rfl⟩
          go_wp2_with fail
          refine (Log_any D5.out).mono ?_
          rintro e w6 ⟨v6, rfl, ho, hx6⟩
          have hcv := (Rd.of_own ho).str
          rw [EL.out] at hcv
          have D6 := Lib.hid (D5.out.ext hx6)
          have E6 := Lib.hid (E5.out.trans hx6)
          clear ho hx6
          go_wp2_with fail
          refine (Snap_any D6.out).mono ?_
          rw [ES.out]
          rintro e w7 ⟨v7, rfl, ho, hx7⟩
          obtain ⟨A7, c7, rfl, _⟩ := (Rd.of_own ho).len
          have E7 := Lib.hid (E6.out.trans hx7)
          clear ho hx7 hcv
          go_wp2
          go_ret
          exact ⟨rfl, E7.out⟩
        · obtain ⟨e1, e2, e3⟩ := swp_yes HP.out sp hs300 (1 + (y : Int)) (by omega)
          have EV := Lib.hid e1
          have EL := Lib.hid e2
          have ES := Lib.hid e3
          have hy1 : (1 : Int) < 1 + (y : Int) := by omega
          clear e1 e2 e3
          go_wp2_with fail
          refine (Swap_any D4.out _ sp (RP.out.ext E4.out) (by omega)).mono ?_
          rw [EV.out]
          rintro e w5 hD
          obtain ⟨rfl, hx, L5, hd⟩ := hD.next E4.out D4.out
          have E5 := Lib.hid hx
          have D5 := Lib.hid hd
          clear hD hx hd
          go_wp2
          refine wp_region_sched Ext ExtW [(0, true), (1, true), (2, true), (3, true), (4, false), (5, true), (6, true), (7, true), (8, true), (9, true), (12, true), (13, true), (10, false), (11, true), (14, true), (15, true), (16, true)] (by kernel_rfl) (by kernel_rfl) (fun _ _ _ _ _ h => h) ?_
          repeat first | ((with_reducible refine sched_free ?_ ?_ ?_ ?_ (fun wk k1 => ?_) ?_); rotate_left 2; (rfl); (first | exact want_none rfl | exact want_some rfl rfl rfl rfl); (go_simp; first | exact OkX.val); simp only [Act.put, List.setIfInBounds_toArray, List.set_cons_zero, List.set_cons_succ]) | ((with_reducible refine sched_skip ?_ ?_ ?_ ?_); rotate_left; (rfl); (exact want_not rfl rfl rfl rfl rfl); simp only [Act.put, List.setIfInBounds_toArray, List.set_cons_zero, List.set_cons_succ])
          ((with_reducible refine sched_step ?_ ?_ ?_ (fun wk k1 => ?_)); rotate_left; (rfl); (first | exact want_none rfl | exact want_some rfl rfl rfl rfl))
          have X1 := Lib.hid ((Ext.drew w5).trans k1)
          clear k1
          go_simp
          refine (Log_any (D5.out.ext X1.out)).mono ?_
          rw [EL.out]
          rintro e w6 ⟨v6, rfl, ho, hx6⟩
          obtain ⟨A6, c6, rfl, _⟩ := (Rd.of_own ho).len
          refine ⟨hx6, ?_⟩
          have X2 := Lib.hid (X1.out.trans hx6)
          clear ho hx6
          try simp only [Act.put, List.setIfInBounds_toArray, List.set_cons_zero, List.set_cons_succ]
          have hca : ∀ w', Ext w6 w' → (convert 26 9 (.slice Ap sp.length cp)).run Try.prog w' = .ok (.string ⟨sp.toArray⟩) w' := fun w' h => (RP.out.ext ((E5.out.trans X2.out).trans h)).str
          repeat first | ((with_reducible refine sched_free ?_ ?_ ?_ ?_ (fun wk k1 => ?_) ?_); rotate_left 2; (rfl); (first | exact want_none rfl | exact want_some rfl rfl rfl rfl); (go_simp; first | exact OkX.val | (go_simp; rw [hca _ (by assumption)]; exact OkX.val)); simp only [Act.put, List.setIfInBounds_toArray, List.set_cons_zero, List.set_cons_succ]) | ((with_reducible refine sched_skip ?_ ?_ ?_ ?_); rotate_left; (rfl); (exact want_not rfl rfl rfl rfl rfl); simp only [Act.put, List.setIfInBounds_toArray, List.set_cons_zero, List.set_cons_succ])
          ((with_reducible refine sched_step ?_ ?_ ?_ (fun wk k1 => ?_)); rotate_left; (rfl); (first | exact want_none rfl | exact want_some rfl rfl rfl rfl))
          have X3 := Lib.hid (X2.out.trans k1)
          clear k1
          go_simp
          refine (Snap_any (D5.out.ext X3.out)).mono ?_
          rw [ES.out]
          rintro e w7 ⟨v7, rfl, ho, hx7⟩
          refine ⟨hx7, ?_⟩
          have X4 := Lib.hid (X3.out.trans hx7)
          have R7 := Lib.hid (Rd.of_own ho)
          clear ho hx7
          try simp only [Act.put, List.setIfInBounds_toArray, List.set_cons_zero, List.set_cons_succ]
          have hcb : ∀ w', Ext w7 w' → (convert 26 9 v7).run Try.prog w' = .ok (.string ⟨sp.toArray⟩) w' := fun w' h => (R7.out.ext h).str
          repeat first | ((with_reducible refine sched_free ?_ ?_ ?_ ?_ (fun wk k1 => ?_) ?_); rotate_left 2; (rfl); (first | exact want_none rfl | exact want_some rfl rfl rfl rfl); (go_simp; first | exact OkX.val | (go_simp; rw [hcb _ (by assumption)]; exact OkX.val)); simp only [Act.put, List.setIfInBounds_toArray, List.set_cons_zero, List.set_cons_succ]) | ((with_reducible refine sched_skip ?_ ?_ ?_ ?_); rotate_left; (rfl); (exact want_not rfl rfl rfl rfl rfl); simp only [Act.put, List.setIfInBounds_toArray, List.set_cons_zero, List.set_cons_succ])
          refine sched_done (fun wk k1 => ?_)
          have E8 := Lib.hid ((E5.out.trans X4.out).trans k1)
          clear k1 hca hcb
          go_wp2
          go_ret
          exact ⟨rfl, E8.out⟩
      · skip
        go_wp2_with fail
        refine (Log_any HD.out).mono ?_
        rintro e w3 ⟨v3, rfl, ho, hx3⟩
        have hcv := (Rd.of_own ho).str
        have D3 := Lib.hid (HD.out.ext hx3)
        have E3 := Lib.hid (HE.out.trans hx3)
        clear ho hx3
        go_wp2_with fail
        refine (within_some stop 4 4 _ rfl (by decide)).mono ?_
        rintro e w' ⟨y, rfl, hy, rfl⟩
        go_wp2_with fail
        refine (Stop_any D3.out _ (by omega)).mono ?_
        rintro e w4 hD
        obtain ⟨rfl, hx, L4, hd⟩ := hD.next E3.out D3.out
        have E4 := Lib.hid hx
        have D4 := Lib.hid hd
        clear hD hx hd hcv
        by_cases hy0 : y = 0
        · subst hy0
          obtain ⟨e1, e2, e3, e4⟩ := swp_no HP.out sp hs300
          have EV := Lib.hid e1
          have EL := Lib.hid e2
          have ES := Lib.hid e3
          have EO := Lib.hid e4
          clear e1 e2 e3 e4
          go_wp2_with fail
          refine (Swap_any D4.out _ sp (RP.out.ext E4.out) (by omega)).mono ?_
          rw [show (1 : Int) + ((0 : Nat) : Int) = 1 from rfl, EV.out]
          rintro e w5 hD
          obtain ⟨rfl, hx, L5, hd⟩ := hD.next E4.out D4.out
          have E5 := Lib.hid hx
          have D5 := Lib.hid hd
          clear hD hx hd
          go_wp2_with fail
          refine (Dead_any D5.out).mono ?_
          rw [EO.out]
          rintro e w' ⟨rfl, rfl⟩
          go_wp2_with fail
          refine (Log_any D5.out).mono ?_
          rintro e w6 ⟨v6, rfl, ho, hx6⟩
          have hcv := (Rd.of_own ho).str
          rw [EL.out] at hcv
          have D6 := Lib.hid (D5.out.ext hx6)
          have E6 := Lib.hid (E5.out.trans hx6)
          clear ho hx6
          go_wp2_with fail
          refine (Snap_any D6.out).mono ?_
          rw [ES.out]
          rintro e w7 ⟨v7, rfl, ho, hx7⟩
          obtain ⟨A7, c7, rfl, _⟩ := (Rd.of_own ho).len
          have E7 := Lib.hid (E6.out.trans hx7)
          clear ho hx7 hcv
          go_wp2
          go_ret
          exact ⟨rfl, E7.out⟩
        · obtain ⟨e1, e2, e3⟩ := swp_yes HP.out sp hs300 (1 + (y : Int)) (by omega)
          have EV := Lib.hid e1
          have EL := Lib.hid e2
          have ES := Lib.hid e3
          have hy1 : (1 : Int) < 1 + (y : Int) := by omega
          clear e1 e2 e3
          go_wp2_with fail
          refine (Swap_any D4.out _ sp (RP.out.ext E4.out) (by omega)).mono ?_
          rw [EV.out]
          rintro e w5 hD
          obtain ⟨rfl, hx, L5, hd⟩ := hD.next E4.out D4.out
          have E5 := Lib.hid hx
          have D5 := Lib.hid hd
          clear hD hx hd
          go_wp2
          refine wp_region_sched Ext ExtW [(0, true), (1, true), (2, true), (3, true), (4, false), (5, true), (6, true), (7, true), (8, true), (9, true), (12, true), (13, true), (10, false), (11, true), (14, true), (15, true), (16, true)] (by kernel_rfl) (by kernel_rfl) (fun _ _ _ _ _ h => h) ?_
          repeat first | ((with_reducible refine sched_free ?_ ?_ ?_ ?_ (fun wk k1 => ?_) ?_); rotate_left 2; (rfl); (first | exact want_none rfl | exact want_some rfl rfl rfl rfl); (go_simp; first | exact OkX.val); simp only [Act.put, List.setIfInBounds_toArray, List.set_cons_zero, List.set_cons_succ]) | ((with_reducible refine sched_skip ?_ ?_ ?_ ?_); rotate_left; (rfl); (exact want_not rfl rfl rfl rfl rfl); simp only [Act.put, List.setIfInBounds_toArray, List.set_cons_zero, List.set_cons_succ])
          ((with_reducible refine sched_step ?_ ?_ ?_ (fun wk k1 => ?_)); rotate_left; (rfl); (first | exact want_none rfl | exact want_some rfl rfl rfl rfl))
          have X1 := Lib.hid ((Ext.drew w5).trans k1)
          clear k1
          go_simp
          refine (Log_any (D5.out.ext X1.out)).mono ?_
          rw [EL.out]
          rintro e w6 ⟨v6, rfl, ho, hx6⟩
          obtain ⟨A6, c6, rfl, _⟩ := (Rd.of_own ho).len
          refine ⟨hx6, ?_⟩
          have X2 := Lib.hid (X1.out.trans hx6)
          clear ho hx6
          try simp only [Act.put, List.setIfInBounds_toArray, List.set_cons_zero, List.set_cons_succ]
          have hca : ∀ w', Ext w6 w' → (convert 26 9 (.slice Ap sp.length cp)).run Try.prog w' = .ok (.string ⟨sp.toArray⟩) w' := fun w' h => (RP.out.ext ((E5.out.trans X2.out).trans h)).str
          repeat first | ((with_reducible refine sched_free ?_ ?_ ?_ ?_ (fun wk k1 => ?_) ?_); rotate_left 2; (rfl); (first | exact want_none rfl | exact want_some rfl rfl rfl rfl); (go_simp; first | exact OkX.val | (go_simp; rw [hca _ (by assumption)]; exact OkX.val)); simp only [Act.put, List.setIfInBounds_toArray, List.set_cons_zero, List.set_cons_succ]) | ((with_reducible refine sched_skip ?_ ?_ ?_ ?_); rotate_left; (rfl); (exact want_not rfl rfl rfl rfl rfl); simp only [Act.put, List.setIfInBounds_toArray, List.set_cons_zero, List.set_cons_succ])
          ((with_reducible refine sched_step ?_ ?_ ?_ (fun wk k1 => ?_)); rotate_left; (rfl); (first | exact want_none rfl | exact want_some rfl rfl rfl rfl))
          have X3 := Lib.hid (X2.out.trans k1)
          clear k1
          go_simp
          refine (Snap_any (D5.out.ext X3.out)).mono ?_
          rw [ES.out]
          rintro e w7 ⟨v7, rfl, ho, hx7⟩
          refine ⟨hx7, ?_⟩
          have X4 := Lib.hid (X3.out.trans hx7)
          have R7 := Lib.hid (Rd.of_own ho)
          clear ho hx7
          try simp only [Act.put, List.setIfInBounds_toArray, List.set_cons_zero, List.set_cons_succ]
          have hcb : ∀ w', Ext w7 w' → (convert 26 9 v7).run Try.prog w' = .ok (.string ⟨sp.toArray⟩) w' := fun w' h => (R7.out.ext h).str
          repeat first | ((with_reducible refine sched_free ?_ ?_ ?_ ?_ (fun wk k1 => ?_) ?_); rotate_left 2; (rfl); (first | exact want_none rfl | exact want_some rfl rfl rfl rfl); (go_simp; first | exact OkX.val | (go_simp; rw [hcb _ (by assumption)]; exact OkX.val)); simp only [Act.put, List.setIfInBounds_toArray, List.set_cons_zero, List.set_cons_succ]) | ((with_reducible refine sched_skip ?_ ?_ ?_ ?_); rotate_left; (rfl); (exact want_not rfl rfl rfl rfl rfl); simp only [Act.put, List.setIfInBounds_toArray, List.set_cons_zero, List.set_cons_succ])
          refine sched_done (fun wk k1 => ?_)
          have E8 := Lib.hid ((E5.out.trans X4.out).trans k1)
          clear k1 hca hcb
          go_wp2
          go_ret
          exact ⟨rfl, E8.out⟩

theorem own : ownKnob Try.prog.godebug = none := by kernel_rfl
theorem laidOut : laidOutB Try.prog = true := by kernel_rfl
set_option maxRecDepth 100000 in
theorem lifted (os : Os) (started : os.Started) (H : Type) (enc : TypeId × Value → H) :
    ReturnsInHanded {} Try.checked os 5 .any (Rows.diskStaysSpec.pre6 enc Try.prog Try.f5 Rows.diskStaysRow.domain false) (Rows.diskStaysSpec.post enc Try.prog Try.f5 false true false false) := by
  refine returnsInHanded_of_change (C := Try.checked) own started (by kernel_rfl) Try.func5
    (ChangeSpec.witness6 (enc := enc) (C := Try.checked) false ⟨#[], #[.slice none 0 0, .slice none 0 0, .slice none 0 0, .slice none 0 0, .int .i64 0], []⟩ 8 (by kernel_rfl) (by kernel_rfl) (by kernel_rfl) (by kernel_rfl)) ?_
  intro W base args ds gs before hval0 hW hcnd _
  have hval : ∀ (j : Nat) t v, Try.f5.params[j]? = some t → args[j]? = some v → Value.okWide Try.prog W .any base t v := hval0
  have hW' := hW
  obtain ⟨p, q, hA0, hV, rfl, hfz, hnd⟩ := hW
  have hA : DataW.TrodAll enc Try.prog W 0 (fun _ => true) true Try.f5.params.toList args.toList ds p := hA0
  rw [Try.params5] at hA hval
  obtain ⟨v0, vs0, d0, ds0, p0, q0, hargs, rfl, rfl, h0, r0⟩ := trodAll_cons hA
  obtain ⟨v1, vs1, d1, ds1, p1, q1, rfl, rfl, rfl, h1, r1⟩ := trodAll_cons r0
  obtain ⟨v2, vs2, d2, ds2, p2, q2, rfl, rfl, rfl, h2, r2⟩ := trodAll_cons r1
  obtain ⟨v3, vs3, d3, ds3, p3, q3, rfl, rfl, rfl, h3, r3⟩ := trodAll_cons r2
  obtain ⟨v4, vs4, d4, ds4, p4, q4, rfl, rfl, rfl, h4, r4⟩ := trodAll_cons r3
  obtain ⟨rfl, rfl, rfl⟩ := trodAll_nil r4
  obtain rfl : args = #[v0, v1, v2, v3, v4] := by cases args; simp_all
  obtain ⟨rfl, rfl⟩ := trodVars_none hV
  have hlt0 : ∀ x ∈ p0, x.block < W.heap.size := fun x hx => by simpa using hW'.lt x (by simp [hx])
  obtain ⟨l0, rd0⟩ := open_bytes Try.underlying26 Try.underlying5 (by kernel_rfl) (hval 0 26 v0 rfl rfl) h0
  have hlt1 : ∀ x ∈ p1, x.block < W.heap.size := fun x hx => by simpa using hW'.lt x (by simp [hx])
  obtain ⟨l1, rd1, wf1⟩ := open_brows Try.underlying57 Try.underlying26 Try.underlying5 (by kernel_rfl) (by kernel_rfl) (hval 1 57 v1 rfl rfl) h1
  have hlt2 : ∀ x ∈ p2, x.block < W.heap.size := fun x hx => by simpa using hW'.lt x (by simp [hx])
  obtain ⟨l2, rd2, wf2⟩ := open_rd Try.underlying22 Try.underlying3 (by kernel_rfl) (hval 2 22 v2 rfl rfl) h2
  have hlt3 : ∀ x ∈ p3, x.block < W.heap.size := fun x hx => by simpa using hW'.lt x (by simp [hx])
  obtain ⟨l3, rd3⟩ := open_bytes Try.underlying26 Try.underlying5 (by kernel_rfl) (hval 3 26 v3 rfl rfl) h3
  obtain ⟨a4, rfl, rfl, rfl, w4⟩ := open_int Try.underlying3 (hval 4 3 v4 rfl rfl) h4
  clear hA0 hval0
  refine (walk W v0 l0 rd0 v1 l1 rd1 wf1 v2 l2 rd2 wf2 v3 l3 rd3 a4 w4).mono fun e W' ⟨he, bel⟩ => ?_
  subst he
  exact ⟨_, rfl, _, _, _, [], _, [], hW', trodAll_mk1 (shut_bool Try.underlying4 _), (trodAll_cons_mk (Below.trod laidOut (by kernel_rfl) (of_decide_eq_true (by kernel_rfl)) h0 bel hlt0) (trodAll_cons_mk (Below.trod laidOut (by kernel_rfl) (of_decide_eq_true (by kernel_rfl)) h1 bel hlt1) (trodAll_cons_mk (Below.trod laidOut (by kernel_rfl) (of_decide_eq_true (by kernel_rfl)) h2 bel hlt2) (trodAll_cons_mk (Below.trod laidOut (by kernel_rfl) (of_decide_eq_true (by kernel_rfl)) h3 bel hlt3) (trodAll_cons_mk (shut_int Try.underlying3 w4) trodAll_mk0))))), rfl, bel.frame _, fun h => by cases h⟩

theorem over : Rows.diskStaysRow.holds Try.pinned (OpenSpec.ofChange Rows.diskStaysSpec) :=
  OpenClaim.holds_of_wide 5 Try.f5 rfl rfl rfl rfl rfl rfl rfl ⟨rfl, rfl, rfl, rfl, rfl⟩ rfl rfl rfl rfl rfl (by kernel_rfl) Try.func5 (by kernel_rfl)
    (of_decide_eq_true (by kernel_rfl)) (by unfold Func.isWrapper; first | (rw [if_pos (by decide +kernel)]; kernel_rfl) | (rw [if_neg (by decide +kernel)]; exact ⟨rfl, rfl⟩))
    (fun os started H enc _ => lifted os started H enc)

theorem proved : Rows.DiskStaysSaid := over
#print axioms proved
end Go.Proofs.Ytpinpljmabhdhaa.DiskStays
