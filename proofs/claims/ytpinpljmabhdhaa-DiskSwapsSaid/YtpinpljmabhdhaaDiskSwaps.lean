/- The law DiskSwaps holds at every input: a snapshot that was swapped stays, whatever is appended, and however often the power goes; the last one that was done counts. No condition. -/
import Derived.Test.YtpinpljmabhdhaaKnown3
import Derived.Test.YtpinpljmabhdhaaOpenR
import Derived.WalkLawsBesides
import Derived.JoinedOf
import Derived.JoinedAt
import Derived.RowKit3
import Derived.Lib.SmallJoins
namespace Go.Proofs.Ytpinpljmabhdhaa.DiskSwaps
open Go.ChangeShapes Go.WideShapes Go.ChangeAt Go.RowKit Go.Joins

/-- A disk whose power is on, with this snapshot. -/
structure Qs (s : DS) (S : List UInt8) : Prop where
  room : s.room = 100000
  off : s.off = false
  left : s.left = 0
  snap : s.snap = S

theorem app_keeps (s : DS) (l : List UInt8) : (app s l).room = s.room ∧ (app s l).snap = s.snap := by
  unfold app; split <;> simp [fin, drw]
theorem app_on {s : DS} {S : List UInt8} (h : Qs s S) (l : List UInt8) : Qs (app s l) S := by
  obtain ⟨h1, h2, h3, h4⟩ := h
  obtain ⟨e1, e2⟩ := app_keeps s l
  refine ⟨e1.trans h1, ?_, ?_, e2.trans h4⟩ <;> unfold app <;> split <;> simp [fin, drw, h2, h3]

theorem swp_done {s : DS} {S : List UInt8} (h : Qs s S) (l : List UInt8) (hl : l.length ≤ 200) (q : Int) (hq : q ≠ 1) : swpE (stp s q) l = 0 ∧ (swp (stp s q) l).room = 100000 ∧ (swp (stp s q) l).snap = l := by
  have hr : refusal (stp s q) l.length = 0 := by
    unfold refusal stp
    simp only [h.off, h.room]
    rw [if_neg (by simp), if_neg (by omega)]
  have hs : swaps (stp s q) l = { stp s q with log := [], syn := 0, snap := l } := by
    unfold swaps
    rw [if_neg (by simp [stp, hq])]
  have hf : finE (stp s q) = 0 := by simp [finE, stp, hq]
  refine ⟨by simp only [swpE, hr, if_true, hf], ?_, ?_⟩
  · simp only [swp, hr, if_true, hs]; exact h.room
  · simp only [swp, hr, if_true, hs]; rfl
theorem swp_not {s : DS} {S : List UInt8} (h : Qs s S) (l : List UInt8) (hl : l.length ≤ 200) : swpE (stp s 1) l = 17 ∧ (swp (stp s 1) l).room = 100000 ∧ (swp (stp s 1) l).snap = S := by
  have hr : refusal (stp s 1) l.length = 0 := by
    unfold refusal stp
    simp only [h.off, h.room]
    rw [if_neg (by simp), if_neg (by omega)]
  have hs : swaps (stp s 1) l = stp s 1 := by
    unfold swaps
    rw [if_pos (by simp [stp])]
  have hf : finE (stp s 1) = 17 := by simp [finE, stp]
  refine ⟨by simp only [swpE, hr, if_true, hf], ?_, ?_⟩
  · simp only [swp, hr, if_true, hs]; exact h.room
  · simp only [swp, hr, if_true, hs]; exact h.snap
theorem crs_on {s : DS} {S : List UInt8} (h1 : s.room = 100000) (h2 : s.snap = S) (p : Int) : Qs (crs s p) S := ⟨h1, rfl, rfl, h2⟩

def Rel (w wr : World) (R : Nat) (S : List UInt8) : Prop := Ext w wr ∧ ∃ L s, Dk wr w.heap.size R L s ∧ Qs s S

set_option maxRecDepth 100000 in
set_option maxHeartbeats 8000000 in
theorem walk (w : World) (v0 : Value) (rows : List Value) (r0 : Rd w v0 rows) (hrows : ∀ u ∈ rows, ∃ l : List UInt8, Rd w u (bvs l)) (v1 : Value) (qs : List Int) (r1 : Rd w v1 (qs.map (Value.int .i64))) (_ : ∀ z ∈ qs, (Lit.int .i64 z).wf = true) :
    Calls Try.prog 8 #[v0, v1] w fun e w' => e = .returned (.bool true) ∧ Below w.heap.size w w' := by
  have kc := fun (w : World) (C : Array Value) (n c : Nat) => Lib.run_convert_bytes_const (P := Try.prog) w 26 5 C n c Try.underlying26 Try.underlying5
  obtain ⟨A1, c1, rfl, hc1, hm1, hcu⟩ := r1
  have Hcu := Lib.hid hcu
  rw [List.length_map] at *
  obtain ⟨A0, c0, rfl, hc0, hm0, hru⟩ := r0
  have Hru := Lib.hid hru
  have HRows := Lib.hid hrows
  unfold maxLen at hm1 hm0
  clear hcu hru hrows
  go_enter Try.func8, Try.ntmps8
  go_wp2_with fail
  refine (known_any _).mono ?_
  rintro e w1 ⟨rfl, hx1⟩
  have E1 := Lib.hid hx1
  clear hx1
  go_wp2_with fail
  refine (New_any 100000 _ (by decide) (by decide)).mono ?_
  rintro e w2 ⟨rfl, hx2, hd2, hlt⟩
  have hs1 := E1.out.size
  have hS : Rel w w2 w1.heap.size [] := ⟨E1.out.trans hx2, none, _, hd2.base hs1, rfl, rfl, rfl, rfl⟩
  have HS := Lib.hid hS
  generalize w1.heap.size = R at *
  clear hx2 hd2 E1 hs1 hlt hS
  go_wp2
  go_loopw [7, 8] (fun la i wr => ∃ (k : Nat) (S : List UInt8), k ≤ rows.length ∧ k ≤ 15 ∧ i = .int .i64 k ∧ la = .string ⟨S.toArray⟩ ∧ Rel w wr R S) (fun _ i _ => 15 - (intOf i).toNat)
  case atStart => exact ⟨0, [], Nat.zero_le _, Nat.zero_le _, rfl, rfl, HS.out⟩
  case round =>
    obtain ⟨k, S, hk, hk30, rfl, rfl, hE, L, s, hD, hP⟩ := hrel
    have HE := Lib.hid hE
    have HD := Lib.hid hD
    have HP := Lib.hid hP
    clear hE hD hP HS
    by_cases hlt : k < rows.length ∧ k < 15
    · obtain ⟨hlt, hl3⟩ := hlt
      obtain ⟨ad, rfl, hab', hcs⟩ := Hru.out (by omega)
      have hcw : w.cell? (ad.add k) = some rows[k] := hcs k _ (by simp [hlt])
      have hadb : (ad.add k).block < w.heap.size := by rw [add_block]; exact hab'
      obtain ⟨l, hl⟩ := HRows.out rows[k] (List.getElem_mem hlt)
      generalize rows[k] = u at *
      have RU := Lib.hid hl
      obtain ⟨Au, cu, rfl, _, _⟩ := hl.len
      rw [bvs_length] at *
      have hkeep : ∀ w', Ext w w' → w'.cell? (ad.add k) = some (.slice Au l.length cu) := fun w' h => (World.cell?_of_block (h.block _ hadb)).trans hcw
      have Keep := Lib.hid hkeep
      have cw := hkeep _ HE.out
      have i0 : (0 : Int) ≤ (k : Int) := by omega
      have i1 : (k : Int) < (rows.length : Int) := by omega
      have i2 : (k : Int) < 15 := by omega
      clear hcs hcw hadb hkeep hl
      by_cases hbig : (200 : Int) < l.length
      · go_wp2
        go_ret
        exact ⟨rfl, HE.out⟩
      · have hl200 : l.length ≤ 200 := by omega
        by_cases hp : k < qs.length
        · obtain ⟨aq, rfl, haq, hqs⟩ := Hcu.out (by omega)
          have hqw : w.cell? (aq.add k) = some (.int .i64 qs[k]) := hqs k _ (by simp [hp])
          have haqb : (aq.add k).block < w.heap.size := by rw [add_block]; exact haq
          have cq : wr.cell? (aq.add k) = some (.int .i64 qs[k]) := (World.cell?_of_block (HE.out.block _ haqb)).trans hqw
          have ip : (k : Int) < (qs.length : Int) := by omega
          generalize qs[k] = x at *
          clear hqs hqw haqb
          have z0 := Int.emod_nonneg x (show (3 : Int) ≠ 0 by decide)
          have z1 := Int.emod_lt_of_pos x (show (0 : Int) < 3 by decide)
          obtain ⟨y, hy⟩ : ∃ y, x % 3 = y := ⟨_, rfl⟩
          rw [hy] at z0 z1
          have HY := Lib.hid hy
          clear hy
          obtain rfl | rfl | rfl : y = 0 ∨ y = 1 ∨ y = 2 := by omega
          · skip
            go_wp2_with fail
            refine (Append_any HD.out _ l (RU.out.ext HE.out) (by omega)).mono ?_
            rintro e w3 hD
            obtain ⟨rfl, hx, L3, hd⟩ := hD.next HE.out HD.out
            have E3 := Lib.hid hx
            have D3 := Lib.hid hd
            have HP2 := Lib.hid (app_on HP.out l)
            clear hD hx hd cw
            go_wp2_with fail
            refine (within_is x 3 0 _ HY.out (by decide)).mono ?_
            rintro e w' ⟨rfl, rfl⟩
            go_wp2_with fail
            refine (Stop_any D3.out 0 (by decide)).mono ?_
            rintro e w4 hD
            obtain ⟨rfl, hx, L4, hd⟩ := hD.next E3.out D3.out
            have E4 := Lib.hid hx
            have D4 := Lib.hid hd
            have cw := Keep.out _ E4.out
            clear hD hx hd
            obtain ⟨e1, e2, e3⟩ := swp_done HP2.out l hl200 0 (by decide)
            have EV := Lib.hid e1
            have ER := Lib.hid e2
            have ES := Lib.hid e3
            clear e1 e2 e3
            go_wp2_with fail
            refine (Swap_any D4.out _ l (RU.out.ext E4.out) (by omega)).mono ?_
            rw [EV.out]
            rintro e w5 hD
            obtain ⟨rfl, hx, L5, hd⟩ := hD.next E4.out D4.out
            have E5 := Lib.hid hx
            have D5 := Lib.hid hd
            have cw5 := Keep.out _ E5.out
            have hcv := (RU.out.ext E5.out).str
            clear hD hx hd cw
            go_wp2_with fail
            refine (within_is x 3 0 _ HY.out (by decide)).mono ?_
            rintro e w' ⟨rfl, rfl⟩
            go_wp2_with fail
            refine (within_is x 3 0 _ HY.out (by decide)).mono ?_
            rintro e w' ⟨rfl, rfl⟩
            have D6 := Lib.hid (D5.out.ext (ext_alloc w5 (.cells #[.int .u8 109, .int .u8 111, .int .u8 114, .int .u8 101] 5 (4, 5))))
            have E6 := Lib.hid (E5.out.trans (ext_alloc w5 (.cells #[.int .u8 109, .int .u8 111, .int .u8 114, .int .u8 101] 5 (4, 5))))
            go_wp2_with fail
            refine (Append_any D6.out _ [109, 111, 114, 101] (rd_new w5 [109, 111, 114, 101] #[.int .u8 109, .int .u8 111, .int .u8 114, .int .u8 101] rfl 4 rfl (by simp [maxLen]) (4, 5)) (by decide)).mono ?_
            rintro e w7 hD
            obtain ⟨rfl, hx, L7, hd⟩ := hD.next E6.out D6.out
            have E7 := Lib.hid hx
            have D7 := Lib.hid hd
            have EK := Lib.hid (app_keeps _ [109, 111, 114, 101] : (app (swp (stp (app s l) 0) l) [109, 111, 114, 101]).room = _ ∧ _)
            clear hD hx hd hcv cw5
            go_wp2_with fail
            refine (Crash_any D7.out _).mono ?_
            rintro e w8 hD
            have EQ := Lib.hid (fun p => crs_on (S := l) (EK.out.1.trans ER.out) (EK.out.2.trans ES.out) p)
            obtain ⟨rfl, hx, L8, hd⟩ := hD.next E7.out D7.out
            have E8 := Lib.hid hx
            have D8 := Lib.hid hd
            clear hD hx hd
            go_wp2_with fail
            refine (Snap_any D8.out).mono ?_
            rintro e w9 ⟨v9, rfl, ho, hx9⟩
            have hcv := (Rd.of_own ho).str
            rw [(EQ.out _).snap] at hcv
            have D9 := Lib.hid (D8.out.ext hx9)
            have E9 := Lib.hid (E8.out.trans hx9)
            clear ho hx9
            go_wp2
            go_roundw
            case rel => exact ⟨k + 1, l, by omega, by omega, by go_num, rfl, E9.out, _, _, D9.out, EQ.out _⟩
            case measure => simp [intOf]; omega
          · skip
            go_wp2_with fail
            refine (Append_any HD.out _ l (RU.out.ext HE.out) (by omega)).mono ?_
            rintro e w3 hD
            obtain ⟨rfl, hx, L3, hd⟩ := hD.next HE.out HD.out
            have E3 := Lib.hid hx
            have D3 := Lib.hid hd
            have HP2 := Lib.hid (app_on HP.out l)
            clear hD hx hd cw
            go_wp2_with fail
            refine (within_is x 3 1 _ HY.out (by decide)).mono ?_
            rintro e w' ⟨rfl, rfl⟩
            go_wp2_with fail
            refine (Stop_any D3.out 1 (by decide)).mono ?_
            rintro e w4 hD
            obtain ⟨rfl, hx, L4, hd⟩ := hD.next E3.out D3.out
            have E4 := Lib.hid hx
            have D4 := Lib.hid hd
            have cw := Keep.out _ E4.out
            clear hD hx hd
            obtain ⟨e1, e2, e3⟩ := swp_not HP2.out l hl200
            have EV := Lib.hid e1
            have ER := Lib.hid e2
            have ES := Lib.hid e3
            clear e1 e2 e3
            go_wp2_with fail
            refine (Swap_any D4.out _ l (RU.out.ext E4.out) (by omega)).mono ?_
            rw [EV.out]
            rintro e w5 hD
            obtain ⟨rfl, hx, L5, hd⟩ := hD.next E4.out D4.out
            have E5 := Lib.hid hx
            have D5 := Lib.hid hd
            have cw5 := Keep.out _ E5.out
            have hcv := (RU.out.ext E5.out).str
            clear hD hx hd cw
            go_wp2_with fail
            refine (within_is x 3 1 _ HY.out (by decide)).mono ?_
            rintro e w' ⟨rfl, rfl⟩
            go_wp2_with fail
            refine (within_is x 3 1 _ HY.out (by decide)).mono ?_
            rintro e w' ⟨rfl, rfl⟩
            go_wp2_with fail
            refine (within_is x 3 1 _ HY.out (by decide)).mono ?_
            rintro e w' ⟨rfl, rfl⟩
            have D6 := Lib.hid (D5.out.ext (ext_alloc w5 (.cells #[.int .u8 109, .int .u8 111, .int .u8 114, .int .u8 101] 5 (4, 5))))
            have E6 := Lib.hid (E5.out.trans (ext_alloc w5 (.cells #[.int .u8 109, .int .u8 111, .int .u8 114, .int .u8 101] 5 (4, 5))))
            go_wp2_with fail
            refine (Append_any D6.out _ [109, 111, 114, 101] (rd_new w5 [109, 111, 114, 101] #[.int .u8 109, .int .u8 111, .int .u8 114, .int .u8 101] rfl 4 rfl (by simp [maxLen]) (4, 5)) (by decide)).mono ?_
            rintro e w7 hD
            obtain ⟨rfl, hx, L7, hd⟩ := hD.next E6.out D6.out
            have E7 := Lib.hid hx
            have D7 := Lib.hid hd
            have EK := Lib.hid (app_keeps _ [109, 111, 114, 101] : (app (swp (stp (app s l) 1) l) [109, 111, 114, 101]).room = _ ∧ _)
            clear hD hx hd hcv cw5
            go_wp2_with fail
            refine (Crash_any D7.out _).mono ?_
            rintro e w8 hD
            have EQ := Lib.hid (fun p => crs_on (S := S) (EK.out.1.trans ER.out) (EK.out.2.trans ES.out) p)
            obtain ⟨rfl, hx, L8, hd⟩ := hD.next E7.out D7.out
            have E8 := Lib.hid hx
            have D8 := Lib.hid hd
            clear hD hx hd
            go_wp2_with fail
            refine (Snap_any D8.out).mono ?_
            rintro e w9 ⟨v9, rfl, ho, hx9⟩
            have hcv := (Rd.of_own ho).str
            rw [(EQ.out _).snap] at hcv
            have D9 := Lib.hid (D8.out.ext hx9)
            have E9 := Lib.hid (E8.out.trans hx9)
            clear ho hx9
            go_wp2
            go_roundw
            case rel => exact ⟨k + 1, S, by omega, by omega, by go_num, rfl, E9.out, _, _, D9.out, EQ.out _⟩
            case measure => simp [intOf]; omega
          · skip
            go_wp2_with fail
            refine (Append_any HD.out _ l (RU.out.ext HE.out) (by omega)).mono ?_
            rintro e w3 hD
            obtain ⟨rfl, hx, L3, hd⟩ := hD.next HE.out HD.out
            have E3 := Lib.hid hx
            have D3 := Lib.hid hd
            have HP2 := Lib.hid (app_on HP.out l)
            clear hD hx hd cw
            go_wp2_with fail
            refine (within_is x 3 2 _ HY.out (by decide)).mono ?_
            rintro e w' ⟨rfl, rfl⟩
            go_wp2_with fail
            refine (Stop_any D3.out 2 (by decide)).mono ?_
            rintro e w4 hD
            obtain ⟨rfl, hx, L4, hd⟩ := hD.next E3.out D3.out
            have E4 := Lib.hid hx
            have D4 := Lib.hid hd
            have cw := Keep.out _ E4.out
            clear hD hx hd
            obtain ⟨e1, e2, e3⟩ := swp_done HP2.out l hl200 2 (by decide)
            have EV := Lib.hid e1
            have ER := Lib.hid e2
            have ES := Lib.hid e3
            clear e1 e2 e3
            go_wp2_with fail
            refine (Swap_any D4.out _ l (RU.out.ext E4.out) (by omega)).mono ?_
            rw [EV.out]
            rintro e w5 hD
            obtain ⟨rfl, hx, L5, hd⟩ := hD.next E4.out D4.out
            have E5 := Lib.hid hx
            have D5 := Lib.hid hd
            have cw5 := Keep.out _ E5.out
            have hcv := (RU.out.ext E5.out).str
            clear hD hx hd cw
            go_wp2_with fail
            refine (within_is x 3 2 _ HY.out (by decide)).mono ?_
            rintro e w' ⟨rfl, rfl⟩
            go_wp2_with fail
            refine (within_is x 3 2 _ HY.out (by decide)).mono ?_
            rintro e w' ⟨rfl, rfl⟩
            have D6 := Lib.hid (D5.out.ext (ext_alloc w5 (.cells #[.int .u8 109, .int .u8 111, .int .u8 114, .int .u8 101] 5 (4, 5))))
            have E6 := Lib.hid (E5.out.trans (ext_alloc w5 (.cells #[.int .u8 109, .int .u8 111, .int .u8 114, .int .u8 101] 5 (4, 5))))
            go_wp2_with fail
            refine (Append_any D6.out _ [109, 111, 114, 101] (rd_new w5 [109, 111, 114, 101] #[.int .u8 109, .int .u8 111, .int .u8 114, .int .u8 101] rfl 4 rfl (by simp [maxLen]) (4, 5)) (by decide)).mono ?_
            rintro e w7 hD
            obtain ⟨rfl, hx, L7, hd⟩ := hD.next E6.out D6.out
            have E7 := Lib.hid hx
            have D7 := Lib.hid hd
            have EK := Lib.hid (app_keeps _ [109, 111, 114, 101] : (app (swp (stp (app s l) 2) l) [109, 111, 114, 101]).room = _ ∧ _)
            clear hD hx hd hcv cw5
            go_wp2_with fail
            refine (Crash_any D7.out _).mono ?_
            rintro e w8 hD
            have EQ := Lib.hid (fun p => crs_on (S := l) (EK.out.1.trans ER.out) (EK.out.2.trans ES.out) p)
            obtain ⟨rfl, hx, L8, hd⟩ := hD.next E7.out D7.out
            have E8 := Lib.hid hx
            have D8 := Lib.hid hd
            clear hD hx hd
            go_wp2_with fail
            refine (Snap_any D8.out).mono ?_
            rintro e w9 ⟨v9, rfl, ho, hx9⟩
            have hcv := (Rd.of_own ho).str
            rw [(EQ.out _).snap] at hcv
            have D9 := Lib.hid (D8.out.ext hx9)
            have E9 := Lib.hid (E8.out.trans hx9)
            clear ho hx9
            go_wp2
            go_roundw
            case rel => exact ⟨k + 1, l, by omega, by omega, by go_num, rfl, E9.out, _, _, D9.out, EQ.out _⟩
            case measure => simp [intOf]; omega
        · have ip : ¬ (k : Int) < (qs.length : Int) := by omega
          have HY := Lib.hid (show (0 : Int) % 3 = 0 from rfl)
          go_wp2_with fail
          refine (Append_any HD.out _ l (RU.out.ext HE.out) (by omega)).mono ?_
          rintro e w3 hD
          obtain ⟨rfl, hx, L3, hd⟩ := hD.next HE.out HD.out
          have E3 := Lib.hid hx
          have D3 := Lib.hid hd
          have HP2 := Lib.hid (app_on HP.out l)
          clear hD hx hd cw
          go_wp2_with fail
          refine (within_is 0 3 0 _ HY.out (by decide)).mono ?_
          rintro e w' ⟨rfl, rfl⟩
          go_wp2_with fail
          refine (Stop_any D3.out 0 (by decide)).mono ?_
          rintro e w4 hD
          obtain ⟨rfl, hx, L4, hd⟩ := hD.next E3.out D3.out
          have E4 := Lib.hid hx
          have D4 := Lib.hid hd
          have cw := Keep.out _ E4.out
          clear hD hx hd
          obtain ⟨e1, e2, e3⟩ := swp_done HP2.out l hl200 0 (by decide)
          have EV := Lib.hid e1
          have ER := Lib.hid e2
          have ES := Lib.hid e3
          clear e1 e2 e3
          go_wp2_with fail
          refine (Swap_any D4.out _ l (RU.out.ext E4.out) (by omega)).mono ?_
          rw [EV.out]
          rintro e w5 hD
          obtain ⟨rfl, hx, L5, hd⟩ := hD.next E4.out D4.out
          have E5 := Lib.hid hx
          have D5 := Lib.hid hd
          have cw5 := Keep.out _ E5.out
          have hcv := (RU.out.ext E5.out).str
          clear hD hx hd cw
          go_wp2_with fail
          refine (within_is 0 3 0 _ HY.out (by decide)).mono ?_
          rintro e w' ⟨rfl, rfl⟩
          go_wp2_with fail
          refine (within_is 0 3 0 _ HY.out (by decide)).mono ?_
          rintro e w' ⟨rfl, rfl⟩
          have D6 := Lib.hid (D5.out.ext (ext_alloc w5 (.cells #[.int .u8 109, .int .u8 111, .int .u8 114, .int .u8 101] 5 (4, 5))))
          have E6 := Lib.hid (E5.out.trans (ext_alloc w5 (.cells #[.int .u8 109, .int .u8 111, .int .u8 114, .int .u8 101] 5 (4, 5))))
          go_wp2_with fail
          refine (Append_any D6.out _ [109, 111, 114, 101] (rd_new w5 [109, 111, 114, 101] #[.int .u8 109, .int .u8 111, .int .u8 114, .int .u8 101] rfl 4 rfl (by simp [maxLen]) (4, 5)) (by decide)).mono ?_
          rintro e w7 hD
          obtain ⟨rfl, hx, L7, hd⟩ := hD.next E6.out D6.out
          have E7 := Lib.hid hx
          have D7 := Lib.hid hd
          have EK := Lib.hid (app_keeps _ [109, 111, 114, 101] : (app (swp (stp (app s l) 0) l) [109, 111, 114, 101]).room = _ ∧ _)
          clear hD hx hd hcv cw5
          go_wp2_with fail
          refine (Crash_any D7.out _).mono ?_
          rintro e w8 hD
          have EQ := Lib.hid (fun p => crs_on (S := l) (EK.out.1.trans ER.out) (EK.out.2.trans ES.out) p)
          obtain ⟨rfl, hx, L8, hd⟩ := hD.next E7.out D7.out
          have E8 := Lib.hid hx
          have D8 := Lib.hid hd
          clear hD hx hd
          go_wp2_with fail
          refine (Snap_any D8.out).mono ?_
          rintro e w9 ⟨v9, rfl, ho, hx9⟩
          have hcv := (Rd.of_own ho).str
          rw [(EQ.out _).snap] at hcv
          have D9 := Lib.hid (D8.out.ext hx9)
          have E9 := Lib.hid (E8.out.trans hx9)
          clear ho hx9
          go_wp2
          go_roundw
          case rel => exact ⟨k + 1, l, by omega, by omega, by go_num, rfl, E9.out, _, _, D9.out, EQ.out _⟩
          case measure => simp [intOf]; omega
    · by_cases i1 : (k : Int) < (rows.length : Int)
      · have i2 : ¬ (k : Int) < 15 := by omega
        go_wp2
        go_ret
        exact ⟨rfl, HE.out⟩
      · go_wp2
        go_ret
        exact ⟨rfl, HE.out⟩

theorem own : ownKnob Try.prog.godebug = none := by kernel_rfl
theorem laidOut : laidOutB Try.prog = true := by kernel_rfl
set_option maxRecDepth 100000 in
theorem lifted (os : Os) (started : os.Started) (H : Type) (enc : TypeId × Value → H) :
    ReturnsInHanded {} Try.checked os 8 .any (Rows.diskSwapsSpec.pre6 enc Try.prog Try.f8 Rows.diskSwapsRow.domain false) (Rows.diskSwapsSpec.post enc Try.prog Try.f8 false true false false) := by
  refine returnsInHanded_of_change (C := Try.checked) own started (by kernel_rfl) Try.func8
    (ChangeSpec.witness6 (enc := enc) (C := Try.checked) false ⟨#[], #[.slice none 0 0, .slice none 0 0], []⟩ 8 (by kernel_rfl) (by kernel_rfl) (by kernel_rfl) (by kernel_rfl)) ?_
  intro W base args ds gs before hval0 hW hcnd _
  have hval : ∀ (j : Nat) t v, Try.f8.params[j]? = some t → args[j]? = some v → Value.okWide Try.prog W .any base t v := hval0
  have hW' := hW
  obtain ⟨p, q, hA0, hV, rfl, hfz, hnd⟩ := hW
  have hA : DataW.TrodAll enc Try.prog W 0 (fun _ => true) true Try.f8.params.toList args.toList ds p := hA0
  rw [Try.params8] at hA hval
  obtain ⟨v0, vs0, d0, ds0, p0, q0, hargs, rfl, rfl, h0, r0⟩ := trodAll_cons hA
  obtain ⟨v1, vs1, d1, ds1, p1, q1, rfl, rfl, rfl, h1, r1⟩ := trodAll_cons r0
  obtain ⟨rfl, rfl, rfl⟩ := trodAll_nil r1
  obtain rfl : args = #[v0, v1] := by cases args; simp_all
  obtain ⟨rfl, rfl⟩ := trodVars_none hV
  have hlt0 : ∀ x ∈ p0, x.block < W.heap.size := fun x hx => by simpa using hW'.lt x (by simp [hx])
  obtain ⟨l0, rd0, wf0⟩ := open_brows Try.underlying57 Try.underlying26 Try.underlying5 (by kernel_rfl) (by kernel_rfl) (hval 0 57 v0 rfl rfl) h0
  have hlt1 : ∀ x ∈ p1, x.block < W.heap.size := fun x hx => by simpa using hW'.lt x (by simp [hx])
  obtain ⟨l1, rd1, wf1⟩ := open_rd Try.underlying22 Try.underlying3 (by kernel_rfl) (hval 1 22 v1 rfl rfl) h1
  clear hA0 hval0
  refine (walk W v0 l0 rd0 wf0 v1 l1 rd1 wf1).mono fun e W' ⟨he, bel⟩ => ?_
  subst he
  exact ⟨_, rfl, _, _, _, [], _, [], hW', trodAll_mk1 (shut_bool Try.underlying4 _), (trodAll_cons_mk (Below.trod laidOut (by kernel_rfl) (of_decide_eq_true (by kernel_rfl)) h0 bel hlt0) (trodAll_cons_mk (Below.trod laidOut (by kernel_rfl) (of_decide_eq_true (by kernel_rfl)) h1 bel hlt1) trodAll_mk0)), rfl, bel.frame _, fun h => by cases h⟩

theorem over : Rows.diskSwapsRow.holds Try.pinned (OpenSpec.ofChange Rows.diskSwapsSpec) :=
  OpenClaim.holds_of_wide 8 Try.f8 rfl rfl rfl rfl rfl rfl rfl ⟨rfl, rfl, rfl, rfl, rfl⟩ rfl rfl rfl rfl rfl (by kernel_rfl) Try.func8 (by kernel_rfl)
    (of_decide_eq_true (by kernel_rfl)) (by unfold Func.isWrapper; first | (rw [if_pos (by decide +kernel)]; kernel_rfl) | (rw [if_neg (by decide +kernel)]; exact ⟨rfl, rfl⟩))
    (fun os started H enc _ => lifted os started H enc)

theorem proved : Rows.DiskSwapsSaid := over
#print axioms proved
end Go.Proofs.Ytpinpljmabhdhaa.DiskSwaps
