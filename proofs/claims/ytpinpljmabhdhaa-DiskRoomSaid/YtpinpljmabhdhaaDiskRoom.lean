/- The law DiskRoom holds at every input: the log and the snapshot have room for so many bytes together; what is refused leaves all as it was. No condition. -/
import Derived.Test.YtpinpljmabhdhaaKnown3
import Derived.Test.YtpinpljmabhdhaaOpen
import Derived.JoinedOf
import Derived.JoinedAt
import Derived.RowKit3
import Derived.Lib.SmallJoins
namespace Go.Proofs.Ytpinpljmabhdhaa.DiskRoom
open Go.ChangeShapes Go.WideShapes Go.ChangeAt Go.RowKit Go.Joins

theorem made_rd (W : World) (N : Nat) (hN : N ≤ 70000) : Rd (W.alloc (.cells (madeCells #[.int .u8 0] N) 5)) (.slice (some ⟨W.heap.size, 0, none⟩) N N) (bvs (List.replicate N 0)) := by
  have e : bvs (List.replicate N 0) = List.replicate N (Value.int .u8 0) := by simp [bvs, bv]
  rw [e]
  refine ⟨_, N, by rw [List.length_replicate], by rw [List.length_replicate]; exact Nat.le_refl _, by simp [maxLen]; omega, fun _ => ⟨_, rfl, by simp, fun j u hu => ?_⟩⟩
  have hadd : (⟨W.heap.size, 0, none⟩ : Addr).add j = ⟨W.heap.size, j, none⟩ := by unfold Addr.add; split <;> simp_all
  rw [hadd, cell_of_row _ W.heap.size j _ 5 (0, 0) (heap_alloc_new W _), ← Array.getElem?_toList, toList_madeCells_one]
  exact hu

/-- A disk that no Stop was asked of, with so much on it. -/
structure Pl (s : DS) (room : Int) (lg sn : Nat) : Prop where
  room : s.room = room
  off : s.off = false
  left : s.left = 0
  log : s.log.length = lg
  snap : s.snap.length = sn

theorem Pl.fin {s : DS} {room : Int} {lg sn : Nat} (h : Pl s room lg sn) : Pl (fin s) room lg sn ∧ finE s = 0 := by
  obtain ⟨h1, h2, h3, h4, h5⟩ := h
  exact ⟨⟨h1, by simp [Go.Proofs.Ytpinpljmabhdhaa.fin, drw, h3], by simp [Go.Proofs.Ytpinpljmabhdhaa.fin, drw, h3], h4, h5⟩, by simp [finE, h3]⟩

theorem app_full {s : DS} {room : Int} {lg sn : Nat} {l : List UInt8} (h : Pl s room lg sn) (hf : room < (lg : Int) + sn + l.length) : app s l = s ∧ appE s l = 16 := by
  have : refusal s (size s + l.length) = 16 := by
    unfold refusal size
    rw [h.off, h.room, h.log, h.snap, if_neg (by simp), if_pos (by omega)]
  simp [app, appE, this]

theorem app_fits {s : DS} {room : Int} {lg sn : Nat} {l : List UInt8} (h : Pl s room lg sn) (hf : ¬ room < (lg : Int) + sn + l.length) : Pl (app s l) room (lg + l.length) sn ∧ appE s l = 0 := by
  have : refusal s (size s + l.length) = 0 := by
    unfold refusal size
    rw [h.off, h.room, h.log, h.snap, if_neg (by simp), if_neg (by omega)]
  have h2 : Pl { s with log := s.log ++ l } room (lg + l.length) sn := ⟨h.room, h.off, h.left, by simp only [List.length_append]; have := h.log; omega, h.snap⟩
  have h3 : finE { s with log := s.log ++ l } = finE s := rfl
  simp only [app, appE, this, if_true]
  exact ⟨h2.fin.1, h3 ▸ h2.fin.2⟩

theorem swp_full {s : DS} {room : Int} {lg sn : Nat} {l : List UInt8} (h : Pl s room lg sn) (hf : room < l.length) : swp s l = s ∧ swpE s l = 16 := by
  have : refusal s l.length = 16 := by
    unfold refusal
    rw [h.off, h.room, if_neg (by simp), if_pos (by omega)]
  simp [swp, swpE, this]

theorem swp_fits {s : DS} {room : Int} {lg sn : Nat} {l : List UInt8} (h : Pl s room lg sn) (hf : ¬ room < l.length) : Pl (swp s l) room 0 l.length ∧ swpE s l = 0 := by
  have : refusal s l.length = 0 := by
    unfold refusal
    rw [h.off, h.room, if_neg (by simp), if_neg (by omega)]
  have hs : swaps s l = { s with log := [], syn := 0, snap := l } := by unfold swaps; rw [if_neg (by rw [h.left]; simp)]
  have h2 : Pl { s with log := [], syn := 0, snap := l } room 0 l.length := ⟨h.room, h.off, h.left, rfl, rfl⟩
  simp only [swp, swpE, this, if_true, hs]
  exact ⟨h2.fin.1, h.fin.2⟩

def Rel (w wr : World) (R : Nat) (room : Int) (lg sn : Nat) : Prop := Ext w wr ∧ ∃ L s, Dk wr w.heap.size R L s ∧ Pl s room lg sn

set_option maxHeartbeats 4000000 in
theorem walk (w : World) (room : Int) (_ : (Lit.int .i64 room).wf = true) (v1 : Value) (qs : List Int) (r1 : Rd w v1 (qs.map (Value.int .i64))) (_ : ∀ z ∈ qs, (Lit.int .i64 z).wf = true) :
    Calls Try.prog 6 #[.int .i64 room, v1] w fun e w' => e = .returned (.bool true) ∧ Below w.heap.size w w' := by
  obtain ⟨i0', hi, hz0, hz1, hz2⟩ := info_parts Try.infoB
  obtain ⟨A1, c1, rfl, hc1, hm1, hcu⟩ := r1
  have Hcu := Lib.hid hcu
  rw [List.length_map] at *
  unfold maxLen at hm1
  clear hcu
  go_enter Try.func6, Try.ntmps6
  go_wp2_with fail
  refine (known_any _).mono ?_
  rintro e w1 ⟨rfl, hx1⟩
  have E1 := Lib.hid hx1
  clear hx1
  go_wp2_with fail
  refine (within_any room 200 _ (by decide)).mono ?_
  rintro e w' ⟨rfl, rfl⟩
  have q0 : 0 ≤ room % 200 := Int.emod_nonneg _ (by decide)
  have q1 : room % 200 < 200 := Int.emod_lt_of_pos _ (by decide)
  generalize room % 200 = rm at *
  go_wp2_with fail
  refine (New_any (1 + rm) _ (by omega) (by omega)).mono ?_
  rintro e w2 ⟨rfl, hx2, hd2, hlt⟩
  have hs1 := E1.out.size
  have hS : Rel w w2 w1.heap.size (1 + rm) 0 0 := ⟨E1.out.trans hx2, none, _, hd2.base hs1, rfl, rfl, rfl, rfl, rfl⟩
  have HS := Lib.hid hS
  generalize w1.heap.size = R at *
  clear hx2 hd2 hS E1
  go_wp2
  go_loopw [7, 8, 9] (fun lg sn i wr => ∃ (k a b : Nat), k ≤ qs.length ∧ k ≤ 30 ∧ i = .int .i64 k ∧ lg = .int .i64 a ∧ sn = .int .i64 b ∧ a + b ≤ 200 ∧ Rel w wr R (1 + rm) a b) (fun _ _ i _ => 30 - (intOf i).toNat)
  case atStart => exact ⟨0, 0, 0, Nat.zero_le _, Nat.zero_le _, rfl, rfl, rfl, by decide, HS.out⟩
  case round =>
    obtain ⟨k, a, b, hk, hk30, rfl, rfl, rfl, hab, hE, L, s, hD, hP⟩ := hrel
    have HE := Lib.hid hE
    have HD := Lib.hid hD
    have HP := Lib.hid hP
    clear hE hD hP HS
    by_cases hlt : k < qs.length
    · by_cases hl3 : k < 30
      · obtain ⟨ad, rfl, hab', hcs⟩ := Hcu.out (by omega)
        have hcw : w.cell? (ad.add k) = some (.int .i64 qs[k]) := hcs k _ (by simp [hlt])
        have hadb : (ad.add k).block < w.heap.size := by rw [add_block]; exact hab'
        have hkeep : ∀ w', Ext w w' → w'.cell? (ad.add k) = some (.int .i64 qs[k]) := fun w' h => (World.cell?_of_block (h.block _ hadb)).trans hcw
        have c1 : wr.cell? (ad.add k) = some (.int .i64 qs[k]) := hkeep _ HE.out
        have i0 : (0 : Int) ≤ (k : Int) := by omega
        have i1 : (k : Int) < (qs.length : Int) := by omega
        have i2 : (k : Int) < 30 := by omega
        generalize qs[k] = x at *
        clear hcs hcw hadb hkeep
        go_wp2_with fail
        refine (within_some _ 60 60 _ rfl (by decide)).mono ?_
        rintro e w' ⟨K, rfl, hK, rfl⟩
        have hmk : ∀ W : World, (Instr.makeSlice 26 (.int .i64 (K : Int)) (.int .i64 (K : Int))).run Try.prog W = .ok (.slice (some ⟨W.heap.size, 0, none⟩) K K) (W.alloc (.cells (madeCells #[.int .u8 0] K) 5)) := by
          intro W
          have := run_make (P := Try.prog) W 26 5 i0' (.int .u8 0) Try.underlying26 hi hz0 .i64 .i64 (K : Int) (K : Int) (by omega) (by omega) (by rw [hz2]; omega) (by omega)
          rw [this, hz1]
          simp [Value.cells]
        have D1 := Lib.hid (HD.out.ext (ext_alloc wr (.cells (madeCells #[.int .u8 0] K) 5)))
        have M1 := Lib.hid (made_rd wr K (by omega))
        have E1 := Lib.hid (HE.out.trans (ext_alloc wr (.cells (madeCells #[.int .u8 0] K) 5)))
        have hlen : (List.replicate K (0 : UInt8)).length = K := List.length_replicate
        have HL := Lib.hid hlen
        have hL4 : (List.replicate K (0 : UInt8)).length ≤ 140737488355328 := by rw [hlen]; omega
        clear hlen HE HD hL4
        by_cases hx : (x.tmod 2 == 0) = true
        · by_cases hf : 1 + rm < (a : Int) + b + K
          · skip
            obtain ⟨e1, e2⟩ := app_full (l := List.replicate K 0) HP.out (by rw [HL.out]; exact hf)
            have EQ := Lib.hid e1
            have EV := Lib.hid e2
            have PL := Lib.hid HP.out
            clear e1 e2
            go_wp2_with fail
            refine (Append_any D1.out _ _ M1.out (by rw [HL.out]; omega)).mono ?_
            rw [EQ.out, EV.out]
            rintro e w3 hD
            obtain ⟨rfl, hx3, L3, hd3⟩ := hD.next E1.out D1.out
            have E3 := Lib.hid hx3
            have D3 := Lib.hid hd3
            clear hD hx3 hd3
            go_wp2_with fail
            refine (Log_any D3.out).mono ?_
            rintro e w4 ⟨v4, rfl, ho, hx4⟩
            obtain ⟨A4, c4, rfl, _⟩ := (Rd.of_own ho).len
            rw [bvs_length, PL.out.log]
            have D4 := Lib.hid (D3.out.ext hx4)
            have E4 := Lib.hid (E3.out.trans hx4)
            clear ho hx4
            go_wp2_with fail
            refine (Snap_any D4.out).mono ?_
            rintro e w5 ⟨v5, rfl, ho, hx5⟩
            obtain ⟨A5, c5, rfl, _⟩ := (Rd.of_own ho).len
            rw [bvs_length, PL.out.snap]
            have D5 := Lib.hid (D4.out.ext hx5)
            have E5 := Lib.hid (E4.out.trans hx5)
            clear ho hx5
            go_wp2
            go_roundw
            case rel => exact ⟨k + 1, a, b, by omega, by omega, by go_num, by first | rfl | go_num, by first | rfl | go_num, by omega, E5.out, _, _, D5.out, PL.out⟩
            case measure => simp [intOf]; omega
          · skip
            obtain ⟨e1, e2⟩ := app_fits (l := List.replicate K 0) HP.out (by rw [HL.out]; exact hf)
            rw [HL.out] at e1
            have PL := Lib.hid e1
            have EV := Lib.hid e2
            clear e1 e2
            go_wp2_with fail
            refine (Append_any D1.out _ _ M1.out (by rw [HL.out]; omega)).mono ?_
            rw [EV.out]
            rintro e w3 hD
            obtain ⟨rfl, hx3, L3, hd3⟩ := hD.next E1.out D1.out
            have E3 := Lib.hid hx3
            have D3 := Lib.hid hd3
            clear hD hx3 hd3
            go_wp2_with fail
            refine (Log_any D3.out).mono ?_
            rintro e w4 ⟨v4, rfl, ho, hx4⟩
            obtain ⟨A4, c4, rfl, _⟩ := (Rd.of_own ho).len
            rw [bvs_length, PL.out.log]
            have D4 := Lib.hid (D3.out.ext hx4)
            have E4 := Lib.hid (E3.out.trans hx4)
            clear ho hx4
            go_wp2_with fail
            refine (Snap_any D4.out).mono ?_
            rintro e w5 ⟨v5, rfl, ho, hx5⟩
            obtain ⟨A5, c5, rfl, _⟩ := (Rd.of_own ho).len
            rw [bvs_length, PL.out.snap]
            have D5 := Lib.hid (D4.out.ext hx5)
            have E5 := Lib.hid (E4.out.trans hx5)
            clear ho hx5
            go_wp2
            go_roundw
            case rel => exact ⟨k + 1, a + K, b, by omega, by omega, by go_num, by first | rfl | go_num, by first | rfl | go_num, by omega, E5.out, _, _, D5.out, PL.out⟩
            case measure => simp [intOf]; omega
        · have hx : (x.tmod 2 == 0) = false := by simpa using hx
          by_cases hf : 1 + rm < (K : Int)
          · skip
            obtain ⟨e1, e2⟩ := swp_full (l := List.replicate K 0) HP.out (by rw [HL.out]; exact hf)
            have EQ := Lib.hid e1
            have EV := Lib.hid e2
            have PL := Lib.hid HP.out
            clear e1 e2
            go_wp2_with fail
            refine (Swap_any D1.out _ _ M1.out (by rw [HL.out]; omega)).mono ?_
            rw [EQ.out, EV.out]
            rintro e w3 hD
            obtain ⟨rfl, hx3, L3, hd3⟩ := hD.next E1.out D1.out
            have E3 := Lib.hid hx3
            have D3 := Lib.hid hd3
            clear hD hx3 hd3
            go_wp2_with fail
            refine (Log_any D3.out).mono ?_
            rintro e w4 ⟨v4, rfl, ho, hx4⟩
            obtain ⟨A4, c4, rfl, _⟩ := (Rd.of_own ho).len
            rw [bvs_length, PL.out.log]
            have D4 := Lib.hid (D3.out.ext hx4)
            have E4 := Lib.hid (E3.out.trans hx4)
            clear ho hx4
            go_wp2_with fail
            refine (Snap_any D4.out).mono ?_
            rintro e w5 ⟨v5, rfl, ho, hx5⟩
            obtain ⟨A5, c5, rfl, _⟩ := (Rd.of_own ho).len
            rw [bvs_length, PL.out.snap]
            have D5 := Lib.hid (D4.out.ext hx5)
            have E5 := Lib.hid (E4.out.trans hx5)
            clear ho hx5
            go_wp2
            go_roundw
            case rel => exact ⟨k + 1, a, b, by omega, by omega, by go_num, by first | rfl | go_num, by first | rfl | go_num, by omega, E5.out, _, _, D5.out, PL.out⟩
            case measure => simp [intOf]; omega
          · skip
            obtain ⟨e1, e2⟩ := swp_fits (l := List.replicate K 0) HP.out (by rw [HL.out]; exact hf)
            rw [HL.out] at e1
            have PL := Lib.hid e1
            have EV := Lib.hid e2
            clear e1 e2
            go_wp2_with fail
            refine (Swap_any D1.out _ _ M1.out (by rw [HL.out]; omega)).mono ?_
            rw [EV.out]
            rintro e w3 hD
            obtain ⟨rfl, hx3, L3, hd3⟩ := hD.next E1.out D1.out
            have E3 := Lib.hid hx3
            have D3 := Lib.hid hd3
            clear hD hx3 hd3
            go_wp2_with fail
            refine (Log_any D3.out).mono ?_
            rintro e w4 ⟨v4, rfl, ho, hx4⟩
            obtain ⟨A4, c4, rfl, _⟩ := (Rd.of_own ho).len
            rw [bvs_length, PL.out.log]
            have D4 := Lib.hid (D3.out.ext hx4)
            have E4 := Lib.hid (E3.out.trans hx4)
            clear ho hx4
            go_wp2_with fail
            refine (Snap_any D4.out).mono ?_
            rintro e w5 ⟨v5, rfl, ho, hx5⟩
            obtain ⟨A5, c5, rfl, _⟩ := (Rd.of_own ho).len
            rw [bvs_length, PL.out.snap]
            have D5 := Lib.hid (D4.out.ext hx5)
            have E5 := Lib.hid (E4.out.trans hx5)
            clear ho hx5
            go_wp2
            go_roundw
            case rel => exact ⟨k + 1, 0, K, by omega, by omega, by go_num, by first | rfl | go_num, by first | rfl | go_num, by omega, E5.out, _, _, D5.out, PL.out⟩
            case measure => simp [intOf]; omega
      · have i2 : ¬ (k : Int) < 30 := by omega
        have i1 : (k : Int) < (qs.length : Int) := by omega
        go_wp2
        go_ret
        exact ⟨rfl, HE.out⟩
    · have i1 : ¬ (k : Int) < (qs.length : Int) := by omega
      go_wp2
      go_ret
      exact ⟨rfl, HE.out⟩

theorem own : ownKnob Try.prog.godebug = none := by kernel_rfl
theorem laidOut : laidOutB Try.prog = true := by kernel_rfl
set_option maxRecDepth 100000 in
theorem lifted (os : Os) (started : os.Started) (H : Type) (enc : TypeId × Value → H) :
    ReturnsInHanded {} Try.checked os 6 .any (Rows.diskRoomSpec.pre6 enc Try.prog Try.f6 Rows.diskRoomRow.domain false) (Rows.diskRoomSpec.post enc Try.prog Try.f6 false true false false) := by
  refine returnsInHanded_of_change (C := Try.checked) own started (by kernel_rfl) Try.func6
    (ChangeSpec.witness6 (enc := enc) (C := Try.checked) false ⟨#[], #[.int .i64 0, .slice none 0 0], []⟩ 8 (by kernel_rfl) (by kernel_rfl) (by kernel_rfl) (by kernel_rfl)) ?_
  intro W base args ds gs before hval0 hW hcnd _
  have hval : ∀ (j : Nat) t v, Try.f6.params[j]? = some t → args[j]? = some v → Value.okWide Try.prog W .any base t v := hval0
  have hW' := hW
  obtain ⟨p, q, hA0, hV, rfl, hfz, hnd⟩ := hW
  have hA : DataW.TrodAll enc Try.prog W 0 (fun _ => true) true Try.f6.params.toList args.toList ds p := hA0
  rw [Try.params6] at hA hval
  obtain ⟨v0, vs0, d0, ds0, p0, q0, hargs, rfl, rfl, h0, r0⟩ := trodAll_cons hA
  obtain ⟨v1, vs1, d1, ds1, p1, q1, rfl, rfl, rfl, h1, r1⟩ := trodAll_cons r0
  obtain ⟨rfl, rfl, rfl⟩ := trodAll_nil r1
  obtain rfl : args = #[v0, v1] := by cases args; simp_all
  obtain ⟨rfl, rfl⟩ := trodVars_none hV
  obtain ⟨a0, rfl, rfl, rfl, w0⟩ := open_int Try.underlying3 (hval 0 3 v0 rfl rfl) h0
  have hlt1 : ∀ x ∈ p1, x.block < W.heap.size := fun x hx => by simpa using hW'.lt x (by simp [hx])
  obtain ⟨l1, rd1, wf1⟩ := open_rd Try.underlying22 Try.underlying3 (by kernel_rfl) (hval 1 22 v1 rfl rfl) h1
  clear hA0 hval0
  refine (walk W a0 w0 v1 l1 rd1 wf1).mono fun e W' ⟨he, bel⟩ => ?_
  subst he
  exact ⟨_, rfl, _, _, _, [], _, [], hW', trodAll_mk1 (shut_bool Try.underlying4 _), (trodAll_cons_mk (shut_int Try.underlying3 w0) (trodAll_cons_mk (Below.trod laidOut (by kernel_rfl) (of_decide_eq_true (by kernel_rfl)) h1 bel hlt1) trodAll_mk0)), rfl, bel.frame _, fun h => by cases h⟩

theorem over : Rows.diskRoomRow.holds Try.pinned (OpenSpec.ofChange Rows.diskRoomSpec) :=
  OpenClaim.holds_of_wide 6 Try.f6 rfl rfl rfl rfl rfl rfl rfl ⟨rfl, rfl, rfl, rfl, rfl⟩ rfl rfl rfl rfl rfl (by kernel_rfl) Try.func6 (by kernel_rfl)
    (of_decide_eq_true (by kernel_rfl)) (by unfold Func.isWrapper; first | (rw [if_pos (by decide +kernel)]; kernel_rfl) | (rw [if_neg (by decide +kernel)]; exact ⟨rfl, rfl⟩))
    (fun os started H enc _ => lifted os started H enc)

theorem proved : Rows.DiskRoomSaid := over
#print axioms proved
end Go.Proofs.Ytpinpljmabhdhaa.DiskRoom
