/- The law DiskStops holds at every input: a disk that is to stop at an operation does all ahead of it; then the power is gone for all, till a crash; what is refused for want of room is no operation. No condition. -/
import Derived.Test.YtpinpljmabhdhaaKnown3
import Derived.Test.YtpinpljmabhdhaaOpen
import Derived.WalkLawsBesides
import Derived.JoinedOf
import Derived.JoinedAt
import Derived.RowKit3
import Derived.Lib.SmallJoins
namespace Go.Proofs.Ytpinpljmabhdhaa.DiskStops
open Go.ChangeShapes Go.WideShapes Go.ChangeAt Go.RowKit Go.Joins

theorem made_rd (W : World) (N : Nat) (hN : N ≤ 70000) : Rd (W.alloc (.cells (madeCells #[.int .u8 0] N) 5)) (.slice (some ⟨W.heap.size, 0, none⟩) N N) (bvs (List.replicate N 0)) := by
  have e : bvs (List.replicate N 0) = List.replicate N (Value.int .u8 0) := by simp [bvs, bv]
  rw [e]
  refine ⟨_, N, by rw [List.length_replicate], by rw [List.length_replicate]; exact Nat.le_refl _, by simp [maxLen]; omega, fun _ => ⟨_, rfl, by simp, fun j u hu => ?_⟩⟩
  have hadd : (⟨W.heap.size, 0, none⟩ : Addr).add j = ⟨W.heap.size, j, none⟩ := by unfold Addr.add; split <;> simp_all
  rw [hadd, cell_of_row _ W.heap.size j _ 5 (0, 0) (heap_alloc_new W _), ← Array.getElem?_toList, toList_madeCells_one]
  exact hu

/-- The power is on, and fails at operation m + 1; o are done. -/
structure Al (s : DS) (m o k : Nat) : Prop where
  room : s.room = 50
  log : s.log.length ≤ k
  snap : s.snap.length ≤ 2
  off : s.off = false
  le : o ≤ m
  left : s.left = (m : Int) + 1 - o
  ops : s.ops = o

/-- The power is off. -/
structure De (s : DS) (m k : Nat) : Prop where
  room : s.room = 50
  log : s.log.length ≤ k
  snap : s.snap.length ≤ 2
  off : s.off = true
  ops : s.ops = m

section
variable {s : DS} {m o k : Nat}

theorem fin_mid (h : Al s m o k) (hm : m < 100) (ho : o < m) : Al (fin s) m (o + 1) k ∧ finE s = 0 := by
  obtain ⟨h1, h2, h3, h4, h5, h6, h7⟩ := h
  have hl : ¬ s.left = 1 := by omega
  have hl2 : 0 < s.left := by omega
  refine ⟨⟨h1, h2, h3, by simp [fin, drw, hl], by omega, ?_, ?_⟩, by simp [finE, hl]⟩
  · simp only [fin, drw, hl2, if_true]; omega
  · simp only [fin, hl, if_false, inc, h7]; rw [IntWalk.wrap64_in _ (by omega)]; omega

theorem fin_last (h : Al s m m k) (_ : m < 100) : De (fin s) m k ∧ finE s = 17 := by
  obtain ⟨h1, h2, h3, h4, h5, h6, h7⟩ := h
  have hl : s.left = 1 := by omega
  exact ⟨⟨h1, h2, h3, by simp [fin, drw, hl], by simp [fin, drw, hl, h7]⟩, by simp [finE, hl]⟩

theorem Al.more (h : Al s m o k) : Al s m o (k + 1) := ⟨h.room, by have := h.log; omega, h.snap, h.off, h.le, h.left, h.ops⟩
theorem De.more (h : De s m k) : De s m (k + 1) := ⟨h.room, by have := h.log; omega, h.snap, h.off, h.ops⟩

theorem al_app (h : Al s m o k) (hk : k < 30) (c : UInt8) : ∃ s2, Al s2 m o (k + 1) ∧ app s [c] = fin s2 ∧ appE s [c] = finE s2 := by
  have h1 := h.log
  have h2 := h.snap
  have : refusal s (size s + ([c] : List UInt8).length) = 0 := by
    unfold refusal size
    rw [h.off, h.room, if_neg (by simp), if_neg (by simp; omega)]
  refine ⟨{ s with log := s.log ++ [c] }, ⟨h.room, by simp only [List.length_append, List.length_singleton]; omega, h.snap, h.off, h.le, h.left, h.ops⟩, ?_, ?_⟩
  · simp only [app, this, if_true]
  · simp only [appE, this, if_true]; rfl

theorem al_snc (h : Al s m o k) : ∃ s2, Al s2 m o (k + 1) ∧ snc s = fin s2 ∧ sncE s = finE s2 := by
  refine ⟨syncs s, ?_, by simp [snc, h.off], ?_⟩
  · unfold syncs
    split
    · exact h.more
    · exact ⟨h.room, by have := h.log; simp only; omega, h.snap, h.off, h.le, h.left, h.ops⟩
  · have : finE (syncs s) = finE s := by unfold syncs; split <;> rfl
    simp [sncE, h.off, this]

theorem al_swp (h : Al s m o k) (c d : UInt8) : ∃ s2, Al s2 m o (k + 1) ∧ swp s [c, d] = fin s2 ∧ swpE s [c, d] = finE s2 := by
  have : refusal s ([c, d] : List UInt8).length = 0 := by
    unfold refusal
    rw [h.off, h.room, if_neg (by simp), if_neg (by simp)]
  refine ⟨swaps s [c, d], ?_, by simp only [swp, this, if_true], ?_⟩
  · unfold swaps
    split
    · exact h.more
    · exact ⟨h.room, by simp, by simp, h.off, h.le, h.left, h.ops⟩
  · have h2 : finE (swaps s [c, d]) = finE s := by unfold swaps; split <;> rfl
    simp only [swpE, this, if_true, h2]

theorem al_full (h : Al s m o k) (l : List UInt8) (hl : l.length = 60) : app s l = s ∧ appE s l = 16 := by
  have : refusal s (size s + l.length) = 16 := by
    unfold refusal size
    rw [h.off, h.room, if_neg (by simp), if_pos (by rw [hl]; omega)]
  simp [app, appE, this]

theorem de_app (h : De s m k) (l : List UInt8) : app s l = s ∧ appE s l = 17 := by
  have : refusal s (size s + l.length) = 17 := by unfold refusal; rw [h.off, if_pos rfl]
  simp [app, appE, this]
theorem de_swp (h : De s m k) (l : List UInt8) : swp s l = s ∧ swpE s l = 17 := by
  have : refusal s l.length = 17 := by unfold refusal; rw [h.off, if_pos rfl]
  simp [swp, swpE, this]
theorem de_snc (h : De s m k) : snc s = s ∧ sncE s = 17 := by simp [snc, sncE, h.off]
theorem crs_on (s : DS) (p : Int) : (crs s p).off = false ∧ sncE (crs s p) = 0 := by simp [crs, sncE, finE]
end

def Rel (w wr : World) (R m o k : Nat) : Prop := Ext w wr ∧ ∃ L s, Dk wr w.heap.size R L s ∧ (Al s m o k ∨ (De s m k ∧ o = m + 1))

set_option maxRecDepth 100000 in
set_option maxHeartbeats 8000000 in
theorem walk (w : World) (n : Int) (_ : (Lit.int .i64 n).wf = true) (v1 : Value) (qs : List Int) (r1 : Rd w v1 (qs.map (Value.int .i64))) (_ : ∀ z ∈ qs, (Lit.int .i64 z).wf = true) :
    Calls Try.prog 7 #[.int .i64 n, v1] w fun e w' => e = .returned (.bool true) ∧ Below w.heap.size w w' := by
  obtain ⟨i0', hi, hz0, hz1, hz2⟩ := info_parts Try.infoB
  obtain ⟨A1, c1, rfl, hc1, hm1, hcu⟩ := r1
  have Hcu := Lib.hid hcu
  rw [List.length_map] at *
  unfold maxLen at hm1
  clear hcu
  go_enter Try.func7, Try.ntmps7
  go_wp2_with fail
  refine (known_any _).mono ?_
  rintro e w1 ⟨rfl, hx1⟩
  have E1 := Lib.hid hx1
  clear hx1
  go_wp2_with fail
  refine (New_any 50 _ (by decide) (by decide)).mono ?_
  rintro e w2 ⟨rfl, hx2, hd2, hlt⟩
  have hs1 := E1.out.size
  have E2 := Lib.hid (E1.out.trans hx2)
  have D2 := Lib.hid (hd2.base hs1)
  generalize w1.heap.size = R at *
  clear hx2 hd2 E1 hs1 hlt
  go_wp2_with fail
  refine (within_some n 12 12 _ rfl (by decide)).mono ?_
  rintro e w' ⟨m, rfl, hm, rfl⟩
  go_wp2_with fail
  refine (Stop_any D2.out _ (by omega)).mono ?_
  rintro e w3 hD
  obtain ⟨rfl, hx3, L3, hd3⟩ := hD.next E2.out D2.out
  have hS : Rel w w3 R m 0 0 := ⟨hx3, L3, _, hd3, .inl ⟨rfl, Nat.le_refl _, Nat.zero_le _, rfl, Nat.zero_le _, by simp only [stp]; omega, rfl⟩⟩
  have HS := Lib.hid hS
  clear hD hx3 hd3 hS E2 D2
  have hN1 : (1 : Int) ≤ 1 + (m : Int) := by omega
  have hN2 : 1 + (m : Int) ≤ 12 := by omega
  generalize hN : 1 + (m : Int) = N at *
  have HN := Lib.hid hN
  clear hN
  go_wp2
  go_loopw [7, 8] (fun o i wr => ∃ (k q : Nat), k ≤ qs.length ∧ k ≤ 30 ∧ i = .int .i64 k ∧ o = .int .i64 q ∧ q ≤ 12 ∧ Rel w wr R m q k) (fun _ i _ => 30 - (intOf i).toNat)
  case atStart => exact ⟨0, 0, Nat.zero_le _, Nat.zero_le _, rfl, rfl, by decide, HS.out⟩
  case round =>
    obtain ⟨k, o, hk, hk30, rfl, rfl, ho12, hE, L, s, hD, hP⟩ := hrel
    have HE := Lib.hid hE
    have HD := Lib.hid hD
    have HP := Lib.hid hP
    clear hE hD hP HS
    by_cases hlt : k < qs.length ∧ k < 30
    · obtain ⟨hlt, hl3⟩ := hlt
      obtain ⟨ad, rfl, hab', hcs⟩ := Hcu.out (by omega)
      have hcw : w.cell? (ad.add k) = some (.int .i64 qs[k]) := hcs k _ (by simp [hlt])
      have hadb : (ad.add k).block < w.heap.size := by rw [add_block]; exact hab'
      have hkeep : ∀ w', Ext w w' → w'.cell? (ad.add k) = some (.int .i64 qs[k]) := fun w' h => (World.cell?_of_block (h.block _ hadb)).trans hcw
      have c1 : wr.cell? (ad.add k) = some (.int .i64 qs[k]) := hkeep _ HE.out
      have i0 : (0 : Int) ≤ (k : Int) := by omega
      have i1 : (k : Int) < (qs.length : Int) := by omega
      have i2 : (k : Int) < 30 := by omega
      generalize qs[k] = x at *
      clear hcs hcw hadb hkeep
      rcases HP.out with hA | ⟨hX, hom⟩
      · have HA := Lib.hid hA
        have hoff := hA.off
        clear HP hA
        go_wp2_with fail
        refine (Dead_any HD.out).mono ?_
        rw [hoff]
        rintro e w' ⟨rfl, rfl⟩
        go_wp2_with fail
        refine (within_some x 4 4 _ rfl (by decide)).mono ?_
        rintro e w' ⟨y, rfl, hy, rfl⟩
        obtain rfl | rfl | rfl | rfl : y = 0 ∨ y = 1 ∨ y = 2 ∨ y = 3 := by omega
        · skip
          obtain ⟨s2, hs2, e1, e2⟩ := al_app HA.out (by omega) 1
          have HA2 := Lib.hid hs2
          have EQ := Lib.hid e1
          have EV := Lib.hid e2
          have hle := hs2.le
          clear hs2 e1 e2
          have D1 := Lib.hid (HD.out.ext (ext_alloc wr (.cells #[.int .u8 1] 5)))
          have E1 := Lib.hid (HE.out.trans (ext_alloc wr (.cells #[.int .u8 1] 5)))
          have M1 := Lib.hid (rd_new wr [1] #[.int .u8 1] rfl 1 rfl (by simp [maxLen]) (0, 0))
          
          by_cases hom : o < m
          · skip
            obtain ⟨f1, f2⟩ := fin_mid HA2.out (by omega) hom
            have FS := Lib.hid f1
            have OF := Lib.hid f1.off
            have OV := Lib.hid (f1.ops)
            have FE := Lib.hid f2
            clear f1 f2
            have q1 : ((o : Int) + 1 == N) = false := by have := HN.out; simp; omega
            have q2 : (o : Int) + 1 ≤ N - 1 := by have := HN.out; omega
            go_wp2_with fail
            refine (Append_any D1.out _ [1] M1.out (by decide)).mono ?_
            rw [EQ.out, EV.out, FE.out]
            rintro e w3 hD
            obtain ⟨rfl, hx3, L3, hd3⟩ := hD.next E1.out D1.out
            have E3 := Lib.hid hx3
            have D3 := Lib.hid hd3
            clear hD hx3 hd3
            go_wp2_with fail
            refine (Dead_any D3.out).mono ?_
            rw [OF.out]
            rintro e w' ⟨rfl, rfl⟩
            go_wp2_with fail
            refine (Ops_any D3.out).mono ?_
            rw [OV.out]
            rintro e w' ⟨rfl, rfl⟩
            go_wp2
            go_roundw
            case rel => exact ⟨k + 1, o + 1, by omega, by omega, by go_num, by first | rfl | go_num, by omega, E3.out, _, _, D3.out, .inl FS.out⟩
            case measure => simp [intOf]; omega
          · skip
            have HOM := Lib.hid (show o = m by omega)
            clear hom
            obtain ⟨f1, f2⟩ := fin_last (s := s2) (m := m) (k := k + 1) (HOM.out ▸ HA2.out) (by omega)
            have FS := Lib.hid f1
            have OF := Lib.hid f1.off
            have OV := Lib.hid (f1.ops.trans (show (m : Int) = N - 1 by have := HN.out; omega))
            have FE := Lib.hid f2
            clear f1 f2
            obtain ⟨bq, hbq⟩ : ∃ b : Bool, b = true := ⟨_, rfl⟩
            have q1 : ((o : Int) + 1 == N) = bq := by rw [hbq]; have := HN.out; have := HOM.out; simp; omega
            have q2 : ¬ (o : Int) + 1 ≤ N - 1 := by have := HN.out; have := HOM.out; omega
            go_wp2_with fail
            refine (Append_any D1.out _ [1] M1.out (by decide)).mono ?_
            rw [EQ.out, EV.out, FE.out]
            rintro e w3 hD
            obtain ⟨rfl, hx3, L3, hd3⟩ := hD.next E1.out D1.out
            have E3 := Lib.hid hx3
            have D3 := Lib.hid hd3
            clear hD hx3 hd3
            go_wp2_with fail
            refine (Dead_any D3.out).mono ?_
            rw [OF.out]
            rintro e w' ⟨rfl, rfl⟩
            go_wp2_with fail
            refine (Ops_any D3.out).mono ?_
            rw [OV.out]
            rintro e w' ⟨rfl, rfl⟩
            go_wp2
            go_roundw
            case rel => exact ⟨k + 1, o + 1, by omega, by omega, by go_num, by first | rfl | go_num, by omega, E3.out, _, _, D3.out, .inr ⟨FS.out, by rw [HOM.out]⟩⟩
            case measure => simp [intOf]; omega
        · skip
          obtain ⟨s2, hs2, e1, e2⟩ := al_snc HA.out
          have HA2 := Lib.hid hs2
          have EQ := Lib.hid e1
          have EV := Lib.hid e2
          have hle := hs2.le
          clear hs2 e1 e2
          have D1 := HD
          have E1 := HE
          
          by_cases hom : o < m
          · skip
            obtain ⟨f1, f2⟩ := fin_mid HA2.out (by omega) hom
            have FS := Lib.hid f1
            have OF := Lib.hid f1.off
            have OV := Lib.hid (f1.ops)
            have FE := Lib.hid f2
            clear f1 f2
            have q1 : ((o : Int) + 1 == N) = false := by have := HN.out; simp; omega
            have q2 : (o : Int) + 1 ≤ N - 1 := by have := HN.out; omega
            go_wp2_with fail
            refine (Sync_any D1.out).mono ?_
            rw [EQ.out, EV.out, FE.out]
            rintro e w3 hD
            obtain ⟨rfl, hx3, L3, hd3⟩ := hD.next E1.out D1.out
            have E3 := Lib.hid hx3
            have D3 := Lib.hid hd3
            clear hD hx3 hd3
            go_wp2_with fail
            refine (Dead_any D3.out).mono ?_
            rw [OF.out]
            rintro e w' ⟨rfl, rfl⟩
            go_wp2_with fail
            refine (Ops_any D3.out).mono ?_
            rw [OV.out]
            rintro e w' ⟨rfl, rfl⟩
            go_wp2
            go_roundw
            case rel => exact ⟨k + 1, o + 1, by omega, by omega, by go_num, by first | rfl | go_num, by omega, E3.out, _, _, D3.out, .inl FS.out⟩
            case measure => simp [intOf]; omega
          · skip
            have HOM := Lib.hid (show o = m by omega)
            clear hom
            obtain ⟨f1, f2⟩ := fin_last (s := s2) (m := m) (k := k + 1) (HOM.out ▸ HA2.out) (by omega)
            have FS := Lib.hid f1
            have OF := Lib.hid f1.off
            have OV := Lib.hid (f1.ops.trans (show (m : Int) = N - 1 by have := HN.out; omega))
            have FE := Lib.hid f2
            clear f1 f2
            obtain ⟨bq, hbq⟩ : ∃ b : Bool, b = true := ⟨_, rfl⟩
            have q1 : ((o : Int) + 1 == N) = bq := by rw [hbq]; have := HN.out; have := HOM.out; simp; omega
            have q2 : ¬ (o : Int) + 1 ≤ N - 1 := by have := HN.out; have := HOM.out; omega
            go_wp2_with fail
            refine (Sync_any D1.out).mono ?_
            rw [EQ.out, EV.out, FE.out]
            rintro e w3 hD
            obtain ⟨rfl, hx3, L3, hd3⟩ := hD.next E1.out D1.out
            have E3 := Lib.hid hx3
            have D3 := Lib.hid hd3
            clear hD hx3 hd3
            go_wp2_with fail
            refine (Dead_any D3.out).mono ?_
            rw [OF.out]
            rintro e w' ⟨rfl, rfl⟩
            go_wp2_with fail
            refine (Ops_any D3.out).mono ?_
            rw [OV.out]
            rintro e w' ⟨rfl, rfl⟩
            go_wp2
            go_roundw
            case rel => exact ⟨k + 1, o + 1, by omega, by omega, by go_num, by first | rfl | go_num, by omega, E3.out, _, _, D3.out, .inr ⟨FS.out, by rw [HOM.out]⟩⟩
            case measure => simp [intOf]; omega
        · skip
          obtain ⟨s2, hs2, e1, e2⟩ := al_swp HA.out 2 3
          have HA2 := Lib.hid hs2
          have EQ := Lib.hid e1
          have EV := Lib.hid e2
          have hle := hs2.le
          clear hs2 e1 e2
          have D1 := Lib.hid (HD.out.ext (ext_alloc wr (.cells #[.int .u8 2, .int .u8 3] 5)))
          have E1 := Lib.hid (HE.out.trans (ext_alloc wr (.cells #[.int .u8 2, .int .u8 3] 5)))
          have M1 := Lib.hid (rd_new wr [2, 3] #[.int .u8 2, .int .u8 3] rfl 2 rfl (by simp [maxLen]) (0, 0))
          
          by_cases hom : o < m
          · skip
            obtain ⟨f1, f2⟩ := fin_mid HA2.out (by omega) hom
            have FS := Lib.hid f1
            have OF := Lib.hid f1.off
            have OV := Lib.hid (f1.ops)
            have FE := Lib.hid f2
            clear f1 f2
            have q1 : ((o : Int) + 1 == N) = false := by have := HN.out; simp; omega
            have q2 : (o : Int) + 1 ≤ N - 1 := by have := HN.out; omega
            go_wp2_with fail
            refine (Swap_any D1.out _ [2, 3] M1.out (by decide)).mono ?_
            rw [EQ.out, EV.out, FE.out]
            rintro e w3 hD
            obtain ⟨rfl, hx3, L3, hd3⟩ := hD.next E1.out D1.out
            have E3 := Lib.hid hx3
            have D3 := Lib.hid hd3
            clear hD hx3 hd3
            go_wp2_with fail
            refine (Dead_any D3.out).mono ?_
            rw [OF.out]
            rintro e w' ⟨rfl, rfl⟩
            go_wp2_with fail
            refine (Ops_any D3.out).mono ?_
            rw [OV.out]
            rintro e w' ⟨rfl, rfl⟩
            go_wp2
            go_roundw
            case rel => exact ⟨k + 1, o + 1, by omega, by omega, by go_num, by first | rfl | go_num, by omega, E3.out, _, _, D3.out, .inl FS.out⟩
            case measure => simp [intOf]; omega
          · skip
            have HOM := Lib.hid (show o = m by omega)
            clear hom
            obtain ⟨f1, f2⟩ := fin_last (s := s2) (m := m) (k := k + 1) (HOM.out ▸ HA2.out) (by omega)
            have FS := Lib.hid f1
            have OF := Lib.hid f1.off
            have OV := Lib.hid (f1.ops.trans (show (m : Int) = N - 1 by have := HN.out; omega))
            have FE := Lib.hid f2
            clear f1 f2
            obtain ⟨bq, hbq⟩ : ∃ b : Bool, b = true := ⟨_, rfl⟩
            have q1 : ((o : Int) + 1 == N) = bq := by rw [hbq]; have := HN.out; have := HOM.out; simp; omega
            have q2 : ¬ (o : Int) + 1 ≤ N - 1 := by have := HN.out; have := HOM.out; omega
            go_wp2_with fail
            refine (Swap_any D1.out _ [2, 3] M1.out (by decide)).mono ?_
            rw [EQ.out, EV.out, FE.out]
            rintro e w3 hD
            obtain ⟨rfl, hx3, L3, hd3⟩ := hD.next E1.out D1.out
            have E3 := Lib.hid hx3
            have D3 := Lib.hid hd3
            clear hD hx3 hd3
            go_wp2_with fail
            refine (Dead_any D3.out).mono ?_
            rw [OF.out]
            rintro e w' ⟨rfl, rfl⟩
            go_wp2_with fail
            refine (Ops_any D3.out).mono ?_
            rw [OV.out]
            rintro e w' ⟨rfl, rfl⟩
            go_wp2
            go_roundw
            case rel => exact ⟨k + 1, o + 1, by omega, by omega, by go_num, by first | rfl | go_num, by omega, E3.out, _, _, D3.out, .inr ⟨FS.out, by rw [HOM.out]⟩⟩
            case measure => simp [intOf]; omega
        · skip
          obtain ⟨e1, e2⟩ := al_full HA.out (List.replicate 60 0) (by decide)
          have EQ := Lib.hid e1
          have EV := Lib.hid e2
          have OF := Lib.hid hoff
          clear e1 e2
          have hmk : ∀ W : World, (Instr.makeSlice 26 (.int .i64 60) (.int .i64 60)).run Try.prog W = .ok (.slice (some ⟨W.heap.size, 0, none⟩) 60 60) (W.alloc (.cells (madeCells #[.int .u8 0] 60) 5)) := by
            intro W
            have := run_make (P := Try.prog) W 26 5 i0' (.int .u8 0) Try.underlying26 hi hz0 .i64 .i64 60 60 (by omega) (by omega) (by rw [hz2]; omega) (by omega)
            rw [this, hz1]
            simp [Value.cells]
          have D1 := Lib.hid (HD.out.ext (ext_alloc wr (.cells (madeCells #[.int .u8 0] 60) 5)))
          have E1 := Lib.hid (HE.out.trans (ext_alloc wr (.cells (madeCells #[.int .u8 0] 60) 5)))
          have M1 := Lib.hid (made_rd wr 60 (by omega))
          
          go_wp2_with fail
          refine (Append_any D1.out _ (List.replicate 60 0) M1.out (by decide)).mono ?_
          rw [EQ.out, EV.out]
          rintro e w3 hD
          obtain ⟨rfl, hx3, L3, hd3⟩ := hD.next E1.out D1.out
          have E3 := Lib.hid hx3
          have D3 := Lib.hid hd3
          clear hD hx3 hd3
          go_wp2_with fail
          refine (Dead_any D3.out).mono ?_
          rw [OF.out]
          rintro e w' ⟨rfl, rfl⟩
          go_wp2
          go_roundw
          case rel => exact ⟨k + 1, o, by omega, by omega, by go_num, by first | rfl | go_num, by omega, E3.out, _, _, D3.out, .inl HA.out.more⟩
          case measure => simp [intOf]; omega
      · have HA := Lib.hid hX
        have hoff := hX.off
        have HOM := Lib.hid hom
        clear hom
        clear HP hX
        go_wp2_with fail
        refine (Dead_any HD.out).mono ?_
        rw [hoff]
        rintro e w' ⟨rfl, rfl⟩
        go_wp2_with fail
        refine (within_some x 4 4 _ rfl (by decide)).mono ?_
        rintro e w' ⟨y, rfl, hy, rfl⟩
        obtain rfl | rfl | rfl | rfl : y = 0 ∨ y = 1 ∨ y = 2 ∨ y = 3 := by omega
        · skip
          obtain ⟨e1, e2⟩ := de_app HA.out [1]
          have EQ := Lib.hid e1
          have EV := Lib.hid e2
          clear e1 e2
          have D1 := Lib.hid (HD.out.ext (ext_alloc wr (.cells #[.int .u8 1] 5)))
          have E1 := Lib.hid (HE.out.trans (ext_alloc wr (.cells #[.int .u8 1] 5)))
          have M1 := Lib.hid (rd_new wr [1] #[.int .u8 1] rfl 1 rfl (by simp [maxLen]) (0, 0))
          
          go_wp2_with fail
          refine (Append_any D1.out _ [1] M1.out (by decide)).mono ?_
          rw [EQ.out, EV.out]
          rintro e w3 hD
          obtain ⟨rfl, hx3, L3, hd3⟩ := hD.next E1.out D1.out
          have E3 := Lib.hid hx3
          have D3 := Lib.hid hd3
          clear hD hx3 hd3
          go_wp2
          go_roundw
          case rel => exact ⟨k + 1, o, by omega, by omega, by go_num, by first | rfl | go_num, by omega, E3.out, _, _, D3.out, .inr ⟨HA.out.more, HOM.out⟩⟩
          case measure => simp [intOf]; omega
        · skip
          obtain ⟨e1, e2⟩ := de_snc HA.out
          have EQ := Lib.hid e1
          have EV := Lib.hid e2
          clear e1 e2
          have D1 := HD
          have E1 := HE
          
          go_wp2_with fail
          refine (Sync_any D1.out).mono ?_
          rw [EQ.out, EV.out]
          rintro e w3 hD
          obtain ⟨rfl, hx3, L3, hd3⟩ := hD.next E1.out D1.out
          have E3 := Lib.hid hx3
          have D3 := Lib.hid hd3
          clear hD hx3 hd3
          go_wp2
          go_roundw
          case rel => exact ⟨k + 1, o, by omega, by omega, by go_num, by first | rfl | go_num, by omega, E3.out, _, _, D3.out, .inr ⟨HA.out.more, HOM.out⟩⟩
          case measure => simp [intOf]; omega
        · skip
          obtain ⟨e1, e2⟩ := de_swp HA.out [2, 3]
          have EQ := Lib.hid e1
          have EV := Lib.hid e2
          clear e1 e2
          have D1 := Lib.hid (HD.out.ext (ext_alloc wr (.cells #[.int .u8 2, .int .u8 3] 5)))
          have E1 := Lib.hid (HE.out.trans (ext_alloc wr (.cells #[.int .u8 2, .int .u8 3] 5)))
          have M1 := Lib.hid (rd_new wr [2, 3] #[.int .u8 2, .int .u8 3] rfl 2 rfl (by simp [maxLen]) (0, 0))
          
          go_wp2_with fail
          refine (Swap_any D1.out _ [2, 3] M1.out (by decide)).mono ?_
          rw [EQ.out, EV.out]
          rintro e w3 hD
          obtain ⟨rfl, hx3, L3, hd3⟩ := hD.next E1.out D1.out
          have E3 := Lib.hid hx3
          have D3 := Lib.hid hd3
          clear hD hx3 hd3
          go_wp2
          go_roundw
          case rel => exact ⟨k + 1, o, by omega, by omega, by go_num, by first | rfl | go_num, by omega, E3.out, _, _, D3.out, .inr ⟨HA.out.more, HOM.out⟩⟩
          case measure => simp [intOf]; omega
        · skip
          obtain ⟨e1, e2⟩ := de_app HA.out (List.replicate 60 0)
          have EQ := Lib.hid e1
          have EV := Lib.hid e2
          clear e1 e2
          have hmk : ∀ W : World, (Instr.makeSlice 26 (.int .i64 60) (.int .i64 60)).run Try.prog W = .ok (.slice (some ⟨W.heap.size, 0, none⟩) 60 60) (W.alloc (.cells (madeCells #[.int .u8 0] 60) 5)) := by
            intro W
            have := run_make (P := Try.prog) W 26 5 i0' (.int .u8 0) Try.underlying26 hi hz0 .i64 .i64 60 60 (by omega) (by omega) (by rw [hz2]; omega) (by omega)
            rw [this, hz1]
            simp [Value.cells]
          have D1 := Lib.hid (HD.out.ext (ext_alloc wr (.cells (madeCells #[.int .u8 0] 60) 5)))
          have E1 := Lib.hid (HE.out.trans (ext_alloc wr (.cells (madeCells #[.int .u8 0] 60) 5)))
          have M1 := Lib.hid (made_rd wr 60 (by omega))
          
          go_wp2_with fail
          refine (Append_any D1.out _ (List.replicate 60 0) M1.out (by decide)).mono ?_
          rw [EQ.out, EV.out]
          rintro e w3 hD
          obtain ⟨rfl, hx3, L3, hd3⟩ := hD.next E1.out D1.out
          have E3 := Lib.hid hx3
          have D3 := Lib.hid hd3
          clear hD hx3 hd3
          go_wp2
          go_roundw
          case rel => exact ⟨k + 1, o, by omega, by omega, by go_num, by first | rfl | go_num, by omega, E3.out, _, _, D3.out, .inr ⟨HA.out.more, HOM.out⟩⟩
          case measure => simp [intOf]; omega
    · by_cases i1 : (k : Int) < (qs.length : Int)
      · have i2 : ¬ (k : Int) < 30 := by omega
        go_wp2_with fail
        refine (Crash_any HD.out 0).mono ?_
        rintro e w3 hD
        obtain ⟨rfl, hx3, L3, hd3⟩ := hD.next HE.out HD.out
        have E3 := Lib.hid hx3
        have D3 := Lib.hid hd3
        clear hD hx3 hd3
        obtain ⟨e1, e2⟩ := crs_on s 0
        have EQ := Lib.hid e1
        have EV := Lib.hid e2
        clear e1 e2
        go_wp2_with fail
        refine (Dead_any D3.out).mono ?_
        rw [EQ.out]
        rintro e w' ⟨rfl, rfl⟩
        go_wp2_with fail
        refine (Sync_any D3.out).mono ?_
        rw [EV.out]
        rintro e w4 hD
        obtain ⟨rfl, hx4, L4, hd4⟩ := hD.next E3.out D3.out
        have E4 := Lib.hid hx4
        clear hD hx4 hd4
        go_wp2
        go_ret
        exact ⟨rfl, E4.out⟩
      · skip
        go_wp2_with fail
        refine (Crash_any HD.out 0).mono ?_
        rintro e w3 hD
        obtain ⟨rfl, hx3, L3, hd3⟩ := hD.next HE.out HD.out
        have E3 := Lib.hid hx3
        have D3 := Lib.hid hd3
        clear hD hx3 hd3
        obtain ⟨e1, e2⟩ := crs_on s 0
        have EQ := Lib.hid e1
        have EV := Lib.hid e2
        clear e1 e2
        go_wp2_with fail
        refine (Dead_any D3.out).mono ?_
        rw [EQ.out]
        rintro e w' ⟨rfl, rfl⟩
        go_wp2_with fail
        refine (Sync_any D3.out).mono ?_
        rw [EV.out]
        rintro e w4 hD
        obtain ⟨rfl, hx4, L4, hd4⟩ := hD.next E3.out D3.out
        have E4 := Lib.hid hx4
        clear hD hx4 hd4
        go_wp2
        go_ret
        exact ⟨rfl, E4.out⟩

theorem own : ownKnob Try.prog.godebug = none := by kernel_rfl
theorem laidOut : laidOutB Try.prog = true := by kernel_rfl
set_option maxRecDepth 100000 in
theorem lifted (os : Os) (started : os.Started) (H : Type) (enc : TypeId × Value → H) :
    ReturnsInHanded {} Try.checked os 7 .any (Rows.diskStopsSpec.pre6 enc Try.prog Try.f7 Rows.diskStopsRow.domain false) (Rows.diskStopsSpec.post enc Try.prog Try.f7 false true false false) := by
  refine returnsInHanded_of_change (C := Try.checked) own started (by kernel_rfl) Try.func7
    (ChangeSpec.witness6 (enc := enc) (C := Try.checked) false ⟨#[], #[.int .i64 0, .slice none 0 0], []⟩ 8 (by kernel_rfl) (by kernel_rfl) (by kernel_rfl) (by kernel_rfl)) ?_
  intro W base args ds gs before hval0 hW hcnd _
  have hval : ∀ (j : Nat) t v, Try.f7.params[j]? = some t → args[j]? = some v → Value.okWide Try.prog W .any base t v := hval0
  have hW' := hW
  obtain ⟨p, q, hA0, hV, rfl, hfz, hnd⟩ := hW
  have hA : DataW.TrodAll enc Try.prog W 0 (fun _ => true) true Try.f7.params.toList args.toList ds p := hA0
  rw [Try.params7] at hA hval
  obtain ⟨v0, vs0, d0, ds0, p0, q0, hargs, rfl, rfl, h0, r0⟩ := trodAll_cons hA
  obtain ⟨v1, vs1, d1, ds1, p1, q1, rfl, rfl, rfl, h1, r1⟩ := trodAll_cons r0
  obtain ⟨rfl, rfl, rfl⟩ := trodAll_nil r1
  obtain rfl : args = #[v0, v1] := by cases args; simp_all
  obtain ⟨rfl, rfl⟩ := trodVars_none hV
  obtain ⟨a0, rfl, rfl, rfl, w0⟩ := open_int Try.underlying3 (hval 0 3 v0 rfl rfl) h0
  have hlt1 : ∀ x ∈ p1, x.block < W.heap.size := fun x hx => by simpa using hW'.lt x (by simp [hx])
  obtain ⟨l1, rd1, wf1⟩ := open_rd Try.underlying22 Try.underlying3 (by kernel_rfl) (hval 1 22 v1 rfl rfl) h1
  clear hA0 hval0
  refine (walk W a0 w0 v1 l1 rd1 wf1).mono fun e W' ⟨he, bel⟩ => ?_
  subst he
  exact ⟨_, rfl, _, _, _, [], _, [], hW', trodAll_mk1 (shut_bool Try.underlying4 _), (trodAll_cons_mk (shut_int Try.underlying3 w0) (trodAll_cons_mk (Below.trod laidOut (by kernel_rfl) (of_decide_eq_true (by kernel_rfl)) h1 bel hlt1) trodAll_mk0)), rfl, bel.frame _, fun h => by cases h⟩

theorem over : Rows.diskStopsRow.holds Try.pinned (OpenSpec.ofChange Rows.diskStopsSpec) :=
  OpenClaim.holds_of_wide 7 Try.f7 rfl rfl rfl rfl rfl rfl rfl ⟨rfl, rfl, rfl, rfl, rfl⟩ rfl rfl rfl rfl rfl (by kernel_rfl) Try.func7 (by kernel_rfl)
    (of_decide_eq_true (by kernel_rfl)) (by unfold Func.isWrapper; first | (rw [if_pos (by decide +kernel)]; kernel_rfl) | (rw [if_neg (by decide +kernel)]; exact ⟨rfl, rfl⟩))
    (fun os started H enc _ => lifted os started H enc)

theorem proved : Rows.DiskStopsSaid := over
#print axioms proved
end Go.Proofs.Ytpinpljmabhdhaa.DiskStops
