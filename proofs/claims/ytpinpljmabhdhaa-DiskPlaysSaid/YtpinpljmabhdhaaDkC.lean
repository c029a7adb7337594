/- disk: what it offers. -/
import Derived.Test.YtpinpljmabhdhaaDkB
namespace Go.Proofs.Ytpinpljmabhdhaa
open Go.RowKit

def size (s : DS) : Int := (s.log.length : Int) + s.snap.length
def app (s : DS) (l : List UInt8) : DS := if refusal s (size s + l.length) = 0 then fin { s with log := s.log ++ l } else s
def appE (s : DS) (l : List UInt8) : Int := if refusal s (size s + l.length) = 0 then finE s else refusal s (size s + l.length)
def syncs (s : DS) : DS := if s.left = 1 then s else { s with syn := (s.log.length : Int) }
def snc (s : DS) : DS := if s.off then s else fin (syncs s)
def sncE (s : DS) : Int := if s.off then 17 else finE s
def swaps (s : DS) (l : List UInt8) : DS := if s.left = 1 ∧ s.stop % 2 ≠ 0 then s else { s with log := [], syn := 0, snap := l }
def swp (s : DS) (l : List UInt8) : DS := if refusal s l.length = 0 then fin (swaps s l) else s
def swpE (s : DS) (l : List UInt8) : Int := if refusal s l.length = 0 then finE s else refusal s l.length
def stp (s : DS) (n : Int) : DS := { s with stop := n, left := n }
def kept (s : DS) (p : Int) : Int := p % ((s.log.length : Int) - s.syn + 1)
def crs (s : DS) (p : Int) : DS := { s with off := false, stop := 0, left := 0, log := s.log.take (s.syn + kept s p).toNat, syn := ((s.log.take (s.syn + kept s p).toNat).length : Int) }
def nw (room : Int) : DS := ⟨room, [], 0, [], false, 0, 0, 0⟩

theorem refusal_room {s : DS} {n : Int} (h : refusal s n = 0) : s.off = false ∧ n ≤ s.room := by
  unfold refusal at h
  split at h
  · simp at h
  · split at h
    · simp at h
    · rename_i h1 h2
      exact ⟨by simpa using h1, by omega⟩

section
variable {w : World} {b R : Nat} {L : Option Nat × Option Nat} {s : DS}

theorem Did.same (h : Dk w b R L s) {w' : World} (hx : Ext w w') (v : Value) : Did w b R L s v (.returned v) w' := Did.mk (Foot.of_ext hx) (h.ext hx) (Kept.refl _ _) v

theorem New_no (room : Int) (w : World) (h : room < 1 ∨ 16777216 < room) :
    Calls Try.prog 20 #[.int .i64 room] w fun e w' => e = .returned (.tuple #[.pointer none, .int .i64 1]) ∧ w = w' := by
  by_cases h1 : room < 1
  · clear h
    go_enter Try.func20, Try.ntmps20
    go_wp2
    go_ret2
    exact ⟨rfl, rfl⟩
  · have h2 : 16777216 < room := by omega
    clear h
    go_enter Try.func20, Try.ntmps20
    go_wp2
    go_ret2
    exact ⟨rfl, rfl⟩

theorem New_any (room : Int) (w : World) (h1 : ¬ room < 1) (h2 : ¬ 16777216 < room) :
    Calls Try.prog 20 #[.int .i64 room] w fun e w' => e = .returned (.tuple #[.pointer (some ⟨w.heap.size, 0, none⟩), .int .i64 0]) ∧ Ext w w' ∧ Dk w' w.heap.size w.heap.size (none, none) (nw room) ∧ w.heap.size < w'.heap.size := by
  go_enter Try.func20, Try.ntmps20
  go_wp2
  go_ret2
  refine ⟨rfl, ext_alloc _ _, ⟨.slice none 0 0, .slice none 0 0, ?_, World.ownsRow_nil _ _ _ _, rfl, by simp, Rd.nil _, by simp [Value.ownBlock], by simp [Value.ownBlock], ⟨Nat.le_refl _, rfl⟩, ⟨by simp only [nw]; omega, by simp only [nw]; omega, by simp [nw]; omega, by simp [nw], by simp [nw], by simp [nw], by simp [nw], by simp [nw], by simp [nw]⟩⟩, by simp⟩
  exact heap_alloc_new w _

set_option maxHeartbeats 400000 in
theorem Append_any (h : Dk w b R L s) (v : Value) (l : List UInt8) (hr : Rd w v (bvs l)) (hl : l.length ≤ 140737488355328) :
    Calls Try.prog 23 #[.pointer (some ⟨R, 0, none⟩), v] w (Did w b R L (app s l) (.int .i64 (appE s l))) := by
  have H := Lib.hid h
  have ok := h.ok
  have HR := Lib.hid hr
  have hz := h.lt
  have hb : b ≤ w.heap.size := Nat.le_trans (h.from _ (.inl rfl)) (Nat.le_of_lt hz)
  obtain ⟨A, c, rfl, _⟩ := hr.len
  rw [bvs_length] at *
  have b1 := ok.used
  have b2 := ok.room2
  clear h hr ok
  obtain ⟨q, hq⟩ : ∃ q, refusal s (size s + l.length) = q := ⟨_, rfl⟩
  have hap : q = 0 → app s l = fin { s with log := s.log ++ l } ∧ appE s l = finE s := fun h => by simp [app, appE, hq, h]
  have hno : q ≠ 0 → app s l = s ∧ appE s l = q := fun h => by simp [app, appE, hq, h]
  unfold size at hq
  have hroom : q = 0 → (s.log.length : Int) + s.snap.length + l.length ≤ s.room := fun h => (refusal_room (hq.trans h)).2
  have HQ := Lib.hid hq
  clear hq
  by_cases h0 : q = 0
  · obtain ⟨e1, e2⟩ := hap h0
    rw [e1, e2]
    have hroom' := hroom h0
    clear hroom
    subst h0
    clear hap hno e1 e2
    go_enter Try.func23, Try.ntmps23
    go_wp2_with fail
    refine (used_any H.out).mono ?_
    rintro e w1 ⟨rfl, hx⟩
    have H1 := Lib.hid (H.out.ext hx)
    have R1 := Lib.hid (HR.out.ext hx)
    have HX := Lib.hid hx
    clear hx
    go_wp2_with fail
    refine (refusal_any H1.out _).mono ?_
    rw [HQ.out]
    rintro e w' ⟨rfl, rfl⟩
    go_wp2_with fail
    refine (write_any H1.out _ l R1.out hroom' (Nat.le_trans hb HX.out.size)).mono ?_
    rintro e w2 ⟨rfl, hf2, L2, hD2, hL2⟩
    have H2 := Lib.hid hD2
    have F2 := Lib.hid (show Foot (mine R L) w w2 from (Foot.of_ext HX.out).trans hf2 (fun _ _ h => h))
    have HL2 := Lib.hid (show Kept w.heap.size L L2 from hL2.more HX.out.size)
    clear hf2 hD2 hL2 R1 H1
    go_wp2_with fail
    refine (finish_any H2.out).mono ?_
    rintro e w3 hD
    have hD3 := Did.then_ hz F2.out HL2.out hD
    have he := hD3.1
    subst he
    have HD := Lib.hid hD3
    clear hD hD3
    go_wp2
    go_ret
    exact HD.out
  · obtain ⟨e1, e2⟩ := hno h0
    rw [e1, e2]
    have h0' : (q != 0) = true := by simpa using h0
    clear hap hno e1 e2 hroom h0
    go_enter Try.func23, Try.ntmps23
    go_wp2_with fail
    refine (used_any H.out).mono ?_
    rintro e w1 ⟨rfl, hx⟩
    have HD := Lib.hid (Did.same H.out hx (.int .i64 q))
    have H1 := Lib.hid (H.out.ext hx)
    clear hx
    go_wp2_with fail
    refine (refusal_any H1.out _).mono ?_
    rw [HQ.out]
    rintro e w' ⟨rfl, rfl⟩
    go_wp2
    go_ret
    exact HD.out


theorem Sync_any (h : Dk w b R L s) :
    Calls Try.prog 25 #[.pointer (some ⟨R, 0, none⟩)] w (Did w b R L (snc s) (.int .i64 (sncE s))) := by
  have H := Lib.hid h
  have ok := h.ok
  have hz := h.lt
  have b1 := ok.used
  clear h ok
  cases ho : s.off
  · have e1 : snc s = fin (syncs s) := by simp [snc, ho]
    have e2 : sncE s = finE s := by simp [sncE, ho]
    have hq : refusal s ((s.log.length : Int) + s.snap.length) = 0 := by simp [refusal, ho]; omega
    rw [e1, e2]
    have HQ := Lib.hid hq
    clear e1 e2 hq ho
    by_cases hl : s.left = 1
    · have e3 : syncs s = s := by simp [syncs, hl]
      have hd : decide (s.left = 1) = true := by simpa using hl
      rw [e3]
      clear e3 hl
      go_enter Try.func25, Try.ntmps25
      go_wp2_with fail
      refine (used_any H.out).mono ?_
      rintro e w1 ⟨rfl, hx⟩
      have H1 := Lib.hid (H.out.ext hx)
      have HX := Lib.hid hx
      clear hx
      go_wp2_with fail
      refine (refusal_any H1.out _).mono ?_
      rw [HQ.out]
      rintro e w' ⟨rfl, rfl⟩
      go_wp2_with fail
      refine (failing_any H1.out).mono ?_
      rw [hd]
      rintro e w' ⟨rfl, rfl⟩
      clear hd
      go_wp2_with fail
      refine (finish_any H1.out).mono ?_
      rintro e w3 hD
      have hD3 := Did.then_ hz (Foot.of_ext HX.out) (Kept.refl _ _) hD
      have he := hD3.1
      subst he
      have HD := Lib.hid hD3
      clear hD hD3
      go_wp2
      go_ret
      exact HD.out
    · have e3 : syncs s = { s with syn := (s.log.length : Int) } := by simp [syncs, hl]
      have hd : decide (s.left = 1) = false := by simpa using hl
      have e4 : finE s = finE { s with syn := (s.log.length : Int) } := rfl
      rw [e3, e4]
      clear e3 e4 hl
      go_enter Try.func25, Try.ntmps25
      go_wp2_with fail
      refine (used_any H.out).mono ?_
      rintro e w1 ⟨rfl, hx⟩
      have H1 := Lib.hid (H.out.ext hx)
      have HX := Lib.hid hx
      clear hx
      go_wp2_with fail
      refine (refusal_any H1.out _).mono ?_
      rw [HQ.out]
      rintro e w' ⟨rfl, rfl⟩
      go_wp2_with fail
      refine (failing_any H1.out).mono ?_
      rw [hd]
      rintro e w' ⟨rfl, rfl⟩
      clear hd
      go_wp2_with fail
      refine (settle_any H1.out).mono ?_
      rintro e w2 ⟨rfl, hf2, L2, hD2, hL2⟩
      have H2 := Lib.hid hD2
      have F2 := Lib.hid (show Foot (mine R L) w w2 from (Foot.of_ext HX.out).trans hf2 (fun _ _ h => h))
      have HL2 := Lib.hid (show Kept w.heap.size L L2 from hL2.more HX.out.size)
      clear hf2 hD2 hL2 H1
      go_wp2_with fail
      refine (finish_any H2.out).mono ?_
      rintro e w3 hD
      have hD3 := Did.then_ hz F2.out HL2.out hD
      have he := hD3.1
      subst he
      have HD := Lib.hid hD3
      clear hD hD3
      go_wp2
      go_ret
      exact HD.out
  · have e1 : snc s = s := by simp [snc, ho]
    have e2 : sncE s = 17 := by simp [sncE, ho]
    have hq : refusal s ((s.log.length : Int) + s.snap.length) = 17 := by simp [refusal, ho]
    rw [e1, e2]
    have HQ := Lib.hid hq
    clear e1 e2 hq ho
    go_enter Try.func25, Try.ntmps25
    go_wp2_with fail
    refine (used_any H.out).mono ?_
    rintro e w1 ⟨rfl, hx⟩
    have HD := Lib.hid (Did.same H.out hx (.int .i64 17))
    have H1 := Lib.hid (H.out.ext hx)
    clear hx
    go_wp2_with fail
    refine (refusal_any H1.out _).mono ?_
    rw [HQ.out]
    rintro e w' ⟨rfl, rfl⟩
    go_wp2
    go_ret
    exact HD.out

theorem even_any (h : s.stop % 2 = 0 ∨ s.stop % 2 ≠ 0) : ((s.stop.tmod 2 : Int) == 0) = decide (s.stop % 2 = 0) := by
  have := @Int.tmod_eq_emod s.stop 2
  have h2 := @Int.tmod_eq_zero_of_dvd
  by_cases he : s.stop % 2 = 0
  · have : s.stop.tmod 2 = 0 := Int.tmod_eq_zero_of_dvd (Int.dvd_of_emod_eq_zero he)
    simp [this, he]
  · have : s.stop.tmod 2 ≠ 0 := fun h => he (Int.emod_eq_zero_of_dvd (Int.dvd_of_tmod_eq_zero h))
    simp [this, he]

set_option maxHeartbeats 400000 in
theorem Swap_any (h : Dk w b R L s) (v : Value) (l : List UInt8) (hr : Rd w v (bvs l)) (hl : l.length ≤ 140737488355328) :
    Calls Try.prog 31 #[.pointer (some ⟨R, 0, none⟩), v] w (Did w b R L (swp s l) (.int .i64 (swpE s l))) := by
  have H := Lib.hid h
  have hz := h.lt
  have HR := Lib.hid hr
  obtain ⟨A, c, rfl, _⟩ := hr.len
  rw [bvs_length] at *
  obtain ⟨q, hq⟩ : ∃ q, refusal s l.length = q := ⟨_, rfl⟩
  have hap : q = 0 → swp s l = fin (swaps s l) ∧ swpE s l = finE s := fun h => by simp [swp, swpE, hq, h]
  have hno : q ≠ 0 → swp s l = s ∧ swpE s l = q := fun h => by simp [swp, swpE, hq, h]
  have hroom : q = 0 → (l.length : Int) ≤ s.room := fun h => (refusal_room (hq.trans h)).2
  have HQ := Lib.hid hq
  clear hq hr
  by_cases h0 : q = 0
  · obtain ⟨e1, e2⟩ := hap h0
    rw [e1, e2]
    have hroom' := hroom h0
    clear hroom
    subst h0
    clear hap hno e1 e2
    by_cases hs : s.left = 1 ∧ s.stop % 2 ≠ 0
    · have e3 : swaps s l = s := by simp only [swaps, if_pos hs]
      have hd : decide (s.left = 1) = true := by simpa using hs.1
      have he : ((s.stop.tmod 2 : Int) == 0) = false := by rw [even_any (.inr hs.2)]; simpa using hs.2
      rw [e3]
      obtain ⟨vl, vs, h5, _⟩ := H.out
      have c5 := h5.c5
      clear e3 hs h5
      go_enter Try.func31, Try.ntmps31
      go_wp2_with fail
      refine (refusal_any H.out _).mono ?_
      rw [HQ.out]
      rintro e w' ⟨rfl, rfl⟩
      go_wp2_with fail
      refine (failing_any H.out).mono ?_
      rw [hd]
      rintro e w' ⟨rfl, rfl⟩
      clear hd
      go_wp2_with fail
      refine (finish_any H.out).mono ?_
      rintro e w3 hD
      have he := hD.1
      subst he
      have HD := Lib.hid hD
      clear hD
      go_wp2
      go_ret
      exact HD.out
    · have e3 : swaps s l = { s with log := [], syn := 0, snap := l } := by simp only [swaps, if_neg hs]
      have e4 : finE s = finE { s with log := [], syn := 0, snap := l } := rfl
      have he : s.left = 1 → ((s.stop.tmod 2 : Int) == 0) = true := fun h1 => by
        have : s.stop % 2 = 0 := by
          rcases Int.emod_two_eq s.stop with h | h
          · exact h
          · exact absurd ⟨h1, by omega⟩ hs
        rw [even_any (.inl this)]; simpa using this
      rw [e3, e4]
      obtain ⟨vl, vs, h5, _⟩ := H.out
      have c5 := h5.c5
      clear e3 e4 hs h5
      by_cases h1 : s.left = 1
      · have hd : decide (s.left = 1) = true := by simpa using h1
        have he := he h1
        clear h1
        go_enter Try.func31, Try.ntmps31
        go_wp2_with fail
        refine (refusal_any H.out _).mono ?_
        rw [HQ.out]
        rintro e w' ⟨rfl, rfl⟩
        go_wp2_with fail
        refine (failing_any H.out).mono ?_
        rw [hd]
        rintro e w' ⟨rfl, rfl⟩
        clear hd
        go_wp2_with fail
        refine (replace_any H.out _ l HR.out hroom').mono ?_
        rintro e w2 ⟨rfl, hf2, L2, hD2, hL2⟩
        have H2 := Lib.hid hD2
        have F2 := Lib.hid hf2
        have HL2 := Lib.hid hL2
        clear hf2 hD2 hL2
        go_wp2_with fail
        refine (finish_any H2.out).mono ?_
        rintro e w3 hD
        have hD3 := Did.then_ hz F2.out HL2.out hD
        have he := hD3.1
        subst he
        have HD := Lib.hid hD3
        clear hD hD3
        go_wp2
        go_ret
        exact HD.out
      · have hd : decide (s.left = 1) = false := by simpa using h1
        clear he h1
        go_enter Try.func31, Try.ntmps31
        go_wp2_with fail
        refine (refusal_any H.out _).mono ?_
        rw [HQ.out]
        rintro e w' ⟨rfl, rfl⟩
        go_wp2_with fail
        refine (failing_any H.out).mono ?_
        rw [hd]
        rintro e w' ⟨rfl, rfl⟩
        clear hd
        go_wp2_with fail
        refine (replace_any H.out _ l HR.out hroom').mono ?_
        rintro e w2 ⟨rfl, hf2, L2, hD2, hL2⟩
        have H2 := Lib.hid hD2
        have F2 := Lib.hid hf2
        have HL2 := Lib.hid hL2
        clear hf2 hD2 hL2
        go_wp2_with fail
        refine (finish_any H2.out).mono ?_
        rintro e w3 hD
        have hD3 := Did.then_ hz F2.out HL2.out hD
        have he := hD3.1
        subst he
        have HD := Lib.hid hD3
        clear hD hD3
        go_wp2
        go_ret
        exact HD.out
  · obtain ⟨e1, e2⟩ := hno h0
    rw [e1, e2]
    have h0' : (q != 0) = true := by simpa using h0
    have HD := Lib.hid (Did.same H.out (Ext.refl w) (.int .i64 q))
    clear hap hno e1 e2 hroom h0
    go_enter Try.func31, Try.ntmps31
    go_wp2_with fail
    refine (refusal_any H.out _).mono ?_
    rw [HQ.out]
    rintro e w' ⟨rfl, rfl⟩
    go_wp2
    go_ret
    exact HD.out

theorem Stop_any (h : Dk w b R L s) (n : Int) (hn : -9223372036854775808 ≤ n ∧ n ≤ 9223372036854775807) :
    Calls Try.prog 27 #[.pointer (some ⟨R, 0, none⟩), .int .i64 n] w (Did w b R L (stp s n) (.tuple #[])) := by
  have ok := h.ok
  have HD := Lib.hid (Dk.cells (w' := (w.setCell ⟨R, 5, none⟩ (.int .i64 n)).setCell ⟨R, 6, none⟩ (.int .i64 n)) (s' := stp s n) h
      ((Foot.setCell _ _ _ _ _ (.inl rfl)).trans (Foot.setCell _ _ _ _ _ (.inl rfl)) (fun _ _ h => h)) (fun i hi => by rw [set_other _ _ _ _ i hi, set_other _ _ _ _ i hi])
      (fun _ _ h => (h.set5 _).set6 _) rfl rfl (by obtain ⟨h1, h2, h3, h4, h5, h6, h7, h8, h9⟩ := ok; exact ⟨h1, h2, h3, h4, h5, hn.1, hn.2, hn.1, hn.2⟩) (.tuple #[]))
  obtain ⟨vl, vs, h, h1, _⟩ := h
  have c5 := h.c5
  have f5 := h.fr 5
  have c6 := h.c6
  have f6 := h.fr 6
  clear h h1 ok hn
  go_enter Try.func27, Try.ntmps27
  go_wp2
  go_end0
  exact HD.out

theorem Dead_any (h : Dk w b R L s) :
    Calls Try.prog 35 #[.pointer (some ⟨R, 0, none⟩)] w fun e w' => e = .returned (.bool s.off) ∧ w = w' := by
  obtain ⟨vl, vs, h, _⟩ := h
  have c4 := h.c4
  clear h
  go_enter Try.func35, Try.ntmps35
  go_wp2
  go_ret
  exact ⟨rfl, rfl⟩

theorem Ops_any (h : Dk w b R L s) :
    Calls Try.prog 36 #[.pointer (some ⟨R, 0, none⟩)] w fun e w' => e = .returned (.int .i64 s.ops) ∧ w = w' := by
  obtain ⟨vl, vs, h, _⟩ := h
  have c7 := h.c7
  clear h
  go_enter Try.func36, Try.ntmps36
  go_wp2
  go_ret
  exact ⟨rfl, rfl⟩

/-- What Log and Snap answer. -/
def Gave (w : World) (l : List UInt8) (e : Ending) (w' : World) : Prop := ∃ v', e = .returned v' ∧ w'.ownsRow w.heap.size 5 1 v' l.length (bvs l) ∧ Ext w w'

theorem Log_any (h : Dk w b R L s) :
    Calls Try.prog 33 #[.pointer (some ⟨R, 0, none⟩)] w (Gave w s.log) := by
  have ok := h.ok
  have b1 := ok.used
  have b2 := ok.room2
  obtain ⟨vl, vs, h, h1, _⟩ := h
  have c1 := h.c1
  have HR := Lib.hid (Rd.of_own h1)
  clear h h1 ok
  go_enter Try.func33, Try.ntmps33
  go_wp2_with fail
  refine (dcopied_any _ _ _ HR.out (by omega)).mono ?_
  rintro e w1 ⟨v1, rfl, ho, hx⟩
  have HO := Lib.hid ho
  have HX := Lib.hid hx
  clear ho hx
  go_wp2
  go_ret
  exact ⟨_, rfl, HO.out, HX.out⟩

theorem Snap_any (h : Dk w b R L s) :
    Calls Try.prog 34 #[.pointer (some ⟨R, 0, none⟩)] w (Gave w s.snap) := by
  have ok := h.ok
  have b1 := ok.used
  have b2 := ok.room2
  obtain ⟨vl, vs, h, h1, _, _, h2, _⟩ := h
  have c3 := h.c3
  have HR := Lib.hid h2
  clear h h1 h2 ok
  go_enter Try.func34, Try.ntmps34
  go_wp2_with fail
  refine (dcopied_any _ _ _ HR.out (by omega)).mono ?_
  rintro e w1 ⟨v1, rfl, ho, hx⟩
  have HO := Lib.hid ho
  have HX := Lib.hid hx
  clear ho hx
  go_wp2
  go_ret
  exact ⟨_, rfl, HO.out, HX.out⟩

theorem Crash_any (h : Dk w b R L s) (p : Int) :
    Calls Try.prog 29 #[.pointer (some ⟨R, 0, none⟩), .int .i64 p] w (Did w b R L (crs s p) (.int .i64 (kept s p))) := by
  have hz := h.lt
  have ok := h.ok
  have b0 := ok.syn0
  have b1 := ok.syn1
  have b2 := ok.used
  have b3 := ok.room2
  obtain ⟨k, hk⟩ : ∃ k : Nat, kept s p = (k : Int) := ⟨(kept s p).toNat, by
    have := Int.emod_nonneg p (show (s.log.length : Int) - s.syn + 1 ≠ 0 by omega)
    unfold kept; omega⟩
  have hk2 : s.syn + k ≤ s.log.length := by
    have := Int.emod_lt_of_pos p (show (0 : Int) < (s.log.length : Int) - s.syn + 1 by omega)
    rw [← hk]; unfold kept; omega
  have hcr : crs s p = { { { s with off := false, stop := 0, left := 0 } with log := s.log.take (s.syn + k).toNat } with syn := ((s.log.take (s.syn + k).toNat).length : Int) } := by simp only [crs, hk]
  have hkp : p % ((s.log.length : Int) - s.syn + 1) = (k : Int) := hk
  rw [hcr, hk]
  have HK := Lib.hid hkp
  have HD0 := Dk.cells (w' := (((w.setCell ⟨R, 4, none⟩ (.bool false)).setCell ⟨R, 5, none⟩ (.int .i64 0)).setCell ⟨R, 6, none⟩ (.int .i64 0))) (s' := { s with off := false, stop := 0, left := 0 }) h
      (((Foot.setCell _ _ _ _ _ (.inl rfl)).trans (Foot.setCell _ _ _ _ _ (.inl rfl)) (fun _ _ h => h)).trans (Foot.setCell _ _ _ _ _ (.inl rfl)) (fun _ _ h => h)) (fun i hi => by rw [set_other _ _ _ _ i hi, set_other _ _ _ _ i hi, set_other _ _ _ _ i hi])
      (fun _ _ h => ((h.set4 _).set5 _).set6 _) rfl rfl (by obtain ⟨h1, h2, h3, h4, h5, h6, h7, h8, h9⟩ := ok; exact ⟨h1, h2, h3, h4, h5, by simp, by simp, by simp, by simp⟩) (.tuple #[])
  obtain ⟨_, hf0, L0, hD0, hL0⟩ := HD0
  have F0 := Lib.hid hf0
  have H0 := Lib.hid hD0
  have HL0 := Lib.hid hL0
  obtain ⟨vl, vs, h0, _⟩ := h
  have c4 := h0.c4
  have c5 := h0.c5
  have c6 := h0.c6
  have f4 := h0.fr 4
  have f5 := h0.fr 5
  have f6 := h0.fr 6
  clear ok h0 hf0 hD0 hL0 hcr hk hkp
  go_enter Try.func29, Try.ntmps29
  go_wp2_with fail
  refine (loose_any H0.out).mono ?_
  rintro e w1 ⟨rfl, hx⟩
  have H1 := Lib.hid (H0.out.ext hx)
  have F1 := Lib.hid (F0.out.trans (Foot.of_ext (S := mine R L) hx) (fun _ _ h => h))
  clear hx
  go_wp2_with fail
  refine (modulo_any p _ _ (by show 1 ≤ (s.log.length : Int) - s.syn + 1; omega) (by show (s.log.length : Int) - s.syn + 1 ≤ 16777217; omega)).mono ?_
  rintro e w' ⟨rfl, rfl⟩
  have hkk : p % ((s.log.length : Int) - s.syn + 1) = (k : Int) := HK.out
  rw [hkk]
  clear hkk
  go_wp2_with fail
  refine (cut_any H1.out k hk2).mono ?_
  rintro e w2 hD
  have hD2 := Did.then_ hz F1.out HL0.out hD
  obtain ⟨rfl, hf2, L2, hd2, hL2⟩ := hD2
  have F2 := Lib.hid hf2
  have H2 := Lib.hid hd2
  have HL2 := Lib.hid hL2
  clear hD hf2 hd2 hL2
  go_wp2_with fail
  refine (settle_any H2.out).mono ?_
  rintro e w3 hD
  have hD3 := Did.then_ hz F2.out HL2.out hD
  obtain ⟨rfl, hf3, L3, hd3, hL3⟩ := hD3
  have HD := Lib.hid (Did.mk hf3 hd3 hL3 (.int .i64 (k : Int)))
  clear hD hf3 hd3 hL3
  go_wp2
  go_ret
  exact HD.out

end
end Go.Proofs.Ytpinpljmabhdhaa
