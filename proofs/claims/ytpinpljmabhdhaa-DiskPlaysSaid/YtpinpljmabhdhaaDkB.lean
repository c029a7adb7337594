/- disk: copied, write, settle, replace, cut, modulo, finish. -/
import Derived.Test.YtpinpljmabhdhaaDkA
import Derived.Test.YtpinpljmabhdhaaMod
import Derived.Test.YtpinpljmabhdhaaOwnL
namespace Go.Proofs.Ytpinpljmabhdhaa
open Go.RowKit

theorem splice_all {xs ys : List Value} (h : ys.length = xs.length) : splice ys 0 xs = xs := by
  simp [splice, ← h]

theorem ret_i {k : IntKind} {a b : Int} (h : a = b) : Ending.returned (.int k a) = .returned (.int k b) := by rw [h]

/-- A copy of the call's own. -/
theorem dcopied_any (v : Value) (l : List UInt8) (w : World) (hr : Rd w v (bvs l)) (hl : l.length ≤ 140737488355328) :
    Calls Try.prog 61 #[v] w fun e w' => ∃ v', e = .returned v' ∧ w'.ownsRow w.heap.size 5 1 v' l.length (bvs l) ∧ Ext w w' := by
  obtain ⟨i0, hi, hz0, hz1, hz2⟩ := info_parts Try.infoB
  obtain ⟨A, c, rfl, hc1, hc2, hcell⟩ := hr
  rw [bvs_length] at *
  have hmk : ∀ W : World, (Instr.makeSlice 26 (.int .i64 (l.length : Int)) (.int .i64 (l.length : Int))).run Try.prog W = .ok (.slice (some ⟨W.heap.size, 0, none⟩) l.length l.length) (W.alloc (.cells (madeCells #[.int .u8 0] l.length) 5)) := by
    intro W
    have := run_make (P := Try.prog) W 26 5 i0 (.int .u8 0) Try.underlying26 hi hz0 .i64 .i64 (l.length : Int) (l.length : Int) (by omega) (by omega) (by rw [hz2]; omega) (by omega)
    rw [this, hz1]
    simp [Value.cells]
  have hg : (w.alloc (.cells (madeCells #[.int .u8 0] l.length) 5)).heap[w.heap.size]? = some (.cells (List.replicate l.length (Value.int .u8 0)).toArray 5 (0, 0)) := by
    rw [heap_alloc_new, ← toList_madeCells_one]
  have hsp : splice (List.replicate l.length (Value.int .u8 0)) 0 (bvs l) = bvs l := splice_all (by rw [List.length_replicate, bvs_length])
  have hsz : (Try.prog.info? 5).map (·.size) = some 1 := by rw [hi]; simp [hz1]
  have Hg := Lib.hid hg
  have Hsp := Lib.hid hsp
  have Hcell := Lib.hid hcell
  clear hg hsp hcell
  have HX := Lib.hid (show Below w.heap.size w (w.alloc (.cells (madeCells #[.int .u8 0] l.length) 5)) from ext_alloc w _)
  have hpos : 0 < (bvs l).length → ∃ ad, A = some ad ∧ ∀ j v, (bvs l)[j]? = some v → (w.alloc (.cells (madeCells #[.int .u8 0] l.length) 5)).cell? (ad.add j) = some v := by
    intro hn
    rw [bvs_length] at hn
    obtain ⟨a, rfl, hb, hc⟩ := Hcell.out hn
    refine ⟨a, rfl, fun j v hv => ?_⟩
    rw [World.cell?_of_block (HX.out.block (a.add j).block (by rw [add_block]; exact hb))]
    exact hc j v hv
  have Hpos := Lib.hid hpos
  clear hpos
  go_enter Try.func61, Try.ntmps61
  go_wp2_with (with_reducible refine wpList_copy_splice rfl (.tmp 7) (.tmp 8) 26 26 rfl 5 Try.underlying26 hsz (some ⟨w.heap.size, 0, none⟩) A l.length l.length l.length c rfl rfl w.heap.size 0 (List.replicate l.length (Value.int .u8 0)) 5 Hg.out (bvs l) ?c1 (fun hn => ⟨rfl, Hpos.out hn⟩) ?c2 bvs_one w.heap.size w HX.out (Nat.le_refl _) ?_)
  case c1 => simp [bvs_length]
  case c2 => simp [bvs_length]
  intro w2 hg2 hb2
  have HO : w2.ownsRow w.heap.size 5 1 (.slice (some ⟨w.heap.size, 0, none⟩) l.length l.length) l.length (bvs l) := by
    have h2 := hg2.out
    rw [Hsp.out] at h2
    exact ⟨by rw [bvs_length]; omega, .inr ⟨w.heap.size, l.length, _, rfl, Nat.le_refl _, h2, Nat.le_refl _, by omega, by simp [bvs_length], by simp only [Nat.mul_one]; exact List.take_of_length_le (by rw [bvs_length]; omega)⟩⟩
  have HO := Lib.hid HO
  have HE := Lib.hid hb2
  clear hg2 hb2 hmk
  go_wp2
  go_ret
  exact ⟨_, rfl, HO.out, HE.out⟩

section
variable {w : World} {b R : Nat} {L : Option Nat × Option Nat} {s : DS}

theorem write_any (h : Dk w b R L s) (v : Value) (l : List UInt8) (hr : Rd w v (bvs l)) (hu : (s.log.length : Int) + s.snap.length + l.length ≤ s.room) (hb : b ≤ w.heap.size) :
    Calls Try.prog 51 #[.pointer (some ⟨R, 0, none⟩), v] w (Did w b R L { s with log := s.log ++ l } (.tuple #[])) := by
  obtain ⟨i0, hi, hz0, hz1, hz2⟩ := info_parts Try.infoB
  obtain ⟨vl, vs, h0, h1, h2, h3, h4, h5, h6, h7, ok⟩ := h
  have c1 := h0.c1
  have f1 := h0.fr 1
  have b2 := ok.room2
  have HR := Lib.hid (hr.src bvs_one Try.underlying26)
  have H1 := Lib.hid h1
  rw [bvs_length] at HR
  have H0 := Lib.hid h0
  have H2 := Lib.hid h2
  have H3 := Lib.hid h3
  have H4 := Lib.hid h4
  have H5 := Lib.hid h5
  have H6 := Lib.hid h6
  have H7 := Lib.hid h7
  have OK := Lib.hid ok
  clear hr h1 h0 h2 h3 h4 h5 h6 h7 ok
  go_enter Try.func51, Try.ntmps51
  go_wp2_with (at_builtin; refine wpList_app_src _ rfl (.tmp 8) (.tmp 9) 26 26 rfl b 5 i0 (.int .u8 0) 1 Try.underlying26 hi hz0 hz1 hz2 rfl _ s.log.length (bvs s.log) rfl H1.out _ l.length (bvs l) rfl HR.out ?c3 ?c4 ?c5 ?_)
  case c3 => simp [maxLen]; omega
  case c4 => omega
  case c5 => exact hb
  intro va w2 hown hgrow hat hfr
  have hF : Foot (mine R L) w w2 := Foot.of_grown hgrow (fun k hk => .inr (by rw [← H2.out]; exact hk))
  have hd2 : DAt w2 R vl vs s := H0.out.foot (Foot.of_grown (S := fun k => L.1 = some k) hgrow (fun k hk => by rw [← H2.out]; exact hk)) (fun e => H3.out e)
  have f2 := hd2.fr 1
  have c2 := hd2.c1
  have hne : va.ownBlock ≠ some R := by
    rcases hat with e | e
    · rw [e, H2.out]; exact H3.out
    · rw [e]; intro e'; injection e' with e'; have := H0.out.lt; omega
  have hvs : ∀ k, vs.ownBlock = some k → va.ownBlock ≠ some k ∧ k < w2.heap.size := by
    intro k hk
    have h6 := H6.out k hk
    refine ⟨?_, Nat.lt_of_lt_of_le h6.2 hgrow.size⟩
    rcases hat with e | e
    · rw [e, H2.out]; exact h6.1
    · rw [e]; intro e'; injection e' with e'
      omega
  have hL : Kept w.heap.size L (va.ownBlock, L.2) := by
    refine ⟨fun k hk => ?_, fun _ e => .inl e⟩
    have hk : va.ownBlock = some k := hk
    rcases hat with e | e
    · exact .inl (by rw [← H2.out, ← e]; exact hk)
    · right; rw [e] at hk; injection hk with hk; omega
  have hs2 : Rd w2 vs (bvs s.snap) := H4.out.foot (Foot.of_grown (S := fun k => L.1 = some k) hgrow (fun k hk => by rw [← H2.out]; exact hk)) (fun g hg => (H6.out g hg).1)
  have HD : Did w b R L { s with log := s.log ++ l } (.tuple #[]) (.returned (.tuple #[])) (w2.setCell ⟨R, 1, none⟩ va) := by
    have k2 : Foot (fun i => i = R) w2 (w2.setCell ⟨R, 1, none⟩ va) := Foot.setCell _ _ _ _ _ rfl
    refine ⟨rfl, hF.trans (Foot.setCell (mine R L) _ _ _ _ (.inl rfl)) (fun _ _ h => h), (va.ownBlock, L.2), ⟨va, vs, ?_, ?_, rfl, hne, hs2.foot k2 (fun g hg e => H5.out (by rw [hg, e])), H5.out, ?_, H7.out, ?_⟩, hL⟩
    · exact (show DAt _ R va vs { s with log := s.log ++ l } from hd2.set1 va)
    · have := own_foot hown k2 (fun g hg e => hne (by rw [hg, e]))
      simpa [bvs_append, bvs_length] using this
    · intro k hk
      simpa [World.setCell] using hvs k hk
    · obtain ⟨h1, h2, h3, h4, h5, h6, h7, h8, h9⟩ := OK.out
      refine ⟨h1, h2, ?_, h4, ?_, h6, h7, h8, h9⟩ <;> simp only [List.length_append] <;> omega
  obtain ⟨Aa, ca, rfl, _⟩ := (Rd.of_own hown).len
  rw [List.length_append] at HD
  have HD := Lib.hid HD
  clear hF hd2 hne hvs hL hs2 hown hgrow hat hfr
  go_wp2
  go_end0
  exact HD.out


theorem settle_any (h : Dk w b R L s) :
    Calls Try.prog 56 #[.pointer (some ⟨R, 0, none⟩)] w (Did w b R L { s with syn := (s.log.length : Int) } (.tuple #[])) := by
  have ok := h.ok
  have HD := Lib.hid (Dk.cells (w' := w.setCell ⟨R, 2, none⟩ (.int .i64 (s.log.length : Int))) (s' := { s with syn := (s.log.length : Int) }) h
      (Foot.setCell _ _ _ _ _ (.inl rfl)) (fun i hi => by rw [set_other _ _ _ _ i hi])
      (fun _ _ h => (h.set2 _)) rfl rfl (by obtain ⟨h1, h2, h3, h4, h5, h6, h7, h8, h9⟩ := ok; exact ⟨h1, h2, h3, by simp only; omega, by simp only; omega, h6, h7, h8, h9⟩) (.tuple #[]))
  obtain ⟨vl, vs, h, h1, _⟩ := h
  obtain ⟨A, c, rfl, _⟩ := (Rd.of_own h1).len
  have c1 := h.c1
  have c2 := h.c2
  have f2 := h.fr 2
  rw [bvs_length] at *
  clear h h1 ok
  go_enter Try.func56, Try.ntmps56
  go_wp2
  go_end0
  exact HD.out

theorem modulo_any (n m : Int) (w : World) (h1 : 1 ≤ m) (h2 : m ≤ 16777217) :
    Calls Try.prog 57 #[.int .i64 n, .int .i64 m] w fun e w' => e = .returned (.int .i64 (n % m)) ∧ w = w' := by
  have l1 : n.tmod m < m := Int.tmod_lt_of_pos n (by omega)
  have l2 : -m < n.tmod m := by have := Int.lt_tmod_of_pos n (b := m) (by omega); omega
  have e1 : (n.tmod m + m) % m = n % m := by
    rw [Int.add_emod_right]
    by_cases hneg : n.tmod m < 0
    · rw [emod_neg (by omega) hneg, ← Int.add_emod_right, Int.emod_eq_of_lt (by omega) (by omega)]
    · rw [emod_pos (by omega) hneg, Int.emod_eq_of_lt (by omega) (by omega)]
  have E1 := Lib.hid e1
  have hz : (m == 0) = false := by simp; omega
  have l3 : 0 ≤ n.tmod m + m := by omega
  clear e1
  go_enter Try.func57, Try.ntmps57
  go_wp2
  go_ret
  exact ⟨ret_i E1.out, rfl⟩


/-- A front of a row. -/
theorem own_front {w : World} {base : Nat} {e : TypeId} {A : Option Addr} {n c m : Nat} {xs : List Value} (h : w.ownsRow base e 1 (.slice A n c) n xs) (hm : m ≤ n) : w.ownsRow base e 1 (.slice A m c) m (xs.take m) := by
  obtain ⟨h1, h2⟩ := h
  refine ⟨by rw [List.length_take]; omega, ?_⟩
  rcases h2 with ⟨h2, h3⟩ | ⟨g, cap, cur, hv, hb, hg, hn, hc, hs, ht⟩
  · injection h2 with e1 e2 e3
    subst e1 e2 e3
    obtain rfl : m = 0 := by omega
    exact .inl ⟨rfl, rfl⟩
  · injection hv with e1 e2 e3
    subst e1 e3
    refine .inr ⟨g, _, cur, rfl, hb, hg, by omega, hc, hs, ?_⟩
    rw [← ht, Nat.mul_one, Nat.mul_one, List.take_take, Nat.min_eq_left hm]

/-- A step behind a step. -/
theorem Did.mk {w w' : World} {L' : Option Nat × Option Nat} {s' : DS} (hf : Foot (mine R L) w w') (h : Dk w' b R L' s') (hL : Kept w.heap.size L L') (v : Value) : Did w b R L s' v (.returned v) w' := ⟨rfl, hf, L', h, hL⟩
theorem Did.then_ {w w1 w2 : World} {L1 : Option Nat × Option Nat} {s2 : DS} {v : Value} {e : Ending} (hd : R < w.heap.size) (h1 : Foot (mine R L) w w1) (hL : Kept w.heap.size L L1) (h2 : Did w1 b R L1 s2 v e w2) : Did w b R L s2 v e w2 := by
  obtain ⟨rfl, k, L', h, hk⟩ := h2
  refine ⟨rfl, h1.trans k (fun i hi hm => ?_), L', h, hL.trans hk h1.size⟩
  rcases hm with rfl | hm
  · exact .inl rfl
  · rcases hL.1 i hm with h | h
    · exact .inr h
    · omega

theorem replace_any (h : Dk w b R L s) (v : Value) (l : List UInt8) (hr : Rd w v (bvs l)) (hu : (l.length : Int) ≤ s.room) :
    Calls Try.prog 60 #[.pointer (some ⟨R, 0, none⟩), v] w (Did w b R L { s with log := [], syn := 0, snap := l } (.tuple #[])) := by
  have ok := h.ok
  have b2 := ok.room2
  have H := Lib.hid h
  have HR := Lib.hid hr
  have OK := Lib.hid ok
  clear h hr ok
  go_enter Try.func60, Try.ntmps60
  go_wp2_with fail
  refine (dcopied_any v l _ HR.out (by omega)).mono ?_
  rintro e w1 ⟨v1, rfl, ho, hx⟩
  have hw := hx.size
  obtain ⟨vl, vs, h0, h1, h2, h3, h4, h5, h6, h7, h8⟩ := H.out.ext hx
  have c1 := h0.c1
  have c2 := h0.c2
  have c3 := h0.c3
  have f1 := h0.fr 1
  have f2 := h0.fr 2
  have f3 := h0.fr 3
  have hRl := H.out.lt
  have hv1 : ∀ k, v1.ownBlock = some k → w.heap.size ≤ k ∧ k < w1.heap.size := ho.lt
  have hne : v1.ownBlock ≠ some R := fun e => by have := hv1 _ e; omega
  have hr1 := Rd.of_own ho
  have hf1 : Foot (mine R L) w w1 := Foot.of_ext hx
  obtain ⟨A1, c1', rfl, _⟩ := hr1.len
  have HD : Did w b R L { s with log := [], syn := 0, snap := l } (.tuple #[]) (.returned (.tuple #[])) (((w1.setCell ⟨R, 1, none⟩ (.slice none 0 0)).setCell ⟨R, 2, none⟩ (.int .i64 0)).setCell ⟨R, 3, none⟩ (.slice A1 (bvs l).length c1')) := by
    refine Did.mk (L' := (none, (Value.slice A1 (bvs l).length c1').ownBlock)) (((hf1.trans (Foot.setCell (mine R L) _ _ _ _ (.inl rfl)) (fun _ _ h => h)).trans (Foot.setCell (mine R L) _ _ _ _ (.inl rfl)) (fun _ _ h => h)).trans (Foot.setCell (mine R L) _ _ _ _ (.inl rfl)) (fun _ _ h => h))
      ⟨.slice none 0 0, .slice A1 (bvs l).length c1', ?_, ?_, rfl, by simp, ?_, hne, ?_, ⟨h7.1, rfl⟩, ?_⟩ ⟨by simp, fun k e => .inr (hv1 k e).1⟩ _
    · have := ((h0.set1 (.slice none 0 0)).set2 0).set3 (.slice A1 (bvs l).length c1')
      exact this
    · exact World.ownsRow_nil _ _ _ _
    · refine hr1.foot (S := fun i => i = R) (((Foot.setCell (fun i => i = R) _ _ _ _ rfl).trans (Foot.setCell (fun i => i = R) _ _ _ _ rfl) (fun _ _ h => h)).trans (Foot.setCell (fun i => i = R) _ _ _ _ rfl) (fun _ _ h => h)) (fun g hg e => hne (by rw [hg, e]))
    · intro k hk
      exact ⟨by simp, by simpa [World.setCell] using (hv1 k hk).2⟩
    · obtain ⟨h1, h2, h3, h4, h5, h6, h7, h8, h9⟩ := OK.out
      refine ⟨h1, h2, ?_, by simp, by simp, h6, h7, h8, h9⟩
      simp only [List.length_nil]; omega
  have HD := Lib.hid HD
  clear h0 h1 h2 h3 h4 h5 h6 hv1 hne hr1 hf1 hx ho hw
  go_wp2
  go_end0
  exact HD.out

theorem cut_any (h : Dk w b R L s) (k : Nat) (hk : s.syn + k ≤ s.log.length) :
    Calls Try.prog 59 #[.pointer (some ⟨R, 0, none⟩), .int .i64 (k : Int)] w (Did w b R L { s with log := s.log.take (s.syn + k).toNat } (.tuple #[])) := by
  have H := Lib.hid h
  have ok := h.ok
  have OK := Lib.hid ok
  obtain ⟨vl, vs, h0, h1, h2, h3, h4, h5, h6, h7, _⟩ := h
  have hr := Rd.of_own h1
  obtain ⟨A, c, rfl, hc, hm⟩ := hr.len
  rw [bvs_length] at hc
  have c1 := h0.c1
  have c2 := h0.c2
  have f1 := h0.fr 1
  have b0 := ok.syn0
  have b1 := ok.used
  have b2 := ok.room2
  have hz : R < w.heap.size := h0.lt
  obtain ⟨m, hmm⟩ : ∃ m : Nat, s.syn + k = (m : Int) := ⟨(s.syn + k).toNat, by omega⟩
  have hm' : (s.syn + (k : Int)).toNat = m := by omega
  have hml : m ≤ s.log.length := by omega
  rw [hm']
  have hmi : (m : Int) ≤ c := by omega
  have HM := Lib.hid hmm
  have HD : ∀ wk, Ext w wk → Did w b R L { s with log := s.log.take m } (.tuple #[]) (.returned (.tuple #[])) (wk.setCell ⟨R, 1, none⟩ (.slice A m c)) := by
    intro wk hx
    rw [bvs_length] at h1
    have hof := own_front (own_Ext h1 hx) hml
    have hlm : (s.log.take m).length = m := by rw [List.length_take]; omega
    have k1 : Foot (fun i => i = R) wk (wk.setCell ⟨R, 1, none⟩ (.slice A m c)) := Foot.setCell _ _ _ _ _ rfl
    have hLo : (Value.slice A m c).ownBlock = L.1 := by rw [← h2]; cases A <;> rfl
    refine Did.mk (L' := L) (s' := { s with log := s.log.take m }) ((Foot.of_ext hx).trans (Foot.setCell (mine R L) _ _ _ _ (.inl rfl)) (fun _ _ h => h)) ⟨.slice A m c, vs, ?_, ?_, hLo, h3, (h4.ext hx).foot k1 (fun g hg e => h5 (by rw [hg, e])), h5, fun i hi => ?_, h7, ?_⟩ (Kept.refl _ _) _
    · exact ((h0.foot (Foot.of_ext (S := fun _ => False) hx) id).set1 _ : DAt _ R (.slice A m c) vs { s with log := s.log.take m })
    · have := own_foot hof k1 (fun g hg e => h3 (by rw [← hLo, hg, e]))
      simpa [hlm, bvs, List.map_take] using this
    · have := h6 i hi
      have := hx.size
      exact ⟨(h6 i hi).1, by simp only [World.setCell, Array.size_modify]; omega⟩
    · obtain ⟨h1, h2, h3, h4, h5, h6, h7, h8, h9⟩ := OK.out
      refine ⟨h1, h2, ?_, h4, ?_, h6, h7, h8, h9⟩ <;> simp only [hlm] <;> omega
  have HD := Lib.hid HD
  have ff := h0.fr
  have hn0 : A = none → s.log.length = 0 ∧ c = 0 := by
    rintro rfl
    rcases h1.2 with ⟨e1, _⟩ | ⟨g, cap, cur, e1, _⟩
    · injection e1 with e1 e2 e3
      rw [bvs_length] at e2
      exact ⟨e2, e3⟩
    · cases e1
  clear hm' h0 h1 h2 h3 h4 h5 h6 h7 hr ok
  have hw : IntKind.i64.wrap (s.syn + k) = (m : Int) := by rw [hmm, IntWalk.i64_in _ (by omega)]
  clear hmm
  cases A with
  | none =>
    obtain ⟨e1, e2⟩ := hn0 rfl
    obtain rfl : m = 0 := by omega
    obtain rfl : c = 0 := e2
    clear hn0
    go_enter Try.func59, Try.ntmps59
    go_wp2
    refine at_world (fun W0 hW0 => ?_)
    have hB0 : Below w.heap.size w W0 := by rw [hW0]; first | (with_reducible assumption) | (go_grown; done)
    have cc0 : W0.cell? ⟨R, 1, none⟩ = some (.slice none (bvs s.log).length 0) := by rw [hW0]; first | (with_reducible assumption) | (simp [go_sem]; done) | (simp [go_sem, *]; done)
    have cc1 : W0.cell? ⟨R, 2, none⟩ = some (.int .i64 s.syn) := by rw [hW0]; first | (with_reducible assumption) | (simp [go_sem]; done) | (simp [go_sem, *]; done)
    have zz0 : R < W0.heap.size := by rw [hW0]; first | (with_reducible assumption) | go_size
    have ff0 : ∀ o, W0.frozen? ⟨R, o, none⟩ = false := by intro o; rw [hW0]; first | (simp [go_sem]; done) | (simp [go_sem, *]; done)
    have HC := Lib.hid (fun (w' : World) (h : Ext W0 w') => (⟨h.cell cc0, h.cell cc1, Nat.lt_of_lt_of_le zz0 h.size, (fun o => h.free zz0 (ff0 o)), h.from hB0 hB0.size, Nat.le_trans hB0.size h.size⟩ : w'.cell? ⟨R, 1, none⟩ = some (.slice none (bvs s.log).length 0) ∧ w'.cell? ⟨R, 2, none⟩ = some (.int .i64 s.syn) ∧ R < w'.heap.size ∧ (∀ o, w'.frozen? ⟨R, o, none⟩ = false) ∧ Below w.heap.size w w' ∧ w.heap.size ≤ w'.heap.size))
    clear hW0 hB0 cc0 cc1 zz0 ff0
    refine wp_region_lex 14 (by kernel_rfl) (by kernel_rfl) (fun _ _ _ _ _ h => h) ?_
    simp only [List.take_succ_cons, List.take_zero, List.drop_succ_cons, List.drop_zero]
    repeat first | (refine seq_take ?_ (by rfl) (fun wk k1 => ?_) ?_; rotate_left; (have hcc := HC.out wk k1; go_simp; first | exact OkX.val); simp only [Act.put, List.setIfInBounds_toArray, List.set_cons_zero, List.set_cons_succ]) | (refine seq_skip (by rfl) ?_; simp only [Act.put, List.setIfInBounds_toArray, List.set_cons_zero, List.set_cons_succ])
    refine seq_nil (fun wk k1 => ?_)
    obtain ⟨c0, c1, z0, f0, hB, hs⟩ := HC.out wk k1
    clear HC
    go_wp2
    go_end0
    exact HD.out _ (by assumption)
  | some a =>
    clear hn0
    go_enter Try.func59, Try.ntmps59
    go_wp2
    refine at_world (fun W0 hW0 => ?_)
    have hB0 : Below w.heap.size w W0 := by rw [hW0]; first | (with_reducible assumption) | (go_grown; done)
    have cc0 : W0.cell? ⟨R, 1, none⟩ = some (.slice (some a) (bvs s.log).length c) := by rw [hW0]; first | (with_reducible assumption) | (simp [go_sem]; done) | (simp [go_sem, *]; done)
    have cc1 : W0.cell? ⟨R, 2, none⟩ = some (.int .i64 s.syn) := by rw [hW0]; first | (with_reducible assumption) | (simp [go_sem]; done) | (simp [go_sem, *]; done)
    have zz0 : R < W0.heap.size := by rw [hW0]; first | (with_reducible assumption) | go_size
    have ff0 : ∀ o, W0.frozen? ⟨R, o, none⟩ = false := by intro o; rw [hW0]; first | (simp [go_sem]; done) | (simp [go_sem, *]; done)
    have HC := Lib.hid (fun (w' : World) (h : Ext W0 w') => (⟨h.cell cc0, h.cell cc1, Nat.lt_of_lt_of_le zz0 h.size, (fun o => h.free zz0 (ff0 o)), h.from hB0 hB0.size, Nat.le_trans hB0.size h.size⟩ : w'.cell? ⟨R, 1, none⟩ = some (.slice (some a) (bvs s.log).length c) ∧ w'.cell? ⟨R, 2, none⟩ = some (.int .i64 s.syn) ∧ R < w'.heap.size ∧ (∀ o, w'.frozen? ⟨R, o, none⟩ = false) ∧ Below w.heap.size w w' ∧ w.heap.size ≤ w'.heap.size))
    clear hW0 hB0 cc0 cc1 zz0 ff0
    refine wp_region_lex 14 (by kernel_rfl) (by kernel_rfl) (fun _ _ _ _ _ h => h) ?_
    simp only [List.take_succ_cons, List.take_zero, List.drop_succ_cons, List.drop_zero]
    repeat first | (refine seq_take ?_ (by rfl) (fun wk k1 => ?_) ?_; rotate_left; (have hcc := HC.out wk k1; go_simp; first | exact OkX.val); simp only [Act.put, List.setIfInBounds_toArray, List.set_cons_zero, List.set_cons_succ]) | (refine seq_skip (by rfl) ?_; simp only [Act.put, List.setIfInBounds_toArray, List.set_cons_zero, List.set_cons_succ])
    refine seq_nil (fun wk k1 => ?_)
    obtain ⟨c0, c1, z0, f0, hB, hs⟩ := HC.out wk k1
    clear HC
    go_wp2
    go_end0
    exact HD.out _ (by assumption)

theorem finish_any (h : Dk w b R L s) :
    Calls Try.prog 52 #[.pointer (some ⟨R, 0, none⟩)] w (Did w b R L (fin s) (.int .i64 (finE s))) := by
  have hz := h.lt
  have H := Lib.hid h
  clear h
  by_cases hl : s.left = 1
  · have hd : decide (s.left = 1) = true := by simpa using hl
    have hfin : fin s = drw s := by simp [fin, hl, drw]
    have hfe : finE s = 17 := by simp [finE, hl]
    rw [hfin, hfe]
    clear hl hfin hfe
    go_enter Try.func52, Try.ntmps52
    go_wp2_with fail
    refine (draw_any H.out).mono ?_
    rw [hd]
    rintro e w1 ⟨rfl, hf, L', hD, hL⟩
    have HD := Lib.hid (Did.then_ hz hf hL (Did.mk (Foot.refl _ _) hD (Kept.refl _ _) (.int .i64 17)))
    clear hf hD hL hd
    go_wp2
    go_ret
    exact HD.out
  · have hd : decide (s.left = 1) = false := by simpa using hl
    have hfin : fin s = { drw s with ops := inc s.ops } := by simp [fin, hl]
    have hfe : finE s = 0 := by simp [finE, hl]
    rw [hfin, hfe]
    clear hl hfin hfe
    go_enter Try.func52, Try.ntmps52
    go_wp2_with fail
    refine (draw_any H.out).mono ?_
    rw [hd]
    rintro e w1 ⟨rfl, hf, L', hD, hL⟩
    have ok := hD.ok
    have HD := Lib.hid (Did.then_ hz hf hL (Dk.cells (w' := w1.setCell ⟨R, 7, none⟩ (.int .i64 (inc s.ops))) (s' := { drw s with ops := inc s.ops }) hD
      (Foot.setCell _ _ _ _ _ (.inl rfl)) (fun i hi => by rw [set_other _ _ _ _ i hi])
      (fun _ _ h => (h.set7 _)) rfl rfl (by obtain ⟨h1, h2, h3, h4, h5, h6, h7, h8, h9⟩ := ok; exact ⟨h1, h2, h3, h4, h5, h6, h7, h8, h9⟩) (.int .i64 0)))
    obtain ⟨vl, vs, h0, _⟩ := hD
    have c7 : w1.cell? ⟨R, 7, none⟩ = some (.int .i64 s.ops) := h0.c7
    have f7 := h0.fr 7
    clear hf hL h0 ok hd
    go_wp2
    go_ret
    exact HD.out

end
end Go.Proofs.Ytpinpljmabhdhaa
