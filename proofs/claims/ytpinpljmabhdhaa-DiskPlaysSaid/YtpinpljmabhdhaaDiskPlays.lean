/- The law DiskPlays holds at every input: whatever is appended, synced, swapped, wherever the power goes, and whatever a crash keeps, each call answers as the document says. No condition. -/
import Derived.Test.YtpinpljmabhdhaaPlay
import Derived.Test.YtpinpljmabhdhaaOpenC
import Derived.Laws.OwnMore
import Derived.WalkLawsBesides
import Derived.JoinedOf
import Derived.JoinedAt
import Derived.RowKit3
import Derived.Lib.SmallJoins
namespace Go.Proofs.Ytpinpljmabhdhaa.DiskPlays
open Go.ChangeShapes Go.WideShapes Go.ChangeAt Go.RowKit Go.Joins

theorem ExtW : Way Ext := ⟨fun h => h, fun h k => h.trans k⟩

set_option maxRecDepth 100000 in
set_option maxHeartbeats 16000000 in
theorem walk (w : World) (room : Int) (_ : (Lit.int .i64 room).wf = true) (v0 : Value) (cs : List DCall) (r0 : RdC w v0 cs) :
    Calls Try.prog 4 #[.int .i64 room, v0] w fun e w' => e = .returned (.bool true) ∧ Below w.heap.size w w' := by
  obtain ⟨i0', hi, hz0, hz1, hz2⟩ := info_parts Try.infoB
  obtain ⟨A0, c0, rfl, hc0, hm0, hcell, hrow⟩ := r0
  have HC := Lib.hid hcell
  have HRow := Lib.hid hrow
  unfold maxLen at hm0
  clear hcell hrow
  by_cases hbad : room < 1 ∨ 16777216 < room
  · go_enter Try.func4, Try.ntmps4
    go_wp2_with fail
    refine (known_any _).mono ?_
    rintro e w1 ⟨rfl, hx1⟩
    have E1 := Lib.hid hx1
    clear hx1
    go_wp2_with fail
    refine (New_no room _ hbad).mono ?_
    rintro e w' ⟨rfl, rfl⟩
    go_wp2_with fail
    refine (rNew_no room _ hbad).mono ?_
    rintro e w' ⟨rfl, rfl⟩
    go_wp2
    go_loopw [9] (fun i wr => ∃ k : Nat, k ≤ 0 ∧ i = .int .i64 k ∧ wr = w1) (fun i _ => 0 - (intOf i).toNat)
    case atStart => exact ⟨0, Nat.le_refl _, rfl, rfl⟩
    case round =>
      obtain ⟨k, hk, rfl, rfl⟩ := hrel
      go_wp2
      go_ret
      exact ⟨rfl, E1.out⟩
  have hb1 : ¬ room < 1 := fun h => hbad (.inl h)
  have hb2 : ¬ 16777216 < room := fun h => hbad (.inr h)
  clear hbad
  go_enter Try.func4, Try.ntmps4
  go_wp2_with fail
  refine (known_any _).mono ?_
  rintro e w1 ⟨rfl, hx1⟩
  have E1 := Lib.hid hx1
  clear hx1
  go_wp2_with fail
  refine (New_any room _ (by omega) (by omega)).mono ?_
  rintro e w2 ⟨rfl, hx2, hd2, hlt⟩
  have hs1 := E1.out.size
  have E2 := Lib.hid (E1.out.trans hx2)
  have D2 := Lib.hid (hd2.base hs1)
  have hR2 := D2.out.lt
  generalize w1.heap.size = R at *
  clear hx2 hd2 E1 hs1 hlt
  go_wp2_with fail
  refine (rNew_any room _ (by omega) (by omega)).mono ?_
  rintro e w3 ⟨rfl, hx3, hd3⟩
  have hs2 := E2.out.size
  have hap : ∀ k, dall R (none, none) k → ¬ xmine w2.heap.size none none k := by
    intro k h1 h2
    rcases h2 with h2 | h2 | h2
    · rcases h1 with (h1 | h1) | h1
      · omega
      · exact absurd h1 (by simp)
      · exact absurd h1 (by simp)
    · exact absurd h2 (by simp)
    · exact absurd h2 (by simp)
  have HB : Both w w3 R w2.heap.size (nw room) := ⟨(none, none), none, none, ⟨E2.out.trans hx3, hs2, D2.out.ext hx3, hd3, hap, fun _ h => by cases h⟩⟩
  have HB := Lib.hid HB
  generalize w2.heap.size = X at *
  clear hx3 hd3 E2 D2 hR2 hs2 hap
  go_wp2
  go_loopw [9] (fun i wr => ∃ (k : Nat) (s : DS), k ≤ cs.length ∧ k ≤ 100 ∧ i = .int .i64 k ∧ Both w wr R X s) (fun i _ => 100 - (intOf i).toNat)
  case atStart => exact ⟨0, _, Nat.zero_le _, Nat.zero_le _, rfl, HB.out⟩
  case round =>
    obtain ⟨k, s, hk, hk30, rfl, hB⟩ := hrel
    have HB := Lib.hid hB
    clear hB
    by_cases hlt : k < cs.length ∧ k < 100
    · obtain ⟨hlt, hl3⟩ := hlt
      obtain ⟨ad, rfl, hab, hcs⟩ := HC.out (by omega)
      obtain ⟨d0, d1, d2⟩ := hcs k hlt
      obtain ⟨hrd, hwf⟩ := HRow.out cs[k] (List.getElem_mem hlt)
      generalize cs[k] = q at *
      obtain ⟨kind, n, u, l⟩ := q
      simp only at d0 d1 d2 hrd hwf
      obtain ⟨ab, ao, asp⟩ := ad
      obtain rfl : asp = none := by
        cases asp with
        | none => rfl
        | some sp =>
          exfalso
          have h := (hcs 0 (by omega)).1
          simp [Addr.add, World.cell?] at h
          split at h <;> simp at h
      have hadd : ∀ q, Addr.add ⟨ab, ao, none⟩ q = ⟨ab, ao + q, none⟩ := by
        intro q
        unfold Addr.add
        split
        · next h => subst h; rfl
        · rfl
      rw [hadd] at d0 d1 d2
      have hn : -9223372036854775808 ≤ n ∧ n ≤ 9223372036854775807 := by
        have hx : IntKind.i64.min ≤ n ∧ n ≤ IntKind.i64.max := by simpa [Lit.wf] using hwf
        exact hx
      have RU := Lib.hid hrd
      obtain ⟨Au, cu, rfl, _, _⟩ := hrd.len
      rw [bvs_length] at *
      obtain ⟨L, bl, bs, M⟩ := HB.out
      have HM := Lib.hid M
      have HE := Lib.hid M.ext
      have hkeep : ∀ q, wr.cell? ⟨ab, ao + q, none⟩ = w.cell? ⟨ab, ao + q, none⟩ := fun q => World.cell?_of_block (HE.out.block _ hab)
      rw [← hkeep] at d0 d1 d2
      have d1' : wr.cell? ⟨ab, ao + k * 3 + 1, none⟩ = some (.int .i64 n) := by rw [Nat.add_assoc]; exact d1
      have d2' : wr.cell? ⟨ab, ao + k * 3 + 2, none⟩ = some (.slice Au l.length cu) := by rw [Nat.add_assoc]; exact d2
      have d2'' : wr.cell? ⟨ab, ao + k * 3 + 1 + 1, none⟩ = some (.slice Au l.length cu) := d2'
      have i0 : (0 : Int) ≤ (k : Int) := by omega
      have i1 : (k : Int) < (cs.length : Int) := by omega
      have i2 : (k : Int) < 100 := by omega
      clear hcs hwf hrd hadd hkeep M
      by_cases hbig : (500 : Int) < l.length
      · go_wp2
        go_roundw
        case rel => exact ⟨k + 1, s, by omega, by omega, by go_num, L, bl, bs, HM.out.more (ext_alloc wr _)⟩
        case measure => simp [intOf]; omega
      · have hl5 : l.length ≤ 500 := by omega
        have xc := ext_alloc wr (.cells #[.int .i64 kind, .int .i64 n, .slice Au l.length cu] 47)
        have n0 : (wr.alloc (.cells #[.int .i64 kind, .int .i64 n, .slice Au l.length cu] 47)).cell? ⟨wr.heap.size, 0, none⟩ = some (.int .i64 kind) := by rw [cell_of_row _ wr.heap.size 0 _ _ (0, 0) (heap_alloc_new wr _)]; rfl
        have N0 := Lib.hid n0
        have n1 : (wr.alloc (.cells #[.int .i64 kind, .int .i64 n, .slice Au l.length cu] 47)).cell? ⟨wr.heap.size, 1, none⟩ = some (.int .i64 n) := by rw [cell_of_row _ wr.heap.size 1 _ _ (0, 0) (heap_alloc_new wr _)]; rfl
        have n2 : (wr.alloc (.cells #[.int .i64 kind, .int .i64 n, .slice Au l.length cu] 47)).cell? ⟨wr.heap.size, 2, none⟩ = some (.slice Au l.length cu) := by rw [cell_of_row _ wr.heap.size 2 _ _ (0, 0) (heap_alloc_new wr _)]; rfl
        have hcs1 : (wr.alloc (.cells #[.int .i64 kind, .int .i64 n, .slice Au l.length cu] 47)).heap.size = wr.heap.size + 1 := by simp
        have XC := Lib.hid xc
        have N12 := Lib.hid (And.intro n1 (And.intro n2 hcs1))
        have hr0 := Lib.hid ((RU.out.ext ((HE.out.trans xc).trans (ext_alloc _ (.cells #[] 5)))).src bvs_one Try.underlying26)
        have ho0 := Lib.hid (World.ownsRow_made (w := wr.alloc (.cells #[.int .i64 kind, .int .i64 n, .slice Au l.length cu] 47)) (base := wr.heap.size + 1) (e := 5) (size := 1) #[] 0 (by rw [hcs1]; exact Nat.le_refl _) (by simp [maxLen]) rfl)
        rw [hcs1] at ho0
        clear n0 n1 n2 xc hcs1
        go_wp2_with (at_builtin; refine wpList_app_src _ rfl (.tmp 57) (.tmp 59) 26 26 rfl (wr.heap.size + 1) 5 i0' (.int .u8 0) 1 Try.underlying26 hi hz0 hz1 hz2 rfl _ 0 [] rfl ho0.out _ (bvs l).length (bvs l) rfl hr0.out ?c3 ?c4 (by simp) ?_)
        case c3 => rw [bvs_length]; simp [maxLen]; omega
        case c4 => rw [bvs_length]; omega
        intro va w4 hown hgrow hat hfr
        have hown : w4.ownsRow (wr.heap.size + 1) 5 1 va (bvs l).length (bvs l) := by simpa using hown
        have hcs1 := N12.out.2.2
        have hE4 : Ext (wr.alloc (.cells #[.int .i64 kind, .int .i64 n, .slice Au l.length cu] 47)) w4 := (ext_alloc _ _).trans' (grown_below hgrow (by simp) (fun k hk => by simp [Value.ownBlock] at hk; rw [hcs1]; omega))
        have hva : ∃ g cap, va = .slice (some ⟨g, 0, none⟩) l.length cap ∧ wr.heap.size + 1 ≤ g ∧ g < w4.heap.size := by
          rcases hown.2 with ⟨rfl, _⟩ | ⟨g, cap, cur, rfl, hg, hh, _⟩
          · rcases hat with h | h <;> simp [Value.ownBlock] at h
          · exact ⟨g, cap, by rw [bvs_length], hg, (Array.getElem?_eq_some_iff.1 hh).1⟩
        obtain ⟨g, cap, rfl, hg1, hg2⟩ := hva
        have M4 := HM.out.own (XC.out.trans hE4) (g := g) (by omega) hg2
        have cK := hE4.cell N0.out
        have cN := hE4.cell N12.out.1
        have cB := hE4.cell N12.out.2.1
        have hCm : ¬ mine R L wr.heap.size := fun h => by have := HM.out.dk.below _ h; omega
        have hCX : wr.heap.size ≠ X := fun h => by have := HM.out.xk.lt; omega
        have HO4 := Lib.hid hown
        have HM4 := Lib.hid M4
        have hCm := Lib.hid hCm
        have hCX := Lib.hid hCX
        have HN := Lib.hid hn
        clear hown hgrow hat hfr hE4 M4 hr0 ho0 d0 d1 d1' d2 d2' d2'' hcs1 HM XC N12 N0
        generalize wr.heap.size = Cb at *
        go_wp2_with fail
        refine (within_some kind 6 6 _ rfl (by decide)).mono ?_
        rintro e w' ⟨y, rfl, hy, rfl⟩
        obtain rfl | rfl | rfl | rfl | rfl | rfl : y = 0 ∨ y = 1 ∨ y = 2 ∨ y = 3 ∨ y = 4 ∨ y = 5 := by omega
        · skip
          go_wp2
          have hS : ¬ (mine R L Cb ∨ Cb = X) := fun h => h.elim hCm.out hCX.out
          refine wp_region_sched (Foot fun i => mine R L i ∨ i = X) (FW _) [(0, true), (1, true), (3, true), (4, true), (5, true), (2, false), (6, false), (7, true)] (by kernel_rfl) (by kernel_rfl) (fun _ _ _ _ _ h => h) ?_
          repeat first | ((with_reducible refine sched_free ?_ ?_ ?_ ?_ (fun wk k1 => ?_) ?_); rotate_left 2; (rfl); (first | exact want_none rfl | exact want_some rfl rfl rfl rfl); (go_simp; first | exact OkX.val | (have cc := foot_cell ((Foot.of_ext (Ext.drew _)).trans k1 (fun _ _ h => h)) cB hS; go_simp; exact OkX.val)); simp only [Act.put, List.setIfInBounds_toArray, List.set_cons_zero, List.set_cons_succ]) | ((with_reducible refine sched_skip ?_ ?_ ?_ ?_); rotate_left; (rfl); (exact want_not rfl rfl rfl rfl rfl); simp only [Act.put, List.setIfInBounds_toArray, List.set_cons_zero, List.set_cons_succ])
          ((with_reducible refine sched_step ?_ ?_ ?_ (fun wk k1 => ?_)); rotate_left; (rfl); (first | exact want_none rfl | exact want_some rfl rfl rfl rfl))
          have X1 := (Ext.drew _).trans k1
          have M5 := Lib.hid (HM4.out.more X1)
          have RA5 := Lib.hid ((Rd.of_own HO4.out).ext X1)
          have O5 := Lib.hid (own_Ext HO4.out X1)
          clear k1 X1
          go_simp
          refine (Append_any M5.out.dk _ l RA5.out (by omega)).mono ?_
          rintro e w6 hD
          have hf6 := hD.2.1
          obtain ⟨rfl, L6, m6⟩ := M5.out.dev hD
          refine ⟨hf6.wide (fun _ h => .inl h), ?_⟩
          have M6 := Lib.hid m6
          have O6 := Lib.hid (own_foot O5.out hf6 (fun g' hg' h => by injection hg' with hg'; subst hg'; exact (HM4.out.g g rfl).2.2.1 (.inl h)))
          clear hD hf6 m6
          try simp only [Act.put, List.setIfInBounds_toArray, List.set_cons_zero, List.set_cons_succ]
          ((with_reducible refine sched_step ?_ ?_ ?_ (fun wk k1 => ?_)); rotate_left; (rfl); (first | exact want_none rfl | exact want_some rfl rfl rfl rfl))
          have M7 := Lib.hid (M6.out.more k1)
          have RB7 := Lib.hid (RU.out.ext M7.out.ext)
          have O7 := Lib.hid (own_Ext O6.out k1)
          clear k1
          go_simp
          refine (rAppend_any M7.out.xk _ l RB7.out (by omega) (fun h0 k hk => by have := RU.out.below h0 k hk; have := M7.out.hX; omega)).mono ?_
          rintro e w8 hD
          have hf8 := hD.2.1
          obtain ⟨rfl, bl8, bs8, m8⟩ := M7.out.ref hD
          refine ⟨hf8.wide (fun _ h => .inr h), ?_⟩
          have M8 := Lib.hid m8
          have O8 := Lib.hid (own_foot O7.out hf8 (fun g' hg' h => by injection hg' with hg'; subst hg'; exact (M7.out.g g rfl).2.2.2 (.inl h)))
          clear hD hf8 m8
          try simp only [Act.put, List.setIfInBounds_toArray, List.set_cons_zero, List.set_cons_succ]
          repeat first | ((with_reducible refine sched_free ?_ ?_ ?_ ?_ (fun wk k1 => ?_) ?_); rotate_left 2; (rfl); (first | exact want_none rfl | exact want_some rfl rfl rfl rfl); (go_simp; first | exact OkX.val); simp only [Act.put, List.setIfInBounds_toArray, List.set_cons_zero, List.set_cons_succ]) | ((with_reducible refine sched_skip ?_ ?_ ?_ ?_); rotate_left; (rfl); (exact want_not rfl rfl rfl rfl rfl); simp only [Act.put, List.setIfInBounds_toArray, List.set_cons_zero, List.set_cons_succ])
          refine sched_done (fun wk k1 => ?_)
          have M9 := Lib.hid (M8.out.more k1)
          have O9 := Lib.hid (own_Ext O8.out k1)
          clear k1
          obtain ⟨s', hs'⟩ : ∃ s', s' = app s l := ⟨_, rfl⟩
          rw [← hs'] at M9
          clear hs'
          have O10 := Lib.hid (show wk.ownsRow (Cb + 1) 5 1 (.slice (some ⟨g, 0, none⟩) l.length cap) l.length (bvs l) by have h := O9.out; rw [bvs_length] at h; exact h)
          go_wp2
          go_loopw [12] (fun i wr => ∃ (j : Nat) (xs : List Value), j ≤ l.length ∧ i = .int .i64 j ∧ wr.ownsRow (Cb + 1) 5 1 (.slice (some ⟨g, 0, none⟩) l.length cap) l.length xs ∧ Foot (fun i => i = g) wk wr) (fun i _ => l.length - (intOf i).toNat)
          case atStart => exact ⟨0, bvs l, Nat.zero_le _, rfl, O10.out, Foot.refl _ _⟩
          case round =>
            obtain ⟨j, xs, hj, rfl, hown, hF⟩ := hrel
            have HF := Lib.hid hF
            have HO := Lib.hid hown
            by_cases hlt2 : j < l.length
            · have hxl : xs.length = l.length * 1 := hown.1
              have cj : wr.cell? ⟨g, j, none⟩ = some (xs[j]'(by omega)) := (hown.cellAt j (by omega)).trans (List.getElem?_eq_getElem (by omega))
              have fj := hown.frozenAt j
              have j0 : (0 : Int) ≤ (j : Int) := by omega
              have j1 : (j : Int) < (l.length : Int) := by omega
              have HS := Lib.hid (hown.stored j (.int .u8 238)).1
              have HK := Lib.hid (Foot.setCell (fun i => i = g) wr g j (.int .u8 238) rfl)
              generalize (xs[j]'(by omega)) = z at *
              clear hown hF hxl
              go_wp2
              go_roundw
              case rel => exact ⟨j + 1, _, by omega, by go_num, HS.out, HF.out.trans HK.out (fun _ _ h => h)⟩
              case measure => simp [intOf]; omega
            · have M10 := Lib.hid (M9.out.turn hF)
              obtain ⟨vl, vs, ev, x0, x1, _, x2, _⟩ := M10.out.xk
              obtain ⟨Al, cl, rfl, _⟩ := x1.len
              obtain ⟨As, cs', rfl, _⟩ := x2.len
              simp only [bvs_length] at x0 x1 x2
              have C1 := x0.c1
              have C3 := x0.c3
              have C6 := x0.c6
              have C7 := x0.c7
              have hcl : ∀ w', Ext wr w' → (convert 26 9 (.slice Al s'.log.length cl)).run Try.prog w' = .ok (.string ⟨s'.log.toArray⟩) w' := fun w' h => (x1.ext h).str
              have hcs : ∀ w', Ext wr w' → (convert 26 9 (.slice As s'.snap.length cs')).run Try.prog w' = .ok (.string ⟨s'.snap.toArray⟩) w' := fun w' h => (x2.ext h).str
              have X0 := Ext.drew wr
              clear hown hF x0 x1 x2
              go_wp2
              refine wp_region_sched Ext ExtW [(0, true), (3, true), (4, true), (5, true), (6, true), (7, true), (1, false), (2, true), (8, true), (9, true), (10, true), (13, true), (14, true), (15, true), (16, true), (17, true), (11, false), (12, true), (18, true), (19, true), (20, true), (21, true), (23, true), (24, true), (25, true), (26, true), (22, false), (27, true), (28, true), (29, true), (30, true), (32, true), (33, true), (34, true), (35, true), (31, false), (36, true), (37, true)] (by kernel_rfl) (by kernel_rfl) (fun _ _ _ _ _ h => h) ?_
              repeat first | ((with_reducible refine sched_free ?_ ?_ ?_ ?_ (fun wk k1 => ?_) ?_); rotate_left 2; (rfl); (first | exact want_none rfl | exact want_some rfl rfl rfl rfl); (go_simp; first | exact OkX.val | (have cc1 := (X0.trans k1).cell C1; have cc3 := (X0.trans k1).cell C3; have cc6 := (X0.trans k1).cell C6; have cc7 := (X0.trans k1).cell C7; go_simp; exact OkX.val) | (go_simp; rw [hcl _ (X0.trans k1)]; exact OkX.val) | (go_simp; rw [hcs _ (X0.trans k1)]; exact OkX.val)); simp only [Act.put, List.setIfInBounds_toArray, List.set_cons_zero, List.set_cons_succ]) | ((with_reducible refine sched_skip ?_ ?_ ?_ ?_); rotate_left; (rfl); (exact want_not rfl rfl rfl rfl rfl); simp only [Act.put, List.setIfInBounds_toArray, List.set_cons_zero, List.set_cons_succ])
              ((with_reducible refine sched_step ?_ ?_ ?_ (fun wk k1 => ?_)); rotate_left; (rfl); (first | exact want_none rfl | exact want_some rfl rfl rfl rfl))
              have Y1 := X0.trans k1
              clear k1
              go_simp
              refine (Log_any (M10.out.dk.ext Y1)).mono ?_
              rintro e w6 ⟨v6, rfl, ho, hx6⟩
              refine ⟨hx6, ?_⟩
              have Y2 := Y1.trans hx6
              have R6 := Lib.hid (Rd.of_own ho)
              clear ho hx6
              try simp only [Act.put, List.setIfInBounds_toArray, List.set_cons_zero, List.set_cons_succ]
              have hcb : ∀ w', Ext w6 w' → (convert 26 9 v6).run Try.prog w' = .ok (.string ⟨s'.log.toArray⟩) w' := fun w' h => (R6.out.ext h).str
              repeat first | ((with_reducible refine sched_free ?_ ?_ ?_ ?_ (fun wk k1 => ?_) ?_); rotate_left 2; (rfl); (first | exact want_none rfl | exact want_some rfl rfl rfl rfl); (go_simp; first | exact OkX.val | (have cc1 := (Y2.trans k1).cell C1; have cc3 := (Y2.trans k1).cell C3; have cc6 := (Y2.trans k1).cell C6; have cc7 := (Y2.trans k1).cell C7; go_simp; exact OkX.val) | (go_simp; rw [hcl _ (Y2.trans k1)]; exact OkX.val) | (go_simp; rw [hcs _ (Y2.trans k1)]; exact OkX.val) | (go_simp; rw [hcb _ (by assumption)]; exact OkX.val)); simp only [Act.put, List.setIfInBounds_toArray, List.set_cons_zero, List.set_cons_succ]) | ((with_reducible refine sched_skip ?_ ?_ ?_ ?_); rotate_left; (rfl); (exact want_not rfl rfl rfl rfl rfl); simp only [Act.put, List.setIfInBounds_toArray, List.set_cons_zero, List.set_cons_succ])
              ((with_reducible refine sched_step ?_ ?_ ?_ (fun wk k1 => ?_)); rotate_left; (rfl); (first | exact want_none rfl | exact want_some rfl rfl rfl rfl))
              have Y3 := Y2.trans k1
              clear k1
              go_simp
              refine (Snap_any (M10.out.dk.ext Y3)).mono ?_
              rintro e w7 ⟨v7, rfl, ho, hx7⟩
              refine ⟨hx7, ?_⟩
              have Y4 := Y3.trans hx7
              have R7 := Lib.hid (Rd.of_own ho)
              clear ho hx7
              try simp only [Act.put, List.setIfInBounds_toArray, List.set_cons_zero, List.set_cons_succ]
              have hcd : ∀ w', Ext w7 w' → (convert 26 9 v7).run Try.prog w' = .ok (.string ⟨s'.snap.toArray⟩) w' := fun w' h => (R7.out.ext h).str
              repeat first | ((with_reducible refine sched_free ?_ ?_ ?_ ?_ (fun wk k1 => ?_) ?_); rotate_left 2; (rfl); (first | exact want_none rfl | exact want_some rfl rfl rfl rfl); (go_simp; first | exact OkX.val | (have cc1 := (Y4.trans k1).cell C1; have cc3 := (Y4.trans k1).cell C3; have cc6 := (Y4.trans k1).cell C6; have cc7 := (Y4.trans k1).cell C7; go_simp; exact OkX.val) | (go_simp; rw [hcl _ (Y4.trans k1)]; exact OkX.val) | (go_simp; rw [hcs _ (Y4.trans k1)]; exact OkX.val) | (go_simp; rw [hcd _ (by assumption)]; exact OkX.val)); simp only [Act.put, List.setIfInBounds_toArray, List.set_cons_zero, List.set_cons_succ]) | ((with_reducible refine sched_skip ?_ ?_ ?_ ?_); rotate_left; (rfl); (exact want_not rfl rfl rfl rfl rfl); simp only [Act.put, List.setIfInBounds_toArray, List.set_cons_zero, List.set_cons_succ])
              ((with_reducible refine sched_step ?_ ?_ ?_ (fun wk k1 => ?_)); rotate_left; (rfl); (first | exact want_none rfl | exact want_some rfl rfl rfl rfl))
              have Y5 := Y4.trans k1
              clear k1
              go_simp
              refine (Dead_any (M10.out.dk.ext Y5)).mono ?_
              rintro e w8 ⟨rfl, rfl⟩
              refine ⟨Ext.refl _, ?_⟩
              try simp only [Act.put, List.setIfInBounds_toArray, List.set_cons_zero, List.set_cons_succ]
              repeat first | ((with_reducible refine sched_free ?_ ?_ ?_ ?_ (fun wk k1 => ?_) ?_); rotate_left 2; (rfl); (first | exact want_none rfl | exact want_some rfl rfl rfl rfl); (go_simp; first | exact OkX.val | (have cc1 := (Y5.trans k1).cell C1; have cc3 := (Y5.trans k1).cell C3; have cc6 := (Y5.trans k1).cell C6; have cc7 := (Y5.trans k1).cell C7; go_simp; exact OkX.val) | (go_simp; rw [hcl _ (Y5.trans k1)]; exact OkX.val) | (go_simp; rw [hcs _ (Y5.trans k1)]; exact OkX.val)); simp only [Act.put, List.setIfInBounds_toArray, List.set_cons_zero, List.set_cons_succ]) | ((with_reducible refine sched_skip ?_ ?_ ?_ ?_); rotate_left; (rfl); (exact want_not rfl rfl rfl rfl rfl); simp only [Act.put, List.setIfInBounds_toArray, List.set_cons_zero, List.set_cons_succ])
              ((with_reducible refine sched_step ?_ ?_ ?_ (fun wk k1 => ?_)); rotate_left; (rfl); (first | exact want_none rfl | exact want_some rfl rfl rfl rfl))
              have Y6 := Y5.trans k1
              clear k1
              go_simp
              refine (Ops_any (M10.out.dk.ext Y6)).mono ?_
              rintro e w9 ⟨rfl, rfl⟩
              refine ⟨Ext.refl _, ?_⟩
              try simp only [Act.put, List.setIfInBounds_toArray, List.set_cons_zero, List.set_cons_succ]
              repeat first | ((with_reducible refine sched_free ?_ ?_ ?_ ?_ (fun wk k1 => ?_) ?_); rotate_left 2; (rfl); (first | exact want_none rfl | exact want_some rfl rfl rfl rfl); (go_simp; first | exact OkX.val | (have cc1 := (Y6.trans k1).cell C1; have cc3 := (Y6.trans k1).cell C3; have cc6 := (Y6.trans k1).cell C6; have cc7 := (Y6.trans k1).cell C7; go_simp; exact OkX.val) | (go_simp; rw [hcl _ (Y6.trans k1)]; exact OkX.val) | (go_simp; rw [hcs _ (Y6.trans k1)]; exact OkX.val)); simp only [Act.put, List.setIfInBounds_toArray, List.set_cons_zero, List.set_cons_succ]) | ((with_reducible refine sched_skip ?_ ?_ ?_ ?_); rotate_left; (rfl); (exact want_not rfl rfl rfl rfl rfl); simp only [Act.put, List.setIfInBounds_toArray, List.set_cons_zero, List.set_cons_succ])
              refine sched_done (fun wz k1 => ?_)
              have M11 := Lib.hid (M10.out.more (Y6.trans k1))
              clear k1 Y1 Y2 Y3 Y4 Y5 Y6 X0 hcl hcs hcb hcd C1 C3 C6 C7
              go_wp2
              go_roundw
              case rel => exact ⟨k + 1, s', by omega, by omega, by go_num, _, _, _, M11.out⟩
              case measure => simp [intOf]; omega
        · skip
          go_wp2
          have hS : ¬ (mine R L Cb ∨ Cb = X) := fun h => h.elim hCm.out hCX.out
          refine wp_region_sched (Foot fun i => mine R L i ∨ i = X) (FW _) [(0, true), (1, true), (3, true), (4, true), (5, true), (2, false), (6, false), (7, true)] (by kernel_rfl) (by kernel_rfl) (fun _ _ _ _ _ h => h) ?_
          repeat first | ((with_reducible refine sched_free ?_ ?_ ?_ ?_ (fun wk k1 => ?_) ?_); rotate_left 2; (rfl); (first | exact want_none rfl | exact want_some rfl rfl rfl rfl); (go_simp; first | exact OkX.val | (have cc := foot_cell ((Foot.of_ext (Ext.drew _)).trans k1 (fun _ _ h => h)) cB hS; go_simp; exact OkX.val)); simp only [Act.put, List.setIfInBounds_toArray, List.set_cons_zero, List.set_cons_succ]) | ((with_reducible refine sched_skip ?_ ?_ ?_ ?_); rotate_left; (rfl); (exact want_not rfl rfl rfl rfl rfl); simp only [Act.put, List.setIfInBounds_toArray, List.set_cons_zero, List.set_cons_succ])
          ((with_reducible refine sched_step ?_ ?_ ?_ (fun wk k1 => ?_)); rotate_left; (rfl); (first | exact want_none rfl | exact want_some rfl rfl rfl rfl))
          have X1 := (Ext.drew _).trans k1
          have M5 := Lib.hid (HM4.out.more X1)
          have RA5 := Lib.hid ((Rd.of_own HO4.out).ext X1)
          have O5 := Lib.hid (own_Ext HO4.out X1)
          clear k1 X1
          go_simp
          refine (Append_any M5.out.dk _ l RA5.out (by omega)).mono ?_
          rintro e w6 hD
          have hf6 := hD.2.1
          obtain ⟨rfl, L6, m6⟩ := M5.out.dev hD
          refine ⟨hf6.wide (fun _ h => .inl h), ?_⟩
          have M6 := Lib.hid m6
          have O6 := Lib.hid (own_foot O5.out hf6 (fun g' hg' h => by injection hg' with hg'; subst hg'; exact (HM4.out.g g rfl).2.2.1 (.inl h)))
          clear hD hf6 m6
          try simp only [Act.put, List.setIfInBounds_toArray, List.set_cons_zero, List.set_cons_succ]
          ((with_reducible refine sched_step ?_ ?_ ?_ (fun wk k1 => ?_)); rotate_left; (rfl); (first | exact want_none rfl | exact want_some rfl rfl rfl rfl))
          have M7 := Lib.hid (M6.out.more k1)
          have RB7 := Lib.hid (RU.out.ext M7.out.ext)
          have O7 := Lib.hid (own_Ext O6.out k1)
          clear k1
          go_simp
          refine (rAppend_any M7.out.xk _ l RB7.out (by omega) (fun h0 k hk => by have := RU.out.below h0 k hk; have := M7.out.hX; omega)).mono ?_
          rintro e w8 hD
          have hf8 := hD.2.1
          obtain ⟨rfl, bl8, bs8, m8⟩ := M7.out.ref hD
          refine ⟨hf8.wide (fun _ h => .inr h), ?_⟩
          have M8 := Lib.hid m8
          have O8 := Lib.hid (own_foot O7.out hf8 (fun g' hg' h => by injection hg' with hg'; subst hg'; exact (M7.out.g g rfl).2.2.2 (.inl h)))
          clear hD hf8 m8
          try simp only [Act.put, List.setIfInBounds_toArray, List.set_cons_zero, List.set_cons_succ]
          repeat first | ((with_reducible refine sched_free ?_ ?_ ?_ ?_ (fun wk k1 => ?_) ?_); rotate_left 2; (rfl); (first | exact want_none rfl | exact want_some rfl rfl rfl rfl); (go_simp; first | exact OkX.val); simp only [Act.put, List.setIfInBounds_toArray, List.set_cons_zero, List.set_cons_succ]) | ((with_reducible refine sched_skip ?_ ?_ ?_ ?_); rotate_left; (rfl); (exact want_not rfl rfl rfl rfl rfl); simp only [Act.put, List.setIfInBounds_toArray, List.set_cons_zero, List.set_cons_succ])
          refine sched_done (fun wk k1 => ?_)
          have M9 := Lib.hid (M8.out.more k1)
          have O9 := Lib.hid (own_Ext O8.out k1)
          clear k1
          obtain ⟨s', hs'⟩ : ∃ s', s' = app s l := ⟨_, rfl⟩
          rw [← hs'] at M9
          clear hs'
          have O10 := Lib.hid (show wk.ownsRow (Cb + 1) 5 1 (.slice (some ⟨g, 0, none⟩) l.length cap) l.length (bvs l) by have h := O9.out; rw [bvs_length] at h; exact h)
          go_wp2
          go_loopw [12] (fun i wr => ∃ (j : Nat) (xs : List Value), j ≤ l.length ∧ i = .int .i64 j ∧ wr.ownsRow (Cb + 1) 5 1 (.slice (some ⟨g, 0, none⟩) l.length cap) l.length xs ∧ Foot (fun i => i = g) wk wr) (fun i _ => l.length - (intOf i).toNat)
          case atStart => exact ⟨0, bvs l, Nat.zero_le _, rfl, O10.out, Foot.refl _ _⟩
          case round =>
            obtain ⟨j, xs, hj, rfl, hown, hF⟩ := hrel
            have HF := Lib.hid hF
            have HO := Lib.hid hown
            by_cases hlt2 : j < l.length
            · have hxl : xs.length = l.length * 1 := hown.1
              have cj : wr.cell? ⟨g, j, none⟩ = some (xs[j]'(by omega)) := (hown.cellAt j (by omega)).trans (List.getElem?_eq_getElem (by omega))
              have fj := hown.frozenAt j
              have j0 : (0 : Int) ≤ (j : Int) := by omega
              have j1 : (j : Int) < (l.length : Int) := by omega
              have HS := Lib.hid (hown.stored j (.int .u8 238)).1
              have HK := Lib.hid (Foot.setCell (fun i => i = g) wr g j (.int .u8 238) rfl)
              generalize (xs[j]'(by omega)) = z at *
              clear hown hF hxl
              go_wp2
              go_roundw
              case rel => exact ⟨j + 1, _, by omega, by go_num, HS.out, HF.out.trans HK.out (fun _ _ h => h)⟩
              case measure => simp [intOf]; omega
            · have M10 := Lib.hid (M9.out.turn hF)
              obtain ⟨vl, vs, ev, x0, x1, _, x2, _⟩ := M10.out.xk
              obtain ⟨Al, cl, rfl, _⟩ := x1.len
              obtain ⟨As, cs', rfl, _⟩ := x2.len
              simp only [bvs_length] at x0 x1 x2
              have C1 := x0.c1
              have C3 := x0.c3
              have C6 := x0.c6
              have C7 := x0.c7
              have hcl : ∀ w', Ext wr w' → (convert 26 9 (.slice Al s'.log.length cl)).run Try.prog w' = .ok (.string ⟨s'.log.toArray⟩) w' := fun w' h => (x1.ext h).str
              have hcs : ∀ w', Ext wr w' → (convert 26 9 (.slice As s'.snap.length cs')).run Try.prog w' = .ok (.string ⟨s'.snap.toArray⟩) w' := fun w' h => (x2.ext h).str
              have X0 := Ext.drew wr
              clear hown hF x0 x1 x2
              go_wp2
              refine wp_region_sched Ext ExtW [(0, true), (3, true), (4, true), (5, true), (6, true), (7, true), (1, false), (2, true), (8, true), (9, true), (10, true), (13, true), (14, true), (15, true), (16, true), (17, true), (11, false), (12, true), (18, true), (19, true), (20, true), (21, true), (23, true), (24, true), (25, true), (26, true), (22, false), (27, true), (28, true), (29, true), (30, true), (32, true), (33, true), (34, true), (35, true), (31, false), (36, true), (37, true)] (by kernel_rfl) (by kernel_rfl) (fun _ _ _ _ _ h => h) ?_
              repeat first | ((with_reducible refine sched_free ?_ ?_ ?_ ?_ (fun wk k1 => ?_) ?_); rotate_left 2; (rfl); (first | exact want_none rfl | exact want_some rfl rfl rfl rfl); (go_simp; first | exact OkX.val | (have cc1 := (X0.trans k1).cell C1; have cc3 := (X0.trans k1).cell C3; have cc6 := (X0.trans k1).cell C6; have cc7 := (X0.trans k1).cell C7; go_simp; exact OkX.val) | (go_simp; rw [hcl _ (X0.trans k1)]; exact OkX.val) | (go_simp; rw [hcs _ (X0.trans k1)]; exact OkX.val)); simp only [Act.put, List.setIfInBounds_toArray, List.set_cons_zero, List.set_cons_succ]) | ((with_reducible refine sched_skip ?_ ?_ ?_ ?_); rotate_left; (rfl); (exact want_not rfl rfl rfl rfl rfl); simp only [Act.put, List.setIfInBounds_toArray, List.set_cons_zero, List.set_cons_succ])
              ((with_reducible refine sched_step ?_ ?_ ?_ (fun wk k1 => ?_)); rotate_left; (rfl); (first | exact want_none rfl | exact want_some rfl rfl rfl rfl))
              have Y1 := X0.trans k1
              clear k1
              go_simp
              refine (Log_any (M10.out.dk.ext Y1)).mono ?_
              rintro e w6 ⟨v6, rfl, ho, hx6⟩
              refine ⟨hx6, ?_⟩
              have Y2 := Y1.trans hx6
              have R6 := Lib.hid (Rd.of_own ho)
              clear ho hx6
              try simp only [Act.put, List.setIfInBounds_toArray, List.set_cons_zero, List.set_cons_succ]
              have hcb : ∀ w', Ext w6 w' → (convert 26 9 v6).run Try.prog w' = .ok (.string ⟨s'.log.toArray⟩) w' := fun w' h => (R6.out.ext h).str
              repeat first | ((with_reducible refine sched_free ?_ ?_ ?_ ?_ (fun wk k1 => ?_) ?_); rotate_left 2; (rfl); (first | exact want_none rfl | exact want_some rfl rfl rfl rfl); (go_simp; first | exact OkX.val | (have cc1 := (Y2.trans k1).cell C1; have cc3 := (Y2.trans k1).cell C3; have cc6 := (Y2.trans k1).cell C6; have cc7 := (Y2.trans k1).cell C7; go_simp; exact OkX.val) | (go_simp; rw [hcl _ (Y2.trans k1)]; exact OkX.val) | (go_simp; rw [hcs _ (Y2.trans k1)]; exact OkX.val) | (go_simp; rw [hcb _ (by assumption)]; exact OkX.val)); simp only [Act.put, List.setIfInBounds_toArray, List.set_cons_zero, List.set_cons_succ]) | ((with_reducible refine sched_skip ?_ ?_ ?_ ?_); rotate_left; (rfl); (exact want_not rfl rfl rfl rfl rfl); simp only [Act.put, List.setIfInBounds_toArray, List.set_cons_zero, List.set_cons_succ])
              ((with_reducible refine sched_step ?_ ?_ ?_ (fun wk k1 => ?_)); rotate_left; (rfl); (first | exact want_none rfl | exact want_some rfl rfl rfl rfl))
              have Y3 := Y2.trans k1
              clear k1
              go_simp
              refine (Snap_any (M10.out.dk.ext Y3)).mono ?_
              rintro e w7 ⟨v7, rfl, ho, hx7⟩
              refine ⟨hx7, ?_⟩
              have Y4 := Y3.trans hx7
              have R7 := Lib.hid (Rd.of_own ho)
              clear ho hx7
              try simp only [Act.put, List.setIfInBounds_toArray, List.set_cons_zero, List.set_cons_succ]
              have hcd : ∀ w', Ext w7 w' → (convert 26 9 v7).run Try.prog w' = .ok (.string ⟨s'.snap.toArray⟩) w' := fun w' h => (R7.out.ext h).str
              repeat first | ((with_reducible refine sched_free ?_ ?_ ?_ ?_ (fun wk k1 => ?_) ?_); rotate_left 2; (rfl); (first | exact want_none rfl | exact want_some rfl rfl rfl rfl); (go_simp; first | exact OkX.val | (have cc1 := (Y4.trans k1).cell C1; have cc3 := (Y4.trans k1).cell C3; have cc6 := (Y4.trans k1).cell C6; have cc7 := (Y4.trans k1).cell C7; go_simp; exact OkX.val) | (go_simp; rw [hcl _ (Y4.trans k1)]; exact OkX.val) | (go_simp; rw [hcs _ (Y4.trans k1)]; exact OkX.val) | (go_simp; rw [hcd _ (by assumption)]; exact OkX.val)); simp only [Act.put, List.setIfInBounds_toArray, List.set_cons_zero, List.set_cons_succ]) | ((with_reducible refine sched_skip ?_ ?_ ?_ ?_); rotate_left; (rfl); (exact want_not rfl rfl rfl rfl rfl); simp only [Act.put, List.setIfInBounds_toArray, List.set_cons_zero, List.set_cons_succ])
              ((with_reducible refine sched_step ?_ ?_ ?_ (fun wk k1 => ?_)); rotate_left; (rfl); (first | exact want_none rfl | exact want_some rfl rfl rfl rfl))
              have Y5 := Y4.trans k1
              clear k1
              go_simp
              refine (Dead_any (M10.out.dk.ext Y5)).mono ?_
              rintro e w8 ⟨rfl, rfl⟩
              refine ⟨Ext.refl _, ?_⟩
              try simp only [Act.put, List.setIfInBounds_toArray, List.set_cons_zero, List.set_cons_succ]
              repeat first | ((with_reducible refine sched_free ?_ ?_ ?_ ?_ (fun wk k1 => ?_) ?_); rotate_left 2; (rfl); (first | exact want_none rfl | exact want_some rfl rfl rfl rfl); (go_simp; first | exact OkX.val | (have cc1 := (Y5.trans k1).cell C1; have cc3 := (Y5.trans k1).cell C3; have cc6 := (Y5.trans k1).cell C6; have cc7 := (Y5.trans k1).cell C7; go_simp; exact OkX.val) | (go_simp; rw [hcl _ (Y5.trans k1)]; exact OkX.val) | (go_simp; rw [hcs _ (Y5.trans k1)]; exact OkX.val)); simp only [Act.put, List.setIfInBounds_toArray, List.set_cons_zero, List.set_cons_succ]) | ((with_reducible refine sched_skip ?_ ?_ ?_ ?_); rotate_left; (rfl); (exact want_not rfl rfl rfl rfl rfl); simp only [Act.put, List.setIfInBounds_toArray, List.set_cons_zero, List.set_cons_succ])
              ((with_reducible refine sched_step ?_ ?_ ?_ (fun wk k1 => ?_)); rotate_left; (rfl); (first | exact want_none rfl | exact want_some rfl rfl rfl rfl))
              have Y6 := Y5.trans k1
              clear k1
              go_simp
              refine (Ops_any (M10.out.dk.ext Y6)).mono ?_
              rintro e w9 ⟨rfl, rfl⟩
              refine ⟨Ext.refl _, ?_⟩
              try simp only [Act.put, List.setIfInBounds_toArray, List.set_cons_zero, List.set_cons_succ]
              repeat first | ((with_reducible refine sched_free ?_ ?_ ?_ ?_ (fun wk k1 => ?_) ?_); rotate_left 2; (rfl); (first | exact want_none rfl | exact want_some rfl rfl rfl rfl); (go_simp; first | exact OkX.val | (have cc1 := (Y6.trans k1).cell C1; have cc3 := (Y6.trans k1).cell C3; have cc6 := (Y6.trans k1).cell C6; have cc7 := (Y6.trans k1).cell C7; go_simp; exact OkX.val) | (go_simp; rw [hcl _ (Y6.trans k1)]; exact OkX.val) | (go_simp; rw [hcs _ (Y6.trans k1)]; exact OkX.val)); simp only [Act.put, List.setIfInBounds_toArray, List.set_cons_zero, List.set_cons_succ]) | ((with_reducible refine sched_skip ?_ ?_ ?_ ?_); rotate_left; (rfl); (exact want_not rfl rfl rfl rfl rfl); simp only [Act.put, List.setIfInBounds_toArray, List.set_cons_zero, List.set_cons_succ])
              refine sched_done (fun wz k1 => ?_)
              have M11 := Lib.hid (M10.out.more (Y6.trans k1))
              clear k1 Y1 Y2 Y3 Y4 Y5 Y6 X0 hcl hcs hcb hcd C1 C3 C6 C7
              go_wp2
              go_roundw
              case rel => exact ⟨k + 1, s', by omega, by omega, by go_num, _, _, _, M11.out⟩
              case measure => simp [intOf]; omega
        · skip
          go_wp2_with fail
          refine (Sync_any HM4.out.dk).mono ?_
          rintro e w6 hD
          have hf6 := hD.2.1
          obtain ⟨rfl, L6, m6⟩ := HM4.out.dev hD
          have M6 := Lib.hid m6
          have O6 := Lib.hid (own_foot HO4.out hf6 (fun g' hg' h => by injection hg' with hg'; subst hg'; exact (HM4.out.g g rfl).2.2.1 (.inl h)))
          clear hD hf6 m6
          go_wp2_with fail
          refine (rSync_any M6.out.xk).mono ?_
          rintro e wk hD
          have hf8 := hD.2.1
          obtain ⟨rfl, bl8, bs8, m8⟩ := M6.out.ref hD
          have M9 := Lib.hid m8
          have O9 := Lib.hid (own_foot O6.out hf8 (fun g' hg' h => by injection hg' with hg'; subst hg'; exact (M6.out.g g rfl).2.2.2 (.inl h)))
          clear hD hf8 m8
          obtain ⟨s', hs'⟩ : ∃ s', s' = snc s := ⟨_, rfl⟩
          rw [← hs'] at M9
          clear hs'
          have O10 := Lib.hid (show wk.ownsRow (Cb + 1) 5 1 (.slice (some ⟨g, 0, none⟩) l.length cap) l.length (bvs l) by have h := O9.out; rw [bvs_length] at h; exact h)
          go_wp2
          go_loopw [12] (fun i wr => ∃ (j : Nat) (xs : List Value), j ≤ l.length ∧ i = .int .i64 j ∧ wr.ownsRow (Cb + 1) 5 1 (.slice (some ⟨g, 0, none⟩) l.length cap) l.length xs ∧ Foot (fun i => i = g) wk wr) (fun i _ => l.length - (intOf i).toNat)
          case atStart => exact ⟨0, bvs l, Nat.zero_le _, rfl, O10.out, Foot.refl _ _⟩
          case round =>
            obtain ⟨j, xs, hj, rfl, hown, hF⟩ := hrel
            have HF := Lib.hid hF
            have HO := Lib.hid hown
            by_cases hlt2 : j < l.length
            · have hxl : xs.length = l.length * 1 := hown.1
              have cj : wr.cell? ⟨g, j, none⟩ = some (xs[j]'(by omega)) := (hown.cellAt j (by omega)).trans (List.getElem?_eq_getElem (by omega))
              have fj := hown.frozenAt j
              have j0 : (0 : Int) ≤ (j : Int) := by omega
              have j1 : (j : Int) < (l.length : Int) := by omega
              have HS := Lib.hid (hown.stored j (.int .u8 238)).1
              have HK := Lib.hid (Foot.setCell (fun i => i = g) wr g j (.int .u8 238) rfl)
              generalize (xs[j]'(by omega)) = z at *
              clear hown hF hxl
              go_wp2
              go_roundw
              case rel => exact ⟨j + 1, _, by omega, by go_num, HS.out, HF.out.trans HK.out (fun _ _ h => h)⟩
              case measure => simp [intOf]; omega
            · have M10 := Lib.hid (M9.out.turn hF)
              obtain ⟨vl, vs, ev, x0, x1, _, x2, _⟩ := M10.out.xk
              obtain ⟨Al, cl, rfl, _⟩ := x1.len
              obtain ⟨As, cs', rfl, _⟩ := x2.len
              simp only [bvs_length] at x0 x1 x2
              have C1 := x0.c1
              have C3 := x0.c3
              have C6 := x0.c6
              have C7 := x0.c7
              have hcl : ∀ w', Ext wr w' → (convert 26 9 (.slice Al s'.log.length cl)).run Try.prog w' = .ok (.string ⟨s'.log.toArray⟩) w' := fun w' h => (x1.ext h).str
              have hcs : ∀ w', Ext wr w' → (convert 26 9 (.slice As s'.snap.length cs')).run Try.prog w' = .ok (.string ⟨s'.snap.toArray⟩) w' := fun w' h => (x2.ext h).str
              have X0 := Ext.drew wr
              clear hown hF x0 x1 x2
              go_wp2
              refine wp_region_sched Ext ExtW [(0, true), (3, true), (4, true), (5, true), (6, true), (7, true), (1, false), (2, true), (8, true), (9, true), (10, true), (13, true), (14, true), (15, true), (16, true), (17, true), (11, false), (12, true), (18, true), (19, true), (20, true), (21, true), (23, true), (24, true), (25, true), (26, true), (22, false), (27, true), (28, true), (29, true), (30, true), (32, true), (33, true), (34, true), (35, true), (31, false), (36, true), (37, true)] (by kernel_rfl) (by kernel_rfl) (fun _ _ _ _ _ h => h) ?_
              repeat first | ((with_reducible refine sched_free ?_ ?_ ?_ ?_ (fun wk k1 => ?_) ?_); rotate_left 2; (rfl); (first | exact want_none rfl | exact want_some rfl rfl rfl rfl); (go_simp; first | exact OkX.val | (have cc1 := (X0.trans k1).cell C1; have cc3 := (X0.trans k1).cell C3; have cc6 := (X0.trans k1).cell C6; have cc7 := (X0.trans k1).cell C7; go_simp; exact OkX.val) | (go_simp; rw [hcl _ (X0.trans k1)]; exact OkX.val) | (go_simp; rw [hcs _ (X0.trans k1)]; exact OkX.val)); simp only [Act.put, List.setIfInBounds_toArray, List.set_cons_zero, List.set_cons_succ]) | ((with_reducible refine sched_skip ?_ ?_ ?_ ?_); rotate_left; (rfl); (exact want_not rfl rfl rfl rfl rfl); simp only [Act.put, List.setIfInBounds_toArray, List.set_cons_zero, List.set_cons_succ])
              ((with_reducible refine sched_step ?_ ?_ ?_ (fun wk k1 => ?_)); rotate_left; (rfl); (first | exact want_none rfl | exact want_some rfl rfl rfl rfl))
              have Y1 := X0.trans k1
              clear k1
              go_simp
              refine (Log_any (M10.out.dk.ext Y1)).mono ?_
              rintro e w6 ⟨v6, rfl, ho, hx6⟩
              refine ⟨hx6, ?_⟩
              have Y2 := Y1.trans hx6
              have R6 := Lib.hid (Rd.of_own ho)
              clear ho hx6
              try simp only [Act.put, List.setIfInBounds_toArray, List.set_cons_zero, List.set_cons_succ]
              have hcb : ∀ w', Ext w6 w' → (convert 26 9 v6).run Try.prog w' = .ok (.string ⟨s'.log.toArray⟩) w' := fun w' h => (R6.out.ext h).str
              repeat first | ((with_reducible refine sched_free ?_ ?_ ?_ ?_ (fun wk k1 => ?_) ?_); rotate_left 2; (rfl); (first | exact want_none rfl | exact want_some rfl rfl rfl rfl); (go_simp; first | exact OkX.val | (have cc1 := (Y2.trans k1).cell C1; have cc3 := (Y2.trans k1).cell C3; have cc6 := (Y2.trans k1).cell C6; have cc7 := (Y2.trans k1).cell C7; go_simp; exact OkX.val) | (go_simp; rw [hcl _ (Y2.trans k1)]; exact OkX.val) | (go_simp; rw [hcs _ (Y2.trans k1)]; exact OkX.val) | (go_simp; rw [hcb _ (by assumption)]; exact OkX.val)); simp only [Act.put, List.setIfInBounds_toArray, List.set_cons_zero, List.set_cons_succ]) | ((with_reducible refine sched_skip ?_ ?_ ?_ ?_); rotate_left; (rfl); (exact want_not rfl rfl rfl rfl rfl); simp only [Act.put, List.setIfInBounds_toArray, List.set_cons_zero, List.set_cons_succ])
              ((with_reducible refine sched_step ?_ ?_ ?_ (fun wk k1 => ?_)); rotate_left; (rfl); (first | exact want_none rfl | exact want_some rfl rfl rfl rfl))
              have Y3 := Y2.trans k1
              clear k1
              go_simp
              refine (Snap_any (M10.out.dk.ext Y3)).mono ?_
              rintro e w7 ⟨v7, rfl, ho, hx7⟩
              refine ⟨hx7, ?_⟩
              have Y4 := Y3.trans hx7
              have R7 := Lib.hid (Rd.of_own ho)
              clear ho hx7
              try simp only [Act.put, List.setIfInBounds_toArray, List.set_cons_zero, List.set_cons_succ]
              have hcd : ∀ w', Ext w7 w' → (convert 26 9 v7).run Try.prog w' = .ok (.string ⟨s'.snap.toArray⟩) w' := fun w' h => (R7.out.ext h).str
              repeat first | ((with_reducible refine sched_free ?_ ?_ ?_ ?_ (fun wk k1 => ?_) ?_); rotate_left 2; (rfl); (first | exact want_none rfl | exact want_some rfl rfl rfl rfl); (go_simp; first | exact OkX.val | (have cc1 := (Y4.trans k1).cell C1; have cc3 := (Y4.trans k1).cell C3; have cc6 := (Y4.trans k1).cell C6; have cc7 := (Y4.trans k1).cell C7; go_simp; exact OkX.val) | (go_simp; rw [hcl _ (Y4.trans k1)]; exact OkX.val) | (go_simp; rw [hcs _ (Y4.trans k1)]; exact OkX.val) | (go_simp; rw [hcd _ (by assumption)]; exact OkX.val)); simp only [Act.put, List.setIfInBounds_toArray, List.set_cons_zero, List.set_cons_succ]) | ((with_reducible refine sched_skip ?_ ?_ ?_ ?_); rotate_left; (rfl); (exact want_not rfl rfl rfl rfl rfl); simp only [Act.put, List.setIfInBounds_toArray, List.set_cons_zero, List.set_cons_succ])
              ((with_reducible refine sched_step ?_ ?_ ?_ (fun wk k1 => ?_)); rotate_left; (rfl); (first | exact want_none rfl | exact want_some rfl rfl rfl rfl))
              have Y5 := Y4.trans k1
              clear k1
              go_simp
              refine (Dead_any (M10.out.dk.ext Y5)).mono ?_
              rintro e w8 ⟨rfl, rfl⟩
              refine ⟨Ext.refl _, ?_⟩
              try simp only [Act.put, List.setIfInBounds_toArray, List.set_cons_zero, List.set_cons_succ]
              repeat first | ((with_reducible refine sched_free ?_ ?_ ?_ ?_ (fun wk k1 => ?_) ?_); rotate_left 2; (rfl); (first | exact want_none rfl | exact want_some rfl rfl rfl rfl); (go_simp; first | exact OkX.val | (have cc1 := (Y5.trans k1).cell C1; have cc3 := (Y5.trans k1).cell C3; have cc6 := (Y5.trans k1).cell C6; have cc7 := (Y5.trans k1).cell C7; go_simp; exact OkX.val) | (go_simp; rw [hcl _ (Y5.trans k1)]; exact OkX.val) | (go_simp; rw [hcs _ (Y5.trans k1)]; exact OkX.val)); simp only [Act.put, List.setIfInBounds_toArray, List.set_cons_zero, List.set_cons_succ]) | ((with_reducible refine sched_skip ?_ ?_ ?_ ?_); rotate_left; (rfl); (exact want_not rfl rfl rfl rfl rfl); simp only [Act.put, List.setIfInBounds_toArray, List.set_cons_zero, List.set_cons_succ])
              ((with_reducible refine sched_step ?_ ?_ ?_ (fun wk k1 => ?_)); rotate_left; (rfl); (first | exact want_none rfl | exact want_some rfl rfl rfl rfl))
              have Y6 := Y5.trans k1
              clear k1
              go_simp
              refine (Ops_any (M10.out.dk.ext Y6)).mono ?_
              rintro e w9 ⟨rfl, rfl⟩
              refine ⟨Ext.refl _, ?_⟩
              try simp only [Act.put, List.setIfInBounds_toArray, List.set_cons_zero, List.set_cons_succ]
              repeat first | ((with_reducible refine sched_free ?_ ?_ ?_ ?_ (fun wk k1 => ?_) ?_); rotate_left 2; (rfl); (first | exact want_none rfl | exact want_some rfl rfl rfl rfl); (go_simp; first | exact OkX.val | (have cc1 := (Y6.trans k1).cell C1; have cc3 := (Y6.trans k1).cell C3; have cc6 := (Y6.trans k1).cell C6; have cc7 := (Y6.trans k1).cell C7; go_simp; exact OkX.val) | (go_simp; rw [hcl _ (Y6.trans k1)]; exact OkX.val) | (go_simp; rw [hcs _ (Y6.trans k1)]; exact OkX.val)); simp only [Act.put, List.setIfInBounds_toArray, List.set_cons_zero, List.set_cons_succ]) | ((with_reducible refine sched_skip ?_ ?_ ?_ ?_); rotate_left; (rfl); (exact want_not rfl rfl rfl rfl rfl); simp only [Act.put, List.setIfInBounds_toArray, List.set_cons_zero, List.set_cons_succ])
              refine sched_done (fun wz k1 => ?_)
              have M11 := Lib.hid (M10.out.more (Y6.trans k1))
              clear k1 Y1 Y2 Y3 Y4 Y5 Y6 X0 hcl hcs hcb hcd C1 C3 C6 C7
              go_wp2
              go_roundw
              case rel => exact ⟨k + 1, s', by omega, by omega, by go_num, _, _, _, M11.out⟩
              case measure => simp [intOf]; omega
        · skip
          go_wp2_with fail
          refine (Stop_any HM4.out.dk n HN.out).mono ?_
          rintro e w6 hD
          have hf6 := hD.2.1
          obtain ⟨rfl, L6, m6⟩ := HM4.out.dev hD
          have M6 := Lib.hid m6
          have O6 := Lib.hid (own_foot HO4.out hf6 (fun g' hg' h => by injection hg' with hg'; subst hg'; exact (HM4.out.g g rfl).2.2.1 (.inl h)))
          have cN6 := foot_cell hf6 cN hCm.out
          clear hD hf6 m6
          go_wp2_with fail
          refine (rStop_any M6.out.xk n HN.out).mono ?_
          rintro e wk hD
          have hf8 := hD.2.1
          obtain ⟨rfl, bl8, bs8, m8⟩ := M6.out.ref hD
          have M9 := Lib.hid m8
          have O9 := Lib.hid (own_foot O6.out hf8 (fun g' hg' h => by injection hg' with hg'; subst hg'; exact (M6.out.g g rfl).2.2.2 (.inl h)))
          clear hD hf8 m8
          obtain ⟨s', hs'⟩ : ∃ s', s' = stp s n := ⟨_, rfl⟩
          rw [← hs'] at M9
          clear hs'
          have O10 := Lib.hid (show wk.ownsRow (Cb + 1) 5 1 (.slice (some ⟨g, 0, none⟩) l.length cap) l.length (bvs l) by have h := O9.out; rw [bvs_length] at h; exact h)
          go_wp2
          go_loopw [12] (fun i wr => ∃ (j : Nat) (xs : List Value), j ≤ l.length ∧ i = .int .i64 j ∧ wr.ownsRow (Cb + 1) 5 1 (.slice (some ⟨g, 0, none⟩) l.length cap) l.length xs ∧ Foot (fun i => i = g) wk wr) (fun i _ => l.length - (intOf i).toNat)
          case atStart => exact ⟨0, bvs l, Nat.zero_le _, rfl, O10.out, Foot.refl _ _⟩
          case round =>
            obtain ⟨j, xs, hj, rfl, hown, hF⟩ := hrel
            have HF := Lib.hid hF
            have HO := Lib.hid hown
            by_cases hlt2 : j < l.length
            · have hxl : xs.length = l.length * 1 := hown.1
              have cj : wr.cell? ⟨g, j, none⟩ = some (xs[j]'(by omega)) := (hown.cellAt j (by omega)).trans (List.getElem?_eq_getElem (by omega))
              have fj := hown.frozenAt j
              have j0 : (0 : Int) ≤ (j : Int) := by omega
              have j1 : (j : Int) < (l.length : Int) := by omega
              have HS := Lib.hid (hown.stored j (.int .u8 238)).1
              have HK := Lib.hid (Foot.setCell (fun i => i = g) wr g j (.int .u8 238) rfl)
              generalize (xs[j]'(by omega)) = z at *
              clear hown hF hxl
              go_wp2
              go_roundw
              case rel => exact ⟨j + 1, _, by omega, by go_num, HS.out, HF.out.trans HK.out (fun _ _ h => h)⟩
              case measure => simp [intOf]; omega
            · have M10 := Lib.hid (M9.out.turn hF)
              obtain ⟨vl, vs, ev, x0, x1, _, x2, _⟩ := M10.out.xk
              obtain ⟨Al, cl, rfl, _⟩ := x1.len
              obtain ⟨As, cs', rfl, _⟩ := x2.len
              simp only [bvs_length] at x0 x1 x2
              have C1 := x0.c1
              have C3 := x0.c3
              have C6 := x0.c6
              have C7 := x0.c7
              have hcl : ∀ w', Ext wr w' → (convert 26 9 (.slice Al s'.log.length cl)).run Try.prog w' = .ok (.string ⟨s'.log.toArray⟩) w' := fun w' h => (x1.ext h).str
              have hcs : ∀ w', Ext wr w' → (convert 26 9 (.slice As s'.snap.length cs')).run Try.prog w' = .ok (.string ⟨s'.snap.toArray⟩) w' := fun w' h => (x2.ext h).str
              have X0 := Ext.drew wr
              clear hown hF x0 x1 x2
              go_wp2
              refine wp_region_sched Ext ExtW [(0, true), (3, true), (4, true), (5, true), (6, true), (7, true), (1, false), (2, true), (8, true), (9, true), (10, true), (13, true), (14, true), (15, true), (16, true), (17, true), (11, false), (12, true), (18, true), (19, true), (20, true), (21, true), (23, true), (24, true), (25, true), (26, true), (22, false), (27, true), (28, true), (29, true), (30, true), (32, true), (33, true), (34, true), (35, true), (31, false), (36, true), (37, true)] (by kernel_rfl) (by kernel_rfl) (fun _ _ _ _ _ h => h) ?_
              repeat first | ((with_reducible refine sched_free ?_ ?_ ?_ ?_ (fun wk k1 => ?_) ?_); rotate_left 2; (rfl); (first | exact want_none rfl | exact want_some rfl rfl rfl rfl); (go_simp; first | exact OkX.val | (have cc1 := (X0.trans k1).cell C1; have cc3 := (X0.trans k1).cell C3; have cc6 := (X0.trans k1).cell C6; have cc7 := (X0.trans k1).cell C7; go_simp; exact OkX.val) | (go_simp; rw [hcl _ (X0.trans k1)]; exact OkX.val) | (go_simp; rw [hcs _ (X0.trans k1)]; exact OkX.val)); simp only [Act.put, List.setIfInBounds_toArray, List.set_cons_zero, List.set_cons_succ]) | ((with_reducible refine sched_skip ?_ ?_ ?_ ?_); rotate_left; (rfl); (exact want_not rfl rfl rfl rfl rfl); simp only [Act.put, List.setIfInBounds_toArray, List.set_cons_zero, List.set_cons_succ])
              ((with_reducible refine sched_step ?_ ?_ ?_ (fun wk k1 => ?_)); rotate_left; (rfl); (first | exact want_none rfl | exact want_some rfl rfl rfl rfl))
              have Y1 := X0.trans k1
              clear k1
              go_simp
              refine (Log_any (M10.out.dk.ext Y1)).mono ?_
              rintro e w6 ⟨v6, rfl, ho, hx6⟩
              refine ⟨hx6, ?_⟩
              have Y2 := Y1.trans hx6
              have R6 := Lib.hid (Rd.of_own ho)
              clear ho hx6
              try simp only [Act.put, List.setIfInBounds_toArray, List.set_cons_zero, List.set_cons_succ]
              have hcb : ∀ w', Ext w6 w' → (convert 26 9 v6).run Try.prog w' = .ok (.string ⟨s'.log.toArray⟩) w' := fun w' h => (R6.out.ext h).str
              repeat first | ((with_reducible refine sched_free ?_ ?_ ?_ ?_ (fun wk k1 => ?_) ?_); rotate_left 2; (rfl); (first | exact want_none rfl | exact want_some rfl rfl rfl rfl); (go_simp; first | exact OkX.val | (have cc1 := (Y2.trans k1).cell C1; have cc3 := (Y2.trans k1).cell C3; have cc6 := (Y2.trans k1).cell C6; have cc7 := (Y2.trans k1).cell C7; go_simp; exact OkX.val) | (go_simp; rw [hcl _ (Y2.trans k1)]; exact OkX.val) | (go_simp; rw [hcs _ (Y2.trans k1)]; exact OkX.val) | (go_simp; rw [hcb _ (by assumption)]; exact OkX.val)); simp only [Act.put, List.setIfInBounds_toArray, List.set_cons_zero, List.set_cons_succ]) | ((with_reducible refine sched_skip ?_ ?_ ?_ ?_); rotate_left; (rfl); (exact want_not rfl rfl rfl rfl rfl); simp only [Act.put, List.setIfInBounds_toArray, List.set_cons_zero, List.set_cons_succ])
              ((with_reducible refine sched_step ?_ ?_ ?_ (fun wk k1 => ?_)); rotate_left; (rfl); (first | exact want_none rfl | exact want_some rfl rfl rfl rfl))
              have Y3 := Y2.trans k1
              clear k1
              go_simp
              refine (Snap_any (M10.out.dk.ext Y3)).mono ?_
              rintro e w7 ⟨v7, rfl, ho, hx7⟩
              refine ⟨hx7, ?_⟩
              have Y4 := Y3.trans hx7
              have R7 := Lib.hid (Rd.of_own ho)
              clear ho hx7
              try simp only [Act.put, List.setIfInBounds_toArray, List.set_cons_zero, List.set_cons_succ]
              have hcd : ∀ w', Ext w7 w' → (convert 26 9 v7).run Try.prog w' = .ok (.string ⟨s'.snap.toArray⟩) w' := fun w' h => (R7.out.ext h).str
              repeat first | ((with_reducible refine sched_free ?_ ?_ ?_ ?_ (fun wk k1 => ?_) ?_); rotate_left 2; (rfl); (first | exact want_none rfl | exact want_some rfl rfl rfl rfl); (go_simp; first | exact OkX.val | (have cc1 := (Y4.trans k1).cell C1; have cc3 := (Y4.trans k1).cell C3; have cc6 := (Y4.trans k1).cell C6; have cc7 := (Y4.trans k1).cell C7; go_simp; exact OkX.val) | (go_simp; rw [hcl _ (Y4.trans k1)]; exact OkX.val) | (go_simp; rw [hcs _ (Y4.trans k1)]; exact OkX.val) | (go_simp; rw [hcd _ (by assumption)]; exact OkX.val)); simp only [Act.put, List.setIfInBounds_toArray, List.set_cons_zero, List.set_cons_succ]) | ((with_reducible refine sched_skip ?_ ?_ ?_ ?_); rotate_left; (rfl); (exact want_not rfl rfl rfl rfl rfl); simp only [Act.put, List.setIfInBounds_toArray, List.set_cons_zero, List.set_cons_succ])
              ((with_reducible refine sched_step ?_ ?_ ?_ (fun wk k1 => ?_)); rotate_left; (rfl); (first | exact want_none rfl | exact want_some rfl rfl rfl rfl))
              have Y5 := Y4.trans k1
              clear k1
              go_simp
              refine (Dead_any (M10.out.dk.ext Y5)).mono ?_
              rintro e w8 ⟨rfl, rfl⟩
              refine ⟨Ext.refl _, ?_⟩
              try simp only [Act.put, List.setIfInBounds_toArray, List.set_cons_zero, List.set_cons_succ]
              repeat first | ((with_reducible refine sched_free ?_ ?_ ?_ ?_ (fun wk k1 => ?_) ?_); rotate_left 2; (rfl); (first | exact want_none rfl | exact want_some rfl rfl rfl rfl); (go_simp; first | exact OkX.val | (have cc1 := (Y5.trans k1).cell C1; have cc3 := (Y5.trans k1).cell C3; have cc6 := (Y5.trans k1).cell C6; have cc7 := (Y5.trans k1).cell C7; go_simp; exact OkX.val) | (go_simp; rw [hcl _ (Y5.trans k1)]; exact OkX.val) | (go_simp; rw [hcs _ (Y5.trans k1)]; exact OkX.val)); simp only [Act.put, List.setIfInBounds_toArray, List.set_cons_zero, List.set_cons_succ]) | ((with_reducible refine sched_skip ?_ ?_ ?_ ?_); rotate_left; (rfl); (exact want_not rfl rfl rfl rfl rfl); simp only [Act.put, List.setIfInBounds_toArray, List.set_cons_zero, List.set_cons_succ])
              ((with_reducible refine sched_step ?_ ?_ ?_ (fun wk k1 => ?_)); rotate_left; (rfl); (first | exact want_none rfl | exact want_some rfl rfl rfl rfl))
              have Y6 := Y5.trans k1
              clear k1
              go_simp
              refine (Ops_any (M10.out.dk.ext Y6)).mono ?_
              rintro e w9 ⟨rfl, rfl⟩
              refine ⟨Ext.refl _, ?_⟩
              try simp only [Act.put, List.setIfInBounds_toArray, List.set_cons_zero, List.set_cons_succ]
              repeat first | ((with_reducible refine sched_free ?_ ?_ ?_ ?_ (fun wk k1 => ?_) ?_); rotate_left 2; (rfl); (first | exact want_none rfl | exact want_some rfl rfl rfl rfl); (go_simp; first | exact OkX.val | (have cc1 := (Y6.trans k1).cell C1; have cc3 := (Y6.trans k1).cell C3; have cc6 := (Y6.trans k1).cell C6; have cc7 := (Y6.trans k1).cell C7; go_simp; exact OkX.val) | (go_simp; rw [hcl _ (Y6.trans k1)]; exact OkX.val) | (go_simp; rw [hcs _ (Y6.trans k1)]; exact OkX.val)); simp only [Act.put, List.setIfInBounds_toArray, List.set_cons_zero, List.set_cons_succ]) | ((with_reducible refine sched_skip ?_ ?_ ?_ ?_); rotate_left; (rfl); (exact want_not rfl rfl rfl rfl rfl); simp only [Act.put, List.setIfInBounds_toArray, List.set_cons_zero, List.set_cons_succ])
              refine sched_done (fun wz k1 => ?_)
              have M11 := Lib.hid (M10.out.more (Y6.trans k1))
              clear k1 Y1 Y2 Y3 Y4 Y5 Y6 X0 hcl hcs hcb hcd C1 C3 C6 C7
              go_wp2
              go_roundw
              case rel => exact ⟨k + 1, s', by omega, by omega, by go_num, _, _, _, M11.out⟩
              case measure => simp [intOf]; omega
        · skip
          go_wp2
          have hS : ¬ (mine R L Cb ∨ Cb = X) := fun h => h.elim hCm.out hCX.out
          refine wp_region_sched (Foot fun i => mine R L i ∨ i = X) (FW _) [(0, true), (1, true), (2, true), (4, true), (5, true), (6, true), (3, false), (7, false), (8, true)] (by kernel_rfl) (by kernel_rfl) (fun _ _ _ _ _ h => h) ?_
          repeat first | ((with_reducible refine sched_free ?_ ?_ ?_ ?_ (fun wk k1 => ?_) ?_); rotate_left 2; (rfl); (first | exact want_none rfl | exact want_some rfl rfl rfl rfl); (go_simp; first | exact OkX.val | (have cc := foot_cell ((Foot.of_ext (Ext.drew _)).trans k1 (fun _ _ h => h)) cN hS; go_simp; exact OkX.val)); simp only [Act.put, List.setIfInBounds_toArray, List.set_cons_zero, List.set_cons_succ]) | ((with_reducible refine sched_skip ?_ ?_ ?_ ?_); rotate_left; (rfl); (exact want_not rfl rfl rfl rfl rfl); simp only [Act.put, List.setIfInBounds_toArray, List.set_cons_zero, List.set_cons_succ])
          ((with_reducible refine sched_step ?_ ?_ ?_ (fun wk k1 => ?_)); rotate_left; (rfl); (first | exact want_none rfl | exact want_some rfl rfl rfl rfl))
          have X1 := (Ext.drew _).trans k1
          have M5 := Lib.hid (HM4.out.more X1)
          have RA5 := Lib.hid ((Rd.of_own HO4.out).ext X1)
          have O5 := Lib.hid (own_Ext HO4.out X1)
          clear k1 X1
          go_simp
          refine (Crash_any M5.out.dk n).mono ?_
          rintro e w6 hD
          have hf6 := hD.2.1
          obtain ⟨rfl, L6, m6⟩ := M5.out.dev hD
          refine ⟨hf6.wide (fun _ h => .inl h), ?_⟩
          have M6 := Lib.hid m6
          have O6 := Lib.hid (own_foot O5.out hf6 (fun g' hg' h => by injection hg' with hg'; subst hg'; exact (HM4.out.g g rfl).2.2.1 (.inl h)))
          clear hD hf6 m6
          try simp only [Act.put, List.setIfInBounds_toArray, List.set_cons_zero, List.set_cons_succ]
          ((with_reducible refine sched_step ?_ ?_ ?_ (fun wk k1 => ?_)); rotate_left; (rfl); (first | exact want_none rfl | exact want_some rfl rfl rfl rfl))
          have M7 := Lib.hid (M6.out.more k1)
          have RB7 := Lib.hid (RU.out.ext M7.out.ext)
          have O7 := Lib.hid (own_Ext O6.out k1)
          clear k1
          go_simp
          refine (rCrash_any M7.out.xk n HN.out).mono ?_
          rintro e w8 hD
          have hf8 := hD.2.1
          obtain ⟨rfl, bl8, bs8, m8⟩ := M7.out.ref hD
          refine ⟨hf8.wide (fun _ h => .inr h), ?_⟩
          have M8 := Lib.hid m8
          have O8 := Lib.hid (own_foot O7.out hf8 (fun g' hg' h => by injection hg' with hg'; subst hg'; exact (M7.out.g g rfl).2.2.2 (.inl h)))
          clear hD hf8 m8
          try simp only [Act.put, List.setIfInBounds_toArray, List.set_cons_zero, List.set_cons_succ]
          repeat first | ((with_reducible refine sched_free ?_ ?_ ?_ ?_ (fun wk k1 => ?_) ?_); rotate_left 2; (rfl); (first | exact want_none rfl | exact want_some rfl rfl rfl rfl); (go_simp; first | exact OkX.val); simp only [Act.put, List.setIfInBounds_toArray, List.set_cons_zero, List.set_cons_succ]) | ((with_reducible refine sched_skip ?_ ?_ ?_ ?_); rotate_left; (rfl); (exact want_not rfl rfl rfl rfl rfl); simp only [Act.put, List.setIfInBounds_toArray, List.set_cons_zero, List.set_cons_succ])
          refine sched_done (fun wk k1 => ?_)
          have M9 := Lib.hid (M8.out.more k1)
          have O9 := Lib.hid (own_Ext O8.out k1)
          clear k1
          obtain ⟨s', hs'⟩ : ∃ s', s' = crs s n := ⟨_, rfl⟩
          rw [← hs'] at M9
          clear hs'
          have O10 := Lib.hid (show wk.ownsRow (Cb + 1) 5 1 (.slice (some ⟨g, 0, none⟩) l.length cap) l.length (bvs l) by have h := O9.out; rw [bvs_length] at h; exact h)
          go_wp2
          go_loopw [12] (fun i wr => ∃ (j : Nat) (xs : List Value), j ≤ l.length ∧ i = .int .i64 j ∧ wr.ownsRow (Cb + 1) 5 1 (.slice (some ⟨g, 0, none⟩) l.length cap) l.length xs ∧ Foot (fun i => i = g) wk wr) (fun i _ => l.length - (intOf i).toNat)
          case atStart => exact ⟨0, bvs l, Nat.zero_le _, rfl, O10.out, Foot.refl _ _⟩
          case round =>
            obtain ⟨j, xs, hj, rfl, hown, hF⟩ := hrel
            have HF := Lib.hid hF
            have HO := Lib.hid hown
            by_cases hlt2 : j < l.length
            · have hxl : xs.length = l.length * 1 := hown.1
              have cj : wr.cell? ⟨g, j, none⟩ = some (xs[j]'(by omega)) := (hown.cellAt j (by omega)).trans (List.getElem?_eq_getElem (by omega))
              have fj := hown.frozenAt j
              have j0 : (0 : Int) ≤ (j : Int) := by omega
              have j1 : (j : Int) < (l.length : Int) := by omega
              have HS := Lib.hid (hown.stored j (.int .u8 238)).1
              have HK := Lib.hid (Foot.setCell (fun i => i = g) wr g j (.int .u8 238) rfl)
              generalize (xs[j]'(by omega)) = z at *
              clear hown hF hxl
              go_wp2
              go_roundw
              case rel => exact ⟨j + 1, _, by omega, by go_num, HS.out, HF.out.trans HK.out (fun _ _ h => h)⟩
              case measure => simp [intOf]; omega
            · have M10 := Lib.hid (M9.out.turn hF)
              obtain ⟨vl, vs, ev, x0, x1, _, x2, _⟩ := M10.out.xk
              obtain ⟨Al, cl, rfl, _⟩ := x1.len
              obtain ⟨As, cs', rfl, _⟩ := x2.len
              simp only [bvs_length] at x0 x1 x2
              have C1 := x0.c1
              have C3 := x0.c3
              have C6 := x0.c6
              have C7 := x0.c7
              have hcl : ∀ w', Ext wr w' → (convert 26 9 (.slice Al s'.log.length cl)).run Try.prog w' = .ok (.string ⟨s'.log.toArray⟩) w' := fun w' h => (x1.ext h).str
              have hcs : ∀ w', Ext wr w' → (convert 26 9 (.slice As s'.snap.length cs')).run Try.prog w' = .ok (.string ⟨s'.snap.toArray⟩) w' := fun w' h => (x2.ext h).str
              have X0 := Ext.drew wr
              clear hown hF x0 x1 x2
              go_wp2
              refine wp_region_sched Ext ExtW [(0, true), (3, true), (4, true), (5, true), (6, true), (7, true), (1, false), (2, true), (8, true), (9, true), (10, true), (13, true), (14, true), (15, true), (16, true), (17, true), (11, false), (12, true), (18, true), (19, true), (20, true), (21, true), (23, true), (24, true), (25, true), (26, true), (22, false), (27, true), (28, true), (29, true), (30, true), (32, true), (33, true), (34, true), (35, true), (31, false), (36, true), (37, true)] (by kernel_rfl) (by kernel_rfl) (fun _ _ _ _ _ h => h) ?_
              repeat first | ((with_reducible refine sched_free ?_ ?_ ?_ ?_ (fun wk k1 => ?_) ?_); rotate_left 2; (rfl); (first | exact want_none rfl | exact want_some rfl rfl rfl rfl); (go_simp; first | exact OkX.val | (have cc1 := (X0.trans k1).cell C1; have cc3 := (X0.trans k1).cell C3; have cc6 := (X0.trans k1).cell C6; have cc7 := (X0.trans k1).cell C7; go_simp; exact OkX.val) | (go_simp; rw [hcl _ (X0.trans k1)]; exact OkX.val) | (go_simp; rw [hcs _ (X0.trans k1)]; exact OkX.val)); simp only [Act.put, List.setIfInBounds_toArray, List.set_cons_zero, List.set_cons_succ]) | ((with_reducible refine sched_skip ?_ ?_ ?_ ?_); rotate_left; (rfl); (exact want_not rfl rfl rfl rfl rfl); simp only [Act.put, List.setIfInBounds_toArray, List.set_cons_zero, List.set_cons_succ])
              ((with_reducible refine sched_step ?_ ?_ ?_ (fun wk k1 => ?_)); rotate_left; (rfl); (first | exact want_none rfl | exact want_some rfl rfl rfl rfl))
              have Y1 := X0.trans k1
              clear k1
              go_simp
              refine (Log_any (M10.out.dk.ext Y1)).mono ?_
              rintro e w6 ⟨v6, rfl, ho, hx6⟩
              refine ⟨hx6, ?_⟩
              have Y2 := Y1.trans hx6
              have R6 := Lib.hid (Rd.of_own ho)
              clear ho hx6
              try simp only [Act.put, List.setIfInBounds_toArray, List.set_cons_zero, List.set_cons_succ]
              have hcb : ∀ w', Ext w6 w' → (convert 26 9 v6).run Try.prog w' = .ok (.string ⟨s'.log.toArray⟩) w' := fun w' h => (R6.out.ext h).str
              repeat first | ((with_reducible refine sched_free ?_ ?_ ?_ ?_ (fun wk k1 => ?_) ?_); rotate_left 2; (rfl); (first | exact want_none rfl | exact want_some rfl rfl rfl rfl); (go_simp; first | exact OkX.val | (have cc1 := (Y2.trans k1).cell C1; have cc3 := (Y2.trans k1).cell C3; have cc6 := (Y2.trans k1).cell C6; have cc7 := (Y2.trans k1).cell C7; go_simp; exact OkX.val) | (go_simp; rw [hcl _ (Y2.trans k1)]; exact OkX.val) | (go_simp; rw [hcs _ (Y2.trans k1)]; exact OkX.val) | (go_simp; rw [hcb _ (by assumption)]; exact OkX.val)); simp only [Act.put, List.setIfInBounds_toArray, List.set_cons_zero, List.set_cons_succ]) | ((with_reducible refine sched_skip ?_ ?_ ?_ ?_); rotate_left; (rfl); (exact want_not rfl rfl rfl rfl rfl); simp only [Act.put, List.setIfInBounds_toArray, List.set_cons_zero, List.set_cons_succ])
              ((with_reducible refine sched_step ?_ ?_ ?_ (fun wk k1 => ?_)); rotate_left; (rfl); (first | exact want_none rfl | exact want_some rfl rfl rfl rfl))
              have Y3 := Y2.trans k1
              clear k1
              go_simp
              refine (Snap_any (M10.out.dk.ext Y3)).mono ?_
              rintro e w7 ⟨v7, rfl, ho, hx7⟩
              refine ⟨hx7, ?_⟩
              have Y4 := Y3.trans hx7
              have R7 := Lib.hid (Rd.of_own ho)
              clear ho hx7
              try simp only [Act.put, List.setIfInBounds_toArray, List.set_cons_zero, List.set_cons_succ]
              have hcd : ∀ w', Ext w7 w' → (convert 26 9 v7).run Try.prog w' = .ok (.string ⟨s'.snap.toArray⟩) w' := fun w' h => (R7.out.ext h).str
              repeat first | ((with_reducible refine sched_free ?_ ?_ ?_ ?_ (fun wk k1 => ?_) ?_); rotate_left 2; (rfl); (first | exact want_none rfl | exact want_some rfl rfl rfl rfl); (go_simp; first | exact OkX.val | (have cc1 := (Y4.trans k1).cell C1; have cc3 := (Y4.trans k1).cell C3; have cc6 := (Y4.trans k1).cell C6; have cc7 := (Y4.trans k1).cell C7; go_simp; exact OkX.val) | (go_simp; rw [hcl _ (Y4.trans k1)]; exact OkX.val) | (go_simp; rw [hcs _ (Y4.trans k1)]; exact OkX.val) | (go_simp; rw [hcd _ (by assumption)]; exact OkX.val)); simp only [Act.put, List.setIfInBounds_toArray, List.set_cons_zero, List.set_cons_succ]) | ((with_reducible refine sched_skip ?_ ?_ ?_ ?_); rotate_left; (rfl); (exact want_not rfl rfl rfl rfl rfl); simp only [Act.put, List.setIfInBounds_toArray, List.set_cons_zero, List.set_cons_succ])
              ((with_reducible refine sched_step ?_ ?_ ?_ (fun wk k1 => ?_)); rotate_left; (rfl); (first | exact want_none rfl | exact want_some rfl rfl rfl rfl))
              have Y5 := Y4.trans k1
              clear k1
              go_simp
              refine (Dead_any (M10.out.dk.ext Y5)).mono ?_
              rintro e w8 ⟨rfl, rfl⟩
              refine ⟨Ext.refl _, ?_⟩
              try simp only [Act.put, List.setIfInBounds_toArray, List.set_cons_zero, List.set_cons_succ]
              repeat first | ((with_reducible refine sched_free ?_ ?_ ?_ ?_ (fun wk k1 => ?_) ?_); rotate_left 2; (rfl); (first | exact want_none rfl | exact want_some rfl rfl rfl rfl); (go_simp; first | exact OkX.val | (have cc1 := (Y5.trans k1).cell C1; have cc3 := (Y5.trans k1).cell C3; have cc6 := (Y5.trans k1).cell C6; have cc7 := (Y5.trans k1).cell C7; go_simp; exact OkX.val) | (go_simp; rw [hcl _ (Y5.trans k1)]; exact OkX.val) | (go_simp; rw [hcs _ (Y5.trans k1)]; exact OkX.val)); simp only [Act.put, List.setIfInBounds_toArray, List.set_cons_zero, List.set_cons_succ]) | ((with_reducible refine sched_skip ?_ ?_ ?_ ?_); rotate_left; (rfl); (exact want_not rfl rfl rfl rfl rfl); simp only [Act.put, List.setIfInBounds_toArray, List.set_cons_zero, List.set_cons_succ])
              ((with_reducible refine sched_step ?_ ?_ ?_ (fun wk k1 => ?_)); rotate_left; (rfl); (first | exact want_none rfl | exact want_some rfl rfl rfl rfl))
              have Y6 := Y5.trans k1
              clear k1
              go_simp
              refine (Ops_any (M10.out.dk.ext Y6)).mono ?_
              rintro e w9 ⟨rfl, rfl⟩
              refine ⟨Ext.refl _, ?_⟩
              try simp only [Act.put, List.setIfInBounds_toArray, List.set_cons_zero, List.set_cons_succ]
              repeat first | ((with_reducible refine sched_free ?_ ?_ ?_ ?_ (fun wk k1 => ?_) ?_); rotate_left 2; (rfl); (first | exact want_none rfl | exact want_some rfl rfl rfl rfl); (go_simp; first | exact OkX.val | (have cc1 := (Y6.trans k1).cell C1; have cc3 := (Y6.trans k1).cell C3; have cc6 := (Y6.trans k1).cell C6; have cc7 := (Y6.trans k1).cell C7; go_simp; exact OkX.val) | (go_simp; rw [hcl _ (Y6.trans k1)]; exact OkX.val) | (go_simp; rw [hcs _ (Y6.trans k1)]; exact OkX.val)); simp only [Act.put, List.setIfInBounds_toArray, List.set_cons_zero, List.set_cons_succ]) | ((with_reducible refine sched_skip ?_ ?_ ?_ ?_); rotate_left; (rfl); (exact want_not rfl rfl rfl rfl rfl); simp only [Act.put, List.setIfInBounds_toArray, List.set_cons_zero, List.set_cons_succ])
              refine sched_done (fun wz k1 => ?_)
              have M11 := Lib.hid (M10.out.more (Y6.trans k1))
              clear k1 Y1 Y2 Y3 Y4 Y5 Y6 X0 hcl hcs hcb hcd C1 C3 C6 C7
              go_wp2
              go_roundw
              case rel => exact ⟨k + 1, s', by omega, by omega, by go_num, _, _, _, M11.out⟩
              case measure => simp [intOf]; omega
        · skip
          go_wp2
          have hS : ¬ (mine R L Cb ∨ Cb = X) := fun h => h.elim hCm.out hCX.out
          refine wp_region_sched (Foot fun i => mine R L i ∨ i = X) (FW _) [(0, true), (1, true), (3, true), (4, true), (5, true), (2, false), (6, false), (7, true)] (by kernel_rfl) (by kernel_rfl) (fun _ _ _ _ _ h => h) ?_
          repeat first | ((with_reducible refine sched_free ?_ ?_ ?_ ?_ (fun wk k1 => ?_) ?_); rotate_left 2; (rfl); (first | exact want_none rfl | exact want_some rfl rfl rfl rfl); (go_simp; first | exact OkX.val | (have cc := foot_cell ((Foot.of_ext (Ext.drew _)).trans k1 (fun _ _ h => h)) cB hS; go_simp; exact OkX.val)); simp only [Act.put, List.setIfInBounds_toArray, List.set_cons_zero, List.set_cons_succ]) | ((with_reducible refine sched_skip ?_ ?_ ?_ ?_); rotate_left; (rfl); (exact want_not rfl rfl rfl rfl rfl); simp only [Act.put, List.setIfInBounds_toArray, List.set_cons_zero, List.set_cons_succ])
          ((with_reducible refine sched_step ?_ ?_ ?_ (fun wk k1 => ?_)); rotate_left; (rfl); (first | exact want_none rfl | exact want_some rfl rfl rfl rfl))
          have X1 := (Ext.drew _).trans k1
          have M5 := Lib.hid (HM4.out.more X1)
          have RA5 := Lib.hid ((Rd.of_own HO4.out).ext X1)
          have O5 := Lib.hid (own_Ext HO4.out X1)
          clear k1 X1
          go_simp
          refine (Swap_any M5.out.dk _ l RA5.out (by omega)).mono ?_
          rintro e w6 hD
          have hf6 := hD.2.1
          obtain ⟨rfl, L6, m6⟩ := M5.out.dev hD
          refine ⟨hf6.wide (fun _ h => .inl h), ?_⟩
          have M6 := Lib.hid m6
          have O6 := Lib.hid (own_foot O5.out hf6 (fun g' hg' h => by injection hg' with hg'; subst hg'; exact (HM4.out.g g rfl).2.2.1 (.inl h)))
          clear hD hf6 m6
          try simp only [Act.put, List.setIfInBounds_toArray, List.set_cons_zero, List.set_cons_succ]
          ((with_reducible refine sched_step ?_ ?_ ?_ (fun wk k1 => ?_)); rotate_left; (rfl); (first | exact want_none rfl | exact want_some rfl rfl rfl rfl))
          have M7 := Lib.hid (M6.out.more k1)
          have RB7 := Lib.hid (RU.out.ext M7.out.ext)
          have O7 := Lib.hid (own_Ext O6.out k1)
          clear k1
          go_simp
          refine (rSwap_any M7.out.xk _ l RB7.out (by omega) (fun h0 k hk => by have := RU.out.below h0 k hk; have := M7.out.hX; omega)).mono ?_
          rintro e w8 hD
          have hf8 := hD.2.1
          obtain ⟨rfl, bl8, bs8, m8⟩ := M7.out.ref hD
          refine ⟨hf8.wide (fun _ h => .inr h), ?_⟩
          have M8 := Lib.hid m8
          have O8 := Lib.hid (own_foot O7.out hf8 (fun g' hg' h => by injection hg' with hg'; subst hg'; exact (M7.out.g g rfl).2.2.2 (.inl h)))
          clear hD hf8 m8
          try simp only [Act.put, List.setIfInBounds_toArray, List.set_cons_zero, List.set_cons_succ]
          repeat first | ((with_reducible refine sched_free ?_ ?_ ?_ ?_ (fun wk k1 => ?_) ?_); rotate_left 2; (rfl); (first | exact want_none rfl | exact want_some rfl rfl rfl rfl); (go_simp; first | exact OkX.val); simp only [Act.put, List.setIfInBounds_toArray, List.set_cons_zero, List.set_cons_succ]) | ((with_reducible refine sched_skip ?_ ?_ ?_ ?_); rotate_left; (rfl); (exact want_not rfl rfl rfl rfl rfl); simp only [Act.put, List.setIfInBounds_toArray, List.set_cons_zero, List.set_cons_succ])
          refine sched_done (fun wk k1 => ?_)
          have M9 := Lib.hid (M8.out.more k1)
          have O9 := Lib.hid (own_Ext O8.out k1)
          clear k1
          obtain ⟨s', hs'⟩ : ∃ s', s' = swp s l := ⟨_, rfl⟩
          rw [← hs'] at M9
          clear hs'
          have O10 := Lib.hid (show wk.ownsRow (Cb + 1) 5 1 (.slice (some ⟨g, 0, none⟩) l.length cap) l.length (bvs l) by have h := O9.out; rw [bvs_length] at h; exact h)
          go_wp2
          go_loopw [12] (fun i wr => ∃ (j : Nat) (xs : List Value), j ≤ l.length ∧ i = .int .i64 j ∧ wr.ownsRow (Cb + 1) 5 1 (.slice (some ⟨g, 0, none⟩) l.length cap) l.length xs ∧ Foot (fun i => i = g) wk wr) (fun i _ => l.length - (intOf i).toNat)
          case atStart => exact ⟨0, bvs l, Nat.zero_le _, rfl, O10.out, Foot.refl _ _⟩
          case round =>
            obtain ⟨j, xs, hj, rfl, hown, hF⟩ := hrel
            have HF := Lib.hid hF
            have HO := Lib.hid hown
            by_cases hlt2 : j < l.length
            · have hxl : xs.length = l.length * 1 := hown.1
              have cj : wr.cell? ⟨g, j, none⟩ = some (xs[j]'(by omega)) := (hown.cellAt j (by omega)).trans (List.getElem?_eq_getElem (by omega))
              have fj := hown.frozenAt j
              have j0 : (0 : Int) ≤ (j : Int) := by omega
              have j1 : (j : Int) < (l.length : Int) := by omega
              have HS := Lib.hid (hown.stored j (.int .u8 238)).1
              have HK := Lib.hid (Foot.setCell (fun i => i = g) wr g j (.int .u8 238) rfl)
              generalize (xs[j]'(by omega)) = z at *
              clear hown hF hxl
              go_wp2
              go_roundw
              case rel => exact ⟨j + 1, _, by omega, by go_num, HS.out, HF.out.trans HK.out (fun _ _ h => h)⟩
              case measure => simp [intOf]; omega
            · have M10 := Lib.hid (M9.out.turn hF)
              obtain ⟨vl, vs, ev, x0, x1, _, x2, _⟩ := M10.out.xk
              obtain ⟨Al, cl, rfl, _⟩ := x1.len
              obtain ⟨As, cs', rfl, _⟩ := x2.len
              simp only [bvs_length] at x0 x1 x2
              have C1 := x0.c1
              have C3 := x0.c3
              have C6 := x0.c6
              have C7 := x0.c7
              have hcl : ∀ w', Ext wr w' → (convert 26 9 (.slice Al s'.log.length cl)).run Try.prog w' = .ok (.string ⟨s'.log.toArray⟩) w' := fun w' h => (x1.ext h).str
              have hcs : ∀ w', Ext wr w' → (convert 26 9 (.slice As s'.snap.length cs')).run Try.prog w' = .ok (.string ⟨s'.snap.toArray⟩) w' := fun w' h => (x2.ext h).str
              have X0 := Ext.drew wr
              clear hown hF x0 x1 x2
              go_wp2
              refine wp_region_sched Ext ExtW [(0, true), (3, true), (4, true), (5, true), (6, true), (7, true), (1, false), (2, true), (8, true), (9, true), (10, true), (13, true), (14, true), (15, true), (16, true), (17, true), (11, false), (12, true), (18, true), (19, true), (20, true), (21, true), (23, true), (24, true), (25, true), (26, true), (22, false), (27, true), (28, true), (29, true), (30, true), (32, true), (33, true), (34, true), (35, true), (31, false), (36, true), (37, true)] (by kernel_rfl) (by kernel_rfl) (fun _ _ _ _ _ h => h) ?_
              repeat first | ((with_reducible refine sched_free ?_ ?_ ?_ ?_ (fun wk k1 => ?_) ?_); rotate_left 2; (rfl); (first | exact want_none rfl | exact want_some rfl rfl rfl rfl); (go_simp; first | exact OkX.val | (have cc1 := (X0.trans k1).cell C1; have cc3 := (X0.trans k1).cell C3; have cc6 := (X0.trans k1).cell C6; have cc7 := (X0.trans k1).cell C7; go_simp; exact OkX.val) | (go_simp; rw [hcl _ (X0.trans k1)]; exact OkX.val) | (go_simp; rw [hcs _ (X0.trans k1)]; exact OkX.val)); simp only [Act.put, List.setIfInBounds_toArray, List.set_cons_zero, List.set_cons_succ]) | ((with_reducible refine sched_skip ?_ ?_ ?_ ?_); rotate_left; (rfl); (exact want_not rfl rfl rfl rfl rfl); simp only [Act.put, List.setIfInBounds_toArray, List.set_cons_zero, List.set_cons_succ])
              ((with_reducible refine sched_step ?_ ?_ ?_ (fun wk k1 => ?_)); rotate_left; (rfl); (first | exact want_none rfl | exact want_some rfl rfl rfl rfl))
              have Y1 := X0.trans k1
              clear k1
              go_simp
              refine (Log_any (M10.out.dk.ext Y1)).mono ?_
              rintro e w6 ⟨v6, rfl, ho, hx6⟩
              refine ⟨hx6, ?_⟩
              have Y2 := Y1.trans hx6
              have R6 := Lib.hid (Rd.of_own ho)
              clear ho hx6
              try simp only [Act.put, List.setIfInBounds_toArray, List.set_cons_zero, List.set_cons_succ]
              have hcb : ∀ w', Ext w6 w' → (convert 26 9 v6).run Try.prog w' = .ok (.string ⟨s'.log.toArray⟩) w' := fun w' h => (R6.out.ext h).str
              repeat first | ((with_reducible refine sched_free ?_ ?_ ?_ ?_ (fun wk k1 => ?_) ?_); rotate_left 2; (rfl); (first | exact want_none rfl | exact want_some rfl rfl rfl rfl); (go_simp; first | exact OkX.val | (have cc1 := (Y2.trans k1).cell C1; have cc3 := (Y2.trans k1).cell C3; have cc6 := (Y2.trans k1).cell C6; have cc7 := (Y2.trans k1).cell C7; go_simp; exact OkX.val) | (go_simp; rw [hcl _ (Y2.trans k1)]; exact OkX.val) | (go_simp; rw [hcs _ (Y2.trans k1)]; exact OkX.val) | (go_simp; rw [hcb _ (by assumption)]; exact OkX.val)); simp only [Act.put, List.setIfInBounds_toArray, List.set_cons_zero, List.set_cons_succ]) | ((with_reducible refine sched_skip ?_ ?_ ?_ ?_); rotate_left; (rfl); (exact want_not rfl rfl rfl rfl rfl); simp only [Act.put, List.setIfInBounds_toArray, List.set_cons_zero, List.set_cons_succ])
              ((with_reducible refine sched_step ?_ ?_ ?_ (fun wk k1 => ?_)); rotate_left; (rfl); (first | exact want_none rfl | exact want_some rfl rfl rfl rfl))
              have Y3 := Y2.trans k1
              clear k1
              go_simp
              refine (Snap_any (M10.out.dk.ext Y3)).mono ?_
              rintro e w7 ⟨v7, rfl, ho, hx7⟩
              refine ⟨hx7, ?_⟩
              have Y4 := Y3.trans hx7
              have R7 := Lib.hid (Rd.of_own ho)
              clear ho hx7
              try simp only [Act.put, List.setIfInBounds_toArray, List.set_cons_zero, List.set_cons_succ]
              have hcd : ∀ w', Ext w7 w' → (convert 26 9 v7).run Try.prog w' = .ok (.string ⟨s'.snap.toArray⟩) w' := fun w' h => (R7.out.ext h).str
              repeat first | ((with_reducible refine sched_free ?_ ?_ ?_ ?_ (fun wk k1 => ?_) ?_); rotate_left 2; (rfl); (first | exact want_none rfl | exact want_some rfl rfl rfl rfl); (go_simp; first | exact OkX.val | (have cc1 := (Y4.trans k1).cell C1; have cc3 := (Y4.trans k1).cell C3; have cc6 := (Y4.trans k1).cell C6; have cc7 := (Y4.trans k1).cell C7; go_simp; exact OkX.val) | (go_simp; rw [hcl _ (Y4.trans k1)]; exact OkX.val) | (go_simp; rw [hcs _ (Y4.trans k1)]; exact OkX.val) | (go_simp; rw [hcd _ (by assumption)]; exact OkX.val)); simp only [Act.put, List.setIfInBounds_toArray, List.set_cons_zero, List.set_cons_succ]) | ((with_reducible refine sched_skip ?_ ?_ ?_ ?_); rotate_left; (rfl); (exact want_not rfl rfl rfl rfl rfl); simp only [Act.put, List.setIfInBounds_toArray, List.set_cons_zero, List.set_cons_succ])
              ((with_reducible refine sched_step ?_ ?_ ?_ (fun wk k1 => ?_)); rotate_left; (rfl); (first | exact want_none rfl | exact want_some rfl rfl rfl rfl))
              have Y5 := Y4.trans k1
              clear k1
              go_simp
              refine (Dead_any (M10.out.dk.ext Y5)).mono ?_
              rintro e w8 ⟨rfl, rfl⟩
              refine ⟨Ext.refl _, ?_⟩
              try simp only [Act.put, List.setIfInBounds_toArray, List.set_cons_zero, List.set_cons_succ]
              repeat first | ((with_reducible refine sched_free ?_ ?_ ?_ ?_ (fun wk k1 => ?_) ?_); rotate_left 2; (rfl); (first | exact want_none rfl | exact want_some rfl rfl rfl rfl); (go_simp; first | exact OkX.val | (have cc1 := (Y5.trans k1).cell C1; have cc3 := (Y5.trans k1).cell C3; have cc6 := (Y5.trans k1).cell C6; have cc7 := (Y5.trans k1).cell C7; go_simp; exact OkX.val) | (go_simp; rw [hcl _ (Y5.trans k1)]; exact OkX.val) | (go_simp; rw [hcs _ (Y5.trans k1)]; exact OkX.val)); simp only [Act.put, List.setIfInBounds_toArray, List.set_cons_zero, List.set_cons_succ]) | ((with_reducible refine sched_skip ?_ ?_ ?_ ?_); rotate_left; (rfl); (exact want_not rfl rfl rfl rfl rfl); simp only [Act.put, List.setIfInBounds_toArray, List.set_cons_zero, List.set_cons_succ])
              ((with_reducible refine sched_step ?_ ?_ ?_ (fun wk k1 => ?_)); rotate_left; (rfl); (first | exact want_none rfl | exact want_some rfl rfl rfl rfl))
              have Y6 := Y5.trans k1
              clear k1
              go_simp
              refine (Ops_any (M10.out.dk.ext Y6)).mono ?_
              rintro e w9 ⟨rfl, rfl⟩
              refine ⟨Ext.refl _, ?_⟩
              try simp only [Act.put, List.setIfInBounds_toArray, List.set_cons_zero, List.set_cons_succ]
              repeat first | ((with_reducible refine sched_free ?_ ?_ ?_ ?_ (fun wk k1 => ?_) ?_); rotate_left 2; (rfl); (first | exact want_none rfl | exact want_some rfl rfl rfl rfl); (go_simp; first | exact OkX.val | (have cc1 := (Y6.trans k1).cell C1; have cc3 := (Y6.trans k1).cell C3; have cc6 := (Y6.trans k1).cell C6; have cc7 := (Y6.trans k1).cell C7; go_simp; exact OkX.val) | (go_simp; rw [hcl _ (Y6.trans k1)]; exact OkX.val) | (go_simp; rw [hcs _ (Y6.trans k1)]; exact OkX.val)); simp only [Act.put, List.setIfInBounds_toArray, List.set_cons_zero, List.set_cons_succ]) | ((with_reducible refine sched_skip ?_ ?_ ?_ ?_); rotate_left; (rfl); (exact want_not rfl rfl rfl rfl rfl); simp only [Act.put, List.setIfInBounds_toArray, List.set_cons_zero, List.set_cons_succ])
              refine sched_done (fun wz k1 => ?_)
              have M11 := Lib.hid (M10.out.more (Y6.trans k1))
              clear k1 Y1 Y2 Y3 Y4 Y5 Y6 X0 hcl hcs hcb hcd C1 C3 C6 C7
              go_wp2
              go_roundw
              case rel => exact ⟨k + 1, s', by omega, by omega, by go_num, _, _, _, M11.out⟩
              case measure => simp [intOf]; omega
    · obtain ⟨L, bl, bs, M⟩ := HB.out
      have HE := Lib.hid M.ext
      clear M
      by_cases i1 : (k : Int) < (cs.length : Int)
      · have i2 : ¬ (k : Int) < 100 := by omega
        go_wp2
        go_ret
        exact ⟨rfl, HE.out⟩
      · go_wp2
        go_ret
        exact ⟨rfl, HE.out⟩

theorem own : ownKnob Try.prog.godebug = none := by kernel_rfl
theorem laidOut : laidOutB Try.prog = true := by kernel_rfl
set_option maxRecDepth 100000 in
theorem lifted (os : Os) (started : os.Started) (H : Type) (enc : TypeId × Value → H) :
    ReturnsInHanded {} Try.checked os 4 .any (Rows.diskPlaysSpec.pre6 enc Try.prog Try.f4 Rows.diskPlaysRow.domain false) (Rows.diskPlaysSpec.post enc Try.prog Try.f4 false true false false) := by
  refine returnsInHanded_of_change (C := Try.checked) own started (by kernel_rfl) Try.func4
    (ChangeSpec.witness6 (enc := enc) (C := Try.checked) false ⟨#[], #[.int .i64 0, .slice none 0 0], []⟩ 8 (by kernel_rfl) (by kernel_rfl) (by kernel_rfl) (by kernel_rfl)) ?_
  intro W base args ds gs before hval0 hW hcnd _
  have hval : ∀ (j : Nat) t v, Try.f4.params[j]? = some t → args[j]? = some v → Value.okWide Try.prog W .any base t v := hval0
  have hW' := hW
  obtain ⟨p, q, hA0, hV, rfl, hfz, hnd⟩ := hW
  have hA : DataW.TrodAll enc Try.prog W 0 (fun _ => true) true Try.f4.params.toList args.toList ds p := hA0
  rw [Try.params4] at hA hval
  obtain ⟨v0, vs0, d0, ds0, p0, q0, hargs, rfl, rfl, h0, r0⟩ := trodAll_cons hA
  obtain ⟨v1, vs1, d1, ds1, p1, q1, rfl, rfl, rfl, h1, r1⟩ := trodAll_cons r0
  obtain ⟨rfl, rfl, rfl⟩ := trodAll_nil r1
  obtain rfl : args = #[v0, v1] := by cases args; simp_all
  obtain ⟨rfl, rfl⟩ := trodVars_none hV
  obtain ⟨a0, rfl, rfl, rfl, w0⟩ := open_int Try.underlying3 (hval 0 3 v0 rfl rfl) h0
  have hlt1 : ∀ x ∈ p1, x.block < W.heap.size := fun x hx => by simpa using hW'.lt x (by simp [hx])
  obtain ⟨l1, rd1⟩ := open_calls Try.underlying39 Try.underlying47 (by kernel_rfl) rfl rfl rfl rfl rfl rfl Try.underlying3 Try.underlying26 Try.underlying5 (by kernel_rfl) (by kernel_rfl) (by kernel_rfl) (hval 1 39 v1 rfl rfl) h1
  clear hA0 hval0
  refine (walk W a0 w0 v1 l1 rd1).mono fun e W' ⟨he, bel⟩ => ?_
  subst he
  exact ⟨_, rfl, _, _, _, [], _, [], hW', trodAll_mk1 (shut_bool Try.underlying4 _), (trodAll_cons_mk (shut_int Try.underlying3 w0) (trodAll_cons_mk (Below.trod laidOut (by kernel_rfl) (of_decide_eq_true (by kernel_rfl)) h1 bel hlt1) trodAll_mk0)), rfl, bel.frame _, fun h => by cases h⟩

theorem over : Rows.diskPlaysRow.holds Try.pinned (OpenSpec.ofChange Rows.diskPlaysSpec) :=
  OpenClaim.holds_of_wide 4 Try.f4 rfl rfl rfl rfl rfl rfl rfl ⟨rfl, rfl, rfl, rfl, rfl⟩ rfl rfl rfl rfl rfl (by kernel_rfl) Try.func4 (by kernel_rfl)
    (of_decide_eq_true (by kernel_rfl)) (by unfold Func.isWrapper; first | (rw [if_pos (by decide +kernel)]; kernel_rfl) | (rw [if_neg (by decide +kernel)]; exact ⟨rfl, rfl⟩))
    (fun os started H enc _ => lifted os started H enc)

theorem proved : Rows.DiskPlaysSaid := over
#print axioms proved
end Go.Proofs.Ytpinpljmabhdhaa.DiskPlays
