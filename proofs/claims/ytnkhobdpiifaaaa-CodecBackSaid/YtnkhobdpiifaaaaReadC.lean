/- codec's readers: Text. -/
import Derived.Test.YtnkhobdpiifaaaaReadB
import Derived.Test.YtnkhobdpiifaaaaMod
import Derived.Test.YtnkhobdpiifaaaaSched
namespace Go.Proofs.Ytnkhobdpiifaaaa
open Go.RowKit

theorem undrew {w w1 : World} {r : Option Nat} (h : w.drew.grownBy w1 r) : w.grownBy w1 r := ⟨h.os, h.tape, h.output, h.size, h.block⟩

theorem wp_post {P : Program} {c : Code} {Q Q' : Exit → Act → World → Prop} {a : Act} {w : World} (h : ∀ e a w, Q e a w → Q' e a w) (hc : c.wp P Q a w) : c.wp P Q' a w :=
  fun b k cs => let ⟨e, a', w', q, r⟩ := hc b k cs; ⟨e, a', w', h _ _ _ q, r⟩

/-- What may come: block R, and what is new behind B. -/
def LR (B R : Nat) (a b : World) : Prop := R < B → B ≤ a.heap.size → a.grownBy b (some R)
theorem LR_way (B R : Nat) : Way (LR B R) := ⟨fun h _ _ => grown_of_ext h _, fun h k hR hB => World.grownBy.trans (h hR hB) (k hR (Nat.le_trans hB (h hR hB).size))⟩
theorem World.grownBy.cell_ {a b : World} {R : Nat} (h : a.grownBy b (some R)) {g o : Nat} {v : Value} (hc : a.cell? ⟨g, o, none⟩ = some v) (hne : g ≠ R) : b.cell? ⟨g, o, none⟩ = some v := by
  rw [h.cell_far ⟨g, o, none⟩ (World.block_lt_of_cell? a _ hc) (by simpa using hne)]; exact hc

theorem Text_ok (R : Nat) (l : List UInt8) (e0 : Int) (w : World) (h : Rdr w R l e0) (h2 : 2 ≤ l.length) (n : Nat) (hn : n = va (l.take 2)) (hk : n ≤ l.length - 2) (S : ByteArray) (hS : S = ⟨((l.drop 2).take n).toArray⟩) :
    Calls Try.prog 10 #[.pointer (some ⟨R, 0, none⟩)] w fun e w' => e = .returned (.string S) ∧ w.grownBy w' (some R) ∧ Rdr w' R (l.drop (2 + n)) e0 := by
  have hmf : ∀ (fn : Fn) (first cap : Array Value) (w : World), (Instr.makeFunc fn first cap).run Try.prog w = .ok (.func fn first cap) w := fun _ _ _ _ => rfl
  have hx := (Below.refl w.heap.size w).alloc (Nat.le_refl _) (.cells #[.pointer (some ⟨R, 0, none⟩)] 30)
  have H := Lib.hid ((Rdr.ext h hx).ext (Ext.drew _))
  have hRlt : R < w.heap.size := by obtain ⟨_, h1, _⟩ := h; exact h1.lt
  clear h hx
  have HN := Lib.hid hn
  have HS := Lib.hid hS
  clear hn hS
  go_enter_defers Try.func10, Try.ntmps10
  go_wp2_with fail
  refine wp_post (Q := fun e a w => match e with | .panic _ => False | e => Exit.then _ _ e a w) (fun e a w h => by cases e <;> first | exact h | exact h.elim) ?_
  refine wp_region_sched (LR w.heap.size R) (LR_way w.heap.size R) [(0, true), (1, true), (2, false), (3, false), (4, false), (5, true)] (by kernel_rfl) (by kernel_rfl) (fun _ _ _ _ _ h => h) ?_
  have hBx : ∀ w', Ext (w.alloc (.cells #[.pointer (some ⟨R, 0, none⟩)] 30)).drew w' ∨ LR w.heap.size R (w.alloc (.cells #[.pointer (some ⟨R, 0, none⟩)] 30)).drew w' → w'.cell? ⟨w.heap.size, 0, none⟩ = some (.pointer (some ⟨R, 0, none⟩)) := by
    intro w' h
    rcases h with h | h
    · exact h.cell (by simp [go_sem])
    · exact World.grownBy.cell_ (h hRlt (by simp)) (by simp [go_sem]) (by omega)
  have hBx := Lib.hid hBx
  repeat first | ((with_reducible refine sched_free ?_ ?_ ?_ ?_ (fun wk k1 => ?_) ?_); rotate_left 2; (rfl); (first | exact want_none rfl | exact want_some rfl rfl rfl rfl); (go_simp; first | exact OkX.val | (rw [hBx.out _ (.inr k1)]; exact OkX.val)); simp only [Act.put, List.setIfInBounds_toArray, List.set_cons_zero, List.set_cons_succ]) | ((with_reducible refine sched_skip ?_ ?_ ?_ ?_); rotate_left; (rfl); (exact want_not rfl rfl rfl rfl rfl); simp only [Act.put, List.setIfInBounds_toArray, List.set_cons_zero, List.set_cons_succ])
  ((with_reducible refine sched_step ?_ ?_ ?_ (fun wk k1 => ?_)); rotate_left; (rfl); (first | exact want_none rfl | exact want_some rfl rfl rfl rfl))
  have hE := H.out.ext k1
  have hEx := Lib.hid k1
  clear k1
  go_simp
  refine (count_ok R l e0 _ hE h2).mono ?_
  rintro e w1 ⟨rfl, hg, hR⟩
  rw [← HN.out]
  refine ⟨fun _ _ => hg, ?_⟩
  have HG := Lib.hid (grown_alloc_then (undrew (World.grownBy.trans (grown_of_ext hEx.out (some R)) hg)))
  have HB := Lib.hid (box_far (undrew (World.grownBy.trans (grown_of_ext hEx.out (some R)) hg)) hRlt)
  have HR := Lib.hid hR
  clear hg hR hE hBx hEx
  try simp only [Act.put, List.setIfInBounds_toArray, List.set_cons_zero, List.set_cons_succ]
  ((with_reducible refine sched_step ?_ ?_ ?_ (fun wk k1 => ?_)); rotate_left; (rfl); (first | exact want_none rfl | exact want_some rfl rfl rfl rfl))
  have hE := HR.out.ext k1
  have HB := Lib.hid (k1.cell HB.out)
  have HG := Lib.hid (HG.out.trans (grown_of_ext k1 (some R)))
  have hlt2 := HG.out.size
  clear k1
  have hblt := World.block_lt_of_cell? _ _ HB.out
  go_simp
  refine (take_as R _ e0 _ n _ (by rfl) hE (by rw [List.length_drop]; exact hk)).mono ?_
  rintro e w2 ⟨v2, rfl, hr2, hg2, hR2⟩
  refine ⟨fun _ _ => hg2, ?_⟩
  have HC := Lib.hid (show ∀ w', Ext w2 w' → (convert 26 9 v2).run Try.prog w' = .ok (.string S) w' from fun w' k => by rw [HS.out]; exact (hr2.ext k).str)
  have HB := Lib.hid (World.grownBy.cell_ (hg2) (HB.out) (by omega))
  have HG := Lib.hid (HG.out.trans hg2)
  have HR2 := Lib.hid hR2
  clear hr2 hg2 hR2 hE HR
  try simp only [Act.put, List.setIfInBounds_toArray, List.set_cons_zero, List.set_cons_succ]
  ((with_reducible refine sched_step ?_ ?_ ?_ (fun wk k1 => ?_)); rotate_left; (rfl); (first | exact want_none rfl | exact want_some rfl rfl rfl rfl))
  have hcv := HC.out _ k1
  have HB := Lib.hid (k1.cell HB.out)
  have HG := Lib.hid (HG.out.trans (grown_of_ext k1 (some R)))
  have HR2 := Lib.hid (HR2.out.ext k1)
  clear k1
  go_simp
  refine ⟨(LR_way _ _).ext (Ext.refl _), ?_⟩
  clear hcv HC
  try simp only [Act.put, List.setIfInBounds_toArray, List.set_cons_zero, List.set_cons_succ]
  repeat first | ((with_reducible refine sched_free ?_ ?_ ?_ ?_ (fun wk k1 => ?_) ?_); rotate_left 2; (rfl); (first | exact want_none rfl | exact want_some rfl rfl rfl rfl); (go_simp; first | exact OkX.val); simp only [Act.put, List.setIfInBounds_toArray, List.set_cons_zero, List.set_cons_succ]) | ((with_reducible refine sched_skip ?_ ?_ ?_ ?_); rotate_left; (rfl); (exact want_not rfl rfl rfl rfl rfl); simp only [Act.put, List.setIfInBounds_toArray, List.set_cons_zero, List.set_cons_succ])
  refine sched_done (fun wk k1 => ?_)
  have HB := Lib.hid (k1.cell HB.out)
  have HG := Lib.hid (HG.out.trans (grown_of_ext k1 (some R)))
  have HR2 := Lib.hid (HR2.out.ext k1)
  clear k1
  dsimp only
  go_wp2
  refine leaves_cons (f := 21) (args := #[.pointer (some ⟨w.heap.size, 0, none⟩)]) (by simp) (by simp [go_sem]) ?_
  refine (idle_Text _ R _ HB.out).mono ?_
  rintro e u' w5 ⟨rfl, rfl, hx⟩
  refine ⟨_, results_tmp rfl _ _ _, rfl, HG.out.trans (grown_of_ext hx _), ?_⟩
  have := HR2.out.ext hx
  rw [List.drop_drop] at this
  exact this

theorem box_at {w : World} {R : Nat} (hRlt : R < w.heap.size) : ∀ w', LR w.heap.size R (w.alloc (.cells #[.pointer (some ⟨R, 0, none⟩)] 30)).drew w' → w'.cell? ⟨w.heap.size, 0, none⟩ = some (.pointer (some ⟨R, 0, none⟩)) :=
  fun _ h => World.grownBy.cell_ (h hRlt (by simp)) (by simp [go_sem]) (by omega)

theorem leaves_congr {P : Program} {fn : Func} {t1 t2 : Array Value} {Z : Ending → World → Prop} (h : ∀ w, (results fn t1).run P w = (results fn t2).run P w) : ∀ (ds : List Deferred) (u : FrameMode) (w : World), Leaves P fn t1 Z ds u w → Leaves P fn t2 Z ds u w
  | [], .returning, w, ⟨v, h1, h2⟩ => ⟨v, (h w) ▸ h1, h2⟩
  | [], .panicking _, _, k => k
  | [], .run, _, k => k.elim
  | d :: ds, u, w, ⟨hu, fv, cap, f, args, h1, h2, h3⟩ => ⟨hu, fv, cap, f, args, h1, h2, h3.mono fun e u' w' k => by
    cases e with
    | returned v => exact leaves_congr h ds _ _ k
    | panicked c => exact leaves_congr h ds _ _ k
    | outgrown => exact k⟩

/-- A slot that no result is read from may hold what it will where the region panics. -/
theorem panic_put {P : Program} {fn : Func} {r : Tmp} (hr : fn.results = #[.tmp r]) {Z : Ending → World → Prop} {K : Act → World → Prop} (c : List PanicEntry) (a : Act) (d : Tmp) (v : Value) (w : World) (hd : (d != r) = true)
    (h : Exit.then K (bodyPostD P fn Z) (.panic c) (a.put (some d) v) w) : Exit.then K (bodyPostD P fn Z) (.panic c) a w := by
  have hne : d ≠ r := by simpa using hd
  refine leaves_congr (t1 := (a.put (some d) v).tmps) (fun w => ?_) a.defers _ _ h
  rw [results_tmp hr, results_tmp hr]
  have : (a.put (some d) v).tmps.getD r undef = a.tmps.getD r undef := by
    simp only [Act.put, Array.getD_eq_getD_getElem?, Array.getElem?_setIfInBounds_ne hne]
  rw [this]

theorem Text_cut (R : Nat) (l : List UInt8) (e0 : Int) (w : World) (h : Rdr w R l e0) (hk : l.length < 2 ∨ l.length - 2 < va (l.take 2)) :
    Calls Try.prog 10 #[.pointer (some ⟨R, 0, none⟩)] w fun e w' => e = .returned (.string ⟨#[]⟩) ∧ w.grownBy w' (some R) ∧ Rdr w' R [] (cutE e0) := by
  have hmf : ∀ (fn : Fn) (first cap : Array Value) (w : World), (Instr.makeFunc fn first cap).run Try.prog w = .ok (.func fn first cap) w := fun _ _ _ _ => rfl
  have hx := (Below.refl w.heap.size w).alloc (Nat.le_refl _) (.cells #[.pointer (some ⟨R, 0, none⟩)] 30)
  have H := Lib.hid ((Rdr.ext h hx).ext (Ext.drew _))
  have hRlt : R < w.heap.size := by obtain ⟨_, h1, _⟩ := h; exact h1.lt
  clear h hx
  by_cases h2 : l.length < 2
  · go_enter_defers Try.func10, Try.ntmps10
    go_wp2_with fail
    have hB : (w.alloc (.cells #[.pointer (some ⟨R, 0, none⟩)] 30)).drew.cell? ⟨w.heap.size, 0, none⟩ = some (.pointer (some ⟨R, 0, none⟩)) := by simp [go_sem]
    have HB := Lib.hid hB
    clear hB
    refine wp_region_schedD (LR w.heap.size R) (LR_way w.heap.size R) [(0, true), (1, true), (2, false), (3, false), (4, false), (5, false)] (fun d => d != 2) (by kernel_rfl) (by kernel_rfl) (fun c a d v w hd h => panic_put (r := 2) rfl c a d v w hd h) ?_
    have hBx := Lib.hid (box_at (w := w) (R := R) hRlt)
    repeat first | ((with_reducible refine sched_free ?_ ?_ ?_ ?_ (fun wk k1 => ?_) ?_); rotate_left 2; (rfl); (first | exact want_none rfl | exact want_some rfl rfl rfl rfl); (go_simp; first | exact OkX.val | (rw [hBx.out _ k1]; exact OkX.val)); simp only [Act.put, List.setIfInBounds_toArray, List.set_cons_zero, List.set_cons_succ]) | ((with_reducible refine sched_skip ?_ ?_ ?_ ?_); rotate_left; (rfl); (exact want_not rfl rfl rfl rfl rfl); simp only [Act.put, List.setIfInBounds_toArray, List.set_cons_zero, List.set_cons_succ])
    ((with_reducible refine sched_step ?_ ?_ ?_ (fun wk k1 => ?_)); rotate_left; (rfl); (first | exact want_none rfl | exact want_some rfl rfl rfl rfl))
    have hEx := Lib.hid k1
    clear k1
    go_simp
    refine (count_cut R l e0 _ (H.out.ext hEx.out) h2).mono ?_
    rintro e w1 ⟨rfl, rfl⟩
    refine leaves_cons (f := 21) (args := #[.pointer (some ⟨w.heap.size, 0, none⟩)]) (by simp) (by simp [go_sem]) ?_
    refine (caught_Text _ R l e0 _ (hEx.out.cell HB.out) (H.out.ext hEx.out)).mono ?_
    rintro e u' w2 ⟨rfl, rfl, hg, hR⟩
    have HG := grown_alloc_then (undrew (World.grownBy.trans (grown_of_ext hEx.out (some R)) hg))
    simp [Leaves, settle, results, Try.results10, go_sem]
    exact ⟨HG, hR⟩
  · have hk : l.length - 2 < va (l.take 2) := by omega
    have hk' : ((l.drop 2).length : Int) < (va (l.take 2) : Int) := by rw [List.length_drop]; omega
    have HK := Lib.hid hk'
    clear hk'
    have hB : (w.alloc (.cells #[.pointer (some ⟨R, 0, none⟩)] 30)).drew.cell? ⟨w.heap.size, 0, none⟩ = some (.pointer (some ⟨R, 0, none⟩)) := by simp [go_sem]
    have HB := Lib.hid hB
    clear hB
    go_enter_defers Try.func10, Try.ntmps10
    go_wp2_with fail
    refine wp_region_schedD (LR w.heap.size R) (LR_way w.heap.size R) [(0, true), (1, true), (2, false), (3, false), (4, false), (5, false)] (fun d => d != 2) (by kernel_rfl) (by kernel_rfl) (fun c a d v w hd h => panic_put (r := 2) rfl c a d v w hd h) ?_
    have hBx := Lib.hid (box_at (w := w) (R := R) hRlt)
    repeat first | ((with_reducible refine sched_free ?_ ?_ ?_ ?_ (fun wk k1 => ?_) ?_); rotate_left 2; (rfl); (first | exact want_none rfl | exact want_some rfl rfl rfl rfl); (go_simp; first | exact OkX.val | (rw [hBx.out _ k1]; exact OkX.val)); simp only [Act.put, List.setIfInBounds_toArray, List.set_cons_zero, List.set_cons_succ]) | ((with_reducible refine sched_skip ?_ ?_ ?_ ?_); rotate_left; (rfl); (exact want_not rfl rfl rfl rfl rfl); simp only [Act.put, List.setIfInBounds_toArray, List.set_cons_zero, List.set_cons_succ])
    ((with_reducible refine sched_step ?_ ?_ ?_ (fun wk k1 => ?_)); rotate_left; (rfl); (first | exact want_none rfl | exact want_some rfl rfl rfl rfl))
    have hEx := Lib.hid k1
    clear k1
    go_simp
    refine (count_ok R l e0 _ (H.out.ext hEx.out) (by omega)).mono ?_
    rintro e w1 ⟨rfl, hg, hR⟩
    refine ⟨fun _ _ => hg, ?_⟩
    have hgg := undrew (World.grownBy.trans (grown_of_ext hEx.out (some R)) hg)
    have HG := Lib.hid (grown_alloc_then hgg)
    have HB1 := Lib.hid (box_far hgg hRlt)
    have HR := Lib.hid hR
    clear hg hR hgg hBx hEx
    try simp only [Act.put, List.setIfInBounds_toArray, List.set_cons_zero, List.set_cons_succ]
    ((with_reducible refine sched_step ?_ ?_ ?_ (fun wk k1 => ?_)); rotate_left; (rfl); (first | exact want_none rfl | exact want_some rfl rfl rfl rfl))
    have hEx := Lib.hid k1
    clear k1
    go_simp
    refine (take_cut R _ e0 _ _ (HR.out.ext hEx.out) HK.out).mono ?_
    rintro e w2 ⟨rfl, rfl⟩
    refine leaves_cons (f := 21) (args := #[.pointer (some ⟨w.heap.size, 0, none⟩)]) (by simp) (by simp [go_sem]) ?_
    refine (caught_Text _ R _ e0 _ (hEx.out.cell HB1.out) (HR.out.ext hEx.out)).mono ?_
    rintro e u' w3 ⟨rfl, rfl, hg, hR⟩
    have HGG := (HG.out.trans (grown_of_ext hEx.out (some R))).trans hg
    simp [Leaves, settle, results, Try.results10, go_sem]
    exact ⟨HGG, hR⟩

end Go.Proofs.Ytnkhobdpiifaaaa
