/- slices.Clone: the copy lies in a block of its own. -/
import Derived.Test.YtffioglbgnbieaaRdK
import Derived.Lib.SliceRun
import Derived.Laws.MakeOwn
namespace Go.Proofs.Ytffioglbgnbieaa
open Go.RowKit

def ClonePost (k : Nat) (t : TypeId) (n : Nat) (xs : List Value) (w : World) (e : Ending) (w' : World) : Prop := ∃ A' c', e = .returned (.slice A' n c') ∧ w'.ownsRow w.heap.size t k (.slice A' n c') n xs ∧ Ext w w'

theorem Try.infoClNode : (Try.prog.info? 44).map (fun i => (i.zero, i.size, i.bytes)) = some (some (.agg #[.int .i64 0, .int .i64 0, .int .i64 0, .int .i64 0, .int .i64 0, .int .i64 0, .int .i64 0, .bool false]), 8, 64) := by kernel_rfl
theorem cloneNode_any (v : Value) (n : Nat) (xs : List Value) (w : World) (h : RdK 8 w v n xs) (h1 : ∀ u ∈ xs, u.oneCell' = true) (h2 : n ≤ 1000000) :
    Calls Try.prog 24 #[v] w (ClonePost 8 44 n xs w) := by
  obtain ⟨c0, hc, hcz0, hcz1, hcz2⟩ := info_parts Try.infoClNode
  obtain ⟨A, c, rfl, hc1, hc2, hl, hcell⟩ := h
  have hn := fun (W : World) (A : Option Addr) (n c n' c' : Nat) => Lib.run_eql_slice_nil (P := Try.prog) W 28 44 A n c n' c' Try.underlying28
  have HL := Lib.hid hl
  have H1 := Lib.hid h1
  cases A with
  | none =>
    have hx : xs = [] := by
      rcases xs with _ | ⟨x, xs⟩
      · rfl
      · obtain ⟨a, e, _⟩ := hcell (by simp)
        cases e
    subst hx
    have hn0 : n = 0 := by simp at hl; omega
    subst hn0
    clear hcell hl
    go_enter Try.func24, Try.ntmps24
    go_wp2
    go_ret
    exact ⟨none, 0, rfl, World.ownsRow_nil _ _ _ 8, Ext.refl _⟩
  | some a =>
    have HO := Lib.hid (own_emptyT w w.heap.size 44 8 (Nat.le_refl _))
    have HCS := Lib.hid (show ∀ (j : Nat) (u : Value), xs[j]? = some u → (w.alloc (.cells #[] 44)).cell? (a.add j) = some u from fun j u hu => by
      obtain ⟨a', e, hb, hcs⟩ := hcell (by have := (List.getElem?_eq_some_iff.1 hu).1; omega)
      injection e with e
      subst e
      exact (Below.cell (ext_alloc w _) (p := a.add j) (by rw [add_block]; exact hb)).trans (hcs j u hu))
    clear hcell hl h1
    go_enter Try.func24, Try.ntmps24
    go_wp2_with (at_builtin; go_loud (refine wpList_append_own_at _ rfl (.tmp 5) (.tmp 6) 28 rfl w.heap.size 44 c0 _ 8 64 Try.underlying28 hc hcz0 hcz1 hcz2 rfl (by decide) _ 0 [] rfl HO.out a n c xs rfl HL.out HCS.out H1.out ?c3 ?c4 ?c5 ?_))
    case c3 => simp [maxLen]; omega
    case c4 => omega
    case c5 => simp
    intro v' w3 ho3 hg3 _ hat3
    have HE := Lib.hid ((ext_alloc w (.cells #[] 44)).trans' (grown_below hg3 (by simp) (fun k hk => by simp [Value.ownBlock] at hk; omega)))
    have HO3 := Lib.hid ho3
    obtain ⟨A3, c3, rfl, _, _⟩ := own_shape ho3
    clear ho3 hg3 hat3
    go_wp2
    go_ret
    exact ⟨_, _, rfl, HO3.out, HE.out⟩

theorem Try.infoClCont : (Try.prog.info? 77).map (fun i => (i.zero, i.size, i.bytes)) = some (some (.agg #[.int .i64 0, .int .i64 0, .int .i64 0, .int .i64 0, .int .i64 0, .int .i64 0, .int .i64 0, .bool false, .int .i64 0]), 9, 72) := by kernel_rfl
theorem cloneCont_any (v : Value) (n : Nat) (xs : List Value) (w : World) (h : RdK 9 w v n xs) (h1 : ∀ u ∈ xs, u.oneCell' = true) (h2 : n ≤ 1000000) :
    Calls Try.prog 27 #[v] w (ClonePost 9 77 n xs w) := by
  obtain ⟨c0, hc, hcz0, hcz1, hcz2⟩ := info_parts Try.infoClCont
  obtain ⟨A, c, rfl, hc1, hc2, hl, hcell⟩ := h
  have hn := fun (W : World) (A : Option Addr) (n c n' c' : Nat) => Lib.run_eql_slice_nil (P := Try.prog) W 30 77 A n c n' c' Try.underlying30
  have HL := Lib.hid hl
  have H1 := Lib.hid h1
  cases A with
  | none =>
    have hx : xs = [] := by
      rcases xs with _ | ⟨x, xs⟩
      · rfl
      · obtain ⟨a, e, _⟩ := hcell (by simp)
        cases e
    subst hx
    have hn0 : n = 0 := by simp at hl; omega
    subst hn0
    clear hcell hl
    go_enter Try.func27, Try.ntmps27
    go_wp2
    go_ret
    exact ⟨none, 0, rfl, World.ownsRow_nil _ _ _ 9, Ext.refl _⟩
  | some a =>
    have HO := Lib.hid (own_emptyT w w.heap.size 77 9 (Nat.le_refl _))
    have HCS := Lib.hid (show ∀ (j : Nat) (u : Value), xs[j]? = some u → (w.alloc (.cells #[] 77)).cell? (a.add j) = some u from fun j u hu => by
      obtain ⟨a', e, hb, hcs⟩ := hcell (by have := (List.getElem?_eq_some_iff.1 hu).1; omega)
      injection e with e
      subst e
      exact (Below.cell (ext_alloc w _) (p := a.add j) (by rw [add_block]; exact hb)).trans (hcs j u hu))
    clear hcell hl h1
    go_enter Try.func27, Try.ntmps27
    go_wp2_with (at_builtin; go_loud (refine wpList_append_own_at _ rfl (.tmp 5) (.tmp 6) 30 rfl w.heap.size 77 c0 _ 9 72 Try.underlying30 hc hcz0 hcz1 hcz2 rfl (by decide) _ 0 [] rfl HO.out a n c xs rfl HL.out HCS.out H1.out ?c3 ?c4 ?c5 ?_))
    case c3 => simp [maxLen]; omega
    case c4 => omega
    case c5 => simp
    intro v' w3 ho3 hg3 _ hat3
    have HE := Lib.hid ((ext_alloc w (.cells #[] 77)).trans' (grown_below hg3 (by simp) (fun k hk => by simp [Value.ownBlock] at hk; omega)))
    have HO3 := Lib.hid ho3
    obtain ⟨A3, c3, rfl, _, _⟩ := own_shape ho3
    clear ho3 hg3 hat3
    go_wp2
    go_ret
    exact ⟨_, _, rfl, HO3.out, HE.out⟩

theorem Try.infoClSlot : (Try.prog.info? 80).map (fun i => (i.zero, i.size, i.bytes)) = some (some (.agg #[.int .i64 0, .int .i64 0, .int .i64 0]), 3, 24) := by kernel_rfl
theorem cloneSlot_any (v : Value) (n : Nat) (xs : List Value) (w : World) (h : RdK 3 w v n xs) (h1 : ∀ u ∈ xs, u.oneCell' = true) (h2 : n ≤ 1000000) :
    Calls Try.prog 28 #[v] w (ClonePost 3 80 n xs w) := by
  obtain ⟨c0, hc, hcz0, hcz1, hcz2⟩ := info_parts Try.infoClSlot
  obtain ⟨A, c, rfl, hc1, hc2, hl, hcell⟩ := h
  have hn := fun (W : World) (A : Option Addr) (n c n' c' : Nat) => Lib.run_eql_slice_nil (P := Try.prog) W 31 80 A n c n' c' Try.underlying31
  have HL := Lib.hid hl
  have H1 := Lib.hid h1
  cases A with
  | none =>
    have hx : xs = [] := by
      rcases xs with _ | ⟨x, xs⟩
      · rfl
      · obtain ⟨a, e, _⟩ := hcell (by simp)
        cases e
    subst hx
    have hn0 : n = 0 := by simp at hl; omega
    subst hn0
    clear hcell hl
    go_enter Try.func28, Try.ntmps28
    go_wp2
    go_ret
    exact ⟨none, 0, rfl, World.ownsRow_nil _ _ _ 3, Ext.refl _⟩
  | some a =>
    have HO := Lib.hid (own_emptyT w w.heap.size 80 3 (Nat.le_refl _))
    have HCS := Lib.hid (show ∀ (j : Nat) (u : Value), xs[j]? = some u → (w.alloc (.cells #[] 80)).cell? (a.add j) = some u from fun j u hu => by
      obtain ⟨a', e, hb, hcs⟩ := hcell (by have := (List.getElem?_eq_some_iff.1 hu).1; omega)
      injection e with e
      subst e
      exact (Below.cell (ext_alloc w _) (p := a.add j) (by rw [add_block]; exact hb)).trans (hcs j u hu))
    clear hcell hl h1
    go_enter Try.func28, Try.ntmps28
    go_wp2_with (at_builtin; go_loud (refine wpList_append_own_at _ rfl (.tmp 5) (.tmp 6) 31 rfl w.heap.size 80 c0 _ 3 24 Try.underlying31 hc hcz0 hcz1 hcz2 rfl (by decide) _ 0 [] rfl HO.out a n c xs rfl HL.out HCS.out H1.out ?c3 ?c4 ?c5 ?_))
    case c3 => simp [maxLen]; omega
    case c4 => omega
    case c5 => simp
    intro v' w3 ho3 hg3 _ hat3
    have HE := Lib.hid ((ext_alloc w (.cells #[] 80)).trans' (grown_below hg3 (by simp) (fun k hk => by simp [Value.ownBlock] at hk; omega)))
    have HO3 := Lib.hid ho3
    obtain ⟨A3, c3, rfl, _, _⟩ := own_shape ho3
    clear ho3 hg3 hat3
    go_wp2
    go_ret
    exact ⟨_, _, rfl, HO3.out, HE.out⟩

theorem Try.infoClPlan : (Try.prog.info? 83).map (fun i => (i.zero, i.size, i.bytes)) = some (some (.agg #[.int .i64 0, .int .i64 0, .int .i64 0, .int .i64 0, .int .i64 0, .int .i64 0]), 6, 48) := by kernel_rfl
theorem clonePlan_any (v : Value) (n : Nat) (xs : List Value) (w : World) (h : RdK 6 w v n xs) (h1 : ∀ u ∈ xs, u.oneCell' = true) (h2 : n ≤ 1000000) :
    Calls Try.prog 29 #[v] w (ClonePost 6 83 n xs w) := by
  obtain ⟨c0, hc, hcz0, hcz1, hcz2⟩ := info_parts Try.infoClPlan
  obtain ⟨A, c, rfl, hc1, hc2, hl, hcell⟩ := h
  have hn := fun (W : World) (A : Option Addr) (n c n' c' : Nat) => Lib.run_eql_slice_nil (P := Try.prog) W 32 83 A n c n' c' Try.underlying32
  have HL := Lib.hid hl
  have H1 := Lib.hid h1
  cases A with
  | none =>
    have hx : xs = [] := by
      rcases xs with _ | ⟨x, xs⟩
      · rfl
      · obtain ⟨a, e, _⟩ := hcell (by simp)
        cases e
    subst hx
    have hn0 : n = 0 := by simp at hl; omega
    subst hn0
    clear hcell hl
    go_enter Try.func29, Try.ntmps29
    go_wp2
    go_ret
    exact ⟨none, 0, rfl, World.ownsRow_nil _ _ _ 6, Ext.refl _⟩
  | some a =>
    have HO := Lib.hid (own_emptyT w w.heap.size 83 6 (Nat.le_refl _))
    have HCS := Lib.hid (show ∀ (j : Nat) (u : Value), xs[j]? = some u → (w.alloc (.cells #[] 83)).cell? (a.add j) = some u from fun j u hu => by
      obtain ⟨a', e, hb, hcs⟩ := hcell (by have := (List.getElem?_eq_some_iff.1 hu).1; omega)
      injection e with e
      subst e
      exact (Below.cell (ext_alloc w _) (p := a.add j) (by rw [add_block]; exact hb)).trans (hcs j u hu))
    clear hcell hl h1
    go_enter Try.func29, Try.ntmps29
    go_wp2_with (at_builtin; go_loud (refine wpList_append_own_at _ rfl (.tmp 5) (.tmp 6) 32 rfl w.heap.size 83 c0 _ 6 48 Try.underlying32 hc hcz0 hcz1 hcz2 rfl (by decide) _ 0 [] rfl HO.out a n c xs rfl HL.out HCS.out H1.out ?c3 ?c4 ?c5 ?_))
    case c3 => simp [maxLen]; omega
    case c4 => omega
    case c5 => simp
    intro v' w3 ho3 hg3 _ hat3
    have HE := Lib.hid ((ext_alloc w (.cells #[] 83)).trans' (grown_below hg3 (by simp) (fun k hk => by simp [Value.ownBlock] at hk; omega)))
    have HO3 := Lib.hid ho3
    obtain ⟨A3, c3, rfl, _, _⟩ := own_shape ho3
    clear ho3 hg3 hat3
    go_wp2
    go_ret
    exact ⟨_, _, rfl, HO3.out, HE.out⟩

theorem Try.infoClStr : (Try.prog.info? 9).map (fun i => (i.zero, i.size, i.bytes)) = some (some (.string ⟨#[]⟩), 1, 16) := by kernel_rfl
theorem cloneStr_any (v : Value) (n : Nat) (xs : List Value) (w : World) (h : RdK 1 w v n xs) (h1 : ∀ u ∈ xs, u.oneCell' = true) (h2 : n ≤ 1000000) :
    Calls Try.prog 43 #[v] w (ClonePost 1 9 n xs w) := by
  obtain ⟨c0, hc, hcz0, hcz1, hcz2⟩ := info_parts Try.infoClStr
  obtain ⟨A, c, rfl, hc1, hc2, hl, hcell⟩ := h
  have hn := fun (W : World) (A : Option Addr) (n c n' c' : Nat) => Lib.run_eql_slice_nil (P := Try.prog) W 24 9 A n c n' c' Try.underlying24
  have HL := Lib.hid hl
  have H1 := Lib.hid h1
  cases A with
  | none =>
    have hx : xs = [] := by
      rcases xs with _ | ⟨x, xs⟩
      · rfl
      · obtain ⟨a, e, _⟩ := hcell (by simp)
        cases e
    subst hx
    have hn0 : n = 0 := by simp at hl; omega
    subst hn0
    clear hcell hl
    go_enter Try.func43, Try.ntmps43
    go_wp2
    go_ret
    exact ⟨none, 0, rfl, World.ownsRow_nil _ _ _ 1, Ext.refl _⟩
  | some a =>
    have HO := Lib.hid (own_emptyT w w.heap.size 9 1 (Nat.le_refl _))
    have HCS := Lib.hid (show ∀ (j : Nat) (u : Value), xs[j]? = some u → (w.alloc (.cells #[] 9)).cell? (a.add j) = some u from fun j u hu => by
      obtain ⟨a', e, hb, hcs⟩ := hcell (by have := (List.getElem?_eq_some_iff.1 hu).1; omega)
      injection e with e
      subst e
      exact (Below.cell (ext_alloc w _) (p := a.add j) (by rw [add_block]; exact hb)).trans (hcs j u hu))
    clear hcell hl h1
    go_enter Try.func43, Try.ntmps43
    go_wp2_with (at_builtin; go_loud (refine wpList_append_own_at _ rfl (.tmp 5) (.tmp 6) 24 rfl w.heap.size 9 c0 _ 1 16 Try.underlying24 hc hcz0 hcz1 hcz2 rfl (by decide) _ 0 [] rfl HO.out a n c xs rfl HL.out HCS.out H1.out ?c3 ?c4 ?c5 ?_))
    case c3 => simp [maxLen]; omega
    case c4 => omega
    case c5 => simp
    intro v' w3 ho3 hg3 _ hat3
    have HE := Lib.hid ((ext_alloc w (.cells #[] 9)).trans' (grown_below hg3 (by simp) (fun k hk => by simp [Value.ownBlock] at hk; omega)))
    have HO3 := Lib.hid ho3
    obtain ⟨A3, c3, rfl, _, _⟩ := own_shape ho3
    clear ho3 hg3 hat3
    go_wp2
    go_ret
    exact ⟨_, _, rfl, HO3.out, HE.out⟩

theorem Try.infoClQueue : (Try.prog.info? 58).map (fun i => (i.zero, i.size, i.bytes)) = some (some (.agg #[.string ⟨#[]⟩, .slice none 0 0, .int .i64 0]), 3, 48) := by kernel_rfl
theorem cloneQueue_any (v : Value) (n : Nat) (xs : List Value) (w : World) (h : RdK 3 w v n xs) (h1 : ∀ u ∈ xs, u.oneCell' = true) (h2 : n ≤ 1000000) :
    Calls Try.prog 45 #[v] w (ClonePost 3 58 n xs w) := by
  obtain ⟨c0, hc, hcz0, hcz1, hcz2⟩ := info_parts Try.infoClQueue
  obtain ⟨A, c, rfl, hc1, hc2, hl, hcell⟩ := h
  have hn := fun (W : World) (A : Option Addr) (n c n' c' : Nat) => Lib.run_eql_slice_nil (P := Try.prog) W 25 58 A n c n' c' Try.underlying25
  have HL := Lib.hid hl
  have H1 := Lib.hid h1
  cases A with
  | none =>
    have hx : xs = [] := by
      rcases xs with _ | ⟨x, xs⟩
      · rfl
      · obtain ⟨a, e, _⟩ := hcell (by simp)
        cases e
    subst hx
    have hn0 : n = 0 := by simp at hl; omega
    subst hn0
    clear hcell hl
    go_enter Try.func45, Try.ntmps45
    go_wp2
    go_ret
    exact ⟨none, 0, rfl, World.ownsRow_nil _ _ _ 3, Ext.refl _⟩
  | some a =>
    have HO := Lib.hid (own_emptyT w w.heap.size 58 3 (Nat.le_refl _))
    have HCS := Lib.hid (show ∀ (j : Nat) (u : Value), xs[j]? = some u → (w.alloc (.cells #[] 58)).cell? (a.add j) = some u from fun j u hu => by
      obtain ⟨a', e, hb, hcs⟩ := hcell (by have := (List.getElem?_eq_some_iff.1 hu).1; omega)
      injection e with e
      subst e
      exact (Below.cell (ext_alloc w _) (p := a.add j) (by rw [add_block]; exact hb)).trans (hcs j u hu))
    clear hcell hl h1
    go_enter Try.func45, Try.ntmps45
    go_wp2_with (at_builtin; go_loud (refine wpList_append_own_at _ rfl (.tmp 5) (.tmp 6) 25 rfl w.heap.size 58 c0 _ 3 48 Try.underlying25 hc hcz0 hcz1 hcz2 rfl (by decide) _ 0 [] rfl HO.out a n c xs rfl HL.out HCS.out H1.out ?c3 ?c4 ?c5 ?_))
    case c3 => simp [maxLen]; omega
    case c4 => omega
    case c5 => simp
    intro v' w3 ho3 hg3 _ hat3
    have HE := Lib.hid ((ext_alloc w (.cells #[] 58)).trans' (grown_below hg3 (by simp) (fun k hk => by simp [Value.ownBlock] at hk; omega)))
    have HO3 := Lib.hid ho3
    obtain ⟨A3, c3, rfl, _, _⟩ := own_shape ho3
    clear ho3 hg3 hat3
    go_wp2
    go_ret
    exact ⟨_, _, rfl, HO3.out, HE.out⟩

theorem Try.infoClCap : (Try.prog.info? 55).map (fun i => (i.zero, i.size, i.bytes)) = some (some (.agg #[.int .i64 0, .int .i64 0]), 2, 16) := by kernel_rfl
theorem cloneCap_any (v : Value) (n : Nat) (xs : List Value) (w : World) (h : RdK 2 w v n xs) (h1 : ∀ u ∈ xs, u.oneCell' = true) (h2 : n ≤ 1000000) :
    Calls Try.prog 46 #[v] w (ClonePost 2 55 n xs w) := by
  obtain ⟨c0, hc, hcz0, hcz1, hcz2⟩ := info_parts Try.infoClCap
  obtain ⟨A, c, rfl, hc1, hc2, hl, hcell⟩ := h
  have hn := fun (W : World) (A : Option Addr) (n c n' c' : Nat) => Lib.run_eql_slice_nil (P := Try.prog) W 56 55 A n c n' c' Try.underlying56
  have HL := Lib.hid hl
  have H1 := Lib.hid h1
  cases A with
  | none =>
    have hx : xs = [] := by
      rcases xs with _ | ⟨x, xs⟩
      · rfl
      · obtain ⟨a, e, _⟩ := hcell (by simp)
        cases e
    subst hx
    have hn0 : n = 0 := by simp at hl; omega
    subst hn0
    clear hcell hl
    go_enter Try.func46, Try.ntmps46
    go_wp2
    go_ret
    exact ⟨none, 0, rfl, World.ownsRow_nil _ _ _ 2, Ext.refl _⟩
  | some a =>
    have HO := Lib.hid (own_emptyT w w.heap.size 55 2 (Nat.le_refl _))
    have HCS := Lib.hid (show ∀ (j : Nat) (u : Value), xs[j]? = some u → (w.alloc (.cells #[] 55)).cell? (a.add j) = some u from fun j u hu => by
      obtain ⟨a', e, hb, hcs⟩ := hcell (by have := (List.getElem?_eq_some_iff.1 hu).1; omega)
      injection e with e
      subst e
      exact (Below.cell (ext_alloc w _) (p := a.add j) (by rw [add_block]; exact hb)).trans (hcs j u hu))
    clear hcell hl h1
    go_enter Try.func46, Try.ntmps46
    go_wp2_with (at_builtin; go_loud (refine wpList_append_own_at _ rfl (.tmp 5) (.tmp 6) 56 rfl w.heap.size 55 c0 _ 2 16 Try.underlying56 hc hcz0 hcz1 hcz2 rfl (by decide) _ 0 [] rfl HO.out a n c xs rfl HL.out HCS.out H1.out ?c3 ?c4 ?c5 ?_))
    case c3 => simp [maxLen]; omega
    case c4 => omega
    case c5 => simp
    intro v' w3 ho3 hg3 _ hat3
    have HE := Lib.hid ((ext_alloc w (.cells #[] 55)).trans' (grown_below hg3 (by simp) (fun k hk => by simp [Value.ownBlock] at hk; omega)))
    have HO3 := Lib.hid ho3
    obtain ⟨A3, c3, rfl, _, _⟩ := own_shape ho3
    clear ho3 hg3 hat3
    go_wp2
    go_ret
    exact ⟨_, _, rfl, HO3.out, HE.out⟩

theorem Try.infoClApp : (Try.prog.info? 73).map (fun i => (i.zero, i.size, i.bytes)) = some (some (.agg #[.int .i64 0, .int .i64 0, .string ⟨#[]⟩, .int .i64 0, .int .i64 0, .int .i64 0, .int .i64 0, .slice none 0 0, .int .i64 0, .int .i64 0, .slice none 0 0, .slice none 0 0, .slice none 0 0, .slice none 0 0]), 14, 200) := by kernel_rfl
theorem cloneApp_any (v : Value) (n : Nat) (xs : List Value) (w : World) (h : RdK 14 w v n xs) (h1 : ∀ u ∈ xs, u.oneCell' = true) (h2 : n ≤ 1000000) :
    Calls Try.prog 39 #[v] w (ClonePost 14 73 n xs w) := by
  obtain ⟨c0, hc, hcz0, hcz1, hcz2⟩ := info_parts Try.infoClApp
  obtain ⟨A, c, rfl, hc1, hc2, hl, hcell⟩ := h
  have hn := fun (W : World) (A : Option Addr) (n c n' c' : Nat) => Lib.run_eql_slice_nil (P := Try.prog) W 29 73 A n c n' c' Try.underlying29
  have HL := Lib.hid hl
  have H1 := Lib.hid h1
  cases A with
  | none =>
    have hx : xs = [] := by
      rcases xs with _ | ⟨x, xs⟩
      · rfl
      · obtain ⟨a, e, _⟩ := hcell (by simp)
        cases e
    subst hx
    have hn0 : n = 0 := by simp at hl; omega
    subst hn0
    clear hcell hl
    go_enter Try.func39, Try.ntmps39
    go_wp2
    go_ret
    exact ⟨none, 0, rfl, World.ownsRow_nil _ _ _ 14, Ext.refl _⟩
  | some a =>
    have HO := Lib.hid (own_emptyT w w.heap.size 73 14 (Nat.le_refl _))
    have HCS := Lib.hid (show ∀ (j : Nat) (u : Value), xs[j]? = some u → (w.alloc (.cells #[] 73)).cell? (a.add j) = some u from fun j u hu => by
      obtain ⟨a', e, hb, hcs⟩ := hcell (by have := (List.getElem?_eq_some_iff.1 hu).1; omega)
      injection e with e
      subst e
      exact (Below.cell (ext_alloc w _) (p := a.add j) (by rw [add_block]; exact hb)).trans (hcs j u hu))
    clear hcell hl h1
    go_enter Try.func39, Try.ntmps39
    go_wp2_with (at_builtin; go_loud (refine wpList_append_own_at _ rfl (.tmp 5) (.tmp 6) 29 rfl w.heap.size 73 c0 _ 14 200 Try.underlying29 hc hcz0 hcz1 hcz2 rfl (by decide) _ 0 [] rfl HO.out a n c xs rfl HL.out HCS.out H1.out ?c3 ?c4 ?c5 ?_))
    case c3 => simp [maxLen]; omega
    case c4 => omega
    case c5 => simp
    intro v' w3 ho3 hg3 _ hat3
    have HE := Lib.hid ((ext_alloc w (.cells #[] 73)).trans' (grown_below hg3 (by simp) (fun k hk => by simp [Value.ownBlock] at hk; omega)))
    have HO3 := Lib.hid ho3
    obtain ⟨A3, c3, rfl, _, _⟩ := own_shape ho3
    clear ho3 hg3 hat3
    go_wp2
    go_ret
    exact ⟨_, _, rfl, HO3.out, HE.out⟩

end Go.Proofs.Ytffioglbgnbieaa