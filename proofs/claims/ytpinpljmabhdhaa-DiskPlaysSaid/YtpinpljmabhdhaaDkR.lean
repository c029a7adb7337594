/- dispatchref3: the reference's disk, by the same states. -/
import Derived.Test.YtpinpljmabhdhaaKnown3
import Derived.Laws.AppendOwn
import Derived.WalkLawsBesides
namespace Go.Proofs.Ytpinpljmabhdhaa
open Go.RowKit

def lft (n : Int) : Int := max n 0

def XAt (w : World) (X : Nat) (vl vs : Value) (ev : Bool) (s : DS) : Prop :=
  w.heap[X]? = some (.cells #[.int .i64 s.room, vl, .int .i64 s.syn, vs, .int .i64 (lft s.left), .bool ev, .bool s.off, .int .i64 s.ops] 55 (0, 0))

section
variable {w w' : World} {X : Nat} {vl vs : Value} {ev : Bool} {s : DS}
theorem XAt.lt (h : XAt w X vl vs ev s) : X < w.heap.size := (Array.getElem?_eq_some_iff.1 h).1
theorem XAt.c0 (h : XAt w X vl vs ev s) : w.cell? ⟨X, 0, none⟩ = some (.int .i64 s.room) := by rw [cell_of_row w X 0 _ _ (0, 0) h]; rfl
theorem XAt.c1 (h : XAt w X vl vs ev s) : w.cell? ⟨X, 1, none⟩ = some vl := by rw [cell_of_row w X 1 _ _ (0, 0) h]; rfl
theorem XAt.c2 (h : XAt w X vl vs ev s) : w.cell? ⟨X, 2, none⟩ = some (.int .i64 s.syn) := by rw [cell_of_row w X 2 _ _ (0, 0) h]; rfl
theorem XAt.c3 (h : XAt w X vl vs ev s) : w.cell? ⟨X, 3, none⟩ = some vs := by rw [cell_of_row w X 3 _ _ (0, 0) h]; rfl
theorem XAt.c4 (h : XAt w X vl vs ev s) : w.cell? ⟨X, 4, none⟩ = some (.int .i64 (lft s.left)) := by rw [cell_of_row w X 4 _ _ (0, 0) h]; rfl
theorem XAt.c5 (h : XAt w X vl vs ev s) : w.cell? ⟨X, 5, none⟩ = some (.bool ev) := by rw [cell_of_row w X 5 _ _ (0, 0) h]; rfl
theorem XAt.c6 (h : XAt w X vl vs ev s) : w.cell? ⟨X, 6, none⟩ = some (.bool s.off) := by rw [cell_of_row w X 6 _ _ (0, 0) h]; rfl
theorem XAt.c7 (h : XAt w X vl vs ev s) : w.cell? ⟨X, 7, none⟩ = some (.int .i64 s.ops) := by rw [cell_of_row w X 7 _ _ (0, 0) h]; rfl
theorem XAt.fr (h : XAt w X vl vs ev s) (i : Nat) : w.frozen? ⟨X, i, none⟩ = false := by unfold XAt at h; simp [World.frozen?, h]
theorem XAt.foot {S : Nat → Prop} (h : XAt w X vl vs ev s) (k : Foot S w w') (hS : ¬ S X) : XAt w' X vl vs ev s := (k.block X h.lt hS).trans h
/-- A store into one of its cells. -/
theorem XAt.set (h : XAt w X vl vs ev s) (i : Nat) (u : Value) {vl' vs' : Value} {ev' : Bool} {s' : DS}
    (he : (#[.int .i64 s.room, vl, .int .i64 s.syn, vs, .int .i64 (lft s.left), .bool ev, .bool s.off, .int .i64 s.ops] : Array Value).setIfInBounds i u = #[.int .i64 s'.room, vl', .int .i64 s'.syn, vs', .int .i64 (lft s'.left), .bool ev', .bool s'.off, .int .i64 s'.ops]) :
    XAt (w.setCell ⟨X, i, none⟩ u) X vl' vs' ev' s' := by
  unfold XAt at *
  rw [← he]
  simp [World.setCell, Array.getElem?_modify, h]
end

/-- Block X is the reference's disk; its log lies in bl, its snapshot in bs. -/
def XDk (w : World) (X : Nat) (bl bs : Option Nat) (s : DS) : Prop :=
  ∃ vl vs ev, XAt w X vl vs ev s ∧ Rd w vl (bvs s.log) ∧ vl.ownBlock = bl ∧ Rd w vs (bvs s.snap) ∧ vs.ownBlock = bs ∧ bl ≠ some X ∧ bs ≠ some X ∧ (∀ k, bl = some k → k < w.heap.size) ∧ (∀ k, bs = some k → k < w.heap.size) ∧ (0 < s.left ∨ s.off = true → ev = decide (s.stop % 2 = 0)) ∧ s.Ok
def xmine (X : Nat) (bl bs : Option Nat) (k : Nat) : Prop := k = X ∨ bl = some k ∨ bs = some k

/-- The reference's disk is s' now, and nothing but its block has turned. -/
def XDid (w : World) (X : Nat) (bl bs : Option Nat) (s' : DS) (v : Value) (e : Ending) (w' : World) : Prop :=
  e = .returned v ∧ Foot (fun k => k = X) w w' ∧ ∃ bl' bs', XDk w' X bl' bs' s' ∧ (∀ k, bl' = some k → bl = some k ∨ w.heap.size ≤ k) ∧ (∀ k, bs' = some k → bs = some k ∨ w.heap.size ≤ k)

section
variable {w w' : World} {X : Nat} {bl bs : Option Nat} {s : DS}
theorem XDk.ok (h : XDk w X bl bs s) : s.Ok := by obtain ⟨_, _, _, _, _, _, _, _, _, _, _, _, _, h⟩ := h; exact h
theorem XDk.lt (h : XDk w X bl bs s) : X < w.heap.size := by obtain ⟨_, _, _, h, _⟩ := h; exact h.lt
theorem XDk.below (h : XDk w X bl bs s) : ∀ k, xmine X bl bs k → k < w.heap.size := by
  obtain ⟨_, _, _, h0, _, _, _, _, _, _, h1, h2, _⟩ := h
  rintro k (rfl | e | e)
  · exact h0.lt
  · exact h1 k e
  · exact h2 k e
theorem XDk.foot {S : Nat → Prop} (h : XDk w X bl bs s) (k : Foot S w w') (hS : ∀ i, xmine X bl bs i → ¬ S i) : XDk w' X bl bs s := by
  obtain ⟨vl, vs, ev, h0, h1, rfl, h2, rfl, h3, h4, h5, h6, h7, h8⟩ := h
  exact ⟨vl, vs, ev, h0.foot k (hS X (.inl rfl)), h1.foot k (fun g hg => hS g (.inr (.inl hg))), rfl, h2.foot k (fun g hg => hS g (.inr (.inr hg))), rfl, h3, h4,
    fun i hi => Nat.lt_of_lt_of_le (h5 i hi) k.size, fun i hi => Nat.lt_of_lt_of_le (h6 i hi) k.size, h7, h8⟩
theorem XDk.ext (h : XDk w X bl bs s) (k : Ext w w') : XDk w' X bl bs s := h.foot (Foot.of_ext (S := fun _ => False) k) (fun _ _ => id)

theorem XDid.mk {bl' bs' : Option Nat} {s' : DS} (hf : Foot (fun k => k = X) w w') (h : XDk w' X bl' bs' s') (hl : ∀ k, bl' = some k → bl = some k ∨ w.heap.size ≤ k) (hs : ∀ k, bs' = some k → bs = some k ∨ w.heap.size ≤ k) (v : Value) : XDid w X bl bs s' v (.returned v) w' :=
  ⟨rfl, hf, bl', bs', h, hl, hs⟩
theorem XDid.then_ {w w1 w2 : World} {bl1 bs1 : Option Nat} {s2 : DS} {v : Value} {e : Ending} (h1 : Foot (fun k => k = X) w w1) (hl : ∀ k, bl1 = some k → bl = some k ∨ w.heap.size ≤ k) (hs : ∀ k, bs1 = some k → bs = some k ∨ w.heap.size ≤ k) (h2 : XDid w1 X bl1 bs1 s2 v e w2) : XDid w X bl bs s2 v e w2 := by
  obtain ⟨rfl, k, bl', bs', h, hl', hs'⟩ := h2
  refine ⟨rfl, h1.trans k (fun _ _ h => h), bl', bs', h, fun i e => ?_, fun i e => ?_⟩
  · rcases hl' i e with h | h
    · exact hl i h
    · exact .inr (Nat.le_trans h1.size h)
  · rcases hs' i e with h | h
    · exact hs i h
    · exact .inr (Nat.le_trans h1.size h)
theorem XDid.same (h : XDk w X bl bs s) (hx : Ext w w') (v : Value) : XDid w X bl bs s v (.returned v) w' := XDid.mk (Foot.of_ext hx) (h.ext hx) (fun _ e => .inl e) (fun _ e => .inl e) v

/-- Only the block's own cells have turned. -/
theorem XDk.cells {s' : DS} (h : XDk w X bl bs s) (kb : Foot (fun k => k = X) w w')
    (hd : ∀ vl vs ev, XAt w X vl vs ev s → (0 < s.left ∨ s.off = true → ev = decide (s.stop % 2 = 0)) → ∃ ev', XAt w' X vl vs ev' s' ∧ (0 < s'.left ∨ s'.off = true → ev' = decide (s'.stop % 2 = 0))) (hl : s'.log = s.log) (hs : s'.snap = s.snap) (ok : s'.Ok) (v : Value) : XDid w X bl bs s' v (.returned v) w' := by
  obtain ⟨vl, vs, ev, h0, h1, rfl, h2, rfl, h3, h4, h5, h6, h7, h8⟩ := h
  obtain ⟨ev', h9, h10⟩ := hd vl vs ev h0 h7
  exact XDid.mk (bl' := vl.ownBlock) (bs' := vs.ownBlock) kb ⟨vl, vs, ev', h9, by rw [hl]; exact h1.foot kb (fun g hg e => h3 (by rw [hg, e])), rfl, by rw [hs]; exact h2.foot kb (fun g hg e => h4 (by rw [hg, e])), rfl, h3, h4,
    fun i hi => Nat.lt_of_lt_of_le (h5 i hi) kb.size, fun i hi => Nat.lt_of_lt_of_le (h6 i hi) kb.size, h10, ok⟩ (fun _ e => .inl e) (fun _ e => .inl e) v

theorem xset (w : World) (X i : Nat) (u : Value) : Foot (fun k => k = X) w (w.setCell ⟨X, i, none⟩ u) := Foot.setCell _ _ _ _ _ rfl
theorem xset2 (w : World) (X i j : Nat) (u v : Value) : Foot (fun k => k = X) w ((w.setCell ⟨X, i, none⟩ u).setCell ⟨X, j, none⟩ v) := (xset _ _ _ _).trans (xset _ _ _ _) (fun _ _ h => h)

theorem drw_ok {s : DS} (h : s.Ok) : (drw s).Ok := by
  obtain ⟨h1, h2, h3, h4, h5, h6, h7, h8, h9⟩ := h
  refine ⟨h1, h2, h3, h4, h5, ?_, ?_, h8, h9⟩ <;> simp only [drw] <;> split <;> omega

theorem lft_one {n : Int} (h : n = 1) : lft n = 1 := by subst h; rfl
theorem lft_pos {n : Int} (h : 0 < n) : lft n = n := by unfold lft; omega
theorem lft_none {n : Int} (h : ¬ 0 < n) : lft n = 0 := by unfold lft; omega

/-- Does the power go: the power is on. -/
theorem goes_any (h : XDk w X bl bs s) (ho : s.off = false) :
    Calls Try.prog 53 #[.pointer (some ⟨X, 0, none⟩)] w (XDid w X bl bs (drw s) (.bool (decide (s.left = 1)))) := by
  have ok := h.ok
  have H := Lib.hid h
  obtain ⟨vl, vs, ev, h0, _⟩ := h
  have c4 := h0.c4
  have c6 := h0.c6
  have f4 := h0.fr 4
  have f6 := h0.fr 6
  by_cases hl : 0 < s.left
  · rw [lft_pos hl] at c4
    have hne : (s.left == 0) = false := by simp; omega
    have l2 := ok.left2
    have hdr : drw s = { s with off := decide (s.left = 1), left := s.left - 1 } := by simp [drw, hl]
    obtain ⟨n, hn⟩ : ∃ n, s.left - 1 = n := ⟨_, rfl⟩
    have HD := Lib.hid (XDk.cells (w' := (w.setCell ⟨X, 4, none⟩ (.int .i64 n)).setCell ⟨X, 6, none⟩ (.bool (decide (s.left = 1)))) (s' := drw s) H.out (xset2 _ _ _ _ _ _)
      (fun vl vs ev h hev => ⟨ev, by
        rw [hdr]
        refine XAt.set (vl := vl) (vs := vs) (ev := ev) (s := { s with left := s.left - 1 }) (XAt.set (vl' := vl) (vs' := vs) (ev' := ev) (s' := { s with left := s.left - 1 }) h 4 _ ?_) 6 _ ?_
        · simp [lft, show max (s.left - 1) 0 = n by omega]
        · simp, fun _ => hev (.inl hl)⟩) rfl rfl (drw_ok ok) (.bool (decide (s.left = 1))))
    by_cases h1 : s.left = 1
    · have hd : decide (s.left = 1) = true := by simpa using h1
      obtain rfl : n = 0 := by omega
      rw [hd] at HD ⊢
      rw [h1] at c4
      clear h0 ok hdr hd h1 hn hne l2 hl
      go_enter Try.func53, Try.ntmps53
      go_wp2
      go_ret
      exact HD.out
    · have hd : decide (s.left = 1) = false := by simpa using h1
      have hn0 : (n == 0) = false := by simp; omega
      have hw : IntKind.i64.wrap (s.left - 1) = n := by rw [hn, IntWalk.i64_in _ (by omega)]
      have hw2 : s.left - 1 = n := hn
      rw [hd] at HD ⊢
      clear h0 ok hdr hd h1
      go_enter Try.func53, Try.ntmps53
      go_wp2
      go_ret
      exact HD.out
  · rw [lft_none hl] at c4
    have hdr : drw s = s := by
      have e1 : decide (s.left = 1) = s.off := by rw [ho]; simp; omega
      unfold drw
      rw [e1, if_neg hl]
    have hd : decide (s.left = 1) = false := by simp; omega
    rw [hdr, hd]
    have HD := Lib.hid (XDid.same H.out (Ext.refl w) (.bool false))
    clear h0 ok hdr hd hl
    go_enter Try.func53, Try.ntmps53
    go_wp2
    go_ret
    exact HD.out

def ending (s : DS) : DS := { s with ops := if s.off then s.ops else inc s.ops }
def endE (s : DS) : Int := if s.off then 17 else 0
theorem ending_fin (s : DS) : ending (drw s) = fin s := by
  unfold ending fin
  by_cases h : s.left = 1 <;> simp [drw, h]
theorem endE_fin (s : DS) : endE (drw s) = finE s := by
  unfold endE finE
  by_cases h : s.left = 1 <;> simp [drw, h]

theorem end_any (h : XDk w X bl bs s) :
    Calls Try.prog 54 #[.pointer (some ⟨X, 0, none⟩)] w (XDid w X bl bs (ending s) (.int .i64 (endE s))) := by
  have ok := h.ok
  have H := Lib.hid h
  obtain ⟨vl, vs, ev, h0, _⟩ := h
  have c6 := h0.c6
  have c7 := h0.c7
  have f7 := h0.fr 7
  cases ho : s.off
  · have e1 : ending s = { s with ops := inc s.ops } := by simp [ending, ho]
    have e2 : endE s = 0 := by simp [endE, ho]
    rw [e1, e2]
    rw [ho] at c6
    have HD := Lib.hid (XDk.cells (w' := w.setCell ⟨X, 7, none⟩ (.int .i64 (inc s.ops))) (s' := { s with ops := inc s.ops }) H.out (xset _ _ _ _)
      (fun vl vs ev h hev => ⟨ev, XAt.set h 7 _ (by simp), hev⟩) rfl rfl (by obtain ⟨h1, h2, h3, h4, h5, h6, h7, h8, h9⟩ := ok; exact ⟨h1, h2, h3, h4, h5, h6, h7, h8, h9⟩) (.int .i64 0))
    clear h0 ok ho e1 e2
    go_enter Try.func54, Try.ntmps54
    go_wp2
    go_ret
    exact HD.out
  · have e1 : ending s = s := by
      unfold ending
      rw [ho]
      cases s
      simp_all
    have e2 : endE s = 17 := by simp [endE, ho]
    rw [e1, e2]
    rw [ho] at c6
    have HD := Lib.hid (XDid.same H.out (Ext.refl w) (.int .i64 17))
    clear h0 ok ho e1 e2
    go_enter Try.func54, Try.ntmps54
    go_wp2
    go_ret
    exact HD.out

theorem rNew_no (room : Int) (w : World) (h : room < 1 ∨ 16777216 < room) :
    Calls Try.prog 21 #[.int .i64 room] w fun e w' => e = .returned (.tuple #[.pointer none, .int .i64 1]) ∧ w = w' := by
  by_cases h1 : room < 1
  · clear h
    go_enter Try.func21, Try.ntmps21
    go_wp2
    go_ret2
    exact ⟨rfl, rfl⟩
  · have h2 : 16777216 < room := by omega
    clear h
    go_enter Try.func21, Try.ntmps21
    go_wp2
    go_ret2
    exact ⟨rfl, rfl⟩

theorem rNew_any (room : Int) (w : World) (h1 : ¬ room < 1) (h2 : ¬ 16777216 < room) :
    Calls Try.prog 21 #[.int .i64 room] w fun e w' => e = .returned (.tuple #[.pointer (some ⟨w.heap.size, 0, none⟩), .int .i64 0]) ∧ Ext w w' ∧ XDk w' w.heap.size none none (nw room) := by
  go_enter Try.func21, Try.ntmps21
  go_wp2
  go_ret2
  refine ⟨rfl, ext_alloc _ _, ⟨.slice none 0 0, .slice none 0 0, false, ?_, Rd.nil _, rfl, Rd.nil _, rfl, by simp, by simp, by simp, by simp, by simp [nw], ⟨by simp only [nw]; omega, by simp only [nw]; omega, by simp [nw]; omega, by simp [nw], by simp [nw], by simp [nw], by simp [nw], by simp [nw], by simp [nw]⟩⟩⟩
  exact heap_alloc_new w _

theorem rStop_any (h : XDk w X bl bs s) (n : Int) (hn : -9223372036854775808 ≤ n ∧ n ≤ 9223372036854775807) :
    Calls Try.prog 28 #[.pointer (some ⟨X, 0, none⟩), .int .i64 n] w (XDid w X bl bs (stp s n) (.tuple #[])) := by
  have ok := h.ok
  have he : ((n.tmod 2 : Int) == 0) = decide (n % 2 = 0) := even_any (s := { s with stop := n }) (by omega)
  obtain ⟨m, hm⟩ : ∃ m, lft n = m := ⟨_, rfl⟩
  have HD := Lib.hid (XDk.cells (w' := (w.setCell ⟨X, 4, none⟩ (.int .i64 m)).setCell ⟨X, 5, none⟩ (.bool (decide (n % 2 = 0)))) (s' := stp s n) h (xset2 _ _ _ _ _ _)
      (fun vl vs ev h hev => ⟨decide (n % 2 = 0), XAt.set (vl := vl) (vs := vs) (ev := ev) (s := { s with left := n }) (XAt.set (vl' := vl) (vs' := vs) (ev' := ev) (s' := { s with left := n }) h 4 _ (by simp [hm])) 5 _ (by simp [stp]), fun _ => rfl⟩)
      rfl rfl (by obtain ⟨h1, h2, h3, h4, h5, h6, h7, h8, h9⟩ := ok; exact ⟨h1, h2, h3, h4, h5, hn.1, hn.2, hn.1, hn.2⟩) (.tuple #[]))
  obtain ⟨vl, vs, ev, h0, _⟩ := h
  have c4 := h0.c4
  have c5 := h0.c5
  have f4 := h0.fr 4
  have f5 := h0.fr 5
  by_cases hp : 0 < n
  · have hm2 : m = n := by rw [← hm, lft_pos hp]
    subst hm2
    clear h0 ok hm
    cases hd : decide (m % 2 = 0) <;> rw [hd] at he HD
    · have he2 : ((m % 2 : Int) == 0) = false := by simpa using hd
      clear hd
      go_enter Try.func28, Try.ntmps28
      go_wp2
      go_end0
      exact HD.out
    · have he2 : ((m % 2 : Int) == 0) = true := by simpa using hd
      clear hd
      go_enter Try.func28, Try.ntmps28
      go_wp2
      go_end0
      exact HD.out
  · have hm2 : m = 0 := by rw [← hm, lft_none hp]
    subst hm2
    by_cases hz : n = 0
    · subst hz
      rw [show decide ((0 : Int) % 2 = 0) = true from rfl] at HD
      clear h0 ok hm he
      go_enter Try.func28, Try.ntmps28
      go_wp2
      go_end0
      exact HD.out
    · have hneg : ¬ 0 ≤ n := by omega
      clear h0 ok hm hz hp
      cases hd : decide (n % 2 = 0) <;> rw [hd] at he HD
      · clear hd
        go_enter Try.func28, Try.ntmps28
        go_wp2
        go_end0
        exact HD.out
      · clear hd
        go_enter Try.func28, Try.ntmps28
        go_wp2
        go_end0
        exact HD.out

end
end Go.Proofs.Ytpinpljmabhdhaa
