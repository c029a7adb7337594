/- disk: a disk's block, what may turn of the world, and its small parts. -/
import Derived.Test.YtpinpljmabhdhaaByt
import Derived.ProofKit
import Derived.Lib.Hide
import Derived.IntWalk
import Derived.Outline
import Derived.Laws.MakeOwn
import Derived.Laws.CopyOwn
import Derived.BigQuiet
import Derived.Deep.QuietTactic
import Derived.WalkSmall
namespace Go.Proofs.Ytpinpljmabhdhaa
open Go.RowKit

theorem Try.infoB : (Try.prog.info? 5).map (fun i => (i.zero, i.size, i.bytes)) = some (some (.int .u8 0), 1, 1) := by kernel_rfl

/-- The world's blocks but those of S are as they were; the streams too; no block has gone. -/
structure Foot (S : Nat → Prop) (w w' : World) : Prop where
  os : w'.os = w.os
  tape : w'.tape = w.tape
  output : w'.output = w.output
  size : w.heap.size ≤ w'.heap.size
  block : ∀ k, k < w.heap.size → ¬ S k → w'.heap[k]? = w.heap[k]?

theorem Foot.refl (S : Nat → Prop) (w : World) : Foot S w w := ⟨rfl, rfl, rfl, Nat.le_refl _, fun _ _ _ => rfl⟩
theorem Foot.of_ext {S : Nat → Prop} {w w' : World} (h : Ext w w') : Foot S w w' := ⟨h.os, h.tape, h.output, h.size, fun k hk _ => h.block k hk⟩
theorem Foot.of_grown {S : Nat → Prop} {w w' : World} {r : Option Nat} (h : w.grownBy w' r) (hr : ∀ k, r = some k → S k) : Foot S w w' :=
  ⟨h.os, h.tape, h.output, h.size, fun k hk hS => h.block k hk (fun e => hS (hr k e.symm))⟩
/-- Two steps: what the second may turn is what the first may, or new. -/
theorem Foot.trans {S T : Nat → Prop} {a b c : World} (h : Foot S a b) (k : Foot T b c) (hT : ∀ i, i < a.heap.size → T i → S i) : Foot S a c :=
  ⟨k.os.trans h.os, k.tape.trans h.tape, k.output.trans h.output, Nat.le_trans h.size k.size, fun i hi hS =>
    (k.block i (Nat.lt_of_lt_of_le hi h.size) (fun e => hS (hT i hi e))).trans (h.block i hi hS)⟩
theorem Foot.setCell (S : Nat → Prop) (w : World) (R i : Nat) (u : Value) (h : S R) : Foot S w (w.setCell ⟨R, i, none⟩ u) :=
  ⟨rfl, rfl, rfl, by simp [World.setCell], fun k _ hk => Below.heap_setCell _ _ _ _ (fun e => hk (by rw [e]; exact h))⟩
theorem Foot.ext {S : Nat → Prop} {w a b : World} (h : Foot S a b) (k : Ext w a) (hS : ∀ i, S i → w.heap.size ≤ i) : Ext w b :=
  k.trans' ⟨h.os, h.tape, h.output, h.size, fun i hi => h.block i (Nat.lt_of_lt_of_le hi k.size) (fun e => by have := hS i e; omega)⟩
theorem Rd.foot {S : Nat → Prop} {w w' : World} {v : Value} {xs : List Value} (h : Rd w v xs) (k : Foot S w w') (hS : ∀ g, v.ownBlock = some g → ¬ S g) : Rd w' v xs := by
  obtain ⟨A, c, rfl, h1, h2, h3⟩ := h
  refine ⟨A, c, rfl, h1, h2, fun hn => ?_⟩
  obtain ⟨a, rfl, hb, hc⟩ := h3 hn
  refine ⟨a, rfl, Nat.lt_of_lt_of_le hb k.size, fun j u hu => ?_⟩
  rw [World.cell?_of_block (k.block (a.add j).block (by rw [add_block]; exact hb) (by rw [add_block]; exact hS _ rfl))]
  exact hc j u hu
theorem own_foot {S : Nat → Prop} {w w' : World} {base : Nat} {e : TypeId} {v : Value} {n : Nat} {xs : List Value} (h : w.ownsRow base e 1 v n xs) (k : Foot S w w') (hS : ∀ g, v.ownBlock = some g → ¬ S g) : w'.ownsRow base e 1 v n xs :=
  own_same h fun g hg => k.block g (h.lt g hg).2 (hS g hg)
theorem ext_alloc (w : World) (o : Obj) : Ext w (w.alloc o) := (Below.refl _ _).alloc (Nat.le_refl _) o
theorem ext_drewN (w : World) (n : Nat) : Ext w (w.drewN n) := ⟨rfl, rfl, rfl, Nat.le_refl _, fun _ _ => rfl⟩

/-- What a disk is. -/
structure DS where
  room : Int
  log : List UInt8
  syn : Int
  snap : List UInt8
  off : Bool
  stop : Int
  left : Int
  ops : Int

def DAt (w : World) (R : Nat) (vl vs : Value) (s : DS) : Prop :=
  w.heap[R]? = some (.cells #[.int .i64 s.room, vl, .int .i64 s.syn, vs, .bool s.off, .int .i64 s.stop, .int .i64 s.left, .int .i64 s.ops] 71 (0, 0))

section
variable {w w' : World} {R : Nat} {vl vs : Value} {s : DS}
theorem DAt.lt (h : DAt w R vl vs s) : R < w.heap.size := (Array.getElem?_eq_some_iff.1 h).1
theorem DAt.c0 (h : DAt w R vl vs s) : w.cell? ⟨R, 0, none⟩ = some (.int .i64 s.room) := by rw [cell_of_row w R 0 _ _ (0, 0) h]; rfl
theorem DAt.c1 (h : DAt w R vl vs s) : w.cell? ⟨R, 1, none⟩ = some vl := by rw [cell_of_row w R 1 _ _ (0, 0) h]; rfl
theorem DAt.c2 (h : DAt w R vl vs s) : w.cell? ⟨R, 2, none⟩ = some (.int .i64 s.syn) := by rw [cell_of_row w R 2 _ _ (0, 0) h]; rfl
theorem DAt.c3 (h : DAt w R vl vs s) : w.cell? ⟨R, 3, none⟩ = some vs := by rw [cell_of_row w R 3 _ _ (0, 0) h]; rfl
theorem DAt.c4 (h : DAt w R vl vs s) : w.cell? ⟨R, 4, none⟩ = some (.bool s.off) := by rw [cell_of_row w R 4 _ _ (0, 0) h]; rfl
theorem DAt.c5 (h : DAt w R vl vs s) : w.cell? ⟨R, 5, none⟩ = some (.int .i64 s.stop) := by rw [cell_of_row w R 5 _ _ (0, 0) h]; rfl
theorem DAt.c6 (h : DAt w R vl vs s) : w.cell? ⟨R, 6, none⟩ = some (.int .i64 s.left) := by rw [cell_of_row w R 6 _ _ (0, 0) h]; rfl
theorem DAt.c7 (h : DAt w R vl vs s) : w.cell? ⟨R, 7, none⟩ = some (.int .i64 s.ops) := by rw [cell_of_row w R 7 _ _ (0, 0) h]; rfl
theorem DAt.fr (h : DAt w R vl vs s) (i : Nat) : w.frozen? ⟨R, i, none⟩ = false := by unfold DAt at h; simp [World.frozen?, h]
theorem DAt.foot {S : Nat → Prop} (h : DAt w R vl vs s) (k : Foot S w w') (hS : ¬ S R) : DAt w' R vl vs s := (k.block R h.lt hS).trans h
theorem DAt.set1 (h : DAt w R vl vs s) (u : Value) : DAt (w.setCell ⟨R, 1, none⟩ u) R u vs s := by
  unfold DAt at *; simp [World.setCell, Array.getElem?_modify, h]
theorem DAt.set2 (h : DAt w R vl vs s) (u : Int) : DAt (w.setCell ⟨R, 2, none⟩ (.int .i64 u)) R vl vs { s with syn := u } := by
  unfold DAt at *; simp [World.setCell, Array.getElem?_modify, h]
theorem DAt.set3 (h : DAt w R vl vs s) (u : Value) : DAt (w.setCell ⟨R, 3, none⟩ u) R vl u s := by
  unfold DAt at *; simp [World.setCell, Array.getElem?_modify, h]
theorem DAt.set4 (h : DAt w R vl vs s) (u : Bool) : DAt (w.setCell ⟨R, 4, none⟩ (.bool u)) R vl vs { s with off := u } := by
  unfold DAt at *; simp [World.setCell, Array.getElem?_modify, h]
theorem DAt.set5 (h : DAt w R vl vs s) (u : Int) : DAt (w.setCell ⟨R, 5, none⟩ (.int .i64 u)) R vl vs { s with stop := u } := by
  unfold DAt at *; simp [World.setCell, Array.getElem?_modify, h]
theorem DAt.set6 (h : DAt w R vl vs s) (u : Int) : DAt (w.setCell ⟨R, 6, none⟩ (.int .i64 u)) R vl vs { s with left := u } := by
  unfold DAt at *; simp [World.setCell, Array.getElem?_modify, h]
theorem DAt.set7 (h : DAt w R vl vs s) (u : Int) : DAt (w.setCell ⟨R, 7, none⟩ (.int .i64 u)) R vl vs { s with ops := u } := by
  unfold DAt at *; simp [World.setCell, Array.getElem?_modify, h]
end

/-- What may be of a disk. -/
structure DS.Ok (s : DS) : Prop where
  room1 : 1 ≤ s.room
  room2 : s.room ≤ 16777216
  used : (s.log.length : Int) + s.snap.length ≤ s.room
  syn0 : 0 ≤ s.syn
  syn1 : s.syn ≤ s.log.length
  left1 : -9223372036854775808 ≤ s.left
  left2 : s.left ≤ 9223372036854775807
  stop1 : -9223372036854775808 ≤ s.stop
  stop2 : s.stop ≤ 9223372036854775807

/-- Block R is a disk, its log lies in L.1, its snapshot in L.2; block and log lie from block b on. -/
def Dk (w : World) (b R : Nat) (L : Option Nat × Option Nat) (s : DS) : Prop :=
  ∃ vl vs, DAt w R vl vs s ∧ w.ownsRow b 5 1 vl s.log.length (bvs s.log) ∧ vl.ownBlock = L.1 ∧ L.1 ≠ some R ∧ Rd w vs (bvs s.snap) ∧ vs.ownBlock ≠ some R ∧ (∀ k, vs.ownBlock = some k → L.1 ≠ some k ∧ k < w.heap.size) ∧ (b ≤ R ∧ vs.ownBlock = L.2) ∧ s.Ok

def mine (R : Nat) (L : Option Nat × Option Nat) (k : Nat) : Prop := k = R ∨ L.1 = some k
/-- L' is what L was, or new from B on. -/
def Kept (B : Nat) (L L' : Option Nat × Option Nat) : Prop := (∀ k, L'.1 = some k → L.1 = some k ∨ B ≤ k) ∧ (∀ k, L'.2 = some k → L.2 = some k ∨ B ≤ k)
theorem Kept.refl (B : Nat) (L : Option Nat × Option Nat) : Kept B L L := ⟨fun _ e => .inl e, fun _ e => .inl e⟩
theorem Kept.more {B B' : Nat} {L L' : Option Nat × Option Nat} (h : Kept B' L L') (hB : B ≤ B') : Kept B L L' :=
  ⟨fun k e => (h.1 k e).imp id (fun h => Nat.le_trans hB h), fun k e => (h.2 k e).imp id (fun h => Nat.le_trans hB h)⟩
theorem Kept.trans {B B' : Nat} {L L1 L2 : Option Nat × Option Nat} (h : Kept B L L1) (k : Kept B' L1 L2) (hB : B ≤ B') : Kept B L L2 :=
  ⟨fun i e => (k.1 i e).elim (h.1 i) (fun h => .inr (Nat.le_trans hB h)), fun i e => (k.2 i e).elim (h.2 i) (fun h => .inr (Nat.le_trans hB h))⟩

section
variable {w w' : World} {b R : Nat} {L : Option Nat × Option Nat} {s : DS}
theorem Dk.ok (h : Dk w b R L s) : s.Ok := by obtain ⟨_, _, _, _, _, _, _, _, _, _, h⟩ := h; exact h
theorem Dk.lt (h : Dk w b R L s) : R < w.heap.size := by obtain ⟨_, _, h, _⟩ := h; exact h.lt
theorem Dk.from (h : Dk w b R L s) : ∀ k, mine R L k → b ≤ k := by
  obtain ⟨_, _, _, h1, h2, _, _, _, _, h3, _⟩ := h
  rintro k (rfl | e)
  · exact h3.1
  · exact (h1.lt k (h2.trans e)).1
theorem Dk.below (h : Dk w b R L s) : ∀ k, mine R L k → k < w.heap.size := by
  obtain ⟨_, _, h0, h1, h2, _⟩ := h
  rintro k (rfl | e)
  · exact h0.lt
  · exact (h1.lt k (h2.trans e)).2
theorem Dk.snapB (h : Dk w b R L s) : ∀ k, L.2 = some k → k < w.heap.size := by
  obtain ⟨_, _, _, _, _, _, _, _, h6, h7, _⟩ := h
  intro k e
  exact (h6 k (h7.2.trans e)).2
theorem Dk.ext (h : Dk w b R L s) (k : Ext w w') : Dk w' b R L s := by
  obtain ⟨vl, vs, h0, h1, h2, h3, h4, h5, h6, h7, h8⟩ := h
  exact ⟨vl, vs, h0.foot (Foot.of_ext (S := fun _ => False) k) id, own_Ext h1 k, h2, h3, h4.ext k, h5, fun i hi => ⟨(h6 i hi).1, Nat.lt_of_lt_of_le (h6 i hi).2 k.size⟩, h7, h8⟩
theorem Dk.foot {S : Nat → Prop} (h : Dk w b R L s) (k : Foot S w w') (hS : ∀ i, mine R L i → ¬ S i) (h2 : ∀ i, L.2 = some i → ¬ S i) : Dk w' b R L s := by
  obtain ⟨vl, vs, h0, h1, e1, h3, h4, h5, h6, h7, h8⟩ := h
  exact ⟨vl, vs, h0.foot k (hS R (.inl rfl)), own_foot h1 k (fun g hg => hS g (.inr (e1.symm.trans hg))), e1, h3, h4.foot k (fun g hg => h2 g (h7.2.symm.trans hg)), h5, fun i hi => ⟨(h6 i hi).1, Nat.lt_of_lt_of_le (h6 i hi).2 k.size⟩, h7, h8⟩
end

/-- The disk is s' now, and nothing but the disk has turned. -/
def Did (w : World) (b R : Nat) (L : Option Nat × Option Nat) (s' : DS) (v : Value) (e : Ending) (w' : World) : Prop :=
  e = .returned v ∧ Foot (mine R L) w w' ∧ ∃ L', Dk w' b R L' s' ∧ Kept w.heap.size L L'

/-- A number counted on. -/
def inc (n : Int) : Int := wrap64 (n + 1)

/-- What an operation's power leaves, and what it answers. -/
def drw (s : DS) : DS := { s with off := decide (s.left = 1), left := if 0 < s.left then s.left - 1 else s.left }
def fin (s : DS) : DS := { drw s with ops := if s.left = 1 then s.ops else inc s.ops }
def finE (s : DS) : Int := if s.left = 1 then 17 else 0

theorem fin_ok {s : DS} (h : s.Ok) : (fin s).Ok := by
  obtain ⟨h1, h2, h3, h4, h5, h6, h7, h8, h9⟩ := h
  refine ⟨h1, h2, h3, h4, h5, ?_, ?_, h8, h9⟩ <;> simp only [fin, drw] <;> split <;> omega

section
variable {w : World} {b R : Nat} {L : Option Nat × Option Nat} {s : DS}

theorem failing_any (h : Dk w b R L s) :
    Calls Try.prog 55 #[.pointer (some ⟨R, 4, none⟩)] w fun e w' => e = .returned (.bool (decide (s.left = 1))) ∧ w = w' := by
  obtain ⟨vl, vs, h, _⟩ := h
  have h6 := h.c6
  clear h
  go_enter Try.func55, Try.ntmps55
  go_wp2
  go_ret
  exact ⟨rfl, rfl⟩

theorem used_any (h : Dk w b R L s) :
    Calls Try.prog 50 #[.pointer (some ⟨R, 0, none⟩)] w fun e w' => e = .returned (.int .i64 ((s.log.length : Int) + s.snap.length)) ∧ Ext w w' := by
  have ok := h.ok
  obtain ⟨vl, vs, h, h1, _, _, h2, _⟩ := h
  obtain ⟨A, c, rfl, _⟩ := (Rd.of_own h1).len
  obtain ⟨A', c', rfl, _⟩ := h2.len
  have c1 := h.c1
  have c3 := h.c3
  rw [bvs_length] at *
  have b1 := ok.used
  have b2 := ok.room2
  clear h h1 h2 ok
  go_enter Try.func50, Try.ntmps50
  go_wp2
  go_quiet (fail)
  go_wp2
  go_ret
  exact ⟨rfl, ext_drewN _ _⟩

theorem loose_any (h : Dk w b R L s) :
    Calls Try.prog 58 #[.pointer (some ⟨R, 0, none⟩)] w fun e w' => e = .returned (.int .i64 ((s.log.length : Int) - s.syn)) ∧ Ext w w' := by
  have ok := h.ok
  obtain ⟨vl, vs, h, h1, _, _, h2, _⟩ := h
  obtain ⟨A, c, rfl, _⟩ := (Rd.of_own h1).len
  have c1 := h.c1
  have c2 := h.c2
  rw [bvs_length] at *
  have b0 := ok.used
  have b1 := ok.syn1
  have b2 := ok.room2
  have b3 := ok.syn0
  clear h h1 h2 ok
  go_enter Try.func58, Try.ntmps58
  go_wp2
  go_quiet (fail)
  go_wp2
  go_ret
  exact ⟨rfl, ext_drewN _ _⟩

/-- Why an operation can't be done that leaves so many bytes. -/
def refusal (s : DS) (n : Int) : Int := if s.off then 17 else if s.room < n then 16 else 0

theorem refusal_any (h : Dk w b R L s) (n : Int) :
    Calls Try.prog 49 #[.pointer (some ⟨R, 0, none⟩), .int .i64 n] w fun e w' => e = .returned (.int .i64 (refusal s n)) ∧ w = w' := by
  obtain ⟨vl, vs, h, _⟩ := h
  have c0 := h.c0
  have c4 := h.c4
  clear h
  unfold refusal
  cases ho : s.off
  · rw [ho] at c4
    clear ho
    by_cases hn : s.room < n
    · rw [if_neg (by simp), if_pos hn]
      go_enter Try.func49, Try.ntmps49
      go_wp2
      go_ret
      exact ⟨rfl, rfl⟩
    · rw [if_neg (by simp), if_neg hn]
      go_enter Try.func49, Try.ntmps49
      go_wp2
      go_ret
      exact ⟨rfl, rfl⟩
  · rw [ho] at c4
    clear ho
    rw [if_pos rfl]
    go_enter Try.func49, Try.ntmps49
    go_wp2
    go_ret
    exact ⟨rfl, rfl⟩

/-- Only the block's own cells have turned. -/
theorem Dk.cells {w' : World} {s' : DS} (h : Dk w b R L s) (k : Foot (mine R L) w w') (kb : ∀ i, i ≠ R → w'.heap[i]? = w.heap[i]?)
    (hd : ∀ vl vs, DAt w R vl vs s → DAt w' R vl vs s') (hl : s'.log = s.log) (hs : s'.snap = s.snap) (ok : s'.Ok) (v : Value) : Did w b R L s' v (.returned v) w' := by
  obtain ⟨vl, vs, h0, h1, h2, h3, h4, h5, h6, h7, h8⟩ := h
  refine ⟨rfl, k, L, ⟨vl, vs, hd _ _ h0, ?_, h2, h3, ?_, h5, fun i hi => ⟨(h6 i hi).1, Nat.lt_of_lt_of_le (h6 i hi).2 k.size⟩, h7, ok⟩, Kept.refl _ _⟩
  · rw [hl]
    exact own_same h1 fun g hg => kb g (fun e => h3 (by rw [← h2, hg, e]))
  · rw [hs]
    have k' : Foot (fun i => i = R) w w' := ⟨k.os, k.tape, k.output, k.size, fun i _ hi => kb i hi⟩
    exact h4.foot k' (fun g hg e => h5 (by rw [hg, e]))

theorem set_other (w : World) (R i : Nat) (u : Value) : ∀ k, k ≠ R → (w.setCell ⟨R, i, none⟩ u).heap[k]? = w.heap[k]? := fun k hk => Below.heap_setCell _ _ _ _ hk

theorem draw_any (h : Dk w b R L s) :
    Calls Try.prog 65 #[.pointer (some ⟨R, 4, none⟩)] w (Did w b R L (drw s) (.bool (!decide (s.left = 1)))) := by
  have H := Lib.hid h
  have ok := h.ok
  have l1 := ok.left1
  have l2 := ok.left2
  have OK := Lib.hid ok
  clear ok
  obtain ⟨vl, vs, h, _⟩ := h
  have c4 := h.c4
  have c6 := h.c6
  have f4 := h.fr 4
  have f6 := h.fr 6
  clear h
  have hdr : 0 < s.left → drw s = { s with off := decide (s.left = 1), left := s.left - 1 } := fun h => by simp [drw, h]
  have hdn : ¬ 0 < s.left → drw s = { s with off := decide (s.left = 1) } := fun h => by simp [drw, h]
  by_cases hl : 0 < s.left
  · rw [hdr hl]
    clear hdr hdn
    have HD := Lib.hid (Dk.cells (w' := (w.setCell ⟨R, 4, none⟩ (.bool (decide (s.left = 1)))).setCell ⟨R, 6, none⟩ (.int .i64 (s.left - 1))) (s' := { s with off := decide (s.left = 1), left := s.left - 1 }) H.out
      ((Foot.setCell _ _ _ _ _ (.inl rfl)).trans (Foot.setCell _ _ _ _ _ (.inl rfl)) (fun _ _ h => h)) (fun i hi => by rw [set_other _ _ _ _ i hi, set_other _ _ _ _ i hi])
      (fun _ _ h => (h.set4 _).set6 _) rfl rfl (by obtain ⟨h1, h2, h3, h4, h5, h6, h7, h8, h9⟩ := OK.out; exact ⟨h1, h2, h3, h4, h5, by simp only; omega, by simp only; omega, h8, h9⟩) (.bool (!decide (s.left = 1))))
    go_enter Try.func65, Try.ntmps65
    go_wp2_with fail
    refine (failing_any H.out).mono ?_
    rintro e w' ⟨rfl, rfl⟩
    go_wp2
    go_ret
    exact HD.out
  · rw [hdn hl]
    clear hdr hdn
    have HD := Lib.hid (Dk.cells (w' := (w.setCell ⟨R, 4, none⟩ (.bool (decide (s.left = 1))))) (s' := { s with off := decide (s.left = 1) }) H.out
      (Foot.setCell _ _ _ _ _ (.inl rfl)) (fun i hi => by rw [set_other _ _ _ _ i hi])
      (fun _ _ h => (h.set4 _)) rfl rfl (by obtain ⟨h1, h2, h3, h4, h5, h6, h7, h8, h9⟩ := OK.out; exact ⟨h1, h2, h3, h4, h5, h6, h7, h8, h9⟩) (.bool (!decide (s.left = 1))))
    go_enter Try.func65, Try.ntmps65
    go_wp2_with fail
    refine (failing_any H.out).mono ?_
    rintro e w' ⟨rfl, rfl⟩
    go_wp2
    go_ret
    exact HD.out

end

end Go.Proofs.Ytpinpljmabhdhaa
