/- slices.Backward over texts: the iterator's contract. -/
import Derived.RangeFuncNested
import Derived.RangeFuncBound
import Derived.RangeFuncCalls
import Derived.RangeFuncLeaves
import Derived.Shelf.Abstract
import Derived.Shelf.RegionOpen
import Derived.WalkKit
import Derived.OwnWalkIn
import Derived.TacticsInMore
import Derived.LoopNIn
import Derived.LoopIn
import Derived.Test.YtflbhnckhbcboaaBlk0
namespace Go.Proofs.Ytflbhnckhbcboaa
open Go.RowKit Go.Shelf

attribute [local go_sem] Oper.semAt_some

/-- What has come when k rounds are over. -/
def backs (zs : List Tx) (k : Nat) : List (Nat × Tx) := (List.range k).map fun j => (zs.length - 1 - j, zs.getD (zs.length - 1 - j) [])
theorem backs_succ (zs : List Tx) (k : Nat) : backs zs (k + 1) = backs zs k ++ [(zs.length - 1 - k, zs.getD (zs.length - 1 - k) [])] := by simp [backs, List.range_succ]
theorem backs_length (zs : List Tx) (k : Nat) : (backs zs k).length = k := by simp [backs]
theorem getD_at (zs : List Tx) {j : Nat} (h : j < zs.length) : zs.getD j [] = zs[j] := by rw [List.getD_eq_getElem?_getD, List.getElem?_eq_getElem h]; rfl

/-- The slice value at Bs holds the texts zs. -/
def TxsAt (n₀ Bs : Nat) (W : World) (zs : List Tx) : Prop := ∃ A c, W.cell? ⟨Bs, 0, none⟩ = some (.slice A zs.length c) ∧ (0 < zs.length → ∃ b, A = some ⟨b, 0, none⟩ ∧ b < n₀ ∧ ∀ j (h : j < zs.length), W.cell? ⟨b, j, none⟩ = some (sv zs[j]))
theorem TxsAt.below {n₀ Bs : Nat} {A B : World} {zs : List Tx} (hB : Bs < n₀) (x : Below n₀ A B) (h : TxsAt n₀ Bs A zs) : TxsAt n₀ Bs B zs := by
  obtain ⟨a, c, h1, h2⟩ := h
  refine ⟨a, c, (x.cell (p := ⟨Bs, 0, none⟩) hB).trans h1, fun hn => ?_⟩
  obtain ⟨b, rfl, hb, hc⟩ := h2 hn
  exact ⟨b, rfl, hb, fun j hj => (x.cell (p := ⟨b, j, none⟩) hb).trans (hc j hj)⟩

set_option maxRecDepth 100000 in
set_option maxHeartbeats 2000000 in
theorem back1_in (F : Fence) (n : Nat) (hF : F.fn 25) (hro : F.round = none) (hn : 1 ≤ n) (l Bs n₀ : Nat) (zs : List Tx) (hreach : zs.length ≤ 1000000000) (hBn : Bs < n₀) (J Jx : List (Nat × Tx) → World → Prop)
    (hY : ∀ pre x W, J pre W → pre.length < zs.length → x.2 ∈ zs → YieldAt F (n - 1) Try.prog l #[.int .i64 (x.1 : Int), sv x.2] W fun e W' =>
      (e = .returned (.bool true) ∧ J (pre ++ [x]) W' ∧ Below n₀ W W') ∨ (e = .returned (.bool false) ∧ Jx (pre ++ [x]) W'))
    (W : World) (hZ : TxsAt n₀ Bs W zs) (h0 : J [] W) :
    CallsIn F n Try.prog 25 #[.func (.yield l) #[] #[], .pointer (some ⟨Bs, 0, none⟩)] W fun e W' => (∃ v, e = .returned v) ∧
      ((∃ ys, ys = backs zs zs.length ∧ J ys W') ∨ (∃ pre, (∃ k, k ≤ zs.length ∧ pre = backs zs k) ∧ Jx pre W')) := by
  have HZ := Lib.hid hZ
  obtain ⟨A, c, hz1, hz2⟩ := hZ
  obtain ⟨len, hlen⟩ : ∃ len, len = zs.length := ⟨_, rfl⟩
  rw [← hlen] at hz1 hreach
  have HL := Lib.hid hlen
  clear hz2 hlen
  refine callsIn_of_wp Try.func25 rfl hF ?_ hro
  simp only [Try.ntmps25, List.size_toArray, List.length_cons, List.length_nil, Nat.reduceAdd, Nat.reduceSub, Array.replicate_succ, Array.replicate_zero, List.push_toArray, List.append_toArray, List.nil_append, List.cons_append]
  gi_wp2
  gi_loopw [3] (fun i wr => ∃ k : Nat, k ≤ len ∧ i = .int .i64 ((len : Int) - 1 - (k : Int)) ∧ J (backs zs k) wr ∧ Below n₀ W wr)
    (fun i _ => (intOf i + 1).toNat)
  case atStart => exact ⟨0, Nat.zero_le _, by simp, h0, Below.refl _ _⟩
  case round =>
    obtain ⟨k, hk, rfl, hJs, hnx⟩ := hrel
    have HZ2 := Lib.hid (HZ.out.below hBn hnx)
    obtain ⟨A2, c2, y1, y2⟩ := HZ2.out
    rw [← HL.out] at y1
    by_cases hlt : k < len
    · have i1 : (0 : Int) ≤ (len : Int) - 1 - (k : Int) := by omega
      have i2 : (len : Int) - 1 - (k : Int) < (len : Int) := by omega
      obtain ⟨b, rfl, hb, hc⟩ := y2 (by have := HL.out; omega)
      obtain ⟨m, hm⟩ : ∃ m : Nat, m = len - 1 - k := ⟨_, rfl⟩
      have i3 : (len : Int) - 1 - (k : Int) = (m : Int) := by omega
      have hml : m < zs.length := by have := HL.out; omega
      have hcx := hc m hml
      obtain ⟨fn, tmps, assign, body, hy, hR⟩ := hY _ (m, zs[m]) wr hJs (by rw [backs_length, ← HL.out]; exact hlt) (List.getElem_mem hml)
      have HS := Lib.hid (show backs zs (k + 1) = backs zs k ++ [(m, zs[m])] by rw [backs_succ, ← HL.out, ← hm, getD_at zs hml])
      dsimp only at hy
      obtain ⟨T, hT⟩ : ∃ T, T = sv zs[m] := ⟨_, rfl⟩
      rw [← hT] at hcx hy
      have hT' : ∃ t : ByteArray, T = .string t := ⟨_, hT⟩
      obtain ⟨t, rfl⟩ := hT'
      rw [i3]
      have j1 : (0 : Int) ≤ (m : Int) := by omega
      have j2 : (m : Int) < (len : Int) := by omega
      have HI3 := Lib.hid i3
      have HMK := Lib.hid hm
      clear hc y2 i1 i2 i3 hm hT
      gi_wp2
      refine hR.mono ?_
      rintro e W3 (⟨rfl, hJ3, hk3⟩ | ⟨rfl, hJx3⟩)
      · gi_wp2
        go_roundw
        case rel => exact ⟨k + 1, by omega, by have := HI3.out; simp; omega, by rw [HS.out]; exact hJ3, hnx.trans hk3⟩
        case measure => (have := HI3.out; simp [intOf] <;> omega)
      · gi_wp2
        refine bodyPost_ret (results_none rfl _ _ _) rfl ?_
        exact ⟨⟨_, rfl⟩, .inr ⟨_, ⟨k + 1, by have := HL.out; omega, HS.out.symm⟩, hJx3⟩⟩
    · obtain rfl : k = len := by omega
      have i1 : ¬ (0 : Int) ≤ (k : Int) - 1 - (k : Int) := by omega
      gi_wp2
      go_end0
      exact ⟨⟨_, rfl⟩, .inl (by rw [← HL.out]; exact hJs)⟩

theorem Backward_any (A : Option Addr) (len c : Nat) (w : World) : Calls Try.prog 18 #[.slice A len c] w fun e w' => e = .returned (.func (.func 25) #[] #[.pointer (some ⟨w.heap.size, 0, none⟩)]) ∧ w' = w.alloc (.cells #[.slice A len c] 26) := by
  go_enter Try.func18, Try.ntmps18
  go_wp2
  go_ret
  exact ⟨rfl, rfl⟩

/-- What comes: a place, a text of zs. -/
abbrev Elt (zs : List Tx) : Type := { x : Nat × Tx // x.2 ∈ zs }
theorem back_stops (F : Fence) (n : Nat) (hF : F.fn 25) (hro : F.round = none) (hn : 1 ≤ n) (Bs n₀ : Nat) (zs : List Tx) (hreach : zs.length ≤ 1000000000) (hBn : Bs < n₀) (w : World) (hn₀ : n₀ ≤ w.heap.size) (hZ : TxsAt n₀ Bs w zs) :
    SeqStopsK F n Try.prog 25 #[.pointer (some ⟨Bs, 0, none⟩)] (fun x : Elt zs => #[Value.int .i64 (x.1.1 : Int), sv x.1.2]) (Below n₀) (fun ys => ys.map (·.1) = backs zs zs.length) (fun pre => ∃ k, k ≤ zs.length ∧ pre.map (·.1) = backs zs k) zs.length w := fun l J Jx W hW _ _ hY h0 => by
  refine (back1_in F n hF hro hn l Bs n₀ zs hreach hBn (fun p W => ∃ q : List (Elt zs), q.map (·.1) = p ∧ J q W) (fun p W => ∃ q : List (Elt zs), q.map (·.1) = p ∧ Jx q W) ?_ W (hZ.below hBn (hW.mono hn₀)) ⟨[], rfl, h0⟩).mono ?_
  · rintro pre x W1 ⟨q, rfl, hq⟩ hl hx
    obtain ⟨f1, t1, a1, b1, hy1, hR1⟩ := hY q ⟨x, hx⟩ W1 hq (by simpa using hl)
    refine ⟨f1, t1, a1, b1, hy1, hR1.mono ?_⟩
    rintro e W2 (⟨rfl, hj, hk⟩ | ⟨rfl, hj⟩)
    · exact .inl ⟨rfl, ⟨_, by simp, hj⟩, hk⟩
    · exact .inr ⟨rfl, ⟨_, by simp, hj⟩⟩
  · rintro e W2 ⟨he, ⟨ys, rfl, q, hq, hj⟩ | ⟨pre, ⟨k, hk, rfl⟩, q, hq, hj⟩⟩
    · exact ⟨he, .inl ⟨q, hq, hj⟩⟩
    · exact ⟨he, .inr ⟨q, ⟨k, hk, hq⟩, hj⟩⟩
end Go.Proofs.Ytflbhnckhbcboaa
