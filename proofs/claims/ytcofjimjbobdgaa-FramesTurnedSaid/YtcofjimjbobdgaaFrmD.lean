/- frames.first: the record of the frame that a log begins with. -/
import Derived.Test.YtcofjimjbobdgaaFrmB
namespace Go.Proofs.Ytcofjimjbobdgaa
open Go.RowKit

theorem bvs_take (l : List UInt8) (k : Nat) : (bvs l).take k = bvs (l.take k) := by simp [bvs, List.map_take]
theorem bvs_drop (l : List UInt8) (k : Nat) : (bvs l).drop k = bvs (l.drop k) := by simp [bvs, List.map_drop]

/-- None, whatever stands beside it. -/
def FNone (w : World) (e : Ending) (w' : World) : Prop := ∃ A n c, e = .returned (.tuple #[.slice A n c, .bool false]) ∧ Ext w w'
/-- This record, in the log's own memory. -/
def FSome (v : Value) (r : List UInt8) (w : World) (e : Ending) (w' : World) : Prop := ∃ A c, e = .returned (.tuple #[.slice A r.length c, .bool true]) ∧ Rd w' (.slice A r.length c) (bvs r) ∧ (Value.slice A r.length c).ownBlock = v.ownBlock ∧ Ext w w'

theorem quiet_same {P : Program} {f : FuncId} {args : Array Value} {w : World} {n : Nat} {v : Value}
    (h : Calls P f args (w.drewN n) fun e w' => e = .returned v ∧ w.drewN n = w') : Calls P f args (w.drewN n) fun e w'' => e = .returned v ∧ ∃ m, w'' = w.drewN m :=
  h.mono fun _ _ ⟨he, hm⟩ => ⟨he, n, hm.symm⟩

theorem fst_short (v : Value) (l : List UInt8) (w : World) (hr : Rd w v (bvs l)) (h8 : l.length < 8) :
    Calls Try.prog 20 #[v] w (FNone w) := by
  obtain ⟨A, N, c, rfl, hN, hc1, hc2, hcell⟩ := hr.open
  have h : (N : Int) < 8 := by omega
  clear hN hcell hr h8
  go_enter Try.func20, Try.ntmps20
  go_wp2
  go_ret2
  exact ⟨_, _, _, rfl, Ext.refl w⟩

theorem u32_ip {N : Nat} (h : N < 4294967296) : IntKind.i64.wrap (N : Int) = (N : Int) := IntWalk.i64_in _ (by omega)

def FAns (v : Value) (q : Option (List UInt8)) (w : World) (e : Ending) (w' : World) : Prop := match q with | none => FNone w e w' | some r => FSome v r w e w'

/-- What the first eight bytes come to. -/
theorem fst?_parts {l : List UInt8} (h8 : 8 ≤ l.length) : fst? l = if 4000 < va (l.take 4) ∨ l.length - 8 < va (l.take 4) then none else if crc ((l.drop 8).take (va (l.take 4))) = va ((l.drop 4).take 4) then some ((l.drop 8).take (va (l.take 4))) else none := by
  unfold fst?; rw [if_neg (by omega)]

set_option maxHeartbeats 1600000 in
theorem fst_any (v : Value) (l : List UInt8) (w : World) (hr : Rd w v (bvs l)) (h8 : 8 ≤ l.length) :
    Calls Try.prog 20 #[v] w (FAns v (fst? l) w) := by
  have HR := Lib.hid hr
  have W0 := fun k => word_any v l (w.drewN k) (hr.ext (ext_drewN _ _)) (by omega)
  obtain ⟨A, N, c, rfl, hN, hc1, hc2, hcell⟩ := hr.open
  obtain ⟨i0, hi, hz0, hz1, hz2⟩ := info_parts Try.infoU8
  have h : ¬ (N : Int) < 8 := by omega
  have hs4 : ∀ (W : World) (kl : IntKind), (Instr.slice 22 (.slice A N c) (some (.int kl 4)) none none).run Try.prog W = .ok (.slice (subA A 4 c) (N - 4) (c - 4)) W := fun W kl => sl_l (A := A) (n := N) (c := c) (l := 4) Try.underlying22 hi hz1 (by omega) W kl
  have hs8 : ∀ (W : World) (kl : IntKind), (Instr.slice 22 (.slice A N c) (some (.int kl 8)) none none).run Try.prog W = .ok (.slice (subA A 8 c) (N - 8) (c - 8)) W := fun W kl => sl_l (A := A) (n := N) (c := c) (l := 8) Try.underlying22 hi hz1 (by omega) W kl
  have W4 := fun k => word_any _ (l.drop 4) (w.drewN k) (by have := (HR.out.ext (ext_drewN _ k)).subl (l := 4) (by omega); rwa [bvs_drop] at this) (by simp; omega)
  rw [fst?_parts h8]
  have hn4 := va_lt (l.take 4)
  rw [show (l.take 4).length = 4 by simp; omega] at hn4
  have hm4 := va_lt ((l.drop 4).take 4)
  rw [show ((l.drop 4).take 4).length = 4 by simp; omega] at hm4
  simp only [Nat.reducePow] at hn4 hm4
  generalize va (l.take 4) = n at *
  generalize va ((l.drop 4).take 4) = m at *
  have HW0 := Lib.hid W0
  have HW4 := Lib.hid W4
  have hw : IntKind.i64.wrap (n : Int) = (n : Int) := IntWalk.i64_in _ (by omega)
  clear W0 W4 hcell hr h8
  have HN := Lib.hid hN
  by_cases h1 : 4000 < n
  · rw [if_pos (.inl h1)]
    have h1 : (4000 : Int) < (n : Int) := by omega
    clear hN
    go_enter Try.func20, Try.ntmps20
    go_wp2
    go_quiet ((first | (go_at_call 25; (with_reducible exact quiet_same (HW0.out _))) | (go_at_call 25; (with_reducible exact quiet_same (HW4.out _)))))
    go_wp2
    go_ret2
    exact ⟨_, _, _, rfl, ext_drewN _ _⟩
  · by_cases h2 : l.length - 8 < n
    · rw [if_pos (.inr h2)]
      rw [← hN] at h2
      have h2' : ((N - 8 : Nat) : Int) < (n : Int) := by omega
      have h1 : ¬ (4000 : Int) < (n : Int) := by omega
      clear hN
      go_enter Try.func20, Try.ntmps20
      go_wp2
      go_quiet ((first | (go_at_call 25; (with_reducible exact quiet_same (HW0.out _))) | (go_at_call 25; (with_reducible exact quiet_same (HW4.out _)))))
      go_wp2
      go_ret2
      exact ⟨_, _, _, rfl, ext_drewN _ _⟩
    · rw [if_neg (by omega)]
      rw [← hN] at h2
      have h2' : ¬ ((N - 8 : Nat) : Int) < (n : Int) := by omega
      have h1 : ¬ (4000 : Int) < (n : Int) := by omega
      have hsz : ∀ (W : World) (kl : IntKind), (Instr.slice 22 (.slice (subA A 8 c) (N - 8) (c - 8)) none (some (.int kl (n : Int))) none).run Try.prog W = .ok (.slice (subA (subA A 8 c) 0 (c - 8)) n (c - 8)) W := fun W kl => sl_h (A := subA A 8 c) (n := N - 8) (c := c - 8) (h := n) Try.underlying22 hi hz1 (by omega) W kl
      have hrec : ∀ k, Rd (w.drewN k) (.slice (subA (subA A 8 c) 0 (c - 8)) n (c - 8)) (bvs ((l.drop 8).take n)) := fun k => by
        have := ((HR.out.ext (ext_drewN _ k)).subl (l := 8) (by omega)).sub0 (k := n) (by omega)
        rwa [bvs_drop, bvs_take] at this
      have hlen : ((l.drop 8).take n).length = n := by simp; omega
      have HREC := Lib.hid hrec
      have HLEN := Lib.hid hlen
      have HB := Lib.hid (show (Value.slice (subA (subA A 8 c) 0 (c - 8)) n (c - 8)).ownBlock = (Value.slice A N c).ownBlock from (subA_block (n' := N) (c'' := c)).trans subA_block)
      clear hrec hlen hN
      generalize subA (subA A 8 c) 0 (c - 8) = A2 at *
      generalize (l.drop 8).take n = rec at *
      by_cases h3 : crc rec = m
      · rw [if_pos h3]
        subst h3
        go_enter Try.func20, Try.ntmps20
        go_wp2
        go_quiet ((first | (go_at_call 25; (with_reducible exact quiet_same (HW0.out _))) | (go_at_call 25; (with_reducible exact quiet_same (HW4.out _)))))
        go_wp2_with fail
        (with_reducible refine (Crc_any _ rec _ (HREC.out _)).mono ?_)
        rintro e w' ⟨rfl, rfl⟩
        go_wp2
        go_ret2
        have hl := HLEN.out
        subst hl
        exact ⟨_, _, rfl, HREC.out _, HB.out, ext_drewN _ _⟩
      · rw [if_neg h3]
        have h3' : (((crc rec : Nat) : Int) == (m : Int)) = false := by simp; omega
        clear h3
        go_enter Try.func20, Try.ntmps20
        go_wp2
        go_quiet ((first | (go_at_call 25; (with_reducible exact quiet_same (HW0.out _))) | (go_at_call 25; (with_reducible exact quiet_same (HW4.out _)))))
        go_wp2_with fail
        (with_reducible refine (Crc_any _ rec _ (HREC.out _)).mono ?_)
        rintro e w' ⟨rfl, rfl⟩
        go_wp2
        go_ret2
        exact ⟨_, _, _, rfl, ext_drewN _ _⟩

theorem fst_all (v : Value) (l : List UInt8) (w : World) (hr : Rd w v (bvs l)) :
    Calls Try.prog 20 #[v] w (FAns v (fst? l) w) := by
  by_cases h8 : 8 ≤ l.length
  · exact fst_any v l w hr h8
  · have : fst? l = none := by unfold fst?; rw [if_pos (by omega)]
    rw [this]
    exact fst_short v l w hr (by omega)

end Go.Proofs.Ytcofjimjbobdgaa
