/- nodes: which nodes are meant (key's methods), slices.IndexFunc at such a method, first. -/
import Derived.Test.YtffioglbgnbieaaSt
import Derived.Test.YtffioglbgnbieaaBlk0
import Derived.Test.YtffioglbgnbieaaSched
import Derived.Laws.Cover1
namespace Go.Proofs.Ytffioglbgnbieaa
open Go.RowKit

def nodeV (d : ND) : Value := .agg #[.int .i64 d.id, .int .i64 d.label, .int .i64 d.rack, .int .i64 d.mem, .int .i64 d.cores, .int .i64 d.seen, .int .i64 d.beat, .bool d.up]

theorem isOf_any (k : Int) (d : ND) (w : World) : Calls Try.prog 20 #[.int .i64 k, nodeV d] w fun e w' => e = .returned (.bool (k == d.id)) ∧ Ext w w' := by
  unfold nodeV
  go_enter Try.func20, Try.ntmps20
  go_wp2
  go_ret
  exact ⟨rfl, ext_alloc _ _⟩
theorem isUpTo_any (k : Int) (d : ND) (w : World) : Calls Try.prog 31 #[.int .i64 k, nodeV d] w fun e w' => e = .returned (.bool (decide (k ≤ d.id))) ∧ Ext w w' := by
  unfold nodeV
  go_enter Try.func31, Try.ntmps31
  go_wp2
  go_ret
  exact ⟨rfl, ext_alloc _ _⟩
theorem isBelow_any (k : Int) (d : ND) (w : World) : Calls Try.prog 32 #[.int .i64 k, nodeV d] w fun e w' => e = .returned (.bool (decide (k < d.id))) ∧ Ext w w' := by
  unfold nodeV
  go_enter Try.func32, Try.ntmps32
  go_wp2
  go_ret
  exact ⟨rfl, ext_alloc _ _⟩

theorem fidx_lt {p : ND → Bool} {ds : List ND} {k : Nat} (h : k < ds.findIdx p) : ∃ hk : k < ds.length, p ds[k] = false := by
  have h1 := List.findIdx_le_length (p := p) (xs := ds)
  exact ⟨by omega, by simpa using List.not_of_lt_findIdx h⟩
theorem fidx_step {p : ND → Bool} {ds : List ND} {k : Nat} (hk : k < ds.length) (h : k ≤ ds.findIdx p) (hf : p ds[k] = false) : k + 1 ≤ ds.findIdx p := by
  rcases Nat.lt_or_ge k (ds.findIdx p) with h1 | h1
  · exact h1
  · exfalso
    have e : ds.findIdx p = k := by omega
    have := List.findIdx_getElem (p := p) (xs := ds) (w := by omega)
    simp only [e] at this
    rw [hf] at this
    cases this
theorem fidx_here {p : ND → Bool} {ds : List ND} {k : Nat} (hk : k < ds.length) (h : k ≤ ds.findIdx p) (ht : p ds[k] = true) : ds.findIdx p = k := by
  rcases Nat.lt_or_ge k (ds.findIdx p) with h1 | h1
  · obtain ⟨_, h2⟩ := fidx_lt h1
    rw [ht] at h2
    cases h2
  · omega

/-- A function of a key that says which nodes are meant. -/
def Means (F : Nat) (id : Int) (p : ND → Bool) : Prop := ∀ (d : ND) (W : World), (callFunc F #[.int .i64 id, nodeV d]).run Try.prog W = .ok (.enter F #[.int .i64 id, nodeV d]) W ∧ Calls Try.prog F #[.int .i64 id, nodeV d] W fun e W' => e = .returned (.bool (p d)) ∧ Ext W W'

theorem Means.at {F : Nat} {id : Int} {p : ND → Bool} (h : Means F id p) (d : ND) (W : World) : Calls Try.prog F #[.int .i64 id, .agg #[.int .i64 d.id, .int .i64 d.label, .int .i64 d.rack, .int .i64 d.mem, .int .i64 d.cores, .int .i64 d.seen, .int .i64 d.beat, .bool d.up]] W fun e W' => e = .returned (.bool (p d)) ∧ Ext W W' := (h d W).2
def idxI (p : ND → Bool) (ds : List ND) : Int := if ds.findIdx p < ds.length then (ds.findIdx p : Int) else -1

theorem isOf_means (k : Int) : Means 20 k (fun d => k == d.id) := fun d W => ⟨by rfl, isOf_any k d W⟩
theorem isUpTo_means (k : Int) : Means 31 k (fun d => decide (k ≤ d.id)) := fun d W => ⟨by rfl, isUpTo_any k d W⟩
theorem isBelow_means (k : Int) : Means 32 k (fun d => decide (k < d.id)) := fun d W => ⟨by rfl, isBelow_any k d W⟩

set_option maxRecDepth 100000 in
set_option maxHeartbeats 1600000 in
theorem IndexN_any (F : Nat) (id : Int) (p : ND → Bool) (hF : Means F id p) (v : Value) (ds : List ND) (w : World) (hn : Hd w v ds.length (ncells ds)) (hlen : ds.length ≤ 1000) :
    Calls Try.prog 34 #[v, .func (.func F) #[.int .i64 id] #[]] w fun e w' => e = .returned (.int .i64 (idxI p ds)) ∧ Ext w w' := by
  obtain ⟨A, N, c, rfl, hN, hc1, hc2, hcell⟩ := hn.node
  have HC := Lib.hid hcell
  have HN := Lib.hid hN
  have HF := Lib.hid hF
  have hN1 : N ≤ 1000 := by omega
  clear hcell hN hn hlen hF
  go_enter Try.func34, Try.ntmps34
  go_wp2
  go_loopw [8] (fun i wr => ∃ (k : Nat), k ≤ N ∧ i = .int .i64 k ∧ k ≤ ds.findIdx p ∧ Ext w wr) (fun i _ => N - (intOf i).toNat)
  case atStart => exact ⟨0, by omega, rfl, by omega, Ext.refl _⟩
  case round =>
    obtain ⟨k, hkN, rfl, hno, hx⟩ := hrel
    have HX := Lib.hid hx
    have HNO := Lib.hid hno
    clear hx hno
    have i0 : (0 : Int) ≤ (k : Int) := by omega
    by_cases hlt : k < N
    · have i1 : (k : Int) < (N : Int) := by omega
      have hkd : k < ds.length := by have := HN.out; omega
      obtain ⟨g, rfl, hg⟩ := HC.out (by omega)
      obtain ⟨q0, q1, q2, q3, q4, q5, q6, q7⟩ := hg k hkd
      have q0 := HX.out.cell q0
      have q1 := HX.out.cell q1
      have q2 := HX.out.cell q2
      have q3 := HX.out.cell q3
      have q4 := HX.out.cell q4
      have q5 := HX.out.cell q5
      have q6 := HX.out.cell q6
      have q7 := HX.out.cell q7
      obtain ⟨d, hd⟩ : ∃ d, d = ds[k] := ⟨_, rfl⟩
      have HD := Lib.hid hd
      rw [← hd] at q0 q1 q2 q3 q4 q5 q6 q7
      clear hd hg
      cases hp : p d
      · have HK := Lib.hid (fidx_step hkd HNO.out (by rw [← HD.out]; exact hp))
        have hcf := fun W => (HF.out d W).1
        simp only [nodeV] at hcf
        go_wp2_with fail
        (with_reducible refine (HF.out.at d _).mono ?_)
        rintro e w1 ⟨rfl, hx1⟩
        have X1 := Lib.hid (HX.out.trans hx1)
        clear hx1 q0 q1 q2 q3 q4 q5 q6 q7
        rw [hp]
        clear hp
        go_wp2
        go_roundw
        case rel => exact ⟨k + 1, by omega, by simp, HK.out, X1.out⟩
        case measure => simp [intOf]; omega
      · have HK := Lib.hid (show idxI p ds = (k : Int) by
          have e := fidx_here hkd HNO.out (by rw [← HD.out]; exact hp)
          unfold idxI
          rw [e, if_pos hkd])
        have hcf := fun W => (HF.out d W).1
        simp only [nodeV] at hcf
        go_wp2_with fail
        (with_reducible refine (HF.out.at d _).mono ?_)
        rintro e w1 ⟨rfl, hx1⟩
        have X1 := Lib.hid (HX.out.trans hx1)
        clear hx1 q0 q1 q2 q3 q4 q5 q6 q7
        rw [hp]
        clear hp
        go_wp2
        go_ret
        exact ⟨by rw [HK.out]; rfl, X1.out⟩
    · obtain rfl : k = N := by omega
      have i1 : ¬ (k : Int) < (k : Int) := by omega
      have HK := Lib.hid (show idxI p ds = -1 by unfold idxI; rw [if_neg (by have := HN.out; have := HNO.out; omega)])
      go_wp2
      go_ret
      exact ⟨by rw [HK.out]; rfl, HX.out⟩

theorem first_any (F : Nat) (id : Int) (p : ND → Bool) (hF : Means F id p) (v : Value) (ds : List ND) (w : World) (hn : Hd w v ds.length (ncells ds)) (hlen : ds.length ≤ 1000) :
    Calls Try.prog 19 #[v, .func (.func F) #[.int .i64 id] #[]] w fun e w' => e = .returned (.int .i64 ((ds.findIdx p : Nat) : Int)) ∧ Ext w w' := by
  have HI := Lib.hid (IndexN_any F id p hF v ds w hn hlen)
  obtain ⟨A, N, c, rfl, hN, hc1, hc2, hcell⟩ := hn.node
  have HN := Lib.hid hN
  clear hcell hN hn hlen hF
  have hle := List.findIdx_le_length (p := p) (xs := ds)
  by_cases h : ds.findIdx p < ds.length
  · have HE := Lib.hid (show idxI p ds = ((ds.findIdx p : Nat) : Int) by unfold idxI; rw [if_pos h])
    obtain ⟨k, hk⟩ : ∃ k, k = ds.findIdx p := ⟨_, rfl⟩
    rw [← hk] at HE ⊢
    have k0 : (0 : Int) ≤ (k : Int) := by omega
    clear hk h hle
    go_enter Try.func19, Try.ntmps19
    go_wp2_with fail
    (with_reducible refine (HI.out).mono ?_)
    rintro e w1 ⟨rfl, hx1⟩
    have X1 := Lib.hid hx1
    rw [HE.out]
    clear hx1
    go_wp2
    go_ret
    exact ⟨rfl, X1.out⟩
  · have HE := Lib.hid (show idxI p ds = -1 by unfold idxI; rw [if_neg h])
    have HK := Lib.hid (show ds.findIdx p = N by have := HN.out; omega)
    clear h hle
    go_enter Try.func19, Try.ntmps19
    go_wp2_with fail
    (with_reducible refine (HI.out).mono ?_)
    rintro e w1 ⟨rfl, hx1⟩
    have X1 := Lib.hid hx1
    rw [HE.out]
    clear hx1
    go_wp2
    go_ret
    exact ⟨by rw [HK.out]; rfl, X1.out⟩
end Go.Proofs.Ytffioglbgnbieaa
