/- nodes: within, bounded, ahead, checkNew, checkBeat. -/
import Derived.Test.YtffioglbgnbieaaNdFind
import Derived.Laws.Bits64
import Derived.Deep.CutRange
namespace Go.Proofs.Ytffioglbgnbieaa
open Go.RowKit

def inB (x m : Int) : Bool := decide (0 ≤ x) && decide (x ≤ m)
theorem nwithin_any (x m : Int) (w : World) : Calls Try.prog 42 #[.int .i64 x, .int .i64 m] w fun e w' => e = .returned (.bool (inB x m)) ∧ w = w' := by
  by_cases h : (0 : Int) ≤ x
  · have h1 : decide ((0 : Int) ≤ x) = true := by simpa using h
    have HV := Lib.hid (show inB x m = decide (x ≤ m) by unfold inB; rw [h1]; rfl)
    clear h
    go_enter Try.func42, Try.ntmps42
    go_wp2
    go_ret
    exact ⟨by rw [HV.out]; rfl, rfl⟩
  · have h1 : decide ((0 : Int) ≤ x) = false := by simpa using h
    have HV := Lib.hid (show inB x m = false by unfold inB; rw [h1]; rfl)
    clear h
    go_enter Try.func42, Try.ntmps42
    go_wp2
    go_ret
    exact ⟨by rw [HV.out]; rfl, rfl⟩

def okN (d : ND) (L : Int) : Bool := inB d.id 999 && (inB d.label (L - 1) && (inB d.rack 99 && (inB d.mem 1073741824 && inB d.cores 1073741824)))

set_option maxRecDepth 100000 in
set_option maxHeartbeats 1600000 in
theorem bounded_any (d : ND) (L : Int) (w : World) (hL : 0 ≤ L ∧ L ≤ 1000) : Calls Try.prog 30 #[nodeV d, .int .i64 L] w fun e w' => e = .returned (.bool (okN d L)) ∧ Ext w w' := by
  have hw : IntKind.wrap .i64 (L - 1) = L - 1 := by rw [IntKind.wrap_i64]; omega
  have hw2 : wrap64 (L - 1) = L - 1 := by unfold wrap64; omega
  obtain ⟨M, hM⟩ : ∃ M, M = L - 1 := ⟨_, rfl⟩
  rw [← hM] at hw hw2
  have HM := Lib.hid hM
  rw [hM] at hw hw2
  clear hM hL
  have key : ∀ b1 b2 b3 b4 b5 : Bool, inB d.id 999 = b1 → inB d.label (L - 1) = b2 → inB d.rack 99 = b3 → inB d.mem 1073741824 = b4 → inB d.cores 1073741824 = b5 → Calls Try.prog 30 #[nodeV d, .int .i64 L] w fun e w' => e = .returned (.bool (b1 && (b2 && (b3 && (b4 && b5))))) ∧ Ext w w' := by
    intro b1 b2 b3 b4 b5 e1 e2 e3 e4 e5
    have H1 := Lib.hid (fun W => (e1 ▸ nwithin_any d.id 999 W : Calls Try.prog 42 #[.int .i64 d.id, .int .i64 999] W fun e w' => e = .returned (.bool b1) ∧ W = w'))
    have H2 := Lib.hid (fun W => (e2 ▸ nwithin_any d.label (L - 1) W : Calls Try.prog 42 #[.int .i64 d.label, .int .i64 (L - 1)] W fun e w' => e = .returned (.bool b2) ∧ W = w'))
    have H3 := Lib.hid (fun W => (e3 ▸ nwithin_any d.rack 99 W : Calls Try.prog 42 #[.int .i64 d.rack, .int .i64 99] W fun e w' => e = .returned (.bool b3) ∧ W = w'))
    have H4 := Lib.hid (fun W => (e4 ▸ nwithin_any d.mem 1073741824 W : Calls Try.prog 42 #[.int .i64 d.mem, .int .i64 1073741824] W fun e w' => e = .returned (.bool b4) ∧ W = w'))
    have H5 := Lib.hid (fun W => (e5 ▸ nwithin_any d.cores 1073741824 W : Calls Try.prog 42 #[.int .i64 d.cores, .int .i64 1073741824] W fun e w' => e = .returned (.bool b5) ∧ W = w'))
    clear e1 e2 e3 e4 e5 HM
    unfold nodeV
    have done : ∀ b : Bool, (Ending.returned (Value.bool b)) = .returned (.bool b) := fun _ => rfl
    go_enter Try.func30, Try.ntmps30
    go_wp2_with fail
    (with_reducible refine (H1.out _).mono ?_)
    rintro e w1 ⟨rfl, rfl⟩
    cases b1
    · go_wp2
      go_ret
      exact ⟨rfl, ext_alloc _ _⟩
    go_wp2_with fail
    (with_reducible refine (H2.out _).mono ?_)
    rintro e w1 ⟨rfl, rfl⟩
    cases b2
    · go_wp2
      go_ret
      exact ⟨rfl, ext_alloc _ _⟩
    go_wp2_with fail
    (with_reducible refine (H3.out _).mono ?_)
    rintro e w1 ⟨rfl, rfl⟩
    cases b3
    · go_wp2
      go_ret
      exact ⟨rfl, ext_alloc _ _⟩
    go_wp2_with fail
    (with_reducible refine (H4.out _).mono ?_)
    rintro e w1 ⟨rfl, rfl⟩
    cases b4
    · go_wp2
      go_ret
      exact ⟨rfl, ext_alloc _ _⟩
    go_wp2_with fail
    (with_reducible refine (H5.out _).mono ?_)
    rintro e w1 ⟨rfl, rfl⟩
    go_wp2
    go_ret
    exact ⟨rfl, ext_alloc _ _⟩
  exact key _ _ _ _ _ rfl rfl rfl rfl rfl

theorem ahead_any (a b : Int) (w : World) (h : b ≤ a ∧ a - b < 18446744073709551616) : Calls Try.prog 33 #[.int .i64 a, .int .i64 b] w fun e w' => e = .returned (.int .u64 (a - b)) ∧ w = w' := by
  have HV := Lib.hid (show IntKind.u64.wrap (IntKind.u64.wrap a - IntKind.u64.wrap b) = a - b by
    rw [IntKind.wrap_u64, IntKind.wrap_u64, IntKind.wrap_u64, ← Int.sub_emod, Int.emod_eq_of_lt (by omega) (by omega)])
  clear h
  go_enter Try.func33, Try.ntmps33
  go_wp2
  go_ret
  exact ⟨by rw [← HV.out]; rfl, rfl⟩

/-- What is wrong with a new node: it may be (b1), one is live (b2), one is there (b3), there are as many as may be (b4). -/
def errNew (b1 b2 b3 b4 : Bool) : Int := if b1 then if b2 then 7 else if b3 then 0 else if b4 then 4 else 0 else 1
def newE (ds : List ND) (L : Int) (d : ND) : Int := errNew (okN d L) (getN ds d.id).up (hasN ds d.id) (decide ((12 : Int) ≤ ds.length))

set_option maxRecDepth 100000 in
set_option maxHeartbeats 1600000 in
theorem checkNew_any (s : SV) (ds : List ND) (d : ND) (A : Option Addr) (L c : Nat) (w : World) (hn : Hd w s.vn ds.length (ncells ds)) (hlen : ds.length ≤ 1000) (hl : s.vl = .slice A L c) (hL : L ≤ 1000) :
    Calls Try.prog 16 #[s.val, nodeV d] w fun e w' => e = .returned (.int .i64 (newE ds L d)) ∧ Ext w w' := by
  have HI := Lib.hid (fun W (x : Ext w W) => Find_any s ds d.id W (hn.ext x) hlen)
  have HJ := Lib.hid (fun W => bounded_any d L W (by omega))
  unfold newE
  obtain ⟨A', N, c', e, hN, hc1, hc2, hcell⟩ := hn.node
  have HN := Lib.hid hN
  clear hcell hn hlen hL
  have key : ∀ b1 b2 b3 b4 : Bool, okN d L = b1 → (getN ds d.id).up = b2 → hasN ds d.id = b3 → decide ((12 : Int) ≤ ds.length) = b4 → Calls Try.prog 16 #[s.val, nodeV d] w fun e w' => e = .returned (.int .i64 (errNew b1 b2 b3 b4)) ∧ Ext w w' := by
    intro b1 b2 b3 b4 e1 e2 e3 e4
    obtain ⟨k, hk⟩ : ∃ k, k = getN ds d.id := ⟨_, rfl⟩
    rw [e3, ← hk] at HI
    rw [← hk] at e2
    rw [e1] at HJ
    rw [← HN.out] at e4
    clear hk e1 e3 hN
    obtain ⟨vl, vq, vn, va, vc, vs, vp, nw, ep, sq⟩ := s
    simp only at e hl HI
    subst e hl
    unfold nodeV
    simp only [SV.val, nodeV] at HI HJ ⊢
    go_enter Try.func16, Try.ntmps16
    go_wp2_with fail
    (with_reducible refine (HI.out _ ((ext_alloc _ _).trans (ext_alloc _ _))).mono ?_)
    rintro e w1 ⟨rfl, hx1⟩
    have X1 := Lib.hid (((ext_alloc w (.cells #[.slice A L c, vq, .slice A' N c', va, vc, vs, vp, .int .i64 nw, .int .i64 ep, .int .i64 sq] 34)).trans (ext_alloc _ (.cells #[.int .i64 d.id, .int .i64 d.label, .int .i64 d.rack, .int .i64 d.mem, .int .i64 d.cores, .int .i64 d.seen, .int .i64 d.beat, .bool d.up] 44))).trans hx1)
    have HS := Lib.hid (ext_blk hx1 (ext_blk (ext_alloc _ _) (heap_alloc_new w (.cells #[.slice A L c, vq, .slice A' N c', va, vc, vs, vp, .int .i64 nw, .int .i64 ep, .int .i64 sq] 34))))
    have HT := Lib.hid (ext_blk hx1 (alloc_at (w := w.alloc (.cells #[.slice A L c, vq, .slice A' N c', va, vc, vs, vp, .int .i64 nw, .int .i64 ep, .int .i64 sq] 34)) (n := w.heap.size + 1) (o := .cells #[.int .i64 d.id, .int .i64 d.label, .int .i64 d.rack, .int .i64 d.mem, .int .i64 d.cores, .int .i64 d.seen, .int .i64 d.beat, .bool d.up] 44) (by simp)))
    clear hx1
    obtain ⟨B, hB⟩ : ∃ B, B = w.heap.size := ⟨_, rfl⟩
    have HB := Lib.hid hB
    rw [← hB] at HS HT ⊢
    clear hB
    go_upto_region 2 with fail
    refine at_world (fun W2 hW2 => ?_)
    have HK := Lib.hid (show W2.heap[w1.heap.size]? = some (.cells #[.int .i64 k.id, .int .i64 k.label, .int .i64 k.rack, .int .i64 k.mem, .int .i64 k.cores, .int .i64 k.seen, .int .i64 k.beat, .bool b2] 44 (0, 0)) by rw [hW2]; exact heap_alloc_new w1 _)
    have E2 := Lib.hid (show Ext w1 W2 by rw [hW2]; exact ext_alloc _ _)
    have X2 := Lib.hid (X1.out.trans E2.out)
    clear hW2
    have hs := ext_blk E2.out HS.out
    have ht := ext_blk E2.out HT.out
    have a0 := bcel hs 0 (.slice A L c) rfl
    have t0 := bcel ht 0 (.int .i64 d.id) rfl
    have t1 := bcel ht 1 (.int .i64 d.label) rfl
    have t2 := bcel ht 2 (.int .i64 d.rack) rfl
    have t3 := bcel ht 3 (.int .i64 d.mem) rfl
    have t4 := bcel ht 4 (.int .i64 d.cores) rfl
    have t5 := bcel ht 5 (.int .i64 d.seen) rfl
    have t6 := bcel ht 6 (.int .i64 d.beat) rfl
    have t7 := bcel ht 7 (.bool d.up) rfl
    obtain ⟨C, hC⟩ : ∃ C, C = w1.heap.size := ⟨_, rfl⟩
    rw [← hC] at HK ⊢
    clear hC hs ht
    go_wp2_with fail
    (with_reducible refine (HJ.out _).mono ?_)
    rintro e w3 ⟨rfl, hx3⟩
    have X3 := Lib.hid (X2.out.trans hx3)
    have hs := ext_blk hx3 (ext_blk E2.out HS.out)
    have hk := ext_blk hx3 HK.out
    have a2 := bcel hs 2 (.slice A' N c') rfl
    have k7 := bcel hk 7 (.bool b2) rfl
    clear hx3 a0 t0 t1 t2 t3 t4 t5 t6 t7 hs hk
    cases b1
    · go_wp2
      go_ret
      exact ⟨rfl, X3.out⟩
    cases b2
    · cases b3
      · cases b4
        · have q : decide ((12 : Int) ≤ (N : Int)) = false := e4
          clear e4
          go_wp2
          go_ret
          exact ⟨rfl, X3.out⟩
        · have q : decide ((12 : Int) ≤ (N : Int)) = true := e4
          clear e4
          go_wp2
          go_ret
          exact ⟨rfl, X3.out⟩
      · clear e4
        go_wp2
        go_ret
        exact ⟨rfl, X3.out⟩
    · go_wp2
      go_ret
      exact ⟨rfl, X3.out⟩
  exact key _ _ _ _ rfl rfl rfl rfl

/-- What is wrong with a heartbeat: the node is there (b1), is live (b2), how far the number is ahead of the last one. -/
def errBeat (b1 b2 : Bool) (x y : Int) : Int := if b1 then if b2 then if x < y then 15 else if x - y > 1 then 1 else 0 else 18 else 2
def beatE (ds : List ND) (id x : Int) : Int := errBeat (hasN ds id) (getN ds id).up x (getN ds id).beat

set_option maxRecDepth 100000 in
set_option maxHeartbeats 1600000 in
theorem checkBeat_any (s : SV) (ds : List ND) (id x : Int) (w : World) (hn : Hd w s.vn ds.length (ncells ds)) (hlen : ds.length ≤ 1000) (hx : x ≤ 9223372036854775807) (hb : 0 ≤ (getN ds id).beat) :
    Calls Try.prog 18 #[s.val, .int .i64 id, .int .i64 x] w fun e w' => e = .returned (.int .i64 (beatE ds id x)) ∧ Ext w w' := by
  have HI := Lib.hid (fun W (x : Ext w W) => Find_any s ds id W (hn.ext x) hlen)
  unfold beatE
  clear hn hlen
  obtain ⟨k, hk⟩ : ∃ k, k = getN ds id := ⟨_, rfl⟩
  rw [← hk] at HI hb ⊢
  obtain ⟨b1, hb1⟩ : ∃ b, b = hasN ds id := ⟨_, rfl⟩
  rw [← hb1] at HI ⊢
  clear hk hb1
  have key : ∀ b2 : Bool, k.up = b2 → Calls Try.prog 18 #[s.val, .int .i64 id, .int .i64 x] w fun e w' => e = .returned (.int .i64 (errBeat b1 b2 x k.beat)) ∧ Ext w w' := by
    intro b2 e2
    obtain ⟨vl, vq, vn, va, vc, vs, vp, nw, ep, sq⟩ := s
    obtain ⟨kid, klabel, krack, kmem, kcores, kseen, kbeat, kup⟩ := k
    simp only at e2 hb
    subst e2
    simp only [SV.val, nodeV] at HI ⊢
    go_enter Try.func18, Try.ntmps18
    go_wp2_with fail
    (with_reducible refine (HI.out _ (ext_alloc _ _)).mono ?_)
    rintro e w1 ⟨rfl, hx1⟩
    have X1 := Lib.hid ((ext_alloc w (.cells #[vl, vq, vn, va, vc, vs, vp, .int .i64 nw, .int .i64 ep, .int .i64 sq] 34)).trans hx1)
    clear hx1
    go_upto_region 2 with fail
    refine at_world (fun W2 hW2 => ?_)
    have HK := Lib.hid (show W2.heap[w1.heap.size]? = some (.cells #[.int .i64 kid, .int .i64 klabel, .int .i64 krack, .int .i64 kmem, .int .i64 kcores, .int .i64 kseen, .int .i64 kbeat, .bool kup] 44 (0, 0)) by rw [hW2]; exact heap_alloc_new w1 _)
    have X2 := Lib.hid (X1.out.trans (show Ext w1 W2 by rw [hW2]; exact ext_alloc _ _))
    clear hW2
    have k5 := bcel HK.out 6 (.int .i64 kbeat) rfl
    have k7 := bcel HK.out 7 (.bool kup) rfl
    obtain ⟨C, hC⟩ : ∃ C, C = w1.heap.size := ⟨_, rfl⟩
    rw [← hC] at k5 k7 ⊢
    clear hC HK
    cases b1
    · go_wp2
      go_ret
      exact ⟨rfl, X2.out⟩
    cases kup
    · go_wp2
      go_ret
      exact ⟨rfl, X2.out⟩
    by_cases h1 : x < kbeat
    · have q : decide (x < kbeat) = true := by simpa using h1
      have HV := Lib.hid (show errBeat true true x kbeat = 15 by unfold errBeat; simp [h1])
      clear h1
      go_wp2
      go_ret
      exact ⟨by rw [HV.out]; rfl, X2.out⟩
    have q : decide (x < kbeat) = false := by simpa using h1
    have HA := Lib.hid (fun W => ahead_any x kbeat W (by omega))
    by_cases h2 : x - kbeat > 1
    · have q2 : decide (x - kbeat > 1) = true := by simpa using h2
      have q3 : decide (1 < x - kbeat) = true := by simpa using h2
      have HV := Lib.hid (show errBeat true true x kbeat = 1 by unfold errBeat; simp [h1, h2])
      clear h1 h2 hb
      go_wp2_with fail
      (with_reducible refine (HA.out _).mono ?_)
      rintro e w3 ⟨rfl, rfl⟩
      go_wp2
      go_ret
      exact ⟨by rw [HV.out]; rfl, X2.out⟩
    · have q2 : decide (x - kbeat > 1) = false := by simpa using h2
      have q3 : decide (1 < x - kbeat) = false := by simpa using h2
      have HV := Lib.hid (show errBeat true true x kbeat = 0 by unfold errBeat; simp [h1, h2])
      clear h1 h2 hb
      go_wp2_with fail
      (with_reducible refine (HA.out _).mono ?_)
      rintro e w3 ⟨rfl, rfl⟩
      go_wp2
      go_ret
      exact ⟨by rw [HV.out]; rfl, X2.out⟩
  exact key _ rfl
end Go.Proofs.Ytffioglbgnbieaa
