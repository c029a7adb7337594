/- dispatchlaw5.ConfBounds: the walk. -/
import Derived.Test.YtonbplofbcnijaaDoorKnown5
import Derived.Laws.Concat
import Derived.ChangeSlices
import Derived.OpenShut
import Derived.ChangeOld
import Derived.ChangeSame
import Derived.ChangeMaps
import Derived.JoinedOf
import Derived.JoinedAt
import Derived.RowKit3
import Derived.Lib.SmallJoins
namespace Go.Proofs.YtonbplofbcnijaaDoor.ConfBounds
open Go.ChangeShapes Go.WideShapes Go.ChangeAt Go.RowKit Go.Joins

theorem ba_app (a b : ByteArray) : (a ++ b).data.toList = a.data.toList ++ b.data.toList := by
  cases a; cases b; simp
theorem ba_apps (a b : ByteArray) : (a ++ b).size = a.size + b.size := by rw [ba_size, ba_app, List.length_append, ← ba_size, ← ba_size]

theorem nl_size : (⟨#[10]⟩ : ByteArray).size = 1 := rfl
def feeds (k : Nat) : Tx := [108, 97, 98, 101, 108, 115, 10] ++ List.replicate k 10
theorem feeds_length (k : Nat) : (feeds k).length = 7 + k := by simp [feeds]; omega
theorem feeds_snoc (k : Nat) : feeds (k + 1) = feeds k ++ [10] := by simp [feeds, List.replicate_succ']
theorem lines_feeds : ∀ k, pcs 10 [] (List.replicate k 10) = List.replicate (k + 1) []
  | 0 => rfl
  | k + 1 => by
    rw [List.replicate_succ]
    simp only [pcs, if_true]
    rw [lines_feeds k, List.replicate_succ (n := k + 1)]
theorem run_blank : ∀ (k : Nat) (s : CD), runC s ((List.replicate k ([] : Tx)).map wordsOf) = (0, s)
  | 0, s => rfl
  | k + 1, s => by
    rw [List.replicate_succ, List.map_cons]
    have : wordsOf [] = [] := rfl
    rw [this]
    simp only [runC, if_true]
    exact run_blank k s
theorem feeds_ok {k : Nat} (h : 7 + k ≤ 2000) : (parseC (feeds k)).1 = 0 := by
  have hl : linesOf (feeds k) = wLabels :: List.replicate (k + 1) [] := by
    have : feeds k = wLabels ++ 10 :: List.replicate k 10 := rfl
    rw [this, lines_at rfl (by decide)]
    unfold linesOf
    rw [lines_feeds]
  have hr : runC .none ((linesOf (feeds k)).map wordsOf) = (0, ⟨[[]], []⟩) := by
    rw [hl, List.map_cons]
    have h1 : wordsOf wLabels = [wLabels] := by decide +kernel
    rw [h1]
    have h2 := run_blank (k + 1) ⟨[[]], []⟩
    simp only [runC]
    rw [if_neg (by simp)]
    have h3 : step .none [wLabels] = (0, ⟨[[]], []⟩) := by decide +kernel
    rw [h3, if_pos rfl]
    exact h2
  rw [parse_fin (by rw [feeds_length]; omega) hr]
  rfl
theorem feeds_over {k : Nat} (h : 2000 < 7 + k) : (parseC (feeds k)).1 = 5 := by rw [parse_long (by rw [feeds_length]; exact h)]

def qline (k : Nat) : Tx := [113, 117, 101, 117, 101, 32, 114, 111, 111, 116, 46] ++ [UInt8.ofNat (97 + k)] ++ [32, 49, 32, 49, 47, 49, 10]
def textQ : Nat → Tx
  | 0 => [108, 97, 98, 101, 108, 115, 10]
  | k + 1 => textQ k ++ qline k
theorem textQ_length : ∀ k, (textQ k).length = 7 + 19 * k
  | 0 => rfl
  | k + 1 => by rw [textQ, List.length_append, textQ_length k]; simp [qline]; omega
theorem textQ_ans : (parseC (textQ 15)).1 = 0 ∧ (parseC (textQ 16)).1 = 0 ∧ (parseC (textQ 17)).1 = 4 ∧ (parseC (textQ 18)).1 = 4 := by decide +kernel

theorem str_one (W : World) (c : UInt8) (v : Int) (hv : v = (c.toNat : Int)) : (convert 47 9 (.slice (some ⟨W.heap.size, 0, none⟩) 1 1)).run Tryd.prog (W.alloc (.cells #[.int .u8 v] 5)) = .ok (.string ⟨#[c]⟩) (W.alloc (.cells #[.int .u8 v] 5)) := by
  subst hv
  exact Rd.str (l := [c]) (Rd.one W (.int .u8 (c.toNat : Int)) 5 1 1 rfl rfl)

set_option maxRecDepth 100000 in
set_option maxHeartbeats 3200000 in
theorem walk (a : Int) (_ : (Lit.int .i64 a).wf = true) (b : Bool) (w : World) :
    Calls Tryd.prog 7 #[.int .i64 a, .bool b] w fun e w' => e = .returned (.bool true) ∧ Below w.heap.size w w' := by
  cases b with
  | true =>
    go_enter Tryd.func7, Tryd.ntmps7
    go_wp2_with fail
    refine (known_any _).mono ?_
    rintro e w1 ⟨rfl, hx1⟩
    have X1 := Lib.hid hx1
    clear hx1
    go_wp2_with fail
    (with_reducible refine (within_some a 4 4 _ rfl (by omega)).mono ?_)
    rintro e w2 ⟨n, rfl, hn, rfl⟩
    have hn4 : (n : Int) ≤ 3 := by omega
    go_wp2
    go_loopw [5] (fun s wr => ∃ k S, s = .string S ∧ S.data.toList = feeds k ∧ 7 + k ≤ 1999 + n ∧ wr = w1) (fun s _ => 3000 - (match s with | .string S => S.size | _ => 0))
    case atStart => exact ⟨0, _, rfl, rfl, by omega, rfl⟩
    case round =>
      obtain ⟨k, S, rfl, hS, hk, rfl⟩ := hrel
      have HS := Lib.hid hS
      have hsz : S.size = 7 + k := by rw [ba_size, hS, feeds_length]
      by_cases hlt : 7 + k < 1999 + n
      · have h1 : (S.size : Int) < 1999 + (n : Int) := by omega
        have h2 : (S.size : Int) ≤ 3000 := by omega
        have HZ := Lib.hid hsz
        clear hS hsz
        go_wp2
        go_roundw
        case rel => exact ⟨k + 1, _, rfl, by rw [ba_app, HS.out, feeds_snoc], by omega, trivial⟩
        case measure => have := HZ.out; simp [ba_apps, nl_size]; omega
      · have h1 : ¬ (S.size : Int) < 1999 + (n : Int) := by omega
        have hkn : k = 1992 + n := by omega
        have HPA := Lib.hid (show (parseC S.data.toList).1 = if n ≤ 1 then 0 else 5 by
          rw [hS]
          split
          · exact feeds_ok (by omega)
          · exact feeds_over (by omega))
        clear hS hsz
        go_wp2_with fail
        (with_reducible refine (parse_any S _).mono ?_)
        unfold ParsePost
        rw [HPA.out]
        rintro e w3 ⟨v, rfl, hv, hx3⟩
        obtain ⟨A, c, A', c', rfl, _⟩ := hv.shape
        have X3 := Lib.hid (X1.out.trans hx3)
        clear hv hx3 hkn hlt
        by_cases hn1 : n ≤ 1
        · have q1 : (n : Int) ≤ 1 := by omega
          rw [if_pos hn1]
          go_wp2
          go_ret
          exact ⟨rfl, X3.out.trans (ext_alloc _ _)⟩
        · have q1 : decide ((n : Int) ≤ 1) = false := by simp; omega
          have q2 : (1 : Int) < (n : Int) := by omega
          rw [if_neg hn1]
          go_wp2
          go_ret
          exact ⟨rfl, X3.out.trans (ext_alloc _ _)⟩
  | false =>
    go_enter Tryd.func7, Tryd.ntmps7
    go_wp2_with fail
    refine (known_any _).mono ?_
    rintro e w1 ⟨rfl, hx1⟩
    have X1 := Lib.hid hx1
    clear hx1
    go_wp2_with fail
    (with_reducible refine (within_some a 4 4 _ rfl (by omega)).mono ?_)
    rintro e w2 ⟨n, rfl, hn, rfl⟩
    have hn4 : (n : Int) ≤ 3 := by omega
    go_wp2
    go_loopw [5, 7] (fun s i wr => ∃ k S, s = .string S ∧ S.data.toList = textQ k ∧ i = .int .i64 (k : Nat) ∧ k ≤ 15 + n ∧ Ext w1 wr) (fun _ i _ => 20 - (match i with | .int _ j => j.toNat | _ => 0))
    case atStart => exact ⟨0, _, rfl, rfl, rfl, by omega, Ext.refl _⟩
    case round =>
      obtain ⟨k, S, rfl, hS, rfl, hk, hxr⟩ := hrel
      have HS := Lib.hid hS
      have HX := Lib.hid hxr
      have hsz : S.size = 7 + 19 * k := by rw [ba_size, hS, textQ_length]
      by_cases hlt : k < 15 + n
      · have h1 : (k : Int) < 15 + (n : Int) := by omega
        have h2 : (S.size : Int) ≤ 400 := by omega
        have h3 : (k : Int) ≤ 17 := by omega
        have hc := str_one wr (UInt8.ofNat (97 + k)) (97 + (k : Int)) (by simp; omega)
        have HZ := Lib.hid hsz
        clear hS hsz hxr
        go_wp2
        go_roundw
        case rel => exact ⟨k + 1, _, rfl, by rw [ba_app, ba_app, ba_app, HS.out]; simp [textQ, qline], by simp, by omega, HX.out.trans (ext_alloc _ _)⟩
        case measure => simp; omega
      · have h1 : ¬ (k : Int) < 15 + (n : Int) := by omega
        have hkn : k = 15 + n := by omega
        have HPA := Lib.hid (show (parseC S.data.toList).1 = if n ≤ 1 then 0 else 4 by
          rw [hS, hkn]
          obtain ⟨t0, t1, t2, t3⟩ := textQ_ans
          have : n = 0 ∨ n = 1 ∨ n = 2 ∨ n = 3 := by omega
          rcases this with rfl | rfl | rfl | rfl
          · exact t0
          · exact t1
          · exact t2
          · exact t3)
        clear hS hsz hxr
        go_wp2_with fail
        (with_reducible refine (parse_any S _).mono ?_)
        unfold ParsePost
        rw [HPA.out]
        rintro e w3 ⟨v, rfl, hv, hx3⟩
        obtain ⟨A, c, A', c', rfl, _⟩ := hv.shape
        have X3 := Lib.hid ((X1.out.trans HX.out).trans hx3)
        clear hv hx3 hkn hlt
        by_cases hn1 : n ≤ 1
        · have q1 : (n : Int) ≤ 1 := by omega
          rw [if_pos hn1]
          go_wp2
          go_ret
          exact ⟨rfl, X3.out.trans (ext_alloc _ _)⟩
        · have q1 : decide ((n : Int) ≤ 1) = false := by simp; omega
          have q2 : (1 : Int) < (n : Int) := by omega
          rw [if_neg hn1]
          go_wp2
          go_ret
          exact ⟨rfl, X3.out.trans (ext_alloc _ _)⟩
end Go.Proofs.YtonbplofbcnijaaDoor.ConfBounds
