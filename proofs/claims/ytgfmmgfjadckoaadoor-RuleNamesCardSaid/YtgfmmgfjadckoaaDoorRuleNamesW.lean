/- dispatchlaw6.RuleNames: the walk. -/
import Derived.Test.YtgfmmgfjadckoaaDoorKnown6
import Derived.Laws.Concat
import Derived.Laws.Cover1
import Derived.ChangeSlices
import Derived.OpenShut
import Derived.ChangeOld
import Derived.ChangeSame
import Derived.ChangeMaps
import Derived.JoinedOf
import Derived.JoinedAt
import Derived.RowKit3
import Derived.Lib.SmallJoins
import Derived.Deep.CutRange
namespace Go.Proofs.YtgfmmgfjadckoaaDoor.RuleNames
open Go.ChangeShapes Go.WideShapes Go.ChangeAt Go.RowKit Go.Joins

theorem inNameR_eq (r : Int) : inNameR r = ((decide (97 ≤ r) && decide (r ≤ 122)) || (decide (48 ≤ r) && decide (r ≤ 57)) || decide (r = 45)) := rfl
theorem ba_app (a b : ByteArray) : (a ++ b).data.toList = a.data.toList ++ b.data.toList := by
  cases a; cases b; simp
theorem str_one (W : World) (c : UInt8) (v : Int) (hv : v = (c.toNat : Int)) : (convert 54 9 (.slice (some ⟨W.heap.size, 0, none⟩) 1 1)).run Tryd.prog (W.alloc (.cells #[.int .u8 v] 5)) = .ok (.string ⟨#[c]⟩) (W.alloc (.cells #[.int .u8 v] 5)) := by
  subst hv
  exact Rd.str (l := [c]) (Rd.one W (.int .u8 (c.toNat : Int)) 5 1 1 rfl rfl)
theorem ext_drew (w : World) : Ext w w.drew := ⟨rfl, rfl, rfl, Nat.le_refl _, fun _ _ => rfl⟩
theorem str_oneD (W : World) (c : UInt8) (v : Int) (hv : v = (c.toNat : Int)) : (convert 54 9 (.slice (some ⟨W.heap.size, 0, none⟩) 1 1)).run Tryd.prog (W.alloc (.cells #[.int .u8 v] 5)).drew = .ok (.string ⟨#[c]⟩) (W.alloc (.cells #[.int .u8 v] 5)).drew := by
  subst hv
  exact Rd.str (l := [c]) ((Rd.one W (.int .u8 (c.toNat : Int)) 5 1 1 rfl rfl).ext (ext_drew _))
def some7 : ByteArray := ⟨#[97, 98, 122, 48, 49, 57, 45]⟩
theorem some_at (n : Nat) (h : n < 7) : (some7.extract n (n + 1)).data.toList.length = 1 ∧ (some7.extract n (n + 1)).data.toList.all inName = true := by
  rcases n with _ | _ | _ | _ | _ | _ | _ | n
  all_goals first | omega | exact ⟨rfl, rfl⟩

theorem names_end {S T : ByteArray} {y : Nat} {b : UInt8} (hy : y ≤ S.size) (hall : S.data.toList.all inName = true) (hT : T = S.extract 0 y ++ ⟨#[b]⟩ ++ S.extract y S.size) :
    T.size = S.size + 1 ∧ nameB S.data.toList = (decide (1 ≤ (S.size : Int)) && decide ((S.size : Int) ≤ 12)) ∧ nameB T.data.toList = (inName b && decide ((T.size : Int) ≤ 12)) := by
  have e : T.data.toList = S.data.toList.take y ++ b :: S.data.toList.drop y := by
    rw [hT, ba_app, ba_app, ext_toL, ext_toL]
    simp
    rw [List.take_of_length_le (by rw [List.length_drop]; have := ba_size S; omega)]
  have hl : T.size = S.size + 1 := by
    rw [ba_size, e, ba_size]
    simp
    rw [ba_size] at hy
    simp at hy
    omega
  refine ⟨hl, ?_, ?_⟩
  · unfold nameB
    rw [hall, ← ba_size, Bool.and_true]
    congr 1 <;> exact decide_eq_decide.2 (by omega)
  · unfold nameB
    have hb : T.data.toList.all inName = inName b := by
      have h1 : (S.data.toList.take y).all inName = true := by
        rw [List.all_eq_true] at hall ⊢
        exact fun x hx => hall x (List.mem_of_mem_take hx)
      have h2 : (S.data.toList.drop y).all inName = true := by
        rw [List.all_eq_true] at hall ⊢
        exact fun x hx => hall x (List.mem_of_mem_drop hx)
      rw [e, List.all_append, List.all_cons, h1, h2]
      simp
    rw [hb, ← ba_size]
    have h1 : decide (1 ≤ T.size) = true := by simp; omega
    rw [h1, Bool.true_and, Bool.and_comm]
    congr 1
    exact decide_eq_decide.2 (by omega)

set_option maxRecDepth 100000 in
set_option maxHeartbeats 6400000 in
theorem walk (w : World) (v : Value) (xs : List Int) (r0 : Rd w v (xs.map (Value.int .i64))) (_ : ∀ z ∈ xs, (Lit.int .i64 z).wf = true) (bad : Int) (wb : (Lit.int .u8 bad).wf = true) (at' : Int) (_ : (Lit.int .i64 at').wf = true) :
    Calls Tryd.prog 7 #[v, .int .u8 bad, .int .i64 at'] w fun e w' => e = .returned (.bool true) ∧ Below w.heap.size w w' := by
  obtain ⟨A, N, c, rfl, hN, hc1, hc2, hcell⟩ := ints_open r0
  have HC := Lib.hid hcell
  have HN := Lib.hid hN
  clear hcell hN r0
  obtain ⟨b, hb⟩ : ∃ b : UInt8, bad = (b.toNat : Int) := by
    have h : 0 ≤ bad ∧ bad ≤ 255 := by simpa [Lit.wf, IntKind.min, IntKind.max, IntKind.signed, IntKind.bits] using wb
    exact ⟨UInt8.ofNat bad.toNat, by simp; omega⟩
  have HBB := Lib.hid hb
  clear hb wb
  obtain ⟨S7, hS7⟩ : ∃ S7 : ByteArray, S7 = some7 := ⟨_, rfl⟩
  have z7 : (7 : Int) ≤ (S7.size : Int) := by rw [hS7]; decide
  have HS7 := Lib.hid hS7
  go_enter Tryd.func7, Tryd.ntmps7
  go_wp2_with fail
  refine (known6_any _).mono ?_
  rintro e w1 ⟨rfl, hx1⟩
  have X1 := Lib.hid hx1
  clear hx1
  go_wp2
  rw [show (ByteArray.mk #[97, 98, 122, 48, 49, 57, 45]) = S7 from hS7.symm]
  clear hS7
  go_loopw [8, 9] (fun s i wr => ∃ (k : Nat) (S : ByteArray), k ≤ 14 ∧ k ≤ N ∧ i = .int .i64 k ∧ s = .string S ∧ S.data.toList.length = k ∧ S.data.toList.all inName = true ∧ wr = w1) (fun _ i _ => 14 - (intOf i).toNat)
  case atStart => exact ⟨0, _, by omega, by omega, rfl, rfl, rfl, rfl, rfl⟩
  case round =>
    obtain ⟨k, S, hk14, hkN, rfl, rfl, hlen, hall, rfl⟩ := hrel
    have HALL := Lib.hid hall
    have hsz : (S.size : Int) = (k : Int) := by rw [ba_size, hlen]
    have HSZ := Lib.hid hsz
    have hszb : (S.size : Int) ≤ 14 := by omega
    clear hall hlen hsz
    have i0 : (0 : Int) ≤ (k : Int) := by omega
    by_cases hlt : k < N ∧ k < 14
    · obtain ⟨hlt, hl14⟩ := hlt
      obtain ⟨a, rfl, hb, hcs⟩ := HC.out (by omega)
      have h3 := X1.out.cell' (hcs k (by have := HN.out; omega))
      have i1 : (k : Int) < (N : Int) := by omega
      have i2 : (k : Int) < 14 := by omega
      clear hcs
      go_wp2_with fail
      (with_reducible refine (within6_some _ 7 7 _ rfl (by omega)).mono ?_)
      rintro e w2 ⟨n, rfl, hny, hn7, rfl⟩
      have HNY := Lib.hid hny
      clear hny
      have n0 : (0 : Int) ≤ (n : Int) := by omega
      have n1 : (n : Int) + 1 ≤ (S7.size : Int) := by omega
      have n2 : (n : Int) ≤ 6 := by omega
      have n3 : (n : Int) ≤ (n : Int) + 1 := by omega
      have hx1 : ((S7.extract n (n + 1)).size : Int) ≤ 1 := by
        have := (some_at n hn7).1
        rw [← HS7.out, ← ba_size] at this
        omega
      go_wp2
      go_roundw
      case rel =>
        refine ⟨k + 1, _, by omega, by omega, by simp, rfl, ?_, ?_, trivial⟩
        · rw [ba_app, List.length_append, HS7.out, (some_at n hn7).1, ← ba_size]; have := HSZ.out; omega
        · rw [ba_app, List.all_append, HALL.out, HS7.out, (some_at n hn7).2]; rfl
      case measure => simp [intOf]; omega
    · have hh : ¬ (k : Int) < (N : Int) ∨ ((k : Int) < (N : Int) ∧ ¬ (k : Int) < 14) := by omega
      clear hlt
      rcases hh with i1 | ⟨i1, i2⟩
      all_goals (
        go_wp2_with fail
        (with_reducible refine (within6_some _ (S.size + 1) _ _ (by omega) (by omega)).mono ?_)
        rintro e w2 ⟨y, rfl, hny, hyn, rfl⟩
        clear hny
        go_upto_region 11 with fail
        go_cut [12] from 43 to 60 (fun s12 wx => s12 = .bool (inNameR bad) ∧ wx = wr)
        case first =>
          by_cases h1 : 97 ≤ bad <;> by_cases h2 : bad ≤ 122 <;> by_cases h3 : 48 ≤ bad <;> by_cases h4 : bad ≤ 57 <;> cases h5 : (bad == 45)
          all_goals first | (exfalso; simp at h5; omega) | skip
          all_goals (
            go_wp2
            go_meet
            case rel => exact ⟨by (rw [inNameR_eq]; simp at h5; simp [h1, h2, h3, h4, h5]; try (rw [Bool.eq_iff_iff]; simp; omega)), rfl⟩)
        case rest =>
          obtain ⟨rfl, rfl⟩ := hcut
          have HIN := Lib.hid (show inNameR bad = inName b by rw [inName_R, HBB.out])
          have hcv := fun W => str_oneD W b bad HBB.out
          have y0 : (0 : Int) ≤ (y : Int) := by omega
          have y1 : (y : Int) ≤ (S.size : Int) := by omega
          go_wp2
          go_region
          generalize hT : S.extract 0 y ++ (⟨#[b]⟩ : ByteArray) ++ S.extract y S.size = T
          obtain ⟨e1, e2, e3⟩ := names_end (by omega) HALL.out hT.symm
          have HT := Lib.hid hT
          have hts : (T.size : Int) = (S.size : Int) + 1 := by omega
          rw [← HIN.out] at e3
          clear hT e1
          have hxx : (S.size : Int) < 1 ∨ (1 ≤ (S.size : Int) ∧ (S.size : Int) ≤ 11) ∨ (S.size : Int) = 12 ∨ 12 < (S.size : Int) := by omega
          have hx2 := ext_drew (wc.alloc (.cells #[.int .u8 bad] 5))
          have X2 := Lib.hid (X1.out.trans ((ext_alloc wc _).trans hx2))
          clear hx2 hcv
          generalize (wc.alloc (.cells #[.int .u8 bad] 5)).drew = w5 at X2 ⊢
          cases hin : inNameR bad
          all_goals (
            rw [hin] at e3
            rcases hxx with h | ⟨h, h'⟩ | h | h
            all_goals (
              first
                | (have q1 : decide (1 ≤ (S.size : Int)) = true := by simp; omega
                   rw [q1] at e2)
                | (have q1 : decide (1 ≤ (S.size : Int)) = false := by simp; omega
                   rw [q1] at e2)
              first
                | (have q2 : decide ((S.size : Int) ≤ 12) = true := by simp; omega
                   rw [q2] at e2)
                | (have q2 : decide ((S.size : Int) ≤ 12) = false := by simp; omega
                   rw [q2] at e2)
              first
                | (have q3 : decide ((T.size : Int) ≤ 12) = true := by simp; omega
                   rw [q3] at e3)
                | (have q3 : decide ((T.size : Int) ≤ 12) = false := by simp; omega
                   rw [q3] at e3)
              simp only [Bool.and_true, Bool.and_false, Bool.and_self] at e2 e3
              have E2 := Lib.hid e2
              have E3 := Lib.hid e3
              clear e2 e3
              go_wp2_with fail
              (with_reducible refine (Name_any S _).mono ?_)
              rw [E2.out]
              rintro e w6 ⟨rfl, hx6⟩
              have X6 := Lib.hid (X2.out.trans hx6)
              clear hx6
              go_wp2_with fail
              (with_reducible refine (Name_any T _).mono ?_)
              rw [E3.out]
              rintro e w7 ⟨rfl, hx7⟩
              have X7 := Lib.hid (X6.out.trans hx7)
              clear hx7
              go_wp2
              go_ret
              exact ⟨by first | rfl | (simp; omega), X7.out⟩)))
end Go.Proofs.YtgfmmgfjadckoaaDoor.RuleNames
