/- The law AsksTake holds at every input: what was set is taken as often as its Count says, and no more; what is pending falls by its Size each time. No condition. -/
import Derived.Test.YtbocpkdnlpobkaaAkX
import Derived.Deep.CutBlock
import Derived.ChangeSlices
import Derived.OpenShut
import Derived.ChangeOld
import Derived.ChangeSame
import Derived.ChangeMaps
import Derived.JoinedOf
import Derived.JoinedAt
import Derived.RowKit3
import Derived.Lib.SmallJoins
namespace Go.Proofs.Ytbocpkdnlpobkaa.AsksTake
open Go.ChangeShapes Go.WideShapes Go.ChangeAt Go.RowKit Go.Joins

theorem hasA_app (p : Int) (a b : List AD) : hasA p (a ++ b) = (hasA p a || hasA p b) := by simp [hasA]
theorem hasA_low (p : Int) (ds : List AD) : hasA p (lowA p ds) = false := by
  unfold hasA
  rw [List.any_eq_false]
  intro x hx
  have : x.prio < p := by simpa using (List.mem_filter.1 hx).2
  simp; omega
theorem hasA_high (p : Int) (ds : List AD) : hasA p (highA p ds) = false := by
  unfold hasA
  rw [List.any_eq_false]
  intro x hx
  have : p < x.prio := by simpa using (List.mem_filter.1 hx).2
  simp; omega
theorem hasA_mid (p : Int) (ds x : List AD) : hasA p (midA p ds x) = hasA p x := by
  unfold midA
  rw [hasA_app, hasA_app, hasA_low, hasA_high]
  simp
theorem getA_mid (p : Int) (ds : List AD) (y : AD) (hy : y.prio = p) : getA p (midA p ds [y]) = y := by
  unfold getA midA
  have h1 : (lowA p ds).find? (fun x => x.prio == p) = none := by
    rw [List.find?_eq_none]
    intro x hx
    have : x.prio < p := by simpa using (List.mem_filter.1 hx).2
    simp; omega
  rw [List.append_assoc, List.find?_append, h1, Option.none_or, List.singleton_append, List.find?_cons_of_pos (by simpa using hy)]
  rfl
/-- A list that has one of the Prio is what stands below it, it, and what stands above. -/
theorem mid_self {ds : List AD} (hs : SrtA ds) {p : Int} (h : hasA p ds = true) : ds = midA p ds [getA p ds] := by
  obtain ⟨k, hk, rfl⟩ := hasA_idx h
  unfold midA
  rw [lowA_at hs k hk, highA_at hs k hk, getA_at hs k hk, List.append_assoc, List.singleton_append]
  exact split_at k hk
/-- The ask of Prio p has c left, of that label and size. -/
def Cnt (ds : List AD) (p lb mem cor : Int) (c : Nat) : Prop := (c = 0 → hasA p ds = false) ∧ (0 < c → hasA p ds = true ∧ (getA p ds).count = (c : Int) ∧ (getA p ds).label = lb ∧ (getA p ds).mem = mem ∧ (getA p ds).cores = cor)
theorem cnt_put (ds : List AD) (a : AD) (c : Nat) (hc : a.count = (c : Int)) : Cnt (putA ds a) a.prio a.label a.mem a.cores c := by
  unfold putA setOne
  refine ⟨fun h => ?_, fun h => ?_⟩
  · rw [if_pos (by omega), hasA_mid]; rfl
  · rw [if_neg (by omega), hasA_mid, getA_mid _ _ _ rfl]
    exact ⟨by simp [hasA], hc, rfl, rfl, rfl⟩
theorem cnt_set (ds : List AD) (a : AD) (c : Nat) (hc : a.count = (c : Int)) : Cnt (setA ds a) a.prio a.label a.mem a.cores c := cnt_put ds { a with missed := 0 } c hc
def misG (g : AD) : AD := { g with missed := min (g.missed + 1) 100 }
def tkG (g : AD) : AD := { g with count := g.count - 1, missed := 0 }
theorem cnt_miss {ds : List AD} (hs : SrtA ds) {p lb mem cor : Int} {c : Nat} (h : Cnt ds p lb mem cor c) : Cnt (missA ds p) p lb mem cor c := by
  cases hh : hasA p ds with
  | false => rw [missA_no hh]; exact h
  | true =>
    have hm : missA ds p = midA p ds [misG (getA p ds)] := by
      obtain ⟨k, hk, rfl⟩ := hasA_idx hh
      rw [missA_at hs hk rfl]
      unfold midA
      rw [lowA_at hs k hk, highA_at hs k hk, getA_at hs k hk, List.append_assoc, List.singleton_append]
      rfl
    have hp : (misG (getA p ds)).prio = p := (getA_mem hh).2
    refine ⟨fun h0 => (by have := h.1 h0; rw [hh] at this; cases this), fun h0 => ?_⟩
    obtain ⟨h1, h2, h3, h4, h5⟩ := h.2 h0
    rw [hm, hasA_mid, getA_mid _ _ _ hp]
    exact ⟨by simp [hasA, hp], h2, h3, h4, h5⟩
theorem takeA_mid {ds : List AD} {p : Int} (h : hasA p ds = true) : takeA ds p = midA p ds (setOne (tkG (getA p ds))) := by
  unfold takeA
  rw [if_pos h]
  show midA (tkG (getA p ds)).prio ds (setOne (tkG (getA p ds))) = _
  rw [show (tkG (getA p ds)).prio = p from (getA_mem h).2]
theorem cnt_take {ds : List AD} {p lb mem cor : Int} {c : Nat} (h : Cnt ds p lb mem cor (c + 1)) : Cnt (takeA ds p) p lb mem cor c := by
  obtain ⟨h1, h2, h3, h4, h5⟩ := h.2 (by omega)
  have := cnt_put ds (tkG (getA p ds)) c (by show (getA p ds).count - 1 = _; omega)
  rw [show (tkG (getA p ds)).prio = p from (getA_mem h1).2, show (tkG (getA p ds)).label = lb from h3, show (tkG (getA p ds)).mem = mem from h4, show (tkG (getA p ds)).cores = cor from h5] at this
  unfold takeA
  rw [if_pos h1]
  exact this
theorem take_missed {ds : List AD} {p : Int} (h : hasA p ds = true) : ∀ x ∈ takeA ds p, x.prio = p → x.missed = 0 := by
  intro x hx hp
  rw [takeA_mid h] at hx
  unfold midA at hx
  rcases List.mem_append.1 hx with hx | hx
  · rcases List.mem_append.1 hx with hx | hx
    · have : x.prio < p := by simpa using (List.mem_filter.1 hx).2
      omega
    · unfold setOne at hx
      split at hx
      · simp at hx
      · rw [List.mem_singleton] at hx; subst hx; rfl
  · have : p < x.prio := by simpa using (List.mem_filter.1 hx).2
    omega
/-- What is pending, before it wraps. -/
def sumA (L : Int) (g : AD → Int) (ds : List AD) : Int := (ds.map (fun d => if d.label = L then d.count * g d else 0)).sum
theorem sumA_app (L : Int) (g : AD → Int) (a b : List AD) : sumA L g (a ++ b) = sumA L g a + sumA L g b := by simp [sumA]
theorem wrap_add (x y : Int) : wrap64 (wrap64 x + wrap64 y) = wrap64 (x + y) := by unfold wrap64; omega
theorem wrap_sub (x y : Int) : wrap64 (wrap64 x - wrap64 y) = wrap64 (x - y) := by unfold wrap64; omega
theorem pend_fold (L : Int) : ∀ (ds : List AD) (s t : Int), ds.foldl (fun s d => if d.label = L then (wrap64 (s.1 + wrap64 (d.count * d.mem)), wrap64 (s.2 + wrap64 (d.count * d.cores))) else s) (wrap64 s, wrap64 t) = (wrap64 (s + sumA L AD.mem ds), wrap64 (t + sumA L AD.cores ds))
  | [], s, t => by simp [sumA]
  | d :: ds, s, t => by
    rw [List.foldl_cons]
    by_cases h : d.label = L
    · rw [if_pos h]
      simp only
      rw [wrap_add, wrap_add, pend_fold L ds]
      simp only [sumA, List.map_cons, List.sum_cons, if_pos h, Int.add_assoc]
    · rw [if_neg h, pend_fold L ds]
      simp only [sumA, List.map_cons, List.sum_cons, if_neg h, Int.zero_add]
theorem pendA_sum (L : Int) (ds : List AD) : pendA ds L = (wrap64 (sumA L AD.mem ds), wrap64 (sumA L AD.cores ds)) := by
  have := pend_fold L ds 0 0
  rw [show wrap64 0 = 0 by unfold wrap64; omega, Int.zero_add, Int.zero_add] at this
  exact this
theorem sumA_take {ds : List AD} (hs : SrtA ds) {p : Int} (h : hasA p ds = true) (g : AD → Int) (hg : g (tkG (getA p ds)) = g (getA p ds)) : sumA (getA p ds).label g ds - sumA (getA p ds).label g (takeA ds p) = g (getA p ds) := by
  have e0 := congrArg (sumA (getA p ds).label g) (mid_self hs h)
  have e4 := congrArg (sumA (getA p ds).label g) (takeA_mid h)
  unfold midA at e0 e4
  rw [sumA_app, sumA_app] at e0 e4
  have e1 : sumA (getA p ds).label g [getA p ds] = (getA p ds).count * g (getA p ds) := by simp [sumA]
  have e2 : sumA (getA p ds).label g (setOne (tkG (getA p ds))) = ((getA p ds).count - 1) * g (getA p ds) := by
    unfold setOne
    split
    · rename_i h0
      have h0 : (getA p ds).count - 1 = 0 := h0
      rw [h0]; simp [sumA]
    · rw [← hg]
      simp [sumA, tkG]
  have e3 : (getA p ds).count * g (getA p ds) - ((getA p ds).count - 1) * g (getA p ds) = g (getA p ds) := by
    rw [← Int.sub_mul]
    rw [show (getA p ds).count - ((getA p ds).count - 1) = 1 by omega, Int.one_mul]
  rw [e1] at e0
  rw [e2] at e4
  rw [e0, e4]
  generalize (getA p ds).count * g (getA p ds) = x at *
  generalize ((getA p ds).count - 1) * g (getA p ds) = y at *
  omega
theorem good_parts (a : AD) : 1 ≤ (goodA a).mem ∧ (goodA a).mem ≤ 1073741824 ∧ 1 ≤ (goodA a).cores ∧ (goodA a).cores ≤ 1073741824 := by unfold goodA; simp only; omega

/-- The law's step: what Take leaves, and what is pending of it. -/
theorem pend_take {ds : List AD} (hs : SrtA ds) {p lb mem cor : Int} {c : Nat} (h : Cnt ds p lb mem cor (c + 1)) (hm : 1 ≤ mem ∧ mem ≤ 1073741824) (hc : 1 ≤ cor ∧ cor ≤ 1073741824) :
    wrap64 ((pendA ds lb).1 - (pendA (takeA ds p) lb).1) = mem ∧ wrap64 ((pendA ds lb).2 - (pendA (takeA ds p) lb).2) = cor := by
  obtain ⟨h1, h2, h3, h4, h5⟩ := h.2 (by omega)
  have s1 := sumA_take hs h1 AD.mem rfl
  have s2 := sumA_take hs h1 AD.cores rfl
  rw [h3, h4] at s1
  rw [h3, h5] at s2
  rw [pendA_sum, pendA_sum]
  simp only
  rw [wrap_sub, wrap_sub, s1, s2]
  unfold wrap64
  omega

set_option maxRecDepth 100000 in
set_option maxHeartbeats 12800000 in
theorem walk (w : World) (a : AD) (v : Value) (N : Nat) (f : Nat → Nat → Int) (r0 : RdS 8 w v N f) (missed : Int) (_ : (Lit.int .i64 missed).wf = true) :
    Calls Try.prog 5 #[askV a, v, .int .i64 missed] w fun e w' => e = .returned (.bool true) ∧ Below w.heap.size w w' := by
  obtain ⟨A, c, rfl, hc1, hc2, hcell⟩ := r0
  unfold maxLen at hc2
  have HC := Lib.hid hcell
  have HGA := Lib.hid (fun W => good_any a W)
  have HGAC := Lib.hid (good_count a)
  have HGAP := Lib.hid (good_parts a)
  obtain ⟨b, hb⟩ : ∃ b, b = goodA a := ⟨_, rfl⟩
  rw [← hb] at HGA HGAC HGAP
  obtain ⟨ym, hym, hym5⟩ : ∃ ym : Nat, (ym : Int) = missed % 5 ∧ ym < 5 := ⟨(missed % 5).toNat, by omega, by omega⟩
  have HWM := Lib.hid (fun W => within9_any missed 5 W ⟨by omega, by omega⟩)
  rw [← hym] at HWM
  clear hcell hb hym
  obtain ⟨ap, al, am, ac, an, ao, ar, ami⟩ := a
  obtain ⟨b0, b1, b2, b3, b4, b5, b6, b7⟩ := b
  simp only [askV] at HGA HGAC HGAP ⊢
  obtain ⟨cn, hcn⟩ : ∃ cn : Nat, b4 = (cn : Int) := ⟨b4.toNat, by have := HGAC.out.1; omega⟩
  subst hcn
  obtain ⟨U, hU⟩ : ∃ U, U = w.heap.size := ⟨_, rfl⟩
  have HU := Lib.hid (show ∀ W, Ext w W → U ≤ W.heap.size from fun W x => by rw [hU]; exact x.size)
  clear hU
  go_enter Try.func5, Try.ntmps5
  go_wp2_with fail
  (with_reducible refine (known9_any _).mono ?_)
  rintro e w1 ⟨rfl, hx1⟩
  have X1 := Lib.hid ((ext_alloc w (.cells #[.int .i64 ap, .int .i64 al, .int .i64 am, .int .i64 ac, .int .i64 an, .int .i64 ao, .int .i64 ar, .int .i64 ami] 25)).trans hx1)
  have HB1 := Lib.hid (ext_blk hx1 (heap_alloc_new w (.cells #[.int .i64 ap, .int .i64 al, .int .i64 am, .int .i64 ac, .int .i64 an, .int .i64 ao, .int .i64 ar, .int .i64 ami] 25)))
  obtain ⟨B, hB⟩ : ∃ B, B = w.heap.size := ⟨_, rfl⟩
  have HBB := Lib.hid hB
  rw [← hB] at HB1 ⊢
  clear hx1 hB
  have c0 := bcel HB1.out 0 (.int .i64 ap) rfl
  have c1 := bcel HB1.out 1 (.int .i64 al) rfl
  have c2 := bcel HB1.out 2 (.int .i64 am) rfl
  have c3 := bcel HB1.out 3 (.int .i64 ac) rfl
  have c4 := bcel HB1.out 4 (.int .i64 an) rfl
  have c5 := bcel HB1.out 5 (.int .i64 ao) rfl
  have c6 := bcel HB1.out 6 (.int .i64 ar) rfl
  have c7 := bcel HB1.out 7 (.int .i64 ami) rfl
  go_wp2_with fail
  (with_reducible refine (HGA.out _).mono ?_)
  rintro e w3 ⟨rfl, hx3⟩
  have X3 := Lib.hid (X1.out.trans hx3)
  have HB3 := Lib.hid (ext_blk hx3 HB1.out)
  clear hx3 c0 c1 c2 c3 c4 c5 c6 c7
  have c0 := bcel HB3.out 0 (.int .i64 ap) rfl
  have c1 := bcel HB3.out 1 (.int .i64 al) rfl
  have c2 := bcel HB3.out 2 (.int .i64 am) rfl
  have c3 := bcel HB3.out 3 (.int .i64 ac) rfl
  have c4 := bcel HB3.out 4 (.int .i64 an) rfl
  have c5 := bcel HB3.out 5 (.int .i64 ao) rfl
  have c6 := bcel HB3.out 6 (.int .i64 ar) rfl
  have c7 := bcel HB3.out 7 (.int .i64 ami) rfl
  have ff := fun j => bfre HB3.out j
  go_upto_region 4 with fail
  refine at_world (fun W4 hW4 => ?_)
  have HB4 := Lib.hid (show W4.heap[B]? = some (.cells #[.int .i64 b0, .int .i64 b1, .int .i64 b2, .int .i64 b3, .int .i64 (cn : Int), .int .i64 b5, .int .i64 b6, .int .i64 b7] 25 (0, 0)) by rw [hW4]; exact bsetI8 HB3.out _ _ _ _ _ _ _ _)
  have X4 := Lib.hid (show Ext w W4 by rw [hW4]; have := HBB.out; exact ext_set8 X3.out (by omega) _ _ _ _ _ _ _ _)
  clear hW4 ff c0 c1 c2 c3 c4 c5 c6 c7 HB3 X3 HB1 X1 HGA
  go_wp2
  go_loopw [7, 8] (fun va i wr => ∃ (k : Nat) (ds : List AD), k ≤ N ∧ k ≤ 5 ∧ i = .int .i64 k ∧ wr.ownsRow U 25 8 va ds.length (acells ds) ∧ SrtA ds ∧ OkA ds ∧ ds.length ≤ k ∧ Ext W4 wr) (fun _ i _ => 5 - (intOf i).toNat)
  case atStart => exact ⟨0, [], by omega, by omega, rfl, World.ownsRow_nil _ _ _ 8, List.Pairwise.nil, OkA.nil, by simp, Ext.refl _⟩
  case round =>
    obtain ⟨k, ds, hkN, hk8, rfl, hoa, hsr, hok, hlk, hx⟩ := hrel
    have HZ := Lib.hid hx
    have HX := Lib.hid (X4.out.trans hx)
    have HSR := Lib.hid hsr
    have HOK := Lib.hid hok
    have HLK := Lib.hid hlk
    have HL8 := Lib.hid (show ds.length ≤ 5 by omega)
    obtain ⟨n, hn⟩ : ∃ n, n = ds.length := ⟨_, rfl⟩
    rw [← hn] at hoa
    obtain ⟨Aa, ca, rfl, ha1, ha2⟩ := own_shape hoa
    have HNN := Lib.hid hn
    have HOA := Lib.hid hoa
    have hn8 : n ≤ 5 := by omega
    clear hx hsr hok hlk hoa hn
    have k0 : (0 : Int) ≤ (k : Int) := by omega
    obtain ⟨tb, htb⟩ : ∃ tb : Bool, tb = (decide (k < N) && decide (k < 5)) := ⟨_, rfl⟩
    have HTB := Lib.hid htb
    clear htb
    go_upto_region 6 with fail
    go_cut [30] from 23 to 30 (fun s_ wx => s_ = .bool tb ∧ wx = wr)
    case first =>
      by_cases hlt : k < N
      · have k1 : (k : Int) < (N : Int) := by omega
        by_cases hlt2 : k < 5
        · have k2 : (k : Int) < 5 := by omega
          obtain rfl : tb = true := by rw [HTB.out]; simp [hlt, hlt2]
          go_wp2_with fail
          go_meet
          case rel => exact ⟨rfl, rfl⟩
        · have k2 : ¬ (k : Int) < 5 := by omega
          obtain rfl : tb = false := by rw [HTB.out]; simp [hlt2]
          go_wp2_with fail
          go_meet
          case rel => exact ⟨rfl, rfl⟩
      · have k1 : ¬ (k : Int) < (N : Int) := by omega
        obtain rfl : tb = false := by rw [HTB.out]; simp [hlt]
        go_wp2_with fail
        go_meet
        case rel => exact ⟨rfl, rfl⟩
    case rest =>
     obtain ⟨rfl, rfl⟩ := hcut
     cases tb
     case true =>
      obtain ⟨hlt, hlt2⟩ : k < N ∧ k < 5 := by simpa using HTB.out.symm
      have k1 : (k : Int) < (N : Int) := by omega
      have HK1 := Lib.hid (show k + 1 ≤ N ∧ k + 1 ≤ 5 by omega)
      obtain ⟨a_, rfl, hb_, hcs⟩ := HC.out (by omega)
      obtain ⟨q0, q1, q2, q3, q4, q5, q6, q7⟩ := ask_cells (fun j hj => HX.out.cell' (hcs k hlt j hj))
      have HGD := Lib.hid (fun W => good_any ⟨f k 0, f k 1, f k 2, f k 3, f k 4, f k 5, f k 6, f k 7⟩ W)
      have HGC := Lib.hid (good_count ⟨f k 0, f k 1, f k 2, f k 3, f k 4, f k 5, f k 6, f k 7⟩)
      obtain ⟨x0, e0⟩ : ∃ x, x = f k 0 := ⟨_, rfl⟩
      rw [← e0] at q0 HGD HGC
      obtain ⟨x1, e1⟩ : ∃ x, x = f k 1 := ⟨_, rfl⟩
      rw [← e1] at q1 HGD HGC
      obtain ⟨x2, e2⟩ : ∃ x, x = f k 2 := ⟨_, rfl⟩
      rw [← e2] at q2 HGD HGC
      obtain ⟨x3, e3⟩ : ∃ x, x = f k 3 := ⟨_, rfl⟩
      rw [← e3] at q3 HGD HGC
      obtain ⟨x4, e4⟩ : ∃ x, x = f k 4 := ⟨_, rfl⟩
      rw [← e4] at q4 HGD HGC
      obtain ⟨x5, e5⟩ : ∃ x, x = f k 5 := ⟨_, rfl⟩
      rw [← e5] at q5 HGD HGC
      obtain ⟨x6, e6⟩ : ∃ x, x = f k 6 := ⟨_, rfl⟩
      rw [← e6] at q6 HGD HGC
      obtain ⟨x7, e7⟩ : ∃ x, x = f k 7 := ⟨_, rfl⟩
      rw [← e7] at q7 HGD HGC
      clear e0 e1 e2 e3 e4 e5 e6 e7 hcs hb_
      obtain ⟨g, hg⟩ : ∃ g, g = goodA ⟨x0, x1, x2, x3, x4, x5, x6, x7⟩ := ⟨_, rfl⟩
      rw [← hg] at HGD HGC
      clear hg
      obtain ⟨g0, g1, g2, g3, g4, g5, g6, g7⟩ := g
      simp only [askV] at HGD HGC
      go_wp2_with fail
      (with_reducible refine (HGD.out _).mono ?_)
      rintro e w2 ⟨rfl, hx2⟩
      have Y2 := Lib.hid (HX.out.trans hx2)
      have Z2 := Lib.hid (HZ.out.trans hx2)
      have HOA2 := Lib.hid (own_ExtK HOA.out hx2)
      clear q0 q1 q2 q3 q4 q5 q6 q7 hx2
      have HS1 := Set_any ds (.slice Aa n ca) ⟨g0, g1, g2, g3, g4, g5, g6, g7⟩ w2 (hdA_of HOA2.out HNN.out) (by have := HL8.out; omega) HSR.out
      have HS1 := Lib.hid HS1
      have HTW := Lib.hid (setL_two ds ⟨g0, g1, g2, g3, g4, g5, g6, g7⟩)
      have HSL := Lib.hid (HSR.out.setL ⟨g0, g1, g2, g3, g4, g5, g6, g7⟩)
      have HKL := Lib.hid (HOK.out.setL (a := ⟨g0, g1, g2, g3, g4, g5, g6, g7⟩) ⟨HGC.out.1, by have := HGC.out.2; simp only at this ⊢; omega⟩)
      obtain ⟨SE, hSE⟩ : ∃ SE, SE = setE ds ⟨g0, g1, g2, g3, g4, g5, g6, g7⟩ := ⟨_, rfl⟩
      obtain ⟨SL, hSL⟩ : ∃ SL, SL = setL ds ⟨g0, g1, g2, g3, g4, g5, g6, g7⟩ := ⟨_, rfl⟩
      rw [← hSE] at HS1 HTW
      rw [← hSL] at HS1 HTW HSL HKL
      clear hSE
      have HSLE := Lib.hid hSL
      clear hSL
      simp only [askV] at HS1
      go_wp2_with fail
      (with_reducible refine (HS1.out).mono ?_)
      rintro e w5 ⟨vp, rfl, hop, hx5⟩
      obtain ⟨np, hnp⟩ : ∃ np, np = SL.length := ⟨_, rfl⟩
      rw [← hnp] at hop
      obtain ⟨Ap, cp, rfl, hp1, hp2⟩ := own_shape hop
      have HOP := Lib.hid (own_lower (B' := U) hop (by have := HU.out _ Y2.out; omega))
      have X5 := Lib.hid hx5
      have X5w := Lib.hid (Y2.out.trans hx5)
      have HOA5 := Lib.hid (own_ExtK HOA2.out hx5)
      have HNP := Lib.hid hnp
      clear hop hx5 HS1 hnp
      rcases HTW.out with ⟨h1, h2, h3⟩ | ⟨h1, h2, h3⟩
      case inr =>
        exfalso
        have h4 := setA_len HSR.out ⟨g0, g1, g2, g3, g4, g5, g6, g7⟩
        have h5 := HL8.out
        omega
      subst h1
      have HSA := Lib.hid (And.intro h2 h3)
      clear h2 h3 HTW
      go_wp2
      go_roundw
      case rel => exact ⟨k + 1, SL, HK1.out.1, HK1.out.2, by simp, by rw [← HNP.out]; exact HOP.out, HSL.out, HKL.out, by rw [HSA.out.1]; have := setA_len HSR.out ⟨g0, g1, g2, g3, g4, g5, g6, g7⟩; have := HLK.out; omega, Z2.out.trans X5.out⟩
      case measure => simp [intOf]; omega
     case false =>
      clear HTB HC
      have HBR := Lib.hid (ext_blk HZ.out HB4.out)
      have c0 := bcel HBR.out 0 (.int .i64 b0) rfl
      have c1 := bcel HBR.out 1 (.int .i64 b1) rfl
      have c2 := bcel HBR.out 2 (.int .i64 b2) rfl
      have c3 := bcel HBR.out 3 (.int .i64 b3) rfl
      have c4 := bcel HBR.out 4 (.int .i64 (cn : Int)) rfl
      have c5 := bcel HBR.out 5 (.int .i64 b5) rfl
      have c6 := bcel HBR.out 6 (.int .i64 b6) rfl
      have c7 := bcel HBR.out 7 (.int .i64 b7) rfl
      have HS1 := Set_any ds (.slice Aa n ca) ⟨b0, b1, b2, b3, (cn : Int), b5, b6, b7⟩ wc (hdA_of HOA.out HNN.out) (by have := HL8.out; omega) HSR.out
      have HS1 := Lib.hid HS1
      have HTW := Lib.hid (setL_two ds ⟨b0, b1, b2, b3, (cn : Int), b5, b6, b7⟩)
      have HSL := Lib.hid (HSR.out.setL ⟨b0, b1, b2, b3, (cn : Int), b5, b6, b7⟩)
      have HKL := Lib.hid (HOK.out.setL (a := ⟨b0, b1, b2, b3, (cn : Int), b5, b6, b7⟩) ⟨HGAC.out.1, by have := HGAC.out.2; simp only at this ⊢; omega⟩)
      obtain ⟨SE, hSE⟩ : ∃ SE, SE = setE ds ⟨b0, b1, b2, b3, (cn : Int), b5, b6, b7⟩ := ⟨_, rfl⟩
      obtain ⟨SL, hSL⟩ : ∃ SL, SL = setL ds ⟨b0, b1, b2, b3, (cn : Int), b5, b6, b7⟩ := ⟨_, rfl⟩
      rw [← hSE] at HS1 HTW
      rw [← hSL] at HS1 HTW HSL HKL
      clear hSE
      have HSLE := Lib.hid hSL
      clear hSL
      simp only [askV] at HS1
      go_wp2_with fail
      (with_reducible refine (HS1.out).mono ?_)
      rintro e w5 ⟨vp, rfl, hop, hx5⟩
      obtain ⟨np, hnp⟩ : ∃ np, np = SL.length := ⟨_, rfl⟩
      rw [← hnp] at hop
      obtain ⟨Ap, cp, rfl, hp1, hp2⟩ := own_shape hop
      have HOP := Lib.hid (own_lower (B' := U) hop (by have := HU.out _ HX.out; omega))
      have X5 := Lib.hid hx5
      have X5w := Lib.hid (HX.out.trans hx5)
      have HOA5 := Lib.hid (own_ExtK HOA.out hx5)
      have HNP := Lib.hid hnp
      clear hop hx5 HS1 hnp
      clear c0 c1 c2 c3 c4 c5 c6 c7
      rcases HTW.out with ⟨h1, h2, h3⟩ | ⟨h1, h2, h3⟩
      case inr =>
        exfalso
        have h4 := setA_len HSR.out ⟨b0, b1, b2, b3, (cn : Int), b5, b6, b7⟩
        have h5 := HL8.out
        omega
      subst h1
      have HCT := Lib.hid (show Cnt SL b0 b1 b2 b3 cn by rw [h2]; exact cnt_set ds ⟨b0, b1, b2, b3, (cn : Int), b5, b6, b7⟩ cn rfl)
      have HSA := Lib.hid (show SL.length ≤ 6 by rw [h2]; have := setA_len HSR.out ⟨b0, b1, b2, b3, (cn : Int), b5, b6, b7⟩; have := HL8.out; omega)
      have HB5 := Lib.hid (ext_blk X5.out HBR.out)
      clear h2 h3 HTW
      go_wp2
      go_loopw [7, 10] (fun va i wr => ∃ (t : Nat) (es : List AD), t ≤ ym ∧ i = .int .i64 t ∧ wr.ownsRow U 25 8 va es.length (acells es) ∧ SrtA es ∧ OkA es ∧ es.length ≤ 6 ∧ Cnt es b0 b1 b2 b3 cn ∧ Ext w5 wr) (fun _ i _ => ym - (intOf i).toNat)
      case atStart => exact ⟨0, SL, by omega, rfl, by rw [← HNP.out]; exact HOP.out, HSL.out, HKL.out, HSA.out, HCT.out, Ext.refl _⟩
      case round =>
        obtain ⟨t, es, hty, rfl, hoe, hse, hoke, hle, hce, hx⟩ := hrel
        have HY := Lib.hid hx
        have HXE := Lib.hid (X5w.out.trans hx)
        have HSE := Lib.hid hse
        have HOE := Lib.hid hoke
        have HLE := Lib.hid hle
        have HCE := Lib.hid hce
        obtain ⟨m, hm⟩ : ∃ m, m = es.length := ⟨_, rfl⟩
        rw [← hm] at hoe
        obtain ⟨Ae, ce, rfl, he1, he2⟩ := own_shape hoe
        have HMM := Lib.hid hm
        have HOW := Lib.hid hoe
        have HBE := Lib.hid (ext_blk hx HB5.out)
        clear hx hse hoke hle hce hm hoe
        have t0 : (0 : Int) ≤ (t : Int) := by omega
        go_wp2_with fail
        (with_reducible refine (HWM.out _).mono ?_)
        rintro e w6 ⟨rfl, rfl⟩
        have c0 := bcel HBE.out 0 (.int .i64 b0) rfl
        have c1 := bcel HBE.out 1 (.int .i64 b1) rfl
        have c2 := bcel HBE.out 2 (.int .i64 b2) rfl
        have c3 := bcel HBE.out 3 (.int .i64 b3) rfl
        have c4 := bcel HBE.out 4 (.int .i64 (cn : Int)) rfl
        have c5 := bcel HBE.out 5 (.int .i64 b5) rfl
        have c6 := bcel HBE.out 6 (.int .i64 b6) rfl
        have c7 := bcel HBE.out 7 (.int .i64 b7) rfl
        by_cases hlt : t < ym
        case pos =>
          have t1 : (t : Int) < (ym : Int) := by omega
          have HM := Lib.hid (Miss_any es (.slice Ae m ce) b0 wr (hdA_of HOW.out HMM.out) (by have := HLE.out; omega) HSE.out HOE.out)
          go_wp2_with fail
          (with_reducible refine (HM.out).mono ?_)
          rintro e w7 ⟨vp, rfl, hop, hx7⟩
          obtain ⟨np2, hnp2⟩ : ∃ np2, np2 = (missA es b0).length := ⟨_, rfl⟩
          rw [← hnp2] at hop
          obtain ⟨Ap2, cp2, rfl, hp3, hp4⟩ := own_shape hop
          have HOP2 := Lib.hid (own_lower (B' := U) hop (HU.out _ HXE.out))
          have HNP2 := Lib.hid hnp2
          have X7 := Lib.hid (HY.out.trans hx7)
          clear hop hx7 hnp2 HM
          go_wp2
          go_roundw
          case rel => exact ⟨t + 1, missA es b0, by omega, by simp, by rw [← HNP2.out]; exact HOP2.out, HSE.out.miss b0, HOE.out.miss b0, by rw [missA_len]; exact HLE.out, cnt_miss HSE.out HCE.out, X7.out⟩
          case measure => simp [intOf]; omega
        case neg =>
          obtain rfl : t = ym := by omega
          have t1 : ¬ (t : Int) < (t : Int) := by omega
          obtain ⟨W7, hW7⟩ : ∃ W7, W7 = wr := ⟨_, rfl⟩
          subst hW7
          clear c0 c1 c2 c3 c4 c5 c6 c7
          go_wp2
          go_loopw [7, 11] (fun va i wr => ∃ (q : Nat) (xs : List AD), q ≤ cn ∧ i = .int .i64 q ∧ wr.ownsRow U 25 8 va xs.length (acells xs) ∧ SrtA xs ∧ OkA xs ∧ xs.length ≤ 6 ∧ Cnt xs b0 b1 b2 b3 (cn - q) ∧ Ext W7 wr) (fun _ i _ => cn - (intOf i).toNat)
          case atStart => exact ⟨0, es, by omega, rfl, by rw [← HMM.out]; exact HOW.out, HSE.out, HOE.out, HLE.out, HCE.out, Ext.refl _⟩
          case round =>
            obtain ⟨q, xs, hqc, rfl, hox, hsx, hokx, hlx, hcx, hx⟩ := hrel
            have HYX := Lib.hid hx
            have HXX := Lib.hid (HXE.out.trans hx)
            have HSX := Lib.hid hsx
            have HOX := Lib.hid hokx
            have HLX := Lib.hid hlx
            have HCX := Lib.hid hcx
            obtain ⟨l, hl⟩ : ∃ l, l = xs.length := ⟨_, rfl⟩
            rw [← hl] at hox
            obtain ⟨Ax, cx, rfl, hx1, hx2⟩ := own_shape hox
            have HLL := Lib.hid hl
            have HOXR := Lib.hid hox
            have HBX := Lib.hid (ext_blk hx HBE.out)
            clear hx hsx hokx hlx hcx hl hox
            have q0 : (0 : Int) ≤ (q : Int) := by omega
            have hq5 : q ≤ 5 := by have := HGAC.out.2; omega
            have c0 := bcel HBX.out 0 (.int .i64 b0) rfl
            have c1 := bcel HBX.out 1 (.int .i64 b1) rfl
            have c2 := bcel HBX.out 2 (.int .i64 b2) rfl
            have c3 := bcel HBX.out 3 (.int .i64 b3) rfl
            have c4 := bcel HBX.out 4 (.int .i64 (cn : Int)) rfl
            have c5 := bcel HBX.out 5 (.int .i64 b5) rfl
            have c6 := bcel HBX.out 6 (.int .i64 b6) rfl
            have c7 := bcel HBX.out 7 (.int .i64 b7) rfl
            by_cases hlt : q < cn
            case pos =>
              have q1 : (q : Int) < (cn : Int) := by omega
              have hcq : cn - q = (cn - (q + 1)) + 1 := by omega
              have HCX2 := Lib.hid (show Cnt xs b0 b1 b2 b3 ((cn - (q + 1)) + 1) by rw [← hcq]; exact HCX.out)
              have HPT := Lib.hid (pend_take HSX.out HCX2.out ⟨HGAP.out.1, HGAP.out.2.1⟩ ⟨HGAP.out.2.2.1, HGAP.out.2.2.2⟩)
              have HHS := Lib.hid (show hasA b0 xs = true from (HCX2.out.2 (by omega)).1)
              have HP1 := Lib.hid (Pending_any xs (.slice Ax l cx) b1 wr (hdA_of HOXR.out HLL.out) (by have := HLX.out; omega))
              have HTK := Lib.hid (fun W (x : Ext wr W) => Take_any xs (.slice Ax l cx) b0 W (hdA_of (own_ExtK HOXR.out x) HLL.out) (by have := HLX.out; omega) HSX.out HOX.out)
              rw [HHS.out] at HTK
              have HTS := Lib.hid (show SrtA (takeA xs b0) ∧ OkA (takeA xs b0) ∧ (takeA xs b0).length ≤ 6 ∧ Cnt (takeA xs b0) b0 b1 b2 b3 (cn - (q + 1)) ∧ (∀ x ∈ takeA xs b0, x.prio = b0 → x.missed = 0) from ⟨HSX.out.take b0, HOX.out.take b0, by have := takeA_len HSX.out b0; have := HLX.out; omega, cnt_take HCX2.out, take_missed HHS.out⟩)
              obtain ⟨ts, hts⟩ : ∃ ts, ts = takeA xs b0 := ⟨_, rfl⟩
              rw [← hts] at HPT HTK HTS
              obtain ⟨z1, hz1⟩ : ∃ z, z = (pendA xs b1).1 := ⟨_, rfl⟩
              obtain ⟨z2, hz2⟩ : ∃ z, z = (pendA xs b1).2 := ⟨_, rfl⟩
              rw [← hz1, ← hz2] at HP1 HPT
              clear hcq hts hz1 hz2
              go_wp2_with fail
              (with_reducible refine (HP1.out).mono ?_)
              rintro e w8 ⟨rfl, hx8⟩
              have E8 := Lib.hid hx8
              clear hx8 c0 c1 c2 c3 c4 c5 c6 c7
              go_upto_region 20 with fail
              refine at_world (fun W9 hW9 => ?_)
              have HV1 := Lib.hid (show W9.heap[w8.heap.size]? = some (.cells #[.int .i64 z1, .int .i64 z2] 23 (0, 0)) by rw [hW9]; exact heap_alloc_new w8 _)
              have E9 := Lib.hid (E8.out.trans (show Ext w8 W9 by rw [hW9]; exact ext_alloc _ _))
              have HB9 := Lib.hid (ext_blk E9.out HBX.out)
              obtain ⟨P1, hP1⟩ : ∃ P, P = w8.heap.size := ⟨_, rfl⟩
              rw [← hP1] at HV1 ⊢
              clear hW9 hP1
              have c0 := bcel HB9.out 0 (.int .i64 b0) rfl
              have c1 := bcel HB9.out 1 (.int .i64 b1) rfl
              have c2 := bcel HB9.out 2 (.int .i64 b2) rfl
              have c3 := bcel HB9.out 3 (.int .i64 b3) rfl
              have c4 := bcel HB9.out 4 (.int .i64 (cn : Int)) rfl
              have c5 := bcel HB9.out 5 (.int .i64 b5) rfl
              have c6 := bcel HB9.out 6 (.int .i64 b6) rfl
              have c7 := bcel HB9.out 7 (.int .i64 b7) rfl
              go_wp2_with fail
              (with_reducible refine (HTK.out _ E9.out).mono ?_)
              rintro e w10 ⟨vt, rfl, hot, hx10⟩
              obtain ⟨lt, hlt_⟩ : ∃ lt, lt = ts.length := ⟨_, rfl⟩
              rw [← hlt_] at hot
              obtain ⟨At, ct, rfl, ht1, ht2⟩ := own_shape hot
              have HLT := Lib.hid hlt_
              have HOT := Lib.hid (own_lower (B' := U) hot (HU.out _ (HXX.out.trans E9.out)))
              have E10 := Lib.hid (E9.out.trans hx10)
              have HV10 := Lib.hid (ext_blk hx10 HV1.out)
              have HB10 := Lib.hid (ext_blk E10.out HBX.out)
              clear hot hx10 hlt_ c0 c1 c2 c3 c4 c5 c6 c7
              have HP2 := Lib.hid (Pending_any ts (.slice At lt ct) b1 w10 (hdA_of HOT.out HLT.out) (by have := HTS.out.2.2.1; omega))
              obtain ⟨y1, hy1⟩ : ∃ z, z = (pendA ts b1).1 := ⟨_, rfl⟩
              obtain ⟨y2, hy2⟩ : ∃ z, z = (pendA ts b1).2 := ⟨_, rfl⟩
              rw [← hy1, ← hy2] at HP2 HPT
              clear hy1 hy2
              have c0 := bcel HB10.out 0 (.int .i64 b0) rfl
              have c1 := bcel HB10.out 1 (.int .i64 b1) rfl
              have c2 := bcel HB10.out 2 (.int .i64 b2) rfl
              have c3 := bcel HB10.out 3 (.int .i64 b3) rfl
              have c4 := bcel HB10.out 4 (.int .i64 (cn : Int)) rfl
              have c5 := bcel HB10.out 5 (.int .i64 b5) rfl
              have c6 := bcel HB10.out 6 (.int .i64 b6) rfl
              have c7 := bcel HB10.out 7 (.int .i64 b7) rfl
              go_wp2_with fail
              (with_reducible refine (HP2.out).mono ?_)
              rintro e w11 ⟨rfl, hx11⟩
              have E11 := Lib.hid (E10.out.trans hx11)
              have HV11 := Lib.hid (ext_blk hx11 HV10.out)
              have HOT11 := Lib.hid (own_ExtK HOT.out hx11)
              clear hx11 c0 c1 c2 c3 c4 c5 c6 c7
              go_upto_region 22 with fail
              refine at_world (fun W12 hW12 => ?_)
              have HV2 := Lib.hid (show W12.heap[w11.heap.size]? = some (.cells #[.int .i64 y1, .int .i64 y2] 23 (0, 0)) by rw [hW12]; exact heap_alloc_new w11 _)
              have EA := Lib.hid (show Ext w11 W12 by rw [hW12]; exact ext_alloc _ _)
              have E12 := Lib.hid (E11.out.trans EA.out)
              have HV12 := Lib.hid (ext_blk EA.out HV11.out)
              have HOT12 := Lib.hid (own_ExtK HOT11.out EA.out)
              have HB12 := Lib.hid (ext_blk E12.out HBX.out)
              obtain ⟨P2, hP2⟩ : ∃ P, P = w11.heap.size := ⟨_, rfl⟩
              rw [← hP2] at HV2 ⊢
              clear hW12 hP2
              have c2 := bcel HB12.out 2 (.int .i64 b2) rfl
              have c3 := bcel HB12.out 3 (.int .i64 b3) rfl
              have u0 := bcel HV12.out 0 (.int .i64 z1) rfl
              have u1 := bcel HV12.out 1 (.int .i64 z2) rfl
              have v0 := bcel HV2.out 0 (.int .i64 y1) rfl
              have v1 := bcel HV2.out 1 (.int .i64 y2) rfl
              have hw1 := HPT.out.1
              have hw2 := HPT.out.2
              have s2 : (b2 != b2) = false := by simp
              have s3 : (b3 != b3) = false := by simp
              go_upto_region 24 with fail
              clear hw1 hw2 c2 c3 u0 u1 v0 v1
              go_wp2
              go_loopw [16] (fun i wr => ∃ (j : Nat), j ≤ lt ∧ i = .int .i64 j ∧ Ext W12 wr) (fun i _ => lt - (intOf i).toNat)
              case atStart => exact ⟨0, by omega, rfl, Ext.refl _⟩
              case round =>
                obtain ⟨j, hjl, rfl, hx⟩ := hrel
                have HJ := Lib.hid hx
                clear hx
                have j0 : (0 : Int) ≤ (j : Int) := by omega
                by_cases hlt2 : j < lt
                case pos =>
                  have j1 : (j : Int) < (lt : Int) := by omega
                  have hjd : j < ts.length := by have := HLT.out; omega
                  obtain ⟨A_, N_, c_, e_, hN_, _, _, hcell⟩ := (hdA_of HOT12.out HLT.out).ask
                  injection e_ with e1 e2 e3
                  subst e1 e2 e3
                  obtain ⟨g, rfl, _, hg⟩ := hcell (by omega)
                  have hgj := (hg j hjd).ext HJ.out
                  have p0 := hgj.1
                  have p7 := hgj.2.2.2.2.2.2.2
                  have hms := HTS.out.2.2.2.2 _ (List.getElem_mem hjd)
                  obtain ⟨d, hd⟩ : ∃ d, d = ts[j] := ⟨_, rfl⟩
                  rw [← hd] at p0 p7 hms
                  obtain ⟨dp_, hdp⟩ : ∃ z, z = d.prio := ⟨_, rfl⟩
                  obtain ⟨dm_, hdm⟩ : ∃ z, z = d.missed := ⟨_, rfl⟩
                  rw [← hdp] at p0 hms
                  rw [← hdm] at p7 hms
                  have cb := bcel (ext_blk HJ.out HB12.out) 0 (.int .i64 b0) rfl
                  clear hg hcell hN_ hgj hd hdp hdm hjd
                  by_cases hE : dp_ = b0
                  · have s4 : (dp_ == b0) = true := by simpa using hE
                    obtain rfl : dm_ = 0 := hms hE
                    clear hE hms
                    go_wp2_with fail
                    go_quiet (fail)
                    have HJ2 := Lib.hid (HJ.out.trans (ext_drewN wr nq))
                    generalize wr.drewN nq = W_ at HJ2 ⊢
                    go_wp2
                    go_roundw
                    case rel => exact ⟨j + 1, by omega, by simp, HJ2.out⟩
                    case measure => simp [intOf]; omega
                  · have s4 : (dp_ == b0) = false := by simpa using hE
                    clear hE hms
                    go_wp2_with fail
                    go_quiet (fail)
                    have HJ2 := Lib.hid (HJ.out.trans (ext_drewN wr nq))
                    generalize wr.drewN nq = W_ at HJ2 ⊢
                    go_wp2
                    go_roundw
                    case rel => exact ⟨j + 1, by omega, by simp, HJ2.out⟩
                    case measure => simp [intOf]; omega
                case neg =>
                  obtain rfl : j = lt := by omega
                  have j1 : ¬ (j : Int) < (j : Int) := by omega
                  go_wp2
                  go_roundw
                  case rel => exact ⟨q + 1, ts, by omega, by simp, by rw [← HLT.out]; exact own_ExtK HOT12.out HJ.out, HTS.out.1, HTS.out.2.1, HTS.out.2.2.1, HTS.out.2.2.2.1, HYX.out.trans (E12.out.trans HJ.out)⟩
                  case measure => simp [intOf]; omega
            case neg =>
              obtain rfl : q = cn := by omega
              have q1 : ¬ (q : Int) < (q : Int) := by omega
              have HNO := Lib.hid (show hasA b0 xs = false from HCX.out.1 (by omega))
              have HTE := Lib.hid (show takeA xs b0 = xs by unfold takeA; rw [HNO.out]; rfl)
              have HTK := Lib.hid (Take_any xs (.slice Ax l cx) b0 wr (hdA_of HOXR.out HLL.out) (by have := HLX.out; omega) HSX.out HOX.out)
              rw [HNO.out, HTE.out] at HTK
              go_wp2_with fail
              (with_reducible refine (HTK.out).mono ?_)
              rintro e w8 ⟨vt, rfl, hot, hx8⟩
              rw [← HLL.out] at hot
              obtain ⟨At, ct, rfl, ht1, ht2⟩ := own_shape hot
              have HOT := Lib.hid hot
              have E8 := Lib.hid hx8
              clear hot hx8 c0 c1 c2 c3 c4 c5 c6 c7
              go_wp2_with fail
              (with_reducible refine (same_any xs _ _ _ (hdA_of HOT.out HLL.out) (hdA_of (own_ExtK HOXR.out E8.out) HLL.out) (by have := HLX.out; omega)).mono ?_)
              rintro e w9 ⟨rfl, hx9⟩
              have XF := Lib.hid (HXX.out.trans (E8.out.trans hx9))
              clear hx9
              go_wp2
              go_ret
              exact ⟨rfl, XF.out⟩

theorem own : ownKnob Try.prog.godebug = none := by kernel_rfl
theorem laidOut : laidOutB Try.prog = true := by kernel_rfl
set_option maxRecDepth 100000 in
theorem lifted (os : Os) (started : os.Started) (H : Type) (enc : TypeId × Value → H) :
    ReturnsInHanded {} Try.checked os 5 .any (Rows.asksTakeSpec.pre6 enc Try.prog Try.f5 Rows.asksTakeRow.domain false) (Rows.asksTakeSpec.post enc Try.prog Try.f5 false true false false) := by
  refine returnsInHanded_of_change (C := Try.checked) own started (by kernel_rfl) Try.func5
    (ChangeSpec.witness6 (enc := enc) (C := Try.checked) false ⟨#[], #[.agg #[.int .i64 0, .int .i64 0, .int .i64 0, .int .i64 0, .int .i64 0, .int .i64 0, .int .i64 0, .int .i64 0], .slice none 0 0, .int .i64 0], []⟩ 8 (by kernel_rfl) (by kernel_rfl) (by kernel_rfl) (by kernel_rfl)) ?_
  intro W base args ds gs before hval0 hW hcnd _
  have hval : ∀ (j : Nat) t v, Try.f5.params[j]? = some t → args[j]? = some v → Value.okWide Try.prog W .any base t v := hval0
  have hW' := hW
  obtain ⟨p, q, hA0, hV, rfl, hfz, hnd⟩ := hW
  have hA : DataW.TrodAll enc Try.prog W 0 (fun _ => true) true Try.f5.params.toList args.toList ds p := hA0
  rw [Try.params5] at hA hval
  obtain ⟨v0, vs0, d0, ds0, p0, q0, hargs, rfl, rfl, h0, r0⟩ := trodAll_cons hA
  obtain ⟨v1, vs1, d1, ds1, p1, q1, rfl, rfl, rfl, h1, r1⟩ := trodAll_cons r0
  obtain ⟨v2, vs2, d2, ds2, p2, q2, rfl, rfl, rfl, h2, r2⟩ := trodAll_cons r1
  obtain ⟨rfl, rfl, rfl⟩ := trodAll_nil r2
  obtain rfl : args = #[v0, v1, v2] := by cases args; simp_all
  obtain ⟨rfl, rfl⟩ := trodVars_none hV
  have hlt0 : ∀ x ∈ p0, x.block < W.heap.size := fun x hx => by simpa using hW'.lt x (by simp [hx])
  obtain ⟨A00, A01, A02, A03, A04, A05, A06, A07, rfl⟩ := open_ints8 Try.underlying25 (by kernel_rfl) askInts (hval 0 25 v0 rfl rfl) h0
  have hlt1 : ∀ x ∈ p1, x.block < W.heap.size := fun x hx => by simpa using hW'.lt x (by simp [hx])
  obtain ⟨n1, f1, rd1⟩ := open_structs Try.underlying33 (by kernel_rfl) (by decide) askInts (hval 1 33 v1 rfl rfl) h1
  obtain ⟨a2, rfl, rfl, rfl, w2⟩ := open_int Try.underlying3 (hval 2 3 v2 rfl rfl) h2
  clear hA0 hval0
  refine (walk W ⟨A00, A01, A02, A03, A04, A05, A06, A07⟩ v1 n1 f1 rd1 a2 w2).mono fun e W' ⟨he, bel⟩ => ?_
  subst he
  exact ⟨_, rfl, _, _, _, [], _, [], hW', trodAll_mk1 (shut_bool Try.underlying4 _), (trodAll_cons_mk (Below.trod laidOut (by kernel_rfl) (of_decide_eq_true (by kernel_rfl)) h0 bel hlt0) (trodAll_cons_mk (Below.trod laidOut (by kernel_rfl) (of_decide_eq_true (by kernel_rfl)) h1 bel hlt1) (trodAll_cons_mk (shut_int Try.underlying3 w2) trodAll_mk0))), rfl, bel.frame _, fun h => by cases h⟩

theorem over : Rows.asksTakeRow.holds Try.pinned (OpenSpec.ofChange Rows.asksTakeSpec) :=
  OpenClaim.holds_of_wide 5 Try.f5 rfl rfl rfl rfl rfl rfl rfl ⟨rfl, rfl, rfl, rfl, rfl⟩ rfl rfl rfl rfl rfl (by kernel_rfl) Try.func5 (by kernel_rfl)
    (of_decide_eq_true (by kernel_rfl)) (by unfold Func.isWrapper; first | (rw [if_pos (by decide +kernel)]; kernel_rfl) | (rw [if_neg (by decide +kernel)]; exact ⟨rfl, rfl⟩))
    (fun os started H enc _ => lifted os started H enc)

theorem proved : Rows.AsksTakeSaid := over
#print axioms proved
end Go.Proofs.Ytbocpkdnlpobkaa.AsksTake
