/- asks.Set, asks.Take. -/
import Derived.Test.YtbocpkdnlpobkaaAkS
namespace Go.Proofs.Ytbocpkdnlpobkaa
open Go.RowKit

theorem own_lower {w : World} {B B' e k n : Nat} {v : Value} {xs : List Value} (h : w.ownsRow B e k v n xs) (hb : B' ≤ B) : w.ownsRow B' e k v n xs := by
  refine ⟨h.1, ?_⟩
  rcases h.2 with hn | ⟨g, cap, cur, rfl, hg, hr⟩
  · exact .inl hn
  · exact .inr ⟨g, cap, cur, rfl, Nat.le_trans hb hg, hr⟩
/-- A list and a second answer. -/
def TwoPost (xs : List AD) (u : Value) (w : World) (e : Ending) (w' : World) : Prop := ∃ v, e = .returned (.tuple #[v, u]) ∧ w'.ownsRow w.heap.size 25 8 v xs.length (acells xs) ∧ Ext w w'
def OnePost (xs : List AD) (w : World) (e : Ending) (w' : World) : Prop := ∃ v, e = .returned v ∧ w'.ownsRow w.heap.size 25 8 v xs.length (acells xs) ∧ Ext w w'

set_option maxRecDepth 100000 in
set_option maxHeartbeats 1600000 in
theorem Set_any (ds : List AD) (v : Value) (a : AD) (w : World) (hn : HdA w v ds) (hlen : ds.length ≤ 1000) (hs : SrtA ds) :
    Calls Try.prog 14 #[v, askV a] w (TwoPost (setL ds a) (.int .i64 (setE ds a)) w) := by
  have HPU := Lib.hid (fun W (x : Ext w W) => aput_any ds v { a with missed := 0 } W (hn.ext x) hlen hs)
  have HLN := Lib.hid (show (putA ds { a with missed := 0 }).length ≤ 100000 by have := putA_len ds { a with missed := 0 } hs; omega)
  have HL1 := Lib.hid (show ¬ (putA ds { a with missed := 0 }).length > 8 → setL ds a = putA ds { a with missed := 0 } ∧ setE ds a = 0 from fun h => by unfold setL setE setA; rw [if_neg h, if_neg h]; exact ⟨rfl, rfl⟩)
  have HL2 := Lib.hid (show (putA ds { a with missed := 0 }).length > 8 → setL ds a = [] ∧ setE ds a = 4 from fun h => by unfold setL setE setA; rw [if_pos h, if_pos h]; exact ⟨rfl, rfl⟩)
  obtain ⟨A, N, c, rfl, hN, hc1, hc2, hcell⟩ := hn.ask
  clear hcell hn hlen hs hN
  obtain ⟨ap, al, am, ac, an, ao, ar, ami⟩ := a
  simp only [askV] at HPU HLN HL1 HL2 ⊢
  obtain ⟨R, hR⟩ : ∃ R, R = putA ds ⟨ap, al, am, ac, an, ao, ar, 0⟩ := ⟨_, rfl⟩
  rw [← hR] at HPU HLN HL1 HL2
  obtain ⟨SL, hSL⟩ : ∃ SL, SL = setL ds ⟨ap, al, am, ac, an, ao, ar, ami⟩ := ⟨_, rfl⟩
  obtain ⟨SE, hSE⟩ : ∃ SE, SE = setE ds ⟨ap, al, am, ac, an, ao, ar, ami⟩ := ⟨_, rfl⟩
  rw [← hSL, ← hSE] at HL1 HL2 ⊢
  clear hR hSL hSE
  go_enter Try.func14, Try.ntmps14
  go_wp2_with fail
  (with_reducible refine (HPU.out _ ?e0).mono ?_)
  case e0 => first | exact ext_set (ext_alloc _ _) (Nat.le_refl _) _ | exact ext_alloc _ _
  intro e w1 hj
  obtain ⟨A1, c1, rfl, ho, hx⟩ := hj.own HLN.out
  have X1 := Lib.hid (show Ext w w1 from (by first | exact ext_set (ext_alloc _ _) (Nat.le_refl _) _ | exact ext_alloc _ _ : Ext w _).trans hx)
  have HO := Lib.hid (own_lower (B' := w.heap.size) ho (by simp))
  obtain ⟨n, hn⟩ : ∃ n, n = R.length := ⟨_, rfl⟩
  rw [← hn] at HL1 HL2 HO ⊢
  have HN := Lib.hid hn
  clear hn ho hx hj
  by_cases h : n > 8
  · have t : decide ((8 : Int) < (n : Int)) = true := by simp; omega
    obtain ⟨e1, e2⟩ := HL2.out h
    have HE := Lib.hid (And.intro e1 e2)
    clear e1 e2
    go_wp2
    refine bodyPost_ret (by simp [results, Try.results14, go_sem]; try rfl) rfl ?_
    exact ⟨_, by rw [HE.out.2], by rw [HE.out.1]; exact World.ownsRow_nil w1 _ _ 8, X1.out⟩
  · have t : decide ((8 : Int) < (n : Int)) = false := by simp; omega
    obtain ⟨e1, e2⟩ := HL1.out h
    have HE := Lib.hid (And.intro e1 e2)
    clear e1 e2
    go_wp2
    refine bodyPost_ret (by simp [results, Try.results14, go_sem]; try rfl) rfl ?_
    exact ⟨_, by rw [HE.out.2], by rw [HE.out.1, ← HN.out]; exact HO.out, X1.out⟩

set_option maxRecDepth 100000 in
set_option maxHeartbeats 1600000 in
theorem Take_any (ds : List AD) (v : Value) (p : Int) (w : World) (hn : HdA w v ds) (hlen : ds.length ≤ 1000) (hs : SrtA ds) (hk : OkA ds) :
    Calls Try.prog 16 #[v, .int .i64 p] w (TwoPost (takeA ds p) (.bool (hasA p ds)) w) := by
  have HPL := Lib.hid (fun W (x : Ext w W) => place_any ds v p W (hn.ext x) hlen hs)
  have HH := Lib.hid hn
  obtain ⟨hh, hhd⟩ : ∃ hh, hh = hasA p ds := ⟨_, rfl⟩
  rw [← hhd] at HPL ⊢
  cases hh
  · have HT := Lib.hid (show takeA ds p = ds by unfold takeA; rw [if_neg (by rw [← hhd]; simp)])
    obtain ⟨A, N, c, rfl, hN, hc1, hc2, hcell⟩ := hn.ask
    obtain ⟨i, hi⟩ : ∃ i, i = (lowA p ds).length := ⟨_, rfl⟩
    rw [← hi] at HPL
    have HLN := Lib.hid (show [ds].flatten.length ≤ 10000 by simp; omega)
    clear hcell hn hs hN hhd hi hk
    go_enter Try.func16, Try.ntmps16
    go_wp2_with fail
    (with_reducible refine (HPL.out _ (Ext.refl _)).mono ?_)
    rintro e w1 ⟨rfl, hx1⟩
    go_wp2_with fail
    have E5 := hx1.trans (ext_alloc w1 (.cells #[.slice A N c] 33))
    have r1 := (HH.out.ext E5).rdK
    refine (joined_any w1.heap.size 1 [.slice A N c] [ds] _ (heap_alloc_new w1 _) rfl (by omega) (fun k hk => match k, hk with | 0, _ => ⟨_, rfl, r1⟩) HLN.out).mono ?_
    intro e w5 hj
    obtain ⟨A1, c1, rfl, ho, hx⟩ := hj.own (by have := HLN.out; omega)
    have HO := Lib.hid (own_lower (B' := w.heap.size) ho E5.size)
    have X5 := Lib.hid (E5.trans hx)
    have HF := Lib.hid (show [ds].flatten = ds by simp)
    rw [HF.out] at HO ⊢
    clear ho hx r1 E5 hj hx1
    go_wp2
    refine bodyPost_ret (by simp [results, Try.results16, go_sem]; try rfl) rfl ?_
    exact ⟨_, rfl, by rw [HT.out]; exact HO.out, X5.out⟩
  · have HT := Lib.hid (show takeA ds p = putA ds { getA p ds with count := (getA p ds).count - 1, missed := 0 } by unfold takeA; rw [if_pos hhd.symm])
    obtain ⟨k, hkd, hkp⟩ := hasA_idx hhd.symm
    have HPH := Lib.hid (place_hit hs hkd hkp)
    have HG := Lib.hid (show getA p ds = ds[k] by rw [← hkp]; exact getA_at hs k hkd)
    rw [HPH.out.1] at HPL
    have HPU := Lib.hid (fun W (x : Ext w W) (a : AD) => aput_any ds v a W (hn.ext x) hlen hs)
    have HLN := Lib.hid (show ∀ a, (putA ds a).length ≤ 100000 from fun a => by have := putA_len ds a hs; omega)
    obtain ⟨hk1, hk2, _, _⟩ := hk _ (List.getElem_mem hkd)
    obtain ⟨A, N, c, rfl, hN, hc1, hc2, hcell⟩ := hn.ask
    have hkN : k < N := by omega
    obtain ⟨g, rfl, _, hg⟩ := hcell (by omega)
    have HQ := Lib.hid (hg k hkd)
    rw [HG.out] at HT
    obtain ⟨d, hd⟩ : ∃ d, d = ds[k] := ⟨_, rfl⟩
    rw [← hd] at HQ HT hk1 hk2
    have hN1 : N ≤ 1000 := by omega
    clear hcell hn hs hN hhd hk hg hd HG HPH hlen
    obtain ⟨ap, al, am, ac, an, ao, ar, ami⟩ := d
    simp only at HT hk1 hk2
    have k0 : (0 : Int) ≤ (k : Int) := by omega
    have k1 : (k : Int) < (N : Int) := by omega
    go_enter Try.func16, Try.ntmps16
    go_wp2_with fail
    (with_reducible refine (HPL.out _ (Ext.refl _)).mono ?_)
    rintro e w1 ⟨rfl, hx1⟩
    have X1 := Lib.hid hx1
    obtain ⟨q0, q1, q2, q3, q4, q5, q6, q7⟩ := HQ.out.ext X1.out
    clear hx1
    go_wp2_with fail
    refine (HPU.out _ ?e0 ⟨ap, al, am, ac, an - 1, ao, ar, 0⟩).mono ?_
    case e0 => first | exact X1.out.trans (ext_set (ext_set (ext_alloc _ _) (Nat.le_refl _) _) (Nat.le_refl _) _) | exact X1.out.trans (ext_alloc _ _)
    intro e w5 hj
    obtain ⟨A1, c1, rfl, ho, hx⟩ := hj.own (HLN.out _)
    have X5 := Lib.hid (show Ext w w5 from (by first | exact X1.out.trans (ext_set (ext_set (ext_alloc _ _) (Nat.le_refl _) _) (Nat.le_refl _) _) | exact X1.out.trans (ext_alloc _ _) : Ext w _).trans hx)
    have HO := Lib.hid (own_lower (B' := w.heap.size) ho (by have := X1.out.size; simp; omega))
    clear ho hx hj
    go_wp2
    refine bodyPost_ret (by simp [results, Try.results16, go_sem]; try rfl) rfl ?_
    exact ⟨_, rfl, by rw [HT.out]; exact HO.out, X5.out⟩
end Go.Proofs.Ytbocpkdnlpobkaa
