/- asks.put, asks.Set. -/
import Derived.Test.YtbocpkdnlpobkaaAkJ
import Derived.Test.YtbocpkdnlpobkaaSched2
namespace Go.Proofs.Ytbocpkdnlpobkaa
open Go.RowKit

theorem put_parts {ds : List AD} (h : SrtA ds) (p : Int) : (lowA p ds).length ≤ ds.length ∧ lowA p ds = ds.take (lowA p ds).length ∧ highA p ds = ds.drop (if hasA p ds then (lowA p ds).length + 1 else (lowA p ds).length) ∧ (hasA p ds = true → (lowA p ds).length + 1 ≤ ds.length) := by
  refine ⟨lowA_le p ds, ?_⟩
  cases hh : hasA p ds with
  | false =>
    have e2 : ∀ a b : List AD, ds = a ++ b → a = ds.take a.length ∧ b = ds.drop a.length := by rintro a b rfl; simp
    obtain ⟨h1, h2⟩ := e2 _ _ (low_high h hh)
    exact ⟨h1, by rw [if_neg (by simp)]; exact h2, fun h => by cases h⟩
  | true =>
    obtain ⟨k, hk, rfl⟩ := hasA_idx hh
    rw [lowA_at h k hk, highA_at h k hk, List.length_take, Nat.min_eq_left (by omega), if_pos rfl]
    exact ⟨rfl, rfl, fun _ => by omega⟩
theorem HdA.takeK {w : World} {A : Option Addr} {N c : Nat} {ds : List AD} (h : HdA w (.slice A N c) ds) (i : Nat) (hi : i ≤ N) : RdK 8 w (.slice (subK 8 A 0 c) i c) (ds.take i).length (acells (ds.take i)) := by
  obtain ⟨A', c', e, h1, h2, h3⟩ := h
  injection e with e1 e2 e3
  subst e1 e2 e3
  have hl : (ds.take i).length = i := by rw [List.length_take]; omega
  rw [hl]
  refine ⟨_, c, rfl, by omega, h2, by rw [acells_len, hl], fun h0 => ?_⟩
  rw [acells_len, hl] at h0
  obtain ⟨g, rfl, hg, hc⟩ := h3 (by omega)
  refine ⟨⟨g, 0, none⟩, by rw [subK_head 8 g 0 c (.inr rfl), Nat.zero_mul], hg, fun j u hu => ?_⟩
  rw [head_add, Nat.zero_add]
  rw [acells_take, List.getElem?_take] at hu
  split at hu
  · exact hc j u hu
  · cases hu
theorem HdA.dropK {w : World} {A : Option Addr} {N c : Nat} {ds : List AD} (h : HdA w (.slice A N c) ds) (i : Nat) (hi : i ≤ N) : RdK 8 w (.slice (subK 8 A i c) (N - i) (c - i)) (ds.drop i).length (acells (ds.drop i)) := by
  obtain ⟨A', c', e, h1, h2, h3⟩ := h
  injection e with e1 e2 e3
  subst e1 e2 e3
  have hl : (ds.drop i).length = ds.length - i := by rw [List.length_drop]
  rw [hl]
  refine ⟨_, _, rfl, by omega, by omega, by rw [acells_len, hl], fun h0 => ?_⟩
  rw [acells_len, hl] at h0
  obtain ⟨g, rfl, hg, hc⟩ := h3 (by omega)
  refine ⟨⟨g, i * 8, none⟩, by rw [subK_head 8 g i c (by omega)], hg, fun j u hu => ?_⟩
  rw [head_add]
  rw [acells_drop, List.getElem?_drop] at hu
  exact hc _ u hu
theorem RdK.one {w : World} {g : Nat} {a : AD} (h : w.heap[g]? = some (.cells (aenc a).toArray 25 (0, 0))) : RdK 8 w (.slice (some ⟨g, 0, none⟩) 1 1) [a].length (acells [a]) := by
  refine ⟨_, 1, rfl, Nat.le_refl _, by simp [maxLen], by rw [acells_len], fun _ => ⟨_, rfl, (Array.getElem?_eq_some_iff.1 h).1, fun j u hu => ?_⟩⟩
  rw [head_add, Nat.zero_add]
  exact bcel h j u (by rw [List.getElem?_toArray]; simpa [acells] using hu)
theorem JoinPost.own {xs : List AD} {w : World} {e : Ending} {w' : World} (h : JoinPost xs w e w') (hl : xs.length ≤ 100000) : ∃ A c, e = .returned (.slice A xs.length c) ∧ w'.ownsRow w.heap.size 25 8 (.slice A xs.length c) xs.length (acells xs) ∧ Ext w w' := by
  obtain ⟨g, e1, hg, hc, hx⟩ := h
  exact ⟨_, _, e1, ⟨acells_len xs, .inr ⟨g, xs.length, _, rfl, hg, hc, Nat.le_refl _, by simp [maxLen]; omega, by simp [acells_len], by simp [← acells_len]⟩⟩, hx⟩

set_option maxRecDepth 100000 in
set_option maxHeartbeats 3200000 in
theorem aput_any (ds : List AD) (v : Value) (a : AD) (w : World) (hn : HdA w v ds) (hlen : ds.length ≤ 1000) (hs : SrtA ds) :
    Calls Try.prog 28 #[v, askV a] w (JoinPost (putA ds a) w) := by
  obtain ⟨c0, hc, hcz0, hcz1, hcz2⟩ := info_parts Try.infoAk
  have HPA := Lib.hid (put_parts hs a.prio)
  have HPL := Lib.hid (fun W (x : Ext w W) => place_any ds v a.prio W (hn.ext x) hlen hs)
  have HH := Lib.hid hn
  have HLN := Lib.hid (show (putA ds a).length ≤ 10000 by have := putA_len ds a hs; omega)
  obtain ⟨A, N, c, rfl, hN, hc1, hc2, hcell⟩ := hn.ask
  have HN := Lib.hid hN
  have hN9 : N ≤ 1000 := by omega
  clear hcell hn hlen hs
  obtain ⟨i, hi⟩ : ∃ i, i = (lowA a.prio ds).length := ⟨_, rfl⟩
  rw [← hi, ← hN] at HPA
  rw [← hi] at HPL
  have HI := Lib.hid hi
  have hiN : i ≤ N := HPA.out.1
  clear hi hN
  have sh := fun (W : World) (kl : IntKind) => slK_h (P := Try.prog) (A := A) (n := N) (c := c) Try.underlying33 hc hcz1 (h := i) (by omega) W kl
  have sl := fun (W : World) (kl : IntKind) => slK_l (P := Try.prog) (A := A) (n := N) (c := c) Try.underlying33 hc hcz1 (l := i) (by omega) W kl
  have HT1 := Lib.hid (fun W (x : Ext w W) => HdA.takeK (HH.out.ext x) i hiN)
  have HT2 := Lib.hid (fun W (x : Ext w W) => HdA.dropK (HH.out.ext x) i hiN)
  obtain ⟨A1, hA1⟩ : ∃ A1, A1 = subK 8 A 0 c := ⟨_, rfl⟩
  obtain ⟨A2, hA2⟩ : ∃ A2, A2 = subK 8 A i c := ⟨_, rfl⟩
  obtain ⟨n2, hn2⟩ : ∃ n2, n2 = N - i := ⟨_, rfl⟩
  obtain ⟨c2, hc2'⟩ : ∃ c2, c2 = c - i := ⟨_, rfl⟩
  rw [← hA1] at sh HT1
  rw [← hA2, ← hn2, ← hc2'] at sl HT2
  clear hA1 hA2 hn2 hc2'
  obtain ⟨ap, al, am, ac, an, ao, ar, ami⟩ := a
  unfold askV
  simp only at HPL HPA HI ⊢
  -- the rest of the walk, whatever is joined
  go_enter Try.func28, Try.ntmps28
  go_wp2_with fail
  (with_reducible refine (HPL.out _ (ext_alloc _ _)).mono ?_)
  rintro e w1 ⟨rfl, hx1⟩
  have X1 := Lib.hid ((ext_alloc w (.cells #[.int .i64 ap, .int .i64 al, .int .i64 am, .int .i64 ac, .int .i64 an, .int .i64 ao, .int .i64 ar, .int .i64 ami] 25)).trans hx1)
  have HB := Lib.hid (ext_blk hx1 (heap_alloc_new w (.cells #[.int .i64 ap, .int .i64 al, .int .i64 am, .int .i64 ac, .int .i64 an, .int .i64 ao, .int .i64 ar, .int .i64 ami] 25)))
  obtain ⟨B, hB⟩ : ∃ B, B = w.heap.size := ⟨_, rfl⟩
  have HBB := Lib.hid hB
  rw [← hB] at HB ⊢
  clear hx1 hB
  obtain ⟨hh, hhd⟩ : ∃ hh, hh = hasA ap ds := ⟨_, rfl⟩
  rw [← hhd] at HPA ⊢
  have HHD := Lib.hid hhd
  clear hhd
  go_upto_region 2 with fail
  go_quiet (fail)
  have X2 := Lib.hid (X1.out.trans (ext_drewN w1 nq))
  have HB2 := Lib.hid (ext_blk (ext_drewN w1 nq) HB.out)
  generalize w1.drewN nq = W2 at X2 HB2 ⊢
  obtain ⟨A3, n3, c3, hs3, he3, hr3⟩ : ∃ (A3 : Option Addr) (n3 c3 : Nat), (hh = true → ∀ (W : World) (kl : IntKind), (Instr.slice 33 (.slice A N c) (some (.int kl ((i : Int) + 1))) none none).run Try.prog W = .ok (.slice A3 n3 c3) W) ∧ (hh = false → A3 = A2 ∧ n3 = n2 ∧ c3 = c2) ∧ ∀ W, Ext w W → RdK 8 W (.slice A3 n3 c3) (highA ap ds).length (acells (highA ap ds)) := by
    cases hh
    · refine ⟨A2, n2, c2, fun h => (by cases h), fun _ => ⟨rfl, rfl, rfl⟩, fun W x => ?_⟩
      have := HT2.out W x
      have e := HPA.out.2.2.1
      rw [if_neg (by simp)] at e
      rw [e]
      exact this
    · have hi1 : i + 1 ≤ N := HPA.out.2.2.2 rfl
      refine ⟨_, _, _, fun _ W kl => slK_l (P := Try.prog) (A := A) (n := N) (c := c) Try.underlying33 hc hcz1 (l := i + 1) hi1 W kl, fun h => (by cases h), fun W x => ?_⟩
      have := HdA.dropK (HH.out.ext x) (i + 1) hi1
      have e := HPA.out.2.2.1
      rw [if_pos rfl] at e
      rw [e]
      exact this
  have HR3 := Lib.hid hr3
  have HR1 := Lib.hid (show ∀ W, Ext w W → RdK 8 W (.slice A1 i c) (lowA ap ds).length (acells (lowA ap ds)) from fun W x => by rw [HPA.out.2.1]; exact HT1.out W x)
  have HQ1 := Lib.hid (show an = 0 → [lowA ap ds, highA ap ds].flatten = putA ds ⟨ap, al, am, ac, an, ao, ar, ami⟩ from fun h => by simp [putA, midA, setOne, h])
  have HQ2 := Lib.hid (show an ≠ 0 → [lowA ap ds, [⟨ap, al, am, ac, an, ao, ar, ami⟩], highA ap ds].flatten = putA ds ⟨ap, al, am, ac, an, ao, ar, ami⟩ from fun h => by simp [putA, midA, setOne, h])
  obtain ⟨R, hR⟩ : ∃ R, R = putA ds ⟨ap, al, am, ac, an, ao, ar, ami⟩ := ⟨_, rfl⟩
  rw [← hR] at HQ1 HQ2 HLN ⊢
  obtain ⟨L, hL⟩ : ∃ L, L = lowA ap ds := ⟨_, rfl⟩
  obtain ⟨H, hH⟩ : ∃ H, H = highA ap ds := ⟨_, rfl⟩
  rw [← hL, ← hH] at HQ1 HQ2
  rw [← hL] at HR1
  rw [← hH] at HR3
  have hi0 : (0 : Int) ≤ (i : Int) := by omega
  have HRR := Lib.hid hR
  clear hr3 hR hL hH HT1 HT2 HPA HPL HH HI sh sl HHD HN HB X1
  have tail : ∀ (W5 : World) (Q : Nat → Prop), True := fun _ _ => trivial
  cases hh
  case' false =>
    obtain ⟨rfl, rfl, rfl⟩ := he3 rfl
    clear hs3 he3
    go_upto_region 5 with fail
  case' true =>
    have hs4 := hs3 rfl
    clear hs3 he3
    go_upto_region 5 with fail
  all_goals
    clear tail
    have b0 := bcel HB2.out 0 (.int .i64 ap) rfl
    have b1 := bcel HB2.out 1 (.int .i64 al) rfl
    have b2 := bcel HB2.out 2 (.int .i64 am) rfl
    have b3 := bcel HB2.out 3 (.int .i64 ac) rfl
    have b4 := bcel HB2.out 4 (.int .i64 an) rfl
    have b5 := bcel HB2.out 5 (.int .i64 ao) rfl
    have b6 := bcel HB2.out 6 (.int .i64 ar) rfl
    have b7 := bcel HB2.out 7 (.int .i64 ami) rfl
    by_cases h0 : an = 0
    · have t0 : (an == 0) = true := by simpa using h0
      have HQ := Lib.hid (HQ1.out h0)
      clear h0 HQ1 HQ2
      go_wp2_with fail
      have E5 := ext_alloc W2 (.cells #[.slice A1 i c, .slice A3 n3 c3] 33)
      have r1 := HR1.out _ (X2.out.trans E5)
      have r2 := HR3.out _ (X2.out.trans E5)
      refine (joined_any W2.heap.size 2 [.slice A1 i c, .slice A3 n3 c3] [L, H] _ (heap_alloc_new W2 _) rfl (by omega) (fun k hk => match k, hk with | 0, _ => ⟨_, rfl, r1⟩ | 1, _ => ⟨_, rfl, r2⟩) (by rw [HQ.out]; exact HLN.out)).mono ?_
      rintro e w5 ⟨g, rfl, hg, hgc, hx5⟩
      rw [HQ.out] at hgc ⊢
      have HG := Lib.hid hgc
      have X5 := Lib.hid ((X2.out.trans E5).trans hx5)
      have HGW := Lib.hid (show w.heap.size ≤ g from Nat.le_trans (X2.out.trans E5).size hg)
      clear hgc hx5 hg r1 r2 E5
      go_wp2
      go_ret
      exact ⟨g, by rw [← HRR.out]; rfl, HGW.out, by rw [← HRR.out]; exact HG.out, X5.out⟩
    · have t0 : (an == 0) = false := by simpa using h0
      have HQ := Lib.hid (HQ2.out h0)
      clear h0 HQ1 HQ2
      go_wp2_with fail
      have E4 := ext_alloc W2 (.cells #[.int .i64 ap, .int .i64 al, .int .i64 am, .int .i64 ac, .int .i64 an, .int .i64 ao, .int .i64 ar, .int .i64 ami] 25)
      have E5 := E4.trans (ext_alloc _ (.cells #[.slice A1 i c, .slice (some ⟨W2.heap.size, 0, none⟩) 1 1, .slice A3 n3 c3] 33))
      have r1 := HR1.out _ (X2.out.trans E5)
      have r2 := HR3.out _ (X2.out.trans E5)
      have r3 := RdK.one (a := ⟨ap, al, am, ac, an, ao, ar, ami⟩) (ext_blk (ext_alloc _ (.cells #[.slice A1 i c, .slice (some ⟨W2.heap.size, 0, none⟩) 1 1, .slice A3 n3 c3] 33)) (heap_alloc_new W2 (.cells #[.int .i64 ap, .int .i64 al, .int .i64 am, .int .i64 ac, .int .i64 an, .int .i64 ao, .int .i64 ar, .int .i64 ami] 25)))
      refine (joined_any (W2.heap.size + 1) 3 [.slice A1 i c, .slice (some ⟨W2.heap.size, 0, none⟩) 1 1, .slice A3 n3 c3] [L, [⟨ap, al, am, ac, an, ao, ar, ami⟩], H] _ (alloc_at (by simp)) rfl (by omega) (fun k hk => match k, hk with | 0, _ => ⟨_, rfl, r1⟩ | 1, _ => ⟨_, rfl, r3⟩ | 2, _ => ⟨_, rfl, r2⟩) (by rw [HQ.out]; exact HLN.out)).mono ?_
      rintro e w5 ⟨g, rfl, hg, hgc, hx5⟩
      rw [HQ.out] at hgc ⊢
      have HG := Lib.hid hgc
      have X5 := Lib.hid ((X2.out.trans E5).trans hx5)
      have HGW := Lib.hid (show w.heap.size ≤ g from Nat.le_trans (X2.out.trans E5).size hg)
      clear hgc hx5 hg r1 r2 r3 E5 E4
      go_wp2
      go_ret
      exact ⟨g, by rw [← HRR.out]; rfl, HGW.out, by rw [← HRR.out]; exact HG.out, X5.out⟩
end Go.Proofs.Ytbocpkdnlpobkaa
