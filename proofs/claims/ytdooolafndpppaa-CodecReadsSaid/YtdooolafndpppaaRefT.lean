/- dispatchref2's reader: two, Int. -/
import Derived.Test.YtdooolafndpppaaRefR
namespace Go.Proofs.Ytdooolafndpppaa
open Go.RowKit

/-- A number of two bytes, put together. -/
theorem or_two64 (a c : Nat) (ha : a < 256) (hc : c < 256) : bits .or .i64 ((a : Int) * 256) (c : Int) = ((a * 256 + c : Nat) : Int) := by
  have h1 : (BitVec.ofInt 64 ((a : Int) * 256)).toNat = a * 256 := by
    rw [show ((a : Int) * 256) = ((a * 256 : Nat) : Int) from by omega, BitVec.ofInt_natCast, BitVec.toNat_ofNat]
    exact Nat.mod_eq_of_lt (by omega)
  have h2 : (BitVec.ofInt 64 (c : Int)).toNat = c := by
    rw [BitVec.ofInt_natCast, BitVec.toNat_ofNat]
    exact Nat.mod_eq_of_lt (by omega)
  show IntKind.i64.wrap ((BitVec.ofInt 64 ((a : Int) * 256) ||| BitVec.ofInt 64 (c : Int)).toNat : Int) = _
  rw [BitVec.toNat_or, h1, h2, or_byte a c hc, IntWalk.i64_in _ (by omega)]

theorem two_of (B : List UInt8) (p : Nat) (h : p + 2 ≤ B.length) : (B.drop p).take 2 = [B[p], B[p + 1]] := by
  rw [List.drop_eq_getElem_cons (by omega), List.drop_eq_getElem_cons (by omega)]
  rfl

theorem Rd.byte {w : World} {a : Addr} {n c : Nat} {B : List UInt8} (h : Rd w (.slice (some a) n c) (bvs B)) (k : Nat) (hk : k < B.length) : w.cell? (a.add k) = some (.int .u8 (B[k].toNat : Int)) := by
  obtain ⟨A', c', e, _, _, h3⟩ := h
  injection e with e1 _ _
  obtain ⟨a', e2, _, hc⟩ := h3 (by rw [bvs_length]; omega)
  rw [e2] at e1
  injection e1 with e1
  subst e1
  exact hc k _ (by simp [bvs, bv, hk])

theorem add_succ (a : Addr) (p : Nat) : a.add (p + 1) = ⟨a.block, a.off + (p + 1), none⟩ := by unfold Addr.add; rw [if_neg (by omega)]

theorem at_worldR {P : Program} {code : Code} {Q : Exit → Act → World → Prop} {a : Act} {w : World} (h : ∀ W0, W0 = w → code.wp P Q a W0) : code.wp P Q a w := h w rfl

set_option maxHeartbeats 400000 in
theorem rtwo_ok (X : Nat) (a : Addr) (B : List UInt8) (c p : Nat) (w : World) (h : XAt w X (.slice (some a) B.length c) p 0) (hr : Rd w (.slice (some a) B.length c) (bvs B)) (ha : a.block ≠ X) (hm : B.length ≤ 1000) (hp : p + 2 ≤ B.length) :
    Calls Try.prog 41 #[.pointer (some ⟨X, 0, none⟩)] w fun r w' => r = .returned (.int .i64 (va ((B.drop p).take 2) : Int)) ∧ w.grownBy w' (some X) ∧ XAt w' X (.slice (some a) B.length c) (p + 2) 0 := by
  have hb0 := hr.byte p (by omega)
  have hb1 := hr.byte (p + 1) (by omega)
  have l0 := B[p].toNat_lt
  have l1 := B[p + 1].toNat_lt
  have hv : va ((B.drop p).take 2) = B[p].toNat * 256 + B[p + 1].toNat := by rw [two_of B p hp]; simp [va]
  have HO := Lib.hid (or_two64 B[p].toNat B[p + 1].toNat (by omega) (by omega))
  have HV := Lib.hid hv
  clear hv
  generalize hx0 : B[p].toNat = x0 at *
  generalize hx1 : B[p + 1].toNat = x1 at *
  clear hx0 hx1
  have HO' := HO.out
  have h0 := h.c0
  have h1 := h.c1
  have f1 := h.fr 1
  have HH := Lib.hid h
  have hne : ∀ k, (a.add k).block ≠ X := fun k => by rw [add_block]; exact ha
  have HS := Lib.hid (fun m => (h.drewN m).set1 (p + 2))
  clear h hr
  go_enter Try.func41, Try.ntmps41
  go_wp2_with fail
  refine (has_ok X _ _ c p 2 _ HH.out (by simp [maxLen]; omega) (by omega) (by omega)).mono ?_
  rintro e w1 ⟨rfl, m, rfl⟩
  go_wp2
  refine at_worldR (fun W0 hW0 => ?_)
  have hg : w.grownBy W0 (some X) := by rw [hW0]; exact World.grownBy.trans (grown_drewN _ _ _) (grown_setCell _ _ _ _)
  have hX : XAt W0 X (.slice (some a) B.length c) (p + 2) 0 := by rw [hW0]; exact HS.out m
  have c0 := hX.c0
  have c1 : W0.cell? ⟨X, 1, none⟩ = some (.int .i64 ((p : Int) + 2)) := hX.c1
  have d0 : W0.cell? (a.add p) = some (.int .u8 (x0 : Int)) := by rw [hg.cell_far _ (World.block_lt_of_cell? w _ hb0) (by simpa [add_block] using ha)]; exact hb0
  have d1 : W0.cell? (a.add (p + 1)) = some (.int .u8 (x1 : Int)) := by rw [hg.cell_far _ (World.block_lt_of_cell? w _ hb1) (by simpa [add_block] using ha)]; exact hb1
  have d2 : W0.cell? ⟨a.block, a.off + (p + 1), none⟩ = some (.int .u8 (x1 : Int)) := by rw [← add_succ]; exact d1
  have HX := Lib.hid hX
  have HG := Lib.hid hg
  have i0 : (0 : Int) ≤ (p : Int) := by omega
  have i1 : (p : Int) < (B.length : Int) := by omega
  have i2 : (p : Int) + 1 < (B.length : Int) := by omega
  have i3 : ((p : Int) + 1).toNat = p + 1 := by omega
  have i4 : (0 : Int) ≤ (p : Int) + 1 := by omega
  have e1 : IntKind.i64.wrap (p : Int) = (p : Int) := IntWalk.i64_in _ (by omega)
  have e2 : IntKind.i64.wrap ((p : Int) + 2 - 1) = (p : Int) + 1 := by rw [IntWalk.i64_in _ (by omega)]; omega
  have e3 : IntKind.i64.wrap (x0 : Int) = (x0 : Int) := IntWalk.i64_in _ (by omega)
  have e4 : IntKind.i64.wrap (x1 : Int) = (x1 : Int) := IntWalk.i64_in _ (by omega)
  have e5 : IntKind.i64.wrap ((x0 : Int) * 256) = (x0 : Int) * 256 := IntWalk.i64_in _ (by omega)
  clear hW0 hg hX HS h0 h1 f1 hne hb0 hb1
  go_quiet (fail)
  clear e1 e2 e3 e4 e5 i3
  go_wp2
  go_ret
  refine ⟨?_, HG.out.trans (grown_drewN _ _ _), HX.out.drewN _⟩
  rw [HV.out]
  rfl

end Go.Proofs.Ytdooolafndpppaa
