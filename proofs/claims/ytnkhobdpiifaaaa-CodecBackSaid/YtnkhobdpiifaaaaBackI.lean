/- dispatchlaw2: ints. -/
import Derived.Test.YtnkhobdpiifaaaaBackL
import Derived.Deep.QuietTactic
import Derived.BigQuiet
namespace Go.Proofs.Ytnkhobdpiifaaaa
open Go.RowKit

def Told (w : World) (p : Prop) (e : Ending) (w' : World) : Prop := ∃ q : Bool, e = .returned (.bool q) ∧ (p → q = true) ∧ Ext w w'
theorem extDN (w : World) (n : Nat) : Ext w (w.drewN n) := ⟨rfl, rfl, rfl, Nat.le_refl _, fun _ _ => rfl⟩

set_option maxHeartbeats 800000 in
theorem ints_told (u v : Value) (L M : List Int) (w : World) (hu : Rd w u (L.map (Value.int .i64))) (hv : Rd w v (M.map (Value.int .i64))) :
    Calls Try.prog 11 #[u, v] w (Told w (L = M)) := by
  obtain ⟨A, c, rfl, hc1, hm1, hcu⟩ := hu
  obtain ⟨A', c', rfl, hc2, hm2, hcv⟩ := hv
  simp only [List.length_map] at *
  unfold maxLen at hm1 hm2
  have Hcu := Lib.hid hcu
  have Hcv := Lib.hid hcv
  clear hcu hcv
  by_cases hlen : L.length = M.length
  · have HL := Lib.hid hlen
    have hq : ((L.length : Int) != (M.length : Int)) = false := by simp; omega
    have hd : decide (L.length = M.length) = true := by simpa using hlen
    have hl2 : L.length ≤ M.length := by omega
    clear hlen
    go_enter Try.func11, Try.ntmps11
    go_wp2
    go_loopw [5] (fun i wr => ∃ k : Nat, k ≤ L.length ∧ i = .int .i64 k ∧ ∃ m, wr = w.drewN m) (fun i _ => L.length - (intOf i).toNat)
    case atStart => exact ⟨0, Nat.zero_le _, rfl, 0, rfl⟩
    case round =>
      obtain ⟨k, hk, rfl, m, rfl⟩ := hrel
      by_cases hlt : k < L.length
      · obtain ⟨a, rfl, _, ha⟩ := Hcu.out (by omega)
        obtain ⟨b, rfl, _, hb⟩ := Hcv.out (by omega)
        have d0 : w.cell? (a.add k) = some (.int .i64 L[k]) := ha k _ (by simp [hlt])
        have d1 : w.cell? (b.add k) = some (.int .i64 M[k]) := hb k _ (by simp [show k < M.length by omega])
        have i0 : (0 : Int) ≤ (k : Int) := by omega
        have i1 : (k : Int) < (L.length : Int) := by omega
        have i2 : (k : Int) < (M.length : Int) := by omega
        clear ha hb
        have hne : L[k] ≠ M[k] → L ≠ M := fun h e => h (by subst e; rfl)
        generalize L[k] = x at *
        generalize M[k] = y at *
        by_cases hxy : x = y
        · subst hxy
          clear hne
          go_wp2
          go_quiet (fail)
          go_wp2
          go_roundw
          case rel => exact ⟨k + 1, by omega, by go_num, ⟨_, by first | rfl | exact World.drewN_drewN _ _ _⟩⟩
          case measure => simp [intOf]; omega
        · have hno := Lib.hid (hne hxy)
          have hxn : (x != y) = true := by simpa using hxy
          clear hne hxy
          go_wp2
          go_quiet (fail)
          go_wp2
          go_ret
          exact ⟨false, rfl, fun h => absurd h hno.out, by first | exact extDN _ _ | exact (extDN _ _).trans (extDN _ _)⟩
      · go_wp2
        go_ret
        exact ⟨true, rfl, fun _ => rfl, extDN _ _⟩
  · have hq : ((L.length : Int) != (M.length : Int)) = true := by simp; omega
    have hno := Lib.hid (show L ≠ M from fun h => hlen (by rw [h]))
    have hd : decide (L.length = M.length) = false := by simpa using hlen
    clear hlen
    go_enter Try.func11, Try.ntmps11
    go_wp2
    go_ret
    exact ⟨false, rfl, fun h => absurd h hno.out, Ext.refl _⟩

end Go.Proofs.Ytnkhobdpiifaaaa
