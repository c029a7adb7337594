/- dispatchlaw3: known; a disk led step by step. -/
import Derived.Test.YtpinpljmabhdhaaDkC
import Derived.Test.YtpinpljmabhdhaaWith3
import Derived.Lib.SlBytesConst
namespace Go.Proofs.Ytpinpljmabhdhaa
open Go.RowKit

theorem Dk.base {w : World} {b b' R : Nat} {L : Option Nat × Option Nat} {s : DS} (h : Dk w b R L s) (hb : b' ≤ b) : Dk w b' R L s := by
  obtain ⟨vl, vs, h0, ⟨h1, h1'⟩, h2, h3, h4, h5, h6, h7, h8⟩ := h
  refine ⟨vl, vs, h0, ⟨h1, ?_⟩, h2, h3, h4, h5, h6, ⟨Nat.le_trans hb h7.1, h7.2⟩, h8⟩
  rcases h1' with hn | ⟨g, cap, cur, rfl, hbg, hr⟩
  · exact .inl hn
  · exact .inr ⟨g, cap, cur, rfl, Nat.le_trans hb hbg, hr⟩

theorem Did.next {w w1 w2 : World} {R : Nat} {L : Option Nat × Option Nat} {s s' : DS} {v : Value} {e : Ending} (hx : Ext w w1) (hd : Dk w1 w.heap.size R L s) (h : Did w1 w.heap.size R L s' v e w2) :
    e = .returned v ∧ Ext w w2 ∧ ∃ L', Dk w2 w.heap.size R L' s' := by
  obtain ⟨rfl, hf, L', h, _⟩ := h
  exact ⟨rfl, hf.ext hx hd.from, L', h⟩

/-- Bytes that are new. -/
theorem rd_new (w : World) (l : List UInt8) (xs : Array Value) (hx : xs.toList = bvs l) (n : Nat) (hn : n = l.length) (hm : l.length ≤ maxLen) (fr : Nat × Nat) : Rd (w.alloc (.cells xs 5 fr)) (.slice (some ⟨w.heap.size, 0, none⟩) n n) (bvs l) := by
  subst hn
  refine ⟨_, l.length, by rw [bvs_length], by rw [bvs_length]; exact Nat.le_refl _, hm, fun _ => ⟨_, rfl, by simp, fun j u hu => ?_⟩⟩
  have hadd : (⟨w.heap.size, 0, none⟩ : Addr).add j = ⟨w.heap.size, j, none⟩ := by unfold Addr.add; split <;> simp_all
  rw [hadd, cell_of_row _ w.heap.size j _ 5 fr (heap_alloc_new w _), ← Array.getElem?_toList, hx]
  exact hu

theorem Dk.not_new {w : World} {b R : Nat} {L : Option Nat × Option Nat} {s : DS} (h : Dk w b R L s) {n c : Nat} : ∀ k, (Value.slice (some ⟨w.heap.size, 0, none⟩) n c).ownBlock = some k → ¬ mine R L k := by
  intro k hk hm
  have := h.below k hm
  simp [Value.ownBlock] at hk
  omega

theorem Dk.not_old {w0 w : World} {R : Nat} {L : Option Nat × Option Nat} {s : DS} (h : Dk w w0.heap.size R L s) {v : Value} {xs : List Value} (hr : ∀ k, v.ownBlock = some k → k < w0.heap.size) : ∀ k, v.ownBlock = some k → ¬ mine R L k := by
  intro k hk hm
  have := h.from k hm
  have := hr k hk
  omega

theorem known_any (w : World) : Calls Try.prog 19 #[] w fun e w' => e = .returned (.bool true) ∧ Ext w w' := by
  have kc := fun (w : World) (C : Array Value) (n c : Nat) => Lib.run_convert_bytes_const (P := Try.prog) w 26 5 C n c Try.underlying26 Try.underlying5
  go_enter Try.func19, Try.ntmps19
  go_wp2_with fail
  refine (New_any 10 _ (by decide) (by decide)).mono ?_
  rintro e w1 ⟨rfl, hx1, hd1, hlt⟩
  have E1 := Lib.hid hx1
  have D1 := Lib.hid (hd1.ext (ext_alloc w1 (.cells #[.int .u8 97, .int .u8 98, .int .u8 99] 5 (3, 4))))
  clear hx1 hd1
  go_wp2_with fail
  refine (Append_any D1.out _ [97, 98, 99] (rd_new w1 [97, 98, 99] #[.int .u8 97, .int .u8 98, .int .u8 99] rfl 3 rfl (by simp [maxLen]) (3, 4)) (by decide)).mono ?_
  rintro e w2 hD
  obtain ⟨rfl, hx2, L2, hd2⟩ := hD.next (E1.out.trans (ext_alloc w1 _)) D1.out
  have E2 := Lib.hid hx2
  have D2 := Lib.hid hd2
  clear hD hx2 hd2
  rw [show appE (nw 10) [97, 98, 99] = 0 from by decide]
  go_wp2_with fail
  refine (Crash_any D2.out 2).mono ?_
  rintro e w3 hD
  obtain ⟨rfl, hx3, L3, hd3⟩ := hD.next E2.out D2.out
  have E3 := Lib.hid hx3
  have D3 := Lib.hid hd3
  clear hD hx3 hd3
  rw [show kept (app (nw 10) [97, 98, 99]) 2 = 2 from by decide]
  go_wp2_with fail
  refine (Log_any D3.out).mono ?_
  rintro e w4 ⟨v4, rfl, ho, hx4⟩
  have E4 := Lib.hid (E3.out.trans hx4)
  have hs := (Rd.of_own ho).str
  rw [show (crs (app (nw 10) [97, 98, 99]) 2).log = [97, 98] from by decide] at hs
  clear ho hx4
  go_wp2
  go_ret
  exact ⟨rfl, E4.out⟩

end Go.Proofs.Ytpinpljmabhdhaa
