/- codec's readers: Int, Text, Ints. -/
import Derived.Test.YtnkhobdpiifaaaaSettle
import Derived.Deep.RegionWith
import Derived.WalkKit
namespace Go.Proofs.Ytnkhobdpiifaaaa
open Go.RowKit

theorem grown_alloc_then {w w' : World} {o : Obj} {r : Option Nat} (h : (w.alloc o).grownBy w' r) : w.grownBy w' r := World.grownBy.trans (World.grownBy_alloc w o r) h

theorem box_far {w w1 : World} {R : Nat} {v : Value} {t : TypeId} (hg : (w.alloc (.cells #[v] t)).grownBy w1 (some R)) (hR : R < w.heap.size) : w1.cell? ⟨w.heap.size, 0, none⟩ = some v := by
  rw [hg.cell_far ⟨w.heap.size, 0, none⟩ (by simp) (by simp; omega)]
  simp [go_sem]

theorem Int_ok (R : Nat) (l : List UInt8) (e0 : Int) (w : World) (h : Rdr w R l e0) (hk : 8 ≤ l.length) :
    Calls Try.prog 9 #[.pointer (some ⟨R, 0, none⟩)] w fun e w' => e = .returned (.int .i64 (num (l.take 8))) ∧ w.grownBy w' (some R) ∧ Rdr w' R (l.drop 8) e0 := by
  have hmf : ∀ (fn : Fn) (first cap : Array Value) (w : World), (Instr.makeFunc fn first cap).run Try.prog w = .ok (.func fn first cap) w := fun _ _ _ _ => rfl
  have hx := (Below.refl w.heap.size w).alloc (Nat.le_refl _) (.cells #[.pointer (some ⟨R, 0, none⟩)] 30)
  have H := Lib.hid (Rdr.ext h hx)
  have hRlt : R < w.heap.size := by obtain ⟨_, h1, _⟩ := h; exact h1.lt
  clear h hx
  go_enter_defers Try.func9, Try.ntmps9
  go_wp2_with fail
  refine (number_ok R l e0 _ H.out hk).mono ?_
  rintro e w1 ⟨rfl, hg, hR⟩
  have HG := Lib.hid (grown_alloc_then hg)
  have HR := Lib.hid hR
  have hB := box_far hg hRlt
  clear hg hR
  go_wp2
  refine leaves_cons (f := 18) (args := #[.pointer (some ⟨w.heap.size, 0, none⟩)]) (by simp) (by simp [go_sem]) ?_
  refine (idle_Int _ R _ hB).mono ?_
  rintro e u' w2 ⟨rfl, rfl, hx⟩
  exact ⟨_, results_tmp rfl _ _ _, rfl, HG.out.trans (grown_of_ext hx _), HR.out.ext hx⟩

theorem Int_cut (R : Nat) (l : List UInt8) (e0 : Int) (w : World) (h : Rdr w R l e0) (hk : l.length < 8) :
    Calls Try.prog 9 #[.pointer (some ⟨R, 0, none⟩)] w fun e w' => e = .returned (.int .i64 0) ∧ w.grownBy w' (some R) ∧ Rdr w' R [] (cutE e0) := by
  have hmf : ∀ (fn : Fn) (first cap : Array Value) (w : World), (Instr.makeFunc fn first cap).run Try.prog w = .ok (.func fn first cap) w := fun _ _ _ _ => rfl
  have hx := (Below.refl w.heap.size w).alloc (Nat.le_refl _) (.cells #[.pointer (some ⟨R, 0, none⟩)] 30)
  have H := Lib.hid (Rdr.ext h hx)
  have hRlt : R < w.heap.size := by obtain ⟨_, h1, _⟩ := h; exact h1.lt
  clear h hx
  have hB : (w.alloc (.cells #[.pointer (some ⟨R, 0, none⟩)] 30)).cell? ⟨w.heap.size, 0, none⟩ = some (.pointer (some ⟨R, 0, none⟩)) := by simp [go_sem]
  have hB := Lib.hid hB
  go_enter_defers Try.func9, Try.ntmps9
  go_wp2_with fail
  refine (number_cut R l e0 _ H.out hk).mono ?_
  rintro e w1 ⟨rfl, rfl⟩
  refine leaves_cons (f := 18) (args := #[.pointer (some ⟨w.heap.size, 0, none⟩)]) (by simp) (by simp [go_sem]) ?_
  refine (caught_Int _ R l e0 _ hB.out H.out).mono ?_
  rintro e u' w2 ⟨rfl, rfl, hg, hR⟩
  have HG := grown_alloc_then hg
  simp [Leaves, settle, results, Try.results9, go_sem]
  exact ⟨HG, hR⟩

end Go.Proofs.Ytnkhobdpiifaaaa
