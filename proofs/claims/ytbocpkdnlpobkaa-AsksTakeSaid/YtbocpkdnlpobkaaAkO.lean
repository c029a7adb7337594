/- Asks that come in, opened. -/
import Derived.Test.YtbocpkdnlpobkaaOpenS
import Derived.Lib.SmallJoins
namespace Go.Proofs.Ytbocpkdnlpobkaa
open Go.RowKit Go.ChangeShapes Go.WideShapes Go.ChangeAt Go.Joins

section
variable {P : Program} {H : Type} {enc : TypeId × Value → H} {w : World} {base : Nat} {spare : Nat → Bool} {held : Bool}
theorem arrayI8 {cs : Array Value} (h : cs.size = 8) (hz : ∀ j, j < 8 → ∃ z, cs.toList[j]? = some (.int .i64 z)) : ∃ a b c d e f g i : Int, cs = #[.int .i64 a, .int .i64 b, .int .i64 c, .int .i64 d, .int .i64 e, .int .i64 f, .int .i64 g, .int .i64 i] := by
  match cs, h with
  | ⟨[c0, c1, c2, c3, c4, c5, c6, c7]⟩, _ =>
    obtain ⟨z0, e0⟩ := hz 0 (by omega)
    obtain ⟨z1, e1⟩ := hz 1 (by omega)
    obtain ⟨z2, e2⟩ := hz 2 (by omega)
    obtain ⟨z3, e3⟩ := hz 3 (by omega)
    obtain ⟨z4, e4⟩ := hz 4 (by omega)
    obtain ⟨z5, e5⟩ := hz 5 (by omega)
    obtain ⟨z6, e6⟩ := hz 6 (by omega)
    obtain ⟨z7, e7⟩ := hz 7 (by omega)
    simp at e0 e1 e2 e3 e4 e5 e6 e7
    subst e0 e1 e2 e3 e4 e5 e6 e7
    exact ⟨z0, z1, z2, z3, z4, z5, z6, z7, rfl⟩
/-- A struct of eight ints, structs in structs too. -/
theorem open_ints8 {r : Reach} {b0 : Nat} {t : TypeId} {fs : Array Field} {v : Value} {d : DataW H} {p : List MemPlace} (ht : P.underlying t = some (.struct fs)) (hC : P.cellsOf t = 8) (he : IntsOnly P t 8)
    (hv : Value.okWide P w r b0 t v) (h : DataW.Trod enc P w base spare held t v d p) :
    ∃ a b c e f g i j : Int, v = .agg #[.int .i64 a, .int .i64 b, .int .i64 c, .int .i64 e, .int .i64 f, .int .i64 g, .int .i64 i, .int .i64 j] := by
  obtain ⟨cs, rfl, hsz⟩ := okWide_struct ht hv
  obtain ⟨fuel, hf⟩ := h
  simp only [Value.cells] at hf
  obtain ⟨_, hz⟩ := he _ _ _ _ _ _ _ _ _ hf
  obtain ⟨a, b, c, e, f, g, i, j, rfl⟩ := arrayI8 (hsz.trans hC) (fun j hj => by obtain ⟨z, h1, _⟩ := hz j hj; exact ⟨z, h1⟩)
  exact ⟨a, b, c, e, f, g, i, j, rfl⟩
end
/-- The k-th one of a slice that came in. -/
theorem ask_cells {w : World} {a : Addr} {k : Nat} {f : Nat → Nat → Int} (h : ∀ j, j < 8 → w.cell? (a.add (k * 8 + j)) = some (.int .i64 (f k j))) :
    w.cell? (a.add (k * 8)) = some (.int .i64 (f k 0)) ∧ w.cell? ⟨(a.add (k * 8)).block, (a.add (k * 8)).off + 1, none⟩ = some (.int .i64 (f k 1)) ∧ w.cell? ⟨(a.add (k * 8)).block, (a.add (k * 8)).off + 2, none⟩ = some (.int .i64 (f k 2)) ∧
    w.cell? ⟨(a.add (k * 8)).block, (a.add (k * 8)).off + 3, none⟩ = some (.int .i64 (f k 3)) ∧ w.cell? ⟨(a.add (k * 8)).block, (a.add (k * 8)).off + 4, none⟩ = some (.int .i64 (f k 4)) ∧ w.cell? ⟨(a.add (k * 8)).block, (a.add (k * 8)).off + 5, none⟩ = some (.int .i64 (f k 5)) ∧
    w.cell? ⟨(a.add (k * 8)).block, (a.add (k * 8)).off + 6, none⟩ = some (.int .i64 (f k 6)) ∧ w.cell? ⟨(a.add (k * 8)).block, (a.add (k * 8)).off + 7, none⟩ = some (.int .i64 (f k 7)) := by
  have ad : ∀ j, a.add (k * 8 + (j + 1)) = ⟨(a.add (k * 8)).block, (a.add (k * 8)).off + (j + 1), none⟩ := fun j => by rw [← Go.Deep.add_add]; generalize a.add (k * 8) = z; unfold Addr.add; rw [if_neg (by omega)]
  exact ⟨h 0 (by omega), by rw [← ad 0]; exact h 1 (by omega), by rw [← ad 1]; exact h 2 (by omega), by rw [← ad 2]; exact h 3 (by omega), by rw [← ad 3]; exact h 4 (by omega), by rw [← ad 4]; exact h 5 (by omega), by rw [← ad 5]; exact h 6 (by omega), by rw [← ad 6]; exact h 7 (by omega)⟩
theorem vecInts9 : IntsOnly Try.prog 23 2 := intsOnly_struct Try.underlying23 (by kernel_rfl) fun j hj => by
  match j, hj with
  | 0, _ => exact ⟨0, _, 1, rfl, by decide, by decide, by kernel_rfl, intsOnly_int Try.underlying3⟩
  | 1, _ => exact ⟨1, _, 1, rfl, by decide, by decide, by kernel_rfl, intsOnly_int Try.underlying3⟩
theorem askInts : IntsOnly Try.prog 25 8 := intsOnly_struct Try.underlying25 (by kernel_rfl) fun j hj => by
  match j, hj with
  | 0, _ => exact ⟨0, _, 1, rfl, by decide, by decide, by kernel_rfl, intsOnly_int Try.underlying3⟩
  | 1, _ => exact ⟨1, _, 1, rfl, by decide, by decide, by kernel_rfl, intsOnly_int Try.underlying3⟩
  | 2, _ => exact ⟨2, _, 2, rfl, by decide, by decide, by kernel_rfl, vecInts9⟩
  | 3, _ => exact ⟨2, _, 2, rfl, by decide, by decide, by kernel_rfl, vecInts9⟩
  | 4, _ => exact ⟨3, _, 1, rfl, by decide, by decide, by kernel_rfl, intsOnly_int Try.underlying3⟩
  | 5, _ => exact ⟨4, _, 1, rfl, by decide, by decide, by kernel_rfl, intsOnly_int Try.underlying3⟩
  | 6, _ => exact ⟨5, _, 1, rfl, by decide, by decide, by kernel_rfl, intsOnly_int Try.underlying3⟩
  | 7, _ => exact ⟨6, _, 1, rfl, by decide, by decide, by kernel_rfl, intsOnly_int Try.underlying3⟩
end Go.Proofs.Ytbocpkdnlpobkaa
