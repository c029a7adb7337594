/- known, within: what each law of chapter 2 asks first. -/
import Derived.Test.YtnkhobdpiifaaaaPutB
import Derived.BigQuiet
namespace Go.Proofs.Ytnkhobdpiifaaaa
open Go.RowKit

theorem known_any (w : World) : Calls Try.prog 4 #[] w fun e w' => e = .returned (.bool true) ∧ Ext w w' := by
  go_enter Try.func4, Try.ntmps4
  go_wp2_with fail
  refine (Int_any _ [] 1 _ (Rd.nil _) (by decide)).mono ?_
  rintro e w1 hM
  obtain ⟨v1, rfl, ho1, hx1⟩ := hM
  obtain ⟨g, cap, rfl, hg, hlt⟩ := ho1.form (by decide)
  have hcs := ho1.cells (g := g) rfl
  have h0 : w1.cell? ⟨g, 0, none⟩ = some (.int .u8 0) := hcs 0 (.int .u8 0) (by rfl)
  have h7 : w1.cell? ⟨g, 7, none⟩ = some (.int .u8 1) := hcs 7 (.int .u8 1) (by rfl)
  clear hcs ho1
  go_wp2
  all_goals go_ret
  all_goals exact ⟨rfl, hx1⟩

end Go.Proofs.Ytnkhobdpiifaaaa
