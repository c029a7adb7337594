/- rule.checkRoot. -/
import Derived.Test.YtflbhnckhbcboaaDoorQueues
namespace Go.Proofs.YtflbhnckhbcboaaDoor
open Go.RowKit

def rootC (ds : List QD) : Int := match ds with
  | [] => 0
  | q :: _ => if q.caps.any partB then 13 else 0
theorem checkRoot_any (ds : List QD) (vl vq : Value) (w : World) (hq : QAt w vq ds) (hcq : CapsQ w vq ds) (h0 : 0 < ds.length) (hcl : ∀ q ∈ ds, 1 ≤ q.caps.length ∧ q.caps.length ≤ 1000) :
    Calls Tryd.prog 22 #[.agg #[vl, vq]] w fun e w' => e = .returned (.int .i64 (rootC ds)) ∧ Ext w w' := by
  obtain ⟨r, hr⟩ : ∃ r, r = rootC ds := ⟨_, rfl⟩
  rw [← hr]
  obtain ⟨A, N, c, rfl, hN, hc1, hc2, hcell⟩ := hq.open
  obtain ⟨g, rfl, hg, hqc⟩ := hcell (by omega)
  obtain ⟨vc, hv1, hv2⟩ := hcq g N c rfl 0 h0
  obtain ⟨Ac, cc, rfl, hv3⟩ := hv2
  have hcl1 := hcl _ (List.getElem_mem h0)
  obtain ⟨gc, rfl, hcs⟩ := hv3 (by omega)
  obtain ⟨cs, hcse⟩ : ∃ cs, cs = ds[0].caps := ⟨_, rfl⟩
  rw [← hcse] at hcs hcl1 hv1
  have HR := Lib.hid (show r = if cs.any partB then 13 else 0 by
    rw [hr, hcse]
    cases ds with
    | nil => exact absurd h0 (by simp)
    | cons q l => rfl)
  have HC := Lib.hid (fun (w' : World) (x : Ext w w') => ContainsPart_any cs gc cc w' (hcs.ext x) (by omega) (by omega))
  obtain ⟨ncs, hncs⟩ : ∃ ncs, ncs = cs.length := ⟨_, rfl⟩
  rw [← hncs] at HC hv1
  have a1 := (ext_alloc w (.cells #[vl, .slice (some ⟨g, 0, none⟩) N c] 27)).cell (show w.cell? ⟨g, 1, none⟩ = _ from hv1)
  have i1 : (0 : Int) < (N : Int) := by omega
  clear hv1 hcs hv3 hcq hqc hcell hncs hcse hr hN hq hcl1
  go_enter Tryd.func22, Tryd.ntmps22
  go_wp2_with fail
  (with_reducible refine (HC.out _ (ext_alloc _ _)).mono ?_)
  rintro e w1 ⟨rfl, hx⟩
  have X1 := Lib.hid ((ext_alloc _ _).trans hx)
  clear hx
  cases hb : cs.any partB
  all_goals (
    have HF := Lib.hid (HR.out.trans (by rw [hb]))
    clear hb
    go_wp2
    go_ret
    rw [HF.out]
    exact ⟨rfl, X1.out⟩)
end Go.Proofs.YtflbhnckhbcboaaDoor
