/- States in memory: rows of structs at the heads of blocks; nodes, plans. -/
import Derived.Test.YtffioglbgnbieaaStG
import Derived.Test.YtffioglbgnbieaaRdK
namespace Go.Proofs.Ytffioglbgnbieaa
open Go.RowKit

/-- A node. -/
structure ND where
  id : Int
  label : Int
  rack : Int
  mem : Int
  cores : Int
  seen : Int
  beat : Int
  up : Bool
def nenc (d : ND) : List Value := [.int .i64 d.id, .int .i64 d.label, .int .i64 d.rack, .int .i64 d.mem, .int .i64 d.cores, .int .i64 d.seen, .int .i64 d.beat, .bool d.up]
def ncells (ds : List ND) : List Value := ds.flatMap nenc
theorem ncells_snoc (ds : List ND) (d : ND) : ncells (ds ++ [d]) = ncells ds ++ nenc d := by simp [ncells]
theorem ncells_len (ds : List ND) : (ncells ds).length = ds.length * 8 := flat_len nenc 8 (fun _ => rfl) ds
theorem Hd.node {w : World} {v : Value} {ds : List ND} (h : Hd w v ds.length (ncells ds)) : ∃ A N c, v = .slice A N c ∧ N = ds.length ∧ N ≤ c ∧ c ≤ 9223372036854775807 ∧ (0 < N → ∃ g, A = some ⟨g, 0, none⟩ ∧ ∀ k (hk : k < ds.length),
    w.cell? ⟨g, k * 8, none⟩ = some (.int .i64 ds[k].id) ∧ w.cell? ⟨g, k * 8 + 1, none⟩ = some (.int .i64 ds[k].label) ∧ w.cell? ⟨g, k * 8 + 2, none⟩ = some (.int .i64 ds[k].rack) ∧ w.cell? ⟨g, k * 8 + 3, none⟩ = some (.int .i64 ds[k].mem) ∧
    w.cell? ⟨g, k * 8 + 4, none⟩ = some (.int .i64 ds[k].cores) ∧ w.cell? ⟨g, k * 8 + 5, none⟩ = some (.int .i64 ds[k].seen) ∧ w.cell? ⟨g, k * 8 + 6, none⟩ = some (.int .i64 ds[k].beat) ∧ w.cell? ⟨g, k * 8 + 7, none⟩ = some (.bool ds[k].up)) := by
  obtain ⟨A, c, rfl, h1, h2, h3⟩ := h
  unfold maxLen at h2
  refine ⟨A, _, c, rfl, rfl, h1, by omega, fun hn => ?_⟩
  obtain ⟨g, rfl, _, hc⟩ := h3 hn
  refine ⟨g, rfl, fun k hk => ?_⟩
  have hj : ∀ j, j < 8 → (ncells ds)[k * 8 + j]? = (nenc ds[k])[j]? := fun j hj => flat_get nenc 8 (fun _ => rfl) ds k j hk hj
  exact ⟨hc _ _ (hj 0 (by omega)), hc _ _ (hj 1 (by omega)), hc _ _ (hj 2 (by omega)), hc _ _ (hj 3 (by omega)), hc _ _ (hj 4 (by omega)), hc _ _ (hj 5 (by omega)), hc _ _ (hj 6 (by omega)), hc _ _ (hj 7 (by omega))⟩

/-- A plan. -/
structure PD where
  id : Int
  label : Int
  frm : Int
  til : Int
  mem : Int
  cores : Int
def penc (d : PD) : List Value := [.int .i64 d.id, .int .i64 d.label, .int .i64 d.frm, .int .i64 d.til, .int .i64 d.mem, .int .i64 d.cores]
def pcells (ds : List PD) : List Value := ds.flatMap penc
theorem pcells_snoc (ds : List PD) (d : PD) : pcells (ds ++ [d]) = pcells ds ++ penc d := by simp [pcells]
theorem pcells_len (ds : List PD) : (pcells ds).length = ds.length * 6 := flat_len penc 6 (fun _ => rfl) ds
theorem Hd.plan {w : World} {v : Value} {ds : List PD} (h : Hd w v ds.length (pcells ds)) : ∃ A N c, v = .slice A N c ∧ N = ds.length ∧ N ≤ c ∧ c ≤ 9223372036854775807 ∧ (0 < N → ∃ g, A = some ⟨g, 0, none⟩ ∧ ∀ k (hk : k < ds.length),
    w.cell? ⟨g, k * 6, none⟩ = some (.int .i64 ds[k].id) ∧ w.cell? ⟨g, k * 6 + 1, none⟩ = some (.int .i64 ds[k].label) ∧ w.cell? ⟨g, k * 6 + 2, none⟩ = some (.int .i64 ds[k].frm) ∧ w.cell? ⟨g, k * 6 + 3, none⟩ = some (.int .i64 ds[k].til) ∧
    w.cell? ⟨g, k * 6 + 4, none⟩ = some (.int .i64 ds[k].mem) ∧ w.cell? ⟨g, k * 6 + 5, none⟩ = some (.int .i64 ds[k].cores)) := by
  obtain ⟨A, c, rfl, h1, h2, h3⟩ := h
  unfold maxLen at h2
  refine ⟨A, _, c, rfl, rfl, h1, by omega, fun hn => ?_⟩
  obtain ⟨g, rfl, _, hc⟩ := h3 hn
  refine ⟨g, rfl, fun k hk => ?_⟩
  have hj : ∀ j, j < 6 → (pcells ds)[k * 6 + j]? = (penc ds[k])[j]? := fun j hj => flat_get penc 6 (fun _ => rfl) ds k j hk hj
  exact ⟨hc _ _ (hj 0 (by omega)), hc _ _ (hj 1 (by omega)), hc _ _ (hj 2 (by omega)), hc _ _ (hj 3 (by omega)), hc _ _ (hj 4 (by omega)), hc _ _ (hj 5 (by omega))⟩

/-- A state's value. -/
structure SV where
  vl : Value
  vq : Value
  vn : Value
  va : Value
  vc : Value
  vs : Value
  vp : Value
  now : Int
  ep : Int
  sq : Int
def SV.conf (s : SV) : Value := .agg #[s.vl, s.vq]
def SV.val (s : SV) : Value := .agg #[s.vl, s.vq, s.vn, s.va, s.vc, s.vs, s.vp, .int .i64 s.now, .int .i64 s.ep, .int .i64 s.sq]
def scells (s : SV) : Array Value := #[s.vl, s.vq, s.vn, s.va, s.vc, s.vs, s.vp, .int .i64 s.now, .int .i64 s.ep, .int .i64 s.sq]

def plusV (a b : Int × Int) : Int × Int := (wrap64 (a.1 + b.1), wrap64 (a.2 + b.2))
def vecV (a : Int × Int) : Value := .agg #[.int .i64 a.1, .int .i64 a.2]
def totV (label : Int) (ds : List ND) : Int × Int := ds.foldl (fun s d => if d.up = true ∧ d.label = label then plusV s (d.mem, d.cores) else s) (0, 0)
theorem totV_snoc (label : Int) (ds : List ND) (d : ND) : totV label (ds ++ [d]) = if d.up = true ∧ d.label = label then plusV (totV label ds) (d.mem, d.cores) else totV label ds := by simp [totV]
def keptV (label now : Int) (ds : List PD) : Int × Int := ds.foldl (fun s d => if d.label = label ∧ d.frm ≤ now ∧ now < d.til then plusV s (d.mem, d.cores) else s) (0, 0)
theorem keptV_snoc (label now : Int) (ds : List PD) (d : PD) : keptV label now (ds ++ [d]) = if d.label = label ∧ d.frm ≤ now ∧ now < d.til then plusV (keptV label now ds) (d.mem, d.cores) else keptV label now ds := by simp [keptV]
end Go.Proofs.Ytffioglbgnbieaa
