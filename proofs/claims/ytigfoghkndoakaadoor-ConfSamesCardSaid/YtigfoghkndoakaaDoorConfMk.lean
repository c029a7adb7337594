/- Configurations that Make lays: labels and queues of the call's own, what of them may turn. -/
import Derived.Test.YtigfoghkndoakaaDoorMakeW
import Derived.Test.YtigfoghkndoakaaDoorOwnT
namespace Go.Proofs.YtigfoghkndoakaaDoor
open Go.RowKit

structure MkAt (w : World) (B : Nat) (vl vq : Value) (ls : List Tx) (ds : List QD) (qs : List QC) : Prop where
  labs : w.ownsRow B 9 1 vl ls.length (ls.map sv)
  queues : OwnQs w B vq ds qs
theorem MkAt.ext {w w' : World} {B : Nat} {vl vq : Value} {ls : List Tx} {ds : List QD} {qs : List QC} (h : MkAt w B vl vq ls ds qs) (x : Ext w w') : MkAt w' B vl vq ls ds qs := ⟨own_ExtK h.labs x, h.queues.ext x⟩
/-- A configuration's own block turns. -/
theorem MkAt.turn {w w' : World} {B R : Nat} {vl vq : Value} {ls : List Tx} {ds : List QD} {qs : List QC} {cur : Array Value} {f : Nat × Nat} (h : MkAt w B vl vq ls ds qs) (x : w.grownBy w' (some R)) (hR : w.heap[R]? = some (.cells cur 30 f)) : MkAt w' B vl vq ls ds qs :=
  ⟨h.labs.kept x (.inr (own_other h.labs hR (by decide))), h.queues.kept x hR (by decide) (by decide)⟩
/-- All lies below M. -/
def Under (M : Nat) (vl vq : Value) (qs : List QC) : Prop := (∀ g, vl.ownBlock = some g → g < M) ∧ (∀ g, vq.ownBlock = some g → g < M) ∧ ∀ (k : Nat) (q : QC), qs[k]? = some q → ∀ g, cb q = some g → g < M
theorem MkAt.under {w : World} {B : Nat} {vl vq : Value} {ls : List Tx} {ds : List QD} {qs : List QC} (h : MkAt w B vl vq ls ds qs) : Under w.heap.size vl vq qs := by
  refine ⟨fun g hg => (h.labs.lt g hg).2, fun g hg => (h.queues.row.lt g hg).2, fun k q hq g hg => ?_⟩
  have hk : k < ds.length := by have := (List.getElem?_eq_some_iff.1 hq).1; have := h.queues.len; omega
  exact ((h.queues.each k q hk hq).2.2.2.lt g hg).2
theorem MkAt.grown {w w' : World} {B M R : Nat} {vl vq : Value} {ls : List Tx} {ds : List QD} {qs : List QC} (h : MkAt w B vl vq ls ds qs) (hu : Under M vl vq qs) (x : w.grownBy w' (some R)) (hR : M ≤ R) : MkAt w' B vl vq ls ds qs := by
  refine ⟨h.labs.kept x (.inr (fun e => by have := hu.1 R e; omega)), ?_, h.queues.len, fun k q hk hq => ?_, h.queues.apart⟩
  · exact h.queues.row.kept x (.inr (fun e => by have := hu.2.1 R e; omega))
  · exact (h.queues.each k q hk hq).kept x (.inr (fun e => by have := hu.2.2 k q hq R e; omega))

def Mk2Post (nl : Nat) (ds : List QD) (w : World) (e : Ending) (w' : World) : Prop := ∃ Al cl Aq cq qs, e = .returned (.agg #[.slice Al nl cl, .slice Aq ds.length cq]) ∧ MkAt w' w.heap.size (.slice Al nl cl) (.slice Aq ds.length cq) (labsM nl) ds qs ∧ Ext w w'
theorem labsM_len {nl : Nat} (h : nl ≤ 3) : (labsM nl).length = nl := by
  unfold labsM
  rw [List.length_take]
  simp; omega
theorem make2_any (lab : Int) (v : Value) (rs : List RQ) (nl : Nat) (w : World) (hr : RdRaw w v rs) (hlen : rs.length ≤ 20) (hnl : (nl : Int) = 1 + lab % 3) (hn3 : nl ≤ 3) :
    Calls Tryd.prog 7 #[.agg #[.int .i64 lab, v]] w (Mk2Post nl (makeQ nl (rs.take 16)) w) := by
  refine (Make_any lab v rs w hr hlen).mono ?_
  rintro e w' ⟨nl', _, _, h3, vl, vq, qs, rfl, hl, hq, hx⟩
  obtain rfl : nl' = nl := by omega
  obtain ⟨Al, cl, rfl, _⟩ := own_shape hl
  obtain ⟨Aq, cq, rfl, _⟩ := own_shape hq.row
  exact ⟨Al, cl, Aq, cq, qs, rfl, ⟨by rw [labsM_len hn3]; exact hl, hq⟩, hx⟩
theorem putD_mem (q : QD) (ds : List QD) : ∀ d ∈ putD q ds, d = q ∨ d ∈ ds := by
  intro d hd
  unfold putD at hd
  split at hd
  · exact .inr hd
  · rcases List.mem_append.1 hd with h | h
    · exact .inr (List.mem_of_mem_take h)
    · rcases List.mem_cons.1 h with h | h
      · exact .inl h
      · exact .inr (List.mem_of_mem_drop h)
theorem makeF_mem (nl : Nat) : ∀ (l : List RQ) (ds : List QD) (d : QD), d ∈ l.foldl (fun ds q => putD (qM nl q) ds) ds → d ∈ ds ∨ ∃ q, d = qM nl q
  | [], ds, d, h => .inl h
  | q :: l, ds, d, h => by
    rw [List.foldl_cons] at h
    rcases makeF_mem nl l _ d h with h | h
    · rcases putD_mem _ _ d h with h | h
      · exact .inr ⟨q, h⟩
      · exact .inl h
    · exact .inr h
/-- What each queue of Make has. -/
theorem makeQ_spec (nl : Nat) (l : List RQ) : ∀ d ∈ makeQ nl l, d.caps.length = nl ∧ 0 ≤ d.user ∧ d.user < 1000000 ∧ d.path.length ≤ 20 ∧ ∀ p ∈ d.caps, 0 ≤ p.1 ∧ p.1 ≤ 10000 ∧ 0 ≤ p.2 ∧ p.2 ≤ 10000 := by
  intro d hd
  rcases makeF_mem nl l [] d hd with h | ⟨q, rfl⟩
  · cases h
  · refine ⟨by simp [qM], by simp only [qM]; omega, by simp only [qM]; omega, ?_, ?_⟩
    · have h1 := pathM_len (q.names.take 4)
      have h2 : (q.names.take 4).length ≤ 4 := by rw [List.length_take]; omega
      simp only [qM]
      omega
    · intro p hp
      simp only [qM, List.mem_map, List.mem_range] at hp
      obtain ⟨k, _, rfl⟩ := hp
      unfold capM
      split
      · dsimp only; omega
      · dsimp only; omega
theorem modify_ne {ds : List QD} {k : Nat} (hk : k < ds.length) (fd : QD → QD) (h : fd ds[k] ≠ ds[k]) : ds ≠ ds.modify k fd := by
  intro e
  have h1 := congrArg (fun l => l[k]?) e
  simp only [List.getElem?_modify, List.getElem?_eq_getElem hk] at h1
  simp at h1
  exact h h1.symm
/-- The row of an owned slice that is not empty. -/
theorem own_headS {w : World} {B e k n : Nat} {A : Option Addr} {c : Nat} {xs : List Value} (h : w.ownsRow B e k (.slice A n c) n xs) (hn : 0 < n) :
    ∃ g cur, A = some ⟨g, 0, none⟩ ∧ B ≤ g ∧ w.heap[g]? = some (.cells cur e (0, 0)) ∧ n ≤ c ∧ (∀ j, w.frozen? ⟨g, j, none⟩ = false) ∧ ∀ j u, xs[j]? = some u → w.cell? ⟨g, j, none⟩ = some u := by
  rcases h.2 with ⟨h', h0⟩ | ⟨g, cap, cur, h', hb, hg, hc, hr⟩
  · omega
  · simp only [Value.slice.injEq] at h'
    obtain ⟨rfl, _, rfl⟩ := h'
    refine ⟨g, cur, rfl, hb, hg, hc, fun j => by simp [World.frozen?, hg], fun j u hu => ?_⟩
    rw [h.cellAt (g := g) j (by have := (List.getElem?_eq_some_iff.1 hu).1; have := h.1; omega), hu]
end Go.Proofs.YtigfoghkndoakaaDoor
