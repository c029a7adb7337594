/- What the law ConfOrder says of texts: plain facts. -/
import Derived.Test.YtonbplofbcnijaaDoorKnown5
namespace Go.Proofs.YtonbplofbcnijaaDoor.ConfOrder

def nm (k : Nat) : Tx := [114, 111, 111, 116, 46] ++ [UInt8.ofNat (97 + k)]
def qA (k : Nat) : Tx := [113, 117, 101, 117, 101, 32, 32, 32] ++ nm k ++ [32, 49, 32, 50, 47, 51]
def qB (k : Nat) : Tx := [113, 117, 101, 117, 101, 32] ++ nm k ++ [32, 52, 32, 53, 47, 54]
def body (ks : List Nat) : Tx := ks.flatMap fun k => qA k ++ [10, 10]
def textO (ks : List Nat) : Tx := [10, 32, 108, 97, 98, 101, 108, 115, 32, 10] ++ body ks
def qd (k : Nat) : QD := ⟨nm k, [(2, 3)], 1⟩
theorem textO_nil : textO [] = [10, 32, 108, 97, 98, 101, 108, 115, 32, 10] := rfl
theorem textO_snoc (ks : List Nat) (k : Nat) : textO (ks ++ [k]) = textO ks ++ [113, 117, 101, 117, 101, 32, 32, 32] ++ nm k ++ [32, 49, 32, 50, 47, 51, 10, 10] := by simp [textO, body, qA]
theorem body_length : ∀ ks : List Nat, (body ks).length = 22 * ks.length
  | [] => rfl
  | k :: ks => by
    have h := body_length ks
    simp only [body, List.flatMap_cons, List.length_append, List.length_cons] at h ⊢
    rw [h]
    simp [qA, nm]
    omega
theorem textO_length (ks : List Nat) : (textO ks).length = 10 + 22 * ks.length := by rw [textO, List.length_append, body_length]; rfl
theorem words_qA : ∀ k, k < 8 → wordsOf (qA k) = [wQueue, nm k, [49], [50, 47, 51]] := by decide +kernel
theorem words_qB : ∀ k, k < 8 → wordsOf (qB k) = [wQueue, nm k, [52], [53, 47, 54]] := by decide +kernel
theorem queue_qA : ∀ k, k < 8 → queue? 1 [wQueue, nm k, [49], [50, 47, 51]] = some (qd k) := by decide +kernel
theorem queue_qB : ∀ k, k < 8 → queue? 1 [wQueue, nm k, [52], [53, 47, 54]] = some ⟨nm k, [(5, 6)], 4⟩ := by decide +kernel
theorem no_nl_qA : ∀ k, k < 8 → (10 : UInt8) ∉ qA k := by decide +kernel
theorem no_nl_qB : ∀ k, k < 8 → (10 : UInt8) ∉ qB k := by decide +kernel
theorem nm_inj : ∀ a, a < 8 → ∀ b, b < 8 → nm a = nm b → a = b := by decide +kernel
theorem step_q {qs : List QD} {k : Nat} {u c : Tx} {q : QD} (h : queue? 1 [wQueue, nm k, u, c] = some q) (hq : qs.length < 16) : step ⟨[[]], qs⟩ [wQueue, nm k, u, c] = (0, ⟨[[]], qs ++ [q]⟩) := by
  unfold step
  rw [if_neg (by simp), if_neg (by simp), if_neg (by simp only; omega)]
  simp only [List.length_cons, List.length_nil, Nat.zero_add]
  rw [h]
theorem run_skip (s : CD) (r : List (List Tx)) : runC s ([] :: r) = runC s r := by simp [runC]
theorem run_go {s s' : CD} {ws : List Tx} (r : List (List Tx)) (hne : ws ≠ []) (h : step s ws = (0, s')) : runC s (ws :: r) = runC s' r := by simp [runC, hne, h]
theorem run_body (r : Tx) (hr : (10 : UInt8) ∉ r) : ∀ (ks : List Nat) (qs : List QD), (∀ k ∈ ks, k < 8) → qs.length + ks.length < 16 →
    runC ⟨[[]], qs⟩ ((linesOf (body ks ++ r)).map wordsOf) = runC ⟨[[]], qs ++ ks.map qd⟩ [wordsOf r]
  | [], qs, _, _ => by
    have : linesOf (body [] ++ r) = [r] := by unfold linesOf; exact (pcs_ne 10 _ [] hr).trans rfl
    rw [this]; simp
  | k :: ks, qs, hk, hl => by
    have h8 := hk k (by simp)
    have e1 : body (k :: ks) ++ r = qA k ++ 10 :: ([] ++ 10 :: (body ks ++ r)) := by simp [body]
    rw [lines_at e1 (no_nl_qA k h8), lines_at rfl (by simp), List.map_cons, List.map_cons, words_qA k h8]
    have hw : wordsOf [] = [] := rfl
    rw [hw]
    have hs := step_q (qs := qs) (queue_qA k h8) (by simp at hl; omega)
    have ih := run_body r hr ks (qs ++ [qd k]) (fun x hx => hk x (List.mem_cons_of_mem _ hx)) (by simp at hl ⊢; omega)
    rw [run_go _ (by simp) hs, run_skip, ih]
    simp
theorem run_head (t : Tx) : runC .none ((linesOf ([10, 32, 108, 97, 98, 101, 108, 115, 32, 10] ++ t)).map wordsOf) = runC ⟨[[]], []⟩ ((linesOf t).map wordsOf) := by
  have e1 : [10, 32, 108, 97, 98, 101, 108, 115, 32, 10] ++ t = [] ++ 10 :: (([32, 108, 97, 98, 101, 108, 115, 32] : Tx) ++ 10 :: t) := by simp
  rw [lines_at e1 (by simp), lines_at rfl (by decide), List.map_cons, List.map_cons]
  have h1 : wordsOf [] = [] := rfl
  have h2 : wordsOf ([32, 108, 97, 98, 101, 108, 115, 32] : Tx) = [wLabels] := by decide +kernel
  have h3 : step .none [wLabels] = (0, ⟨[[]], []⟩) := by decide +kernel
  rw [h1, h2, run_skip, run_go _ (by simp) h3]
theorem nodup_nm {ks : List Nat} (hn : ks.Nodup) (h8 : ∀ k ∈ ks, k < 8) : ((ks.map qd).map (·.path)).Nodup := by
  rw [List.map_map, List.Nodup, List.pairwise_map]
  exact hn.imp_of_mem fun ha hb hne e => hne (nm_inj _ (h8 _ ha) _ (h8 _ hb) e)
theorem parse_O {ks : List Nat} (hn : ks.Nodup) (h8 : ∀ k ∈ ks, k < 8) (hl : ks.length ≤ 12) : parseC (textO ks) = (0, ⟨[[]], sortQ (ks.map qd)⟩) := by
  have hr : runC .none ((linesOf (textO ks)).map wordsOf) = (0, ⟨[[]], ks.map qd⟩) := by
    have e : textO ks = [10, 32, 108, 97, 98, 101, 108, 115, 32, 10] ++ (body ks ++ []) := by simp [textO]
    rw [e, run_head, run_body [] (by simp) ks [] h8 (by simp; omega)]
    rfl
  rw [parse_fin (by rw [textO_length]; omega) hr]
  exact fin_ok (by simp) (nodup_nm hn h8)
theorem parse_M {ks : List Nat} {k : Nat} (hk : k ∈ ks) (h8 : ∀ k ∈ ks, k < 8) (hl : ks.length ≤ 12) : parseC (textO ks ++ qB k) = (7, .none) := by
  have hr : runC .none ((linesOf (textO ks ++ qB k)).map wordsOf) = (0, ⟨[[]], ks.map qd ++ [⟨nm k, [(5, 6)], 4⟩]⟩) := by
    have e : textO ks ++ qB k = [10, 32, 108, 97, 98, 101, 108, 115, 32, 10] ++ (body ks ++ qB k) := by simp [textO]
    rw [e, run_head, run_body (qB k) (no_nl_qB k (h8 k hk)) ks [] h8 (by simp; omega), words_qB k (h8 k hk)]
    rw [List.nil_append, run_go _ (by simp) (step_q (queue_qB k (h8 k hk)) (by simp; omega))]
    rfl
  rw [parse_fin (by rw [List.length_append, textO_length]; simp [qB, nm]; omega) hr]
  refine fin_is (by simp) fun hn => ?_
  rw [List.map_append, List.nodup_append] at hn
  exact hn.2.2 (nm k) (by simp only [List.map_map, List.mem_map]; exact ⟨k, hk, rfl⟩) (nm k) (by simp) rfl
/-- What came out is in order, each with its caps. -/
theorem sorted_lt {ks : List Nat} (hn : ks.Nodup) (h8 : ∀ k ∈ ks, k < 8) {i : Nat} (h : i + 1 < (sortQ (ks.map qd)).length) : lt8 ((sortQ (ks.map qd))[i]'(by omega)).path (sortQ (ks.map qd))[i + 1].path = true := by
  have hs := sortQ_srt (ks.map qd)
  have hp : ((sortQ (ks.map qd)).map (·.path)).Nodup := ((sortQ_perm (ks.map qd)).map (·.path)).nodup_iff.2 (nodup_nm hn h8)
  have h1 := (List.pairwise_iff_getElem.1 hs) i (i + 1) (by omega) h (by omega)
  have h2 : (sortQ (ks.map qd))[i].path ≠ (sortQ (ks.map qd))[i + 1].path := by
    have := (List.pairwise_iff_getElem.1 hp) i (i + 1) (by simp; omega) (by simpa using h) (by omega)
    simpa using this
  cases h3 : lt8 ((sortQ (ks.map qd))[i]'(by omega)).path (sortQ (ks.map qd))[i + 1].path with
  | true => rfl
  | false => exact absurd (lt8_tri _ _ h3 h1) h2
theorem sorted_caps {ks : List Nat} {q : QD} (h : q ∈ sortQ (ks.map qd)) : q.caps = [(2, 3)] := by
  have := (sortQ_perm (ks.map qd)).mem_iff.1 h
  obtain ⟨k, _, rfl⟩ := List.mem_map.1 this
  rfl
theorem sorted_length (ks : List Nat) : (sortQ (ks.map qd)).length = ks.length := by rw [(sortQ_perm _).length_eq, List.length_map]
end Go.Proofs.YtonbplofbcnijaaDoor.ConfOrder
