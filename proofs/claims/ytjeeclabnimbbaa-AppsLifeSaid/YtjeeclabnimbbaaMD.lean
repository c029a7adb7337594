/- Texts Vj, GeC, Vl, Vlt, Vja, Vjb, Vjc, Vk, Vm, Vn, Vo, in one. -/
import Derived.Test.YtjeeclabnimbbaaMC
/- The typed executor: all operations, calls, regions. -/
namespace Go.Proofs.Ytjeeclabnimbbaa
open Go.RowKit

variable {B : List (Nat × Option SBox)} {s : SS} {p : PS} {P : Program} {ρ : Type}
theorem evsX_sim (hs : Sim s p) : ∀ l : List Operand, CSim s.bx (evsX s l) (l.map (ev p))
  | [] => .nil
  | x :: l => .cons (evX_sim hs x) (evsX_sim hs l)
theorem pickX_ok {c : Bool} {v w z : SV} {q r : PV} (hv : VSim B v q) (hw : VSim B w r) (h : pickX c v w = some z) : VSim B z (if c then q else r) := by
  unfold pickX at h
  split at h
  · split at h
    · rename_i hk
      subst hk
      injection h with h
      subst h
      obtain rfl := vs_int hv
      obtain rfl := vs_int hw
      cases c
      · exact v_int _ _
      · exact v_int _ _
    · cases h
  · injection h with h
    subst h
    obtain rfl := vs_bool hv
    obtain rfl := vs_bool hw
    cases c
    · exact v_bool _
    · exact v_bool _
  · injection h with h
    subst h
    obtain rfl := vs_str hv
    obtain rfl := vs_str hw
    cases c
    · exact v_str _
    · exact v_str _
  · cases c
    · injection h with h; subst h; exact hw
    · injection h with h; subst h; exact hv
theorem sIdx_spec {x : ByteArray} {i z : Int} (h : sIdxO x i = some z) : 0 ≤ i ∧ ∃ c : UInt8, x.data.toList[i.toNat]? = some c ∧ z = (c.toNat : Int) := by
  unfold sIdxO at h
  split at h
  · rename_i h0
    rw [Option.map_eq_some_iff] at h
    obtain ⟨c, h1, h2⟩ := h
    exact ⟨h0, c, h1, h2.symm⟩
  · cases h
theorem effX_ok {o : Oper} (hs : Sim s p) {k : SV → Upd → Option ρ} {res : ρ} (hst : ∀ t x y, o.op = .store t x y → o.dst = none) (h : effX P o s k = some res) : Done s p o.dst k res (eff P o p) := by
  unfold effX at h
  unfold eff
  split at h
  all_goals
    rename_i ho
    simp only [ho]
  · exact ⟨_, .no, _, none, rfl, h, sim_no hs (evX_sim hs _), trivial, okW_none⟩
  · exact ⟨_, .no, _, none, rfl, h, sim_no hs (evX_sim hs _), trivial, okW_none⟩
  · rename_i c x y
    split at h
    · rename_i t hc
      split at h
      · rename_i v hv
        have hq := evX_sim hs c
        rw [hc] at hq
        have hb : asB (ev p c) = some t := by rw [vs_bool hq]; rfl
        simp only [hb]
        exact ⟨_, .no, _, none, rfl, h, sim_no hs (pickX_ok (evX_sim hs x) (evX_sim hs y) hv), trivial, okW_none⟩
      · cases h
    · cases h
  · rename_i e
    split at h
    · rename_i t i hd hi
      split at h
      · rename_i z hb hz
        obtain ⟨h1, h2⟩ := chk_some h
        obtain ⟨hfr, h1⟩ := newB_spec h1
        have hbd : p.b t = none := by have := hs.bx t; rw [hb] at this; exact this hfr
        refine ⟨_, _, .ptr t 0, some (t, .st e (zerosP i)), ?_, h2, ?_, ⟨h1, hb⟩, okW_new hb hd⟩
        · simp [effAlloc, hd, hi, hbd]
        · exact sim_box hs (ble_new hb) (fun _ => ⟨_, rfl, zeros_sim hz⟩) (.ptr t 0 _ _ (by rw [lkB_cons, if_pos rfl]))
      · cases h
    · cases h
  · rename_i e x
    split at h
    · rename_i t cs hd hc
      split at h
      · rename_i hb
        obtain ⟨h1, h2⟩ := chk_some h
        obtain ⟨hfr, h1⟩ := newB_spec h1
        have hbd : p.b t = none := by have := hs.bx t; rw [hb] at this; exact this hfr
        obtain ⟨qs, h3, h4⟩ := cells_sim (evX_sim hs x) hc
        refine ⟨_, _, .ptr t 0, some (t, .st e qs), ?_, h2, ?_, ⟨h1, hb⟩, okW_new hb hd⟩
        · simp [effBox, hd, h3, hbd]
        · exact sim_box hs (ble_new hb) (fun _ => ⟨_, rfl, h4.mono (ble_new hb)⟩) (.ptr t 0 _ _ (by rw [lkB_cons, if_pos rfl]))
      · cases h
    · cases h
  · rename_i t ps
    split at h
    · rename_i i fl hi hf
      split at h
      · rename_i z hz
        split at h
        · rename_i cs hcs
          obtain ⟨qs, h1, h2⟩ := fill_sim hs _ (zeros_sim hz) hcs
          refine ⟨_, .no, .ag qs, none, ?_, h, sim_no hs (.ag _ _ h2.len h2.rep), trivial, okW_none⟩
          simp only [effBuild, hi, hf, h1]
          rfl
        · cases h
      · cases h
    · cases h
  · exact buildSliceX_ok hs h
  · rename_i t x
    split at h
    · rename_i v hv
      obtain ⟨r, h1, h2⟩ := loadX_ok hs (evX_sim hs x) hv
      exact ⟨_, .no, r, none, by simp [h1], h, sim_no hs h2, trivial, okW_none⟩
    · cases h
  · rename_i t x y
    exact storeX_ok hs (hst _ _ _ ho) (evX_sim hs x) (evX_sim hs y) h
  · rename_i op t x y yt
    exact (binX_ok (evX_sim hs x) (evX_sim hs y) (fun n kd z hn hz => lit_spec hn hz) h).done hs
  · rename_i op t x
    exact (unX_ok (evX_sim hs x) h).done hs
  · rename_i src dst x
    exact (convX_ok hs (evX_sim hs x) h).done hs
  · rename_i t x lo hi
    exact (sliceX_ok hs (evX_sim hs x) h).done hs
  · rename_i t x f
    exact (fieldAddrX_ok (evX_sim hs x) h).done hs
  · rename_i t x f
    exact (fieldX_ok (evX_sim hs x) h).done hs
  · rename_i t x i
    exact indexAddrX_ok hs (evX_sim hs x) (evX_sim hs i) h
  · rename_i x i
    split at h
    · rename_i vs hv
      split at h
      · rename_i v hvi
        have hq := evX_sim hs x
        rw [hv] at hq
        obtain ⟨qs, h1, h2⟩ := vs_tup hq
        have hlt : i < qs.length := by rw [← h2.len]; exact (List.getElem?_eq_some_iff.1 hvi).1
        have hqi : qs[i]? = some qs[i] := by simp [hlt]
        refine ⟨_, .no, qs[i], none, ?_, h, sim_no hs (h2.rep i _ _ hvi hqi), trivial, okW_none⟩
        simp [effExtract, h1, hqi]
      · cases h
    · cases h
  · rename_i t x i
    split at h
    · rename_i sx kd ix hu hx hi
      obtain ⟨z, h1, h2⟩ := bindS h
      obtain ⟨h3, c, h4, rfl⟩ := sIdx_spec h1
      have hq := evX_sim hs x
      rw [hx] at hq
      have hr := evX_sim hs i
      rw [hi] at hr
      refine ⟨_, .no, _, none, ?_, h2, sim_no hs (v_int .u8 _), trivial, okW_none⟩
      simp [effIdx, hu, vs_str hq, vs_int hr, asS, asI, h3, h4]
    · cases h
  · rename_i c
    split at h
    · rename_i f hf
      simp only [hf]
      unfold builtinX at h
      unfold effBuiltin
      have hargs := evsX_sim hs c.args.toList
      split at h
      · split at h
        · rename_i x t hx ht
          rw [hx] at hargs
          rcases hargs.cases with ⟨h1, _⟩ | ⟨v, q, vs, qs, h1, h2, h3, h4⟩
          · cases h1
          · injection h1 with e1 e2
            subst e1 e2
            rcases h4.cases with ⟨_, rfl⟩ | ⟨_, _, _, _, h5, _⟩
            · simp only [h2, ht]
              exact (lenX_ok hs h3 h).done hs
            · cases h5
        · cases h
      · split at h
        · rename_i x y t t' hx ht
          rw [hx] at hargs
          rcases hargs.cases with ⟨h1, _⟩ | ⟨v, q, vs, qs, h1, h2, h3, h4⟩
          · cases h1
          · injection h1 with e1 e2
            subst e1 e2
            rcases h4.cases with ⟨h5, _⟩ | ⟨v2, q2, vs2, qs2, h5, h6, h7, h8⟩
            · cases h5
            · injection h5 with e1 e2
              subst e1 e2
              rcases h8.cases with ⟨_, rfl⟩ | ⟨_, _, _, _, h9, _⟩
              · subst h6
                simp only [h2, ht]
                split at h
                · rename_i htt
                  have htt : t' = t := by simpa using htt
                  rw [if_pos htt]
                  exact (appendX_ok hs h3 h7 h).1
                · cases h
              · cases h9
        · cases h
      · split at h
        · rename_i x xs hx
          rw [hx] at hargs
          rcases hargs.cases with ⟨h1, _⟩ | ⟨v, q, vs, qs, h1, h2, h3, h4⟩
          · cases h1
          · injection h1 with e1 e2
            subst e1 e2
            split at h
            · rename_i w hw
              obtain ⟨r, h5, h6⟩ := minmax_ok false xs x w q qs h3 h4 hw
              simp only [h2]
              exact ⟨_, .no, r, none, by simp [show effMinL q qs = some r from h5], h, sim_no hs h6, trivial, okW_none⟩
            · cases h
        · cases h
      · split at h
        · rename_i x xs hx
          rw [hx] at hargs
          rcases hargs.cases with ⟨h1, _⟩ | ⟨v, q, vs, qs, h1, h2, h3, h4⟩
          · cases h1
          · injection h1 with e1 e2
            subst e1 e2
            split at h
            · rename_i w hw
              obtain ⟨r, h5, h6⟩ := minmax_ok true xs x w q qs h3 h4 hw
              simp only [h2]
              exact ⟨_, .no, r, none, by simp [show effMaxL q qs = some r from h5], h, sim_no hs h6, trivial, okW_none⟩
            · cases h
        · cases h
      · split at h
        · rename_i x y t t' hx ht
          rw [hx] at hargs
          rcases hargs.cases with ⟨h1, _⟩ | ⟨v, q, vs, qs, h1, h2, h3, h4⟩
          · cases h1
          · injection h1 with e1 e2
            subst e1 e2
            rcases h4.cases with ⟨h5, _⟩ | ⟨v2, q2, vs2, qs2, h5, h6, h7, h8⟩
            · cases h5
            · injection h5 with e1 e2
              subst e1 e2
              rcases h8.cases with ⟨_, rfl⟩ | ⟨_, _, _, _, h9, _⟩
              · subst h6
                simp only [h2, ht]
                exact copyX_ok hs h3 h7 h
              · cases h9
        · cases h
      · cases h
    · cases h
  · rename_i f ps qs
    have h1 := evsX_sim hs ps.toList
    have h2 := evsX_sim hs qs.toList
    exact ⟨_, .no, _, none, rfl, h, sim_no hs (.fn f _ _ _ _ h1.len h1.rep h2.len h2.rep), trivial, okW_none⟩
  · rename_i t x y
    exact makeX_ok hs h
  · cases h

/-! ### Calls -/
def toC : (c : CT) → c.den → PV
  | .v t, x => .d (enc1 t x).toD
  | .a i, x => .ag ((stD i x).map .d)
  | .pl t, x => .fe [(enc1 t x).toD]
  | .ps i, x => .fe (stD i x)
def toCs : (cs : List CT) → cdens cs → List PV
  | [], _ => []
  | c :: cs, x => toC c x.1 :: toCs cs x.2
def toPV : (p : PT) → p.den → PV
  | .lf t, x => .d (enc1 t x).toD
  | .ag i, x => .ag ((stD i x).map .d)
  | .pl t, x => .fe [(enc1 t x).toD]
  | .ps i, x => .fe (stD i x)
  | .fn f a b, x => .fn f (toCs a x.1) (toCs b x.2)
  | .own .., _ => .junk
  | .mv .., _ => .junk
  | .bx .., _ => .junk
  | .agr .., _ => .junk
  | .io _, _ => .junk
def toPVs : (ps : List PT) → dens ps → List PV
  | [], _ => []
  | p :: ps, x => toPV p x.1 :: toPVs ps x.2
def toRs : (rs : List PT) → densR rs → List PV
  | [], _ => []
  | [p], x => [toPV p x]
  | p :: q :: l, x => toPV p x.1 :: toRs (q :: l) x.2
def toR (rs : List PT) (x : densR rs) : PV := match rs, x with
  | [p], x => toPV p x
  | rs, x => .tup (toRs rs x)
/-! ### Calls that turn boxes, or answer rows of their own -/
def pvCells (rows : List (Nat × Nat × Nat × Nat × Ty)) : Nat → List D → List PV
  | _, [] => []
  | j, d :: ds => (match findR rows j with
    | some (R, _, _, _) => (match d with | .sl es => .row R es.length | .v _ => .junk)
    | none => .d d) :: pvCells rows (j + 1) ds
def puCells (rows : List (Nat × Nat × Nat × Nat × Ty)) : Nat → List D → BU
  | _, [] => []
  | j, d :: ds => match findR rows j with
    | some (R, e, k, _) => (match d with | .sl es => (R, .rw e k es) :: puCells rows (j + 1) ds | .v _ => puCells rows (j + 1) ds)
    | none => puCells rows (j + 1) ds
def rwU (e k : Nat) (t : Ty) (xs : List t.den) : Box := .rw e k (xs.map (encE t))
def toI : (p : PT) → List Nat → p.den → PV × BU
  | .own e k t, is, xs => (match is with | [i] => (.row i (show List t.den from xs).length, [(i, rwU e k t xs)]) | _ => (.junk, []))
  | .mv e k t, is, xs => (match is with | [i] => (.row i (show List t.den from xs).length, [(i, rwU e k t xs)]) | _ => (.junk, []))
  | .bx ty n rows, is, x => (match is with | i :: is => (.ptr i 0, (i, .st ty (pvCells (zipR rows is) 0 (stD n x))) :: puCells (zipR rows is) 0 (stD n x)) | _ => (.junk, []))
  | .agr n rows, is, x => (.ag (pvCells (zipR rows is) 0 (stD n x)), puCells (zipR rows is) 0 (stD n x))
  | .io _, _, _ => (.junk, [])
  | .lf t, _, x => (toPV (.lf t) x, [])
  | .ag i, _, x => (toPV (.ag i) x, [])
  | .pl t, _, x => (toPV (.pl t) x, [])
  | .ps i, _, x => (toPV (.ps i) x, [])
  | .fn f a b, _, x => (toPV (.fn f a b) x, [])
def toIs : (ps : List PT) → List (List Nat) → dens ps → List PV × BU
  | [], _, _ => ([], [])
  | p :: ps, is :: iss, x => ((toI p is x.1).1 :: (toIs ps iss x.2).1, (toI p is x.1).2 ++ (toIs ps iss x.2).2)
  | _ :: _, [], _ => ([], [])
/-- Boxes that are gone. -/
def goneB : Box → Box
  | .rw e k es => .rw e k (es ++ [[]])
  | B => B
def goneU (l : BU) : List Nat → BU
  | [] => []
  | t :: ts => (t, match lkU l t with | some B => goneB B | none => .st 0 []) :: goneU l ts
def toO : (p : PT) → (b : IB) → List Nat → List Nat → p.den → b.den → BU
  | .own .., .own e k t, is, _, _, xs => (match is with | [i] => [(i, rwU e k t xs)] | _ => [])
  | .bx .., .bx ty n rows, is, js, _, x => (match is with | i :: _ => (i, .st ty (pvCells (zipR rows js) 0 (stD n x))) :: puCells (zipR rows js) 0 (stD n x) | _ => [])
  | _, _, _, _, _, _ => []
/-- What is handed over for good. -/
def gone1 : PT → List Nat → List Nat
  | .mv .., is => is
  | .bx .., _ :: is => is
  | _, _ => []
def gones : List PT → List (List Nat) → List Nat
  | p :: ps, is :: iss => gone1 p is ++ gones ps iss
  | _, _ => []
def toOs : (ps : List PT) → (ls : List IB) → List (List Nat) → List (List Nat) → dens ps → outT ls → BU
  | p :: ps, b :: ls, is :: iss, js :: kss, x, o => toO p b is js x.1 o.1 ++ toOs ps ls iss kss x.2 o.2
  | _, _, _, _, _, _ => []
def toRIs : (rs : List PT) → List (List Nat) → densR rs → List PV × BU
  | [p], is :: _, x => ([(toI p is x).1], (toI p is x).2)
  | p :: q :: l, is :: iss, x => ((toI p is x.1).1 :: (toRIs (q :: l) iss x.2).1, (toI p is x.1).2 ++ (toRIs (q :: l) iss x.2).2)
  | _, _, _ => ([], [])
def oneP : List PV → PV
  | [v] => v
  | vs => .tup vs
/-- A row that is kept is as long. -/
def lenO : (p : PT) → (b : IB) → p.den → b.den → Prop
  | .own _ _ t, .own _ _ t', x, o => (show List t'.den from o).length = (show List t.den from x).length
  | _, _, _, _ => True
def lenOs : (ps : List PT) → (ls : List IB) → dens ps → outT ls → Prop
  | p :: ps, b :: ls, x, o => lenO p b x.1 o.1 ∧ lenOs ps ls x.2 o.2
  | _, _, _, _ => True
def shapeOk : List PT → List (List Nat) → Prop
  | [], [] => True
  | p :: ps, is :: iss => is.length = p.nI ∧ shapeOk ps iss
  | _, _ => False
def shapeIO : List IB → List (List Nat) → Prop
  | [], [] => True
  | b :: ls, js :: kss => js.length = b.nJ ∧ shapeIO ls kss
  | _, _ => False
/-- What the call makes of the boxes. -/
def madeU (ps rs : List PT) (iss kss jss : List (List Nat)) (x : dens ps) (r : densR rs) : BU := toOs ps (ioOf rs) iss kss x (outOf rs r) ++ ((toRIs (rsOf rs) jss (resOf rs r)).2 ++ goneU (toIs ps iss x).2 (gones ps iss))
def CtrB (P : Program) (f : FuncId) (ps rs : List PT) (x : dens ps) (r : densR rs) : Prop :=
  lenOs ps (ioOf rs) x (outOf rs r) ∧ ∀ iss kss jss, shapeOk ps iss → shapeIO (ioOf rs) kss → shapeOk (rsOf rs) jss → (flatN iss ++ (flatN kss ++ flatN jss)).Nodup → (∀ j ∈ flatN kss ++ flatN jss, j < 1000000) → (∀ i ∈ flatN iss, i ∈ domU (toIs ps iss x).2) → callable P f = true ∧
    ∀ (w0 : WM) (F0 : Nat → Prop) (ρ : Nat → Value) (b : Nat → Option Box) (w : World) (F : Nat → Prop) (vs : Array Value) (args : List PV), nrmPs args = (toIs ps iss x).1 → (∀ t B, lkU (toIs ps iss x).2 t = some B → ∃ B', b t = some B' ∧ nrmB B' = B) → (∀ t ∈ flatN kss ++ flatN jss, b t = none) →
      Inv w0 F0 ρ b w F → Reps ρ b w F vs.toList args → Calls P f vs w fun e w' => ∃ v ρ' F', e = .returned v ∧ Inv w0 F0 ρ' (bupdL b (madeU ps rs iss kss jss x r)) w' F' ∧ Stp ρ b w F ρ' (bupdL b (madeU ps rs iss kss jss x r)) w' F' ∧ PRep ρ' (bupdL b (madeU ps rs iss kss jss x r)) w' F' v (oneP (toRIs (rsOf rs) jss (resOf rs r)).1)
/-- What a function answers, said by a plain one. -/
def CtrOk (P : Program) (f : FuncId) (ps rs : List PT) (F : dens ps → Option (densR rs)) : Prop := ∀ x r, F x = some r → ((anyM ps || anyM rs) = false → PC P f (toPVs ps x) (toR rs r)) ∧ ((anyM ps || anyM rs) = true → CtrB P f ps rs x r)
def TabOk (P : Program) (T : List (Nat × Ent)) : Prop := ∀ f vs en, lkE T f vs = some en → CtrOk P f en.ps en.rs en.f
theorem TabOk.nil : TabOk P [] := fun f vs en h => by cases h
theorem TabOk.cons {T : List (Nat × Ent)} {f : FuncId} {ps rs : List PT} {F : dens ps → Option (densR rs)} (h : CtrOk P f ps rs F) (hT : TabOk P T) : TabOk P ((f, ⟨ps, rs, F⟩) :: T) := by
  intro g vs en hg
  simp only [lkE, beq_spec] at hg
  by_cases e : g = f
  · subst e
    simp only [decide_true] at hg
    split at hg
    · injection hg with hg
      subst hg
      exact h
    · exact hT g vs en hg
  · simp only [e, decide_false] at hg
    exact hT g vs en hg
theorem enc1_as {t : Ty} {c : SD} {x : t.den} (h : c.as t = some x) : (enc1 t x).toD = c.toD := by
  have h1 := SD.as_ok h
  cases t with
  | st i => simp [SD.as] at h
  | _ => simp only [encE, List.cons.injEq, and_true] at h1; exact h1
theorem data_c (hs : Sim s p) {t : Ty} {v : SV} {q : PV} {x : t.den} (hv : VSim s.bx v q) (h : decV s t v = some x) : asData p.b q = .d (enc1 t x).toD ∧ (norow v = true → clean q = true ∧ asData bNone q = .d (enc1 t x).toD) := by
  unfold decV at h
  split at h
  · rename_i c hc
    have := data_d hs hv hc
    simp only [enc1_as h]
    exact this
  · cases h
theorem ag_c (hs : Sim s p) {i : Nat} {v : SV} {q : PV} {x : ST i} (hv : VSim s.bx v q) (h : decG s i v = some x) : asData p.b q = .ag ((stD i x).map .d) ∧ (norow v = true → clean q = true ∧ asData bNone q = .ag ((stD i x).map .d)) := by
  unfold decG at h
  split at h
  · rename_i cs
    split at h
    · rename_i ds hds
      obtain ⟨qs, rfl, hq⟩ := vs_ag hv
      obtain ⟨h1, h2⟩ := datas_d hs hq hds
      have h3 := stK_ok h
      have e : ds.map (fun c => PV.d c.toD) = (stD i x).map .d := by rw [← h3, List.map_map]; rfl
      refine ⟨by simp only [asData, h1, e], fun hn => ?_⟩
      obtain ⟨h4, h5⟩ := h2 hn
      exact ⟨by simpa [clean] using h4, by simp only [asData, h5, e]⟩
    · cases h
  · cases h
theorem fe_c {cs : List SD} {q : PV} (b : Nat → Option Box) (hv : VSim B (.fe cs) q) : asData b q = .fe (cs.map SD.toD) ∧ clean q = true := by
  cases hv with
  | fe _ ds h hn => subst h; exact ⟨rfl, rfl⟩
theorem f1_c {t : Ty} {v : SV} {q : PV} {x : t.den} (b : Nat → Option Box) (hv : VSim B v q) (h : decF1 t v = some x) : asData b q = .fe [(enc1 t x).toD] ∧ clean q = true := by
  unfold decF1 at h
  split at h
  · rename_i c
    have e : (enc1 t x).toD = c.toD := enc1_as h
    rw [e]
    exact fe_c b hv
  · cases h
theorem fs_c {i : Nat} {v : SV} {q : PV} {x : ST i} (b : Nat → Option Box) (hv : VSim B v q) (h : decFs i v = some x) : asData b q = .fe (stD i x) ∧ clean q = true := by
  unfold decFs at h
  split at h
  · rename_i cs
    rw [← stK_ok h]
    exact fe_c b hv
  · cases h
theorem decC_ok (hs : Sim s p) {t : CT} {v : SV} {q : PV} {x : t.den} (hv : VSim s.bx v q) (h : decC s t v = some x) : asData p.b q = toC t x ∧ (norow v = true → clean q = true ∧ asData bNone q = toC t x) := by
  cases t with
  | v t => exact data_c hs hv h
  | a i => exact ag_c hs hv h
  | pl t => exact ⟨(f1_c p.b hv h).1, fun _ => ⟨(f1_c p.b hv h).2, (f1_c bNone hv h).1⟩⟩
  | ps i => exact ⟨(fs_c p.b hv h).1, fun _ => ⟨(fs_c p.b hv h).2, (fs_c bNone hv h).1⟩⟩
theorem decCs_ok (hs : Sim s p) : ∀ {ps : List CT} {vs : List SV} {qs : List PV} {x : cdens ps}, CSim s.bx vs qs → decCs s ps vs = some x → asDatas p.b qs = toCs ps x ∧ (norows vs = true → cleans qs = true ∧ asDatas bNone qs = toCs ps x)
  | [], [], qs, x, hv, h => by
    rcases hv.cases with ⟨_, rfl⟩ | ⟨_, _, _, _, h1, _⟩
    · simp [asDatas, toCs, cleans]
    · cases h1
  | [], _ :: _, _, _, _, h => by cases h
  | _ :: _, [], _, _, _, h => by cases h
  | t :: ps, v :: vs, qs, x, hv, h => by
    rcases hv.cases with ⟨h1, _⟩ | ⟨v', q, vs', qs', h1, rfl, h2, h3⟩
    · cases h1
    · injection h1 with e1 e2
      subst e1 e2
      simp only [decCs] at h
      obtain ⟨y, h4, h5⟩ := bindS h
      obtain ⟨ys, h6, h7⟩ := bindS h5
      injection h7 with h7
      subst h7
      obtain ⟨m1, m2⟩ := decC_ok hs h2 h4
      obtain ⟨m3, m4⟩ := decCs_ok hs h3 h6
      refine ⟨by simp [asDatas, toCs, m1, m3], fun hn => ?_⟩
      simp only [norows] at hn
      split at hn
      · rename_i hn1
        obtain ⟨n1, n2⟩ := m2 hn1
        obtain ⟨n3, n4⟩ := m4 hn
        simp [asDatas, cleans, toCs, n1, n2, n3, n4]
      · cases hn
theorem vs_fn {f : FuncId} {ps qs : List SV} {q : PV} (h : VSim B (.fn f ps qs) q) : ∃ ps' qs', q = .fn f ps' qs' ∧ CSim B ps ps' ∧ CSim B qs qs' := by
  cases h with
  | fn _ _ _ ps' qs' hl hr hl2 hr2 => exact ⟨ps', qs', rfl, ⟨hl, hr⟩, hl2, hr2⟩
theorem decA_ok (hs : Sim s p) {t : PT} {v : SV} {q : PV} {x : t.den} (hv : VSim s.bx v q) (h : decA s t v = some x) : asData p.b q = toPV t x ∧ (norow v = true → clean q = true ∧ asData bNone q = toPV t x) := by
  cases t with
  | lf t => exact data_c hs hv h
  | ag i => exact ag_c hs hv h
  | pl t => exact ⟨(f1_c p.b hv h).1, fun _ => ⟨(f1_c p.b hv h).2, (f1_c bNone hv h).1⟩⟩
  | ps i => exact ⟨(fs_c p.b hv h).1, fun _ => ⟨(fs_c p.b hv h).2, (fs_c bNone hv h).1⟩⟩
  | fn f a b =>
    have h : decN s f a b v = some x := h
    unfold decN at h
    split at h
    · rename_i f' ps qs
      split at h
      · rename_i hf
        rw [beq_spec] at hf
        have hf := of_decide_eq_true hf
        subst hf
        obtain ⟨y, h4, h5⟩ := bindS h
        obtain ⟨ys, h6, h7⟩ := bindS h5
        injection h7 with h7
        subst h7
        obtain ⟨ps', qs', rfl, k1, k2⟩ := vs_fn hv
        obtain ⟨m1, m2⟩ := decCs_ok hs k1 h4
        obtain ⟨m3, m4⟩ := decCs_ok hs k2 h6
        refine ⟨by simp only [asData, toPV, m1, m3], fun hn => ?_⟩
        simp only [norow] at hn
        split at hn
        · rename_i hn1
          obtain ⟨n1, n2⟩ := m2 hn1
          obtain ⟨n3, n4⟩ := m4 hn
          exact ⟨by simp only [clean, n1, n3, Bool.and_self], by simp only [asData, toPV, n2, n4]⟩
        · cases hn
      · cases h
    · cases h
  | own => exact noneN (x := x) h
  | mv => exact noneN (x := x) h
  | bx => exact noneN (x := x) h
  | agr => exact noneN (x := x) h
  | io => exact noneN (x := x) h
theorem decAs_ok (hs : Sim s p) : ∀ {ps : List PT} {vs : List SV} {qs : List PV} {x : dens ps}, CSim s.bx vs qs → decAs s ps vs = some x → asDatas p.b qs = toPVs ps x ∧ (norows vs = true → cleans qs = true ∧ asDatas bNone qs = toPVs ps x)
  | [], [], qs, x, hv, h => by
    rcases hv.cases with ⟨_, rfl⟩ | ⟨_, _, _, _, h1, _⟩
    · simp [asDatas, toPVs, cleans]
    · cases h1
  | [], _ :: _, _, _, _, h => by cases h
  | _ :: _, [], _, _, _, h => by cases h
  | t :: ps, v :: vs, qs, x, hv, h => by
    rcases hv.cases with ⟨h1, _⟩ | ⟨v', q, vs', qs', h1, rfl, h2, h3⟩
    · cases h1
    · injection h1 with e1 e2
      subst e1 e2
      simp only [decAs] at h
      obtain ⟨y, h4, h5⟩ := bindS h
      obtain ⟨ys, h6, h7⟩ := bindS h5
      injection h7 with h7
      subst h7
      obtain ⟨m1, m2⟩ := decA_ok hs h2 h4
      obtain ⟨m3, m4⟩ := decAs_ok hs h3 h6
      refine ⟨by simp [asDatas, toPVs, m1, m3], fun hn => ?_⟩
      simp only [norows] at hn
      split at hn
      · rename_i hn1
        obtain ⟨n1, n2⟩ := m2 hn1
        obtain ⟨n3, n4⟩ := m4 hn
        simp [asDatas, cleans, toPVs, n1, n2, n3, n4]
      · cases hn
theorem st_sim (i : Nat) (x : ST i) : CSim B (mapD (stC i x)) ((stD i x).map .d) := by
  rw [← stC_ok i x]
  exact mapD_sim _ (stC_nl i x)
theorem fe1_sim {t : Ty} (x : t.den) (h : ∀ i, t ≠ .st i) : VSim B (.fe [enc1 t x]) (.fe [(enc1 t x).toD]) := by
  refine .fe _ _ rfl fun c hc => ?_
  simp only [List.mem_cons, List.not_mem_nil, or_false] at hc
  subst hc
  cases t with
  | st i => exact absurd rfl (h i)
  | _ => exact fun e => by cases e
theorem encC_sim : ∀ (t : CT) (x : t.den), ctOk t = true → VSim B (encC t x) (toC t x)
  | .v (.int _), x, _ => v_int _ _
  | .v .bool, x, _ => v_bool _
  | .v .str, x, _ => v_str _
  | .v (.sl t), x, _ => v_sl t x
  | .v (.st i), x, h => by cases h
  | .a i, x, _ => .ag _ _ (st_sim (B := B) i x).len (st_sim i x).rep
  | .pl t, x, h => fe1_sim x fun i e => by subst e; cases h
  | .ps i, x, _ => .fe _ _ (stC_ok i x).symm (stC_nl i x)
theorem encCs_sim : ∀ (ps : List CT) (x : cdens ps), ctsOk ps = true → CSim B (encCs ps x) (toCs ps x)
  | [], _, _ => .nil
  | p :: ps, x, h => by
    simp only [ctsOk] at h
    split at h
    · rename_i hp; exact .cons (encC_sim p x.1 hp) (encCs_sim ps x.2 h)
    · cases h
theorem encA_sim : ∀ (t : PT) (x : t.den), ptOk t = true → VSim B (encA t x) (toPV t x)
  | .lf (.int _), x, _ => v_int _ _
  | .lf .bool, x, _ => v_bool _
  | .lf .str, x, _ => v_str _
  | .lf (.sl t), x, _ => v_sl t x
  | .lf (.st i), x, h => by cases h
  | .ag i, x, _ => .ag _ _ (st_sim (B := B) i x).len (st_sim i x).rep
  | .pl t, x, h => fe1_sim x fun i e => by subst e; cases h
  | .ps i, x, _ => .fe _ _ (stC_ok i x).symm (stC_nl i x)
  | .fn f a b, x, h => by
    have h : (match ctsOk a with | true => ctsOk b | false => false) = true := h
    split at h
    · rename_i h1
      have k1 := encCs_sim (B := B) a x.1 h1
      have k2 := encCs_sim (B := B) b x.2 h
      exact .fn f _ _ _ _ k1.len k1.rep k2.len k2.rep
    · cases h
  | .own .., x, h => by cases h
  | .mv .., x, h => by cases h
  | .bx .., x, h => by cases h
  | .agr .., x, h => by cases h
  | .io _, x, h => by cases h
theorem encAs_sim : ∀ (ps : List PT) (x : dens ps), ptsOk ps = true → CSim B (encAs ps x) (toPVs ps x)
  | [], _, _ => .nil
  | p :: ps, x, h => by
    simp only [ptsOk] at h
    split at h
    · rename_i hp; exact .cons (encA_sim p x.1 hp) (encAs_sim ps x.2 h)
    · cases h
theorem encRs_sim : ∀ (rs : List PT) (x : densR rs), ptsOk rs = true → CSim B (encRs rs x) (toRs rs x)
  | [], _, _ => .nil
  | [p], x, h => by
    simp only [ptsOk] at h
    split at h
    · rename_i hp; exact .cons (encA_sim p x hp) .nil
    · cases h
  | p :: q :: l, x, h => by
    have h' : ptOk p = true ∧ ptsOk (q :: l) = true := by
      rw [ptsOk] at h
      split at h
      · rename_i hp; exact ⟨hp, h⟩
      · cases h
    exact .cons (encA_sim p x.1 h'.1) (encRs_sim (q :: l) x.2 h'.2)
theorem encR_sim (rs : List PT) (x : densR rs) (h : ptsOk rs = true) : VSim B (encR rs x) (toR rs x) := by
  match rs, x, h with
  | [], x, h => exact .tup _ _ rfl (fun j c q h1 => by simp [encRs] at h1)
  | [p], x, h =>
    have := encRs_sim (B := B) [p] x h
    exact this.head
  | p :: q :: l, x, h =>
    have := encRs_sim (B := B) (p :: q :: l) x h
    exact .tup _ _ this.len this.rep
theorem flat_cells : ∀ {ds : List D}, (∀ d ∈ ds, ∃ x, d = .v x) → flats (ds.map .d) = true
  | [], _ => rfl
  | d :: ds, h => by
    obtain ⟨x, rfl⟩ := h d List.mem_cons_self
    simp [flats, flat, flat_cells (fun d hd => h d (List.mem_cons_of_mem _ hd))]
theorem flat_toPV : ∀ (t : PT) (x : t.den), t.flat = true → flat (toPV t x) = true
  | .lf (.int _), _, _ => rfl
  | .lf .bool, _, _ => rfl
  | .lf .str, _, _ => rfl
  | .lf (.sl _), _, h => by cases h
  | .lf (.st _), _, h => by cases h
  | .ag i, x, h => by
    simp only [toPV, flat]
    exact flat_cells (stF_ok i x h)
  | .pl _, _, h => by cases h
  | .ps _, _, h => by cases h
  | .fn _ _ _, _, h => by cases h
  | .own .., _, h => by cases h
  | .mv .., _, h => by cases h
  | .bx .., _, h => by cases h
  | .agr .., _, h => by cases h
  | .io _, _, h => by cases h
theorem flat_toRs : ∀ (rs : List PT) (x : densR rs), flatAll rs = true → flats (toRs rs x) = true
  | [], _, _ => rfl
  | [p], x, h => by
    simp only [flatAll] at h
    split at h
    · rename_i hp; simp [toRs, flats, flat_toPV p x hp]
    · cases h
  | p :: q :: l, x, h => by
    have h' : p.flat = true ∧ flatAll (q :: l) = true := by
      rw [flatAll] at h
      split at h
      · rename_i hp; exact ⟨hp, h⟩
      · cases h
    simp [toRs, flats, flat_toPV p x.1 h'.1, flat_toRs (q :: l) x.2 h'.2]
theorem clean_cells : ∀ (ds : List D), cleans (ds.map .d) = true
  | [] => rfl
  | d :: ds => by simp [cleans, clean, clean_cells ds]
theorem clean_toC : ∀ (t : CT) (x : t.den), clean (toC t x) = true
  | .v _, _ => rfl
  | .a i, x => by simp [toC, clean, clean_cells]
  | .pl _, _ => rfl
  | .ps _, _ => rfl
theorem clean_toCs : ∀ (cs : List CT) (x : cdens cs), cleans (toCs cs x) = true
  | [], _ => rfl
  | c :: cs, x => by simp only [toCs, cleans, clean_toC c x.1, clean_toCs cs x.2, Bool.and_self]
theorem clean_toPV : ∀ (t : PT) (x : t.den), clean (toPV t x) = true
  | .lf _, _ => rfl
  | .ag i, x => by simp [toPV, clean, clean_cells]
  | .pl _, _ => rfl
  | .ps _, _ => rfl
  | .fn _ a b, x => by simp only [toPV, clean, clean_toCs, Bool.and_self]
  | .own .., _ => rfl
  | .mv .., _ => rfl
  | .bx .., _ => rfl
  | .agr .., _ => rfl
  | .io _, _ => rfl
theorem clean_toRs : ∀ (rs : List PT) (x : densR rs), cleans (toRs rs x) = true
  | [], _ => rfl
  | [p], x => by simp only [toRs, cleans, Bool.and_true]; exact clean_toPV p x
  | p :: q :: l, x => by simp only [toRs, cleans, Bool.and_eq_true]; exact ⟨clean_toPV p x.1, clean_toRs (q :: l) x.2⟩
theorem toR_cases (rs : List PT) (x : densR rs) : (∃ p, toRs rs x = [p] ∧ toR rs x = p) ∨ toR rs x = .tup (toRs rs x) := by
  match rs, x with
  | [], x => exact .inr rfl
  | [p], x => exact .inl ⟨_, rfl, rfl⟩
  | p :: q :: l, x => exact .inr rfl
theorem flat_toR (rs : List PT) (x : densR rs) (h : flatAll rs = true) : flat (toR rs x) = true := by
  have := flat_toRs rs x h
  rcases toR_cases rs x with ⟨p, h1, h2⟩ | h1
  · rw [h1] at this
    rw [h2]
    simpa [flats] using this
  · rw [h1]
    simpa [flat] using this
theorem clean_toR (rs : List PT) (x : densR rs) : clean (toR rs x) = true := by
  have := clean_toRs rs x
  rcases toR_cases rs x with ⟨p, h1, h2⟩ | h1
  · rw [h1] at this
    rw [h2]
    simpa [cleans] using this
  · rw [h1]
    simpa [clean] using this
theorem callX_ok {T : List (Nat × Ent)} (hT : TabOk P T) (hs : Sim s p) {f : Nat} {vs : List SV} {qs : List PV} (hM : isMx T f vs = false) (hv : CSim s.bx vs qs) {k : SV → Option ρ} {res : ρ} (h : callX T f s vs k = some res) : ∃ v r, CallOk P f p.b qs r ∧ k v = some res ∧ VSim s.bx v r := by
  unfold callX at h
  split at h
  · cases h
  · rename_i en hen
    have h0 := (chk_some h).1
    replace h := (chk_some h).2
    have h1 := (chk_some h).1
    replace h := (chk_some h).2
    obtain ⟨x, h2, h⟩ := bindS h
    obtain ⟨r, h3, h4⟩ := bindS h
    obtain ⟨m1, m2⟩ := decAs_ok hs hv h2
    have hc := (hT f _ en hen x r h3).1 (by unfold isMx at hM; rw [hen] at hM; exact hM)
    refine ⟨_, toR en.rs r, ?_, h4, encR_sim en.rs r h0⟩
    simp only [Bool.or_eq_true] at h1
    rcases h1 with h1 | h1
    · obtain ⟨n1, n2⟩ := m2 h1
      exact .inl ⟨n1, clean_toR _ _, by rw [n2]; exact hc⟩
    · exact .inr ⟨flat_toR _ _ h1, by rw [m1]; exact hc⟩
end Go.Proofs.Ytjeeclabnimbbaa

/- Generic walks: a nil slice in a struct's box, as a row of the call's own. -/
namespace Go.Proofs.Ytjeeclabnimbbaa
open Go.RowKit
section
variable {P : Program} {n : Nat} {Qs : Exit → PS → Prop} {c : Code}
theorem pwp_nilcell (i t j e k : Nat) {ty : TypeId} {cs : List PV} {l : List (Nat × PV)} {m : List (Nat × Box)} (hb : lkb m t = some (.st ty cs)) (hc : cs[j]? = some (.d (.v (.slice none 0 0)))) (hi : lkb m i = none) (hi0 : i < 1000000) (hk : 0 < k)
    (h : PWP P n c Qs (St l (insb (insb m i (.rw e k [])) t (.st ty (cs.set j (.row i 0)))))) : PWP P n c Qs (St l m) := by
  refine fun w0 F0 a w hcn => h w0 F0 a w ?_
  obtain ⟨h1, h2, ρ, F, hinv, hev⟩ := hcn
  have hnew := newRw (P := default) (t := i) (e := e) (k := k) (es := []) (xs := []) (v := .slice none 0 0) (w' := w) hinv hi0 (show (St l m).b i = none from hi) hk (Ext.refl w) (fun g hg => by cases hg) (World.ownsRow_nil w _ e k) (by simp) rfl (by simp)
  obtain ⟨v, w', ρ', hok, k1, k2, k3⟩ := hnew
  injection hok with e1 e2
  subst e1 e2
  have hti : t ≠ i := fun e => by rw [e, hi] at hb; cases hb
  have hb1 : (bupd (St l m).b (some (i, .rw e k []))) t = some (.st ty cs) := by rw [bupd_ne _ _ hti]; exact hb
  have hbi : (bupd (St l m).b (some (i, .rw e k []))) i = some (.rw e k []) := bupd_same _ _ _
  have hs2 : Stp ρ' (bupd (St l m).b (some (i, .rw e k []))) w F ρ' (bupd (bupd (St l m).b (some (i, .rw e k []))) (some (t, .st ty (cs.set j (.row i 0))))) w F := by
    refine ⟨fun _ h => h, fun _ _ => rfl, fun t' ty' cs' h => ⟨?_, rfl⟩, fun t' e' k' es h => ?_⟩
    · by_cases h' : t' = t
      · subst h'; rw [bupd_same]; exact ⟨_, _, rfl⟩
      · rw [bupd_ne _ _ h']; exact ⟨_, _, h⟩
    · have h' : t' ≠ t := fun e => by rw [e, hb1] at h; cases h
      rw [bupd_ne _ _ h']
      exact ⟨e', es, h, Nat.le_refl _, fun _ => rfl⟩
  have hinv2 : Inv w0 F0 ρ' (bupd (bupd (St l m).b (some (i, .rw e k []))) (some (t, .st ty (cs.set j (.row i 0))))) w F := by
    have hs3 := hs2
    rw [← rupd_self ρ' t] at hs3
    have := Inv.turn (v := ρ' t) (B' := .st ty (cs.set j (.row i 0))) (w' := w) k1 hb1 (by rw [rupd_self] at hs3 ⊢; exact hs2) k1.ext (Nat.le_refl _) (fun _ _ _ => rfl) (fun g hg => .inl hg) ?_
    · rw [rupd_self] at this; exact this
    · rw [rupd_self]
      cases k1.box t _ hb1 with
      | st _ _ g xs hρ hg hF hh hl h1x hr =>
        refine .st ty _ g xs hρ hg hF hh (by rw [List.length_set]; exact hl) h1x (fun p x c h4 h5 => ?_)
        rw [List.getElem?_set] at h5
        split at h5
        · rename_i hjp
          subst hjp
          split at h5
          · injection h5 with h5
            subst h5
            have hx := hr j x _ h4 hc
            obtain ⟨hx, _⟩ := hx.vv
            rw [hx]
            exact k3.mono hs2
          · cases h5
        · exact (hr p x c h4 h5).mono hs2
  refine ⟨h1, h2, ρ', F, ?_, fun q => ?_⟩
  · have : (St l (insb (insb m i (.rw e k [])) t (.st ty (cs.set j (.row i 0))))).b = bupd (bupd (St l m).b (some (i, .rw e k []))) (some (t, .st ty (cs.set j (.row i 0)))) := by
      funext q
      simp only [St, bupd, lkb_insb]
    rw [this]
    exact hinv2
  · have := ((hev q).mono k2).mono hs2
    have e3 : (St l (insb (insb m i (.rw e k [])) t (.st ty (cs.set j (.row i 0))))).b = bupd (bupd (St l m).b (some (i, .rw e k []))) (some (t, .st ty (cs.set j (.row i 0)))) := by
      funext q
      simp only [St, bupd, lkb_insb]
    rw [e3]
    exact this
end
end Go.Proofs.Ytjeeclabnimbbaa

/- The typed executor: what may be forgotten, frozen, begun. -/
namespace Go.Proofs.Ytjeeclabnimbbaa
open Go.RowKit

/-- Whatever is as p says is as p' says. -/
def Le (p p' : PS) : Prop := ∀ (n : Nat) (w0 : WM) (F0 : Nat → Prop) (a : Act) (w : World), Conc n w0 F0 p a w → Conc n w0 F0 p' a w
theorem Le.refl (p : PS) : Le p p := fun _ _ _ _ _ h => h
theorem Le.trans {p p' p'' : PS} (h : Le p p') (h' : Le p' p'') : Le p p'' := fun n w0 F0 a w hc => h' n w0 F0 a w (h n w0 F0 a w hc)
theorem pwp_le {P : Program} {n : Nat} {c : Code} {Q : Exit → PS → Prop} {p p' : PS} (hl : Le p p') (h : PWP P n c Q p') : PWP P n c Q p := fun w0 F0 a w hc => h w0 F0 a w (hl n w0 F0 a w hc)
theorem pwp_conseq {P : Program} {n : Nat} {c : Code} {Q Q' : Exit → PS → Prop} {p : PS} (h : PWP P n c Q p) (hq : ∀ e p', Q e p' → ∃ p'', Le p' p'' ∧ Q' e p'') : PWP P n c Q' p :=
  fun w0 F0 a w hc => wp_mono (h w0 F0 a w hc) fun e a' w' ⟨s', h1, h2⟩ => by
    obtain ⟨p'', h3, h4⟩ := hq e s' h1
    exact ⟨p'', h4, h3 n w0 F0 a' w' h2⟩

/-- As a typed state says, as far as it says. -/
structure SimW (s : SS) (p : PS) : Prop where
  sl : ∀ i, VSim s.bx (lkV s.sl i) (p.t i)
  bx : ∀ t b, lkB s.bx t = some b → BSim s.bx true (some b) (p.b t)
theorem BSim.some {B : List (Nat × Option SBox)} {o o' : Bool} {b : SBox} {q : Option Box} (h : BSim B o (some b) q) : BSim B o' (some b) q := by cases b <;> exact h
theorem Sim.w {s : SS} {p : PS} (h : Sim s p) : SimW s p := ⟨h.sl, fun t b hb => by have := h.bx t; rw [hb] at this; exact this.some⟩

/-! ### The cut -/
mutual
def cutV : SV → PV → PV
  | .junk, _ => .junk
  | .ag cs, .ag qs => .ag (cutVs cs qs)
  | .tup cs, .tup qs => .tup (cutVs cs qs)
  | .fn _ ps qs, .fn f ps' qs' => .fn f (cutVs ps ps') (cutVs qs qs')
  | _, q => q
def cutVs : List SV → List PV → List PV
  | [], _ => []
  | _, [] => []
  | c :: cs, q :: qs => cutV c q :: cutVs cs qs
end
def cutB : SBox → Box → Box
  | .st _ cs, .st ty qs => .st ty (cutVs cs qs)
  | _, b => b
def cutP (s : SS) (p : PS) : PS := ⟨fun i => cutV (lkV s.sl i) (p.t i), fun t => match lkB s.bx t with | none => none | some b => (p.b t).map (cutB b)⟩
theorem cutVs_len : ∀ (cs : List SV) (qs : List PV), cs.length = qs.length → (cutVs cs qs).length = qs.length
  | [], [], _ => rfl
  | [], _ :: _, h => by simp at h
  | _ :: _, [], h => by simp at h
  | c :: cs, q :: qs, h => by simp only [cutVs, List.length_cons, cutVs_len cs qs (by simpa using h)]
theorem cutVs_get : ∀ (cs : List SV) (qs : List PV) (j : Nat) (r : PV), (cutVs cs qs)[j]? = some r → ∃ c q, cs[j]? = some c ∧ qs[j]? = some q ∧ r = cutV c q
  | [], qs, j, r, h => by simp [cutVs] at h
  | _ :: _, [], j, r, h => by simp [cutVs] at h
  | c :: cs, q :: qs, 0, r, h => by simp [cutVs] at h; exact ⟨c, q, rfl, rfl, h.symm⟩
  | c :: cs, q :: qs, j + 1, r, h => by
    simp [cutVs] at h
    simpa using cutVs_get cs qs j r h
theorem vsim_cut {B : List (Nat × Option SBox)} {v : SV} {q : PV} (h : VSim B v q) : VSim B v (cutV v q) := by
  induction h with
  | junk q => exact .junk _
  | d c y h => exact .d c y h
  | ag cs qs hl hr ih =>
    refine .ag cs _ (by rw [cutVs_len cs qs hl]; exact hl) (fun j c r h1 h2 => ?_)
    obtain ⟨c', q', h3, h4, rfl⟩ := cutVs_get cs qs j r h2
    rw [h1] at h3
    injection h3 with h3
    subst h3
    exact ih j c q' h1 h4
  | tup cs qs hl hr ih =>
    refine .tup cs _ (by rw [cutVs_len cs qs hl]; exact hl) (fun j c r h1 h2 => ?_)
    obtain ⟨c', q', h3, h4, rfl⟩ := cutVs_get cs qs j r h2
    rw [h1] at h3
    injection h3 with h3
    subst h3
    exact ih j c q' h1 h4
  | ptr t o ty cs hb => exact .ptr t o ty cs hb
  | row t n e k ty xs pins hb hn => exact .row t n e k ty xs pins hb hn
  | re t p o n i e k ty xs pins pin hb hn hp hi => exact .re t p o n i e k ty xs pins pin hb hn hp hi
  | vw t lo hi n e k ty xs pins hb hn => exact .vw t lo hi n e k ty xs pins hb hn
  | fe cs ds h hn => exact .fe cs ds h hn
  | fn f ps qs ps' qs' hl hr hl2 hr2 ih ih2 =>
    refine .fn f ps qs _ _ (by rw [cutVs_len ps ps' hl]; exact hl) (fun j c r h1 h2 => ?_) (by rw [cutVs_len qs qs' hl2]; exact hl2) (fun j c r h1 h2 => ?_)
    · obtain ⟨c', q', h3, h4, rfl⟩ := cutVs_get ps ps' j r h2
      rw [h1] at h3
      injection h3 with h3
      subst h3
      exact ih j c q' h1 h4
    · obtain ⟨c', q', h3, h4, rfl⟩ := cutVs_get qs qs' j r h2
      rw [h1] at h3
      injection h3 with h3
      subst h3
      exact ih2 j c q' h1 h4
theorem csim_cut {B : List (Nat × Option SBox)} {cs : List SV} {qs : List PV} (h : CSim B cs qs) : CSim B cs (cutVs cs qs) :=
  ⟨by rw [cutVs_len cs qs h.len]; exact h.len, fun j c r h1 h2 => by
    obtain ⟨c', q', h3, h4, rfl⟩ := cutVs_get cs qs j r h2
    rw [h1] at h3
    injection h3 with h3
    subst h3
    exact vsim_cut (h.rep j c q' h1 h4)⟩
section
variable {ρ : Nat → Value} {b b' : Nat → Option Box} {w : World} {F : Nat → Prop} {B : List (Nat × Option SBox)}
theorem prep_cut (hst : ∀ t ty cs ty' qs, lkB B t = some (.st ty cs) → b t = some (.st ty' qs) → ∃ ty2 qs2, b' t = some (.st ty2 qs2)) (hrw : ∀ t e k ty xs pins, lkB B t = some (.rw e k ty xs pins) → b' t = b t) {v : SV} {q : PV} (hv : VSim B v q) :
    ∀ {x : Value}, PRep ρ b w F x q → PRep ρ b' w F x (cutV v q) := by
  induction hv with
  | junk q => exact fun _ => .junk _
  | d c y h =>
    intro x hp
    cases hp with
    | d _ _ h => exact .d _ _ h
  | ag cs qs hl hr ih =>
    intro x hp
    cases hp with
    | ag xs _ hl2 h1 hr2 =>
      refine .ag xs _ (by rw [cutVs_len cs qs hl]; exact hl2) h1 (fun j x r h2 h3 => ?_)
      obtain ⟨c, q, h4, h5, rfl⟩ := cutVs_get cs qs j r h3
      exact ih j c q h4 h5 (hr2 j x q h2 h5)
  | tup cs qs hl hr ih =>
    intro x hp
    cases hp with
    | tup xs _ hl2 hr2 =>
      refine .tup xs _ (by rw [cutVs_len cs qs hl]; exact hl2) (fun j x r h2 h3 => ?_)
      obtain ⟨c, q, h4, h5, rfl⟩ := cutVs_get cs qs j r h3
      exact ih j c q h4 h5 (hr2 j x q h2 h5)
  | ptr t o ty cs hb =>
    intro x hp
    cases hp with
    | ptr _ _ g ty' qs h1 h2 =>
      obtain ⟨ty2, qs2, h3⟩ := hst t ty cs ty' qs hb h1
      exact .ptr t o g ty2 qs2 h3 h2
  | row t n e k ty xs pins hb hn =>
    intro x hp
    cases hp with
    | row _ _ A c e2 k2 es h1 h2 h3 h4 h5 => exact .row t n A c e2 k2 es (by rw [hrw t e k ty xs pins hb]; exact h1) h2 h3 h4 h5
  | re t p o n i e k ty xs pins pin hb hn hp hi =>
    intro x hx
    cases hx with
    | re _ _ _ _ a e2 k2 es h1 h2 h3 h4 => exact .re t n i o a e2 k2 es (by rw [hrw t e k ty xs pins hb]; exact h1) h2 h3 h4
  | vw t lo hi n e k ty xs pins hb hn=>
    intro x hp
    cases hp with
    | vw _ _ _ _ A m c e2 k2 es h1 h2 h3 h4 h5 h6 => exact .vw t n lo hi A m c e2 k2 es (by rw [hrw t e k ty xs pins hb]; exact h1) h2 h3 h4 h5 h6
  | fe cs ds h hn =>
    intro x hx
    cases hx with
    | fe a _ us h1 h2 h3 => exact .fe a ds us h1 h2 h3
  | fn f ps qs ps' qs' hl hr hl2 hr2 ih ih2 =>
    intro x hx
    cases hx with
    | fn _ xs ys _ _ m1 m2 m3 m4 =>
      refine .fn f xs ys _ _ (by rw [cutVs_len ps ps' hl]; exact m1) (fun j x r h2 h3 => ?_) (by rw [cutVs_len qs qs' hl2]; exact m3) (fun j x r h2 h3 => ?_)
      · obtain ⟨c, q, h4, h5, rfl⟩ := cutVs_get ps ps' j r h3
        exact ih j c q h4 h5 (m2 j x q h2 h5)
      · obtain ⟨c, q, h4, h5, rfl⟩ := cutVs_get qs qs' j r h3
        exact ih2 j c q h4 h5 (m4 j x q h2 h5)
end
theorem simW_cut {s : SS} {p : PS} (h : SimW s p) : Sim ⟨s.sl, s.bx, s.pr, s.ro, []⟩ (cutP s p) := by
  refine ⟨fun i => vsim_cut (h.sl i), fun t => ?_⟩
  show BSim s.bx (memN [] t) (lkB s.bx t) (match lkB s.bx t with | none => none | some b => (p.b t).map (cutB b))
  cases hb : lkB s.bx t with
  | none => exact fun _ => rfl
  | some bx =>
    have h1 := h.bx t bx hb
    cases bx with
    | st ty cs =>
      obtain ⟨qs, h2, h3⟩ := h1
      rw [h2]
      exact ⟨cutVs cs qs, rfl, csim_cut h3⟩
    | rw e k ty xs pins =>
      obtain ⟨h2, h3⟩ := h1
      rw [h2]
      exact ⟨rfl, h3⟩
theorem le_cut {s : SS} {p : PS} (h : SimW s p) : Le p (cutP s p) := by
  intro n w0 F0 a w ⟨h1, h2, ρ, F, hi, hev⟩
  have hst : ∀ t ty cs ty' qs, lkB s.bx t = some (.st ty cs) → p.b t = some (.st ty' qs) → ∃ ty2 qs2, (cutP s p).b t = some (.st ty2 qs2) := fun t ty cs ty' qs k1 k2 => by
    refine ⟨ty', cutVs cs qs, ?_⟩
    show (match lkB s.bx t with | none => none | some b => (p.b t).map (cutB b)) = _
    rw [k1, k2]; rfl
  have hrw : ∀ t e k ty xs pins, lkB s.bx t = some (.rw e k ty xs pins) → (cutP s p).b t = p.b t := fun t e k ty xs pins k1 => by
    show (match lkB s.bx t with | none => none | some b => (p.b t).map (cutB b)) = _
    rw [k1, (h.bx t _ k1).1]; rfl
  have hreg : ∀ t q, RegAt ρ p.b t q → RegAt ρ (cutP s p).b t q := fun t q k => by
    cases hl : lkB s.bx t with
    | none => exact k.less (.inl (by show (match lkB s.bx t with | none => none | some b => (p.b t).map (cutB b)) = _; rw [hl]))
    | some b =>
      have hc : (cutP s p).b t = (p.b t).map (cutB b) := by show (match lkB s.bx t with | none => none | some b => (p.b t).map (cutB b)) = _; rw [hl]
      cases b with
      | st ty cs =>
        refine k.mono (fun e => by rw [hc, e]; rfl) (fun ty' qs e => ⟨⟨ty', _, by rw [hc, e]; rfl⟩, rfl⟩) (fun e k' es he => ⟨e, es, by rw [hc, he]; rfl, Nat.le_refl _, fun _ => rfl⟩)
      | rw e k' ty xs pins => exact k.same (hrw t e k' ty xs pins hl) rfl
  have hb : ∀ t Bx, (cutP s p).b t = some Bx → ∃ b B0, lkB s.bx t = some b ∧ p.b t = some B0 ∧ Bx = cutB b B0 := fun t Bx k => by
    have k : (match lkB s.bx t with | none => none | some b => (p.b t).map (cutB b)) = some Bx := k
    cases hl : lkB s.bx t with
    | none => rw [hl] at k; cases k
    | some b =>
      rw [hl] at k
      rw [Option.map_eq_some_iff] at k
      obtain ⟨B0, k1, k2⟩ := k
      exact ⟨b, B0, rfl, k1, k2.symm⟩
  refine ⟨h1, h2, ρ, F, ⟨hi.ext, hi.f0, hi.flt, hi.fnew, fun t Bx k => ?_, fun t t' Bx Bx' g k1 k2 => ?_, fun t q hq => ⟨(hi.reg t q hq).1, hreg t q (hi.reg t q hq).2⟩⟩, fun i => prep_cut hst hrw (h.sl i) (hev i)⟩
  · obtain ⟨b, B0, k1, k2, rfl⟩ := hb t Bx k
    have hbx := hi.box t B0 k2
    have hs := h.bx t b k1
    cases b with
    | st ty cs =>
      obtain ⟨qs, k3, k4⟩ := hs
      rw [k2] at k3
      injection k3 with k3
      subst k3
      cases hbx with
      | st _ _ g xs hρ hg hF hh hl h1x hr =>
        refine .st ty _ g xs hρ hg hF hh (by rw [cutVs_len cs qs k4.len]; exact hl) h1x (fun j x r m1 m2 => ?_)
        obtain ⟨c, q, m3, m4, rfl⟩ := cutVs_get cs qs j r m2
        exact prep_cut hst hrw (k4.rep j c q m3 m4) (hr j x q m1 m4)
    | rw e k ty xs pins =>
      obtain ⟨k3, _⟩ := hs
      rw [k2] at k3
      injection k3 with k3
      subst k3
      cases hbx with
      | rw _ _ _ xs' hk0 ho hF hk hl hr hown => exact .rw _ _ _ xs' hk0 ho hF hk hl hr hown
      | gn _ _ _ hρ => exact .gn _ _ _ hρ
  · obtain ⟨_, B1, _, m1, _⟩ := hb t Bx k1
    obtain ⟨_, B2, _, m2, _⟩ := hb t' Bx' k2
    exact hi.dist t t' B1 B2 g m1 m2

/-! ### A row becomes data -/
def frzP (t : Nat) (es : List (List D)) (p : PS) : PS := ⟨fun i => frz t es (p.t i), fun i => if i = t then none else (p.b i).map (frzBox t es)⟩
theorem le_frz {p : PS} (t : Nat) {e k : Nat} {es : List (List D)} (hb0 : p.b t = some (.rw e k es)) : Le p (frzP t es p) := by
  intro n w0 F0 a w ⟨h1, h2, ρ, F, hi, hev⟩
  have hb' : ∀ i, (frzP t es p).b i = if i = t then none else (p.b i).map (frzBox t es) := fun i => rfl
  have hbt := (hi.box t _ hb0)
  refine ⟨h1, h2, ρ, fun g => F g ∨ blk (ρ t) = some g, ⟨hi.ext, fun g hg => .inl (hi.f0 g hg), ?_, ?_, fun t' B h => ?_, fun t1 t2 B1 B2 g k1 k2 hne => ?_, hi.reg_frz hb'⟩, fun i => (hev i).frz hi hb0 hb'⟩
  · rintro g (hg | hg)
    · exact hi.flt g hg
    · exact (hbt.lt hg).1
  · rintro g (hg | hg)
    · exact hi.fnew g hg
    · exact .inr (hbt.lt hg).2.1
  · rw [hb'] at h
    split at h
    · cases h
    · rename_i ht
      rw [Option.map_eq_some_iff] at h
      obtain ⟨B0, hB0, rfl⟩ := h
      have hnF : ∀ g, blk (ρ t') = some g → ¬ (F g ∨ blk (ρ t) = some g) := by
        rintro g hg (h | h)
        · exact ((hi.box t' B0 hB0).lt hg).2.2 h
        · exact hi.dist t' t B0 _ g hB0 hb0 ht hg h
      cases hi.box t' B0 hB0 with
      | st ty cs g xs hρ hg hF hh hl h1 hr =>
        refine .st ty _ g xs hρ hg (hnF g (by rw [hρ]; rfl)) hh (by rw [frzs_len]; exact hl) h1 (fun j x c k1 k2 => ?_)
        obtain ⟨d, h4, rfl⟩ := frzs_get t es cs j c k2
        exact (hr j x d k1 h4).frz hi hb0 hb'
      | rw e' k' es' xs hk0 ho hF hk hl hr hown => exact .rw e' k' es' xs hk0 ho hnF hk hl (fun j x d k1 k2 => (hr j x d k1 k2).mono (fun g h => .inl h) (fun _ _ => rfl)) hown
      | gn e' k' es' hρ => exact .gn e' k' es' hρ
  · rw [hb'] at k1 k2
    split at k1
    · cases k1
    · split at k2
      · cases k2
      · rw [Option.map_eq_some_iff] at k1 k2
        obtain ⟨B1', k1, _⟩ := k1
        obtain ⟨B2', k2, _⟩ := k2
        exact hi.dist t1 t2 B1' B2' g k1 k2 hne
def frzSB (t : Nat) (c : SD) : SBox → SBox
  | .st ty cs => .st ty (frzVs t c cs)
  | b => b
theorem lkB_frz (t : Nat) (c : SD) : ∀ (l : List (Nat × Option SBox)) (i : Nat), lkB (frzBx t c l) i = (lkB l i).map (frzSB t c)
  | [], _ => rfl
  | (j, none) :: l, i => by simp only [frzBx, lkB_cons, lkB_frz t c l i]; split <;> rfl
  | (j, some (.st ty cs)) :: l, i => by simp only [frzBx, lkB_cons, lkB_frz t c l i]; split <;> rfl
  | (j, some (.rw e k ty xs pins)) :: l, i => by simp only [frzBx, lkB_cons, lkB_frz t c l i]; split <;> rfl
theorem lkV_frz (t : Nat) (c : SD) : ∀ (l : List (Nat × SV)) (i : Nat), lkV (frzSl t c l) i = frzV t c (lkV l i)
  | [], _ => rfl
  | (j, v) :: l, i => by simp only [frzSl, lkV_cons, lkV_frz t c l i]; split <;> rfl
theorem frzVs_get (t : Nat) (c : SD) : ∀ (cs : List SV) (j : Nat), (frzVs t c cs)[j]? = (cs[j]?).map (frzV t c)
  | [], j => by simp [frzVs]
  | v :: cs, 0 => by simp [frzVs]
  | v :: cs, j + 1 => by simpa [frzVs] using frzVs_get t c cs j
theorem frzVs_len (t : Nat) (c : SD) : ∀ cs : List SV, (frzVs t c cs).length = cs.length
  | [] => rfl
  | v :: cs => by simp [frzVs, frzVs_len t c cs]
theorem frzs_get' (t : Nat) (es : List (List D)) (cs : List PV) (j : Nat) (r : PV) (h : (frzs t es cs)[j]? = some r) : ∃ q, cs[j]? = some q ∧ r = frz t es q := frzs_get t es cs j r h
theorem VSim.frz {B B' : List (Nat × Option SBox)} {t e k : Nat} {ty : Ty} {xs : List ty.den} {pins : List (Nat × Pin)} (ht : lkB B t = some (.rw e k ty xs pins)) (hB : BLeX t B B') {v : SV} {q : PV} (h : VSim B v q) : VSim B' (frzV t (.sl ty xs) v) (Go.Proofs.Ytjeeclabnimbbaa.frz t (xs.map (encE ty)) q) := by
  induction h with
  | junk q => exact .junk _
  | d c y h => exact .d c y h
  | ag cs qs hl hr ih =>
    refine .ag _ _ (by rw [frzVs_len, frzs_len]; exact hl) (fun j c r h1 h2 => ?_)
    rw [frzVs_get, Option.map_eq_some_iff] at h1
    obtain ⟨c', h3, rfl⟩ := h1
    obtain ⟨q', h4, rfl⟩ := frzs_get _ _ qs j r h2
    exact ih j c' q' h3 h4
  | tup cs qs hl hr ih =>
    refine .tup _ _ (by rw [frzVs_len, frzs_len]; exact hl) (fun j c r h1 h2 => ?_)
    rw [frzVs_get, Option.map_eq_some_iff] at h1
    obtain ⟨c', h3, rfl⟩ := h1
    obtain ⟨q', h4, rfl⟩ := frzs_get _ _ qs j r h2
    exact ih j c' q' h3 h4
  | ptr t' o ty2 cs hb => obtain ⟨ty', cs', h1⟩ := hB.st t' ty2 cs hb; exact .ptr t' o ty' cs' h1
  | row t' n e2 k2 ty2 xs2 pins2 hb hn =>
    simp only [frzV, Go.Proofs.Ytjeeclabnimbbaa.frz, beq_spec]
    by_cases h : t' = t
    · subst h
      rw [ht] at hb
      injection hb with hb
      injection hb with e1 e2 e3 e4 e5
      subst e3
      have e4 := eq_of_heq e4
      subst e4
      simp only [decide_true, if_true, List.length_map, hn]
      exact v_sl ty xs
    · simp only [h, decide_false, if_false]
      exact .row t' n e2 k2 ty2 xs2 pins2 (hB.rw t' h _ _ _ _ _ hb) hn
  | re t' p o n i e2 k2 ty2 xs2 pins2 pin hb hn hp hi =>
    simp only [frzV, Go.Proofs.Ytjeeclabnimbbaa.frz, beq_spec]
    by_cases h : t' = t
    · simp only [h, decide_true]; exact .junk _
    · simp only [h, decide_false, if_false]
      exact .re t' p o n i e2 k2 ty2 xs2 pins2 pin (hB.rw t' h _ _ _ _ _ hb) hn hp hi
  | vw t' lo hi n e2 k2 ty2 xs2 pins2 hb hn=>
    simp only [frzV, Go.Proofs.Ytjeeclabnimbbaa.frz, beq_spec]
    by_cases h : t' = t
    · simp only [h, decide_true]; exact .junk _
    · simp only [h, decide_false, if_false]
      exact .vw t' lo hi n e2 k2 ty2 xs2 pins2 (hB.rw t' h _ _ _ _ _ hb) hn
  | fe cs ds h hn => exact .fe cs ds h hn
  | fn f ps qs ps' qs' hl hr hl2 hr2 ih ih2 =>
    refine .fn f _ _ _ _ (by rw [frzVs_len, frzs_len]; exact hl) (fun j c r h1 h2 => ?_) (by rw [frzVs_len, frzs_len]; exact hl2) (fun j c r h1 h2 => ?_)
    · rw [frzVs_get, Option.map_eq_some_iff] at h1
      obtain ⟨c', h3, rfl⟩ := h1
      obtain ⟨q', h4, rfl⟩ := frzs_get _ _ ps' j r h2
      exact ih j c' q' h3 h4
    · rw [frzVs_get, Option.map_eq_some_iff] at h1
      obtain ⟨c', h3, rfl⟩ := h1
      obtain ⟨q', h4, rfl⟩ := frzs_get _ _ qs' j r h2
      exact ih2 j c' q' h3 h4
mutual
theorem frz_safe {pr : List Nat} {t : Nat} {c : SD} (ht : memN pr t = false) : ∀ v : SV, safeK pr v = true → frzV t c v = v
  | .junk, _ => rfl
  | .d _, _ => rfl
  | .fe _, _ => rfl
  | .ptr _ _, _ => rfl
  | .row t', h => by
    have := not_of_mem ht (show memN pr t' = true from h)
    simp only [frzV, beq_spec, this, decide_false]
  | .re _ _ _, h => by cases h
  | .vw _ _ _, h => by cases h
  | .ag cs, h => by simp only [frzV]; rw [frzs_safe ht cs h]
  | .tup cs, h => by simp only [frzV]; rw [frzs_safe ht cs h]
  | .fn f ps qs, h => by
    have h : (safesK pr ps && safesK pr qs) = true := h
    rw [Bool.and_eq_true] at h
    simp only [frzV]; rw [frzs_safe ht ps h.1, frzs_safe ht qs h.2]
theorem frzs_safe {pr : List Nat} {t : Nat} {c : SD} (ht : memN pr t = false) : ∀ cs : List SV, safesK pr cs = true → frzVs t c cs = cs
  | [], _ => rfl
  | v :: cs, h => by
    simp only [safesK, Bool.and_eq_true] at h
    simp only [frzVs]
    rw [frz_safe ht v h.1, frzs_safe ht cs h.2]
end
mutual
theorem frz_norow {t : Nat} {c : SD} : ∀ v : SV, norow v = true → frzV t c v = v
  | .junk, _ => rfl
  | .d _, _ => rfl
  | .fe _, _ => rfl
  | .ptr _ _, _ => rfl
  | .row _, h => by cases h
  | .re _ _ _, h => by cases h
  | .vw _ _ _, h => by cases h
  | .ag cs, h => by simp only [frzV]; rw [frzs_norow cs h]
  | .tup cs, h => by simp only [frzV]; rw [frzs_norow cs h]
  | .fn f ps qs, h => by
    have h : (match norows ps with | true => norows qs | false => false) = true := h
    split at h
    · rename_i h1; simp only [frzV]; rw [frzs_norow ps h1, frzs_norow qs h]
    · cases h
theorem frzs_norow {t : Nat} {c : SD} : ∀ cs : List SV, norows cs = true → frzVs t c cs = cs
  | [], _ => rfl
  | v :: cs, h => by
    simp only [norows] at h
    split at h
    · rename_i h1
      simp only [frzVs]
      rw [frz_norow v h1, frzs_norow cs h]
    · cases h
end
theorem frzX_ok {sc : List Nat} {s s' : SS} {p : PS} {t : Nat} (hpr : PrOk s) (hs : SimW s p) (h : frzX t s = some s') : ∃ p', Le p p' ∧ SimW s' p' ∧ ∀ W, Keep sc W s s' := by
  unfold frzX at h
  split at h
  · rename_i e k ty xs pins hb
    split at h
    · rename_i ht
      injection h with h
      subst h
      have hpb : p.b t = some (.rw e k (xs.map (encE ty))) := (hs.bx t _ hb).1
      have hX : BLeX t s.bx ((t, none) :: frzBx t (.sl ty xs) s.bx) := by
        refine ⟨fun t' ht' e2 k2 ty2 xs2 pins2 h => ?_, fun t' ty2 cs2 h => ?_⟩
        · rw [lkB_cons, if_neg ht', lkB_frz, h]; rfl
        · have : ¬ t' = t := fun e => by rw [e, hb] at h; cases h
          rw [lkB_cons, if_neg this, lkB_frz, h]
          exact ⟨_, _, rfl⟩
      refine ⟨_, le_frz t hpb, ⟨fun i => ?_, fun t' b h => ?_⟩, fun W => ⟨rfl, rfl, fun t' ht' => ?_, fun i _ hsf => ?_, fun t' _ ty2 cs2 h => ?_⟩⟩
      · show VSim _ (lkV (frzSl t (.sl ty xs) s.sl) i) (frz t (xs.map (encE ty)) (p.t i))
        rw [lkV_frz]
        exact (hs.sl i).frz hb hX
      · have h : lkB ((t, none) :: frzBx t (.sl ty xs) s.bx) t' = some b := h
        rw [lkB_cons] at h
        split at h
        · cases h
        · rename_i hne
          rw [lkB_frz, Option.map_eq_some_iff] at h
          obtain ⟨b0, h1, rfl⟩ := h
          have h2 := hs.bx t' b0 h1
          show BSim _ true (some (frzSB t (.sl ty xs) b0)) (if t' = t then none else (p.b t').map (frzBox t (xs.map (encE ty))))
          rw [if_neg hne]
          cases b0 with
          | st ty2 cs =>
            obtain ⟨qs, h3, h4⟩ := h2
            rw [h3]
            refine ⟨_, rfl, by rw [frzVs_len, frzs_len]; exact h4.len, fun j c r k1 k2 => ?_⟩
            rw [frzVs_get, Option.map_eq_some_iff] at k1
            obtain ⟨c', k3, rfl⟩ := k1
            obtain ⟨q', k4, rfl⟩ := frzs_get _ _ qs j r k2
            exact (h4.rep j c' q' k3 k4).frz hb hX
          | rw e2 k2 ty2 xs2 pins2 =>
            obtain ⟨h3, h4⟩ := h2
            rw [h3]
            exact ⟨rfl, h4⟩
      · show SameB _ (lkB ((t, none) :: frzBx t (.sl ty xs) s.bx) t')
        rw [lkB_cons, if_neg (fun e => by rw [e, ht] at ht'; cases ht'), lkB_frz]
        obtain ⟨b', h1, h2⟩ := hpr t' ht'
        rw [h1]
        cases b' with
        | st ty2 cs => simp only [Option.map_some, frzSB]; rw [frzs_norow cs h2]; rfl
        | rw e2 k2 ty2 xs2 pins2 => exact ⟨pins2, rfl⟩
      · show lkV (frzSl t (.sl ty xs) s.sl) i = _
        rw [lkV_frz]
        exact frz_safe ht _ hsf
      · show ∃ cs', lkB ((t, none) :: frzBx t (.sl ty xs) s.bx) t' = _ ∧ _
        rw [lkB_cons, if_neg (fun e => by rw [e, hb] at h; cases h), lkB_frz, h]
        exact ⟨_, rfl, frzVs_len _ _ cs2⟩
    · injection h with h
      subst h
      exact ⟨p, .refl p, hs, fun W => .refl W s⟩
  · injection h with h
    subst h
    exact ⟨p, .refl p, hs, fun W => .refl W s⟩
theorem frzX_sim {sc : List Nat} {s s' : SS} {p : PS} {t : Nat} (hpr : PrOk s) (hs : Sim s p) (h : frzX t s = some s') : ∃ p', Le p p' ∧ Sim s' p' ∧ (∀ W, Keep sc W s s') ∧ s'.oc = s.oc := by
  unfold frzX at h
  split at h
  · rename_i e k ty xs pins hb
    split at h
    · rename_i ht
      have h0 : frzX t s = some s' := by unfold frzX; rw [hb]; simp only; rw [ht]; exact h
      injection h with h
      have hpb : p.b t = some (.rw e k (xs.map (encE ty))) := by have := hs.bx t; rw [hb] at this; exact this.1
      obtain ⟨p2, k1, k2, k3⟩ := frzX_ok (sc := sc) hpr hs.w h0
      have hX : BLeX t s.bx ((t, none) :: frzBx t (.sl ty xs) s.bx) := by
        refine ⟨fun t' ht' e2 k2 ty2 xs2 pins2 h => ?_, fun t' ty2 cs2 h => ?_⟩
        · rw [lkB_cons, if_neg ht', lkB_frz, h]; rfl
        · have : ¬ t' = t := fun e => by rw [e, hb] at h; cases h
          rw [lkB_cons, if_neg this, lkB_frz, h]
          exact ⟨_, _, rfl⟩
      subst h
      refine ⟨_, le_frz t hpb, ⟨fun i => ?_, fun t' => ?_⟩, k3, rfl⟩
      · show VSim _ (lkV (frzSl t (.sl ty xs) s.sl) i) (frz t (xs.map (encE ty)) (p.t i))
        rw [lkV_frz]
        exact (hs.sl i).frz hb hX
      · show BSim _ (memN s.oc t') (lkB ((t, none) :: frzBx t (.sl ty xs) s.bx) t') (if t' = t then none else (p.b t').map (frzBox t (xs.map (encE ty))))
        rw [lkB_cons]
        by_cases hne : t' = t
        · rw [if_pos hne, if_pos hne]; exact fun _ => rfl
        · rw [if_neg hne, if_neg hne, lkB_frz]
          have h2 := hs.bx t'
          cases hl : lkB s.bx t' with
          | none => rw [hl] at h2; exact fun ho => by rw [h2 ho]; rfl
          | some b0 =>
            rw [hl] at h2
            cases b0 with
            | st ty2 cs =>
              obtain ⟨qs, h3, h4⟩ := h2
              rw [h3]
              refine ⟨_, rfl, by rw [frzVs_len, frzs_len]; exact h4.len, fun j c r k1 k2 => ?_⟩
              rw [frzVs_get, Option.map_eq_some_iff] at k1
              obtain ⟨c', k3, rfl⟩ := k1
              obtain ⟨q', k4, rfl⟩ := frzs_get _ _ qs j r k2
              exact (h4.rep j c' q' k3 k4).frz hb hX
            | rw e2 k2 ty2 xs2 pins2 =>
              obtain ⟨h3, h4⟩ := h2
              rw [h3]
              exact ⟨rfl, h4⟩
    · injection h with h
      subst h
      exact ⟨p, .refl p, hs, fun W => .refl W s, rfl⟩
  · injection h with h
    subst h
    exact ⟨p, .refl p, hs, fun W => .refl W s, rfl⟩
theorem frzAll_sim {sc : List Nat} : ∀ {l : List Nat} {s s' : SS} {p : PS}, PrOk s → Sim s p → frzAll l s = some s' → ∃ p', Le p p' ∧ Sim s' p' ∧ (∀ W, Keep sc W s s') ∧ s'.oc = s.oc
  | [], s, s', p, _, hs, h => by injection h with h; subst h; exact ⟨p, .refl p, hs, fun W => .refl W s, rfl⟩
  | t :: l, s, s', p, hpr, hs, h => by
    simp only [frzAll] at h
    split at h
    · rename_i s1 h1
      obtain ⟨p1, k1, k2, k3, k4⟩ := frzX_sim (sc := sc) hpr hs h1
      obtain ⟨p2, m1, m2, m3, m4⟩ := frzAll_sim (sc := sc) ((k3 []).prOk hpr) k2 h
      exact ⟨p2, k1.trans m1, m2, fun W => (k3 W).trans (m3 W), m4.trans k4⟩
    · cases h
theorem frzAll_ok {sc : List Nat} : ∀ {l : List Nat} {s s' : SS} {p : PS}, PrOk s → SimW s p → frzAll l s = some s' → ∃ p', Le p p' ∧ SimW s' p' ∧ ∀ W, Keep sc W s s'
  | [], s, s', p, _, hs, h => by injection h with h; subst h; exact ⟨p, .refl p, hs, fun W => .refl W s⟩
  | t :: l, s, s', p, hpr, hs, h => by
    simp only [frzAll] at h
    split at h
    · rename_i s1 h1
      obtain ⟨p1, k1, k2, k3⟩ := frzX_ok hpr hs h1
      obtain ⟨p2, k4, k5, k6⟩ := frzAll_ok ((k3 []).prOk hpr) k2 h
      exact ⟨p2, k1.trans k4, k5, fun W => (k3 W).trans (k6 W)⟩
    · cases h
/-! ### A variable that nobody writes any more -/
mutual
def fzp (t : Nat) (ds : List D) : PV → PV
  | .ptr t' o => if t' = t then .fe (ds.drop o) else .ptr t' o
  | .ag cs => .ag (fzps t ds cs)
  | .tup cs => .tup (fzps t ds cs)
  | .fn f ps qs => .fn f (fzps t ds ps) (fzps t ds qs)
  | p => p
def fzps (t : Nat) (ds : List D) : List PV → List PV
  | [] => []
  | c :: cs => fzp t ds c :: fzps t ds cs
end
def fzpBox (t : Nat) (ds : List D) : Box → Box
  | .st ty cs => .st ty (fzps t ds cs)
  | B => B
def fzpP (t : Nat) (ds : List D) (p : PS) : PS := ⟨fun i => fzp t ds (p.t i), fun i => if i = t then none else (p.b i).map (fzpBox t ds)⟩
theorem fzps_len (t : Nat) (ds : List D) : ∀ cs : List PV, (fzps t ds cs).length = cs.length
  | [] => rfl
  | c :: cs => by simp [fzps, fzps_len t ds cs]
theorem fzps_get (t : Nat) (ds : List D) : ∀ (cs : List PV) (j : Nat) (c : PV), (fzps t ds cs)[j]? = some c → ∃ d, cs[j]? = some d ∧ c = fzp t ds d
  | [], j, c, h => by simp [fzps] at h
  | d :: cs, j, c, h => by
    simp only [fzps] at h
    cases j with
    | zero => simp at h; exact ⟨d, rfl, h.symm⟩
    | succ j => simp at h; simpa using fzps_get t ds cs j c h
section
variable {ρ : Nat → Value} {b b' : Nat → Option Box} {w : World} {F F0 : Nat → Prop} {w0 : WM}
theorem PRep.fzp {x : Value} {p : PV} {t : Nat} {ty : TypeId} {cs : List PV} {ds : List D} (hi : Inv w0 F0 ρ b w F) (hb : b t = some (.st ty cs)) (hl : ds.length = cs.length) (hc : ∀ (j : Nat) d, ds[j]? = some d → ∃ y, cs[j]? = some (.d y) ∧ nrm y = d) (hb' : ∀ i, b' i = if i = t then none else (b i).map (fzpBox t ds)) (h : PRep ρ b w F x p) :
    PRep ρ b' w (fun g => F g ∨ blk (ρ t) = some g) x (Go.Proofs.Ytjeeclabnimbbaa.fzp t ds p) := by
  have hF : ∀ g, F g → (F g ∨ blk (ρ t) = some g) := fun g h => .inl h
  induction h with
  | junk x => exact .junk x
  | d x d h => exact .d x d (h.mono hF (fun _ _ => rfl))
  | ag xs cs hl h1 hr ih =>
    refine .ag xs _ (by rw [fzps_len]; exact hl) h1 (fun j x c h2 h3 => ?_)
    obtain ⟨d, h4, rfl⟩ := fzps_get t ds cs j c h3
    exact ih j x d h2 h4
  | tup xs cs hl hr ih =>
    refine .tup xs _ (by rw [fzps_len]; exact hl) (fun j x c h2 h3 => ?_)
    obtain ⟨d, h4, rfl⟩ := fzps_get t ds cs j c h3
    exact ih j x d h2 h4
  | fn f xs ys ps qs hl hr hl2 hr2 ih ih2 =>
    refine .fn f xs ys _ _ (by rw [fzps_len]; exact hl) (fun j x c h2 h3 => ?_) (by rw [fzps_len]; exact hl2) (fun j x c h2 h3 => ?_)
    · obtain ⟨d, h4, rfl⟩ := fzps_get t ds ps j c h3
      exact ih j x d h2 h4
    · obtain ⟨d, h4, rfl⟩ := fzps_get t ds qs j c h3
      exact ih2 j x d h2 h4
  | row t' m A cc e' k' es' hb2 hn hcc hA hρ =>
    have : t' ≠ t := fun e => by rw [e, hb] at hb2; cases hb2
    exact .row t' m A cc e' k' es' (by rw [hb', if_neg this, hb2]; rfl) hn hcc hA hρ
  | re t' m i o a e' k' es' hb2 hn hi' hρ =>
    have : t' ≠ t := fun e => by rw [e, hb] at hb2; cases hb2
    exact .re t' m i o a e' k' es' (by rw [hb', if_neg this, hb2]; rfl) hn hi' hρ
  | vw t' m lo hi' A mm cc e' k' es' hb2 hn hl hh hm hρ=>
    have : t' ≠ t := fun e => by rw [e, hb] at hb2; cases hb2
    exact .vw t' m lo hi' A mm cc e' k' es' (by rw [hb', if_neg this, hb2]; rfl) hn hl hh hm hρ
  | fe a cs us hF' hcell hrep => exact .fe a cs us (.inl hF') hcell (fun j d h => (hrep j d h).mono hF (fun _ _ => rfl))
  | ptr t' off g ty' cs' hb2 hρ =>
    simp only [Go.Proofs.Ytjeeclabnimbbaa.fzp]
    by_cases ht : t' = t
    · subst ht
      rw [if_pos rfl]
      cases hi.box t' _ hb with
      | st _ _ g' xs hρ' hg hFg hh hlx h1 hr =>
        rw [hρ] at hρ'
        injection hρ' with e
        injection e with e
        injection e with e
        subst e
        have key : ∀ (j : Nat) d, (ds.drop off)[j]? = some d → ∃ u, w.cell? ⟨g, off + j, none⟩ = some u ∧ DRep w F u d := fun j d hj => by
          rw [List.getElem?_drop] at hj
          obtain ⟨y, k1, k2⟩ := hc _ d hj
          have hlt : off + j < xs.size := by rw [hlx, ← hl]; exact (List.getElem?_eq_some_iff.1 hj).1
          have k3 := hr (off + j) xs[off + j] _ (by simp [hlt]) k1
          refine ⟨xs[off + j], by rw [cell_of_row w g (off + j) xs ty (0, 0) hh]; simp [hlt], ?_⟩
          rw [← k2]
          exact k3.dd.nrm
        refine .fe _ _ (fun j => (w.cell? ⟨g, off + j, none⟩).getD undef) (.inr (by rw [hρ]; rfl)) (fun j d hj => ?_) (fun j d hj => ?_)
        · obtain ⟨u, k1, _⟩ := key j d hj
          rw [add_at, k1]; rfl
        · obtain ⟨u, k1, k2⟩ := key j d hj
          rw [k1]
          exact k2.mono hF (fun _ _ => rfl)
    · rw [if_neg ht]
      exact .ptr t' off g ty' _ (by rw [hb', if_neg ht, hb2]; rfl) hρ
end
theorem Inv.reg_fzp {ρ : Nat → Value} {b b' : Nat → Option Box} {w : World} {w0 : WM} {F F0 : Nat → Prop} {t : Nat} {ds : List D} (hi : Inv w0 F0 ρ b w F) (hb' : ∀ i, b' i = if i = t then none else (b i).map (fzpBox t ds)) : ∀ i q, w0.R i = some q → 1000000 ≤ i ∧ RegAt ρ b' i q := by
  intro i q h
  obtain ⟨h1, h2⟩ := hi.reg i q h
  refine ⟨h1, ?_⟩
  by_cases hit : i = t
  · exact h2.less (.inl (by rw [hb', if_pos hit])) 
  · refine h2.mono (fun e => by rw [hb', if_neg hit, e]; rfl) (fun ty cs e => ⟨⟨ty, _, by rw [hb', if_neg hit, e]; rfl⟩, rfl⟩) (fun e k es' he => ⟨e, es', by rw [hb', if_neg hit, he]; rfl, Nat.le_refl _, fun _ => rfl⟩)
theorem le_fzp {p : PS} (t : Nat) {ty : TypeId} {cs : List PV} {ds : List D} (hb0 : p.b t = some (.st ty cs)) (hl : ds.length = cs.length) (hc : ∀ (j : Nat) d, ds[j]? = some d → ∃ y, cs[j]? = some (.d y) ∧ nrm y = d) : Le p (fzpP t ds p) := by
  intro n w0 F0 a w ⟨h1, h2, ρ, F, hi, hev⟩
  have hb' : ∀ i, (fzpP t ds p).b i = if i = t then none else (p.b i).map (fzpBox t ds) := fun i => rfl
  have hbt := (hi.box t _ hb0)
  refine ⟨h1, h2, ρ, fun g => F g ∨ blk (ρ t) = some g, ⟨hi.ext, fun g hg => .inl (hi.f0 g hg), ?_, ?_, fun t' B h => ?_, fun t1 t2 B1 B2 g k1 k2 hne => ?_, hi.reg_fzp hb'⟩, fun i => (hev i).fzp hi hb0 hl hc hb'⟩
  · rintro g (hg | hg)
    · exact hi.flt g hg
    · exact (hbt.lt hg).1
  · rintro g (hg | hg)
    · exact hi.fnew g hg
    · exact .inr (hbt.lt hg).2.1
  · rw [hb'] at h
    split at h
    · cases h
    · rename_i ht
      rw [Option.map_eq_some_iff] at h
      obtain ⟨B0, hB0, rfl⟩ := h
      have hnF : ∀ g, blk (ρ t') = some g → ¬ (F g ∨ blk (ρ t) = some g) := by
        rintro g hg (h | h)
        · exact ((hi.box t' B0 hB0).lt hg).2.2 h
        · exact hi.dist t' t B0 _ g hB0 hb0 ht hg h
      cases hi.box t' B0 hB0 with
      | st ty cs g xs hρ hg hF hh hl2 h1 hr =>
        refine .st ty _ g xs hρ hg (hnF g (by rw [hρ]; rfl)) hh (by rw [fzps_len]; exact hl2) h1 (fun j x c k1 k2 => ?_)
        obtain ⟨d, h4, rfl⟩ := fzps_get t ds cs j c k2
        exact (hr j x d k1 h4).fzp hi hb0 hl hc hb'
      | rw e' k' es' xs hk0 ho hF hk hl hr hown => exact .rw e' k' es' xs hk0 ho hnF hk hl (fun j x d k1 k2 => (hr j x d k1 k2).mono (fun g h => .inl h) (fun _ _ => rfl)) hown
      | gn e' k' es' hρ => exact .gn e' k' es' hρ
  · rw [hb'] at k1 k2
    split at k1
    · cases k1
    · split at k2
      · cases k2
      · rw [Option.map_eq_some_iff] at k1 k2
        obtain ⟨B1', k1, _⟩ := k1
        obtain ⟨B2', k2, _⟩ := k2
        exact hi.dist t1 t2 B1' B2' g k1 k2 hne
def frpSB (t : Nat) (c : List SD) : SBox → SBox
  | .st ty cs => .st ty (frpVs t c cs)
  | b => b
theorem lkB_frp (t : Nat) (c : List SD) : ∀ (l : List (Nat × Option SBox)) (i : Nat), lkB (frpBx t c l) i = (lkB l i).map (frpSB t c)
  | [], _ => rfl
  | (j, none) :: l, i => by simp only [frpBx, lkB_cons, lkB_frp t c l i]; split <;> rfl
  | (j, some (.st ty cs)) :: l, i => by simp only [frpBx, lkB_cons, lkB_frp t c l i]; split <;> rfl
  | (j, some (.rw e k ty xs pins)) :: l, i => by simp only [frpBx, lkB_cons, lkB_frp t c l i]; split <;> rfl
theorem lkV_frp (t : Nat) (c : List SD) : ∀ (l : List (Nat × SV)) (i : Nat), lkV (frpSl t c l) i = frpV t c (lkV l i)
  | [], _ => rfl
  | (j, v) :: l, i => by simp only [frpSl, lkV_cons, lkV_frp t c l i]; split <;> rfl
theorem frpVs_get (t : Nat) (c : List SD) : ∀ (cs : List SV) (j : Nat), (frpVs t c cs)[j]? = (cs[j]?).map (frpV t c)
  | [], j => by simp [frpVs]
  | v :: cs, 0 => by simp [frpVs]
  | v :: cs, j + 1 => by simpa [frpVs] using frpVs_get t c cs j
theorem frpVs_len (t : Nat) (c : List SD) : ∀ cs : List SV, (frpVs t c cs).length = cs.length
  | [] => rfl
  | v :: cs => by simp [frpVs, frpVs_len t c cs]
/-- All boxes but t are there. -/
structure BLeP (t : Nat) (B B' : List (Nat × Option SBox)) : Prop where
  rw : ∀ t' e k ty xs pins, lkB B t' = some (.rw e k ty xs pins) → lkB B' t' = some (.rw e k ty xs pins)
  st : ∀ t', t' ≠ t → ∀ ty cs, lkB B t' = some (.st ty cs) → ∃ ty' cs', lkB B' t' = some (.st ty' cs')
theorem VSim.frp {B B' : List (Nat × Option SBox)} {t : Nat} {ds : List SD} (hn : ∀ c ∈ ds, c ≠ .nl) (hB : BLeP t B B') {v : SV} {q : PV} (h : VSim B v q) : VSim B' (frpV t ds v) (fzp t (ds.map SD.toD) q) := by
  induction h with
  | junk q => exact .junk _
  | d c y h => exact .d c y h
  | ag cs qs hl hr ih =>
    refine .ag _ _ (by rw [frpVs_len, fzps_len]; exact hl) (fun j c r h1 h2 => ?_)
    rw [frpVs_get, Option.map_eq_some_iff] at h1
    obtain ⟨c', h3, rfl⟩ := h1
    obtain ⟨q', h4, rfl⟩ := fzps_get _ _ qs j r h2
    exact ih j c' q' h3 h4
  | tup cs qs hl hr ih =>
    refine .tup _ _ (by rw [frpVs_len, fzps_len]; exact hl) (fun j c r h1 h2 => ?_)
    rw [frpVs_get, Option.map_eq_some_iff] at h1
    obtain ⟨c', h3, rfl⟩ := h1
    obtain ⟨q', h4, rfl⟩ := fzps_get _ _ qs j r h2
    exact ih j c' q' h3 h4
  | fn f ps qs ps' qs' hl hr hl2 hr2 ih ih2 =>
    refine .fn f _ _ _ _ (by rw [frpVs_len, fzps_len]; exact hl) (fun j c r h1 h2 => ?_) (by rw [frpVs_len, fzps_len]; exact hl2) (fun j c r h1 h2 => ?_)
    · rw [frpVs_get, Option.map_eq_some_iff] at h1
      obtain ⟨c', h3, rfl⟩ := h1
      obtain ⟨q', h4, rfl⟩ := fzps_get _ _ ps' j r h2
      exact ih j c' q' h3 h4
    · rw [frpVs_get, Option.map_eq_some_iff] at h1
      obtain ⟨c', h3, rfl⟩ := h1
      obtain ⟨q', h4, rfl⟩ := fzps_get _ _ qs' j r h2
      exact ih2 j c' q' h3 h4
  | ptr t' o ty2 cs hb =>
    simp only [frpV, fzp, beq_spec]
    by_cases h : t' = t
    · simp only [h, decide_true, if_true]
      exact .fe _ _ (by rw [List.map_drop]) (fun c hc => hn c (List.mem_of_mem_drop hc))
    · simp only [h, decide_false, if_false]
      obtain ⟨ty', cs', h1⟩ := hB.st t' h ty2 cs hb
      exact .ptr t' o ty' cs' h1
  | row t' n e2 k2 ty2 xs2 pins2 hb hn => exact .row t' n e2 k2 ty2 xs2 pins2 (hB.rw t' _ _ _ _ _ hb) hn
  | re t' p o n i e2 k2 ty2 xs2 pins2 pin hb hn hp hi => exact .re t' p o n i e2 k2 ty2 xs2 pins2 pin (hB.rw t' _ _ _ _ _ hb) hn hp hi
  | vw t' lo hi n e2 k2 ty2 xs2 pins2 hb hn => exact .vw t' lo hi n e2 k2 ty2 xs2 pins2 (hB.rw t' _ _ _ _ _ hb) hn
  | fe cs ds h hn => exact .fe cs ds h hn
theorem list_same {cs cs' : List SV} (hl : cs'.length = cs.length) (h : ∀ (j : Nat) c, cs[j]? = some c → cs'[j]? = some c) : cs' = cs := by
  apply List.ext_getElem? 
  intro j
  cases hj : cs[j]? with
  | none => rw [List.getElem?_eq_none_iff] at hj ⊢; omega
  | some c => exact h j c hj
/-- What knows nothing of it stays. -/
theorem frp_new {B : List (Nat × Option SBox)} {t : Nat} {ds : List SD} (ht : lkB B t = none) {v : SV} {q : PV} (h : VSim B v q) : frpV t ds v = v := by
  induction h with
  | ag cs qs hl hr ih =>
    simp only [frpV]
    rw [list_same (frpVs_len _ _ _) fun j c hj => ?_]
    rw [frpVs_get, hj, Option.map_some, ih j c (qs[j]'(by rw [← hl]; exact (List.getElem?_eq_some_iff.1 hj).1)) hj (by simp)]
  | tup cs qs hl hr ih =>
    simp only [frpV]
    rw [list_same (frpVs_len _ _ _) fun j c hj => ?_]
    rw [frpVs_get, hj, Option.map_some, ih j c (qs[j]'(by rw [← hl]; exact (List.getElem?_eq_some_iff.1 hj).1)) hj (by simp)]
  | fn f ps qs ps' qs' hl hr hl2 hr2 ih ih2 =>
    simp only [frpV]
    rw [list_same (cs := ps) (frpVs_len _ _ _) fun j c hj => ?_, list_same (cs := qs) (frpVs_len _ _ _) fun j c hj => ?_]
    · rw [frpVs_get, hj, Option.map_some, ih2 j c (qs'[j]'(by rw [← hl2]; exact (List.getElem?_eq_some_iff.1 hj).1)) hj (by simp)]
    · rw [frpVs_get, hj, Option.map_some, ih j c (ps'[j]'(by rw [← hl]; exact (List.getElem?_eq_some_iff.1 hj).1)) hj (by simp)]
  | ptr t' o ty cs hb =>
    have : ¬ t' = t := fun e => by rw [e, ht] at hb; cases hb
    simp only [frpV, beq_spec, this, decide_false]
  | _ => rfl
mutual
theorem frp_norow {t : Nat} {c : List SD} : ∀ v : SV, norow v = true → frpV t c v = v
  | .junk, _ => rfl
  | .d _, _ => rfl
  | .fe _, _ => rfl
  | .ptr _ _, h => by cases h
  | .row _, h => by cases h
  | .re _ _ _, h => by cases h
  | .vw _ _ _, h => by cases h
  | .ag cs, h => by simp only [frpV]; rw [frps_norow cs h]
  | .tup cs, h => by simp only [frpV]; rw [frps_norow cs h]
  | .fn f ps qs, h => by
    have h : (match norows ps with | true => norows qs | false => false) = true := h
    split at h
    · rename_i h1; simp only [frpV]; rw [frps_norow ps h1, frps_norow qs h]
    · cases h
theorem frps_norow {t : Nat} {c : List SD} : ∀ cs : List SV, norows cs = true → frpVs t c cs = cs
  | [], _ => rfl
  | v :: cs, h => by
    simp only [norows] at h
    split at h
    · rename_i h1
      simp only [frpVs]
      rw [frp_norow v h1, frps_norow cs h]
    · cases h
end
theorem noNl_spec : ∀ {ds : List SD}, noNl ds = true → ∀ c ∈ ds, c ≠ .nl
  | [], _, c, h => by cases h
  | d :: ds, h, c, hc => by
    rcases List.mem_cons.1 hc with rfl | hc'
    · intro e; subst e; cases h
    · cases d with
      | nl => cases h
      | _ => exact noNl_spec (ds := ds) h c hc'
theorem rowDs_spec : ∀ {cs : List SV} {ds : List SD}, rowDs cs = some ds → cs.length = ds.length ∧ ∀ (j : Nat) d, ds[j]? = some d → cs[j]? = some (.d d)
  | [], ds, h => by injection h with h; subst h; exact ⟨rfl, fun j d hj => by simp at hj⟩
  | v :: cs, ds, h => by
    simp only [rowDs] at h
    split at h
    · rename_i c l hc hl
      injection h with h
      subst h
      obtain ⟨h1, h2⟩ := rowDs_spec hl
      refine ⟨by simp [h1], fun j d hj => ?_⟩
      cases j with
      | zero =>
        simp at hj
        subst hj
        cases v <;> simp [rowD] at hc
        subst hc
        rfl
      | succ j => simp at hj; simpa using h2 j d hj
    · cases h
/-- A variable is frozen that was not there at s0. -/
theorem fbX_ok {sc W : List Nat} {s0 s s' : SS} {p0 p : PS} {t : Nat} (hpr : PrOk s) (h0 : SimW s0 p0) (hnew : lkB s0.bx t = none) (hk : Keep sc W s0 s) (hs : SimW s p) (h : fbX sc t s = some s') : ∃ p', Le p p' ∧ SimW s' p' ∧ Keep sc W s0 s' ∧ PrOk s' := by
  unfold fbX at h
  split at h
  · rename_i ty cs hb
    split at h
    · rename_i ds hds
      obtain ⟨h1, h2⟩ := chk_some h
      injection h2 with h2
      subst h2
      rw [Bool.and_eq_true, Bool.and_eq_true] at h1
      obtain ⟨h1, h3, h4⟩ := h1
      have h3 : memN s.pr t = false := by simpa using h3
      have h4 : memN sc t = false := by simpa using h4
      have hnl := noNl_spec h1
      obtain ⟨hlen, hget⟩ := rowDs_spec hds
      obtain ⟨qs, hq, hqs⟩ := hs.bx t _ hb
      have hc : ∀ (j : Nat) d, (ds.map SD.toD)[j]? = some d → ∃ y, qs[j]? = some (.d y) ∧ nrm y = d := fun j d hj => by
        rw [List.getElem?_map, Option.map_eq_some_iff] at hj
        obtain ⟨c, hc, rfl⟩ := hj
        have hc2 := hget j c hc
        have hlt : j < qs.length := by rw [← hqs.len]; exact (List.getElem?_eq_some_iff.1 hc2).1
        have := hqs.rep j _ qs[j] hc2 (by simp)
        rw [List.getElem?_eq_getElem hlt]
        revert this
        generalize qs[j] = q
        intro this
        cases this with
        | d _ y hd => exact ⟨y, rfl, hd.nrm⟩
      have hl : (ds.map SD.toD).length = qs.length := by rw [List.length_map, ← hlen, hqs.len]
      have hX : BLeP t s.bx ((t, none) :: frpBx t ds s.bx) := by
        refine ⟨fun t' e k ty2 xs pins h => ?_, fun t' ht' ty2 cs2 h => ?_⟩
        · have : ¬ t' = t := fun e => by rw [e, hb] at h; cases h
          rw [lkB_cons, if_neg this, lkB_frp, h]; rfl
        · rw [lkB_cons, if_neg ht', lkB_frp, h]; exact ⟨_, _, rfl⟩
      have hkp : Keep sc W s0 ⟨frpSl t ds s.sl, (t, none) :: frpBx t ds s.bx, s.pr, s.ro, s.oc⟩ := by
        refine ⟨hk.pr, hk.ro, fun t' ht' => ?_, fun i hi hsf => ?_, fun t' ht' ty2 cs2 h => ?_⟩
        · have hpt : memN s.pr t' = true := by rw [hk.pr]; exact ht'
          refine (hk.bx t' ht').trans ?_
          show SameB _ (lkB ((t, none) :: frpBx t ds s.bx) t')
          rw [lkB_cons, if_neg (fun e => by rw [e, h3] at hpt; cases hpt), lkB_frp]
          obtain ⟨b', k1, k2⟩ := hpr t' hpt
          rw [k1]
          cases b' with
          | st ty2 cs => simp only [Option.map_some, frpSB]; rw [frps_norow cs k2]; rfl
          | rw e2 k2 ty2 xs2 pins2 => exact ⟨pins2, rfl⟩
        · show lkV (frpSl t ds s.sl) i = _
          rw [lkV_frp, hk.sl i hi hsf]
          exact frp_new hnew (h0.sl i)
        · obtain ⟨cs', k1, k2⟩ := hk.st t' ht' ty2 cs2 h
          show ∃ cs', lkB ((t, none) :: frpBx t ds s.bx) t' = _ ∧ _
          rw [lkB_cons, if_neg (fun e => by rw [e, h4] at ht'; cases ht'), lkB_frp, k1]
          exact ⟨_, rfl, by rw [frpVs_len]; exact k2⟩
      refine ⟨_, le_fzp t hq hl hc, ⟨fun i => ?_, fun t' b h => ?_⟩, hkp, fun t' ht' => ?_⟩
      · show VSim _ (lkV (frpSl t ds s.sl) i) (fzp t (ds.map SD.toD) (p.t i))
        rw [lkV_frp]
        exact (hs.sl i).frp hnl hX
      · have h : lkB ((t, none) :: frpBx t ds s.bx) t' = some b := h
        rw [lkB_cons] at h
        split at h
        · cases h
        · rename_i hne
          rw [lkB_frp, Option.map_eq_some_iff] at h
          obtain ⟨b0, h1, rfl⟩ := h
          have h2 := hs.bx t' b0 h1
          show BSim _ true (some (frpSB t ds b0)) (if t' = t then none else (p.b t').map (fzpBox t (ds.map SD.toD)))
          rw [if_neg hne]
          cases b0 with
          | st ty2 cs =>
            obtain ⟨qs, h3, h4⟩ := h2
            rw [h3]
            refine ⟨_, rfl, by rw [frpVs_len, fzps_len]; exact h4.len, fun j c r k1 k2 => ?_⟩
            rw [frpVs_get, Option.map_eq_some_iff] at k1
            obtain ⟨c', k3, rfl⟩ := k1
            obtain ⟨q', k4, rfl⟩ := fzps_get _ _ qs j r k2
            exact (h4.rep j c' q' k3 k4).frp hnl hX
          | rw e2 k2 ty2 xs2 pins2 =>
            obtain ⟨h3, h4⟩ := h2
            rw [h3]
            exact ⟨rfl, h4⟩
      · obtain ⟨b', k1, k2⟩ := hpr t' ht'
        show ∃ b, lkB ((t, none) :: frpBx t ds s.bx) t' = some b ∧ _
        rw [lkB_cons, if_neg (fun e => by rw [e, h3] at ht'; cases ht'), lkB_frp, k1]
        refine ⟨_, rfl, ?_⟩
        cases b' with
        | st ty2 cs => simp only [frpSB]; rw [frps_norow cs k2]; exact k2
        | rw e2 k2 ty2 xs2 pins2 => rfl
    · cases h
  · cases h
theorem fbAll_ok {sc W : List Nat} {s0 : SS} {p0 : PS} (h0 : SimW s0 p0) : ∀ {l : List Nat} {s s' : SS} {p : PS}, PrOk s → fbNew s0 l = true → Keep sc W s0 s → SimW s p → fbAll sc l s = some s' → ∃ p', Le p p' ∧ SimW s' p' ∧ Keep sc W s0 s'
  | [], s, s', p, _, _, hk, hs, h => by injection h with h; subst h; exact ⟨p, .refl p, hs, hk⟩
  | t :: l, s, s', p, hpr, hn, hk, hs, h => by
    simp only [fbAll] at h
    simp only [fbNew] at hn
    split at hn
    · rename_i hnew
      split at h
      · rename_i s1 h1
        obtain ⟨p1, k1, k2, k3, k4⟩ := fbX_ok hpr h0 hnew hk hs h1
        obtain ⟨p2, m1, m2, m3⟩ := fbAll_ok h0 k4 hn k3 k2 h
        exact ⟨p2, k1.trans m1, m2, m3⟩
      · cases h
    · cases hn
end Go.Proofs.Ytjeeclabnimbbaa

/- Drawn regions whose last operations come last in every order: there rows may become data between them. -/
namespace Go.Proofs.Ytjeeclabnimbbaa
open Go.RowKit

theorem tailB_spec {m : Nat} {ops : Array Oper} (h : tailB m ops = true) {i k : Nat} (hi : i < ops.size) (hm : ¬ i < m) (hk : k < i) : hangs ops 4 i k = true := by
  unfold tailB at h
  rw [List.all_eq_true] at h
  have h := h i (List.mem_range.2 hi)
  simp only [Bool.or_eq_true, decide_eq_true_eq, List.all_eq_true] at h
  exact (h.resolve_left hm) k (List.mem_range.2 hk)
section
variable {P : Program} {w0 : WM} {F0 : Nat → Prop} {n : Nat} {ops : Array Oper} {Q : Exit → Act → World → Prop}
def RunT (P : Program) (ops : Array Oper) : List Nat → PS → (PS → Prop) → Prop
  | [], s, K => K s
  | i :: l, s, K => ∃ s1, Le s s1 ∧ ∃ o r u, ops[i]? = some o ∧ Eff P ops o s1 r u ∧ RunT P ops l (s1.updL o.dst r u) K
theorem any_okT {bd : Nat → Bd} {mT : Nat} {Qs : Exit → PS → Prop} (hQ : ∀ e s a w, Qs e s → Conc n w0 F0 s a w → Q e a w) (hB : drawF bd n ops = true) (hT : tailB mT ops = true) : ∀ (m : Nat) (l lt : List Nat) (listed : Array Bool) (s : PS) (a : Act) (w : World), (l ++ lt).length = m → (l ++ lt).Pairwise (· < ·) → (∀ j ∈ l, j < mT) → (∀ j ∈ lt, ¬ j < mT) → (∀ j, j ∈ l ++ lt ↔ (j < ops.size ∧ listed.getD j true = false)) → listed.size = ops.size → Closed ops listed →
    RunI P ops bd l s (fun s' => RunT P ops lt s' (Qs .normal)) → Conc n w0 F0 s a w → wpAny P .any ops Q m listed a w
  | 0, l, lt, listed, s, a, w, hl, _, _, _, hm, hls, _, h, hc => by
    have h0 : l ++ lt = [] := List.eq_nil_of_length_eq_zero hl
    obtain ⟨rfl, rfl⟩ := List.append_eq_nil_iff.1 h0
    refine ⟨?_, hQ _ s a w h hc⟩
    rw [List.eq_nil_iff_forall_not_mem]
    intro j hj
    obtain ⟨h1, o, h2, _⟩ := mem_ready.1 hj
    have := (hm j).2 ⟨(Array.getElem?_eq_some_iff.1 h2).1, h1⟩
    simp at this
  | m + 1, l, lt, listed, s, a, w, hl, hs, hlm, hltm, hm, hls, hcl, h, hc => by
    have notdone : ∀ {k : Nat}, k ∈ l ++ lt → listed.getD k false = false := fun {k} hk => by
      have h1 := (hm k).1 hk
      have hsz : k < listed.size := by rw [hls]; exact h1.1
      have h2 := h1.2
      simp [hsz] at h2 ⊢
      exact h2
    refine ⟨fun h0 => ?_, fun i hi => ?_⟩
    · exfalso
      cases hll : l ++ lt with
      | nil => rw [hll] at hl; simp at hl
      | cons k ls =>
        have hk := (hm k).1 (by rw [hll]; simp)
        have hok : ops[k]? = some ops[k] := Array.getElem?_eq_getElem hk.1
        have : k ∈ Region.ready .any ops listed := by
          refine mem_ready.2 ⟨hk.2, _, hok, fun e he hb => ?_⟩
          have hlt := (drawF_spec hB hok).2.1 e he hb
          cases hx : listed.getD e.on false with
          | true => rfl
          | false =>
            exfalso
            have hsz : e.on < listed.size := by rw [hls]; omega
            have h2 : listed.getD e.on true = false := by
              simp [hsz] at hx ⊢; exact hx
            have h3 := (hm e.on).2 ⟨by omega, h2⟩
            rw [hll] at h3 hs
            rcases List.mem_cons.1 h3 with h | h
            · omega
            · have := (List.pairwise_cons.1 hs).1 _ h
              omega
        rw [h0] at this
        cases this
    · obtain ⟨hun, oi, hoi, hall⟩ := mem_ready.1 hi
      have hisz := (Array.getElem?_eq_some_iff.1 hoi).1
      have hin : i ∈ l ++ lt := (hm i).2 ⟨hisz, hun⟩
      have hready : ∀ k, k ∈ l ++ lt → hangs ops 4 i k = true → False := fun k hk hh => by
        have h1 := hangs_done hcl 4 i k hh (fun o' ho' e he hb => by rw [hoi] at ho'; cases ho'; exact hall e he hb)
        rw [notdone hk] at h1
        cases h1
      -- one step, and what is left
      have key : ∃ l' lt' s1 r u, Le s s1 ∧ Eff P ops oi s1 r u ∧ RunI P ops bd l' (s1.updL oi.dst r u) (fun s' => RunT P ops lt' s' (Qs .normal)) ∧ (l' ++ lt').length = m ∧ (l' ++ lt').Pairwise (· < ·) ∧ (∀ j ∈ l', j < mT) ∧ (∀ j ∈ lt', ¬ j < mT) ∧ (∀ j, j ∈ l' ++ lt' ↔ (j ∈ l ++ lt ∧ j ≠ i)) := by
        by_cases him : i < mT
        · have hil : i ∈ l := by
            rcases List.mem_append.1 hin with h | h
            · exact h
            · exact absurd him (hltm i h)
          obtain ⟨l1, l2, rfl⟩ := List.append_of_mem hil
          have hpw0 := List.pairwise_append.1 hs
          have hpw := List.pairwise_append.1 hpw0.1
          have hfront := move_front (P := P) (bd := bd) (K := fun s' => RunT P ops lt s' (Qs .normal)) hoi l1 l2 s (fun k hk ok hok => by
            have hlt : k < i := hpw.2.2 k hk i (by simp)
            rcases (drawF_spec hB hoi).2.2 k ok hlt hok with hh | h
            · exact (hready k (by simp [hk]) hh).elim
            · exact h) h
          obtain ⟨o', r, u, ho', h1, _, h2⟩ := hfront
          rw [hoi] at ho'
          injection ho' with ho'
          subst ho'
          have hc3 := List.pairwise_cons.1 hpw.2.1
          have hne : ∀ x, x ∈ l1 ++ l2 → x ≠ i := fun x hx e => by
            subst e
            rcases List.mem_append.1 hx with h | h
            · have := hpw.2.2 x h x (by simp); omega
            · have := hc3.1 x h; omega
          refine ⟨l1 ++ l2, lt, s, r, u, .refl s, h1, h2, by simp at hl ⊢; omega, ?_, fun j hj => hlm j (by rcases List.mem_append.1 hj with h | h <;> simp [h]), hltm, fun j => ?_⟩
          · refine List.pairwise_append.2 ⟨List.pairwise_append.2 ⟨hpw.1, hc3.2, fun x hx y hy => hpw.2.2 x hx y (by simp [hy])⟩, hpw0.2.1, fun x hx y hy => hpw0.2.2 x (by rcases List.mem_append.1 hx with h | h <;> simp [h]) y hy⟩
          · refine ⟨fun hj => ?_, fun ⟨hj, hji⟩ => ?_⟩
            · rcases List.mem_append.1 hj with hj2 | hj2
              · exact ⟨by rcases List.mem_append.1 hj2 with h | h <;> simp [h], hne j hj2⟩
              · exact ⟨by simp [hj2], fun e => by subst e; exact hltm j hj2 him⟩
            · rcases List.mem_append.1 hj with h | h
              · rcases List.mem_append.1 h with h | h
                · simp [h]
                · rcases List.mem_cons.1 h with h | h
                  · exact absurd h hji
                  · simp [h]
              · simp [h]
        · have hnil : l = [] := by
            cases l with
            | nil => rfl
            | cons k l =>
              exfalso
              have hk := hlm k (by simp)
              exact hready k (by simp) (tailB_spec hT hisz him (by omega))
          subst hnil
          cases lt with
          | nil => simp at hin
          | cons k lt =>
            have hki : k = i := by
              rcases List.mem_cons.1 hin with h | h
              · exact h.symm
              · exfalso
                have hlt := (List.pairwise_cons.1 hs).1 i h
                exact hready k (by simp) (tailB_spec hT hisz him hlt)
            subst hki
            obtain ⟨s1, hle, o', r, u, ho', h1, h2⟩ := h
            rw [hoi] at ho'
            injection ho' with ho'
            subst ho'
            have hc3 := List.pairwise_cons.1 hs
            refine ⟨[], lt, s1, r, u, hle, h1, h2, by simp at hl ⊢; omega, hc3.2, fun j hj => (by cases hj), fun j hj => hltm j (by simp [hj]), fun j => ?_⟩
            refine ⟨fun hj => ⟨by simp at hj; simp [hj], fun e => by
              subst e
              have := hc3.1 j (by simpa using hj)
              omega⟩, fun ⟨hj, hji⟩ => ?_⟩
            rcases List.mem_cons.1 hj with h | h
            · exact absurd h hji
            · simpa using h
      obtain ⟨l', lt', s1, r, u, hle, h1, h2, k1, k2, k3, k4, k5⟩ := key
      have hc1 := hle n w0 F0 a w hc
      have hstep := op_ok (f := 0) (Q := Q) (K := wpAny P .any ops Q m (listed.setIfInBounds i true)) hc1 h1 (drawF_spec hB hoi).1 (fun a' w' hc' => by
        have hmono : ∀ j, listed.getD j false = true → (listed.setIfInBounds i true).getD j false = true := fun j hj => by
          by_cases hji : j = i
          · subst hji
            have hsz : j < listed.size := by rw [hls]; exact hisz
            simp [hsz]
          · rw [getD_set_ne false (Ne.symm hji)]; exact hj
        refine any_okT hQ hB hT m l' lt' _ _ a' w' k1 k2 k3 k4 (fun j => ?_) (by simpa using hls) (fun j hj o ho e he hb => ?_) h2 hc'
        · by_cases hji : j = i
          · subst hji
            have hsz : j < listed.size := by rw [hls]; exact hisz
            refine ⟨fun hmem => absurd rfl ((k5 j).1 hmem).2, fun ⟨_, hx⟩ => ?_⟩
            simp [hsz] at hx
          · rw [getD_set_ne true (Ne.symm hji), k5 j, hm j]
            simp [hji]
        · by_cases hji : j = i
          · subst hji
            rw [hoi] at ho
            cases ho
            exact hmono _ (hall e he hb)
          · rw [getD_set_ne false (Ne.symm hji)] at hj
            exact hmono _ (hcl j hj o ho e he hb))
      unfold wpOp
      rw [hoi]
      simp only
      split
      · rename_i hw
        rw [if_pos hw] at hstep
        exact .inl hstep
      · rename_i hw
        rw [if_neg hw] at hstep
        exact hstep
theorem pwp_drawT (bd : Nat → Bd) {Qs : Exit → PS → Prop} {s : PS} {id : Nat} {l : List Oper} (mT : Nat) (hmT : mT ≤ l.length) (hm : P.follows .mixedOrders = true) (hB : drawF bd n l.toArray = true) (hT : tailB mT l.toArray = true) (h : RunI P l.toArray bd (List.range' 0 mT) s (fun s' => RunT P l.toArray (List.range' mT (l.length - mT)) s' (Qs .normal))) : PWP P n (.region id l.toArray true) Qs s := by
  intro w0 F0 a w hc
  refine wp_region_any hm ?_
  have hr : List.range' 0 mT ++ List.range' mT (l.length - mT) = List.range' 0 l.length := by
    have := List.range'_append (s := 0) (m := mT) (n := l.length - mT) (step := 1)
    simp only [Nat.one_mul, Nat.zero_add] at this
    rw [this]
    congr 1
    omega
  refine any_okT (Qs := Qs) (mT := mT) (fun _ s' _ _ h1 h2 => ⟨s', h1, h2⟩) hB hT l.toArray.size (List.range' 0 mT) (List.range' mT (l.length - mT)) _ s a _ (by rw [hr]; simp) (by rw [hr]; exact List.pairwise_lt_range') (fun j hj => by simp [List.mem_range'_1] at hj; exact hj) (fun j hj => by simp [List.mem_range'_1] at hj; omega) (fun j => ?_) (by simp) (fun j hj => by exfalso; simp only [Array.getD_eq_getD_getElem?, Array.getElem?_replicate] at hj; split at hj <;> cases hj) h (hc.drew _)
  rw [hr]
  simp only [List.mem_range'_1, Nat.zero_le, true_and, Nat.zero_add, List.size_toArray]
  refine ⟨fun h => ⟨h, by simp [h]⟩, fun h => h.1⟩
end
end Go.Proofs.Ytjeeclabnimbbaa

/- The typed executor: calls that turn boxes, or answer rows of their own. -/
namespace Go.Proofs.Ytjeeclabnimbbaa
open Go.RowKit

variable {B B' : List (Nat × Option SBox)} {s : SS} {p : PS} {P : Program} {ρ : Type}

/-! ### What is forgotten -/
theorem stVs_get (ks : List Nat) : ∀ (cs : List SV) (j : Nat), (stVs ks cs)[j]? = (cs[j]?).map (stV ks)
  | [], j => by simp [stVs]
  | c :: cs, 0 => by simp [stVs]
  | c :: cs, j + 1 => by simpa [stVs] using stVs_get ks cs j
theorem stVs_len (ks : List Nat) : ∀ cs : List SV, (stVs ks cs).length = cs.length
  | [] => rfl
  | c :: cs => by simp [stVs, stVs_len ks cs]
theorem lkV_st (ks : List Nat) : ∀ (l : List (Nat × SV)) (i : Nat), lkV (stSl ks l) i = stV ks (lkV l i)
  | [], _ => rfl
  | (j, v) :: l, i => by simp only [stSl, lkV_cons, lkV_st ks l i]; split <;> rfl
def stSB (ks : List Nat) : SBox → SBox
  | .st ty cs => .st ty (stVs ks cs)
  | b => b
theorem lkB_st (ks : List Nat) : ∀ (l : List (Nat × Option SBox)) (i : Nat), lkB (stBx ks l) i = (lkB l i).map (stSB ks)
  | [], _ => rfl
  | (j, none) :: l, i => by simp only [stBx, lkB_cons, lkB_st ks l i]; split <;> rfl
  | (j, some (.st ty cs)) :: l, i => by simp only [stBx, lkB_cons, lkB_st ks l i]; split <;> rfl
  | (j, some (.rw e k ty xs pins)) :: l, i => by simp only [stBx, lkB_cons, lkB_st ks l i]; split <;> rfl
/-- Rows that are not forgotten are as long, and pins where they were; structs are there. -/
structure BLeK (ks : List Nat) (B B' : List (Nat × Option SBox)) : Prop where
  rw : ∀ t, memN ks t = false → ∀ e k ty xs pins, lkB B t = some (.rw e k ty xs pins) → ∃ e' k' ty' xs' pins', lkB B' t = some (.rw e' k' ty' xs' pins') ∧ xs'.length = xs.length ∧ ∀ p pin, lkP pins p = some pin → ∃ pin', lkP pins' p = some pin' ∧ pin'.i = pin.i
  st : ∀ t ty cs, lkB B t = some (.st ty cs) → ∃ ty' cs', lkB B' t = some (.st ty' cs')
theorem VSim.st {ks : List Nat} {v : SV} {q : PV} (h : VSim B v q) (hB : BLeK ks B B') : VSim B' (stV ks v) q := by
  induction h with
  | junk q => exact .junk q
  | d c y h => exact .d c y h
  | ag cs qs hl hr ih =>
    refine .ag _ qs (by rw [stVs_len]; exact hl) (fun j c q h1 h2 => ?_)
    rw [stVs_get, Option.map_eq_some_iff] at h1
    obtain ⟨c', h3, rfl⟩ := h1
    exact ih j c' q h3 h2
  | tup cs qs hl hr ih =>
    refine .tup _ qs (by rw [stVs_len]; exact hl) (fun j c q h1 h2 => ?_)
    rw [stVs_get, Option.map_eq_some_iff] at h1
    obtain ⟨c', h3, rfl⟩ := h1
    exact ih j c' q h3 h2
  | ptr t' o ty cs hb => obtain ⟨ty', cs', h1⟩ := hB.st t' ty cs hb; exact .ptr t' o ty' cs' h1
  | row t' n e k ty xs pins hb hn =>
    simp only [stV]
    split
    · exact .junk _
    · rename_i h
      obtain ⟨e', k', ty', xs', pins', h1, h2, h3⟩ := hB.rw t' h e k ty xs pins hb
      exact .row t' n e' k' ty' xs' pins' h1 (h2.trans hn)
  | re t' p o n i e k ty xs pins pin hb hn hp hi =>
    simp only [stV]
    split
    · exact .junk _
    · rename_i h
      obtain ⟨e', k', ty', xs', pins', h1, h2, h3⟩ := hB.rw t' h e k ty xs pins hb
      obtain ⟨pin', h4, h5⟩ := h3 p pin hp
      exact .re t' p o n i e' k' ty' xs' pins' pin' h1 (h2.trans hn) h4 (by rw [h5]; exact hi)
  | vw t' lo hi n e k ty xs pins hb hn=>
    simp only [stV]
    split
    · exact .junk _
    · rename_i h
      obtain ⟨e', k', ty', xs', pins', h1, h2, h3⟩ := hB.rw t' h e k ty xs pins hb
      exact .vw t' lo hi n e' k' ty' xs' pins' h1 (h2.trans hn)
  | fe cs ds h hn => exact .fe cs ds h hn
  | fn f ps qs ps' qs' hl hr hl2 hr2 ih ih2 =>
    refine .fn f _ _ ps' qs' (by rw [stVs_len]; exact hl) (fun j c q h1 h2 => ?_) (by rw [stVs_len]; exact hl2) (fun j c q h1 h2 => ?_)
    · rw [stVs_get, Option.map_eq_some_iff] at h1
      obtain ⟨c', h3, rfl⟩ := h1
      exact ih j c' q h3 h2
    · rw [stVs_get, Option.map_eq_some_iff] at h1
      obtain ⟨c', h3, rfl⟩ := h1
      exact ih2 j c' q h3 h2
theorem CSim.st {ks : List Nat} {cs : List SV} {qs : List PV} (h : CSim B cs qs) (hB : BLeK ks B B') : CSim B' (stVs ks cs) qs :=
  ⟨by rw [stVs_len]; exact h.len, fun j c q h1 h2 => by
    rw [stVs_get, Option.map_eq_some_iff] at h1
    obtain ⟨c', h3, rfl⟩ := h1
    exact (h.rep j c' q h3 h2).st hB⟩
mutual
theorem st_safe {pr ks : List Nat} (hk : ∀ t, memN ks t = true → memN pr t = false) : ∀ v : SV, safeK pr v = true → stV ks v = v
  | .junk, _ => rfl
  | .d _, _ => rfl
  | .fe _, _ => rfl
  | .ptr _ _, _ => rfl
  | .row t, h => by
    have h : memN pr t = true := h
    simp only [stV]
    split
    · rename_i h1; rw [hk t h1] at h; cases h
    · rfl
  | .re _ _ _, h => by cases h
  | .vw _ _ _, h => by cases h
  | .ag cs, h => by simp only [stV]; rw [sts_safe hk cs h]
  | .tup cs, h => by simp only [stV]; rw [sts_safe hk cs h]
  | .fn f ps qs, h => by
    have h : (safesK pr ps && safesK pr qs) = true := h
    rw [Bool.and_eq_true] at h
    simp only [stV]; rw [sts_safe hk ps h.1, sts_safe hk qs h.2]
theorem sts_safe {pr ks : List Nat} (hk : ∀ t, memN ks t = true → memN pr t = false) : ∀ cs : List SV, safesK pr cs = true → stVs ks cs = cs
  | [], _ => rfl
  | c :: cs, h => by
    simp only [safesK, Bool.and_eq_true] at h
    simp only [stVs]
    rw [st_safe hk c h.1, sts_safe hk cs h.2]
end
mutual
theorem st_norow {ks : List Nat} : ∀ v : SV, norow v = true → stV ks v = v
  | .junk, _ => rfl
  | .d _, _ => rfl
  | .fe _, _ => rfl
  | .ptr _ _, _ => rfl
  | .row _, h => by cases h
  | .re _ _ _, h => by cases h
  | .vw _ _ _, h => by cases h
  | .ag cs, h => by simp only [stV]; rw [sts_norow cs h]
  | .tup cs, h => by simp only [stV]; rw [sts_norow cs h]
  | .fn f ps qs, h => by
    have h : (match norows ps with | true => norows qs | false => false) = true := h
    split at h
    · rename_i h1; simp only [stV]; rw [sts_norow ps h1, sts_norow qs h]
    · cases h
theorem sts_norow {ks : List Nat} : ∀ cs : List SV, norows cs = true → stVs ks cs = cs
  | [], _ => rfl
  | c :: cs, h => by
    simp only [norows] at h
    split at h
    · rename_i h1
      simp only [stVs]
      rw [st_norow c h1, sts_norow cs h]
    · cases h
end

/-! ### Boxes beside boxes -/
/-- Typed boxes and those that they stand for, in one order. -/
inductive UAl (G : List Nat) (B' : List (Nat × Option SBox)) : List (Nat × Option SBox) → BU → Prop
  | nil : UAl G B' [] []
  | cons (t : Nat) (sb : Option SBox) (b : Box) (us : List (Nat × Option SBox)) (u : BU) (h1 : ∀ x, sb = some x → BSim B' true (some x) (some b)) (h2 : sb = none → memN G t = true) (h : UAl G B' us u) : UAl G B' ((t, sb) :: us) ((t, b) :: u)
variable {G : List Nat}
theorem UAl.app {us us' : List (Nat × Option SBox)} {u u' : BU} (h : UAl G B' us u) (h' : UAl G B' us' u') : UAl G B' (us ++ us') (u ++ u') := by
  induction h with
  | nil => exact h'
  | cons t sb b us u h1 h2 h ih => exact .cons t sb b _ _ h1 h2 ih
theorem idU_mem : ∀ {us : List (Nat × Option SBox)} {t : Nat}, t ∈ idU us ↔ ∃ sb, (t, sb) ∈ us
  | [], t => by simp [idU]
  | (i, b) :: us, t => by
    simp only [idU, List.mem_cons, Prod.mk.injEq]
    constructor
    · rintro (rfl | h)
      · exact ⟨b, .inl ⟨rfl, rfl⟩⟩
      · obtain ⟨sb, h⟩ := idU_mem.1 h; exact ⟨sb, .inr h⟩
    · rintro ⟨sb, ⟨rfl, _⟩ | h⟩
      · exact .inl rfl
      · exact .inr (idU_mem.2 ⟨sb, h⟩)
theorem ual_lk {us : List (Nat × Option SBox)} {u : BU} (h : UAl G B' us u) (l : List (Nat × Option SBox)) (t : Nat) :
    (t ∈ idU us ∧ ∃ sb b, lkB (us ++ l) t = sb ∧ lkU u t = some b ∧ (∀ x, sb = some x → BSim B' true (some x) (some b)) ∧ (sb = none → memN G t = true)) ∨ (t ∉ idU us ∧ lkB (us ++ l) t = lkB l t ∧ lkU u t = none) := by
  induction h with
  | nil => exact .inr ⟨by simp [idU], rfl, rfl⟩
  | cons i sb b us u h1 h2 h ih =>
    by_cases hi : t = i
    · subst hi
      refine .inl ⟨by simp [idU], sb, b, ?_, ?_, h1, h2⟩
      · rw [List.cons_append, lkB_cons, if_pos rfl]
      · simp [lkU]
    · rcases ih with ⟨m1, sb', b', m2, m3, m4⟩ | ⟨m1, m2, m3⟩
      · refine .inl ⟨by simp [idU, m1], sb', b', ?_, ?_, m4⟩
        · rw [List.cons_append, lkB_cons, if_neg hi]; exact m2
        · simp only [lkU, if_neg hi]; exact m3
      · refine .inr ⟨by simp [idU, m1, hi], ?_, ?_⟩
        · rw [List.cons_append, lkB_cons, if_neg hi]; exact m2
        · simp only [lkU, if_neg hi]; exact m3
theorem memN_mem : ∀ {l : List Nat} {i : Nat}, memN l i = true ↔ i ∈ l
  | [], i => by simp [memN]
  | j :: l, i => by
    simp only [memN, beq_spec, List.mem_cons]
    by_cases h : i = j
    · simp [h]
    · simp only [h, decide_false, false_or]; exact memN_mem
theorem memN_not {l : List Nat} {i : Nat} : memN l i = false ↔ i ∉ l := by rw [← memN_mem]; simp
theorem nodupN_spec : ∀ {l : List Nat}, nodupN l = true → l.Nodup
  | [], _ => List.nodup_nil
  | a :: l, h => by
    simp only [nodupN] at h
    split at h
    · cases h
    · rename_i h1
      exact List.nodup_cons.2 ⟨memN_not.1 h1, nodupN_spec h⟩
theorem subN_spec : ∀ {l m : List Nat}, subN l m = true → ∀ x ∈ l, x ∈ m
  | [], _, _, x, hx => by cases hx
  | a :: l, m, h, x, hx => by
    simp only [subN] at h
    split at h
    · rename_i h1
      rcases List.mem_cons.1 hx with rfl | hx
      · exact memN_mem.1 h1
      · exact subN_spec h x hx
    · cases h
theorem okOld_spec : ∀ {l : List Nat}, okOld s l = true → ∀ i ∈ l, memN s.pr i = false
  | [], _, i, hi => by cases hi
  | a :: l, h, i, hi => by
    simp only [okOld] at h
    split at h
    · cases h
    · rename_i h1
      rcases List.mem_cons.1 hi with rfl | hi
      · exact h1
      · exact okOld_spec h i hi
theorem okNew_spec : ∀ {l : List Nat}, okNew s l = true → ∀ i ∈ l, newB s i = true ∧ lkB s.bx i = none ∧ i < 1000000
  | [], _, i, hi => by cases hi
  | a :: l, h, i, hi => by
    simp only [okNew] at h
    split at h
    · rename_i h1 h2 h3
      rcases List.mem_cons.1 hi with rfl | hi
      · exact ⟨h1, h2, Nat.le_of_ble_eq_true h3⟩
      · exact okNew_spec h i hi
    · cases h
theorem okLen_spec : ∀ {us : List (Nat × Option SBox)}, okLen s us = true → ∀ t sb, (t, sb) ∈ us → ∀ ty cs, lkB s.bx t = some (.st ty cs) → ∃ cs', sb = some (.st ty cs') ∧ cs'.length = cs.length
  | [], _, t, sb, h, _, _, _ => by cases h
  | (i, b) :: us, h, t, sb, hm, ty, cs, hl => by
    simp only [okLen, Bool.and_eq_true] at h
    rcases List.mem_cons.1 hm with e | hm
    · injection e with e1 e2
      subst e1 e2
      have h1 := h.1
      rw [hl] at h1
      simp only at h1
      split at h1
      · rename_i ty' cs'
        rw [Bool.and_eq_true, Nat.beq_eq] at h1
        have := of_decide_eq_true h1.1
        subst this
        exact ⟨cs', rfl, h1.2.symm⟩
      · cases h1
    · exact okLen_spec h.2 t sb hm ty cs hl

/-! ### What a call is handed -/
mutual
theorem clean_nrm (b : Nat → Option Box) : ∀ q : PV, clean q = true → asData b q = nrmP q
  | .junk, _ => rfl
  | .d _, _ => rfl
  | .fe _, _ => rfl
  | .ptr _ _, h => by cases h
  | .row _ _, h => by cases h
  | .re _ _ _ _, h => by cases h
  | .vw _ _ _ _, h => by cases h
  | .ag cs, h => by simp only [asData, nrmP]; rw [cleans_nrm b cs h]
  | .tup cs, h => by simp only [asData, nrmP]; rw [cleans_nrm b cs h]
  | .fn f ps qs, h => by
    have h : (cleans ps && cleans qs) = true := h
    rw [Bool.and_eq_true] at h
    simp only [asData, nrmP]; rw [cleans_nrm b ps h.1, cleans_nrm b qs h.2]
theorem cleans_nrm (b : Nat → Option Box) : ∀ cs : List PV, cleans cs = true → asDatas b cs = nrmPs cs
  | [], _ => rfl
  | c :: cs, h => by
    simp only [cleans, Bool.and_eq_true] at h
    simp only [asDatas, nrmPs]; rw [clean_nrm b c h.1, cleans_nrm b cs h.2]
end
theorem cellsOf_ok (hs : Sim s p) {rows : List (Nat × Nat × Nat × Nat × Ty)} : ∀ {cs : List SV} {qs : List PV} {ds : List SD} {j : Nat}, CSim s.bx cs qs → cellsOf s rows j cs = some ds →
    nrmPs qs = pvCells rows j (ds.map SD.toD) ∧ ∀ t Bx, (t, Bx) ∈ puCells rows j (ds.map SD.toD) → p.b t = some Bx
  | [], qs, ds, j, hv, h => by
    rcases hv.cases with ⟨_, rfl⟩ | ⟨_, _, _, _, h1, _⟩
    · injection h with h; subst h; exact ⟨rfl, fun _ _ h => by cases h⟩
    · cases h1
  | c :: cs, qs, ds, j, hv, h => by
    rcases hv.cases with ⟨h1, _⟩ | ⟨c', q, cs', qs', h1, rfl, h2, h3⟩
    · cases h1
    · injection h1 with e1 e2
      subst e1 e2
      simp only [cellsOf] at h
      split at h
      · rename_i R e k t hf
        split at h
        · rename_i R' e' k' t' xs pins hb
          split at h
          · rename_i hty _
            obtain ⟨m1, h⟩ := chk_some h
            obtain ⟨m2, h⟩ := chk_some h
            obtain ⟨m3, h⟩ := chk_some h
            split at h
            · rename_i r hr
              injection h with h
              subst h hty
              rw [Nat.beq_eq] at m1
              have m2 := of_decide_eq_true m2
              have m3 := of_decide_eq_true m3
              subst m1 m2 m3
              obtain ⟨k1, k2⟩ := cellsOf_ok hs h3 hr
              have hbx := hs.bx R'
              rw [hb] at hbx
              cases h2 with
              | row _ n e2 k2' ty2 xs2 pins2 hb2 hn =>
                rw [hb] at hb2
                injection hb2 with hb2
                injection hb2 with q1 q2 q3 q4 q5
                subst q3
                have q4 := eq_of_heq q4
                subst q4
                refine ⟨?_, ?_⟩
                · simp only [nrmPs, nrmP, List.map_cons, pvCells, hf, SD.toD, k1]
                  simp [castL, hn]
                · intro t Bx hm
                  simp only [List.map_cons, puCells, hf, SD.toD, List.mem_cons, Prod.mk.injEq] at hm
                  rcases hm with ⟨rfl, rfl⟩ | hm
                  · exact hbx.1
                  · exact k2 t Bx hm
            · cases h
          · cases h
        · cases h
      · rename_i hf
        split at h
        · rename_i x r hr
          injection h with h
          subst h
          obtain ⟨k1, k2⟩ := cellsOf_ok hs h3 hr
          cases h2 with
          | d _ y hy =>
            refine ⟨?_, ?_⟩
            · simp only [nrmPs, nrmP, List.map_cons, pvCells, hf, k1, hy.nrm]
            · intro t Bx hm
              simp only [List.map_cons, puCells, hf] at hm
              exact k2 t Bx hm
        · cases h
theorem rowIdsX_len : ∀ {rows : List (Nat × Nat × Nat × Ty)} {cs : List SV} {is : List Nat}, rowIdsX rows cs = some is → is.length = rows.length
  | [], _, is, h => by injection h with h; subst h; rfl
  | (j, e) :: rows, cs, is, h => by
    simp only [rowIdsX] at h
    split at h
    · rename_i R is' _ h1
      injection h with h
      subst h
      simp [rowIdsX_len h1]
    · cases h
theorem decSt_ok (hs : Sim s p) {rows : List (Nat × Nat × Nat × Ty)} {n : Nat} {cs : List SV} {qs : List PV} {x : ST n} {is : List Nat} (hv : CSim s.bx cs qs) (h : decSt s rows n cs = some (x, is)) :
    is.length = rows.length ∧ nrmPs qs = pvCells (zipR rows is) 0 (stD n x) ∧ ∀ t Bx, (t, Bx) ∈ puCells (zipR rows is) 0 (stD n x) → p.b t = some Bx := by
  unfold decSt at h
  split at h
  · rename_i is' hi
    split at h
    · rename_i ds hd
      split at h
      · rename_i x' hx
        injection h with h
        injection h with e1 e2
        subst e1 e2
        rw [← stK_ok hx]
        exact ⟨rowIdsX_len hi, cellsOf_ok hs hv hd⟩
      · cases h
    · cases h
  · cases h
/-- What is handed over, as the machine has it. -/
structure InOk (p : PS) (pt : PT) (q : PV) (x : pt.den) (is : List Nat) : Prop where
  len : is.length = pt.nI
  v : nrmP q = (toI pt is x).1
  b : ∀ t Bx, (t, Bx) ∈ (toI pt is x).2 → ∃ B', p.b t = some B' ∧ nrmB B' = Bx
theorem decRow_ok (hs : Sim s p) {e k : Nat} {t : Ty} {v : SV} {q : PV} {xs : List t.den} {is : List Nat} (hv : VSim s.bx v q) (h : decRow s e k t v = some (xs, is)) : ∃ i, is = [i] ∧ q = .row i xs.length ∧ p.b i = some (rwU e k t xs) ∧ ∃ e' k' t' xs' pins, lkB s.bx i = some (.rw e' k' t' xs' pins) ∧ xs'.length = xs.length := by
  unfold decRow at h
  split at h
  · rename_i i
    split at h
    · rename_i e' k' t' xs' pins hb
      split at h
      · rename_i hty _
        obtain ⟨m2, h⟩ := chk_some h
        obtain ⟨m3, h⟩ := chk_some h
        injection h with h
        injection h with e1 e2
        subst e1 e2 hty
        have m2 := of_decide_eq_true m2
        have m3 := of_decide_eq_true m3
        subst m2 m3
        have hbx := hs.bx i
        rw [hb] at hbx
        cases hv with
        | row _ n e2 k2' ty2 xs2 pins2 hb2 hn =>
          rw [hb] at hb2
          injection hb2 with hb2
          injection hb2 with q1 q2 q3 q4 q5
          subst q3
          have q4 := eq_of_heq q4
          subst q4
          exact ⟨i, rfl, by rw [← hn]; rfl, hbx.1, _, _, _, _, _, hb, rfl⟩
      · cases h
    · cases h
  · cases h
theorem decP_ok (hs : Sim s p) {pt : PT} {v : SV} {q : PV} {x : pt.den} {is : List Nat} (hv : VSim s.bx v q) (h : decP s pt v = some (x, is)) : is = [] ∧ nrmP q = toPV pt x := by
  unfold decP at h
  obtain ⟨h1, h⟩ := chk_some h
  split at h
  · rename_i x' hx
    injection h with h
    injection h with e1 e2
    subst e1 e2
    obtain ⟨k1, k2⟩ := (decA_ok hs hv hx).2 h1
    exact ⟨rfl, by rw [← clean_nrm bNone q k1]; exact k2⟩
  · cases h
theorem decI_ok (hs : Sim s p) : ∀ {pt : PT} {v : SV} {q : PV} {x : pt.den} {is : List Nat}, VSim s.bx v q → decI s pt v = some (x, is) → InOk p pt q x is := by
  intro pt v q x is hv h
  have plain : ∀ {pt : PT} {x : pt.den}, pt.nI = 0 → (toI pt [] x) = (toPV pt x, []) → decP s pt v = some (x, is) → InOk p pt q x is := fun {pt x} h0 h1 h => by
    obtain ⟨rfl, h2⟩ := decP_ok hs hv h
    exact ⟨h0.symm, by rw [h1]; exact h2, by rw [h1]; exact fun _ _ h => by cases h⟩
  have row : ∀ {e k : Nat} {t : Ty} {xs : List t.den}, decRow s e k t v = some (xs, is) → is.length = 1 ∧ ∃ i, is = [i] ∧ q = .row i xs.length ∧ p.b i = some (rwU e k t xs) := fun {e k t xs} h => by
    obtain ⟨i, rfl, h1, h2, _⟩ := decRow_ok hs hv h
    exact ⟨rfl, i, rfl, h1, h2⟩
  cases pt with
  | lf t => exact plain rfl rfl h
  | ag i => exact plain rfl rfl h
  | pl t => exact plain rfl rfl h
  | ps i => exact plain rfl rfl h
  | fn f a b => exact plain rfl rfl h
  | io l => exact noneN (x := (x, is)) h
  | own e k t =>
    obtain ⟨h1, i, rfl, h2, h3⟩ := row (xs := x) h
    refine ⟨h1, by rw [h2]; rfl, fun t' Bx hm => ?_⟩
    simp only [toI, List.mem_cons, List.not_mem_nil, or_false, Prod.mk.injEq] at hm
    obtain ⟨rfl, rfl⟩ := hm
    exact ⟨_, h3, rfl⟩
  | mv e k t =>
    obtain ⟨h1, i, rfl, h2, h3⟩ := row (xs := x) h
    refine ⟨h1, by rw [h2]; rfl, fun t' Bx hm => ?_⟩
    simp only [toI, List.mem_cons, List.not_mem_nil, or_false, Prod.mk.injEq] at hm
    obtain ⟨rfl, rfl⟩ := hm
    exact ⟨_, h3, rfl⟩
  | bx ty n rows =>
    replace h : decBx s ty n rows v = some (x, is) := h
    unfold decBx at h
    split at h
    · rename_i i
      split at h
      · rename_i ty' cs hb
        obtain ⟨m1, h⟩ := chk_some h
        have m1 := of_decide_eq_true m1
        subst m1
        split at h
        · rename_i x' is' hd
          injection h with h
          injection h with e1 e2
          subst e1 e2
          have hbx := hs.bx i
          rw [hb] at hbx
          obtain ⟨qs, k1, k2⟩ := hbx
          obtain ⟨k3, k4, k5⟩ := decSt_ok hs k2 hd
          cases hv with
          | ptr _ _ _ _ _ =>
            refine ⟨by simp [k3, PT.nI], rfl, fun t' Bx hm => ?_⟩
            simp only [toI, List.mem_cons, Prod.mk.injEq] at hm
            rcases hm with ⟨rfl, rfl⟩ | hm
            · exact ⟨_, k1, by rw [nrmB, k4]⟩
            · have := k5 t' Bx hm
              refine ⟨Bx, this, ?_⟩
              have : ∀ {rows : List (Nat × Nat × Nat × Nat × Ty)} {ds : List D} {j : Nat}, (t', Bx) ∈ puCells rows j ds → nrmB Bx = Bx := by
                intro rows ds
                induction ds with
                | nil => intro j h; cases h
                | cons d ds ih =>
                  intro j h
                  simp only [puCells] at h
                  split at h
                  · split at h
                    · rcases List.mem_cons.1 h with e | h
                      · injection e with _ e; subst e; rfl
                      · exact ih h
                    · exact ih h
                  · exact ih h
              exact this hm
        · cases h
      · cases h
    · cases h
  | agr n rows =>
    replace h : decAgr s n rows v = some (x, is) := h
    unfold decAgr at h
    split at h
    · rename_i cs
      obtain ⟨qs, rfl, hq⟩ := vs_ag hv
      obtain ⟨k3, k4, k5⟩ := decSt_ok hs hq h
      refine ⟨k3, by simp only [nrmP, toI, k4], fun t' Bx hm => ?_⟩
      have := k5 t' Bx hm
      refine ⟨Bx, this, ?_⟩
      have : ∀ {rows : List (Nat × Nat × Nat × Nat × Ty)} {ds : List D} {j : Nat}, (t', Bx) ∈ puCells rows j ds → nrmB Bx = Bx := by
        intro rows ds
        induction ds with
        | nil => intro j h; cases h
        | cons d ds ih =>
          intro j h
          simp only [puCells] at h
          split at h
          · split at h
            · rcases List.mem_cons.1 h with e | h
              · injection e with _ e; subst e; rfl
              · exact ih h
            · exact ih h
          · exact ih h
      exact this hm
    · cases h
theorem decIs_ok (hs : Sim s p) : ∀ {ps : List PT} {vs : List SV} {qs : List PV} {x : dens ps} {iss : List (List Nat)}, CSim s.bx vs qs → decIs s ps vs = some (x, iss) →
    shapeOk ps iss ∧ nrmPs qs = (toIs ps iss x).1 ∧ ∀ t Bx, (t, Bx) ∈ (toIs ps iss x).2 → ∃ B', p.b t = some B' ∧ nrmB B' = Bx
  | [], [], qs, x, iss, hv, h => by
    rcases hv.cases with ⟨_, rfl⟩ | ⟨_, _, _, _, h1, _⟩
    · injection h with h
      injection h with _ h
      subst h
      exact ⟨trivial, rfl, fun _ _ h => by cases h⟩
    · cases h1
  | [], _ :: _, _, _, _, _, h => by cases h
  | _ :: _, [], _, _, _, _, h => by cases h
  | pt :: ps, v :: vs, qs, x, iss, hv, h => by
    rcases hv.cases with ⟨h1, _⟩ | ⟨v', q, vs', qs', h1, rfl, h2, h3⟩
    · cases h1
    · injection h1 with e1 e2
      subst e1 e2
      simp only [decIs] at h
      split at h
      · rename_i y is ys iss' m1 m2
        injection h with h
        injection h with e1 e2
        subst e1 e2
        obtain ⟨k1, k2, k3⟩ := decI_ok hs h2 m1
        obtain ⟨k4, k5, k6⟩ := decIs_ok hs h3 m2
        refine ⟨⟨k1, k4⟩, by simp only [nrmPs, toIs, k2, k5], fun t Bx hm => ?_⟩
        simp only [toIs, List.mem_append] at hm
        rcases hm with hm | hm
        · exact k3 t Bx hm
        · exact k6 t Bx hm
      · cases h
end Go.Proofs.Ytjeeclabnimbbaa

/- The typed executor: a call that turns boxes, or answers rows of its own, is the machine's. -/
namespace Go.Proofs.Ytjeeclabnimbbaa
open Go.RowKit

variable {B B' : List (Nat × Option SBox)} {s : SS} {p : PS} {P : Program} {ρ : Type} {G : List Nat} {sc : List Nat}

/-- The boxes may be seen. -/
def Seen (B' : List (Nat × Option SBox)) (bx : List (Nat × Option SBox)) : Prop := ∀ t x, (t, some x) ∈ bx → lkB B' t = some x
theorem Seen.app {a b : List (Nat × Option SBox)} (h : Seen B' (a ++ b)) : Seen B' a ∧ Seen B' b := ⟨fun t x hm => h t x (List.mem_append_left _ hm), fun t x hm => h t x (List.mem_append_right _ hm)⟩
theorem put_ok {rows : List (Nat × Nat × Nat × Nat × Ty)} : ∀ {cs : List SD} {j : Nat} {vs : List SV} {bx : List (Nat × Option SBox)}, putCells rows j cs [] = some (vs, bx) → (∀ c ∈ cs, c ≠ .nl) →
    UAl G B' bx (puCells rows j (cs.map SD.toD)) ∧ (Seen B' bx → CSim B' vs (pvCells rows j (cs.map SD.toD)))
  | [], j, vs, bx, h, _ => by
    simp only [putCells] at h
    injection h with h
    injection h with e1 e2
    subst e1 e2
    exact ⟨.nil, fun _ => .nil⟩
  | c :: cs, j, vs, bx, h, hn => by
    simp only [putCells] at h
    have hn' := fun c' hc => hn c' (List.mem_cons_of_mem _ hc)
    split at h
    · rename_i R e k t hf
      split at h
      · rename_i xs vs' bx' hx hr
        injection h with h
        injection h with e1 e2
        subst e1 e2
        obtain ⟨k1, k2⟩ := put_ok hr hn'
        have hD : c.toD = .sl ((show List t.den from xs).map (encE t)) := by
          rw [← enc1_as hx]; rfl
        simp only [List.map_cons, puCells, pvCells, hf, hD]
        refine ⟨.cons R _ _ _ _ (fun x hx => ?_) (fun h => by cases h) k1, fun hs => .cons ?_ (k2 fun t x hm => hs t x (List.mem_cons_of_mem _ hm))⟩
        · injection hx with hx
          subst hx
          exact ⟨rfl, fun p pin h => by cases h⟩
        · exact .row R _ e k t xs [] (hs R _ List.mem_cons_self) (show List.length (show List t.den from xs) = _ from (List.length_map _).symm)
      · cases h
    · rename_i hf
      split at h
      · rename_i vs' bx' hr
        injection h with h
        injection h with e1 e2
        subst e1 e2
        obtain ⟨k1, k2⟩ := put_ok hr hn'
        simp only [List.map_cons, puCells, pvCells, hf]
        exact ⟨k1, fun hs => .cons (.d _ _ (DSim.of (hn c List.mem_cons_self))) (k2 hs)⟩
      · cases h
theorem encSt_ok {rows : List (Nat × Nat × Nat × Ty)} {is : List Nat} {n : Nat} {x : ST n} {vs : List SV} {bx : List (Nat × Option SBox)} (h : encSt rows is n x = some (vs, bx)) :
    UAl G B' bx (puCells (zipR rows is) 0 (stD n x)) ∧ (Seen B' bx → CSim B' vs (pvCells (zipR rows is) 0 (stD n x))) := by
  rw [← stC_ok n x]
  exact put_ok h (stC_nl n x)
theorem encRow_ok {e k : Nat} {t : Ty} (xs : List t.den) {is : List Nat} {v : SV} {bx : List (Nat × Option SBox)} (h : (match is with | [i] => some (SV.row i, [(i, some (SBox.rw e k t xs []))]) | _ => none) = some (v, bx)) (hs : Seen B' bx) :
    ∃ i, is = [i] ∧ v = .row i ∧ UAl G B' bx [(i, rwU e k t xs)] ∧ VSim B' v (.row i xs.length) := by
  split at h
  · rename_i i
    injection h with h
    injection h with e1 e2
    subst e1 e2
    exact ⟨i, rfl, rfl, .cons i _ _ _ _ (fun x hx => by injection hx with hx; subst hx; exact ⟨rfl, fun p pin h => by cases h⟩) (fun h => by cases h) .nil, .row i _ e k t xs [] (hs i _ List.mem_cons_self) rfl⟩
  · cases h
theorem encI_ok {pt : PT} {is : List Nat} {x : pt.den} {v : SV} {bx : List (Nat × Option SBox)} (hp : (pt.isM || ptOk pt) = true) (h : encI pt is x = some (v, bx)) (hs : Seen B' bx) :
    UAl G B' bx (toI pt is x).2 ∧ VSim B' v (toI pt is x).1 := by
  have plain : ∀ {pt : PT} {x : pt.den}, pt.isM = false → (pt.isM || ptOk pt) = true → (toI pt is x) = (toPV pt x, []) → v = encA pt x → bx = [] → UAl G B' bx (toI pt is x).2 ∧ VSim B' v (toI pt is x).1 := fun {pt x} h1 h2 h3 h4 h5 => by
    subst h4 h5
    rw [h1, Bool.false_or] at h2
    rw [h3]
    exact ⟨.nil, encA_sim pt x h2⟩
  cases pt with
  | lf t => injection h with h; injection h with e1 e2; exact plain rfl hp rfl e1.symm e2.symm
  | ag t => injection h with h; injection h with e1 e2; exact plain rfl hp rfl e1.symm e2.symm
  | pl t => injection h with h; injection h with e1 e2; exact plain rfl hp rfl e1.symm e2.symm
  | ps t => injection h with h; injection h with e1 e2; exact plain rfl hp rfl e1.symm e2.symm
  | fn f a b => injection h with h; injection h with e1 e2; exact plain rfl hp rfl e1.symm e2.symm
  | io l => cases h
  | own e k t => obtain ⟨i, rfl, rfl, k1, k2⟩ := encRow_ok (G := G) (B' := B') (show List t.den from x) h hs; exact ⟨k1, k2⟩
  | mv e k t => obtain ⟨i, rfl, rfl, k1, k2⟩ := encRow_ok (G := G) (B' := B') (show List t.den from x) h hs; exact ⟨k1, k2⟩
  | bx ty n rows =>
    simp only [encI] at h
    split at h
    · rename_i i is'
      split at h
      · rename_i vs bx' he
        injection h with h
        injection h with e1 e2
        subst e1 e2
        obtain ⟨k1, k2⟩ := encSt_ok (G := G) (B' := B') he
        have hc := k2 fun t x hm => hs t x (List.mem_cons_of_mem _ hm)
        exact ⟨.cons i _ _ _ _ (fun x hx => by injection hx with hx; subst hx; exact ⟨_, rfl, hc⟩) (fun h => by cases h) k1, .ptr i 0 _ _ (hs i _ List.mem_cons_self)⟩
      · cases h
    · cases h
  | agr n rows =>
    simp only [encI] at h
    split at h
    · rename_i vs bx' he
      injection h with h
      injection h with e1 e2
      subst e1 e2
      obtain ⟨k1, k2⟩ := encSt_ok (G := G) (B' := B') he
      have hc := k2 hs
      exact ⟨k1, .ag _ _ hc.len hc.rep⟩
    · cases h
theorem encRIs_ok : ∀ {rs : List PT} {jss : List (List Nat)} {r : densR rs} {vs : List SV} {bs : List (Nat × Option SBox)}, ptsOkM rs = true → encRIs rs jss r = some (vs, bs) → Seen B' bs → UAl G B' bs (toRIs rs jss r).2 ∧ CSim B' vs (toRIs rs jss r).1
  | [], [], r, vs, bs, _, h, _ => by
    have h : some (([] : List SV), ([] : List (Nat × Option SBox))) = some (vs, bs) := h
    injection h with h
    injection h with e1 e2
    subst e1 e2
    exact ⟨.nil, .nil⟩
  | [], _ :: _, r, vs, bs, _, h, _ => by cases h
  | [pt], [], r, vs, bs, _, h, _ => by cases h
  | [pt], [is], r, vs, bs, hp, h, hs => by
    have h : (match encI pt is r with | some (v, b) => some ([v], b) | none => none) = some (vs, bs) := h
    simp only [ptsOkM] at hp
    split at hp
    · rename_i hp1
      split at h
      · rename_i v b he
        injection h with h
        injection h with e1 e2
        subst e1 e2
        obtain ⟨k1, k2⟩ := encI_ok (G := G) (B' := B') hp1 he hs
        exact ⟨k1, .cons k2 .nil⟩
      · cases h
    · cases hp
  | [pt], _ :: _ :: _, r, vs, bs, _, h, _ => by cases h
  | pt :: q :: l, [], r, vs, bs, _, h, _ => by cases h
  | pt :: q :: l, is :: iss, r, vs, bs, hp, h, hs => by
    have h : (match encI pt is r.1, encRIs (q :: l) iss r.2 with | some (v, b), some (vs, bs) => some (v :: vs, b ++ bs) | _, _ => none) = some (vs, bs) := h
    rw [ptsOkM] at hp
    split at hp
    · rename_i hp1
      split at h
      · rename_i v b vs' bs' he hr
        injection h with h
        injection h with e1 e2
        subst e1 e2
        obtain ⟨s1, s2⟩ := hs.app
        obtain ⟨k1, k2⟩ := encI_ok (G := G) (B' := B') hp1 he s1
        obtain ⟨k3, k4⟩ := encRIs_ok hp hr s2
        exact ⟨k1.app k3, .cons k2 k4⟩
      · cases h
    · cases hp
theorem oneV_sim {vs : List SV} {qs : List PV} (h : CSim B vs qs) : VSim B (oneV vs) (oneP qs) := by
  match vs, qs, h with
  | [], [], h => exact .tup _ _ rfl (fun j c q h1 => by simp at h1)
  | [v], [q], h => exact h.head
  | v :: v' :: vs, q :: q' :: qs, h => exact .tup _ _ h.len h.rep
  | [], _ :: _, h => have := h.len; simp at this
  | _ :: _, [], h => have := h.len; simp at this
  | [_], _ :: _ :: _, h => have := h.len; simp at this
  | _ :: _ :: _, [_], h => have := h.len; simp at this
/-- What the boxes are that a call turns. -/
def Turned (s : SS) (ks js : List Nat) (t : Nat) (sb : Option SBox) : Prop :=
  memN ks t = true ∨ t ∈ js ∨ (∃ ty cs, lkB s.bx t = some (.st ty cs)) ∨ ∃ e k ty xs pins e' k' ty' xs', lkB s.bx t = some (.rw e k ty xs pins) ∧ sb = some (.rw e' k' ty' xs' (unpin pins)) ∧ xs'.length = xs.length
theorem zipR_ids : ∀ {rows : List (Nat × Nat × Nat × Ty)} {is : List Nat} {j R e k : Nat} {t : Ty}, findR (zipR rows is) j = some (R, e, k, t) → R ∈ is
  | [], is, j, R, e, k, t, h => by cases is <;> cases h
  | (j0, e0, k0, t0) :: rows, [], j, R, e, k, t, h => by cases h
  | (j0, e0, k0, t0) :: rows, R0 :: is, j, R, e, k, t, h => by
    simp only [zipR, findR] at h
    split at h
    · injection h with h
      injection h with h _
      subst h
      exact List.mem_cons_self
    · exact List.mem_cons_of_mem _ (zipR_ids h)
theorem put_ids {rows : List (Nat × Nat × Nat × Ty)} {is : List Nat} : ∀ {cs : List SD} {j : Nat} {vs : List SV} {bx : List (Nat × Option SBox)}, putCells (zipR rows is) j cs [] = some (vs, bx) → ∀ t sb, (t, sb) ∈ bx → t ∈ is
  | [], j, vs, bx, h, t, sb, hm => by
    simp only [putCells] at h
    injection h with h
    injection h with e1 e2
    subst e1 e2
    cases hm
  | c :: cs, j, vs, bx, h, t, sb, hm => by
    simp only [putCells] at h
    split at h
    · rename_i R e k t' hf
      split at h
      · rename_i xs vs' bx' hx hr
        injection h with h
        injection h with e1 e2
        subst e1 e2
        rcases List.mem_cons.1 hm with e | hm
        · injection e with e _
          subst e
          exact zipR_ids hf
        · exact put_ids hr t sb hm
      · cases h
    · split at h
      · rename_i vs' bx' hr
        injection h with h
        injection h with e1 e2
        subst e1 e2
        exact put_ids hr t sb hm
      · cases h
theorem encO_ok (hs : Sim s p) {pt : PT} {b : IB} {is js : List Nat} {x : pt.den} {o : b.den} {v : SV} {q : PV} {m : MU} (hv : VSim s.bx v q) (hd : decI s pt v = some (x, is)) (hl : lenO pt b x o) (h : encO s pt b is js o = some m) (hsn : Seen B' m.us) :
    (UAl G B' m.us (toO pt b is js x o) ∧ m.gs = gone1 pt is ∧ ∀ i ∈ m.gs, memN m.ks i = true) ∧ ∀ t sb, (t, sb) ∈ m.us → Turned s m.ks js t sb := by
  have nil : some (⟨[], [], []⟩ : MU) = some m → toO pt b is js x o = [] → gone1 pt is = [] → (UAl G B' m.us (toO pt b is js x o) ∧ m.gs = gone1 pt is ∧ ∀ i ∈ m.gs, memN m.ks i = true) ∧ ∀ t sb, (t, sb) ∈ m.us → Turned s m.ks js t sb := fun h1 h2 h3 => by
    injection h1 with h1
    subst h1
    rw [h2, h3]
    exact ⟨⟨.nil, rfl, fun _ h => by cases h⟩, fun t sb h => by cases h⟩
  cases pt with
  | lf t => cases b with
    | no => exact nil h rfl rfl
    | _ => cases h
  | ag t => cases b with
    | no => exact nil h rfl rfl
    | _ => cases h
  | pl t => cases b with
    | no => exact nil h rfl rfl
    | _ => cases h
  | ps t => cases b with
    | no => exact nil h rfl rfl
    | _ => cases h
  | fn f a c => cases b with
    | no => exact nil h rfl rfl
    | _ => cases h
  | io l => cases b <;> cases h
  | agr n rows => cases b <;> cases h
  | own e k t => cases b with
    | no => cases h
    | bx => cases h
    | own e' k' t' =>
      obtain ⟨i, rfl, h1, h2, e2, k2, t2, xs2, pins, h3, h4⟩ := decRow_ok hs hv (show decRow s e k t v = some (x, is) from hd)
      have h : some (⟨[], [(i, some (.rw e' k' t' o (pinsAt s i)))], []⟩ : MU) = some m := h
      injection h with h
      subst h
      have hp : pinsAt s i = unpin pins := by unfold pinsAt; rw [h3]
      rw [hp]
      have hl : (show List t'.den from o).length = (show List t.den from x).length := hl
      refine ⟨⟨.cons i _ _ _ _ (fun y hy => ?_) (fun h => by cases h) .nil, rfl, fun _ h => by cases h⟩, fun t sb hm => ?_⟩
      · injection hy with hy
        subst hy
        refine ⟨rfl, fun pp pin hpin => ?_⟩
        rw [lkP_unpin, Option.map_eq_some_iff] at hpin
        obtain ⟨pin0, h5, rfl⟩ := hpin
        have hbx := hs.bx i
        rw [h3] at hbx
        obtain ⟨h6, _⟩ := hbx.2 pp pin0 h5
        exact ⟨by show pin0.i.toNat < (show List t'.den from o).length; rw [hl]; show _ < List.length _; rw [← h4]; exact h6, fun cs h => by cases h⟩
      · simp only [List.mem_cons, List.not_mem_nil, or_false, Prod.mk.injEq] at hm
        obtain ⟨rfl, rfl⟩ := hm
        exact .inr (.inr (.inr ⟨_, _, _, _, _, _, _, _, _, h3, rfl, by show (show List t'.den from o).length = _; rw [hl]; exact h4.symm⟩))
  | mv e k t => cases b with
    | own => cases h
    | bx => cases h
    | no =>
      obtain ⟨i, rfl, _⟩ := decRow_ok hs hv (show decRow s e k t v = some (x, is) from hd)
      have h : some (⟨[i], [], [i]⟩ : MU) = some m := h
      injection h with h
      subst h
      exact ⟨⟨.nil, rfl, fun j hj => memN_mem.2 hj⟩, fun t sb hm => by cases hm⟩
  | bx ty n rows => cases b with
    | own => cases h
    | no => cases h
    | bx ty' n' rows' =>
      have hb : ∃ i is' cs ty0, is = i :: is' ∧ lkB s.bx i = some (.st ty0 cs) := by
        replace hd : decBx s ty n rows v = some (x, is) := hd
        clear h
        unfold decBx at hd
        split at hd
        · rename_i i
          split at hd
          · rename_i ty0 cs hb
            obtain ⟨_, hd⟩ := chk_some hd
            split at hd
            · injection hd with hd
              injection hd with _ hd
              exact ⟨i, _, cs, ty0, hd.symm, hb⟩
            · cases hd
          · cases hd
        · cases hd
      obtain ⟨i, is', cs, ty0, rfl, hb⟩ := hb
      have h : (match encSt rows' js n' o with | some (vs, bx) => some (⟨is', (i, some (.st ty' vs)) :: bx, is'⟩ : MU) | none => none) = some m := h
      split at h
      · rename_i vs bx he
        injection h with h
        subst h
        obtain ⟨k1, k2⟩ := encSt_ok (G := G) (B' := B') he
        have hc := k2 fun t x hm => hsn t x (List.mem_cons_of_mem _ hm)
        refine ⟨⟨.cons i _ _ _ _ (fun x hx => by injection hx with hx; subst hx; exact ⟨_, rfl, hc⟩) (fun h => by cases h) k1, rfl, fun j hj => memN_mem.2 hj⟩, fun t sb hm => ?_⟩
        rcases List.mem_cons.1 hm with e | hm
        · injection e with e1 e2
          subst e1 e2
          exact .inr (.inr (.inl ⟨_, _, hb⟩))
        · exact .inr (.inl (put_ids he t sb hm))
      · cases h
theorem Turned.more {ks ks' js js' : List Nat} {t : Nat} {sb : Option SBox} (h : Turned s ks js t sb) (hk : ∀ t, memN ks t = true → memN ks' t = true) (hj : ∀ t ∈ js, t ∈ js') : Turned s ks' js' t sb := by
  rcases h with h | h | h
  · exact .inl (hk t h)
  · exact .inr (.inl (hj t h))
  · exact .inr (.inr h)
theorem encOs_ok (hs : Sim s p) : ∀ {ps : List PT} {ls : List IB} {iss kss : List (List Nat)} {x : dens ps} {o : outT ls} {vs : List SV} {qs : List PV} {m : MU}, CSim s.bx vs qs → decIs s ps vs = some (x, iss) → lenOs ps ls x o → encOs s ps ls iss kss o = some m → Seen B' m.us →
    (UAl G B' m.us (toOs ps ls iss kss x o) ∧ m.gs = gones ps iss ∧ ∀ i ∈ m.gs, memN m.ks i = true) ∧ ∀ t sb, (t, sb) ∈ m.us → Turned s m.ks (flatN kss) t sb
  | [], [], [], [], x, o, vs, qs, m, _, _, _, h, _ => by
    have h : some (⟨[], [], []⟩ : MU) = some m := h
    injection h with h
    subst h
    exact ⟨⟨.nil, rfl, fun _ h => by cases h⟩, fun t sb h => by cases h⟩
  | [], [], [], _ :: _, x, o, vs, qs, m, _, _, _, h, _ => by cases h
  | [], [], _ :: _, _, x, o, vs, qs, m, _, _, _, h, _ => by cases h
  | [], _ :: _, _, _, x, o, vs, qs, m, _, _, _, h, _ => by cases h
  | _ :: _, [], _, _, x, o, vs, qs, m, _, _, _, h, _ => by cases h
  | _ :: _, _ :: _, [], _, x, o, vs, qs, m, _, _, _, h, _ => by cases h
  | _ :: _, _ :: _, _ :: _, [], x, o, vs, qs, m, _, _, _, h, _ => by cases h
  | pt :: ps, b :: ls, is :: iss, js :: kss, x, o, vs, qs, m, hv, hd, hl, h, hsn => by
    have h : (match encO s pt b is js o.1, encOs s ps ls iss kss o.2 with | some m, some m' => some (m.app m') | _, _ => none) = some m := h
    cases vs with
    | nil => cases hd
    | cons v vs =>
    rcases hv.cases with ⟨h1, _⟩ | ⟨v', q, vs', qs', h1, rfl, h2, h3⟩
    · cases h1
    · injection h1 with e1 e2
      subst e1 e2
      simp only [decIs] at hd
      split at hd
      · rename_i y is1 ys iss1 m1 m2
        injection hd with hd
        injection hd with e1 e2
        injection e2 with e2 e3
        subst e1 e2 e3
        split at h
        · rename_i ma mb ha hb
          injection h with h
          subst h
          have hsn : Seen B' (ma.us ++ mb.us) := hsn
          obtain ⟨s1, s2⟩ := hsn.app
          obtain ⟨⟨k1, g1, g2⟩, k2⟩ := encO_ok hs h2 m1 hl.1 ha s1
          obtain ⟨⟨k3, g3, g4⟩, k4⟩ := encOs_ok hs h3 m2 hl.2 hb s2
          refine ⟨⟨k1.app k3, by show ma.gs ++ mb.gs = _; rw [g1, g3]; rfl, fun i hi => ?_⟩, fun t sb hm => ?_⟩
          · have hi : i ∈ ma.gs ++ mb.gs := hi
            rcases List.mem_append.1 hi with hi | hi
            · exact memN_mem.2 (List.mem_append_left _ (memN_mem.1 (g2 i hi)))
            · exact memN_mem.2 (List.mem_append_right _ (memN_mem.1 (g4 i hi)))
          have hm : (t, sb) ∈ ma.us ++ mb.us := hm
          rcases List.mem_append.1 hm with hm | hm
          · exact (k2 t sb hm).more (fun t ht => memN_mem.2 (List.mem_append_left _ (memN_mem.1 ht))) fun t ht => List.mem_append_left _ ht
          · exact (k4 t sb hm).more (fun t ht => memN_mem.2 (List.mem_append_right _ (memN_mem.1 ht))) fun t ht => List.mem_append_right _ ht
        · cases h
      · cases hd
theorem gone_ual (l : BU) : ∀ (is : List Nat), (∀ i ∈ is, memN G i = true) → UAl G B' (goneT is) (goneU l is)
  | [], _ => .nil
  | a :: is, hg => .cons a _ _ _ _ (fun y hy => by cases hy) (fun _ => hg a List.mem_cons_self) (gone_ual l is fun i hi => hg i (List.mem_cons_of_mem _ hi))
theorem goneT_ids : ∀ {is : List Nat} {t : Nat} {sb : Option SBox}, (t, sb) ∈ goneT is → t ∈ is ∧ sb = none
  | [], t, sb, h => by cases h
  | a :: is, t, sb, h => by
    rcases List.mem_cons.1 h with e | h
    · injection e with e1 e2; subst e1 e2; exact ⟨List.mem_cons_self, rfl⟩
    · obtain ⟨h1, h2⟩ := goneT_ids h; exact ⟨List.mem_cons_of_mem _ h1, h2⟩
theorem goneT_mem : ∀ {is : List Nat} {t : Nat}, t ∈ is → (t, none) ∈ goneT is
  | a :: is, t, h => by
    rcases List.mem_cons.1 h with rfl | h
    · exact List.mem_cons_self
    · exact List.mem_cons_of_mem _ (goneT_mem h)
theorem encIs_ok : ∀ {ps : List PT} {iss : List (List Nat)} {x : dens ps} {vs : List SV} {bs : List (Nat × Option SBox)}, ptsOkM ps = true → encIs ps iss x = some (vs, bs) → Seen B' bs → UAl G B' bs (toIs ps iss x).2 ∧ CSim B' vs (toIs ps iss x).1
  | [], [], x, vs, bs, _, h, _ => by
    injection h with h
    injection h with e1 e2
    subst e1 e2
    exact ⟨.nil, .nil⟩
  | [], _ :: _, x, vs, bs, _, h, _ => by cases h
  | _ :: _, [], x, vs, bs, _, h, _ => by cases h
  | pt :: ps, is :: iss, x, vs, bs, hp, h, hs => by
    simp only [encIs] at h
    simp only [ptsOkM] at hp
    split at hp
    · rename_i hp1
      split at h
      · rename_i v b vs' bs' he hr
        injection h with h
        injection h with e1 e2
        subst e1 e2
        obtain ⟨s1, s2⟩ := hs.app
        obtain ⟨k1, k2⟩ := encI_ok (G := G) (B' := B') hp1 he s1
        obtain ⟨k3, k4⟩ := encIs_ok hp hr s2
        exact ⟨k1.app k3, .cons k2 k4⟩
      · cases h
    · cases hp
theorem UAl.dom {us : List (Nat × Option SBox)} {u : BU} (h : UAl G B' us u) : domU u = idU us := by
  induction h with
  | nil => rfl
  | cons t sb b us u h1 h2 h ih => simp only [domU, idU, ih]
theorem seen_of : ∀ {l l' : List (Nat × Option SBox)}, (idU l).Nodup → Seen (l ++ l') l
  | [], _, _, t, x, hm => by cases hm
  | (i, b) :: l, l', hn, t, x, hm => by
    rw [show idU ((i, b) :: l) = i :: idU l from rfl, List.nodup_cons] at hn
    rw [List.cons_append, lkB_cons]
    rcases List.mem_cons.1 hm with e | hm
    · injection e with e1 e2
      subst e1 e2
      rw [if_pos rfl]
    · rw [if_neg (fun (e : t = i) => hn.1 (by rw [← e]; exact idU_mem.2 ⟨_, hm⟩))]
      exact seen_of hn.2 t x hm
end Go.Proofs.Ytjeeclabnimbbaa

/- The typed executor: a call that turns boxes, or answers rows of its own: states. -/
namespace Go.Proofs.Ytjeeclabnimbbaa
open Go.RowKit

variable {B B' : List (Nat × Option SBox)} {s : SS} {p : PS} {P : Program} {ρ : Type} {G : List Nat} {sc : List Nat}
theorem shape_new : ∀ (rs : List PT) (base : Nat), shapeOk rs (newIds base rs)
  | [], _ => trivial
  | p :: l, base => ⟨List.length_range', shape_new l _⟩
theorem shapeIO_new : ∀ (ls : List IB) (base : Nat), shapeIO ls (newIO base ls)
  | [], _ => trivial
  | p :: l, base => ⟨List.length_range', shapeIO_new l _⟩
theorem lkU_mem : ∀ {l : BU} {t : Nat} {B : Box}, lkU l t = some B → (t, B) ∈ l
  | [], t, B, h => by cases h
  | (j, C) :: l, t, B, h => by
    simp only [lkU] at h
    split at h
    · rename_i e; subst e; injection h with h; subst h; exact List.mem_cons_self
    · exact List.mem_cons_of_mem _ (lkU_mem h)
theorem pu_ids {rows : List (Nat × Nat × Nat × Ty)} {is : List Nat} : ∀ {ds : List D} {j t : Nat} {Bx : Box}, (t, Bx) ∈ puCells (zipR rows is) j ds → t ∈ is
  | [], j, t, Bx, h => by cases h
  | d :: ds, j, t, Bx, h => by
    simp only [puCells] at h
    split at h
    · rename_i hf
      split at h
      · rcases List.mem_cons.1 h with e | h
        · injection e with e _; subst e; exact zipR_ids hf
        · exact pu_ids h
      · exact pu_ids h
    · exact pu_ids h
theorem toI_ids {pt : PT} {is : List Nat} {x : pt.den} {t : Nat} {Bx : Box} (h : (t, Bx) ∈ (toI pt is x).2) : t ∈ is := by
  cases pt with
  | lf => cases h
  | ag => cases h
  | pl => cases h
  | ps => cases h
  | fn => cases h
  | io => cases h
  | own e k t' =>
    simp only [toI] at h
    split at h
    · simp only [List.mem_cons, List.not_mem_nil, or_false, Prod.mk.injEq] at h; simp [h.1]
    · cases h
  | mv e k t' =>
    simp only [toI] at h
    split at h
    · simp only [List.mem_cons, List.not_mem_nil, or_false, Prod.mk.injEq] at h; simp [h.1]
    · cases h
  | bx ty n rows =>
    simp only [toI] at h
    split at h
    · rcases List.mem_cons.1 h with e | h
      · injection e with e _; subst e; exact List.mem_cons_self
      · exact List.mem_cons_of_mem _ (pu_ids h)
    · cases h
  | agr n rows => exact pu_ids h
theorem flatN_app (l : List Nat) (ls : List (List Nat)) : flatN (l :: ls) = l ++ flatN ls := rfl
theorem toIs_ids : ∀ {ps : List PT} {iss : List (List Nat)} {x : dens ps} {t : Nat} {Bx : Box}, (t, Bx) ∈ (toIs ps iss x).2 → t ∈ flatN iss
  | [], _, _, _, _, h => by cases h
  | _ :: _, [], _, _, _, h => by cases h
  | p :: ps, is :: iss, x, t, Bx, h => by
    simp only [toIs, List.mem_append] at h
    rw [flatN_app, List.mem_append]
    exact h.imp toI_ids toIs_ids
/-- The boxes of these numbers. -/
def biOf (p : PS) : List Nat → BU
  | [] => []
  | t :: l => match p.b t with | some B => (t, B) :: biOf p l | none => biOf p l
theorem biOf_lk (p : PS) : ∀ (l : List Nat) (t : Nat), lkU (biOf p l) t = if t ∈ l then p.b t else none
  | [], t => rfl
  | a :: l, t => by
    simp only [biOf]
    cases ha : p.b a with
    | none =>
      rw [biOf_lk p l t]
      by_cases h : t = a
      · subst h; simp [ha]
      · simp [h]
    | some B =>
      simp only [lkU]
      by_cases h : t = a
      · subst h; simp [ha]
      · simp only [h, if_false, List.mem_cons, false_or]; exact biOf_lk p l t
/-- What a call that turns boxes comes to. -/
structure CallR (sc : List Nat) (P : Program) (f : Nat) (dst : Option Nat) (s : SS) (p : PS) (qs : List PV) (v : SV) (m : MU) (r : PV) (u : BU) : Prop where
  ro : s.ro = false
  call : CallM P p.b f qs r u
  sim : Sim (s.updM dst v m) (p.updL dst r u)
  keep : ∀ W, (∀ d, dst = some d → memN W d = true) → Keep sc W s (s.updM dst v m)
  foot : ∀ t Bx, lkU u t = some Bx → t ∈ idU m.us
theorem callM_ok {T : List (Nat × Ent)} (hT : TabOk P T) (hpr : PrOk s) (hs : Sim s p) {f : Nat} {dst : Option Nat} {vs : List SV} {qs : List PV} (hM : isMx T f vs = true) (hv : CSim s.bx vs qs) {k : SV → MU → Option ρ} {res : ρ} (h : callM T f s dst vs k = some res) :
    ∃ v m r u, k v m = some res ∧ CallR sc P f dst s p qs v m r u := by
  unfold callM at h
  split at h
  · cases h
  · rename_i hro
    split at h
    · rename_i en d hen
      split at h
      · rename_i x iss hd
        obtain ⟨r, hf, h⟩ := bindS h
        simp only at h
        split at h
        · rename_i m ws bs hm hbs
          obtain ⟨hc, h⟩ := chk_some h
          simp only [Bool.and_eq_true] at hc
          obtain ⟨c1, c2, c3, c4, c5, c6, c7, c10, c8, c9, c11⟩ := hc
          have c1 := okOld_spec c1
          have c2 := okNew_spec c2
          have c3 := nodupN_spec c3
          have c4 := nodupN_spec c4
          have c5 := okLen_spec c5
          have c6 := subN_spec c6
          have c7 := subN_spec c7
          have c8 := subN_spec c8
          have hE : (anyM en.ps || anyM en.rs) = true := by unfold isMx at hM; rw [hen] at hM; exact hM
          obtain ⟨hlen, hsem⟩ := (hT f _ en hen x r hf).2 hE
          obtain ⟨hsh, hargs, hbox⟩ := decIs_ok hs hv hd
          have hall : ∀ i ∈ flatN iss, i ∈ domU (toIs en.ps iss x).2 := fun i hi => by
            unfold allIn at c10
            split at c10
            · rename_i vv bi hbi
              rw [Bool.and_eq_true] at c10
              have hse := seen_of (l' := []) (nodupN_spec c10.1)
              obtain ⟨z1, _⟩ := encIs_ok (G := []) c11 hbi hse
              rw [z1.dom]
              exact subN_spec c10.2 i hi
            · cases c10
          obtain ⟨hcb, hsem⟩ := hsem iss (newIO (500000 + 64 * d) (ioOf en.rs)) (newIds (500000 + 64 * d + sumJ (ioOf en.rs)) (rsOf en.rs)) hsh (shapeIO_new _ _) (shape_new _ _) c3 (fun j hj => (c2 j (List.mem_append_right _ hj)).2.2) hall
          -- the boxes that are there then
          have hseen : Seen ((m.us ++ (bs ++ goneT m.gs)) ++ stBx m.ks s.bx) (m.us ++ (bs ++ goneT m.gs)) := seen_of c4
          have hG : ∀ i ∈ m.gs, memN (m.gs ++ s.oc) i = true := fun i hi => memN_mem.2 (List.mem_append_left _ hi)
          obtain ⟨s1, s23⟩ := hseen.app
          obtain ⟨s2, _⟩ := s23.app
          obtain ⟨⟨k1, g1, g2⟩, k2⟩ := encOs_ok (G := m.gs ++ s.oc) hs hv hd hlen hm s1
          obtain ⟨k3, k4⟩ := encRIs_ok (G := m.gs ++ s.oc) c9 hbs s2
          have hal := k1.app (k3.app (gone_ual (toIs en.ps iss x).2 m.gs hG))
          have hids : ∀ t, t ∈ idU m.us ++ m.gs → t ∈ idU (m.us ++ (bs ++ goneT m.gs)) := fun t ht => by
            rcases List.mem_append.1 ht with ht | ht
            · obtain ⟨sb, h⟩ := idU_mem.1 ht; exact idU_mem.2 ⟨sb, List.mem_append_left _ h⟩
            · exact idU_mem.2 ⟨none, List.mem_append_right _ (List.mem_append_right _ (goneT_mem ht))⟩
          have hids2 : ∀ t, t ∈ idU bs → t ∈ idU (m.us ++ (bs ++ goneT m.gs)) := fun t ht => by obtain ⟨sb, h⟩ := idU_mem.1 ht; exact idU_mem.2 ⟨sb, List.mem_append_right _ (List.mem_append_left _ h)⟩
          have hids3 : ∀ t, t ∈ idU (m.us ++ (bs ++ goneT m.gs)) → t ∈ idU m.us ++ m.gs ∨ t ∈ idU bs := fun t ht => by
            obtain ⟨sb, h⟩ := idU_mem.1 ht
            rcases List.mem_append.1 h with h | h
            · exact .inl (List.mem_append_left _ (idU_mem.2 ⟨sb, h⟩))
            · rcases List.mem_append.1 h with h | h
              · exact .inr (idU_mem.2 ⟨sb, h⟩)
              · exact .inl (List.mem_append_right _ (goneT_ids h).1)
          have hlk := fun t => ual_lk hal (stBx m.ks s.bx) t
          have hnone2 : ∀ t, t ∈ idU bs ++ (flatN (newIO (500000 + 64 * d) (ioOf en.rs)) ++ flatN (newIds (500000 + 64 * d + sumJ (ioOf en.rs)) (rsOf en.rs))) → p.b t = none := fun t ht => by
            obtain ⟨n1, n2, _⟩ := c2 t ht
            have := hs.bx t
            rw [n2] at this
            exact this (newB_spec n1).1
          have hnone : ∀ t, t ∈ idU bs → p.b t = none := fun t ht => hnone2 t (List.mem_append_left _ ht)
          have hBL : BLeK m.ks s.bx ((m.us ++ (bs ++ goneT m.gs)) ++ stBx m.ks s.bx) := by
            refine ⟨fun t hk e kk ty xs pins hb => ?_, fun t ty cs hb => ?_⟩
            · rcases hlk t with ⟨m1, sb, b, m2, m3, m4, m5⟩ | ⟨m1, m2, _⟩
              · obtain ⟨sb', hsb'⟩ := idU_mem.1 m1
                rcases List.mem_append.1 hsb' with hin | hin
                · rcases k2 t sb' hin with q | q | ⟨ty', cs', q⟩ | ⟨e1, kk1, ty1, xs1, pins1, e2, kk2, ty2, xs2, q1, q2, q3⟩
                  · rw [hk] at q; cases q
                  · have := (c2 t (List.mem_append_right _ (List.mem_append_left _ q))).2.1
                    rw [hb] at this
                    cases this
                  · rw [hb] at q; cases q
                  · rw [hb] at q1
                    injection q1 with q1
                    injection q1 with z1 z2 z3 z4 z5
                    subst z3
                    have z4 := eq_of_heq z4
                    subst z1 z2 z4 z5 q2
                    refine ⟨_, _, _, _, _, hseen t _ (List.mem_append_left _ hin), q3, fun pp pin hp => ⟨⟨pin.i, none⟩, by rw [lkP_unpin, hp]; rfl, rfl⟩⟩
                · rcases List.mem_append.1 hin with hin | hin
                  · have := (c2 t (List.mem_append_left _ (idU_mem.2 ⟨_, hin⟩))).2.1
                    rw [hb] at this
                    cases this
                  · rw [g2 t (goneT_ids hin).1] at hk; cases hk
              · exact ⟨e, kk, ty, xs, pins, by rw [m2, lkB_st, hb]; rfl, rfl, fun _ pin hp => ⟨pin, hp, rfl⟩⟩
            · rcases hlk t with ⟨m1, sb, b, m2, m3, m4, m5⟩ | ⟨m1, m2, _⟩
              · obtain ⟨sb', hsb'⟩ := idU_mem.1 m1
                rcases List.mem_append.1 hsb' with hin | hin
                · obtain ⟨cs', q1, _⟩ := c5 t sb' (List.mem_append_left _ hin) ty cs hb
                  subst q1
                  exact ⟨ty, cs', hseen t _ (List.mem_append_left _ hin)⟩
                · rcases List.mem_append.1 hin with hin | hin
                  · have := (c2 t (List.mem_append_left _ (idU_mem.2 ⟨_, hin⟩))).2.1
                    rw [hb] at this
                    cases this
                  · obtain ⟨cs', q1, _⟩ := c5 t sb' (List.mem_append_right _ hin) ty cs hb
                    rw [(goneT_ids hin).2] at q1
                    cases q1
              · exact ⟨ty, _, by rw [m2, lkB_st, hb]; rfl⟩
          have hu : ∀ t, lkU (madeU en.ps en.rs iss (newIO (500000 + 64 * d) (ioOf en.rs)) (newIds (500000 + 64 * d + sumJ (ioOf en.rs)) (rsOf en.rs)) x r) t = lkU (toOs en.ps (ioOf en.rs) iss (newIO (500000 + 64 * d) (ioOf en.rs)) x (outOf en.rs r) ++ ((toRIs (rsOf en.rs) (newIds (500000 + 64 * d + sumJ (ioOf en.rs)) (rsOf en.rs)) (resOf en.rs r)).2 ++ goneU (toIs en.ps iss x).2 m.gs)) t := fun t => by unfold madeU; rw [g1]
          refine ⟨oneV ws, ⟨m.ks, m.us ++ (bs ++ goneT m.gs), m.gs⟩, oneP (toRIs (rsOf en.rs) (newIds (500000 + 64 * d + sumJ (ioOf en.rs)) (rsOf en.rs)) (resOf en.rs r)).1, madeU en.ps en.rs iss (newIO (500000 + 64 * d) (ioOf en.rs)) (newIds (500000 + 64 * d + sumJ (ioOf en.rs)) (rsOf en.rs)) x r, h, hro, ⟨hcb, biOf p (flatN iss), fun t Bx ht => ?_, fun t Bx ht hn => ?_, fun w0 F0 ρ' b w F ws' hb hbn hi hr => ?_⟩, ⟨fun i => ?_, fun t => ?_⟩, fun W hW => ?_, fun t Bx ht => ?_⟩
          · rw [biOf_lk] at ht
            split at ht
            · rename_i hin
              rcases hlk t with ⟨_, _, b, _, m3, _⟩ | ⟨m1, _⟩
              · exact ⟨⟨b, (hu t).trans m3⟩, ht⟩
              · exact absurd (hids t (c6 t hin)) m1
            · cases ht
          · rw [biOf_lk] at hn
            rcases hlk t with ⟨m1, _⟩ | ⟨_, _, m3⟩
            · rcases hids3 t m1 with m1 | m1
              · rcases List.mem_append.1 (c7 t m1) with m1 | m1
                · rw [if_pos m1] at hn; exact hn
                · exact hnone2 t (List.mem_append_right _ (List.mem_append_left _ m1))
              · exact hnone t m1
            · rw [hu, m3] at ht; cases ht
          · refine hsem w0 F0 ρ' b w F ws' qs hargs (fun t Bx ht => ?_) (fun t ht => ?_) hi hr
            · have hm := lkU_mem ht
              obtain ⟨B1, q1, q2⟩ := hbox t Bx hm
              exact ⟨B1, hb t B1 (by rw [biOf_lk, if_pos (toIs_ids hm)]; exact q1), q2⟩
            · have hin := c8 t ht
              rcases hlk t with ⟨_, _, b1, _, m3, _⟩ | ⟨m1, _⟩
              · refine hbn t b1 ((hu t).trans m3) ?_
                rw [biOf_lk, if_neg (fun h1 => ?_)]
                exact (List.nodup_append.1 c3).2.2 t h1 t ht rfl
              · exact absurd ((List.mem_append.1 hin).elim (fun h => hids t (List.mem_append_left _ h)) (hids2 t)) m1
          · show VSim ((m.us ++ (bs ++ goneT m.gs)) ++ stBx m.ks s.bx) (lkV (updS (stSl m.ks s.sl) (some d) (oneV ws)) i) (tupd p.t (some d) _ i)
            rw [lkV_upd]
            unfold tupd
            split
            · exact oneV_sim k4
            · rw [lkV_st]; exact (hs.sl i).st hBL
          · show BSim ((m.us ++ (bs ++ goneT m.gs)) ++ stBx m.ks s.bx) (memN (m.gs ++ s.oc) t) (lkB ((m.us ++ (bs ++ goneT m.gs)) ++ stBx m.ks s.bx) t) (bupdL p.b _ t)
            rcases hlk t with ⟨_, sb, b, m2, m3, m4, m5⟩ | ⟨_, m2, m3⟩
            · rw [m2]
              have hb : bupdL p.b (madeU en.ps en.rs iss (newIO (500000 + 64 * d) (ioOf en.rs)) (newIds (500000 + 64 * d + sumJ (ioOf en.rs)) (rsOf en.rs)) x r) t = some b := by simp only [bupdL, hu, m3]
              rw [hb]
              cases sb with
              | none => intro ho; rw [m5 rfl] at ho; cases ho
              | some y => have := m4 y rfl; cases y <;> exact this
            · rw [m2, lkB_st]
              have hb : bupdL p.b (madeU en.ps en.rs iss (newIO (500000 + 64 * d) (ioOf en.rs)) (newIds (500000 + 64 * d + sumJ (ioOf en.rs)) (rsOf en.rs)) x r) t = p.b t := by simp only [bupdL, hu, m3]
              rw [hb]
              have hbx := hs.bx t
              cases hl : lkB s.bx t with
              | none =>
                rw [hl] at hbx
                intro ho
                refine hbx (memN_not.2 fun hi => ?_)
                rw [memN_not] at ho
                exact ho (List.mem_append_right _ hi)
              | some y =>
                rw [hl] at hbx
                cases y with
                | st ty cs => obtain ⟨qs', z1, z2⟩ := hbx; exact ⟨qs', z1, z2.st hBL⟩
                | rw e kk ty xs pins => exact hbx
          · have hkp : ∀ t, memN m.ks t = true → memN s.pr t = false := fun t ht => c1 t (List.mem_append_right _ (List.mem_append_left _ (memN_mem.1 ht)))
            refine ⟨rfl, rfl, fun t ht => ?_, fun i hi hsf => ?_, fun t _ ty cs hb => ?_⟩
            · show SameB _ (lkB ((m.us ++ (bs ++ goneT m.gs)) ++ stBx m.ks s.bx) t)
              rcases hlk t with ⟨m1, _⟩ | ⟨_, m2, _⟩
              · rcases hids3 t m1 with m1 | m1
                · have : t ∈ idU m.us ++ (m.ks ++ m.gs) := by
                    rcases List.mem_append.1 m1 with m1 | m1
                    · exact List.mem_append_left _ m1
                    · exact List.mem_append_right _ (List.mem_append_right _ m1)
                  rw [c1 t this] at ht; cases ht
                · rw [(newB_spec (c2 t (List.mem_append_left _ m1)).1).2] at ht; cases ht
              · rw [m2, lkB_st]
                obtain ⟨b', z1, z2⟩ := hpr t ht
                rw [z1]
                cases b' with
                | st ty cs => simp only [Option.map_some, stSB]; rw [sts_norow cs z2]; rfl
                | rw e kk ty xs pins => exact ⟨pins, rfl⟩
            · show lkV (updS (stSl m.ks s.sl) (some d) (oneV ws)) i = lkV s.sl i
              rw [lkV_upd, if_neg (fun e => by rw [hW i e] at hi; cases hi), lkV_st]
              exact st_safe hkp _ hsf
            · show ∃ cs', lkB ((m.us ++ (bs ++ goneT m.gs)) ++ stBx m.ks s.bx) t = _ ∧ _
              rcases hlk t with ⟨m1, sb, b, m2, m3, m4, m5⟩ | ⟨m1, m2, _⟩
              · obtain ⟨sb', hsb'⟩ := idU_mem.1 m1
                rcases List.mem_append.1 hsb' with hin | hin
                · obtain ⟨cs', q1, q2⟩ := c5 t sb' (List.mem_append_left _ hin) ty cs hb
                  subst q1
                  exact ⟨cs', hseen t _ (List.mem_append_left _ hin), q2⟩
                · rcases List.mem_append.1 hin with hin | hin
                  · have := (c2 t (List.mem_append_left _ (idU_mem.2 ⟨_, hin⟩))).2.1
                    rw [hb] at this
                    cases this
                  · obtain ⟨cs', q1, q2⟩ := c5 t sb' (List.mem_append_right _ hin) ty cs hb
                    rw [(goneT_ids hin).2] at q1
                    cases q1
              · exact ⟨_, by rw [m2, lkB_st, hb]; rfl, stVs_len _ _⟩
          · rcases hlk t with ⟨m1, _⟩ | ⟨_, _, m3⟩
            · exact m1
            · rw [hu, m3] at ht; cases ht
        · cases h
      · cases h
    · cases h
end Go.Proofs.Ytjeeclabnimbbaa

/- The typed executor: regions are the pure machine's. -/
namespace Go.Proofs.Ytjeeclabnimbbaa
open Go.RowKit

variable {sc : List Nat} {P : Program} {T : List (Nat × Ent)} {ops : Array Oper}
/-- Steps at which something may be forgotten. -/
def LeQ (q : Bool) (p p' : PS) : Prop := match q with | true => Le p p' | false => p' = p
theorem LeQ.refl (q : Bool) (p : PS) : LeQ q p p := by cases q; exact rfl; exact Le.refl p
def RunQ (q : Bool) (P : Program) (ops : Array Oper) (bd : Nat → Bd) : Nat → List Oper → PS → (PS → Prop) → Prop
  | _, [], s, K => K s
  | i, o :: l, s, K => ∃ s1, LeQ q s s1 ∧ ∃ r u, Eff P ops o s1 r u ∧ (q = false → FootC ops o s1 u (bd i)) ∧ RunQ q P ops bd (i + 1) l (s1.updL o.dst r u) K
theorem listQ_ok {bd : Nat → Bd} {w0 : WM} {F0 : Nat → Prop} {n : Nat} {Q : Exit → Act → World → Prop} {Qs : Exit → PS → Prop} (hQ : ∀ e s a w, Qs e s → Conc n w0 F0 s a w → Q e a w) : ∀ (i : Nat) (l : List Oper) (s : PS) (a : Act) (w : World), dstsB n l = true → RunQ true P ops bd i l s (Qs .normal) → Conc n w0 F0 s a w → wpList P ops Q l a w
  | _, [], s, a, w, _, h, hc => hQ _ s a w h hc
  | i, o :: l, s, a, w, hd, h, hc => by
    obtain ⟨s1, h1, r, u, h2, _, h3⟩ := h
    have hc1 := (show Le s s1 from h1) n w0 F0 a w hc
    obtain ⟨hd1, hd2⟩ := dstsB_cons hd
    exact wpList_step fun K hK => op_ok (f := 0) hc1 h2 hd1 (fun a' w' hc' => hK _ _ (listQ_ok hQ (i + 1) l _ a' w' hd2 h3 hc'))
theorem pwp_regionQ {bd : Nat → Bd} {n : Nat} {Qs : Exit → PS → Prop} {s : PS} {id : Nat} {l : List Oper} (hd : dstsB n l = true) (h : RunQ true P l.toArray bd 0 l s (Qs .normal)) : PWP P n (.region id l.toArray false) Qs s :=
  fun _ _ a w hc => wp_region_lit (listQ_ok (Qs := Qs) (fun _ s' _ _ h1 h2 => ⟨s', h1, h2⟩) 0 l s a w hd h hc)
theorem runI_take {bd : Nat → Bd} {K : PS → Prop} : ∀ (l : List Oper) (k : Nat) (s : PS), (∀ j, j < l.length → l[j]? = ops[k + j]?) → RunQ false P ops bd k l s K → RunI P ops bd (List.range' k l.length) s K
  | [], k, s, _, h => h
  | o :: l, k, s, hl, h => by
    obtain ⟨s1, he, r, u, h1, hf, h2⟩ := h
    have he : s1 = s := he
    subst he
    have h0 : ops[k]? = some o := by simpa using (hl 0 (by simp)).symm
    rw [List.length_cons, List.range'_succ]
    exact ⟨o, r, u, h0, h1, hf rfl, runI_take l (k + 1) _ (fun j hj => by have := hl (j + 1) (by simp; omega); simpa [Nat.add_assoc, Nat.add_comm 1 j] using this) h2⟩
theorem runT_of {bd : Nat → Bd} {K : PS → Prop} : ∀ (l : List Oper) (i k : Nat) (s : PS), (∀ j, j < l.length → l[j]? = ops[k + j]?) → RunQ true P ops bd i l s K → RunT P ops (List.range' k l.length) s K
  | [], i, k, s, _, h => h
  | o :: l, i, k, s, hl, h => by
    obtain ⟨s1, hle, r, u, h1, _, h2⟩ := h
    have h0 : ops[k]? = some o := by simpa using (hl 0 (by simp)).symm
    rw [List.length_cons, List.range'_succ]
    exact ⟨s1, hle, o, r, u, h0, h1, runT_of l (i + 1) (k + 1) _ (fun j hj => by have := hl (j + 1) (by simp; omega); simpa [Nat.add_assoc, Nat.add_comm 1 j] using this) h2⟩
theorem runP_mono {q : Bool} {bd : Nat → Bd} : ∀ {l : List Oper} {i : Nat} {p : PS} {K K' : PS → Prop}, RunQ q P ops bd i l p K → (∀ p', K p' → K' p') → RunQ q P ops bd i l p K'
  | [], i, p, K, K', h, hk => hk p h
  | o :: l, i, p, K, K', h, hk => by
    obtain ⟨s1, h1, r, u, h2, hf, h3⟩ := h
    exact ⟨s1, h1, r, u, h2, hf, runP_mono h3 hk⟩
theorem runP_append {q : Bool} {bd : Nat → Bd} : ∀ {a b : List Oper} {i : Nat} {p : PS} {K : PS → Prop}, RunQ q P ops bd i a p (fun p' => RunQ q P ops bd (i + a.length) b p' K) → RunQ q P ops bd i (a ++ b) p K
  | [], b, i, p, K, h => h
  | o :: a, b, i, p, K, h => by
    obtain ⟨s1, h1, r, u, h2, hf, h3⟩ := h
    refine ⟨s1, h1, r, u, h2, hf, runP_append ?_⟩
    rw [List.length_cons] at h3
    rw [show i + 1 + a.length = i + (a.length + 1) by omega]
    exact h3
/-! ### What operations look at -/
mutual
theorem refsV_ok {B : List (Nat × Option SBox)} : ∀ {v : SV} {q : PV} {l : List Nat}, VSim B v q → refsV v = some l → ∀ x ∈ refsP q, x ∈ l
  | .junk, q, l, _, h, x, hx => by cases h
  | .d c, q, l, hv, h, x, hx => by cases hv with | d _ y _ => simp [refsP] at hx
  | .fe cs, q, l, hv, h, x, hx => by cases hv with | fe _ ds _ _ => simp [refsP] at hx
  | .ptr t o, q, l, hv, h, x, hx => by
    cases hv with
    | ptr _ _ ty cs hb => injection h with h; subst h; simpa [refsP] using hx
  | .row t, q, l, hv, h, x, hx => by
    cases hv with
    | row _ n e k ty xs pins hb hn => injection h with h; subst h; simpa [refsP] using hx
  | .re t p o, q, l, hv, h, x, hx => by
    cases hv with
    | re _ _ _ n i e k ty xs pins pin hb hn hp hi => injection h with h; subst h; simpa [refsP] using hx
  | .vw t p o, q, l, hv, h, x, hx => by
    cases hv with
    | vw _ _ _ n e k ty xs pins hb hn => injection h with h; subst h; simpa [refsP] using hx
  | .ag cs, q, l, hv, h, x, hx => by
    cases hv with
    | ag _ qs hl hr => exact refsVs_ok (qs := qs) ⟨hl, hr⟩ h x (by simpa [refsP] using hx)
  | .tup cs, q, l, hv, h, x, hx => by
    cases hv with
    | tup _ qs hl hr => exact refsVs_ok (qs := qs) ⟨hl, hr⟩ h x (by simpa [refsP] using hx)
  | .fn f ps qs, q, l, hv, h, x, hx => by
    cases hv with
    | fn _ _ _ ps' qs' hl hr hl2 hr2 =>
      simp only [refsV] at h
      split at h
      · rename_i a b ha hb
        injection h with h
        subst h
        simp only [refsP, List.mem_append] at hx ⊢
        rcases hx with hx | hx
        · exact .inl (refsVs_ok (qs := ps') ⟨hl, hr⟩ ha x hx)
        · exact .inr (refsVs_ok (qs := qs') ⟨hl2, hr2⟩ hb x hx)
      · cases h
theorem refsVs_ok {B : List (Nat × Option SBox)} : ∀ {cs : List SV} {qs : List PV} {l : List Nat}, CSim B cs qs → refsVs cs = some l → ∀ x ∈ refsPs qs, x ∈ l
  | [], qs, l, hv, h, x, hx => by
    rcases hv.cases with ⟨_, rfl⟩ | ⟨_, _, _, _, h1, _⟩
    · simp [refsPs] at hx
    · cases h1
  | c :: cs, qs, l, hv, h, x, hx => by
    rcases hv.cases with ⟨h1, _⟩ | ⟨c', q, cs', qs', h1, rfl, h2, h3⟩
    · cases h1
    · injection h1 with e1 e2
      subst e1 e2
      simp only [refsVs] at h
      split at h
      · rename_i a b ha hb
        injection h with h
        subst h
        simp only [refsPs, List.mem_append] at hx ⊢
        rcases hx with hx | hx
        · exact .inl (refsV_ok h2 ha x hx)
        · exact .inr (refsVs_ok h3 hb x hx)
      · cases h
end
theorem footX_ok {o : Oper} {s : SS} {p : PS} {l : List Nat} (hs : Sim s p) (h : footX o s = some l) : ∀ x ∈ footO o p, x ∈ l := by
  unfold footX at h
  unfold footO
  split at h <;> rename_i ho <;> simp only [ho]
  · exact refsV_ok (evX_sim hs _) h
  · exact refsV_ok (evX_sim hs _) h
  · exact refsV_ok (evX_sim hs _) h
  · exact refsV_ok (evX_sim hs _) h
  · exact refsV_ok (evX_sim hs _) h
  · rename_i c
    split at h
    · rename_i f hf
      simp only [hf]
      split at h
      · rename_i a b ha hb
        injection h with h
        subst h
        intro x hx
        rcases List.mem_append.1 hx with hx | hx
        · exact List.mem_append_left _ (refsV_ok (evX_sim hs f) ha x hx)
        · exact List.mem_append_right _ (refsVs_ok (evsX_sim hs c.args.toList) hb x hx)
      · cases h
    · rename_i hf
      split
      · rename_i f hf2
        exact absurd hf2 (hf f)
      · exact refsVs_ok (evsX_sim hs c.args.toList) h
  · intro x hx
    simp at hx
theorem subL_spec : ∀ {l m : List Nat}, subL l m = true → ∀ x ∈ l, FootC.memL m x = true
  | [], m, _, x, hx => by cases hx
  | a :: l, m, h, x, hx => by
    simp only [subL] at h
    split at h
    · rename_i ha
      rcases List.mem_cons.1 hx with rfl | hx
      · exact ha
      · exact subL_spec h x hx
    · cases h
theorem memL_spec : ∀ {l : List Nat} {x : Nat}, FootC.memL l x = true → x ∈ l
  | [], x, h => by cases h
  | a :: l, x, h => by
    rw [memL_cons, Bool.or_eq_true] at h
    rcases h with h | h
    · have := of_decide_eq_true h; subst this; simp
    · exact List.mem_cons_of_mem _ (memL_spec h)
theorem footB_ok {B : List Bd} {i : Nat} {o : Oper} {s : SS} {p : PS} {u : Upd} {w : Option (Nat × Box)} (hs : Sim s p) (hw : OkW s o.dst u w) {q : Bool} (h : footB q B i o s u = true) : q = false → FootC ops o p w.toList (nthB B i) := by
  intro hq
  subst hq
  unfold footB at h
  simp only at h
  split at h
  · rename_i fs hf
    rw [Bool.and_eq_true] at h
    refine ⟨fun _ x hx => subL_spec h.1 x (footX_ok hs hf x hx), fun x Bx hx => ?_⟩
    cases w with
    | none => cases hx
    | some y =>
      obtain ⟨t, b⟩ := y
      simp only [Option.toList, lkU] at hx
      split at hx
      · rename_i e
        subst e
        exact subL_spec h.2 x (memL_spec (hw x b rfl).2)
      · cases hx
  · cases h
theorem memL_mem {l : List Nat} {x : Nat} (h : x ∈ l) : FootC.memL l x = true := by
  induction l with
  | nil => cases h
  | cons a l ih =>
    rw [memL_cons, Bool.or_eq_true]
    rcases List.mem_cons.1 h with rfl | h
    · exact .inl (by simp)
    · exact .inr (ih h)
theorem footM_ok {B : List Bd} {i : Nat} {o : Oper} {s : SS} {p : PS} {m : MU} {u : BU} (hs : Sim s p) (hw : ∀ t Bx, lkU u t = some Bx → t ∈ idU m.us) {q : Bool} (h : footM q B i o s m = true) : q = false → FootC ops o p u (nthB B i) := by
  intro hq
  subst hq
  unfold footM at h
  simp only at h
  split at h
  · rename_i fs hf
    rw [Bool.and_eq_true] at h
    exact ⟨fun _ x hx => subL_spec h.1 x (footX_ok hs hf x hx), fun x Bx hx => subL_spec h.2 x (hw x Bx hx)⟩
  · cases h
theorem memN_app : ∀ (a b : List Nat) (i : Nat), memN (a ++ b) i = (memN a i || memN b i)
  | [], b, i => rfl
  | j :: a, b, i => by
    simp only [List.cons_append, memN, memN_app a b i]
    split <;> simp
theorem memN_cons (j : Nat) (l : List Nat) (i : Nat) : memN (j :: l) i = (decide (i = j) || memN l i) := by
  simp only [memN, beq_spec]
  by_cases h : i = j
  · simp [h]
  · simp [h]
theorem uptoG_spec : ∀ {g : Nat} {l a b : List Oper} {d : Nat}, uptoG g l = some (a, d, b) → l = a ++ b ∧ ∃ o ∈ a, o.dst = some d
  | g, [], a, b, d, h => by cases h
  | g, o :: l, a, b, d, h => by
    simp only [uptoG] at h
    split at h
    · rename_i d' hd
      injection h with h
      injection h with h1 h2
      injection h2 with h2 h3
      subst h1 h2 h3
      refine ⟨rfl, o, List.mem_cons_self, ?_⟩
      split at hd
      · rename_i g' d2 e1 e2 hdst
        split at hd
        · injection hd with hd; subst hd; exact hdst
        · cases hd
      · cases hd
    · split at h
      · rename_i a' d' b' h'
        injection h with h
        injection h with h1 h2
        injection h2 with h2 h3
        subst h1 h2 h3
        obtain ⟨h4, o', h5, h6⟩ := uptoG_spec h'
        exact ⟨by rw [h4]; rfl, o', List.mem_cons_of_mem _ h5, h6⟩
      · cases h
theorem dstsOf_mem : ∀ {l : List Oper} {o : Oper} {d : Nat}, o ∈ l → o.dst = some d → memN (dstsOf l) d = true
  | [], o, d, h, _ => by cases h
  | x :: l, o, d, h, hd => by
    rcases List.mem_cons.1 h with rfl | h
    · simp only [dstsOf, hd, memN_cons, decide_true, Bool.true_or]
    · have := dstsOf_mem h hd
      simp only [dstsOf]
      split
      · simp [memN_cons, this]
      · exact this
theorem dstsOf_of : ∀ {l : List Oper} {d : Nat}, memN (dstsOf l) d = true → ∃ o ∈ l, o.dst = some d
  | [], d, h => by cases h
  | x :: l, d, h => by
    simp only [dstsOf] at h
    split at h
    · rename_i d' hd'
      rw [memN_cons, Bool.or_eq_true] at h
      rcases h with h | h
      · have := of_decide_eq_true h
        subst this
        exact ⟨x, List.mem_cons_self, hd'⟩
      · obtain ⟨o, h1, h2⟩ := dstsOf_of h
        exact ⟨o, List.mem_cons_of_mem _ h1, h2⟩
    · obtain ⟨o, h1, h2⟩ := dstsOf_of h
      exact ⟨o, List.mem_cons_of_mem _ h1, h2⟩
theorem dstsOf_app : ∀ (a b : List Oper), dstsOf (a ++ b) = dstsOf a ++ dstsOf b
  | [], b => rfl
  | o :: a, b => by
    simp only [List.cons_append, dstsOf, dstsOf_app a b]
    split <;> rfl
theorem lkV_junkAll : ∀ (ds : List Nat) (l : List (Nat × SV)) (i : Nat), lkV (junkAll ds l) i = if memN ds i = true then .junk else lkV l i
  | [], l, i => by simp [junkAll, memN]
  | d :: ds, l, i => by
    simp only [junkAll, lkV_cons, lkV_junkAll ds l i, memN_cons]
    by_cases h : i = d
    · simp [h]
    · simp [h]

/-- What a row of operations leaves of the pure machine's state. -/
structure Fr (l : List Oper) (s : SS) (p p' : PS) : Prop where
  t : s.ro = true → ∀ i, memN (dstsOf l) i = false → p'.t i = p.t i
  b : s.ro = true → ∀ t, (lkB s.bx t ≠ none ∨ memN (dstsOf l) t = false) → p'.b t = p.b t
theorem upd_ne {s : SS} {dst : Option Nat} {v : SV} {u : Upd} {t : Nat} (h : lkB s.bx t ≠ none) : lkB (s.upd dst v u).bx t ≠ none := by
  cases u with
  | no => exact h
  | grow t' b =>
    show lkB ((t', some b) :: staleB t' s.bx) t ≠ none
    rw [lkB_cons]
    split
    · simp
    · rw [lkB_stale]; simpa using h
  | _ =>
    rename_i t' b
    show lkB ((t', some b) :: s.bx) t ≠ none
    rw [lkB_cons]
    split
    · simp
    · exact h
theorem upd_ro {s : SS} {dst : Option Nat} {v : SV} {u : Upd} : (s.upd dst v u).ro = s.ro := by cases u <;> rfl
theorem fr_step {o : Oper} {l : List Oper} {s : SS} {p p' : PS} {v : SV} {u : Upd} {q : PV} {w : Option (Nat × Box)} (hw : OkW s o.dst u w) (h : Fr l (s.upd o.dst v u) (p.upd o.dst q w) p') : Fr (o :: l) s p p' := by
  have sub : ∀ i, memN (dstsOf (o :: l)) i = false → memN (dstsOf l) i = false ∧ o.dst ≠ some i := fun i hi => by
    simp only [dstsOf] at hi
    split at hi
    · rename_i d hd
      rw [memN_cons, Bool.or_eq_false_iff] at hi
      refine ⟨hi.2, fun e => ?_⟩
      rw [hd] at e
      injection e with e
      have := of_decide_eq_false hi.1
      exact this e.symm
    · rename_i hd
      exact ⟨hi, fun e => by rw [hd] at e; cases e⟩
  refine ⟨fun hro i hi => ?_, fun hro t ht => ?_⟩
  · obtain ⟨h1, h2⟩ := sub i hi
    rw [h.t (by rw [upd_ro]; exact hro) i h1]
    simp only [PS.upd, tupd, if_neg h2]
  · have hb : (p.upd o.dst q w).b t = p.b t := by
      show bupd p.b w t = p.b t
      unfold bupd
      split
      · rename_i j Bx
        rcases (hw j Bx rfl).1 with ⟨h1, h2⟩ | h1
        · split
          · rename_i e
            subst e
            rcases ht with ht | ht
            · exact absurd h1 ht
            · exact absurd h2 (sub t ht).2
          · rfl
        · rw [hro] at h1; cases h1
      · rfl
    rw [h.b (by rw [upd_ro]; exact hro) t (ht.imp upd_ne fun ht => (sub t ht).1), hb]
/-- What a region comes to. -/
def Post (sc W : List Nat) (l : List Oper) (s : SS) (p : PS) {ρ : Type} (k : SS → Option ρ) (res : ρ) (p' : PS) : Prop := ∃ s', Sim s' p' ∧ Keep sc W s s' ∧ PrOk s' ∧ k s' = some res ∧ Fr l s p p'
theorem post_step {W : List Nat} {o : Oper} {l : List Oper} {s : SS} {p p' : PS} {ρ : Type} {k : SS → Option ρ} {res : ρ} {v : SV} {u : Upd} {q : PV} {w : Option (Nat × Box)} (hW : ∀ d, o.dst = some d → memN W d = true) (hpr : PrOk s) (hu : OkU s u) (hw : OkW s o.dst u w)
    (h : Post sc W l (s.upd o.dst v u) (p.upd o.dst q w) k res p') : Post sc W (o :: l) s p k res p' := by
  obtain ⟨s', h1, h2, h3, h4, h5⟩ := h
  exact ⟨s', h1, (keep_upd hu hW hpr).trans h2, h3, h4, fr_step hw h5⟩
theorem post_stepM {W : List Nat} {f : Nat} {qs : List PV} {o : Oper} {l : List Oper} {s : SS} {p p' : PS} {ρ : Type} {k : SS → Option ρ} {res : ρ} {v : SV} {m : MU} {r : PV} {u : BU} (hW : ∀ d, o.dst = some d → memN W d = true) (hR : CallR sc P f o.dst s p qs v m r u)
    (h : Post sc W l (s.updM o.dst v m) (p.updL o.dst r u) k res p') : Post sc W (o :: l) s p k res p' := by
  obtain ⟨s', h1, h2, h3, h4, h5⟩ := h
  exact ⟨s', h1, (hR.keep W hW).trans h2, h3, h4, fun hro => (by rw [hR.ro] at hro; cases hro), fun hro => (by rw [hR.ro] at hro; cases hro)⟩
theorem preF_ok {q : Bool} {o : Oper} {s s' : SS} {p : PS} (hpr : PrOk s) (hs : Sim s p) (h : preF q T o s = some s') : ∃ p', LeQ q p p' ∧ Sim s' p' ∧ (∀ W, Keep sc W s s') ∧ (s.ro = true → s' = s ∧ p' = p) ∧ (o.guard = none ∨ p' = p) := by
  have triv : s' = s → ∃ p', LeQ q p p' ∧ Sim s' p' ∧ (∀ W, Keep sc W s s') ∧ (s.ro = true → s' = s ∧ p' = p) ∧ (o.guard = none ∨ p' = p) := fun e => by
    subst e; exact ⟨p, .refl _ _, hs, fun W => .refl W s', fun _ => ⟨rfl, rfl⟩, .inr rfl⟩
  unfold preF at h
  split at h
  · rename_i hro hg
    have froz : ∀ {l : List Nat}, frzAll l s = some s' → ∃ p', LeQ true p p' ∧ Sim s' p' ∧ (∀ W, Keep sc W s s') ∧ (s.ro = true → s' = s ∧ p' = p) ∧ (o.guard = none ∨ p' = p) := fun h => by
      obtain ⟨p', k1, k2, k3, k4⟩ := frzAll_sim (sc := sc) hpr hs h
      exact ⟨p', k1, k2, k3, fun h => (by rw [hro] at h; cases h), .inl hg⟩
    split at h
    · exact froz h
    · split at h
      · split at h
        · split at h
          · exact froz h
          · split at h
            · injection h with h; exact triv h.symm
            · exact froz h
        · injection h with h; exact triv h.symm
      · injection h with h; exact triv h.symm
    · injection h with h; exact triv h.symm
  · injection h with h; exact triv h.symm
theorem post_frz {W : List Nat} {l : List Oper} {s s1 : SS} {p p1 p' : PS} {ρ : Type} {k : SS → Option ρ} {res : ρ} (hk : Keep sc W s s1) (hro : s.ro = true → s1 = s ∧ p1 = p) (h : Post sc W l s1 p1 k res p') : Post sc W l s p k res p' := by
  obtain ⟨s', h1, h2, h3, h4, h5⟩ := h
  refine ⟨s', h1, hk.trans h2, h3, h4, fun hr => ?_, fun hr => ?_⟩
  · obtain ⟨e1, e2⟩ := hro hr
    subst e1 e2
    exact h5.t hr
  · obtain ⟨e1, e2⟩ := hro hr
    subst e1 e2
    exact h5.b hr
theorem runX_ok {q : Bool} {B : List Bd} (hT : TabOk P T) {W : List Nat} : ∀ (n i : Nat) (kn : List Nat) (l : List Oper) {ρ : Type} {s : SS} {p : PS} {k : SS → Option ρ} {res : ρ}, (∀ o ∈ l, ∀ d, o.dst = some d → memN W d = true) → (∀ (j : Nat) (o : Oper), ops[j]? = some o → ∀ d, o.dst = some d → memN W d = true) →
    (∀ o ∈ l, ∀ t x y, o.op = .store t x y → o.dst = none) → PrOk s → Sim s p → runX q P T ops B n i kn l s k = some res → RunQ q P ops (nthB B) i l p (Post sc W l s p k res) := by
  intro n
  induction n with
  | zero =>
    intro i kn l ρ s p k res hW hO hst hpr hs h
    cases l with
    | nil => exact ⟨s, hs, .refl _ _, hpr, h, fun _ _ _ => rfl, fun _ _ _ => rfl⟩
    | cons o l => cases h
  | succ n ih =>
    intro i kn l ρ s p k res hW hO hst hpr hs h
    cases l with
    | nil => exact ⟨s, hs, .refl _ _, hpr, h, fun _ _ _ => rfl, fun _ _ _ => rfl⟩
    | cons o l =>
      have hWo := hW o List.mem_cons_self
      have hWl : ∀ o ∈ l, ∀ d, o.dst = some d → memN W d = true := fun o ho => hW o (List.mem_cons_of_mem _ ho)
      have hstl : ∀ o ∈ l, ∀ t x y, o.op = .store t x y → o.dst = none := fun o ho => hst o (List.mem_cons_of_mem _ ho)
      have goOk : guardB ops o p = some true → (match preF q T o s with
          | none => none
          | some s => (match callOf o with
            | some (x, xs) => (match evX s x with
              | .fn f ps qs => (match isMx T f (ps ++ evsX s xs ++ qs) with
                | false => chk (footB q B i o s .no) (callX T f s (ps ++ evsX s xs ++ qs) fun r => runX q P T ops B n (i + 1) kn l (s.upd o.dst r .no) k)
                | true => callM T f s o.dst (ps ++ evsX s xs ++ qs) fun v m => chk (footM q B i o s m) (runX q P T ops B n (i + 1) kn l (s.updM o.dst v m) k))
              | _ => none)
            | none => effX P o s fun v u => chk (footB q B i o s u) (runX q P T ops B n (i + 1) kn l (s.upd o.dst v u) k))) = some res → RunQ q P ops (nthB B) i (o :: l) p (Post sc W (o :: l) s p k res) := by
        intro hg h
        split at h
        · cases h
        · rename_i s1 hfz
          obtain ⟨p1, hle, hs1, hk1, hro, hgn⟩ := preF_ok (sc := sc) hpr hs hfz
          have hg1 : guardB ops o p1 = some true := by
            rcases hgn with hgn | hgn
            · simp [guardB, hgn]
            · rw [hgn]; exact hg
          have hpr1 : PrOk s1 := (hk1 []).prOk hpr
          have mk : ∀ {r : PV} {u : BU}, EffW P o p1 r u → Eff P ops o p1 r u := fun h => by unfold Eff; rw [hg1]; exact h
          split at h
          · rename_i x xs hc
            have hx := evX_sim hs1 x
            split at h
            rotate_left
            · cases h
            rename_i f ps qs hev
            rw [hev] at hx
            obtain ⟨ps', qs', e1, e2, e3⟩ := vs_fn hx
            split at h
            rotate_left
            · rename_i hM
              obtain ⟨v, m, r, u, h, hR⟩ := callM_ok (sc := sc) hT hpr1 hs1 hM ((e2.append (evsX_sim hs1 xs)).append e3) h
              obtain ⟨hfb, h⟩ := chk_some h
              refine ⟨p1, hle, r, u, mk ?_, footM_ok hs1 hR.foot hfb, ?_⟩
              · unfold EffW
                simp only [hc, e1, CallU]
                exact .inr hR.call
              exact runP_mono (ih (i + 1) kn l hWl hO hstl ((hR.keep W hWo).prOk hpr1) hR.sim h) fun p' hp => post_frz (hk1 W) hro (post_stepM hWo hR hp)
            rename_i hM
            obtain ⟨hfb, h⟩ := chk_some h
            obtain ⟨v, r, h1, h2, h3⟩ := callX_ok hT hs1 hM ((e2.append (evsX_sim hs1 xs)).append e3) h
            refine ⟨p1, hle, r, [], mk ?_, footB_ok (w := none) hs1 okW_none hfb, ?_⟩
            · unfold EffW
              simp only [hc, e1, CallU]
              exact .inl ⟨trivial, h1⟩
            have hs' : Sim (s1.upd o.dst v .no) (p1.upd o.dst r none) := sim_no hs1 h3
            rw [show ([] : BU) = (none : Option (Nat × Box)).toList from rfl, updL_opt]
            exact runP_mono (ih (i + 1) kn l hWl hO hstl ((keep_upd (sc := sc) (u := .no) trivial hWo hpr1).prOk hpr1) hs' h2) fun p' hp => post_frz (hk1 W) hro (post_step (u := .no) hWo hpr1 trivial okW_none hp)
          · rename_i hc
            obtain ⟨v, u, qv, w, h1, h2, h3, h4, h5⟩ := effX_ok hs1 (hst o List.mem_cons_self) h
            obtain ⟨hfb, h2⟩ := chk_some h2
            refine ⟨p1, hle, qv, w.toList, mk ?_, footB_ok hs1 h5 hfb, ?_⟩
            · unfold EffW
              simp only [hc]
              exact ⟨w, h1, rfl⟩
            rw [updL_opt]
            exact runP_mono (ih (i + 1) kn l hWl hO hstl ((keep_upd (sc := sc) h4 hWo hpr1).prOk hpr1) h3 h2) fun p' hp => post_frz (hk1 W) hro (post_step hWo hpr1 h4 h5 hp)
      have skipOk : guardB ops o p = some false → runX q P T ops B n (i + 1) kn l (s.upd o.dst (.tup []) .no) k = some res → RunQ q P ops (nthB B) i (o :: l) p (Post sc W (o :: l) s p k res) := by
        intro hg h
        refine ⟨p, .refl _ _, .tup [], [], by unfold Eff; rw [hg]; exact ⟨rfl, rfl⟩, fun _ => ⟨fun h => (by rw [hg] at h; cases h), fun x Bx h => (by cases h)⟩, ?_⟩
        rw [show ([] : BU) = (none : Option (Nat × Box)).toList from rfl, updL_opt]
        have hs' : Sim (s.upd o.dst (.tup []) .no) (p.upd o.dst (.tup []) none) := sim_no hs (.tup [] [] rfl (fun j c q h => by simp at h))
        exact runP_mono (ih (i + 1) kn l hWl hO hstl ((keep_upd (sc := sc) (u := .no) trivial hWo hpr).prOk hpr) hs' h) fun p' hp => post_step (u := .no) hWo hpr trivial okW_none hp
      unfold runX at h
      simp only at h
      split at h
      · rename_i hg
        exact goOk (by simp [guardB, hg]) h
      · rename_i j want hg
        split at h
        · cases h
        · rename_i g hgd
          have hsg := hs.sl g
          split at h
          · rename_i hv
            rw [hv] at hsg
            obtain ⟨qs, h1, h2⟩ := vs_tup hsg
            have : qs = [] := by have := h2.len; simpa using this.symm
            subst this
            exact skipOk (by simp [guardB, hg, hgd, h1]) h
          · rename_i b hv
            rw [hv] at hsg
            have hpg := vs_bool hsg
            have hgb : guardB ops o p = some (b == want) := by simp [guardB, hg, hgd, hpg, asB]
            split at h
            · split at h
              · split at h
                · exact goOk (by rw [hgb]; rfl) h
                · exact skipOk (by rw [hgb]; rfl) h
              · split at h
                · exact skipOk (by rw [hgb]; rfl) h
                · exact goOk (by rw [hgb]; rfl) h
            · split at h
              · cases h
              · rename_i l1 d l2 hup
                obtain ⟨h1, o1, h2, h3⟩ := uptoG_spec hup
                obtain ⟨qb, h4, h5⟩ := bindS h
                have hg0 : ∃ o', ops[j]? = some o' ∧ o'.dst = some g := by
                  cases ho : ops[j]? with
                  | none => simp [ho] at hgd
                  | some o' => exact ⟨o', rfl, by simpa [ho] using hgd⟩
                obtain ⟨o', ho', hdo'⟩ := hg0
                have hWg : memN W g = true := hO j o' ho' g hdo'
                rw [h1]
                have hW1 : ∀ o ∈ l1, ∀ d, o.dst = some d → memN W d = true := fun o ho => hW o (by rw [h1]; exact List.mem_append_left _ ho)
                have hW2 : ∀ o ∈ l2, ∀ d, o.dst = some d → memN W d = true := fun o ho => hW o (by rw [h1]; exact List.mem_append_right _ ho)
                have hst1 : ∀ o ∈ l1, ∀ t x y, o.op = .store t x y → o.dst = none := fun o ho => hst o (by rw [h1]; exact List.mem_append_left _ ho)
                have hst2 : ∀ o ∈ l2, ∀ t x y, o.op = .store t x y → o.dst = none := fun o ho => hst o (by rw [h1]; exact List.mem_append_right _ ho)
                have hsb : Sim ⟨(g, .d (.bool b)) :: s.sl, s.bx, s.pr, true, s.oc⟩ p := by
                  refine ⟨fun i => ?_, hs.bx⟩
                  show VSim s.bx (lkV ((g, .d (.bool b)) :: s.sl) i) (p.t i)
                  rw [lkV_cons]
                  split
                  · rename_i e; subst e; exact hsg
                  · exact hs.sl i
                have hA : RunQ q P ops (nthB B) i l1 p (Post sc W l1 ⟨(g, .d (.bool b)) :: s.sl, s.bx, s.pr, true, s.oc⟩ p (truthOf d) qb) := by
                  cases b
                  · exact ih i (g :: kn) l1 hW1 hO hst1 hpr hsb (by simpa using h4)
                  · exact ih i (g :: kn) l1 hW1 hO hst1 hpr hsb (by simpa using h4)
                refine runP_append (runP_mono hA fun p1 hp1 => ?_)
                obtain ⟨s1, k1, k2, k3, k4, k5⟩ := hp1
                have hd : memN (dstsOf l1) d = true := dstsOf_mem h2 h3
                have hpd : p1.t d = .d (.v (.bool qb)) := by
                  have := k1.sl d
                  unfold truthOf at k4
                  split at k4
                  · rename_i b' hb'
                    injection k4 with k4
                    subst k4
                    rw [hb'] at this
                    exact vs_bool this
                  · cases k4
                have hs2 : Sim ⟨(d, .d (.bool qb)) :: junkAll (dstsOf l1) s.sl, s.bx, s.pr, s.ro, dstsOf l1 ++ s.oc⟩ p1 := by
                  refine ⟨fun i => ?_, fun t => ?_⟩
                  · show VSim s.bx (lkV ((d, .d (.bool qb)) :: junkAll (dstsOf l1) s.sl) i) (p1.t i)
                    rw [lkV_cons]
                    split
                    · rename_i e; subst e; rw [hpd]; exact v_bool qb
                    · rw [lkV_junkAll]
                      split
                      · exact .junk _
                      · rename_i hi
                        rw [k5.t rfl i (by simpa using hi)]
                        exact hs.sl i
                  · show BSim s.bx (memN (dstsOf l1 ++ s.oc) t) (lkB s.bx t) (p1.b t)
                    have hbt := hs.bx t
                    cases hl : lkB s.bx t with
                    | none =>
                      rw [hl] at hbt
                      intro hoc
                      rw [memN_app, Bool.or_eq_false_iff] at hoc
                      rw [k5.b rfl t (.inr hoc.1)]
                      exact hbt hoc.2
                    | some bx =>
                      rw [hl] at hbt
                      rw [k5.b rfl t (.inl (by show lkB s.bx t ≠ none; rw [hl]; simp))]
                      cases bx <;> exact hbt
                have hk2 : Keep sc W s ⟨(d, .d (.bool qb)) :: junkAll (dstsOf l1) s.sl, s.bx, s.pr, s.ro, dstsOf l1 ++ s.oc⟩ := by
                  refine ⟨rfl, rfl, fun _ _ => .refl _, fun i hi _ => ?_, fun _ _ _ cs h => ⟨cs, h, rfl⟩⟩
                  show lkV ((d, .d (.bool qb)) :: junkAll (dstsOf l1) s.sl) i = _
                  rw [lkV_cons, if_neg (fun e => by rw [e, hW1 o1 h2 d h3] at hi; cases hi), lkV_junkAll]
                  rw [if_neg (fun e => by
                    obtain ⟨o2, m1, m2⟩ := dstsOf_of e
                    rw [hW1 o2 m1 i m2] at hi
                    cases hi)]
                refine runP_mono (ih (i + l1.length) kn l2 hW2 hO hst2 (hk2.prOk hpr) hs2 h5) fun p2 hp2 => ?_
                obtain ⟨s3, m1, m2, m3, m4, m5⟩ := hp2
                refine ⟨s3, m1, hk2.trans m2, m3, m4, fun hro i hi => ?_, fun hro t ht => ?_⟩
                · rw [dstsOf_app, memN_app, Bool.or_eq_false_iff] at hi
                  rw [m5.t hro i hi.2, k5.t rfl i hi.1]
                · rw [dstsOf_app, memN_app, Bool.or_eq_false_iff] at ht
                  rw [m5.b hro t (ht.imp id fun h => h.2), k5.b rfl t (ht.imp id fun h => h.1)]
          · cases h
end Go.Proofs.Ytjeeclabnimbbaa

/- The typed executor: nil that becomes a row. -/
namespace Go.Proofs.Ytjeeclabnimbbaa
open Go.RowKit

theorem le_nilrow {p : PS} (i e k : Nat) (ht : p.t i = .d (.v (.slice none 0 0))) (hb : p.b i = none) (hi0 : i < 1000000) (hk : 0 < k) : Le p (p.upd (some i) (.row i 0) (some (i, .rw e k []))) := by
  intro n w0 F0 a w ⟨h1, h2, ρ, F, hi, hev⟩
  have hx := (hev i)
  rw [ht] at hx
  obtain ⟨hx, _⟩ := hx.vv
  have hnew := newRw (P := default) (t := i) (e := e) (k := k) (es := []) (xs := []) (v := .slice none 0 0) (w' := w) hi hi0 hb hk (Ext.refl w) (fun g hg => by cases hg) (World.ownsRow_nil w _ e k) (by simp) rfl (by simp)
  obtain ⟨v, w', ρ', hok, k1, k2, k3⟩ := hnew
  injection hok with e1 e2
  subst e1 e2
  refine ⟨h1, h2, ρ', F, k1, fun j => ?_⟩
  by_cases hj : i = j
  · subst hj
    rw [hx]
    simpa [PS.upd, tupd] using k3
  · have : (p.upd (some i) (.row i 0) (some (i, .rw e k []))).t j = p.t j := by simp [PS.upd, tupd, hj]
    rw [this]
    exact (hev j).mono k2
theorem le_nilcell {p : PS} (i t j e k : Nat) {ty : TypeId} {cs : List PV} (hb : p.b t = some (.st ty cs)) (hc : cs[j]? = some (.d (.v (.slice none 0 0)))) (hi : p.b i = none) (hi0 : i < 1000000) (hk : 0 < k) :
    Le p ⟨p.t, bupd (bupd p.b (some (i, .rw e k []))) (some (t, .st ty (cs.set j (.row i 0))))⟩ := by
  intro n w0 F0 a w ⟨h1, h2, ρ, F, hinv, hev⟩
  have hnew := newRw (P := default) (t := i) (e := e) (k := k) (es := []) (xs := []) (v := .slice none 0 0) (w' := w) hinv hi0 hi hk (Ext.refl w) (fun g hg => by cases hg) (World.ownsRow_nil w _ e k) (by simp) rfl (by simp)
  obtain ⟨v, w', ρ', hok, k1, k2, k3⟩ := hnew
  injection hok with e1 e2
  subst e1 e2
  have hti : t ≠ i := fun e => by rw [e, hi] at hb; cases hb
  have hb1 : (bupd p.b (some (i, .rw e k []))) t = some (.st ty cs) := by rw [bupd_ne _ _ hti]; exact hb
  have hs2 : Stp ρ' (bupd p.b (some (i, .rw e k []))) w F ρ' (bupd (bupd p.b (some (i, .rw e k []))) (some (t, .st ty (cs.set j (.row i 0))))) w F := by
    refine ⟨fun _ h => h, fun _ _ => rfl, fun t' ty' cs' h => ⟨?_, rfl⟩, fun t' e' k' es h => ?_⟩
    · by_cases h' : t' = t
      · subst h'; rw [bupd_same]; exact ⟨_, _, rfl⟩
      · rw [bupd_ne _ _ h']; exact ⟨_, _, h⟩
    · have h' : t' ≠ t := fun e => by rw [e, hb1] at h; cases h
      rw [bupd_ne _ _ h']
      exact ⟨e', es, h, Nat.le_refl _, fun _ => rfl⟩
  have hinv2 : Inv w0 F0 ρ' (bupd (bupd p.b (some (i, .rw e k []))) (some (t, .st ty (cs.set j (.row i 0))))) w F := by
    have hs3 := hs2
    rw [← rupd_self ρ' t] at hs3
    have := Inv.turn (v := ρ' t) (B' := .st ty (cs.set j (.row i 0))) (w' := w) k1 hb1 (by rw [rupd_self] at hs3 ⊢; exact hs2) k1.ext (Nat.le_refl _) (fun _ _ _ => rfl) (fun g hg => .inl hg) ?_
    · rw [rupd_self] at this; exact this
    · rw [rupd_self]
      cases k1.box t _ hb1 with
      | st _ _ g xs hρ hg hF hh hl h1x hr =>
        refine .st ty _ g xs hρ hg hF hh (by rw [List.length_set]; exact hl) h1x (fun p x c h4 h5 => ?_)
        rw [List.getElem?_set] at h5
        split at h5
        · rename_i hjp
          subst hjp
          split at h5
          · injection h5 with h5
            subst h5
            have hx := hr j x _ h4 hc
            obtain ⟨hx, _⟩ := hx.vv
            rw [hx]
            exact k3.mono hs2
          · cases h5
        · exact (hr p x c h4 h5).mono hs2
  exact ⟨h1, h2, ρ', F, hinv2, fun q => ((hev q).mono k2).mono hs2⟩
theorem BLe.trans {B B' B'' : List (Nat × Option SBox)} (h : BLe B B') (h' : BLe B' B'') : BLe B B'' := by
  refine ⟨fun t e k ty xs pins h1 => ?_, fun t ty cs h1 => ?_⟩
  · obtain ⟨e1, k1, ty1, xs1, pins1, h2, h3, h4⟩ := h.rw t e k ty xs pins h1
    obtain ⟨e2, k2, ty2, xs2, pins2, h5, h6, h7⟩ := h'.rw t e1 k1 ty1 xs1 pins1 h2
    refine ⟨e2, k2, ty2, xs2, pins2, h5, h6.trans h3, fun p pin hp => ?_⟩
    obtain ⟨pin1, h8, h9⟩ := h4 p pin hp
    obtain ⟨pin2, h10, h11⟩ := h7 p pin1 h8
    exact ⟨pin2, h10, h11.trans h9⟩
  · obtain ⟨ty1, cs1, h2⟩ := h.st t ty cs h1
    exact h'.st t ty1 cs1 h2
/-- A box's cells may be laid once more. -/
theorem lk_same {B : List (Nat × Option SBox)} {b : Nat} {x : Option SBox} (h : lkB B b = x) (t : Nat) : lkB ((b, x) :: B) t = lkB B t := by
  rw [lkB_cons]
  split
  · rename_i e; subst e; exact h.symm
  · rfl
theorem VSim.lk {B B' : List (Nat × Option SBox)} (h : ∀ t, lkB B' t = lkB B t) {v : SV} {q : PV} (hv : VSim B v q) : VSim B' v q :=
  hv.mono ⟨fun t e k ty xs pins h1 => ⟨e, k, ty, xs, pins, by rw [h]; exact h1, rfl, fun _ pin hp => ⟨pin, hp, rfl⟩⟩, fun t ty cs h1 => ⟨ty, cs, by rw [h]; exact h1⟩⟩
theorem BSim.lk {B B' : List (Nat × Option SBox)} (h : ∀ t, lkB B' t = lkB B t) {o : Bool} {b : Option SBox} {q : Option Box} (hv : BSim B o b q) : BSim B' o b q :=
  hv.mono ⟨fun t e k ty xs pins h1 => ⟨e, k, ty, xs, pins, by rw [h]; exact h1, rfl, fun _ pin hp => ⟨pin, hp, rfl⟩⟩, fun t ty cs h1 => ⟨ty, cs, by rw [h]; exact h1⟩⟩
theorem Sim.lk {sl : List (Nat × SV)} {B B' : List (Nat × Option SBox)} {pr oc : List Nat} {ro : Bool} {p : PS} (h : ∀ t, lkB B' t = lkB B t) (hs : Sim ⟨sl, B, pr, ro, oc⟩ p) : Sim ⟨sl, B', pr, ro, oc⟩ p :=
  ⟨fun i => (hs.sl i).lk h, fun t => by show BSim B' _ (lkB B' t) _; rw [h]; exact (hs.bx t).lk h⟩
theorem nilCells_ok {s : SS} {b : Nat} {ty : TypeId} : ∀ {rows : List (Nat × Nat × Nat × Nat × Ty)} {cs cs' : List SV} {bx bx' : List (Nat × Option SBox)} {p : PS}, (∃ x, lkB bx b = some x) → Sim ⟨s.sl, (b, some (.st ty cs)) :: bx, s.pr, s.ro, []⟩ p → nilCells s rows cs bx = some (cs', bx') →
    ∃ p', Le p p' ∧ Sim ⟨s.sl, (b, some (.st ty cs')) :: bx', s.pr, s.ro, []⟩ p' ∧ (∀ t, memN s.pr t = true → lkB bx' t = lkB bx t) ∧ cs'.length = cs.length ∧ ∀ t x, lkB bx t = some x → lkB bx' t = some x
  | [], cs, cs', bx, bx', p, _, hs, h => by
    injection h with h
    injection h with e1 e2
    subst e1 e2
    exact ⟨p, .refl p, hs, fun _ _ => rfl, rfl, fun _ _ h => h⟩
  | (j, R, e, k, t) :: l, cs, cs', bx, bx', p, hb, hs, h => by
    simp only [nilCells] at h
    split at h
    · rename_i hj
      split at h
      · rename_i hR hk hp
        have hk := of_decide_eq_true hk
        obtain ⟨xb, hxb⟩ := hb
        have hRb : ¬ R = b := fun e => by rw [e, hxb] at hR; cases hR
        have hbx := hs.bx b
        have hbx : BSim ((b, some (.st ty cs)) :: bx) (memN [] b) (lkB ((b, some (.st ty cs)) :: bx) b) (p.b b) := hbx
        rw [lkB_cons, if_pos rfl] at hbx
        obtain ⟨qs, h1, h2⟩ := hbx
        have hRn : lkB ((b, some (.st ty cs)) :: bx) R = none := by rw [lkB_cons, if_neg hRb]; exact hR
        have hpR : p.b R = none := by
          have h3 := hs.bx R
          have h3 : BSim ((b, some (.st ty cs)) :: bx) (memN [] R) (lkB ((b, some (.st ty cs)) :: bx) R) (p.b R) := h3
          rw [hRn] at h3
          exact h3 rfl
        have hlt : j < qs.length := by rw [← h2.len]; exact (List.getElem?_eq_some_iff.1 hj).1
        have hqj : qs[j]? = some (.d (.v (.slice none 0 0))) := by
          have h3 : qs[j]? = some qs[j] := by simp [hlt]
          rw [h3, vs_nl (h2.rep j _ _ hj h3)]
        have hle := le_nilcell R b j e k h1 hqj hpR hk.2 hk.1
        have hB1 : BLe ((b, some (.st ty cs)) :: bx) ((R, some (.rw e k t [] [])) :: (b, some (.st ty cs)) :: bx) := ble_new hRn
        have hB2 : BLe ((R, some (.rw e k t [] [])) :: (b, some (.st ty cs)) :: bx) ((b, some (.st ty (cs.set j (.row R)))) :: (R, some (.rw e k t [] [])) :: (b, some (.st ty cs)) :: bx) := ble_st (ty := ty) (cs := cs) (by rw [lkB_cons, if_neg (fun e => hRb e.symm), lkB_cons, if_pos rfl])
        have hB := hB1.trans hB2
        have hsame : ∀ t', lkB ((b, some (.st ty (cs.set j (.row R)))) :: (R, some (.rw e k t [] [])) :: bx) t' = lkB ((b, some (.st ty (cs.set j (.row R)))) :: (R, some (.rw e k t [] [])) :: (b, some (.st ty cs)) :: bx) t' := fun t' => by
          simp only [lkB_cons]
          split
          · rfl
          · rename_i h'; split
            · rfl
            · rfl
        have hs1 : Sim ⟨s.sl, (b, some (.st ty (cs.set j (.row R)))) :: (R, some (.rw e k t [] [])) :: (b, some (.st ty cs)) :: bx, s.pr, s.ro, []⟩ ⟨p.t, bupd (bupd p.b (some (R, .rw e k []))) (some (b, .st ty (qs.set j (.row R 0))))⟩ := by
          refine ⟨fun i => (hs.sl i).mono hB, fun t' => ?_⟩
          show BSim _ (memN [] t') (lkB ((b, some (.st ty (cs.set j (.row R)))) :: (R, some (.rw e k t [] [])) :: (b, some (.st ty cs)) :: bx) t') (bupd (bupd p.b (some (R, .rw e k []))) (some (b, .st ty (qs.set j (.row R 0)))) t')
          rw [lkB_cons]
          by_cases e1 : t' = b
          · subst e1
            rw [if_pos rfl, bupd_same]
            refine ⟨_, rfl, by simpa using h2.len, fun j' c q m1 m2 => ?_⟩
            rw [List.getElem?_set] at m1 m2
            by_cases e2 : j = j'
            · subst e2
              have hlc : j < cs.length := by rw [h2.len]; exact hlt
              rw [if_pos rfl, if_pos hlc] at m1
              rw [if_pos rfl, if_pos hlt] at m2
              injection m1 with m1
              injection m2 with m2
              subst m1 m2
              exact .row R 0 e k t [] [] (by rw [lkB_cons, if_neg hRb, lkB_cons, if_pos rfl]) rfl
            · rw [if_neg e2] at m1 m2
              exact (h2.rep j' c q m1 m2).mono hB
          · rw [if_neg e1, bupd_ne _ _ e1, lkB_cons]
            by_cases e2 : t' = R
            · subst e2
              rw [if_pos rfl, bupd_same]
              exact ⟨rfl, fun p pin hp => by cases hp⟩
            · rw [if_neg e2, bupd_ne _ _ e2]
              exact (hs.bx t').mono hB
        have hs2 := hs1.lk hsame
        obtain ⟨p', k1, k2, k3, k4, k5⟩ := nilCells_ok (s := s) (b := b) (ty := ty) ⟨xb, by rw [lkB_cons, if_neg (fun e => hRb e.symm)]; exact hxb⟩ hs2 h
        refine ⟨p', hle.trans k1, k2, fun t' ht' => ?_, by rw [k4, List.length_set], fun t' x hx => k5 t' x ?_⟩
        · rw [k3 t' ht', lkB_cons, if_neg (fun e => by rw [e, hp] at ht'; cases ht')]
        · rw [lkB_cons, if_neg (fun e => by rw [e, hR] at hx; cases hx)]; exact hx
      · cases h
    · exact nilCells_ok hb hs h
theorem nilM_ok {sc wr : List Nat} : ∀ {ms : List Mod} {s s' : SS} {p : PS}, s.oc = [] → PrOk s → Sim s p → nilM wr ms s = some s' → ∃ p', Le p p' ∧ Sim s' p' ∧ Keep sc wr s s' ∧ s'.oc = []
  | [], s, s', p, ho, _, hs, h => by injection h with h; subst h; exact ⟨p, .refl p, hs, .refl _ _, ho⟩
  | .leaf _ _ :: l, s, s', p, ho, hpr, hs, h => nilM_ok (ms := l) ho hpr hs h
  | .agg _ _ :: l, s, s', p, ho, hpr, hs, h => nilM_ok (ms := l) ho hpr hs h
  | .box _ _ _ [] :: l, s, s', p, ho, hpr, hs, h => nilM_ok (ms := l) ho hpr hs h
  | .box b _ _ (r :: rows) :: l, s, s', p, ho, hpr, hs, h => by
    simp only [nilM] at h
    split at h
    · rename_i ty cs hb
      split at h
      · rename_i cs' bx' hp hn
        have hs0 : Sim ⟨s.sl, (b, some (.st ty cs)) :: s.bx, s.pr, s.ro, []⟩ p := by
          have : Sim ⟨s.sl, s.bx, s.pr, s.ro, []⟩ p := by rw [← ho]; exact hs
          exact this.lk (lk_same hb)
        obtain ⟨p1, k1, k2, k3, k4, k5⟩ := nilCells_ok ⟨_, hb⟩ hs0 hn
        have hk : Keep sc wr s ⟨s.sl, (b, some (.st ty cs')) :: bx', s.pr, s.ro, s.oc⟩ := by
          refine ⟨rfl, rfl, fun t ht => ?_, fun _ _ _ => rfl, fun t _ ty2 cs2 h2 => ?_⟩
          · show SameB _ (lkB ((b, some (.st ty cs')) :: bx') t)
            rw [lkB_cons, if_neg (fun e => by rw [e, hp] at ht; cases ht), k3 t ht]
            exact .refl _
          · show ∃ cs3, lkB ((b, some (.st ty cs')) :: bx') t = _ ∧ _
            rw [lkB_cons]
            by_cases e : t = b
            · rw [e, hb] at h2
              injection h2 with h2
              injection h2 with e1 e2
              subst e1 e2
              rw [if_pos e]
              exact ⟨_, rfl, k4⟩
            · rw [if_neg e]
              exact ⟨cs2, k5 t _ h2, rfl⟩
        obtain ⟨p2, m1, m2, m3, m4⟩ := nilM_ok (ms := l) (s := ⟨s.sl, (b, some (.st ty cs')) :: bx', s.pr, s.ro, s.oc⟩) ho (hk.prOk hpr) (by rw [ho]; exact k2) h
        exact ⟨p2, k1.trans m1, m2, hk.trans m3, m4⟩
      · cases h
    · cases h
  | .row i R e k t :: l, s, s', p, ho, hpr, hs, h => by
    simp only [nilM] at h
    split at h
    · rename_i hv
      split at h
      · rename_i hR hb hk hw hp
        have hk := of_decide_eq_true hk
        have hsi := hs.sl i
        rw [hv] at hsi
        have hpt := vs_nl hsi
        have hpb : p.b i = none := by
          have := hs.bx i
          rw [hb] at this
          exact this (by rw [ho]; rfl)
        have hle := le_nilrow (p := p) i e k hpt hpb hk.2 hk.1
        have hs1 : Sim ⟨updS s.sl (some i) (.row i), (i, some (.rw e k t [] [])) :: s.bx, s.pr, s.ro, s.oc⟩ (p.upd (some i) (.row i 0) (some (i, .rw e k (([] : List t.den).map (encE t))))) :=
          sim_box hs (ble_new hb) (fun _ => ⟨rfl, fun p pin hp => by cases hp⟩) (.row i 0 e k t [] [] (by rw [lkB_cons, if_pos rfl]) rfl)
        have hkp : Keep sc wr s ⟨(i, .row i) :: s.sl, (i, some (.rw e k t [] [])) :: s.bx, s.pr, s.ro, s.oc⟩ := by
          refine ⟨rfl, rfl, fun t' ht' => ?_, fun j hj _ => ?_, fun t' _ ty2 cs2 h2 => ⟨cs2, by show lkB ((i, some (.rw e k t [] [])) :: s.bx) t' = _; rw [lkB_cons, if_neg (fun e => by rw [e, hb] at h2; cases h2)]; exact h2, rfl⟩⟩
          · show SameB _ (lkB ((i, some (.rw e k t [] [])) :: s.bx) t')
            rw [lkB_cons, if_neg (fun e => by rw [e, hp] at ht'; cases ht')]
            exact .refl _
          · show lkV ((i, .row i) :: s.sl) j = _
            rw [lkV_cons, if_neg (fun e => by rw [e, hw] at hj; cases hj)]
        obtain ⟨p2, m1, m2, m3, m4⟩ := nilM_ok (ms := l) (s := ⟨(i, .row i) :: s.sl, (i, some (.rw e k t [] [])) :: s.bx, s.pr, s.ro, s.oc⟩) ho (hkp.prOk hpr) hs1 h
        exact ⟨p2, hle.trans m1, m2, hkp.trans m3, m4⟩
      · cases h
    · exact nilM_ok (ms := l) ho hpr hs h
end Go.Proofs.Ytjeeclabnimbbaa

/- The typed executor: what is kept where ways meet. -/
namespace Go.Proofs.Ytjeeclabnimbbaa
open Go.RowKit

/-! ### Lists -/
theorem keepSl_spec (wr pr kb : List Nat) : ∀ (l : List (Nat × SV)) (seen : List Nat) (i : Nat), lkV (keepSl wr pr kb l seen) i = if memN seen i = true then .junk else if memN wr i = true then .junk else if safe pr kb (lkV l i) = true then lkV l i else .junk
  | [], seen, i => by simp [keepSl, lkV, safe]
  | (j, v) :: l, seen, i => by
    simp only [keepSl]
    have hc := lkV_cons j v l i
    split
    · rename_i hs
      rw [keepSl_spec wr pr kb l seen i, hc]
      by_cases e : i = j
      · subst e; simp [hs]
      · simp [e]
    · rename_i hs
      split
      · rename_i hw
        rw [keepSl_spec wr pr kb l (j :: seen) i, hc, memN_cons]
        by_cases e : i = j
        · subst e; simp [hw]
        · simp [e]
      · rename_i hw
        split
        · rename_i hf
          rw [lkV_cons, keepSl_spec wr pr kb l (j :: seen) i, hc, memN_cons]
          by_cases e : i = j
          · subst e; simp [hs, hw, hf]
          · simp [e]
        · rename_i hf
          rw [keepSl_spec wr pr kb l (j :: seen) i, hc, memN_cons]
          by_cases e : i = j
          · subst e; simp [hf]
          · simp [e]
theorem keepBx_spec (pr : List Nat) : ∀ (l : List (Nat × Option SBox)) (seen : List Nat) (t : Nat), lkB (keepBx pr l seen) t = if memN seen t = true then none else if memN pr t = true then unpinB (lkB l t) else none
  | [], seen, t => by simp [keepBx, lkB, unpinB]
  | (j, b) :: l, seen, t => by
    simp only [keepBx]
    have hc := lkB_cons j b l t
    split
    · rename_i hs
      rw [keepBx_spec pr l seen t, hc]
      by_cases e : t = j
      · subst e; simp [hs]
      · simp [e]
    · rename_i hs
      split
      · rename_i hw
        rw [lkB_cons, keepBx_spec pr l (j :: seen) t, hc, memN_cons]
        by_cases e : t = j
        · subst e; simp [hs, hw]
        · simp [e]
      · rename_i hw
        rw [keepBx_spec pr l (j :: seen) t, hc, memN_cons]
        by_cases e : t = j
        · subst e; simp [hw]
        · simp [e]
theorem prBoxes_spec (mb : List Nat) : ∀ (l : List (Nat × Option SBox)) (seen : List Nat) (t : Nat), memN (prBoxes mb l seen) t = true ↔ memN seen t = false ∧ memN mb t = false ∧ ∃ b, lkB l t = some b ∧ plainBox b = true
  | [], seen, t => by simp [prBoxes, memN, lkB]
  | (j, b) :: l, seen, t => by
    have hc := lkB_cons j b l t
    simp only [prBoxes]
    split
    · rename_i hs
      rw [prBoxes_spec mb l seen t, hc]
      by_cases e : t = j
      · subst e; simp [hs]
      · simp [e]
    · rename_i hs
      split
      · rw [prBoxes_spec mb l (j :: seen) t, hc, memN_cons]
        by_cases e : t = j
        · subst e; simp
        · simp [e]
      · rename_i b'
        split
        · rename_i h1 h2
          rw [memN_cons, Bool.or_eq_true, prBoxes_spec mb l (j :: seen) t, hc, memN_cons]
          by_cases e : t = j
          · subst e; simp [hs, h1, h2]
          · simp [e]
        · rename_i h12
          rw [prBoxes_spec mb l (j :: seen) t, hc, memN_cons]
          by_cases e : t = j
          · subst e
            simp only [decide_true, Bool.true_or, Bool.true_eq_false, false_and, if_true, Option.some.injEq, exists_eq_left', false_iff, not_and]
            intro _ h3 h4
            exact h12 h3 h4
          · simp [e]
theorem scBx_spec (bx : List (Nat × Option SBox)) : ∀ (l : List Nat) (r : List (Nat × Option SBox)) (t : Nat), (memN l t = true → ∀ ty cs, lkB bx t = some (.st ty cs) → lkB (scBx bx l r) t = some (.st ty (junks cs))) ∧ ((memN l t = false ∨ ∀ ty cs, lkB bx t ≠ some (.st ty cs)) → lkB (scBx bx l r) t = lkB r t)
  | [], r, t => ⟨fun h => (by cases h), fun _ => rfl⟩
  | b :: l, r, t => by
    obtain ⟨h1, h2⟩ := scBx_spec bx l r t
    simp only [scBx]
    split
    · rename_i ty cs hb
      refine ⟨fun hm ty2 cs2 h => ?_, fun h => ?_⟩
      · rw [lkB_cons]
        by_cases e : t = b
        · subst e
          rw [hb] at h
          injection h with h
          injection h with e1 e2
          subst e1 e2
          rw [if_pos rfl]
        · rw [if_neg e]
          rw [memN_cons] at hm
          exact h1 (by simpa [e] using hm) ty2 cs2 h
      · rw [lkB_cons]
        by_cases e : t = b
        · subst e
          rcases h with h | h
          · rw [memN_cons] at h; simp at h
          · exact absurd hb (h ty cs)
        · rw [if_neg e]
          rw [memN_cons] at h
          exact h2 (h.imp (by simp [e]) id)
    · rename_i hb
      refine ⟨fun hm ty2 cs2 h => ?_, fun h => ?_⟩
      · by_cases e : t = b
        · subst e; exact absurd h (hb ty2 cs2)
        · rw [memN_cons] at hm
          exact h1 (by simpa [e] using hm) ty2 cs2 h
      · rw [memN_cons] at h
        by_cases e : t = b
        · subst e; exact h2 (.inr fun ty cs => hb ty cs)
        · exact h2 (h.imp (by simp [e]) id)
theorem scLive_spec (bx : List (Nat × Option SBox)) : ∀ (l : List Nat) (t : Nat), memN (scLive bx l) t = true ↔ memN l t = true ∧ ∃ ty cs, lkB bx t = some (.st ty cs)
  | [], t => by simp [scLive, memN]
  | b :: l, t => by
    have ih := scLive_spec bx l t
    simp only [scLive]
    split
    · rename_i ty cs hb
      rw [memN_cons, memN_cons, Bool.or_eq_true, Bool.or_eq_true, ih]
      by_cases e : t = b
      · subst e; simp [hb]
      · simp [e]
    · rename_i hb
      rw [ih, memN_cons, Bool.or_eq_true]
      by_cases e : t = b
      · subst e
        refine ⟨fun h => ⟨.inl (by simp), h.2⟩, fun h => ?_⟩
        obtain ⟨ty, cs, h⟩ := h.2
        exact absurd h (hb ty cs)
      · simp [e]
theorem junks_len : ∀ cs : List SV, (junks cs).length = cs.length
  | [] => rfl
  | c :: cs => by simp [junks, junks_len cs]
theorem junks_get : ∀ (cs : List SV) (j : Nat) (c : SV), (junks cs)[j]? = some c → c = .junk
  | [], j, c, h => by simp [junks] at h
  | _ :: cs, 0, c, h => by simp [junks] at h; exact h.symm
  | _ :: cs, j + 1, c, h => by simp [junks] at h; exact junks_get cs j c h
theorem keptAll_spec (mb sc : List Nat) : ∀ (l : List (Nat × Option SBox)) (seen : List Nat), keptAll mb sc l seen = true → ∀ t ty cs, memN seen t = false → lkB l t = some (.st ty cs) → memN mb t = true ∨ memN sc t = true ∨ norows cs = true
  | [], seen, _, t, ty, cs, _, h => by cases h
  | (j, b) :: l, seen, hk, t, ty, cs, hs, h => by
    simp only [keptAll] at hk
    rw [lkB_cons] at h
    split at hk
    · rename_i hj
      have e : ¬ t = j := fun e => by rw [e, hj] at hs; cases hs
      rw [if_neg e] at h
      exact keptAll_spec mb sc l seen hk t ty cs hs h
    · split at hk
      · split at hk
        · rename_i hm
          by_cases e : t = j
          · rw [if_pos e] at h
            injection h with h
            injection h with e1 e2
            subst e1 e2 e
            simpa [Bool.or_eq_true] using hm
          · rw [if_neg e] at h
            exact keptAll_spec mb sc l (j :: seen) hk t ty cs (by rw [memN_cons]; simp [e, hs]) h
        · cases hk
      · rename_i hb
        by_cases e : t = j
        · rw [if_pos e] at h
          exact absurd h (hb ty cs)
        · rw [if_neg e] at h
          exact keptAll_spec mb sc l (j :: seen) hk t ty cs (by rw [memN_cons]; simp [e, hs]) h
theorem disjN_spec : ∀ {a b : List Nat}, disjN a b = true → ∀ t, memN a t = true → memN b t = false
  | [], b, _, t, h => by cases h
  | x :: a, b, hd, t, h => by
    simp only [disjN] at hd
    split at hd
    · cases hd
    · rename_i hx
      rw [memN_cons, Bool.or_eq_true] at h
      rcases h with h | h
      · have := of_decide_eq_true h; subst this; exact hx
      · exact disjN_spec hd t h

/-! ### What is safe is kept -/
theorem safes_get {pr kb : List Nat} : ∀ {cs : List SV} (_ : safes pr kb cs = true) {j : Nat} {c : SV}, cs[j]? = some c → safe pr kb c = true
  | [], _, j, c, h => by simp at h
  | d :: cs, h, j, c, hj => by
    simp only [safes] at h
    split at h
    · rename_i h1
      cases j with
      | zero => simp at hj; subst hj; exact h1
      | succ j => simp at hj; exact safes_get h hj
    · cases h
theorem vsim_safe {B B' : List (Nat × Option SBox)} {pr kb : List Nat} (hrw : ∀ t, memN pr t = true → ∀ e k ty xs pins, lkB B t = some (.rw e k ty xs pins) → ∃ e' k' ty' xs' pins', lkB B' t = some (.rw e' k' ty' xs' pins') ∧ xs'.length = xs.length)
    (hst : ∀ t, memN kb t = true → ∀ ty cs, lkB B t = some (.st ty cs) → ∃ ty' cs', lkB B' t = some (.st ty' cs')) {v : SV} {q : PV} (h : VSim B v q) : safe pr kb v = true → VSim B' v q := by
  induction h with
  | junk q => exact fun _ => .junk q
  | d c y h => exact fun _ => .d c y h
  | ag cs qs hl hr ih => exact fun hs => .ag cs qs hl fun j c q h1 h2 => ih j c q h1 h2 (safes_get hs h1)
  | tup cs qs hl hr ih => exact fun hs => .tup cs qs hl fun j c q h1 h2 => ih j c q h1 h2 (safes_get hs h1)
  | ptr t o ty cs hb => exact fun hs => by obtain ⟨ty', cs', h1⟩ := hst t hs ty cs hb; exact .ptr t o ty' cs' h1
  | row t n e k ty xs pins hb hn =>
    intro hs
    obtain ⟨e', k', ty', xs', pins', h1, h2⟩ := hrw t hs e k ty xs pins hb
    exact .row t n e' k' ty' xs' pins' h1 (h2.trans hn)
  | re t p o n i e k ty xs pins pin hb hn hp hi => exact fun hs => by cases hs
  | vw t lo hi n e k ty xs pins hb hn => exact fun hs => by cases hs
  | fe cs ds h hn => exact fun _ => .fe cs ds h hn
  | fn f ps qs ps' qs' hl hr hl2 hr2 ih ih2 =>
    intro hs
    have hs : (match safes pr kb ps with | true => safes pr kb qs | false => false) = true := hs
    split at hs
    · rename_i h1
      exact .fn f ps qs ps' qs' hl (fun j c q h2 h3 => ih j c q h2 h3 (safes_get h1 h2)) hl2 (fun j c q h2 h3 => ih2 j c q h2 h3 (safes_get hs h2))
    · cases hs
mutual
theorem safe_K {pr pr' kb : List Nat} (h : ∀ t, memN pr t = true → memN pr' t = true) : ∀ v : SV, safe pr kb v = true → safeK pr' v = true
  | .junk, _ => rfl
  | .d _, _ => rfl
  | .fe _, _ => rfl
  | .ptr _ _, _ => rfl
  | .row t, hs => h t hs
  | .re _ _ _, hs => by cases hs
  | .vw _ _ _, hs => by cases hs
  | .ag cs, hs => by simp only [safeK]; exact safes_K h cs hs
  | .tup cs, hs => by simp only [safeK]; exact safes_K h cs hs
  | .fn f ps qs, hs => by
    have hs : (match safes pr kb ps with | true => safes pr kb qs | false => false) = true := hs
    split at hs
    · rename_i h1
      simp only [safeK, Bool.and_eq_true]
      exact ⟨safes_K h ps h1, safes_K h qs hs⟩
    · cases hs
theorem safes_K {pr pr' kb : List Nat} (h : ∀ t, memN pr t = true → memN pr' t = true) : ∀ cs : List SV, safes pr kb cs = true → safesK pr' cs = true
  | [], _ => rfl
  | c :: cs, hs => by
    simp only [safes] at hs
    split at hs
    · rename_i h1
      simp only [safesK, Bool.and_eq_true]
      exact ⟨safe_K h c h1, safes_K h cs hs⟩
    · cases hs
end
theorem safesK_get {pr : List Nat} : ∀ {cs : List SV} (_ : safesK pr cs = true) {j : Nat} {c : SV}, cs[j]? = some c → safeK pr c = true
  | [], _, j, c, h => by simp at h
  | d :: cs, h, j, c, hj => by
    simp only [safesK, Bool.and_eq_true] at h
    cases j with
    | zero => simp at hj; subst hj; exact h.1
    | succ j => simp at hj; exact safesK_get h.2 hj
theorem safes_of {pr kb : List Nat} : ∀ {cs : List SV}, (∀ (j : Nat) c, cs[j]? = some c → safe pr kb c = true) → safes pr kb cs = true
  | [], _ => rfl
  | c :: cs, h => by
    simp only [safes]
    rw [h 0 c rfl]
    exact safes_of fun j d hj => h (j + 1) d (by simpa using hj)
theorem safeK_safe {B : List (Nat × Option SBox)} {pr pr' kb : List Nat} (h : ∀ t, memN pr t = true → memN pr' t = true) (hst : ∀ t ty cs, lkB B t = some (.st ty cs) → memN kb t = true) {v : SV} {q : PV} (hv : VSim B v q) : safeK pr v = true → safe pr' kb v = true := by
  induction hv with
  | junk q => exact fun _ => rfl
  | d c y h => exact fun _ => rfl
  | ag cs qs hl hr ih =>
    refine fun hs => safes_of fun j c hj => ?_
    have hlt : j < qs.length := by rw [← hl]; exact (List.getElem?_eq_some_iff.1 hj).1
    exact ih j c qs[j] hj (by simp [hlt]) (safesK_get hs hj)
  | tup cs qs hl hr ih =>
    refine fun hs => safes_of fun j c hj => ?_
    have hlt : j < qs.length := by rw [← hl]; exact (List.getElem?_eq_some_iff.1 hj).1
    exact ih j c qs[j] hj (by simp [hlt]) (safesK_get hs hj)
  | ptr t o ty cs hb => exact fun _ => hst t ty cs hb
  | row t n e k ty xs pins hb hn => exact fun hs => h t hs
  | re t p o n i e k ty xs pins pin hb hn hp hi => exact fun hs => by cases hs
  | vw t lo hi n e k ty xs pins hb hn => exact fun hs => by cases hs
  | fe cs ds h hn => exact fun _ => rfl
  | fn f ps qs ps' qs' hl hr hl2 hr2 ih ih2 =>
    intro hs
    simp only [safeK, Bool.and_eq_true] at hs
    have k1 : safes pr' kb ps = true := safes_of fun j c hj => by
      have hlt : j < ps'.length := by rw [← hl]; exact (List.getElem?_eq_some_iff.1 hj).1
      exact ih j c ps'[j] hj (by simp [hlt]) (safesK_get hs.1 hj)
    have k2 : safes pr' kb qs = true := safes_of fun j c hj => by
      have hlt : j < qs'.length := by rw [← hl2]; exact (List.getElem?_eq_some_iff.1 hj).1
      exact ih2 j c qs'[j] hj (by simp [hlt]) (safesK_get hs.2 hj)
    show (match safes pr' kb ps with | true => safes pr' kb qs | false => false) = true
    rw [k1]
    exact k2
end Go.Proofs.Ytjeeclabnimbbaa

/- The typed executor: what is packed is laid again. -/
namespace Go.Proofs.Ytjeeclabnimbbaa
open Go.RowKit

theorem vs_d {B : List (Nat × Option SBox)} {c : SD} {q : PV} (h : VSim B (.d c) q) : ∃ y, q = .d y ∧ DSim c y := by
  cases h with
  | d _ y h => exact ⟨y, rfl, h⟩
theorem vs_row {B : List (Nat × Option SBox)} {t : Nat} {q : PV} (h : VSim B (.row t) q) : ∃ n, q = .row t n := by
  cases h with
  | row _ n => exact ⟨n, rfl⟩
def NoPins (bx : List (Nat × Option SBox)) : Prop := ∀ t e k ty xs pins, lkB bx t = some (.rw e k ty xs pins) → pins = []
theorem NoPins.cons_rw {bx : List (Nat × Option SBox)} (h : NoPins bx) {R e k : Nat} {t : Ty} {xs : List t.den} : NoPins ((R, some (.rw e k t xs [])) :: bx) := by
  intro t' e' k' ty' xs' pins' h1
  rw [lkB_cons] at h1
  split at h1
  · injection h1 with h1
    injection h1 with q1 q2 q3 q4 q5
    exact q5.symm
  · exact h t' e' k' ty' xs' pins' h1
theorem NoPins.cons_st {bx : List (Nat × Option SBox)} (h : NoPins bx) {R : Nat} {ty : TypeId} {cs : List SV} : NoPins ((R, some (.st ty cs)) :: bx) := by
  intro t' e' k' ty' xs' pins' h1
  rw [lkB_cons] at h1
  split at h1
  · cases h1
  · exact h t' e' k' ty' xs' pins' h1
/-- Boxes as the pure machine has them. -/
def BxOk (bx : List (Nat × Option SBox)) (p : PS) : Prop := ∀ t b, lkB bx t = some b → BSim bx true (some b) (p.b t)
theorem ble_rowIn {bx : List (Nat × Option SBox)} {p : PS} (hn : NoPins bx) (hb : BxOk bx p) {R e k : Nat} {t : Ty} {xs : List t.den} (hR : p.b R = some (.rw e k (xs.map (encE t)))) : BLe bx ((R, some (.rw e k t xs [])) :: bx) := by
  refine ⟨fun t' e2 k2 ty2 xs2 pins2 h => ?_, fun t' ty2 cs2 h => ?_⟩
  · rw [lkB_cons]
    by_cases e1 : t' = R
    · subst e1
      rw [if_pos rfl]
      have h1 := (hb t' _ h).1
      rw [hR] at h1
      injection h1 with h1
      injection h1 with q1 q2 q3
      refine ⟨e, k, t, xs, [], rfl, by simpa using congrArg List.length q3, fun p pin hp => ?_⟩
      rw [hn _ _ _ _ _ _ h] at hp
      cases hp
    · rw [if_neg e1]; exact ⟨_, _, _, _, _, h, rfl, fun p pin hp => ⟨pin, hp, rfl⟩⟩
  · rw [lkB_cons]
    by_cases e1 : t' = R
    · subst e1
      obtain ⟨qs, h1, _⟩ := hb t' _ h
      rw [hR] at h1
      cases h1
    · rw [if_neg e1]; exact ⟨_, _, h⟩
theorem ble_stIn {bx : List (Nat × Option SBox)} {p : PS} (hb : BxOk bx p) {b : Nat} {ty : TypeId} {cs : List SV} {qs : List PV} (hR : p.b b = some (.st ty qs)) : BLe bx ((b, some (.st ty cs)) :: bx) := by
  refine ⟨fun t' e2 k2 ty2 xs2 pins2 h => ?_, fun t' ty2 cs2 h => ?_⟩
  · rw [lkB_cons]
    by_cases e1 : t' = b
    · subst e1
      have h1 := (hb t' _ h).1
      rw [hR] at h1
      cases h1
    · rw [if_neg e1]; exact ⟨_, _, _, _, _, h, rfl, fun p pin hp => ⟨pin, hp, rfl⟩⟩
  · rw [lkB_cons]
    by_cases e1 : t' = b
    · rw [if_pos e1]; exact ⟨_, _, rfl⟩
    · rw [if_neg e1]; exact ⟨_, _, h⟩
theorem BxOk.cons {bx : List (Nat × Option SBox)} {p : PS} (h : BxOk bx p) {R : Nat} {b : SBox} (hB : BLe bx ((R, some b) :: bx)) (hb : BSim ((R, some b) :: bx) true (some b) (p.b R)) : BxOk ((R, some b) :: bx) p := by
  intro t b' h1
  rw [lkB_cons] at h1
  by_cases e : t = R
  · subst e
    rw [if_pos rfl] at h1
    injection h1 with h1
    subst h1
    exact hb
  · rw [if_neg e] at h1
    exact (h t b' h1).mono hB
theorem len_inj {t : Ty} {xs ys : List t.den} (h : xs.map (encE t) = ys.map (encE t)) : xs.length = ys.length := by
  have h9 := congrArg List.length h
  rw [List.length_map, List.length_map] at h9
  exact h9
theorem sl_inj {t t' : Ty} {xs : List t.den} {ys : List t'.den} {c : SD} (h : c.as (.sl t) = some xs) (hd : c.toD = .sl (ys.map (encE t'))) : xs.map (encE t) = ys.map (encE t') := by
  have h1 := SD.as_ok h
  rw [hd] at h1
  have h2 : [D.sl (xs.map (encE t))] = [D.sl (ys.map (encE t'))] := h1
  injection h2 with h2
  injection h2
/-- Cells that were read, laid again. -/
theorem putCells_ok {s' : SS} {p : PS} (hs' : SimW s' p) {rows : List (Nat × Nat × Nat × Nat × Ty)} : ∀ {cs : List SV} {qs : List PV} {ds0 ds : List SD} {j : Nat} {bx bx' : List (Nat × Option SBox)} {vs : List SV}, CSim s'.bx cs qs → cellsOf s' rows j cs = some ds0 → ds0.map SD.toD = ds.map SD.toD → (∀ c ∈ ds, c ≠ .nl) →
    NoPins bx → BxOk bx p → putCells rows j ds bx = some (vs, bx') → NoPins bx' ∧ BxOk bx' p ∧ BLe bx bx' ∧ CSim bx' vs qs ∧ (∀ t, (∀ r ∈ rows, r.2.1 ≠ t) → lkB bx' t = lkB bx t)
  | [], qs, ds0, ds, j, bx, bx', vs, hc, h0, hd, _, hn, hb, h => by
    rcases hc.cases with ⟨_, rfl⟩ | ⟨_, _, _, _, h1, _⟩
    · injection h0 with h0
      subst h0
      have : ds = [] := by simpa using hd.symm
      subst this
      injection h with h
      injection h with e1 e2
      subst e1 e2
      exact ⟨hn, hb, .refl _, .nil, fun _ _ => rfl⟩
    · cases h1
  | c :: cs, qs, ds0, ds, j, bx, bx', vs, hc, h0, hd, hnl, hn, hb, h => by
    rcases hc.cases with ⟨h1, _⟩ | ⟨c', q, cs', qs', h1, rfl, hq, hcs⟩
    · cases h1
    injection h1 with e1 e2
    subst e1 e2
    have findR_mem : ∀ {rows : List (Nat × Nat × Nat × Nat × Ty)} {j R e k : Nat} {t : Ty}, findR rows j = some (R, e, k, t) → ∃ r ∈ rows, r.2.1 = R := by
      intro rows
      induction rows with
      | nil => intro j R e k t h; cases h
      | cons r rows ih =>
        intro j R e k t h
        obtain ⟨j', R', e', k', t'⟩ := r
        simp only [findR] at h
        split at h
        · injection h with h
          injection h with h _
          exact ⟨_, List.mem_cons_self, h⟩
        · obtain ⟨r, h1, h2⟩ := ih h
          exact ⟨r, List.mem_cons_of_mem _ h1, h2⟩
    simp only [cellsOf] at h0
    split at h0
    · rename_i R e k t hf
      split at h0
      · rename_i R' e' k' t' xs pins hbR
        split at h0
        · rename_i ht hsame
          have k1 := (chk_some h0).1
          replace h0 := (chk_some h0).2
          have k2 := (chk_some h0).1
          replace h0 := (chk_some h0).2
          have k3 := (chk_some h0).1
          replace h0 := (chk_some h0).2
          replace k1 : R' = R := by simpa [beq_spec] using k1
          replace k2 : e' = e := by simpa using k2
          replace k3 : k' = k := by simpa using k3
          subst k1 k2 k3 ht
          split at h0
          · rename_i r hr
            injection h0 with h0
            subst h0
            cases ds with
            | nil => simp at hd
            | cons d ds =>
              simp only [List.map_cons, List.cons.injEq] at hd
              obtain ⟨hd1, hd2⟩ := hd
              simp only [putCells, hf] at h
              split at h
              · rename_i xs' vs' bx1 hxs hp
                injection h with h
                injection h with e1 e2
                subst e1 e2
                obtain ⟨m1, m2, m3, m4, m5⟩ := putCells_ok hs' hcs hr hd2 (fun c hc => hnl c (List.mem_cons_of_mem _ hc)) hn hb hp
                have hpR : p.b R' = some (.rw e' k' (xs.map (encE t'))) := (hs'.bx R' _ hbR).1
                have hx : xs'.map (encE t') = xs.map (encE t') := sl_inj hxs (by rw [← hd1]; rfl)
                have hpR' : p.b R' = some (.rw e' k' (xs'.map (encE t'))) := by rw [hx]; exact hpR
                have hB := ble_rowIn m1 m2 hpR'
                refine ⟨m1.cons_rw, m2.cons hB ⟨hpR', fun p pin hp => by cases hp⟩, m3.trans hB, .cons ?_ (m4.mono hB), fun t2 ht2 => ?_⟩
                · cases hq with
                  | row _ n e2 k2 ty2 xs2 pins2 hb2 hn2 =>
                    rw [hbR] at hb2
                    injection hb2 with hb2
                    injection hb2 with q1 q2 q3 q4 q5
                    subst q3
                    have q4 := eq_of_heq q4
                    subst q4
                    refine .row R' n e' k' t' xs' [] (by rw [lkB_cons, if_pos rfl]) ?_
                    rw [← hn2]
                    exact len_inj hx
                · rw [lkB_cons, if_neg (fun e => by
                    obtain ⟨r, h1, h2⟩ := findR_mem hf
                    exact ht2 r h1 (h2.trans e.symm))]
                  exact m5 t2 ht2
              · cases h
          · cases h0
        · cases h0
      · cases h0
    · rename_i hf
      split at h0
      · rename_i x r hr
        injection h0 with h0
        subst h0
        cases ds with
        | nil => simp at hd
        | cons d ds =>
          simp only [List.map_cons, List.cons.injEq] at hd
          obtain ⟨hd1, hd2⟩ := hd
          simp only [putCells, hf] at h
          split at h
          · rename_i vs' bx1 hp
            injection h with h
            injection h with e1 e2
            subst e1 e2
            obtain ⟨m1, m2, m3, m4, m5⟩ := putCells_ok hs' hcs hr hd2 (fun c hc => hnl c (List.mem_cons_of_mem _ hc)) hn hb hp
            refine ⟨m1, m2, m3, .cons ?_ m4, m5⟩
            cases hq with
            | d _ y hy =>
              refine .d d y ?_
              have h1 := hy.nrm
              rw [hd1] at h1
              have h2 := hnl d List.mem_cons_self
              cases d <;> first | exact h1 | exact absurd rfl h2
          · cases h
      · cases h0
theorem enc1_nl {t : Ty} {c : SD} {x : t.den} (h : c.as t = some x) : enc1 t x ≠ .nl := by
  cases t with
  | st i => simp [SD.as] at h
  | _ => intro e; cases e
theorem mem_rows {t : Nat} : ∀ {rows : List (Nat × Nat × Nat × Nat × Ty)} {r : Nat × Nat × Nat × Nat × Ty}, r ∈ rows → r.2.1 = t → memN (rows.map (·.2.1)) t = true
  | [], r, h, _ => by cases h
  | a :: rows, r, h, e => by
    rw [List.map_cons, memN_cons, Bool.or_eq_true]
    rcases List.mem_cons.1 h with rfl | h
    · exact .inl (by simp [e])
    · exact .inr (mem_rows h e)
/-- One of those that turn, laid again. -/
theorem putM_ok {s' : SS} {p : PS} (hs' : SimW s' p) {m : Mod} {x : m.den} {c c' : SS} (hg : getM s' m = some x) (hc : SimW c p) (hn : NoPins c.bx) (h : putM m x c = some c') :
    SimW c' p ∧ NoPins c'.bx ∧ BLe c.bx c'.bx ∧ (∀ t, memN (modBoxes [m]) t = false → lkB c'.bx t = lkB c.bx t) := by
  cases m with
  | leaf i t =>
    simp only [putM] at h
    injection h with h
    subst h
    refine ⟨⟨fun j => ?_, hc.bx⟩, hn, .refl _, fun _ _ => rfl⟩
    show VSim c.bx (lkV ((i, .d (enc1 t x)) :: c.sl) j) (p.t j)
    rw [lkV_cons]
    split
    · rename_i e
      subst e
      have h1 := hs'.sl j
      have hg : (match lkV s'.sl j with | .d c => c.as t | _ => none) = some (show t.den from x) := hg
      split at hg
      · rename_i c0 hc0
        rw [hc0] at h1
        obtain ⟨y, hp, hy⟩ := vs_d h1
        rw [hp]
        refine .d _ y ?_
        have h2 := hy.nrm
        rw [← enc1_as hg] at h2
        have h3 := enc1_nl hg
        revert h2 h3
        generalize enc1 t x = z
        intro h2 h3
        cases z <;> first | exact h2 | exact absurd rfl h3
      · exact noneN hg
    · exact hc.sl j
  | agg i n =>
    simp only [putM] at h
    injection h with h
    subst h
    refine ⟨⟨fun j => ?_, hc.bx⟩, hn, .refl _, fun _ _ => rfl⟩
    show VSim c.bx (lkV ((i, .ag (mapD (stC n x))) :: c.sl) j) (p.t j)
    rw [lkV_cons]
    split
    · rename_i e
      subst e
      have h1 := hs'.sl j
      simp only [getM] at hg
      split at hg
      · rename_i cs hcs
        split at hg
        · rename_i ds hds
          rw [hcs] at h1
          obtain ⟨qs, h2, h3⟩ := vs_ag h1
          rw [h2]
          have h4 := rowDs_sim h3 hds
          have h5 := stK_ok hg
          have hlen : qs.length = (stC n x).length := by
            have a := rowDs_len hds
            have b := h3.len
            have c := congrArg List.length h5
            have d := congrArg List.length (stC_ok n x)
            simp only [List.length_map] at c d
            omega
          refine .ag _ qs (by rw [mapD_eq, List.length_map]; exact hlen.symm) (fun k v q k1 k2 => ?_)
          rw [mapD_eq, List.getElem?_map, Option.map_eq_some_iff] at k1
          obtain ⟨z, k3, rfl⟩ := k1
          obtain ⟨y, k4, k5⟩ := mapM_toD qs _ h4 |>.2 k (z.toD) (by
            have h7 : (stC n x).map SD.toD = stD n x := stC_ok n x
            rw [h5, ← h7, List.getElem?_map, k3]
            rfl)
          rw [k2] at k4
          injection k4 with k4
          subst k4
          have h6 := stC_nl n x z (List.mem_of_getElem? k3)
          refine .d z y ?_
          cases z <;> first | exact k5.symm | exact absurd rfl h6
        · exact noneN hg
      · exact noneN hg
    · exact hc.sl j
  | row i R e k t =>
    simp only [putM] at h
    injection h with h
    subst h
    simp only [getM] at hg
    split at hg
    · rename_i R' e' k' t' xs pins hv hb
      split at hg
      · rename_i ht hsame
        have k1 := (chk_some hg).1
        replace hg := (chk_some hg).2
        have k2 := (chk_some hg).1
        replace hg := (chk_some hg).2
        have k3 := (chk_some hg).1
        replace hg := (chk_some hg).2
        replace k1 : R' = R := by simpa [beq_spec] using k1
        replace k2 : e' = e := by simpa using k2
        replace k3 : k' = k := by simpa using k3
        subst k1 k2 k3 ht
        injection hg with hg
        subst hg
        have hpR : p.b R' = some (.rw e' k' (xs.map (encE t'))) := (hs'.bx R' _ hb).1
        have hB := ble_rowIn hn hc.bx hpR
        refine ⟨⟨fun j => ?_, BxOk.cons hc.bx hB ⟨hpR, fun p pin hp => by cases hp⟩⟩, hn.cons_rw, hB, fun t2 ht2 => ?_⟩
        · show VSim _ (lkV ((i, .row R') :: c.sl) j) (p.t j)
          rw [lkV_cons]
          split
          · rename_i e
            subst e
            have h1 := hs'.sl j
            rw [hv] at h1
            obtain ⟨n, h2⟩ := vs_row h1
            rw [h2] at h1 ⊢
            cases h1 with
            | row _ _ e2 k2 ty2 xs2 pins2 hb2 hn2 =>
              rw [hb] at hb2
              injection hb2 with hb2
              injection hb2 with q1 q2 q3 q4 q5
              subst q3
              have q4 := eq_of_heq q4
              subst q4
              exact .row R' n e' k' t' xs [] (by rw [lkB_cons, if_pos rfl]; rfl) hn2
          · exact (hc.sl j).mono hB
        · show lkB ((R', _) :: c.bx) t2 = _
          rw [lkB_cons, if_neg (fun e => by subst e; simp [modBoxes, memN_cons] at ht2)]
      · exact noneN hg
    · exact noneN hg
  | box b ty n rows =>
    simp only [putM] at h
    split at h
    · rename_i vs bx hp
      injection h with h
      subst h
      simp only [getM] at hg
      split at hg
      · rename_i ty' cs hb
        have k1 := (chk_some hg).1
        replace hg := (chk_some hg).2
        replace k1 : ty' = ty := by simpa using k1
        subst k1
        replace hg := (chk_some hg).2
        split at hg
        · rename_i ds hds
          obtain ⟨qs, h1, h2⟩ := hs'.bx b _ hb
          have h3 := stK_ok hg
          obtain ⟨m1, m2, m3, m4, m5⟩ := putCells_ok hs' h2 hds (h3.trans (stC_ok n x).symm) (stC_nl n x) hn hc.bx hp
          have hB := ble_stIn (cs := vs) m2 h1
          refine ⟨⟨fun j => ((hc.sl j).mono m3).mono hB, BxOk.cons m2 hB ⟨qs, h1, m4.mono hB⟩⟩, m1.cons_st, m3.trans hB, fun t2 ht2 => ?_⟩
          simp only [modBoxes, memN_cons, memN_app, Bool.or_eq_false_iff] at ht2
          show lkB ((b, _) :: bx) t2 = _
          rw [lkB_cons, if_neg (fun e => by have := ht2.1; simp [e] at this)]
          refine m5 t2 fun r hr e => ?_
          have := mem_rows hr e
          rw [this] at ht2
          cases ht2.2.1
        · exact noneN hg
      · exact noneN hg
    · cases h
end Go.Proofs.Ytjeeclabnimbbaa
