/- slices.SortFunc of queues by their paths. -/
import Derived.Test.YtigfoghkndoakaaDoorQueue
import Derived.Test.YtigfoghkndoakaaDoorOrd5
import Derived.Shelf.SlSortCmp.WholeK
import Derived.Shelf.SlSortCmp.NoneTotal
namespace Go.Proofs.YtigfoghkndoakaaDoor
open Go.RowKit Go.Sort Go.Shelf

def cfQ (x y : QC) : Int := Lib.compareBytes x.p.data.toList y.p.data.toList
theorem ltQ (x y : QC) : ltOf cfQ x y = lt8 x.p.data.toList y.p.data.toList := by unfold ltOf cfQ; exact cmp_lt8 _ _
theorem swoQ : SWO (ltOf cfQ) where
  irrefl x := by rw [ltQ]; exact lt8_irrefl _
  trans x y z h1 h2 := by rw [ltQ] at *; exact lt8_trans _ _ _ h1 h2
  ntrans x y z h1 h2 := by rw [ltQ] at *; exact lt8_ntrans _ _ _ h1 h2

theorem byPath_any (x y : QC) (W : World) : Calls Tryd.prog 56 #[.agg (qenc x).toArray, .agg (qenc y).toArray] W fun e w' => e = .returned (.int .i64 (cfQ x y)) ∧ ∃ q os', w' = grow (W.drewN q) os' := by
  have hcon := fun W' => Tryd.strings_Compare x.p y.p W'
  unfold cfQ
  generalize Lib.compareBytes x.p.data.toList y.p.data.toList = r at hcon ⊢
  unfold qenc
  go_enter Tryd.func56, Tryd.ntmps56
  go_wp2_with (go_at_call 72; refine (hcon _).mono ?_; rintro e w' ⟨rfl, rfl⟩)
  go_ret
  exact ⟨rfl, 0, _, by rw [alloc_eq_grow, alloc_eq_grow, grow_grow]; rfl⟩

theorem qenc_one : ∀ x, ∀ v ∈ qenc x, v.oneCell' = true := by
  intro x v hv
  unfold qenc at hv
  exact one3 v hv

theorem qcells_get : ∀ (qs : List QC) (i c : Nat), c < 3 → (qcells qs)[i * 3 + c]? = (qs[i]?).bind fun q => (qenc q)[c]?
  | [], i, c, _ => by simp [qcells]
  | q :: qs, 0, c, h => by
    have hl : (qenc q).length = 3 := rfl
    simp only [qcells, List.flatMap_cons, Nat.zero_mul, Nat.zero_add, List.getElem?_cons_zero, Option.bind_some]
    rw [List.getElem?_append_left (by omega)]
  | q :: qs, i + 1, c, h => by
    have hl : (qenc q).length = 3 := rfl
    have ih := qcells_get qs i c h
    simp only [qcells, List.flatMap_cons, List.getElem?_cons_succ] at ih ⊢
    rw [List.getElem?_append_right (by omega), hl, show (i + 1) * 3 + c - 3 = i * 3 + c by omega, ih]

/-- What a sort leaves: the same queues, sorted. -/
def SortPost (qs : List QC) (v : Value) (ds : List QD) (w : World) (e : Ending) (w' : World) : Prop := e = .returned (.tuple #[]) ∧ w.grownBy w' v.ownBlock ∧
  ∃ ds' : List QD, ds'.Perm ds ∧ Srt ds' ∧ ∃ qs' : List QC, qs'.Perm qs ∧ RdK 3 w' v ds.length (qcells qs') ∧ qs'.length = ds.length ∧ ds'.length = ds.length ∧ ∀ k (h : k < ds'.length), ∃ q, qs'[k]? = some q ∧ IsQ w' q ds'[k]

theorem sort_some (B g cap : Nat) (ds : List QD) (w : World) (qs : List QC) (h1 : w.ownsRow B 36 3 (.slice (some ⟨g, 0, none⟩) ds.length cap) ds.length (qcells qs)) (h2 : qs.length = ds.length) (h3 : ∀ k (h : k < ds.length), ∃ q, qs[k]? = some q ∧ IsQ w q ds[k] ∧ ∀ g', (Value.slice q.A q.n q.c).ownBlock = some g' → some g ≠ some g') (hn : ds.length ≤ 16) :
    Calls Tryd.prog 55 #[.slice (some ⟨g, 0, none⟩) ds.length cap, .func (.func 56) #[] #[]] w (SortPost qs (.slice (some ⟨g, 0, none⟩) ds.length cap) ds w) := by
  have eg : ∀ args w, (callFunc 56 args).run Tryd.prog w = .ok (.enter 56 args) w := enters_of Tryd.func56 (by kernel_rfl) rfl
  have hblk := (h1.lt g rfl).2
  have hH : HoldsK qenc 3 w g 0 qs.toArray := by
    intro j hj
    rw [size_flatK, List.size_toArray] at hj
    rw [get_flatK _ _ _ _ (by simpa using hj)]
    have hlt : j / 3 < qs.length := by omega
    have e : (qs.toArray)[j / 3]! = qs[j / 3] := by simp [hlt]
    rw [e, Nat.zero_add]
    have hc : j % 3 < 3 := Nat.mod_lt _ (by omega)
    have hq := qcells_get qs (j / 3) (j % 3) hc
    rw [show j / 3 * 3 + j % 3 = j by omega, List.getElem?_eq_getElem hlt, Option.bind_some] at hq
    have hl : j % 3 < (qenc qs[j / 3]).length := hc
    refine ⟨?_, h1.frozenAt j⟩
    rw [h1.cellAt j (by omega), hq, List.getElem?_eq_getElem hl]
    simp [hl]
  have hcon := AnyQ.slices_SortFunc Tryd.sortQ 3 Tryd.isAgg36 Tryd.sizeOf36 qenc (fun _ => rfl) qenc_one cfQ swoQ 56 #[] g 0 cap qs.toArray w eg (fun _ _ _ _ x y => byPath_any x y _) hH hblk (by simp; omega)
  change Calls Tryd.prog 55 _ _ _ at hcon
  simp only [List.size_toArray, h2] at hcon
  refine hcon.mono ?_
  rintro e w' ⟨rfl, d', n, os, hp, hs, rfl⟩
  have hsz : d'.size = qs.length := by simpa using hp.1
  have hperm : d'.toList.Perm qs := by
    have h := hp.2.2
    have e1 : d'.extract 0 ds.length = d' := by rw [← h2, ← hsz]; simp
    have e2 : qs.toArray.extract 0 ds.length = qs.toArray := by rw [← h2]; simp
    rw [e1, e2] at h
    exact h
  have hH' := holdsK_sortWorldK qenc 3 w g 0 n qs.toArray d' os hblk hH (by simpa using hsz)
  have hgr : w.grownBy (sortWorldK qenc 3 w g 0 n d' os) (some g) := by
    refine ⟨rfl, rfl, rfl, by simp [sortWorldK, grow, putRowK, putRow, mapBlock, Sort.ahead], fun k hk hne => ?_⟩
    have hkg : g ≠ k := fun e => hne (by rw [e])
    simp [sortWorldK, grow, putRowK, putRow, mapBlock, Sort.ahead, Array.getElem?_append, Array.getElem?_modify, hk, hkg]
    rw [Array.getElem_modify]
    simp [hkg]
  obtain ⟨z', hz1, hz2⟩ := perm_lift Prod.fst hperm (qs.zip ds) (List.map_fst_zip (by omega))
  have hzl : z'.length = ds.length := by rw [hz1.length_eq]; simp [h2]
  have hzk : ∀ k (hk : k < z'.length), d'.toList[k]? = some z'[k].1 ∧ IsQ w z'[k].1 z'[k].2 ∧ ∀ g', (Value.slice z'[k].1.A z'[k].1.n z'[k].1.c).ownBlock = some g' → some g ≠ some g' := by
    intro k hk
    refine ⟨by rw [← hz2]; simp [hk], ?_⟩
    have hm : z'[k] ∈ qs.zip ds := hz1.mem_iff.1 (List.getElem_mem hk)
    obtain ⟨i, hi, e⟩ := List.mem_iff_getElem.1 hm
    rw [List.getElem_zip] at e
    rw [List.length_zip, h2, Nat.min_self] at hi
    obtain ⟨q, h4, h5, h6⟩ := h3 i hi
    have e1 : z'[k].1 = q := by rw [← e]; rw [List.getElem?_eq_getElem (by omega)] at h4; injection h4
    have e2 : z'[k].2 = ds[i] := by rw [← e]
    rw [e1, e2]
    exact ⟨h5, h6⟩
  have hd'l : d'.toList.length = ds.length := by simp [hsz, h2]
  refine ⟨rfl, hgr, z'.map Prod.snd, ?_, ?_, d'.toList, hperm, ⟨_, cap, rfl, ?_, ?_, ?_, ?_⟩, hd'l, ?_, ?_⟩
  · have := hz1.map Prod.snd
    rwa [List.map_snd_zip (by omega)] at this
  · rw [Srt, List.pairwise_iff_getElem]
    intro i j hi hj hij
    rw [List.length_map] at hi hj
    have hi' := hzk i hi
    have hj' := hzk j hj
    have h := hs i j (Nat.zero_le _) hij (by omega)
    rw [ltQ] at h
    have ei : d'[i]! = z'[i].1 := by have := hi'.1; rw [Array.getElem?_toList] at this; rw [getElem!_def, this]
    have ej : d'[j]! = z'[j].1 := by have := hj'.1; rw [Array.getElem?_toList] at this; rw [getElem!_def, this]
    rw [ei, ej, hi'.2.1.1, hj'.2.1.1] at h
    simpa using h
  · obtain ⟨A', c', e, hc1, hc2⟩ := own_shape h1
    injection e with _ _ e3
    subst e3
    exact hc1
  · obtain ⟨A', c', e, hc1, hc2⟩ := own_shape h1
    injection e with _ _ e3
    subst e3
    exact hc2
  · rw [qcells_length, hd'l]
  · intro hpos
    refine ⟨⟨g, 0, none⟩, rfl, Nat.lt_of_lt_of_le hblk hgr.size, fun j u hu => ?_⟩
    have hadd : (⟨g, 0, none⟩ : Addr).add j = ⟨g, j, none⟩ := by unfold Addr.add; split <;> simp_all
    rw [hadd]
    have hj : j < (qcells d'.toList).length := (List.getElem?_eq_some_iff.1 hu).1
    rw [qcells_length] at hj
    have hlt : j / 3 < d'.size := by have : d'.toList.length = d'.size := by simp
                                     omega
    have hc : j % 3 < 3 := Nat.mod_lt _ (by omega)
    have hq := qcells_get d'.toList (j / 3) (j % 3) hc
    rw [show j / 3 * 3 + j % 3 = j by omega, hu, Array.getElem?_toList, Array.getElem?_eq_getElem hlt, Option.bind_some] at hq
    have h := (hH'.cell (i := j / 3) (c := j % 3) hlt hc).1
    rw [show 0 + j / 3 * 3 + j % 3 = j by omega] at h
    rw [h, hq]
    have hl : j % 3 < (qenc d'[j / 3]).length := hc
    rw [getElem!_pos d' (j / 3) hlt, List.getElem?_eq_getElem hl, getElem!_pos (qenc d'[j / 3]) (j % 3) hl]
  · simp [hzl]
  · intro k hk
    rw [List.length_map] at hk
    obtain ⟨h4, h5, h6⟩ := hzk k hk
    refine ⟨z'[k].1, h4, ?_⟩
    rw [List.getElem_map]
    exact ⟨h5.1, h5.2.1, h5.2.2.grown hgr (fun g' e e' => by injection e with e; subst e; exact h6 _ e' rfl)⟩

theorem sort_any (B : Nat) (v : Value) (ds : List QD) (w : World) (qs : List QC) (h1 : w.ownsRow B 36 3 v ds.length (qcells qs)) (h2 : qs.length = ds.length)
    (h3 : ∀ k (h : k < ds.length), ∃ q, qs[k]? = some q ∧ IsQ w q ds[k] ∧ ∀ g', (Value.slice q.A q.n q.c).ownBlock = some g' → v.ownBlock ≠ some g') (hn : ds.length ≤ 16) :
    Calls Tryd.prog 55 #[v, .func (.func 56) #[] #[]] w (SortPost qs v ds w) := by
  rcases h1.2 with ⟨rfl, h0⟩ | ⟨g, cap, cur, rfl, _⟩
  · have hds : ds = [] := List.eq_nil_of_length_eq_zero h0
    subst hds
    have hqs : qs = [] := List.eq_nil_of_length_eq_zero (by simpa using h2)
    subst hqs
    have hS := AnyF.slices_SortFunc_none (P := Tryd.prog) (ρ := Tryd.sortQ_ren) { Tryd.sortQ with } none 0 (.func (.func 56) #[] #[]) w
    change Calls Tryd.prog 55 _ _ _ at hS
    refine hS.mono ?_
    rintro e w' ⟨rfl, rfl⟩
    exact ⟨rfl, World.grownBy.refl _ _, [], List.Perm.refl _, List.Pairwise.nil, [], List.Perm.refl _, ⟨none, 0, rfl, Nat.le_refl _, by simp [maxLen], rfl, fun h => absurd h (by simp [qcells])⟩, rfl, rfl, fun k hk => absurd hk (by simp)⟩
  · exact sort_some B g cap ds w qs h1 h2 h3 hn
end Go.Proofs.YtigfoghkndoakaaDoor
