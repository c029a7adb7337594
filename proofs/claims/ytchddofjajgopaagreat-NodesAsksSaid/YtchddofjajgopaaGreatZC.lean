/- My texts, in one. -/
import Derived.Test.YtchddofjajgopaaGreatZB
set_option linter.all false
set_option maxRecDepth 100000
set_option maxHeartbeats 4000000
namespace Go.Proofs.YtchddofjajgopaaGreat
open Go.RowKit
open IntKind (i64)
open Go.Proofs.Tryz (prog)
section
mutual
def pN : PV → PV
 | .d x => .d (nrm x)
 | .ag cs => .ag (dM cs)
 | .tup cs => .tup (dM cs)
 | .fn f ps qs => .fn f (dM ps) (dM qs)
 | p => p
def dM : List PV → List PV
 | [] => []
 | c :: cs => pN c :: dM cs
end
def qK : Box → Box
 | .st ty cs => .st ty (dM cs)
 | b => b
theorem ib : ∀ cs : List PV, (dM cs).length = cs.length
 | [] => rfl
 | c :: cs => by simp [dM, ib cs]
theorem kp : ∀ (cs : List PV) (j : Nat) (c : PV), (dM cs)[j]? = some c → ∃ d, cs[j]? = some d ∧ c = pN d
 | [], j, c, h => by simp [dM] at h
 | d :: cs, 0, c, h => by simp [dM] at h; exact ⟨d, rfl, h.symm⟩
 | d :: cs, j + 1, c, h => by simp [dM] at h; simpa using kp cs j c h
section
variable {P : Program} {ρ ρ' ρ2 : Nat → Value} {b b' b2 : Nat → Option Box} {w w' : World} {w0 : WM} {F F' F0 : Nat → Prop} {n : Nat} {σ τ : Nat → Nat}
theorem aL.nrmd {x : Value} {p : PV} (h : aL ρ b w F x p) : aL ρ b w F x (pN p) := by
 induction h with
 | junk x => exact .junk x
 | d x d h => exact .d x _ h.nrm
 | ag xs cs hl h1 hr ih => exact .ag xs _ (by rw [ib]; exact hl) h1 (fun j x c h2 h3 => by obtain ⟨d, h4, rfl⟩ := kp cs j c h3; exact ih j x d h2 h4)
 | tup xs cs hl hr ih => exact .tup xs _ (by rw [ib]; exact hl) (fun j x c h2 h3 => by obtain ⟨d, h4, rfl⟩ := kp cs j c h3; exact ih j x d h2 h4)
 | ptr t off g ty cs hb hρ => exact .ptr t off g ty cs hb hρ
 | row t n A c e k es hb hn hc hA hρ => exact .row t n A c e k es hb hn hc hA hρ
 | re t n i off a e k es hb hn hi hρ => exact .re t n i off a e k es hb hn hi hρ
 | vw t n lo hi A m c e k es hb hn hl hh hm hρ => exact .vw t n lo hi A m c e k es hb hn hl hh hm hρ
 | fe a cs us hF hcell hrep => exact .fe a cs us hF hcell hrep
 | fn f xs ys ps qs hl hr hl2 hr2 ih ih2 =>
  exact .fn f xs ys _ _ (by rw [ib]; exact hl) (fun j x c h2 h3 => by obtain ⟨d, h4, rfl⟩ := kp ps j c h3; exact ih j x d h2 h4)
   (by rw [ib]; exact hl2) (fun j x c h2 h3 => by obtain ⟨d, h4, rfl⟩ := kp qs j c h3; exact ih2 j x d h2 h4)
end
mutual
def lX (σ : Nat → Nat) : PV → PV
 | .ptr t o => .ptr (σ t) o
 | .row t n => .row (σ t) n
 | .re t n i o => .re (σ t) n i o
 | .vw t n i o => .vw (σ t) n i o
 | .ag cs => .ag (eT σ cs)
 | .tup cs => .tup (eT σ cs)
 | .fn f ps qs => .fn f (eT σ ps) (eT σ qs)
 | p => p
def eT (σ : Nat → Nat) : List PV → List PV
 | [] => []
 | c :: cs => lX σ c :: eT σ cs
end
def vh (σ : Nat → Nat) : Box → Box
 | .st ty cs => .st ty (eT σ cs)
 | b => b
def Kt : Box → List Nat
 | .st _ cs => bH cs
 | .rw .. => []
def lW (σ : Nat → Nat) : BU → BU
 | [] => []
 | (t, B) :: l => (σ t, vh σ B) :: lW σ l
def bV : BU → List Nat
 | [] => []
 | (t, _) :: l => t :: bV l
theorem ko (σ : Nat → Nat) : ∀ cs : List PV, (eT σ cs).length = cs.length
 | [] => rfl
 | c :: cs => by simp [eT, ko σ cs]
theorem mj (σ : Nat → Nat) : ∀ (cs : List PV) (j : Nat) (c : PV), (eT σ cs)[j]? = some c → ∃ d, cs[j]? = some d ∧ c = lX σ d
 | [], j, c, h => by simp [eT] at h
 | d :: cs, 0, c, h => by simp [eT] at h; exact ⟨d, rfl, h.symm⟩
 | d :: cs, j + 1, c, h => by simp [eT] at h; simpa using mj σ cs j c h
theorem dH {t : Nat} : ∀ {cs : List PV} {j : Nat} {c : PV}, cs[j]? = some c → t ∈ bb c → t ∈ bH cs
 | [], j, c, h, _ => by simp at h
 | d :: cs, 0, c, h, ht => by simp at h; subst h; simp [bH, ht]
 | d :: cs, j + 1, c, h, ht => by simp [bH]; exact .inr (dH (by simpa using h) ht)
theorem cR : ∀ {l : BU} {t : Nat}, t ∈ bV l ↔ ∃ B, lkU l t = some B
 | [], t => by simp [bV, lkU]
 | (j, B) :: l, t => by
  simp only [bV, List.mem_cons, lkU]
  by_cases h : t = j
  ·subst h; simp
  ·simp only [h, false_or, if_false]; exact cR
mutual
theorem Kr (σ : Nat → Nat) : ∀ p : PV, bb (lX σ p) = (bb p).map σ
 | .junk => rfl
 | .d _ => rfl
 | .ptr _ _ => rfl
 | .row _ _ => rfl
 | .re _ _ _ _ => rfl
 | .vw _ _ _ _ => rfl
 | .fe _ => rfl
 | .ag cs => by simp only [lX, bb, oB σ cs]
 | .tup cs => by simp only [lX, bb, oB σ cs]
 | .fn f ps qs => by simp only [lX, bb, oB σ ps, oB σ qs, List.map_append]
theorem oB (σ : Nat → Nat) : ∀ cs : List PV, bH (eT σ cs) = (bH cs).map σ
 | [] => rfl
 | c :: cs => by simp only [eT, bH, Kr σ c, oB σ cs, List.map_append]
end
mutual
theorem PO {σ τ : Nat → Nat} : ∀ (p : PV), (∀ t ∈ bb p, σ (τ t) = t) → lX σ (lX τ p) = p
 | .junk, _ => rfl
 | .d _, _ => rfl
 | .ptr t o, h => by simp only [lX]; rw [h t (by simp [bb])]
 | .row t o, h => by simp only [lX]; rw [h t (by simp [bb])]
 | .re t _ _ _, h => by simp only [lX]; rw [h t (by simp [bb])]
 | .vw t _ _ _, h => by simp only [lX]; rw [h t (by simp [bb])]
 | .fe _, _ => rfl
 | .ag cs, h => by simp only [lX]; rw [qI cs h]
 | .tup cs, h => by simp only [lX]; rw [qI cs h]
 | .fn f ps qs, h => by simp only [lX]; rw [qI ps (fun t ht => h t (by simp [bb, ht])), qI qs (fun t ht => h t (by simp [bb, ht]))]
theorem qI {σ τ : Nat → Nat} : ∀ (cs : List PV), (∀ t ∈ bH cs, σ (τ t) = t) → eT σ (eT τ cs) = cs
 | [], _ => rfl
 | c :: cs, h => by simp only [eT]; rw [PO c (fun t ht => h t (by simp [bH, ht])), qI cs (fun t ht => h t (by simp [bH, ht]))]
end
theorem CA {σ : Nat → Nat} : ∀ {l : BU} {t : Nat} {B : Box}, (∀ s ∈ bV l, ∀ s' ∈ bV l, σ s = σ s' → s = s') → lkU l t = some B → lkU (lW σ l) (σ t) = some (vh σ B)
 | [], t, B, _, h => by cases h
 | (j, C) :: l, t, B, hinj, h => by
  simp only [lkU] at h
  simp only [lW, lkU]
  by_cases ht : t = j
  ·subst ht
   rw [if_pos rfl] at h
   injection h with h
   subst h
   rw [if_pos rfl]
  ·rw [if_neg ht] at h
   have hm : t ∈ bV l := cR.2 ⟨B, h⟩
   rw [if_neg (fun e => ht (hinj t (by simp [bV, hm]) j (by simp [bV]) e))]
   exact CA (fun s hs s' hs' e => hinj s (by simp [bV, hs]) s' (by simp [bV, hs']) e) h
theorem tz {σ : Nat → Nat} : ∀ {l : BU} {i : Nat} {B : Box}, lkU (lW σ l) i = some B → ∃ t ∈ bV l, i = σ t
 | [], i, B, h => by cases h
 | (j, C) :: l, i, B, h => by
  simp only [lW, lkU] at h
  by_cases hi : i = σ j
  ·exact ⟨j, by simp [bV], hi⟩
  ·rw [if_neg hi] at h
   obtain ⟨t, h1, h2⟩ := tz h
   exact ⟨t, by simp [bV, h1], h2⟩
section
variable {P : Program} {ρ ρ' ρ2 : Nat → Value} {b b' b2 : Nat → Option Box} {w w' : World} {w0 : WM} {F F' F0 : Nat → Prop} {n : Nat} {σ τ : Nat → Nat}
theorem aL.ren {x : Value} {p : PV} (h : aL ρ b w F x p) : (∀ t ∈ bb p, ∀ B, b t = some B → b2 (σ t) = some (vh σ B) ∧ ρ2 (σ t) = ρ t) → aL ρ2 b2 w F x (lX σ p) := by
 induction h with
 | junk x => exact fun _ => .junk x
 | d x d h => exact fun _ => .d x d h
 | ag xs cs hl h1 hr ih => exact fun hc => .ag xs _ (by rw [ko]; exact hl) h1 (fun j x c h2 h3 => by obtain ⟨d, h4, rfl⟩ := mj σ cs j c h3; exact ih j x d h2 h4 (fun t ht => hc t (dH h4 ht)))
 | tup xs cs hl hr ih => exact fun hc => .tup xs _ (by rw [ko]; exact hl) (fun j x c h2 h3 => by obtain ⟨d, h4, rfl⟩ := mj σ cs j c h3; exact ih j x d h2 h4 (fun t ht => hc t (dH h4 ht)))
 | ptr t off g ty cs hb hρ =>
  intro hc
  obtain ⟨h1, h2⟩ := hc t (by simp [bb]) _ hb
  exact .ptr _ off g ty _ h1 (h2.trans hρ)
 | row t n A c e k es hb hn hcc hA hρ =>
  intro hc
  obtain ⟨h1, h2⟩ := hc t (by simp [bb]) _ hb
  exact .row _ n A c e k es h1 hn hcc hA (fun h => h2.trans (hρ h))
 | re t n i off a e k es hb hn hi hρ =>
  intro hc
  obtain ⟨h1, h2⟩ := hc t (by simp [bb]) _ hb
  exact .re _ n i off a e k es h1 hn hi (fun h => by obtain ⟨g, c, h3, h4⟩ := hρ h; exact ⟨g, c, h2.trans h3, h4⟩)
 | vw t n lo hi A m c e k es hb hn hl hh hm hρ =>
  intro hc
  obtain ⟨h1, h2⟩ := hc t (by simp [bb]) _ hb
  exact .vw _ n lo hi A m c e k es h1 hn hl hh hm (fun h => by obtain ⟨g, c, h3, h4⟩ := hρ h; exact ⟨g, c, h2.trans h3, h4⟩)
 | fe a cs us hF hcell hrep => exact fun _ => .fe a cs us hF hcell hrep
 | fn f xs ys ps qs hl hr hl2 hr2 ih ih2 =>
  intro hc
  exact .fn f xs ys _ _ (by rw [ko]; exact hl) (fun j x c h2 h3 => by obtain ⟨d, h4, rfl⟩ := mj σ ps j c h3; exact ih j x d h2 h4 (fun t ht => hc t (by simp only [bb, List.mem_append]; exact .inl (dH h4 ht))))
   (by rw [ko]; exact hl2) (fun j x c h2 h3 => by obtain ⟨d, h4, rfl⟩ := mj σ qs j c h3; exact ih2 j x d h2 h4 (fun t ht => hc t (by simp only [bb, List.mem_append]; exact .inr (dH h4 ht))))
theorem i8.ren {own own' : Nat → Prop} {t : Nat} {B : Box} (h : i8 ρ b own w F t B) (hρ : ρ2 (σ t) = ρ t) (ho : ∀ g, blk (ρ t) = some g → own' g) (hc : ∀ t ∈ Kt B, ∀ B, b t = some B → b2 (σ t) = some (vh σ B) ∧ ρ2 (σ t) = ρ t) : i8 ρ2 b2 own' w F (σ t) (vh σ B) := by
 cases h with
 | st ty cs g xs hr0 hg hF0 hh hl h1 hr =>
  exact .st ty _ g xs (hρ.trans hr0) (ho g (by rw [hr0]; rfl)) hF0 hh (by rw [ko]; exact hl) h1 (fun j x c h2 h3 => by obtain ⟨d, h4, rfl⟩ := mj σ cs j c h3; exact (hr j x d h2 h4).ren (fun t ht => hc t (dH h4 ht)))
 | rw e k es xs hk0 h1 hF0 hk hl hr hown =>
  exact .rw e k es xs hk0 (by rw [hρ]; exact h1) (by rw [hρ]; exact hF0) hk hl hr (by rw [hρ]; exact ho)
 | gn e k es hr0 => exact .gn e k es (hρ.trans hr0)
theorem aL.nb {x : Value} {p : PV} (h : aL ρ b w F x p) : aL ρ (fun i => (b i).map qK) w F x p := by
 induction h with
 | junk x => exact .junk x
 | d x d h => exact .d x d h
 | ag xs cs hl h1 hr ih => exact .ag xs _ hl h1 ih
 | tup xs cs hl hr ih => exact .tup xs _ hl ih
 | ptr t off g ty cs hb hρ => exact .ptr _ off g ty (dM cs) (by rw [hb]; rfl) hρ
 | row t n A c e k es hb hn hcc hA hρ => exact .row _ n A c e k es (by rw [hb]; rfl) hn hcc hA hρ
 | re t n i off a e k es hb hn hi hρ => exact .re _ n i off a e k es (by rw [hb]; rfl) hn hi hρ
 | vw t n lo hi A m c e k es hb hn hl hh hm hρ => exact .vw _ n lo hi A m c e k es (by rw [hb]; rfl) hn hl hh hm hρ
 | fe a cs us hF hcell hrep => exact .fe a cs us hF hcell hrep
 | fn f xs ys ps qs hl hr hl2 hr2 ih ih2 => exact .fn f xs ys _ _ hl ih hl2 ih2
theorem i8.nb {own : Nat → Prop} {t : Nat} {B : Box} (h : i8 ρ b own w F t B) : i8 ρ (fun i => (b i).map qK) own w F t (qK B) := by
 cases h with
 | st ty cs g xs hr0 hg hF0 hh hl h1 hr => exact .st ty _ g xs hr0 hg hF0 hh (by rw [ib]; exact hl) h1 (fun j x c h2 h3 => by obtain ⟨d, h4, rfl⟩ := kp cs j c h3; exact (hr j x d h2 h4).nb.nrmd)
 | rw e k es xs hk0 h1 hF0 hk hl hr hown => exact .rw e k es xs hk0 h1 hF0 hk hl hr hown
 | gn e k es hr0 => exact .gn e k es hr0
def B4 (ρ : Nat → Value) (b : Nat → Option Box) : Nat → Prop := fun g => ∃ t B, b t = some B ∧ blk (ρ t) = some g
def DJ (bi : BU) (K : List Nat) : Nat → Option Box := fun t => if t ∈ K then lkU bi t else none
def PCm (P : Program) (f : FuncId) (args : List PV) (bi : BU) (K : List Nat) (Q : PV → BU → Prop) : Prop :=
 eg P f = true ∧ ∀ (w : World) (F : Nat → Prop) (ρ : Nat → Value) (vs : Array Value), Inv ⟨w, B4 ρ (lkU bi), fun _ => none⟩ F ρ (lkU bi) w F → cL ρ (lkU bi) w F vs.toList args →
  Calls P f vs w fun e w' => ∃ v ρ' F' r bo, Q r bo ∧ e = .returned v ∧ Inv ⟨w, B4 ρ (lkU bi), fun _ => none⟩ F ρ' (lkU bo) w' F' ∧ Stp ρ (DJ bi K) w F ρ' (lkU bo) w' F' ∧ aL ρ' (lkU bo) w' F' v r
def I8 (l : BU) : Prop := ∀ t B, lkU l t = some B → ∀ s ∈ Kt B, s ∈ bV l
structure Yv (τi τ : Nat → Nat) (bi bo : BU) (K : List Nat) (u : BU) : Prop where
 out : ∀ s B, lkU bo s = some B → lkU u (τ s) = some (vh τ B)
 gone : ∀ s B, lkU bi s = some B → s ∉ K → ∃ e k es es', B = .rw e k es ∧ lkU u (τi s) = some (.rw e k es') ∧ es.length < es'.length
 only : ∀ i B, lkU u i = some B → (∃ s ∈ bV bo, i = τ s) ∨ (∃ s ∈ bV bi, s ∉ K ∧ i = τi s)
structure Yx (τi τ : Nat → Nat) (bi bo : BU) (K : List Nat) : Prop where
 ii : ∀ s ∈ bV bi, ∀ s' ∈ bV bi, τi s = τi s' → s = s'
 oo : ∀ s ∈ bV bo, ∀ s' ∈ bV bo, τ s = τ s' → s = s'
 io : ∀ s ∈ bV bi, ∀ s' ∈ bV bo, τi s = τ s' → s = s' ∧ s ∈ K
 k : ∀ s ∈ K, s ∈ bV bi ∧ s ∈ bV bo ∧ τi s = τ s
theorem UJ {f : FuncId} {τi : Nat → Nat} {args args' : List PV} {bi u : BU} {K N : List Nat} {Q : PV → BU → Prop} {r' : PV} (h : PCm P f args bi K Q) (hii : ∀ s ∈ bV bi, ∀ s' ∈ bV bi, τi s = τi s' → s = s')
  (hQ : ∀ r bo, Q r bo → ∃ τ, Yx τi τ bi bo K ∧ Yv τi τ bi bo K u ∧ lX τ r = r' ∧ ∀ s ∈ bV bo, s ∉ K → τ s ∈ N) (hnew : ∀ t ∈ N, t < 1000000)
  (ha : ∀ s ∈ bH args, s ∈ bV bi) (hargs : dM args' = eT τi args) (hbi : I8 bi)
  (w0 : WM) (F0 : Nat → Prop) (ρ : Nat → Value) (b : Nat → Option Box) (w : World) (F : Nat → Prop) (vs : Array Value) (hb : ∀ s B, lkU bi s = some B → ∃ B', b (τi s) = some B' ∧ qK B' = vh τi B) (hbn : ∀ t ∈ N, b t = none)
  (hi : Inv w0 F0 ρ b w F) (hv : cL ρ b w F vs.toList args') :
  Calls P f vs w fun e w' => ∃ v ρ' F', e = .returned v ∧ Inv w0 F0 ρ' (dF b u) w' F' ∧ Stp ρ b w F ρ' (dF b u) w' F' ∧ aL ρ' (dF b u) w' F' v r' := by
 classical
 obtain ⟨_, hcall⟩ := h
 have mkσ : ∀ (τ : Nat → Nat) (dom : Nat → Prop), (∀ s, dom s → ∀ s', dom s' → τ s = τ s' → s = s') → ∃ σ : Nat → Nat, ∀ s, dom s → σ (τ s) = s := fun τ dom hinj => by
  refine ⟨fun i => if h : ∃ s, dom s ∧ τ s = i then h.choose else i, fun s hs => ?_⟩
  have hex : ∃ s', dom s' ∧ τ s' = τ s := ⟨s, hs, rfl⟩
  show (if h : ∃ s', dom s' ∧ τ s' = τ s then h.choose else τ s) = s
  rw [dif_pos hex]
  exact hinj _ hex.choose_spec.1 s hs hex.choose_spec.2
 obtain ⟨σ, hσ⟩ := mkσ τi (fun s => s ∈ bV bi) hii
 let ρ0 : Nat → Value := fun s => ρ (τi s)
 let bn : Nat → Option Box := fun i => (b i).map qK
 have hbt : ∀ s B, lkU bi s = some B → bn (τi s) = some (vh τi B) := fun s B hs => by
  obtain ⟨B', h1, h2⟩ := hb s B hs
  show (b (τi s)).map qK = _
  rw [h1, ← h2]; rfl
 have hdi : ∀ {s B}, lkU bi s = some B → s ∈ bV bi := fun h => cR.2 ⟨_, h⟩
 have hback : ∀ s B, lkU bi s = some B → vh σ (vh τi B) = B := fun s B hs => by
  cases B with
  | st ty cs => simp only [vh]; rw [qI cs (fun t ht => hσ t (hbi s _ hs t ht))]
  | rw => rfl
 have hgo : ∀ s ∈ bV bi, ∀ B', bn (τi s) = some B' → lkU bi (σ (τi s)) = some (vh σ B') ∧ ρ0 (σ (τi s)) = ρ (τi s) := fun s hs B' hB' => by
  obtain ⟨B, hB⟩ := cR.1 hs
  rw [hbt s B hB] at hB'
  injection hB' with hB'
  subst hB'
  rw [hσ s hs, hback s B hB]
  exact ⟨hB, rfl⟩
 have hin : ∀ {x : Value} {p : PV}, (∀ s ∈ bb p, s ∈ bV bi) → aL ρ bn w F x (lX τi p) → aL ρ0 (lkU bi) w F x p := fun {x p} hp hx => by
  have := hx.ren (σ := σ) (b2 := lkU bi) (ρ2 := ρ0) (fun t ht B hB => by
   rw [Kr] at ht
   obtain ⟨s, hs, rfl⟩ := List.mem_map.1 ht
   exact hgo s (hp s hs) B hB)
  rw [PO p (fun t ht => hσ t (hp t ht))] at this
  exact this
 have hown : ∀ s B g, lkU bi s = some B → blk (ρ0 s) = some g → g < w.heap.size ∧ w0.own g ∧ ¬ F g := fun s B g hs hg => by
  obtain ⟨B', h1, _⟩ := hb s B hs
  exact (hi.box _ _ h1).lt hg
 have hi0 : Inv ⟨w, B4 ρ0 (lkU bi), fun _ => none⟩ F ρ0 (lkU bi) w F := by
  refine ⟨.of w rfl, fun _ h => h, hi.flt, fun _ h => .inl h, fun s B hs => ?_, fun s s' B B' g h1 h2 hne hg => ?_, fun t q h => by cases h⟩
  ·obtain ⟨B1, h1, h2⟩ := hb s B hs
   have hbx := (hi.box _ _ h1).nb
   rw [h2] at hbx
   have := hbx.ren (σ := σ) (ρ2 := ρ0) (b2 := lkU bi) (own' := WM.own ⟨w, B4 ρ0 (lkU bi), fun _ => none⟩) (by show ρ (τi (σ (τi s))) = ρ (τi s); rw [hσ s (hdi hs)]) (fun g hg => .inr ⟨s, B, hs, hg⟩) (fun t ht B' hB' => by
    have ht : t ∈ (Kt B).map τi := by
     cases B with
     | st ty cs => show t ∈ (bH cs).map τi; rw [← oB]; exact ht
     | rw => exact ht
    obtain ⟨s', hs', rfl⟩ := List.mem_map.1 ht
    exact hgo s' (hbi s B hs s' hs') B' hB')
   rw [hσ s (hdi hs), hback s B hs] at this
   exact this
  ·obtain ⟨B1, m1, _⟩ := hb s B h1
   obtain ⟨B2, m2, _⟩ := hb s' B' h2
   exact hi.dist _ _ _ _ g m1 m2 (fun e => hne (hii s (hdi h1) s' (hdi h2) e)) hg
 have hv0 : cL ρ0 (lkU bi) w F vs.toList args := by
  have hlen : args'.length = args.length := by rw [← ib args', hargs, ko]
  refine ⟨by rw [hv.len, hlen], fun j x c h1 h2 => hin (fun s hs => ha s (dH h2 hs)) ?_⟩
  have hlt : j < args.length := (zg.1 h2).1
  have h3 : args'[j]? = some args'[j] := by simp [hlen, hlt]
  have h4 := (hv.rep j x _ h1 h3).nb.nrmd
  have h5 : (dM args')[j]? = some (pN args'[j]) := by
   have hl2 : j < (dM args').length := by rw [ib, hlen]; exact hlt
   obtain ⟨d, h6, h7⟩ := kp args' j _ (zq hl2)
   rw [h3] at h6
   injection h6 with h6
   rw [zq hl2, h7, h6]
  have h8 : (eT τi args)[j]? = some (lX τi c) := by
   have hl2 : j < (eT τi args).length := by rw [ko]; exact hlt
   obtain ⟨d, h6, h7⟩ := mj τi args j _ (zq hl2)
   rw [h2] at h6
   injection h6 with h6
   rw [zq hl2, h7, h6]
  rw [hargs, h8] at h5
  injection h5 with h5
  rw [h5]
  exact h4
 refine (hcall w F ρ0 vs hi0 hv0).mono ?_
 rintro e w' ⟨v, ρ1, F', r, bo, hq, rfl, k1, k2, k3⟩
 obtain ⟨τ, hfit, hu, hr', hN⟩ := hQ r bo hq
 rw [← hr']
 have hnew : ∀ s ∈ bV bo, s ∉ K → τ s < 1000000 := fun s h1 h2 => hnew _ (hN s h1 h2)
 have hbn : ∀ s ∈ bV bo, s ∉ K → b (τ s) = none := fun s h1 h2 => hbn _ (hN s h1 h2)
 obtain ⟨σo, hσo⟩ := mkσ τ (fun s => s ∈ bV bo) hfit.oo
 have hdo : ∀ {s B}, lkU bo s = some B → s ∈ bV bo := fun h => cR.2 ⟨_, h⟩
 let ρ' : Nat → Value := fun i => match lkU u i with | none => ρ i | some _ => if ∃ s, s ∈ bV bo ∧ τ s = i then ρ1 (σo i) else .tuple #[]
 have hρin : ∀ s B, lkU bo s = some B → ρ' (τ s) = ρ1 s := fun s B hs => by
  show (match lkU u (τ s) with | none => ρ (τ s) | some _ => if ∃ s', s' ∈ bV bo ∧ τ s' = τ s then ρ1 (σo (τ s)) else .tuple #[]) = ρ1 s
  rw [hu.out s B hs]
  simp only [hσo s (hdo hs)]
  rw [if_pos ⟨s, hdo hs, rfl⟩]
 have hρgone : ∀ s B, lkU bi s = some B → s ∉ K → ρ' (τi s) = .tuple #[] := fun s B hs hn => by
  obtain ⟨e, k, es, es', _, h1, _⟩ := hu.gone s B hs hn
  show (match lkU u (τi s) with | none => ρ (τi s) | some _ => if ∃ s', s' ∈ bV bo ∧ τ s' = τi s then ρ1 (σo (τi s)) else .tuple #[]) = .tuple #[]
  rw [h1]
  simp only
  rw [if_neg]
  rintro ⟨s', h2, h3⟩
  exact hn (hfit.io s (hdi hs) s' h2 h3.symm).2
 have hρout : ∀ i, lkU u i = none → ρ' i = ρ i := fun i h => by
  show (match lkU u i with | none => ρ i | some _ => if ∃ s, s ∈ bV bo ∧ τ s = i then ρ1 (σo i) else .tuple #[]) = ρ i
  rw [h]
 have hbin : ∀ s B, lkU bo s = some B → dF b u (τ s) = some (vh τ B) := fun s B hs => by
  simp only [dF, hu.out s B hs]
 have hbout : ∀ i, lkU u i = none → dF b u i = b i := fun i h => by simp only [dF, h]
 have hgo' : ∀ s B, lkU bo s = some B → dF b u (τ s) = some (vh τ B) ∧ ρ' (τ s) = ρ1 s := fun s B hs => ⟨hbin s B hs, hρin s B hs⟩
 have huse : ∀ s B, lkU bi s = some B → ∃ C, lkU u (τi s) = some C := fun s B hs => by
  by_cases hk : s ∈ K
  ·obtain ⟨_, h2, h3⟩ := hfit.k s hk
   obtain ⟨C, hC⟩ := cR.1 h2
   exact ⟨_, by rw [h3]; exact hu.out s C hC⟩
  ·obtain ⟨e, k, es, es', _, h1, _⟩ := hu.gone s B hs hk; exact ⟨_, h1⟩
 have houtside : ∀ i B, lkU u i = none → b i = some B → ∀ g, blk (ρ i) = some g → g < w.heap.size ∧ ¬ B4 ρ0 (lkU bi) g := fun i B h hB g hg => by
  refine ⟨((hi.box i B hB).lt hg).1, ?_⟩
  rintro ⟨s, C, hs, hg2⟩
  obtain ⟨B1, m1, _⟩ := hb s C hs
  refine hi.dist i (τi s) B _ g hB m1 (fun e => ?_) hg hg2
  obtain ⟨D, hD⟩ := huse s C hs
  rw [e, hD] at h
  cases h
 have hown' : ∀ g, WM.own ⟨w, B4 ρ0 (lkU bi), fun _ => none⟩ g → w0.own g := by
  rintro g (hg | ⟨s, B, hs, hg⟩)
  ·exact .inl (Nat.le_trans hi.ext.size hg)
  ·exact (hown s B g hs hg).2.1
 have hcase : ∀ i B, dF b u i = some B → (∃ s C, lkU bo s = some C ∧ i = τ s ∧ B = vh τ C) ∨ (lkU u i = none ∧ b i = some B) ∨ (∃ e k es, B = .rw e k es ∧ ρ' i = .tuple #[]) := fun i B hB => by
  cases hl : lkU u i with
  | none => exact .inr (.inl ⟨rfl, by rw [hbout i hl] at hB; exact hB⟩)
  | some C =>
   rcases hu.only i C hl with ⟨s, hs, rfl⟩ | ⟨s, hs, hk, rfl⟩
   ·obtain ⟨C', hC'⟩ := cR.1 hs
    rw [hbin s C' hC'] at hB
    injection hB with hB
    exact .inl ⟨s, C', hC', rfl, hB.symm⟩
   ·obtain ⟨B0, hB0⟩ := cR.1 hs
    obtain ⟨e, k, es, es', _, h1, _⟩ := hu.gone s B0 hB0 hk
    simp only [dF, h1] at hB
    injection hB with hB
    exact .inr (.inr ⟨e, k, es', hB.symm, hρgone s B0 hB0 hk⟩)
 have hold : ∀ s ∈ bV bo, ∀ B, b (τ s) = some B → ∃ B0, lkU bi s = some B0 ∧ qK B = vh τi B0 ∧ DJ bi K s = some B0 ∧ ρ (τ s) = ρ0 s := fun s hs B hB => by
  by_cases hk : s ∈ K
  ·obtain ⟨h1, h2, h3⟩ := hfit.k s hk
   obtain ⟨B0, hB0⟩ := cR.1 h1
   obtain ⟨B1, m1, m2⟩ := hb s B0 hB0
   rw [h3, hB] at m1
   injection m1 with m1
   subst m1
   exact ⟨B0, hB0, m2, by unfold DJ; rw [if_pos hk]; exact hB0, by show ρ (τ s) = ρ (τi s); rw [h3]⟩
  ·rw [hbn s hs hk] at hB
   cases hB
 have hs : Stp ρ b w F ρ' (dF b u) w' F' := by
  refine ⟨k2.hF, k2.hw, fun t ty cs ht => ?_, fun t e k es ht => ?_⟩
  ·cases hl : lkU u t with
   | none => exact ⟨⟨ty, cs, by rw [hbout t hl]; exact ht⟩, hρout t hl⟩
   | some C =>
    rcases hu.only t C hl with ⟨s, hs, rfl⟩ | ⟨s, hs, hk, rfl⟩
    ·obtain ⟨B0, h1, h2, h3, h4⟩ := hold s hs _ ht
     cases B0 with
     | rw => cases h2
     | st ty0 cs0 =>
      obtain ⟨⟨ty1, cs1, h5⟩, h6⟩ := k2.hst s ty0 cs0 h3
      exact ⟨⟨ty1, _, hbin s _ h5⟩, by rw [hρin s _ h5, h6, h4]⟩
    ·exfalso
     obtain ⟨B0, hB0⟩ := cR.1 hs
     obtain ⟨e, k, es, es', rfl, _⟩ := hu.gone s B0 hB0 hk
     obtain ⟨B1, m1, m2⟩ := hb s _ hB0
     rw [m1] at ht
     injection ht with ht
     subst ht
     cases m2
  ·cases hl : lkU u t with
   | none => exact ⟨e, es, by rw [hbout t hl]; exact ht, Nat.le_refl _, fun _ => hρout t hl⟩
   | some C =>
    rcases hu.only t C hl with ⟨s, hs, rfl⟩ | ⟨s, hs, hk, rfl⟩
    ·obtain ⟨B0, h1, h2, h3, h4⟩ := hold s hs _ ht
     cases B0 with
     | st => cases h2
     | rw e0 k0 es0 =>
      injection h2 with q1 q2 q3
      subst q1 q2 q3
      obtain ⟨e1, es1, h5, h6, h7⟩ := k2.hrw s _ _ _ h3
      exact ⟨e1, es1, hbin s _ h5, h6, fun he => by rw [hρin s _ h5, h7 he, h4]⟩
    ·obtain ⟨B0, hB0⟩ := cR.1 hs
     obtain ⟨e1, k1', es1, es', rfl, h1, h2⟩ := hu.gone s B0 hB0 hk
     obtain ⟨B1, m1, m2⟩ := hb s _ hB0
     rw [m1] at ht
     injection ht with ht
     subst ht
     injection m2 with q1 q2 q3
     subst q1 q2 q3
     exact ⟨e, es', by simp only [dF, h1], Nat.le_of_lt h2, fun he => by omega⟩
 refine ⟨v, ρ', F', rfl, ⟨?_, fun g hg => k1.f0 g (hi.f0 g hg), k1.flt, fun g hg => ?_, fun i B hB => ?_, fun i i' B B' g hB hB' hne hg => ?_, hi.reg_stp hs fun t ht hn => ?_⟩, hs, k3.ren fun t ht B hB => hgo' t B hB⟩
 ·exact hi.ext.step k1.ext.os k1.ext.tape k1.ext.output k1.ext.size fun g hg hM => k1.ext.block g (Nat.lt_of_lt_of_le hg hi.ext.size) fun ⟨s, B, hs, hg2⟩ => xH hg hM (hown s B g hs hg2).2.1
 ·rcases k1.fnew g hg with h | h
  ·exact hi.fnew g h
  ·exact .inr (hown' g h)
 ·rcases hcase i B hB with ⟨s, C, hC, rfl, rfl⟩ | ⟨hl, hB⟩ | ⟨e, k, es, rfl, hg⟩
  ·exact (k1.box s C hC).ren (hρin s C hC) (fun g hg => hown' g ((k1.box s C hC).lt hg).2.1) (fun t ht B hB => hgo' t B hB)
  ·refine (hi.box i B hB).mono hs (hρout i hl) (fun g hg => ?_) (fun g hg hF => ?_)
   ·obtain ⟨h1, h2⟩ := houtside i B hl hB g hg
    exact k1.ext.block g h1 h2
   ·obtain ⟨h1, h2⟩ := houtside i B hl hB g hg
    rcases k1.fnew g hF with h | h | h
    ·exact ((hi.box i B hB).lt hg).2.2 h
    ·exact absurd h1 (Nat.not_lt.2 h)
    ·exact h2 h
  ·exact .gn e k es hg
 ·have mixed : ∀ s C i B, lkU bo s = some C → lkU u i = none → b i = some B → blk (ρ1 s) = some g → blk (ρ i) ≠ some g := fun s C i B hC hl hB h1 h2 => by
   obtain ⟨m1, m2⟩ := houtside i B hl hB g h2
   rcases ((k1.box s C hC).lt h1).2.1 with h | h
   ·exact absurd m1 (Nat.not_lt.2 h)
   ·exact m2 h
  rcases hcase i B hB with ⟨s, C, hC, rfl, rfl⟩ | ⟨hl, hB⟩ | ⟨e, k, es, rfl, hgo⟩
  ·rw [hρin s C hC] at hg
   rcases hcase i' B' hB' with ⟨s', C', hC', rfl, rfl⟩ | ⟨hl', hB'⟩ | ⟨e, k, es, rfl, hgo⟩
   ·rw [hρin s' C' hC']
    exact k1.dist s s' C C' g hC hC' (fun e => hne (by rw [e])) hg
   ·rw [hρout i' hl']
    exact mixed s C i' B' hC hl' hB' hg
   ·rw [hgo]; exact fun h => by cases h
  ·rw [hρout i hl] at hg
   rcases hcase i' B' hB' with ⟨s', C', hC', rfl, rfl⟩ | ⟨hl', hB'⟩ | ⟨e, k, es, rfl, hgo⟩
   ·rw [hρin s' C' hC']
    exact fun h => mixed s' C' i B hC' hl hB h hg
   ·rw [hρout i' hl']
    exact hi.dist i i' B B' g hB hB' hne hg
   ·rw [hgo]; exact fun h => by cases h
  ·rw [hgo] at hg; cases hg
 ·cases hl : lkU u t with
  | none => rw [hbout t hl]; exact hn
  | some C =>
   exfalso
   rcases hu.only t C hl with ⟨s, hs, rfl⟩ | ⟨s, hs, hk, rfl⟩
   ·by_cases hk : s ∈ K
    ·obtain ⟨h1, h2, h3⟩ := hfit.k s hk
     obtain ⟨B0, hB0⟩ := cR.1 h1
     obtain ⟨B1, m1, _⟩ := hb s B0 hB0
     rw [h3, hn] at m1
     cases m1
    ·have := hnew s hs hk
     omega
   ·obtain ⟨B0, hB0⟩ := cR.1 hs
    obtain ⟨B1, m1, _⟩ := hb s B0 hB0
    rw [m1] at hn
    cases hn
end
end
section
section
variable {P : Program} {ρ ρ' ρ2 : Nat → Value} {b b' b2 : Nat → Option Box} {w w' : World} {w0 : WM} {F F' F0 : Nat → Prop} {n : Nat}
theorem aL.to {x : Value} {p : PV} (h : aL ρ b w F x p) : (∀ t ∈ bb p, (∀ ty cs, b t = some (.st ty cs) → ∃ cs', b2 t = some (.st ty cs')) ∧ ∀ e k es, b t = some (.rw e k es) → b2 t = some (.rw e k es)) → aL ρ b2 w F x p := by
 induction h with
 | junk x => exact fun _ => .junk x
 | d x d h => exact fun _ => .d x d h
 | ag xs cs hl h1 hr ih => exact fun hc => .ag xs _ hl h1 (fun j x c h2 h3 => ih j x c h2 h3 (fun t ht => hc t (dH h3 ht)))
 | tup xs cs hl hr ih => exact fun hc => .tup xs _ hl (fun j x c h2 h3 => ih j x c h2 h3 (fun t ht => hc t (dH h3 ht)))
 | ptr t off g ty cs hb hρ =>
  intro hc
  obtain ⟨cs', h1⟩ := (hc t (by simp [bb])).1 _ _ hb
  exact .ptr _ off g ty _ h1 hρ
 | row t n A c e k es hb hn hcc hA hρ =>
  intro hc
  exact .row _ n A c e k es ((hc t (by simp [bb])).2 _ _ _ hb) hn hcc hA hρ
 | re t n i off a e k es hb hn hi hρ =>
  intro hc
  exact .re _ n i off a e k es ((hc t (by simp [bb])).2 _ _ _ hb) hn hi hρ
 | vw t n lo hi A m c e k es hb hn hl hh hm hρ =>
  intro hc
  exact .vw _ n lo hi A m c e k es ((hc t (by simp [bb])).2 _ _ _ hb) hn hl hh hm hρ
 | fe a cs us hF hcell hrep => exact fun _ => .fe a cs us hF hcell hrep
 | fn f xs ys ps qs hl hr hl2 hr2 ih ih2 =>
  intro hc
  exact .fn f xs ys _ _ hl (fun j x c h2 h3 => ih j x c h2 h3 (fun t ht => hc t (by simp only [bb, List.mem_append]; exact .inl (dH h3 ht))))
   hl2 (fun j x c h2 h3 => ih2 j x c h2 h3 (fun t ht => hc t (by simp only [bb, List.mem_append]; exact .inr (dH h3 ht))))
mutual
theorem Ks : ∀ p : PV, bb (pN p) = bb p
 | .junk => rfl
 | .d _ => rfl
 | .ptr _ _ => rfl
 | .row _ _ => rfl
 | .re _ _ _ _ => rfl
 | .vw _ _ _ _ => rfl
 | .fe _ => rfl
 | .ag cs => by simp only [pN, bb, oC cs]
 | .tup cs => by simp only [pN, bb, oC cs]
 | .fn f ps qs => by simp only [pN, bb, oC ps, oC qs]
theorem oC : ∀ cs : List PV, bH (dM cs) = bH cs
 | [] => rfl
 | c :: cs => by simp only [dM, bH, Ks c, oC cs]
end
def xx (ρ : Nat → Value) (bi : BU) (K : List Nat) : Nat → Option (Value × Option (Nat × Nat)) := fun t => if t ∈ K then (match lkU bi t with
 | some (.st _ _) => some (ρ t, none)
 | some (.rw _ k es) => some (ρ t, some (k, es.length))
 | none => none) else none
def Yt (P : Program) (fn : Func) (K : List Nat) (Q : PV → BU → Prop) (e : Exit) (s : PS) : Prop :=
 (match e with | .normal => True | .ret => True | _ => False) ∧ ∃ r bo, Q r bo ∧ (∀ t ∈ K, t ∈ bV bo) ∧ (∀ s ∈ bb r, s ∈ bV bo) ∧ I8 bo ∧ (∃ p, qf P fn s = some p ∧ pN p = r) ∧ ∀ t B, lkU bo t = some B → ∃ B', s.b t = some B' ∧ qK B' = B
theorem Rk {f : FuncId} {fn : Func} {c : Code} {args : List PV} {bi : BU} {K : List Nat} {Q : PV → BU → Prop} (hf : P.funcs[f]? = some fn) (hb : fn.body = some c) (hcb : eg P f = true) (hlen : args.length ≤ fn.ntmps)
  (hid : ∀ t ∈ K, 1000000 ≤ t) (h : PWP P fn.ntmps c (Yt P fn K Q) ⟨l6 args, lkU bi⟩) : PCm P f args bi K Q := by
 refine ⟨hcb, fun w F ρ vs hi0 hv => ?_⟩
 refine calls_of_wp hf hb ?_
 have hl : vs.size = args.length := by have := hv.len; simpa using this
 have hi1 : Inv ⟨w, B4 ρ (lkU bi), xx ρ bi K⟩ F ρ (lkU bi) w F := by
  refine ⟨⟨hi0.ext.os, hi0.ext.tape, hi0.ext.output, hi0.ext.size, hi0.ext.block⟩, hi0.f0, hi0.flt, hi0.fnew, hi0.box, hi0.dist, fun t q hq => ?_⟩
  have hq : xx ρ bi K t = some q := hq
  unfold xx at hq
  split at hq
  ·rename_i hk
   split at hq
   ·rename_i ty cs hB
    injection hq with hq
    subst hq
    exact ⟨hid t hk, .inr ⟨⟨ty, cs, hB⟩, rfl⟩⟩
   ·rename_i e k es hB
    injection hq with hq
    subst hq
    exact ⟨hid t hk, .inr ⟨e, es, hB, Nat.le_refl _, fun _ => rfl⟩⟩
   ·cases hq
  ·cases hq
 have hc : nD fn.ntmps ⟨w, B4 ρ (lkU bi), xx ρ bi K⟩ F ⟨l6 args, lkU bi⟩ { tmps := vs ++ Array.replicate (fn.ntmps - vs.size) undef, defers := [] } w := by
  refine ⟨by simp; omega, rfl, ρ, F, hi1, fun i => ?_⟩
  by_cases hi : i < vs.size
  ·have e1 : (vs ++ Array.replicate (fn.ntmps - vs.size) undef).getD i undef = vs[i] := by simp [Array.getElem?_append, hi]
   show aL ρ (lkU bi) w F _ (l6 args i)
   rw [e1]
   have hia : i < args.length := by omega
   unfold l6
   rw [zq hia]
   exact hv.rep i _ _ (by simp [hi]) (zq hia)
  ·show aL ρ (lkU bi) w F _ (l6 args i)
   unfold l6
   rw [List.getElem?_eq_none (by omega)]
   exact .junk _
 refine wp_mono (h ⟨w, B4 ρ (lkU bi), xx ρ bi K⟩ F _ w hc) fun e a' w' ⟨s', ⟨hex, r, bo, hq, hid2, hr, hbo, ⟨p, h1, h2⟩, h3⟩, _, hd, ρ', F', hi, hev⟩ => ?_
 obtain ⟨v, hv1, hv2⟩ := Db (P := P) hi hev h1
 have hto : ∀ t ∈ bV bo, (∀ ty cs, s'.b t = some (.st ty cs) → ∃ cs', lkU bo t = some (.st ty cs')) ∧ ∀ e k es, s'.b t = some (.rw e k es) → lkU bo t = some (.rw e k es) := fun t ht => by
  obtain ⟨B, hB⟩ := cR.1 ht
  obtain ⟨B', hB', hn⟩ := h3 t B hB
  refine ⟨fun ty cs k => ?_, fun e k es k1 => ?_⟩
  ·rw [hB'] at k
   injection k with k
   subst k
   exact ⟨_, by rw [hB, ← hn]; rfl⟩
  ·rw [hB'] at k1
   injection k1 with k1
   subst k1
   rw [hB, ← hn]; rfl
 have hbox : ∀ t B, lkU bo t = some B → i8 ρ' (lkU bo) (WM.own ⟨w, B4 ρ (lkU bi), fun _ => none⟩) w' F' t B := fun t B hB => by
  obtain ⟨B', hB', rfl⟩ := h3 t B hB
  have hbx := hi.box t B' hB'
  have hcl := hbo t _ hB
  cases hbx with
  | st ty cs g xs hr0 hg hF0 hh hl h1 hr =>
   refine .st ty _ g xs hr0 hg hF0 hh (by rw [ib]; exact hl) h1 (fun j x c k1 k2 => ?_)
   obtain ⟨d, k3, rfl⟩ := kp cs j c k2
   refine ((hr j x d k1 k3).to fun s hs => hto s (hcl s ?_)).nrmd
   show s ∈ bH (dM cs)
   rw [oC]
   exact dH k3 hs
  | rw e k es xs hk0 m1 m2 m3 m4 m5 m6 => exact .rw e k es xs hk0 m1 m2 m3 m4 m5 m6
  | gn e k es m1 => exact .gn e k es m1
 have hstp : Stp ρ (DJ bi K) w F ρ' (lkU bo) w' F' := by
  have hk : ∀ t B, DJ bi K t = some B → lkU bi t = some B ∧ t ∈ K ∧ t ∈ bV bo := fun t B ht => by
   unfold DJ at ht
   split at ht
   ·rename_i hk; exact ⟨ht, hk, hid2 t hk⟩
   ·cases ht
  refine ⟨fun g hg => hi.f0 g hg, fun g hg => ?_, fun t ty cs ht => ?_, fun t e k es ht => ?_⟩
  ·exact hi.ext.block g (hi0.flt g hg) fun ⟨t, B, hB, hg2⟩ => ((hi0.box t B hB).lt hg2).2.2 hg
  ·obtain ⟨ht, hkt, m1⟩ := hk t _ ht
   have m2 := (hi.reg t (ρ t, none) (by show xx ρ bi K t = _; unfold xx; rw [if_pos hkt, ht])).2
   rcases m2 with m2 | ⟨⟨ty', cs', m2⟩, m3⟩
   ·obtain ⟨B, hB⟩ := cR.1 m1
    obtain ⟨B', hB', _⟩ := h3 t B hB
    rw [m2] at hB'
    cases hB'
   ·obtain ⟨cs2, h5⟩ := (hto t m1).1 _ _ m2
    exact ⟨⟨_, _, h5⟩, m3⟩
  ·obtain ⟨ht, hkt, m1⟩ := hk t _ ht
   have m2 := (hi.reg t (ρ t, some (k, es.length)) (by show xx ρ bi K t = _; unfold xx; rw [if_pos hkt, ht])).2
   rcases m2 with m2 | ⟨e', es', m2, m3, m4⟩
   ·obtain ⟨B, hB⟩ := cR.1 m1
    obtain ⟨B', hB', _⟩ := h3 t B hB
    rw [m2] at hB'
    cases hB'
   ·exact ⟨e', es', (hto t m1).2 _ _ _ m2, m3, m4⟩
 have hinv : Inv ⟨w, B4 ρ (lkU bi), fun _ => none⟩ F ρ' (lkU bo) w' F' := by
  refine ⟨⟨hi.ext.os, hi.ext.tape, hi.ext.output, hi.ext.size, hi.ext.block⟩, hi.f0, hi.flt, hi.fnew, hbox, fun t t' B B' g k1 k2 hne hg => ?_, fun t q hq => by cases hq⟩
  obtain ⟨_, m1, _⟩ := h3 t B k1
  obtain ⟨_, m2, _⟩ := h3 t' B' k2
  exact hi.dist t t' _ _ g m1 m2 hne hg
 have hres : aL ρ' (lkU bo) w' F' v r := by
  rw [← h2]
  exact (hv2.to fun s hs => hto s (hr s (by rw [← h2, Ks]; exact hs))).nrmd
 have fin : a'.defers = [] ∧ ∃ v, (results fn a'.tmps).run P w' = .ok v w' ∧ ∃ v' ρ'' F'' r bo, Q r bo ∧ Ending.returned v = .returned v' ∧ Inv ⟨w, B4 ρ (lkU bi), fun _ => none⟩ F ρ'' (lkU bo) w' F'' ∧ Stp ρ (DJ bi K) w F ρ'' (lkU bo) w' F'' ∧ aL ρ'' (lkU bo) w' F'' v' r :=
  ⟨hd, v, hv1, v, ρ', F', r, bo, hq, rfl, hinv, hstp, hres⟩
 cases e with
 | normal => exact fin
 | ret => exact fin
 | exit _ => exact hex.elim
 | goto _ => exact hex.elim
 | panic _ => exact hex.elim
 | outgrown => exact hex.elim
end
end
section
variable {B : List (Nat × Option aW)} {s : SS} {p : PS} {P : Program} {ρ : Type}
theorem nv (hs : Sim s p) : ∀ l : List Operand, cd s.bx (vj s l) (l.map (ev p))
 | [] => .nil
 | x :: l => .cons (ca hs x) (nv hs l)
theorem TD {c : Bool} {v w z : SV} {q r : PV} (hv : a8 B v q) (hw : a8 B w r) (h : TE c v w = some z) : a8 B z (if c then q else r) := by
 unfold TE at h
 split at h
 ·split at h
  ·rename_i hk
   subst hk
   injection h with h
   subst h
   obtain rfl := kC hv
   obtain rfl := kC hw
   cases c
   ·exact fH _ _
   ·exact fH _ _
  ·cases h
 ·injection h with h
  subst h
  obtain rfl := kD hv
  obtain rfl := kD hw
  cases c
  ·exact eL _
  ·exact eL _
 ·injection h with h
  subst h
  obtain rfl := qd hv
  obtain rfl := qd hw
  cases c
  ·exact vD _
  ·exact vD _
 ·cases c
  ·injection h with h; subst h; exact hw
  ·injection h with h; subst h; exact hv
theorem Q2 {x : ByteArray} {i z : Int} (h : kM x i = some z) : 0 ≤ i ∧ ∃ c : UInt8, x.data.toList[i.toNat]? = some c ∧ z = (c.toNat : Int) := by
 unfold kM at h
 split at h
 ·rename_i h0
  rw [zm] at h
  obtain ⟨c, h1, h2⟩ := h
  exact ⟨h0, c, h1, h2.symm⟩
 ·cases h
theorem Wi {o : Oper} (hs : Sim s p) {k : SV → Upd → Option ρ} {res : ρ} (hst : ∀ t x y, o.op = .store t x y → o.dst = none) (h : Wj P o s k = some res) : ML s p o.dst k res (eff P o p) := by
 unfold Wj at h
 unfold eff
 split at h
 all_goals
  rename_i ho
  simp only [ho]
 ·exact ⟨_, .no, _, none, rfl, h, kJ hs (ca hs _), trivial, dL⟩
 ·exact ⟨_, .no, _, none, rfl, h, kJ hs (ca hs _), trivial, dL⟩
 ·rename_i c x y
  split at h
  ·rename_i t hc
   split at h
   ·rename_i v hv
    have hq := ca hs c
    rw [hc] at hq
    have hb : asB (ev p c) = some t := by rw [kD hq]; rfl
    simp only [hb]
    exact ⟨_, .no, _, none, rfl, h, kJ hs (TD (ca hs x) (ca hs y) hv), trivial, dL⟩
   ·cases h
  ·cases h
 ·rename_i e
  split at h
  ·rename_i t i hd hi
   split at h
   ·rename_i z hb hz
    obtain ⟨h1, h2⟩ := an h
    obtain ⟨hfr, h1⟩ := mq h1
    have hbd : p.b t = none := by have := hs.bx t; rw [hb] at this; exact this hfr
    refine ⟨_, _, .ptr t 0, some (t, .st e (oN i)), ?_, h2, ?_, ⟨h1, hb⟩, xF hb hd⟩
    ·simp [tJ, hd, hi, hbd]
    ·exact n7 hs (p7 hb) (fun _ => ⟨_, rfl, uD hz⟩) (.ptr t 0 _ _ (by rw [au, if_pos rfl]))
   ·cases h
  ·cases h
 ·rename_i e x
  split at h
  ·rename_i t cs hd hc
   split at h
   ·rename_i hb
    obtain ⟨h1, h2⟩ := an h
    obtain ⟨hfr, h1⟩ := mq h1
    have hbd : p.b t = none := by have := hs.bx t; rw [hb] at this; exact this hfr
    obtain ⟨qs, h3, h4⟩ := An (ca hs x) hc
    refine ⟨_, _, .ptr t 0, some (t, .st e qs), ?_, h2, ?_, ⟨h1, hb⟩, xF hb hd⟩
    ·simp [Ek, hd, h3, hbd]
    ·exact n7 hs (p7 hb) (fun _ => ⟨_, rfl, h4.mono (p7 hb)⟩) (.ptr t 0 _ _ (by rw [au, if_pos rfl]))
   ·cases h
  ·cases h
 ·rename_i t ps
  split at h
  ·rename_i i fl hi hf
   split at h
   ·rename_i z hz
    split at h
    ·rename_i cs hcs
     obtain ⟨qs, h1, h2⟩ := D3 hs _ (uD hz) hcs
     refine ⟨_, .no, .ag qs, none, ?_, h, kJ hs (.ag _ _ h2.len h2.rep), trivial, dL⟩
     simp only [xX, hi, hf, h1]
     rfl
    ·cases h
   ·cases h
  ·cases h
 ·exact EC hs h
 ·rename_i t x
  split at h
  ·rename_i v hv
   obtain ⟨r, h1, h2⟩ := KK hs (ca hs x) hv
   exact ⟨_, .no, r, none, by simp [h1], h, kJ hs h2, trivial, dL⟩
  ·cases h
 ·rename_i t x y
  exact QW hs (hst _ _ _ ho) (ca hs x) (ca hs y) h
 ·rename_i op t x y yt
  exact (WD (ca hs x) (ca hs y) (fun n kd z hn hz => TZ hn hz) h).done hs
 ·rename_i op t x
  exact (Xf (ca hs x) h).done hs
 ·rename_i src dst x
  exact (UD hs (ca hs x) h).done hs
 ·rename_i t x lo hi
  exact (QY hs (ca hs x) h).done hs
 ·rename_i t x f
  exact (FI (ca hs x) h).done hs
 ·rename_i t x f
  exact (RD (ca hs x) h).done hs
 ·rename_i t x i
  exact FH hs (ca hs x) (ca hs i) h
 ·rename_i x i
  split at h
  ·rename_i vs hv
   split at h
   ·rename_i v hvi
    have hq := ca hs x
    rw [hv] at hq
    obtain ⟨qs, h1, h2⟩ := Tb hq
    have hlt : i < qs.length := by rw [← h2.len]; exact (zg.1 hvi).1
    have hqi : qs[i]? = some qs[i] := by simp [hlt]
    refine ⟨_, .no, qs[i], none, ?_, h, kJ hs (h2.rep i _ _ hvi hqi), trivial, dL⟩
    simp [rU, h1, hqi]
   ·cases h
  ·cases h
 ·rename_i t x i
  split at h
  ·rename_i sx kd ix hu hx hi
   obtain ⟨z, h1, h2⟩ := ar h
   obtain ⟨h3, c, h4, rfl⟩ := Q2 h1
   have hq := ca hs x
   rw [hx] at hq
   have hr := ca hs i
   rw [hi] at hr
   refine ⟨_, .no, _, none, ?_, h2, kJ hs (fH .u8 _), trivial, dL⟩
   simp [IX, hu, qd hq, kC hr, asS, asI, h3, h4]
  ·cases h
 ·rename_i c
  split at h
  ·rename_i f hf
   simp only [hf]
   unfold LC at h
   unfold rX
   have hargs := nv hs c.args.toList
   split at h
   ·split at h
    ·rename_i x t hx ht
     rw [hx] at hargs
     rcases hargs.cases with ⟨h1, _⟩ | ⟨v, q, vs, qs, h1, h2, h3, h4⟩
     ·cases h1
     ·injection h1 with e1 e2
      subst e1 e2
      rcases h4.cases with ⟨_, rfl⟩ | ⟨_, _, _, _, h5, _⟩
      ·simp only [h2, ht]
       exact (V3 hs h3 h).done hs
      ·cases h5
    ·cases h
   ·split at h
    ·rename_i x y t t' hx ht
     rw [hx] at hargs
     rcases hargs.cases with ⟨h1, _⟩ | ⟨v, q, vs, qs, h1, h2, h3, h4⟩
     ·cases h1
     ·injection h1 with e1 e2
      subst e1 e2
      rcases h4.cases with ⟨h5, _⟩ | ⟨v2, q2, vs2, qs2, h5, h6, h7, h8⟩
      ·cases h5
      ·injection h5 with e1 e2
       subst e1 e2
       rcases h8.cases with ⟨_, rfl⟩ | ⟨_, _, _, _, h9, _⟩
       ·subst h6
        simp only [h2, ht]
        split at h
        ·rename_i htt
         have htt : t' = t := by simpa using htt
         rw [if_pos htt]
         exact (NQ hs h3 h7 h).1
        ·cases h
       ·cases h9
    ·cases h
   ·split at h
    ·rename_i x xs hx
     rw [hx] at hargs
     rcases hargs.cases with ⟨h1, _⟩ | ⟨v, q, vs, qs, h1, h2, h3, h4⟩
     ·cases h1
     ·injection h1 with e1 e2
      subst e1 e2
      split at h
      ·rename_i w hw
       obtain ⟨r, h5, h6⟩ := zT false xs x w q qs h3 h4 hw
       simp only [h2]
       exact ⟨_, .no, r, none, by simp [show rS q qs = some r from h5], h, kJ hs h6, trivial, dL⟩
      ·cases h
    ·cases h
   ·split at h
    ·rename_i x xs hx
     rw [hx] at hargs
     rcases hargs.cases with ⟨h1, _⟩ | ⟨v, q, vs, qs, h1, h2, h3, h4⟩
     ·cases h1
     ·injection h1 with e1 e2
      subst e1 e2
      split at h
      ·rename_i w hw
       obtain ⟨r, h5, h6⟩ := zT true xs x w q qs h3 h4 hw
       simp only [h2]
       exact ⟨_, .no, r, none, by simp [show rT q qs = some r from h5], h, kJ hs h6, trivial, dL⟩
      ·cases h
    ·cases h
   ·split at h
    ·rename_i x y t t' hx ht
     rw [hx] at hargs
     rcases hargs.cases with ⟨h1, _⟩ | ⟨v, q, vs, qs, h1, h2, h3, h4⟩
     ·cases h1
     ·injection h1 with e1 e2
      subst e1 e2
      rcases h4.cases with ⟨h5, _⟩ | ⟨v2, q2, vs2, qs2, h5, h6, h7, h8⟩
      ·cases h5
      ·injection h5 with e1 e2
       subst e1 e2
       rcases h8.cases with ⟨_, rfl⟩ | ⟨_, _, _, _, h9, _⟩
       ·subst h6
        simp only [h2, ht]
        exact UB hs h3 h7 h
       ·cases h9
    ·cases h
   ·cases h
  ·cases h
 ·rename_i f ps qs
  have h1 := nv hs ps.toList
  have h2 := nv hs qs.toList
  exact ⟨_, .no, _, none, rfl, h, kJ hs (.fn f _ _ _ _ h1.len h1.rep h2.len h2.rep), trivial, dL⟩
 ·rename_i t x y
  exact TW hs h
 ·rename_i x
  exact (VX (ca hs x) h).done hs
 ·cases h
def toC : (c : CT) → c.den → PV
 | .v t, x => .d (pO t x).toD
 | .a i, x => .ag ((stD i x).map .d)
 | .pl t, x => .fe [(pO t x).toD]
 | .ps i, x => .fe (stD i x)
def CY : (cs : List CT) → tM cs → List PV
 | [], _ => []
 | c :: cs, x => toC c x.1 :: CY cs x.2
def oO : (p : PT) → p.den → PV
 | .lf t, x => .d (pO t x).toD
 | .ag i, x => .ag ((stD i x).map .d)
 | .pl t, x => .fe [(pO t x).toD]
 | .ps i, x => .fe (stD i x)
 | .fn f a b, x => .fn f (CY a x.1) (CY b x.2)
 | .own .., _ => .junk
 | .mv .., _ => .junk
 | .bx .., _ => .junk
 | .agr .., _ => .junk
 | .io _, _ => .junk
def qB : (ps : List PT) → cG ps → List PV
 | [], _ => []
 | p :: ps, x => oO p x.1 :: qB ps x.2
def xr : (rs : List PT) → bf rs → List PV
 | [], _ => []
 | [p], x => [oO p x]
 | p :: q :: l, x => oO p x.1 :: xr (q :: l) x.2
def toR (rs : List PT) (x : bf rs) : PV := match rs, x with
 | [p], x => oO p x
 | rs, x => .tup (xr rs x)
def dY (rows : List (Nat × Nat × Nat × Nat × Ty)) : Nat → List D → List PV
 | _, [] => []
 | j, d :: ds => (match o4 rows j with
  | some (R, _, _, _) => (match d with | .sl es => .row R es.length | .v _ => .junk)
  | none => .d d) :: dY rows (j + 1) ds
def cj (rows : List (Nat × Nat × Nat × Nat × Ty)) : Nat → List D → BU
 | _, [] => []
 | j, d :: ds => match o4 rows j with
  | some (R, e, k, _) => (match d with | .sl es => (R, .rw e k es) :: cj rows (j + 1) ds | .v _ => cj rows (j + 1) ds)
  | none => cj rows (j + 1) ds
def rwU (e k : Nat) (t : Ty) (xs : List t.den) : Box := .rw e k (xs.map (bJ t))
def toI : (p : PT) → List Nat → p.den → PV × BU
 | .own e k t, is, xs => (match is with | [i] => (.row i (show List t.den from xs).length, [(i, rwU e k t xs)]) | _ => (.junk, []))
 | .mv e k t, is, xs => (match is with | [i] => (.row i (show List t.den from xs).length, [(i, rwU e k t xs)]) | _ => (.junk, []))
 | .bx ty n rows, is, x => (match is with | i :: is => (.ptr i 0, (i, .st ty (dY (lV rows is) 0 (stD n x))) :: cj (lV rows is) 0 (stD n x)) | _ => (.junk, []))
 | .agr n rows, is, x => (.ag (dY (lV rows is) 0 (stD n x)), cj (lV rows is) 0 (stD n x))
 | .io _, _, _ => (.junk, [])
 | .lf t, _, x => (oO (.lf t) x, [])
 | .ag i, _, x => (oO (.ag i) x, [])
 | .pl t, _, x => (oO (.pl t) x, [])
 | .ps i, _, x => (oO (.ps i) x, [])
 | .fn f a b, _, x => (oO (.fn f a b) x, [])
def dW : (ps : List PT) → List (List Nat) → cG ps → List PV × BU
 | [], _, _ => ([], [])
 | p :: ps, is :: iss, x => ((toI p is x.1).1 :: (dW ps iss x.2).1, (toI p is x.1).2 ++ (dW ps iss x.2).2)
 | _ :: _, [], _ => ([], [])
def WU : Box → Box
 | .rw e k es => .rw e k (es ++ [[]])
 | B => B
def DS (l : BU) : List Nat → BU
 | [] => []
 | t :: ts => (t, match lkU l t with | some B => WU B | none => .st 0 []) :: DS l ts
def toO : (p : PT) → (b : IB) → List Nat → List Nat → p.den → b.den → BU
 | .own .., .own e k t, is, _, _, xs => (match is with | [i] => [(i, rwU e k t xs)] | _ => [])
 | .bx .., .bx ty n rows, is, js, _, x => (match is with | i :: _ => (i, .st ty (dY (lV rows js) 0 (stD n x))) :: cj (lV rows js) 0 (stD n x) | _ => [])
 | _, _, _, _, _, _ => []
def GU : PT → List Nat → List Nat
 | .mv .., is => is
 | .bx .., _ :: is => is
 | _, _ => []
def oY : List PT → List (List Nat) → List Nat
 | p :: ps, is :: iss => GU p is ++ oY ps iss
 | _, _ => []
def QT : (ps : List PT) → (ls : List IB) → List (List Nat) → List (List Nat) → cG ps → xC ls → BU
 | p :: ps, b :: ls, is :: iss, js :: kss, x, o => toO p b is js x.1 o.1 ++ QT ps ls iss kss x.2 o.2
 | _, _, _, _, _, _ => []
def cU : (rs : List PT) → List (List Nat) → bf rs → List PV × BU
 | [p], is :: _, x => ([(toI p is x).1], (toI p is x).2)
 | p :: q :: l, is :: iss, x => ((toI p is x.1).1 :: (cU (q :: l) iss x.2).1, (toI p is x.1).2 ++ (cU (q :: l) iss x.2).2)
 | _, _, _ => ([], [])
def xE : List PV → PV
 | [v] => v
 | vs => .tup vs
def Yc : (p : PT) → (b : IB) → p.den → b.den → Prop
 | .own _ _ t, .own _ _ t', x, o => (show List t'.den from o).length = (show List t.den from x).length
 | _, _, _, _ => True
def KN : (ps : List PT) → (ls : List IB) → cG ps → xC ls → Prop
 | p :: ps, b :: ls, x, o => Yc p b x.1 o.1 ∧ KN ps ls x.2 o.2
 | _, _, _, _ => True
def ir : List PT → List (List Nat) → Prop
 | [], [] => True
 | p :: ps, is :: iss => is.length = p.nI ∧ ir ps iss
 | _, _ => False
def jG : List IB → List (List Nat) → Prop
 | [], [] => True
 | b :: ls, js :: kss => js.length = b.nJ ∧ jG ls kss
 | _, _ => False
def sG (ps rs : List PT) (iss kss jss : List (List Nat)) (x : cG ps) (r : bf rs) : BU := QT ps (cz rs) iss kss x (jB rs r) ++ ((cU (eS rs) jss (it rs r)).2 ++ DS (dW ps iss x).2 (oY ps iss))
def Yy (P : Program) (f : FuncId) (ps rs : List PT) (x : cG ps) (r : bf rs) : Prop :=
 KN ps (cz rs) x (jB rs r) ∧ ∀ iss kss jss, ir ps iss → jG (cz rs) kss → ir (eS rs) jss → (bl iss ++ (bl kss ++ bl jss)).Nodup → (∀ j ∈ bl kss ++ bl jss, j < 1000000) → (∀ i ∈ bl iss, i ∈ bV (dW ps iss x).2) → eg P f = true ∧
  ∀ (w0 : WM) (F0 : Nat → Prop) (ρ : Nat → Value) (b : Nat → Option Box) (w : World) (F : Nat → Prop) (vs : Array Value) (args : List PV), dM args = (dW ps iss x).1 → (∀ t B, lkU (dW ps iss x).2 t = some B → ∃ B', b t = some B' ∧ qK B' = B) → (∀ t ∈ bl kss ++ bl jss, b t = none) →
   Inv w0 F0 ρ b w F → cL ρ b w F vs.toList args → Calls P f vs w fun e w' => ∃ v ρ' F', e = .returned v ∧ Inv w0 F0 ρ' (dF b (sG ps rs iss kss jss x r)) w' F' ∧ Stp ρ b w F ρ' (dF b (sG ps rs iss kss jss x r)) w' F' ∧ aL ρ' (dF b (sG ps rs iss kss jss x r)) w' F' v (xE (cU (eS rs) jss (it rs r)).1)
def bQ (P : Program) (f : FuncId) (ps rs : List PT) (F : cG ps → Option (bf rs)) : Prop := ∀ x r, F x = some r → ((ol ps || ol rs) = false → PC P f (qB ps x) (toR rs r)) ∧ ((ol ps || ol rs) = true → Yy P f ps rs x r)
def p8 (P : Program) (T : List (Nat × Ent)) : Prop := ∀ f vs en, lkE T f vs = some en → bQ P f en.ps en.rs en.f
theorem p8.nil : p8 P [] := fun f vs en h => by cases h
theorem p8.cons {T : List (Nat × Ent)} {f : FuncId} {ps rs : List PT} {F : cG ps → Option (bf rs)} (h : bQ P f ps rs F) (hT : p8 P T) : p8 P ((f, ⟨ps, rs, F⟩) :: T) := by
 intro g vs en hg
 simp only [lkE, cW] at hg
 by_cases e : g = f
 ·subst e
  simp only [decide_true] at hg
  split at hg
  ·injection hg with hg
   subst hg
   exact h
  ·exact hT g vs en hg
 ·simp only [e, decide_false] at hg
  exact hT g vs en hg
theorem CE {t : Ty} {c : SD} {x : t.den} (h : c.as t = some x) : (pO t x).toD = c.toD := by
 have h1 := SD.as_ok h
 cases t with
 | st i => simp [SD.as] at h
 | _ => simp only [bJ, List.cons.injEq, and_true] at h1; exact h1
theorem Uy (hs : Sim s p) {t : Ty} {v : SV} {q : PV} {x : t.den} (hv : a8 s.bx v q) (h : Wn s t v = some x) : asData p.b q = .d (pO t x).toD ∧ (oU v = true → clean q = true ∧ asData dP q = .d (pO t x).toD) := by
 unfold Wn at h
 split at h
 ·rename_i c hc
  have := Ux hs hv hc
  simp only [CE h]
  exact this
 ·cases h
theorem Ys (hs : Sim s p) {i : Nat} {v : SV} {q : PV} {x : ST i} (hv : a8 s.bx v q) (h : Wq s i v = some x) : asData p.b q = .ag ((stD i x).map .d) ∧ (oU v = true → clean q = true ∧ asData dP q = .ag ((stD i x).map .d)) := by
 unfold Wq at h
 split at h
 ·rename_i cs
  split at h
  ·rename_i ds hds
   obtain ⟨qs, rfl, hq⟩ := Gi hv
   obtain ⟨h1, h2⟩ := QA hs hq hds
   have h3 := zG h
   have e : ds.map (fun c => PV.d c.toD) = (stD i x).map .d := by rw [← h3, List.map_map]; rfl
   refine ⟨by simp only [asData, h1, e], fun hn => ?_⟩
   obtain ⟨h4, h5⟩ := h2 hn
   exact ⟨by simpa [clean] using h4, by simp only [asData, h5, e]⟩
  ·cases h
 ·cases h
theorem Yj {cs : List SD} {q : PV} (b : Nat → Option Box) (hv : a8 B (.fe cs) q) : asData b q = .fe (cs.map SD.toD) ∧ clean q = true := by
 cases hv with
 | fe _ ds h hn => subst h; exact ⟨rfl, rfl⟩
theorem RF {t : Ty} {v : SV} {q : PV} {x : t.den} (b : Nat → Option Box) (hv : a8 B v q) (h : Qy t v = some x) : asData b q = .fe [(pO t x).toD] ∧ clean q = true := by
 unfold Qy at h
 split at h
 ·rename_i c
  have e : (pO t x).toD = c.toD := CE h
  rw [e]
  exact Yj b hv
 ·cases h
theorem RA {i : Nat} {v : SV} {q : PV} {x : ST i} (b : Nat → Option Box) (hv : a8 B v q) (h : Qx i v = some x) : asData b q = .fe (stD i x) ∧ clean q = true := by
 unfold Qx at h
 split at h
 ·rename_i cs
  rw [← zG h]
  exact Yj b hv
 ·cases h
theorem Wr (hs : Sim s p) {t : CT} {v : SV} {q : PV} {x : t.den} (hv : a8 s.bx v q) (h : Yn s t v = some x) : asData p.b q = toC t x ∧ (oU v = true → clean q = true ∧ asData dP q = toC t x) := by
 cases t with
 | v t => exact Uy hs hv h
 | a i => exact Ys hs hv h
 | pl t => exact ⟨(RF p.b hv h).1, fun _ => ⟨(RF p.b hv h).2, (RF dP hv h).1⟩⟩
 | ps i => exact ⟨(RA p.b hv h).1, fun _ => ⟨(RA p.b hv h).2, (RA dP hv h).1⟩⟩
theorem Ep (hs : Sim s p) : ∀ {ps : List CT} {vs : List SV} {qs : List PV} {x : tM ps}, cd s.bx vs qs → Lu s ps vs = some x → bL p.b qs = CY ps x ∧ (cC vs = true → cN qs = true ∧ bL dP qs = CY ps x)
 | [], [], qs, x, hv, h => by
  rcases hv.cases with ⟨_, rfl⟩ | ⟨_, _, _, _, h1, _⟩
  ·simp [bL, CY, cN]
  ·cases h1
 | [], _ :: _, _, _, _, h => by cases h
 | _ :: _, [], _, _, _, h => by cases h
 | t :: ps, v :: vs, qs, x, hv, h => by
  rcases hv.cases with ⟨h1, _⟩ | ⟨v', q, vs', qs', h1, rfl, h2, h3⟩
  ·cases h1
  ·injection h1 with e1 e2
   subst e1 e2
   simp only [Lu] at h
   obtain ⟨y, h4, h5⟩ := ar h
   obtain ⟨ys, h6, h7⟩ := ar h5
   injection h7 with h7
   subst h7
   obtain ⟨m1, m2⟩ := Wr hs h2 h4
   obtain ⟨m3, m4⟩ := Ep hs h3 h6
   refine ⟨by simp [bL, CY, m1, m3], fun hn => ?_⟩
   simp only [cC] at hn
   split at hn
   ·rename_i hn1
    obtain ⟨n1, n2⟩ := m2 hn1
    obtain ⟨n3, n4⟩ := m4 hn
    simp [bL, cN, CY, n1, n2, n3, n4]
   ·cases hn
theorem WJ {f : FuncId} {ps qs : List SV} {q : PV} (h : a8 B (.fn f ps qs) q) : ∃ ps' qs', q = .fn f ps' qs' ∧ cd B ps ps' ∧ cd B qs qs' := by
 cases h with
 | fn _ _ _ ps' qs' hl hr hl2 hr2 => exact ⟨ps', qs', rfl, ⟨hl, hr⟩, hl2, hr2⟩
theorem CF (hs : Sim s p) {t : PT} {v : SV} {q : PV} {x : t.den} (hv : a8 s.bx v q) (h : Lx s t v = some x) : asData p.b q = oO t x ∧ (oU v = true → clean q = true ∧ asData dP q = oO t x) := by
 cases t with
 | lf t => exact Uy hs hv h
 | ag i => exact Ys hs hv h
 | pl t => exact ⟨(RF p.b hv h).1, fun _ => ⟨(RF p.b hv h).2, (RF dP hv h).1⟩⟩
 | ps i => exact ⟨(RA p.b hv h).1, fun _ => ⟨(RA p.b hv h).2, (RA dP hv h).1⟩⟩
 | fn f a b =>
  have h : XK s f a b v = some x := h
  unfold XK at h
  split at h
  ·rename_i f' ps qs
   split at h
   ·rename_i hf
    rw [cW] at hf
    have hf := zd hf
    subst hf
    obtain ⟨y, h4, h5⟩ := ar h
    obtain ⟨ys, h6, h7⟩ := ar h5
    injection h7 with h7
    subst h7
    obtain ⟨ps', qs', rfl, k1, k2⟩ := WJ hv
    obtain ⟨m1, m2⟩ := Ep hs k1 h4
    obtain ⟨m3, m4⟩ := Ep hs k2 h6
    refine ⟨by simp only [asData, oO, m1, m3], fun hn => ?_⟩
    simp only [oU] at hn
    split at hn
    ·rename_i hn1
     obtain ⟨n1, n2⟩ := m2 hn1
     obtain ⟨n3, n4⟩ := m4 hn
     exact ⟨by simp only [clean, n1, n3, Bool.and_self], by simp only [asData, oO, n2, n4]⟩
    ·cases hn
   ·cases h
  ·cases h
 | own => exact dE (x := x) h
 | mv => exact dE (x := x) h
 | bx => exact dE (x := x) h
 | agr => exact dE (x := x) h
 | io => exact dE (x := x) h
theorem Lw (hs : Sim s p) : ∀ {ps : List PT} {vs : List SV} {qs : List PV} {x : cG ps}, cd s.bx vs qs → Qz s ps vs = some x → bL p.b qs = qB ps x ∧ (cC vs = true → cN qs = true ∧ bL dP qs = qB ps x)
 | [], [], qs, x, hv, h => by
  rcases hv.cases with ⟨_, rfl⟩ | ⟨_, _, _, _, h1, _⟩
  ·simp [bL, qB, cN]
  ·cases h1
 | [], _ :: _, _, _, _, h => by cases h
 | _ :: _, [], _, _, _, h => by cases h
 | t :: ps, v :: vs, qs, x, hv, h => by
  rcases hv.cases with ⟨h1, _⟩ | ⟨v', q, vs', qs', h1, rfl, h2, h3⟩
  ·cases h1
  ·injection h1 with e1 e2
   subst e1 e2
   simp only [Qz] at h
   obtain ⟨y, h4, h5⟩ := ar h
   obtain ⟨ys, h6, h7⟩ := ar h5
   injection h7 with h7
   subst h7
   obtain ⟨m1, m2⟩ := CF hs h2 h4
   obtain ⟨m3, m4⟩ := Lw hs h3 h6
   refine ⟨by simp [bL, qB, m1, m3], fun hn => ?_⟩
   simp only [cC] at hn
   split at hn
   ·rename_i hn1
    obtain ⟨n1, n2⟩ := m2 hn1
    obtain ⟨n3, n4⟩ := m4 hn
    simp [bL, cN, qB, n1, n2, n3, n4]
   ·cases hn
theorem Ig (i : Nat) (x : ST i) : cd B (zV (stC i x)) ((stD i x).map .d) := by
 rw [← tb i x]
 exact DB _ (wd i x)
theorem Qm {t : Ty} (x : t.den) (h : ∀ i, t ≠ .st i) : a8 B (.fe [pO t x]) (.fe [(pO t x).toD]) := by
 refine .fe _ _ rfl fun c hc => ?_
 simp only [List.mem_cons, List.not_mem_nil, or_false] at hc
 subst hc
 cases t with
 | st i => exact absurd rfl (h i)
 | _ => exact fun e => by cases e
theorem Ut : ∀ (t : CT) (x : t.den), Yo t = true → a8 B (Yl t x) (toC t x)
 | .v (.int _), x, _ => fH _ _
 | .v .bool, x, _ => eL _
 | .v .str, x, _ => vD _
 | .v (.sl t), x, _ => MP t x
 | .v (.st i), x, h => by cases h
 | .a i, x, _ => .ag _ _ (Ig (B := B) i x).len (Ig i x).rep
 | .pl t, x, h => Qm x fun i e => by subst e; cases h
 | .ps i, x, _ => .fe _ _ (tb i x).symm (wd i x)
theorem Ah : ∀ (ps : List CT) (x : tM ps), Es ps = true → cd B (G8 ps x) (CY ps x)
 | [], _, _ => .nil
 | p :: ps, x, h => by
  simp only [Es] at h
  split at h
  ·rename_i hp; exact .cons (Ut p x.1 hp) (Ah ps x.2 h)
  ·cases h
theorem xV : ∀ (t : PT) (x : t.den), Ri t = true → a8 B (RH t x) (oO t x)
 | .lf (.int _), x, _ => fH _ _
 | .lf .bool, x, _ => eL _
 | .lf .str, x, _ => vD _
 | .lf (.sl t), x, _ => MP t x
 | .lf (.st i), x, h => by cases h
 | .ag i, x, _ => .ag _ _ (Ig (B := B) i x).len (Ig i x).rep
 | .pl t, x, h => Qm x fun i e => by subst e; cases h
 | .ps i, x, _ => .fe _ _ (tb i x).symm (wd i x)
 | .fn f a b, x, h => by
  have h : (match Es a with | true => Es b | false => false) = true := h
  split at h
  ·rename_i h1
   have k1 := Ah (B := B) a x.1 h1
   have k2 := Ah (B := B) b x.2 h
   exact .fn f _ _ _ _ k1.len k1.rep k2.len k2.rep
  ·cases h
 | .own .., x, h => by cases h
 | .mv .., x, h => by cases h
 | .bx .., x, h => by cases h
 | .agr .., x, h => by cases h
 | .io _, x, h => by cases h
theorem G9 : ∀ (ps : List PT) (x : cG ps), tn ps = true → cd B (Bo ps x) (qB ps x)
 | [], _, _ => .nil
 | p :: ps, x, h => by
  simp only [tn] at h
  split at h
  ·rename_i hp; exact .cons (xV p x.1 hp) (G9 ps x.2 h)
  ·cases h
theorem Af : ∀ (rs : List PT) (x : bf rs), tn rs = true → cd B (Qq rs x) (xr rs x)
 | [], _, _ => .nil
 | [p], x, h => by
  simp only [tn] at h
  split at h
  ·rename_i hp; exact .cons (xV p x hp) .nil
  ·cases h
 | p :: q :: l, x, h => by
  have h' : Ri p = true ∧ tn (q :: l) = true := by
   rw [tn] at h
   split at h
   ·rename_i hp; exact ⟨hp, h⟩
   ·cases h
  exact .cons (xV p x.1 h'.1) (Af (q :: l) x.2 h'.2)
theorem Us (rs : List PT) (x : bf rs) (h : tn rs = true) : a8 B (Yk rs x) (toR rs x) := by
 match rs, x, h with
 | [], x, h => exact .tup _ _ rfl (fun j c q h1 => by simp [Qq] at h1)
 | [p], x, h =>
  have := Af (B := B) [p] x h
  exact this.head
 | p :: q :: l, x, h =>
  have := Af (B := B) (p :: q :: l) x h
  exact .tup _ _ this.len this.rep
theorem D1 : ∀ {ds : List D}, (∀ d ∈ ds, ∃ x, d = .v x) → tF (ds.map .d) = true
 | [], _ => rfl
 | d :: ds, h => by
  obtain ⟨x, rfl⟩ := h d List.mem_cons_self
  simp [tF, flat, D1 (fun d hd => h d (List.mem_cons_of_mem _ hd))]
theorem GY : ∀ (t : PT) (x : t.den), t.flat = true → flat (oO t x) = true
 | .lf (.int _), _, _ => rfl
 | .lf .bool, _, _ => rfl
 | .lf .str, _, _ => rfl
 | .lf (.sl _), _, h => by cases h
 | .lf (.st _), _, h => by cases h
 | .ag i, x, h => by
  simp only [oO, flat]
  exact D1 (Xh i x h)
 | .pl _, _, h => by cases h
 | .ps _, _, h => by cases h
 | .fn _ _ _, _, h => by cases h
 | .own .., _, h => by cases h
 | .mv .., _, h => by cases h
 | .bx .., _, h => by cases h
 | .agr .., _, h => by cases h
 | .io _, _, h => by cases h
theorem GX : ∀ (rs : List PT) (x : bf rs), pX rs = true → tF (xr rs x) = true
 | [], _, _ => rfl
 | [p], x, h => by
  simp only [pX] at h
  split at h
  ·rename_i hp; simp [xr, tF, GY p x hp]
  ·cases h
 | p :: q :: l, x, h => by
  have h' : p.flat = true ∧ pX (q :: l) = true := by
   rw [pX] at h
   split at h
   ·rename_i hp; exact ⟨hp, h⟩
   ·cases h
  simp [xr, tF, GY p x.1 h'.1, GX (q :: l) x.2 h'.2]
theorem tK : ∀ (ds : List D), cN (ds.map .d) = true
 | [] => rfl
 | d :: ds => by simp [cN, clean, tK ds]
theorem RT : ∀ (t : CT) (x : t.den), clean (toC t x) = true
 | .v _, _ => rfl
 | .a i, x => by simp [toC, clean, tK]
 | .pl _, _ => rfl
 | .ps _, _ => rfl
theorem Ex : ∀ (cs : List CT) (x : tM cs), cN (CY cs x) = true
 | [], _ => rfl
 | c :: cs, x => by simp only [CY, cN, RT c x.1, Ex cs x.2, Bool.and_self]
theorem dI : ∀ (t : PT) (x : t.den), clean (oO t x) = true
 | .lf _, _ => rfl
 | .ag i, x => by simp [oO, clean, tK]
 | .pl _, _ => rfl
 | .ps _, _ => rfl
 | .fn _ a b, x => by simp only [oO, clean, Ex, Bool.and_self]
 | .own .., _ => rfl
 | .mv .., _ => rfl
 | .bx .., _ => rfl
 | .agr .., _ => rfl
 | .io _, _ => rfl
theorem Ew : ∀ (rs : List PT) (x : bf rs), cN (xr rs x) = true
 | [], _ => rfl
 | [p], x => by simp only [xr, cN, Bool.and_true]; exact dI p x
 | p :: q :: l, x => by simp only [xr, cN, Bool.and_eq_true]; exact ⟨dI p x.1, Ew (q :: l) x.2⟩
theorem qA (rs : List PT) (x : bf rs) : (∃ p, xr rs x = [p] ∧ toR rs x = p) ∨ toR rs x = .tup (xr rs x) := by
 match rs, x with
 | [], x => exact .inr rfl
 | [p], x => exact .inl ⟨_, rfl, rfl⟩
 | p :: q :: l, x => exact .inr rfl
theorem Uk (rs : List PT) (x : bf rs) (h : pX rs = true) : flat (toR rs x) = true := by
 have := GX rs x h
 rcases qA rs x with ⟨p, h1, h2⟩ | h1
 ·rw [h1] at this
  rw [h2]
  simpa [tF] using this
 ·rw [h1]
  simpa [flat] using this
theorem RS (rs : List PT) (x : bf rs) : clean (toR rs x) = true := by
 have := Ew rs x
 rcases qA rs x with ⟨p, h1, h2⟩ | h1
 ·rw [h1] at this
  rw [h2]
  simpa [cN] using this
 ·rw [h1]
  simpa [clean] using this
theorem UG {T : List (Nat × Ent)} (hT : p8 P T) (hs : Sim s p) {f : Nat} {vs : List SV} {qs : List PV} (hM : Rv T f vs = false) (hv : cd s.bx vs qs) {k : SV → Option ρ} {res : ρ} (h : QE T f s vs k = some res) : ∃ v r, J5 P f p.b qs r ∧ k v = some res ∧ a8 s.bx v r := by
 unfold QE at h
 split at h
 ·cases h
 ·rename_i en hen
  have h0 := (an h).1
  replace h := (an h).2
  have h1 := (an h).1
  replace h := (an h).2
  obtain ⟨x, h2, h⟩ := ar h
  obtain ⟨r, h3, h4⟩ := ar h
  obtain ⟨m1, m2⟩ := Lw hs hv h2
  have hc := (hT f _ en hen x r h3).1 (by unfold Rv at hM; rw [hen] at hM; exact hM)
  refine ⟨_, toR en.rs r, ?_, h4, Us en.rs r h0⟩
  simp only [Bool.or_eq_true] at h1
  rcases h1 with h1 | h1
  ·obtain ⟨n1, n2⟩ := m2 h1
   exact .inl ⟨n1, RS _ _, by rw [n2]; exact hc⟩
  ·exact .inr ⟨Uk _ _ h1, by rw [m1]; exact hc⟩
end
section
section
variable {P : Program} {n : Nat} {Qs : Exit → PS → Prop} {c : Code}
end
end
section
def Le (p p' : PS) : Prop := ∀ (n : Nat) (w0 : WM) (F0 : Nat → Prop) (a : Act) (w : World), nD n w0 F0 p a w → nD n w0 F0 p' a w
theorem Le.refl (p : PS) : Le p p := fun _ _ _ _ _ h => h
theorem Le.trans {p p' p'' : PS} (h : Le p p') (h' : Le p' p'') : Le p p'' := fun n w0 F0 a w hc => h' n w0 F0 a w (h n w0 F0 a w hc)
theorem th {P : Program} {n : Nat} {c : Code} {Q : Exit → PS → Prop} {p p' : PS} (hl : Le p p') (h : PWP P n c Q p') : PWP P n c Q p := fun w0 F0 a w hc => h w0 F0 a w (hl n w0 F0 a w hc)
theorem fm {P : Program} {n : Nat} {c : Code} {Q Q' : Exit → PS → Prop} {p : PS} (h : PWP P n c Q p) (hq : ∀ e p', Q e p' → ∃ p'', Le p' p'' ∧ Q' e p'') : PWP P n c Q' p :=
 fun w0 F0 a w hc => wp_mono (h w0 F0 a w hc) fun e a' w' ⟨s', h1, h2⟩ => by
  obtain ⟨p'', h3, h4⟩ := hq e s' h1
  exact ⟨p'', h4, h3 n w0 F0 a' w' h2⟩
structure gD (s : SS) (p : PS) : Prop where
 sl : ∀ i, a8 s.bx (lkV s.sl i) (p.t i)
 bx : ∀ t b, lkB s.bx t = some b → lU s.bx true (some b) (p.b t)
theorem lU.some {B : List (Nat × Option aW)} {o o' : Bool} {b : aW} {q : Option Box} (h : lU B o (some b) q) : lU B o' (some b) q := by cases b <;> exact h
theorem Sim.w {s : SS} {p : PS} (h : Sim s p) : gD s p := ⟨h.sl, fun t b hb => by have := h.bx t; rw [hb] at this; exact this.some⟩
mutual
def Uz : SV → PV → PV
 | .junk, _ => .junk
 | .ag cs, .ag qs => .ag (nY cs qs)
 | .tup cs, .tup qs => .tup (nY cs qs)
 | .fn _ ps qs, .fn f ps' qs' => .fn f (nY ps ps') (nY qs qs')
 | _, q => q
def nY : List SV → List PV → List PV
 | [], _ => []
 | _, [] => []
 | c :: cs, q :: qs => Uz c q :: nY cs qs
end
def I6 : aW → Box → Box
 | .st _ cs, .st ty qs => .st ty (nY cs qs)
 | _, b => b
def wM (s : SS) (p : PS) : PS := ⟨fun i => Uz (lkV s.sl i) (p.t i), fun t => match lkB s.bx t with | none => none | some b => (p.b t).map (I6 b)⟩
theorem fQ : ∀ (cs : List SV) (qs : List PV), cs.length = qs.length → (nY cs qs).length = qs.length
 | [], [], _ => rfl
 | [], _ :: _, h => by simp at h
 | _ :: _, [], h => by simp at h
 | c :: cs, q :: qs, h => by simp only [nY, List.length_cons, fQ cs qs (by simpa using h)]
theorem fR : ∀ (cs : List SV) (qs : List PV) (j : Nat) (r : PV), (nY cs qs)[j]? = some r → ∃ c q, cs[j]? = some c ∧ qs[j]? = some q ∧ r = Uz c q
 | [], qs, j, r, h => by simp [nY] at h
 | _ :: _, [], j, r, h => by simp [nY] at h
 | c :: cs, q :: qs, 0, r, h => by simp [nY] at h; exact ⟨c, q, rfl, rfl, h.symm⟩
 | c :: cs, q :: qs, j + 1, r, h => by
  simp [nY] at h
  simpa using fR cs qs j r h
theorem J9 {B : List (Nat × Option aW)} {v : SV} {q : PV} (h : a8 B v q) : a8 B v (Uz v q) := by
 induction h with
 | junk q => exact .junk _
 | d c y h => exact .d c y h
 | ag cs qs hl hr ih =>
  refine .ag cs _ (by rw [fQ cs qs hl]; exact hl) (fun j c r h1 h2 => ?_)
  obtain ⟨c', q', h3, h4, rfl⟩ := fR cs qs j r h2
  rw [h1] at h3
  injection h3 with h3
  subst h3
  exact ih j c q' h1 h4
 | tup cs qs hl hr ih =>
  refine .tup cs _ (by rw [fQ cs qs hl]; exact hl) (fun j c r h1 h2 => ?_)
  obtain ⟨c', q', h3, h4, rfl⟩ := fR cs qs j r h2
  rw [h1] at h3
  injection h3 with h3
  subst h3
  exact ih j c q' h1 h4
 | ptr t o ty cs hb => exact .ptr t o ty cs hb
 | row t n e k ty xs pins hb hn => exact .row t n e k ty xs pins hb hn
 | re t p o n i e k ty xs pins pin hb hn hp hi => exact .re t p o n i e k ty xs pins pin hb hn hp hi
 | vw t lo hi n e k ty xs pins hb hn => exact .vw t lo hi n e k ty xs pins hb hn
 | fe cs ds h hn => exact .fe cs ds h hn
 | fn f ps qs ps' qs' hl hr hl2 hr2 ih ih2 =>
  refine .fn f ps qs _ _ (by rw [fQ ps ps' hl]; exact hl) (fun j c r h1 h2 => ?_) (by rw [fQ qs qs' hl2]; exact hl2) (fun j c r h1 h2 => ?_)
  ·obtain ⟨c', q', h3, h4, rfl⟩ := fR ps ps' j r h2
   rw [h1] at h3
   injection h3 with h3
   subst h3
   exact ih j c q' h1 h4
  ·obtain ⟨c', q', h3, h4, rfl⟩ := fR qs qs' j r h2
   rw [h1] at h3
   injection h3 with h3
   subst h3
   exact ih2 j c q' h1 h4
theorem UA {B : List (Nat × Option aW)} {cs : List SV} {qs : List PV} (h : cd B cs qs) : cd B cs (nY cs qs) :=
 ⟨by rw [fQ cs qs h.len]; exact h.len, fun j c r h1 h2 => by
  obtain ⟨c', q', h3, h4, rfl⟩ := fR cs qs j r h2
  rw [h1] at h3
  injection h3 with h3
  subst h3
  exact J9 (h.rep j c q' h1 h4)⟩
section
variable {ρ : Nat → Value} {b b' : Nat → Option Box} {w : World} {F : Nat → Prop} {B : List (Nat × Option aW)}
theorem Kz (hst : ∀ t ty cs ty' qs, lkB B t = some (.st ty cs) → b t = some (.st ty' qs) → ∃ ty2 qs2, b' t = some (.st ty2 qs2)) (hrw : ∀ t e k ty xs pins, lkB B t = some (.rw e k ty xs pins) → b' t = b t) {v : SV} {q : PV} (hv : a8 B v q) :
  ∀ {x : Value}, aL ρ b w F x q → aL ρ b' w F x (Uz v q) := by
 induction hv with
 | junk q => exact fun _ => .junk _
 | d c y h =>
  intro x hp
  cases hp with
  | d _ _ h => exact .d _ _ h
 | ag cs qs hl hr ih =>
  intro x hp
  cases hp with
  | ag xs _ hl2 h1 hr2 =>
   refine .ag xs _ (by rw [fQ cs qs hl]; exact hl2) h1 (fun j x r h2 h3 => ?_)
   obtain ⟨c, q, h4, h5, rfl⟩ := fR cs qs j r h3
   exact ih j c q h4 h5 (hr2 j x q h2 h5)
 | tup cs qs hl hr ih =>
  intro x hp
  cases hp with
  | tup xs _ hl2 hr2 =>
   refine .tup xs _ (by rw [fQ cs qs hl]; exact hl2) (fun j x r h2 h3 => ?_)
   obtain ⟨c, q, h4, h5, rfl⟩ := fR cs qs j r h3
   exact ih j c q h4 h5 (hr2 j x q h2 h5)
 | ptr t o ty cs hb =>
  intro x hp
  cases hp with
  | ptr _ _ g ty' qs h1 h2 =>
   obtain ⟨ty2, qs2, h3⟩ := hst t ty cs ty' qs hb h1
   exact .ptr t o g ty2 qs2 h3 h2
 | row t n e k ty xs pins hb hn =>
  intro x hp
  cases hp with
  | row _ _ A c e2 k2 es h1 h2 h3 h4 h5 => exact .row t n A c e2 k2 es (by rw [hrw t e k ty xs pins hb]; exact h1) h2 h3 h4 h5
 | re t p o n i e k ty xs pins pin hb hn hp hi =>
  intro x hx
  cases hx with
  | re _ _ _ _ a e2 k2 es h1 h2 h3 h4 => exact .re t n i o a e2 k2 es (by rw [hrw t e k ty xs pins hb]; exact h1) h2 h3 h4
 | vw t lo hi n e k ty xs pins hb hn=>
  intro x hp
  cases hp with
  | vw _ _ _ _ A m c e2 k2 es h1 h2 h3 h4 h5 h6 => exact .vw t n lo hi A m c e2 k2 es (by rw [hrw t e k ty xs pins hb]; exact h1) h2 h3 h4 h5 h6
 | fe cs ds h hn =>
  intro x hx
  cases hx with
  | fe a _ us h1 h2 h3 => exact .fe a ds us h1 h2 h3
 | fn f ps qs ps' qs' hl hr hl2 hr2 ih ih2 =>
  intro x hx
  cases hx with
  | fn _ xs ys _ _ m1 m2 m3 m4 =>
   refine .fn f xs ys _ _ (by rw [fQ ps ps' hl]; exact m1) (fun j x r h2 h3 => ?_) (by rw [fQ qs qs' hl2]; exact m3) (fun j x r h2 h3 => ?_)
   ·obtain ⟨c, q, h4, h5, rfl⟩ := fR ps ps' j r h3
    exact ih j c q h4 h5 (m2 j x q h2 h5)
   ·obtain ⟨c, q, h4, h5, rfl⟩ := fR qs qs' j r h3
    exact ih2 j c q h4 h5 (m4 j x q h2 h5)
end
theorem qG {s : SS} {p : PS} (h : gD s p) : Sim ⟨s.sl, s.bx, s.pr, s.ro, []⟩ (wM s p) := by
 refine ⟨fun i => J9 (h.sl i), fun t => ?_⟩
 show lU s.bx (aA [] t) (lkB s.bx t) (match lkB s.bx t with | none => none | some b => (p.b t).map (I6 b))
 cases hb : lkB s.bx t with
 | none => exact fun _ => rfl
 | some bx =>
  have h1 := h.bx t bx hb
  cases bx with
  | st ty cs =>
   obtain ⟨qs, h2, h3⟩ := h1
   rw [h2]
   exact ⟨nY cs qs, rfl, UA h3⟩
  | rw e k ty xs pins =>
   obtain ⟨h2, h3⟩ := h1
   rw [h2]
   exact ⟨rfl, h3⟩
theorem zX {s : SS} {p : PS} (h : gD s p) : Le p (wM s p) := by
 intro n w0 F0 a w ⟨h1, h2, ρ, F, hi, hev⟩
 have hst : ∀ t ty cs ty' qs, lkB s.bx t = some (.st ty cs) → p.b t = some (.st ty' qs) → ∃ ty2 qs2, (wM s p).b t = some (.st ty2 qs2) := fun t ty cs ty' qs k1 k2 => by
  refine ⟨ty', nY cs qs, ?_⟩
  show (match lkB s.bx t with | none => none | some b => (p.b t).map (I6 b)) = _
  rw [k1, k2]; rfl
 have hrw : ∀ t e k ty xs pins, lkB s.bx t = some (.rw e k ty xs pins) → (wM s p).b t = p.b t := fun t e k ty xs pins k1 => by
  show (match lkB s.bx t with | none => none | some b => (p.b t).map (I6 b)) = _
  rw [k1, (h.bx t _ k1).1]; rfl
 have hreg : ∀ t q, pa ρ p.b t q → pa ρ (wM s p).b t q := fun t q k => by
  cases hl : lkB s.bx t with
  | none => exact k.less (.inl (by show (match lkB s.bx t with | none => none | some b => (p.b t).map (I6 b)) = _; rw [hl]))
  | some b =>
   have hc : (wM s p).b t = (p.b t).map (I6 b) := by show (match lkB s.bx t with | none => none | some b => (p.b t).map (I6 b)) = _; rw [hl]
   cases b with
   | st ty cs =>
    refine k.mono (fun e => by rw [hc, e]; rfl) (fun ty' qs e => ⟨⟨ty', _, by rw [hc, e]; rfl⟩, rfl⟩) (fun e k' es he => ⟨e, es, by rw [hc, he]; rfl, Nat.le_refl _, fun _ => rfl⟩)
   | rw e k' ty xs pins => exact k.same (hrw t e k' ty xs pins hl) rfl
 have hb : ∀ t Bx, (wM s p).b t = some Bx → ∃ b B0, lkB s.bx t = some b ∧ p.b t = some B0 ∧ Bx = I6 b B0 := fun t Bx k => by
  have k : (match lkB s.bx t with | none => none | some b => (p.b t).map (I6 b)) = some Bx := k
  cases hl : lkB s.bx t with
  | none => rw [hl] at k; cases k
  | some b =>
   rw [hl] at k
   rw [zm] at k
   obtain ⟨B0, k1, k2⟩ := k
   exact ⟨b, B0, rfl, k1, k2.symm⟩
 refine ⟨h1, h2, ρ, F, ⟨hi.ext, hi.f0, hi.flt, hi.fnew, fun t Bx k => ?_, fun t t' Bx Bx' g k1 k2 => ?_, fun t q hq => ⟨(hi.reg t q hq).1, hreg t q (hi.reg t q hq).2⟩⟩, fun i => Kz hst hrw (h.sl i) (hev i)⟩
 ·obtain ⟨b, B0, k1, k2, rfl⟩ := hb t Bx k
  have hbx := hi.box t B0 k2
  have hs := h.bx t b k1
  cases b with
  | st ty cs =>
   obtain ⟨qs, k3, k4⟩ := hs
   rw [k2] at k3
   injection k3 with k3
   subst k3
   cases hbx with
   | st _ _ g xs hρ hg hF hh hl h1x hr =>
    refine .st ty _ g xs hρ hg hF hh (by rw [fQ cs qs k4.len]; exact hl) h1x (fun j x r m1 m2 => ?_)
    obtain ⟨c, q, m3, m4, rfl⟩ := fR cs qs j r m2
    exact Kz hst hrw (k4.rep j c q m3 m4) (hr j x q m1 m4)
  | rw e k ty xs pins =>
   obtain ⟨k3, _⟩ := hs
   rw [k2] at k3
   injection k3 with k3
   subst k3
   cases hbx with
   | rw _ _ _ xs' hk0 ho hF hk hl hr hown => exact .rw _ _ _ xs' hk0 ho hF hk hl hr hown
   | gn _ _ _ hρ => exact .gn _ _ _ hρ
 ·obtain ⟨_, B1, _, m1, _⟩ := hb t Bx k1
  obtain ⟨_, B2, _, m2, _⟩ := hb t' Bx' k2
  exact hi.dist t t' B1 B2 g m1 m2
def Yi (t : Nat) (es : List (List D)) (p : PS) : PS := ⟨fun i => frz t es (p.t i), fun i => if i = t then none else (p.b i).map (z8 t es)⟩
theorem T2 {p : PS} (t : Nat) {e k : Nat} {es : List (List D)} (hb0 : p.b t = some (.rw e k es)) : Le p (Yi t es p) := by
 intro n w0 F0 a w ⟨h1, h2, ρ, F, hi, hev⟩
 have hb' : ∀ i, (Yi t es p).b i = if i = t then none else (p.b i).map (z8 t es) := fun i => rfl
 have hbt := (hi.box t _ hb0)
 refine ⟨h1, h2, ρ, fun g => F g ∨ blk (ρ t) = some g, ⟨hi.ext, fun g hg => .inl (hi.f0 g hg), ?_, ?_, fun t' B h => ?_, fun t1 t2 B1 B2 g k1 k2 hne => ?_, hi.reg_frz hb'⟩, fun i => (hev i).frz hi hb0 hb'⟩
 ·rintro g (hg | hg)
  ·exact hi.flt g hg
  ·exact (hbt.lt hg).1
 ·rintro g (hg | hg)
  ·exact hi.fnew g hg
  ·exact .inr (hbt.lt hg).2.1
 ·rw [hb'] at h
  split at h
  ·cases h
  ·rename_i ht
   rw [zm] at h
   obtain ⟨B0, hB0, rfl⟩ := h
   have hnF : ∀ g, blk (ρ t') = some g → ¬ (F g ∨ blk (ρ t) = some g) := by
    rintro g hg (h | h)
    ·exact ((hi.box t' B0 hB0).lt hg).2.2 h
    ·exact hi.dist t' t B0 _ g hB0 hb0 ht hg h
   cases hi.box t' B0 hB0 with
   | st ty cs g xs hρ hg hF hh hl h1 hr =>
    refine .st ty _ g xs hρ hg (hnF g (by rw [hρ]; rfl)) hh (by rw [gN]; exact hl) h1 (fun j x c k1 k2 => ?_)
    obtain ⟨d, h4, rfl⟩ := gO t es cs j c k2
    exact (hr j x d k1 h4).frz hi hb0 hb'
   | rw e' k' es' xs hk0 ho hF hk hl hr hown => exact .rw e' k' es' xs hk0 ho hnF hk hl (fun j x d k1 k2 => (hr j x d k1 k2).mono (fun g h => .inl h) (fun _ _ => rfl)) hown
   | gn e' k' es' hρ => exact .gn e' k' es' hρ
 ·rw [hb'] at k1 k2
  split at k1
  ·cases k1
  ·split at k2
   ·cases k2
   ·rw [zm] at k1 k2
    obtain ⟨B1', k1, _⟩ := k1
    obtain ⟨B2', k2, _⟩ := k2
    exact hi.dist t1 t2 B1' B2' g k1 k2 hne
def Ug (t : Nat) (c : SD) : aW → aW
 | .st ty cs => .st ty (nu t c cs)
 | b => b
theorem kR (t : Nat) (c : SD) : ∀ (l : List (Nat × Option aW)) (i : Nat), lkB (qQ t c l) i = (lkB l i).map (Ug t c)
 | [], _ => rfl
 | (j, none) :: l, i => by simp only [qQ, au, kR t c l i]; split <;> rfl
 | (j, some (.st ty cs)) :: l, i => by simp only [qQ, au, kR t c l i]; split <;> rfl
 | (j, some (.rw e k ty xs pins)) :: l, i => by simp only [qQ, au, kR t c l i]; split <;> rfl
theorem Cz (t : Nat) (c : SD) : ∀ (l : List (Nat × SV)) (i : Nat), lkV (DY t c l) i = tD t c (lkV l i)
 | [], _ => rfl
 | (j, v) :: l, i => by simp only [DY, cV, Cz t c l i]; split <;> rfl
theorem my (t : Nat) (c : SD) : ∀ (cs : List SV) (j : Nat), (nu t c cs)[j]? = (cs[j]?).map (tD t c)
 | [], j => by simp [nu]
 | v :: cs, 0 => by simp [nu]
 | v :: cs, j + 1 => by simpa [nu] using my t c cs j
theorem kq (t : Nat) (c : SD) : ∀ cs : List SV, (nu t c cs).length = cs.length
 | [] => rfl
 | v :: cs => by simp [nu, kq t c cs]
theorem a8.frz {B B' : List (Nat × Option aW)} {t e k : Nat} {ty : Ty} {xs : List ty.den} {pins : List (Nat × Pin)} (ht : lkB B t = some (.rw e k ty xs pins)) (hB : S9 t B B') {v : SV} {q : PV} (h : a8 B v q) : a8 B' (tD t (.sl ty xs) v) (Go.Proofs.YtchddofjajgopaaGreat.frz t (xs.map (bJ ty)) q) := by
 induction h with
 | junk q => exact .junk _
 | d c y h => exact .d c y h
 | ag cs qs hl hr ih =>
  refine .ag _ _ (by rw [kq, gN]; exact hl) (fun j c r h1 h2 => ?_)
  rw [my, zm] at h1
  obtain ⟨c', h3, rfl⟩ := h1
  obtain ⟨q', h4, rfl⟩ := gO _ _ qs j r h2
  exact ih j c' q' h3 h4
 | tup cs qs hl hr ih =>
  refine .tup _ _ (by rw [kq, gN]; exact hl) (fun j c r h1 h2 => ?_)
  rw [my, zm] at h1
  obtain ⟨c', h3, rfl⟩ := h1
  obtain ⟨q', h4, rfl⟩ := gO _ _ qs j r h2
  exact ih j c' q' h3 h4
 | ptr t' o ty2 cs hb => obtain ⟨ty', cs', h1⟩ := hB.st t' ty2 cs hb; exact .ptr t' o ty' cs' h1
 | row t' n e2 k2 ty2 xs2 pins2 hb hn =>
  simp only [tD, Go.Proofs.YtchddofjajgopaaGreat.frz, cW]
  by_cases h : t' = t
  ·subst h
   rw [ht] at hb
   injection hb with hb
   injection hb with e1 e2 e3 e4 e5
   subst e3
   have e4 := eq_of_heq e4
   subst e4
   simp only [decide_true, if_true, List.length_map, hn]
   exact MP ty xs
  ·simp only [h, decide_false, if_false]
   exact .row t' n e2 k2 ty2 xs2 pins2 (hB.rw t' h _ _ _ _ _ hb) hn
 | re t' p o n i e2 k2 ty2 xs2 pins2 pin hb hn hp hi =>
  simp only [tD, Go.Proofs.YtchddofjajgopaaGreat.frz, cW]
  by_cases h : t' = t
  ·simp only [h, decide_true]; exact .junk _
  ·simp only [h, decide_false, if_false]
   exact .re t' p o n i e2 k2 ty2 xs2 pins2 pin (hB.rw t' h _ _ _ _ _ hb) hn hp hi
 | vw t' lo hi n e2 k2 ty2 xs2 pins2 hb hn=>
  simp only [tD, Go.Proofs.YtchddofjajgopaaGreat.frz, cW]
  by_cases h : t' = t
  ·simp only [h, decide_true]; exact .junk _
  ·simp only [h, decide_false, if_false]
   exact .vw t' lo hi n e2 k2 ty2 xs2 pins2 (hB.rw t' h _ _ _ _ _ hb) hn
 | fe cs ds h hn => exact .fe cs ds h hn
 | fn f ps qs ps' qs' hl hr hl2 hr2 ih ih2 =>
  refine .fn f _ _ _ _ (by rw [kq, gN]; exact hl) (fun j c r h1 h2 => ?_) (by rw [kq, gN]; exact hl2) (fun j c r h1 h2 => ?_)
  ·rw [my, zm] at h1
   obtain ⟨c', h3, rfl⟩ := h1
   obtain ⟨q', h4, rfl⟩ := gO _ _ ps' j r h2
   exact ih j c' q' h3 h4
  ·rw [my, zm] at h1
   obtain ⟨c', h3, rfl⟩ := h1
   obtain ⟨q', h4, rfl⟩ := gO _ _ qs' j r h2
   exact ih2 j c' q' h3 h4
mutual
theorem KZ {pr : List Nat} {t : Nat} {c : SD} (ht : aA pr t = false) : ∀ v : SV, kL pr v = true → tD t c v = v
 | .junk, _ => rfl
 | .d _, _ => rfl
 | .fe _, _ => rfl
 | .ptr _ _, _ => rfl
 | .row t', h => by
  have := Ds ht (show aA pr t' = true from h)
  simp only [tD, cW, this, decide_false]
 | .re _ _ _, h => by cases h
 | .vw _ _ _, h => by cases h
 | .ag cs, h => by simp only [tD]; rw [qP ht cs h]
 | .tup cs, h => by simp only [tD]; rw [qP ht cs h]
 | .fn f ps qs, h => by
  have h : (dX pr ps && dX pr qs) = true := h
  rw [Bool.and_eq_true] at h
  simp only [tD]; rw [qP ht ps h.1, qP ht qs h.2]
theorem qP {pr : List Nat} {t : Nat} {c : SD} (ht : aA pr t = false) : ∀ cs : List SV, dX pr cs = true → nu t c cs = cs
 | [], _ => rfl
 | v :: cs, h => by
  simp only [dX, Bool.and_eq_true] at h
  simp only [nu]
  rw [KZ ht v h.1, qP ht cs h.2]
end
mutual
theorem RB {t : Nat} {c : SD} : ∀ v : SV, oU v = true → tD t c v = v
 | .junk, _ => rfl
 | .d _, _ => rfl
 | .fe _, _ => rfl
 | .ptr _ _, _ => rfl
 | .row _, h => by cases h
 | .re _ _ _, h => by cases h
 | .vw _ _ _, h => by cases h
 | .ag cs, h => by simp only [tD]; rw [mw cs h]
 | .tup cs, h => by simp only [tD]; rw [mw cs h]
 | .fn f ps qs, h => by
  have h : (match cC ps with | true => cC qs | false => false) = true := h
  split at h
  ·rename_i h1; simp only [tD]; rw [mw ps h1, mw qs h]
  ·cases h
theorem mw {t : Nat} {c : SD} : ∀ cs : List SV, cC cs = true → nu t c cs = cs
 | [], _ => rfl
 | v :: cs, h => by
  simp only [cC] at h
  split at h
  ·rename_i h1
   simp only [nu]
   rw [RB v h1, mw cs h]
  ·cases h
end
theorem Qf {sc : List Nat} {s s' : SS} {p : PS} {t : Nat} (hpr : lO s) (hs : gD s p) (h : Nx t s = some s') : ∃ p', Le p p' ∧ gD s' p' ∧ ∀ W, dD sc W s s' := by
 unfold Nx at h
 split at h
 ·rename_i e k ty xs pins hb
  split at h
  ·rename_i ht
   injection h with h
   subst h
   have hpb : p.b t = some (.rw e k (xs.map (bJ ty))) := (hs.bx t _ hb).1
   have hX : S9 t s.bx ((t, none) :: qQ t (.sl ty xs) s.bx) := by
    refine ⟨fun t' ht' e2 k2 ty2 xs2 pins2 h => ?_, fun t' ty2 cs2 h => ?_⟩
    ·rw [au, if_neg ht', kR, h]; rfl
    ·have : ¬ t' = t := fun e => by rw [e, hb] at h; cases h
     rw [au, if_neg this, kR, h]
     exact ⟨_, _, rfl⟩
   refine ⟨_, T2 t hpb, ⟨fun i => ?_, fun t' b h => ?_⟩, fun W => ⟨rfl, rfl, fun t' ht' => ?_, fun i _ hsf => ?_, fun t' _ ty2 cs2 h => ?_⟩⟩
   ·show a8 _ (lkV (DY t (.sl ty xs) s.sl) i) (frz t (xs.map (bJ ty)) (p.t i))
    rw [Cz]
    exact (hs.sl i).frz hb hX
   ·have h : lkB ((t, none) :: qQ t (.sl ty xs) s.bx) t' = some b := h
    rw [au] at h
    split at h
    ·cases h
    ·rename_i hne
     rw [kR, zm] at h
     obtain ⟨b0, h1, rfl⟩ := h
     have h2 := hs.bx t' b0 h1
     show lU _ true (some (Ug t (.sl ty xs) b0)) (if t' = t then none else (p.b t').map (z8 t (xs.map (bJ ty))))
     rw [if_neg hne]
     cases b0 with
     | st ty2 cs =>
      obtain ⟨qs, h3, h4⟩ := h2
      rw [h3]
      refine ⟨_, rfl, by rw [kq, gN]; exact h4.len, fun j c r k1 k2 => ?_⟩
      rw [my, zm] at k1
      obtain ⟨c', k3, rfl⟩ := k1
      obtain ⟨q', k4, rfl⟩ := gO _ _ qs j r k2
      exact (h4.rep j c' q' k3 k4).frz hb hX
     | rw e2 k2 ty2 xs2 pins2 =>
      obtain ⟨h3, h4⟩ := h2
      rw [h3]
      exact ⟨rfl, h4⟩
   ·show kv _ (lkB ((t, none) :: qQ t (.sl ty xs) s.bx) t')
    rw [au, if_neg (fun e => by rw [e, ht] at ht'; cases ht'), kR]
    obtain ⟨b', h1, h2⟩ := hpr t' ht'
    rw [h1]
    cases b' with
    | st ty2 cs => simp only [Option.map_some, Ug]; rw [mw cs h2]; rfl
    | rw e2 k2 ty2 xs2 pins2 => exact ⟨pins2, rfl⟩
   ·show lkV (DY t (.sl ty xs) s.sl) i = _
    rw [Cz]
    exact KZ ht _ hsf
   ·show ∃ cs', lkB ((t, none) :: qQ t (.sl ty xs) s.bx) t' = _ ∧ _
    rw [au, if_neg (fun e => by rw [e, hb] at h; cases h), kR, h]
    exact ⟨_, rfl, kq _ _ cs2⟩
  ·injection h with h
   subst h
   exact ⟨p, .refl p, hs, fun W => .refl W s⟩
 ·injection h with h
  subst h
  exact ⟨p, .refl p, hs, fun W => .refl W s⟩
theorem Uf {sc : List Nat} {s s' : SS} {p : PS} {t : Nat} (hpr : lO s) (hs : Sim s p) (h : Nx t s = some s') : ∃ p', Le p p' ∧ Sim s' p' ∧ (∀ W, dD sc W s s') ∧ s'.oc = s.oc := by
 unfold Nx at h
 split at h
 ·rename_i e k ty xs pins hb
  split at h
  ·rename_i ht
   have h0 : Nx t s = some s' := by unfold Nx; rw [hb]; simp only; rw [ht]; exact h
   injection h with h
   have hpb : p.b t = some (.rw e k (xs.map (bJ ty))) := by have := hs.bx t; rw [hb] at this; exact this.1
   obtain ⟨p2, k1, k2, k3⟩ := Qf (sc := sc) hpr hs.w h0
   have hX : S9 t s.bx ((t, none) :: qQ t (.sl ty xs) s.bx) := by
    refine ⟨fun t' ht' e2 k2 ty2 xs2 pins2 h => ?_, fun t' ty2 cs2 h => ?_⟩
    ·rw [au, if_neg ht', kR, h]; rfl
    ·have : ¬ t' = t := fun e => by rw [e, hb] at h; cases h
     rw [au, if_neg this, kR, h]
     exact ⟨_, _, rfl⟩
   subst h
   refine ⟨_, T2 t hpb, ⟨fun i => ?_, fun t' => ?_⟩, k3, rfl⟩
   ·show a8 _ (lkV (DY t (.sl ty xs) s.sl) i) (frz t (xs.map (bJ ty)) (p.t i))
    rw [Cz]
    exact (hs.sl i).frz hb hX
   ·show lU _ (aA s.oc t') (lkB ((t, none) :: qQ t (.sl ty xs) s.bx) t') (if t' = t then none else (p.b t').map (z8 t (xs.map (bJ ty))))
    rw [au]
    by_cases hne : t' = t
    ·rw [if_pos hne, if_pos hne]; exact fun _ => rfl
    ·rw [if_neg hne, if_neg hne, kR]
     have h2 := hs.bx t'
     cases hl : lkB s.bx t' with
     | none => rw [hl] at h2; exact fun ho => by rw [h2 ho]; rfl
     | some b0 =>
      rw [hl] at h2
      cases b0 with
      | st ty2 cs =>
       obtain ⟨qs, h3, h4⟩ := h2
       rw [h3]
       refine ⟨_, rfl, by rw [kq, gN]; exact h4.len, fun j c r k1 k2 => ?_⟩
       rw [my, zm] at k1
       obtain ⟨c', k3, rfl⟩ := k1
       obtain ⟨q', k4, rfl⟩ := gO _ _ qs j r k2
       exact (h4.rep j c' q' k3 k4).frz hb hX
      | rw e2 k2 ty2 xs2 pins2 =>
       obtain ⟨h3, h4⟩ := h2
       rw [h3]
       exact ⟨rfl, h4⟩
  ·injection h with h
   subst h
   exact ⟨p, .refl p, hs, fun W => .refl W s, rfl⟩
 ·injection h with h
  subst h
  exact ⟨p, .refl p, hs, fun W => .refl W s, rfl⟩
theorem wF {sc : List Nat} : ∀ {l : List Nat} {s s' : SS} {p : PS}, lO s → Sim s p → kU l s = some s' → ∃ p', Le p p' ∧ Sim s' p' ∧ (∀ W, dD sc W s s') ∧ s'.oc = s.oc
 | [], s, s', p, _, hs, h => by injection h with h; subst h; exact ⟨p, .refl p, hs, fun W => .refl W s, rfl⟩
 | t :: l, s, s', p, hpr, hs, h => by
  simp only [kU] at h
  split at h
  ·rename_i s1 h1
   obtain ⟨p1, k1, k2, k3, k4⟩ := Uf (sc := sc) hpr hs h1
   obtain ⟨p2, m1, m2, m3, m4⟩ := wF (sc := sc) ((k3 []).prOk hpr) k2 h
   exact ⟨p2, k1.trans m1, m2, fun W => (k3 W).trans (m3 W), m4.trans k4⟩
  ·cases h
theorem qR {sc : List Nat} : ∀ {l : List Nat} {s s' : SS} {p : PS}, lO s → gD s p → kU l s = some s' → ∃ p', Le p p' ∧ gD s' p' ∧ ∀ W, dD sc W s s'
 | [], s, s', p, _, hs, h => by injection h with h; subst h; exact ⟨p, .refl p, hs, fun W => .refl W s⟩
 | t :: l, s, s', p, hpr, hs, h => by
  simp only [kU] at h
  split at h
  ·rename_i s1 h1
   obtain ⟨p1, k1, k2, k3⟩ := Qf hpr hs h1
   obtain ⟨p2, k4, k5, k6⟩ := qR ((k3 []).prOk hpr) k2 h
   exact ⟨p2, k1.trans k4, k5, fun W => (k3 W).trans (k6 W)⟩
  ·cases h
mutual
def fzp (t : Nat) (ds : List D) : PV → PV
 | .ptr t' o => if t' = t then .fe (ds.drop o) else .ptr t' o
 | .ag cs => .ag (DV t ds cs)
 | .tup cs => .tup (DV t ds cs)
 | .fn f ps qs => .fn f (DV t ds ps) (DV t ds qs)
 | p => p
def DV (t : Nat) (ds : List D) : List PV → List PV
 | [] => []
 | c :: cs => fzp t ds c :: DV t ds cs
end
def DW (t : Nat) (ds : List D) : Box → Box
 | .st ty cs => .st ty (DV t ds cs)
 | B => B
def Yh (t : Nat) (ds : List D) (p : PS) : PS := ⟨fun i => fzp t ds (p.t i), fun i => if i = t then none else (p.b i).map (DW t ds)⟩
theorem iI (t : Nat) (ds : List D) : ∀ cs : List PV, (DV t ds cs).length = cs.length
 | [] => rfl
 | c :: cs => by simp [DV, iI t ds cs]
theorem iJ (t : Nat) (ds : List D) : ∀ (cs : List PV) (j : Nat) (c : PV), (DV t ds cs)[j]? = some c → ∃ d, cs[j]? = some d ∧ c = fzp t ds d
 | [], j, c, h => by simp [DV] at h
 | d :: cs, j, c, h => by
  simp only [DV] at h
  cases j with
  | zero => simp at h; exact ⟨d, rfl, h.symm⟩
  | succ j => simp at h; simpa using iJ t ds cs j c h
section
variable {ρ : Nat → Value} {b b' : Nat → Option Box} {w : World} {F F0 : Nat → Prop} {w0 : WM}
theorem aL.fzp {x : Value} {p : PV} {t : Nat} {ty : TypeId} {cs : List PV} {ds : List D} (hi : Inv w0 F0 ρ b w F) (hb : b t = some (.st ty cs)) (hl : ds.length = cs.length) (hc : ∀ (j : Nat) d, ds[j]? = some d → ∃ y, cs[j]? = some (.d y) ∧ nrm y = d) (hb' : ∀ i, b' i = if i = t then none else (b i).map (DW t ds)) (h : aL ρ b w F x p) :
  aL ρ b' w (fun g => F g ∨ blk (ρ t) = some g) x (Go.Proofs.YtchddofjajgopaaGreat.fzp t ds p) := by
 have hF : ∀ g, F g → (F g ∨ blk (ρ t) = some g) := fun g h => .inl h
 induction h with
 | junk x => exact .junk x
 | d x d h => exact .d x d (h.mono hF (fun _ _ => rfl))
 | ag xs cs hl h1 hr ih =>
  refine .ag xs _ (by rw [iI]; exact hl) h1 (fun j x c h2 h3 => ?_)
  obtain ⟨d, h4, rfl⟩ := iJ t ds cs j c h3
  exact ih j x d h2 h4
 | tup xs cs hl hr ih =>
  refine .tup xs _ (by rw [iI]; exact hl) (fun j x c h2 h3 => ?_)
  obtain ⟨d, h4, rfl⟩ := iJ t ds cs j c h3
  exact ih j x d h2 h4
 | fn f xs ys ps qs hl hr hl2 hr2 ih ih2 =>
  refine .fn f xs ys _ _ (by rw [iI]; exact hl) (fun j x c h2 h3 => ?_) (by rw [iI]; exact hl2) (fun j x c h2 h3 => ?_)
  ·obtain ⟨d, h4, rfl⟩ := iJ t ds ps j c h3
   exact ih j x d h2 h4
  ·obtain ⟨d, h4, rfl⟩ := iJ t ds qs j c h3
   exact ih2 j x d h2 h4
 | row t' m A cc e' k' es' hb2 hn hcc hA hρ =>
  have : t' ≠ t := fun e => by rw [e, hb] at hb2; cases hb2
  exact .row t' m A cc e' k' es' (by rw [hb', if_neg this, hb2]; rfl) hn hcc hA hρ
 | re t' m i o a e' k' es' hb2 hn hi' hρ =>
  have : t' ≠ t := fun e => by rw [e, hb] at hb2; cases hb2
  exact .re t' m i o a e' k' es' (by rw [hb', if_neg this, hb2]; rfl) hn hi' hρ
 | vw t' m lo hi' A mm cc e' k' es' hb2 hn hl hh hm hρ=>
  have : t' ≠ t := fun e => by rw [e, hb] at hb2; cases hb2
  exact .vw t' m lo hi' A mm cc e' k' es' (by rw [hb', if_neg this, hb2]; rfl) hn hl hh hm hρ
 | fe a cs us hF' hcell hrep => exact .fe a cs us (.inl hF') hcell (fun j d h => (hrep j d h).mono hF (fun _ _ => rfl))
 | ptr t' off g ty' cs' hb2 hρ =>
  simp only [Go.Proofs.YtchddofjajgopaaGreat.fzp]
  by_cases ht : t' = t
  ·subst ht
   rw [if_pos rfl]
   cases hi.box t' _ hb with
   | st _ _ g' xs hρ' hg hFg hh hlx h1 hr =>
    rw [hρ] at hρ'
    injection hρ' with e
    injection e with e
    injection e with e
    subst e
    have key : ∀ (j : Nat) d, (ds.drop off)[j]? = some d → ∃ u, w.cell? ⟨g, off + j, none⟩ = some u ∧ ec w F u d := fun j d hj => by
     rw [List.getElem?_drop] at hj
     obtain ⟨y, k1, k2⟩ := hc _ d hj
     have hlt : off + j < xs.size := by rw [hlx, ← hl]; exact (zg.1 hj).1
     have k3 := hr (off + j) xs[off + j] _ (by simp [hlt]) k1
     refine ⟨xs[off + j], by rw [cell_of_row w g (off + j) xs ty (0, 0) hh]; simp [hlt], ?_⟩
     rw [← k2]
     exact k3.dd.nrm
    refine .fe _ _ (fun j => (w.cell? ⟨g, off + j, none⟩).getD undef) (.inr (by rw [hρ]; rfl)) (fun j d hj => ?_) (fun j d hj => ?_)
    ·obtain ⟨u, k1, _⟩ := key j d hj
     rw [qm, k1]; rfl
    ·obtain ⟨u, k1, k2⟩ := key j d hj
     rw [k1]
     exact k2.mono hF (fun _ _ => rfl)
  ·rw [if_neg ht]
   exact .ptr t' off g ty' _ (by rw [hb', if_neg ht, hb2]; rfl) hρ
end
theorem Inv.reg_fzp {ρ : Nat → Value} {b b' : Nat → Option Box} {w : World} {w0 : WM} {F F0 : Nat → Prop} {t : Nat} {ds : List D} (hi : Inv w0 F0 ρ b w F) (hb' : ∀ i, b' i = if i = t then none else (b i).map (DW t ds)) : ∀ i q, w0.R i = some q → 1000000 ≤ i ∧ pa ρ b' i q := by
 intro i q h
 obtain ⟨h1, h2⟩ := hi.reg i q h
 refine ⟨h1, ?_⟩
 by_cases hit : i = t
 ·exact h2.less (.inl (by rw [hb', if_pos hit]))
 ·refine h2.mono (fun e => by rw [hb', if_neg hit, e]; rfl) (fun ty cs e => ⟨⟨ty, _, by rw [hb', if_neg hit, e]; rfl⟩, rfl⟩) (fun e k es' he => ⟨e, es', by rw [hb', if_neg hit, he]; rfl, Nat.le_refl _, fun _ => rfl⟩)
theorem Xx {p : PS} (t : Nat) {ty : TypeId} {cs : List PV} {ds : List D} (hb0 : p.b t = some (.st ty cs)) (hl : ds.length = cs.length) (hc : ∀ (j : Nat) d, ds[j]? = some d → ∃ y, cs[j]? = some (.d y) ∧ nrm y = d) : Le p (Yh t ds p) := by
 intro n w0 F0 a w ⟨h1, h2, ρ, F, hi, hev⟩
 have hb' : ∀ i, (Yh t ds p).b i = if i = t then none else (p.b i).map (DW t ds) := fun i => rfl
 have hbt := (hi.box t _ hb0)
 refine ⟨h1, h2, ρ, fun g => F g ∨ blk (ρ t) = some g, ⟨hi.ext, fun g hg => .inl (hi.f0 g hg), ?_, ?_, fun t' B h => ?_, fun t1 t2 B1 B2 g k1 k2 hne => ?_, hi.reg_fzp hb'⟩, fun i => (hev i).fzp hi hb0 hl hc hb'⟩
 ·rintro g (hg | hg)
  ·exact hi.flt g hg
  ·exact (hbt.lt hg).1
 ·rintro g (hg | hg)
  ·exact hi.fnew g hg
  ·exact .inr (hbt.lt hg).2.1
 ·rw [hb'] at h
  split at h
  ·cases h
  ·rename_i ht
   rw [zm] at h
   obtain ⟨B0, hB0, rfl⟩ := h
   have hnF : ∀ g, blk (ρ t') = some g → ¬ (F g ∨ blk (ρ t) = some g) := by
    rintro g hg (h | h)
    ·exact ((hi.box t' B0 hB0).lt hg).2.2 h
    ·exact hi.dist t' t B0 _ g hB0 hb0 ht hg h
   cases hi.box t' B0 hB0 with
   | st ty cs g xs hρ hg hF hh hl2 h1 hr =>
    refine .st ty _ g xs hρ hg (hnF g (by rw [hρ]; rfl)) hh (by rw [iI]; exact hl2) h1 (fun j x c k1 k2 => ?_)
    obtain ⟨d, h4, rfl⟩ := iJ t ds cs j c k2
    exact (hr j x d k1 h4).fzp hi hb0 hl hc hb'
   | rw e' k' es' xs hk0 ho hF hk hl hr hown => exact .rw e' k' es' xs hk0 ho hnF hk hl (fun j x d k1 k2 => (hr j x d k1 k2).mono (fun g h => .inl h) (fun _ _ => rfl)) hown
   | gn e' k' es' hρ => exact .gn e' k' es' hρ
 ·rw [hb'] at k1 k2
  split at k1
  ·cases k1
  ·split at k2
   ·cases k2
   ·rw [zm] at k1 k2
    obtain ⟨B1', k1, _⟩ := k1
    obtain ⟨B2', k2, _⟩ := k2
    exact hi.dist t1 t2 B1' B2' g k1 k2 hne
def Qg (t : Nat) (c : List SD) : aW → aW
 | .st ty cs => .st ty (oZ t c cs)
 | b => b
theorem ob (t : Nat) (c : List SD) : ∀ (l : List (Nat × Option aW)) (i : Nat), lkB (qS t c l) i = (lkB l i).map (Qg t c)
 | [], _ => rfl
 | (j, none) :: l, i => by simp only [qS, au, ob t c l i]; split <;> rfl
 | (j, some (.st ty cs)) :: l, i => by simp only [qS, au, ob t c l i]; split <;> rfl
 | (j, some (.rw e k ty xs pins)) :: l, i => by simp only [qS, au, ob t c l i]; split <;> rfl
theorem II (t : Nat) (c : List SD) : ∀ (l : List (Nat × SV)) (i : Nat), lkV (DZ t c l) i = wG t c (lkV l i)
 | [], _ => rfl
 | (j, v) :: l, i => by simp only [DZ, cV, II t c l i]; split <;> rfl
theorem ic (t : Nat) (c : List SD) : ∀ (cs : List SV) (j : Nat), (oZ t c cs)[j]? = (cs[j]?).map (wG t c)
 | [], j => by simp [oZ]
 | v :: cs, 0 => by simp [oZ]
 | v :: cs, j + 1 => by simpa [oZ] using ic t c cs j
theorem fL (t : Nat) (c : List SD) : ∀ cs : List SV, (oZ t c cs).length = cs.length
 | [] => rfl
 | v :: cs => by simp [oZ, fL t c cs]
structure YA (t : Nat) (B B' : List (Nat × Option aW)) : Prop where
 rw : ∀ t' e k ty xs pins, lkB B t' = some (.rw e k ty xs pins) → lkB B' t' = some (.rw e k ty xs pins)
 st : ∀ t', t' ≠ t → ∀ ty cs, lkB B t' = some (.st ty cs) → ∃ ty' cs', lkB B' t' = some (.st ty' cs')
theorem a8.frp {B B' : List (Nat × Option aW)} {t : Nat} {ds : List SD} (hn : ∀ c ∈ ds, c ≠ .nl) (hB : YA t B B') {v : SV} {q : PV} (h : a8 B v q) : a8 B' (wG t ds v) (fzp t (ds.map SD.toD) q) := by
 induction h with
 | junk q => exact .junk _
 | d c y h => exact .d c y h
 | ag cs qs hl hr ih =>
  refine .ag _ _ (by rw [fL, iI]; exact hl) (fun j c r h1 h2 => ?_)
  rw [ic, zm] at h1
  obtain ⟨c', h3, rfl⟩ := h1
  obtain ⟨q', h4, rfl⟩ := iJ _ _ qs j r h2
  exact ih j c' q' h3 h4
 | tup cs qs hl hr ih =>
  refine .tup _ _ (by rw [fL, iI]; exact hl) (fun j c r h1 h2 => ?_)
  rw [ic, zm] at h1
  obtain ⟨c', h3, rfl⟩ := h1
  obtain ⟨q', h4, rfl⟩ := iJ _ _ qs j r h2
  exact ih j c' q' h3 h4
 | fn f ps qs ps' qs' hl hr hl2 hr2 ih ih2 =>
  refine .fn f _ _ _ _ (by rw [fL, iI]; exact hl) (fun j c r h1 h2 => ?_) (by rw [fL, iI]; exact hl2) (fun j c r h1 h2 => ?_)
  ·rw [ic, zm] at h1
   obtain ⟨c', h3, rfl⟩ := h1
   obtain ⟨q', h4, rfl⟩ := iJ _ _ ps' j r h2
   exact ih j c' q' h3 h4
  ·rw [ic, zm] at h1
   obtain ⟨c', h3, rfl⟩ := h1
   obtain ⟨q', h4, rfl⟩ := iJ _ _ qs' j r h2
   exact ih2 j c' q' h3 h4
 | ptr t' o ty2 cs hb =>
  simp only [wG, fzp, cW]
  by_cases h : t' = t
  ·simp only [h, decide_true, if_true]
   exact .fe _ _ (by rw [List.map_drop]) (fun c hc => hn c (List.mem_of_mem_drop hc))
  ·simp only [h, decide_false, if_false]
   obtain ⟨ty', cs', h1⟩ := hB.st t' h ty2 cs hb
   exact .ptr t' o ty' cs' h1
 | row t' n e2 k2 ty2 xs2 pins2 hb hn => exact .row t' n e2 k2 ty2 xs2 pins2 (hB.rw t' _ _ _ _ _ hb) hn
 | re t' p o n i e2 k2 ty2 xs2 pins2 pin hb hn hp hi => exact .re t' p o n i e2 k2 ty2 xs2 pins2 pin (hB.rw t' _ _ _ _ _ hb) hn hp hi
 | vw t' lo hi n e2 k2 ty2 xs2 pins2 hb hn => exact .vw t' lo hi n e2 k2 ty2 xs2 pins2 (hB.rw t' _ _ _ _ _ hb) hn
 | fe cs ds h hn => exact .fe cs ds h hn
theorem uJ {cs cs' : List SV} (hl : cs'.length = cs.length) (h : ∀ (j : Nat) c, cs[j]? = some c → cs'[j]? = some c) : cs' = cs := by
 apply List.ext_getElem?
 intro j
 cases hj : cs[j]? with
 | none => rw [List.getElem?_eq_none_iff] at hj ⊢; omega
 | some c => exact h j c hj
theorem V8 {B : List (Nat × Option aW)} {t : Nat} {ds : List SD} (ht : lkB B t = none) {v : SV} {q : PV} (h : a8 B v q) : wG t ds v = v := by
 induction h with
 | ag cs qs hl hr ih =>
  simp only [wG]
  rw [uJ (fL _ _ _) fun j c hj => ?_]
  rw [ic, hj, Option.map_some, ih j c (qs[j]'(by rw [← hl]; exact (zg.1 hj).1)) hj (by simp)]
 | tup cs qs hl hr ih =>
  simp only [wG]
  rw [uJ (fL _ _ _) fun j c hj => ?_]
  rw [ic, hj, Option.map_some, ih j c (qs[j]'(by rw [← hl]; exact (zg.1 hj).1)) hj (by simp)]
 | fn f ps qs ps' qs' hl hr hl2 hr2 ih ih2 =>
  simp only [wG]
  rw [uJ (cs := ps) (fL _ _ _) fun j c hj => ?_, uJ (cs := qs) (fL _ _ _) fun j c hj => ?_]
  ·rw [ic, hj, Option.map_some, ih2 j c (qs'[j]'(by rw [← hl2]; exact (zg.1 hj).1)) hj (by simp)]
  ·rw [ic, hj, Option.map_some, ih j c (ps'[j]'(by rw [← hl]; exact (zg.1 hj).1)) hj (by simp)]
 | ptr t' o ty cs hb =>
  have : ¬ t' = t := fun e => by rw [e, ht] at hb; cases hb
  simp only [wG, cW, this, decide_false]
 | _ => rfl
mutual
theorem RC {t : Nat} {c : List SD} : ∀ v : SV, oU v = true → wG t c v = v
 | .junk, _ => rfl
 | .d _, _ => rfl
 | .fe _, _ => rfl
 | .ptr _ _, h => by cases h
 | .row _, h => by cases h
 | .re _ _ _, h => by cases h
 | .vw _ _ _, h => by cases h
 | .ag cs, h => by simp only [wG]; rw [jZ cs h]
 | .tup cs, h => by simp only [wG]; rw [jZ cs h]
 | .fn f ps qs, h => by
  have h : (match cC ps with | true => cC qs | false => false) = true := h
  split at h
  ·rename_i h1; simp only [wG]; rw [jZ ps h1, jZ qs h]
  ·cases h
theorem jZ {t : Nat} {c : List SD} : ∀ cs : List SV, cC cs = true → oZ t c cs = cs
 | [], _ => rfl
 | v :: cs, h => by
  simp only [cC] at h
  split at h
  ·rename_i h1
   simp only [oZ]
   rw [RC v h1, jZ cs h]
  ·cases h
end
theorem GA : ∀ {ds : List SD}, Xt ds = true → ∀ c ∈ ds, c ≠ .nl
 | [], _, c, h => by cases h
 | d :: ds, h, c, hc => by
  rcases List.mem_cons.1 hc with rfl | hc'
  ·intro e; subst e; cases h
  ·cases d with
   | nl => cases h
   | _ => exact GA (ds := ds) h c hc'
theorem Da : ∀ {cs : List SV} {ds : List SD}, sE cs = some ds → cs.length = ds.length ∧ ∀ (j : Nat) d, ds[j]? = some d → cs[j]? = some (.d d)
 | [], ds, h => by injection h with h; subst h; exact ⟨rfl, fun j d hj => by simp at hj⟩
 | v :: cs, ds, h => by
  simp only [sE] at h
  split at h
  ·rename_i c l hc hl
   injection h with h
   subst h
   obtain ⟨h1, h2⟩ := Da hl
   refine ⟨by simp [h1], fun j d hj => ?_⟩
   cases j with
   | zero =>
    simp at hj
    subst hj
    cases v <;> simp [Xk] at hc
    subst hc
    rfl
   | succ j => simp at hj; simpa using h2 j d hj
  ·cases h
theorem XE {sc W : List Nat} {s0 s s' : SS} {p0 p : PS} {t : Nat} (hpr : lO s) (h0 : gD s0 p0) (hnew : lkB s0.bx t = none) (hk : dD sc W s0 s) (hs : gD s p) (h : fbX sc t s = some s') : ∃ p', Le p p' ∧ gD s' p' ∧ dD sc W s0 s' ∧ lO s' := by
 unfold fbX at h
 split at h
 ·rename_i ty cs hb
  split at h
  ·rename_i ds hds
   obtain ⟨h1, h2⟩ := an h
   injection h2 with h2
   subst h2
   rw [Bool.and_eq_true, Bool.and_eq_true] at h1
   obtain ⟨h1, h3, h4⟩ := h1
   have h3 : aA s.pr t = false := by simpa using h3
   have h4 : aA sc t = false := by simpa using h4
   have hnl := GA h1
   obtain ⟨hlen, hget⟩ := Da hds
   obtain ⟨qs, hq, hqs⟩ := hs.bx t _ hb
   have hc : ∀ (j : Nat) d, (ds.map SD.toD)[j]? = some d → ∃ y, qs[j]? = some (.d y) ∧ nrm y = d := fun j d hj => by
    rw [List.getElem?_map, zm] at hj
    obtain ⟨c, hc, rfl⟩ := hj
    have hc2 := hget j c hc
    have hlt : j < qs.length := by rw [← hqs.len]; exact (zg.1 hc2).1
    have := hqs.rep j _ qs[j] hc2 (by simp)
    rw [zq hlt]
    revert this
    generalize qs[j] = q
    intro this
    cases this with
    | d _ y hd => exact ⟨y, rfl, hd.nrm⟩
   have hl : (ds.map SD.toD).length = qs.length := by rw [List.length_map, ← hlen, hqs.len]
   have hX : YA t s.bx ((t, none) :: qS t ds s.bx) := by
    refine ⟨fun t' e k ty2 xs pins h => ?_, fun t' ht' ty2 cs2 h => ?_⟩
    ·have : ¬ t' = t := fun e => by rw [e, hb] at h; cases h
     rw [au, if_neg this, ob, h]; rfl
    ·rw [au, if_neg ht', ob, h]; exact ⟨_, _, rfl⟩
   have hkp : dD sc W s0 ⟨DZ t ds s.sl, (t, none) :: qS t ds s.bx, s.pr, s.ro, s.oc⟩ := by
    refine ⟨hk.pr, hk.ro, fun t' ht' => ?_, fun i hi hsf => ?_, fun t' ht' ty2 cs2 h => ?_⟩
    ·have hpt : aA s.pr t' = true := by rw [hk.pr]; exact ht'
     refine (hk.bx t' ht').trans ?_
     show kv _ (lkB ((t, none) :: qS t ds s.bx) t')
     rw [au, if_neg (fun e => by rw [e, h3] at hpt; cases hpt), ob]
     obtain ⟨b', k1, k2⟩ := hpr t' hpt
     rw [k1]
     cases b' with
     | st ty2 cs => simp only [Option.map_some, Qg]; rw [jZ cs k2]; rfl
     | rw e2 k2 ty2 xs2 pins2 => exact ⟨pins2, rfl⟩
    ·show lkV (DZ t ds s.sl) i = _
     rw [II, hk.sl i hi hsf]
     exact V8 hnew (h0.sl i)
    ·obtain ⟨cs', k1, k2⟩ := hk.st t' ht' ty2 cs2 h
     show ∃ cs', lkB ((t, none) :: qS t ds s.bx) t' = _ ∧ _
     rw [au, if_neg (fun e => by rw [e, h4] at ht'; cases ht'), ob, k1]
     exact ⟨_, rfl, by rw [fL]; exact k2⟩
   refine ⟨_, Xx t hq hl hc, ⟨fun i => ?_, fun t' b h => ?_⟩, hkp, fun t' ht' => ?_⟩
   ·show a8 _ (lkV (DZ t ds s.sl) i) (fzp t (ds.map SD.toD) (p.t i))
    rw [II]
    exact (hs.sl i).frp hnl hX
   ·have h : lkB ((t, none) :: qS t ds s.bx) t' = some b := h
    rw [au] at h
    split at h
    ·cases h
    ·rename_i hne
     rw [ob, zm] at h
     obtain ⟨b0, h1, rfl⟩ := h
     have h2 := hs.bx t' b0 h1
     show lU _ true (some (Qg t ds b0)) (if t' = t then none else (p.b t').map (DW t (ds.map SD.toD)))
     rw [if_neg hne]
     cases b0 with
     | st ty2 cs =>
      obtain ⟨qs, h3, h4⟩ := h2
      rw [h3]
      refine ⟨_, rfl, by rw [fL, iI]; exact h4.len, fun j c r k1 k2 => ?_⟩
      rw [ic, zm] at k1
      obtain ⟨c', k3, rfl⟩ := k1
      obtain ⟨q', k4, rfl⟩ := iJ _ _ qs j r k2
      exact (h4.rep j c' q' k3 k4).frp hnl hX
     | rw e2 k2 ty2 xs2 pins2 =>
      obtain ⟨h3, h4⟩ := h2
      rw [h3]
      exact ⟨rfl, h4⟩
   ·obtain ⟨b', k1, k2⟩ := hpr t' ht'
    show ∃ b, lkB ((t, none) :: qS t ds s.bx) t' = some b ∧ _
    rw [au, if_neg (fun e => by rw [e, h3] at ht'; cases ht'), ob, k1]
    refine ⟨_, rfl, ?_⟩
    cases b' with
    | st ty2 cs => simp only [Qg]; rw [jZ cs k2]; exact k2
    | rw e2 k2 ty2 xs2 pins2 => rfl
  ·cases h
 ·cases h
theorem K5 {sc W : List Nat} {s0 : SS} {p0 : PS} (h0 : gD s0 p0) : ∀ {l : List Nat} {s s' : SS} {p : PS}, lO s → Qn s0 l = true → dD sc W s0 s → gD s p → G2 sc l s = some s' → ∃ p', Le p p' ∧ gD s' p' ∧ dD sc W s0 s'
 | [], s, s', p, _, _, hk, hs, h => by injection h with h; subst h; exact ⟨p, .refl p, hs, hk⟩
 | t :: l, s, s', p, hpr, hn, hk, hs, h => by
  simp only [G2] at h
  simp only [Qn] at hn
  split at hn
  ·rename_i hnew
   split at h
   ·rename_i s1 h1
    obtain ⟨p1, k1, k2, k3, k4⟩ := XE hpr h0 hnew hk hs h1
    obtain ⟨p2, m1, m2, m3⟩ := K5 h0 k4 hn k3 k2 h
    exact ⟨p2, k1.trans m1, m2, m3⟩
   ·cases h
  ·cases hn
end
section
theorem CZ {m : Nat} {ops : Array Oper} (h : Kh m ops = true) {i k : Nat} (hi : i < ops.size) (hm : ¬ i < m) (hk : k < i) : xQ ops 4 i k = true := by
 unfold Kh at h
 rw [List.all_eq_true] at h
 have h := h i (List.mem_range.2 hi)
 simp only [Bool.or_eq_true, decide_eq_true_eq, List.all_eq_true] at h
 exact (h.resolve_left hm) k (List.mem_range.2 hk)
section
variable {P : Program} {w0 : WM} {F0 : Nat → Prop} {n : Nat} {ops : Array Oper} {Q : Exit → Act → World → Prop}
def RX (P : Program) (ops : Array Oper) : List Nat → PS → (PS → Prop) → Prop
 | [], s, K => K s
 | i :: l, s, K => ∃ s1, Le s s1 ∧ ∃ o r u, ops[i]? = some o ∧ Eff P ops o s1 r u ∧ RX P ops l (s1.updL o.dst r u) K
theorem QI {bd : Nat → Bd} {mT : Nat} {Qs : Exit → PS → Prop} (hQ : ∀ e s a w, Qs e s → nD n w0 F0 s a w → Q e a w) (hB : Em bd n ops = true) (hT : Kh mT ops = true) : ∀ (m : Nat) (l lt : List Nat) (listed : Array Bool) (s : PS) (a : Act) (w : World), (l ++ lt).length = m → (l ++ lt).Pairwise (· < ·) → (∀ j ∈ l, j < mT) → (∀ j ∈ lt, ¬ j < mT) → (∀ j, j ∈ l ++ lt ↔ (j < ops.size ∧ listed.getD j true = false)) → listed.size = ops.size → Pv ops listed →
  EF P ops bd l s (fun s' => RX P ops lt s' (Qs .normal)) → nD n w0 F0 s a w → wpAny P .any ops Q m listed a w
 | 0, l, lt, listed, s, a, w, hl, _, _, _, hm, hls, _, h, hc => by
  have h0 : l ++ lt = [] := List.eq_nil_of_length_eq_zero hl
  obtain ⟨rfl, rfl⟩ := List.append_eq_nil_iff.1 h0
  refine ⟨?_, hQ _ s a w h hc⟩
  rw [List.eq_nil_iff_forall_not_mem]
  intro j hj
  obtain ⟨h1, o, h2, _⟩ := mem_ready.1 hj
  have := (hm j).2 ⟨(Array.getElem?_eq_some_iff.1 h2).1, h1⟩
  simp at this
 | m + 1, l, lt, listed, s, a, w, hl, hs, hlm, hltm, hm, hls, hcl, h, hc => by
  have notdone : ∀ {k : Nat}, k ∈ l ++ lt → listed.getD k false = false := fun {k} hk => by
   have h1 := (hm k).1 hk
   have hsz : k < listed.size := by rw [hls]; exact h1.1
   have h2 := h1.2
   simp [hsz] at h2 ⊢
   exact h2
  refine ⟨fun h0 => ?_, fun i hi => ?_⟩
  ·exfalso
   cases hll : l ++ lt with
   | nil => rw [hll] at hl; simp at hl
   | cons k ls =>
    have hk := (hm k).1 (by rw [hll]; simp)
    have hok : ops[k]? = some ops[k] := Array.getElem?_eq_getElem hk.1
    have : k ∈ Region.ready .any ops listed := by
     refine mem_ready.2 ⟨hk.2, _, hok, fun e he hb => ?_⟩
     have hlt := (mA hB hok).2.1 e he hb
     cases hx : listed.getD e.on false with
     | true => rfl
     | false =>
      exfalso
      have hsz : e.on < listed.size := by rw [hls]; omega
      have h2 : listed.getD e.on true = false := by
       simp [hsz] at hx ⊢; exact hx
      have h3 := (hm e.on).2 ⟨by omega, h2⟩
      rw [hll] at h3 hs
      rcases List.mem_cons.1 h3 with h | h
      ·omega
      ·have := (List.pairwise_cons.1 hs).1 _ h
       omega
    rw [h0] at this
    cases this
  ·obtain ⟨hun, oi, hoi, hall⟩ := mem_ready.1 hi
   have hisz := (Array.getElem?_eq_some_iff.1 hoi).1
   have hin : i ∈ l ++ lt := (hm i).2 ⟨hisz, hun⟩
   have hready : ∀ k, k ∈ l ++ lt → xQ ops 4 i k = true → False := fun k hk hh => by
    have h1 := wE hcl 4 i k hh (fun o' ho' e he hb => by rw [hoi] at ho'; cases ho'; exact hall e he hb)
    rw [notdone hk] at h1
    cases h1
   have key : ∃ l' lt' s1 r u, Le s s1 ∧ Eff P ops oi s1 r u ∧ EF P ops bd l' (s1.updL oi.dst r u) (fun s' => RX P ops lt' s' (Qs .normal)) ∧ (l' ++ lt').length = m ∧ (l' ++ lt').Pairwise (· < ·) ∧ (∀ j ∈ l', j < mT) ∧ (∀ j ∈ lt', ¬ j < mT) ∧ (∀ j, j ∈ l' ++ lt' ↔ (j ∈ l ++ lt ∧ j ≠ i)) := by
    by_cases him : i < mT
    ·have hil : i ∈ l := by
      rcases List.mem_append.1 hin with h | h
      ·exact h
      ·exact absurd him (hltm i h)
     obtain ⟨l1, l2, rfl⟩ := List.append_of_mem hil
     have hpw0 := List.pairwise_append.1 hs
     have hpw := List.pairwise_append.1 hpw0.1
     have hfront := ww (P := P) (bd := bd) (K := fun s' => RX P ops lt s' (Qs .normal)) hoi l1 l2 s (fun k hk ok hok => by
      have hlt : k < i := hpw.2.2 k hk i (by simp)
      rcases (mA hB hoi).2.2 k ok hlt hok with hh | h
      ·exact (hready k (by simp [hk]) hh).elim
      ·exact h) h
     obtain ⟨o', r, u, ho', h1, _, h2⟩ := hfront
     rw [hoi] at ho'
     injection ho' with ho'
     subst ho'
     have hc3 := List.pairwise_cons.1 hpw.2.1
     have hne : ∀ x, x ∈ l1 ++ l2 → x ≠ i := fun x hx e => by
      subst e
      rcases List.mem_append.1 hx with h | h
      ·have := hpw.2.2 x h x (by simp); omega
      ·have := hc3.1 x h; omega
     refine ⟨l1 ++ l2, lt, s, r, u, .refl s, h1, h2, by simp at hl ⊢; omega, ?_, fun j hj => hlm j (by rcases List.mem_append.1 hj with h | h <;> simp [h]), hltm, fun j => ?_⟩
     ·refine List.pairwise_append.2 ⟨List.pairwise_append.2 ⟨hpw.1, hc3.2, fun x hx y hy => hpw.2.2 x hx y (by simp [hy])⟩, hpw0.2.1, fun x hx y hy => hpw0.2.2 x (by rcases List.mem_append.1 hx with h | h <;> simp [h]) y hy⟩
     ·refine ⟨fun hj => ?_, fun ⟨hj, hji⟩ => ?_⟩
      ·rcases List.mem_append.1 hj with hj2 | hj2
       ·exact ⟨by rcases List.mem_append.1 hj2 with h | h <;> simp [h], hne j hj2⟩
       ·exact ⟨by simp [hj2], fun e => by subst e; exact hltm j hj2 him⟩
      ·rcases List.mem_append.1 hj with h | h
       ·rcases List.mem_append.1 h with h | h
        ·simp [h]
        ·rcases List.mem_cons.1 h with h | h
         ·exact absurd h hji
         ·simp [h]
       ·simp [h]
    ·have hnil : l = [] := by
      cases l with
      | nil => rfl
      | cons k l =>
       exfalso
       have hk := hlm k (by simp)
       exact hready k (by simp) (CZ hT hisz him (by omega))
     subst hnil
     cases lt with
     | nil => simp at hin
     | cons k lt =>
      have hki : k = i := by
       rcases List.mem_cons.1 hin with h | h
       ·exact h.symm
       ·exfalso
        have hlt := (List.pairwise_cons.1 hs).1 i h
        exact hready k (by simp) (CZ hT hisz him hlt)
      subst hki
      obtain ⟨s1, hle, o', r, u, ho', h1, h2⟩ := h
      rw [hoi] at ho'
      injection ho' with ho'
      subst ho'
      have hc3 := List.pairwise_cons.1 hs
      refine ⟨[], lt, s1, r, u, hle, h1, h2, by simp at hl ⊢; omega, hc3.2, fun j hj => (by cases hj), fun j hj => hltm j (by simp [hj]), fun j => ?_⟩
      refine ⟨fun hj => ⟨by simp at hj; simp [hj], fun e => by
       subst e
       have := hc3.1 j (by simpa using hj)
       omega⟩, fun ⟨hj, hji⟩ => ?_⟩
      rcases List.mem_cons.1 hj with h | h
      ·exact absurd h hji
      ·simpa using h
   obtain ⟨l', lt', s1, r, u, hle, h1, h2, k1, k2, k3, k4, k5⟩ := key
   have hc1 := hle n w0 F0 a w hc
   have hstep := TK (f := 0) (Q := Q) (K := wpAny P .any ops Q m (listed.setIfInBounds i true)) hc1 h1 (mA hB hoi).1 (fun a' w' hc' => by
    have hmono : ∀ j, listed.getD j false = true → (listed.setIfInBounds i true).getD j false = true := fun j hj => by
     by_cases hji : j = i
     ·subst hji
      have hsz : j < listed.size := by rw [hls]; exact hisz
      simp [hsz]
     ·rw [getD_set_ne false (Ne.symm hji)]; exact hj
    refine QI hQ hB hT m l' lt' _ _ a' w' k1 k2 k3 k4 (fun j => ?_) (by simpa using hls) (fun j hj o ho e he hb => ?_) h2 hc'
    ·by_cases hji : j = i
     ·subst hji
      have hsz : j < listed.size := by rw [hls]; exact hisz
      refine ⟨fun hmem => absurd rfl ((k5 j).1 hmem).2, fun ⟨_, hx⟩ => ?_⟩
      simp [hsz] at hx
     ·rw [getD_set_ne true (Ne.symm hji), k5 j, hm j]
      simp [hji]
    ·by_cases hji : j = i
     ·subst hji
      rw [hoi] at ho
      cases ho
      exact hmono _ (hall e he hb)
     ·rw [getD_set_ne false (Ne.symm hji)] at hj
      exact hmono _ (hcl j hj o ho e he hb))
   unfold wpOp
   rw [hoi]
   simp only
   split
   ·rename_i hw
    rw [if_pos hw] at hstep
    exact .inl hstep
   ·rename_i hw
    rw [if_neg hw] at hstep
    exact hstep
theorem Rc (bd : Nat → Bd) {Qs : Exit → PS → Prop} {s : PS} {id : Nat} {l : List Oper} (mT : Nat) (hmT : mT ≤ l.length) (hm : P.follows .mixedOrders = true) (hB : Em bd n l.toArray = true) (hT : Kh mT l.toArray = true) (h : EF P l.toArray bd (List.range' 0 mT) s (fun s' => RX P l.toArray (List.range' mT (l.length - mT)) s' (Qs .normal))) : PWP P n (.region id l.toArray true) Qs s := by
 intro w0 F0 a w hc
 refine wp_region_any hm ?_
 have hr : List.range' 0 mT ++ List.range' mT (l.length - mT) = List.range' 0 l.length := by
  have := List.range'_append (s := 0) (m := mT) (n := l.length - mT) (step := 1)
  simp only [Nat.one_mul, Nat.zero_add] at this
  rw [this]
  congr 1
  omega
 refine QI (Qs := Qs) (mT := mT) (fun _ s' _ _ h1 h2 => ⟨s', h1, h2⟩) hB hT l.toArray.size (List.range' 0 mT) (List.range' mT (l.length - mT)) _ s a _ (by rw [hr]; simp) (by rw [hr]; exact List.pairwise_lt_range') (fun j hj => by simp [List.mem_range'_1] at hj; exact hj) (fun j hj => by simp [List.mem_range'_1] at hj; omega) (fun j => ?_) (by simp) (fun j hj => by exfalso; simp only [Array.getD_eq_getD_getElem?, Array.getElem?_replicate] at hj; split at hj <;> cases hj) h (hc.drew _)
 rw [hr]
 simp only [List.mem_range'_1, Nat.zero_le, true_and, Nat.zero_add, List.size_toArray]
 refine ⟨fun h => ⟨h, by simp [h]⟩, fun h => h.1⟩
end
end
section
variable {B B' : List (Nat × Option aW)} {s : SS} {p : PS} {P : Program} {ρ : Type}
theorem qE (ks : List Nat) : ∀ (cs : List SV) (j : Nat), (sW ks cs)[j]? = (cs[j]?).map (stV ks)
 | [], j => by simp [sW]
 | c :: cs, 0 => by simp [sW]
 | c :: cs, j + 1 => by simpa [sW] using qE ks cs j
theorem oP (ks : List Nat) : ∀ cs : List SV, (sW ks cs).length = cs.length
 | [] => rfl
 | c :: cs => by simp [sW, oP ks cs]
theorem Nm (ks : List Nat) : ∀ (l : List (Nat × SV)) (i : Nat), lkV (QX ks l) i = stV ks (lkV l i)
 | [], _ => rfl
 | (j, v) :: l, i => by simp only [QX, cV, Nm ks l i]; split <;> rfl
def XY (ks : List Nat) : aW → aW
 | .st ty cs => .st ty (sW ks cs)
 | b => b
theorem tA (ks : List Nat) : ∀ (l : List (Nat × Option aW)) (i : Nat), lkB (we ks l) i = (lkB l i).map (XY ks)
 | [], _ => rfl
 | (j, none) :: l, i => by simp only [we, au, tA ks l i]; split <;> rfl
 | (j, some (.st ty cs)) :: l, i => by simp only [we, au, tA ks l i]; split <;> rfl
 | (j, some (.rw e k ty xs pins)) :: l, i => by simp only [we, au, tA ks l i]; split <;> rfl
structure XT (ks : List Nat) (B B' : List (Nat × Option aW)) : Prop where
 rw : ∀ t, aA ks t = false → ∀ e k ty xs pins, lkB B t = some (.rw e k ty xs pins) → ∃ e' k' ty' xs' pins', lkB B' t = some (.rw e' k' ty' xs' pins') ∧ xs'.length = xs.length ∧ ∀ p pin, lkP pins p = some pin → ∃ pin', lkP pins' p = some pin' ∧ pin'.i = pin.i
 st : ∀ t ty cs, lkB B t = some (.st ty cs) → ∃ ty' cs', lkB B' t = some (.st ty' cs')
theorem a8.st {ks : List Nat} {v : SV} {q : PV} (h : a8 B v q) (hB : XT ks B B') : a8 B' (stV ks v) q := by
 induction h with
 | junk q => exact .junk q
 | d c y h => exact .d c y h
 | ag cs qs hl hr ih =>
  refine .ag _ qs (by rw [oP]; exact hl) (fun j c q h1 h2 => ?_)
  rw [qE, zm] at h1
  obtain ⟨c', h3, rfl⟩ := h1
  exact ih j c' q h3 h2
 | tup cs qs hl hr ih =>
  refine .tup _ qs (by rw [oP]; exact hl) (fun j c q h1 h2 => ?_)
  rw [qE, zm] at h1
  obtain ⟨c', h3, rfl⟩ := h1
  exact ih j c' q h3 h2
 | ptr t' o ty cs hb => obtain ⟨ty', cs', h1⟩ := hB.st t' ty cs hb; exact .ptr t' o ty' cs' h1
 | row t' n e k ty xs pins hb hn =>
  simp only [stV]
  split
  ·exact .junk _
  ·rename_i h
   obtain ⟨e', k', ty', xs', pins', h1, h2, h3⟩ := hB.rw t' h e k ty xs pins hb
   exact .row t' n e' k' ty' xs' pins' h1 (h2.trans hn)
 | re t' p o n i e k ty xs pins pin hb hn hp hi =>
  simp only [stV]
  split
  ·exact .junk _
  ·rename_i h
   obtain ⟨e', k', ty', xs', pins', h1, h2, h3⟩ := hB.rw t' h e k ty xs pins hb
   obtain ⟨pin', h4, h5⟩ := h3 p pin hp
   exact .re t' p o n i e' k' ty' xs' pins' pin' h1 (h2.trans hn) h4 (by rw [h5]; exact hi)
 | vw t' lo hi n e k ty xs pins hb hn=>
  simp only [stV]
  split
  ·exact .junk _
  ·rename_i h
   obtain ⟨e', k', ty', xs', pins', h1, h2, h3⟩ := hB.rw t' h e k ty xs pins hb
   exact .vw t' lo hi n e' k' ty' xs' pins' h1 (h2.trans hn)
 | fe cs ds h hn => exact .fe cs ds h hn
 | fn f ps qs ps' qs' hl hr hl2 hr2 ih ih2 =>
  refine .fn f _ _ ps' qs' (by rw [oP]; exact hl) (fun j c q h1 h2 => ?_) (by rw [oP]; exact hl2) (fun j c q h1 h2 => ?_)
  ·rw [qE, zm] at h1
   obtain ⟨c', h3, rfl⟩ := h1
   exact ih j c' q h3 h2
  ·rw [qE, zm] at h1
   obtain ⟨c', h3, rfl⟩ := h1
   exact ih2 j c' q h3 h2
theorem cd.st {ks : List Nat} {cs : List SV} {qs : List PV} (h : cd B cs qs) (hB : XT ks B B') : cd B' (sW ks cs) qs :=
 ⟨by rw [oP]; exact h.len, fun j c q h1 h2 => by
  rw [qE, zm] at h1
  obtain ⟨c', h3, rfl⟩ := h1
  exact (h.rep j c' q h3 h2).st hB⟩
mutual
theorem PE {pr ks : List Nat} (hk : ∀ t, aA ks t = true → aA pr t = false) : ∀ v : SV, kL pr v = true → stV ks v = v
 | .junk, _ => rfl
 | .d _, _ => rfl
 | .fe _, _ => rfl
 | .ptr _ _, _ => rfl
 | .row t, h => by
  have h : aA pr t = true := h
  simp only [stV]
  split
  ·rename_i h1; rw [hk t h1] at h; cases h
  ·rfl
 | .re _ _ _, h => by cases h
 | .vw _ _ _, h => by cases h
 | .ag cs, h => by simp only [stV]; rw [ta hk cs h]
 | .tup cs, h => by simp only [stV]; rw [ta hk cs h]
 | .fn f ps qs, h => by
  have h : (dX pr ps && dX pr qs) = true := h
  rw [Bool.and_eq_true] at h
  simp only [stV]; rw [ta hk ps h.1, ta hk qs h.2]
theorem ta {pr ks : List Nat} (hk : ∀ t, aA ks t = true → aA pr t = false) : ∀ cs : List SV, dX pr cs = true → sW ks cs = cs
 | [], _ => rfl
 | c :: cs, h => by
  simp only [dX, Bool.and_eq_true] at h
  simp only [sW]
  rw [PE hk c h.1, ta hk cs h.2]
end
mutual
theorem Tm {ks : List Nat} : ∀ v : SV, oU v = true → stV ks v = v
 | .junk, _ => rfl
 | .d _, _ => rfl
 | .fe _, _ => rfl
 | .ptr _ _, _ => rfl
 | .row _, h => by cases h
 | .re _ _ _, h => by cases h
 | .vw _ _ _, h => by cases h
 | .ag cs, h => by simp only [stV]; rw [oA cs h]
 | .tup cs, h => by simp only [stV]; rw [oA cs h]
 | .fn f ps qs, h => by
  have h : (match cC ps with | true => cC qs | false => false) = true := h
  split at h
  ·rename_i h1; simp only [stV]; rw [oA ps h1, oA qs h]
  ·cases h
theorem oA {ks : List Nat} : ∀ cs : List SV, cC cs = true → sW ks cs = cs
 | [], _ => rfl
 | c :: cs, h => by
  simp only [cC] at h
  split at h
  ·rename_i h1
   simp only [sW]
   rw [Tm c h1, oA cs h]
  ·cases h
end
inductive UAl (G : List Nat) (B' : List (Nat × Option aW)) : List (Nat × Option aW) → BU → Prop
 | nil : UAl G B' [] []
 | cons (t : Nat) (sb : Option aW) (b : Box) (us : List (Nat × Option aW)) (u : BU) (h1 : ∀ x, sb = some x → lU B' true (some x) (some b)) (h2 : sb = none → aA G t = true) (h : UAl G B' us u) : UAl G B' ((t, sb) :: us) ((t, b) :: u)
variable {G : List Nat}
theorem UAl.app {us us' : List (Nat × Option aW)} {u u' : BU} (h : UAl G B' us u) (h' : UAl G B' us' u') : UAl G B' (us ++ us') (u ++ u') := by
 induction h with
 | nil => exact h'
 | cons t sb b us u h1 h2 h ih => exact .cons t sb b _ _ h1 h2 ih
theorem eV : ∀ {us : List (Nat × Option aW)} {t : Nat}, t ∈ idU us ↔ ∃ sb, (t, sb) ∈ us
 | [], t => by simp [idU]
 | (i, b) :: us, t => by
  simp only [idU, List.mem_cons, Prod.mk.injEq]
  constructor
  ·rintro (rfl | h)
   ·exact ⟨b, .inl ⟨rfl, rfl⟩⟩
   ·obtain ⟨sb, h⟩ := eV.1 h; exact ⟨sb, .inr h⟩
  ·rintro ⟨sb, ⟨rfl, _⟩ | h⟩
   ·exact .inl rfl
   ·exact .inr (eV.2 ⟨sb, h⟩)
theorem Tj {us : List (Nat × Option aW)} {u : BU} (h : UAl G B' us u) (l : List (Nat × Option aW)) (t : Nat) :
  (t ∈ idU us ∧ ∃ sb b, lkB (us ++ l) t = sb ∧ lkU u t = some b ∧ (∀ x, sb = some x → lU B' true (some x) (some b)) ∧ (sb = none → aA G t = true)) ∨ (t ∉ idU us ∧ lkB (us ++ l) t = lkB l t ∧ lkU u t = none) := by
 induction h with
 | nil => exact .inr ⟨by simp [idU], rfl, rfl⟩
 | cons i sb b us u h1 h2 h ih =>
  by_cases hi : t = i
  ·subst hi
   refine .inl ⟨by simp [idU], sb, b, ?_, ?_, h1, h2⟩
   ·rw [List.cons_append, au, if_pos rfl]
   ·simp [lkU]
  ·rcases ih with ⟨m1, sb', b', m2, m3, m4⟩ | ⟨m1, m2, m3⟩
   ·refine .inl ⟨by simp [idU, m1], sb', b', ?_, ?_, m4⟩
    ·rw [List.cons_append, au, if_neg hi]; exact m2
    ·simp only [lkU, if_neg hi]; exact m3
   ·refine .inr ⟨by simp [idU, m1, hi], ?_, ?_⟩
    ·rw [List.cons_append, au, if_neg hi]; exact m2
    ·simp only [lkU, if_neg hi]; exact m3
theorem dN : ∀ {l : List Nat} {i : Nat}, aA l i = true ↔ i ∈ l
 | [], i => by simp [aA]
 | j :: l, i => by
  simp only [aA, cW, List.mem_cons]
  by_cases h : i = j
  ·simp [h]
  ·simp only [h, decide_false, false_or]; exact dN
theorem xJ {l : List Nat} {i : Nat} : aA l i = false ↔ i ∉ l := by rw [← dN]; simp
theorem iH : ∀ {l : List Nat}, rM l = true → l.Nodup
 | [], _ => List.nodup_nil
 | a :: l, h => by
  simp only [rM] at h
  split at h
  ·cases h
  ·rename_i h1
   exact List.nodup_cons.2 ⟨xJ.1 h1, iH h⟩
theorem qC : ∀ {l m : List Nat}, MT l m = true → ∀ x ∈ l, x ∈ m
 | [], _, _, x, hx => by cases hx
 | a :: l, m, h, x, hx => by
  simp only [MT] at h
  split at h
  ·rename_i h1
   rcases List.mem_cons.1 hx with rfl | hx
   ·exact dN.1 h1
   ·exact qC h x hx
  ·cases h
theorem Dm : ∀ {l : List Nat}, PZ s l = true → ∀ i ∈ l, aA s.pr i = false
 | [], _, i, hi => by cases hi
 | a :: l, h, i, hi => by
  simp only [PZ] at h
  split at h
  ·cases h
  ·rename_i h1
   rcases List.mem_cons.1 hi with rfl | hi
   ·exact h1
   ·exact Dm h i hi
theorem Dn : ∀ {l : List Nat}, P0 s l = true → ∀ i ∈ l, IE s i = true ∧ lkB s.bx i = none ∧ i < 1000000
 | [], _, i, hi => by cases hi
 | a :: l, h, i, hi => by
  simp only [P0] at h
  split at h
  ·rename_i h1 h2 h3
   rcases List.mem_cons.1 hi with rfl | hi
   ·exact ⟨h1, h2, Nat.le_of_ble_eq_true h3⟩
   ·exact Dn h i hi
  ·cases h
theorem Dp : ∀ {us : List (Nat × Option aW)}, P1 s us = true → ∀ t sb, (t, sb) ∈ us → ∀ ty cs, lkB s.bx t = some (.st ty cs) → ∃ cs', sb = some (.st ty cs') ∧ cs'.length = cs.length
 | [], _, t, sb, h, _, _, _ => by cases h
 | (i, b) :: us, h, t, sb, hm, ty, cs, hl => by
  simp only [P1, Bool.and_eq_true] at h
  rcases List.mem_cons.1 hm with e | hm
  ·injection e with e1 e2
   subst e1 e2
   have h1 := h.1
   rw [hl] at h1
   simp only at h1
   split at h1
   ·rename_i ty' cs'
    rw [Bool.and_eq_true, Nat.beq_eq] at h1
    have := zd h1.1
    subst this
    exact ⟨cs', rfl, h1.2.symm⟩
   ·cases h1
  ·exact Dp h.2 t sb hm ty cs hl
mutual
theorem Hk (b : Nat → Option Box) : ∀ q : PV, clean q = true → asData b q = pN q
 | .junk, _ => rfl
 | .d _, _ => rfl
 | .fe _, _ => rfl
 | .ptr _ _, h => by cases h
 | .row _ _, h => by cases h
 | .re _ _ _ _, h => by cases h
 | .vw _ _ _ _, h => by cases h
 | .ag cs, h => by simp only [asData, pN]; rw [o9 b cs h]
 | .tup cs, h => by simp only [asData, pN]; rw [o9 b cs h]
 | .fn f ps qs, h => by
  have h : (cN ps && cN qs) = true := h
  rw [Bool.and_eq_true] at h
  simp only [asData, pN]; rw [o9 b ps h.1, o9 b qs h.2]
theorem o9 (b : Nat → Option Box) : ∀ cs : List PV, cN cs = true → bL b cs = dM cs
 | [], _ => rfl
 | c :: cs, h => by
  simp only [cN, Bool.and_eq_true] at h
  simp only [bL, dM]; rw [Hk b c h.1, o9 b cs h.2]
end
theorem wP (hs : Sim s p) {rows : List (Nat × Nat × Nat × Nat × Ty)} : ∀ {cs : List SV} {qs : List PV} {ds : List SD} {j : Nat}, cd s.bx cs qs → cellsOf s rows j cs = some ds →
  dM qs = dY rows j (ds.map SD.toD) ∧ ∀ t Bx, (t, Bx) ∈ cj rows j (ds.map SD.toD) → p.b t = some Bx
 | [], qs, ds, j, hv, h => by
  rcases hv.cases with ⟨_, rfl⟩ | ⟨_, _, _, _, h1, _⟩
  ·injection h with h; subst h; exact ⟨rfl, fun _ _ h => by cases h⟩
  ·cases h1
 | c :: cs, qs, ds, j, hv, h => by
  rcases hv.cases with ⟨h1, _⟩ | ⟨c', q, cs', qs', h1, rfl, h2, h3⟩
  ·cases h1
  ·injection h1 with e1 e2
   subst e1 e2
   simp only [cellsOf] at h
   split at h
   ·rename_i R e k t hf
    split at h
    ·rename_i R' e' k' t' xs pins hb
     split at h
     ·rename_i hty _
      obtain ⟨m1, h⟩ := an h
      obtain ⟨m2, h⟩ := an h
      obtain ⟨m3, h⟩ := an h
      split at h
      ·rename_i r hr
       injection h with h
       subst h hty
       rw [Nat.beq_eq] at m1
       have m2 := zd m2
       have m3 := zd m3
       subst m1 m2 m3
       obtain ⟨k1, k2⟩ := wP hs h3 hr
       have hbx := hs.bx R'
       rw [hb] at hbx
       cases h2 with
       | row _ n e2 k2' ty2 xs2 pins2 hb2 hn =>
        rw [hb] at hb2
        injection hb2 with hb2
        injection hb2 with q1 q2 q3 q4 q5
        subst q3
        have q4 := eq_of_heq q4
        subst q4
        refine ⟨?_, ?_⟩
        ·simp only [dM, pN, List.map_cons, dY, hf, SD.toD, k1]
         simp [xY, hn]
        ·intro t Bx hm
         simp only [List.map_cons, cj, hf, SD.toD, List.mem_cons, Prod.mk.injEq] at hm
         rcases hm with ⟨rfl, rfl⟩ | hm
         ·exact hbx.1
         ·exact k2 t Bx hm
      ·cases h
     ·cases h
    ·cases h
   ·rename_i hf
    split at h
    ·rename_i x r hr
     injection h with h
     subst h
     obtain ⟨k1, k2⟩ := wP hs h3 hr
     cases h2 with
     | d _ y hy =>
      refine ⟨?_, ?_⟩
      ·simp only [dM, pN, List.map_cons, dY, hf, k1, hy.nrm]
      ·intro t Bx hm
       simp only [List.map_cons, cj, hf] at hm
       exact k2 t Bx hm
    ·cases h
theorem A8 : ∀ {rows : List (Nat × Nat × Nat × Ty)} {cs : List SV} {is : List Nat}, Cw rows cs = some is → is.length = rows.length
 | [], _, is, h => by injection h with h; subst h; rfl
 | (j, e) :: rows, cs, is, h => by
  simp only [Cw] at h
  split at h
  ·rename_i R is' _ h1
   injection h with h
   subst h
   simp [A8 h1]
  ·cases h
theorem Eo (hs : Sim s p) {rows : List (Nat × Nat × Nat × Ty)} {n : Nat} {cs : List SV} {qs : List PV} {x : ST n} {is : List Nat} (hv : cd s.bx cs qs) (h : Ln s rows n cs = some (x, is)) :
  is.length = rows.length ∧ dM qs = dY (lV rows is) 0 (stD n x) ∧ ∀ t Bx, (t, Bx) ∈ cj (lV rows is) 0 (stD n x) → p.b t = some Bx := by
 unfold Ln at h
 split at h
 ·rename_i is' hi
  split at h
  ·rename_i ds hd
   split at h
   ·rename_i x' hx
    injection h with h
    injection h with e1 e2
    subst e1 e2
    rw [← zG hx]
    exact ⟨A8 hi, wP hs hv hd⟩
   ·cases h
  ·cases h
 ·cases h
structure Yw (p : PS) (pt : PT) (q : PV) (x : pt.den) (is : List Nat) : Prop where
 len : is.length = pt.nI
 v : pN q = (toI pt is x).1
 b : ∀ t Bx, (t, Bx) ∈ (toI pt is x).2 → ∃ B', p.b t = some B' ∧ qK B' = Bx
theorem Al (hs : Sim s p) {e k : Nat} {t : Ty} {v : SV} {q : PV} {xs : List t.den} {is : List Nat} (hv : a8 s.bx v q) (h : sd s e k t v = some (xs, is)) : ∃ i, is = [i] ∧ q = .row i xs.length ∧ p.b i = some (rwU e k t xs) ∧ ∃ e' k' t' xs' pins, lkB s.bx i = some (.rw e' k' t' xs' pins) ∧ xs'.length = xs.length := by
 unfold sd at h
 split at h
 ·rename_i i
  split at h
  ·rename_i e' k' t' xs' pins hb
   split at h
   ·rename_i hty _
    obtain ⟨m2, h⟩ := an h
    obtain ⟨m3, h⟩ := an h
    injection h with h
    injection h with e1 e2
    subst e1 e2 hty
    have m2 := zd m2
    have m3 := zd m3
    subst m2 m3
    have hbx := hs.bx i
    rw [hb] at hbx
    cases hv with
    | row _ n e2 k2' ty2 xs2 pins2 hb2 hn =>
     rw [hb] at hb2
     injection hb2 with hb2
     injection hb2 with q1 q2 q3 q4 q5
     subst q3
     have q4 := eq_of_heq q4
     subst q4
     exact ⟨i, rfl, by rw [← hn]; rfl, hbx.1, _, _, _, _, _, hb, rfl⟩
   ·cases h
  ·cases h
 ·cases h
theorem Wp (hs : Sim s p) {pt : PT} {v : SV} {q : PV} {x : pt.den} {is : List Nat} (hv : a8 s.bx v q) (h : Lq s pt v = some (x, is)) : is = [] ∧ pN q = oO pt x := by
 unfold Lq at h
 obtain ⟨h1, h⟩ := an h
 split at h
 ·rename_i x' hx
  injection h with h
  injection h with e1 e2
  subst e1 e2
  obtain ⟨k1, k2⟩ := (CF hs hv hx).2 h1
  exact ⟨rfl, by rw [← Hk dP q k1]; exact k2⟩
 ·cases h
theorem I2 (hs : Sim s p) : ∀ {pt : PT} {v : SV} {q : PV} {x : pt.den} {is : List Nat}, a8 s.bx v q → NH s pt v = some (x, is) → Yw p pt q x is := by
 intro pt v q x is hv h
 have plain : ∀ {pt : PT} {x : pt.den}, pt.nI = 0 → (toI pt [] x) = (oO pt x, []) → Lq s pt v = some (x, is) → Yw p pt q x is := fun {pt x} h0 h1 h => by
  obtain ⟨rfl, h2⟩ := Wp hs hv h
  exact ⟨h0.symm, by rw [h1]; exact h2, by rw [h1]; exact fun _ _ h => by cases h⟩
 have row : ∀ {e k : Nat} {t : Ty} {xs : List t.den}, sd s e k t v = some (xs, is) → is.length = 1 ∧ ∃ i, is = [i] ∧ q = .row i xs.length ∧ p.b i = some (rwU e k t xs) := fun {e k t xs} h => by
  obtain ⟨i, rfl, h1, h2, _⟩ := Al hs hv h
  exact ⟨rfl, i, rfl, h1, h2⟩
 cases pt with
 | lf t => exact plain rfl rfl h
 | ag i => exact plain rfl rfl h
 | pl t => exact plain rfl rfl h
 | ps i => exact plain rfl rfl h
 | fn f a b => exact plain rfl rfl h
 | io l => exact dE (x := (x, is)) h
 | own e k t =>
  obtain ⟨h1, i, rfl, h2, h3⟩ := row (xs := x) h
  refine ⟨h1, by rw [h2]; rfl, fun t' Bx hm => ?_⟩
  simp only [toI, List.mem_cons, List.not_mem_nil, or_false, Prod.mk.injEq] at hm
  obtain ⟨rfl, rfl⟩ := hm
  exact ⟨_, h3, rfl⟩
 | mv e k t =>
  obtain ⟨h1, i, rfl, h2, h3⟩ := row (xs := x) h
  refine ⟨h1, by rw [h2]; rfl, fun t' Bx hm => ?_⟩
  simp only [toI, List.mem_cons, List.not_mem_nil, or_false, Prod.mk.injEq] at hm
  obtain ⟨rfl, rfl⟩ := hm
  exact ⟨_, h3, rfl⟩
 | bx ty n rows =>
  replace h : Lv s ty n rows v = some (x, is) := h
  unfold Lv at h
  split at h
  ·rename_i i
   split at h
   ·rename_i ty' cs hb
    obtain ⟨m1, h⟩ := an h
    have m1 := zd m1
    subst m1
    split at h
    ·rename_i x' is' hd
     injection h with h
     injection h with e1 e2
     subst e1 e2
     have hbx := hs.bx i
     rw [hb] at hbx
     obtain ⟨qs, k1, k2⟩ := hbx
     obtain ⟨k3, k4, k5⟩ := Eo hs k2 hd
     cases hv with
     | ptr _ _ _ _ _ =>
      refine ⟨by simp [k3, PT.nI], rfl, fun t' Bx hm => ?_⟩
      simp only [toI, List.mem_cons, Prod.mk.injEq] at hm
      rcases hm with ⟨rfl, rfl⟩ | hm
      ·exact ⟨_, k1, by rw [qK, k4]⟩
      ·have := k5 t' Bx hm
       refine ⟨Bx, this, ?_⟩
       have : ∀ {rows : List (Nat × Nat × Nat × Nat × Ty)} {ds : List D} {j : Nat}, (t', Bx) ∈ cj rows j ds → qK Bx = Bx := by
        intro rows ds
        induction ds with
        | nil => intro j h; cases h
        | cons d ds ih =>
         intro j h
         simp only [cj] at h
         split at h
         ·split at h
          ·rcases List.mem_cons.1 h with e | h
           ·injection e with _ e; subst e; rfl
           ·exact ih h
          ·exact ih h
         ·exact ih h
       exact this hm
    ·cases h
   ·cases h
  ·cases h
 | agr n rows =>
  replace h : NI s n rows v = some (x, is) := h
  unfold NI at h
  split at h
  ·rename_i cs
   obtain ⟨qs, rfl, hq⟩ := Gi hv
   obtain ⟨k3, k4, k5⟩ := Eo hs hq h
   refine ⟨k3, by simp only [pN, toI, k4], fun t' Bx hm => ?_⟩
   have := k5 t' Bx hm
   refine ⟨Bx, this, ?_⟩
   have : ∀ {rows : List (Nat × Nat × Nat × Nat × Ty)} {ds : List D} {j : Nat}, (t', Bx) ∈ cj rows j ds → qK Bx = Bx := by
    intro rows ds
    induction ds with
    | nil => intro j h; cases h
    | cons d ds ih =>
     intro j h
     simp only [cj] at h
     split at h
     ·split at h
      ·rcases List.mem_cons.1 h with e | h
       ·injection e with _ e; subst e; rfl
       ·exact ih h
      ·exact ih h
     ·exact ih h
   exact this hm
  ·cases h
theorem Lr (hs : Sim s p) : ∀ {ps : List PT} {vs : List SV} {qs : List PV} {x : cG ps} {iss : List (List Nat)}, cd s.bx vs qs → Hi s ps vs = some (x, iss) →
  ir ps iss ∧ dM qs = (dW ps iss x).1 ∧ ∀ t Bx, (t, Bx) ∈ (dW ps iss x).2 → ∃ B', p.b t = some B' ∧ qK B' = Bx
 | [], [], qs, x, iss, hv, h => by
  rcases hv.cases with ⟨_, rfl⟩ | ⟨_, _, _, _, h1, _⟩
  ·injection h with h
   injection h with _ h
   subst h
   exact ⟨trivial, rfl, fun _ _ h => by cases h⟩
  ·cases h1
 | [], _ :: _, _, _, _, _, h => by cases h
 | _ :: _, [], _, _, _, _, h => by cases h
 | pt :: ps, v :: vs, qs, x, iss, hv, h => by
  rcases hv.cases with ⟨h1, _⟩ | ⟨v', q, vs', qs', h1, rfl, h2, h3⟩
  ·cases h1
  ·injection h1 with e1 e2
   subst e1 e2
   simp only [Hi] at h
   split at h
   ·rename_i y is ys iss' m1 m2
    injection h with h
    injection h with e1 e2
    subst e1 e2
    obtain ⟨k1, k2, k3⟩ := I2 hs h2 m1
    obtain ⟨k4, k5, k6⟩ := Lr hs h3 m2
    refine ⟨⟨k1, k4⟩, by simp only [dM, dW, k2, k5], fun t Bx hm => ?_⟩
    simp only [dW, List.mem_append] at hm
    rcases hm with hm | hm
    ·exact k3 t Bx hm
    ·exact k6 t Bx hm
   ·cases h
end
section
variable {B B' : List (Nat × Option aW)} {s : SS} {p : PS} {P : Program} {ρ : Type} {G : List Nat} {sc : List Nat}
def vk (B' : List (Nat × Option aW)) (bx : List (Nat × Option aW)) : Prop := ∀ t x, (t, some x) ∈ bx → lkB B' t = some x
theorem vk.app {a b : List (Nat × Option aW)} (h : vk B' (a ++ b)) : vk B' a ∧ vk B' b := ⟨fun t x hm => h t x (List.mem_append_left _ hm), fun t x hm => h t x (List.mem_append_right _ hm)⟩
theorem Na {rows : List (Nat × Nat × Nat × Nat × Ty)} : ∀ {cs : List SD} {j : Nat} {vs : List SV} {bx : List (Nat × Option aW)}, fK rows j cs [] = some (vs, bx) → (∀ c ∈ cs, c ≠ .nl) →
  UAl G B' bx (cj rows j (cs.map SD.toD)) ∧ (vk B' bx → cd B' vs (dY rows j (cs.map SD.toD)))
 | [], j, vs, bx, h, _ => by
  simp only [fK] at h
  injection h with h
  injection h with e1 e2
  subst e1 e2
  exact ⟨.nil, fun _ => .nil⟩
 | c :: cs, j, vs, bx, h, hn => by
  simp only [fK] at h
  have hn' := fun c' hc => hn c' (List.mem_cons_of_mem _ hc)
  split at h
  ·rename_i R e k t hf
   split at h
   ·rename_i xs vs' bx' hx hr
    injection h with h
    injection h with e1 e2
    subst e1 e2
    obtain ⟨k1, k2⟩ := Na hr hn'
    have hD : c.toD = .sl ((show List t.den from xs).map (bJ t)) := by
     rw [← CE hx]; rfl
    simp only [List.map_cons, cj, dY, hf, hD]
    refine ⟨.cons R _ _ _ _ (fun x hx => ?_) (fun h => by cases h) k1, fun hs => .cons ?_ (k2 fun t x hm => hs t x (List.mem_cons_of_mem _ hm))⟩
    ·injection hx with hx
     subst hx
     exact ⟨rfl, fun p pin h => by cases h⟩
    ·exact .row R _ e k t xs [] (hs R _ List.mem_cons_self) (show List.length (show List t.den from xs) = _ from (List.length_map _).symm)
   ·cases h
  ·rename_i hf
   split at h
   ·rename_i vs' bx' hr
    injection h with h
    injection h with e1 e2
    subst e1 e2
    obtain ⟨k1, k2⟩ := Na hr hn'
    simp only [List.map_cons, cj, dY, hf]
    exact ⟨k1, fun hs => .cons (.d _ _ (J4.of (hn c List.mem_cons_self))) (k2 hs)⟩
   ·cases h
theorem D7 {rows : List (Nat × Nat × Nat × Ty)} {is : List Nat} {n : Nat} {x : ST n} {vs : List SV} {bx : List (Nat × Option aW)} (h : K8 rows is n x = some (vs, bx)) :
  UAl G B' bx (cj (lV rows is) 0 (stD n x)) ∧ (vk B' bx → cd B' vs (dY (lV rows is) 0 (stD n x))) := by
 rw [← tb n x]
 exact Na h (wd n x)
theorem G6 {e k : Nat} {t : Ty} (xs : List t.den) {is : List Nat} {v : SV} {bx : List (Nat × Option aW)} (h : (match is with | [i] => some (SV.row i, [(i, some (aW.rw e k t xs []))]) | _ => none) = some (v, bx)) (hs : vk B' bx) :
  ∃ i, is = [i] ∧ v = .row i ∧ UAl G B' bx [(i, rwU e k t xs)] ∧ a8 B' v (.row i xs.length) := by
 split at h
 ·rename_i i
  injection h with h
  injection h with e1 e2
  subst e1 e2
  exact ⟨i, rfl, rfl, .cons i _ _ _ _ (fun x hx => by injection hx with hx; subst hx; exact ⟨rfl, fun p pin h => by cases h⟩) (fun h => by cases h) .nil, .row i _ e k t xs [] (hs i _ List.mem_cons_self) rfl⟩
 ·cases h
theorem IW {pt : PT} {is : List Nat} {x : pt.den} {v : SV} {bx : List (Nat × Option aW)} (hp : (pt.isM || Ri pt) = true) (h : Lb pt is x = some (v, bx)) (hs : vk B' bx) :
  UAl G B' bx (toI pt is x).2 ∧ a8 B' v (toI pt is x).1 := by
 have plain : ∀ {pt : PT} {x : pt.den}, pt.isM = false → (pt.isM || Ri pt) = true → (toI pt is x) = (oO pt x, []) → v = RH pt x → bx = [] → UAl G B' bx (toI pt is x).2 ∧ a8 B' v (toI pt is x).1 := fun {pt x} h1 h2 h3 h4 h5 => by
  subst h4 h5
  rw [h1, Bool.false_or] at h2
  rw [h3]
  exact ⟨.nil, xV pt x h2⟩
 cases pt with
 | lf t => injection h with h; injection h with e1 e2; exact plain rfl hp rfl e1.symm e2.symm
 | ag t => injection h with h; injection h with e1 e2; exact plain rfl hp rfl e1.symm e2.symm
 | pl t => injection h with h; injection h with e1 e2; exact plain rfl hp rfl e1.symm e2.symm
 | ps t => injection h with h; injection h with e1 e2; exact plain rfl hp rfl e1.symm e2.symm
 | fn f a b => injection h with h; injection h with e1 e2; exact plain rfl hp rfl e1.symm e2.symm
 | io l => cases h
 | own e k t => obtain ⟨i, rfl, rfl, k1, k2⟩ := G6 (G := G) (B' := B') (show List t.den from x) h hs; exact ⟨k1, k2⟩
 | mv e k t => obtain ⟨i, rfl, rfl, k1, k2⟩ := G6 (G := G) (B' := B') (show List t.den from x) h hs; exact ⟨k1, k2⟩
 | bx ty n rows =>
  simp only [Lb] at h
  split at h
  ·rename_i i is'
   split at h
   ·rename_i vs bx' he
    injection h with h
    injection h with e1 e2
    subst e1 e2
    obtain ⟨k1, k2⟩ := D7 (G := G) (B' := B') he
    have hc := k2 fun t x hm => hs t x (List.mem_cons_of_mem _ hm)
    exact ⟨.cons i _ _ _ _ (fun x hx => by injection hx with hx; subst hx; exact ⟨_, rfl, hc⟩) (fun h => by cases h) k1, .ptr i 0 _ _ (hs i _ List.mem_cons_self)⟩
   ·cases h
  ·cases h
 | agr n rows =>
  simp only [Lb] at h
  split at h
  ·rename_i vs bx' he
   injection h with h
   injection h with e1 e2
   subst e1 e2
   obtain ⟨k1, k2⟩ := D7 (G := G) (B' := B') he
   have hc := k2 hs
   exact ⟨k1, .ag _ _ hc.len hc.rep⟩
  ·cases h
theorem G7 : ∀ {rs : List PT} {jss : List (List Nat)} {r : bf rs} {vs : List SV} {bs : List (Nat × Option aW)}, rL rs = true → IV rs jss r = some (vs, bs) → vk B' bs → UAl G B' bs (cU rs jss r).2 ∧ cd B' vs (cU rs jss r).1
 | [], [], r, vs, bs, _, h, _ => by
  have h : some (([] : List SV), ([] : List (Nat × Option aW))) = some (vs, bs) := h
  injection h with h
  injection h with e1 e2
  subst e1 e2
  exact ⟨.nil, .nil⟩
 | [], _ :: _, r, vs, bs, _, h, _ => by cases h
 | [pt], [], r, vs, bs, _, h, _ => by cases h
 | [pt], [is], r, vs, bs, hp, h, hs => by
  have h : (match Lb pt is r with | some (v, b) => some ([v], b) | none => none) = some (vs, bs) := h
  simp only [rL] at hp
  split at hp
  ·rename_i hp1
   split at h
   ·rename_i v b he
    injection h with h
    injection h with e1 e2
    subst e1 e2
    obtain ⟨k1, k2⟩ := IW (G := G) (B' := B') hp1 he hs
    exact ⟨k1, .cons k2 .nil⟩
   ·cases h
  ·cases hp
 | [pt], _ :: _ :: _, r, vs, bs, _, h, _ => by cases h
 | pt :: q :: l, [], r, vs, bs, _, h, _ => by cases h
 | pt :: q :: l, is :: iss, r, vs, bs, hp, h, hs => by
  have h : (match Lb pt is r.1, IV (q :: l) iss r.2 with | some (v, b), some (vs, bs) => some (v :: vs, b ++ bs) | _, _ => none) = some (vs, bs) := h
  rw [rL] at hp
  split at hp
  ·rename_i hp1
   split at h
   ·rename_i v b vs' bs' he hr
    injection h with h
    injection h with e1 e2
    subst e1 e2
    obtain ⟨s1, s2⟩ := hs.app
    obtain ⟨k1, k2⟩ := IW (G := G) (B' := B') hp1 he s1
    obtain ⟨k3, k4⟩ := G7 hp hr s2
    exact ⟨k1.app k3, .cons k2 k4⟩
   ·cases h
  ·cases hp
theorem TN {vs : List SV} {qs : List PV} (h : cd B vs qs) : a8 B (TO vs) (xE qs) := by
 match vs, qs, h with
 | [], [], h => exact .tup _ _ rfl (fun j c q h1 => by simp at h1)
 | [v], [q], h => exact h.head
 | v :: v' :: vs, q :: q' :: qs, h => exact .tup _ _ h.len h.rep
 | [], _ :: _, h => have := h.len; simp at this
 | _ :: _, [], h => have := h.len; simp at this
 | [_], _ :: _ :: _, h => have := h.len; simp at this
 | _ :: _ :: _, [_], h => have := h.len; simp at this
def Au (s : SS) (ks js : List Nat) (t : Nat) (sb : Option aW) : Prop :=
 aA ks t = true ∨ t ∈ js ∨ (∃ ty cs, lkB s.bx t = some (.st ty cs)) ∨ ∃ e k ty xs pins e' k' ty' xs', lkB s.bx t = some (.rw e k ty xs pins) ∧ sb = some (.rw e' k' ty' xs' (vE pins)) ∧ xs'.length = xs.length
theorem CN : ∀ {rows : List (Nat × Nat × Nat × Ty)} {is : List Nat} {j R e k : Nat} {t : Ty}, o4 (lV rows is) j = some (R, e, k, t) → R ∈ is
 | [], is, j, R, e, k, t, h => by cases is <;> cases h
 | (j0, e0, k0, t0) :: rows, [], j, R, e, k, t, h => by cases h
 | (j0, e0, k0, t0) :: rows, R0 :: is, j, R, e, k, t, h => by
  simp only [lV, o4] at h
  split at h
  ·injection h with h
   injection h with h _
   subst h
   exact List.mem_cons_self
  ·exact List.mem_cons_of_mem _ (CN h)
theorem Iv {rows : List (Nat × Nat × Nat × Ty)} {is : List Nat} : ∀ {cs : List SD} {j : Nat} {vs : List SV} {bx : List (Nat × Option aW)}, fK (lV rows is) j cs [] = some (vs, bx) → ∀ t sb, (t, sb) ∈ bx → t ∈ is
 | [], j, vs, bx, h, t, sb, hm => by
  simp only [fK] at h
  injection h with h
  injection h with e1 e2
  subst e1 e2
  cases hm
 | c :: cs, j, vs, bx, h, t, sb, hm => by
  simp only [fK] at h
  split at h
  ·rename_i R e k t' hf
   split at h
   ·rename_i xs vs' bx' hx hr
    injection h with h
    injection h with e1 e2
    subst e1 e2
    rcases List.mem_cons.1 hm with e | hm
    ·injection e with e _
     subst e
     exact CN hf
    ·exact Iv hr t sb hm
   ·cases h
  ·split at h
   ·rename_i vs' bx' hr
    injection h with h
    injection h with e1 e2
    subst e1 e2
    exact Iv hr t sb hm
   ·cases h
theorem Wg (hs : Sim s p) {pt : PT} {b : IB} {is js : List Nat} {x : pt.den} {o : b.den} {v : SV} {q : PV} {m : MU} (hv : a8 s.bx v q) (hd : NH s pt v = some (x, is)) (hl : Yc pt b x o) (h : XI s pt b is js o = some m) (hsn : vk B' m.us) :
  (UAl G B' m.us (toO pt b is js x o) ∧ m.gs = GU pt is ∧ ∀ i ∈ m.gs, aA m.ks i = true) ∧ ∀ t sb, (t, sb) ∈ m.us → Au s m.ks js t sb := by
 have nil : some (⟨[], [], []⟩ : MU) = some m → toO pt b is js x o = [] → GU pt is = [] → (UAl G B' m.us (toO pt b is js x o) ∧ m.gs = GU pt is ∧ ∀ i ∈ m.gs, aA m.ks i = true) ∧ ∀ t sb, (t, sb) ∈ m.us → Au s m.ks js t sb := fun h1 h2 h3 => by
  injection h1 with h1
  subst h1
  rw [h2, h3]
  exact ⟨⟨.nil, rfl, fun _ h => by cases h⟩, fun t sb h => by cases h⟩
 cases pt with
 | lf t => cases b with
  | no => exact nil h rfl rfl
  | _ => cases h
 | ag t => cases b with
  | no => exact nil h rfl rfl
  | _ => cases h
 | pl t => cases b with
  | no => exact nil h rfl rfl
  | _ => cases h
 | ps t => cases b with
  | no => exact nil h rfl rfl
  | _ => cases h
 | fn f a c => cases b with
  | no => exact nil h rfl rfl
  | _ => cases h
 | io l => cases b <;> cases h
 | agr n rows => cases b <;> cases h
 | own e k t => cases b with
  | no => cases h
  | bx => cases h
  | own e' k' t' =>
   obtain ⟨i, rfl, h1, h2, e2, k2, t2, xs2, pins, h3, h4⟩ := Al hs hv (show sd s e k t v = some (x, is) from hd)
   have h : some (⟨[], [(i, some (.rw e' k' t' o (Iz s i)))], []⟩ : MU) = some m := h
   injection h with h
   subst h
   have hp : Iz s i = vE pins := by unfold Iz; rw [h3]
   rw [hp]
   have hl : (show List t'.den from o).length = (show List t.den from x).length := hl
   refine ⟨⟨.cons i _ _ _ _ (fun y hy => ?_) (fun h => by cases h) .nil, rfl, fun _ h => by cases h⟩, fun t sb hm => ?_⟩
   ·injection hy with hy
    subst hy
    refine ⟨rfl, fun pp pin hpin => ?_⟩
    rw [mt, zm] at hpin
    obtain ⟨pin0, h5, rfl⟩ := hpin
    have hbx := hs.bx i
    rw [h3] at hbx
    obtain ⟨h6, _⟩ := hbx.2 pp pin0 h5
    exact ⟨by show pin0.i.toNat < (show List t'.den from o).length; rw [hl]; show _ < List.length _; rw [← h4]; exact h6, fun cs h => by cases h⟩
   ·simp only [List.mem_cons, List.not_mem_nil, or_false, Prod.mk.injEq] at hm
    obtain ⟨rfl, rfl⟩ := hm
    exact .inr (.inr (.inr ⟨_, _, _, _, _, _, _, _, _, h3, rfl, by show (show List t'.den from o).length = _; rw [hl]; exact h4.symm⟩))
 | mv e k t => cases b with
  | own => cases h
  | bx => cases h
  | no =>
   obtain ⟨i, rfl, _⟩ := Al hs hv (show sd s e k t v = some (x, is) from hd)
   have h : some (⟨[i], [], [i]⟩ : MU) = some m := h
   injection h with h
   subst h
   exact ⟨⟨.nil, rfl, fun j hj => dN.2 hj⟩, fun t sb hm => by cases hm⟩
 | bx ty n rows => cases b with
  | own => cases h
  | no => cases h
  | bx ty' n' rows' =>
   have hb : ∃ i is' cs ty0, is = i :: is' ∧ lkB s.bx i = some (.st ty0 cs) := by
    replace hd : Lv s ty n rows v = some (x, is) := hd
    clear h
    unfold Lv at hd
    split at hd
    ·rename_i i
     split at hd
     ·rename_i ty0 cs hb
      obtain ⟨_, hd⟩ := an hd
      split at hd
      ·injection hd with hd
       injection hd with _ hd
       exact ⟨i, _, cs, ty0, hd.symm, hb⟩
      ·cases hd
     ·cases hd
    ·cases hd
   obtain ⟨i, is', cs, ty0, rfl, hb⟩ := hb
   have h : (match K8 rows' js n' o with | some (vs, bx) => some (⟨is', (i, some (.st ty' vs)) :: bx, is'⟩ : MU) | none => none) = some m := h
   split at h
   ·rename_i vs bx he
    injection h with h
    subst h
    obtain ⟨k1, k2⟩ := D7 (G := G) (B' := B') he
    have hc := k2 fun t x hm => hsn t x (List.mem_cons_of_mem _ hm)
    refine ⟨⟨.cons i _ _ _ _ (fun x hx => by injection hx with hx; subst hx; exact ⟨_, rfl, hc⟩) (fun h => by cases h) k1, rfl, fun j hj => dN.2 hj⟩, fun t sb hm => ?_⟩
    rcases List.mem_cons.1 hm with e | hm
    ·injection e with e1 e2
     subst e1 e2
     exact .inr (.inr (.inl ⟨_, _, hb⟩))
    ·exact .inr (.inl (Iv he t sb hm))
   ·cases h
theorem Au.more {ks ks' js js' : List Nat} {t : Nat} {sb : Option aW} (h : Au s ks js t sb) (hk : ∀ t, aA ks t = true → aA ks' t = true) (hj : ∀ t ∈ js, t ∈ js') : Au s ks' js' t sb := by
 rcases h with h | h | h
 ·exact .inl (hk t h)
 ·exact .inr (.inl (hj t h))
 ·exact .inr (.inr h)
theorem K9 (hs : Sim s p) : ∀ {ps : List PT} {ls : List IB} {iss kss : List (List Nat)} {x : cG ps} {o : xC ls} {vs : List SV} {qs : List PV} {m : MU}, cd s.bx vs qs → Hi s ps vs = some (x, iss) → KN ps ls x o → Qr s ps ls iss kss o = some m → vk B' m.us →
  (UAl G B' m.us (QT ps ls iss kss x o) ∧ m.gs = oY ps iss ∧ ∀ i ∈ m.gs, aA m.ks i = true) ∧ ∀ t sb, (t, sb) ∈ m.us → Au s m.ks (bl kss) t sb
 | [], [], [], [], x, o, vs, qs, m, _, _, _, h, _ => by
  have h : some (⟨[], [], []⟩ : MU) = some m := h
  injection h with h
  subst h
  exact ⟨⟨.nil, rfl, fun _ h => by cases h⟩, fun t sb h => by cases h⟩
 | [], [], [], _ :: _, x, o, vs, qs, m, _, _, _, h, _ => by cases h
 | [], [], _ :: _, _, x, o, vs, qs, m, _, _, _, h, _ => by cases h
 | [], _ :: _, _, _, x, o, vs, qs, m, _, _, _, h, _ => by cases h
 | _ :: _, [], _, _, x, o, vs, qs, m, _, _, _, h, _ => by cases h
 | _ :: _, _ :: _, [], _, x, o, vs, qs, m, _, _, _, h, _ => by cases h
 | _ :: _, _ :: _, _ :: _, [], x, o, vs, qs, m, _, _, _, h, _ => by cases h
 | pt :: ps, b :: ls, is :: iss, js :: kss, x, o, vs, qs, m, hv, hd, hl, h, hsn => by
  have h : (match XI s pt b is js o.1, Qr s ps ls iss kss o.2 with | some m, some m' => some (m.app m') | _, _ => none) = some m := h
  cases vs with
  | nil => cases hd
  | cons v vs =>
  rcases hv.cases with ⟨h1, _⟩ | ⟨v', q, vs', qs', h1, rfl, h2, h3⟩
  ·cases h1
  ·injection h1 with e1 e2
   subst e1 e2
   simp only [Hi] at hd
   split at hd
   ·rename_i y is1 ys iss1 m1 m2
    injection hd with hd
    injection hd with e1 e2
    injection e2 with e2 e3
    subst e1 e2 e3
    split at h
    ·rename_i ma mb ha hb
     injection h with h
     subst h
     have hsn : vk B' (ma.us ++ mb.us) := hsn
     obtain ⟨s1, s2⟩ := hsn.app
     obtain ⟨⟨k1, g1, g2⟩, k2⟩ := Wg hs h2 m1 hl.1 ha s1
     obtain ⟨⟨k3, g3, g4⟩, k4⟩ := K9 hs h3 m2 hl.2 hb s2
     refine ⟨⟨k1.app k3, by show ma.gs ++ mb.gs = _; rw [g1, g3]; rfl, fun i hi => ?_⟩, fun t sb hm => ?_⟩
     ·have hi : i ∈ ma.gs ++ mb.gs := hi
      rcases List.mem_append.1 hi with hi | hi
      ·exact dN.2 (List.mem_append_left _ (dN.1 (g2 i hi)))
      ·exact dN.2 (List.mem_append_right _ (dN.1 (g4 i hi)))
     have hm : (t, sb) ∈ ma.us ++ mb.us := hm
     rcases List.mem_append.1 hm with hm | hm
     ·exact (k2 t sb hm).more (fun t ht => dN.2 (List.mem_append_left _ (dN.1 ht))) fun t ht => List.mem_append_left _ ht
     ·exact (k4 t sb hm).more (fun t ht => dN.2 (List.mem_append_right _ (dN.1 ht))) fun t ht => List.mem_append_right _ ht
    ·cases h
   ·cases hd
theorem KY (l : BU) : ∀ (is : List Nat), (∀ i ∈ is, aA G i = true) → UAl G B' (kT is) (DS l is)
 | [], _ => .nil
 | a :: is, hg => .cons a _ _ _ _ (fun y hy => by cases hy) (fun _ => hg a List.mem_cons_self) (KY l is fun i hi => hg i (List.mem_cons_of_mem _ hi))
theorem qO : ∀ {is : List Nat} {t : Nat} {sb : Option aW}, (t, sb) ∈ kT is → t ∈ is ∧ sb = none
 | [], t, sb, h => by cases h
 | a :: is, t, sb, h => by
  rcases List.mem_cons.1 h with e | h
  ·injection e with e1 e2; subst e1 e2; exact ⟨List.mem_cons_self, rfl⟩
  ·obtain ⟨h1, h2⟩ := qO h; exact ⟨List.mem_cons_of_mem _ h1, h2⟩
theorem GS : ∀ {is : List Nat} {t : Nat}, t ∈ is → (t, none) ∈ kT is
 | a :: is, t, h => by
  rcases List.mem_cons.1 h with rfl | h
  ·exact List.mem_cons_self
  ·exact List.mem_cons_of_mem _ (GS h)
theorem D8 : ∀ {ps : List PT} {iss : List (List Nat)} {x : cG ps} {vs : List SV} {bs : List (Nat × Option aW)}, rL ps = true → La ps iss x = some (vs, bs) → vk B' bs → UAl G B' bs (dW ps iss x).2 ∧ cd B' vs (dW ps iss x).1
 | [], [], x, vs, bs, _, h, _ => by
  injection h with h
  injection h with e1 e2
  subst e1 e2
  exact ⟨.nil, .nil⟩
 | [], _ :: _, x, vs, bs, _, h, _ => by cases h
 | _ :: _, [], x, vs, bs, _, h, _ => by cases h
 | pt :: ps, is :: iss, x, vs, bs, hp, h, hs => by
  simp only [La] at h
  simp only [rL] at hp
  split at hp
  ·rename_i hp1
   split at h
   ·rename_i v b vs' bs' he hr
    injection h with h
    injection h with e1 e2
    subst e1 e2
    obtain ⟨s1, s2⟩ := hs.app
    obtain ⟨k1, k2⟩ := IW (G := G) (B' := B') hp1 he s1
    obtain ⟨k3, k4⟩ := D8 hp hr s2
    exact ⟨k1.app k3, .cons k2 k4⟩
   ·cases h
  ·cases hp
theorem UAl.dom {us : List (Nat × Option aW)} {u : BU} (h : UAl G B' us u) : bV u = idU us := by
 induction h with
 | nil => rfl
 | cons t sb b us u h1 h2 h ih => simp only [bV, idU, ih]
theorem Ct : ∀ {l l' : List (Nat × Option aW)}, (idU l).Nodup → vk (l ++ l') l
 | [], _, _, t, x, hm => by cases hm
 | (i, b) :: l, l', hn, t, x, hm => by
  rw [show idU ((i, b) :: l) = i :: idU l from rfl, List.nodup_cons] at hn
  rw [List.cons_append, au]
  rcases List.mem_cons.1 hm with e | hm
  ·injection e with e1 e2
   subst e1 e2
   rw [if_pos rfl]
  ·rw [if_neg (fun (e : t = i) => hn.1 (by rw [← e]; exact eV.2 ⟨_, hm⟩))]
   exact Ct hn.2 t x hm
end
section
variable {B B' : List (Nat × Option aW)} {s : SS} {p : PS} {P : Program} {ρ : Type} {G : List Nat} {sc : List Nat}
theorem Gn : ∀ (rs : List PT) (base : Nat), ir rs (nK base rs)
 | [], _ => trivial
 | p :: l, base => ⟨List.length_range', Gn l _⟩
theorem A4 : ∀ (ls : List IB) (base : Nat), jG ls (tr base ls)
 | [], _ => trivial
 | p :: l, base => ⟨List.length_range', A4 l _⟩
theorem oa : ∀ {l : BU} {t : Nat} {B : Box}, lkU l t = some B → (t, B) ∈ l
 | [], t, B, h => by cases h
 | (j, C) :: l, t, B, h => by
  simp only [lkU] at h
  split at h
  ·rename_i e; subst e; injection h with h; subst h; exact List.mem_cons_self
  ·exact List.mem_cons_of_mem _ (oa h)
theorem wo {rows : List (Nat × Nat × Nat × Ty)} {is : List Nat} : ∀ {ds : List D} {j t : Nat} {Bx : Box}, (t, Bx) ∈ cj (lV rows is) j ds → t ∈ is
 | [], j, t, Bx, h => by cases h
 | d :: ds, j, t, Bx, h => by
  simp only [cj] at h
  split at h
  ·rename_i hf
   split at h
   ·rcases List.mem_cons.1 h with e | h
    ·injection e with e _; subst e; exact CN hf
    ·exact wo h
   ·exact wo h
  ·exact wo h
theorem Ic {pt : PT} {is : List Nat} {x : pt.den} {t : Nat} {Bx : Box} (h : (t, Bx) ∈ (toI pt is x).2) : t ∈ is := by
 cases pt with
 | lf => cases h
 | ag => cases h
 | pl => cases h
 | ps => cases h
 | fn => cases h
 | io => cases h
 | own e k t' =>
  simp only [toI] at h
  split at h
  ·simp only [List.mem_cons, List.not_mem_nil, or_false, Prod.mk.injEq] at h; simp [h.1]
  ·cases h
 | mv e k t' =>
  simp only [toI] at h
  split at h
  ·simp only [List.mem_cons, List.not_mem_nil, or_false, Prod.mk.injEq] at h; simp [h.1]
  ·cases h
 | bx ty n rows =>
  simp only [toI] at h
  split at h
  ·rcases List.mem_cons.1 h with e | h
   ·injection e with e _; subst e; exact List.mem_cons_self
   ·exact List.mem_cons_of_mem _ (wo h)
  ·cases h
 | agr n rows => exact wo h
theorem qT (l : List Nat) (ls : List (List Nat)) : bl (l :: ls) = l ++ bl ls := rfl
theorem CW : ∀ {ps : List PT} {iss : List (List Nat)} {x : cG ps} {t : Nat} {Bx : Box}, (t, Bx) ∈ (dW ps iss x).2 → t ∈ bl iss
 | [], _, _, _, _, h => by cases h
 | _ :: _, [], _, _, _, h => by cases h
 | p :: ps, is :: iss, x, t, Bx, h => by
  simp only [dW, List.mem_append] at h
  rw [qT, List.mem_append]
  exact h.imp Ic CW
def UM (p : PS) : List Nat → BU
 | [] => []
 | t :: l => match p.b t with | some B => (t, B) :: UM p l | none => UM p l
theorem uQ (p : PS) : ∀ (l : List Nat) (t : Nat), lkU (UM p l) t = if t ∈ l then p.b t else none
 | [], t => rfl
 | a :: l, t => by
  simp only [UM]
  cases ha : p.b a with
  | none =>
   rw [uQ p l t]
   by_cases h : t = a
   ·subst h; simp [ha]
   ·simp [h]
  | some B =>
   simp only [lkU]
   by_cases h : t = a
   ·subst h; simp [ha]
   ·simp only [h, if_false, List.mem_cons, false_or]; exact uQ p l t
structure W8 (sc : List Nat) (P : Program) (f : Nat) (dst : Option Nat) (s : SS) (p : PS) (qs : List PV) (v : SV) (m : MU) (r : PV) (u : BU) : Prop where
 ro : s.ro = false
 call : W9 P p.b f qs r u
 sim : Sim (s.updM dst v m) (p.updL dst r u)
 keep : ∀ W, (∀ d, dst = some d → aA W d = true) → dD sc W s (s.updM dst v m)
 foot : ∀ t Bx, lkU u t = some Bx → t ∈ idU m.us
theorem UI {T : List (Nat × Ent)} (hT : p8 P T) (hpr : lO s) (hs : Sim s p) {f : Nat} {dst : Option Nat} {vs : List SV} {qs : List PV} (hM : Rv T f vs = true) (hv : cd s.bx vs qs) {k : SV → MU → Option ρ} {res : ρ} (h : QF T f s dst vs k = some res) :
  ∃ v m r u, k v m = some res ∧ W8 sc P f dst s p qs v m r u := by
 unfold QF at h
 split at h
 ·cases h
 ·rename_i hro
  split at h
  ·rename_i en d hen
   split at h
   ·rename_i x iss hd
    obtain ⟨r, hf, h⟩ := ar h
    simp only at h
    split at h
    ·rename_i m ws bs hm hbs
     obtain ⟨hc, h⟩ := an h
     simp only [Bool.and_eq_true] at hc
     obtain ⟨c1, c2, c3, c4, c5, c6, c7, c10, c8, c9, c11⟩ := hc
     have c1 := Dm c1
     have c2 := Dn c2
     have c3 := iH c3
     have c4 := iH c4
     have c5 := Dp c5
     have c6 := qC c6
     have c7 := qC c7
     have c8 := qC c8
     have hE : (ol en.ps || ol en.rs) = true := by unfold Rv at hM; rw [hen] at hM; exact hM
     obtain ⟨hlen, hsem⟩ := (hT f _ en hen x r hf).2 hE
     obtain ⟨hsh, hargs, hbox⟩ := Lr hs hv hd
     have hall : ∀ i ∈ bl iss, i ∈ bV (dW en.ps iss x).2 := fun i hi => by
      unfold W4 at c10
      split at c10
      ·rename_i vv bi hbi
       rw [Bool.and_eq_true] at c10
       have hse := Ct (l' := []) (iH c10.1)
       obtain ⟨z1, _⟩ := D8 (G := []) c11 hbi hse
       rw [z1.dom]
       exact qC c10.2 i hi
      ·cases c10
     obtain ⟨hcb, hsem⟩ := hsem iss (tr (500000 + 64 * d) (cz en.rs)) (nK (500000 + 64 * d + C0 (cz en.rs)) (eS en.rs)) hsh (A4 _ _) (Gn _ _) c3 (fun j hj => (c2 j (List.mem_append_right _ hj)).2.2) hall
     have hseen : vk ((m.us ++ (bs ++ kT m.gs)) ++ we m.ks s.bx) (m.us ++ (bs ++ kT m.gs)) := Ct c4
     have hG : ∀ i ∈ m.gs, aA (m.gs ++ s.oc) i = true := fun i hi => dN.2 (List.mem_append_left _ hi)
     obtain ⟨s1, s23⟩ := hseen.app
     obtain ⟨s2, _⟩ := s23.app
     obtain ⟨⟨k1, g1, g2⟩, k2⟩ := K9 (G := m.gs ++ s.oc) hs hv hd hlen hm s1
     obtain ⟨k3, k4⟩ := G7 (G := m.gs ++ s.oc) c9 hbs s2
     have hal := k1.app (k3.app (KY (dW en.ps iss x).2 m.gs hG))
     have hids : ∀ t, t ∈ idU m.us ++ m.gs → t ∈ idU (m.us ++ (bs ++ kT m.gs)) := fun t ht => by
      rcases List.mem_append.1 ht with ht | ht
      ·obtain ⟨sb, h⟩ := eV.1 ht; exact eV.2 ⟨sb, List.mem_append_left _ h⟩
      ·exact eV.2 ⟨none, List.mem_append_right _ (List.mem_append_right _ (GS ht))⟩
     have hids2 : ∀ t, t ∈ idU bs → t ∈ idU (m.us ++ (bs ++ kT m.gs)) := fun t ht => by obtain ⟨sb, h⟩ := eV.1 ht; exact eV.2 ⟨sb, List.mem_append_right _ (List.mem_append_left _ h)⟩
     have hids3 : ∀ t, t ∈ idU (m.us ++ (bs ++ kT m.gs)) → t ∈ idU m.us ++ m.gs ∨ t ∈ idU bs := fun t ht => by
      obtain ⟨sb, h⟩ := eV.1 ht
      rcases List.mem_append.1 h with h | h
      ·exact .inl (List.mem_append_left _ (eV.2 ⟨sb, h⟩))
      ·rcases List.mem_append.1 h with h | h
       ·exact .inr (eV.2 ⟨sb, h⟩)
       ·exact .inl (List.mem_append_right _ (qO h).1)
     have hlk := fun t => Tj hal (we m.ks s.bx) t
     have hnone2 : ∀ t, t ∈ idU bs ++ (bl (tr (500000 + 64 * d) (cz en.rs)) ++ bl (nK (500000 + 64 * d + C0 (cz en.rs)) (eS en.rs))) → p.b t = none := fun t ht => by
      obtain ⟨n1, n2, _⟩ := c2 t ht
      have := hs.bx t
      rw [n2] at this
      exact this (mq n1).1
     have hnone : ∀ t, t ∈ idU bs → p.b t = none := fun t ht => hnone2 t (List.mem_append_left _ ht)
     have hBL : XT m.ks s.bx ((m.us ++ (bs ++ kT m.gs)) ++ we m.ks s.bx) := by
      refine ⟨fun t hk e kk ty xs pins hb => ?_, fun t ty cs hb => ?_⟩
      ·rcases hlk t with ⟨m1, sb, b, m2, m3, m4, m5⟩ | ⟨m1, m2, _⟩
       ·obtain ⟨sb', hsb'⟩ := eV.1 m1
        rcases List.mem_append.1 hsb' with hin | hin
        ·rcases k2 t sb' hin with q | q | ⟨ty', cs', q⟩ | ⟨e1, kk1, ty1, xs1, pins1, e2, kk2, ty2, xs2, q1, q2, q3⟩
         ·rw [hk] at q; cases q
         ·have := (c2 t (List.mem_append_right _ (List.mem_append_left _ q))).2.1
          rw [hb] at this
          cases this
         ·rw [hb] at q; cases q
         ·rw [hb] at q1
          injection q1 with q1
          injection q1 with z1 z2 z3 z4 z5
          subst z3
          have z4 := eq_of_heq z4
          subst z1 z2 z4 z5 q2
          refine ⟨_, _, _, _, _, hseen t _ (List.mem_append_left _ hin), q3, fun pp pin hp => ⟨⟨pin.i, none⟩, by rw [mt, hp]; rfl, rfl⟩⟩
        ·rcases List.mem_append.1 hin with hin | hin
         ·have := (c2 t (List.mem_append_left _ (eV.2 ⟨_, hin⟩))).2.1
          rw [hb] at this
          cases this
         ·rw [g2 t (qO hin).1] at hk; cases hk
       ·exact ⟨e, kk, ty, xs, pins, by rw [m2, tA, hb]; rfl, rfl, fun _ pin hp => ⟨pin, hp, rfl⟩⟩
      ·rcases hlk t with ⟨m1, sb, b, m2, m3, m4, m5⟩ | ⟨m1, m2, _⟩
       ·obtain ⟨sb', hsb'⟩ := eV.1 m1
        rcases List.mem_append.1 hsb' with hin | hin
        ·obtain ⟨cs', q1, _⟩ := c5 t sb' (List.mem_append_left _ hin) ty cs hb
         subst q1
         exact ⟨ty, cs', hseen t _ (List.mem_append_left _ hin)⟩
        ·rcases List.mem_append.1 hin with hin | hin
         ·have := (c2 t (List.mem_append_left _ (eV.2 ⟨_, hin⟩))).2.1
          rw [hb] at this
          cases this
         ·obtain ⟨cs', q1, _⟩ := c5 t sb' (List.mem_append_right _ hin) ty cs hb
          rw [(qO hin).2] at q1
          cases q1
       ·exact ⟨ty, _, by rw [m2, tA, hb]; rfl⟩
     have hu : ∀ t, lkU (sG en.ps en.rs iss (tr (500000 + 64 * d) (cz en.rs)) (nK (500000 + 64 * d + C0 (cz en.rs)) (eS en.rs)) x r) t = lkU (QT en.ps (cz en.rs) iss (tr (500000 + 64 * d) (cz en.rs)) x (jB en.rs r) ++ ((cU (eS en.rs) (nK (500000 + 64 * d + C0 (cz en.rs)) (eS en.rs)) (it en.rs r)).2 ++ DS (dW en.ps iss x).2 m.gs)) t := fun t => by unfold sG; rw [g1]
     refine ⟨TO ws, ⟨m.ks, m.us ++ (bs ++ kT m.gs), m.gs⟩, xE (cU (eS en.rs) (nK (500000 + 64 * d + C0 (cz en.rs)) (eS en.rs)) (it en.rs r)).1, sG en.ps en.rs iss (tr (500000 + 64 * d) (cz en.rs)) (nK (500000 + 64 * d + C0 (cz en.rs)) (eS en.rs)) x r, h, hro, ⟨hcb, UM p (bl iss), fun t Bx ht => ?_, fun t Bx ht hn => ?_, fun w0 F0 ρ' b w F ws' hb hbn hi hr => ?_⟩, ⟨fun i => ?_, fun t => ?_⟩, fun W hW => ?_, fun t Bx ht => ?_⟩
     ·rw [uQ] at ht
      split at ht
      ·rename_i hin
       rcases hlk t with ⟨_, _, b, _, m3, _⟩ | ⟨m1, _⟩
       ·exact ⟨⟨b, (hu t).trans m3⟩, ht⟩
       ·exact absurd (hids t (c6 t hin)) m1
      ·cases ht
     ·rw [uQ] at hn
      rcases hlk t with ⟨m1, _⟩ | ⟨_, _, m3⟩
      ·rcases hids3 t m1 with m1 | m1
       ·rcases List.mem_append.1 (c7 t m1) with m1 | m1
        ·rw [if_pos m1] at hn; exact hn
        ·exact hnone2 t (List.mem_append_right _ (List.mem_append_left _ m1))
       ·exact hnone t m1
      ·rw [hu, m3] at ht; cases ht
     ·refine hsem w0 F0 ρ' b w F ws' qs hargs (fun t Bx ht => ?_) (fun t ht => ?_) hi hr
      ·have hm := oa ht
       obtain ⟨B1, q1, q2⟩ := hbox t Bx hm
       exact ⟨B1, hb t B1 (by rw [uQ, if_pos (CW hm)]; exact q1), q2⟩
      ·have hin := c8 t ht
       rcases hlk t with ⟨_, _, b1, _, m3, _⟩ | ⟨m1, _⟩
       ·refine hbn t b1 ((hu t).trans m3) ?_
        rw [uQ, if_neg (fun h1 => ?_)]
        exact (List.nodup_append.1 c3).2.2 t h1 t ht rfl
       ·exact absurd ((List.mem_append.1 hin).elim (fun h => hids t (List.mem_append_left _ h)) (hids2 t)) m1
     ·show a8 ((m.us ++ (bs ++ kT m.gs)) ++ we m.ks s.bx) (lkV (rC (QX m.ks s.sl) (some d) (TO ws)) i) (wb p.t (some d) _ i)
      rw [uI]
      unfold wb
      split
      ·exact TN k4
      ·rw [Nm]; exact (hs.sl i).st hBL
     ·show lU ((m.us ++ (bs ++ kT m.gs)) ++ we m.ks s.bx) (aA (m.gs ++ s.oc) t) (lkB ((m.us ++ (bs ++ kT m.gs)) ++ we m.ks s.bx) t) (dF p.b _ t)
      rcases hlk t with ⟨_, sb, b, m2, m3, m4, m5⟩ | ⟨_, m2, m3⟩
      ·rw [m2]
       have hb : dF p.b (sG en.ps en.rs iss (tr (500000 + 64 * d) (cz en.rs)) (nK (500000 + 64 * d + C0 (cz en.rs)) (eS en.rs)) x r) t = some b := by simp only [dF, hu, m3]
       rw [hb]
       cases sb with
       | none => intro ho; rw [m5 rfl] at ho; cases ho
       | some y => have := m4 y rfl; cases y <;> exact this
      ·rw [m2, tA]
       have hb : dF p.b (sG en.ps en.rs iss (tr (500000 + 64 * d) (cz en.rs)) (nK (500000 + 64 * d + C0 (cz en.rs)) (eS en.rs)) x r) t = p.b t := by simp only [dF, hu, m3]
       rw [hb]
       have hbx := hs.bx t
       cases hl : lkB s.bx t with
       | none =>
        rw [hl] at hbx
        intro ho
        refine hbx (xJ.2 fun hi => ?_)
        rw [xJ] at ho
        exact ho (List.mem_append_right _ hi)
       | some y =>
        rw [hl] at hbx
        cases y with
        | st ty cs => obtain ⟨qs', z1, z2⟩ := hbx; exact ⟨qs', z1, z2.st hBL⟩
        | rw e kk ty xs pins => exact hbx
     ·have hkp : ∀ t, aA m.ks t = true → aA s.pr t = false := fun t ht => c1 t (List.mem_append_right _ (List.mem_append_left _ (dN.1 ht)))
      refine ⟨rfl, rfl, fun t ht => ?_, fun i hi hsf => ?_, fun t _ ty cs hb => ?_⟩
      ·show kv _ (lkB ((m.us ++ (bs ++ kT m.gs)) ++ we m.ks s.bx) t)
       rcases hlk t with ⟨m1, _⟩ | ⟨_, m2, _⟩
       ·rcases hids3 t m1 with m1 | m1
        ·have : t ∈ idU m.us ++ (m.ks ++ m.gs) := by
          rcases List.mem_append.1 m1 with m1 | m1
          ·exact List.mem_append_left _ m1
          ·exact List.mem_append_right _ (List.mem_append_right _ m1)
         rw [c1 t this] at ht; cases ht
        ·rw [(mq (c2 t (List.mem_append_left _ m1)).1).2] at ht; cases ht
       ·rw [m2, tA]
        obtain ⟨b', z1, z2⟩ := hpr t ht
        rw [z1]
        cases b' with
        | st ty cs => simp only [Option.map_some, XY]; rw [oA cs z2]; rfl
        | rw e kk ty xs pins => exact ⟨pins, rfl⟩
      ·show lkV (rC (QX m.ks s.sl) (some d) (TO ws)) i = lkV s.sl i
       rw [uI, if_neg (fun e => by rw [hW i e] at hi; cases hi), Nm]
       exact PE hkp _ hsf
      ·show ∃ cs', lkB ((m.us ++ (bs ++ kT m.gs)) ++ we m.ks s.bx) t = _ ∧ _
       rcases hlk t with ⟨m1, sb, b, m2, m3, m4, m5⟩ | ⟨m1, m2, _⟩
       ·obtain ⟨sb', hsb'⟩ := eV.1 m1
        rcases List.mem_append.1 hsb' with hin | hin
        ·obtain ⟨cs', q1, q2⟩ := c5 t sb' (List.mem_append_left _ hin) ty cs hb
         subst q1
         exact ⟨cs', hseen t _ (List.mem_append_left _ hin), q2⟩
        ·rcases List.mem_append.1 hin with hin | hin
         ·have := (c2 t (List.mem_append_left _ (eV.2 ⟨_, hin⟩))).2.1
          rw [hb] at this
          cases this
         ·obtain ⟨cs', q1, q2⟩ := c5 t sb' (List.mem_append_right _ hin) ty cs hb
          rw [(qO hin).2] at q1
          cases q1
       ·exact ⟨_, by rw [m2, tA, hb]; rfl, oP _ _⟩
     ·rcases hlk t with ⟨m1, _⟩ | ⟨_, _, m3⟩
      ·exact m1
      ·rw [hu, m3] at ht; cases ht
    ·cases h
   ·cases h
  ·cases h
end
section
variable {sc : List Nat} {P : Program} {T : List (Nat × Ent)} {ops : Array Oper}
def LeQ (q : Bool) (p p' : PS) : Prop := match q with | true => Le p p' | false => p' = p
theorem LeQ.refl (q : Bool) (p : PS) : LeQ q p p := by cases q; exact rfl; exact Le.refl p
def vm (q : Bool) (P : Program) (ops : Array Oper) (bd : Nat → Bd) : Nat → List Oper → PS → (PS → Prop) → Prop
 | _, [], s, K => K s
 | i, o :: l, s, K => ∃ s1, LeQ q s s1 ∧ ∃ r u, Eff P ops o s1 r u ∧ (q = false → fj ops o s1 u (bd i)) ∧ vm q P ops bd (i + 1) l (s1.updL o.dst r u) K
theorem KM {bd : Nat → Bd} {w0 : WM} {F0 : Nat → Prop} {n : Nat} {Q : Exit → Act → World → Prop} {Qs : Exit → PS → Prop} (hQ : ∀ e s a w, Qs e s → nD n w0 F0 s a w → Q e a w) : ∀ (i : Nat) (l : List Oper) (s : PS) (a : Act) (w : World), Ha n l = true → vm true P ops bd i l s (Qs .normal) → nD n w0 F0 s a w → wpList P ops Q l a w
 | _, [], s, a, w, _, h, hc => hQ _ s a w h hc
 | i, o :: l, s, a, w, hd, h, hc => by
  obtain ⟨s1, h1, r, u, h2, _, h3⟩ := h
  have hc1 := (show Le s s1 from h1) n w0 F0 a w hc
  obtain ⟨hd1, hd2⟩ := NF hd
  exact wpList_step fun K hK => TK (f := 0) hc1 h2 hd1 (fun a' w' hc' => hK _ _ (KM hQ (i + 1) l _ a' w' hd2 h3 hc'))
theorem Kw {bd : Nat → Bd} {n : Nat} {Qs : Exit → PS → Prop} {s : PS} {id : Nat} {l : List Oper} (hd : Ha n l = true) (h : vm true P l.toArray bd 0 l s (Qs .normal)) : PWP P n (.region id l.toArray false) Qs s :=
 fun _ _ a w hc => wp_region_lit (KM (Qs := Qs) (fun _ s' _ _ h1 h2 => ⟨s', h1, h2⟩) 0 l s a w hd h hc)
theorem zJ {bd : Nat → Bd} {K : PS → Prop} : ∀ (l : List Oper) (k : Nat) (s : PS), (∀ j, j < l.length → l[j]? = ops[k + j]?) → vm false P ops bd k l s K → EF P ops bd (List.range' k l.length) s K
 | [], k, s, _, h => h
 | o :: l, k, s, hl, h => by
  obtain ⟨s1, he, r, u, h1, hf, h2⟩ := h
  have he : s1 = s := he
  subst he
  have h0 : ops[k]? = some o := by simpa using (hl 0 (by simp)).symm
  rw [List.length_cons, List.range'_succ]
  exact ⟨o, r, u, h0, h1, hf rfl, zJ l (k + 1) _ (fun j hj => by have := hl (j + 1) (by simp; omega); simpa [Nat.add_assoc, Nat.add_comm 1 j] using this) h2⟩
theorem PI {bd : Nat → Bd} {K : PS → Prop} : ∀ (l : List Oper) (i k : Nat) (s : PS), (∀ j, j < l.length → l[j]? = ops[k + j]?) → vm true P ops bd i l s K → RX P ops (List.range' k l.length) s K
 | [], i, k, s, _, h => h
 | o :: l, i, k, s, hl, h => by
  obtain ⟨s1, hle, r, u, h1, _, h2⟩ := h
  have h0 : ops[k]? = some o := by simpa using (hl 0 (by simp)).symm
  rw [List.length_cons, List.range'_succ]
  exact ⟨s1, hle, o, r, u, h0, h1, PI l (i + 1) (k + 1) _ (fun j hj => by have := hl (j + 1) (by simp; omega); simpa [Nat.add_assoc, Nat.add_comm 1 j] using this) h2⟩
theorem fI {q : Bool} {bd : Nat → Bd} : ∀ {l : List Oper} {i : Nat} {p : PS} {K K' : PS → Prop}, vm q P ops bd i l p K → (∀ p', K p' → K' p') → vm q P ops bd i l p K'
 | [], i, p, K, K', h, hk => hk p h
 | o :: l, i, p, K, K', h, hk => by
  obtain ⟨s1, h1, r, u, h2, hf, h3⟩ := h
  exact ⟨s1, h1, r, u, h2, hf, fI h3 hk⟩
theorem A7 {q : Bool} {bd : Nat → Bd} : ∀ {a b : List Oper} {i : Nat} {p : PS} {K : PS → Prop}, vm q P ops bd i a p (fun p' => vm q P ops bd (i + a.length) b p' K) → vm q P ops bd i (a ++ b) p K
 | [], b, i, p, K, h => h
 | o :: a, b, i, p, K, h => by
  obtain ⟨s1, h1, r, u, h2, hf, h3⟩ := h
  refine ⟨s1, h1, r, u, h2, hf, A7 ?_⟩
  rw [List.length_cons] at h3
  rw [show i + 1 + a.length = i + (a.length + 1) by omega]
  exact h3
mutual
theorem oT {B : List (Nat × Option aW)} : ∀ {v : SV} {q : PV} {l : List Nat}, a8 B v q → vF v = some l → ∀ x ∈ bb q, x ∈ l
 | .junk, q, l, _, h, x, hx => by cases h
 | .d c, q, l, hv, h, x, hx => by cases hv with | d _ y _ => simp [bb] at hx
 | .fe cs, q, l, hv, h, x, hx => by cases hv with | fe _ ds _ _ => simp [bb] at hx
 | .ptr t o, q, l, hv, h, x, hx => by
  cases hv with
  | ptr _ _ ty cs hb => injection h with h; subst h; simpa [bb] using hx
 | .row t, q, l, hv, h, x, hx => by
  cases hv with
  | row _ n e k ty xs pins hb hn => injection h with h; subst h; simpa [bb] using hx
 | .re t p o, q, l, hv, h, x, hx => by
  cases hv with
  | re _ _ _ n i e k ty xs pins pin hb hn hp hi => injection h with h; subst h; simpa [bb] using hx
 | .vw t p o, q, l, hv, h, x, hx => by
  cases hv with
  | vw _ _ _ n e k ty xs pins hb hn => injection h with h; subst h; simpa [bb] using hx
 | .ag cs, q, l, hv, h, x, hx => by
  cases hv with
  | ag _ qs hl hr => exact ml (qs := qs) ⟨hl, hr⟩ h x (by simpa [bb] using hx)
 | .tup cs, q, l, hv, h, x, hx => by
  cases hv with
  | tup _ qs hl hr => exact ml (qs := qs) ⟨hl, hr⟩ h x (by simpa [bb] using hx)
 | .fn f ps qs, q, l, hv, h, x, hx => by
  cases hv with
  | fn _ _ _ ps' qs' hl hr hl2 hr2 =>
   simp only [vF] at h
   split at h
   ·rename_i a b ha hb
    injection h with h
    subst h
    simp only [bb, List.mem_append] at hx ⊢
    rcases hx with hx | hx
    ·exact .inl (ml (qs := ps') ⟨hl, hr⟩ ha x hx)
    ·exact .inr (ml (qs := qs') ⟨hl2, hr2⟩ hb x hx)
   ·cases h
theorem ml {B : List (Nat × Option aW)} : ∀ {cs : List SV} {qs : List PV} {l : List Nat}, cd B cs qs → qg cs = some l → ∀ x ∈ bH qs, x ∈ l
 | [], qs, l, hv, h, x, hx => by
  rcases hv.cases with ⟨_, rfl⟩ | ⟨_, _, _, _, h1, _⟩
  ·simp [bH] at hx
  ·cases h1
 | c :: cs, qs, l, hv, h, x, hx => by
  rcases hv.cases with ⟨h1, _⟩ | ⟨c', q, cs', qs', h1, rfl, h2, h3⟩
  ·cases h1
  ·injection h1 with e1 e2
   subst e1 e2
   simp only [qg] at h
   split at h
   ·rename_i a b ha hb
    injection h with h
    subst h
    simp only [bH, List.mem_append] at hx ⊢
    rcases hx with hx | hx
    ·exact .inl (oT h2 ha x hx)
    ·exact .inr (ml h3 hb x hx)
   ·cases h
end
theorem K0 {o : Oper} {s : SS} {p : PS} {l : List Nat} (hs : Sim s p) (h : Qi o s = some l) : ∀ x ∈ o0 o p, x ∈ l := by
 unfold Qi at h
 unfold o0
 split at h <;> rename_i ho <;> simp only [ho]
 ·exact oT (ca hs _) h
 ·exact oT (ca hs _) h
 ·exact oT (ca hs _) h
 ·exact oT (ca hs _) h
 ·exact oT (ca hs _) h
 ·rename_i c
  split at h
  ·rename_i f hf
   simp only [hf]
   split at h
   ·rename_i a b ha hb
    injection h with h
    subst h
    intro x hx
    rcases List.mem_append.1 hx with hx | hx
    ·exact List.mem_append_left _ (oT (ca hs f) ha x hx)
    ·exact List.mem_append_right _ (ml (nv hs c.args.toList) hb x hx)
   ·cases h
  ·rename_i hf
   split
   ·rename_i f hf2
    exact absurd hf2 (hf f)
   ·exact ml (nv hs c.args.toList) h
 ·intro x hx
  simp at hx
theorem qD : ∀ {l m : List Nat}, MW l m = true → ∀ x ∈ l, fj.memL m x = true
 | [], m, _, x, hx => by cases hx
 | a :: l, m, h, x, hx => by
  simp only [MW] at h
  split at h
  ·rename_i ha
   rcases List.mem_cons.1 hx with rfl | hx
   ·exact ha
   ·exact qD h x hx
  ·cases h
theorem GC : ∀ {l : List Nat} {x : Nat}, fj.memL l x = true → x ∈ l
 | [], x, h => by cases h
 | a :: l, x, h => by
  rw [zU, Bool.or_eq_true] at h
  rcases h with h | h
  ·have := zd h; subst this; simp
  ·exact List.mem_cons_of_mem _ (GC h)
theorem K1 {B : List Bd} {i : Nat} {o : Oper} {s : SS} {p : PS} {u : Upd} {w : Option (Nat × Box)} (hs : Sim s p) (hw : OkW s o.dst u w) {q : Bool} (h : GV q B i o s u = true) : q = false → fj ops o p w.toList (xG B i) := by
 intro hq
 subst hq
 unfold GV at h
 simp only at h
 split at h
 ·rename_i fs hf
  rw [Bool.and_eq_true] at h
  refine ⟨fun _ x hx => qD h.1 x (K0 hs hf x hx), fun x Bx hx => ?_⟩
  cases w with
  | none => cases hx
  | some y =>
   obtain ⟨t, b⟩ := y
   simp only [Option.toList, lkU] at hx
   split at hx
   ·rename_i e
    subst e
    exact qD h.2 x (GC (hw x b rfl).2)
   ·cases hx
 ·cases h
theorem Uj {B : List Bd} {i : Nat} {o : Oper} {s : SS} {p : PS} {m : MU} {u : BU} (hs : Sim s p) (hw : ∀ t Bx, lkU u t = some Bx → t ∈ idU m.us) {q : Bool} (h : Qj q B i o s m = true) : q = false → fj ops o p u (xG B i) := by
 intro hq
 subst hq
 unfold Qj at h
 simp only at h
 split at h
 ·rename_i fs hf
  rw [Bool.and_eq_true] at h
  exact ⟨fun _ x hx => qD h.1 x (K0 hs hf x hx), fun x Bx hx => qD h.2 x (hw x Bx hx)⟩
 ·cases h
theorem df : ∀ (a b : List Nat) (i : Nat), aA (a ++ b) i = (aA a i || aA b i)
 | [], b, i => rfl
 | j :: a, b, i => by
  simp only [List.cons_append, aA, df a b i]
  split <;> simp
theorem aX (j : Nat) (l : List Nat) (i : Nat) : aA (j :: l) i = (decide (i = j) || aA l i) := by
 simp only [aA, cW]
 by_cases h : i = j
 ·simp [h]
 ·simp [h]
theorem CS : ∀ {g : Nat} {l a b : List Oper} {d : Nat}, PD g l = some (a, d, b) → l = a ++ b ∧ ∃ o ∈ a, o.dst = some d
 | g, [], a, b, d, h => by cases h
 | g, o :: l, a, b, d, h => by
  simp only [PD] at h
  split at h
  ·rename_i d' hd
   injection h with h
   injection h with h1 h2
   injection h2 with h2 h3
   subst h1 h2 h3
   refine ⟨rfl, o, List.mem_cons_self, ?_⟩
   split at hd
   ·rename_i g' d2 e1 e2 hdst
    split at hd
    ·injection hd with hd; subst hd; exact hdst
    ·cases hd
   ·cases hd
  ·split at h
   ·rename_i a' d' b' h'
    injection h with h
    injection h with h1 h2
    injection h2 with h2 h3
    subst h1 h2 h3
    obtain ⟨h4, o', h5, h6⟩ := CS h'
    exact ⟨by rw [h4]; rfl, o', List.mem_cons_of_mem _ h5, h6⟩
   ·cases h
theorem rZ : ∀ {l : List Oper} {o : Oper} {d : Nat}, o ∈ l → o.dst = some d → aA (cn l) d = true
 | [], o, d, h, _ => by cases h
 | x :: l, o, d, h, hd => by
  rcases List.mem_cons.1 h with rfl | h
  ·simp only [cn, hd, aX, decide_true, Bool.true_or]
  ·have := rZ h hd
   simp only [cn]
   split
   ·simp [aX, this]
   ·exact this
theorem Aj : ∀ {l : List Oper} {d : Nat}, aA (cn l) d = true → ∃ o ∈ l, o.dst = some d
 | [], d, h => by cases h
 | x :: l, d, h => by
  simp only [cn] at h
  split at h
  ·rename_i d' hd'
   rw [aX, Bool.or_eq_true] at h
   rcases h with h | h
   ·have := zd h
    subst this
    exact ⟨x, List.mem_cons_self, hd'⟩
   ·obtain ⟨o, h1, h2⟩ := Aj h
    exact ⟨o, List.mem_cons_of_mem _ h1, h2⟩
  ·obtain ⟨o, h1, h2⟩ := Aj h
   exact ⟨o, List.mem_cons_of_mem _ h1, h2⟩
theorem wL : ∀ (a b : List Oper), cn (a ++ b) = cn a ++ cn b
 | [], b => rfl
 | o :: a, b => by
  simp only [List.cons_append, cn, wL a b]
  split <;> rfl
theorem tv : ∀ (ds : List Nat) (l : List (Nat × SV)) (i : Nat), lkV (oe ds l) i = if aA ds i = true then .junk else lkV l i
 | [], l, i => by simp [oe, aA]
 | d :: ds, l, i => by
  simp only [oe, cV, tv ds l i, aX]
  by_cases h : i = d
  ·simp [h]
  ·simp [h]
structure Fr (l : List Oper) (s : SS) (p p' : PS) : Prop where
 t : s.ro = true → ∀ i, aA (cn l) i = false → p'.t i = p.t i
 b : s.ro = true → ∀ t, (lkB s.bx t ≠ none ∨ aA (cn l) t = false) → p'.b t = p.b t
theorem Xe {s : SS} {dst : Option Nat} {v : SV} {u : Upd} {t : Nat} (h : lkB s.bx t ≠ none) : lkB (s.upd dst v u).bx t ≠ none := by
 cases u with
 | no => exact h
 | grow t' b =>
  show lkB ((t', some b) :: nH t' s.bx) t ≠ none
  rw [au]
  split
  ·simp
  ·rw [jb]; simpa using h
 | _ =>
  rename_i t' b
  show lkB ((t', some b) :: s.bx) t ≠ none
  rw [au]
  split
  ·simp
  ·exact h
theorem Tf {s : SS} {dst : Option Nat} {v : SV} {u : Upd} : (s.upd dst v u).ro = s.ro := by cases u <;> rfl
theorem Wa {o : Oper} {l : List Oper} {s : SS} {p p' : PS} {v : SV} {u : Upd} {q : PV} {w : Option (Nat × Box)} (hw : OkW s o.dst u w) (h : Fr l (s.upd o.dst v u) (p.upd o.dst q w) p') : Fr (o :: l) s p p' := by
 have sub : ∀ i, aA (cn (o :: l)) i = false → aA (cn l) i = false ∧ o.dst ≠ some i := fun i hi => by
  simp only [cn] at hi
  split at hi
  ·rename_i d hd
   rw [aX, Bool.or_eq_false_iff] at hi
   refine ⟨hi.2, fun e => ?_⟩
   rw [hd] at e
   injection e with e
   have := of_decide_eq_false hi.1
   exact this e.symm
  ·rename_i hd
   exact ⟨hi, fun e => by rw [hd] at e; cases e⟩
 refine ⟨fun hro i hi => ?_, fun hro t ht => ?_⟩
 ·obtain ⟨h1, h2⟩ := sub i hi
  rw [h.t (by rw [Tf]; exact hro) i h1]
  simp only [PS.upd, wb, if_neg h2]
 ·have hb : (p.upd o.dst q w).b t = p.b t := by
   show dm p.b w t = p.b t
   unfold dm
   split
   ·rename_i j Bx
    rcases (hw j Bx rfl).1 with ⟨h1, h2⟩ | h1
    ·split
     ·rename_i e
      subst e
      rcases ht with ht | ht
      ·exact absurd h1 ht
      ·exact absurd h2 (sub t ht).2
     ·rfl
    ·rw [hro] at h1; cases h1
   ·rfl
  rw [h.b (by rw [Tf]; exact hro) t (ht.imp Xe fun ht => (sub t ht).1), hb]
def Fj (sc W : List Nat) (l : List Oper) (s : SS) (p : PS) {ρ : Type} (k : SS → Option ρ) (res : ρ) (p' : PS) : Prop := ∃ s', Sim s' p' ∧ dD sc W s s' ∧ lO s' ∧ k s' = some res ∧ Fr l s p p'
theorem zO {W : List Nat} {o : Oper} {l : List Oper} {s : SS} {p p' : PS} {ρ : Type} {k : SS → Option ρ} {res : ρ} {v : SV} {u : Upd} {q : PV} {w : Option (Nat × Box)} (hW : ∀ d, o.dst = some d → aA W d = true) (hpr : lO s) (hu : OkU s u) (hw : OkW s o.dst u w)
  (h : Fj sc W l (s.upd o.dst v u) (p.upd o.dst q w) k res p') : Fj sc W (o :: l) s p k res p' := by
 obtain ⟨s', h1, h2, h3, h4, h5⟩ := h
 exact ⟨s', h1, (xP hu hW hpr).trans h2, h3, h4, Wa hw h5⟩
theorem Nd {W : List Nat} {f : Nat} {qs : List PV} {o : Oper} {l : List Oper} {s : SS} {p p' : PS} {ρ : Type} {k : SS → Option ρ} {res : ρ} {v : SV} {m : MU} {r : PV} {u : BU} (hW : ∀ d, o.dst = some d → aA W d = true) (hR : W8 sc P f o.dst s p qs v m r u)
  (h : Fj sc W l (s.updM o.dst v m) (p.updL o.dst r u) k res p') : Fj sc W (o :: l) s p k res p' := by
 obtain ⟨s', h1, h2, h3, h4, h5⟩ := h
 exact ⟨s', h1, (hR.keep W hW).trans h2, h3, h4, fun hro => (by rw [hR.ro] at hro; cases hro), fun hro => (by rw [hR.ro] at hro; cases hro)⟩
theorem VN {q : Bool} {o : Oper} {s s' : SS} {p : PS} (hpr : lO s) (hs : Sim s p) (h : VO q T o s = some s') : ∃ p', LeQ q p p' ∧ Sim s' p' ∧ (∀ W, dD sc W s s') ∧ (s.ro = true → s' = s ∧ p' = p) ∧ (o.guard = none ∨ p' = p) := by
 have triv : s' = s → ∃ p', LeQ q p p' ∧ Sim s' p' ∧ (∀ W, dD sc W s s') ∧ (s.ro = true → s' = s ∧ p' = p) ∧ (o.guard = none ∨ p' = p) := fun e => by
  subst e; exact ⟨p, .refl _ _, hs, fun W => .refl W s', fun _ => ⟨rfl, rfl⟩, .inr rfl⟩
 unfold VO at h
 split at h
 ·rename_i hro hg
  have froz : ∀ {l : List Nat}, kU l s = some s' → ∃ p', LeQ true p p' ∧ Sim s' p' ∧ (∀ W, dD sc W s s') ∧ (s.ro = true → s' = s ∧ p' = p) ∧ (o.guard = none ∨ p' = p) := fun h => by
   obtain ⟨p', k1, k2, k3, k4⟩ := wF (sc := sc) hpr hs h
   exact ⟨p', k1, k2, k3, fun h => (by rw [hro] at h; cases h), .inl hg⟩
  split at h
  ·exact froz h
  ·split at h
   ·split at h
    ·split at h
     ·exact froz h
     ·split at h
      ·injection h with h; exact triv h.symm
      ·exact froz h
    ·injection h with h; exact triv h.symm
   ·injection h with h; exact triv h.symm
  ·injection h with h; exact triv h.symm
 ·injection h with h; exact triv h.symm
theorem Df {W : List Nat} {l : List Oper} {s s1 : SS} {p p1 p' : PS} {ρ : Type} {k : SS → Option ρ} {res : ρ} (hk : dD sc W s s1) (hro : s.ro = true → s1 = s ∧ p1 = p) (h : Fj sc W l s1 p1 k res p') : Fj sc W l s p k res p' := by
 obtain ⟨s', h1, h2, h3, h4, h5⟩ := h
 refine ⟨s', h1, hk.trans h2, h3, h4, fun hr => ?_, fun hr => ?_⟩
 ·obtain ⟨e1, e2⟩ := hro hr
  subst e1 e2
  exact h5.t hr
 ·obtain ⟨e1, e2⟩ := hro hr
  subst e1 e2
  exact h5.b hr
theorem Cu {q : Bool} {B : List Bd} (hT : p8 P T) {W : List Nat} : ∀ (n i : Nat) (kn : List Nat) (l : List Oper) {ρ : Type} {s : SS} {p : PS} {k : SS → Option ρ} {res : ρ}, (∀ o ∈ l, ∀ d, o.dst = some d → aA W d = true) → (∀ (j : Nat) (o : Oper), ops[j]? = some o → ∀ d, o.dst = some d → aA W d = true) →
  (∀ o ∈ l, ∀ t x y, o.op = .store t x y → o.dst = none) → lO s → Sim s p → te q P T ops B n i kn l s k = some res → vm q P ops (xG B) i l p (Fj sc W l s p k res) := by
 intro n
 induction n with
 | zero =>
  intro i kn l ρ s p k res hW hO hst hpr hs h
  cases l with
  | nil => exact ⟨s, hs, .refl _ _, hpr, h, fun _ _ _ => rfl, fun _ _ _ => rfl⟩
  | cons o l => cases h
 | succ n ih =>
  intro i kn l ρ s p k res hW hO hst hpr hs h
  cases l with
  | nil => exact ⟨s, hs, .refl _ _, hpr, h, fun _ _ _ => rfl, fun _ _ _ => rfl⟩
  | cons o l =>
   have hWo := hW o List.mem_cons_self
   have hWl : ∀ o ∈ l, ∀ d, o.dst = some d → aA W d = true := fun o ho => hW o (List.mem_cons_of_mem _ ho)
   have hstl : ∀ o ∈ l, ∀ t x y, o.op = .store t x y → o.dst = none := fun o ho => hst o (List.mem_cons_of_mem _ ho)
   have goOk : jY ops o p = some true → (match VO q T o s with
     | none => none
     | some s => (match tN o with
      | some (x, xs) => (match evX s x with
       | .fn f ps qs => (match Rv T f (ps ++ vj s xs ++ qs) with
        | false => chk (GV q B i o s .no) (QE T f s (ps ++ vj s xs ++ qs) fun r => te q P T ops B n (i + 1) kn l (s.upd o.dst r .no) k)
        | true => QF T f s o.dst (ps ++ vj s xs ++ qs) fun v m => chk (Qj q B i o s m) (te q P T ops B n (i + 1) kn l (s.updM o.dst v m) k))
       | _ => none)
      | none => Wj P o s fun v u => chk (GV q B i o s u) (te q P T ops B n (i + 1) kn l (s.upd o.dst v u) k))) = some res → vm q P ops (xG B) i (o :: l) p (Fj sc W (o :: l) s p k res) := by
    intro hg h
    split at h
    ·cases h
    ·rename_i s1 hfz
     obtain ⟨p1, hle, hs1, hk1, hro, hgn⟩ := VN (sc := sc) hpr hs hfz
     have hg1 : jY ops o p1 = some true := by
      rcases hgn with hgn | hgn
      ·simp [jY, hgn]
      ·rw [hgn]; exact hg
     have hpr1 : lO s1 := (hk1 []).prOk hpr
     have mk : ∀ {r : PV} {u : BU}, J3 P o p1 r u → Eff P ops o p1 r u := fun h => by unfold Eff; rw [hg1]; exact h
     split at h
     ·rename_i x xs hc
      have hx := ca hs1 x
      split at h
      rotate_left
      ·cases h
      rename_i f ps qs hev
      rw [hev] at hx
      obtain ⟨ps', qs', e1, e2, e3⟩ := WJ hx
      split at h
      rotate_left
      ·rename_i hM
       obtain ⟨v, m, r, u, h, hR⟩ := UI (sc := sc) hT hpr1 hs1 hM ((e2.append (nv hs1 xs)).append e3) h
       obtain ⟨hfb, h⟩ := an h
       refine ⟨p1, hle, r, u, mk ?_, Uj hs1 hR.foot hfb, ?_⟩
       ·unfold J3
        simp only [hc, e1, BP]
        exact .inr hR.call
       exact fI (ih (i + 1) kn l hWl hO hstl ((hR.keep W hWo).prOk hpr1) hR.sim h) fun p' hp => Df (hk1 W) hro (Nd hWo hR hp)
      rename_i hM
      obtain ⟨hfb, h⟩ := an h
      obtain ⟨v, r, h1, h2, h3⟩ := UG hT hs1 hM ((e2.append (nv hs1 xs)).append e3) h
      refine ⟨p1, hle, r, [], mk ?_, K1 (w := none) hs1 dL hfb, ?_⟩
      ·unfold J3
       simp only [hc, e1, BP]
       exact .inl ⟨trivial, h1⟩
      have hs' : Sim (s1.upd o.dst v .no) (p1.upd o.dst r none) := kJ hs1 h3
      rw [show ([] : BU) = (none : Option (Nat × Box)).toList from rfl, CU]
      exact fI (ih (i + 1) kn l hWl hO hstl ((xP (sc := sc) (u := .no) trivial hWo hpr1).prOk hpr1) hs' h2) fun p' hp => Df (hk1 W) hro (zO (u := .no) hWo hpr1 trivial dL hp)
     ·rename_i hc
      obtain ⟨v, u, qv, w, h1, h2, h3, h4, h5⟩ := Wi hs1 (hst o List.mem_cons_self) h
      obtain ⟨hfb, h2⟩ := an h2
      refine ⟨p1, hle, qv, w.toList, mk ?_, K1 hs1 h5 hfb, ?_⟩
      ·unfold J3
       simp only [hc]
       exact ⟨w, h1, rfl⟩
      rw [CU]
      exact fI (ih (i + 1) kn l hWl hO hstl ((xP (sc := sc) h4 hWo hpr1).prOk hpr1) h3 h2) fun p' hp => Df (hk1 W) hro (zO hWo hpr1 h4 h5 hp)
   have skipOk : jY ops o p = some false → te q P T ops B n (i + 1) kn l (s.upd o.dst (.tup []) .no) k = some res → vm q P ops (xG B) i (o :: l) p (Fj sc W (o :: l) s p k res) := by
    intro hg h
    refine ⟨p, .refl _ _, .tup [], [], by unfold Eff; rw [hg]; exact ⟨rfl, rfl⟩, fun _ => ⟨fun h => (by rw [hg] at h; cases h), fun x Bx h => (by cases h)⟩, ?_⟩
    rw [show ([] : BU) = (none : Option (Nat × Box)).toList from rfl, CU]
    have hs' : Sim (s.upd o.dst (.tup []) .no) (p.upd o.dst (.tup []) none) := kJ hs (.tup [] [] rfl (fun j c q h => by simp at h))
    exact fI (ih (i + 1) kn l hWl hO hstl ((xP (sc := sc) (u := .no) trivial hWo hpr).prOk hpr) hs' h) fun p' hp => zO (u := .no) hWo hpr trivial dL hp
   unfold te at h
   simp only at h
   split at h
   ·rename_i hg
    exact goOk (by simp [jY, hg]) h
   ·rename_i j want hg
    split at h
    ·cases h
    ·rename_i g hgd
     have hsg := hs.sl g
     split at h
     ·rename_i hv
      rw [hv] at hsg
      obtain ⟨qs, h1, h2⟩ := Tb hsg
      have : qs = [] := by have := h2.len; simpa using this.symm
      subst this
      exact skipOk (by simp [jY, hg, hgd, h1]) h
     ·rename_i b hv
      rw [hv] at hsg
      have hpg := kD hsg
      have hgb : jY ops o p = some (b == want) := by simp [jY, hg, hgd, hpg, asB]
      split at h
      ·split at h
       ·split at h
        ·exact goOk (by rw [hgb]; rfl) h
        ·exact skipOk (by rw [hgb]; rfl) h
       ·split at h
        ·exact skipOk (by rw [hgb]; rfl) h
        ·exact goOk (by rw [hgb]; rfl) h
      ·split at h
       ·cases h
       ·rename_i l1 d l2 hup
        obtain ⟨h1, o1, h2, h3⟩ := CS hup
        obtain ⟨qb, h4, h5⟩ := ar h
        have hg0 : ∃ o', ops[j]? = some o' ∧ o'.dst = some g := by
         cases ho : ops[j]? with
         | none => simp [ho] at hgd
         | some o' => exact ⟨o', rfl, by simpa [ho] using hgd⟩
        obtain ⟨o', ho', hdo'⟩ := hg0
        have hWg : aA W g = true := hO j o' ho' g hdo'
        rw [h1]
        have hW1 : ∀ o ∈ l1, ∀ d, o.dst = some d → aA W d = true := fun o ho => hW o (by rw [h1]; exact List.mem_append_left _ ho)
        have hW2 : ∀ o ∈ l2, ∀ d, o.dst = some d → aA W d = true := fun o ho => hW o (by rw [h1]; exact List.mem_append_right _ ho)
        have hst1 : ∀ o ∈ l1, ∀ t x y, o.op = .store t x y → o.dst = none := fun o ho => hst o (by rw [h1]; exact List.mem_append_left _ ho)
        have hst2 : ∀ o ∈ l2, ∀ t x y, o.op = .store t x y → o.dst = none := fun o ho => hst o (by rw [h1]; exact List.mem_append_right _ ho)
        have hsb : Sim ⟨(g, .d (.bool b)) :: s.sl, s.bx, s.pr, true, s.oc⟩ p := by
         refine ⟨fun i => ?_, hs.bx⟩
         show a8 s.bx (lkV ((g, .d (.bool b)) :: s.sl) i) (p.t i)
         rw [cV]
         split
         ·rename_i e; subst e; exact hsg
         ·exact hs.sl i
        have hA : vm q P ops (xG B) i l1 p (Fj sc W l1 ⟨(g, .d (.bool b)) :: s.sl, s.bx, s.pr, true, s.oc⟩ p (Cr d) qb) := by
         cases b
         ·exact ih i (g :: kn) l1 hW1 hO hst1 hpr hsb (by simpa using h4)
         ·exact ih i (g :: kn) l1 hW1 hO hst1 hpr hsb (by simpa using h4)
        refine A7 (fI hA fun p1 hp1 => ?_)
        obtain ⟨s1, k1, k2, k3, k4, k5⟩ := hp1
        have hd : aA (cn l1) d = true := rZ h2 h3
        have hpd : p1.t d = .d (.v (.bool qb)) := by
         have := k1.sl d
         unfold Cr at k4
         split at k4
         ·rename_i b' hb'
          injection k4 with k4
          subst k4
          rw [hb'] at this
          exact kD this
         ·cases k4
        have hs2 : Sim ⟨(d, .d (.bool qb)) :: oe (cn l1) s.sl, s.bx, s.pr, s.ro, cn l1 ++ s.oc⟩ p1 := by
         refine ⟨fun i => ?_, fun t => ?_⟩
         ·show a8 s.bx (lkV ((d, .d (.bool qb)) :: oe (cn l1) s.sl) i) (p1.t i)
          rw [cV]
          split
          ·rename_i e; subst e; rw [hpd]; exact eL qb
          ·rw [tv]
           split
           ·exact .junk _
           ·rename_i hi
            rw [k5.t rfl i (by simpa using hi)]
            exact hs.sl i
         ·show lU s.bx (aA (cn l1 ++ s.oc) t) (lkB s.bx t) (p1.b t)
          have hbt := hs.bx t
          cases hl : lkB s.bx t with
          | none =>
           rw [hl] at hbt
           intro hoc
           rw [df, Bool.or_eq_false_iff] at hoc
           rw [k5.b rfl t (.inr hoc.1)]
           exact hbt hoc.2
          | some bx =>
           rw [hl] at hbt
           rw [k5.b rfl t (.inl (by show lkB s.bx t ≠ none; rw [hl]; simp))]
           cases bx <;> exact hbt
        have hk2 : dD sc W s ⟨(d, .d (.bool qb)) :: oe (cn l1) s.sl, s.bx, s.pr, s.ro, cn l1 ++ s.oc⟩ := by
         refine ⟨rfl, rfl, fun _ _ => .refl _, fun i hi _ => ?_, fun _ _ _ cs h => ⟨cs, h, rfl⟩⟩
         show lkV ((d, .d (.bool qb)) :: oe (cn l1) s.sl) i = _
         rw [cV, if_neg (fun e => by rw [e, hW1 o1 h2 d h3] at hi; cases hi), tv]
         rw [if_neg (fun e => by
          obtain ⟨o2, m1, m2⟩ := Aj e
          rw [hW1 o2 m1 i m2] at hi
          cases hi)]
        refine fI (ih (i + l1.length) kn l2 hW2 hO hst2 (hk2.prOk hpr) hs2 h5) fun p2 hp2 => ?_
        obtain ⟨s3, m1, m2, m3, m4, m5⟩ := hp2
        refine ⟨s3, m1, hk2.trans m2, m3, m4, fun hro i hi => ?_, fun hro t ht => ?_⟩
        ·rw [wL, df, Bool.or_eq_false_iff] at hi
         rw [m5.t hro i hi.2, k5.t rfl i hi.1]
        ·rw [wL, df, Bool.or_eq_false_iff] at ht
         rw [m5.b hro t (ht.imp id fun h => h.2), k5.b rfl t (ht.imp id fun h => h.1)]
     ·cases h
end
theorem Rs {p : PS} (i e k : Nat) (ht : p.t i = .d (.v (.slice none 0 0))) (hb : p.b i = none) (hi0 : i < 1000000) (hk : 0 < k) : Le p (p.upd (some i) (.row i 0) (some (i, .rw e k []))) := by
 intro n w0 F0 a w ⟨h1, h2, ρ, F, hi, hev⟩
 have hx := (hev i)
 rw [ht] at hx
 obtain ⟨hx, _⟩ := hx.vv
 have hnew := Dv (P := default) (t := i) (e := e) (k := k) (es := []) (xs := []) (v := .slice none 0 0) (w' := w) hi hi0 hb hk (Ext.refl w) (fun g hg => by cases hg) (World.ownsRow_nil w _ e k) (by simp) rfl (by simp)
 obtain ⟨v, w', ρ', hok, k1, k2, k3⟩ := hnew
 injection hok with e1 e2
 subst e1 e2
 refine ⟨h1, h2, ρ', F, k1, fun j => ?_⟩
 by_cases hj : i = j
 ·subst hj
  rw [hx]
  simpa [PS.upd, wb] using k3
 ·have : (p.upd (some i) (.row i 0) (some (i, .rw e k []))).t j = p.t j := by simp [PS.upd, wb, hj]
  rw [this]
  exact (hev j).mono k2
theorem Nq {p : PS} (i t j e k : Nat) {ty : TypeId} {cs : List PV} (hb : p.b t = some (.st ty cs)) (hc : cs[j]? = some (.d (.v (.slice none 0 0)))) (hi : p.b i = none) (hi0 : i < 1000000) (hk : 0 < k) :
  Le p ⟨p.t, dm (dm p.b (some (i, .rw e k []))) (some (t, .st ty (cs.set j (.row i 0))))⟩ := by
 intro n w0 F0 a w ⟨h1, h2, ρ, F, hinv, hev⟩
 have hnew := Dv (P := default) (t := i) (e := e) (k := k) (es := []) (xs := []) (v := .slice none 0 0) (w' := w) hinv hi0 hi hk (Ext.refl w) (fun g hg => by cases hg) (World.ownsRow_nil w _ e k) (by simp) rfl (by simp)
 obtain ⟨v, w', ρ', hok, k1, k2, k3⟩ := hnew
 injection hok with e1 e2
 subst e1 e2
 have hti : t ≠ i := fun e => by rw [e, hi] at hb; cases hb
 have hb1 : (dm p.b (some (i, .rw e k []))) t = some (.st ty cs) := by rw [cI _ _ hti]; exact hb
 have hs2 : Stp ρ' (dm p.b (some (i, .rw e k []))) w F ρ' (dm (dm p.b (some (i, .rw e k []))) (some (t, .st ty (cs.set j (.row i 0))))) w F := by
  refine ⟨fun _ h => h, fun _ _ => rfl, fun t' ty' cs' h => ⟨?_, rfl⟩, fun t' e' k' es h => ?_⟩
  ·by_cases h' : t' = t
   ·subst h'; rw [dk]; exact ⟨_, _, rfl⟩
   ·rw [cI _ _ h']; exact ⟨_, _, h⟩
  ·have h' : t' ≠ t := fun e => by rw [e, hb1] at h; cases h
   rw [cI _ _ h']
   exact ⟨e', es, h, Nat.le_refl _, fun _ => rfl⟩
 have hinv2 : Inv w0 F0 ρ' (dm (dm p.b (some (i, .rw e k []))) (some (t, .st ty (cs.set j (.row i 0))))) w F := by
  have hs3 := hs2
  rw [← da ρ' t] at hs3
  have := Inv.turn (v := ρ' t) (B' := .st ty (cs.set j (.row i 0))) (w' := w) k1 hb1 (by rw [da] at hs3 ⊢; exact hs2) k1.ext (Nat.le_refl _) (fun _ _ _ => rfl) (fun g hg => .inl hg) ?_
  ·rw [da] at this; exact this
  ·rw [da]
   cases k1.box t _ hb1 with
   | st _ _ g xs hρ hg hF hh hl h1x hr =>
    refine .st ty _ g xs hρ hg hF hh (by rw [List.length_set]; exact hl) h1x (fun p x c h4 h5 => ?_)
    rw [List.getElem?_set] at h5
    split at h5
    ·rename_i hjp
     subst hjp
     split at h5
     ·injection h5 with h5
      subst h5
      have hx := hr j x _ h4 hc
      obtain ⟨hx, _⟩ := hx.vv
      rw [hx]
      exact k3.mono hs2
     ·cases h5
    ·exact (hr p x c h4 h5).mono hs2
 exact ⟨h1, h2, ρ', F, hinv2, fun q => ((hev q).mono k2).mono hs2⟩
theorem BLe.trans {B B' B'' : List (Nat × Option aW)} (h : BLe B B') (h' : BLe B' B'') : BLe B B'' := by
 refine ⟨fun t e k ty xs pins h1 => ?_, fun t ty cs h1 => ?_⟩
 ·obtain ⟨e1, k1, ty1, xs1, pins1, h2, h3, h4⟩ := h.rw t e k ty xs pins h1
  obtain ⟨e2, k2, ty2, xs2, pins2, h5, h6, h7⟩ := h'.rw t e1 k1 ty1 xs1 pins1 h2
  refine ⟨e2, k2, ty2, xs2, pins2, h5, h6.trans h3, fun p pin hp => ?_⟩
  obtain ⟨pin1, h8, h9⟩ := h4 p pin hp
  obtain ⟨pin2, h10, h11⟩ := h7 p pin1 h8
  exact ⟨pin2, h10, h11.trans h9⟩
 ·obtain ⟨ty1, cs1, h2⟩ := h.st t ty cs h1
  exact h'.st t ty1 cs1 h2
theorem V1 {B : List (Nat × Option aW)} {b : Nat} {x : Option aW} (h : lkB B b = x) (t : Nat) : lkB ((b, x) :: B) t = lkB B t := by
 rw [au]
 split
 ·rename_i e; subst e; exact h.symm
 ·rfl
theorem a8.lk {B B' : List (Nat × Option aW)} (h : ∀ t, lkB B' t = lkB B t) {v : SV} {q : PV} (hv : a8 B v q) : a8 B' v q :=
 hv.mono ⟨fun t e k ty xs pins h1 => ⟨e, k, ty, xs, pins, by rw [h]; exact h1, rfl, fun _ pin hp => ⟨pin, hp, rfl⟩⟩, fun t ty cs h1 => ⟨ty, cs, by rw [h]; exact h1⟩⟩
theorem lU.lk {B B' : List (Nat × Option aW)} (h : ∀ t, lkB B' t = lkB B t) {o : Bool} {b : Option aW} {q : Option Box} (hv : lU B o b q) : lU B' o b q :=
 hv.mono ⟨fun t e k ty xs pins h1 => ⟨e, k, ty, xs, pins, by rw [h]; exact h1, rfl, fun _ pin hp => ⟨pin, hp, rfl⟩⟩, fun t ty cs h1 => ⟨ty, cs, by rw [h]; exact h1⟩⟩
theorem Sim.lk {sl : List (Nat × SV)} {B B' : List (Nat × Option aW)} {pr oc : List Nat} {ro : Bool} {p : PS} (h : ∀ t, lkB B' t = lkB B t) (hs : Sim ⟨sl, B, pr, ro, oc⟩ p) : Sim ⟨sl, B', pr, ro, oc⟩ p :=
 ⟨fun i => (hs.sl i).lk h, fun t => by show lU B' _ (lkB B' t) _; rw [h]; exact (hs.bx t).lk h⟩
theorem tp {s : SS} {b : Nat} {ty : TypeId} : ∀ {rows : List (Nat × Nat × Nat × Nat × Ty)} {cs cs' : List SV} {bx bx' : List (Nat × Option aW)} {p : PS}, (∃ x, lkB bx b = some x) → Sim ⟨s.sl, (b, some (.st ty cs)) :: bx, s.pr, s.ro, []⟩ p → tq s rows cs bx = some (cs', bx') →
  ∃ p', Le p p' ∧ Sim ⟨s.sl, (b, some (.st ty cs')) :: bx', s.pr, s.ro, []⟩ p' ∧ (∀ t, aA s.pr t = true → lkB bx' t = lkB bx t) ∧ cs'.length = cs.length ∧ ∀ t x, lkB bx t = some x → lkB bx' t = some x
 | [], cs, cs', bx, bx', p, _, hs, h => by
  injection h with h
  injection h with e1 e2
  subst e1 e2
  exact ⟨p, .refl p, hs, fun _ _ => rfl, rfl, fun _ _ h => h⟩
 | (j, R, e, k, t) :: l, cs, cs', bx, bx', p, hb, hs, h => by
  simp only [tq] at h
  split at h
  ·rename_i hj
   split at h
   ·rename_i hR hk hp
    have hk := zd hk
    obtain ⟨xb, hxb⟩ := hb
    have hRb : ¬ R = b := fun e => by rw [e, hxb] at hR; cases hR
    have hbx := hs.bx b
    have hbx : lU ((b, some (.st ty cs)) :: bx) (aA [] b) (lkB ((b, some (.st ty cs)) :: bx) b) (p.b b) := hbx
    rw [au, if_pos rfl] at hbx
    obtain ⟨qs, h1, h2⟩ := hbx
    have hRn : lkB ((b, some (.st ty cs)) :: bx) R = none := by rw [au, if_neg hRb]; exact hR
    have hpR : p.b R = none := by
     have h3 := hs.bx R
     have h3 : lU ((b, some (.st ty cs)) :: bx) (aA [] R) (lkB ((b, some (.st ty cs)) :: bx) R) (p.b R) := h3
     rw [hRn] at h3
     exact h3 rfl
    have hlt : j < qs.length := by rw [← h2.len]; exact (zg.1 hj).1
    have hqj : qs[j]? = some (.d (.v (.slice none 0 0))) := by
     have h3 : qs[j]? = some qs[j] := by simp [hlt]
     rw [h3, Pz (h2.rep j _ _ hj h3)]
    have hle := Nq R b j e k h1 hqj hpR hk.2 hk.1
    have hB1 : BLe ((b, some (.st ty cs)) :: bx) ((R, some (.rw e k t [] [])) :: (b, some (.st ty cs)) :: bx) := p7 hRn
    have hB2 : BLe ((R, some (.rw e k t [] [])) :: (b, some (.st ty cs)) :: bx) ((b, some (.st ty (cs.set j (.row R)))) :: (R, some (.rw e k t [] [])) :: (b, some (.st ty cs)) :: bx) := NL (ty := ty) (cs := cs) (by rw [au, if_neg (fun e => hRb e.symm), au, if_pos rfl])
    have hB := hB1.trans hB2
    have hsame : ∀ t', lkB ((b, some (.st ty (cs.set j (.row R)))) :: (R, some (.rw e k t [] [])) :: bx) t' = lkB ((b, some (.st ty (cs.set j (.row R)))) :: (R, some (.rw e k t [] [])) :: (b, some (.st ty cs)) :: bx) t' := fun t' => by
     simp only [au]
     split
     ·rfl
     ·rename_i h'; split
      ·rfl
      ·rfl
    have hs1 : Sim ⟨s.sl, (b, some (.st ty (cs.set j (.row R)))) :: (R, some (.rw e k t [] [])) :: (b, some (.st ty cs)) :: bx, s.pr, s.ro, []⟩ ⟨p.t, dm (dm p.b (some (R, .rw e k []))) (some (b, .st ty (qs.set j (.row R 0))))⟩ := by
     refine ⟨fun i => (hs.sl i).mono hB, fun t' => ?_⟩
     show lU _ (aA [] t') (lkB ((b, some (.st ty (cs.set j (.row R)))) :: (R, some (.rw e k t [] [])) :: (b, some (.st ty cs)) :: bx) t') (dm (dm p.b (some (R, .rw e k []))) (some (b, .st ty (qs.set j (.row R 0)))) t')
     rw [au]
     by_cases e1 : t' = b
     ·subst e1
      rw [if_pos rfl, dk]
      refine ⟨_, rfl, by simpa using h2.len, fun j' c q m1 m2 => ?_⟩
      rw [List.getElem?_set] at m1 m2
      by_cases e2 : j = j'
      ·subst e2
       have hlc : j < cs.length := by rw [h2.len]; exact hlt
       rw [if_pos rfl, if_pos hlc] at m1
       rw [if_pos rfl, if_pos hlt] at m2
       injection m1 with m1
       injection m2 with m2
       subst m1 m2
       exact .row R 0 e k t [] [] (by rw [au, if_neg hRb, au, if_pos rfl]) rfl
      ·rw [if_neg e2] at m1 m2
       exact (h2.rep j' c q m1 m2).mono hB
     ·rw [if_neg e1, cI _ _ e1, au]
      by_cases e2 : t' = R
      ·subst e2
       rw [if_pos rfl, dk]
       exact ⟨rfl, fun p pin hp => by cases hp⟩
      ·rw [if_neg e2, cI _ _ e2]
       exact (hs.bx t').mono hB
    have hs2 := hs1.lk hsame
    obtain ⟨p', k1, k2, k3, k4, k5⟩ := tp (s := s) (b := b) (ty := ty) ⟨xb, by rw [au, if_neg (fun e => hRb e.symm)]; exact hxb⟩ hs2 h
    refine ⟨p', hle.trans k1, k2, fun t' ht' => ?_, by rw [k4, List.length_set], fun t' x hx => k5 t' x ?_⟩
    ·rw [k3 t' ht', au, if_neg (fun e => by rw [e, hp] at ht'; cases ht')]
    ·rw [au, if_neg (fun e => by rw [e, hR] at hx; cases hx)]; exact hx
   ·cases h
  ·exact tp hb hs h
theorem pV {sc wr : List Nat} : ∀ {ms : List Mod} {s s' : SS} {p : PS}, s.oc = [] → lO s → Sim s p → FF wr ms s = some s' → ∃ p', Le p p' ∧ Sim s' p' ∧ dD sc wr s s' ∧ s'.oc = []
 | [], s, s', p, ho, _, hs, h => by injection h with h; subst h; exact ⟨p, .refl p, hs, .refl _ _, ho⟩
 | .leaf _ _ :: l, s, s', p, ho, hpr, hs, h => pV (ms := l) ho hpr hs h
 | .agg _ _ :: l, s, s', p, ho, hpr, hs, h => pV (ms := l) ho hpr hs h
 | .box _ _ _ [] :: l, s, s', p, ho, hpr, hs, h => pV (ms := l) ho hpr hs h
 | .box b _ _ (r :: rows) :: l, s, s', p, ho, hpr, hs, h => by
  simp only [FF] at h
  split at h
  ·rename_i ty cs hb
   split at h
   ·rename_i cs' bx' hp hn
    have hs0 : Sim ⟨s.sl, (b, some (.st ty cs)) :: s.bx, s.pr, s.ro, []⟩ p := by
     have : Sim ⟨s.sl, s.bx, s.pr, s.ro, []⟩ p := by rw [← ho]; exact hs
     exact this.lk (V1 hb)
    obtain ⟨p1, k1, k2, k3, k4, k5⟩ := tp ⟨_, hb⟩ hs0 hn
    have hk : dD sc wr s ⟨s.sl, (b, some (.st ty cs')) :: bx', s.pr, s.ro, s.oc⟩ := by
     refine ⟨rfl, rfl, fun t ht => ?_, fun _ _ _ => rfl, fun t _ ty2 cs2 h2 => ?_⟩
     ·show kv _ (lkB ((b, some (.st ty cs')) :: bx') t)
      rw [au, if_neg (fun e => by rw [e, hp] at ht; cases ht), k3 t ht]
      exact .refl _
     ·show ∃ cs3, lkB ((b, some (.st ty cs')) :: bx') t = _ ∧ _
      rw [au]
      by_cases e : t = b
      ·rw [e, hb] at h2
       injection h2 with h2
       injection h2 with e1 e2
       subst e1 e2
       rw [if_pos e]
       exact ⟨_, rfl, k4⟩
      ·rw [if_neg e]
       exact ⟨cs2, k5 t _ h2, rfl⟩
    obtain ⟨p2, m1, m2, m3, m4⟩ := pV (ms := l) (s := ⟨s.sl, (b, some (.st ty cs')) :: bx', s.pr, s.ro, s.oc⟩) ho (hk.prOk hpr) (by rw [ho]; exact k2) h
    exact ⟨p2, k1.trans m1, m2, hk.trans m3, m4⟩
   ·cases h
  ·cases h
 | .row i R e k t :: l, s, s', p, ho, hpr, hs, h => by
  simp only [FF] at h
  split at h
  ·rename_i hv
   split at h
   ·rename_i hR hb hk hw hp
    have hk := zd hk
    have hsi := hs.sl i
    rw [hv] at hsi
    have hpt := Pz hsi
    have hpb : p.b i = none := by
     have := hs.bx i
     rw [hb] at this
     exact this (by rw [ho]; rfl)
    have hle := Rs (p := p) i e k hpt hpb hk.2 hk.1
    have hs1 : Sim ⟨rC s.sl (some i) (.row i), (i, some (.rw e k t [] [])) :: s.bx, s.pr, s.ro, s.oc⟩ (p.upd (some i) (.row i 0) (some (i, .rw e k (([] : List t.den).map (bJ t))))) :=
     n7 hs (p7 hb) (fun _ => ⟨rfl, fun p pin hp => by cases hp⟩) (.row i 0 e k t [] [] (by rw [au, if_pos rfl]) rfl)
    have hkp : dD sc wr s ⟨(i, .row i) :: s.sl, (i, some (.rw e k t [] [])) :: s.bx, s.pr, s.ro, s.oc⟩ := by
     refine ⟨rfl, rfl, fun t' ht' => ?_, fun j hj _ => ?_, fun t' _ ty2 cs2 h2 => ⟨cs2, by show lkB ((i, some (.rw e k t [] [])) :: s.bx) t' = _; rw [au, if_neg (fun e => by rw [e, hb] at h2; cases h2)]; exact h2, rfl⟩⟩
     ·show kv _ (lkB ((i, some (.rw e k t [] [])) :: s.bx) t')
      rw [au, if_neg (fun e => by rw [e, hp] at ht'; cases ht')]
      exact .refl _
     ·show lkV ((i, .row i) :: s.sl) j = _
      rw [cV, if_neg (fun e => by rw [e, hw] at hj; cases hj)]
    obtain ⟨p2, m1, m2, m3, m4⟩ := pV (ms := l) (s := ⟨(i, .row i) :: s.sl, (i, some (.rw e k t [] [])) :: s.bx, s.pr, s.ro, s.oc⟩) ho (hkp.prOk hpr) hs1 h
    exact ⟨p2, hle.trans m1, m2, hkp.trans m3, m4⟩
   ·cases h
  ·exact pV (ms := l) ho hpr hs h
theorem nq (wr pr kb : List Nat) : ∀ (l : List (Nat × SV)) (seen : List Nat) (i : Nat), lkV (rO wr pr kb l seen) i = if aA seen i = true then .junk else if aA wr i = true then .junk else if FC pr kb (lkV l i) = true then lkV l i else .junk
 | [], seen, i => by simp [rO, lkV, FC]
 | (j, v) :: l, seen, i => by
  simp only [rO]
  have hc := cV j v l i
  split
  ·rename_i hs
   rw [nq wr pr kb l seen i, hc]
   by_cases e : i = j
   ·subst e; simp [hs]
   ·simp [e]
  ·rename_i hs
   split
   ·rename_i hw
    rw [nq wr pr kb l (j :: seen) i, hc, aX]
    by_cases e : i = j
    ·subst e; simp [hw]
    ·simp [e]
   ·rename_i hw
    split
    ·rename_i hf
     rw [cV, nq wr pr kb l (j :: seen) i, hc, aX]
     by_cases e : i = j
     ·subst e; simp [hs, hw, hf]
     ·simp [e]
    ·rename_i hf
     rw [nq wr pr kb l (j :: seen) i, hc, aX]
     by_cases e : i = j
     ·subst e; simp [hf]
     ·simp [e]
theorem nr (pr : List Nat) : ∀ (l : List (Nat × Option aW)) (seen : List Nat) (t : Nat), lkB (rP pr l seen) t = if aA seen t = true then none else if aA pr t = true then H9 (lkB l t) else none
 | [], seen, t => by simp [rP, lkB, H9]
 | (j, b) :: l, seen, t => by
  simp only [rP]
  have hc := au j b l t
  split
  ·rename_i hs
   rw [nr pr l seen t, hc]
   by_cases e : t = j
   ·subst e; simp [hs]
   ·simp [e]
  ·rename_i hs
   split
   ·rename_i hw
    rw [au, nr pr l (j :: seen) t, hc, aX]
    by_cases e : t = j
    ·subst e; simp [hs, hw]
    ·simp [e]
   ·rename_i hw
    rw [nr pr l (j :: seen) t, hc, aX]
    by_cases e : t = j
    ·subst e; simp [hw]
    ·simp [e]
theorem kN (mb : List Nat) : ∀ (l : List (Nat × Option aW)) (seen : List Nat) (t : Nat), aA (n8 mb l seen) t = true ↔ aA seen t = false ∧ aA mb t = false ∧ ∃ b, lkB l t = some b ∧ xA b = true
 | [], seen, t => by simp [n8, aA, lkB]
 | (j, b) :: l, seen, t => by
  have hc := au j b l t
  simp only [n8]
  split
  ·rename_i hs
   rw [kN mb l seen t, hc]
   by_cases e : t = j
   ·subst e; simp [hs]
   ·simp [e]
  ·rename_i hs
   split
   ·rw [kN mb l (j :: seen) t, hc, aX]
    by_cases e : t = j
    ·subst e; simp
    ·simp [e]
   ·rename_i b'
    split
    ·rename_i h1 h2
     rw [aX, Bool.or_eq_true, kN mb l (j :: seen) t, hc, aX]
     by_cases e : t = j
     ·subst e; simp [hs, h1, h2]
     ·simp [e]
    ·rename_i h12
     rw [kN mb l (j :: seen) t, hc, aX]
     by_cases e : t = j
     ·subst e
      simp only [decide_true, Bool.true_or, Bool.true_eq_false, false_and, if_true, Option.some.injEq, exists_eq_left', false_iff, not_and]
      intro _ h3 h4
      exact h12 h3 h4
     ·simp [e]
theorem uF (bx : List (Nat × Option aW)) : ∀ (l : List Nat) (r : List (Nat × Option aW)) (t : Nat), (aA l t = true → ∀ ty cs, lkB bx t = some (.st ty cs) → lkB (Km bx l r) t = some (.st ty (vJ cs))) ∧ ((aA l t = false ∨ ∀ ty cs, lkB bx t ≠ some (.st ty cs)) → lkB (Km bx l r) t = lkB r t)
 | [], r, t => ⟨fun h => (by cases h), fun _ => rfl⟩
 | b :: l, r, t => by
  obtain ⟨h1, h2⟩ := uF bx l r t
  simp only [Km]
  split
  ·rename_i ty cs hb
   refine ⟨fun hm ty2 cs2 h => ?_, fun h => ?_⟩
   ·rw [au]
    by_cases e : t = b
    ·subst e
     rw [hb] at h
     injection h with h
     injection h with e1 e2
     subst e1 e2
     rw [if_pos rfl]
    ·rw [if_neg e]
     rw [aX] at hm
     exact h1 (by simpa [e] using hm) ty2 cs2 h
   ·rw [au]
    by_cases e : t = b
    ·subst e
     rcases h with h | h
     ·rw [aX] at h; simp at h
     ·exact absurd hb (h ty cs)
    ·rw [if_neg e]
     rw [aX] at h
     exact h2 (h.imp (by simp [e]) id)
  ·rename_i hb
   refine ⟨fun hm ty2 cs2 h => ?_, fun h => ?_⟩
   ·by_cases e : t = b
    ·subst e; exact absurd h (hb ty2 cs2)
    ·rw [aX] at hm
     exact h1 (by simpa [e] using hm) ty2 cs2 h
   ·rw [aX] at h
    by_cases e : t = b
    ·subst e; exact h2 (.inr fun ty cs => hb ty cs)
    ·exact h2 (h.imp (by simp [e]) id)
theorem pP (bx : List (Nat × Option aW)) : ∀ (l : List Nat) (t : Nat), aA (rJ bx l) t = true ↔ aA l t = true ∧ ∃ ty cs, lkB bx t = some (.st ty cs)
 | [], t => by simp [rJ, aA]
 | b :: l, t => by
  have ih := pP bx l t
  simp only [rJ]
  split
  ·rename_i ty cs hb
   rw [aX, aX, Bool.or_eq_true, Bool.or_eq_true, ih]
   by_cases e : t = b
   ·subst e; simp [hb]
   ·simp [e]
  ·rename_i hb
   rw [ih, aX, Bool.or_eq_true]
   by_cases e : t = b
   ·subst e
    refine ⟨fun h => ⟨.inl (by simp), h.2⟩, fun h => ?_⟩
    obtain ⟨ty, cs, h⟩ := h.2
    exact absurd h (hb ty cs)
   ·simp [e]
theorem zY : ∀ cs : List SV, (vJ cs).length = cs.length
 | [] => rfl
 | c :: cs => by simp [vJ, zY cs]
theorem GM : ∀ (cs : List SV) (j : Nat) (c : SV), (vJ cs)[j]? = some c → c = .junk
 | [], j, c, h => by simp [vJ] at h
 | _ :: cs, 0, c, h => by simp [vJ] at h; exact h.symm
 | _ :: cs, j + 1, c, h => by simp [vJ] at h; exact GM cs j c h
theorem od (mb sc : List Nat) : ∀ (l : List (Nat × Option aW)) (seen : List Nat), uK mb sc l seen = true → ∀ t ty cs, aA seen t = false → lkB l t = some (.st ty cs) → aA mb t = true ∨ aA sc t = true ∨ cC cs = true
 | [], seen, _, t, ty, cs, _, h => by cases h
 | (j, b) :: l, seen, hk, t, ty, cs, hs, h => by
  simp only [uK] at hk
  rw [au] at h
  split at hk
  ·rename_i hj
   have e : ¬ t = j := fun e => by rw [e, hj] at hs; cases hs
   rw [if_neg e] at h
   exact od mb sc l seen hk t ty cs hs h
  ·split at hk
   ·split at hk
    ·rename_i hm
     by_cases e : t = j
     ·rw [if_pos e] at h
      injection h with h
      injection h with e1 e2
      subst e1 e2 e
      simpa [Bool.or_eq_true] using hm
     ·rw [if_neg e] at h
      exact od mb sc l (j :: seen) hk t ty cs (by rw [aX]; simp [e, hs]) h
    ·cases hk
   ·rename_i hb
    by_cases e : t = j
    ·rw [if_pos e] at h
     exact absurd h (hb ty cs)
    ·rw [if_neg e] at h
     exact od mb sc l (j :: seen) hk t ty cs (by rw [aX]; simp [e, hs]) h
theorem sa : ∀ {a b : List Nat}, Hb a b = true → ∀ t, aA a t = true → aA b t = false
 | [], b, _, t, h => by cases h
 | x :: a, b, hd, t, h => by
  simp only [Hb] at hd
  split at hd
  ·cases hd
  ·rename_i hx
   rw [aX, Bool.or_eq_true] at h
   rcases h with h | h
   ·have := zd h; subst this; exact hx
   ·exact sa hd t h
theorem qH {pr kb : List Nat} : ∀ {cs : List SV} (_ : kK pr kb cs = true) {j : Nat} {c : SV}, cs[j]? = some c → FC pr kb c = true
 | [], _, j, c, h => by simp at h
 | d :: cs, h, j, c, hj => by
  simp only [kK] at h
  split at h
  ·rename_i h1
   cases j with
   | zero => simp at hj; subst hj; exact h1
   | succ j => simp at hj; exact qH h hj
  ·cases h
theorem QP {B B' : List (Nat × Option aW)} {pr kb : List Nat} (hrw : ∀ t, aA pr t = true → ∀ e k ty xs pins, lkB B t = some (.rw e k ty xs pins) → ∃ e' k' ty' xs' pins', lkB B' t = some (.rw e' k' ty' xs' pins') ∧ xs'.length = xs.length)
  (hst : ∀ t, aA kb t = true → ∀ ty cs, lkB B t = some (.st ty cs) → ∃ ty' cs', lkB B' t = some (.st ty' cs')) {v : SV} {q : PV} (h : a8 B v q) : FC pr kb v = true → a8 B' v q := by
 induction h with
 | junk q => exact fun _ => .junk q
 | d c y h => exact fun _ => .d c y h
 | ag cs qs hl hr ih => exact fun hs => .ag cs qs hl fun j c q h1 h2 => ih j c q h1 h2 (qH hs h1)
 | tup cs qs hl hr ih => exact fun hs => .tup cs qs hl fun j c q h1 h2 => ih j c q h1 h2 (qH hs h1)
 | ptr t o ty cs hb => exact fun hs => by obtain ⟨ty', cs', h1⟩ := hst t hs ty cs hb; exact .ptr t o ty' cs' h1
 | row t n e k ty xs pins hb hn =>
  intro hs
  obtain ⟨e', k', ty', xs', pins', h1, h2⟩ := hrw t hs e k ty xs pins hb
  exact .row t n e' k' ty' xs' pins' h1 (h2.trans hn)
 | re t p o n i e k ty xs pins pin hb hn hp hi => exact fun hs => by cases hs
 | vw t lo hi n e k ty xs pins hb hn => exact fun hs => by cases hs
 | fe cs ds h hn => exact fun _ => .fe cs ds h hn
 | fn f ps qs ps' qs' hl hr hl2 hr2 ih ih2 =>
  intro hs
  have hs : (match kK pr kb ps with | true => kK pr kb qs | false => false) = true := hs
  split at hs
  ·rename_i h1
   exact .fn f ps qs ps' qs' hl (fun j c q h2 h3 => ih j c q h2 h3 (qH h1 h2)) hl2 (fun j c q h2 h3 => ih2 j c q h2 h3 (qH hs h2))
  ·cases hs
mutual
theorem Tr {pr pr' kb : List Nat} (h : ∀ t, aA pr t = true → aA pr' t = true) : ∀ v : SV, FC pr kb v = true → kL pr' v = true
 | .junk, _ => rfl
 | .d _, _ => rfl
 | .fe _, _ => rfl
 | .ptr _ _, _ => rfl
 | .row t, hs => h t hs
 | .re _ _ _, hs => by cases hs
 | .vw _ _ _, hs => by cases hs
 | .ag cs, hs => by simp only [kL]; exact xu h cs hs
 | .tup cs, hs => by simp only [kL]; exact xu h cs hs
 | .fn f ps qs, hs => by
  have hs : (match kK pr kb ps with | true => kK pr kb qs | false => false) = true := hs
  split at hs
  ·rename_i h1
   simp only [kL, Bool.and_eq_true]
   exact ⟨xu h ps h1, xu h qs hs⟩
  ·cases hs
theorem xu {pr pr' kb : List Nat} (h : ∀ t, aA pr t = true → aA pr' t = true) : ∀ cs : List SV, kK pr kb cs = true → dX pr' cs = true
 | [], _ => rfl
 | c :: cs, hs => by
  simp only [kK] at hs
  split at hs
  ·rename_i h1
   simp only [dX, Bool.and_eq_true]
   exact ⟨Tr h c h1, xu h cs hs⟩
  ·cases hs
end
theorem oQ {pr : List Nat} : ∀ {cs : List SV} (_ : dX pr cs = true) {j : Nat} {c : SV}, cs[j]? = some c → kL pr c = true
 | [], _, j, c, h => by simp at h
 | d :: cs, h, j, c, hj => by
  simp only [dX, Bool.and_eq_true] at h
  cases j with
  | zero => simp at hj; subst hj; exact h.1
  | succ j => simp at hj; exact oQ h.2 hj
theorem td {pr kb : List Nat} : ∀ {cs : List SV}, (∀ (j : Nat) c, cs[j]? = some c → FC pr kb c = true) → kK pr kb cs = true
 | [], _ => rfl
 | c :: cs, h => by
  simp only [kK]
  rw [h 0 c rfl]
  exact td fun j d hj => h (j + 1) d (by simpa using hj)
theorem M4 {B : List (Nat × Option aW)} {pr pr' kb : List Nat} (h : ∀ t, aA pr t = true → aA pr' t = true) (hst : ∀ t ty cs, lkB B t = some (.st ty cs) → aA kb t = true) {v : SV} {q : PV} (hv : a8 B v q) : kL pr v = true → FC pr' kb v = true := by
 induction hv with
 | junk q => exact fun _ => rfl
 | d c y h => exact fun _ => rfl
 | ag cs qs hl hr ih =>
  refine fun hs => td fun j c hj => ?_
  have hlt : j < qs.length := by rw [← hl]; exact (zg.1 hj).1
  exact ih j c qs[j] hj (by simp [hlt]) (oQ hs hj)
 | tup cs qs hl hr ih =>
  refine fun hs => td fun j c hj => ?_
  have hlt : j < qs.length := by rw [← hl]; exact (zg.1 hj).1
  exact ih j c qs[j] hj (by simp [hlt]) (oQ hs hj)
 | ptr t o ty cs hb => exact fun _ => hst t ty cs hb
 | row t n e k ty xs pins hb hn => exact fun hs => h t hs
 | re t p o n i e k ty xs pins pin hb hn hp hi => exact fun hs => by cases hs
 | vw t lo hi n e k ty xs pins hb hn => exact fun hs => by cases hs
 | fe cs ds h hn => exact fun _ => rfl
 | fn f ps qs ps' qs' hl hr hl2 hr2 ih ih2 =>
  intro hs
  simp only [kL, Bool.and_eq_true] at hs
  have k1 : kK pr' kb ps = true := td fun j c hj => by
   have hlt : j < ps'.length := by rw [← hl]; exact (zg.1 hj).1
   exact ih j c ps'[j] hj (by simp [hlt]) (oQ hs.1 hj)
  have k2 : kK pr' kb qs = true := td fun j c hj => by
   have hlt : j < qs'.length := by rw [← hl2]; exact (zg.1 hj).1
   exact ih2 j c qs'[j] hj (by simp [hlt]) (oQ hs.2 hj)
  show (match kK pr' kb ps with | true => kK pr' kb qs | false => false) = true
  rw [k1]
  exact k2
theorem YB {B : List (Nat × Option aW)} {c : SD} {q : PV} (h : a8 B (.d c) q) : ∃ y, q = .d y ∧ J4 c y := by
 cases h with
 | d _ y h => exact ⟨y, rfl, h⟩
theorem Xa {B : List (Nat × Option aW)} {t : Nat} {q : PV} (h : a8 B (.row t) q) : ∃ n, q = .row t n := by
 cases h with
 | row _ n => exact ⟨n, rfl⟩
def lS (bx : List (Nat × Option aW)) : Prop := ∀ t e k ty xs pins, lkB bx t = some (.rw e k ty xs pins) → pins = []
theorem lS.cons_rw {bx : List (Nat × Option aW)} (h : lS bx) {R e k : Nat} {t : Ty} {xs : List t.den} : lS ((R, some (.rw e k t xs [])) :: bx) := by
 intro t' e' k' ty' xs' pins' h1
 rw [au] at h1
 split at h1
 ·injection h1 with h1
  injection h1 with q1 q2 q3 q4 q5
  exact q5.symm
 ·exact h t' e' k' ty' xs' pins' h1
theorem lS.cons_st {bx : List (Nat × Option aW)} (h : lS bx) {R : Nat} {ty : TypeId} {cs : List SV} : lS ((R, some (.st ty cs)) :: bx) := by
 intro t' e' k' ty' xs' pins' h1
 rw [au] at h1
 split at h1
 ·cases h1
 ·exact h t' e' k' ty' xs' pins' h1
def Gf (bx : List (Nat × Option aW)) (p : PS) : Prop := ∀ t b, lkB bx t = some b → lU bx true (some b) (p.b t)
theorem Hq {bx : List (Nat × Option aW)} {p : PS} (hn : lS bx) (hb : Gf bx p) {R e k : Nat} {t : Ty} {xs : List t.den} (hR : p.b R = some (.rw e k (xs.map (bJ t)))) : BLe bx ((R, some (.rw e k t xs [])) :: bx) := by
 refine ⟨fun t' e2 k2 ty2 xs2 pins2 h => ?_, fun t' ty2 cs2 h => ?_⟩
 ·rw [au]
  by_cases e1 : t' = R
  ·subst e1
   rw [if_pos rfl]
   have h1 := (hb t' _ h).1
   rw [hR] at h1
   injection h1 with h1
   injection h1 with q1 q2 q3
   refine ⟨e, k, t, xs, [], rfl, by simpa using congrArg List.length q3, fun p pin hp => ?_⟩
   rw [hn _ _ _ _ _ _ h] at hp
   cases hp
  ·rw [if_neg e1]; exact ⟨_, _, _, _, _, h, rfl, fun p pin hp => ⟨pin, hp, rfl⟩⟩
 ·rw [au]
  by_cases e1 : t' = R
  ·subst e1
   obtain ⟨qs, h1, _⟩ := hb t' _ h
   rw [hR] at h1
   cases h1
  ·rw [if_neg e1]; exact ⟨_, _, h⟩
theorem UL {bx : List (Nat × Option aW)} {p : PS} (hb : Gf bx p) {b : Nat} {ty : TypeId} {cs : List SV} {qs : List PV} (hR : p.b b = some (.st ty qs)) : BLe bx ((b, some (.st ty cs)) :: bx) := by
 refine ⟨fun t' e2 k2 ty2 xs2 pins2 h => ?_, fun t' ty2 cs2 h => ?_⟩
 ·rw [au]
  by_cases e1 : t' = b
  ·subst e1
   have h1 := (hb t' _ h).1
   rw [hR] at h1
   cases h1
  ·rw [if_neg e1]; exact ⟨_, _, _, _, _, h, rfl, fun p pin hp => ⟨pin, hp, rfl⟩⟩
 ·rw [au]
  by_cases e1 : t' = b
  ·rw [if_pos e1]; exact ⟨_, _, rfl⟩
  ·rw [if_neg e1]; exact ⟨_, _, h⟩
theorem Gf.cons {bx : List (Nat × Option aW)} {p : PS} (h : Gf bx p) {R : Nat} {b : aW} (hB : BLe bx ((R, some b) :: bx)) (hb : lU ((R, some b) :: bx) true (some b) (p.b R)) : Gf ((R, some b) :: bx) p := by
 intro t b' h1
 rw [au] at h1
 by_cases e : t = R
 ·subst e
  rw [if_pos rfl] at h1
  injection h1 with h1
  subst h1
  exact hb
 ·rw [if_neg e] at h1
  exact (h t b' h1).mono hB
theorem V2 {t : Ty} {xs ys : List t.den} (h : xs.map (bJ t) = ys.map (bJ t)) : xs.length = ys.length := by
 have h9 := congrArg List.length h
 rw [List.length_map, List.length_map] at h9
 exact h9
theorem Xj {t t' : Ty} {xs : List t.den} {ys : List t'.den} {c : SD} (h : c.as (.sl t) = some xs) (hd : c.toD = .sl (ys.map (bJ t'))) : xs.map (bJ t) = ys.map (bJ t') := by
 have h1 := SD.as_ok h
 rw [hd] at h1
 have h2 : [D.sl (xs.map (bJ t))] = [D.sl (ys.map (bJ t'))] := h1
 injection h2 with h2
 injection h2
theorem tm {s' : SS} {p : PS} (hs' : gD s' p) {rows : List (Nat × Nat × Nat × Nat × Ty)} : ∀ {cs : List SV} {qs : List PV} {ds0 ds : List SD} {j : Nat} {bx bx' : List (Nat × Option aW)} {vs : List SV}, cd s'.bx cs qs → cellsOf s' rows j cs = some ds0 → ds0.map SD.toD = ds.map SD.toD → (∀ c ∈ ds, c ≠ .nl) →
  lS bx → Gf bx p → fK rows j ds bx = some (vs, bx') → lS bx' ∧ Gf bx' p ∧ BLe bx bx' ∧ cd bx' vs qs ∧ (∀ t, (∀ r ∈ rows, r.2.1 ≠ t) → lkB bx' t = lkB bx t)
 | [], qs, ds0, ds, j, bx, bx', vs, hc, h0, hd, _, hn, hb, h => by
  rcases hc.cases with ⟨_, rfl⟩ | ⟨_, _, _, _, h1, _⟩
  ·injection h0 with h0
   subst h0
   have : ds = [] := by simpa using hd.symm
   subst this
   injection h with h
   injection h with e1 e2
   subst e1 e2
   exact ⟨hn, hb, .refl _, .nil, fun _ _ => rfl⟩
  ·cases h1
 | c :: cs, qs, ds0, ds, j, bx, bx', vs, hc, h0, hd, hnl, hn, hb, h => by
  rcases hc.cases with ⟨h1, _⟩ | ⟨c', q, cs', qs', h1, rfl, hq, hcs⟩
  ·cases h1
  injection h1 with e1 e2
  subst e1 e2
  have findR_mem : ∀ {rows : List (Nat × Nat × Nat × Nat × Ty)} {j R e k : Nat} {t : Ty}, o4 rows j = some (R, e, k, t) → ∃ r ∈ rows, r.2.1 = R := by
   intro rows
   induction rows with
   | nil => intro j R e k t h; cases h
   | cons r rows ih =>
    intro j R e k t h
    obtain ⟨j', R', e', k', t'⟩ := r
    simp only [o4] at h
    split at h
    ·injection h with h
     injection h with h _
     exact ⟨_, List.mem_cons_self, h⟩
    ·obtain ⟨r, h1, h2⟩ := ih h
     exact ⟨r, List.mem_cons_of_mem _ h1, h2⟩
  simp only [cellsOf] at h0
  split at h0
  ·rename_i R e k t hf
   split at h0
   ·rename_i R' e' k' t' xs pins hbR
    split at h0
    ·rename_i ht hsame
     have k1 := (an h0).1
     replace h0 := (an h0).2
     have k2 := (an h0).1
     replace h0 := (an h0).2
     have k3 := (an h0).1
     replace h0 := (an h0).2
     replace k1 : R' = R := by simpa [cW] using k1
     replace k2 : e' = e := by simpa using k2
     replace k3 : k' = k := by simpa using k3
     subst k1 k2 k3 ht
     split at h0
     ·rename_i r hr
      injection h0 with h0
      subst h0
      cases ds with
      | nil => simp at hd
      | cons d ds =>
       simp only [List.map_cons, List.cons.injEq] at hd
       obtain ⟨hd1, hd2⟩ := hd
       simp only [fK, hf] at h
       split at h
       ·rename_i xs' vs' bx1 hxs hp
        injection h with h
        injection h with e1 e2
        subst e1 e2
        obtain ⟨m1, m2, m3, m4, m5⟩ := tm hs' hcs hr hd2 (fun c hc => hnl c (List.mem_cons_of_mem _ hc)) hn hb hp
        have hpR : p.b R' = some (.rw e' k' (xs.map (bJ t'))) := (hs'.bx R' _ hbR).1
        have hx : xs'.map (bJ t') = xs.map (bJ t') := Xj hxs (by rw [← hd1]; rfl)
        have hpR' : p.b R' = some (.rw e' k' (xs'.map (bJ t'))) := by rw [hx]; exact hpR
        have hB := Hq m1 m2 hpR'
        refine ⟨m1.cons_rw, m2.cons hB ⟨hpR', fun p pin hp => by cases hp⟩, m3.trans hB, .cons ?_ (m4.mono hB), fun t2 ht2 => ?_⟩
        ·cases hq with
         | row _ n e2 k2 ty2 xs2 pins2 hb2 hn2 =>
          rw [hbR] at hb2
          injection hb2 with hb2
          injection hb2 with q1 q2 q3 q4 q5
          subst q3
          have q4 := eq_of_heq q4
          subst q4
          refine .row R' n e' k' t' xs' [] (by rw [au, if_pos rfl]) ?_
          rw [← hn2]
          exact V2 hx
        ·rw [au, if_neg (fun e => by
          obtain ⟨r, h1, h2⟩ := findR_mem hf
          exact ht2 r h1 (h2.trans e.symm))]
         exact m5 t2 ht2
       ·cases h
     ·cases h0
    ·cases h0
   ·cases h0
  ·rename_i hf
   split at h0
   ·rename_i x r hr
    injection h0 with h0
    subst h0
    cases ds with
    | nil => simp at hd
    | cons d ds =>
     simp only [List.map_cons, List.cons.injEq] at hd
     obtain ⟨hd1, hd2⟩ := hd
     simp only [fK, hf] at h
     split at h
     ·rename_i vs' bx1 hp
      injection h with h
      injection h with e1 e2
      subst e1 e2
      obtain ⟨m1, m2, m3, m4, m5⟩ := tm hs' hcs hr hd2 (fun c hc => hnl c (List.mem_cons_of_mem _ hc)) hn hb hp
      refine ⟨m1, m2, m3, .cons ?_ m4, m5⟩
      cases hq with
      | d _ y hy =>
       refine .d d y ?_
       have h1 := hy.nrm
       rw [hd1] at h1
       have h2 := hnl d List.mem_cons_self
       cases d <;> first | exact h1 | exact absurd rfl h2
     ·cases h
   ·cases h0
theorem Wh {t : Ty} {c : SD} {x : t.den} (h : c.as t = some x) : pO t x ≠ .nl := by
 cases t with
 | st i => simp [SD.as] at h
 | _ => intro e; cases e
theorem KI {t : Nat} : ∀ {rows : List (Nat × Nat × Nat × Nat × Ty)} {r : Nat × Nat × Nat × Nat × Ty}, r ∈ rows → r.2.1 = t → aA (rows.map (·.2.1)) t = true
 | [], r, h, _ => by cases h
 | a :: rows, r, h, e => by
  rw [List.map_cons, aX, Bool.or_eq_true]
  rcases List.mem_cons.1 h with rfl | h
  ·exact .inl (by simp [e])
  ·exact .inr (KI h e)
theorem PU {s' : SS} {p : PS} (hs' : gD s' p) {m : Mod} {x : m.den} {c c' : SS} (hg : z7 s' m = some x) (hc : gD c p) (hn : lS c.bx) (h : qJ m x c = some c') :
  gD c' p ∧ lS c'.bx ∧ BLe c.bx c'.bx ∧ (∀ t, aA (bB [m]) t = false → lkB c'.bx t = lkB c.bx t) := by
 cases m with
 | leaf i t =>
  simp only [qJ] at h
  injection h with h
  subst h
  refine ⟨⟨fun j => ?_, hc.bx⟩, hn, .refl _, fun _ _ => rfl⟩
  show a8 c.bx (lkV ((i, .d (pO t x)) :: c.sl) j) (p.t j)
  rw [cV]
  split
  ·rename_i e
   subst e
   have h1 := hs'.sl j
   have hg : (match lkV s'.sl j with | .d c => c.as t | _ => none) = some (show t.den from x) := hg
   split at hg
   ·rename_i c0 hc0
    rw [hc0] at h1
    obtain ⟨y, hp, hy⟩ := YB h1
    rw [hp]
    refine .d _ y ?_
    have h2 := hy.nrm
    rw [← CE hg] at h2
    have h3 := Wh hg
    revert h2 h3
    generalize pO t x = z
    intro h2 h3
    cases z <;> first | exact h2 | exact absurd rfl h3
   ·exact dE hg
  ·exact hc.sl j
 | agg i n =>
  simp only [qJ] at h
  injection h with h
  subst h
  refine ⟨⟨fun j => ?_, hc.bx⟩, hn, .refl _, fun _ _ => rfl⟩
  show a8 c.bx (lkV ((i, .ag (zV (stC n x))) :: c.sl) j) (p.t j)
  rw [cV]
  split
  ·rename_i e
   subst e
   have h1 := hs'.sl j
   simp only [z7] at hg
   split at hg
   ·rename_i cs hcs
    split at hg
    ·rename_i ds hds
     rw [hcs] at h1
     obtain ⟨qs, h2, h3⟩ := Gi h1
     rw [h2]
     have h4 := uG h3 hds
     have h5 := zG hg
     have hlen : qs.length = (stC n x).length := by
      have a := zL hds
      have b := h3.len
      have c := congrArg List.length h5
      have d := congrArg List.length (tb n x)
      simp only [List.length_map] at c d
      omega
     refine .ag _ qs (by rw [IH, List.length_map]; exact hlen.symm) (fun k v q k1 k2 => ?_)
     rw [IH, List.getElem?_map, zm] at k1
     obtain ⟨z, k3, rfl⟩ := k1
     obtain ⟨y, k4, k5⟩ := xL qs _ h4 |>.2 k (z.toD) (by
      have h7 : (stC n x).map SD.toD = stD n x := tb n x
      rw [h5, ← h7, List.getElem?_map, k3]
      rfl)
     rw [k2] at k4
     injection k4 with k4
     subst k4
     have h6 := wd n x z (List.mem_of_getElem? k3)
     refine .d z y ?_
     cases z <;> first | exact k5.symm | exact absurd rfl h6
    ·exact dE hg
   ·exact dE hg
  ·exact hc.sl j
 | row i R e k t =>
  simp only [qJ] at h
  injection h with h
  subst h
  simp only [z7] at hg
  split at hg
  ·rename_i R' e' k' t' xs pins hv hb
   split at hg
   ·rename_i ht hsame
    have k1 := (an hg).1
    replace hg := (an hg).2
    have k2 := (an hg).1
    replace hg := (an hg).2
    have k3 := (an hg).1
    replace hg := (an hg).2
    replace k1 : R' = R := by simpa [cW] using k1
    replace k2 : e' = e := by simpa using k2
    replace k3 : k' = k := by simpa using k3
    subst k1 k2 k3 ht
    injection hg with hg
    subst hg
    have hpR : p.b R' = some (.rw e' k' (xs.map (bJ t'))) := (hs'.bx R' _ hb).1
    have hB := Hq hn hc.bx hpR
    refine ⟨⟨fun j => ?_, Gf.cons hc.bx hB ⟨hpR, fun p pin hp => by cases hp⟩⟩, hn.cons_rw, hB, fun t2 ht2 => ?_⟩
    ·show a8 _ (lkV ((i, .row R') :: c.sl) j) (p.t j)
     rw [cV]
     split
     ·rename_i e
      subst e
      have h1 := hs'.sl j
      rw [hv] at h1
      obtain ⟨n, h2⟩ := Xa h1
      rw [h2] at h1 ⊢
      cases h1 with
      | row _ _ e2 k2 ty2 xs2 pins2 hb2 hn2 =>
       rw [hb] at hb2
       injection hb2 with hb2
       injection hb2 with q1 q2 q3 q4 q5
       subst q3
       have q4 := eq_of_heq q4
       subst q4
       exact .row R' n e' k' t' xs [] (by rw [au, if_pos rfl]; rfl) hn2
     ·exact (hc.sl j).mono hB
    ·show lkB ((R', _) :: c.bx) t2 = _
     rw [au, if_neg (fun e => by subst e; simp [bB, aX] at ht2)]
   ·exact dE hg
  ·exact dE hg
 | box b ty n rows =>
  simp only [qJ] at h
  split at h
  ·rename_i vs bx hp
   injection h with h
   subst h
   simp only [z7] at hg
   split at hg
   ·rename_i ty' cs hb
    have k1 := (an hg).1
    replace hg := (an hg).2
    replace k1 : ty' = ty := by simpa using k1
    subst k1
    replace hg := (an hg).2
    split at hg
    ·rename_i ds hds
     obtain ⟨qs, h1, h2⟩ := hs'.bx b _ hb
     have h3 := zG hg
     obtain ⟨m1, m2, m3, m4, m5⟩ := tm hs' h2 hds (h3.trans (tb n x).symm) (wd n x) hn hc.bx hp
     have hB := UL (cs := vs) m2 h1
     refine ⟨⟨fun j => ((hc.sl j).mono m3).mono hB, Gf.cons m2 hB ⟨qs, h1, m4.mono hB⟩⟩, m1.cons_st, m3.trans hB, fun t2 ht2 => ?_⟩
     simp only [bB, aX, df, Bool.or_eq_false_iff] at ht2
     show lkB ((b, _) :: bx) t2 = _
     rw [au, if_neg (fun e => by have := ht2.1; simp [e] at this)]
     refine m5 t2 fun r hr e => ?_
     have := KI hr e
     rw [this] at ht2
     cases ht2.2.1
    ·exact dE hg
   ·exact dE hg
  ·cases h
end Go.Proofs.YtchddofjajgopaaGreat
