/- The two readers side by side: what each answers, by what is left to be read. -/
import Derived.Test.YtdooolafndpppaaRefY
import Derived.Test.YtdooolafndpppaaReadC
namespace Go.Proofs.Ytdooolafndpppaa
open Go.RowKit

theorem Rdr.none_ {w : World} {R : Nat} {l : List UInt8} {e : Int} (h : Rdr w R l e) (he : ¬ e = 0) : l = [] := by
  obtain ⟨_, _, _, _, h⟩ := h
  exact h.resolve_right he

def iV (l : List UInt8) : Int := if 8 ≤ l.length then num (l.take 8) else 0
def iL (l : List UInt8) : List UInt8 := if 8 ≤ l.length then l.drop 8 else []
def iE (l : List UInt8) (e : Int) : Int := if 8 ≤ l.length then e else cutE e
def Fits (u : Nat) (l : List UInt8) : Prop := 2 ≤ l.length ∧ u * va (l.take 2) ≤ l.length - 2
instance (u : Nat) (l : List UInt8) : Decidable (Fits u l) := inferInstanceAs (Decidable (_ ∧ _))
def tL (u : Nat) (l : List UInt8) : List UInt8 := if Fits u l then l.drop (2 + u * va (l.take 2)) else []
def tE (u : Nat) (l : List UInt8) (e : Int) : Int := if Fits u l then e else cutE e
def tV (l : List UInt8) : ByteArray := if Fits 1 l then ⟨((l.drop 2).take (va (l.take 2))).toArray⟩ else ⟨#[]⟩
def nV (l : List UInt8) : List Int := if Fits 8 l then nums (va (l.take 2)) (l.drop 2) else []

/-- The other reader's state. -/
def XS (w : World) (X : Nat) (A : Option Addr) (c : Nat) (B l : List UInt8) (e : Int) : Prop :=
  ∃ p, XAt w X (.slice A B.length c) p e ∧ (e = 0 → p ≤ B.length ∧ l = B.drop p) ∧ (¬ e = 0 → l = [])

theorem XS.grown {w w' : World} {X : Nat} {A : Option Addr} {c : Nat} {B l : List UInt8} {e : Int} {r : Option Nat} (h : XS w X A c B l e) (k : w.grownBy w' r) (hr : r ≠ some X) : XS w' X A c B l e := by
  obtain ⟨p, h1, h2⟩ := h
  exact ⟨p, h1.grown k hr, h2⟩

theorem Int_S (R : Nat) (l : List UInt8) (e0 : Int) (w : World) (h : Rdr w R l e0) :
    Calls Try.prog 19 #[.pointer (some ⟨R, 0, none⟩)] w fun e w' => e = .returned (.int .i64 (iV l)) ∧ w.grownBy w' (some R) ∧ Rdr w' R (iL l) (iE l e0) := by
  unfold iV iL iE
  by_cases hk : 8 ≤ l.length
  · simp only [if_pos hk]
    exact Int_ok R l e0 w h hk
  · simp only [if_neg hk]
    exact Int_cut R l e0 w h (by omega)

theorem Text_S (R : Nat) (l : List UInt8) (e0 : Int) (w : World) (h : Rdr w R l e0) :
    Calls Try.prog 21 #[.pointer (some ⟨R, 0, none⟩)] w fun e w' => e = .returned (.string (tV l)) ∧ w.grownBy w' (some R) ∧ Rdr w' R (tL 1 l) (tE 1 l e0) := by
  unfold tV tL tE
  by_cases hk : Fits 1 l
  · simp only [if_pos hk]
    have := Text_ok R l e0 w h hk.1 _ rfl (by have := hk.2; omega) _ rfl
    rw [Nat.one_mul]
    exact this
  · simp only [if_neg hk]
    refine Text_cut R l e0 w h ?_
    unfold Fits at hk
    omega

theorem Ints_S (R : Nat) (l : List UInt8) (e0 : Int) (w : World) (h : Rdr w R l e0) :
    Calls Try.prog 24 #[.pointer (some ⟨R, 0, none⟩)] w fun e w' => ∃ v, e = .returned v ∧ Rd w' v ((nV l).map (Value.int .i64)) ∧ w.grownBy w' (some R) ∧ Rdr w' R (tL 8 l) (tE 8 l e0) ∧ ∀ g, v.ownBlock = some g → w.heap.size ≤ g := by
  unfold nV tL tE
  by_cases hk : Fits 8 l
  · simp only [if_pos hk]
    exact Ints_ok R l e0 w h hk.1 _ rfl hk.2
  · simp only [if_neg hk]
    refine (Ints_cut R l e0 w h (by unfold Fits at hk; omega)).mono ?_
    rintro e w' ⟨rfl, h1, h2⟩
    exact ⟨_, rfl, Rd.nil w', h1, h2, by simp [Value.ownBlock]⟩

theorem short_of (B l : List UInt8) (e : Int) (u p : Nat) (h0 : e = 0 → p ≤ B.length ∧ l = B.drop p) (hk : ¬ Fits u l) : Short B p e u := by
  by_cases he : e = 0
  · obtain ⟨hp, rfl⟩ := h0 he
    refine .inr ⟨he, hp, ?_⟩
    unfold Fits at hk
    rw [List.length_drop] at hk
    omega
  · exact .inl he

theorem fits_of (B l : List UInt8) (e : Int) (u p : Nat) (h0 : e = 0 → p ≤ B.length ∧ l = B.drop p) (h1 : ¬ e = 0 → l = []) (hk : Fits u l) : e = 0 ∧ l = B.drop p ∧ p + 2 + u * va ((B.drop p).take 2) ≤ B.length := by
  have he : e = 0 := by
    refine Decidable.byContradiction fun he => ?_
    rw [h1 he] at hk
    have := hk.1
    simp at this
  obtain ⟨hp, rfl⟩ := h0 he
  refine ⟨he, rfl, ?_⟩
  have h1 := hk.1
  have h2 := hk.2
  rw [List.length_drop] at h1 h2
  omega

section
variable (X : Nat) (A : Option Addr) (B l : List UInt8) (c : Nat) (e : Int) (w : World) (h : XS w X A c B l e) (hr : Rd w (.slice A B.length c) (bvs B)) (hX : 0 < B.length → ∀ a, A = some a → a.block ≠ X) (hm : B.length ≤ 1000)
include h hr hX hm

theorem rInt_S :
    Calls Try.prog 20 #[.pointer (some ⟨X, 0, none⟩)] w fun r w' => r = .returned (.int .i64 (iV l)) ∧ w.grownBy w' (some X) ∧ XS w' X A c B (iL l) (iE l e) := by
  obtain ⟨p, hx, h0, h1⟩ := h
  unfold iV iL iE
  by_cases hk : 8 ≤ l.length
  · have he : e = 0 := by
      refine Decidable.byContradiction fun he => ?_
      rw [h1 he] at hk
      simp at hk
    subst he
    obtain ⟨hp, rfl⟩ := h0 rfl
    have hk' := hk
    rw [List.length_drop] at hk'
    obtain ⟨a, rfl⟩ := Rd.some_ hr (by omega)
    simp only [if_pos hk]
    refine (rInt_ok X a B c p w hx hr hm (by omega)).mono ?_
    rintro r w' ⟨rfl, hg, hx'⟩
    exact ⟨rfl, hg, p + 8, hx', fun _ => ⟨by omega, by rw [List.drop_drop]⟩, fun h => absurd rfl h⟩
  · simp only [if_neg hk]
    have hl : Lack e ((B.length : Int) - (p : Int)) 8 ∧ (p ≤ B.length ∨ ¬ e = 0) := by
      by_cases he : e = 0
      · obtain ⟨hp, rfl⟩ := h0 he
        rw [List.length_drop] at hk
        exact ⟨.inr ⟨he, by omega⟩, .inl hp⟩
      · exact ⟨.inl he, .inr he⟩
    refine (rInt_no X A B.length c p e w hx (by simp [maxLen]; omega) hl.2 hl.1).mono ?_
    rintro r w' ⟨rfl, hg, p', hx'⟩
    exact ⟨rfl, hg, p', hx', fun h => absurd h (cutE_ne' e), fun _ => rfl⟩

theorem rText_S :
    Calls Try.prog 22 #[.pointer (some ⟨X, 0, none⟩)] w fun r w' => r = .returned (.string (tV l)) ∧ w.grownBy w' (some X) ∧ XS w' X A c B (tL 1 l) (tE 1 l e) := by
  obtain ⟨p, hx, h0, h1⟩ := h
  unfold tV tL tE
  by_cases hk : Fits 1 l
  · obtain ⟨rfl, rfl, hp⟩ := fits_of B l e 1 p h0 h1 hk
    obtain ⟨a, rfl⟩ := Rd.some_ hr (by omega)
    simp only [if_pos hk]
    refine (rText_ok X a B c p _ w hx hr (hX (by omega) a rfl) hm rfl (by omega) _ rfl).mono ?_
    rintro r w' ⟨rfl, hg, hx'⟩
    refine ⟨by rw [List.drop_drop], hg, _, hx', fun _ => ⟨by omega, by rw [List.drop_drop, Nat.one_mul, Nat.add_assoc]⟩, fun h => absurd rfl h⟩
  · simp only [if_neg hk]
    refine (rText_no X A B c p e w hx hr hX hm (short_of B l e 1 p h0 hk)).mono ?_
    rintro r w' ⟨rfl, hg, p', hx'⟩
    exact ⟨rfl, hg, p', hx', fun h => absurd h (cutE_ne' e), fun _ => rfl⟩

theorem rInts_S :
    Calls Try.prog 25 #[.pointer (some ⟨X, 0, none⟩)] w fun r w' => ∃ v, r = .returned v ∧ Rd w' v ((nV l).map (Value.int .i64)) ∧ w.grownBy w' (some X) ∧ XS w' X A c B (tL 8 l) (tE 8 l e) := by
  obtain ⟨p, hx, h0, h1⟩ := h
  unfold nV tL tE
  by_cases hk : Fits 8 l
  · obtain ⟨rfl, rfl, hp⟩ := fits_of B l e 8 p h0 h1 hk
    obtain ⟨a, rfl⟩ := Rd.some_ hr (by omega)
    simp only [if_pos hk]
    refine (rInts_ok X a B c p _ w hx hr (hX (by omega) a rfl) hm rfl hp).mono ?_
    rintro r w' ⟨v, rfl, hv, hg, hx'⟩
    refine ⟨v, rfl, by rw [List.drop_drop]; exact hv, hg, _, hx', fun _ => ⟨hp, by rw [List.drop_drop, Nat.add_assoc]⟩, fun h => absurd rfl h⟩
  · simp only [if_neg hk]
    refine (rInts_no X A B c p e w hx hr hX hm (short_of B l e 8 p h0 hk)).mono ?_
    rintro r w' ⟨rfl, hg, p', hx'⟩
    exact ⟨_, rfl, Rd.nil w', hg, p', hx', fun h => absurd h (cutE_ne' e), fun _ => rfl⟩
end

/-- Fail of the other one goes as Fail of the one. -/
theorem rFail_S (X : Nat) (A : Option Addr) (B l : List UInt8) (c : Nat) (e f : Int) (w : World) (h : XS w X A c B l e) :
    Calls Try.prog 27 #[.pointer (some ⟨X, 0, none⟩), .int .i64 f] w fun r w' => r = .returned (.tuple #[]) ∧ w.grownBy w' (some X) ∧ XS w' X A c B (failL l e f) (failE e f) := by
  obtain ⟨p, hx, h0, h1⟩ := h
  refine (rFail_any X _ p e f w hx).mono ?_
  rintro r w' ⟨rfl, hg, hx'⟩
  refine ⟨rfl, hg, p, hx', ?_, ?_⟩
  · unfold failE failL
    by_cases he : e = 0
    · subst he
      simp only [if_true]
      rintro rfl
      simpa using h0 rfl
    · rw [if_neg he]
      intro h; exact absurd h he
  · unfold failE failL
    by_cases he : e = 0
    · subst he
      simp only [if_true]
      intro hf
      simp [hf]
    · rw [if_neg he]
      intro _
      simp [he, h1 he]

def endV (l : List UInt8) (e : Int) : Int := if e = 0 then (if 0 < l.length then 9 else 0) else e

theorem End_any (R : Nat) (l : List UInt8) (e0 : Int) (w : World) (h : Rdr w R l e0) :
    Calls Try.prog 28 #[.pointer (some ⟨R, 0, none⟩)] w fun e w' => e = .returned (.int .i64 (endV l e0)) ∧ w = w' := by
  obtain ⟨v, hr, hd, _, _⟩ := h
  obtain ⟨A, c, rfl, _, _⟩ := hd.len
  rw [bvs_length] at hr
  by_cases h0 : e0 = 0
  · subst h0
    exact End_ok R A _ c w hr
  · unfold endV
    rw [if_neg h0]
    exact End_err R _ e0 w hr (by simpa using h0)

theorem rEnd_S (X : Nat) (A : Option Addr) (B l : List UInt8) (c : Nat) (e : Int) (w : World) (h : XS w X A c B l e) :
    Calls Try.prog 29 #[.pointer (some ⟨X, 0, none⟩)] w fun r w' => r = .returned (.int .i64 (endV l e)) ∧ ∃ m, w' = w.drewN m := by
  obtain ⟨p, h, hl, _⟩ := h
  by_cases h0 : e = 0
  · subst h0
    obtain ⟨hp, rfl⟩ := hl rfl
    have := rEnd_ok X A _ c p w h
    refine this.mono ?_
    rintro r w' ⟨rfl, hm⟩
    refine ⟨?_, hm⟩
    unfold endV
    rw [if_pos rfl, List.length_drop]
    congr 2
    by_cases hlt : p < B.length
    · rw [if_pos hlt, if_pos (by omega)]
    · rw [if_neg hlt, if_neg (by omega)]
  · unfold endV
    rw [if_neg h0]
    exact rEnd_err X _ p e w h h0

theorem Rdr.grownX {w w' : World} {R X : Nat} {B l l' : List UInt8} {e e' : Int} {A : Option Addr} {c : Nat} (h : Rdr w R l e) (hx : XS w X A c B l' e') (k : w.grownBy w' (some X)) (hne : X ≠ R) : Rdr w' R l e := by
  obtain ⟨p, hx, _⟩ := hx
  obtain ⟨v, h1, h2, h3, h4⟩ := h
  by_cases hl : l = []
  · subst hl
    obtain ⟨A', c', rfl, hc, hm⟩ := h2.len
    exact ⟨_, h1.grown k (by simpa using hne), ⟨A', c', rfl, hc, hm, fun hn => absurd hn (by simp [bvs])⟩, h3, h4⟩
  · refine ⟨v, h1.grown k (by simpa using hne), h2.grown k (fun g hg hv => ?_), h3, h4⟩
    injection hg with hg
    subst hg
    obtain ⟨A', c', rfl, _, _, hc⟩ := h2
    obtain ⟨a, rfl, _, hcell⟩ := hc (by rw [bvs_length]; exact List.length_pos_iff.2 hl)
    obtain ⟨b, l, rfl⟩ : ∃ b l', l = b :: l' := List.exists_cons_of_ne_nil hl
    have h0 := hcell 0 (bv b) rfl
    have hb : a.block = X := by injection hv
    have ha0 : a.add 0 = a := by unfold Addr.add; simp
    rw [ha0] at h0
    have hh : w.heap[a.block]? = some (.cells #[.slice A B.length c, .int .i64 p, .int .i64 e'] 55 (0, 0)) := by rw [hb]; exact hx
    unfold World.cell? at h0
    rw [hh] at h0
    simp only [bv] at h0
    split at h0
    · cases h0
    · rcases a with ⟨bl, off, sp⟩
      rcases off with _ | _ | _ | off
      · simp at h0
      · simp at h0
      · simp at h0
      · simp at h0

end Go.Proofs.Ytdooolafndpppaa
