/- codec's reader: what each question answers, by what is left to be read. -/
import Derived.Test.YtnkhobdpiifaaaaReadC
namespace Go.Proofs.Ytnkhobdpiifaaaa
open Go.RowKit

theorem Rdr.none_ {w : World} {R : Nat} {l : List UInt8} {e : Int} (h : Rdr w R l e) (he : ¬ e = 0) : l = [] := by
  obtain ⟨_, _, _, _, h⟩ := h
  exact h.resolve_right he

def iV (l : List UInt8) : Int := if 8 ≤ l.length then num (l.take 8) else 0
def iL (l : List UInt8) : List UInt8 := if 8 ≤ l.length then l.drop 8 else []
def iE (l : List UInt8) (e : Int) : Int := if 8 ≤ l.length then e else cutE e
def Fits (u : Nat) (l : List UInt8) : Prop := 2 ≤ l.length ∧ u * va (l.take 2) ≤ l.length - 2
instance (u : Nat) (l : List UInt8) : Decidable (Fits u l) := inferInstanceAs (Decidable (_ ∧ _))
def tL (u : Nat) (l : List UInt8) : List UInt8 := if Fits u l then l.drop (2 + u * va (l.take 2)) else []
def tE (u : Nat) (l : List UInt8) (e : Int) : Int := if Fits u l then e else cutE e
def tV (l : List UInt8) : ByteArray := if Fits 1 l then ⟨((l.drop 2).take (va (l.take 2))).toArray⟩ else ⟨#[]⟩
def nV (l : List UInt8) : List Int := if Fits 8 l then nums (va (l.take 2)) (l.drop 2) else []

theorem Int_S (R : Nat) (l : List UInt8) (e0 : Int) (w : World) (h : Rdr w R l e0) :
    Calls Try.prog 9 #[.pointer (some ⟨R, 0, none⟩)] w fun e w' => e = .returned (.int .i64 (iV l)) ∧ w.grownBy w' (some R) ∧ Rdr w' R (iL l) (iE l e0) := by
  unfold iV iL iE
  by_cases hk : 8 ≤ l.length
  · simp only [if_pos hk]
    exact Int_ok R l e0 w h hk
  · simp only [if_neg hk]
    exact Int_cut R l e0 w h (by omega)

theorem Text_S (R : Nat) (l : List UInt8) (e0 : Int) (w : World) (h : Rdr w R l e0) :
    Calls Try.prog 10 #[.pointer (some ⟨R, 0, none⟩)] w fun e w' => e = .returned (.string (tV l)) ∧ w.grownBy w' (some R) ∧ Rdr w' R (tL 1 l) (tE 1 l e0) := by
  unfold tV tL tE
  by_cases hk : Fits 1 l
  · simp only [if_pos hk]
    have := Text_ok R l e0 w h hk.1 _ rfl (by have := hk.2; omega) _ rfl
    rw [Nat.one_mul]
    exact this
  · simp only [if_neg hk]
    refine Text_cut R l e0 w h ?_
    unfold Fits at hk
    omega

theorem Ints_S (R : Nat) (l : List UInt8) (e0 : Int) (w : World) (h : Rdr w R l e0) :
    Calls Try.prog 12 #[.pointer (some ⟨R, 0, none⟩)] w fun e w' => ∃ v, e = .returned v ∧ Rd w' v ((nV l).map (Value.int .i64)) ∧ w.grownBy w' (some R) ∧ Rdr w' R (tL 8 l) (tE 8 l e0) ∧ ∀ g, v.ownBlock = some g → w.heap.size ≤ g := by
  unfold nV tL tE
  by_cases hk : Fits 8 l
  · simp only [if_pos hk]
    exact Ints_ok R l e0 w h hk.1 _ rfl hk.2
  · simp only [if_neg hk]
    refine (Ints_cut R l e0 w h (by unfold Fits at hk; omega)).mono ?_
    rintro e w' ⟨rfl, h1, h2⟩
    exact ⟨_, rfl, Rd.nil w', h1, h2, by simp [Value.ownBlock]⟩

def endV (l : List UInt8) (e : Int) : Int := if e = 0 then (if 0 < l.length then 9 else 0) else e

theorem End_any (R : Nat) (l : List UInt8) (e0 : Int) (w : World) (h : Rdr w R l e0) :
    Calls Try.prog 13 #[.pointer (some ⟨R, 0, none⟩)] w fun e w' => e = .returned (.int .i64 (endV l e0)) ∧ w = w' := by
  obtain ⟨v, hr, hd, _, _⟩ := h
  obtain ⟨A, c, rfl, _, _⟩ := hd.len
  rw [bvs_length] at hr
  by_cases h0 : e0 = 0
  · subst h0
    exact End_ok R A _ c w hr
  · unfold endV
    rw [if_neg h0]
    exact End_err R _ e0 w hr (by simpa using h0)

end Go.Proofs.Ytnkhobdpiifaaaa
