/- strings.Cut at a stroke; conf.share. -/
import Derived.Test.YtigfoghkndoakaaDoorNum
import Derived.Test.YtigfoghkndoakaaDoorIdx
import Derived.Deep.QuietTactic
import Derived.BigQuiet
import Derived.WalkSmall
namespace Go.Proofs.YtigfoghkndoakaaDoor
open Go.RowKit

theorem befo_at {a t : Tx} (h : (47 : UInt8) ∉ a) : befo (a ++ 47 :: t) = a ∧ behi (a ++ 47 :: t) = t := by
  have hp : ∀ x ∈ a, (x != 47) = true := fun x hx => by simp; intro e; subst e; exact h hx
  constructor
  · unfold befo
    rw [List.takeWhile_append_of_pos hp]
    simp
  · unfold behi
    rw [List.dropWhile_append_of_pos hp]
    simp
theorem befo_no {a : Tx} (h : (47 : UInt8) ∉ a) : befo a = a ∧ behi a = [] := by
  have hp : ∀ x ∈ a, (x != 47) = true := fun x hx => by simp; intro e; subst e; exact h hx
  constructor
  · unfold befo
    have := List.takeWhile_append_of_pos (l₂ := []) hp
    simpa using this
  · unfold behi
    have := List.dropWhile_append_of_pos (l₂ := []) hp
    rw [List.append_nil] at this
    rw [this]; rfl

theorem Cut_any (S : ByteArray) (w : World) (hs : S.size ≤ 9223372036854775807) : Calls Tryd.prog 95 #[.string S, .string ⟨#[47]⟩] w fun e w' => ∃ A B b, e = .returned (.tuple #[.string A, .string B, .bool b]) ∧ A.data.toList = befo S.data.toList ∧ B.data.toList = behi S.data.toList ∧ A.size ≤ S.size ∧ B.size ≤ S.size ∧ Ext w w' := by
  have hidx := fun W => Tryd.stringslite_Index_one S 47 W
  have hge := Lib.indexByte_ge S.data.toList 47
  by_cases hneg : Lib.indexByte S.data.toList 47 < 0
  · have hb := befo_no (idx_none _ _ hneg)
    have HB := Lib.hid hb
    generalize Lib.indexByte S.data.toList 47 = i at *
    clear hb hge
    go_enter Tryd.func95, Tryd.ntmps95
    go_wp2_with (first
      | (go_at_call 81; refine (hidx _).mono ?_; rintro e w' ⟨rfl, rfl⟩)
      | go_in)
    go_ret3
    exact ⟨S, ⟨#[]⟩, false, rfl, HB.out.1.symm, HB.out.2.symm, Nat.le_refl _, Nat.zero_le _, Ext.refl _⟩
  · obtain ⟨i, hi⟩ : ∃ i : Nat, Lib.indexByte S.data.toList 47 = (i : Int) := ⟨(Lib.indexByte S.data.toList 47).toNat, by omega⟩
    obtain ⟨a, t, h1, h2, h3⟩ := idx_some _ _ _ hi
    have hb := befo_at (t := t) h3
    rw [← h1] at hb
    have hsz : S.size = i + 1 + t.length := by rw [ba_size, h1]; simp; omega
    have HA := Lib.hid (show (S.extract 0 i).data.toList = befo S.data.toList by rw [ext_toL, hb.1, h1]; simp; rw [← h2]; simp)
    have HB := Lib.hid (show (S.extract (i + 1) S.size).data.toList = behi S.data.toList by rw [ext_toL, hb.2, ba_size, h1]; simp [← h2]; exact List.take_of_length_le (by omega))
    rw [hi] at hidx
    have i0 : (0 : Int) ≤ (i : Int) := by omega
    have i1 : (i : Int) + 1 ≤ (S.size : Int) := by omega
    clear hneg hi h1 h2 h3 hb hge hsz
    go_enter Tryd.func95, Tryd.ntmps95
    go_wp2_with (first
      | (go_at_call 81; refine (hidx _).mono ?_; rintro e w' ⟨rfl, rfl⟩)
      | go_in)
    go_quiet (fail)
    go_wp2
    go_ret3
    refine ⟨S.extract 0 i, S.extract (i + 1) S.size, true, rfl, HA.out, HB.out, ?_, ?_, ext_drewN _ _⟩
    · rw [ba_size, ext_toL, ba_size]; simp; exact Nat.min_le_right _ _
    · rw [ba_size, ext_toL, ba_size]; simp

def capV (o : Option (Nat × Nat)) : Value := .tuple #[.agg #[.int .i64 ((o.getD (0, 0)).1 : Nat), .int .i64 ((o.getD (0, 0)).2 : Nat)], .bool o.isSome]

theorem share_any (S : ByteArray) (w : World) (hs : S.size ≤ 9223372036854775807) : Calls Tryd.prog 79 #[.string S] w fun e w' => e = .returned (capV (cap? S.data.toList)) ∧ Ext w w' := by
  go_enter Tryd.func79, Tryd.ntmps79
  go_wp2_with fail
  (with_reducible refine (Cut_any S _ hs).mono ?_)
  rintro e w1 ⟨A, B, b, rfl, hA, hB, hsA, hsB, hx1⟩
  have hx1 : Ext (w.alloc (.cells #[.int .i64 0, .int .i64 0] 38)) w1 := hx1
  have X1 := Lib.hid ((ext_alloc w _).trans hx1)
  have C1 := Lib.hid (show w1.cell? ⟨w.heap.size, 0, none⟩ = some (.int .i64 0) ∧ w1.cell? ⟨w.heap.size, 1, none⟩ = some (.int .i64 0) ∧ ∀ o, w1.frozen? ⟨w.heap.size, o, none⟩ = false from
    ⟨hx1.cell (by simp [go_sem]), hx1.cell (by simp [go_sem]), fun o => hx1.free (by simp) (by simp [go_sem])⟩)
  have HA := Lib.hid hA
  have HB := Lib.hid hB
  have LA := Lib.hid (Nat.le_trans hsA hs)
  have LB := Lib.hid (Nat.le_trans hsB hs)
  clear hx1 hA hB hsA hsB hs
  go_wp2_with fail
  (with_reducible refine (number_any A _).mono ?_)
  rintro e w2 ⟨rfl, hx2⟩
  rw [HA.out]
  have X2 := Lib.hid (X1.out.trans hx2)
  have C2 := Lib.hid (show w2.cell? ⟨w.heap.size, 0, none⟩ = some (.int .i64 0) ∧ w2.cell? ⟨w.heap.size, 1, none⟩ = some (.int .i64 0) ∧ ∀ o, w2.frozen? ⟨w.heap.size, o, none⟩ = false from
    ⟨hx2.cell C1.out.1, hx2.cell C1.out.2.1, fun o => hx2.free (World.block_lt_of_cell? w1 _ C1.out.1) (C1.out.2.2 o)⟩)
  clear hx2 C1 X1
  cases hn : num? (befo S.data.toList) with
  | none =>
    have H := Lib.hid (show cap? S.data.toList = none by unfold cap?; rw [hn])
    simp only [numV, Option.getD_none, Option.isSome_none]
    go_wp2_with fail
    (with_reducible refine (number_any B _).mono ?_)
    rintro e w3 ⟨rfl, hx3⟩
    obtain ⟨n, b3, hnv⟩ : ∃ n : Int, ∃ b : Bool, numV (num? B.data.toList) = .tuple #[.int .i64 n, .bool b] := ⟨_, _, rfl⟩
    rw [hnv]
    have X3 := Lib.hid (X2.out.trans hx3)
    have c0 := hx3.cell C2.out.1
    have c1 := hx3.cell C2.out.2.1
    have f0 := fun o => hx3.free (World.block_lt_of_cell? w2 _ C2.out.1) (C2.out.2.2 o)
    clear hx3 hn hnv
    go_wp2
    refine bodyPost_ret (by simp [results, Tryd.results79, go_sem, c0, c1]; try rfl) rfl ?_
    refine ⟨?_, ?_⟩
    · rw [H.out]; rfl
    · exact ext_set (ext_set X3.out (Nat.le_refl _) _) (Nat.le_refl _) _
  | some n =>
    simp only [numV, Option.getD_some, Option.isSome_some]
    go_wp2_with fail
    (with_reducible refine (number_any B _).mono ?_)
    rintro e w3 ⟨rfl, hx3⟩
    rw [HB.out]
    have X3 := Lib.hid (X2.out.trans hx3)
    have c0 := hx3.cell C2.out.1
    have c1 := hx3.cell C2.out.2.1
    have f0 := fun o => hx3.free (World.block_lt_of_cell? w2 _ C2.out.1) (C2.out.2.2 o)
    clear hx3
    cases hm : num? (behi S.data.toList) with
    | none =>
      have H := Lib.hid (show cap? S.data.toList = none by unfold cap?; rw [hn, hm])
      simp only [numV, Option.getD_none, Option.isSome_none]
      clear hn hm
      go_wp2
      refine bodyPost_ret (by simp [results, Tryd.results79, go_sem, c0, c1]; try rfl) rfl ?_
      refine ⟨?_, ?_⟩
      · rw [H.out]; rfl
      · exact ext_set (ext_set X3.out (Nat.le_refl _) _) (Nat.le_refl _) _
    | some m =>
      have H := Lib.hid (show cap? S.data.toList = some (n, m) by unfold cap?; rw [hn, hm])
      simp only [numV, Option.getD_some, Option.isSome_some]
      clear hn hm
      go_wp2
      refine bodyPost_ret (by simp [results, Tryd.results79, go_sem, c0, c1]; try rfl) rfl ?_
      refine ⟨?_, ?_⟩
      · rw [H.out]; rfl
      · exact ext_set (ext_set X3.out (Nat.le_refl _) _) (Nat.le_refl _) _
end Go.Proofs.YtigfoghkndoakaaDoor
