/- Texts as byte arrays, worlds with blocks more: plain facts. -/
import Derived.Test.YteeebhiabpabdaaPar
import Derived.Test.YteeebhiabpabdaaMod
import Derived.Test.YteeebhiabpabdaaSub
import Derived.Test.YteeebhiabpabdaaOpenR
import Derived.ProofKit
import Derived.Lib.Hide
import Derived.IntWalk
import Derived.Outline
import Derived.Lib.ConvBytes
import Derived.Deep.QuietTactic
import Derived.BigQuiet
import Derived.WalkSmall
namespace Go.Proofs.Yteeebhiabpabdaa
open Go.RowKit

theorem ext_alloc (w : World) (o : Obj) : Ext w (w.alloc o) := (Below.refl _ _).alloc (Nat.le_refl _) o
theorem ext_drewN (w : World) (n : Nat) : Ext w (w.drewN n) := ⟨rfl, rfl, rfl, Nat.le_refl _, fun _ _ => rfl⟩

theorem ba_ne {z x : ByteArray} (h : ¬ z = x) : (z.toList == x.toList) = false := by
  rw [beq_eq_false_iff_ne]
  intro e
  rw [ByteArray.toList_eq, ByteArray.toList_eq] at e
  apply h
  cases z; cases x
  simp only at e
  rw [Array.toList_inj] at e
  rw [e]
theorem ba_size (S : ByteArray) : S.size = S.data.toList.length := by cases S; rfl
theorem ba_get (S : ByteArray) (k : Nat) (h : k < S.size) : S[k] = S.data.toList[k]'(by rw [← ba_size]; exact h) := by cases S; rfl
theorem ba_nil {S : ByteArray} : S = ⟨#[]⟩ ↔ S.data.toList = [] := by
  cases S with
  | mk d => constructor
            · intro h; injection h with h; rw [h]
            · intro h; simp at h; rw [h]
theorem ba_one {S : ByteArray} {c : UInt8} : S = ⟨#[c]⟩ ↔ S.data.toList = [c] := by
  cases S with
  | mk d => constructor
            · intro h; injection h with h; rw [h]
            · intro h
              have : d = #[c] := by rw [← Array.toList_inj]; simpa using h
              rw [this]

theorem bytes_ext (w : World) (e : TypeId) (S : ByteArray) : Ext w (Lib.bytesWorld w e S) := ⟨rfl, rfl, rfl, by rw [Lib.bytesWorld_size]; omega, fun k hk => Lib.bytesWorld_at_old w e S k hk⟩

theorem ext_toL (S : ByteArray) (i j : Nat) : (S.extract i j).data.toList = (S.data.toList.drop i).take (j - i) := by
  cases S with
  | mk d => simp [ByteArray.extract, ByteArray.copySlice, Array.toList_extract, List.extract_eq_take_drop]

theorem ext_set {w w' : World} {b o : Nat} (h : Ext w w') (hb : w.heap.size ≤ b) (v : Value) : Ext w (w'.setCell ⟨b, o, none⟩ v) := Below.setCell h (p := ⟨b, o, none⟩) hb v

end Go.Proofs.Yteeebhiabpabdaa
