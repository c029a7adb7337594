/- Texts as byte arrays, worlds with blocks more: plain facts. -/
import Derived.Test.YtffioglbgnbieaaBaG
import Derived.Test.YtffioglbgnbieaaPar
import Derived.Test.YtffioglbgnbieaaMod
import Derived.Test.YtffioglbgnbieaaSub
import Derived.Test.YtffioglbgnbieaaOpenR
import Derived.ProofKit
import Derived.Lib.Hide
import Derived.IntWalk
import Derived.Outline
import Derived.Lib.ConvBytes
import Derived.Deep.QuietTactic
import Derived.BigQuiet
import Derived.WalkSmall
namespace Go.Proofs.Ytffioglbgnbieaa
open Go.RowKit

theorem ba_ne {z x : ByteArray} (h : ¬ z = x) : (z.toList == x.toList) = false := by
  rw [beq_eq_false_iff_ne]
  intro e
  rw [ByteArray.toList_eq, ByteArray.toList_eq] at e
  apply h
  cases z; cases x
  simp only at e
  rw [Array.toList_inj] at e
  rw [e]
theorem ba_size (S : ByteArray) : S.size = S.data.toList.length := by cases S; rfl
theorem ba_get (S : ByteArray) (k : Nat) (h : k < S.size) : S[k] = S.data.toList[k]'(by rw [← ba_size]; exact h) := by cases S; rfl
theorem ba_nil {S : ByteArray} : S = ⟨#[]⟩ ↔ S.data.toList = [] := by
  cases S with
  | mk d => constructor
            · intro h; injection h with h; rw [h]
            · intro h; simp at h; rw [h]
theorem ba_one {S : ByteArray} {c : UInt8} : S = ⟨#[c]⟩ ↔ S.data.toList = [c] := by
  cases S with
  | mk d => constructor
            · intro h; injection h with h; rw [h]
            · intro h
              have : d = #[c] := by rw [← Array.toList_inj]; simpa using h
              rw [this]

theorem bytes_ext (w : World) (e : TypeId) (S : ByteArray) : Ext w (Lib.bytesWorld w e S) := ⟨rfl, rfl, rfl, by rw [Lib.bytesWorld_size]; omega, fun k hk => Lib.bytesWorld_at_old w e S k hk⟩

theorem ext_toL (S : ByteArray) (i j : Nat) : (S.extract i j).data.toList = (S.data.toList.drop i).take (j - i) := by
  cases S with
  | mk d => simp [ByteArray.extract, ByteArray.copySlice, Array.toList_extract, List.extract_eq_take_drop]

theorem ba_eq {T S : ByteArray} (e : T.data.toList = S.data.toList) : T = S := by
  cases T; cases S; simp only at e; rw [Array.toList_inj] at e; rw [e]
end Go.Proofs.Ytffioglbgnbieaa
