/- rule.Up; known. -/
import Derived.Test.YtflbhnckhbcboaaClone
import Derived.Laws.Concat
import Derived.Laws.Cover1
import Derived.Laws.EntriesVeiled
namespace Go.Proofs.Ytflbhnckhbcboaa
open Go.RowKit

def strLen : Value → Nat
  | .string s => s.size
  | _ => 0
theorem own_ge {w : World} {base : Nat} {e : TypeId} {k : Nat} {v : Value} {n : Nat} {xs : List Value} (h : w.ownsRow base e k v n xs) {B : Nat} (hB : B ≤ base) : ∀ k, v.ownBlock = some k → B ≤ k :=
  fun k hk => Nat.le_trans hB (h.lt k hk).1

def UpPost (l : Tx) (w : World) (e : Ending) (w' : World) : Prop := ∃ A n c, e = .returned (.slice A n c) ∧ n = (ups l).length ∧ w'.ownsRow w.heap.size 9 1 (.slice A n c) n ((ups l).map sv) ∧ Ext w w'

set_option maxRecDepth 100000 in
set_option maxHeartbeats 1600000 in
theorem Up_any (S : ByteArray) (w : World) (hs : S.size ≤ 1000000000) : Calls Try.prog 19 #[.string S] w (UpPost S.data.toList w) := by
  obtain ⟨j0, hj, hy0, hy1, hy2⟩ := info_parts Try.infoStr
  go_enter Try.func19, Try.ntmps19
  go_wp2_with fail
  (with_reducible refine (Clone_any S _ (by omega)).mono ?_)
  rintro e w1 ⟨rfl, hx1⟩
  have X1 := Lib.hid hx1
  clear hx1
  go_wp2
  go_loopw [2, 3] (fun v s wr => ∃ (done : List Tx) (T : ByteArray), s = .string T ∧ wr.ownsRow w.heap.size 9 1 v done.length (done.map sv) ∧ done ++ ups T.data.toList = ups S.data.toList ∧ T.size ≤ S.size ∧ Ext w wr) (fun _ s _ => strLen s)
  case atStart => exact ⟨[], S, rfl, World.ownsRow_nil w1 _ _ 1, rfl, Nat.le_refl _, X1.out⟩
  case round =>
    obtain ⟨done, T, rfl, ho, hd, hT, hx⟩ := hrel
    have HX := Lib.hid hx
    have HD := Lib.hid hd
    have hdl : done.length ≤ 1000000000 := by
      have h1 := ups_length S.data.toList
      rw [← hd, List.length_append, ← ba_size] at h1
      omega
    obtain ⟨n, hn⟩ : ∃ n, n = done.length := ⟨_, rfl⟩
    rw [← hn] at ho hdl
    obtain ⟨A, c, rfl, hc1, hc2⟩ := own_shape ho
    have HN := Lib.hid hn
    have HO := Lib.hid ho
    clear hx hd ho hn
    by_cases h0 : T = ⟨#[]⟩
    · have hE : T.toList = [] := by rw [h0, ByteArray.toList_eq]
      have HU := Lib.hid (show ups S.data.toList = done by rw [← HD.out, h0]; show done ++ ups [] = done; rw [ups_nil, List.append_nil])
      clear h0
      go_wp2
      go_ret
      exact ⟨A, n, c, rfl, by rw [HU.out]; exact HN.out, by rw [HU.out]; exact HO.out, HX.out⟩
    · have hne : T.data.toList ≠ [] := fun h => h0 (ba_nil.2 h)
      have hE : ¬ T.toList = [] := by rw [ByteArray.toList_eq]; exact hne
      have hE2 : T.toList.isEmpty = false := by simp [hE]
      have hE3 : (!T.toList.isEmpty) = true := by simp [hE]
      have HU := Lib.hid (ups_cons hne)
      have HLT := Lib.hid (above_lt hne)
      clear h0 hne
      go_wp2_with (at_builtin; refine wpList_app_src _ rfl (.tmp 10) (.tmp 12) 26 26 rfl w.heap.size 9 j0 (.string ⟨#[]⟩) 16 Try.underlying26 hj hy0 hy1 hy2 rfl _ n (done.map sv) rfl (HO.out.alloc _) _ 1 _ rfl ((Rd.one _ _ _ _ _ rfl rfl).src ?c1 Try.underlying26) ?c3 ?c4 ?c5 ?_)
      case c1 => first | rfl | (intro u hu; simp at hu; subst hu; rfl)
      case c3 => simp [maxLen]; omega
      case c4 => omega
      case c5 => have := HX.out.size; simp; omega
      intro v' w3 ho3 hg3 _ _
      have E3 := Lib.hid ((HX.out.trans (ext_alloc wr _)).trans' (grown_below hg3 (by have := HX.out.size; simp; omega) (own_ge HO.out (Nat.le_refl _))))
      have HO3 := Lib.hid (show w3.ownsRow w.heap.size 9 1 v' (done ++ [T.data.toList]).length ((done ++ [T.data.toList]).map sv) by
        rw [List.length_append, List.length_singleton, ← HN.out, List.map_append, List.map_singleton, sv_of]
        exact ho3)
      obtain ⟨Av, cv, rfl, _, _⟩ := own_shape ho3
      clear ho3 hg3
      go_wp2_with fail
      (with_reducible refine (above_any T _ (by omega)).mono ?_)
      rintro e w4 ⟨U, rfl, hU, hUs, rfl⟩
      have HUU := Lib.hid hU
      clear hU
      go_wp2
      go_roundw
      case rel => exact ⟨done ++ [T.data.toList], U, rfl, HO3.out, by rw [← HD.out, HU.out, HUU.out]; simp, by omega, E3.out⟩
      case measure =>
        have h1 := HLT.out
        rw [← HUU.out, ← ba_size, ← ba_size] at h1
        simpa [strLen] using h1
end Go.Proofs.Ytflbhnckhbcboaa
