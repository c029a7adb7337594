/- slices.Contains of strings. -/
import Derived.Test.YtflbhnckhbcboaaDoorPath
import Derived.Test.YtflbhnckhbcboaaDoorIndex
namespace Go.Proofs.YtflbhnckhbcboaaDoor
open Go.RowKit

set_option maxRecDepth 100000 in
set_option maxHeartbeats 1600000 in
theorem IndexS_any (v : Value) (S : ByteArray) (ws : List Tx) (w : World) (hr : Rd w v (ws.map sv)) (hl : ws.length ≤ 1000000) :
    Calls Tryd.prog 58 #[v, .string S] w fun e w' => ∃ r : Int, e = .returned (.int .i64 r) ∧ w = w' ∧ ((r = -1 ∧ (∀ x ∈ ws, x ≠ S.data.toList)) ∨ (0 ≤ r ∧ S.data.toList ∈ ws)) := by
  obtain ⟨A, N, c, rfl, hN, hc1, hc2, hcell⟩ := strs_open hr
  have HC := Lib.hid hcell
  have HN := Lib.hid hN
  have hN1 : N ≤ 1000000 := by omega
  clear hcell hN hr
  go_enter Tryd.func58, Tryd.ntmps58
  go_wp2
  go_loopw [8] (fun i wr => ∃ (k : Nat), k ≤ N ∧ i = .int .i64 k ∧ (∀ x ∈ ws.take k, x ≠ S.data.toList) ∧ w = wr) (fun i _ => N - (intOf i).toNat)
  case atStart => exact ⟨0, by omega, rfl, by simp, rfl⟩
  case round =>
    obtain ⟨k, hkN, rfl, hno, rfl⟩ := hrel
    have HNO := Lib.hid hno
    clear hno
    have i0 : (0 : Int) ≤ (k : Int) := by omega
    by_cases hlt : k < N
    · have i1 : (k : Int) < (N : Int) := by omega
      have hkl : k < ws.length := by have := HN.out; omega
      obtain ⟨a, rfl, hb, hcs⟩ := HC.out (by omega)
      have c0 := hcs k hkl
      obtain ⟨T, hT⟩ : ∃ T : ByteArray, T = ⟨(ws[k]).toArray⟩ := ⟨_, rfl⟩
      rw [← hT] at c0
      have HT := Lib.hid (show T.data.toList = ws[k] by rw [hT])
      clear hT hcs
      by_cases hn : T = S
      · have q1 : (T.toList == S.toList) = true := by rw [hn]; simp
        have q2 : (S.toList == T.toList) = true := by rw [hn]; simp
        have HK := Lib.hid (show S.data.toList ∈ ws by rw [← hn, HT.out]; exact List.getElem_mem hkl)
        clear hn
        go_wp2
        go_ret
        exact ⟨_, rfl, rfl, .inr ⟨by omega, HK.out⟩⟩
      · have q1 : (T.toList == S.toList) = false := ba_ne hn
        have q2 : (S.toList == T.toList) = false := ba_ne (fun e => hn e.symm)
        have HK := Lib.hid (show ∀ x ∈ ws.take (k + 1), x ≠ S.data.toList by
          rw [List.take_succ_eq_append_getElem hkl]
          intro x hx
          rcases List.mem_append.1 hx with h | h
          · exact HNO.out x h
          · simp at h
            subst h
            intro e
            exact hn (ba_eq (by rw [HT.out, e])))
        clear hn
        go_wp2
        go_roundw
        case rel => exact ⟨k + 1, by omega, by simp, HK.out, trivial⟩
        case measure => simp [intOf]; omega
    · have i1 : ¬ (k : Int) < (N : Int) := by omega
      have HK := Lib.hid (show ∀ x ∈ ws, x ≠ S.data.toList by have := HNO.out; rwa [List.take_of_length_le (by have := HN.out; omega)] at this)
      go_wp2
      go_ret
      exact ⟨_, rfl, rfl, .inl ⟨rfl, HK.out⟩⟩

theorem ContainsS_any (v : Value) (S : ByteArray) (ws : List Tx) (w : World) (hr : Rd w v (ws.map sv)) (hl : ws.length ≤ 1000000) :
    Calls Tryd.prog 38 #[v, .string S] w fun e w' => e = .returned (.bool (decide (S.data.toList ∈ ws))) ∧ w = w' := by
  have HR := Lib.hid hr
  clear hr
  go_enter Tryd.func38, Tryd.ntmps38
  go_wp2_with fail
  (with_reducible refine (IndexS_any v S ws _ HR.out hl).mono ?_)
  rintro e w1 ⟨r, rfl, rfl, hr⟩
  rcases hr with ⟨rfl, h⟩ | ⟨h0, h⟩
  · have H := Lib.hid (show decide (S.data.toList ∈ ws) = false from decide_eq_false (fun hm => h _ hm rfl))
    clear h
    go_wp2
    go_ret
    rw [H.out]
    exact ⟨rfl, rfl⟩
  · have H := Lib.hid (show decide (S.data.toList ∈ ws) = true from decide_eq_true h)
    clear h
    go_wp2
    go_ret
    rw [H.out]
    exact ⟨by simp [h0], rfl⟩
end Go.Proofs.YtflbhnckhbcboaaDoor
