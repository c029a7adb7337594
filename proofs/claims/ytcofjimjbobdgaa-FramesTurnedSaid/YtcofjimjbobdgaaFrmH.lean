/- Frame in one contract for each; log. -/
import Derived.Test.YtcofjimjbobdgaaFrmG
import Derived.Test.YtcofjimjbobdgaaAppM
namespace Go.Proofs.Ytcofjimjbobdgaa
open Go.RowKit

def fB (l : List UInt8) : List UInt8 := if 4000 < l.length then [] else frameB l
def fE (l : List UInt8) : Int := if 4000 < l.length then 5 else 0
theorem Frame_all (v : Value) (l : List UInt8) (w : World) (hr : Rd w v (bvs l)) : Calls Try.prog 11 #[v] w (Made2 (fB l) (.i64, fE l) w) := by
  unfold fB fE
  by_cases h : 4000 < l.length
  · rw [if_pos h, if_pos h]; exact frm_long v l w hr h
  · rw [if_neg h, if_neg h]; exact frm_ok v l w hr (by omega)
theorem rFrame_all (v : Value) (l : List UInt8) (w : World) (hr : Rd w v (bvs l)) : Calls Try.prog 14 #[v] w (Made2 (fB l) (.i64, fE l) w) := by
  unfold fB fE
  by_cases h : 4000 < l.length
  · rw [if_pos h, if_pos h]; exact rfrm_long v l w hr h
  · rw [if_neg h, if_neg h]; exact rfrm_ok v l w hr (by omega)

theorem bulk_small (ls : List (List UInt8)) (m : Nat) (h : ∀ r ∈ ls, r.length ≤ m) : bulk ls ≤ ls.length * (8 + m) := by
  induction ls with
  | nil => simp [bulk]
  | cons r ls ih =>
    rw [bulk_cons, List.length_cons, Nat.succ_mul]
    have h1 := h r List.mem_cons_self
    have := ih (fun x hx => h x (List.mem_cons_of_mem _ hx))
    omega

set_option maxHeartbeats 800000 in
theorem log_any (v : Value) (ls : List (List UInt8)) (w : World) (hv : RdR w v ls) (hm : ∀ r ∈ ls, r.length ≤ 4000) :
    Calls Try.prog 16 #[v] w (Made (logB (ls.take 10)) w) := by
  obtain ⟨i0, hi, hz0, hz1, hz2⟩ := info_parts Try.infoU8
  obtain ⟨A, N, c, rfl, hN, hc1, hc2, hcell⟩ := hv.open
  have HC := Lib.hid hcell
  have HN := Lib.hid hN
  have HM := Lib.hid hm
  clear hv hcell hm hN
  go_enter Try.func16, Try.ntmps16
  go_wp2
  go_loopw [3, 4] (fun b i wr => ∃ k : Nat, k ≤ N ∧ k ≤ 10 ∧ i = .int .i64 k ∧ wr.ownsRow w.heap.size 5 1 b (bulk (ls.take k)) (bvs (logB (ls.take k))) ∧ Ext w wr) (fun _ i _ => N - (intOf i).toNat)
  case atStart => exact ⟨0, Nat.zero_le _, Nat.zero_le _, rfl, World.ownsRow_nil w _ _ 1, Ext.refl w⟩
  case round =>
    obtain ⟨k, hk, hk10, rfl, ho, hx⟩ := hrel
    have HX := Lib.hid hx
    have HO := Lib.hid ho
    obtain ⟨Ab, nb, cb, rfl⟩ := Rd.shape (Rd.of_own ho)
    clear hx ho
    by_cases hlt : k < N
    · by_cases h10 : k < 10
      · obtain ⟨a, rfl, hb, hcs⟩ := HC.out (by omega)
        obtain ⟨x, h1, h2⟩ := hcs k (by have := HN.out; omega)
        have g1 := HX.out.cell' h1
        have hkl : k < ls.length := by have := HN.out; omega
        have HL := Lib.hid (HM.out ls[k] (List.getElem_mem hkl))
        have HT := Lib.hid (List.take_succ_eq_append_getElem hkl)
        have HR := Lib.hid (h2.ext HX.out)
        have hbs := bulk_small (ls.take k) 4000 (fun r hr => HM.out r (List.mem_of_mem_take hr))
        rw [List.length_take, Nat.min_eq_left (by omega)] at hbs
        have hbs : bulk (ls.take k) ≤ 40080 := by omega
        obtain ⟨Ax, nx, cx, rfl⟩ := Rd.shape h2
        clear h1 h2 hcs
        generalize hr : ls[k]'hkl = r at *
        clear hr
        have i0' : (0 : Int) ≤ (k : Int) := by omega
        have i1 : (k : Int) < (N : Int) := by omega
        have i2 : (k : Int) < 10 := by omega
        have hE := Lib.hid (show fE r = 0 by unfold fE; rw [if_neg (by have := HL.out; omega)])
        have hB := Lib.hid (show fB r = frameB r by unfold fB; rw [if_neg (by have := HL.out; omega)])
        go_wp2_with fail
        (with_reducible refine (rFrame_all _ r _ HR.out).mono ?_)
        rw [hE.out, hB.out]
        rintro e w1 ⟨v1, rfl, ho1, hx1⟩
        have HS := Lib.hid ((Rd.of_own ho1).src bvs_one Try.underlying22)
        rw [bvs_length, frameB_length] at HS
        have HO1 := Lib.hid (own_Ext HO.out hx1)
        have HX1 := Lib.hid (HX.out.trans hx1)
        obtain ⟨A1, n1, c1, rfl⟩ := Rd.shape (Rd.of_own ho1)
        clear ho1 hx1
        have hrl := HL.out
        go_wp2_with (at_builtin; refine wpList_app_src _ rfl (.tmp 27) (.tmp 28) 22 22 rfl w.heap.size 5 i0 (.int .u8 0) 1 Try.underlying22 hi hz0 hz1 hz2 rfl _ (bulk (ls.take k)) _ rfl HO1.out _ (r.length + 8) (bvs (frameB r)) rfl HS.out ?c3 ?c4 ?c5 ?_)
        case c3 => simp [maxLen]; omega
        case c4 => omega
        case c5 => exact HX1.out.size
        intro v' w3 hown' hgrow hat' hfr'
        have HE := Lib.hid (HX1.out.trans' (grown_below hgrow HX1.out.size (own_ge HO1.out (Nat.le_refl _))))
        have HO3 := Lib.hid (show w3.ownsRow w.heap.size 5 1 v' (bulk (ls.take (k + 1))) (bvs (logB (ls.take (k + 1)))) by
          rw [HT.out, bulk_snoc, logB_snoc, bvs_append, show 8 + r.length = r.length + 8 from Nat.add_comm _ _]; exact hown')
        clear hown' hgrow hat' hfr' HS HO1 HX1
        go_wp2
        go_roundw
        case rel => exact ⟨k + 1, by omega, by omega, by go_num, HO3.out, HE.out⟩
        case measure => simp [intOf]; omega
      · obtain rfl : k = 10 := by omega
        have i1 : ((10 : Nat) : Int) < (N : Int) := by omega
        go_wp2
        go_ret
        exact ⟨_, rfl, by rw [logB_length]; exact HO.out, HX.out⟩
    · obtain rfl : k = N := by omega
      have HT := Lib.hid (show ls.take 10 = ls.take k by rw [List.take_of_length_le (by have := HN.out; omega), List.take_of_length_le (by have := HN.out; omega)])
      go_wp2
      go_ret
      exact ⟨_, rfl, by rw [logB_length, HT.out]; exact HO.out, HX.out⟩

end Go.Proofs.Ytcofjimjbobdgaa
