/- codec's writers: put, copied, putInt, putCount. -/
import Derived.Test.YtnkhobdpiifaaaaVal
import Derived.Laws.MakeOwn
namespace Go.Proofs.Ytnkhobdpiifaaaa
open Go.RowKit

theorem Try.infoU8 : (Try.prog.info? 5).map (fun i => (i.zero, i.size, i.bytes)) = some (some (.int .u8 0), 1, 1) := by kernel_rfl

/-- The slice is owned from block g on; only v's own row and what is new has turned. -/
def Grew (base : Nat) (v : Value) (n0 n : Nat) (xs : List Value) (w : World) (e : Ending) (w' : World) : Prop :=
  ∃ v', e = .returned v' ∧ w'.ownsRow base 5 1 v' n xs ∧ w.grownBy w' v.ownBlock ∧ (v'.ownBlock = v.ownBlock ∨ ∀ k, v'.ownBlock = some k → w.heap.size ≤ k) ∧ Fronts w w' v n0

theorem byte_of (N r : Nat) (x : Int) (hx : x = ((N / 256 ^ r : Nat) : Int) % 256) : [Value.int .u8 x] = bvs [UInt8.ofNat (N / 256 ^ r)] := by
  subst hx
  simp [bvs, bv, UInt8.toNat_ofNat']

theorem two8 (r : Nat) : (2 : Int) ^ (8 * (r : Int)).toNat = ((256 ^ r : Nat) : Int) := by
  have : (8 * (r : Int)).toNat = 8 * r := by omega
  rw [this, Int.pow_mul, Int.natCast_pow]
  rfl

set_option maxHeartbeats 800000 in
theorem put_any (v : Value) (n N s base : Nat) (xs : List Value) (w : World) (hown : w.ownsRow base 5 1 v n xs) (hN : N < 18446744073709551616) (hs : s ≤ 8) (hn : n + 8 ≤ 140737488355328) (hbase : base ≤ w.heap.size) :
    Calls Try.prog 26 #[v, .int .u64 N, .int .i64 s] w (Grew base v n (n + s) (xs ++ bvs (be N s)) w) := by
  obtain ⟨i0, hi, hz0, hz1, hz2⟩ := info_parts Try.infoU8
  go_enter Try.func26, Try.ntmps26
  go_wp2
  go_loopw [0, 7] (fun b i wr => ∃ (r k : Nat) (pre : List UInt8), r ≤ s ∧ i = .int .i64 ((r : Int) - 1) ∧ pre ++ be N r = be N s ∧ pre.length = k ∧ k + r = s ∧ wr.ownsRow base 5 1 b (n + k) (xs ++ bvs pre) ∧ w.grownBy wr v.ownBlock ∧
      (b.ownBlock = v.ownBlock ∨ ∀ k, b.ownBlock = some k → w.heap.size ≤ k) ∧ Fronts w wr v n) (fun _ i _ => (intOf i + 1).toNat)
  case atStart => exact ⟨s, 0, [], Nat.le_refl _, rfl, by simp, rfl, by omega, by simpa [bvs] using hown, World.grownBy.refl w _, .inl rfl, fun _ _ _ _ _ hu _ => hu⟩
  case round =>
    obtain ⟨r, k, pre, hr, rfl, hpre, hpl, hkr, hown1, hgr, hat, hfr⟩ := hrel
    rcases Nat.eq_zero_or_pos r with h0 | h0
    · subst h0
      have hp : pre = be N s := by simpa [be] using hpre
      have hk : k = s := by omega
      have hneg : ¬ (0 : Int) ≤ ((0 : Nat) : Int) - 1 := by omega
      have HP := Lib.hid hp
      have HK := Lib.hid hk
      clear hp hk hpre hkr
      rw [show (((0 : Nat) : Int) - 1) = -1 from rfl] at *
      go_wp2
      go_ret
      exact ⟨_, rfl, by rw [← HP.out, ← HK.out]; exact hown1, hgr, hat, hfr⟩
    · obtain ⟨r, rfl⟩ : ∃ r', r = r' + 1 := ⟨r - 1, by omega⟩
      have hsub : (((r + 1 : Nat) : Int) - 1) = (r : Int) := by omega
      rw [hsub]; clear hsub
      have hb : be N (r + 1) = UInt8.ofNat (N / 256 ^ r) :: be N r := rfl
      rw [hb] at hpre
      have hpre' := Lib.hid (show (pre ++ [UInt8.ofNat (N / 256 ^ r)]) ++ be N r = be N s by rw [← hpre]; simp)
      clear hpre hb
      have h8 : (0 : Int) ≤ 8 * (r : Int) := by omega
      have h9 : 8 * (r : Int) ≤ 64 := by omega
      have hv := Lib.hid (byte_of N r ((N : Int) / 2 ^ (8 * r) % 256) (by rw [show (2 : Int) ^ (8 * r) = ((256 ^ r : Nat) : Int) from by have := two8 r; rw [show (8 * (r : Int)).toNat = 8 * r from by omega] at this; exact this]; simp))
      have hsz := hgr.size
      have hkr' := Lib.hid hkr
      have hkb : k + r < 8 := by omega
      clear hkr
      go_wp2_with (at_builtin; refine wpList_app_src _ rfl (.tmp 14) (.tmp 20) 26 26 rfl base 5 i0 (.int .u8 0) 1 Try.underlying26 hi hz0 hz1 hz2 rfl _ (n + k) (xs ++ bvs pre) rfl (hown1.alloc _) _ 1 _ rfl ((Rd.one _ _ _ _ _ rfl rfl).src ?c1 Try.underlying26) ?c3 ?c4 ?c5 ?_)
      case c1 => intro u hu; simp at hu; subst hu; rfl
      case c3 => simp [maxLen]; omega
      case c4 => simp; omega
      case c5 => simp; omega
      intro v' w1 hown' hgrow hat' hfr'
      rw [hv.out, ← bvs_append] at hown'
      have hA : w.grownBy w1 v.ownBlock ∧ (v'.ownBlock = v.ownBlock ∨ ∀ k, v'.ownBlock = some k → w.heap.size ≤ k) ∧ Fronts w w1 v n := by
        refine ⟨grow_chain (hgr.trans (World.grownBy_alloc wr _ _)) hat hgrow, ?_, ?_⟩
        case refine_2 => exact Fronts.trans (Fronts.trans hfr hat (Nat.le_add_right n k) (Fronts.ext ((Ext.refl wr).alloc (Nat.le_refl _) _) _ _)) hat (Nat.le_add_right n k) hfr'
        rcases hat' with e | e
        · rw [e]; exact hat
        · right; intro k hk; rw [e] at hk; injection hk with hk; omega
      clear hown1 hgr hat hgrow hat' hfr hfr'
      have hA := Lib.hid hA
      go_wp2
      go_roundw
      case rel => exact ⟨r, k + 1, pre ++ [UInt8.ofNat (N / 256 ^ r)], by omega, by go_num, hpre'.out, by simp [hpl], by have := hkr'.out; omega, by rw [show n + (k + 1) = n + k + 1 from by omega]; exact hown', hA.out.1, hA.out.2.1, hA.out.2.2⟩
      case measure => simp [intOf]

end Go.Proofs.Ytnkhobdpiifaaaa
