/- Bytes as values, numbers as bytes, slices that read as lists: plain facts. -/
import Derived.Test.YtffioglbgnbieaaRows
import Derived.WalkKit
import Derived.Handy
import Derived.Below
import Derived.Laws.OwnMore
import Derived.Maps.AppendAt
import Derived.Deep.AppendLies
import Derived.Test.YtffioglbgnbieaaApp
namespace Go.Proofs.Ytffioglbgnbieaa
open Go.RowKit

/-- A byte as a value. -/
def bv (c : UInt8) : Value := .int .u8 (c.toNat : Int)
def bvs (l : List UInt8) : List Value := l.map bv
theorem bvs_length (l : List UInt8) : (bvs l).length = l.length := by simp [bvs]
theorem bvs_append (l m : List UInt8) : bvs (l ++ m) = bvs l ++ bvs m := by simp [bvs]
theorem bvs_one {l : List UInt8} : ∀ u ∈ bvs l, u.oneCell' = true := by
  intro u hu; simp only [bvs, List.mem_map] at hu; obtain ⟨c, _, rfl⟩ := hu; rfl

/-- The lowest s bytes of N, the highest of them first. -/
def be (N : Nat) : Nat → List UInt8
  | 0 => []
  | s + 1 => UInt8.ofNat (N / 256 ^ s) :: be N s
theorem be_length (N : Nat) : ∀ s, (be N s).length = s
  | 0 => rfl
  | s + 1 => by simp [be, be_length N s]

/-- The number that bytes say. -/
def va (l : List UInt8) : Nat := l.foldl (fun n c => n * 256 + c.toNat) 0

theorem va_from (l : List UInt8) : ∀ n : Nat, l.foldl (fun n c => n * 256 + c.toNat) n = n * 256 ^ l.length + va l := by
  induction l with
  | nil => intro n; simp [va]
  | cons c l ih =>
    intro n
    simp only [va, List.foldl_cons, List.length_cons]
    rw [ih, ih]
    rw [Nat.pow_succ]
    grind
theorem va_lt (l : List UInt8) : va l < 256 ^ l.length := by
  induction l with
  | nil => simp [va]
  | cons c l ih =>
    have h := va_from l c.toNat
    have hc := c.toNat_lt
    simp only [va, List.foldl_cons, Nat.zero_mul, Nat.zero_add, List.length_cons] at h ih ⊢
    rw [h]
    have : c.toNat * 256 ^ l.length + 256 ^ l.length ≤ 256 ^ (l.length + 1) := by
      rw [Nat.pow_succ, ← Nat.succ_mul, Nat.mul_comm (256 ^ l.length)]
      exact Nat.mul_le_mul_right _ (by omega)
    omega
theorem va_snoc (l : List UInt8) (c : UInt8) : va (l ++ [c]) = va l * 256 + c.toNat := by simp [va]
theorem va_be (N : Nat) : ∀ s, va (be N s) = N % 256 ^ s
  | 0 => by simp [be, va, Nat.mod_one]
  | s + 1 => by
    have h := va_from (be N s) (UInt8.ofNat (N / 256 ^ s)).toNat
    simp only [be, va, List.foldl_cons, Nat.zero_mul, Nat.zero_add] at h ⊢
    rw [h, be_length]
    have hb := va_be N s
    simp only [va] at hb
    rw [hb]
    have hc : (UInt8.ofNat (N / 256 ^ s)).toNat = N / 256 ^ s % 256 := by simp [UInt8.toNat_ofNat']
    rw [hc, Nat.pow_succ, Nat.mod_mul]
    grind

/-- In world w the slice value v reads as xs (one cell each). -/
def Rd (w : World) (v : Value) (xs : List Value) : Prop :=
  ∃ A c, v = .slice A xs.length c ∧ xs.length ≤ c ∧ c ≤ maxLen ∧ (0 < xs.length → ∃ a, A = some a ∧ a.block < w.heap.size ∧ ∀ j u, xs[j]? = some u → w.cell? (a.add j) = some u)

theorem add_block (a : Addr) (n : Nat) : (a.add n).block = a.block := by unfold Addr.add; split <;> rfl
theorem add_add' (a : Addr) (i j : Nat) : (a.add i).add j = a.add (i + j) := by
  unfold Addr.add
  by_cases hi : i = 0 <;> by_cases hj : j = 0 <;> simp [hi, hj, Nat.add_assoc]

theorem Rd.ext {w w' : World} {v : Value} {xs : List Value} (h : Rd w v xs) (k : Ext w w') : Rd w' v xs := by
  obtain ⟨A, c, rfl, h1, h2, h3⟩ := h
  refine ⟨A, c, rfl, h1, h2, fun hn => ?_⟩
  obtain ⟨a, rfl, hb, hc⟩ := h3 hn
  exact ⟨a, rfl, Nat.lt_of_lt_of_le hb k.size, fun j u hu => (Below.cell k (p := a.add j) (by rw [add_block]; exact hb)).trans (hc j u hu)⟩
theorem Rd.nil (w : World) : Rd w (.slice none 0 0) [] := ⟨none, 0, rfl, Nat.le_refl _, by simp [maxLen], fun h => absurd h (by simp)⟩
theorem Rd.grown {w w' : World} {row : Option Nat} {v : Value} {xs : List Value} (h : Rd w v xs) (k : w.grownBy w' row) (hr : ∀ g, row = some g → v.ownBlock ≠ some g) : Rd w' v xs := by
  obtain ⟨A, c, rfl, h1, h2, h3⟩ := h
  refine ⟨A, c, rfl, h1, h2, fun hn => ?_⟩
  obtain ⟨a, rfl, hb, hc⟩ := h3 hn
  refine ⟨a, rfl, Nat.lt_of_lt_of_le hb k.size, fun j u hu => ?_⟩
  rw [World.cell?_of_block (k.block (a.add j).block (by rw [add_block]; exact hb) (fun e => hr _ e.symm (by rw [add_block]; rfl)))]
  exact hc j u hu
theorem Rd.of_own {w : World} {base : Nat} {e : TypeId} {v : Value} {n : Nat} {xs : List Value} (h : w.ownsRow base e 1 v n xs) : Rd w v xs := by
  have hl : xs.length = n := by have := h.1; omega
  rcases h.2 with ⟨rfl, h0⟩ | ⟨g, cap, cur, rfl, _, hg, hc, hm, _⟩
  · exact ⟨none, 0, by rw [hl, h0], by omega, by simp [maxLen], fun hn => by omega⟩
  · exact ⟨_, cap, by rw [hl], by omega, hm, fun hn => ⟨⟨g, 0, none⟩, rfl, (Array.getElem?_eq_some_iff.1 hg).1, h.cells (g := g) rfl⟩⟩
theorem Rd.len {w : World} {v : Value} {xs : List Value} (h : Rd w v xs) : ∃ A c, v = .slice A xs.length c ∧ xs.length ≤ c ∧ c ≤ maxLen := by
  obtain ⟨A, c, h, h1, h2, _⟩ := h; exact ⟨A, c, h, h1, h2⟩

/-- What a row that is owned looks like, whatever the world's other blocks. -/
theorem own_Ext {w w' : World} {base : Nat} {e : TypeId} {v : Value} {n : Nat} {xs : List Value} (h : w.ownsRow base e 1 v n xs) (k : Ext w w') : w'.ownsRow base e 1 v n xs := by
  refine ⟨h.1, ?_⟩
  rcases h.2 with hn | ⟨g, cap, cur, rfl, hb, hg, hr⟩
  · exact .inl hn
  · exact .inr ⟨g, cap, cur, rfl, hb, (k.block g (Array.getElem?_eq_some_iff.1 hg).1).trans hg, hr⟩

/-- A chain of appends: the first row, or blocks that are new. -/
theorem grow_chain {w wr w' : World} {r r1 : Option Nat} (h : w.grownBy wr r) (hr : r1 = r ∨ ∀ k, r1 = some k → w.heap.size ≤ k) (k : wr.grownBy w' r1) : w.grownBy w' r :=
  ⟨k.os.trans h.os, k.tape.trans h.tape, k.output.trans h.output, Nat.le_trans h.size k.size, fun i hi hne => by
    rw [k.block i (Nat.lt_of_lt_of_le hi h.size) (fun e => by
      rcases hr with hr | hr
      · exact hne (e.trans hr)
      · have := hr i e.symm; omega), h.block i hi hne]⟩
theorem Ext.trans' {w a b : World} (h : Ext w a) (k : Below w.heap.size a b) : Ext w b := Below.trans h k
theorem grown_ext {w w' : World} (h : w.grownBy w' none) : Ext w w' := ⟨h.os, h.tape, h.output, h.size, fun k hk => h.block k hk (by simp)⟩
theorem grown_below {w w' : World} {r : Option Nat} (h : w.grownBy w' r) {B : Nat} (hB : B ≤ w.heap.size) (hr : ∀ k, r = some k → B ≤ k) : Below B w w' :=
  ⟨h.os, h.tape, h.output, h.size, fun k hk => h.block k (by omega) (fun e => by have := hr k e.symm; omega)⟩
theorem grown_of_ext {w w' : World} (h : Ext w w') (r : Option Nat) : w.grownBy w' r := ⟨h.os, h.tape, h.output, h.size, fun k hk _ => h.block k hk⟩

theorem Fronts.ext {w w' : World} (h : Ext w w') (v : Value) (n : Nat) : Fronts w w' v n := fun _ _ _ _ _ hu _ => own_Ext hu h
theorem Fronts.trans {w wr w' : World} {v v1 : Value} {n n1 : Nat} (h1 : Fronts w wr v n) (hv : v1.ownBlock = v.ownBlock ∨ ∀ k, v1.ownBlock = some k → w.heap.size ≤ k) (hn : n ≤ n1) (h2 : Fronts wr w' v1 n1) : Fronts w w' v n := by
  intro base e u k ys hu hk
  refine h2 base e u k ys (h1 base e u k ys hu hk) (fun he => ?_)
  rcases hv with hv | hv
  · exact Nat.le_trans (hk (he.trans hv)) hn
  · cases hb : u.ownBlock with
    | none =>
      rcases hu.2 with ⟨_, h0⟩ | ⟨g, cap, cur, rfl, _⟩
      · omega
      · simp [Value.ownBlock] at hb
    | some g =>
      have h3 := (hu.lt g hb).2
      have h4 := hv g (he ▸ hb)
      omega

theorem Rd.src {P : Program} {w : World} {x : Value} {news : List Value} (h : Rd w x news) (h1 : ∀ u ∈ news, u.oneCell' = true) {tx e' : TypeId} (hk : P.underlying tx = some (.slice e')) : Src P 1 tx x news.length news w := by
  obtain ⟨A, c, rfl, hc1, hc2, hcell⟩ := h
  by_cases h0 : news.length = 0
  · have hn : news = [] := List.eq_nil_of_length_eq_zero h0
    subst hn
    cases A with
    | some a => exact Src.ofSlice w hk a 0 c [] rfl (by simp) h1
    | none => exact Src.ofNil w hk c
  · obtain ⟨a, rfl, _, hcs⟩ := hcell (by omega)
    exact Src.ofSlice w hk a news.length c news (by simp) hcs h1

/-- The one cell of a new block. -/
theorem Rd.one (w : World) (x : Value) (t : TypeId) (n c : Nat) (hn : n = 1) (hc : c = 1) : Rd (w.alloc (.cells #[x] t)) (.slice (some ⟨w.heap.size, 0, none⟩) n c) [x] := by
  subst hn hc
  exact ⟨_, _, rfl, Nat.le_refl _, by simp [maxLen], fun _ => ⟨_, rfl, by simp, cell_one_new w x t⟩⟩

end Go.Proofs.Ytffioglbgnbieaa
