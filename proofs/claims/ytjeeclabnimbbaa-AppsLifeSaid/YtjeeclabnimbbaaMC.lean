/- Texts Vb, Vc, Vd, Ve, Vf, Vg, Vh, Vi, PmR, PmU, in one. -/
import Derived.Test.YtjeeclabnimbbaaMB
/- The typed executor: values, states, operations, code. No proofs here. -/
namespace Go.Proofs.Ytjeeclabnimbbaa
open Go.RowKit

/-- Typed values: a slot's. re: the address of an element of a row of the call's own, by the pin's number. -/
inductive SV where
  | junk
  | d (x : SD)
  | ag (cs : List SV)
  | tup (cs : List SV)
  | ptr (t off : Nat)
  | row (t : Nat)
  | re (t p off : Nat)
  | vw (t lo hi : Nat)
  | fe (cs : List SD)
  | fn (f : FuncId) (ps qs : List SV)
/-- A pin: which element, and its cells if they are known. -/
structure Pin where
  i : Int
  cs : Option (List SD)
inductive SBox where
  | st (ty : TypeId) (cs : List SV)
  | rw (e k : Nat) (t : Ty) (xs : List t.den) (pins : List (Nat × Pin))
def lkV : List (Nat × SV) → Nat → SV
  | [], _ => .junk
  | (j, v) :: l, i => match Nat.beq i j with | true => v | false => lkV l i
def lkB : List (Nat × Option SBox) → Nat → Option SBox
  | [], _ => none
  | (j, v) :: l, i => match Nat.beq i j with | true => v | false => lkB l i
def lkP : List (Nat × Pin) → Nat → Option Pin
  | [], _ => none
  | (j, v) :: l, i => match Nat.beq i j with | true => some v | false => lkP l i
def memN : List Nat → Nat → Bool
  | [], _ => false
  | j :: l, i => match Nat.beq i j with | true => true | false => memN l i
/-- A state: slots, boxes, the boxes that may not be written, whether none may, and what numbers of boxes may be taken. -/
structure SS where
  sl : List (Nat × SV)
  bx : List (Nat × Option SBox)
  pr : List Nat
  ro : Bool
  oc : List Nat
def wrB (s : SS) (t : Nat) : Bool := match s.ro with | true => false | false => !(memN s.pr t)
def newB (s : SS) (t : Nat) : Bool := match memN s.oc t with | true => false | false => !(memN s.pr t)

/-! ### Elements -/
def encS : (t : Ty) → t.den → List SD
  | .int k, x => [.int k x]
  | .bool, x => [.bool x]
  | .str, x => [.str x]
  | .sl t, xs => [.sl t xs]
  | .st i, x => stC i x
def decS : (t : Ty) → List SD → Option t.den
  | .st i, cs => stK i cs
  | .int k, [c] => c.as (.int k)
  | .bool, [c] => c.as .bool
  | .str, [c] => c.as .str
  | .sl t, [c] => c.as (.sl t)
  | _, _ => none
def tyN : Ty → Nat
  | .st i => stN i
  | _ => 1

/-! ### Values -/
def cellV : Value → Option SD
  | .int k n => some (.int k n)
  | .bool t => some (.bool t)
  | .string s => some (.str s)
  | .slice none 0 0 => some .nl
  | _ => none
def cellsV : List Value → Option (List SV)
  | [] => some []
  | v :: l => match cellV v, cellsV l with | some c, some cs => some (.d c :: cs) | _, _ => none
def constV : Value → SV
  | .agg xs => match cellsV xs.toList with | some cs => .ag cs | none => .junk
  | v => match cellV v with | some c => .d c | none => .junk
def evX (s : SS) : Operand → SV
  | .tmp i => lkV s.sl i
  | .const v => constV v
  | .func f => .fn f [] []
  | _ => .junk
/-- A slice, as data. -/
def rowX (s : SS) (t : Nat) : Option SD := match lkB s.bx t with
  | some (.rw _ _ ty xs _) => some (.sl ty xs)
  | _ => none
def dataX (s : SS) : SV → Option SD
  | .d x => some x
  | .row t => rowX s t
  | _ => none
def datasX (s : SS) : List SV → Option (List SD)
  | [] => some []
  | v :: l => match dataX s v, datasX s l with | some c, some cs => some (c :: cs) | _, _ => none
/-- The cells of a value that is stored. -/
def cellsX : SV → Option (List SV)
  | .ag cs => some cs
  | .junk => none
  | .tup _ => none
  | v => some [v]
mutual
/-- What may not be read any more once row t has grown. -/
def stale (t : Nat) : SV → SV
  | .row t' => match Nat.beq t' t with | true => .junk | false => .row t'
  | .re t' p o => match Nat.beq t' t with | true => .junk | false => .re t' p o
  | .vw t' p o => match Nat.beq t' t with | true => .junk | false => .vw t' p o
  | .ag cs => .ag (stales t cs)
  | .tup cs => .tup (stales t cs)
  | .fn f ps qs => .fn f (stales t ps) (stales t qs)
  | v => v
def stales (t : Nat) : List SV → List SV
  | [] => []
  | c :: cs => stale t c :: stales t cs
end
def staleS (t : Nat) : List (Nat × SV) → List (Nat × SV)
  | [] => []
  | (i, v) :: l => (i, stale t v) :: staleS t l
def staleB (t : Nat) : List (Nat × Option SBox) → List (Nat × Option SBox)
  | [] => []
  | (i, some (.st ty cs)) :: l => (i, some (.st ty (stales t cs))) :: staleB t l
  | (i, b) :: l => (i, b) :: staleB t l
/-- What an operation does with the boxes: nothing, a new one, one that is written, a row that grows. -/
inductive Upd where
  | no
  | new (t : Nat) (b : SBox)
  | set (t : Nat) (b : SBox)
  | pin (t : Nat) (b : SBox)
  | grow (t : Nat) (b : SBox)
def updIds : Upd → List Nat
  | .no => []
  | .new t _ => [t]
  | .set t _ => [t]
  | .pin _ _ => []
  | .grow t _ => [t]
def updS (sl : List (Nat × SV)) (dst : Option Nat) (v : SV) : List (Nat × SV) := match dst with | some d => (d, v) :: sl | none => sl
def SS.upd (s : SS) (dst : Option Nat) (v : SV) : Upd → SS
  | .no => ⟨updS s.sl dst v, s.bx, s.pr, s.ro, s.oc⟩
  | .new t b => ⟨updS s.sl dst v, (t, some b) :: s.bx, s.pr, s.ro, s.oc⟩
  | .set t b => ⟨updS s.sl dst v, (t, some b) :: s.bx, s.pr, s.ro, s.oc⟩
  | .pin t b => ⟨updS s.sl dst v, (t, some b) :: s.bx, s.pr, s.ro, s.oc⟩
  | .grow t b => ⟨updS (staleS t s.sl) dst v, (t, some b) :: staleB t s.bx, s.pr, s.ro, s.oc⟩

/-! ### Operations -/
def spliceX {α : Type} : List α → Nat → List α → List α
  | cs, 0, [] => cs
  | _ :: cs, 0, n :: ns => n :: spliceX cs 0 ns
  | [], _, _ => []
  | c :: cs, o + 1, ns => c :: spliceX cs o ns
def packX (size : Nat) (agg : Bool) (cl : List SV) : Option SV :=
  if agg then (if size ≤ cl.length then some (.ag (cl.take size)) else none) else cl.head?
def mapD : List SD → List SV
  | [] => []
  | c :: cs => .d c :: mapD cs
variable {ρ : Type}
/-- What needs a condition. -/
def chk (b : Bool) (k : Option ρ) : Option ρ := match b with | true => k | false => none
def isLit : Operand → Option Int
  | .const (.int _ n) => some n
  | _ => none
def arithX (op : BinOp) (kd : IntKind) (lit : Option Int) (x y : Int) (k : SV → Option ρ) : Option ρ :=
  match op with
  | .add => k (.d (.int kd (kd.wrap (x + y))))
  | .sub => k (.d (.int kd (kd.wrap (x - y))))
  | .mul => k (.d (.int kd (kd.wrap (x * y))))
  | .quo => match lit with
    | some n => chk (!(n == 0)) (k (.d (.int kd (kd.wrap (x.tdiv y)))))
    | none => Option.bind (if y = 0 then none else some (kd.wrap (x.tdiv y))) fun q => k (.d (.int kd q))
  | .rem => match lit with
    | some n => chk (!(n == 0)) (k (.d (.int kd (x.tmod y))))
    | none => Option.bind (remO x y) fun q => k (.d (.int kd q))
  | .eql => k (.d (.bool (x == y)))
  | .neq => k (.d (.bool (x != y)))
  | .lss => k (.d (.bool (decide (x < y))))
  | .leq => k (.d (.bool (decide (x ≤ y))))
  | .gtr => k (.d (.bool (decide (x > y))))
  | .geq => k (.d (.bool (decide (x ≥ y))))
  | .and => k (.d (.int kd (bits .and kd x y)))
  | .or => k (.d (.int kd (bits .or kd x y)))
  | .xor => k (.d (.int kd (bits .xor kd x y)))
  | _ => none
def shiftX (op : BinOp) (kd : IntKind) (lit : Option Int) (x y : Int) (k : SV → Option ρ) : Option ρ :=
  match lit with
  | some n => chk (decide (0 ≤ n)) (match op with
    | .shl => k (.d (.int kd (kd.wrap (x * 2 ^ (min y.toNat kd.bits)))))
    | .shr => k (.d (.int kd (x.fdiv (2 ^ (min y.toNat kd.bits)))))
    | _ => none)
  | none => Option.bind (if y < 0 then none else some ()) fun _ => (match op with
    | .shl => k (.d (.int kd (kd.wrap (x * 2 ^ (min y.toNat kd.bits)))))
    | .shr => k (.d (.int kd (x.fdiv (2 ^ (min y.toNat kd.bits)))))
    | _ => none)
def textsX (op : BinOp) (x y : ByteArray) (k : SV → Option ρ) : Option ρ :=
  match op with
  | .add => Option.bind (sCatO x y) fun z => k (.d (.str z))
  | .eql => k (.d (.bool (x.toList == y.toList)))
  | .neq => k (.d (.bool (!(x.toList == y.toList))))
  | .lss => k (.d (.bool (Op.bytesLess x.toList y.toList)))
  | .leq => k (.d (.bool (Op.bytesLess x.toList y.toList || (x.toList == y.toList))))
  | .gtr => k (.d (.bool (!(Op.bytesLess x.toList y.toList || (x.toList == y.toList)))))
  | .geq => k (.d (.bool (!(Op.bytesLess x.toList y.toList))))
  | _ => none
def truthsX (op : BinOp) (x y : Bool) (k : SV → Option ρ) : Option ρ :=
  match op with
  | .eql => k (.d (.bool (x == y)))
  | .neq => k (.d (.bool (!(x == y))))
  | _ => none
def eqLeafX : SD → SD → Option Bool
  | .int k a, .int k' b => if k = k' then some (a == b) else none
  | .bool a, .bool b => some (a == b)
  | .str a, .str b => some (a.toList == b.toList)
  | _, _ => none
def eqByX : List SV → List SV → Option Bool
  | [.d x], [.d y] => eqLeafX x y
  | .d x :: xs, .d y :: ys => match eqLeafX x y, eqByX xs ys with
    | some a, some r => some (a && r)
    | _, _ => none
  | _, _ => none
def leafNo : SV → Option Nat
  | .d (.int _ _) => some 0
  | .d (.bool _) => some 1
  | .d (.str _) => some 2
  | _ => none
def leafNos : List SV → Option (List Nat)
  | [] => some []
  | v :: l => match leafNo v, leafNos l with | some a, some r => some (a :: r) | _, _ => none
def eqNats : List Nat → List Nat → Bool
  | [], [] => true
  | a :: l, b :: m => match Nat.beq a b with | true => eqNats l m | false => false
  | _, _ => false
def binX (P : Program) (op : BinOp) (t : TypeId) (lit : Option Int) (p q : SV) (k : SV → Option ρ) : Option ρ :=
  match p, q with
  | .d (.int kd x), .d (.int kd' y) => match isShift op with
    | true => shiftX op kd lit x y k
    | false => if kd = kd' then arithX op kd lit x y k else none
  | .d (.str x), .d (.str y) => textsX op x y k
  | .d (.bool x), .d (.bool y) => match P.underlying t with
    | some .bool => truthsX op x y k
    | _ => none
  | .ag xs, .ag ys => match eqTy P t, leafNos xs, eqByX xs ys with
    | some l, some l', some r => chk (eqNats l l') (match op with
      | .eql => k (.d (.bool r))
      | .neq => k (.d (.bool (!r)))
      | _ => none)
    | _, _, _ => none
  | _, _ => none
def unX (op : UnOp) (p : SV) (k : SV → Option ρ) : Option ρ :=
  match op, p with
  | .not, .d (.bool x) => k (.d (.bool (!x)))
  | .neg, .d (.int kd x) => k (.d (.int kd (kd.wrap (0 - x))))
  | _, _ => none
def convX (P : Program) (s : SS) (src dst : TypeId) (p : SV) (k : SV → Option ρ) : Option ρ :=
  match P.underlying src with
  | none => none
  | some (.slice e) => (match P.underlying dst with
    | some .string => (match P.underlying e, dataX s p with
      | some (.int .u8), some (.sl (.int .u8) xs) => Option.bind (sOfO (xs : List Int)) fun z => k (.d (.str z))
      | _, _ => none)
    | _ => none)
  | some _ => match P.underlying dst, p with
    | some (.int kd), .d (.int _ x) => k (.d (.int kd (kd.wrap x)))
    | some .string, .d (.str x) => k (.d (.str x))
    | _, _ => none
def fieldAddrX (P : Program) (t : TypeId) (p : SV) (f : Nat) (k : SV → Option ρ) : Option ρ :=
  match (fldsOf P t)[f]? with
  | some (off, size, _) => chk (!(size == 0)) (match p with
    | .ptr t o => k (.ptr t (o + off))
    | .fe cs => k (.fe (cs.drop off))
    | .re t p o => k (.re t p (o + off))
    | _ => none)
  | none => none
def fieldX (P : Program) (t : TypeId) (p : SV) (f : Nat) (k : SV → Option ρ) : Option ρ :=
  match (fldsOf P t)[f]?, p with
  | some (off, size, agg), .ag cs => match packX size agg (cs.drop off) with | some v => k v | none => none
  | _, _ => none
def addrX (s : SS) : SV → Option (List SV)
  | .ptr t off => match lkB s.bx t with | some (.st _ cs) => some (cs.drop off) | _ => none
  | .fe cs => some (mapD cs)
  | .re t p off => match lkB s.bx t with
    | some (.rw _ _ _ _ pins) => match lkP pins p with
      | some ⟨_, some cs⟩ => some (mapD (cs.drop off))
      | _ => none
    | _ => none
  | _ => none
def loadX (P : Program) (s : SS) (t : TypeId) (p : SV) : Option SV :=
  match tinf P t, addrX s p with
  | some i, some cl => packX i.size i.agg cl
  | _, _ => none
def indexAddrX (P : Program) (s : SS) (dst : Option Nat) (t : TypeId) (p q : SV) (k : SV → Upd → Option ρ) : Option ρ :=
  match P.underlying t, q, dst with
  | some (.slice e), .d (.int _ i), some d => match tinf P e with
    | some ie => match p with
      | .d (.sl ty xs) => chk (tyN ty == ie.size) (Option.bind (idxO xs i) fun x => k (.fe (encS ty x)) .no)
      | .row t' => match lkB s.bx t' with
        | some (.rw e' kk ty xs pins) => chk (kk == ie.size) (chk (lkP pins d).isNone (Option.bind (idxO xs i) fun x => k (.re t' d 0) (.pin t' (.rw e' kk ty xs ((d, ⟨i, some (encS ty x)⟩) :: pins)))))
        | _ => none
      | _ => none
    | none => none
  | _, _, _ => none
def rowD : SV → Option SD
  | .d x => some x
  | _ => none
def rowDs : List SV → Option (List SD)
  | [] => some []
  | v :: l => match rowD v, rowDs l with | some c, some cs => some (c :: cs) | _, _ => none
def unpin : List (Nat × Pin) → List (Nat × Pin)
  | [] => []
  | (i, ⟨j, _⟩) :: l => (i, ⟨j, none⟩) :: unpin l
def storeX (P : Program) (s : SS) (t : TypeId) (p q : SV) (k : SV → Upd → Option ρ) : Option ρ :=
  match tinf P t, cellsX q with
  | some i, some ns => match p with
    | .ptr x off => match lkB s.bx x with
      | some (.st ty cs) => chk (ns.length == i.size) (chk (decide (off + ns.length ≤ cs.length)) (chk (wrB s x) (k .junk (.set x (.st ty (spliceX cs off ns))))))
      | _ => none
    | .re x pi off => match lkB s.bx x, rowDs ns with
      | some (.rw e kk ty xs pins), some ds => match lkP pins pi with
        | some ⟨j, cs⟩ => chk (ns.length == i.size) (chk (decide (off + ds.length ≤ tyN ty)) (chk (wrB s x) (match (if ds.length = tyN ty then some ds else cs.map fun cs => spliceX cs off ds) with
          | some cs' => match decS ty cs' with
            | some y => k .junk (.set x (.rw e kk ty (xs.set j.toNat y) ((pi, ⟨j, some (encS ty y)⟩) :: unpin pins)))
            | none => none
          | none => none)))
        | none => none
      | _, _ => none
    | _ => none
  | _, _ => none
def fillX (place : Nat → Option (Nat × Nat)) : List SV → List (Nat × SV) → Option (List SV)
  | cs, [] => some cs
  | cs, (i, p) :: rest => match place i, cellsX p with
    | some (off, size), some ns => chk (ns.length == size) (chk (decide (off + ns.length ≤ cs.length)) (fillX place (spliceX cs off ns) rest))
    | _, _ => none
def zerosX (i : TI) : Option (List SV) := cellsV i.zero
def chunkX : Nat → Nat → List SD → List (List SD)
  | _, 0, _ => []
  | k, n + 1, l => l.take k :: chunkX k n (l.drop k)
def decAll (t : Ty) : List (List SD) → Option (List t.den)
  | [] => some []
  | c :: l => match decS t c, decAll t l with | some x, some xs => some (x :: xs) | _, _ => none
/-- The type of a slice's elements: a guess. -/
def tyOf (P : Program) : Nat → TypeId → Option Ty
  | 0, _ => none
  | d + 1, t => match stOf t with
    | some i => some (.st i)
    | none => match P.underlying t with
      | some (.int k) => some (.int k)
      | some .bool => some .bool
      | some .string => some .str
      | some (.slice e) => (tyOf P d e).map .sl
      | _ => none
def replX {α : Type} : Nat → List α → List α
  | 0, _ => []
  | n + 1, l => l ++ replX n l
def buildSliceX (P : Program) (s : SS) (dst : Option Nat) (t : TypeId) (len : Nat) (parts : List (Nat × SV)) (k : SV → Upd → Option ρ) : Option ρ :=
  match dst, P.underlying t with
  | some d, some (.slice e) => match tinf P e, lkB s.bx d, tyOf P 4 e with
    | some i, none, some ty => match zerosX i with
      | some z => chk (decide (0 < i.size)) (chk (decide (len ≤ 1000)) (chk (decide (len * i.size ≤ 16777216)) (chk (newB s d) (match fillX (fun j => some (j * i.size, i.size)) (replX len z) parts with
        | some cs => match rowDs cs with
          | some ds => match decAll ty (chunkX i.size len ds) with
            | some xs => chk (tyN ty == i.size) (k (.row d) (.new d (.rw e i.size ty xs [])))
            | none => none
          | none => none
        | none => none))))
      | none => none
    | _, _, _ => none
  | _, _ => none
def appendX (P : Program) (s : SS) (dst : Option Nat) (t : TypeId) (p q : SV) (k : SV → Upd → Option ρ) : Option ρ :=
  match P.underlying t, dataX s q with
  | some (.slice e), some (.sl ty ys) => match tinf P e with
    | some i => chk (decide (0 < i.size)) (chk (decide (0 < i.bytes)) (chk (decide (i.bytes ≤ 1000000)) (chk (tyN ty == i.size) (match p with
      | .row x => match lkB s.bx x with
        | some (.rw e' kk ty' xs _) => match Ty.same ty ty' with
          | some ⟨h⟩ => chk (e' == e) (chk (kk == i.size) (chk (wrB s x) (Option.bind (appO xs (castL h ys)) fun zs => k (.row x) (.grow x (.rw e' kk ty' zs [])))))
          | none => none
        | _ => none
      | .d .nl => match dst with
        | some d => match lkB s.bx d with
          | none => chk (newB s d) (Option.bind (appO ([] : List ty.den) ys) fun zs => k (.row d) (.new d (.rw e i.size ty zs [])))
          | some _ => none
        | none => none
      | _ => none))))
    | none => none
  | _, _ => none
def intX : SV → Option Int
  | .d (.int _ i) => some i
  | _ => none
def vwO (n : Nat) (l h : Int) : Option Unit := if 0 ≤ l ∧ 0 ≤ h ∧ l.toNat ≤ h.toNat ∧ h.toNat ≤ n then some () else none
def optX (lo : Option SV) (n : Int) : Option Int := match lo with
  | none => some n
  | some v => intX v
def copyO {α : Type} (xs : List α) (lo hi : Nat) (ys : List α) : Option (List α) := if lo ≤ hi ∧ hi ≤ xs.length then some (putAt xs lo (ys.take (hi - lo))) else none
def mkO {α : Type} (z : α) (n : Int) : Option (List α) := if 0 ≤ n ∧ n ≤ 1000000 then some (List.replicate n.toNat z) else none
/-- What is copied. -/
def srcX (s : SS) : SV → Option SD
  | .vw t lo hi => match lkB s.bx t with
    | some (.rw _ _ ty xs _) => some (.sl ty ((xs.drop lo).take (hi - lo)))
    | _ => none
  | v => dataX s v
def partX (s : SS) : SV → Option (Nat × Nat × Nat)
  | .row t => match lkB s.bx t with
    | some (.rw _ _ _ xs _) => some (t, 0, xs.length)
    | _ => none
  | .vw t lo hi => some (t, lo, hi)
  | _ => none
def copyX (P : Program) (s : SS) (t : TypeId) (p q : SV) (k : SV → Upd → Option ρ) : Option ρ :=
  match P.underlying t, srcX s q, partX s p with
  | some (.slice e), some (.sl ty ys), some (x, lo, hi) => match tinf P e, lkB s.bx x with
    | some i, some (.rw e' kk ty' xs pins) => match Ty.same ty ty' with
      | some ⟨h⟩ => chk (kk == i.size) (chk (tyN ty == i.size) (chk (wrB s x) (Option.bind (copyO xs lo hi (castL h ys)) fun zs => k (.d (.int .i64 (min ys.length (hi - lo) : Nat))) (.set x (.rw e' kk ty' zs (unpin pins))))))
      | none => none
    | _, _ => none
  | _, _, _ => none
def sameOp : Operand → Operand → Bool
  | .tmp i, .tmp j => Nat.beq i j
  | .const (.int _ n), .const (.int _ m) => n == m
  | _, _ => false
def makeX (P : Program) (s : SS) (dst : Option Nat) (t : TypeId) (same : Bool) (p : SV) (k : SV → Upd → Option ρ) : Option ρ :=
  match dst, P.underlying t, p, same with
  | some d, some (.slice e), .d (.int _ n), true => match tinf P e, lkB s.bx d, tyOf P 4 e with
    | some i, none, some ty => match zerosX i with
      | some z => (match rowDs z with
        | some ds => (match decS ty ds with
          | some z0 => chk (decide (0 < i.size)) (chk (decide (i.bytes ≤ 1000000)) (chk (tyN ty == i.size) (chk (newB s d) (Option.bind (mkO z0 n) fun xs => k (.row d) (.new d (.rw e i.size ty xs []))))))
          | none => none)
        | none => none)
      | none => none
    | _, _, _ => none
  | _, _, _, _ => none
def sliceX (P : Program) (s : SS) (t : TypeId) (p : SV) (lo hi : Option SV) (k : SV → Option ρ) : Option ρ :=
  match P.underlying t, p with
  | some (.slice e), .d (.sl ty xs) => match tinf P e with
    | some i => chk (tyN ty == i.size) (match lo, hi with
      | none, none => k (.d (.sl ty xs))
      | some l, none => match intX l with | some l => Option.bind (loO xs l) fun z => k (.d (.sl ty z)) | none => none
      | none, some h => match intX h with | some h => Option.bind (hiO xs h) fun z => k (.d (.sl ty z)) | none => none
      | some l, some h => match intX l, intX h with | some l, some h => Option.bind (lhO xs l h) fun z => k (.d (.sl ty z)) | _, _ => none)
    | none => none
  | some (.slice e), .row x => match tinf P e, lkB s.bx x with
    | some i, some (.rw _ kk ty xs _) => chk (kk == i.size) (match optX lo 0, optX hi xs.length with
      | some l, some h => Option.bind (vwO xs.length l h) fun _ => k (.vw x l.toNat h.toNat)
      | _, _ => none)
    | _, _ => none
  | some .string, .d (.str x) => match lo, hi with
      | some l, none => match intX l with | some l => Option.bind (sLoO x l) fun z => k (.d (.str z)) | none => none
      | none, some h => match intX h with | some h => Option.bind (sHiO x h) fun z => k (.d (.str z)) | none => none
      | some l, some h => match intX l, intX h with | some l, some h => Option.bind (sLhO x l h) fun z => k (.d (.str z)) | _, _ => none
      | none, none => none
  | _, _ => none
def minmaxX (mx : Bool) : SV → List SV → Option SV
  | p, [] => some p
  | .d (.int k x), .d (.int _ y) :: l => minmaxX mx (.d (.int k (match mx with | true => if y > x then y else x | false => if y < x then y else x))) l
  | _, _ => none
def lenX (P : Program) (s : SS) (t : TypeId) (v : SV) (k : SV → Option ρ) : Option ρ :=
  match P.underlying t with
  | some (.slice _) => match dataX s v with
    | some (.sl _ xs) => k (.d (.int .i64 (xs.length : Int)))
    | some .nl => k (.d (.int .i64 0))
    | _ => match v with
      | .vw _ lo hi => k (.d (.int .i64 ((hi - lo : Nat) : Int)))
      | _ => none
  | some .string => match v with
    | .d (.str x) => k (.d (.int .i64 (x.size : Int)))
    | _ => none
  | _ => none
def builtinX (P : Program) (s : SS) (dst : Option Nat) (f : Builtin) (args : List SV) (ts : List TypeId) (k : SV → Upd → Option ρ) : Option ρ :=
  match f with
  | .len => (match args, ts with | [x], [t] => lenX P s t x fun v => k v .no | _, _ => none)
  | .append => (match args, ts with | [x, y], [t, t'] => (match Nat.beq t' t with | true => appendX P s dst t x y k | false => none) | _, _ => none)
  | .min => (match args with | x :: xs => (match minmaxX false x xs with | some v => k v .no | none => none) | _ => none)
  | .max => (match args with | x :: xs => (match minmaxX true x xs with | some v => k v .no | none => none) | _ => none)
  | .copy => (match args, ts with | [x, y], [t, _] => copyX P s t x y k | _, _ => none)
  | _ => none
def partsX (s : SS) : List (Nat × Operand) → List (Nat × SV)
  | [] => []
  | (i, x) :: l => (i, evX s x) :: partsX s l
def evsX (s : SS) : List Operand → List SV
  | [] => []
  | x :: l => evX s x :: evsX s l
def pickX (c : Bool) (v w : SV) : Option SV :=
  match v, w with
  | .d (.int k x), .d (.int k' y) => if k = k' then some (.d (.int k (if c = true then x else y))) else none
  | .d (.bool x), .d (.bool y) => some (.d (.bool (if c = true then x else y)))
  | .d (.str x), .d (.str y) => some (.d (.str (if c = true then x else y)))
  | v, w => match c with | true => some v | false => some w
def effX (P : Program) (o : Oper) (s : SS) (k : SV → Upd → Option ρ) : Option ρ :=
  match o.op with
  | .move x => k (evX s x) .no
  | .assign x => k (evX s x) .no
  | .pick c x y => match evX s c with
    | .d (.bool t) => match pickX t (evX s x) (evX s y) with | some v => k v .no | none => none
    | _ => none
  | .alloc e => match o.dst, tinf P e with
    | some t, some i => match lkB s.bx t, zerosX i with
      | none, some z => chk (newB s t) (k (.ptr t 0) (.new t (.st e z)))
      | _, _ => none
    | _, _ => none
  | .box e x => match o.dst, cellsX (evX s x) with
    | some t, some cs => match lkB s.bx t with
      | none => chk (newB s t) (k (.ptr t 0) (.new t (.st e cs)))
      | some _ => none
    | _, _ => none
  | .build t ps => match tinf P t, fldsO P t with
    | some i, some fl => match zerosX i with
      | some z => (match fillX (fun j => (fl[j]?).map fun x => (x.1, x.2.1)) z (partsX s ps.toList) with | some cs => k (.ag cs) .no | none => none)
      | none => none
    | _, _ => none
  | .buildSlice t n ps => buildSliceX P s o.dst t n (partsX s ps.toList) k
  | .load t x => match loadX P s t (evX s x) with | some v => k v .no | none => none
  | .store t x y => storeX P s t (evX s x) (evX s y) k
  | .binOp op t x y _ => binX P op t (isLit y) (evX s x) (evX s y) fun v => k v .no
  | .unOp op _ x => unX op (evX s x) fun v => k v .no
  | .convert src dst x => convX P s src dst (evX s x) fun v => k v .no
  | .slice t x lo hi none => sliceX P s t (evX s x) (lo.map (evX s)) (hi.map (evX s)) fun v => k v .no
  | .fieldAddr t x f => fieldAddrX P t (evX s x) f fun v => k v .no
  | .field t x f => fieldX P t (evX s x) f fun v => k v .no
  | .indexAddr t x i => indexAddrX P s o.dst t (evX s x) (evX s i) k
  | .extract x i => match evX s x with
    | .tup vs => match vs[i]? with | some v => k v .no | none => none
    | _ => none
  | .index t x i => match P.underlying t, evX s x, evX s i with
    | some .string, .d (.str x), .d (.int _ i) => Option.bind (sIdxO x i) fun z => k (.d (.int .u8 z)) .no
    | _, _, _ => none
  | .call c => match c.callee with
    | .builtin f => builtinX P s o.dst f (evsX s c.args.toList) c.argTypes.toList k
    | _ => none
  | .makeFunc (.func f) ps qs => k (.fn f (evsX s ps.toList) (evsX s qs.toList)) .no
  | .makeSlice t x y => makeX P s o.dst t (sameOp x y) (evX s x) k
  | _ => none
end Go.Proofs.Ytjeeclabnimbbaa

/- The typed executor: calls, regions, code. No proofs here. -/
namespace Go.Proofs.Ytjeeclabnimbbaa
open Go.RowKit

/-! ### Parameters and results -/
/-- What a func value has with it: data, structs, pointers to such (that nobody writes). -/
inductive CT where
  | v (t : Ty)
  | a (i : Nat)
  | pl (t : Ty)
  | ps (i : Nat)
def CT.den : CT → Type
  | .v t => t.den
  | .a i => ST i
  | .pl t => t.den
  | .ps i => ST i
def cdens : List CT → Type
  | [] => Unit
  | c :: cs => c.den × cdens cs
/-- What a call leaves of a box that it was handed: nothing is said, a row, a struct some of whose cells are rows. -/
inductive IB where
  | no
  | own (e k : Nat) (t : Ty)
  | bx (ty n : Nat) (rows : List (Nat × Nat × Nat × Ty))
def IB.den : IB → Type
  | .no => Unit
  | .own _ _ t => List t.den
  | .bx _ n _ => ST n
/-- How many new numbers its rows take. -/
def IB.nJ : IB → Nat
  | .bx _ _ rows => rows.length
  | _ => 0
def newIO : Nat → List IB → List (List Nat)
  | _, [] => []
  | base, b :: l => List.range' base b.nJ :: newIO (base + b.nJ) l
def sumJ : List IB → Nat
  | [] => 0
  | b :: l => b.nJ + sumJ l
def outT : List IB → Type
  | [] => Unit
  | b :: l => b.den × outT l
/-- lf to fn: data. own: a row of the caller's own; mv: one that is handed over; bx: a pointer to a struct of the caller's own; agr: a struct that holds such rows; io: what the boxes then are (the first result). -/
inductive PT where
  | lf (t : Ty)
  | ag (i : Nat)
  | pl (t : Ty)
  | ps (i : Nat)
  | fn (f : FuncId) (a b : List CT)
  | own (e k : Nat) (t : Ty)
  | mv (e k : Nat) (t : Ty)
  | bx (ty n : Nat) (rows : List (Nat × Nat × Nat × Ty))
  | agr (n : Nat) (rows : List (Nat × Nat × Nat × Ty))
  | io (l : List IB)
def PT.den : PT → Type
  | .lf t => t.den
  | .ag i => ST i
  | .pl t => t.den
  | .ps i => ST i
  | .fn _ a b => cdens a × cdens b
  | .own _ _ t => List t.den
  | .mv _ _ t => List t.den
  | .bx _ n _ => ST n
  | .agr n _ => ST n
  | .io l => outT l
/-- Has it to do with boxes? -/
def PT.isM : PT → Bool
  | .own .. => true
  | .mv .. => true
  | .bx .. => true
  | .agr .. => true
  | .io _ => true
  | _ => false
def anyM : List PT → Bool
  | [] => false
  | p :: l => match p.isM with | true => true | false => anyM l
def PT.flat : PT → Bool
  | .lf (.int _) => true
  | .lf .bool => true
  | .lf .str => true
  | .lf _ => false
  | .ag i => stF i
  | _ => false
def encC : (c : CT) → c.den → SV
  | .v t, x => .d (enc1 t x)
  | .a i, x => .ag (mapD (stC i x))
  | .pl t, x => .fe [enc1 t x]
  | .ps i, x => .fe (stC i x)
def encCs : (cs : List CT) → cdens cs → List SV
  | [], _ => []
  | c :: cs, x => encC c x.1 :: encCs cs x.2
def encA : (p : PT) → p.den → SV
  | .lf t, x => .d (enc1 t x)
  | .ag i, x => .ag (mapD (stC i x))
  | .pl t, x => .fe [enc1 t x]
  | .ps i, x => .fe (stC i x)
  | .fn f a b, x => .fn f (encCs a x.1) (encCs b x.2)
  | .own .., _ => .junk
  | .mv .., _ => .junk
  | .bx .., _ => .junk
  | .agr .., _ => .junk
  | .io _, _ => .junk
def decV (s : SS) (t : Ty) (v : SV) : Option t.den := match dataX s v with | some c => c.as t | none => none
def decG (s : SS) (i : Nat) : SV → Option (ST i)
  | .ag cs => match datasX s cs with | some cs => stK i cs | none => none
  | _ => none
def decF1 (t : Ty) : SV → Option t.den
  | .fe [c] => c.as t
  | _ => none
def decFs (i : Nat) : SV → Option (ST i)
  | .fe cs => stK i cs
  | _ => none
def decC (s : SS) : (c : CT) → SV → Option c.den
  | .v t, v => decV s t v
  | .a i, v => decG s i v
  | .pl t, v => decF1 t v
  | .ps i, v => decFs i v
def decCs (s : SS) : (cs : List CT) → List SV → Option (cdens cs)
  | [], [] => some ()
  | c :: cs, v :: vs => Option.bind (decC s c v) fun x => Option.bind (decCs s cs vs) fun xs => some (x, xs)
  | _, _ => none
def decN (s : SS) (f : FuncId) (a b : List CT) : SV → Option (cdens a × cdens b)
  | .fn f' ps qs => match Nat.beq f' f with
    | true => Option.bind (decCs s a ps) fun x => Option.bind (decCs s b qs) fun y => some (x, y)
    | false => none
  | _ => none
def decA (s : SS) : (p : PT) → SV → Option p.den
  | .lf t, v => decV s t v
  | .ag i, v => decG s i v
  | .pl t, v => decF1 t v
  | .ps i, v => decFs i v
  | .fn f a b, v => decN s f a b v
  | .own .., _ => none
  | .mv .., _ => none
  | .bx .., _ => none
  | .agr .., _ => none
  | .io _, _ => none
def dens : List PT → Type
  | [] => Unit
  | p :: ps => p.den × dens ps
def densR : List PT → Type
  | [] => Unit
  | [p] => p.den
  | p :: q :: l => p.den × densR (q :: l)
def encAs : (ps : List PT) → dens ps → List SV
  | [], _ => []
  | p :: ps, x => encA p x.1 :: encAs ps x.2
def decAs (s : SS) : (ps : List PT) → List SV → Option (dens ps)
  | [], [] => some ()
  | p :: ps, v :: vs => Option.bind (decA s p v) fun x => Option.bind (decAs s ps vs) fun xs => some (x, xs)
  | _, _ => none
def encRs : (rs : List PT) → densR rs → List SV
  | [], _ => []
  | [p], x => [encA p x]
  | p :: q :: l, x => encA p x.1 :: encRs (q :: l) x.2
def encR (rs : List PT) (x : densR rs) : SV := match rs, x with
  | [p], x => encA p x
  | rs, x => .tup (encRs rs x)
def decRs (s : SS) : (rs : List PT) → List SV → Option (densR rs)
  | [], [] => some ()
  | [p], [v] => decA s p v
  | p :: q :: l, v :: vs => Option.bind (decA s p v) fun x => Option.bind (decRs s (q :: l) vs) fun xs => some (x, xs)
  | _, _ => none
def flatAll : List PT → Bool
  | [] => true
  | p :: l => match p.flat with | true => flatAll l | false => false
/-- No parameter is a struct that is said to be one cell. -/
def ctOk : CT → Bool
  | .v (.st _) => false
  | .pl (.st _) => false
  | _ => true
def ctsOk : List CT → Bool
  | [] => true
  | c :: l => match ctOk c with | true => ctsOk l | false => false
def ptOk : PT → Bool
  | .lf (.st _) => false
  | .pl (.st _) => false
  | .fn _ a b => match ctsOk a with | true => ctsOk b | false => false
  | .lf _ => true
  | .pl _ => true
  | .ag _ => true
  | .ps _ => true
  | _ => false
def ptsOk : List PT → Bool
  | [] => true
  | p :: l => match ptOk p with | true => ptsOk l | false => false
def ptsOkM : List PT → Bool
  | [] => true
  | p :: l => match p.isM || ptOk p with | true => ptsOkM l | false => false
/-- What is known of a function: what it answers to what. -/
structure Ent where
  ps : List PT
  rs : List PT
  f : dens ps → Option (densR rs)
/-- Is it called with these func values? -/
def fitA : PT → SV → Bool
  | .fn f _ _, .fn g _ _ => Nat.beq g f
  | .fn _ _ _, _ => false
  | _, _ => true
def fitAs : List PT → List SV → Bool
  | [], _ => true
  | _ :: _, [] => true
  | p :: ps, v :: vs => match fitA p v with | true => fitAs ps vs | false => false
def lkE : List (Nat × Ent) → Nat → List SV → Option Ent
  | [], _, _ => none
  | (j, v) :: l, i, vs => match Nat.beq i j with
    | true => (match fitAs v.ps vs with | true => some v | false => lkE l i vs)
    | false => lkE l i vs
mutual
/-- No row of the call's own is in it. -/
def norow : SV → Bool
  | .row _ => false
  | .ptr _ _ => false
  | .re _ _ _ => false
  | .vw _ _ _ => false
  | .ag cs => norows cs
  | .tup cs => norows cs
  | .fn _ ps qs => match norows ps with | true => norows qs | false => false
  | _ => true
def norows : List SV → Bool
  | [] => true
  | c :: cs => match norow c with | true => norows cs | false => false
end
def findR : List (Nat × Nat × Nat × Nat × Ty) → Nat → Option (Nat × Nat × Nat × Ty)
  | [], _ => none
  | (j, R, e, k, t) :: l, i => match Nat.beq j i with | true => some (R, e, k, t) | false => findR l i
/-- The cells of a struct, some of which hold rows of the call's own. -/
def cellsOf (s : SS) (rows : List (Nat × Nat × Nat × Nat × Ty)) : Nat → List SV → Option (List SD)
  | _, [] => some []
  | j, c :: cs => match findR rows j with
    | some (R, e, k, t) => (match c, lkB s.bx R with
      | .row R', some (.rw e' k' t' xs _) => (match Ty.same t' t with
        | some ⟨h⟩ => chk (Nat.beq R' R) (chk (e' == e) (chk (k' == k) (match cellsOf s rows (j + 1) cs with | some r => some (.sl t (castL h xs) :: r) | none => none)))
        | none => none)
      | _, _ => none)
    | none => (match c, cellsOf s rows (j + 1) cs with
      | .d x, some r => some (x :: r)
      | _, _ => none)
/-- Cells, some of them as rows of the call's own. -/
def putCells (rows : List (Nat × Nat × Nat × Nat × Ty)) : Nat → List SD → List (Nat × Option SBox) → Option (List SV × List (Nat × Option SBox))
  | _, [], bx => some ([], bx)
  | j, c :: cs, bx => match findR rows j with
    | some (R, e, k, t) => (match c.as (.sl t), putCells rows (j + 1) cs bx with
      | some xs, some (vs, bx) => some (.row R :: vs, (R, some (.rw e k t xs [])) :: bx)
      | _, _ => none)
    | none => (match putCells rows (j + 1) cs bx with
      | some (vs, bx) => some (.d c :: vs, bx)
      | none => none)

/-! ### Calls that turn boxes, or answer rows of their own -/
def zipR : List (Nat × Nat × Nat × Ty) → List Nat → List (Nat × Nat × Nat × Nat × Ty)
  | (j, e, k, t) :: l, R :: is => (j, R, e, k, t) :: zipR l is
  | _, _ => []
/-- How many boxes a parameter or a result is. -/
def PT.nI : PT → Nat
  | .own .. => 1
  | .mv .. => 1
  | .bx _ _ rows => rows.length + 1
  | .agr _ rows => rows.length
  | _ => 0
def encSt (rows : List (Nat × Nat × Nat × Ty)) (is : List Nat) (n : Nat) (x : ST n) : Option (List SV × List (Nat × Option SBox)) := putCells (zipR rows is) 0 (stC n x) []
def encI : (p : PT) → List Nat → p.den → Option (SV × List (Nat × Option SBox))
  | .own e k t, is, xs => (match is with | [i] => some (.row i, [(i, some (.rw e k t xs []))]) | _ => none)
  | .mv e k t, is, xs => (match is with | [i] => some (.row i, [(i, some (.rw e k t xs []))]) | _ => none)
  | .bx ty n rows, is, x => (match is with | i :: is => (match encSt rows is n x with | some (vs, bx) => some (.ptr i 0, (i, some (.st ty vs)) :: bx) | none => none) | _ => none)
  | .agr n rows, is, x => (match encSt rows is n x with | some (vs, bx) => some (.ag vs, bx) | none => none)
  | .io _, _, _ => none
  | .lf t, _, x => some (.d (enc1 t x), [])
  | .ag i, _, x => some (.ag (mapD (stC i x)), [])
  | .pl t, _, x => some (.fe [enc1 t x], [])
  | .ps i, _, x => some (.fe (stC i x), [])
  | .fn f a b, _, x => some (.fn f (encCs a x.1) (encCs b x.2), [])
def encIs : (ps : List PT) → List (List Nat) → dens ps → Option (List SV × List (Nat × Option SBox))
  | [], [], _ => some ([], [])
  | p :: ps, is :: iss, x => (match encI p is x.1, encIs ps iss x.2 with | some (v, b), some (vs, bs) => some (v :: vs, b ++ bs) | _, _ => none)
  | _, _, _ => none
def rowIdsX : List (Nat × Nat × Nat × Ty) → List SV → Option (List Nat)
  | [], _ => some []
  | (j, _) :: l, cs => (match cs[j]?, rowIdsX l cs with | some (.row R), some is => some (R :: is) | _, _ => none)
def decSt (s : SS) (rows : List (Nat × Nat × Nat × Ty)) (n : Nat) (cs : List SV) : Option (ST n × List Nat) := match rowIdsX rows cs with
  | some is => (match cellsOf s (zipR rows is) 0 cs with
    | some ds => (match stK n ds with | some x => some (x, is) | none => none)
    | none => none)
  | none => none
def decRow (s : SS) (e k : Nat) (t : Ty) : SV → Option (List t.den × List Nat)
  | .row i => (match lkB s.bx i with
    | some (.rw e' k' t' xs _) => (match Ty.same t' t with
      | some ⟨h⟩ => chk (e' == e) (chk (k' == k) (some (castL h xs, [i])))
      | none => none)
    | _ => none)
  | _ => none
def decBx (s : SS) (ty n : Nat) (rows : List (Nat × Nat × Nat × Ty)) : SV → Option (ST n × List Nat)
  | .ptr i 0 => (match lkB s.bx i with
    | some (.st ty' cs) => chk (ty' == ty) (match decSt s rows n cs with | some (x, is) => some (x, i :: is) | none => none)
    | _ => none)
  | _ => none
def decAgr (s : SS) (n : Nat) (rows : List (Nat × Nat × Nat × Ty)) : SV → Option (ST n × List Nat)
  | .ag cs => decSt s rows n cs
  | _ => none
def decP (s : SS) (p : PT) (v : SV) : Option (p.den × List Nat) := chk (norow v) (match decA s p v with | some x => some (x, []) | none => none)
def decI (s : SS) : (p : PT) → SV → Option (p.den × List Nat)
  | .own e k t, v => decRow s e k t v
  | .mv e k t, v => decRow s e k t v
  | .bx ty n rows, v => decBx s ty n rows v
  | .agr n rows, v => decAgr s n rows v
  | .io _, _ => none
  | .lf t, v => decP s (.lf t) v
  | .ag i, v => decP s (.ag i) v
  | .pl t, v => decP s (.pl t) v
  | .ps i, v => decP s (.ps i) v
  | .fn f a b, v => decP s (.fn f a b) v
def decIs (s : SS) : (ps : List PT) → List SV → Option (dens ps × List (List Nat))
  | [], [] => some ((), [])
  | p :: ps, v :: vs => (match decI s p v, decIs s ps vs with | some (x, is), some (xs, iss) => some ((x, xs), is :: iss) | _, _ => none)
  | _, _ => none
/-- What a call does with the caller's boxes: numbers that are forgotten, boxes, numbers that are gone. -/
structure MU where
  ks : List Nat
  us : List (Nat × Option SBox)
  gs : List Nat
mutual
def stV (ks : List Nat) : SV → SV
  | .row t => match memN ks t with | true => .junk | false => .row t
  | .re t p o => match memN ks t with | true => .junk | false => .re t p o
  | .vw t p o => match memN ks t with | true => .junk | false => .vw t p o
  | .ag cs => .ag (stVs ks cs)
  | .tup cs => .tup (stVs ks cs)
  | .fn f ps qs => .fn f (stVs ks ps) (stVs ks qs)
  | v => v
def stVs (ks : List Nat) : List SV → List SV
  | [] => []
  | c :: cs => stV ks c :: stVs ks cs
end
def stSl (ks : List Nat) : List (Nat × SV) → List (Nat × SV)
  | [] => []
  | (i, v) :: l => (i, stV ks v) :: stSl ks l
def stBx (ks : List Nat) : List (Nat × Option SBox) → List (Nat × Option SBox)
  | [] => []
  | (i, some (.st ty cs)) :: l => (i, some (.st ty (stVs ks cs))) :: stBx ks l
  | (i, b) :: l => (i, b) :: stBx ks l
def SS.updM (s : SS) (dst : Option Nat) (v : SV) (m : MU) : SS := ⟨updS (stSl m.ks s.sl) dst v, m.us ++ stBx m.ks s.bx, s.pr, s.ro, m.gs ++ s.oc⟩
def ioOf : List PT → List IB
  | .io l :: _ => l
  | _ => []
def rsOf : List PT → List PT
  | .io _ :: l => l
  | l => l
def outOf : (rs : List PT) → densR rs → outT (ioOf rs)
  | [], _ => ()
  | [.io _], r => r
  | .io _ :: _ :: _, r => r.1
  | .own .. :: _, _ => ()
  | .mv .. :: _, _ => ()
  | .bx .. :: _, _ => ()
  | .agr .. :: _, _ => ()
  | .lf _ :: _, _ => ()
  | .ag _ :: _, _ => ()
  | .pl _ :: _, _ => ()
  | .ps _ :: _, _ => ()
  | .fn .. :: _, _ => ()
def resOf : (rs : List PT) → densR rs → densR (rsOf rs)
  | [], _ => ()
  | [.io _], _ => ()
  | .io _ :: _ :: _, r => r.2
  | .own .. :: _, r => r
  | .mv .. :: _, r => r
  | .bx .. :: _, r => r
  | .agr .. :: _, r => r
  | .lf _ :: _, r => r
  | .ag _ :: _, r => r
  | .pl _ :: _, r => r
  | .ps _ :: _, r => r
  | .fn .. :: _, r => r
def pinsAt (s : SS) (i : Nat) : List (Nat × Pin) := match lkB s.bx i with | some (.rw _ _ _ _ pins) => unpin pins | _ => []
/-- One parameter's boxes after the call. -/
def goneT : List Nat → List (Nat × Option SBox)
  | [] => []
  | t :: l => (t, none) :: goneT l
def encO (s : SS) : (p : PT) → (b : IB) → List Nat → List Nat → b.den → Option MU
  | .own .., .own e k t, is, _, xs => (match is with | [i] => some ⟨[], [(i, some (.rw e k t xs (pinsAt s i)))], []⟩ | _ => none)
  | .mv .., .no, is, _, _ => (match is with | [i] => some ⟨[i], [], [i]⟩ | _ => none)
  | .bx .., .bx ty n rows, is, js, x => (match is with | i :: is => (match encSt rows js n x with | some (vs, bx) => some ⟨is, (i, some (.st ty vs)) :: bx, is⟩ | none => none) | _ => none)
  | .lf _, .no, _, _, _ => some ⟨[], [], []⟩
  | .ag _, .no, _, _, _ => some ⟨[], [], []⟩
  | .pl _, .no, _, _, _ => some ⟨[], [], []⟩
  | .ps _, .no, _, _, _ => some ⟨[], [], []⟩
  | .fn .., .no, _, _, _ => some ⟨[], [], []⟩
  | _, _, _, _, _ => none
def MU.app (a b : MU) : MU := ⟨a.ks ++ b.ks, a.us ++ b.us, a.gs ++ b.gs⟩
def encOs (s : SS) : (ps : List PT) → (ls : List IB) → List (List Nat) → List (List Nat) → outT ls → Option MU
  | [], [], [], [], _ => some ⟨[], [], []⟩
  | p :: ps, b :: ls, is :: iss, js :: kss, o => (match encO s p b is js o.1, encOs s ps ls iss kss o.2 with | some m, some m' => some (m.app m') | _, _ => none)
  | _, _, _, _, _ => none
def encRIs : (rs : List PT) → List (List Nat) → densR rs → Option (List SV × List (Nat × Option SBox))
  | [], [], _ => some ([], [])
  | [p], [is], x => (match encI p is x with | some (v, b) => some ([v], b) | none => none)
  | p :: q :: l, is :: iss, x => (match encI p is x.1, encRIs (q :: l) iss x.2 with | some (v, b), some (vs, bs) => some (v :: vs, b ++ bs) | _, _ => none)
  | _, _, _ => none
def oneV : List SV → SV
  | [v] => v
  | vs => .tup vs
/-- New numbers for a call's results: from base on. -/
def newIds : Nat → List PT → List (List Nat)
  | _, [] => []
  | base, p :: l => List.range' base p.nI :: newIds (base + p.nI) l
def flatN : List (List Nat) → List Nat
  | [] => []
  | l :: ls => l ++ flatN ls
def nodupN : List Nat → Bool
  | [] => true
  | a :: l => match memN l a with | true => false | false => nodupN l
def okNew (s : SS) : List Nat → Bool
  | [] => true
  | j :: l => match newB s j, lkB s.bx j, Nat.blt j 1000000 with | true, none, true => okNew s l | _, _, _ => false
def okOld (s : SS) : List Nat → Bool
  | [] => true
  | i :: l => match memN s.pr i with | true => false | false => okOld s l
def idU : List (Nat × Option SBox) → List Nat
  | [] => []
  | (i, _) :: l => i :: idU l
def subN : List Nat → List Nat → Bool
  | [], _ => true
  | a :: l, m => match memN m a with | true => subN l m | false => false
/-- All that is handed over is found again. -/
def allIn (ps : List PT) (iss : List (List Nat)) (x : dens ps) : Bool := match encIs ps iss x with | some (_, bi) => nodupN (idU bi) && subN (flatN iss) (idU bi) | none => false
/-- A struct is written by one as long. -/
def okLen (s : SS) : List (Nat × Option SBox) → Bool
  | [] => true
  | (i, b) :: l => (match lkB s.bx i with
    | some (.st ty cs) => (match b with | some (.st ty' cs') => ty == ty' && Nat.beq cs.length cs'.length | _ => false)
    | _ => true) && okLen s l
section
variable {ρ : Type}
def isMx (T : List (Nat × Ent)) (f : Nat) (args : List SV) : Bool := match lkE T f args with | some en => anyM en.ps || anyM en.rs | none => false
def callX (T : List (Nat × Ent)) (f : Nat) (s : SS) (args : List SV) (k : SV → Option ρ) : Option ρ :=
  match lkE T f args with
  | none => none
  | some en => chk (ptsOk en.rs) (chk (norows args || flatAll en.rs) (Option.bind (decAs s en.ps args) fun x => Option.bind (en.f x) fun r => k (encR en.rs r)))
/-- A call that turns boxes, or answers rows of its own. -/
def callM (T : List (Nat × Ent)) (f : Nat) (s : SS) (dst : Option Nat) (args : List SV) (k : SV → MU → Option ρ) : Option ρ :=
  match s.ro with
  | true => none
  | false => match lkE T f args, dst with
    | some en, some d => (match decIs s en.ps args with
      | some (x, iss) => Option.bind (en.f x) fun r =>
        let kss := newIO (500000 + 64 * d) (ioOf en.rs)
        let jss := newIds (500000 + 64 * d + sumJ (ioOf en.rs)) (rsOf en.rs)
        match encOs s en.ps (ioOf en.rs) iss kss (outOf en.rs r), encRIs (rsOf en.rs) jss (resOf en.rs r) with
        | some m, some (vs, bs) => chk (okOld s (idU m.us ++ (m.ks ++ m.gs)) && (okNew s (idU bs ++ (flatN kss ++ flatN jss)) && (nodupN (flatN iss ++ (flatN kss ++ flatN jss)) && (nodupN (idU (m.us ++ (bs ++ goneT m.gs))) && (okLen s (m.us ++ goneT m.gs) && (subN (flatN iss) (idU m.us ++ m.gs) && (subN (idU m.us ++ m.gs) (flatN iss ++ flatN kss) && (allIn en.ps iss x && (subN (flatN kss ++ flatN jss) (idU m.us ++ idU bs) && (ptsOkM (rsOf en.rs) && ptsOkM en.ps)))))))))) (k (oneV vs) ⟨m.ks, m.us ++ (bs ++ goneT m.gs), m.gs⟩)
        | _, _ => none
      | none => none)
    | _, _ => none
/-! ### Regions -/
/-- A slot that holds a truth, now known. -/
def known (s : SS) (x : Operand) (b : Bool) : SS := match x with
  | .tmp i => ⟨(i, .d (.bool b)) :: s.sl, s.bx, s.pr, s.ro, s.oc⟩
  | _ => s
/-- The operations up to the pick that hangs on slot g, what it writes, and those behind it. -/
def uptoG (g : Nat) : List Oper → Option (List Oper × Nat × List Oper)
  | [] => none
  | o :: l => match (match o.op, o.dst with | .pick (.tmp g') _ _, some d => (match Nat.beq g' g with | true => some d | false => none) | _, _ => none) with
    | some d => some ([o], d, l)
    | none => match uptoG g l with
      | some (a, d, b) => some (o :: a, d, b)
      | none => none
def dstsOf : List Oper → List Nat
  | [] => []
  | o :: l => match o.dst with | some d => d :: dstsOf l | none => dstsOf l
def junkAll : List Nat → List (Nat × SV) → List (Nat × SV)
  | [], l => l
  | d :: ds, l => (d, .junk) :: junkAll ds l
def truthOf (d : Nat) (s : SS) : Option Bool := match lkV s.sl d with | .d (.bool b) => some b | _ => none
/-! ### Rows that become data -/
mutual
def frzV (t : Nat) (c : SD) : SV → SV
  | .row t' => match Nat.beq t' t with | true => .d c | false => .row t'
  | .re t' p o => match Nat.beq t' t with | true => .junk | false => .re t' p o
  | .vw t' p o => match Nat.beq t' t with | true => .junk | false => .vw t' p o
  | .ag cs => .ag (frzVs t c cs)
  | .tup cs => .tup (frzVs t c cs)
  | .fn f ps qs => .fn f (frzVs t c ps) (frzVs t c qs)
  | v => v
def frzVs (t : Nat) (c : SD) : List SV → List SV
  | [] => []
  | v :: vs => frzV t c v :: frzVs t c vs
end
def frzSl (t : Nat) (c : SD) : List (Nat × SV) → List (Nat × SV)
  | [] => []
  | (i, v) :: l => (i, frzV t c v) :: frzSl t c l
def frzBx (t : Nat) (c : SD) : List (Nat × Option SBox) → List (Nat × Option SBox)
  | [] => []
  | (i, some (.st ty cs)) :: l => (i, some (.st ty (frzVs t c cs))) :: frzBx t c l
  | (i, b) :: l => (i, b) :: frzBx t c l
def frzX (t : Nat) (s : SS) : Option SS := match lkB s.bx t with
  | some (.rw _ _ ty xs _) => match memN s.pr t with
    | false => some ⟨frzSl t (.sl ty xs) s.sl, (t, none) :: frzBx t (.sl ty xs) s.bx, s.pr, s.ro, s.oc⟩
    | true => some s
  | _ => some s
def frzAll : List Nat → SS → Option SS
  | [], s => some s
  | t :: l, s => match frzX t s with | some s => frzAll l s | none => none
/-! ### Variables that nobody writes any more -/
mutual
def frpV (t : Nat) (ds : List SD) : SV → SV
  | .ptr t' o => match Nat.beq t' t with | true => .fe (ds.drop o) | false => .ptr t' o
  | .ag cs => .ag (frpVs t ds cs)
  | .tup cs => .tup (frpVs t ds cs)
  | .fn f ps qs => .fn f (frpVs t ds ps) (frpVs t ds qs)
  | v => v
def frpVs (t : Nat) (ds : List SD) : List SV → List SV
  | [] => []
  | v :: vs => frpV t ds v :: frpVs t ds vs
end
def frpSl (t : Nat) (ds : List SD) : List (Nat × SV) → List (Nat × SV)
  | [] => []
  | (i, v) :: l => (i, frpV t ds v) :: frpSl t ds l
def frpBx (t : Nat) (ds : List SD) : List (Nat × Option SBox) → List (Nat × Option SBox)
  | [] => []
  | (i, some (.st ty cs)) :: l => (i, some (.st ty (frpVs t ds cs))) :: frpBx t ds l
  | (i, b) :: l => (i, b) :: frpBx t ds l
def noNl : List SD → Bool
  | [] => true
  | .nl :: _ => false
  | _ :: l => noNl l
def fbX (sc : List Nat) (t : Nat) (s : SS) : Option SS := match lkB s.bx t with
  | some (.st _ cs) => (match rowDs cs with
    | some ds => chk (noNl ds && (!(memN s.pr t) && !(memN sc t))) (some ⟨frpSl t ds s.sl, (t, none) :: frpBx t ds s.bx, s.pr, s.ro, s.oc⟩)
    | none => none)
  | _ => none
def fbAll (sc : List Nat) : List Nat → SS → Option SS
  | [], s => some s
  | t :: l, s => match fbX sc t s with | some s => fbAll sc l s | none => none
def fbNew (s : SS) : List Nat → Bool
  | [] => true
  | t :: l => match lkB s.bx t with | none => fbNew s l | some _ => false
mutual
def rowsOf : SV → List Nat
  | .row t => [t]
  | .fn _ ps qs => rowsOfs ps ++ rowsOfs qs
  | .ag cs => rowsOfs cs
  | _ => []
def rowsOfs : List SV → List Nat
  | [] => []
  | c :: cs => rowsOf c ++ rowsOfs cs
end
def partVs : List (Nat × SV) → List SV
  | [] => []
  | (_, v) :: l => v :: partVs l
def plainArgs : List PT → List SV → List SV
  | p :: ps, v :: vs => (match p.isM with | true => plainArgs ps vs | false => v :: plainArgs ps vs)
  | _, _ => []
/-- Ahead of a call whose answer may share memory, and of a literal, the rows that they are handed become data. -/
def preF (q : Bool) (T : List (Nat × Ent)) (o : Oper) (s : SS) : Option SS := match q, s.ro, o.guard with
  | true, false, none => (match o.op, callOf o with
    | .buildSlice _ _ ps, _ => frzAll (rowsOfs (partVs (partsX s ps.toList))) s
    | _, some (x, xs) => (match evX s x with
      | .fn f ps qs => (match lkE T f (ps ++ evsX s xs ++ qs) with
        | some en => (match anyM en.ps || anyM en.rs with
          | true => frzAll (rowsOfs (plainArgs en.ps (ps ++ evsX s xs ++ qs))) s
          | false => (match flatAll en.rs with | true => some s | false => frzAll (rowsOfs (ps ++ evsX s xs ++ qs)) s))
        | none => some s)
      | _ => some s)
    | _, _ => some s)
  | _, _, _ => some s
/-! ### What operations look at -/
mutual
def refsV : SV → Option (List Nat)
  | .junk => none
  | .ptr t _ => some [t]
  | .row t => some [t]
  | .re t _ _ => some [t]
  | .vw t _ _ => some [t]
  | .ag cs => refsVs cs
  | .tup cs => refsVs cs
  | .fn _ ps qs => match refsVs ps, refsVs qs with | some a, some b => some (a ++ b) | _, _ => none
  | .d _ => some []
  | .fe _ => some []
def refsVs : List SV → Option (List Nat)
  | [] => some []
  | c :: cs => match refsV c, refsVs cs with | some a, some b => some (a ++ b) | _, _ => none
end
def footX (o : Oper) (s : SS) : Option (List Nat) := match o.op with
  | .load _ x => refsV (evX s x)
  | .store _ x _ => refsV (evX s x)
  | .indexAddr _ x _ => refsV (evX s x)
  | .slice _ x _ _ _ => refsV (evX s x)
  | .convert _ _ x => refsV (evX s x)
  | .call c => (match c.callee with
    | .value f => (match refsV (evX s f), refsVs (evsX s c.args.toList) with | some a, some b => some (a ++ b) | _, _ => none)
    | _ => refsVs (evsX s c.args.toList))
  | _ => some []
def subL : List Nat → List Nat → Bool
  | [], _ => true
  | a :: l, m => match FootC.memL m a with | true => subL l m | false => false
def nthB : List Bd → Nat → Bd
  | [], _ => ([], [])
  | x :: _, 0 => x
  | _ :: l, i + 1 => nthB l i
def footB (q : Bool) (B : List Bd) (i : Nat) (o : Oper) (s : SS) (u : Upd) : Bool := match q with
  | true => true
  | false => match footX o s with
    | some fs => subL fs (nthB B i).1 && subL (updIds u) (nthB B i).2
    | none => false
def footM (q : Bool) (B : List Bd) (i : Nat) (o : Oper) (s : SS) (m : MU) : Bool := match q with
  | true => true
  | false => match footX o s with
    | some fs => subL fs (nthB B i).1 && subL (idU m.us) (nthB B i).2
    | none => false
def runX (q : Bool) (P : Program) (T : List (Nat × Ent)) (ops : Array Oper) (B : List Bd) : Nat → Nat → List Nat → List Oper → {ρ : Type} → SS → (SS → Option ρ) → Option ρ
  | _, _, _, [], _, s, k => k s
  | 0, _, _, _ :: _, _, _, _ => none
  | n + 1, i, kn, o :: l, _, s, k =>
    let go := fun (_ : Unit) => match preF q T o s with
      | none => none
      | some s => (match callOf o with
        | some (x, xs) => (match evX s x with
          | .fn f ps qs => (match isMx T f (ps ++ evsX s xs ++ qs) with
            | false => chk (footB q B i o s .no) (callX T f s (ps ++ evsX s xs ++ qs) fun r => runX q P T ops B n (i + 1) kn l (s.upd o.dst r .no) k)
            | true => callM T f s o.dst (ps ++ evsX s xs ++ qs) fun v m => chk (footM q B i o s m) (runX q P T ops B n (i + 1) kn l (s.updM o.dst v m) k))
          | _ => none)
        | none => effX P o s fun v u => chk (footB q B i o s u) (runX q P T ops B n (i + 1) kn l (s.upd o.dst v u) k))
    let skip := fun (_ : Unit) => runX q P T ops B n (i + 1) kn l (s.upd o.dst (.tup []) .no) k
    match o.guard with
    | none => go ()
    | some (j, want) => match (ops[j]?).bind (·.dst) with
      | none => none
      | some g => match lkV s.sl g with
        | .tup [] => skip ()
        | .d (.bool b) => (match memN kn g with
          | true => (match b with
            | true => (match want with | true => go () | false => skip ())
            | false => (match want with | true => skip () | false => go ()))
          | false => (match uptoG g (o :: l) with
            | none => none
            | some (l1, d, l2) => Option.bind (if b = true then runX q P T ops B n i (g :: kn) l1 ⟨(g, .d (.bool true)) :: s.sl, s.bx, s.pr, true, s.oc⟩ (truthOf d) else runX q P T ops B n i (g :: kn) l1 ⟨(g, .d (.bool false)) :: s.sl, s.bx, s.pr, true, s.oc⟩ (truthOf d)) fun qb =>
              runX q P T ops B n (i + l1.length) kn l2 ⟨(d, .d (.bool qb)) :: junkAll (dstsOf l1) s.sl, s.bx, s.pr, s.ro, dstsOf l1 ++ s.oc⟩ k))
        | _ => none
end
/-! ### What a drawn region's operations may look at: a guess, held against what they do -/
def lkN : List (Nat × List Nat) → Nat → Option (List Nat)
  | [], _ => none
  | (j, v) :: l, i => match Nat.beq i j with | true => some v | false => lkN l i
def rfOf (m : List (Nat × List Nat)) (s : SS) : Operand → List Nat
  | .tmp i => (match lkN m i with | some l => l | none => (match refsV (lkV s.sl i) with | some l => l | none => []))
  | _ => []
def rfsOf (m : List (Nat × List Nat)) (s : SS) : List Operand → List Nat
  | [] => []
  | x :: l => rfOf m s x ++ rfsOf m s l
def rfps (m : List (Nat × List Nat)) (s : SS) : List (Nat × Operand) → List Nat
  | [] => []
  | (_, x) :: l => rfOf m s x ++ rfps m s l
def bxOf (mb : List (Nat × List Nat)) (s : SS) (t : Nat) : List Nat := match lkN mb t with
  | some l => l
  | none => (match lkB s.bx t with | some (.st _ cs) => (match refsVs cs with | some l => l | none => []) | _ => [])
def bxsOf (mb : List (Nat × List Nat)) (s : SS) : List Nat → List Nat
  | [] => []
  | t :: l => bxOf mb s t ++ bxsOf mb s l
def addB (mb : List (Nat × List Nat)) (s : SS) (x : List Nat) : List Nat → List (Nat × List Nat)
  | [] => mb
  | t :: l => (t, x ++ bxOf mb s t) :: addB mb s x l
def dstL : Option Nat → List Nat
  | some d => [d]
  | none => []
def putN (m : List (Nat × List Nat)) (dst : Option Nat) (l : List Nat) : List (Nat × List Nat) := match dst with | some d => (d, l) :: m | none => m
def lkE1 : List (Nat × Ent) → Nat → Option Ent
  | [], _ => none
  | (j, v) :: l, i => match Nat.beq i j with | true => some v | false => lkE1 l i
/-- A call of a known function that turns boxes: the numbers that its results take. -/
def mIds (T : List (Nat × Ent)) (o : Oper) (f : Operand) : Option (List Nat) := match f, o.dst with
  | .func g, some d => (match lkE1 T g with
    | some en => (match anyM en.ps || anyM en.rs with | true => some (flatN (newIO (500000 + 64 * d) (ioOf en.rs)) ++ flatN (newIds (500000 + 64 * d + sumJ (ioOf en.rs)) (rsOf en.rs))) | false => none)
    | none => none)
  | _, _ => none
def bndX (T : List (Nat × Ent)) (s : SS) : List Oper → List (Nat × List Nat) → List (Nat × List Nat) → List Bd
  | [], _, _ => []
  | o :: l, m, mb => match o.op with
    | .move x => ([], []) :: bndX T s l (putN m o.dst (rfOf m s x)) mb
    | .assign x => ([], []) :: bndX T s l (putN m o.dst (rfOf m s x)) mb
    | .pick _ x y => ([], []) :: bndX T s l (putN m o.dst (rfOf m s x ++ rfOf m s y)) mb
    | .build _ ps => ([], []) :: bndX T s l (putN m o.dst (rfps m s ps.toList)) mb
    | .extract x _ => ([], []) :: bndX T s l (putN m o.dst (rfOf m s x)) mb
    | .field _ x _ => ([], []) :: bndX T s l (putN m o.dst (rfOf m s x)) mb
    | .fieldAddr _ x _ => ([], []) :: bndX T s l (putN m o.dst (rfOf m s x)) mb
    | .indexAddr _ x _ => (rfOf m s x, []) :: bndX T s l (putN m o.dst (rfOf m s x)) mb
    | .load _ x => (rfOf m s x, []) :: bndX T s l (putN m o.dst (bxsOf mb s (rfOf m s x))) mb
    | .store _ x y => (rfOf m s x, rfOf m s x) :: bndX T s l m (addB mb s (rfOf m s y) (rfOf m s x))
    | .alloc _ => ([], dstL o.dst) :: bndX T s l (putN m o.dst (dstL o.dst)) mb
    | .box _ x => ([], dstL o.dst) :: bndX T s l (putN m o.dst (dstL o.dst)) (addB mb s (rfOf m s x) (dstL o.dst))
    | .buildSlice _ _ _ => ([], dstL o.dst) :: bndX T s l (putN m o.dst (dstL o.dst)) mb
    | .slice _ x _ _ _ => (rfOf m s x, []) :: bndX T s l (putN m o.dst (rfOf m s x)) mb
    | .makeSlice _ _ _ => ([], dstL o.dst) :: bndX T s l (putN m o.dst (dstL o.dst)) mb
    | .convert _ _ x => (rfOf m s x, []) :: bndX T s l (putN m o.dst []) mb
    | .makeFunc _ a b => ([], []) :: bndX T s l (putN m o.dst (rfsOf m s a.toList ++ rfsOf m s b.toList)) mb
    | .call c => (match c.callee with
      | .builtin .append => (match c.args.toList with
        | x :: y :: _ => (rfOf m s x ++ rfOf m s y, rfOf m s x ++ dstL o.dst) :: bndX T s l (putN m o.dst (rfOf m s x ++ dstL o.dst)) mb
        | _ => ([], []) :: bndX T s l m mb)
      | .builtin .copy => (match c.args.toList with
        | x :: y :: _ => (rfOf m s x ++ rfOf m s y, rfOf m s x) :: bndX T s l (putN m o.dst []) mb
        | _ => ([], []) :: bndX T s l m mb)
      | .value f => (match mIds T o f with
        | none => (rfOf m s f ++ rfsOf m s c.args.toList, []) :: bndX T s l (putN m o.dst []) mb
        | some js => (rfsOf m s c.args.toList, rfsOf m s c.args.toList ++ (bxsOf mb s (rfsOf m s c.args.toList) ++ js)) :: bndX T s l (putN m o.dst js) mb)
      | _ => (rfsOf m s c.args.toList, []) :: bndX T s l (putN m o.dst []) mb)
    | _ => ([], []) :: bndX T s l m mb
/-- Each operation from the m-th on hangs on all ahead of it. -/
def tailB (m : Nat) (ops : Array Oper) : Bool := (List.range ops.size).all fun i => decide (i < m) || (List.range i).all fun k => hangs ops 4 i k
/-! ### What is kept where ways meet -/
inductive Mod where
  | leaf (i : Nat) (t : Ty)
  | agg (i n : Nat)
  | row (i R e k : Nat) (t : Ty)
  | box (b ty n : Nat) (rows : List (Nat × Nat × Nat × Nat × Ty))
def Mod.den : Mod → Type
  | .leaf _ t => t.den
  | .agg _ n => ST n
  | .row _ _ _ _ t => List t.den
  | .box _ _ n _ => ST n
def modsT : List Mod → Type
  | [] => Unit
  | [m] => m.den
  | m :: m' :: l => m.den × modsT (m' :: l)
def isRw : Option SBox → Bool
  | some (.rw ..) => true
  | _ => false
def getM (s : SS) : (m : Mod) → Option m.den
  | .leaf i t => match lkV s.sl i with
    | .d c => c.as t
    | _ => none
  | .agg i n => match lkV s.sl i with
    | .ag cs => (match rowDs cs with | some cs => stK n cs | none => none)
    | _ => none
  | .row i R e k t => match lkV s.sl i, lkB s.bx R with
    | .row R', some (.rw e' k' t' xs _) => match Ty.same t' t with
      | some ⟨h⟩ => chk (Nat.beq R' R) (chk (e' == e) (chk (k' == k) (some (castL h xs))))
      | none => none
    | _, _ => none
  | .box b ty n rows => match lkB s.bx b with
    | some (.st ty' cs) => chk (ty' == ty) (chk (rows.all fun r => isRw (lkB s.bx r.2.1)) (match cellsOf s rows 0 cs with | some ds => stK n ds | none => none))
    | _ => none
def packM (s : SS) : (l : List Mod) → Option (modsT l)
  | [] => some ()
  | [m] => getM s m
  | m :: m' :: l => Option.bind (getM s m) fun x => Option.bind (packM s (m' :: l)) fun xs => some (x, xs)
def putM : (m : Mod) → m.den → SS → Option SS
  | .leaf i t, x, s => some ⟨(i, .d (enc1 t x)) :: s.sl, s.bx, s.pr, s.ro, s.oc⟩
  | .agg i n, x, s => some ⟨(i, .ag (mapD (stC n x))) :: s.sl, s.bx, s.pr, s.ro, s.oc⟩
  | .row i R e k t, xs, s => some ⟨(i, .row R) :: s.sl, (R, some (.rw e k t xs [])) :: s.bx, s.pr, s.ro, s.oc⟩
  | .box b ty n rows, x, s => match putCells rows 0 (stC n x) s.bx with
    | some (vs, bx) => some ⟨s.sl, (b, some (.st ty vs)) :: bx, s.pr, s.ro, s.oc⟩
    | none => none
def putMs : (l : List Mod) → modsT l → SS → Option SS
  | [], _, s => some s
  | [m], x, s => putM m x s
  | m :: m' :: l, x, s => match putMs (m' :: l) x.2 s with | some s => putM m x.1 s | none => none
/-- The boxes that are written: theirs. -/
def modBoxes : List Mod → List Nat
  | [] => []
  | .row _ R _ _ _ :: l => R :: modBoxes l
  | .box b _ _ rows :: l => b :: (rows.map (·.2.1) ++ modBoxes l)
  | _ :: l => modBoxes l
def isRow (R : Nat) : SV → Bool
  | .row R' => Nat.beq R' R
  | _ => false
/-- May these turn: slots are written, boxes may be. -/
def modsOk (wr : List Nat) (s : SS) : List Mod → Bool
  | [] => true
  | .leaf i _ :: l => (match memN wr i with | true => modsOk wr s l | false => false)
  | .agg i _ :: l => (match memN wr i with | true => modsOk wr s l | false => false)
  | .row i R _ _ _ :: l => (match memN s.pr R, memN wr i || isRow R (lkV s.sl i) with | false, true => modsOk wr s l | _, _ => false)
  | .box b _ _ rows :: l => (match memN s.pr b, rows.all fun r => !(memN s.pr r.2.1) with | false, true => modsOk wr s l | _, _ => false)
/-- Each struct's box is kept somehow. -/
def keptAll (mb sc : List Nat) : List (Nat × Option SBox) → List Nat → Bool
  | [], _ => true
  | (t, b) :: l, seen => match memN seen t with
    | true => keptAll mb sc l seen
    | false => match b with
      | some (.st _ cs) => (match memN mb t || (memN sc t || norows cs) with | true => keptAll mb sc l (t :: seen) | false => false)
      | _ => keptAll mb sc l (t :: seen)
def disjN : List Nat → List Nat → Bool
  | [], _ => true
  | a :: l, m => match memN m a with | true => false | false => disjN l m
mutual
def modChk (sc wr : List Nat) (ms : List Mod) (pr : List Nat) (s : SS) : Bool := modsOk wr s ms && (disjN sc pr && (disjN sc (modBoxes ms) && keptAll (modBoxes ms) sc s.bx []))
/-- Does all of it lie in what is not written (its rows), and is it kept (what it points to)? -/
def safe (pr kb : List Nat) : SV → Bool
  | .row t => memN pr t
  | .re _ _ _ => false
  | .vw _ _ _ => false
  | .ptr t _ => memN kb t
  | .ag cs => safes pr kb cs
  | .tup cs => safes pr kb cs
  | .fn _ ps qs => match safes pr kb ps with | true => safes pr kb qs | false => false
  | _ => true
def safes (pr kb : List Nat) : List SV → Bool
  | [] => true
  | c :: cs => match safe pr kb c with | true => safes pr kb cs | false => false
end
/-- Slots that are kept as they are: not written, safe. -/
def keepSl (wr pr kb : List Nat) : List (Nat × SV) → List Nat → List (Nat × SV)
  | [], _ => []
  | (i, v) :: l, seen => match memN seen i with
    | true => keepSl wr pr kb l seen
    | false => match memN wr i with
      | true => keepSl wr pr kb l (i :: seen)
      | false => match safe pr kb v with
        | true => (i, v) :: keepSl wr pr kb l (i :: seen)
        | false => keepSl wr pr kb l (i :: seen)
def plainBox : SBox → Bool
  | .st _ cs => norows cs
  | .rw .. => true
def prBoxes (mb : List Nat) : List (Nat × Option SBox) → List Nat → List Nat
  | [], _ => []
  | (t, b) :: l, seen => match memN seen t with
    | true => prBoxes mb l seen
    | false => match b with
      | none => prBoxes mb l (t :: seen)
      | some b => match memN mb t, plainBox b with
        | false, true => t :: prBoxes mb l (t :: seen)
        | _, _ => prBoxes mb l (t :: seen)
def unpinB : Option SBox → Option SBox
  | some (.rw e k t xs _) => some (.rw e k t xs [])
  | b => b
def keepBx (pr : List Nat) : List (Nat × Option SBox) → List Nat → List (Nat × Option SBox)
  | [], _ => []
  | (t, b) :: l, seen => match memN seen t with
    | true => keepBx pr l seen
    | false => match memN pr t with
      | true => (t, unpinB b) :: keepBx pr l (t :: seen)
      | false => keepBx pr l (t :: seen)
/-- What is left of a state where only these may turn. -/
def junks : List SV → List SV
  | [] => []
  | _ :: l => .junk :: junks l
/-- Boxes of results that are there, of which nothing is known. -/
def scLive (bx : List (Nat × Option SBox)) : List Nat → List Nat
  | [] => []
  | b :: l => match lkB bx b with
    | some (.st _ _) => b :: scLive bx l
    | _ => scLive bx l
def scBx (bx : List (Nat × Option SBox)) : List Nat → List (Nat × Option SBox) → List (Nat × Option SBox)
  | [], r => r
  | b :: l, r => match lkB bx b with
    | some (.st ty cs) => (b, some (.st ty (junks cs))) :: scBx bx l r
    | _ => scBx bx l r
def baseS (sc wr : List Nat) (ms : List Mod) (s : SS) : SS :=
  let pr := prBoxes (modBoxes ms ++ sc) s.bx []
  ⟨keepSl wr pr (modBoxes ms ++ (scLive s.bx sc ++ pr)) s.sl [], scBx s.bx sc (keepBx pr s.bx []), pr, s.ro, []⟩

/-! ### What is frozen where ways meet, nil that becomes a row -/
def rowsIn (but : List Nat) : List SV → List Nat
  | [] => []
  | .row t :: l => match memN but t with | true => rowsIn but l | false => t :: rowsIn but l
  | _ :: l => rowsIn but l
def needR (s : SS) : List Mod → List Nat
  | [] => []
  | .leaf i _ :: l => rowsIn [] [lkV s.sl i] ++ needR s l
  | .agg i _ :: l => (match lkV s.sl i with | .ag cs => rowsIn [] cs | _ => []) ++ needR s l
  | .row .. :: l => needR s l
  | .box b _ _ rows :: l => (match lkB s.bx b with | some (.st _ cs) => rowsIn (rows.map (·.2.1)) cs | _ => []) ++ needR s l
def clr (s : SS) : SS := ⟨s.sl, s.bx, s.pr, s.ro, []⟩
def nilCells (s : SS) : List (Nat × Nat × Nat × Nat × Ty) → List SV → List (Nat × Option SBox) → Option (List SV × List (Nat × Option SBox))
  | [], cs, bx => some (cs, bx)
  | (j, R, e, k, t) :: l, cs, bx => match cs[j]? with
    | some (.d .nl) => (match lkB bx R, decide (0 < k ∧ R < 1000000), memN s.pr R with
      | none, true, false => nilCells s l (cs.set j (.row R)) ((R, some (.rw e k t [] [])) :: bx)
      | _, _, _ => none)
    | _ => nilCells s l cs bx
def nilM (wr : List Nat) : List Mod → SS → Option SS
  | [], s => some s
  | .row i R e k t :: l, s => match lkV s.sl i with
    | .d .nl => (match Nat.beq i R, lkB s.bx i, decide (0 < k ∧ i < 1000000), memN wr i, memN s.pr i with
      | true, none, true, true, false => nilM wr l ⟨(i, .row i) :: s.sl, (i, some (.rw e k t [] [])) :: s.bx, s.pr, s.ro, s.oc⟩
      | _, _, _, _, _ => none)
    | _ => nilM wr l s
  | .box b _ _ [] :: l, s => nilM wr l s
  | .box b _ _ rows :: l, s => match lkB s.bx b with
    | some (.st ty cs) => (match memN s.pr b, nilCells s rows cs s.bx with
      | false, some (cs, bx) => nilM wr l ⟨s.sl, (b, some (.st ty cs)) :: bx, s.pr, s.ro, s.oc⟩
      | _, _ => none)
    | _ => none
  | _ :: l, s => nilM wr l s
def enterM (wr : List Nat) (ms : List Mod) (s : SS) : Option SS := match nilM wr ms s with
  | some s => frzAll (needR s ms) s
  | none => none
def packF (ms : List Mod) (s : SS) : Option (modsT ms) := match frzAll (needR s ms) s with
  | some s => packM s ms
  | none => none

/-! ### The code -/
inductive Hint where
  | n
  | s (a b : Hint)
  | lp (ms : List Mod) (id : Nat) (ret : Bool) (b : Hint)
  | j (ms : List Mod) (h : Hint)
def Hint.l : Hint → Hint
  | .s a _ => a
  | .j _ (.s a _) => a
  | _ => .n
def Hint.r : Hint → Hint
  | .s _ b => b
  | .j _ (.s _ b) => b
  | _ => .n
structure Cx where
  P : Program
  T : List (Nat × Ent)
  n : Nat
  rs : List PT
  vars : List ResultVar
  fz : List (Nat × List Nat)
  sc : List Nat
  fb : List (Nat × List Nat)
def lkF : List (Nat × List Nat) → Nat → List Nat
  | [], _ => []
  | (j, v) :: l, i => match Nat.beq i j with | true => v | false => lkF l i
def wrC : Code → List Nat
  | .region _ ops _ => dstsOf ops.toList
  | .seq a b => wrC a ++ wrC b
  | .cond (.tmp i) a b => i :: (wrC a ++ wrC b)
  | .cond _ a b => wrC a ++ wrC b
  | .block _ c => wrC c
  | .loop c => wrC c
  | _ => []
def resX (P : Program) (s : SS) : List ResultVar → Option (List SV)
  | [] => some []
  | .tmp t :: l => match resX P s l with | some vs => some (lkV s.sl t :: vs) | none => none
  | .cell t ty :: l => match loadX P s ty (lkV s.sl t), resX P s l with | some v, some vs => some (v :: vs) | _, _ => none
/-! ### How a function ends that turns boxes, or answers rows of its own -/
def hasJ : List (Nat × Nat × Nat × Ty) → Nat → Bool
  | [], _ => false
  | (j, _) :: l, i => match Nat.beq i j with | true => true | false => hasJ l i
/-- Rows in a struct's cells, but for those that are to be rows. -/
def rowsNot (rows : List (Nat × Nat × Nat × Ty)) : Nat → List SV → List Nat
  | _, [] => []
  | j, c :: cs => match hasJ rows j with | true => rowsNot rows (j + 1) cs | false => rowsOf c ++ rowsNot rows (j + 1) cs
def retRow : PT → SV → List Nat
  | .own .., _ => []
  | .agr _ rows, .ag cs => rowsNot rows 0 cs
  | .agr .., _ => []
  | _, v => rowsOf v
def retRows : List PT → List SV → List Nat
  | p :: ps, v :: vs => retRow p v ++ retRows ps vs
  | _, _ => []
def inId (i : Nat) : Nat := 1000000 + 64 * i
def ioRow (s : SS) (i : Nat) : IB → List Nat
  | .bx _ _ rows => (match lkB s.bx (inId i) with | some (.st _ cs) => rowsNot rows 0 cs | _ => [])
  | _ => []
def ioRows (s : SS) : Nat → List IB → List Nat
  | _, [] => []
  | i, b :: l => ioRow s i b ++ ioRows s (i + 1) l
def decB (s : SS) (i : Nat) : (b : IB) → Option (b.den × List Nat)
  | .no => some ((), [])
  | .own e k t => (match decRow s e k t (.row (inId i)) with | some (xs, _) => some (xs, []) | none => none)
  | .bx ty n rows => (match lkB s.bx (inId i) with
    | some (.st ty' cs) => chk (ty' == ty) (decSt s rows n cs)
    | _ => none)
def decIO (s : SS) : Nat → (ls : List IB) → Option (outT ls × List (List Nat))
  | _, [] => some ((), [])
  | i, b :: ls => match decB s i b, decIO s (i + 1) ls with | some (o, js), some (os, kss) => some ((o, os), js :: kss) | _, _ => none
def decRes (s : SS) : (rs : List PT) → List SV → Option (densR rs × List (List Nat))
  | [], [] => some ((), [])
  | [p], [v] => (match decI s p v with | some (x, is) => some (x, [is]) | none => none)
  | p :: q :: l, v :: vs => (match decI s p v, decRes s (q :: l) vs with | some (x, is), some (xs, iss) => some ((x, xs), is :: iss) | _, _ => none)
  | _, _ => none
def joinR : (rs : List PT) → outT (ioOf rs) → densR (rsOf rs) → densR rs
  | [], _, _ => ()
  | [.io _], o, _ => o
  | .io _ :: _ :: _, o, r => (o, r)
  | .own .. :: _, _, r => r
  | .mv .. :: _, _, r => r
  | .bx .. :: _, _, r => r
  | .agr .. :: _, _, r => r
  | .lf _ :: _, _, r => r
  | .ag _ :: _, _, r => r
  | .pl _ :: _, _, r => r
  | .ps _ :: _, _, r => r
  | .fn .. :: _, _, r => r
/-- The numbers of the boxes that are kept. -/
def keptK : Nat → List IB → List Nat
  | _, [] => []
  | i, .no :: l => keptK (i + 1) l
  | i, .own .. :: l => inId i :: keptK (i + 1) l
  | i, .bx .. :: l => inId i :: keptK (i + 1) l
def kretM (C : Cx) (s : SS) : Option (densR C.rs) := match resX C.P s C.vars with
  | some vs => (match frzAll (ioRows s 0 (ioOf C.rs) ++ retRows (rsOf C.rs) vs) s with
    | some s1 => (match resX C.P s1 C.vars with
      | some ws => (match decIO s1 0 (ioOf C.rs), decRes s1 (rsOf C.rs) ws with
        | some (o, kss), some (r, jss) => chk (nodupN (keptK 0 (ioOf C.rs) ++ (flatN kss ++ flatN jss))) (some (joinR C.rs o r))
        | _, _ => none)
      | none => none)
    | none => none)
  | none => none
def kretX (C : Cx) (s : SS) : Option (densR C.rs) := match anyM C.rs with
  | true => kretM C (clr s)
  | false => (match resX C.P (clr s) C.vars with
    | some vs => decRs (clr s) C.rs vs
    | none => none)
/-- A store yields nothing. -/
def stOk : List Oper → Bool
  | [] => true
  | o :: l => match o.op, o.dst with | .store .., some _ => false | _, _ => stOk l
/-- How many operations come ahead of those that come last in every order (asked only where a literal and a call are there). -/
def hasLit : List Oper → Bool
  | [] => false
  | o :: l => match o.op with | .buildSlice .. => true | _ => hasLit l
def hasCall : List Oper → Bool
  | [] => false
  | o :: l => match callOf o with | some _ => true | none => hasCall l
def tailAt (ops : Array Oper) : Nat → Nat
  | 0 => 0
  | n + 1 => match (List.range n).all fun k => hangs ops 4 n k with | true => tailAt ops n | false => n + 1
def tailOf (ops : Array Oper) : Nat := match hasLit ops.toList, hasCall ops.toList with
  | true, true => tailAt ops ops.toList.length
  | _, _ => ops.toList.length
def regX (C : Cx) (id : Nat) (ops : Array Oper) (draw : Bool) (s : SS) {ρ : Type} (k : SS → Option ρ) : Option ρ :=
  match frzAll (lkF C.fz id) s with
  | none => none
  | some s0 => let s : SS := ⟨s0.sl, s0.bx, s0.pr, s0.ro, []⟩; match draw with
    | false => chk (stOk ops.toList && dstsB C.n ops.toList) (runX true C.P C.T ops [] 1000 0 [] ops.toList s k)
    | true => chk (stOk ops.toList) (chk (drawF (nthB (bndX C.T s ops.toList [] [])) C.n ops) (match Nat.beq (tailOf ops) ops.toList.length with
      | true => runX false C.P C.T ops (bndX C.T s ops.toList [] []) 1000 0 [] ops.toList s k
      | false => chk (tailB (tailOf ops) ops && decide (tailOf ops ≤ ops.toList.length)) (runX false C.P C.T ops (bndX C.T s ops.toList [] []) 1000 0 [] (ops.toList.take (tailOf ops)) s fun s => runX true C.P C.T ops [] 1000 0 [] (ops.toList.drop (tailOf ops)) s k)))
def regF (C : Cx) (id : Nat) (ops : Array Oper) (draw : Bool) (s : SS) {ρ : Type} (k : SS → Option ρ) : Option ρ := match lkF C.fb id with
  | [] => regX C id ops draw s k
  | t :: l => chk (fbNew s (t :: l)) (regX C id ops draw s fun s => match fbAll C.sc (t :: l) s with | some s => k s | none => none)
/-- Where ways meet. -/
def withJ (C : Cx) (wr : List Nat) (h : Hint) (body : (ρ : Type) → SS → (Exit → SS → Option ρ) → (densR C.rs → Option ρ) → Option ρ) (ρ : Type) (s : SS) (k : Exit → SS → Option ρ) (kr : densR C.rs → Option ρ) : Option ρ :=
  match h with
  | .j ms _ => match nilM wr ms (clr s) with
    | none => none
    | some s1 => chk (modChk C.sc wr ms s.pr s1) (Option.bind (body (modsT ms) ⟨s1.sl, s1.bx, (baseS C.sc wr ms s1).pr, s1.ro, s1.oc⟩ (fun e s' => match e with | .normal => packF ms s' | _ => none) (fun _ => none)) fun st =>
      match putMs ms st (baseS C.sc wr ms s1) with
      | some s2 => k .normal ⟨s2.sl, s2.bx, s.pr, s.ro, s.oc⟩
      | none => none)
  | _ => body ρ s k kr
def exec (C : Cx) : Code → Hint → (ρ : Type) → SS → (Exit → SS → Option ρ) → (densR C.rs → Option ρ) → Option ρ
  | .skip, _, _, s, k, _ => k .normal s
  | .label _, _, _, s, k, _ => k .normal s
  | .exit id, _, _, s, k, _ => k (.exit id) s
  | .ret, _, _, s, _, kr => Option.bind (kretX C s) kr
  | .region id ops draw, h, ρ, s, k, kr => withJ C (dstsOf ops.toList) h (fun _ s k _ => regF C id ops draw s fun s => k .normal s) ρ s k kr
  | .seq a b, h, ρ, s, k, kr => withJ C (wrC a ++ wrC b) h (fun ρ s k kr => exec C a h.l ρ s (fun e s' => match e with | .normal => exec C b h.r ρ s' k kr | e => k e s') kr) ρ s k kr
  | .cond c a b, h, ρ, s, k, kr => withJ C (wrC (.cond c a b)) h (fun ρ s k kr => match evX s c with
      | .d (.bool t) => if t = true then exec C a h.l ρ (known s c true) k kr else exec C b h.r ρ (known s c false) k kr
      | _ => none) ρ s k kr
  | .block id c, h, ρ, s, k, kr => withJ C (wrC c) h (fun ρ s k kr => exec C c h.l ρ s (fun e s' => match e with | .exit id' => (match Nat.beq id' id with | true => k .normal s' | false => k (.exit id') s') | e => k e s') kr) ρ s k kr
  | .loop c, .lp ms id ret hb, _, s, k, kr => match enterM (wrC c) ms (clr s) with
    | none => none
    | some s0 => chk (modChk C.sc (wrC c) ms s.pr s0) (match packM s0 ms with
      | none => none
      | some st0 => match ret with
        | false => Option.bind (loopO (fun st => match putMs ms st (baseS C.sc (wrC c) ms s0) with
            | none => none
            | some sh => exec C c hb (modsT ms ⊕ modsT ms) sh (fun e s' => match e with
              | .normal => Option.bind (packF ms s') fun st' => some (.inl st')
              | .exit id' => (match Nat.beq id' id with | true => Option.bind (packF ms s') fun st' => some (.inr st') | false => none)
              | _ => none) (fun _ => none)) rounds st0) fun st => match putMs ms st (baseS C.sc (wrC c) ms s0) with
            | some s2 => k (.exit id) ⟨s2.sl, s2.bx, s.pr, s.ro, s.oc⟩
            | none => none
        | true => Option.bind (loopO (fun st => match putMs ms st (baseS C.sc (wrC c) ms s0) with
            | none => none
            | some sh => exec C c hb (modsT ms ⊕ (modsT ms ⊕ densR C.rs)) sh (fun e s' => match e with
              | .normal => Option.bind (packF ms s') fun st' => some (.inl st')
              | .exit id' => (match Nat.beq id' id with | true => Option.bind (packF ms s') fun st' => some (.inr (.inl st')) | false => none)
              | _ => none) (fun r => some (.inr (.inr r)))) rounds st0) fun o => match o with
            | .inr r => kr r
            | .inl st => match putMs ms st (baseS C.sc (wrC c) ms s0) with
              | some s2 => k (.exit id) ⟨s2.sl, s2.bx, s.pr, s.ro, s.oc⟩
              | none => none)
  | _, _, _, _, _, _ => none
def argX : Nat → List SV → List (Nat × SV)
  | _, [] => []
  | i, v :: vs => (i, v) :: argX (i + 1) vs
/-- The function that a body is. -/
def runF (C : Cx) (c : Code) (h : Hint) (ps : List PT) (x : dens ps) : Option (densR C.rs) :=
  exec C c h (densR C.rs) ⟨argX 0 (encAs ps x), [], [], false, []⟩ (fun e s => match e with | .normal => kretX C s | _ => none) (fun r => some r)
/-- The numbers of the boxes that a function is handed: those that are kept from 1000000 on, the others from 900000 on. -/
def startI (i : Nat) : PT → List Nat
  | .own .. => [inId i]
  | .mv .. => [900000 + 64 * i]
  | .bx _ _ rows => inId i :: List.range' (900000 + 64 * i) rows.length
  | .agr _ rows => List.range' (900000 + 64 * i) rows.length
  | _ => []
def startIds : Nat → List PT → List (List Nat)
  | _, [] => []
  | i, p :: ps => startI i p :: startIds (i + 1) ps
/-- Parameters and what is said of them fit. -/
def okIO1 : PT → IB → Bool
  | .own .., .own .. => true
  | .bx .., .bx .. => true
  | .own .., _ => false
  | .bx .., _ => false
  | .agr .., _ => false
  | .io _, _ => false
  | _, .no => true
  | _, _ => false
def okIO : List PT → List IB → Bool
  | [], [] => true
  | p :: ps, b :: ls => match okIO1 p b with | true => okIO ps ls | false => false
  | _, _ => false
/-- The function that a body is, where boxes are handed to it. -/
def runFM (C : Cx) (c : Code) (h : Hint) (ps : List PT) (x : dens ps) : Option (densR C.rs) := match encIs ps (startIds 0 ps) x with
  | some (vs, bx) => chk (nodupN (idU bx)) (exec C c h (densR C.rs) ⟨argX 0 vs, bx, [], false, []⟩ (fun e s => match e with | .normal => kretX C s | _ => none) (fun r => some r))
  | none => none
end Go.Proofs.Ytjeeclabnimbbaa

/- The typed executor: what typed states stand for. -/
namespace Go.Proofs.Ytjeeclabnimbbaa
open Go.RowKit

/-! ### Small facts -/
theorem chk_some {ρ : Type} {b : Bool} {k : Option ρ} {r : ρ} (h : chk b k = some r) : b = true ∧ k = some r := by
  cases b
  · cases h
  · exact ⟨rfl, h⟩
theorem lkV_cons (j : Nat) (v : SV) (l : List (Nat × SV)) (i : Nat) : lkV ((j, v) :: l) i = if i = j then v else lkV l i := by
  simp only [lkV]
  by_cases h : i = j
  · subst h; simp
  · have : Nat.beq i j = false := by rw [← Bool.not_eq_true, Nat.beq_eq]; exact h
    rw [this, if_neg h]
theorem lkB_cons (j : Nat) (v : Option SBox) (l : List (Nat × Option SBox)) (i : Nat) : lkB ((j, v) :: l) i = if i = j then v else lkB l i := by
  simp only [lkB]
  by_cases h : i = j
  · subst h; simp
  · have : Nat.beq i j = false := by rw [← Bool.not_eq_true, Nat.beq_eq]; exact h
    rw [this, if_neg h]
theorem lkP_cons (j : Nat) (v : Pin) (l : List (Nat × Pin)) (i : Nat) : lkP ((j, v) :: l) i = if i = j then some v else lkP l i := by
  simp only [lkP]
  by_cases h : i = j
  · subst h; simp
  · have : Nat.beq i j = false := by rw [← Bool.not_eq_true, Nat.beq_eq]; exact h
    rw [this, if_neg h]
theorem beq_spec (a b : Nat) : Nat.beq a b = decide (a = b) := by
  by_cases h : a = b
  · subst h; simp
  · have : Nat.beq a b = false := by rw [← Bool.not_eq_true, Nat.beq_eq]; exact h
    simp [this, h]
theorem lkV_upd (l : List (Nat × SV)) (dst : Option Nat) (v : SV) (i : Nat) : lkV (updS l dst v) i = if dst = some i then v else lkV l i := by
  cases dst with
  | none => simp [updS]
  | some d =>
    simp only [updS, lkV_cons, Option.some.injEq]
    by_cases h : i = d
    · subst h; simp
    · rw [if_neg h, if_neg (Ne.symm h)]
theorem mapD_eq : ∀ cs : List SD, mapD cs = cs.map .d
  | [] => rfl
  | c :: cs => by simp [mapD, mapD_eq cs]
theorem encE_len : ∀ (t : Ty) (x : t.den), (encE t x).length = tyN t
  | .int _, _ => rfl
  | .bool, _ => rfl
  | .str, _ => rfl
  | .sl _, _ => rfl
  | .st i, x => stD_len i x
theorem encS_ok : ∀ (t : Ty) (x : t.den), (encS t x).map SD.toD = encE t x
  | .int _, _ => rfl
  | .bool, _ => rfl
  | .str, _ => rfl
  | .sl _, _ => rfl
  | .st i, x => stC_ok i x
theorem encS_nl : ∀ (t : Ty) (x : t.den), ∀ c ∈ encS t x, c ≠ .nl
  | .int _, _, c, h => by simp [encS] at h; subst h; exact fun e => by cases e
  | .bool, _, c, h => by simp [encS] at h; subst h; exact fun e => by cases e
  | .str, _, c, h => by simp [encS] at h; subst h; exact fun e => by cases e
  | .sl _, _, c, h => by simp [encS] at h; subst h; exact fun e => by cases e
  | .st i, x, c, h => stC_nl i x c h
theorem noneN {α : Type} {x : α} {Q : Prop} (h : (none : Option α) = some x) : Q := by cases h
theorem decS_ok : ∀ {t : Ty} {cs : List SD} {x : t.den}, decS t cs = some x → cs.map SD.toD = encE t x
  | .st i, cs, x, h => stK_ok h
  | .int k, [], x, h => noneN (x := x) h
  | .int k, [c], x, h => (SD.as_ok (t := (.int k)) h).symm
  | .int k, _ :: _ :: _, x, h => noneN (x := x) h
  | .bool, [], x, h => noneN (x := x) h
  | .bool, [c], x, h => (SD.as_ok (t := .bool) h).symm
  | .bool, _ :: _ :: _, x, h => noneN (x := x) h
  | .str, [], x, h => noneN (x := x) h
  | .str, [c], x, h => (SD.as_ok (t := .str) h).symm
  | .str, _ :: _ :: _, x, h => noneN (x := x) h
  | .sl t, [], x, h => noneN (x := x) h
  | .sl t, [c], x, h => (SD.as_ok (t := (.sl t)) h).symm
  | .sl t, _ :: _ :: _, x, h => noneN (x := x) h

/-! ### Data -/
def DSim : SD → D → Prop
  | .nl, y => y = .v (.slice none 0 0)
  | c, y => nrm y = c.toD
theorem DSim.nrm {c : SD} {y : D} (h : DSim c y) : nrm y = c.toD := by
  cases c <;> first | exact h | (cases h; rfl)
theorem DSim.of {c : SD} (hc : c ≠ .nl) : DSim c c.toD := by
  cases c <;> first | rfl | exact absurd rfl hc
theorem nrm_v {y : D} {x : Value} (h : nrm y = .v x) : y = .v x := by
  unfold Go.Proofs.Ytjeeclabnimbbaa.nrm at h
  split at h
  · cases h
  · exact h
theorem nrm_sl {y : D} {es : List (List D)} (h : nrm y = .sl es) : y = .sl es ∨ (es = [] ∧ y = .v (.slice none 0 0)) := by
  unfold Go.Proofs.Ytjeeclabnimbbaa.nrm at h
  split at h
  · injection h with h; exact .inr ⟨h.symm, rfl⟩
  · exact .inl h
/-- A typed value stands for a value of the pure machine. -/
inductive VSim (B : List (Nat × Option SBox)) : SV → PV → Prop
  | junk (q : PV) : VSim B .junk q
  | d (c : SD) (y : D) (h : DSim c y) : VSim B (.d c) (.d y)
  | ag (cs : List SV) (qs : List PV) (hl : cs.length = qs.length) (hr : ∀ (j : Nat) c q, cs[j]? = some c → qs[j]? = some q → VSim B c q) : VSim B (.ag cs) (.ag qs)
  | tup (cs : List SV) (qs : List PV) (hl : cs.length = qs.length) (hr : ∀ (j : Nat) c q, cs[j]? = some c → qs[j]? = some q → VSim B c q) : VSim B (.tup cs) (.tup qs)
  | ptr (t o : Nat) (ty : TypeId) (cs : List SV) (hb : lkB B t = some (.st ty cs)) : VSim B (.ptr t o) (.ptr t o)
  | row (t n e k : Nat) (ty : Ty) (xs : List ty.den) (pins : List (Nat × Pin)) (hb : lkB B t = some (.rw e k ty xs pins)) (hn : xs.length = n) : VSim B (.row t) (.row t n)
  | re (t p o n i e k : Nat) (ty : Ty) (xs : List ty.den) (pins : List (Nat × Pin)) (pin : Pin) (hb : lkB B t = some (.rw e k ty xs pins)) (hn : xs.length = n) (hp : lkP pins p = some pin) (hi : i = pin.i.toNat) : VSim B (.re t p o) (.re t n i o)
  | vw (t lo hi n e k : Nat) (ty : Ty) (xs : List ty.den) (pins : List (Nat × Pin)) (hb : lkB B t = some (.rw e k ty xs pins)) (hn : xs.length = n) : VSim B (.vw t lo hi) (.vw t n lo hi)
  | fe (cs : List SD) (ds : List D) (h : ds = cs.map SD.toD) (hn : ∀ c ∈ cs, c ≠ .nl) : VSim B (.fe cs) (.fe ds)
  | fn (f : FuncId) (ps qs : List SV) (ps' qs' : List PV) (hl : ps.length = ps'.length) (hr : ∀ (j : Nat) c q, ps[j]? = some c → ps'[j]? = some q → VSim B c q) (hl2 : qs.length = qs'.length) (hr2 : ∀ (j : Nat) c q, qs[j]? = some c → qs'[j]? = some q → VSim B c q) : VSim B (.fn f ps qs) (.fn f ps' qs')
structure CSim (B : List (Nat × Option SBox)) (cs : List SV) (qs : List PV) : Prop where
  len : cs.length = qs.length
  rep : ∀ (j : Nat) c q, cs[j]? = some c → qs[j]? = some q → VSim B c q
def PinsOk (ty : Ty) (xs : List ty.den) (pins : List (Nat × Pin)) : Prop := ∀ p pin, lkP pins p = some pin → pin.i.toNat < xs.length ∧ ∀ cs, pin.cs = some cs → ∃ x, xs[pin.i.toNat]? = some x ∧ cs = encS ty x
def BSim (B : List (Nat × Option SBox)) (oc : Bool) : Option SBox → Option Box → Prop
  | none, q => oc = false → q = none
  | some (.st ty cs), q => ∃ qs, q = some (.st ty qs) ∧ CSim B cs qs
  | some (.rw e k ty xs pins), q => q = some (.rw e k (xs.map (encE ty))) ∧ PinsOk ty xs pins
structure Sim (s : SS) (p : PS) : Prop where
  sl : ∀ i, VSim s.bx (lkV s.sl i) (p.t i)
  bx : ∀ t, BSim s.bx (memN s.oc t) (lkB s.bx t) (p.b t)
/-- Rows are as long, and pins where they were; structs are there. -/
structure BLe (B B' : List (Nat × Option SBox)) : Prop where
  rw : ∀ t e k ty xs pins, lkB B t = some (.rw e k ty xs pins) → ∃ e' k' ty' xs' pins', lkB B' t = some (.rw e' k' ty' xs' pins') ∧ xs'.length = xs.length ∧ ∀ p pin, lkP pins p = some pin → ∃ pin', lkP pins' p = some pin' ∧ pin'.i = pin.i
  st : ∀ t ty cs, lkB B t = some (.st ty cs) → ∃ ty' cs', lkB B' t = some (.st ty' cs')
theorem BLe.refl (B : List (Nat × Option SBox)) : BLe B B := ⟨fun _ e k ty xs pins h => ⟨e, k, ty, xs, pins, h, rfl, fun _ pin hp => ⟨pin, hp, rfl⟩⟩, fun _ ty cs h => ⟨ty, cs, h⟩⟩
theorem VSim.mono {B B' : List (Nat × Option SBox)} {v : SV} {q : PV} (h : VSim B v q) (hB : BLe B B') : VSim B' v q := by
  induction h with
  | junk q => exact .junk q
  | d c y h => exact .d c y h
  | ag cs qs hl hr ih => exact .ag cs qs hl ih
  | tup cs qs hl hr ih => exact .tup cs qs hl ih
  | ptr t o ty cs hb => obtain ⟨ty', cs', h1⟩ := hB.st t ty cs hb; exact .ptr t o ty' cs' h1
  | row t n e k ty xs pins hb hn =>
    obtain ⟨e', k', ty', xs', pins', h1, h2, h3⟩ := hB.rw t e k ty xs pins hb
    exact .row t n e' k' ty' xs' pins' h1 (h2.trans hn)
  | re t p o n i e k ty xs pins pin hb hn hp hi =>
    obtain ⟨e', k', ty', xs', pins', h1, h2, h3⟩ := hB.rw t e k ty xs pins hb
    obtain ⟨pin', h4, h5⟩ := h3 p pin hp
    exact .re t p o n i e' k' ty' xs' pins' pin' h1 (h2.trans hn) h4 (by rw [h5]; exact hi)
  | vw t lo hi n e k ty xs pins hb hn =>
    obtain ⟨e', k', ty', xs', pins', h1, h2, h3⟩ := hB.rw t e k ty xs pins hb
    exact .vw t lo hi n e' k' ty' xs' pins' h1 (h2.trans hn)
  | fe cs ds h hn => exact .fe cs ds h hn
  | fn f ps qs ps' qs' hl hr hl2 hr2 ih ih2 => exact .fn f ps qs ps' qs' hl ih hl2 ih2
theorem CSim.mono {B B' : List (Nat × Option SBox)} {cs : List SV} {qs : List PV} (h : CSim B cs qs) (hB : BLe B B') : CSim B' cs qs := ⟨h.len, fun j c q h1 h2 => (h.rep j c q h1 h2).mono hB⟩
theorem BSim.mono {B B' : List (Nat × Option SBox)} {oc : Bool} {b : Option SBox} {q : Option Box} (h : BSim B oc b q) (hB : BLe B B') : BSim B' oc b q := by
  cases b with
  | none => exact h
  | some b => cases b with
    | st ty cs => obtain ⟨qs, h1, h2⟩ := h; exact ⟨qs, h1, h2.mono hB⟩
    | rw e k ty xs pins => exact h

/-! ### Lists of cells -/
variable {B : List (Nat × Option SBox)}
theorem CSim.nil : CSim B [] [] := ⟨rfl, fun j c q h => by simp at h⟩
theorem CSim.cons {c : SV} {q : PV} {cs : List SV} {qs : List PV} (h : VSim B c q) (hs : CSim B cs qs) : CSim B (c :: cs) (q :: qs) :=
  ⟨by simp [hs.len], fun j c' q' h1 h2 => by
    cases j with
    | zero => simp at h1 h2; subst h1 h2; exact h
    | succ j => simp at h1 h2; exact hs.rep j _ _ h1 h2⟩
theorem CSim.head {c : SV} {q : PV} {cs : List SV} {qs : List PV} (h : CSim B (c :: cs) (q :: qs)) : VSim B c q := h.rep 0 c q rfl rfl
theorem CSim.tail {c : SV} {q : PV} {cs : List SV} {qs : List PV} (h : CSim B (c :: cs) (q :: qs)) : CSim B cs qs :=
  ⟨by have := h.len; simpa using this, fun j c' q' h1 h2 => h.rep (j + 1) c' q' (by simpa using h1) (by simpa using h2)⟩
theorem CSim.cases {cs : List SV} {qs : List PV} (h : CSim B cs qs) : (cs = [] ∧ qs = []) ∨ ∃ c q cs' qs', cs = c :: cs' ∧ qs = q :: qs' ∧ VSim B c q ∧ CSim B cs' qs' := by
  cases cs with
  | nil => cases qs with
    | nil => exact .inl ⟨rfl, rfl⟩
    | cons q qs => have := h.len; simp at this
  | cons c cs => cases qs with
    | nil => have := h.len; simp at this
    | cons q qs => exact .inr ⟨c, q, cs, qs, rfl, rfl, h.head, h.tail⟩
theorem CSim.take {cs : List SV} {qs : List PV} (h : CSim B cs qs) (n : Nat) : CSim B (cs.take n) (qs.take n) :=
  ⟨by simp [h.len], fun j c q h1 h2 => by
    rw [List.getElem?_take] at h1 h2
    split at h1
    · rename_i hj; rw [if_pos hj] at h2; exact h.rep j c q h1 h2
    · cases h1⟩
theorem CSim.drop {cs : List SV} {qs : List PV} (h : CSim B cs qs) (n : Nat) : CSim B (cs.drop n) (qs.drop n) :=
  ⟨by simp [h.len], fun j c q h1 h2 => by
    rw [List.getElem?_drop] at h1 h2
    exact h.rep _ c q h1 h2⟩
theorem CSim.append {cs ds : List SV} {qs ws : List PV} (h : CSim B cs qs) (h' : CSim B ds ws) : CSim B (cs ++ ds) (qs ++ ws) :=
  ⟨by simp [h.len, h'.len], fun j c q h1 h2 => by
    rw [List.getElem?_append] at h1 h2
    rw [h.len] at h1
    split at h1
    · rename_i hj; rw [if_pos hj] at h2; exact h.rep j c q h1 h2
    · rename_i hj; rw [if_neg hj] at h2; exact h'.rep _ c q h1 h2⟩
theorem spliceX_eq {α : Type} : ∀ (cs : List α) (o : Nat) (ns : List α), o + ns.length ≤ cs.length → spliceX cs o ns = splice cs o ns
  | [], 0, [], _ => rfl
  | [], 0, n :: ns, h => by simp at h
  | [], o + 1, ns, h => by simp at h
  | c :: cs, 0, [], _ => by simp [spliceX, splice]
  | c :: cs, 0, n :: ns, h => by
    simp only [spliceX]
    rw [spliceX_eq cs 0 ns (by simp at h ⊢; omega)]
    simp [splice]
  | c :: cs, o + 1, ns, h => by
    simp only [spliceX]
    rw [spliceX_eq cs o ns (by simp at h ⊢; omega)]
    unfold splice
    rw [show o + 1 + ns.length = (o + ns.length) + 1 by omega]
    simp
theorem CSim.splice {cs ns : List SV} {qs ws : List PV} (h : CSim B cs qs) (h' : CSim B ns ws) (o : Nat) : CSim B (Go.Proofs.Ytjeeclabnimbbaa.splice cs o ns) (Go.Proofs.Ytjeeclabnimbbaa.splice qs o ws) := by
  unfold Go.Proofs.Ytjeeclabnimbbaa.splice
  rw [h'.len]
  exact ((h.take o).append h').append (h.drop _)
end Go.Proofs.Ytjeeclabnimbbaa

/- The typed executor: states that are turned; operations that read. -/
namespace Go.Proofs.Ytjeeclabnimbbaa
open Go.RowKit

/-! ### States that are turned -/
variable {B : List (Nat × Option SBox)} {s : SS} {p : PS}
theorem sim_no (hs : Sim s p) {dst : Option Nat} {v : SV} {q : PV} (hv : VSim s.bx v q) : Sim (s.upd dst v .no) (p.upd dst q none) := by
  refine ⟨fun i => ?_, fun t => hs.bx t⟩
  show VSim s.bx (lkV (updS s.sl dst v) i) (tupd p.t dst q i)
  rw [lkV_upd]
  unfold tupd
  split
  · exact hv
  · exact hs.sl i
theorem sim_boxes {sl : List (Nat × SV)} {pr oc : List Nat} {ro : Bool} {dst : Option Nat} {v : SV} {q : PV} {B' : List (Nat × Option SBox)} {u : Option (Nat × Box)} (h1 : ∀ i, dst ≠ some i → VSim B' (lkV sl i) (p.t i)) (h2 : ∀ t, BSim B' (memN oc t) (lkB B' t) (bupd p.b u t)) (hv : VSim B' v q) :
    Sim ⟨updS sl dst v, B', pr, ro, oc⟩ (p.upd dst q u) := by
  refine ⟨fun i => ?_, h2⟩
  show VSim B' (lkV (updS sl dst v) i) (tupd p.t dst q i)
  rw [lkV_upd]
  unfold tupd
  split
  · exact hv
  · rename_i h; exact h1 i h
theorem sim_box (hs : Sim s p) {pr : List Nat} {ro : Bool} {dst : Option Nat} {v : SV} {q : PV} {t : Nat} {b : SBox} {b' : Box} (hB : BLe s.bx ((t, some b) :: s.bx)) (hb : ∀ oc, BSim ((t, some b) :: s.bx) oc (some b) (some b')) (hv : VSim ((t, some b) :: s.bx) v q) :
    Sim ⟨updS s.sl dst v, (t, some b) :: s.bx, pr, ro, s.oc⟩ (p.upd dst q (some (t, b'))) := by
  refine sim_boxes (fun i _ => (hs.sl i).mono hB) (fun t' => ?_) hv
  rw [lkB_cons]
  simp only [bupd]
  split
  · exact hb _
  · exact (hs.bx t').mono hB
theorem sim_pin (hs : Sim s p) {pr : List Nat} {ro : Bool} {dst : Option Nat} {v : SV} {q : PV} {t : Nat} {b : SBox} (hB : BLe s.bx ((t, some b) :: s.bx)) (hb : ∀ oc, BSim ((t, some b) :: s.bx) oc (some b) (p.b t)) (hv : VSim ((t, some b) :: s.bx) v q) :
    Sim ⟨updS s.sl dst v, (t, some b) :: s.bx, pr, ro, s.oc⟩ (p.upd dst q none) := by
  refine sim_boxes (fun i _ => (hs.sl i).mono hB) (fun t' => ?_) hv
  rw [lkB_cons]
  simp only [bupd]
  split
  · rename_i h; subst h; exact hb _
  · exact (hs.bx t').mono hB
theorem ble_new {b : SBox} {t : Nat} (h : lkB B t = none) : BLe B ((t, some b) :: B) := by
  refine ⟨fun t' e k ty xs pins h1 => ?_, fun t' ty cs h1 => ?_⟩
  · have : ¬ t' = t := fun e => by rw [e, h] at h1; cases h1
    exact ⟨e, k, ty, xs, pins, by rw [lkB_cons, if_neg this]; exact h1, rfl, fun _ pin hp => ⟨pin, hp, rfl⟩⟩
  · have : ¬ t' = t := fun e => by rw [e, h] at h1; cases h1
    exact ⟨ty, cs, by rw [lkB_cons, if_neg this]; exact h1⟩
theorem ble_st {ty ty' : TypeId} {cs cs' : List SV} {t : Nat} (h : lkB B t = some (.st ty cs)) : BLe B ((t, some (.st ty' cs')) :: B) := by
  refine ⟨fun t' e k ty xs pins h1 => ?_, fun t' ty2 cs2 h1 => ?_⟩
  · have : ¬ t' = t := fun e => by rw [e, h] at h1; cases h1
    exact ⟨e, k, ty, xs, pins, by rw [lkB_cons, if_neg this]; exact h1, rfl, fun _ pin hp => ⟨pin, hp, rfl⟩⟩
  · rw [lkB_cons]
    split
    · exact ⟨_, _, rfl⟩
    · exact ⟨_, _, h1⟩
theorem ble_rw {e k : Nat} {ty : Ty} {xs xs' : List ty.den} {pins pins' : List (Nat × Pin)} {t : Nat} (h : lkB B t = some (.rw e k ty xs pins)) (hl : xs'.length = xs.length) (hp : ∀ p pin, lkP pins p = some pin → ∃ pin', lkP pins' p = some pin' ∧ pin'.i = pin.i) : BLe B ((t, some (.rw e k ty xs' pins')) :: B) := by
  refine ⟨fun t' e2 k2 ty2 xs2 pins2 h1 => ?_, fun t' ty2 cs2 h1 => ?_⟩
  · rw [lkB_cons]
    split
    · rename_i ht
      subst ht
      rw [h] at h1
      injection h1 with h1
      injection h1 with e1 e2 e3 e4 e5
      subst e3
      have e4 := eq_of_heq e4
      subst e4 e5
      exact ⟨e, k, ty, xs', pins', rfl, hl, hp⟩
    · exact ⟨e2, k2, ty2, xs2, pins2, h1, rfl, fun _ pin hp => ⟨pin, hp, rfl⟩⟩
  · have : ¬ t' = t := fun e => by rw [e, h] at h1; cases h1
    exact ⟨_, _, by rw [lkB_cons, if_neg this]; exact h1⟩
/-- What has grown is forgotten. -/
def staleBox (t : Nat) : SBox → SBox
  | .st ty cs => .st ty (stales t cs)
  | b => b
theorem lkB_stale (t : Nat) : ∀ (l : List (Nat × Option SBox)) (i : Nat), lkB (staleB t l) i = (lkB l i).map (staleBox t)
  | [], _ => rfl
  | (j, none) :: l, i => by simp only [staleB, lkB_cons, lkB_stale t l i]; split <;> rfl
  | (j, some (.st ty cs)) :: l, i => by simp only [staleB, lkB_cons, lkB_stale t l i]; split <;> rfl
  | (j, some (.rw e k ty xs pins)) :: l, i => by simp only [staleB, lkB_cons, lkB_stale t l i]; split <;> rfl
theorem lkV_stale (t : Nat) : ∀ (l : List (Nat × SV)) (i : Nat), lkV (staleS t l) i = stale t (lkV l i)
  | [], _ => rfl
  | (j, v) :: l, i => by simp only [staleS, lkV_cons, lkV_stale t l i]; split <;> rfl
theorem stales_get (t : Nat) : ∀ (cs : List SV) (j : Nat), (stales t cs)[j]? = (cs[j]?).map (stale t)
  | [], j => by simp [stales]
  | c :: cs, 0 => by simp [stales]
  | c :: cs, j + 1 => by simpa [stales] using stales_get t cs j
theorem stales_len (t : Nat) : ∀ cs : List SV, (stales t cs).length = cs.length
  | [] => rfl
  | c :: cs => by simp [stales, stales_len t cs]
/-- All rows but t are as they were; structs are there. -/
structure BLeX (t : Nat) (B B' : List (Nat × Option SBox)) : Prop where
  rw : ∀ t', t' ≠ t → ∀ e k ty xs pins, lkB B t' = some (.rw e k ty xs pins) → lkB B' t' = some (.rw e k ty xs pins)
  st : ∀ t' ty cs, lkB B t' = some (.st ty cs) → ∃ ty' cs', lkB B' t' = some (.st ty' cs')
theorem VSim.stale {B' : List (Nat × Option SBox)} {t : Nat} {v : SV} {q : PV} (h : VSim B v q) (hB : BLeX t B B') : VSim B' (stale t v) q := by
  induction h with
  | junk q => exact .junk q
  | d c y h => exact .d c y h
  | ag cs qs hl hr ih =>
    refine .ag _ qs (by rw [stales_len]; exact hl) (fun j c q h1 h2 => ?_)
    rw [stales_get, Option.map_eq_some_iff] at h1
    obtain ⟨c', h3, rfl⟩ := h1
    exact ih j c' q h3 h2
  | tup cs qs hl hr ih =>
    refine .tup _ qs (by rw [stales_len]; exact hl) (fun j c q h1 h2 => ?_)
    rw [stales_get, Option.map_eq_some_iff] at h1
    obtain ⟨c', h3, rfl⟩ := h1
    exact ih j c' q h3 h2
  | ptr t' o ty cs hb => obtain ⟨ty', cs', h1⟩ := hB.st t' ty cs hb; exact .ptr t' o ty' cs' h1
  | row t' n e k ty xs pins hb hn =>
    simp only [Go.Proofs.Ytjeeclabnimbbaa.stale, beq_spec]
    by_cases h : t' = t
    · simp only [h, decide_true]; exact .junk _
    · simp only [h, decide_false]; exact .row t' n e k ty xs pins (hB.rw t' h _ _ _ _ _ hb) hn
  | re t' p o n i e k ty xs pins pin hb hn hp hi =>
    simp only [Go.Proofs.Ytjeeclabnimbbaa.stale, beq_spec]
    by_cases h : t' = t
    · simp only [h, decide_true]; exact .junk _
    · simp only [h, decide_false]; exact .re t' p o n i e k ty xs pins pin (hB.rw t' h _ _ _ _ _ hb) hn hp hi
  | vw t' lo hi n e k ty xs pins hb hn =>
    simp only [Go.Proofs.Ytjeeclabnimbbaa.stale, beq_spec]
    by_cases h : t' = t
    · simp only [h, decide_true]; exact .junk _
    · simp only [h, decide_false]; exact .vw t' lo hi n e k ty xs pins (hB.rw t' h _ _ _ _ _ hb) hn
  | fe cs ds h hn => exact .fe cs ds h hn
  | fn f ps qs ps' qs' hl hr hl2 hr2 ih ih2 =>
    refine .fn f _ _ ps' qs' (by rw [stales_len]; exact hl) (fun j c q h1 h2 => ?_) (by rw [stales_len]; exact hl2) (fun j c q h1 h2 => ?_)
    · rw [stales_get, Option.map_eq_some_iff] at h1
      obtain ⟨c', h3, rfl⟩ := h1
      exact ih j c' q h3 h2
    · rw [stales_get, Option.map_eq_some_iff] at h1
      obtain ⟨c', h3, rfl⟩ := h1
      exact ih2 j c' q h3 h2
theorem CSim.stale {B' : List (Nat × Option SBox)} {t : Nat} {cs : List SV} {qs : List PV} (h : CSim B cs qs) (hB : BLeX t B B') : CSim B' (stales t cs) qs :=
  ⟨by rw [stales_len]; exact h.len, fun j c q h1 h2 => by
    rw [stales_get, Option.map_eq_some_iff] at h1
    obtain ⟨c', h3, rfl⟩ := h1
    exact (h.rep j c' q h3 h2).stale hB⟩
theorem sim_grow (hs : Sim s p) {dst : Option Nat} {v : SV} {q : PV} {t e k : Nat} {ty : Ty} {zs xs0 : List ty.den} {pins0 : List (Nat × Pin)} (h0 : lkB s.bx t = some (.rw e k ty xs0 pins0)) (hv : VSim ((t, some (.rw e k ty zs [])) :: staleB t s.bx) v q) :
    Sim (s.upd dst v (.grow t (.rw e k ty zs []))) (p.upd dst q (some (t, .rw e k (zs.map (encE ty))))) := by
  have hX : BLeX t s.bx ((t, some (.rw e k ty zs [])) :: staleB t s.bx) := by
    refine ⟨fun t' ht e2 k2 ty2 xs2 pins2 h => ?_, fun t' ty2 cs2 h => ?_⟩
    · rw [lkB_cons, if_neg ht, lkB_stale, h]
      rfl
    · have : ¬ t' = t := fun e => by rw [e, h0] at h; cases h
      rw [lkB_cons, if_neg this, lkB_stale, h]
      exact ⟨_, _, rfl⟩
  refine sim_boxes (fun i _ => ?_) (fun t' => ?_) hv
  · rw [lkV_stale]
    exact (hs.sl i).stale hX
  · rw [lkB_cons]
    simp only [bupd]
    split
    · exact ⟨rfl, fun p pin h => by cases h⟩
    · rename_i ht
      rw [lkB_stale]
      have h := hs.bx t'
      cases hb : lkB s.bx t' with
      | none => rw [hb] at h; exact h
      | some b =>
        rw [hb] at h
        cases b with
        | st ty2 cs => obtain ⟨qs, h1, h2⟩ := h; exact ⟨qs, h1, h2.stale hX⟩
        | rw e2 k2 ty2 xs2 pins2 => exact h

/-! ### What is written -/
/-- The same box, but for its pins. -/
def SameB : Option SBox → Option SBox → Prop
  | some (.rw e k ty xs _), b => ∃ pins', b = some (.rw e k ty xs pins')
  | a, b => b = a
theorem SameB.refl (a : Option SBox) : SameB a a := by
  match a with
  | none => rfl
  | some (.st _ _) => rfl
  | some (.rw _ _ _ _ pins) => exact ⟨pins, rfl⟩
theorem SameB.trans {a b c : Option SBox} (h : SameB a b) (h' : SameB b c) : SameB a c := by
  match a, h with
  | none, h => cases h; exact h'
  | some (.st _ _), h => cases h; exact h'
  | some (.rw _ _ _ _ _), ⟨pins, h⟩ =>
    subst h
    obtain ⟨pins', h'⟩ := h'
    exact ⟨pins', h'⟩
mutual
/-- Nothing of it hangs on a row that may be written. -/
def safeK (pr : List Nat) : SV → Bool
  | .row t => memN pr t
  | .re _ _ _ => false
  | .vw _ _ _ => false
  | .ag cs => safesK pr cs
  | .tup cs => safesK pr cs
  | .fn _ ps qs => safesK pr ps && safesK pr qs
  | _ => true
def safesK (pr : List Nat) : List SV → Bool
  | [] => true
  | c :: cs => safeK pr c && safesK pr cs
end
structure Keep (sc W : List Nat) (s s' : SS) : Prop where
  pr : s'.pr = s.pr
  ro : s'.ro = s.ro
  bx : ∀ t, memN s.pr t = true → SameB (lkB s.bx t) (lkB s'.bx t)
  sl : ∀ i, memN W i = false → safeK s.pr (lkV s.sl i) = true → lkV s'.sl i = lkV s.sl i
  st : ∀ t, memN sc t = true → ∀ ty cs, lkB s.bx t = some (.st ty cs) → ∃ cs', lkB s'.bx t = some (.st ty cs') ∧ cs'.length = cs.length
variable {sc : List Nat}
theorem Keep.refl (W : List Nat) (s : SS) : Keep sc W s s := ⟨rfl, rfl, fun _ _ => .refl _, fun _ _ _ => rfl, fun _ _ _ cs h => ⟨cs, h, rfl⟩⟩
theorem Keep.trans {W : List Nat} {s s' s'' : SS} (h : Keep sc W s s') (h' : Keep sc W s' s'') : Keep sc W s s'' :=
  ⟨h'.pr.trans h.pr, h'.ro.trans h.ro, fun t ht => (h.bx t ht).trans (h'.bx t (by rw [h.pr]; exact ht)), fun i hi hsf => by
    have e := h.sl i hi hsf
    rw [h'.sl i hi (by rw [e, h.pr]; exact hsf), e], fun t ht ty cs h1 => by
    obtain ⟨cs1, h2, h3⟩ := h.st t ht ty cs h1
    obtain ⟨cs2, h4, h5⟩ := h'.st t ht ty cs1 h2
    exact ⟨cs2, h4, h5.trans h3⟩⟩
theorem Keep.wide {W W' : List Nat} {s s' : SS} (h : Keep sc W s s') (hW : ∀ i, memN W i = true → memN W' i = true) : Keep sc W' s s' :=
  ⟨h.pr, h.ro, h.bx, fun i hi hsf => h.sl i (by cases e : memN W i; rfl; rw [hW i e] at hi; cases hi) hsf, h.st⟩
theorem wrB_spec {s : SS} {t : Nat} (h : wrB s t = true) : s.ro = false ∧ memN s.pr t = false := by
  unfold wrB at h
  split at h
  · cases h
  · rename_i h1; exact ⟨h1, by simpa using h⟩
theorem newB_spec {s : SS} {t : Nat} (h : newB s t = true) : memN s.oc t = false ∧ memN s.pr t = false := by
  unfold newB at h
  split at h
  · cases h
  · rename_i h1; exact ⟨h1, by simpa using h⟩
def OkU (s : SS) : Upd → Prop
  | .no => True
  | .new t _ => memN s.pr t = false ∧ lkB s.bx t = none
  | .set t b => memN s.pr t = false ∧ ∀ ty cs, lkB s.bx t = some (.st ty cs) → ∃ cs', b = .st ty cs' ∧ cs'.length = cs.length
  | .grow t _ => memN s.pr t = false ∧ ∀ ty cs, lkB s.bx t ≠ some (.st ty cs)
  | .pin t b => SameB (lkB s.bx t) (some b)
/-- What is written is new, or may be written. -/
def OkW (s : SS) (dst : Option Nat) (u : Upd) (w : Option (Nat × Box)) : Prop := ∀ t b, w = some (t, b) → ((lkB s.bx t = none ∧ dst = some t) ∨ s.ro = false) ∧ FootC.memL (updIds u) t = true
theorem okW_none {s : SS} {dst : Option Nat} {u : Upd} : OkW s dst u none := fun _ _ h => by cases h
theorem memL_one (t : Nat) : FootC.memL [t] t = true := by rw [memL_cons]; simp
theorem okW_new {s : SS} {dst : Option Nat} {t : Nat} {b : Box} {sb : SBox} (h : lkB s.bx t = none) (hd : dst = some t) : OkW s dst (.new t sb) (some (t, b)) := fun t' b' e => by injection e with e; injection e with e1 e2; subst e1; exact ⟨.inl ⟨h, hd⟩, memL_one t⟩
theorem okW_wr {s : SS} {dst : Option Nat} {t : Nat} {b : Box} {sb : SBox} (h : s.ro = false) : OkW s dst (.set t sb) (some (t, b)) := fun t' b' e => by injection e with e; injection e with e1 e2; subst e1; exact ⟨.inr h, memL_one t⟩
theorem okW_gr {s : SS} {dst : Option Nat} {t : Nat} {b : Box} {sb : SBox} (h : s.ro = false) : OkW s dst (.grow t sb) (some (t, b)) := fun t' b' e => by injection e with e; injection e with e1 e2; subst e1; exact ⟨.inr h, memL_one t⟩
theorem not_of_mem {pr : List Nat} {t t' : Nat} (ht : memN pr t = false) (h : memN pr t' = true) : ¬ t' = t := fun e => by rw [e, ht] at h; cases h
mutual
theorem stale_safe {pr : List Nat} {t : Nat} (ht : memN pr t = false) : ∀ v : SV, safeK pr v = true → stale t v = v
  | .junk, _ => rfl
  | .d _, _ => rfl
  | .fe _, _ => rfl
  | .ptr _ _, _ => rfl
  | .row t', h => by
    have := not_of_mem ht (show memN pr t' = true from h)
    simp only [stale, beq_spec, this, decide_false]
  | .re _ _ _, h => by cases h
  | .vw _ _ _, h => by cases h
  | .ag cs, h => by simp only [stale]; rw [stales_safe ht cs h]
  | .tup cs, h => by simp only [stale]; rw [stales_safe ht cs h]
  | .fn f ps qs, h => by
    have h : (safesK pr ps && safesK pr qs) = true := h
    rw [Bool.and_eq_true] at h
    simp only [stale]; rw [stales_safe ht ps h.1, stales_safe ht qs h.2]
theorem stales_safe {pr : List Nat} {t : Nat} (ht : memN pr t = false) : ∀ cs : List SV, safesK pr cs = true → stales t cs = cs
  | [], _ => rfl
  | c :: cs, h => by
    simp only [safesK, Bool.and_eq_true] at h
    simp only [stales]
    rw [stale_safe ht c h.1, stales_safe ht cs h.2]
end
mutual
theorem stale_norow {t : Nat} : ∀ v : SV, norow v = true → stale t v = v
  | .junk, _ => rfl
  | .d _, _ => rfl
  | .fe _, _ => rfl
  | .ptr _ _, _ => rfl
  | .row _, h => by cases h
  | .re _ _ _, h => by cases h
  | .vw _ _ _, h => by cases h
  | .ag cs, h => by simp only [stale]; rw [stales_norow cs h]
  | .tup cs, h => by simp only [stale]; rw [stales_norow cs h]
  | .fn f ps qs, h => by
    have h : (match norows ps with | true => norows qs | false => false) = true := h
    split at h
    · rename_i h1; simp only [stale]; rw [stales_norow ps h1, stales_norow qs h]
    · cases h
theorem stales_norow {t : Nat} : ∀ cs : List SV, norows cs = true → stales t cs = cs
  | [], _ => rfl
  | c :: cs, h => by
    simp only [norows] at h
    split at h
    · rename_i h1
      simp only [stales]
      rw [stale_norow c h1, stales_norow cs h]
    · cases h
end
/-- What may not be written is plain. -/
def PrOk (s : SS) : Prop := ∀ t, memN s.pr t = true → ∃ b, lkB s.bx t = some b ∧ plainBox b = true
theorem Keep.prOk {W : List Nat} {s s' : SS} (h : Keep sc W s s') (hp : PrOk s) : PrOk s' := by
  intro t ht
  rw [h.pr] at ht
  obtain ⟨b, h1, h2⟩ := hp t ht
  have := h.bx t ht
  rw [h1] at this
  cases b with
  | st ty cs => exact ⟨_, this, h2⟩
  | rw e k ty xs pins =>
    obtain ⟨pins', h3⟩ := this
    exact ⟨_, h3, rfl⟩
theorem keep_upd {W : List Nat} {dst : Option Nat} {v : SV} {u : Upd} (hu : OkU s u) (hW : ∀ d, dst = some d → memN W d = true) (hpr : PrOk s) : Keep sc W s (s.upd dst v u) := by
  have sl : ∀ i, memN W i = false → lkV (updS s.sl dst v) i = lkV s.sl i := fun i hi => by
    rw [lkV_upd, if_neg (fun e => by rw [hW i e] at hi; cases hi)]
  have one : ∀ t b, memN s.pr t = false → ∀ t', memN s.pr t' = true → SameB (lkB s.bx t') (lkB ((t, some b) :: s.bx) t') := fun t b ht t' ht' => by
    rw [lkB_cons, if_neg (fun e => by rw [e, ht] at ht'; cases ht')]
    exact .refl _
  cases u with
  | no => exact ⟨rfl, rfl, fun _ _ => .refl _, fun i hi _ => sl i hi, fun _ _ _ cs h => ⟨cs, h, rfl⟩⟩
  | new t b =>
    refine ⟨rfl, rfl, one t b hu.1, fun i hi _ => sl i hi, fun t' _ ty cs h => ⟨cs, ?_, rfl⟩⟩
    show lkB ((t, some b) :: s.bx) t' = _
    rw [lkB_cons, if_neg (fun e => by rw [e, hu.2] at h; cases h)]
    exact h
  | set t b =>
    refine ⟨rfl, rfl, one t b hu.1, fun i hi _ => sl i hi, fun t' _ ty cs h => ?_⟩
    show ∃ cs', lkB ((t, some b) :: s.bx) t' = _ ∧ _
    rw [lkB_cons]
    by_cases e : t' = t
    · rw [if_pos e]
      rw [e] at h
      obtain ⟨cs', h1, h2⟩ := hu.2 ty cs h
      exact ⟨cs', by rw [h1], h2⟩
    · rw [if_neg e]; exact ⟨cs, h, rfl⟩
  | pin t b =>
    refine ⟨rfl, rfl, fun t' _ => ?_, fun i hi _ => sl i hi, fun t' _ ty cs h => ?_⟩
    · show SameB _ (lkB ((t, some b) :: s.bx) t')
      rw [lkB_cons]
      split
      · rename_i e; subst e; exact hu
      · exact .refl _
    · show ∃ cs', lkB ((t, some b) :: s.bx) t' = _ ∧ _
      rw [lkB_cons]
      by_cases e : t' = t
      · rw [if_pos e]
        have hu : SameB (lkB s.bx t) (some b) := hu
        rw [← e, h] at hu
        exact ⟨cs, hu, rfl⟩
      · rw [if_neg e]; exact ⟨cs, h, rfl⟩
  | grow t b =>
    refine ⟨rfl, rfl, fun t' ht' => ?_, fun i hi hsf => ?_, fun t' _ ty cs h => ?_⟩
    · show SameB _ (lkB ((t, some b) :: staleB t s.bx) t')
      rw [lkB_cons, if_neg (fun e => by rw [e, hu.1] at ht'; cases ht'), lkB_stale]
      obtain ⟨b', h1, h2⟩ := hpr t' ht'
      rw [h1]
      cases b' with
      | st ty cs => simp only [Option.map_some, staleBox]; rw [stales_norow cs h2]; rfl
      | rw e k ty xs pins => exact ⟨pins, rfl⟩
    · show lkV (updS (staleS t s.sl) dst v) i = _
      rw [lkV_upd, if_neg (fun e => by rw [hW i e] at hi; cases hi), lkV_stale]
      exact stale_safe hu.1 _ hsf
    · show ∃ cs', lkB ((t, some b) :: staleB t s.bx) t' = _ ∧ _
      rw [lkB_cons, if_neg (fun e => hu.2 ty cs (by rw [← e]; exact h)), lkB_stale, h]
      exact ⟨_, rfl, stales_len t cs⟩
end Go.Proofs.Ytjeeclabnimbbaa

/- The typed executor: each operation is the pure machine's. -/
namespace Go.Proofs.Ytjeeclabnimbbaa
open Go.RowKit

variable {B : List (Nat × Option SBox)} {s : SS} {p : PS} {P : Program} {ρ : Type}
/-! ### Operands -/
theorem cellV_sim {v : Value} {c : SD} (h : cellV v = some c) : DSim c (.v v) ∧ v.oneCell' = true := by
  unfold cellV at h
  split at h
  · injection h with h; subst h; exact ⟨rfl, rfl⟩
  · injection h with h; subst h; exact ⟨rfl, rfl⟩
  · injection h with h; subst h; exact ⟨rfl, rfl⟩
  · injection h with h; subst h; exact ⟨rfl, rfl⟩
  · cases h
theorem cellsV_sim {B : List (Nat × Option SBox)} : ∀ {l : List Value} {cs : List SV}, cellsV l = some cs → CSim B cs (l.map fun x => .d (.v x)) ∧ ∀ x ∈ l, x.oneCell' = true
  | [], cs, h => by injection h with h; subst h; exact ⟨.nil, fun x hx => by cases hx⟩
  | v :: l, cs, h => by
    simp only [cellsV] at h
    split at h
    · rename_i c cs' h1 h2
      injection h with h
      subst h
      obtain ⟨k1, k2⟩ := cellV_sim h1
      obtain ⟨k3, k4⟩ := cellsV_sim h2
      refine ⟨.cons (.d _ _ k1) k3, fun x hx => ?_⟩
      rcases List.mem_cons.1 hx with rfl | hx
      · exact k2
      · exact k4 x hx
    · cases h
theorem one_sim {v : Value} (e : ofVal v = .d (.v v)) : VSim B (match cellV v with | some c => .d c | none => .junk) (ofVal v) := by
  split
  · rename_i c h
    rw [e]
    exact .d _ _ (cellV_sim h).1
  · exact .junk _
theorem constV_sim (v : Value) : VSim B (constV v) (ofVal v) := by
  have key := one_sim (B := B) (v := v)
  cases v with
  | agg xs =>
    simp only [constV]
    split
    · rename_i cs h
      obtain ⟨h1, h2⟩ := cellsV_sim (B := B) h
      have : xs.all (·.oneCell') = true := by
        rw [← Array.all_toList, List.all_eq_true]
        exact h2
      simp only [ofVal, this, if_true]
      exact .ag _ _ h1.len h1.rep
    · exact .junk _
  | tuple xs => exact .junk _
  | _ => exact key rfl
theorem evX_sim (hs : Sim s p) (x : Operand) : VSim s.bx (evX s x) (ev p x) := by
  cases x with
  | tmp i => exact hs.sl i
  | const v => exact constV_sim v
  | global g => exact .junk _
  | func f => exact .fn f [] [] [] [] rfl (fun j c q h => by simp at h) rfl (fun j c q h => by simp at h)
theorem vs_int {k : IntKind} {x : Int} {q : PV} (h : VSim B (.d (.int k x)) q) : q = .d (.v (.int k x)) := by
  cases h with
  | d c y h => rw [nrm_v (show nrm y = .v _ from h)]
theorem vs_bool {x : Bool} {q : PV} (h : VSim B (.d (.bool x)) q) : q = .d (.v (.bool x)) := by
  cases h with
  | d c y h => rw [nrm_v (show nrm y = .v _ from h)]
theorem vs_str {x : ByteArray} {q : PV} (h : VSim B (.d (.str x)) q) : q = .d (.v (.string x)) := by
  cases h with
  | d c y h => rw [nrm_v (show nrm y = .v _ from h)]
theorem vs_nl {q : PV} (h : VSim B (.d .nl) q) : q = .d (.v (.slice none 0 0)) := by
  cases h with
  | d c y h => rw [show y = .v (.slice none 0 0) from h]
theorem vs_sl {ty : Ty} {xs : List ty.den} {q : PV} (h : VSim B (.d (.sl ty xs)) q) : q = .d (.sl (xs.map (encE ty))) ∨ (xs = [] ∧ q = .d (.v (.slice none 0 0))) := by
  cases h with
  | d c y h =>
    rcases nrm_sl (show nrm y = .sl _ from h) with h | ⟨h1, h2⟩
    · rw [h]; exact .inl rfl
    · rw [h2]; exact .inr ⟨by simpa using h1, rfl⟩
theorem vs_ag {cs : List SV} {q : PV} (h : VSim B (.ag cs) q) : ∃ qs, q = .ag qs ∧ CSim B cs qs := by
  cases h with
  | ag _ qs hl hr => exact ⟨qs, rfl, hl, hr⟩
theorem vs_tup {cs : List SV} {q : PV} (h : VSim B (.tup cs) q) : ∃ qs, q = .tup qs ∧ CSim B cs qs := by
  cases h with
  | tup _ qs hl hr => exact ⟨qs, rfl, hl, hr⟩
theorem v_int (k : IntKind) (x : Int) : VSim B (.d (.int k x)) (.d (.v (.int k x))) := .d _ _ rfl
theorem v_bool (x : Bool) : VSim B (.d (.bool x)) (.d (.v (.bool x))) := .d _ _ rfl
theorem v_str (x : ByteArray) : VSim B (.d (.str x)) (.d (.v (.string x))) := .d _ _ rfl
theorem v_sl (ty : Ty) (xs : List ty.den) : VSim B (.d (.sl ty xs)) (.d (.sl (xs.map (encE ty)))) := .d _ _ rfl

/-! ### Slices as data -/
theorem row_sim (hs : Sim s p) {t : Nat} {q : PV} {c : SD} (hv : VSim s.bx (.row t) q) (h : rowX s t = some c) : ∃ e k ty xs pins, lkB s.bx t = some (.rw e k ty xs pins) ∧ c = .sl ty xs ∧ q = .row t xs.length ∧ p.b t = some (.rw e k (xs.map (encE ty))) := by
  unfold rowX at h
  split at h
  · rename_i e k ty xs pins hb
    injection h with h
    have hbx := hs.bx t
    rw [hb] at hbx
    cases hv with
    | row _ n e2 k2 ty2 xs2 pins2 hb2 hn =>
      rw [hb] at hb2
      injection hb2 with hb2
      injection hb2 with e1 e2 e3 e4 e5
      subst e3
      have e4 := eq_of_heq e4
      subst e4
      exact ⟨e, k, ty, xs, pins, hb, h.symm, by rw [hn], hbx.1⟩
  · cases h
theorem data_sl (hs : Sim s p) {v : SV} {q : PV} {ty : Ty} {xs : List ty.den} (hv : VSim s.bx v q) (h : dataX s v = some (.sl ty xs)) : asSl p.b q = some (xs.map (encE ty)) := by
  unfold dataX at h
  split at h
  · injection h with h
    subst h
    rcases vs_sl hv with rfl | ⟨rfl, rfl⟩
    · rfl
    · simp [asSl]
  · obtain ⟨e, k, ty2, xs2, pins, h1, h2, rfl, h4⟩ := row_sim hs hv h
    injection h2 with e1 e2
    subst e1
    have e2 := eq_of_heq e2
    subst e2
    simp [asSl, h4]
  · cases h
theorem data_nl {v : SV} {q : PV} (hv : VSim s.bx v q) (h : dataX s v = some .nl) : q = .d (.v (.slice none 0 0)) := by
  unfold dataX at h
  split at h
  · injection h with h
    subst h
    exact vs_nl hv
  · unfold rowX at h
    split at h
    · injection h with h; cases h
    · cases h
  · cases h
theorem data_d (hs : Sim s p) {v : SV} {q : PV} {c : SD} (hv : VSim s.bx v q) (h : dataX s v = some c) : asData p.b q = .d c.toD ∧ (norow v = true → clean q = true ∧ asData bNone q = .d c.toD) := by
  unfold dataX at h
  split at h
  · injection h with h
    subst h
    cases hv with
    | d c y h => simp only [asData, h.nrm, clean, and_self, implies_true]
  · obtain ⟨e, k, ty2, xs2, pins, h1, rfl, rfl, h4⟩ := row_sim hs hv h
    refine ⟨by simp [asData, h4, SD.toD], fun h => by simp [norow] at h⟩
  · cases h
theorem datas_d (hs : Sim s p) : ∀ {cs : List SV} {qs : List PV} {ds : List SD}, CSim s.bx cs qs → datasX s cs = some ds → asDatas p.b qs = ds.map (fun c => .d c.toD) ∧ (norows cs = true → cleans qs = true ∧ asDatas bNone qs = ds.map (fun c => .d c.toD))
  | [], qs, ds, h, hd => by
    rcases h.cases with ⟨_, rfl⟩ | ⟨_, _, _, _, h1, _⟩
    · injection hd with hd; subst hd; simp [asDatas, cleans]
    · cases h1
  | c :: cs, qs, ds, h, hd => by
    rcases h.cases with ⟨h1, _⟩ | ⟨c', q, cs', qs', h1, rfl, h2, h3⟩
    · cases h1
    · injection h1 with e1 e2
      subst e1 e2
      simp only [datasX] at hd
      split at hd
      · rename_i d ds' k1 k2
        injection hd with hd
        subst hd
        obtain ⟨m1, m2⟩ := data_d hs h2 k1
        obtain ⟨m3, m4⟩ := datas_d hs h3 k2
        refine ⟨by simp [asDatas, m1, m3], fun hn => ?_⟩
        simp only [norows] at hn
        split at hn
        · rename_i hn1
          obtain ⟨n1, n2⟩ := m2 hn1
          obtain ⟨n3, n4⟩ := m4 hn
          simp [asDatas, cleans, n1, n2, n3, n4]
        · cases hn
      · cases hd
theorem cells_sim {v : SV} {q : PV} {cs : List SV} (hv : VSim B v q) (h : cellsX v = some cs) : ∃ qs, cellsP q = some qs ∧ CSim B cs qs := by
  cases hv with
  | junk q => cases h
  | tup => cases h
  | ag cs' qs hl hr => injection h with h; subst h; exact ⟨qs, rfl, hl, hr⟩
  | d c y hd => injection h with h; subst h; exact ⟨_, rfl, .cons (.d c y hd) .nil⟩
  | ptr t o ty cs' hb => injection h with h; subst h; exact ⟨_, rfl, .cons (.ptr t o ty cs' hb) .nil⟩
  | row t n e k ty xs pins hb hn => injection h with h; subst h; exact ⟨_, rfl, .cons (.row t n e k ty xs pins hb hn) .nil⟩
  | re t p o n i e k ty xs pins pin hb hn hp hi => injection h with h; subst h; exact ⟨_, rfl, .cons (.re t p o n i e k ty xs pins pin hb hn hp hi) .nil⟩
  | vw t lo hi n e k ty xs pins hb hn => injection h with h; subst h; exact ⟨_, rfl, .cons (.vw t lo hi n e k ty xs pins hb hn) .nil⟩
  | fe cs' ds hd hn => injection h with h; subst h; exact ⟨_, rfl, .cons (.fe cs' ds hd hn) .nil⟩
  | fn f ps qs ps' qs' hl hr hl2 hr2 => injection h with h; subst h; exact ⟨_, rfl, .cons (.fn f ps qs ps' qs' hl hr hl2 hr2) .nil⟩
theorem pack_sim {cs : List SV} {qs : List PV} (h : CSim B cs qs) {size : Nat} {agg : Bool} {v : SV} (hp : packX size agg cs = some v) : ∃ q, packP size agg qs = some q ∧ VSim B v q := by
  unfold packX at hp
  unfold packP
  split at hp
  · rename_i ha
    rw [if_pos ha]
    split at hp
    · rename_i hl
      injection hp with hp
      subst hp
      rw [h.len] at hl
      rw [if_pos hl]
      have := h.take size
      exact ⟨_, rfl, .ag _ _ this.len this.rep⟩
    · cases hp
  · rename_i ha
    rw [if_neg ha]
    rcases h.cases with ⟨rfl, rfl⟩ | ⟨c, q, cs', qs', rfl, rfl, h1, h2⟩
    · cases hp
    · injection hp with hp; subst hp; exact ⟨q, rfl, h1⟩
theorem mapD_sim (cs : List SD) (h : ∀ c ∈ cs, c ≠ .nl) : CSim B (mapD cs) ((cs.map SD.toD).map .d) := by
  induction cs with
  | nil => exact .nil
  | cons c cs ih => exact .cons (.d _ _ (DSim.of (h c List.mem_cons_self))) (ih fun c hc => h c (List.mem_cons_of_mem _ hc))
end Go.Proofs.Ytjeeclabnimbbaa

/- The typed executor: each operation is the pure machine's (second part). -/
namespace Go.Proofs.Ytjeeclabnimbbaa
open Go.RowKit

variable {B : List (Nat × Option SBox)} {s : SS} {p : PS} {P : Program} {ρ : Type}
/-- A value that the pure machine reckons too. -/
def Gets (s : SS) (k : SV → Option ρ) (res : ρ) (e : Option PV) : Prop := ∃ v q, e = some q ∧ k v = some res ∧ VSim s.bx v q
theorem gets {k : SV → Option ρ} {res : ρ} {e : Option PV} {v : SV} {q : PV} (he : e = some q) (hk : k v = some res) (hv : VSim s.bx v q) : Gets s k res e := ⟨v, q, he, hk, hv⟩

theorem lit_spec {x : Operand} {n : Int} {kd : IntKind} {y : Int} (h : isLit x = some n) (hy : evX s x = .d (.int kd y)) : y = n := by
  unfold isLit at h
  split at h
  · injection h with h
    subst h
    simp only [evX, constV, cellV] at hy
    injection hy with hy
    injection hy with _ hy
    exact hy.symm
  · cases h
theorem arithX_ok {op : BinOp} {kd : IntKind} {lit : Option Int} {x y : Int} {k : SV → Option ρ} {res : ρ} (hl : ∀ n, lit = some n → y = n) (h : arithX op kd lit x y k = some res) : Gets s k res (arith op kd x y) := by
  cases op <;> simp only [arithX] at h
  case add => exact gets rfl h (v_int _ _)
  case sub => exact gets rfl h (v_int _ _)
  case mul => exact gets rfl h (v_int _ _)
  case quo =>
    split at h
    · rename_i n
      obtain ⟨h1, h2⟩ := chk_some h
      have hy := hl n rfl
      subst hy
      have : ¬ y = 0 := by simpa using h1
      exact gets (by simp [arith, this]) h2 (v_int _ _)
    · obtain ⟨q, h1, h2⟩ := bindS h
      split at h1
      · cases h1
      · rename_i hy
        injection h1 with h1
        subst h1
        exact gets (by simp [arith, hy]) h2 (v_int _ _)
  case rem =>
    split at h
    · rename_i n
      obtain ⟨h1, h2⟩ := chk_some h
      have hy := hl n rfl
      subst hy
      have : ¬ y = 0 := by simpa using h1
      exact gets (by simp [arith, this]) h2 (v_int _ _)
    · obtain ⟨q, h1, h2⟩ := bindS h
      unfold remO at h1
      split at h1
      · cases h1
      · rename_i hy
        injection h1 with h1
        subst h1
        exact gets (by simp [arith, hy]) h2 (v_int _ _)
  case eql => exact gets rfl h (v_bool _)
  case neq => exact gets rfl h (v_bool _)
  case lss => exact gets rfl h (v_bool _)
  case leq => exact gets rfl h (v_bool _)
  case gtr => exact gets rfl h (v_bool _)
  case geq => exact gets rfl h (v_bool _)
  case and => exact gets rfl h (v_int _ _)
  case or => exact gets rfl h (v_int _ _)
  case xor => exact gets rfl h (v_int _ _)
  all_goals cases h
theorem shiftX_ok {op : BinOp} {kd : IntKind} {lit : Option Int} {x y : Int} {k : SV → Option ρ} {res : ρ} (hl : ∀ n, lit = some n → y = n) (h : shiftX op kd lit x y k = some res) : Gets s k res (shiftP op kd x y) := by
  unfold shiftX at h
  split at h
  · rename_i n
    obtain ⟨h1, h2⟩ := chk_some h
    have hy := hl n rfl
    subst hy
    have : ¬ y < 0 := by have := of_decide_eq_true h1; omega
    split at h2
    · exact gets (by simp [shiftP, this]) h2 (v_int _ _)
    · exact gets (by simp [shiftP, this]) h2 (v_int _ _)
    · cases h2
  · obtain ⟨u, h1, h2⟩ := bindS h
    split at h1
    · cases h1
    · rename_i hy
      split at h2
      · exact gets (by simp [shiftP, hy]) h2 (v_int _ _)
      · exact gets (by simp [shiftP, hy]) h2 (v_int _ _)
      · cases h2
theorem textsX_ok {op : BinOp} {x y : ByteArray} {k : SV → Option ρ} {res : ρ} (h : textsX op x y k = some res) : Gets s k res (texts op x y) := by
  cases op <;> simp only [textsX] at h
  case add =>
    obtain ⟨z, h1, h2⟩ := bindS h
    unfold sCatO at h1
    split at h1
    · rename_i hz
      injection h1 with h1
      subst h1
      exact gets (by simp only [texts, hz, if_true]) h2 (v_str _)
    · cases h1
  case eql => exact gets rfl h (v_bool _)
  case neq => exact gets rfl h (v_bool _)
  case lss => exact gets rfl h (v_bool _)
  case leq => exact gets rfl h (v_bool _)
  case gtr => exact gets rfl h (v_bool _)
  case geq => exact gets rfl h (v_bool _)
  all_goals cases h
theorem truthsX_ok {op : BinOp} {x y : Bool} {k : SV → Option ρ} {res : ρ} (h : truthsX op x y k = some res) : Gets s k res (truths op x y) := by
  cases op <;> simp only [truthsX] at h
  case eql => exact gets rfl h (v_bool _)
  case neq => exact gets rfl h (v_bool _)
  all_goals cases h
theorem eqNats_ok : ∀ {l m : List Nat}, eqNats l m = true → l = m
  | [], [], _ => rfl
  | [], _ :: _, h => by cases h
  | _ :: _, [], h => by cases h
  | a :: l, b :: m, h => by
    simp only [eqNats, beq_spec] at h
    by_cases e : a = b
    · simp only [e, decide_true] at h; rw [e, eqNats_ok h]
    · simp only [e, decide_false] at h; cases h
theorem eqLeaf_ok {c d : SD} {q w : PV} {n : Nat} {r : Bool} (hc : VSim B (.d c) q) (hd : VSim B (.d d) w) (hn : leafNo (.d c) = some n) (h : eqLeafX c d = some r) : eqLeaf n q w = some r := by
  cases c with
  | int k a =>
    cases d <;> simp only [eqLeafX] at h <;> try cases h
    rw [vs_int hc, vs_int hd]
    injection hn with hn
    subst hn
    exact h
  | bool a =>
    cases d <;> simp only [eqLeafX] at h <;> try cases h
    rw [vs_bool hc, vs_bool hd]
    injection hn with hn
    subst hn
    rfl
  | str a =>
    cases d <;> simp only [eqLeafX] at h <;> try cases h
    rw [vs_str hc, vs_str hd]
    injection hn with hn
    subst hn
    rfl
  | sl t xs => cases hn
  | nl => cases hn
theorem eqBy_ok : ∀ {cs ds : List SV} {qs ws : List PV} {l : List Nat} {r : Bool}, CSim B cs qs → CSim B ds ws → leafNos cs = some l → eqByX cs ds = some r → eqBy l qs ws = some r := by
  intro cs
  induction cs with
  | nil => intro ds qs ws l r _ _ _ h; cases ds <;> simp [eqByX] at h
  | cons c cs ih =>
    intro ds qs ws l r hc hd hl h
    rcases hc.cases with ⟨h1, _⟩ | ⟨c', q, cs', qs', h1, rfl, hcq, hcs⟩
    · cases h1
    injection h1 with e1 e2
    subst e1 e2
    rcases hd.cases with ⟨rfl, _⟩ | ⟨d, w, ds', ws', rfl, rfl, hdw, hds⟩
    · cases c <;> cases cs <;> simp [eqByX] at h
    simp only [leafNos] at hl
    split at hl
    · rename_i n l' hn hl'
      injection hl with hl
      subst hl
      cases c with
      | d c =>
        cases d with
        | d d =>
          by_cases hlast : cs = [] ∧ ds' = []
          · obtain ⟨rfl, rfl⟩ := hlast
            simp only [eqByX] at h
            have := eqLeaf_ok hcq hdw hn h
            rcases hcs.cases with ⟨_, rfl⟩ | ⟨_, _, _, _, h1, _⟩
            · rcases hds.cases with ⟨_, rfl⟩ | ⟨_, _, _, _, h1, _⟩
              · injection hl' with hl'
                subst hl'
                simp [eqBy, this]
              · cases h1
            · cases h1
          · have h : (match eqLeafX c d, eqByX cs ds' with | some a, some r => some (a && r) | _, _ => none) = some r := by
              cases cs with
              | nil => cases ds' with
                | nil => exact absurd ⟨rfl, rfl⟩ hlast
                | cons => exact h
              | cons => exact h
            split at h
            · rename_i a r' k1 k2
              injection h with h
              subst h
              simp [eqBy, eqLeaf_ok hcq hdw hn k1, ih hcs hds hl' k2]
            · cases h
        | _ => cases cs <;> simp [eqByX] at h
      | _ => simp [leafNo] at hn
    · cases hl
theorem binX_ok {op : BinOp} {t : TypeId} {lit : Option Int} {v w : SV} {q r : PV} {k : SV → Option ρ} {res : ρ} (hv : VSim s.bx v q) (hw : VSim s.bx w r) (hl : ∀ n kd y, lit = some n → w = .d (.int kd y) → y = n) (h : binX P op t lit v w k = some res) : Gets s k res (effBin P op t q r) := by
  unfold binX at h
  split at h
  · rename_i kd x kd' y
    obtain rfl := vs_int hv
    obtain rfl := vs_int hw
    have e : effBin P op t (.d (.v (.int kd x))) (.d (.v (.int kd' y))) = if isShift op then shiftP op kd x y else if kd = kd' then arith op kd x y else none := rfl
    rw [e]
    split at h
    · rename_i hs
      rw [if_pos hs]
      exact shiftX_ok (fun n hn => hl n kd' y hn rfl) h
    · rename_i hs
      rw [if_neg (by simp [hs])]
      split at h
      · rename_i hk
        rw [if_pos hk]
        exact arithX_ok (fun n hn => hl n kd' y hn rfl) h
      · cases h
  · obtain rfl := vs_str hv
    obtain rfl := vs_str hw
    exact textsX_ok h
  · obtain rfl := vs_bool hv
    obtain rfl := vs_bool hw
    split at h
    · rename_i hu
      rename_i x y _
      have e : effBin P op t (.d (.v (.bool x))) (.d (.v (.bool y))) = truths op x y := by simp [effBin, asI, asS, asB, hu]
      rw [e]
      exact truthsX_ok h
    · cases h
  · rename_i xs ys
    obtain ⟨qs, rfl, hq⟩ := vs_ag hv
    obtain ⟨ws, rfl, hws⟩ := vs_ag hw
    split at h
    · rename_i l l' r h1 h2 h3
      obtain ⟨h4, h5⟩ := chk_some h
      obtain rfl := eqNats_ok h4
      have h6 := eqBy_ok hq hws h2 h3
      have e : effBin P op t (.ag qs) (.ag ws) = truths op r true := by simp [effBin, asI, asS, asB, effEqS, h1, h6]
      rw [e]
      split at h5
      · exact gets (by simp [truths]) h5 (v_bool _)
      · exact gets (by simp [truths]) h5 (v_bool _)
      · cases h5
    · cases h
  · cases h
theorem unX_ok {op : UnOp} {v : SV} {q : PV} {k : SV → Option ρ} {res : ρ} (hv : VSim s.bx v q) (h : unX op v k = some res) : Gets s k res (effUn op q) := by
  unfold unX at h
  split at h
  · obtain rfl := vs_bool hv; exact gets rfl h (v_bool _)
  · obtain rfl := vs_int hv; exact gets rfl h (v_int _ _)
  · cases h
theorem bytesOf_enc : ∀ (xs : List Int) (acc : ByteArray), bytesOf (List.map (encE (.int .u8)) xs) acc = some (xs.foldl (fun r n => r.push (UInt8.ofNat n.toNat)) acc)
  | [], acc => rfl
  | x :: xs, acc => bytesOf_enc xs (acc.push (UInt8.ofNat x.toNat))
theorem effConvB_bytes {b : Nat → Option Box} {src dst e : TypeId} {q : PV} {x : Int} {xs : List Int} (h1 : P.underlying src = some (.slice e)) (h2 : P.underlying dst = some .string) (h3 : P.underlying e = some (.int .u8)) (h4 : asSl b q = some (List.map (encE (.int .u8)) (x :: xs))) :
    effConvB P b src dst q = (bytesOf (List.map (encE (.int .u8)) (x :: xs)) ByteArray.empty).map fun s => .d (.v (.string s)) := by
  unfold effConvB
  rw [h1, h2]
  simp only [h3, h4]
  rfl
theorem effConvB_other {b : Nat → Option Box} {src dst : TypeId} {q : PV} {u : TypeDesc} (h1 : P.underlying src = some u) (hne : ∀ e, u = .slice e → False) : effConvB P b src dst q = effConv P src dst q := by
  unfold effConvB
  split
  · rename_i e h3 h4
    rw [h1] at h3
    injection h3 with h3
    exact absurd h3 (hne e)
  · rfl
theorem convX_ok (hs : Sim s p) {src dst : TypeId} {v : SV} {q : PV} {k : SV → Option ρ} {res : ρ} (hv : VSim s.bx v q) (h : convX P s src dst v k = some res) : Gets s k res (effConvB P p.b src dst q) := by
  unfold convX at h
  split at h
  · cases h
  · rename_i e h1
    split at h
    · rename_i h2
      split at h
      · rename_i xs h3 h4
        obtain ⟨z, h5, h6⟩ := bindS h
        have h7 := data_sl hs hv h4
        unfold sOfO at h5
        split at h5
        · cases h5
        · rename_i hne
          injection h5 with h5
          cases xs with
          | nil => exact absurd rfl hne
          | cons x xs =>
            refine gets ?_ h6 (v_str _)
            rw [effConvB_bytes h1 h2 h3 h7]
            exact congrArg (Option.map _) ((bytesOf_enc _ _).trans (congrArg some h5))
      · cases h
    · cases h
  · rename_i u hne h1
    rw [show effConvB P p.b src dst q = effConv P src dst q from effConvB_other h1 (fun e he => hne e he)]
    split at h
    · rename_i h2
      obtain rfl := vs_int hv
      exact gets (by simp [effConv, h1, h2, asI]) h (v_int _ _)
    · rename_i h2
      obtain rfl := vs_str hv
      exact gets (by simp [effConv, h1, h2, asS]) h (v_str _)
    · cases h
theorem fieldAddrX_ok {t : TypeId} {f : Nat} {v : SV} {q : PV} {k : SV → Option ρ} {res : ρ} (hv : VSim s.bx v q) (h : fieldAddrX P t v f k = some res) : Gets s k res (effFieldAddr P t q f) := by
  unfold fieldAddrX at h
  split at h
  · rename_i off size agg hf
    obtain ⟨h1, h2⟩ := chk_some h
    have hsz : ¬ size = 0 := by simpa using h1
    split at h2
    · cases hv with
      | ptr _ _ ty cs hb => exact gets (by simp [effFieldAddr, hf, hsz]) h2 (.ptr _ _ ty cs hb)
    · cases hv with
      | fe cs ds hd hn => exact gets (q := .fe (ds.drop off)) (by simp [effFieldAddr, hf, hsz]) h2 (.fe _ _ (by rw [hd, List.map_drop]) (fun c hc => hn c (List.mem_of_mem_drop hc)))
    · cases hv with
      | re _ _ _ n i e k ty xs pins pin hb hn hp hi => exact gets (q := .re _ n i (_ + off)) (by simp [effFieldAddr, hf, hsz]) h2 (.re _ _ _ n i e k ty xs pins pin hb hn hp hi)
    · cases h2
  · cases h
theorem fieldX_ok {t : TypeId} {f : Nat} {v : SV} {q : PV} {k : SV → Option ρ} {res : ρ} (hv : VSim s.bx v q) (h : fieldX P t v f k = some res) : Gets s k res (effField P t q f) := by
  unfold fieldX at h
  split at h
  · rename_i off size agg cs hf
    obtain ⟨qs, rfl, hq⟩ := vs_ag hv
    split at h
    · rename_i v' h1
      obtain ⟨q', h2, h3⟩ := pack_sim (hq.drop off) h1
      exact gets (by simp [effField, hf, h2]) h h3
    · cases h
  · cases h
theorem addr_sim (hs : Sim s p) {v : SV} {q : PV} {cs : List SV} (hv : VSim s.bx v q) (h : addrX s v = some cs) : ∃ qs, addrP p.b q = some qs ∧ CSim s.bx cs qs := by
  unfold addrX at h
  split at h
  · rename_i t off
    cases hv
    split at h
    · rename_i ty cs' hb
      injection h with h
      subst h
      have := hs.bx t
      rw [hb] at this
      obtain ⟨qs, h1, h2⟩ := this
      exact ⟨qs.drop off, by simp [addrP, h1], h2.drop off⟩
    · cases h
  · injection h with h
    subst h
    cases hv with
    | fe _ ds hd hn => exact ⟨_, rfl, by rw [hd]; exact mapD_sim _ hn⟩
  · rename_i t pi off
    split at h
    · rename_i e k ty xs pins hb
      split at h
      · rename_i j cs' hp
        injection h with h
        subst h
        have hbx := hs.bx t
        rw [hb] at hbx
        obtain ⟨h1, h2⟩ := hbx
        obtain ⟨h3, h4⟩ := h2 pi _ hp
        obtain ⟨x, h5, h6⟩ := h4 cs' rfl
        cases hv with
        | re _ _ _ n i e2 k2 ty2 xs2 pins2 pin2 hb2 hn2 hp2 hi2 =>
          rw [hb] at hb2
          injection hb2 with hb2
          injection hb2 with e1 e2 e3 e4 e5
          subst e3
          have e4 := eq_of_heq e4
          subst e4 e5
          rw [hp] at hp2
          injection hp2 with hp2
          subst hp2
          refine ⟨((encE ty x).drop off).map .d, by simp [addrP, h1, hn2, hi2, h5], ?_⟩
          have := mapD_sim (B := s.bx) (cs'.drop off) (fun c hc => by rw [h6] at hc; exact encS_nl ty x c (List.mem_of_mem_drop hc))
          rw [h6] at this ⊢
          rw [List.map_drop, encS_ok] at this
          simpa [List.map_drop] using this
      · cases h
    · cases h
  · cases h
theorem loadX_ok (hs : Sim s p) {t : TypeId} {v w : SV} {q : PV} (hv : VSim s.bx v q) (h : loadX P s t v = some w) : ∃ r, effLoad P p.b t q = some r ∧ VSim s.bx w r := by
  unfold loadX at h
  split at h
  · rename_i i cl h1 h2
    obtain ⟨qs, h3, h4⟩ := addr_sim hs hv h2
    obtain ⟨r, h5, h6⟩ := pack_sim h4 h
    exact ⟨r, by simp [effLoad, h1, h3, h5], h6⟩
  · cases h
theorem intX_spec {v : SV} {q : PV} {i : Int} (hv : VSim B v q) (h : intX v = some i) : ∃ k, q = .d (.v (.int k i)) := by
  unfold intX at h
  split at h
  · injection h with h; subst h; exact ⟨_, vs_int hv⟩
  · cases h
theorem optI_int {q : PV} {k : IntKind} {i : Int} {n : Nat} (h : q = .d (.v (.int k i))) (h0 : 0 ≤ i) : optI (some q) n = some i.toNat := by
  subst h
  simp [optI, asI, h0]
end Go.Proofs.Ytjeeclabnimbbaa

/- The typed executor: each operation is the pure machine's (third part). -/
namespace Go.Proofs.Ytjeeclabnimbbaa
open Go.RowKit

variable {B : List (Nat × Option SBox)} {s : SS} {p : PS} {P : Program} {ρ : Type}
/-- An operation is done in both. -/
def Done (s : SS) (p : PS) (dst : Option Nat) (k : SV → Upd → Option ρ) (res : ρ) (e : Option (PV × Option (Nat × Box))) : Prop :=
  ∃ v u q w, e = some (q, w) ∧ k v u = some res ∧ Sim (s.upd dst v u) (p.upd dst q w) ∧ OkU s u ∧ OkW s dst u w
theorem Gets.done (hs : Sim s p) {dst : Option Nat} {k : SV → Upd → Option ρ} {res : ρ} {e : Option PV} (h : Gets s (fun v => k v .no) res e) : Done s p dst k res (e.map fun r => (r, none)) := by
  obtain ⟨v, q, rfl, h2, h3⟩ := h
  exact ⟨v, .no, q, none, rfl, h2, sim_no hs h3, trivial, okW_none⟩
theorem idxO_spec {α : Type} {xs : List α} {i : Int} {x : α} (h : idxO xs i = some x) : 0 ≤ i ∧ xs[i.toNat]? = some x ∧ i.toNat < xs.length := by
  unfold idxO at h
  split at h
  · rename_i h0
    exact ⟨h0, h, (List.getElem?_eq_some_iff.1 h).1⟩
  · cases h
theorem indexAddrX_ok (hs : Sim s p) {dst : Option Nat} {t : TypeId} {v w : SV} {q r : PV} {k : SV → Upd → Option ρ} {res : ρ} (hv : VSim s.bx v q) (hw : VSim s.bx w r) (h : indexAddrX P s dst t v w k = some res) :
    Done s p dst k res ((effIndexAddr P p.b t q r).map fun r => (r, none)) := by
  unfold indexAddrX at h
  split at h
  · rename_i e kd i d hu
    obtain rfl := vs_int hw
    split at h
    · rename_i ie hie
      split at h
      · rename_i ty xs
        obtain ⟨h1, h2⟩ := chk_some h
        obtain ⟨x, h3, h4⟩ := bindS h2
        obtain ⟨k0, k1, k2⟩ := idxO_spec h3
        have hl : (encE ty x).length = ie.size := by rw [encE_len]; simpa using h1
        rcases vs_sl hv with rfl | ⟨rfl, _⟩
        · refine ⟨_, .no, .fe (encE ty x), none, ?_, h4, sim_no hs (.fe _ _ (encS_ok ty x).symm (encS_nl ty x)), trivial, okW_none⟩
          simp [effIndexAddr, hu, asI, hie, k0, k1, hl]
        · simp at k2
      · rename_i t'
        split at h
        · rename_i e' kk ty xs pins hb
          obtain ⟨h1, h2⟩ := chk_some h
          obtain ⟨h2, h3⟩ := chk_some h2
          obtain ⟨x, h4, h5⟩ := bindS h3
          obtain ⟨k0, k1, k2⟩ := idxO_spec h4
          have hbx := hs.bx t'
          rw [hb] at hbx
          obtain ⟨hbx, hpins⟩ := hbx
          have hkk : kk = ie.size := by simpa using h1
          have hnp : lkP pins d = none := by simpa using h2
          cases hv with
          | row _ n e2 k2' ty2 xs2 pins2 hb2 hn2 =>
            rw [hb] at hb2
            injection hb2 with hb2
            injection hb2 with e1 e2 e3 e4 e5
            subst e3
            have e4 := eq_of_heq e4
            subst e4 e5 hn2
            refine ⟨_, _, .re t' xs.length i.toNat 0, none, ?_, h5, ?_, (show SameB (lkB s.bx t') _ from by rw [hb]; exact ⟨_, rfl⟩), okW_none⟩
            · simp [effIndexAddr, hu, asI, hie, k0, hbx, hkk, k2]
            · have hble : BLe s.bx ((t', some (.rw e' kk ty xs ((d, ⟨i, some (encS ty x)⟩) :: pins))) :: s.bx) := ble_rw hb rfl (fun p pin hp => ⟨pin, by
                rw [lkP_cons, if_neg (fun e => by rw [e, hnp] at hp; cases hp)]; exact hp, rfl⟩)
              refine sim_pin hs hble (fun _ => ⟨hbx, fun p pin hp => ?_⟩) (.re t' d 0 xs.length i.toNat e' kk ty xs _ ⟨i, some (encS ty x)⟩ (by rw [lkB_cons, if_pos rfl]) rfl (by rw [lkP_cons, if_pos rfl]) rfl)
              rw [lkP_cons] at hp
              split at hp
              · injection hp with hp
                subst hp
                exact ⟨k2, fun cs hc => ⟨x, k1, by injection hc with hc; exact hc.symm⟩⟩
              · exact hpins p pin hp
        · cases h
      · cases h
    · cases h
  · cases h
theorem rowDs_sim {cs : List SV} {qs : List PV} {ds : List SD} (h : CSim B cs qs) (hd : rowDs cs = some ds) : qs.mapM toD = some (ds.map SD.toD) := by
  induction cs generalizing qs ds with
  | nil =>
    rcases h.cases with ⟨_, rfl⟩ | ⟨_, _, _, _, h1, _⟩
    · injection hd with hd; subst hd; rfl
    · cases h1
  | cons c cs ih =>
    rcases h.cases with ⟨h1, _⟩ | ⟨c', q, cs', qs', h1, rfl, h2, h3⟩
    · cases h1
    · injection h1 with e1 e2
      subst e1 e2
      simp only [rowDs] at hd
      split at hd
      · rename_i d ds' k1 k2
        injection hd with hd
        subst hd
        have := ih h3 k2
        unfold rowD at k1
        split at k1
        · injection k1 with k1
          subst k1
          cases h2 with
          | d _ y hy => simp [List.mapM_cons, toD, hy.nrm, this]
        · cases k1
      · cases hd
theorem datasX_rowDs {s : SS} : ∀ {cs : List SV} {ds : List SD}, datasX s cs = some ds → cs.length = ds.length
  | [], ds, h => by injection h with h; subst h; rfl
  | c :: cs, ds, h => by
    simp only [datasX] at h
    split at h
    · rename_i d ds' k1 k2
      injection h with h
      subst h
      simp [datasX_rowDs k2]
    · cases h
theorem rowDs_len : ∀ {cs : List SV} {ds : List SD}, rowDs cs = some ds → cs.length = ds.length
  | [], ds, h => by injection h with h; subst h; rfl
  | c :: cs, ds, h => by
    simp only [rowDs] at h
    split at h
    · rename_i d ds' k1 k2
      injection h with h
      subst h
      simp [rowDs_len k2]
    · cases h
theorem lkP_unpin : ∀ (l : List (Nat × Pin)) (i : Nat), lkP (unpin l) i = (lkP l i).map fun pin => ⟨pin.i, none⟩
  | [], _ => rfl
  | (j, ⟨n, cs⟩) :: l, i => by simp only [unpin, lkP_cons, lkP_unpin l i]; split <;> rfl
theorem storeX_ok (hs : Sim s p) {dst : Option Nat} (hd : dst = none) {t : TypeId} {v w : SV} {q r : PV} {k : SV → Upd → Option ρ} {res : ρ} (hv : VSim s.bx v q) (hw : VSim s.bx w r) (h : storeX P s t v w k = some res) :
    Done s p dst k res ((effStore P p.b t q r).map fun u => (.junk, some u)) := by
  unfold storeX at h
  split at h
  · rename_i i ns hi hns
    obtain ⟨ws, hws, hcs⟩ := cells_sim hw hns
    split at h
    · rename_i x off
      cases hv
      split at h
      · rename_i ty cs hb
        obtain ⟨h1, h2⟩ := chk_some h
        obtain ⟨h2, h3⟩ := chk_some h2
        obtain ⟨h3, h4⟩ := chk_some h3
        have h1 : ns.length = i.size := by simpa using h1
        have h2 := of_decide_eq_true h2
        obtain ⟨hro, h3⟩ := wrB_spec h3
        have hbx := hs.bx x
        rw [hb] at hbx
        obtain ⟨qs, hq1, hq2⟩ := hbx
        have l1 := hcs.len
        have l2 := hq2.len
        refine ⟨_, _, .junk, some (x, .st ty (splice qs off ws)), ?_, h4, ?_, ⟨h3, fun ty2 cs2 h => ?_⟩, okW_wr hro⟩
        · simp only [effStore, hi, hws, hq1]
          rw [if_pos ⟨by omega, by omega⟩]
          rfl
        · refine sim_box hs (ble_st hb) (fun _ => ⟨_, rfl, ?_⟩) (.junk _)
          rw [spliceX_eq cs off ns h2]
          exact (hq2.splice hcs off).mono (ble_st hb)
        · rw [hb] at h
          injection h with h
          injection h with e1 e2
          subst e1 e2
          refine ⟨_, rfl, ?_⟩
          rw [spliceX_eq cs off ns h2]
          unfold splice
          simp
          omega
      · cases h
    · rename_i x pi off
      split at h
      · rename_i e kk ty xs pins ds hb hds
        split at h
        · rename_i j cs0 hp
          obtain ⟨h1, h2⟩ := chk_some h
          obtain ⟨h2, h3⟩ := chk_some h2
          obtain ⟨h3, h4⟩ := chk_some h3
          have h1 : ns.length = i.size := by simpa using h1
          have h2 := of_decide_eq_true h2
          obtain ⟨hro, h3⟩ := wrB_spec h3
          split at h4
          · rename_i cs' hcs'
            split at h4
            · rename_i y hy
              have hbx := hs.bx x
              rw [hb] at hbx
              obtain ⟨hbx, hpins⟩ := hbx
              obtain ⟨k1, k2⟩ := hpins pi _ hp
              have hy2 := decS_ok hy
              cases hv with
              | re _ _ _ n i2 e2 k2' ty2 xs2 pins2 pin2 hb2 hn2 hp2 hi2 =>
                rw [hb] at hb2
                injection hb2 with hb2
                injection hb2 with e1 e2 e3 e4 e5
                subst e3
                have e4 := eq_of_heq e4
                subst e4 e5 hn2
                rw [hp] at hp2
                injection hp2 with hp2
                subst hp2
                simp only at hi2 k1 k2
                subst hi2
                obtain ⟨x0, hx0⟩ : ∃ x0, xs[j.toNat]? = some x0 := ⟨xs[j.toNat], by simp [k1]⟩
                have hds' : ws.mapM toD = some (ds.map SD.toD) := rowDs_sim hcs hds
                have hlen0 : (encE ty x0).length = tyN ty := encE_len ty x0
                have hsp : splice (encE ty x0) off (ds.map SD.toD) = encE ty y := by
                  split at hcs'
                  · rename_i hfull
                    injection hcs' with hcs'
                    subst hcs'
                    have h0 : off = 0 := by omega
                    subst h0
                    rw [← hy2]
                    have : (ds.map SD.toD).length = (encE ty x0).length := by simp [hfull, hlen0]
                    simp [splice, this]
                  · cases cs0 with
                    | none => cases hcs'
                    | some cs0 =>
                      injection hcs' with hcs'
                      obtain ⟨x1, h7, h8⟩ := k2 cs0 rfl
                      rw [hx0] at h7
                      injection h7 with h7
                      subst h7
                      have h9 : cs0.length = tyN ty := by
                        have := encS_ok ty x0
                        rw [← h8] at this
                        have := congrArg List.length this
                        simpa [hlen0] using this
                      rw [← hy2, ← hcs']
                      show _ = List.map SD.toD (spliceX cs0 off ds)
                      rw [spliceX_eq cs0 off ds (by omega), splice_map, h8, encS_ok]
                have hble : BLe s.bx ((x, some (.rw e kk ty (xs.set j.toNat y) ((pi, ⟨j, some (encS ty y)⟩) :: unpin pins))) :: s.bx) := ble_rw hb (by simp) (fun p2 pin2 hp2 => by
                  rw [lkP_cons]
                  by_cases e : p2 = pi
                  · subst e
                    rw [hp] at hp2
                    injection hp2 with hp2
                    subst hp2
                    exact ⟨_, if_pos rfl, rfl⟩
                  · rw [if_neg e, lkP_unpin, hp2]
                    exact ⟨_, rfl, rfl⟩)
                refine ⟨_, _, .junk, some (x, .rw e kk ((xs.map (encE ty)).set j.toNat (splice (encE ty x0) off (ds.map SD.toD)))), ?_, h4, ?_, ⟨h3, fun ty2 cs2 h => by rw [hb] at h; cases h⟩, okW_wr hro⟩
                · have hl2 : (ds.map SD.toD).length = i.size := by rw [List.length_map, ← rowDs_len hds]; exact h1
                  have hl3 : off + (ds.map SD.toD).length ≤ (encE ty x0).length := by rw [hlen0, List.length_map]; exact h2
                  simp only [effStore, hi, hws, hbx, hds', List.getElem?_map, hx0, Option.map_some, List.length_map]
                  rw [List.length_map] at hl2 hl3
                  rw [if_pos ⟨trivial, hl2, hl3⟩]
                  rfl
                · rw [hsp, ← List.map_set]
                  refine sim_box hs hble (fun _ => ⟨rfl, fun p2 pin2 hp2 => ?_⟩) (.junk _)
                  rw [lkP_cons] at hp2
                  split at hp2
                  · injection hp2 with hp2
                    subst hp2
                    exact ⟨by simpa using k1, fun cs hc => ⟨y, by simp [k1], by injection hc with hc; exact hc.symm⟩⟩
                  · rw [lkP_unpin, Option.map_eq_some_iff] at hp2
                    obtain ⟨pin3, h7, rfl⟩ := hp2
                    exact ⟨by simpa using (hpins p2 pin3 h7).1, fun cs hc => by cases hc⟩
            · cases h4
          · cases h4
        · cases h
      · cases h
    · cases h
  · cases h
end Go.Proofs.Ytjeeclabnimbbaa

/- The typed executor: each operation is the pure machine's (fourth part). -/
namespace Go.Proofs.Ytjeeclabnimbbaa
open Go.RowKit

variable {B : List (Nat × Option SBox)} {s : SS} {p : PS} {P : Program} {ρ : Type}
theorem fill_sim (hs : Sim s p) (place : Nat → Option (Nat × Nat)) : ∀ {l : List (Nat × Operand)} {cs cs' : List SV} {qs : List PV}, CSim s.bx cs qs → fillX place cs (partsX s l) = some cs' → ∃ qs', fillP place qs (l.map fun (i, x) => (i, ev p x)) = some qs' ∧ CSim s.bx cs' qs'
  | [], cs, cs', qs, h, hf => by injection hf with hf; subst hf; exact ⟨qs, rfl, h⟩
  | (i, x) :: l, cs, cs', qs, h, hf => by
    simp only [partsX, fillX] at hf
    split at hf
    · rename_i off size ns h1 h2
      obtain ⟨h3, h4⟩ := chk_some hf
      obtain ⟨h4, h5⟩ := chk_some h4
      obtain ⟨ws, h6, h7⟩ := cells_sim (evX_sim hs x) h2
      replace h3 : ns.length = size := by simpa using h3
      replace h4 := of_decide_eq_true h4
      rw [spliceX_eq cs off ns h4] at h5
      obtain ⟨qs', h8, h9⟩ := fill_sim hs place (h.splice h7 off) h5
      refine ⟨qs', ?_, h9⟩
      have l1 := h7.len
      have l2 := h.len
      simp only [List.map_cons, fillP, h1, h6]
      rw [if_pos ⟨by omega, by omega⟩]
      exact h8
    · cases hf
theorem zeros_sim {i : TI} {z : List SV} (h : zerosX i = some z) : CSim B z (zerosP i) := (cellsV_sim h).1
theorem repl_sim {cs : List SV} {qs : List PV} (h : CSim B cs qs) : ∀ n, CSim B (replX n cs) (List.replicate n qs).flatten
  | 0 => .nil
  | n + 1 => by rw [List.replicate_succ, List.flatten_cons]; exact h.append (repl_sim h n)
theorem chunkX_ok (k : Nat) : ∀ (n : Nat) (l : List SD), (chunkX k n l).map (List.map SD.toD) = chunk k n (l.map SD.toD)
  | 0, _ => rfl
  | n + 1, l => by simp only [chunkX, chunk, List.map_cons, List.map_take, chunkX_ok k n, List.map_drop]
theorem decAll_ok {t : Ty} : ∀ {l : List (List SD)} {xs : List t.den}, decAll t l = some xs → l.map (List.map SD.toD) = xs.map (encE t)
  | [], xs, h => by injection h with h; subst h; rfl
  | c :: l, xs, h => by
    simp only [decAll] at h
    split at h
    · rename_i x xs' h1 h2
      injection h with h
      subst h
      simp only [List.map_cons, decS_ok h1, decAll_ok h2]
    · cases h
theorem buildSliceX_ok (hs : Sim s p) {dst : Option Nat} {t : TypeId} {n : Nat} {l : List (Nat × Operand)} {k : SV → Upd → Option ρ} {res : ρ} (h : buildSliceX P s dst t n (partsX s l) k = some res) :
    Done s p dst k res (effBuildSlice P p.b dst t n (l.map fun (i, x) => (i, ev p x))) := by
  unfold buildSliceX at h
  split at h
  · rename_i d e hu
    split at h
    · rename_i i ty hi hb hty
      split at h
      · rename_i z hz
        have h1 := (chk_some h).1
        replace h := (chk_some h).2
        have h2 := (chk_some h).1
        replace h := (chk_some h).2
        have h3 := (chk_some h).1
        replace h := (chk_some h).2
        have h4 := (chk_some h).1
        replace h := (chk_some h).2
        replace h1 := of_decide_eq_true h1
        replace h2 := of_decide_eq_true h2
        replace h3 := of_decide_eq_true h3
        obtain ⟨hfr, h4⟩ := newB_spec h4
        split at h
        · rename_i cs hcs
          split at h
          · rename_i ds hds
            split at h
            · rename_i xs hxs
              obtain ⟨h5, h6⟩ := chk_some h
              obtain ⟨qs, h7, h8⟩ := fill_sim hs _ (repl_sim (zeros_sim (B := s.bx) hz) n) hcs
              have h9 := rowDs_sim h8 hds
              have hbd : p.b d = none := by have := hs.bx d; rw [hb] at this; exact this hfr
              have hch : chunk i.size n (ds.map SD.toD) = xs.map (encE ty) := by rw [← chunkX_ok, decAll_ok hxs]
              have hlen : xs.length = n := by
                have := congrArg List.length hch
                rw [chunk_len, List.length_map] at this
                exact this.symm
              refine ⟨_, _, .row d n, some (d, .rw e i.size (xs.map (encE ty))), ?_, h6, ?_, ⟨h4, hb⟩, okW_new hb rfl⟩
              · simp only [effBuildSlice, hu, hi, hbd]
                rw [if_pos ⟨h1, h2, h3⟩]
                simp only [h7, h9, hch]
              · exact sim_box hs (ble_new hb) (fun _ => ⟨rfl, fun p pin hp => by cases hp⟩) (.row d n e i.size ty xs [] (by rw [lkB_cons, if_pos rfl]) hlen)
            · cases h
          · cases h
        · cases h
      · cases h
    · cases h
  · cases h
theorem appO_spec {α : Type} {l m z : List α} (h : appO l m = some z) : l.length + m.length ≤ 1000000 ∧ z = l ++ m := by
  unfold appO at h
  split at h
  · rename_i hl; injection h with h; exact ⟨hl, h.symm⟩
  · cases h
theorem castL_rfl {t : Ty} (h : t = t) (xs : List t.den) : castL h xs = xs := rfl
theorem appendX_ok (hs : Sim s p) {dst : Option Nat} {t : TypeId} {v w : SV} {q r : PV} {k : SV → Upd → Option ρ} {res : ρ} (hv : VSim s.bx v q) (hw : VSim s.bx w r) (h : appendX P s dst t v w k = some res) :
    Done s p dst k res (effAppend P p.b dst t q r) ∧ True := by
  refine ⟨?_, trivial⟩
  unfold appendX at h
  split at h
  · rename_i e ty ys hu hdw
    have hr := data_sl hs hw hdw
    split at h
    · rename_i i hi
      have h1 := (chk_some h).1
      replace h := (chk_some h).2
      have h2 := (chk_some h).1
      replace h := (chk_some h).2
      have h3 := (chk_some h).1
      replace h := (chk_some h).2
      have h4 := (chk_some h).1
      replace h := (chk_some h).2
      replace h1 := of_decide_eq_true h1
      replace h2 := of_decide_eq_true h2
      replace h3 := of_decide_eq_true h3
      replace h4 : tyN ty = i.size := by simpa using h4
      have hla : lenAll i.size (ys.map (encE ty)) := by
        intro x hx
        obtain ⟨y, _, rfl⟩ := List.mem_map.1 hx
        rw [encE_len, h4]
      have sm : ∀ n, n ≤ 1000000 → small n i.bytes := fun n hn => by
        unfold small
        exact Nat.le_trans (Nat.mul_le_mul hn h3) (by decide)
      split at h
      · rename_i x
        split at h
        · rename_i e' kk ty' xs pins hb
          split at h
          · rename_i hty hsame
            obtain rfl := hty
            have h5 := (chk_some h).1
            replace h := (chk_some h).2
            have h6 := (chk_some h).1
            replace h := (chk_some h).2
            have h7 := (chk_some h).1
            replace h := (chk_some h).2
            replace h5 : e' = e := by simpa using h5
            replace h6 : kk = i.size := by simpa using h6
            obtain ⟨hfr, h7⟩ := wrB_spec h7
            obtain ⟨zs, h8, h9⟩ := bindS h
            rw [castL_rfl] at h8
            obtain ⟨h10, rfl⟩ := appO_spec h8
            have hbx := hs.bx x
            rw [hb] at hbx
            obtain ⟨hbx, _⟩ := hbx
            cases hv with
            | row _ n e2 k2 ty2 xs2 pins2 hb2 hn2 =>
              rw [hb] at hb2
              injection hb2 with hb2
              injection hb2 with q1 q2 q3 q4 q5
              subst q3
              have q4 := eq_of_heq q4
              subst q4 hn2
              refine ⟨_, _, .row x (xs.length + ys.length), some (x, .rw e' kk (xs.map (encE ty) ++ ys.map (encE ty))), ?_, h9, ?_, ⟨h7, fun ty2 cs2 h => by rw [hb] at h; cases h⟩, okW_gr hfr⟩
              · simp only [effAppend, hu, hr, hi, hbx]
                rw [if_pos ⟨h1, h2, hla⟩, if_pos ⟨by simp, h5, h6, by simpa using sm _ h10⟩]
                simp [h5]
              · rw [← List.map_append]
                exact sim_grow hs hb (.row x _ e' kk ty (xs ++ ys) [] (by rw [lkB_cons, if_pos rfl]) (by simp))
          · cases h
        · cases h
      · obtain rfl := vs_nl hv
        split at h
        · rename_i d
          split at h
          · rename_i hb
            have h7 := (chk_some h).1
            replace h := (chk_some h).2
            obtain ⟨hfr, h7⟩ := newB_spec h7
            obtain ⟨zs, h8, h9⟩ := bindS h
            obtain ⟨h10, rfl⟩ := appO_spec h8
            have hbd : p.b d = none := by have := hs.bx d; rw [hb] at this; exact this hfr
            refine ⟨_, _, .row d zs.length, some (d, .rw e i.size (zs.map (encE ty))), ?_, h9, ?_, ⟨h7, hb⟩, okW_new hb rfl⟩
            · simp only [effAppend, hu, hr, hi, hbd]
              rw [if_pos ⟨h1, h2, hla⟩, if_pos ⟨trivial, trivial⟩, if_pos (by simpa using sm _ (by simpa using h10))]
              simp
            · exact sim_box hs (ble_new hb) (fun _ => ⟨rfl, fun p pin hp => by cases hp⟩) (.row d _ e i.size ty _ [] (by rw [lkB_cons, if_pos rfl]) (by simp))
          · cases h
        · cases h
      · cases h
    · cases h
  · cases h
theorem sliceX_ok (hs : Sim s p) {t : TypeId} {v : SV} {q : PV} {lo hi : Option Operand} {k : SV → Option ρ} {res : ρ} (hv : VSim s.bx v q) (h : sliceX P s t v (lo.map (evX s)) (hi.map (evX s)) k = some res) : Gets s k res (effSlice P p.b t q (lo.map (ev p)) (hi.map (ev p))) := by
  have int : ∀ {x : Operand} {i : Int}, intX (evX s x) = some i → ∃ kd, ev p x = .d (.v (.int kd i)) := fun {x i} h => intX_spec (evX_sim hs x) h
  unfold sliceX at h
  split at h
  · rename_i e ty xs hu
    have hq : asSl p.b q = some (xs.map (encE ty)) ∧ ∃ y, q = .d y := by
      rcases vs_sl hv with rfl | ⟨rfl, rfl⟩
      · exact ⟨rfl, _, rfl⟩
      · exact ⟨by simp [asSl], _, rfl⟩
    obtain ⟨hq, y, rfl⟩ := hq
    split at h
    · rename_i i hi'
      have h1 := (chk_some h).1
      replace h := (chk_some h).2
      replace h1 : tyN ty = i.size := by simpa using h1
      have hla : lenAll i.size (xs.map (encE ty)) := by
        intro x hx
        obtain ⟨y, _, rfl⟩ := List.mem_map.1 hx
        rw [encE_len, h1]
      split at h
      · rename_i hl hh
        rw [Option.map_eq_none_iff] at hl hh
        subst hl hh
        refine gets ?_ h (v_sl ty xs)
        simp only [effSlice, hu, hi', hq, Option.map_none, optI]
        rw [if_pos ⟨Nat.zero_le _, Nat.le_refl _, hla⟩]
        simp [List.take_of_length_le]
      · rename_i l hl hh
        rw [Option.map_eq_none_iff] at hh
        rw [Option.map_eq_some_iff] at hl
        obtain ⟨lo, rfl, rfl⟩ := hl
        subst hh
        split at h
        · rename_i li hli
          obtain ⟨kd, hkd⟩ := int hli
          obtain ⟨z, h2, h3⟩ := bindS h
          unfold loO at h2
          split at h2
          · rename_i hc
            injection h2 with h2
            subst h2
            refine gets ?_ h3 (v_sl ty _)
            simp only [effSlice, hu, hi', hq, Option.map_none, Option.map_some, hkd, optI_int rfl hc.1]
            simp only [optI, List.length_map]
            rw [if_pos ⟨hc.2, Nat.le_refl _, hla⟩]
            rw [← List.map_drop, ← List.map_take, List.take_of_length_le (by simp)]
          · cases h2
        · cases h
      · rename_i l hl hh
        rw [Option.map_eq_none_iff] at hl
        rw [Option.map_eq_some_iff] at hh
        obtain ⟨hi2, rfl, rfl⟩ := hh
        subst hl
        split at h
        · rename_i li hli
          obtain ⟨kd, hkd⟩ := int hli
          obtain ⟨z, h2, h3⟩ := bindS h
          unfold hiO at h2
          split at h2
          · rename_i hc
            injection h2 with h2
            subst h2
            refine gets ?_ h3 (v_sl ty _)
            simp only [effSlice, hu, hi', hq, Option.map_none, Option.map_some, hkd, optI_int rfl hc.1]
            simp only [optI, List.length_map]
            rw [if_pos ⟨Nat.zero_le _, hc.2, hla⟩]
            simp
          · cases h2
        · cases h
      · rename_i l l' hl hh
        rw [Option.map_eq_some_iff] at hl hh
        obtain ⟨lo, rfl, rfl⟩ := hl
        obtain ⟨hi2, rfl, rfl⟩ := hh
        split at h
        · rename_i li hi3 hli hhi
          obtain ⟨kd, hkd⟩ := int hli
          obtain ⟨kd2, hkd2⟩ := int hhi
          obtain ⟨z, h2, h3⟩ := bindS h
          unfold lhO at h2
          split at h2
          · rename_i hc
            injection h2 with h2
            subst h2
            refine gets ?_ h3 (v_sl ty _)
            simp only [effSlice, hu, hi', hq, Option.map_some, hkd, hkd2, optI_int rfl hc.1, optI_int rfl hc.2.1, List.length_map]
            rw [if_pos ⟨hc.2.2.1, hc.2.2.2, hla⟩]
            simp
          · cases h2
        · cases h
    · cases h
  · rename_i e x hu
    split at h
    · rename_i i e' kk ty xs pins hi' hb
      have h1 := (chk_some h).1
      replace h := (chk_some h).2
      replace h1 : kk = i.size := by simpa using h1
      have hbx := hs.bx x
      rw [hb] at hbx
      obtain ⟨hbx, _⟩ := hbx
      have ox : ∀ {o : Option Operand} {n : Nat} {l : Int}, optX (o.map (evX s)) (n : Int) = some l → 0 ≤ l → optI (o.map (ev p)) n = some l.toNat := by
        intro o n l ho h0
        cases o with
        | none => injection ho with ho; subst ho; rfl
        | some y =>
          obtain ⟨kd, hkd⟩ := int (show intX (evX s y) = some l from ho)
          rw [Option.map_some, optI_int hkd h0]
      cases hv with
      | row _ n e2 k2 ty2 xs2 pins2 hb2 hn2 =>
        rw [hb] at hb2
        injection hb2 with hb2
        injection hb2 with q1 q2 q3 q4 q5
        subst q3
        have q4 := eq_of_heq q4
        subst q4 hn2
        split at h
        · rename_i l h' hl hh
          obtain ⟨_, h2, h3⟩ := bindS h
          unfold vwO at h2
          split at h2
          · rename_i hc
            refine gets (q := .vw x xs.length l.toNat h'.toNat) ?_ h3 (.vw x _ _ _ e' kk ty xs pins hb rfl)
            have hl' := ox (n := 0) hl hc.1
            have hh' := ox (n := xs.length) hh hc.2.1
            simp only [effSlice, hu, hi', hbx, hl', hh', List.length_map]
            rw [if_pos ⟨trivial, h1, hc.2.2.1, hc.2.2.2⟩]
          · cases h2
        · cases h
    · cases h
  · rename_i x hu
    obtain rfl := vs_str hv
    split at h
    · rename_i l hl hh
      rw [Option.map_eq_none_iff] at hh
      rw [Option.map_eq_some_iff] at hl
      obtain ⟨lo, rfl, rfl⟩ := hl
      subst hh
      split at h
      · rename_i li hli
        obtain ⟨kd, hkd⟩ := int hli
        obtain ⟨z, h2, h3⟩ := bindS h
        unfold sLoO at h2
        split at h2
        · rename_i hc
          injection h2 with h2
          subst h2
          refine gets ?_ h3 (v_str _)
          simp only [effSlice, hu, asS, Option.map_none, Option.map_some, hkd, optI_int rfl hc.1]
          simp only [optI]
          rw [if_pos ⟨hc.2, Nat.le_refl _⟩]
        · cases h2
      · cases h
    · rename_i l hl hh
      rw [Option.map_eq_none_iff] at hl
      rw [Option.map_eq_some_iff] at hh
      obtain ⟨hi2, rfl, rfl⟩ := hh
      subst hl
      split at h
      · rename_i li hli
        obtain ⟨kd, hkd⟩ := int hli
        obtain ⟨z, h2, h3⟩ := bindS h
        unfold sHiO at h2
        split at h2
        · rename_i hc
          injection h2 with h2
          subst h2
          refine gets ?_ h3 (v_str _)
          simp only [effSlice, hu, asS, Option.map_none, Option.map_some, hkd, optI_int rfl hc.1]
          simp only [optI]
          rw [if_pos ⟨Nat.zero_le _, hc.2⟩]
        · cases h2
      · cases h
    · rename_i l l' hl hh
      rw [Option.map_eq_some_iff] at hl hh
      obtain ⟨lo, rfl, rfl⟩ := hl
      obtain ⟨hi2, rfl, rfl⟩ := hh
      split at h
      · rename_i li hi3 hli hhi
        obtain ⟨kd, hkd⟩ := int hli
        obtain ⟨kd2, hkd2⟩ := int hhi
        obtain ⟨z, h2, h3⟩ := bindS h
        unfold sLhO at h2
        split at h2
        · rename_i hc
          injection h2 with h2
          subst h2
          refine gets ?_ h3 (v_str _)
          simp only [effSlice, hu, asS, Option.map_some, hkd, hkd2, optI_int rfl hc.1, optI_int rfl hc.2.1]
          rw [if_pos ⟨hc.2.2.1, hc.2.2.2⟩]
        · cases h2
      · cases h
    · cases h
  · cases h
theorem srcX_ok (hs : Sim s p) {v : SV} {q : PV} {ty : Ty} {ys : List ty.den} (hv : VSim s.bx v q) (h : srcX s v = some (.sl ty ys)) : asSl p.b q = some (ys.map (encE ty)) := by
  unfold srcX at h
  split at h
  · rename_i t lo hi
    split at h
    · rename_i e kk ty2 xs pins hb
      injection h with h
      injection h with e1 e2
      subst e1
      have e2 := eq_of_heq e2
      subst e2
      have hbx := hs.bx t
      rw [hb] at hbx
      obtain ⟨hbx, _⟩ := hbx
      cases hv with
      | vw _ _ _ n e2 k2 ty2 xs2 pins2 hb2 hn2 =>
        rw [hb] at hb2
        injection hb2 with hb2
        injection hb2 with q1 q2 q3 q4 q5
        subst q3
        have q4 := eq_of_heq q4
        subst q4 hn2
        simp only [asSl, hbx, List.length_map, if_true]
        rw [← List.map_drop, ← List.map_take]
    · cases h
  · exact data_sl hs hv h
theorem partX_ok (hs : Sim s p) {v : SV} {q : PV} {x lo hi : Nat} {e kk : Nat} {ty : Ty} {xs : List ty.den} {pins : List (Nat × Pin)} (hb : lkB s.bx x = some (.rw e kk ty xs pins)) (hv : VSim s.bx v q) (h : partX s v = some (x, lo, hi)) : partP q = some (x, xs.length, lo, hi) := by
  unfold partX at h
  split at h
  · rename_i t
    split at h
    · rename_i e2 k2 ty2 xs2 pins2 hb2
      injection h with h
      injection h with q1 q2
      injection q2 with q2 q3
      subst q1 q2 q3
      cases hv with
      | row _ n e3 k3 ty3 xs3 pins3 hb3 hn3 =>
        rw [hb] at hb2 hb3
        injection hb2 with hb2
        injection hb2 with r1 r2 r3 r4 r5
        subst r3
        have r4 := eq_of_heq r4
        subst r4
        injection hb3 with hb3
        injection hb3 with r1 r2 r3 r4 r5
        subst r3
        have r4 := eq_of_heq r4
        subst r4 hn3
        rfl
    · cases h
  · injection h with h
    injection h with q1 q2
    injection q2 with q2 q3
    subst q1 q2 q3
    cases hv with
    | vw _ _ _ n e3 k3 ty3 xs3 pins3 hb3 hn3 =>
      rw [hb] at hb3
      injection hb3 with hb3
      injection hb3 with r1 r2 r3 r4 r5
      subst r3
      have r4 := eq_of_heq r4
      subst r4 hn3
      rfl
  · cases h
theorem map_putAt {α β : Type} (f : α → β) (xs ys : List α) (lo : Nat) : (putAt xs lo ys).map f = putAt (xs.map f) lo (ys.map f) := by
  simp [putAt, List.map_take, List.map_drop]
theorem copyX_ok (hs : Sim s p) {dst : Option Nat} {t : TypeId} {v w : SV} {q r : PV} {k : SV → Upd → Option ρ} {res : ρ} (hv : VSim s.bx v q) (hw : VSim s.bx w r) (h : copyX P s t v w k = some res) :
    Done s p dst k res ((effCopy P p.b t q r).map fun r => (r.1, some r.2)) := by
  unfold copyX at h
  split at h
  · rename_i e ty ys x lo hi hu hsrc hpart
    split at h
    · rename_i i e' kk ty' xs pins hi' hb
      split at h
      · rename_i hty hsame
        obtain rfl := hty
        have h1 := (chk_some h).1
        replace h := (chk_some h).2
        have h2 := (chk_some h).1
        replace h := (chk_some h).2
        have h3 := (chk_some h).1
        replace h := (chk_some h).2
        replace h1 : kk = i.size := by simpa using h1
        replace h2 : tyN ty = i.size := by simpa using h2
        obtain ⟨hro, h3⟩ := wrB_spec h3
        obtain ⟨zs, h4, h5⟩ := bindS h
        rw [castL_rfl] at h4
        unfold copyO at h4
        split at h4
        · rename_i hc
          injection h4 with h4
          subst h4
          have hbx := hs.bx x
          rw [hb] at hbx
          obtain ⟨hbx, hpins⟩ := hbx
          have hr := srcX_ok hs hw hsrc
          have hp := partX_ok hs hb hv hpart
          have hla : lenAll i.size (ys.map (encE ty)) := by
            intro x hx
            obtain ⟨y, _, rfl⟩ := List.mem_map.1 hx
            rw [encE_len, h2]
          have hlen : (putAt xs lo (ys.take (hi - lo))).length = xs.length := putAt_len (by rw [List.length_take]; omega)
          have hble : BLe s.bx ((x, some (.rw e' kk ty (putAt xs lo (ys.take (hi - lo))) (unpin pins))) :: s.bx) := ble_rw hb hlen (fun p2 pin2 hp2 => by
            rw [lkP_unpin, hp2]
            exact ⟨_, rfl, rfl⟩)
          refine ⟨_, _, .d (.v (.int .i64 (min ys.length (hi - lo) : Nat))), some (x, .rw e' kk ((putAt xs lo (ys.take (hi - lo))).map (encE ty))), ?_, h5, ?_, ⟨h3, fun ty2 cs2 h => by rw [hb] at h; cases h⟩, okW_wr hro⟩
          · simp only [effCopy, hu, hr, hp, hi', hbx, List.length_map]
            rw [if_pos ⟨trivial, h1, hla, hc.1, hc.2⟩, map_putAt, List.map_take]
            rfl
          · refine sim_box hs hble (fun _ => ⟨rfl, fun p2 pin2 hp2 => ?_⟩) (v_int _ _)
            rw [lkP_unpin, Option.map_eq_some_iff] at hp2
            obtain ⟨pin3, h7, rfl⟩ := hp2
            exact ⟨by rw [hlen]; exact (hpins p2 pin3 h7).1, fun cs hc => by cases hc⟩
        · cases h4
      · cases h
    · cases h
  · cases h
theorem zerosP_toD : ∀ (l : List Value), (l.map fun z => PV.d (.v z)).mapM toD = some (l.map fun z => nrm (.v z))
  | [] => rfl
  | z :: l => by simp only [List.map_cons, List.mapM_cons, zerosP_toD l, toD]; rfl
theorem makeX_ok (hs : Sim s p) {dst : Option Nat} {t : TypeId} {x y : Operand} {k : SV → Upd → Option ρ} {res : ρ} (h : makeX P s dst t (sameOp x y) (evX s x) k = some res) :
    Done s p dst k res (effMake P p.b dst t (ev p x) (ev p y)) := by
  unfold makeX at h
  split at h
  · rename_i d e kd n hu hx hsame
    have hpx := evX_sim hs x
    rw [hx] at hpx
    have hpx := vs_int hpx
    have hpy : ∃ kd', ev p y = .d (.v (.int kd' n)) := by
      unfold sameOp at hsame
      split at hsame
      · rename_i i j hq
        have : i = j := by simpa using hsame
        subst this
        exact ⟨kd, hpx⟩
      · rename_i k1 n1 k2 m1 hq
        have : n1 = m1 := by simpa using hsame
        subst this
        have : ev p (.const (.int k1 n1)) = .d (.v (.int k1 n1)) := rfl
        rw [this] at hpx
        injection hpx with hpx
        injection hpx with hpx
        injection hpx with q1 q2
        subst q2
        exact ⟨k2, rfl⟩
      · cases hsame
    obtain ⟨kd', hpy⟩ := hpy
    split at h
    · rename_i i ty hi hb hty
      split at h
      · rename_i z hz
        split at h
        · rename_i ds hds
          split at h
          · rename_i z0 hz0
            have h1 := (chk_some h).1
            replace h := (chk_some h).2
            have h2 := (chk_some h).1
            replace h := (chk_some h).2
            have h3 := (chk_some h).1
            replace h := (chk_some h).2
            have h4 := (chk_some h).1
            replace h := (chk_some h).2
            replace h1 := of_decide_eq_true h1
            replace h2 := of_decide_eq_true h2
            obtain ⟨hfr, h4⟩ := newB_spec h4
            obtain ⟨xs, h5, h6⟩ := bindS h
            unfold mkO at h5
            split at h5
            · rename_i hc
              injection h5 with h5
              subst h5
              have hbd : p.b d = none := by have := hs.bx d; rw [hb] at this; exact this hfr
              have e1 : (i.zero.map fun z => nrm (.v z)) = encE ty z0 := by
                have h7 := rowDs_sim (zeros_sim (B := s.bx) hz) hds
                rw [show zerosP i = i.zero.map (fun z => PV.d (.v z)) from rfl, zerosP_toD] at h7
                injection h7 with h7
                rw [h7]; exact decS_ok hz0
              refine ⟨_, _, .row d n.toNat, some (d, .rw e i.size ((List.replicate n.toNat z0).map (encE ty))), ?_, h6, ?_, ⟨h4, hb⟩, okW_new hb rfl⟩
              · simp only [effMake, hu, hpx, hpy, asI, hi, hbd]
                rw [if_pos ⟨trivial, hc.1, hc.2, h1, h2⟩, List.map_replicate, e1]
              · exact sim_box hs (ble_new hb) (fun _ => ⟨rfl, fun p pin hp => by cases hp⟩) (.row d _ e i.size ty _ [] (by rw [lkB_cons, if_pos rfl]) (by simp))
            · cases h5
          · cases h
        · cases h
      · cases h
    · cases h
  · cases h
theorem minmax_ok (mx : Bool) : ∀ (l : List SV) (v w : SV) (q : PV) (qs : List PV), VSim B v q → CSim B l qs → minmaxX mx v l = some w → ∃ r, (match mx with | true => effMaxL q qs | false => effMinL q qs) = some r ∧ VSim B w r
  | [], v, w, q, qs, hv, hl, h => by
    rcases hl.cases with ⟨_, rfl⟩ | ⟨_, _, _, _, h1, _⟩
    · have : v = w := by cases v <;> (injection h)
      subst this
      exact ⟨q, by cases mx <;> rfl, hv⟩
    · cases h1
  | u :: l, v, w, q, qs, hv, hl, h => by
    rcases hl.cases with ⟨h1, _⟩ | ⟨u', r, l', qs', h1, rfl, h2, h3⟩
    · cases h1
    · injection h1 with e1 e2
      subst e1 e2
      unfold minmaxX at h
      split at h
      · rename_i heq; cases heq
      · rename_i k x k' y l2 heq
        injection heq with e1 e2
        subst e1 e2
        obtain rfl := vs_int hv
        obtain rfl := vs_int h2
        obtain ⟨r', h4, h5⟩ := minmax_ok mx l _ w _ qs' (v_int _ _) h3 h
        refine ⟨r', ?_, h5⟩
        cases mx
        · simp only [effMinL, effMin, asI]; exact h4
        · simp only [effMaxL, effMax, asI]; exact h4
      · cases h
theorem lenX_ok (hs : Sim s p) {t : TypeId} {v : SV} {q : PV} {k : SV → Option ρ} {res : ρ} (hv : VSim s.bx v q) (h : lenX P s t v k = some res) : Gets s k res (effLen P t q) := by
  unfold lenX at h
  split at h
  · rename_i e hu
    split at h
    · rename_i ty xs hd
      refine gets ?_ h (v_int _ _)
      have : lenP q = some xs.length := by
        unfold dataX at hd
        split at hd
        · injection hd with hd
          subst hd
          rcases vs_sl hv with rfl | ⟨rfl, rfl⟩
          · simp [lenP]
          · rfl
        · obtain ⟨e, k, ty2, xs2, pins, h1, h2, rfl, h4⟩ := row_sim hs hv hd
          injection h2 with e1 e2
          subst e1
          have e2 := eq_of_heq e2
          subst e2
          rfl
        · cases hd
      simp [effLen, hu, this]
    · rename_i hd
      obtain rfl := data_nl hv hd
      exact gets (by simp [effLen, hu, lenP]) h (v_int _ _)
    · split at h
      · cases hv
        exact gets (by simp [effLen, hu, lenP]) h (v_int _ _)
      · cases h
  · rename_i hu
    split at h
    · obtain rfl := vs_str hv
      exact gets (by simp [effLen, hu, asS]) h (v_int _ _)
    · cases h
  · cases h
end Go.Proofs.Ytjeeclabnimbbaa

/- The pure machine: contracts of calls that turn boxes they are handed, or answer rows of their own; boxes by other numbers. -/
namespace Go.Proofs.Ytjeeclabnimbbaa
open Go.RowKit

/-! ### Data in normal form -/
mutual
def nrmP : PV → PV
  | .d x => .d (nrm x)
  | .ag cs => .ag (nrmPs cs)
  | .tup cs => .tup (nrmPs cs)
  | .fn f ps qs => .fn f (nrmPs ps) (nrmPs qs)
  | p => p
def nrmPs : List PV → List PV
  | [] => []
  | c :: cs => nrmP c :: nrmPs cs
end
def nrmB : Box → Box
  | .st ty cs => .st ty (nrmPs cs)
  | b => b
theorem nrmPs_len : ∀ cs : List PV, (nrmPs cs).length = cs.length
  | [] => rfl
  | c :: cs => by simp [nrmPs, nrmPs_len cs]
theorem nrmPs_get : ∀ (cs : List PV) (j : Nat) (c : PV), (nrmPs cs)[j]? = some c → ∃ d, cs[j]? = some d ∧ c = nrmP d
  | [], j, c, h => by simp [nrmPs] at h
  | d :: cs, 0, c, h => by simp [nrmPs] at h; exact ⟨d, rfl, h.symm⟩
  | d :: cs, j + 1, c, h => by simp [nrmPs] at h; simpa using nrmPs_get cs j c h

section
variable {P : Program} {ρ ρ' ρ2 : Nat → Value} {b b' b2 : Nat → Option Box} {w w' : World} {w0 : WM} {F F' F0 : Nat → Prop} {n : Nat} {σ τ : Nat → Nat}

theorem PRep.nrmd {x : Value} {p : PV} (h : PRep ρ b w F x p) : PRep ρ b w F x (nrmP p) := by
  induction h with
  | junk x => exact .junk x
  | d x d h => exact .d x _ h.nrm
  | ag xs cs hl h1 hr ih => exact .ag xs _ (by rw [nrmPs_len]; exact hl) h1 (fun j x c h2 h3 => by obtain ⟨d, h4, rfl⟩ := nrmPs_get cs j c h3; exact ih j x d h2 h4)
  | tup xs cs hl hr ih => exact .tup xs _ (by rw [nrmPs_len]; exact hl) (fun j x c h2 h3 => by obtain ⟨d, h4, rfl⟩ := nrmPs_get cs j c h3; exact ih j x d h2 h4)
  | ptr t off g ty cs hb hρ => exact .ptr t off g ty cs hb hρ
  | row t n A c e k es hb hn hc hA hρ => exact .row t n A c e k es hb hn hc hA hρ
  | re t n i off a e k es hb hn hi hρ => exact .re t n i off a e k es hb hn hi hρ
  | vw t n lo hi A m c e k es hb hn hl hh hm hρ => exact .vw t n lo hi A m c e k es hb hn hl hh hm hρ
  | fe a cs us hF hcell hrep => exact .fe a cs us hF hcell hrep
  | fn f xs ys ps qs hl hr hl2 hr2 ih ih2 =>
    exact .fn f xs ys _ _ (by rw [nrmPs_len]; exact hl) (fun j x c h2 h3 => by obtain ⟨d, h4, rfl⟩ := nrmPs_get ps j c h3; exact ih j x d h2 h4)
      (by rw [nrmPs_len]; exact hl2) (fun j x c h2 h3 => by obtain ⟨d, h4, rfl⟩ := nrmPs_get qs j c h3; exact ih2 j x d h2 h4)
end

/-! ### Boxes by other numbers -/
mutual
def renP (σ : Nat → Nat) : PV → PV
  | .ptr t o => .ptr (σ t) o
  | .row t n => .row (σ t) n
  | .re t n i o => .re (σ t) n i o
  | .vw t n i o => .vw (σ t) n i o
  | .ag cs => .ag (renPs σ cs)
  | .tup cs => .tup (renPs σ cs)
  | .fn f ps qs => .fn f (renPs σ ps) (renPs σ qs)
  | p => p
def renPs (σ : Nat → Nat) : List PV → List PV
  | [] => []
  | c :: cs => renP σ c :: renPs σ cs
end
def renB (σ : Nat → Nat) : Box → Box
  | .st ty cs => .st ty (renPs σ cs)
  | b => b
def refsB : Box → List Nat
  | .st _ cs => refsPs cs
  | .rw .. => []
def renU (σ : Nat → Nat) : BU → BU
  | [] => []
  | (t, B) :: l => (σ t, renB σ B) :: renU σ l
def domU : BU → List Nat
  | [] => []
  | (t, _) :: l => t :: domU l
theorem renPs_len (σ : Nat → Nat) : ∀ cs : List PV, (renPs σ cs).length = cs.length
  | [] => rfl
  | c :: cs => by simp [renPs, renPs_len σ cs]
theorem renPs_get (σ : Nat → Nat) : ∀ (cs : List PV) (j : Nat) (c : PV), (renPs σ cs)[j]? = some c → ∃ d, cs[j]? = some d ∧ c = renP σ d
  | [], j, c, h => by simp [renPs] at h
  | d :: cs, 0, c, h => by simp [renPs] at h; exact ⟨d, rfl, h.symm⟩
  | d :: cs, j + 1, c, h => by simp [renPs] at h; simpa using renPs_get σ cs j c h
theorem refsPs_get {t : Nat} : ∀ {cs : List PV} {j : Nat} {c : PV}, cs[j]? = some c → t ∈ refsP c → t ∈ refsPs cs
  | [], j, c, h, _ => by simp at h
  | d :: cs, 0, c, h, ht => by simp at h; subst h; simp [refsPs, ht]
  | d :: cs, j + 1, c, h, ht => by simp [refsPs]; exact .inr (refsPs_get (by simpa using h) ht)
theorem domU_mem : ∀ {l : BU} {t : Nat}, t ∈ domU l ↔ ∃ B, lkU l t = some B
  | [], t => by simp [domU, lkU]
  | (j, B) :: l, t => by
    simp only [domU, List.mem_cons, lkU]
    by_cases h : t = j
    · subst h; simp
    · simp only [h, false_or, if_false]; exact domU_mem
mutual
theorem refs_ren (σ : Nat → Nat) : ∀ p : PV, refsP (renP σ p) = (refsP p).map σ
  | .junk => rfl
  | .d _ => rfl
  | .ptr _ _ => rfl
  | .row _ _ => rfl
  | .re _ _ _ _ => rfl
  | .vw _ _ _ _ => rfl
  | .fe _ => rfl
  | .ag cs => by simp only [renP, refsP, refss_ren σ cs]
  | .tup cs => by simp only [renP, refsP, refss_ren σ cs]
  | .fn f ps qs => by simp only [renP, refsP, refss_ren σ ps, refss_ren σ qs, List.map_append]
theorem refss_ren (σ : Nat → Nat) : ∀ cs : List PV, refsPs (renPs σ cs) = (refsPs cs).map σ
  | [] => rfl
  | c :: cs => by simp only [renPs, refsPs, refs_ren σ c, refss_ren σ cs, List.map_append]
end
mutual
theorem ren_ren {σ τ : Nat → Nat} : ∀ (p : PV), (∀ t ∈ refsP p, σ (τ t) = t) → renP σ (renP τ p) = p
  | .junk, _ => rfl
  | .d _, _ => rfl
  | .ptr t o, h => by simp only [renP]; rw [h t (by simp [refsP])]
  | .row t o, h => by simp only [renP]; rw [h t (by simp [refsP])]
  | .re t _ _ _, h => by simp only [renP]; rw [h t (by simp [refsP])]
  | .vw t _ _ _, h => by simp only [renP]; rw [h t (by simp [refsP])]
  | .fe _, _ => rfl
  | .ag cs, h => by simp only [renP]; rw [rens_ren cs h]
  | .tup cs, h => by simp only [renP]; rw [rens_ren cs h]
  | .fn f ps qs, h => by simp only [renP]; rw [rens_ren ps (fun t ht => h t (by simp [refsP, ht])), rens_ren qs (fun t ht => h t (by simp [refsP, ht]))]
theorem rens_ren {σ τ : Nat → Nat} : ∀ (cs : List PV), (∀ t ∈ refsPs cs, σ (τ t) = t) → renPs σ (renPs τ cs) = cs
  | [], _ => rfl
  | c :: cs, h => by simp only [renPs]; rw [ren_ren c (fun t ht => h t (by simp [refsPs, ht])), rens_ren cs (fun t ht => h t (by simp [refsPs, ht]))]
end
theorem lkU_ren {σ : Nat → Nat} : ∀ {l : BU} {t : Nat} {B : Box}, (∀ s ∈ domU l, ∀ s' ∈ domU l, σ s = σ s' → s = s') → lkU l t = some B → lkU (renU σ l) (σ t) = some (renB σ B)
  | [], t, B, _, h => by cases h
  | (j, C) :: l, t, B, hinj, h => by
    simp only [lkU] at h
    simp only [renU, lkU]
    by_cases ht : t = j
    · subst ht
      rw [if_pos rfl] at h
      injection h with h
      subst h
      rw [if_pos rfl]
    · rw [if_neg ht] at h
      have hm : t ∈ domU l := domU_mem.2 ⟨B, h⟩
      rw [if_neg (fun e => ht (hinj t (by simp [domU, hm]) j (by simp [domU]) e))]
      exact lkU_ren (fun s hs s' hs' e => hinj s (by simp [domU, hs]) s' (by simp [domU, hs']) e) h
theorem lkU_ren_inv {σ : Nat → Nat} : ∀ {l : BU} {i : Nat} {B : Box}, lkU (renU σ l) i = some B → ∃ t ∈ domU l, i = σ t
  | [], i, B, h => by cases h
  | (j, C) :: l, i, B, h => by
    simp only [renU, lkU] at h
    by_cases hi : i = σ j
    · exact ⟨j, by simp [domU], hi⟩
    · rw [if_neg hi] at h
      obtain ⟨t, h1, h2⟩ := lkU_ren_inv h
      exact ⟨t, by simp [domU, h1], h2⟩

section
variable {P : Program} {ρ ρ' ρ2 : Nat → Value} {b b' b2 : Nat → Option Box} {w w' : World} {w0 : WM} {F F' F0 : Nat → Prop} {n : Nat} {σ τ : Nat → Nat}

theorem PRep.ren {x : Value} {p : PV} (h : PRep ρ b w F x p) : (∀ t ∈ refsP p, ∀ B, b t = some B → b2 (σ t) = some (renB σ B) ∧ ρ2 (σ t) = ρ t) → PRep ρ2 b2 w F x (renP σ p) := by
  induction h with
  | junk x => exact fun _ => .junk x
  | d x d h => exact fun _ => .d x d h
  | ag xs cs hl h1 hr ih => exact fun hc => .ag xs _ (by rw [renPs_len]; exact hl) h1 (fun j x c h2 h3 => by obtain ⟨d, h4, rfl⟩ := renPs_get σ cs j c h3; exact ih j x d h2 h4 (fun t ht => hc t (refsPs_get h4 ht)))
  | tup xs cs hl hr ih => exact fun hc => .tup xs _ (by rw [renPs_len]; exact hl) (fun j x c h2 h3 => by obtain ⟨d, h4, rfl⟩ := renPs_get σ cs j c h3; exact ih j x d h2 h4 (fun t ht => hc t (refsPs_get h4 ht)))
  | ptr t off g ty cs hb hρ =>
    intro hc
    obtain ⟨h1, h2⟩ := hc t (by simp [refsP]) _ hb
    exact .ptr _ off g ty _ h1 (h2.trans hρ)
  | row t n A c e k es hb hn hcc hA hρ =>
    intro hc
    obtain ⟨h1, h2⟩ := hc t (by simp [refsP]) _ hb
    exact .row _ n A c e k es h1 hn hcc hA (fun h => h2.trans (hρ h))
  | re t n i off a e k es hb hn hi hρ =>
    intro hc
    obtain ⟨h1, h2⟩ := hc t (by simp [refsP]) _ hb
    exact .re _ n i off a e k es h1 hn hi (fun h => by obtain ⟨g, c, h3, h4⟩ := hρ h; exact ⟨g, c, h2.trans h3, h4⟩)
  | vw t n lo hi A m c e k es hb hn hl hh hm hρ =>
    intro hc
    obtain ⟨h1, h2⟩ := hc t (by simp [refsP]) _ hb
    exact .vw _ n lo hi A m c e k es h1 hn hl hh hm (fun h => by obtain ⟨g, c, h3, h4⟩ := hρ h; exact ⟨g, c, h2.trans h3, h4⟩)
  | fe a cs us hF hcell hrep => exact fun _ => .fe a cs us hF hcell hrep
  | fn f xs ys ps qs hl hr hl2 hr2 ih ih2 =>
    intro hc
    exact .fn f xs ys _ _ (by rw [renPs_len]; exact hl) (fun j x c h2 h3 => by obtain ⟨d, h4, rfl⟩ := renPs_get σ ps j c h3; exact ih j x d h2 h4 (fun t ht => hc t (by simp only [refsP, List.mem_append]; exact .inl (refsPs_get h4 ht))))
      (by rw [renPs_len]; exact hl2) (fun j x c h2 h3 => by obtain ⟨d, h4, rfl⟩ := renPs_get σ qs j c h3; exact ih2 j x d h2 h4 (fun t ht => hc t (by simp only [refsP, List.mem_append]; exact .inr (refsPs_get h4 ht))))
theorem BoxAt.ren {own own' : Nat → Prop} {t : Nat} {B : Box} (h : BoxAt ρ b own w F t B) (hρ : ρ2 (σ t) = ρ t) (ho : ∀ g, blk (ρ t) = some g → own' g) (hc : ∀ t ∈ refsB B, ∀ B, b t = some B → b2 (σ t) = some (renB σ B) ∧ ρ2 (σ t) = ρ t) : BoxAt ρ2 b2 own' w F (σ t) (renB σ B) := by
  cases h with
  | st ty cs g xs hr0 hg hF0 hh hl h1 hr =>
    exact .st ty _ g xs (hρ.trans hr0) (ho g (by rw [hr0]; rfl)) hF0 hh (by rw [renPs_len]; exact hl) h1 (fun j x c h2 h3 => by obtain ⟨d, h4, rfl⟩ := renPs_get σ cs j c h3; exact (hr j x d h2 h4).ren (fun t ht => hc t (refsPs_get h4 ht)))
  | rw e k es xs hk0 h1 hF0 hk hl hr hown =>
    exact .rw e k es xs hk0 (by rw [hρ]; exact h1) (by rw [hρ]; exact hF0) hk hl hr (by rw [hρ]; exact ho)
  | gn e k es hr0 => exact .gn e k es (hρ.trans hr0)

theorem PRep.nb {x : Value} {p : PV} (h : PRep ρ b w F x p) : PRep ρ (fun i => (b i).map nrmB) w F x p := by
  induction h with
  | junk x => exact .junk x
  | d x d h => exact .d x d h
  | ag xs cs hl h1 hr ih => exact .ag xs _ hl h1 ih
  | tup xs cs hl hr ih => exact .tup xs _ hl ih
  | ptr t off g ty cs hb hρ => exact .ptr _ off g ty (nrmPs cs) (by rw [hb]; rfl) hρ
  | row t n A c e k es hb hn hcc hA hρ => exact .row _ n A c e k es (by rw [hb]; rfl) hn hcc hA hρ
  | re t n i off a e k es hb hn hi hρ => exact .re _ n i off a e k es (by rw [hb]; rfl) hn hi hρ
  | vw t n lo hi A m c e k es hb hn hl hh hm hρ => exact .vw _ n lo hi A m c e k es (by rw [hb]; rfl) hn hl hh hm hρ
  | fe a cs us hF hcell hrep => exact .fe a cs us hF hcell hrep
  | fn f xs ys ps qs hl hr hl2 hr2 ih ih2 => exact .fn f xs ys _ _ hl ih hl2 ih2
theorem BoxAt.nb {own : Nat → Prop} {t : Nat} {B : Box} (h : BoxAt ρ b own w F t B) : BoxAt ρ (fun i => (b i).map nrmB) own w F t (nrmB B) := by
  cases h with
  | st ty cs g xs hr0 hg hF0 hh hl h1 hr => exact .st ty _ g xs hr0 hg hF0 hh (by rw [nrmPs_len]; exact hl) h1 (fun j x c h2 h3 => by obtain ⟨d, h4, rfl⟩ := nrmPs_get cs j c h3; exact (hr j x d h2 h4).nb.nrmd)
  | rw e k es xs hk0 h1 hF0 hk hl hr hown => exact .rw e k es xs hk0 h1 hF0 hk hl hr hown
  | gn e k es hr0 => exact .gn e k es hr0

/-! ### Contracts with boxes -/
/-- Where boxes lie. -/
def blks (ρ : Nat → Value) (b : Nat → Option Box) : Nat → Prop := fun g => ∃ t B, b t = some B ∧ blk (ρ t) = some g
/-- Those boxes of bi that are kept. -/
def keptU (bi : BU) (K : List Nat) : Nat → Option Box := fun t => if t ∈ K then lkU bi t else none
/-- Called with what reads as these, out of these boxes, f answers what reads as r, and the boxes are as bo says, for some r and bo of Q; of those that it was handed only those of K are still the same ones. -/
def PCm (P : Program) (f : FuncId) (args : List PV) (bi : BU) (K : List Nat) (Q : PV → BU → Prop) : Prop :=
  callable P f = true ∧ ∀ (w : World) (F : Nat → Prop) (ρ : Nat → Value) (vs : Array Value), Inv ⟨w, blks ρ (lkU bi), fun _ => none⟩ F ρ (lkU bi) w F → Reps ρ (lkU bi) w F vs.toList args →
    Calls P f vs w fun e w' => ∃ v ρ' F' r bo, Q r bo ∧ e = .returned v ∧ Inv ⟨w, blks ρ (lkU bi), fun _ => none⟩ F ρ' (lkU bo) w' F' ∧ Stp ρ (keptU bi K) w F ρ' (lkU bo) w' F' ∧ PRep ρ' (lkU bo) w' F' v r

/-- Nothing is named but these boxes. -/
def closedU (l : BU) : Prop := ∀ t B, lkU l t = some B → ∀ s ∈ refsB B, s ∈ domU l
/-- What a call makes of the caller's boxes, by the caller's numbers. -/
structure MadeU (τi τ : Nat → Nat) (bi bo : BU) (K : List Nat) (u : BU) : Prop where
  out : ∀ s B, lkU bo s = some B → lkU u (τ s) = some (renB τ B)
  gone : ∀ s B, lkU bi s = some B → s ∉ K → ∃ e k es es', B = .rw e k es ∧ lkU u (τi s) = some (.rw e k es') ∧ es.length < es'.length
  only : ∀ i B, lkU u i = some B → (∃ s ∈ domU bo, i = τ s) ∨ (∃ s ∈ domU bi, s ∉ K ∧ i = τi s)
/-- The numbers fit. -/
structure FitU (τi τ : Nat → Nat) (bi bo : BU) (K : List Nat) : Prop where
  ii : ∀ s ∈ domU bi, ∀ s' ∈ domU bi, τi s = τi s' → s = s'
  oo : ∀ s ∈ domU bo, ∀ s' ∈ domU bo, τ s = τ s' → s = s'
  io : ∀ s ∈ domU bi, ∀ s' ∈ domU bo, τi s = τ s' → s = s' ∧ s ∈ K
  k : ∀ s ∈ K, s ∈ domU bi ∧ s ∈ domU bo ∧ τi s = τ s
theorem callM_of {f : FuncId} {τi : Nat → Nat} {args args' : List PV} {bi u : BU} {K N : List Nat} {Q : PV → BU → Prop} {r' : PV} (h : PCm P f args bi K Q) (hii : ∀ s ∈ domU bi, ∀ s' ∈ domU bi, τi s = τi s' → s = s')
    (hQ : ∀ r bo, Q r bo → ∃ τ, FitU τi τ bi bo K ∧ MadeU τi τ bi bo K u ∧ renP τ r = r' ∧ ∀ s ∈ domU bo, s ∉ K → τ s ∈ N) (hnew : ∀ t ∈ N, t < 1000000)
    (ha : ∀ s ∈ refsPs args, s ∈ domU bi) (hargs : nrmPs args' = renPs τi args) (hbi : closedU bi)
    (w0 : WM) (F0 : Nat → Prop) (ρ : Nat → Value) (b : Nat → Option Box) (w : World) (F : Nat → Prop) (vs : Array Value) (hb : ∀ s B, lkU bi s = some B → ∃ B', b (τi s) = some B' ∧ nrmB B' = renB τi B) (hbn : ∀ t ∈ N, b t = none)
    (hi : Inv w0 F0 ρ b w F) (hv : Reps ρ b w F vs.toList args') :
    Calls P f vs w fun e w' => ∃ v ρ' F', e = .returned v ∧ Inv w0 F0 ρ' (bupdL b u) w' F' ∧ Stp ρ b w F ρ' (bupdL b u) w' F' ∧ PRep ρ' (bupdL b u) w' F' v r' := by
  classical
  obtain ⟨_, hcall⟩ := h
  -- the way back
  have mkσ : ∀ (τ : Nat → Nat) (dom : Nat → Prop), (∀ s, dom s → ∀ s', dom s' → τ s = τ s' → s = s') → ∃ σ : Nat → Nat, ∀ s, dom s → σ (τ s) = s := fun τ dom hinj => by
    refine ⟨fun i => if h : ∃ s, dom s ∧ τ s = i then h.choose else i, fun s hs => ?_⟩
    have hex : ∃ s', dom s' ∧ τ s' = τ s := ⟨s, hs, rfl⟩
    show (if h : ∃ s', dom s' ∧ τ s' = τ s then h.choose else τ s) = s
    rw [dif_pos hex]
    exact hinj _ hex.choose_spec.1 s hs hex.choose_spec.2
  obtain ⟨σ, hσ⟩ := mkσ τi (fun s => s ∈ domU bi) hii
  let ρ0 : Nat → Value := fun s => ρ (τi s)
  let bn : Nat → Option Box := fun i => (b i).map nrmB
  have hbt : ∀ s B, lkU bi s = some B → bn (τi s) = some (renB τi B) := fun s B hs => by
    obtain ⟨B', h1, h2⟩ := hb s B hs
    show (b (τi s)).map nrmB = _
    rw [h1, ← h2]; rfl
  have hdi : ∀ {s B}, lkU bi s = some B → s ∈ domU bi := fun h => domU_mem.2 ⟨_, h⟩
  have hback : ∀ s B, lkU bi s = some B → renB σ (renB τi B) = B := fun s B hs => by
    cases B with
    | st ty cs => simp only [renB]; rw [rens_ren cs (fun t ht => hσ t (hbi s _ hs t ht))]
    | rw => rfl
  have hgo : ∀ s ∈ domU bi, ∀ B', bn (τi s) = some B' → lkU bi (σ (τi s)) = some (renB σ B') ∧ ρ0 (σ (τi s)) = ρ (τi s) := fun s hs B' hB' => by
    obtain ⟨B, hB⟩ := domU_mem.1 hs
    rw [hbt s B hB] at hB'
    injection hB' with hB'
    subst hB'
    rw [hσ s hs, hback s B hB]
    exact ⟨hB, rfl⟩
  have hin : ∀ {x : Value} {p : PV}, (∀ s ∈ refsP p, s ∈ domU bi) → PRep ρ bn w F x (renP τi p) → PRep ρ0 (lkU bi) w F x p := fun {x p} hp hx => by
    have := hx.ren (σ := σ) (b2 := lkU bi) (ρ2 := ρ0) (fun t ht B hB => by
      rw [refs_ren] at ht
      obtain ⟨s, hs, rfl⟩ := List.mem_map.1 ht
      exact hgo s (hp s hs) B hB)
    rw [ren_ren p (fun t ht => hσ t (hp t ht))] at this
    exact this
  have hown : ∀ s B g, lkU bi s = some B → blk (ρ0 s) = some g → g < w.heap.size ∧ w0.own g ∧ ¬ F g := fun s B g hs hg => by
    obtain ⟨B', h1, _⟩ := hb s B hs
    exact (hi.box _ _ h1).lt hg
  have hi0 : Inv ⟨w, blks ρ0 (lkU bi), fun _ => none⟩ F ρ0 (lkU bi) w F := by
    refine ⟨.of w rfl, fun _ h => h, hi.flt, fun _ h => .inl h, fun s B hs => ?_, fun s s' B B' g h1 h2 hne hg => ?_, fun t q h => by cases h⟩
    · obtain ⟨B1, h1, h2⟩ := hb s B hs
      have hbx := (hi.box _ _ h1).nb
      rw [h2] at hbx
      have := hbx.ren (σ := σ) (ρ2 := ρ0) (b2 := lkU bi) (own' := WM.own ⟨w, blks ρ0 (lkU bi), fun _ => none⟩) (by show ρ (τi (σ (τi s))) = ρ (τi s); rw [hσ s (hdi hs)]) (fun g hg => .inr ⟨s, B, hs, hg⟩) (fun t ht B' hB' => by
        have ht : t ∈ (refsB B).map τi := by
          cases B with
          | st ty cs => show t ∈ (refsPs cs).map τi; rw [← refss_ren]; exact ht
          | rw => exact ht
        obtain ⟨s', hs', rfl⟩ := List.mem_map.1 ht
        exact hgo s' (hbi s B hs s' hs') B' hB')
      rw [hσ s (hdi hs), hback s B hs] at this
      exact this
    · obtain ⟨B1, m1, _⟩ := hb s B h1
      obtain ⟨B2, m2, _⟩ := hb s' B' h2
      exact hi.dist _ _ _ _ g m1 m2 (fun e => hne (hii s (hdi h1) s' (hdi h2) e)) hg
  have hv0 : Reps ρ0 (lkU bi) w F vs.toList args := by
    have hlen : args'.length = args.length := by rw [← nrmPs_len args', hargs, renPs_len]
    refine ⟨by rw [hv.len, hlen], fun j x c h1 h2 => hin (fun s hs => ha s (refsPs_get h2 hs)) ?_⟩
    have hlt : j < args.length := (List.getElem?_eq_some_iff.1 h2).1
    have h3 : args'[j]? = some args'[j] := by simp [hlen, hlt]
    have h4 := (hv.rep j x _ h1 h3).nb.nrmd
    have h5 : (nrmPs args')[j]? = some (nrmP args'[j]) := by
      have hl2 : j < (nrmPs args').length := by rw [nrmPs_len, hlen]; exact hlt
      obtain ⟨d, h6, h7⟩ := nrmPs_get args' j _ (List.getElem?_eq_getElem hl2)
      rw [h3] at h6
      injection h6 with h6
      rw [List.getElem?_eq_getElem hl2, h7, h6]
    have h8 : (renPs τi args)[j]? = some (renP τi c) := by
      have hl2 : j < (renPs τi args).length := by rw [renPs_len]; exact hlt
      obtain ⟨d, h6, h7⟩ := renPs_get τi args j _ (List.getElem?_eq_getElem hl2)
      rw [h2] at h6
      injection h6 with h6
      rw [List.getElem?_eq_getElem hl2, h7, h6]
    rw [hargs, h8] at h5
    injection h5 with h5
    rw [h5]
    exact h4
  refine (hcall w F ρ0 vs hi0 hv0).mono ?_
  rintro e w' ⟨v, ρ1, F', r, bo, hq, rfl, k1, k2, k3⟩
  obtain ⟨τ, hfit, hu, hr', hN⟩ := hQ r bo hq
  rw [← hr']
  have hnew : ∀ s ∈ domU bo, s ∉ K → τ s < 1000000 := fun s h1 h2 => hnew _ (hN s h1 h2)
  have hbn : ∀ s ∈ domU bo, s ∉ K → b (τ s) = none := fun s h1 h2 => hbn _ (hN s h1 h2)
  obtain ⟨σo, hσo⟩ := mkσ τ (fun s => s ∈ domU bo) hfit.oo
  have hdo : ∀ {s B}, lkU bo s = some B → s ∈ domU bo := fun h => domU_mem.2 ⟨_, h⟩
  let ρ' : Nat → Value := fun i => match lkU u i with | none => ρ i | some _ => if ∃ s, s ∈ domU bo ∧ τ s = i then ρ1 (σo i) else .tuple #[]
  have hρin : ∀ s B, lkU bo s = some B → ρ' (τ s) = ρ1 s := fun s B hs => by
    show (match lkU u (τ s) with | none => ρ (τ s) | some _ => if ∃ s', s' ∈ domU bo ∧ τ s' = τ s then ρ1 (σo (τ s)) else .tuple #[]) = ρ1 s
    rw [hu.out s B hs]
    simp only [hσo s (hdo hs)]
    rw [if_pos ⟨s, hdo hs, rfl⟩]
  have hρgone : ∀ s B, lkU bi s = some B → s ∉ K → ρ' (τi s) = .tuple #[] := fun s B hs hn => by
    obtain ⟨e, k, es, es', _, h1, _⟩ := hu.gone s B hs hn
    show (match lkU u (τi s) with | none => ρ (τi s) | some _ => if ∃ s', s' ∈ domU bo ∧ τ s' = τi s then ρ1 (σo (τi s)) else .tuple #[]) = .tuple #[]
    rw [h1]
    simp only
    rw [if_neg]
    rintro ⟨s', h2, h3⟩
    exact hn (hfit.io s (hdi hs) s' h2 h3.symm).2
  have hρout : ∀ i, lkU u i = none → ρ' i = ρ i := fun i h => by
    show (match lkU u i with | none => ρ i | some _ => if ∃ s, s ∈ domU bo ∧ τ s = i then ρ1 (σo i) else .tuple #[]) = ρ i
    rw [h]
  have hbin : ∀ s B, lkU bo s = some B → bupdL b u (τ s) = some (renB τ B) := fun s B hs => by
    simp only [bupdL, hu.out s B hs]
  have hbout : ∀ i, lkU u i = none → bupdL b u i = b i := fun i h => by simp only [bupdL, h]
  have hgo' : ∀ s B, lkU bo s = some B → bupdL b u (τ s) = some (renB τ B) ∧ ρ' (τ s) = ρ1 s := fun s B hs => ⟨hbin s B hs, hρin s B hs⟩
  -- boxes that the call does not know
  have huse : ∀ s B, lkU bi s = some B → ∃ C, lkU u (τi s) = some C := fun s B hs => by
    by_cases hk : s ∈ K
    · obtain ⟨_, h2, h3⟩ := hfit.k s hk
      obtain ⟨C, hC⟩ := domU_mem.1 h2
      exact ⟨_, by rw [h3]; exact hu.out s C hC⟩
    · obtain ⟨e, k, es, es', _, h1, _⟩ := hu.gone s B hs hk; exact ⟨_, h1⟩
  have houtside : ∀ i B, lkU u i = none → b i = some B → ∀ g, blk (ρ i) = some g → g < w.heap.size ∧ ¬ blks ρ0 (lkU bi) g := fun i B h hB g hg => by
    refine ⟨((hi.box i B hB).lt hg).1, ?_⟩
    rintro ⟨s, C, hs, hg2⟩
    obtain ⟨B1, m1, _⟩ := hb s C hs
    refine hi.dist i (τi s) B _ g hB m1 (fun e => ?_) hg hg2
    obtain ⟨D, hD⟩ := huse s C hs
    rw [e, hD] at h
    cases h
  have hown' : ∀ g, WM.own ⟨w, blks ρ0 (lkU bi), fun _ => none⟩ g → w0.own g := by
    rintro g (hg | ⟨s, B, hs, hg⟩)
    · exact .inl (Nat.le_trans hi.ext.size hg)
    · exact (hown s B g hs hg).2.1
  have hcase : ∀ i B, bupdL b u i = some B → (∃ s C, lkU bo s = some C ∧ i = τ s ∧ B = renB τ C) ∨ (lkU u i = none ∧ b i = some B) ∨ (∃ e k es, B = .rw e k es ∧ ρ' i = .tuple #[]) := fun i B hB => by
    cases hl : lkU u i with
    | none => exact .inr (.inl ⟨rfl, by rw [hbout i hl] at hB; exact hB⟩)
    | some C =>
      rcases hu.only i C hl with ⟨s, hs, rfl⟩ | ⟨s, hs, hk, rfl⟩
      · obtain ⟨C', hC'⟩ := domU_mem.1 hs
        rw [hbin s C' hC'] at hB
        injection hB with hB
        exact .inl ⟨s, C', hC', rfl, hB.symm⟩
      · obtain ⟨B0, hB0⟩ := domU_mem.1 hs
        obtain ⟨e, k, es, es', _, h1, _⟩ := hu.gone s B0 hB0 hk
        simp only [bupdL, h1] at hB
        injection hB with hB
        exact .inr (.inr ⟨e, k, es', hB.symm, hρgone s B0 hB0 hk⟩)
  have hold : ∀ s ∈ domU bo, ∀ B, b (τ s) = some B → ∃ B0, lkU bi s = some B0 ∧ nrmB B = renB τi B0 ∧ keptU bi K s = some B0 ∧ ρ (τ s) = ρ0 s := fun s hs B hB => by
    by_cases hk : s ∈ K
    · obtain ⟨h1, h2, h3⟩ := hfit.k s hk
      obtain ⟨B0, hB0⟩ := domU_mem.1 h1
      obtain ⟨B1, m1, m2⟩ := hb s B0 hB0
      rw [h3, hB] at m1
      injection m1 with m1
      subst m1
      exact ⟨B0, hB0, m2, by unfold keptU; rw [if_pos hk]; exact hB0, by show ρ (τ s) = ρ (τi s); rw [h3]⟩
    · rw [hbn s hs hk] at hB
      cases hB
  have hs : Stp ρ b w F ρ' (bupdL b u) w' F' := by
    refine ⟨k2.hF, k2.hw, fun t ty cs ht => ?_, fun t e k es ht => ?_⟩
    · cases hl : lkU u t with
      | none => exact ⟨⟨ty, cs, by rw [hbout t hl]; exact ht⟩, hρout t hl⟩
      | some C =>
        rcases hu.only t C hl with ⟨s, hs, rfl⟩ | ⟨s, hs, hk, rfl⟩
        · obtain ⟨B0, h1, h2, h3, h4⟩ := hold s hs _ ht
          cases B0 with
          | rw => cases h2
          | st ty0 cs0 =>
            obtain ⟨⟨ty1, cs1, h5⟩, h6⟩ := k2.hst s ty0 cs0 h3
            exact ⟨⟨ty1, _, hbin s _ h5⟩, by rw [hρin s _ h5, h6, h4]⟩
        · exfalso
          obtain ⟨B0, hB0⟩ := domU_mem.1 hs
          obtain ⟨e, k, es, es', rfl, _⟩ := hu.gone s B0 hB0 hk
          obtain ⟨B1, m1, m2⟩ := hb s _ hB0
          rw [m1] at ht
          injection ht with ht
          subst ht
          cases m2
    · cases hl : lkU u t with
      | none => exact ⟨e, es, by rw [hbout t hl]; exact ht, Nat.le_refl _, fun _ => hρout t hl⟩
      | some C =>
        rcases hu.only t C hl with ⟨s, hs, rfl⟩ | ⟨s, hs, hk, rfl⟩
        · obtain ⟨B0, h1, h2, h3, h4⟩ := hold s hs _ ht
          cases B0 with
          | st => cases h2
          | rw e0 k0 es0 =>
            injection h2 with q1 q2 q3
            subst q1 q2 q3
            obtain ⟨e1, es1, h5, h6, h7⟩ := k2.hrw s _ _ _ h3
            exact ⟨e1, es1, hbin s _ h5, h6, fun he => by rw [hρin s _ h5, h7 he, h4]⟩
        · obtain ⟨B0, hB0⟩ := domU_mem.1 hs
          obtain ⟨e1, k1', es1, es', rfl, h1, h2⟩ := hu.gone s B0 hB0 hk
          obtain ⟨B1, m1, m2⟩ := hb s _ hB0
          rw [m1] at ht
          injection ht with ht
          subst ht
          injection m2 with q1 q2 q3
          subst q1 q2 q3
          exact ⟨e, es', by simp only [bupdL, h1], Nat.le_of_lt h2, fun he => by omega⟩
  refine ⟨v, ρ', F', rfl, ⟨?_, fun g hg => k1.f0 g (hi.f0 g hg), k1.flt, fun g hg => ?_, fun i B hB => ?_, fun i i' B B' g hB hB' hne hg => ?_, hi.reg_stp hs fun t ht hn => ?_⟩, hs, k3.ren fun t ht B hB => hgo' t B hB⟩
  · exact hi.ext.step k1.ext.os k1.ext.tape k1.ext.output k1.ext.size fun g hg hM => k1.ext.block g (Nat.lt_of_lt_of_le hg hi.ext.size) fun ⟨s, B, hs, hg2⟩ => not_own hg hM (hown s B g hs hg2).2.1
  · rcases k1.fnew g hg with h | h
    · exact hi.fnew g h
    · exact .inr (hown' g h)
  · rcases hcase i B hB with ⟨s, C, hC, rfl, rfl⟩ | ⟨hl, hB⟩ | ⟨e, k, es, rfl, hg⟩
    · exact (k1.box s C hC).ren (hρin s C hC) (fun g hg => hown' g ((k1.box s C hC).lt hg).2.1) (fun t ht B hB => hgo' t B hB)
    · refine (hi.box i B hB).mono hs (hρout i hl) (fun g hg => ?_) (fun g hg hF => ?_)
      · obtain ⟨h1, h2⟩ := houtside i B hl hB g hg
        exact k1.ext.block g h1 h2
      · obtain ⟨h1, h2⟩ := houtside i B hl hB g hg
        rcases k1.fnew g hF with h | h | h
        · exact ((hi.box i B hB).lt hg).2.2 h
        · exact absurd h1 (Nat.not_lt.2 h)
        · exact h2 h
    · exact .gn e k es hg
  · have mixed : ∀ s C i B, lkU bo s = some C → lkU u i = none → b i = some B → blk (ρ1 s) = some g → blk (ρ i) ≠ some g := fun s C i B hC hl hB h1 h2 => by
      obtain ⟨m1, m2⟩ := houtside i B hl hB g h2
      rcases ((k1.box s C hC).lt h1).2.1 with h | h
      · exact absurd m1 (Nat.not_lt.2 h)
      · exact m2 h
    rcases hcase i B hB with ⟨s, C, hC, rfl, rfl⟩ | ⟨hl, hB⟩ | ⟨e, k, es, rfl, hgo⟩
    · rw [hρin s C hC] at hg
      rcases hcase i' B' hB' with ⟨s', C', hC', rfl, rfl⟩ | ⟨hl', hB'⟩ | ⟨e, k, es, rfl, hgo⟩
      · rw [hρin s' C' hC']
        exact k1.dist s s' C C' g hC hC' (fun e => hne (by rw [e])) hg
      · rw [hρout i' hl']
        exact mixed s C i' B' hC hl' hB' hg
      · rw [hgo]; exact fun h => by cases h
    · rw [hρout i hl] at hg
      rcases hcase i' B' hB' with ⟨s', C', hC', rfl, rfl⟩ | ⟨hl', hB'⟩ | ⟨e, k, es, rfl, hgo⟩
      · rw [hρin s' C' hC']
        exact fun h => mixed s' C' i B hC' hl hB h hg
      · rw [hρout i' hl']
        exact hi.dist i i' B B' g hB hB' hne hg
      · rw [hgo]; exact fun h => by cases h
    · rw [hgo] at hg; cases hg
  · cases hl : lkU u t with
    | none => rw [hbout t hl]; exact hn
    | some C =>
      exfalso
      rcases hu.only t C hl with ⟨s, hs, rfl⟩ | ⟨s, hs, hk, rfl⟩
      · by_cases hk : s ∈ K
        · obtain ⟨h1, h2, h3⟩ := hfit.k s hk
          obtain ⟨B0, hB0⟩ := domU_mem.1 h1
          obtain ⟨B1, m1, _⟩ := hb s B0 hB0
          rw [h3, hn] at m1
          cases m1
        · have := hnew s hs hk
          omega
      · obtain ⟨B0, hB0⟩ := domU_mem.1 hs
        obtain ⟨B1, m1, _⟩ := hb s B0 hB0
        rw [m1] at hn
        cases hn
end
end Go.Proofs.Ytjeeclabnimbbaa

/- The pure machine: a function's contract with boxes, by its body. -/
namespace Go.Proofs.Ytjeeclabnimbbaa
open Go.RowKit

section
variable {P : Program} {ρ ρ' ρ2 : Nat → Value} {b b' b2 : Nat → Option Box} {w w' : World} {w0 : WM} {F F' F0 : Nat → Prop} {n : Nat}

theorem PRep.to {x : Value} {p : PV} (h : PRep ρ b w F x p) : (∀ t ∈ refsP p, (∀ ty cs, b t = some (.st ty cs) → ∃ cs', b2 t = some (.st ty cs')) ∧ ∀ e k es, b t = some (.rw e k es) → b2 t = some (.rw e k es)) → PRep ρ b2 w F x p := by
  induction h with
  | junk x => exact fun _ => .junk x
  | d x d h => exact fun _ => .d x d h
  | ag xs cs hl h1 hr ih => exact fun hc => .ag xs _ hl h1 (fun j x c h2 h3 => ih j x c h2 h3 (fun t ht => hc t (refsPs_get h3 ht)))
  | tup xs cs hl hr ih => exact fun hc => .tup xs _ hl (fun j x c h2 h3 => ih j x c h2 h3 (fun t ht => hc t (refsPs_get h3 ht)))
  | ptr t off g ty cs hb hρ =>
    intro hc
    obtain ⟨cs', h1⟩ := (hc t (by simp [refsP])).1 _ _ hb
    exact .ptr _ off g ty _ h1 hρ
  | row t n A c e k es hb hn hcc hA hρ =>
    intro hc
    exact .row _ n A c e k es ((hc t (by simp [refsP])).2 _ _ _ hb) hn hcc hA hρ
  | re t n i off a e k es hb hn hi hρ =>
    intro hc
    exact .re _ n i off a e k es ((hc t (by simp [refsP])).2 _ _ _ hb) hn hi hρ
  | vw t n lo hi A m c e k es hb hn hl hh hm hρ =>
    intro hc
    exact .vw _ n lo hi A m c e k es ((hc t (by simp [refsP])).2 _ _ _ hb) hn hl hh hm hρ
  | fe a cs us hF hcell hrep => exact fun _ => .fe a cs us hF hcell hrep
  | fn f xs ys ps qs hl hr hl2 hr2 ih ih2 =>
    intro hc
    exact .fn f xs ys _ _ hl (fun j x c h2 h3 => ih j x c h2 h3 (fun t ht => hc t (by simp only [refsP, List.mem_append]; exact .inl (refsPs_get h3 ht))))
      hl2 (fun j x c h2 h3 => ih2 j x c h2 h3 (fun t ht => hc t (by simp only [refsP, List.mem_append]; exact .inr (refsPs_get h3 ht))))
mutual
theorem refs_nrm : ∀ p : PV, refsP (nrmP p) = refsP p
  | .junk => rfl
  | .d _ => rfl
  | .ptr _ _ => rfl
  | .row _ _ => rfl
  | .re _ _ _ _ => rfl
  | .vw _ _ _ _ => rfl
  | .fe _ => rfl
  | .ag cs => by simp only [nrmP, refsP, refss_nrm cs]
  | .tup cs => by simp only [nrmP, refsP, refss_nrm cs]
  | .fn f ps qs => by simp only [nrmP, refsP, refss_nrm ps, refss_nrm qs]
theorem refss_nrm : ∀ cs : List PV, refsPs (nrmPs cs) = refsPs cs
  | [] => rfl
  | c :: cs => by simp only [nrmPs, refsPs, refs_nrm c, refss_nrm cs]
end
/-- What a call was handed and keeps, as it was handed. -/
def regOf (ρ : Nat → Value) (bi : BU) (K : List Nat) : Nat → Option (Value × Option (Nat × Nat)) := fun t => if t ∈ K then (match lkU bi t with
  | some (.st _ _) => some (ρ t, none)
  | some (.rw _ k es) => some (ρ t, some (k, es.length))
  | none => none) else none
/-- How a function ends that answers r, with these boxes. -/
def RetM (P : Program) (fn : Func) (K : List Nat) (Q : PV → BU → Prop) (e : Exit) (s : PS) : Prop :=
  (match e with | .normal => True | .ret => True | _ => False) ∧ ∃ r bo, Q r bo ∧ (∀ t ∈ K, t ∈ domU bo) ∧ (∀ s ∈ refsP r, s ∈ domU bo) ∧ closedU bo ∧ (∃ p, resAll P fn s = some p ∧ nrmP p = r) ∧ ∀ t B, lkU bo t = some B → ∃ B', s.b t = some B' ∧ nrmB B' = B
theorem pcm_intro {f : FuncId} {fn : Func} {c : Code} {args : List PV} {bi : BU} {K : List Nat} {Q : PV → BU → Prop} (hf : P.funcs[f]? = some fn) (hb : fn.body = some c) (hcb : callable P f = true) (hlen : args.length ≤ fn.ntmps)
    (hid : ∀ t ∈ K, 1000000 ≤ t) (h : PWP P fn.ntmps c (RetM P fn K Q) ⟨argsT args, lkU bi⟩) : PCm P f args bi K Q := by
  refine ⟨hcb, fun w F ρ vs hi0 hv => ?_⟩
  refine calls_of_wp hf hb ?_
  have hl : vs.size = args.length := by have := hv.len; simpa using this
  have hi1 : Inv ⟨w, blks ρ (lkU bi), regOf ρ bi K⟩ F ρ (lkU bi) w F := by
    refine ⟨⟨hi0.ext.os, hi0.ext.tape, hi0.ext.output, hi0.ext.size, hi0.ext.block⟩, hi0.f0, hi0.flt, hi0.fnew, hi0.box, hi0.dist, fun t q hq => ?_⟩
    have hq : regOf ρ bi K t = some q := hq
    unfold regOf at hq
    split at hq
    · rename_i hk
      split at hq
      · rename_i ty cs hB
        injection hq with hq
        subst hq
        exact ⟨hid t hk, .inr ⟨⟨ty, cs, hB⟩, rfl⟩⟩
      · rename_i e k es hB
        injection hq with hq
        subst hq
        exact ⟨hid t hk, .inr ⟨e, es, hB, Nat.le_refl _, fun _ => rfl⟩⟩
      · cases hq
    · cases hq
  have hc : Conc fn.ntmps ⟨w, blks ρ (lkU bi), regOf ρ bi K⟩ F ⟨argsT args, lkU bi⟩ { tmps := vs ++ Array.replicate (fn.ntmps - vs.size) undef, defers := [] } w := by
    refine ⟨by simp; omega, rfl, ρ, F, hi1, fun i => ?_⟩
    by_cases hi : i < vs.size
    · have e1 : (vs ++ Array.replicate (fn.ntmps - vs.size) undef).getD i undef = vs[i] := by simp [Array.getElem?_append, hi]
      show PRep ρ (lkU bi) w F _ (argsT args i)
      rw [e1]
      have hia : i < args.length := by omega
      unfold argsT
      rw [List.getElem?_eq_getElem hia]
      exact hv.rep i _ _ (by simp [hi]) (List.getElem?_eq_getElem hia)
    · show PRep ρ (lkU bi) w F _ (argsT args i)
      unfold argsT
      rw [List.getElem?_eq_none (by omega)]
      exact .junk _
  refine wp_mono (h ⟨w, blks ρ (lkU bi), regOf ρ bi K⟩ F _ w hc) fun e a' w' ⟨s', ⟨hex, r, bo, hq, hid2, hr, hbo, ⟨p, h1, h2⟩, h3⟩, _, hd, ρ', F', hi, hev⟩ => ?_
  obtain ⟨v, hv1, hv2⟩ := results_ok (P := P) hi hev h1
  have hto : ∀ t ∈ domU bo, (∀ ty cs, s'.b t = some (.st ty cs) → ∃ cs', lkU bo t = some (.st ty cs')) ∧ ∀ e k es, s'.b t = some (.rw e k es) → lkU bo t = some (.rw e k es) := fun t ht => by
    obtain ⟨B, hB⟩ := domU_mem.1 ht
    obtain ⟨B', hB', hn⟩ := h3 t B hB
    refine ⟨fun ty cs k => ?_, fun e k es k1 => ?_⟩
    · rw [hB'] at k
      injection k with k
      subst k
      exact ⟨_, by rw [hB, ← hn]; rfl⟩
    · rw [hB'] at k1
      injection k1 with k1
      subst k1
      rw [hB, ← hn]; rfl
  have hbox : ∀ t B, lkU bo t = some B → BoxAt ρ' (lkU bo) (WM.own ⟨w, blks ρ (lkU bi), fun _ => none⟩) w' F' t B := fun t B hB => by
    obtain ⟨B', hB', rfl⟩ := h3 t B hB
    have hbx := hi.box t B' hB'
    have hcl := hbo t _ hB
    cases hbx with
    | st ty cs g xs hr0 hg hF0 hh hl h1 hr =>
      refine .st ty _ g xs hr0 hg hF0 hh (by rw [nrmPs_len]; exact hl) h1 (fun j x c k1 k2 => ?_)
      obtain ⟨d, k3, rfl⟩ := nrmPs_get cs j c k2
      refine ((hr j x d k1 k3).to fun s hs => hto s (hcl s ?_)).nrmd
      show s ∈ refsPs (nrmPs cs)
      rw [refss_nrm]
      exact refsPs_get k3 hs
    | rw e k es xs hk0 m1 m2 m3 m4 m5 m6 => exact .rw e k es xs hk0 m1 m2 m3 m4 m5 m6
    | gn e k es m1 => exact .gn e k es m1
  have hstp : Stp ρ (keptU bi K) w F ρ' (lkU bo) w' F' := by
    have hk : ∀ t B, keptU bi K t = some B → lkU bi t = some B ∧ t ∈ K ∧ t ∈ domU bo := fun t B ht => by
      unfold keptU at ht
      split at ht
      · rename_i hk; exact ⟨ht, hk, hid2 t hk⟩
      · cases ht
    refine ⟨fun g hg => hi.f0 g hg, fun g hg => ?_, fun t ty cs ht => ?_, fun t e k es ht => ?_⟩
    · exact hi.ext.block g (hi0.flt g hg) fun ⟨t, B, hB, hg2⟩ => ((hi0.box t B hB).lt hg2).2.2 hg
    · obtain ⟨ht, hkt, m1⟩ := hk t _ ht
      have m2 := (hi.reg t (ρ t, none) (by show regOf ρ bi K t = _; unfold regOf; rw [if_pos hkt, ht])).2
      rcases m2 with m2 | ⟨⟨ty', cs', m2⟩, m3⟩
      · obtain ⟨B, hB⟩ := domU_mem.1 m1
        obtain ⟨B', hB', _⟩ := h3 t B hB
        rw [m2] at hB'
        cases hB'
      · obtain ⟨cs2, h5⟩ := (hto t m1).1 _ _ m2
        exact ⟨⟨_, _, h5⟩, m3⟩
    · obtain ⟨ht, hkt, m1⟩ := hk t _ ht
      have m2 := (hi.reg t (ρ t, some (k, es.length)) (by show regOf ρ bi K t = _; unfold regOf; rw [if_pos hkt, ht])).2
      rcases m2 with m2 | ⟨e', es', m2, m3, m4⟩
      · obtain ⟨B, hB⟩ := domU_mem.1 m1
        obtain ⟨B', hB', _⟩ := h3 t B hB
        rw [m2] at hB'
        cases hB'
      · exact ⟨e', es', (hto t m1).2 _ _ _ m2, m3, m4⟩
  have hinv : Inv ⟨w, blks ρ (lkU bi), fun _ => none⟩ F ρ' (lkU bo) w' F' := by
    refine ⟨⟨hi.ext.os, hi.ext.tape, hi.ext.output, hi.ext.size, hi.ext.block⟩, hi.f0, hi.flt, hi.fnew, hbox, fun t t' B B' g k1 k2 hne hg => ?_, fun t q hq => by cases hq⟩
    obtain ⟨_, m1, _⟩ := h3 t B k1
    obtain ⟨_, m2, _⟩ := h3 t' B' k2
    exact hi.dist t t' _ _ g m1 m2 hne hg
  have hres : PRep ρ' (lkU bo) w' F' v r := by
    rw [← h2]
    exact (hv2.to fun s hs => hto s (hr s (by rw [← h2, refs_nrm]; exact hs))).nrmd
  have fin : a'.defers = [] ∧ ∃ v, (results fn a'.tmps).run P w' = .ok v w' ∧ ∃ v' ρ'' F'' r bo, Q r bo ∧ Ending.returned v = .returned v' ∧ Inv ⟨w, blks ρ (lkU bi), fun _ => none⟩ F ρ'' (lkU bo) w' F'' ∧ Stp ρ (keptU bi K) w F ρ'' (lkU bo) w' F'' ∧ PRep ρ'' (lkU bo) w' F'' v' r :=
    ⟨hd, v, hv1, v, ρ', F', r, bo, hq, rfl, hinv, hstp, hres⟩
  cases e with
  | normal => exact fin
  | ret => exact fin
  | exit _ => exact hex.elim
  | goto _ => exact hex.elim
  | panic _ => exact hex.elim
  | outgrown => exact hex.elim
end
end Go.Proofs.Ytjeeclabnimbbaa
