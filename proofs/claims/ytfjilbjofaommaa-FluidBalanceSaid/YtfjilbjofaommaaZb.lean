/-
  The run of closed code as a function: operations, regions, codes, calls. No program.
-/
import Derived.Test.YtfjilbjofaommaaZa
set_option linter.unusedSimpArgs false
set_option linter.unusedVariables false
set_option linter.unusedSectionVars false
namespace Go.Rx
open Go

/-! ### Numbers in normal form -/
noncomputable section
def nN {β : Type} (m : Nat) (K : Nat → β) : β := Nat.rec (motive := fun _ => β) (K 0) (fun m _ => K (Nat.succ m)) m
theorem nN_eq {β : Type} (m : Nat) (K : Nat → β) : nN m K = K m := by cases m <;> rfl
def nI {β : Type} (n : Int) (K : Int → β) : β := match n with | .ofNat m => nN m fun m => K (.ofNat m) | .negSucc m => nN m fun m => K (.negSucc m)
theorem nI_eq {β : Type} (n : Int) (K : Int → β) : nI n K = K n := by cases n <;> simp [nI, nN_eq]

/-! ### From values and to values, where there is no address -/
def ofC : Value → Option LV
  | .bool x => some (.b x)
  | .int k n => nI n fun n => some (.i k n)
  | .string s => some (.s s)
  | .pointer none => some .nilp
  | .slice none 0 0 => some .nils
  | .nilFunc => some .nilf
  | .map none => some .nilm
  | .nilIface => some .nili
  | _ => none
def ofL : List Value → Option (List LV)
  | [] => some []
  | v :: r => match ofC v with
    | some x => (match ofL r with | some l => some (x :: l) | none => none)
    | none => none
def ofV : Value → Option LV
  | .agg a => (match ofL a.toList with | some l => some (.agg l) | none => none)
  | .tuple a => (match ofL a.toList with | some l => some (.tup l) | none => none)
  | v => ofC v
def toC : LV → Option Value
  | .b x => some (.bool x)
  | .i k n => some (.int k n)
  | .s x => some (.string x)
  | .nilp => some (.pointer none)
  | .nils => some (.slice none 0 0)
  | .nilf => some .nilFunc
  | .nilm => some (.map none)
  | .nili => some .nilIface
  | _ => none
def toL : List LV → Option (List Value)
  | [] => some []
  | x :: l => match toC x with
    | some v => (match toL l with | some r => some (v :: r) | none => none)
    | none => none
def toV : LV → Option Value
  | .agg l => (match toL l with | some r => some (.agg r.toArray) | none => none)
  | .tup l => (match toL l with | some r => some (.tuple r.toArray) | none => none)
  | v => toC v
/-- A computation that looks at the program alone. -/
def ofSem {α : Type} (P : Program) : Sem α → Option α
  | .pure a => some a
  | .program k => ofSem P (k P)
  | _ => none

/-! ### Lists -/
def tk : Nat → List LV → Option (List LV)
  | 0, _ => some []
  | _ + 1, [] => none
  | n + 1, x :: l => match tk n l with | some r => some (x :: r) | none => none
def dp : Nat → List LV → List LV
  | 0, l => l
  | _ + 1, [] => []
  | n + 1, _ :: l => dp n l
def ap : List LV → List LV → List LV
  | [], m => m
  | x :: l, m => match ap l m with | [] => [x] | y :: r => x :: y :: r
/-- The cells ys in the place of those from k on. -/
def pt : Nat → List LV → List LV → Option (List LV)
  | 0, l, [] => some l
  | 0, [], _ :: _ => none
  | 0, _ :: l, y :: ys => match pt 0 l ys with | some r => some (y :: r) | none => none
  | _ + 1, [], _ => none
  | k + 1, x :: l, ys => match pt k l ys with | some r => some (x :: r) | none => none
def at? : List LV → Nat → Option LV
  | [], _ => none
  | x :: _, 0 => some x
  | _ :: l, k + 1 => at? l k
def LV.cells : LV → List LV
  | .agg l => l
  | v => [v]
def LV.one : LV → Bool
  | .agg _ | .tup _ => false
  | _ => true
def rep (n : Nat) (z : List LV) : List LV := match n with
  | 0 => []
  | n + 1 => ap z (rep n z)

/-! ### Memory -/
inductive LO where
  | row (t : TypeId) (cs : List LV)
  | gro (t : TypeId) (z : Nat) (cs : List LV)
  | ro (base : Nat) (cs : List LV)
  | loop (st : LoopState) (pend : Option Code) (N : Nat) (T : Tr LV) (ps : Array Tmp) (assign body : Code) (d : Nat)
  | dfr
  deriving Inhabited
abbrev Hp := Tr LO

/-! ### Types -/
def isAg (P : Program) (t : TypeId) : Option Bool := match P.underlying t with
  | some (.struct _) | some (.array _ _) => some true
  | some _ => some false
  | none => none
def szOf (P : Program) (t : TypeId) : Option Nat := match P.info? t with
  | some i => nN i.size some
  | none => none
def zeroOf (P : Program) (t : TypeId) : Option LV := match P.info? t with
  | some i => (match i.zero with | some v => ofV v | none => none)
  | none => none
def fieldOf (P : Program) (t : TypeId) (f : Nat) : Option Field := match P.underlying t with
  | some (.struct fs) => fs[f]?
  | _ => none

/-! ### Operands -/
def evO (T : Tr LV) : Operand → Option LV
  | .tmp t => T.get t
  | .const v => ofV v
  | .func f => some (.fn (.func f) [] [])
  | .global _ => none
def evOs (T : Tr LV) : List Operand → Option (List LV)
  | [] => some []
  | x :: l => match evO T x with
    | some v => (match evOs T l with | some r => some (v :: r) | none => none)
    | none => none

/-! ### Operations that do not look at memory -/
def prt (P : Program) (t : TypeId) (cs : List LV) (off : Nat) : Option LV := match isAg P t with
  | some true => (match szOf P t with | some n => (match tk n (dp off cs) with | some r => some (.agg r) | none => none) | none => none)
  | some false => at? cs off
  | none => none
def mkInt (k : IntKind) (n : Int) : LV := match k with
  | .i64 => (match n with
    | .ofNat m => bif Nat.blt m 9223372036854775808 then nN m fun m => .i k (.ofNat m) else nI (k.wrap (.ofNat m)) fun n => .i k n
    | .negSucc m => bif Nat.blt m 9223372036854775808 then nN m fun m => .i k (.negSucc m) else nI (k.wrap (.negSucc m)) fun n => .i k n)
  | k => nI (k.wrap n) fun n => .i k n
def tf (b : Bool) : LV := match b with | true => .b true | false => .b false
def evGen (P : Program) (op : BinOp) (t : TypeId) (xo yo : Operand) (x y : LV) : Option LV := match toV x, toV y with
  | some a, some b => (match ofSem P (do eqGuard op t xo yo a b; binOp op t a b) with | some v => ofV v | none => none)
  | _, _ => none
def evInt (op : BinOp) (k : IntKind) (a b : Int) : Option LV := match op with
  | .add => some (mkInt k (a + b))
  | .sub => some (mkInt k (a - b))
  | .mul => some (mkInt k (a * b))
  | .eql => some (tf (a == b))
  | .neq => some (tf (a != b))
  | .lss => some (tf (a < b))
  | .leq => some (tf (a ≤ b))
  | .gtr => some (tf (a > b))
  | .geq => some (tf (a ≥ b))
  | _ => none
def isNo (op : BinOp) : Option LV := match op with
  | .eql => some (.b false)
  | .neq => some (.b true)
  | _ => none
def noPtr (P : Program) (op : BinOp) (t : TypeId) : Option LV := match P.underlying t with
  | some (.pointer _) => isNo op
  | _ => none
def noSl (P : Program) (op : BinOp) (t : TypeId) : Option LV := match P.underlying t with
  | some (.slice _) => isNo op
  | _ => none
def evInts (P : Program) (op : BinOp) (t : TypeId) (xo yo : Operand) (k k' : IntKind) (a b : Int) : Option LV :=
  match decide (k = k') with
  | true => (match evInt op k a b with
    | some v => some v
    | none => evGen P op t xo yo (.i k a) (.i k' b))
  | false => evGen P op t xo yo (.i k a) (.i k' b)
def evBin (P : Program) (op : BinOp) (t : TypeId) (xo yo : Operand) (x y : LV) : Option LV :=
  match x, y with
  | .i k a, .i k' b => evInts P op t xo yo k k' a b
  | .p _ _, .nilp => noPtr P op t
  | .nilp, .p _ _ => noPtr P op t
  | .sl _ _ _ _, .nils => noSl P op t
  | .gs _ _ _ _, .nils => noSl P op t
  | x, y => evGen P op t xo yo x y
def places (P : Program) : List Field → Option (List (Nat × Nat))
  | [] => some []
  | f :: fs => match szOf P f.type with
    | some n => (match places P fs with | some r => some ((f.offset, n) :: r) | none => none)
    | none => none
def fill (place : Nat → Option (Nat × Nat)) (cs : List LV) : List (Nat × LV) → Option (List LV)
  | [] => some cs
  | (i, v) :: r => match place i with
    | some (off, n) => bif Nat.beq v.cells.length n then (match pt off cs v.cells with | some cs => fill place cs r | none => none) else none
    | none => none
def parts (T : Tr LV) : List (Nat × Operand) → Option (List (Nat × LV))
  | [] => some []
  | (i, x) :: l => match evO T x with
    | some v => (match parts T l with | some r => some ((i, v) :: r) | none => none)
    | none => none
/-- An index, held against a length. -/
def idx (v : LV) (len : Nat) : Option Nat := match v with
  | .i _ (.ofNat n) => bif Nat.blt n len then some n else none
  | _ => none
def bnd (v : LV) (y : Nat) : Option Nat := match v with
  | .i _ (.ofNat n) => bif Nat.ble n y then nN n some else none
  | _ => none
def bnds (T : Tr LV) (len cap : Nat) (lo hi mx : Option Operand) : Option (Nat × Nat × Nat) :=
  match (match mx with | none => some cap | some x => (match evO T x with | some v => bnd v cap | none => none)) with
  | none => none
  | some m => match (match hi, mx with
      | none, none => some len
      | none, some _ => none
      | some x, none => (match evO T x with | some v => bnd v cap | none => none)
      | some x, some _ => (match evO T x with | some v => bnd v m | none => none)) with
    | none => none
    | some h => match (match lo with | none => some 0 | some x => (match evO T x with | some v => bnd v h | none => none)) with
      | none => none
      | some l => some (l, h, m)
def evSlice (P : Program) (T : Tr LV) (t : TypeId) (x : LV) (lo hi mx : Option Operand) : Option LV :=
  match P.underlying t with
  | some (.slice e) => (match szOf P e with
    | none => none
    | some z => match x with
      | .nils => (match bnds T 0 0 lo hi mx with | some _ => some .nils | none => none)
      | .sl id off len cap => bif Nat.ble len cap then (match bnds T len cap lo hi mx with
        | some (l, h, m) => bif Nat.beq m l then nN (h - l) fun n => some (.sl id off n 0) else nN (off + l * z) fun o => nN (h - l) fun n => nN (m - l) fun c => some (.sl id o n c)
        | none => none) else none
      | .gs id off el len => (match mx with
        | some _ => (match bnds T len len lo hi mx with
          | some (l, h, m) => bif Nat.beq m l then nN (h - l) fun n => some (.sl id off n 0) else nN (off + l * z) fun o => nN (h - l) fun n => nN (m - l) fun c => some (.sl id o n c)
          | none => none)
        | none => (match bnds T len len lo hi none with
          | some (l, h, _) => bif Nat.beq l 0 then nN h fun h => some (.gs id off el h) else bif Nat.blt l len then nN (off + l * z) fun o => nN (el + l) fun e => nN (h - l) fun n => some (.gs id o e n) else none
          | none => none))
      | _ => none)
  | some (.array n e) => (match szOf P e with
    | none => none
    | some z => match x with
      | .p id off => (match bnds T n n lo hi mx with
        | some (l, h, m) => bif Nat.beq m l then nN (h - l) fun n => some (.sl id off n 0) else nN (off + l * z) fun o => nN (h - l) fun n => nN (m - l) fun c => some (.sl id o n c)
        | none => none)
      | _ => none)
  | _ => none
def evPick (T : Tr LV) (c a b : Operand) : Option LV := match evO T c with
  | some (.b true) => evO T a
  | some (.b false) => evO T b
  | _ => none
def evNil (T : Tr LV) (x : Operand) : Option LV := match evO T x with
  | some (.p id off) => some (.p id off)
  | some (.yld id) => some (.yld id)
  | some (.fn (.func f) a c) => some (.fn (.func f) a c)
  | _ => none
def buildAt (P : Program) (t : TypeId) (z : List LV) (l : List (Nat × LV)) : Option (List LV) := match P.underlying t with
  | some (.struct fs) => (match places P fs.toList with
    | some pl => fill (pl[·]?) z l
    | none => none)
  | some (.array _ e) => (match szOf P e with
    | some n => fill (fun i => some (i * n, n)) z l
    | none => none)
  | _ => none
def evBuild (P : Program) (T : Tr LV) (t : TypeId) (ps : Array (Nat × Operand)) : Option LV := match zeroOf P t, parts T ps.toList with
  | some z, some l => (match buildAt P t z.cells l with | some cs => some (.agg cs) | none => none)
  | _, _ => none
def evBinO (P : Program) (T : Tr LV) (op : BinOp) (t : TypeId) (x y : Operand) : Option LV := match evO T x, evO T y with
  | some a, some b => evBin P op t x y a b
  | _, _ => none
def evUn (P : Program) (T : Tr LV) (op : UnOp) (x : Operand) : Option LV := match evO T x with
  | some a => (match toV a with | some a => (match ofSem P (Op.unary op a) with | some v => ofV v | none => none) | none => none)
  | none => none
def evConv (P : Program) (T : Tr LV) (s d : TypeId) (x : Operand) : Option LV := match evO T x with
  | some a => (match toV a with | some a => (match ofSem P (convert s d a) with | some v => ofV v | none => none) | none => none)
  | none => none
def evMkFn (T : Tr LV) (f : FuncId) (a c : Array Operand) : Option LV := match evOs T a.toList, evOs T c.toList with
  | some a, some c => some (.fn (.func f) a c)
  | _, _ => none
def evMkIf (P : Program) (T : Tr LV) (t : TypeId) (x : Operand) : Option LV := match P.underlying t, evO T x with
  | some (.interface _), _ => none
  | some _, some v => some (.ifc t v)
  | _, _ => none
def evField (P : Program) (T : Tr LV) (t : TypeId) (x : Operand) (f : Nat) : Option LV := match evO T x with
  | some (.agg cs) => (match fieldOf P t f with | some f => prt P f.type cs f.offset | none => none)
  | _ => none
def evIdxA (P : Program) (T : Tr LV) (n : Nat) (e : TypeId) (x ix : Operand) : Option LV := match evO T x, evO T ix with
  | some (.agg cs), some i => (match idx i n, szOf P e with | some i, some z => prt P e cs (i * z) | _, _ => none)
  | _, _ => none
def evIdxS (T : Tr LV) (x ix : Operand) : Option LV := match evO T x, evO T ix with
  | some (.s s), some (.i _ (.ofNat i)) => (match s[i]? with | some b => nN b.toNat fun n => some (.i .u8 (.ofNat n)) | none => none)
  | _, _ => none
def evIndex (P : Program) (T : Tr LV) (t : TypeId) (x ix : Operand) : Option LV := match P.underlying t with
  | some (.array n e) => evIdxA P T n e x ix
  | some .string => evIdxS T x ix
  | _ => none
def evFAddr (P : Program) (T : Tr LV) (t : TypeId) (x : Operand) (f : Nat) : Option LV := match evO T x, fieldOf P t f with
  | some (.p id off), some f => (match szOf P f.type with | some (_ + 1) => nN (off + f.offset) fun o => some (.p id o) | _ => none)
  | _, _ => none
def addr (id off : Nat) : Option Nat → Option Nat → Option LV
  | some i, some z => nN (off + i * z) fun o => some (.p id o)
  | _, _ => none
def evIAddr (P : Program) (T : Tr LV) (t : TypeId) (x ix : Operand) : Option LV := match evO T x, evO T ix with
  | some (.sl id off len _), some i => (match P.underlying t with | some (.slice e) => addr id off (idx i len) (szOf P e) | _ => none)
  | some (.gs id off _ len), some i => (match P.underlying t with | some (.slice e) => addr id off (idx i len) (szOf P e) | _ => none)
  | some (.p id off), some i => (match P.underlying t with | some (.array n e) => addr id off (idx i n) (szOf P e) | _ => none)
  | _, _ => none
def evSliceO (P : Program) (T : Tr LV) (t : TypeId) (x : Operand) (lo hi mx : Option Operand) : Option LV := match evO T x with
  | some v => evSlice P T t v lo hi mx
  | none => none
def evExtract (T : Tr LV) (x : Operand) (k : Nat) : Option LV := match evO T x with
  | some (.tup l) => at? l k
  | _ => none
def evPure (P : Program) (T : Tr LV) : Op → Option LV
  | .move x => evO T x
  | .assign x => evO T x
  | .pick c a b => evPick T c a b
  | .nilCheck x => evNil T x
  | .build t ps => evBuild P T t ps
  | .binOp op t x y _ => evBinO P T op t x y
  | .unOp op _ x => evUn P T op x
  | .convert s d x => evConv P T s d x
  | .makeFunc (.func f) a c => evMkFn T f a c
  | .makeInterface t x => evMkIf P T t x
  | .field t x f => evField P T t x f
  | .index t x ix => evIndex P T t x ix
  | .fieldAddr t x f => evFAddr P T t x f
  | .indexAddr t x ix => evIAddr P T t x ix
  | .slice t x lo hi mx => evSliceO P T t x lo hi mx
  | .extract x k => evExtract T x k
  | _ => none
end
end Go.Rx
