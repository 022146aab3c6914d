/-
  A symbolic run of code, in continuations: integers, truth values and lists are letters of an algebra; addresses are names. Definitions. No program.
-/
import Derived.Test.YtfjilbjofaommaaZc
set_option linter.unusedSimpArgs false
set_option linter.unusedVariables false
set_option linter.unusedSectionVars false
namespace Go.Rx
open Go

inductive CK where
  | int (k : IntKind)
  | bool
  deriving DecidableEq, Inhabited
/-- A table that is written at its head, so that its tail may be a letter. -/
inductive Al (α : Type) where
  | l
  | c (k : Nat) (v : Option α) (r : Al α)
def Al.get {α : Type} : Al α → Nat → Option α
  | .l, _ => none
  | .c k v r, j => match Nat.beq j k with | true => v | false => r.get j
def Al.set {α : Type} (t : Al α) (k : Nat) (v : Option α) : Al α := .c k v t
def Al.force {α β : Type} (t : Al α) (K : Al α → β) : β := K t
/-- What the run reckons with, and what it gives. -/
structure Alg where
  I : Type
  B : Type
  L : Type
  R : Type
  lit : Int → I
  ofB : Bool → B
  bin : BinOp → IntKind → I → I → (I → R) → R
  un : UnOp → IntKind → I → (I → R) → R
  sh : BinOp → IntKind → I → I → (I → R) → R
  conv : IntKind → I → (I → R) → R
  cmp : BinOp → I → I → B
  not : B → B
  and : B → B → B
  iff : B → B → B
  min : I → I → I
  max : I → I → I
  br : B → (Unit → R) → (Unit → R) → R
  need : BinOp → I → I → R → R
  fail : String → R
  len : L → I
  get : L → I → Nat → I
  getB : L → I → Nat → B
  set : L → I → Nat → I → L
  setB : L → I → Nat → B → L
  nil : L
  row : List (I ⊕ B) → L
  cat : L → L → L
  app : Nat → List L → List I → I
  appB : Nat → List L → List I → B
  appL : Nat → List L → List I → L

inductive SV (A : Alg) where
  | b (x : A.B)
  | i (k : IntKind) (n : A.I)
  | s (x : ByteArray)
  | nilp
  | p (id off : Nat)
  | pe (id z : Nat) (i : A.I) (j : Nat)
  | nils
  | sl (id off len cap : Nat)
  | ls (own : Bool) (id : Nat) (n : A.I)
  | fn (f : FuncId) (first cap : List (SV A))
  | yld (id : Nat)
  | nilf
  | nili
  | agg (l : List (SV A))
  | tup (l : List (SV A))
/-- A block: cells; a list; the frame of a range over a function (its function, its path, whether a round runs, its exit). -/
inductive SO (A : Alg) where
  | row (t : TypeId) (cs : List (SV A))
  | list (t : TypeId) (ks : List CK) (own : Bool) (h : A.L)
  | frm (g : FuncId) (p : List Bool) (N : Nat) (T : Al (SV A)) (busy : Bool) (e : Ex)
structure SS (A : Alg) where
  T : Al (SV A)
  N : Nat
  H : Al (SO A)
  nx : Nat
  wr : List Nat
abbrev SH (A : Alg) := Al (SO A)
abbrev CallS (A : Alg) := Tg → List (SV A) → SH A → Nat → (SV A → SH A → Nat → List Nat → A.R) → A.R
abbrev KS (A : Alg) := SV A → SH A → Nat → List Nat → A.R

variable {A : Alg}
noncomputable section
instance : Inhabited (SV A) := ⟨.nilp⟩

/-! ### Lists -/
def gtk {α : Type} : Nat → List α → Option (List α)
  | 0, _ => some []
  | _ + 1, [] => none
  | n + 1, x :: l => match gtk n l with | some r => some (x :: r) | none => none
def gpt {α : Type} : Nat → List α → List α → Option (List α)
  | 0, l, [] => some l
  | 0, [], _ :: _ => none
  | 0, _ :: l, y :: ys => match gpt 0 l ys with | some r => some (y :: r) | none => none
  | _ + 1, [], _ => none
  | k + 1, x :: l, ys => match gpt k l ys with | some r => some (x :: r) | none => none
def SV.cells : SV A → List (SV A)
  | .agg l => l
  | v => [v]
def SV.one : SV A → Bool
  | .agg _ | .tup _ => false
  | _ => true
def sAllOne : List (SV A) → Bool
  | [] => true
  | x :: l => match x.one with | true => sAllOne l | false => false
def sRep (n : Nat) (z : List (SV A)) : List (SV A) := match n with
  | 0 => []
  | n + 1 => z ++ sRep n z

/-! ### Constants, operands -/
def sC : Value → Option (SV A)
  | .bool x => some (.b (A.ofB x))
  | .int k n => some (.i k (A.lit n))
  | .string x => some (.s x)
  | .pointer none => some .nilp
  | .slice none 0 0 => some .nils
  | .nilFunc => some .nilf
  | .nilIface => some .nili
  | _ => none
def sL : List Value → Option (List (SV A))
  | [] => some []
  | v :: r => match sC v with
    | some x => (match sL r with | some l => some (x :: l) | none => none)
    | none => none
def sV : Value → Option (SV A)
  | .agg a => (match sL a.toList with | some l => some (.agg l) | none => none)
  | .tuple a => (match sL a.toList with | some l => some (.tup l) | none => none)
  | v => sC v
def sO (T : Al (SV A)) : Operand → Option (SV A)
  | .tmp t => T.get t
  | .const v => sV v
  | .func f => some (.fn f [] [])
  | .global _ => none
def sOs (T : Al (SV A)) : List Operand → Option (List (SV A))
  | [] => some []
  | x :: l => match sO T x with
    | some v => (match sOs T l with | some r => some (v :: r) | none => none)
    | none => none
def sZero (P : Program) (t : TypeId) : Option (SV A) := match P.info? t with
  | some i => (match i.zero with | some v => sV v | none => none)
  | none => none
def sPrt (P : Program) (t : TypeId) (cs : List (SV A)) (off : Nat) : Option (SV A) := match isAg P t with
  | some true => (match szOf P t with | some n => (match gtk n (cs.drop off) with | some r => some (.agg r) | none => none) | none => none)
  | some false => cs[off]?
  | none => none
def sPartsO (T : Al (SV A)) : List (Nat × Operand) → Option (List (Nat × SV A))
  | [] => some []
  | (i, x) :: l => match sO T x with
    | some v => (match sPartsO T l with | some r => some ((i, v) :: r) | none => none)
    | none => none
def sFill (place : Nat → Option (Nat × Nat)) (cs : List (SV A)) : List (Nat × SV A) → Option (List (SV A))
  | [] => some cs
  | (i, v) :: r => match place i with
    | some (off, n) => bif Nat.beq v.cells.length n then (match gpt off cs v.cells with | some cs => sFill place cs r | none => none) else none
    | none => none
def sBuildAt (P : Program) (t : TypeId) (z : List (SV A)) (l : List (Nat × SV A)) : Option (List (SV A)) := match P.underlying t with
  | some (.struct fs) => (match places P fs.toList with
    | some pl => sFill (pl[·]?) z l
    | none => none)
  | some (.array _ e) => (match szOf P e with
    | some n => sFill (fun i => some (i * n, n)) z l
    | none => none)
  | _ => none

/-! ### Operations that do not look at memory -/
def opt (x : Option (SV A)) (why : String) (K : SV A → A.R) : A.R := match x with | some v => K v | none => A.fail why
def eqAt (P : Program) (t : TypeId) (x y : SV A) : Option A.B := match P.underlying t, x, y with
  | some (.int _), .i k a, .i k' b => bif decide (k = k') then some (A.cmp .eql a b) else none
  | some .bool, .b x, .b y => some (A.iff x y)
  | _, _, _ => none
def eqFs (P : Program) : List Field → List (SV A) → List (SV A) → Option A.B
  | [], [], [] => some (A.ofB true)
  | f :: fs, x :: l, y :: r => match eqAt P f.type x y with
    | some u => (match fs with
      | [] => (match l, r with | [], [] => some u | _, _ => none)
      | fs => (match eqFs P fs l r with | some w => some (A.and u w) | none => none))
    | none => none
  | _, _, _ => none
def sEq (neg : Bool) (x : Option A.B) (K : SV A → A.R) : A.R := match x with
  | some u => bif neg then K (.b (A.not u)) else K (.b u)
  | none => A.fail "eq"
def sInt (op : BinOp) (k : IntKind) (a b : A.I) (K : SV A → A.R) : A.R := match op with
  | .add | .sub | .mul | .quo | .rem | .and | .or | .xor | .andNot => A.bin op k a b fun n => K (.i k n)
  | .shl | .shr => A.fail "shift"
  | op => K (.b (A.cmp op a b))
/-- Fields of one cell each, none of them blank. -/
def flatFs : Nat → List Field → Bool
  | _, [] => true
  | o, f :: fs => Nat.beq f.offset o && f.name != "_" && flatFs (o + 1) fs
def eqAgg (P : Program) (t : TypeId) (l r : List (SV A)) : Option A.B := match P.underlying t with
  | some (.struct fs) => bif flatFs 0 fs.toList && !(P.stoodInHeld t) && !(P.eqGuardType P.depth t) then eqFs P fs.toList l r else none
  | _ => none
def sBin (P : Program) (op : BinOp) (t : TypeId) (x y : SV A) (K : SV A → A.R) : A.R := match op, x, y with
  | .shl, .i k a, .i _ b => A.sh .shl k a b fun n => K (.i k n)
  | .shr, .i k a, .i _ b => A.sh .shr k a b fun n => K (.i k n)
  | op, .i k a, .i k' b => bif decide (k = k') then sInt op k a b K else A.fail "kinds"
  | .eql, .b x, .b y => sEq false (eqAt P t (.b x) (.b y)) K
  | .neq, .b x, .b y => sEq true (eqAt P t (.b x) (.b y)) K
  | .eql, .agg l, .agg r => sEq false (eqAgg P t l r) K
  | .neq, .agg l, .agg r => sEq true (eqAgg P t l r) K
  | _, _, _ => A.fail "bin"
def sUn (op : UnOp) (x : SV A) (K : SV A → A.R) : A.R := match op, x with
  | .not, .b x => K (.b (A.not x))
  | .neg, .i k n => A.un .neg k n fun n => K (.i k n)
  | .xor, .i k n => A.un .xor k n fun n => K (.i k n)
  | _, _ => A.fail "un"
def sConv (P : Program) (s d : TypeId) (x : SV A) (K : SV A → A.R) : A.R := match P.underlying s, P.underlying d, x with
  | some (.int _), some (.int k), .i _ n => A.conv k n fun n => K (.i k n)
  | _, _, _ => A.fail "conv"
/-- All values that an index below a given number may have. -/
def fan (n : A.I) (K : Nat → A.R) : Nat → Nat → A.R
  | 0, _ => A.fail "index"
  | 1, j => K j
  | m + 2, j => A.br (A.cmp .eql n (A.lit j)) (fun _ => K j) (fun _ => fan n K (m + 1) (j + 1))
def inLen (i n : A.I) (r : A.R) : A.R := A.need .leq (A.lit 0) i (A.need .lss i n r)
def sIdx (v : SV A) (len : Nat) (K : Nat → A.R) : A.R := match v with
  | .i _ n => inLen n (A.lit len) (fan n K len 0)
  | _ => A.fail "idx"
def sIAddr (P : Program) (t : TypeId) (x ix : SV A) (K : SV A → A.R) : A.R := match P.underlying t, x, ix with
  | some (.slice e), .sl id off len _, ix => (match szOf P e with
    | some z => sIdx ix len fun i => K (.p id (off + i * z))
    | none => A.fail "iaddr")
  | some (.slice e), .ls _ id n, .i _ i => (match szOf P e with
    | some z => inLen i n (K (.pe id z i 0))
    | none => A.fail "iaddr")
  | some (.array n e), .p id off, ix => (match szOf P e with
    | some z => sIdx ix n fun i => K (.p id (off + i * z))
    | none => A.fail "iaddr")
  | _, _, _ => A.fail "iaddr"
def sFAddr (P : Program) (t : TypeId) (x : SV A) (f : Nat) : Option (SV A) := match x, fieldOf P t f with
  | .p id off, some f => (match szOf P f.type with | some (_ + 1) => some (.p id (off + f.offset)) | _ => none)
  | .pe id z i j, some f => (match szOf P f.type with | some (_ + 1) => some (.pe id z i (j + f.offset)) | _ => none)
  | _, _ => none
def sField (P : Program) (t : TypeId) (x : SV A) (f : Nat) : Option (SV A) := match x with
  | .agg cs => (match fieldOf P t f with | some f => sPrt P f.type cs f.offset | none => none)
  | _ => none
def sIndexA (P : Program) (t : TypeId) (x ix : SV A) (K : SV A → A.R) : A.R := match P.underlying t, x with
  | some (.array n e), .agg cs => (match szOf P e with
    | some z => sIdx ix n fun i => opt (sPrt P e cs (i * z)) "index" K
    | none => A.fail "index")
  | _, _ => A.fail "index"
def sNil (x : SV A) : Option (SV A) := match x with
  | .p id off => some (.p id off)
  | .pe id z i j => some (.pe id z i j)
  | .fn f a c => some (.fn f a c)
  | .yld id => some (.yld id)
  | _ => none
def sPick (T : Al (SV A)) (c a b : Operand) (K : SV A → A.R) : A.R := match sO T c with
  | some (.b x) => A.br x (fun _ => opt (sO T a) "pick" K) (fun _ => opt (sO T b) "pick" K)
  | _ => A.fail "pick"
def o2 (x y : Option (SV A)) (why : String) (K : SV A → SV A → A.R) : A.R := match x, y with | some v, some w => K v w | _, _ => A.fail why
/-- A slice of a whole array. -/
def sSlice (P : Program) (t : TypeId) (x : SV A) (lo hi mx : Option Operand) : Option (SV A) := match P.underlying t, x, lo, hi, mx with
  | some (.array n e), .p id off, none, none, none => (match szOf P e with | some z => bif Nat.beq n 0 then none else some (.sl id off n n) | none => none)
  | some (.slice e), .ls w id n, none, none, none => (match szOf P e with | some _ => some (.ls w id n) | none => none)
  | some (.slice e), .sl id off (len + 1) cap, none, none, none => (match szOf P e with | some _ => bif Nat.ble (len + 1) cap then some (.sl id off (len + 1) cap) else none | none => none)
  | _, _, _, _, _ => none
def sPure (P : Program) (T : Al (SV A)) (op : Op) (K : SV A → A.R) : A.R := match op with
  | .move x => opt (sO T x) "move" K
  | .assign x => opt (sO T x) "assign" K
  | .pick c a b => sPick T c a b K
  | .nilCheck x => opt (match sO T x with | some v => sNil v | none => none) "nil" K
  | .build t ps => opt (match sZero P t, sPartsO T ps.toList with
    | some z, some l => (match sBuildAt P t z.cells l with | some cs => some (.agg cs) | none => none)
    | _, _ => none) "build" K
  | .binOp op t x y _ => o2 (sO T x) (sO T y) "bin" fun a b => sBin P op t a b K
  | .unOp op _ x => (match sO T x with | some a => sUn op a K | none => A.fail "un")
  | .convert s d x => (match sO T x with | some a => sConv P s d a K | none => A.fail "conv")
  | .makeFunc (.func f) a c => (match sOs T a.toList, sOs T c.toList with
    | some a, some c => K (.fn f a c)
    | _, _ => A.fail "func")
  | .field t x f => opt (match sO T x with | some v => sField P t v f | none => none) "field" K
  | .index t x ix => o2 (sO T x) (sO T ix) "index" fun a b => sIndexA P t a b K
  | .fieldAddr t x f => opt (match sO T x with | some v => sFAddr P t v f | none => none) "faddr" K
  | .indexAddr t x ix => o2 (sO T x) (sO T ix) "iaddr" fun a b => sIAddr P t a b K
  | .slice t x lo hi mx => opt (match sO T x with | some v => sSlice P t v lo hi mx | none => none) "slice" K
  | .extract x k => opt (match sO T x with | some (.tup l) => l[k]? | _ => none) "extract" K
  | _ => A.fail "op"

/-! ### Memory -/
def cellAt (ks : List CK) (h : A.L) (i : A.I) (j : Nat) : Option (SV A) := match ks[j]? with
  | some (.int k) => some (.i k (A.get h i j))
  | some .bool => some (.b (A.getB h i j))
  | none => none
def cellsAt (ks : List CK) (h : A.L) (i : A.I) : Nat → Nat → Option (List (SV A))
  | 0, _ => some []
  | n + 1, j => match cellAt ks h i j with
    | some v => (match cellsAt ks h i n (j + 1) with | some r => some (v :: r) | none => none)
    | none => none
def elemAt (P : Program) (t : TypeId) (ks : List CK) (h : A.L) (i : A.I) (j : Nat) : Option (SV A) := match isAg P t with
  | some true => (match szOf P t with | some n => (match cellsAt ks h i n j with | some r => some (.agg r) | none => none) | none => none)
  | some false => cellAt ks h i j
  | none => none
def sLoad (P : Program) (T : Al (SV A)) (H : SH A) (nx : Nat) (t : TypeId) (x : Operand) (K : KS A) : A.R := match sO T x with
  | some (.p id off) => (match H.get id with
    | some (.row _ cs) => opt (sPrt P t cs off) "load" fun v => K v H nx []
    | _ => A.fail "load")
  | some (.pe id z i j) => (match H.get id with
    | some (.list _ ks _ h) => bif Nat.beq ks.length z then A.need .lss i (A.len h) (opt (elemAt P t ks h i j) "load" fun v => K v H nx []) else A.fail "load"
    | _ => A.fail "load")
  | _ => A.fail "load"
def setAt (ks : List CK) (h : A.L) (i : A.I) (j : Nat) (v : SV A) : Option A.L := match ks[j]?, v with
  | some (.int k), .i k' n => bif decide (k = k') then some (A.set h i j n) else none
  | some .bool, .b x => some (A.setB h i j x)
  | _, _ => none
def setsAt (ks : List CK) (h : A.L) (i : A.I) : Nat → List (SV A) → Option A.L
  | _, [] => some h
  | j, v :: l => match setAt ks h i j v with
    | some h => setsAt ks h i (j + 1) l
    | none => none
def sStore (P : Program) (T : Al (SV A)) (H : SH A) (nx : Nat) (t : TypeId) (x y : Operand) (K : KS A) : A.R := match sO T x, sO T y, szOf P t with
  | some (.p id off), some v, some n => (match H.get id with
    | some (.row u cs) => bif Nat.beq v.cells.length n && sAllOne v.cells then (match gpt off cs v.cells with
      | some cs => (H.set id (some (.row u cs))).force fun H => K (.tup []) H nx [id]
      | none => A.fail "store") else A.fail "store"
    | _ => A.fail "store")
  | some (.pe id z i j), some v, some n => (match H.get id with
    | some (.list u ks true h) => bif Nat.beq ks.length z && (Nat.beq v.cells.length n && Nat.blt 0 n) then A.need .lss i (A.len h) (match setsAt ks h i j v.cells with
      | some h => (H.set id (some (.list u ks true h))).force fun H => K (.tup []) H nx [id]
      | none => A.fail "store") else A.fail "store"
    | _ => A.fail "store")
  | _, _, _ => A.fail "store"
def sFresh (H : SH A) (nx : Nat) (o : SO A) (v : SV A) (wr : List Nat) (K : KS A) : A.R := (H.set nx (some o)).force fun H => K v H (nx + 1) wr
def kindOf (P : Program) (t : TypeId) : Option CK := match P.underlying t with
  | some (.int k) => some (.int k)
  | some .bool => some .bool
  | _ => none
def kindsOf (P : Program) : List Field → Option (List CK)
  | [] => some []
  | f :: fs => match kindOf P f.type with
    | some k => (match kindsOf P fs with | some r => some (k :: r) | none => none)
    | none => none
/-- The cells of an element, where it is an integer or a struct of such. -/
def kinds (P : Program) (e : TypeId) : Option (List CK) := match P.underlying e with
  | some (.struct fs) => kindsOf P fs.toList
  | _ => (match kindOf P e with | some k => some [k] | none => none)
def rowOf : List CK → List (SV A) → Option (List (A.I ⊕ A.B))
  | [], [] => some []
  | .int k :: ks, .i k' n :: l => bif decide (k = k') then (match rowOf ks l with | some r => some (.inl n :: r) | none => none) else none
  | .bool :: ks, .b x :: l => (match rowOf ks l with | some r => some (.inr x :: r) | none => none)
  | _, _ => none
/-- m elements of cells, as a list. -/
def rowsOf (ks : List CK) : Nat → List (SV A) → Option A.L
  | 0, _ => some A.nil
  | m + 1, cs => match gtk ks.length cs with
    | some r => (match rowOf ks r, rowsOf ks m (cs.drop ks.length) with
      | some x, some h => (match m with | 0 => some (A.row x) | _ => some (A.cat (A.row x) h))
      | _, _ => none)
    | none => none
def room (h : A.L) (r : A.R) : A.R := A.need .leq (A.len h) (A.lit 1000000) r
/-- What is to be appended: a list, its length. -/
def sMore (H : SH A) (ks : List CK) : SV A → Option A.L
  | .sl id off (len + 1) _ => (match H.get id with
    | some (.row _ cs) => rowsOf ks (len + 1) (cs.drop off)
    | _ => none)
  | _ => none
def sGrow (H : SH A) (nx id : Nat) (e : TypeId) (ks : List CK) (h : A.L) (K : KS A) : A.R := room h ((H.set id none).force fun H => sFresh H nx (.list e ks true h) (.ls true nx (A.len h)) [id] K)
def sNew (H : SH A) (nx : Nat) (e : TypeId) (ks : List CK) (h : A.L) (K : KS A) : A.R := room h (sFresh H nx (.list e ks true h) (.ls true nx (A.len h)) [] K)
def zeroFits (i : TypeInfo) : Bool := match i.zero with | some zv => Nat.beq zv.cells.size i.size | none => false
/-- Behind an append of some elements. -/
def sAppNe (i : TypeInfo) (e : TypeId) (ks : List CK) (s : SV A) (H : SH A) (nx : Nat) (h : A.L) (K : KS A) : A.R := match s with
  | .nils => sNew H nx e ks h K
  | .sl _ _ 0 0 => sNew H nx e ks h K
  | .ls true id n => (match H.get id with
    | some (.list e' ks' true g) => bif Nat.beq e' e && decide (ks' = ks) then A.need .eql n (A.len g) (sGrow H nx id e ks (A.cat g h) K) else A.fail "append"
    | _ => A.fail "append")
  | .sl id 0 (len + 1) cap => (match H.get id with
    | some (.row e' cs) => bif Nat.beq e' e && Nat.beq cs.length (cap * i.size) && Nat.ble (len + 1) cap && Nat.ble cap 1000000 then (match rowsOf ks (len + 1) cs with
      | some g => (match Nat.beq (len + 1) cap with | true => sNew H nx e ks (A.cat g h) K | false => sGrow H nx id e ks (A.cat g h) K)
      | none => A.fail "append") else A.fail "append"
    | _ => A.fail "append")
  | _ => A.fail "append"
def appOk : SV A → Bool
  | .nils => true
  | .ls _ _ _ => true
  | .sl _ _ len cap => Nat.ble len cap
  | _ => false
def sAppend (P : Program) (t : TypeId) (s x : SV A) (H : SH A) (nx : Nat) (K : KS A) : A.R := match P.underlying t with
  | some (.slice e) => (match P.info? e, kinds P e with
    | some i, some ks => bif Nat.beq ks.length i.size && Nat.blt 0 i.size && Nat.ble i.bytes 140737488 && zeroFits i then (match x with
      | .ls _ id n => (match H.get id with
        | some (.list _ ks' _ h) => bif decide (ks' = ks) && appOk s then A.need .eql n (A.len h) (A.br (A.cmp .eql n (A.lit 0)) (fun _ => K s H nx []) (fun _ => sAppNe i e ks s H nx h K)) else A.fail "append"
        | _ => A.fail "append")
      | x => (match sMore H ks x with
        | some h => sAppNe i e ks s H nx h K
        | none => A.fail "append")) else A.fail "append"
    | _, _ => A.fail "append")
  | _ => A.fail "append"
/-- An argument that is a slice of elements of given kinds: its list, its length. -/
def lsArg (H : SH A) (ks : List CK) : SV A → Option (A.L × A.I)
  | .nils => some (A.nil, A.len A.nil)
  | .ls _ id n => (match H.get id with
    | some (.list _ ks' _ h) => bif decide (ks' = ks) then some (h, n) else none
    | _ => none)
  | .sl id off len cap => (match H.get id with
    | some (.row _ cs) => bif Nat.ble len cap then (match rowsOf ks len (cs.drop off) with | some h => some (h, A.len h) | none => none) else none
    | _ => none)
  | _ => none
def foldS (f : A.I → A.I → A.I) (k : IntKind) (x : A.I) : List (SV A) → Option (SV A)
  | [] => some (.i k x)
  | .i k' y :: l => bif decide (k = k') then foldS f k (f x y) l else none
  | _ :: _ => none
def sBuiltin (P : Program) (b : Builtin) (ts : List TypeId) (args : List (SV A)) (H : SH A) (nx : Nat) (K : KS A) : A.R := match b, ts, args with
  | .len, [t], [x] => (match P.underlying t, x with
    | some (.slice _), .nils => K (.i .i64 (A.lit 0)) H nx []
    | some (.slice _), .sl _ _ len _ => K (.i .i64 (A.lit len)) H nx []
    | some (.slice _), .ls _ _ n => K (.i .i64 n) H nx []
    | some (.array n _), _ => K (.i .i64 (A.lit n)) H nx []
    | _, _ => A.fail "len")
  | .min, _, .i k x :: l => opt (foldS A.min k x l) "min" fun v => K v H nx []
  | .max, _, .i k x :: l => opt (foldS A.max k x l) "max" fun v => K v H nx []
  | .append, [t, u], [s, x] => bif Nat.beq t u then sAppend P t s x H nx K else A.fail "append"
  | _, _, _ => A.fail "builtin"
def sBuildSl (P : Program) (T : Al (SV A)) (H : SH A) (nx : Nat) (t : TypeId) (len : Nat) (ps : Array (Nat × Operand)) (K : KS A) : A.R := match P.underlying t with
  | some (.slice e) => (match sZero P e, szOf P e, sPartsO T ps.toList with
    | some z, some n, some l => bif Nat.beq z.cells.length n && Nat.blt 0 n && Nat.ble (len * n) 16777216 then
        (match sFill (fun i => some (i * n, n)) (sRep len z.cells) l with
          | some cs => sFresh H nx (.row e cs) (.sl nx 0 len len) [] K
          | none => A.fail "slice") else A.fail "slice"
    | _, _, _ => A.fail "slice")
  | _ => A.fail "slice"
def noY : List (SV A) → Bool
  | .yld _ :: _ => false
  | _ => true
/-- No call of a function that a range has made. -/
def noR (call : CallS A) : CallS A := fun tg args H nx K => match tg with
  | .f g => call (.f g) args H nx K
  | .r _ => A.fail "yield in a region that draws"
def sCallee (P : Program) (call : CallS A) (T : Al (SV A)) (H : SH A) (nx : Nat) (c : Call) (K : KS A) : A.R := match c.callee with
  | .value f => (match sOs T c.args.toList, sO T f with
    | some args, some (.fn g a cap) => (match noY (a ++ (args ++ cap)) with | true => call (.f g) (a ++ (args ++ cap)) H nx K | false => A.fail "yield is handed on")
    | some args, some (.yld id) => call (.r id) args H nx K
    | _, _ => A.fail "call")
  | .builtin b => (match sOs T c.args.toList with
    | some args => sBuiltin P b c.argTypes.toList args H nx K
    | none => A.fail "builtin")
  | .invoke _ _ => A.fail "invoke"
def sOp (P : Program) (call : CallS A) (T : Al (SV A)) (H : SH A) (nx : Nat) (op : Op) (K : KS A) : A.R := match op with
  | .load t x => sLoad P T H nx t x K
  | .store t x y => sStore P T H nx t x y K
  | .alloc t => (match sZero P t with | some z => sFresh H nx (.row t z.cells) (.p nx 0) [] K | none => A.fail "alloc")
  | .box t x => (match sO T x with | some v => sFresh H nx (.row t v.cells) (.p nx 0) [] K | none => A.fail "box")
  | .buildSlice t len ps => sBuildSl P T H nx t len ps K
  | .call c => sCallee P call T H nx c K
  | op => sPure P T op fun v => K v H nx []

/-! ### Regions -/
def sPut (T : Al (SV A)) (N : Nat) (dst : Option Tmp) (v : SV A) (K : Al (SV A) → A.R) : A.R := match dst with
  | none => K T
  | some d => bif Nat.blt d N then (T.set d (some v)).force K else A.fail "put"
def sWant (ops : Array Oper) (T : Al (SV A)) (o : Oper) (yes no : Al (SV A) → A.R) : A.R := match o.guard with
  | none => yes T
  | some (j, w) => match (ops[j]?).bind (·.dst) with
    | none => no T
    | some d => match T.get d with
      | some (.b x) => A.br x (fun _ => (T.set d (some (.b (A.ofB true)))).force fun T => match w with | true => yes T | false => no T) (fun _ => (T.set d (some (.b (A.ofB false)))).force fun T => match w with | true => no T | false => yes T)
      | some (.tup []) => no T
      | _ => A.fail "want"
def sOps (P : Program) (call : CallS A) (ops : Array Oper) : List Oper → SS A → (SS A → A.R) → A.R
  | [], s, K => K s
  | o :: rest, ⟨T, N, H, nx, wr⟩, K => sWant ops T o
      (fun T => sOp P call T H nx o.op fun v H nx' wr' => sPut T N o.dst v fun T => sOps P call ops rest ⟨T, N, H, nx', addW wr' wr⟩ K)
      (fun T => sPut T N o.dst (.tup []) fun T => sOps P call ops rest ⟨T, N, H, nx, wr⟩ K)
def SO.mine : SO A → Bool
  | .row _ _ => true
  | .list _ _ own _ => own
  | .frm _ _ _ _ _ _ => true
/-- Does an operation look at memory? Where it is a load or a store, at which name? -/
def looks (T : Al (SV A)) : Op → Option (Option Nat)
  | .load _ x => (match sO T x with | some (.p id _) => some (some id) | some (.pe id _ _ _) => some (some id) | _ => some none)
  | .store _ x _ => (match sO T x with | some (.p id _) => some (some id) | some (.pe id _ _ _) => some (some id) | _ => some none)
  | .call { callee := .value _, .. } => some none
  | .call { callee := .builtin .append, .. } => some none
  | _ => none
/-- In a region that draws: what operation k has looked at, written, which names it has made. -/
structure DE where
  k : Nat
  lk : Option (Option Nat)
  wr : Option (Option Nat)
  lo : Nat
  hi : Nat
def addE (k : Nat) (lk wr : Option (Option Nat)) (lo hi : Nat) (es : List DE) : List DE := match lk, Nat.beq lo hi with
  | none, true => es
  | _, _ => ⟨k, lk, wr, lo, hi⟩ :: es
def SH.here (H : SH A) (j : Nat) : Bool := match H.get j with | some _ => true | none => false
def SH.ours (H : SH A) (j : Nat) : Bool := match H.get j with | some o => o.mine | none => false
/-- None of those operations that may come behind this one has written or made the block at which it looks. -/
def seesOne (H : SH A) (m id : Nat) : List DE → Bool
  | [] => true
  | ⟨k, _, wr, lo, hi⟩ :: r => (match Nat.testBit m k with
    | true => seesOne H m id r
    | false => (match wr with
      | none => (Nat.blt id lo || Nat.ble hi id) && seesOne H m id r
      | some none => false
      | some (some j) => (match Nat.beq j id with | true => false | false => SH.ours H j) && (Nat.blt id lo || Nat.ble hi id) && seesOne H m id r))
def seesAll (m : Nat) : List DE → Bool
  | [] => true
  | ⟨k, _, wr, lo, hi⟩ :: r => (match Nat.testBit m k with
    | true => seesAll m r
    | false => (match wr with
      | none => Nat.beq lo hi && seesAll m r
      | some _ => false))
def mayGo (H : SH A) (m : Nat) (es : List DE) : Option (Option Nat) → Bool
  | none => true
  | some (some id) => SH.here H id && seesOne H m id es
  | some none => seesAll m es
/-- None of those operations that may come behind this one has looked at what it writes. -/
def mayWrite (H : SH A) (m : Nat) (lk : Option (Option Nat)) : List DE → Bool
  | [] => true
  | ⟨k, l, _, _, _⟩ :: r => (match Nat.testBit m k with
    | true => mayWrite H m lk r
    | false => (match l, lk with
      | none, _ => mayWrite H m lk r
      | some (some j), some (some id) => (match Nat.beq j id with | true => false | false => SH.here H j) && mayWrite H m lk r
      | _, _ => false))
def sDrawn (P : Program) (call : CallS A) (ops : Array Oper) (ms : Tr Nat) : List Oper → Nat → List DE → SS A → (SS A → A.R) → A.R
  | [], _, _, s, K => K s
  | o :: rest, k, es, ⟨T, N, H, nx, wr⟩, K => sWant ops T o
      (fun T => match ms.get k with
        | none => A.fail "mask"
        | some m => (match looks T o.op with
          | lk => bif mayGo H m es lk then
            sOp P (noR call) T H nx o.op fun v H' nx' wr' => sPut T N o.dst v fun T =>
              (match wr' with
                | [] => sDrawn P call ops ms rest (k + 1) (addE k lk none nx nx' es) ⟨T, N, H', nx', wr⟩ K
                | x :: l => bif mayWrite H m lk es then sDrawn P call ops ms rest (k + 1) (addE k lk lk nx nx' es) ⟨T, N, H', nx', addW (x :: l) wr⟩ K else A.fail "order of writes")
            else A.fail "order of reads"))
      (fun T => sPut T N o.dst (.tup []) fun T => sDrawn P call ops ms rest (k + 1) es ⟨T, N, H, nx, wr⟩ K)
def sRegion (P : Program) (call : CallS A) (ops : Array Oper) (draw : Bool) (s : SS A) (K : SS A → A.R) : A.R := match draw with
  | true => (masksFrom ops.toList 0 .l).force fun ms => bif regOK ops ms then sDrawn P call ops ms ops.toList 0 [] s K else A.fail "region"
  | false => sOps P call ops ops.toList s K

/-! ### Codes and calls -/
/-- Behind a branch the condition is known. -/
def sKnow (c : Operand) (x : Bool) (s : SS A) (K : SS A → A.R) : A.R := match c with
  | .tmp t => (s.T.set t (some (.b (A.ofB x)))).force fun T => K ⟨T, s.N, s.H, s.nx, s.wr⟩
  | _ => K s
abbrev LoopF (A : Alg) := Code → SS A → (Ex → SS A → A.R) → A.R
def codeAt (root : Code) : List Bool → Option Code
  | [] => some root
  | b :: p => match codeAt root p with
    | some (.seq a c) => some (match b with | true => c | false => a)
    | some (.cond _ a c) => some (match b with | true => c | false => a)
    | some (.block _ c) => (match b with | true => none | false => some c)
    | some (.scope c) => (match b with | true => none | false => some c)
    | some (.loop c) => (match b with | true => none | false => some c)
    | some (.rangeFunc _ _ a c) => some (match b with | true => c | false => a)
    | _ => none
/-- What is told of a text's loops, by their paths, and whether they stand in a range over a function. -/
abbrev LoopS (A : Alg) := List Bool → Option (Bool × LoopF A)
structure LpG (A : Alg) where
  g : FuncId
  rg : Bool
  at_ : LoopS A
/-- The text of a range over a function. -/
def rngAt (P : Program) (g : FuncId) (p : List Bool) : Option (Array Tmp × Code × Code) := match P.funcs[g]? with
  | some fn => (match fn.body with
    | some c => (match codeAt c p with | some (.rangeFunc _ ps as body) => some (ps, as, body) | _ => none)
    | none => none)
  | none => none
def unroll (body : SS A → (Ex → SS A → A.R) → A.R) : Nat → SS A → (Ex → SS A → A.R) → A.R
  | 0, _, _ => A.fail "loop"
  | n + 1, s, K => body s fun e s => match e with
    | .normal => unroll body n s K
    | e => K e s
def sCode (P : Program) (call : CallS A) (lp : LpG A) (U : Nat) : List Bool → Code → SS A → (Ex → SS A → A.R) → A.R
  | _, .skip, s, K => K .normal s
  | _, .region _ ops draw, s, K => sRegion P call ops draw s fun s => K .normal s
  | p, .seq a b, s, K => sCode P call lp U (false :: p) a s fun e s => (match e with
    | .normal => sCode P call lp U (true :: p) b s K
    | e => K e s)
  | p, .cond c a b, s, K => (match sO s.T c with
    | some (.b x) => A.br x (fun _ => sKnow c true s fun s => sCode P call lp U (false :: p) a s K) (fun _ => sKnow c false s fun s => sCode P call lp U (true :: p) b s K)
    | _ => A.fail "cond")
  | p, .block id c, s, K => sCode P call lp U (false :: p) c s fun e s => (match e with
    | .exit j => bif Nat.beq j id then K .normal s else K (.exit j) s
    | e => K e s)
  | p, .loop c, s, K => (match lp.at_ p with
    | some (rg, f) => (match rg, lp.rg with | true, true => f c s K | false, false => f c s K | _, _ => A.fail "loop in a range")
    | none => unroll (fun s K => sCode P call lp U (false :: p) c s K) U s K)
  | _, .exit id, s, K => K (.exit id) s
  | p, .scope c, s, K => sCode P call lp U (false :: p) c s fun e s => (match e with
    | .goto _ => A.fail "goto"
    | e => K e s)
  | _, .label _, s, K => K .normal s
  | _, .goto l, s, K => K (.goto l) s
  | _, .ret, s, K => K .ret s
  | p, .rangeFunc f _ _ _, s, K => (match lp.rg, sO s.T f with
    | false, some (.fn g' [] cap) => (s.H.set s.nx (some (.frm lp.g p s.N s.T false .normal))).force fun H =>
      call (.f g') (.yld s.nx :: cap) H (s.nx + 1) fun _ H nx wr => (match H.get s.nx with
        | some (.frm _ _ _ _ false e) => (H.set s.nx none).force fun H => K e ⟨s.T, s.N, H, nx, addW [s.nx] (addW wr s.wr)⟩
        | _ => A.fail "range")
    | _, _ => A.fail "range")
  | _, .refuse _, _, _ => A.fail "refuse"
mutual
def SV.lt (n : Nat) : SV A → Bool
  | .p id _ => Nat.blt id n
  | .pe id _ _ _ => Nat.blt id n
  | .sl id _ _ _ => Nat.blt id n
  | .ls _ id _ => Nat.blt id n
  | .fn _ a c => SV.ltL n a && SV.ltL n c
  | .yld id => Nat.blt id n
  | .agg l => SV.ltL n l
  | .tup l => SV.ltL n l
  | _ => true
def SV.ltL (n : Nat) : List (SV A) → Bool
  | [] => true
  | x :: l => SV.lt n x && SV.ltL n l
end
def Al.ltT (n : Nat) : Al (SV A) → Bool
  | .l => true
  | .c _ v r => (match v with | some v => v.lt n | none => true) && Al.ltT n r
def SO.lt (n : Nat) : SO A → Bool
  | .row _ cs => SV.ltL n cs
  | .list _ _ _ _ => true
  | .frm _ _ _ T _ _ => Al.ltT n T
def subW : List Nat → List Nat → Bool
  | [], _ => true
  | x :: l, m => List.elem x m && subW l m
def ltO (nx : Nat) : List (SO A) → Bool
  | [] => true
  | o :: l => o.lt nx && ltO nx l
def sBack (nx : Nat) (H : SH A) : List Nat → SH A → Option (SH A)
  | [], H₀ => some H₀
  | id :: r, H₀ => match H₀.get id, H.get id with
    | some o', some o => bif o.lt nx && o'.mine && o.mine then sBack nx H r (H₀.set id (some o)) else none
    | _, _ => none
/-- A literal's row of cells, as a list. -/
def litOf (P : Program) (H : SH A) (id off len cap : Nat) : Option (TypeId × List CK × A.L) := match H.get id with
  | some (.row e cs) => (match kinds P e with
    | some ks => bif Nat.ble len cap then (match rowsOf ks len (cs.drop off) with | some h => some (e, ks, h) | none => none) else none
    | none => none)
  | _ => none
/-- A pointer to a new block. -/
def newP (nx : Nat) : List (SV A) → Bool
  | .p id _ :: l => Nat.ble nx id || newP nx l
  | _ => false
def hasN (n : Nat) : List Nat → Bool
  | [] => false
  | x :: l => Nat.beq n x || hasN n l
mutual
/-- A value with new lists: each list gets a name of its own. -/
def mvV (P : Program) (H : SH A) (N : Nat) : SV A → SH A → Nat → List Nat → (SV A → SH A → Nat → List Nat → A.R) → A.R
  | .ls own id n, M, k, ids, K => bif Nat.blt id N then K (.ls own id n) M k ids else bif hasN id ids then A.fail "leave" else (match H.get id with
    | some (.list t ks own' h) => bif own && !own' then A.fail "leave" else A.need .eql n (A.len h) ((M.set k (some (.list t ks own' h))).force fun M => K (.ls own k n) M (k + 1) (id :: ids))
    | _ => A.fail "leave")
  | .sl id off len cap, M, k, ids, K => bif Nat.blt id N then K (.sl id off len cap) M k ids else bif hasN id ids then A.fail "leave" else (match litOf P H id off len cap with
    | some (e, ks, h) => (M.set k (some (.list e ks false h))).force fun M => K (.ls false k (A.len h)) M (k + 1) (id :: ids)
    | none => A.fail "leave")
  | .agg l, M, k, ids, K => mvL P H N l M k ids fun l M k ids => K (.agg l) M k ids
  | .tup l, M, k, ids, K => mvL P H N l M k ids fun l M k ids => K (.tup l) M k ids
  | .p id off, M, k, ids, K => bif Nat.blt id N then K (.p id off) M k ids else A.fail "leave"
  | .pe id z i j, M, k, ids, K => bif Nat.blt id N then K (.pe id z i j) M k ids else A.fail "leave"
  | .yld id, M, k, ids, K => bif Nat.blt id N then K (.yld id) M k ids else A.fail "leave"
  | .fn f a c, M, k, ids, K => bif SV.ltL N a && SV.ltL N c then K (.fn f a c) M k ids else A.fail "leave"
  | v, M, k, ids, K => K v M k ids
def mvL (P : Program) (H : SH A) (N : Nat) : List (SV A) → SH A → Nat → List Nat → (List (SV A) → SH A → Nat → List Nat → A.R) → A.R
  | [], M, k, ids, K => K [] M k ids
  | v :: l, M, k, ids, K => mvV P H N v M k ids fun v M k ids => mvL P H N l M k ids fun l M k ids => K (v :: l) M k ids
end
/-- What a call leaves: what it has written of earlier blocks, and the block of a slice that it returns. -/
def sLeave (P : Program) (nx : Nat) (H₀ : SH A) (v : SV A) (H : SH A) (nx' : Nat) (wr : List Nat) (K : KS A) : A.R := match below nx wr with
  | wr => (match sBack nx H wr H₀ with
    | none => A.fail "leave"
    | some H₁ => bif v.lt nx then H₁.force fun H₁ => (match wr with | [] => K v H₁ nx [] | x :: l => K v H₁ (nx + 1) (x :: l)) else (match wr, v with
      | [], .ls true id n => (match H.get id with
        | some (.list t ks true h) => A.need .eql n (A.len h) ((H₁.set nx (some (.list t ks true h))).force fun H₁ => K (.ls true nx n) H₁ (nx + 1) [])
        | _ => A.fail "leave")
      | [], .agg [.ls true id n] => (match H.get id with
        | some (.list t ks true h) => A.need .eql n (A.len h) ((H₁.set nx (some (.list t ks true h))).force fun H₁ => K (.agg [.ls true nx n]) H₁ (nx + 1) [])
        | _ => A.fail "leave")
      | [], .fn f [] cap => bif newP nx cap then K (.fn f [] cap) H nx' [] else A.fail "leave"
      | [], .sl id off len cap => (match litOf P H id off len cap with
        | some (e, ks, h) => (H₁.set nx (some (.list e ks false h))).force fun H₁ => K (.ls false nx (A.len h)) H₁ (nx + 1) []
        | none => A.fail "leave")
      | [], .agg [.sl id off len cap] => (match litOf P H id off len cap with
        | some (e, ks, h) => (H₁.set nx (some (.list e ks false h))).force fun H₁ => K (.agg [.ls false nx (A.len h)]) H₁ (nx + 1) []
        | none => A.fail "leave")
      | [], v => mvV P H nx v H₁ nx [] fun v M k _ => K v M (k + 1) []
      | _, _ => A.fail "leave"))
def sRes (P : Program) (T : Al (SV A)) (H : SH A) : List ResultVar → Option (List (SV A))
  | [] => some []
  | .tmp t :: r => (match T.get t, sRes P T H r with
    | some v, some l => some (v :: l)
    | _, _ => none)
  | .cell a t :: r => (match T.get a, sRes P T H r with
    | some (.p id off), some l => (match H.get id with
      | some (.row _ cs) => (match sPrt P t cs off with | some v => some (v :: l) | none => none)
      | _ => none)
    | _, _ => none)
def sArgs : Nat → List (SV A) → Al (SV A) → Al (SV A)
  | _, [], T => T
  | k, v :: l, T => (T.set k (some v)).force fun T => sArgs (k + 1) l T
def lOfS : List (SV A) → SV A
  | [v] => v
  | vs => .tup vs
/-- What is ranged over keeps all. -/
def sEnd (P : Program) (args : List (SV A)) (nx : Nat) (H₀ : SH A) (v : SV A) (H : SH A) (nx' : Nat) (wr : List Nat) (K : KS A) : A.R := match noY args with
  | false => K v H nx' (below nx wr)
  | true => sLeave P nx H₀ v H nx' wr K
/-- One call, where the calls within it and its loops are given. -/
def sFunc (P : Program) (U : Nat) (call : CallS A) (lp : FuncId → LoopS A) (g : FuncId) (args : List (SV A)) (H : SH A) (nx : Nat) (K : KS A) : A.R := match P.funcs[g]? with
  | some fn => (match fn.body with
    | some c => (sArgs 0 args .l).force fun T =>
      sCode P call ⟨g, false, lp g⟩ U [] c ⟨T, args.length + (fn.ntmps - args.length), H, nx, []⟩ fun e s => (match e with
        | .normal | .ret => (match sRes P s.T s.H fn.results.toList with
          | some vs => sEnd P args nx H (lOfS vs) s.H s.nx s.wr K
          | none => A.fail "results")
        | _ => A.fail "exit")
    | none => A.fail "body")
  | none => A.fail "function"
def sPutArgs : List Tmp → List (SV A) → Al (SV A) → Al (SV A)
  | p :: ps, v :: l, T => (T.set p (some v)).force fun T => sPutArgs ps l T
  | _, _, T => T
def isN : Ex → Bool
  | .normal => true
  | _ => false
/-- One round of a range over a function. -/
def sTurn (P : Program) (U : Nat) (call : CallS A) (lp : FuncId → LoopS A) (id : Nat) (args : List (SV A)) (H : SH A) (nx : Nat) (K : KS A) : A.R := match H.get id with
  | some (.frm g p N T false .normal) => (match rngAt P g p with
    | some (ps, as, body) => bif Nat.beq ps.size args.length && allLt N ps.toList then
      sCode P call ⟨g, true, lp g⟩ U (false :: p) as ⟨sPutArgs ps.toList args T, N, H, nx, []⟩ fun e s => (match e, s.H.get id with
        | .normal, some (.frm g1 p1 N T false .normal) => (s.H.set id (some (.frm g1 p1 N T true .normal))).force fun H =>
          sCode P call ⟨g, true, lp g⟩ U (true :: p) body ⟨s.T, s.N, H, s.nx, addW [id] s.wr⟩ fun e s => (match s.H.get id with
            | some (.frm g p N T true .normal) => (s.H.set id (some (.frm g p N T false e))).force fun H => K (.b (A.ofB (isN e))) H s.nx (addW [id] s.wr)
            | _ => A.fail "turn")
        | _, _ => A.fail "turn")
      else A.fail "turn"
    | none => A.fail "turn")
  | _ => A.fail "turn"
/-! ### Loops -/
def dsts : List Oper → List Nat
  | [] => []
  | o :: r => match o.dst with | some d => d :: dsts r | none => dsts r
/-- The temporaries that a text may write. -/
def writes : Code → List Nat
  | .region _ ops _ => dsts ops.toList
  | .seq a b => writes a ++ writes b
  | .cond _ a b => writes a ++ writes b
  | .block _ c => writes c
  | .loop c => writes c
  | .scope c => writes c
  | _ => []
def wipe {α : Type} : List Nat → Al α → Al α
  | [], T => T
  | t :: l, T => (wipe l T).set t none
def push {α : Type} : List (Nat × α) → Al α → Al α
  | [], T => T
  | (t, v) :: l, T => (push l T).set t (some v)
def gets {α : Type} (T : Al α) : List Nat → Option (List α)
  | [] => some []
  | t :: ts => match T.get t with
    | some v => (match gets T ts with | some r => some (v :: r) | none => none)
    | none => none
/-- What is read off a state at the end of a round. -/
def outK (nx : Nat) (ts : Ex → List Nat) (B : List Nat) (k : Ex → List (SV A) → List (SO A) → A.R) : Ex → SS A → A.R := fun e s => match gets s.T (ts e), gets s.H B with
  | some vs, some os => bif Nat.ble nx s.nx && subW (below nx s.wr) B && SV.ltL nx vs && ltO nx os then k e vs os else A.fail "round"
  | _, _ => A.fail "round"
/-- A state at the head of a loop, or behind it. -/
abbrev hdS {A : Alg} (c : Code) (s : SS A) (sl : List (Nat × SV A)) (bl : List (Nat × SO A)) (wr : List Nat) : SS A := ⟨push sl (wipe (writes c) s.T), s.N, push bl s.H, s.nx, wr⟩
def samePath : List Bool → List Bool → Bool
  | [], [] => true
  | x :: p, y :: q => (x == y) && samePath p q
  | _, _ => false
/-! Loops whose lists are appended to: such a list has a name of its own at the head of each round, the first that is free. -/
mutual
/-- Lists that are new, or are to be moved (mv), and nils get the names N, N + 1, .. in order; the names that they had. -/
def SV.can (N : Nat) (mv : List Nat) : SV A → List (Option Nat) → Option (SV A × List (Option Nat))
  | .nils, ids => some (.ls true (N + ids.length) (A.len A.nil), ids ++ [none])
  | .ls true id n, ids => bif Nat.ble N id || List.elem id mv then (bif List.elem (some id) ids then none else some (.ls true (N + ids.length) n, ids ++ [some id])) else some (.ls true id n, ids)
  | .agg l, ids => (match SV.canL N mv l ids with | some (l, ids) => some (.agg l, ids) | none => none)
  | v, ids => bif v.lt N then some (v, ids) else none
def SV.canL (N : Nat) (mv : List Nat) : List (SV A) → List (Option Nat) → Option (List (SV A) × List (Option Nat))
  | [], ids => some ([], ids)
  | v :: l, ids => (match SV.can N mv v ids with
    | some (v, ids) => (match SV.canL N mv l ids with | some (l, ids) => some (v :: l, ids) | none => none)
    | none => none)
end
def canO (N : Nat) (mv : List Nat) : List (SO A) → List (Option Nat) → Option (List (SO A) × List (Option Nat))
  | .frm g p n T b e :: l, ids => bif Al.ltT N T then (match canO N mv l ids with | some (l, ids) => some (.frm g p n T b e :: l, ids) | none => none) else none
  | [], ids => some ([], ids)
  | .row t cs :: l, ids => (match SV.canL N mv cs ids with
    | some (cs, ids) => (match canO N mv l ids with | some (l, ids) => some (.row t cs :: l, ids) | none => none)
    | none => none)
  | o :: l, ids => (match canO N mv l ids with | some (l, ids) => some (o :: l, ids) | none => none)
def listsOf (H : SH A) : List (Option Nat) → List (TypeId × List CK) → Option (List A.L)
  | [], [] => some []
  | [], _ :: ty => (match listsOf H [] ty with | some hs => some (A.nil :: hs) | none => none)
  | none :: ids, _ :: ty => (match listsOf H ids ty with | some hs => some (A.nil :: hs) | none => none)
  | some id :: ids, (t, ks) :: ty => (match H.get id with
    | some (.list t' ks' true h) => bif Nat.beq t' t && decide (ks' = ks) then (match listsOf H ids ty with | some hs => some (h :: hs) | none => none) else none
    | _ => none)
  | _, _ => none
def kills (mv : List Nat) (H : SH A) : SH A := match mv with
  | [] => H
  | id :: l => (kills l H).set id none
def newLs (N : Nat) : List (TypeId × List CK) → List A.L → List (Nat × SO A)
  | (t, ks) :: ty, h :: hs => (N, .list t ks true h) :: newLs (N + 1) ty hs
  | _, _ => []
/-- A state at the head of a loop with lists, or behind it: kt, kr are known, ty, hs the lists. -/
abbrev hdL {A : Alg} (c : Code) (T : Al (SV A)) (H : SH A) (FN nx : Nat) (kt : List (Nat × SV A)) (kr : List (Nat × SO A)) (sl : List (Nat × SV A)) (bl : List (Nat × SO A)) (ty : List (TypeId × List CK)) (hs : List A.L) (wr : List Nat) : SS A :=
  ⟨push sl (wipe (writes c) (push kt T)), FN, push (newLs nx ty hs) (push bl (push kr H)), nx + ty.length, wr⟩
def outL (N : Nat) (ts : Ex → List Nat) (B mv : List Nat) (ty : List (TypeId × List CK)) (k : Ex → List (SV A) → List (SO A) → List A.L → A.R) : Ex → SS A → A.R := fun e s => match gets s.T (ts e), gets s.H B with
  | some vs, some os => (match SV.canL N [] vs [] with
    | some (vs, ids) => (match canO N [] os ids with
      | some (os, ids) => (match listsOf s.H ids ty with
        | some hs => bif Nat.ble (N + ty.length) s.nx && subW (below N s.wr) (mv ++ B) then k e vs os hs else A.fail "round"
        | none => A.fail "lists")
      | none => A.fail "names in blocks")
    | none => A.fail "names")
  | _, _ => A.fail "round"
abbrev LpL (A : Alg) := List (Nat × List Bool × Bool × LoopF A)
def lpOf : LpL A → FuncId → LoopS A
  | [], _, _ => none
  | (g', p', f) :: l, g, p => bif Nat.beq g g' && samePath p p' then some f else lpOf l g p
def bodyAt (P : Program) (g : Nat) (p : List Bool) : Code := match P.funcs[g]? with
  | some fn => (match fn.body with
    | some c => (match codeAt c p with | some (.loop c) => c | _ => .skip)
    | none => .skip)
  | none => .skip
def tsOf (n r : List Nat) : Ex → List Nat
  | .ret => r
  | _ => n
abbrev SpecS (A : Alg) := FuncId → Option (List (SV A) → SH A → Nat → KS A → A.R)
/-- The run of a call: n calls deep; what is told of a function goes before its text. -/
def sCall (P : Program) (U : Nat) (sp : SpecS A) (lp : FuncId → LoopS A) : Nat → CallS A
  | 0 => fun _ _ _ _ _ => A.fail "depth"
  | n + 1 => fun tg args H nx K => match tg with
    | .f g => (match sp g with
      | some f => f args H nx K
      | none => sFunc P U (sCall P U sp lp n) lp g args H nx K)
    | .r id => sTurn P U (sCall P U sp lp n) lp id args H nx K
end
end Go.Rx
