/-
  The run of closed code as a function: memory, regions, codes, calls. No program.
-/
import Derived.Test.YtfjilbjofaommaaZb
import Derived.Orders
set_option linter.unusedSimpArgs false
set_option linter.unusedVariables false
set_option linter.unusedSectionVars false
namespace Go.Rx
open Go
noncomputable section

inductive Tg where
  | f (g : FuncId)
  | r (id : Nat)
/-- The value, memory, the next name, and the names of earlier blocks that may have been written. -/
structure Out where
  v : LV
  H : Hp
  nx : Nat
  wr : List Nat
/-- That, and the end of the names that were used on the way. -/
structure Res where
  o : Out
  mx : Nat
def res : Option Out → Option Res
  | some ⟨v, H, nx, wr⟩ => some ⟨⟨v, H, nx, wr⟩, nx⟩
  | none => none
abbrev CallT := Tg → List LV → Hp → Nat → Option Res

def LO.cs : LO → Option (List LV)
  | .row _ cs => some cs
  | .gro _ _ cs => some cs
  | _ => none
def allOne : List LV → Bool
  | [] => true
  | x :: l => match x.one with | true => allOne l | false => false
/-- A cell that is known: a tuple stands for one that is not. -/
def LV.kn : LV → Bool
  | .tup _ => false
  | _ => true
def allKn : List LV → Bool
  | [] => true
  | x :: l => match x.kn with | true => allKn l | false => false
/-- n elements of size z from off on in the row of a name. -/
def rd (H : Hp) (id off n : Nat) : Option (List LV) := match H.get id with
  | some o => (match o.cs with | some cs => tk n (dp off cs) | none => (match o with | .ro base cs => bif Nat.ble base off then (match tk n (dp (off - base) cs) with | some r => bif allKn r then some r else none | none => none) else none | _ => none))
  | none => none
def wrt (H : Hp) (id off : Nat) (vs : List LV) : Option Hp := match H.get id with
  | some (.row t cs) => (match pt off cs vs with | some cs => (H.set id (some (.row t cs))).force some | none => none)
  | some (.gro t z cs) => (match pt off cs vs with | some cs => (H.set id (some (.gro t z cs))).force some | none => none)
  | _ => none
def fresh (H : Hp) (nx : Nat) (o : LO) (v : Nat → LV) (wr : List Nat) : Option Out :=
  (H.set nx (some o)).force fun H => nN (nx + 1) fun nx' => some ⟨v nx, H, nx', wr⟩
/-- What is to be appended: its number of elements and its cells. -/
def more (H : Hp) (z : Nat) : LV → Option (Nat × List LV)
  | .nils => some (0, [])
  | .sl id off len _ => (match len with | 0 => some (0, []) | _ => (match rd H id off (len * z) with | some cs => some (len, cs) | none => none))
  | .gs id off _ len => (match len with | 0 => some (0, []) | _ => (match rd H id off (len * z) with | some cs => some (len, cs) | none => none))
  | _ => none
def fits (n bytes : Nat) : Bool := Nat.ble (n * bytes) 140737488355328 && Nat.ble n 1000000
/-- A row of n elements that may grow, in the place of the one named. -/
def grow (H : Hp) (nx : Nat) (id : Nat) (e : TypeId) (z n : Nat) (cs : List LV) : Option Out :=
  (H.set id none).force fun H => nN n fun n => fresh H nx (.gro e z cs) (fun id => .gs id 0 0 n) [id]
def appGs (H : Hp) (nx : Nat) (e : TypeId) (z bytes id len m : Nat) (news : List LV) : Option Out := match H.get id with
  | some (.gro e' z' cs) => bif Nat.beq e' e && Nat.beq z' z && Nat.blt id nx && fits (len + m) bytes then
      (match tk (len * z) cs with
        | some cs => grow H nx id e z (len + m) (ap cs news)
        | none => none)
    else none
  | _ => none
def appNew (H : Hp) (nx : Nat) (e : TypeId) (z bytes m : Nat) (news : List LV) : Option Out :=
  bif fits m bytes then fresh H nx (.gro e z news) (fun id => .gs id 0 0 m) [] else none
def appSl (H : Hp) (nx : Nat) (e : TypeId) (z bytes id len cap m : Nat) (news : List LV) : Option Out := match H.get id with
  | some (.row e' cs) => bif Nat.beq e' e && Nat.blt id nx && Nat.beq cs.length (cap * z) && Nat.ble len cap && Nat.ble cap 1000000 && fits (len + m) bytes then
      (match tk (len * z) cs with
        | some cs => (match Nat.beq len cap with
          | true => nN (len + m) fun n => appNew H nx e z bytes n (ap cs news)
          | false => grow H nx id e z (len + m) (ap cs news))
        | none => none)
    else none
  | _ => none
def appSome (H : Hp) (nx : Nat) (e : TypeId) (z bytes m : Nat) (news : List LV) : LV → Option Out
  | .nils => appNew H nx e z bytes m news
  | .sl _ _ 0 0 => appNew H nx e z bytes m news
  | .gs id 0 0 len => appGs H nx e z bytes id len m news
  | .sl id 0 len cap => appSl H nx e z bytes id len cap m news
  | _ => none
def appNone (H : Hp) (nx : Nat) : LV → Option Out
  | .nils => some ⟨.nils, H, nx, []⟩
  | .gs id off el len => some ⟨.gs id off el len, H, nx, []⟩
  | .sl id off len cap => bif Nat.ble len cap then some ⟨.sl id off len cap, H, nx, []⟩ else none
  | _ => none
def evAppend (P : Program) (t : TypeId) (s x : LV) (H : Hp) (nx : Nat) : Option Out :=
  match P.underlying t with
  | some (.slice e) => (match P.info? e with
    | none => none
    | some i => match i.zero with
      | none => none
      | some zv => nN i.size fun z => bif Nat.beq zv.cells.size z && Nat.blt 0 z then
        (match more H z x with
          | none => none
          | some (m, news) => (match m with
            | 0 => appNone H nx s
            | .succ m => bif allOne news then appSome H nx e z i.bytes (.succ m) news s else none))
        else none)
  | _ => none
def minL (x : Int) (y : Int) : Int := match decide (y < x) with | true => y | false => x
def maxL (x : Int) (y : Int) : Int := match decide (y > x) with | true => y | false => x
def foldI (f : Int → Int → Int) (k : IntKind) (x : Int) : List LV → Option LV
  | [] => some (.i k x)
  | .i k' y :: l => bif decide (k = k') then nI (f x y) fun n => foldI f k n l else none
  | _ :: _ => none
/-- The cells of the first n elements of a slice. -/
def firstOf (H : Hp) (z n : Nat) : LV → Option (List LV)
  | .sl id off _ _ => rd H id off (n * z)
  | .gs id off _ _ => rd H id off (n * z)
  | _ => none
def lenL : LV → Option Nat
  | .nils => some 0
  | .sl _ _ len _ => some len
  | .gs _ _ _ len => some len
  | _ => none
def spotOf : LV → Option (Nat × Nat)
  | .sl id off _ _ => some (id, off)
  | .gs id off _ _ => some (id, off)
  | _ => none
def evCopy (P : Program) (t : TypeId) (d s : LV) (H : Hp) (nx : Nat) : Option Out := match P.underlying t with
  | some (.slice e) => (match szOf P e, lenL d, lenL s with
    | some z, some dl, some sl => nN (Nat.min sl dl) fun n => (match n with
      | 0 => (match d, s with
        | .nils, _ => none
        | _, .nils => none
        | _, _ => some ⟨.i .i64 0, H, nx, []⟩)
      | n => (match spotOf d, firstOf H z n s with
        | some (id, off), some vs => bif allOne vs && Nat.blt id nx then (match wrt H id off vs with
          | some H => some ⟨.i .i64 (.ofNat n), H, nx, [id]⟩
          | none => none) else none
        | _, _ => none))
    | _, _, _ => none)
  | _ => none
def evBuiltin (P : Program) (b : Builtin) (ts : List TypeId) (args : List LV) (H : Hp) (nx : Nat) : Option Out :=
  match b, ts, args with
  | .append, [t, u], [s, x] => bif Nat.beq t u then evAppend P t s x H nx else none
  | .len, [t], [x] => (match P.underlying t, x with
    | some (.slice _), .nils => some ⟨.i .i64 0, H, nx, []⟩
    | some (.slice _), .sl _ _ len _ => some ⟨.i .i64 (.ofNat len), H, nx, []⟩
    | some (.slice _), .gs _ _ _ len => some ⟨.i .i64 (.ofNat len), H, nx, []⟩
    | some (.array n _), _ => some ⟨.i .i64 (.ofNat n), H, nx, []⟩
    | _, _ => none)
  | .copy, t :: _, [d, s] => evCopy P t d s H nx
  | .min, _, .i k x :: l => (match foldI minL k x l with | some v => some ⟨v, H, nx, []⟩ | none => none)
  | .max, _, .i k x :: l => (match foldI maxL k x l with | some v => some ⟨v, H, nx, []⟩ | none => none)
  | _, _, _ => none
def evLoad (P : Program) (T : Tr LV) (H : Hp) (nx : Nat) (t : TypeId) (x : Operand) : Option Out := match evO T x with
  | some (.p id off) => (match H.get id with
    | some o => (match o.cs with | some cs => (match prt P t cs off with | some v => some ⟨v, H, nx, []⟩ | none => none) | none => (match o with | .ro base cs => bif Nat.ble base off then (match prt P t cs (off - base) with | some v => bif allKn v.cells then some ⟨v, H, nx, []⟩ else none | none => none) else none | _ => none))
    | none => none)
  | _ => none
def evStore (P : Program) (T : Tr LV) (H : Hp) (nx : Nat) (t : TypeId) (x y : Operand) : Option Out := match evO T x, evO T y, szOf P t with
  | some (.p id off), some v, some n => bif Nat.beq v.cells.length n && allOne v.cells && Nat.blt id nx then
      (match wrt H id off v.cells with | some H => some ⟨.tup [], H, nx, [id]⟩ | none => none) else none
  | _, _, _ => none
def evBox (T : Tr LV) (H : Hp) (nx : Nat) (t : TypeId) (x : Operand) : Option Out := match evO T x with
  | some v => fresh H nx (.row t v.cells) (fun id => .p id 0) []
  | none => none
def evAlloc (P : Program) (H : Hp) (nx : Nat) (t : TypeId) : Option Out := match zeroOf P t with
  | some z => fresh H nx (.row t z.cells) (fun id => .p id 0) []
  | none => none
def evBuildSl (P : Program) (T : Tr LV) (H : Hp) (nx : Nat) (t : TypeId) (len : Nat) (ps : Array (Nat × Operand)) : Option Out := match P.underlying t with
  | some (.slice e) => (match zeroOf P e, szOf P e, parts T ps.toList with
    | some z, some n, some l => bif Nat.beq z.cells.length n && Nat.blt 0 n && Nat.ble (len * n) 16777216 then
        (match fill (fun i => some (i * n, n)) (rep len z.cells) l with
          | some cs => fresh H nx (.row e cs) (fun id => .sl id 0 len len) []
          | none => none) else none
    | _, _, _ => none)
  | _ => none
def evMakeSl (P : Program) (T : Tr LV) (H : Hp) (nx : Nat) (t : TypeId) (l c : Operand) : Option Out := match P.underlying t with
  | some (.slice e) => (match P.info? e with
    | some i => (match i.zero with
      | some zv => (match ofV zv, evO T l, evO T c with
        | some z, some (.i .i64 (.ofNat l)), some (.i .i64 (.ofNat c)) => nN i.size fun n =>
          bif Nat.beq z.cells.length n && Nat.blt 0 n && Nat.ble l c && Nat.ble c 1000000 && Nat.ble (i.bytes * c) 281474976710656 then
            fresh H nx (.row e (rep c z.cells)) (fun id => .sl id 0 l c) [] else none
        | _, _, _ => none)
      | none => none)
    | none => none)
  | _ => none
def callAt (call : CallT) (H : Hp) (nx : Nat) (args : List LV) : Option LV → Option Res
  | some (.fn (.func g) a cap) => call (.f g) (ap a (ap args cap)) H nx
  | some (.yld id) => call (.r id) args H nx
  | _ => none
def evCallee (P : Program) (call : CallT) (T : Tr LV) (H : Hp) (nx : Nat) (c : Call) : Option Res := match c.callee with
  | .value f => (match evOs T c.args.toList with
    | some args => callAt call H nx args (evO T f)
    | none => none)
  | .builtin b => (match evOs T c.args.toList with
    | some args => res (evBuiltin P b c.argTypes.toList args H nx)
    | none => none)
  | .invoke _ _ => none
def evPureO (P : Program) (T : Tr LV) (H : Hp) (nx : Nat) (op : Op) : Option Out := match evPure P T op with
  | some v => some ⟨v, H, nx, []⟩
  | none => none
def evOp (P : Program) (call : CallT) (T : Tr LV) (H : Hp) (nx : Nat) (op : Op) : Option Res := match op with
  | .load t x => res (evLoad P T H nx t x)
  | .store t x y => res (evStore P T H nx t x y)
  | .alloc t => res (evAlloc P H nx t)
  | .box t x => res (evBox T H nx t x)
  | .buildSlice t len ps => res (evBuildSl P T H nx t len ps)
  | .makeSlice t l c => res (evMakeSl P T H nx t l c)
  | .call c => evCallee P call T H nx c
  | op => res (evPureO P T H nx op)

/-! ### Regions -/
/-- Where the frame, memory and the names stand. -/
structure S where
  T : Tr LV
  N : Nat
  H : Hp
  nx : Nat
  wr : List Nat
  df : List Nat
  mx : Nat
def putT (T : Tr LV) (N : Nat) (dst : Option Tmp) (v : LV) : Option (Tr LV) := match dst with
  | none => some T
  | some d => bif Nat.blt d N then (T.set d (some v)).force some else none
/-- Is an operation wanted? -/
def want (ops : Array Oper) (T : Tr LV) (o : Oper) : Option Bool := match o.guard with
  | none => some true
  | some (j, w) => match (ops[j]?).bind (·.dst) with
    | none => some false
    | some d => match T.get d with
      | some (.b b) => (match b == w with | true => some true | false => some false)
      | some (.tup []) => some false
      | _ => none
def addW : List Nat → List Nat → List Nat
  | [], l => l
  | id :: r, l => bif List.elem id l then addW r l else addW r (id :: l)
def more' (a b : Nat) : Nat := Bool.rec (motive := fun _ => Nat) b a (Nat.ble b a)
def evOps (P : Program) (call : CallT) (ops : Array Oper) : List Oper → S → Option S
  | [], s => some s
  | o :: rest, ⟨T, N, H, nx, wr, df, mx⟩ => match want ops T o with
    | none => none
    | some false => (match putT T N o.dst (.tup []) with
      | some T => evOps P call ops rest ⟨T, N, H, nx, wr, df, mx⟩
      | none => none)
    | some true => (match evOp P call T H nx o.op with
      | none => none
      | some ⟨⟨v, H, nx', wr'⟩, m⟩ => bif Nat.ble nx nx' && Nat.ble nx' m then (match putT T N o.dst v with
          | some T => nN (more' mx m) fun mx => (match addW wr' wr with
            | [] => evOps P call ops rest ⟨T, N, H, nx', [], df, mx⟩
            | x :: l => evOps P call ops rest ⟨T, N, H, nx', x :: l, df, mx⟩)
          | none => none) else none)

/-! ### A region that draws its order: each operation is run once, on what those before it that it waits for have left -/
def ap' : List Nat → List Nat → List Nat
  | [], m => m
  | x :: l, m => match ap' l m with | [] => [x] | y :: r => x :: y :: r
/-- What each operation waits for, as the bits of a number. -/
def edgeMask (ms : Tr Nat) : List Edge → Nat
  | [] => 0
  | e :: r => bif Region.binds .any e then Nat.lor (Nat.lor (Nat.pow 2 e.on) ((ms.get e.on).getD 0)) (edgeMask ms r) else edgeMask ms r
def masksFrom : List Oper → Nat → Tr Nat → Tr Nat
  | [], _, ms => ms
  | o :: r, k, ms => nN (edgeMask ms o.after.toList) fun m => (ms.set k (some m)).force fun ms => nN (Nat.succ k) fun k => masksFrom r k ms
def noSel : Op → Bool
  | .select .. => false
  | _ => true
def pairsOK (ops : Array Oper) (ms : Tr Nat) (k : Nat) (o : Oper) (m : Nat) : Nat → List Oper → Bool
  | _, [] => true
  | i, oi :: r => Bool.rec (motive := fun _ => Bool) false (pairsOK ops ms k o m (Nat.succ i) r)
      (Bool.rec (motive := fun _ => Bool) (Bool.rec (motive := fun _ => Bool) (oi.apart ops o) true (Nat.ble k i))
        (Bool.rec (motive := fun _ => Bool) false (match ms.get i with | some mi => Nat.beq (Nat.land mi m) mi | none => false) (Nat.blt i k)) (m.testBit i))
def regFrom (ops : Array Oper) (ms : Tr Nat) : Nat → List Oper → Bool
  | _, [] => true
  | k, o :: r => (match ms.get k with
    | some m => Nat.beq m (edgeMask ms o.after.toList) && Nat.blt m (Nat.pow 2 k) && noSel o.op && pairsOK ops ms k o m 0 ops.toList && regFrom ops ms (Nat.succ k) r
    | none => false)
def regOK (ops : Array Oper) (ms : Tr Nat) : Bool := regFrom ops ms 0 ops.toList
abbrev Del := List (Nat × Option LO)
def applyD (H : Hp) : Del → Hp
  | [] => H
  | (id, o) :: r => (H.set id o).force fun H => applyD H r
/-- Memory behind those operations that a number names; the last one stands first. -/
def heapOf (S : Nat → Bool) (H : Hp) : List (Nat × Del) → Hp
  | [] => H
  | (k, D) :: ds => Bool.rec (motive := fun _ => Hp) (heapOf S H ds) (applyD (heapOf S H ds) D) (S k)
def one (H : Hp) (id : Nat) : Hp := match H.get id with
  | some o => Tr.set .l id (some o)
  | none => .l
def scopeOf (T : Tr LV) (S : Nat → Bool) (H : Hp) (ds : List (Nat × Del)) : Op → Hp
  | .load _ x => (match evO T x with | some (.p id _) => one (heapOf S H ds) id | _ => .l)
  | .store _ x _ => (match evO T x with | some (.p id _) => one (heapOf S H ds) id | _ => .l)
  | .call { callee := .value _, .. } => heapOf S H ds
  | .call { callee := .builtin .append, .. } => heapOf S H ds
  | _ => .l
def delta (H : Hp) : List Nat → Del
  | [] => []
  | id :: r => match H.get id with
    | some o => (match delta H r with | [] => [(id, some o)] | x :: l => (id, some o) :: x :: l)
    | none => (match delta H r with | [] => [(id, none)] | x :: l => (id, none) :: x :: l)
def below (n : Nat) : List Nat → List Nat
  | [] => []
  | id :: r => bif Nat.blt id n then (match below n r with | [] => [id] | x :: l => id :: x :: l) else below n r
def seenIn (H : Hp) : List Nat → Bool
  | [] => false
  | id :: r => match H.get id with | some _ => true | none => seenIn H r
def noneSees (m : Nat) (H : Hp) : List (Nat × List Nat) → Bool
  | [] => true
  | (i, fo) :: r => Bool.rec (motive := fun _ => Bool) (Bool.rec (motive := fun _ => Bool) (noneSees m H r) false (seenIn H fo)) (noneSees m H r) (m.testBit i)
def seenByNone (m : Nat) (fo : List Nat) : List (Nat × Hp) → Bool
  | [] => true
  | (i, H) :: r => Bool.rec (motive := fun _ => Bool) (Bool.rec (motive := fun _ => Bool) (seenByNone m fo r) false (seenIn H fo)) (seenByNone m fo r) (m.testBit i)
/-- None of the operations with which this one may change places touches what it writes, nor the other way round. -/
def quietWith (m : Nat) (H : Hp) (fo : List Nat) (fs : List (Nat × List Nat)) (hs : List (Nat × Hp)) : Bool :=
  noneSees m H fs && (match fo with | [] => true | x :: l => seenByNone m (x :: l) hs)
def allIn (H : Hp) (lo : Nat) : List Nat → Bool
  | [] => true
  | id :: r => (Nat.ble lo id || (H.get id).isSome) && allIn H lo r
def rng (lo : Nat) : Nat → List Nat
  | 0 => []
  | n + 1 => nN (Nat.add lo n) fun k => (match rng lo n with | [] => [k] | x :: l => k :: x :: l)
/-- What has been found of the operations that were run: what each has changed, on what each was run, what earlier names it has written. -/
structure Log where
  ds : List (Nat × Del)
  hs : List (Nat × Hp)
  fs : List (Nat × List Nat)
def Log.add (k : Nat) (H : Hp) (fo : List Nat) (D : Del) : Log → Log
  | ⟨ds, hs, fs⟩ => ⟨(match D with | [] => ds | x :: l => (k, x :: l) :: ds), (match H with | .l => hs | .n v a b => (k, .n v a b) :: hs), (match fo with | [] => fs | x :: l => (k, x :: l) :: fs)⟩
def evDrawn (P : Program) (call : CallT) (ops : Array Oper) (ms : Tr Nat) (H₀ : Hp) : List Oper → Nat → S → Log → Option (S × Log)
  | [], _, s, g => some (s, g)
  | o :: rest, k, ⟨T, N, H₁, nx, wr, df, mx⟩, ⟨ds, hs, fs⟩ => match want ops T o with
    | none => none
    | some false => (match putT T N o.dst (.tup []) with
      | some T => nN (Nat.succ k) fun k => evDrawn P call ops ms H₀ rest k ⟨T, N, H₁, nx, wr, df, mx⟩ ⟨ds, hs, fs⟩
      | none => none)
    | some true => (match ms.get k with
      | none => none
      | some m => (scopeOf T m.testBit H₀ ds o.op).force fun H =>
        (match evOp P call T H nx o.op with
        | none => none
        | some ⟨⟨v, H', nx', wr'⟩, mx'⟩ => (match below nx wr' with
          | fo => bif Nat.ble nx nx' && Nat.ble nx' mx' && allIn H nx wr' && quietWith m H fo fs hs then (match putT T N o.dst v with
            | some T => (match addW wr' wr, Log.add k H fo (delta H' (ap' fo (rng nx (Nat.sub nx' nx)))) ⟨ds, hs, fs⟩ with
              | wr, g => nN (Nat.succ k) fun k => evDrawn P call ops ms H₀ rest k ⟨T, N, H₁, mx', wr, df, mx⟩ g)
            | none => none) else none)))
/-- In a region that draws its order no name is used twice. -/
def evDraw (P : Program) (call : CallT) (ops : Array Oper) : S → Option S
  | ⟨T, N, H, nx, wr, df, mx⟩ => (masksFrom ops.toList 0 .l).force fun ms =>
    bif regOK ops ms then (match evDrawn P call ops ms H ops.toList 0 ⟨T, N, H, nx, wr, df, mx⟩ ⟨[], [], []⟩ with
      | some (⟨T, N, _, nx', wr, df, mx⟩, ⟨ds, _, _⟩) => (heapOf (fun _ => true) H ds).force fun H => nN (more' mx nx') fun mx => some ⟨T, N, H, nx', wr, df, mx⟩
      | none => none) else none

/-! ### Codes and calls -/
inductive Ex where
  | normal
  | exit (id : Nat)
  | goto (l : Nat)
  | ret
def evLoop : Nat → (S → Option (Ex × S)) → S → Option (Ex × S)
  | 0, _, _ => none
  | n + 1, f, s => match f s with
    | some (.normal, s) => evLoop n f s
    | r => r
def Ex.code : Ex → Option Code
  | .normal => none
  | .exit id => some (.exit id)
  | .goto l => some (.goto l)
  | .ret => some .ret
def Ex.st : Ex → LoopState
  | .normal => .ready
  | _ => .done
def Ex.ok : Ex → LV
  | .normal => .b true
  | _ => .b false
def notBusy : LoopState → Bool
  | .busy => false
  | _ => true
def jump : Option Code → Option Ex
  | none => some .normal
  | some .ret => some .ret
  | some (.exit id) => some (.exit id)
  | some (.goto l) => some (.goto l)
  | _ => none
/-- A loop over a function has ended. -/
def endRange (l nx : Nat) (e? : Nat → Hp → List Nat → Nat → S) (wr : List Nat) (mx : Nat) : Option Res → Option (Ex × S)
  | some ⟨⟨_, H, nx', wr'⟩, m⟩ => (match H.get l with
    | some (.loop st pend N T ps as body d) => bif Nat.ble nx nx' && Nat.ble nx' m && notBusy st then (match jump pend with
        | some e => (H.set l (some (.loop .exhausted pend N T ps as body d))).force fun H => nN (more' mx m) fun mx => (match addW [l] (addW wr' wr) with
          | [] => none
          | x :: w => some (e, e? nx' H (x :: w) mx))
        | none => none) else none
    | _ => none)
  | none => none
def evRange (call : CallT) (ro : Option Nat) (f : Operand) (ps : Array Tmp) (as body : Code) : S → Option (Ex × S)
  | ⟨T, N, H, d, wr, df, mx⟩ => (match evO T f with
    | some (.fn (.func g) [] cap) => (match ro with
      | none => nN (d + 1) fun l => nN (d + 2) fun nx =>
        ((H.set d (some .dfr)).set l (some (.loop .ready none N T ps as body d))).force fun H =>
        endRange l nx (fun nx' H wr mx => ⟨T, N, H, nx', wr, d :: df, mx⟩) wr mx (call (.f g) (.yld l :: cap) H nx)
      | some l₀ => (match H.get l₀ with
        | some (.loop _ _ _ _ _ _ _ d') => nN (d + 1) fun nx =>
          (H.set d (some (.loop .ready none N T ps as body d'))).force fun H =>
          endRange d nx (fun nx' H wr mx => ⟨T, N, H, nx', wr, df, mx⟩) wr mx (call (.f g) (.yld d :: cap) H nx)
        | _ => none))
    | _ => none)
def evRegion (P : Program) (call : CallT) (ops : Array Oper) (draw : Bool) (s : S) : Option (Ex × S) :=
  match (match draw with | true => evDraw P call ops s | false => evOps P call ops ops.toList s) with
  | some s => some (.normal, s)
  | none => none
def evC (P : Program) (call : CallT) (ro : Option Nat) (L : Nat) : Code → S → Option (Ex × S)
  | .skip, s => some (.normal, s)
  | .region _ ops draw, s => evRegion P call ops draw s
  | .seq a b, s => (match evC P call ro L a s with
    | some (.normal, s) => evC P call ro L b s
    | r => r)
  | .cond c a b, s => (match evO s.T c with
    | some (.b true) => evC P call ro L a s
    | some (.b false) => evC P call ro L b s
    | _ => none)
  | .block id c, s => (match evC P call ro L c s with
    | some (.exit j, s) => bif Nat.beq j id then some (.normal, s) else some (.exit j, s)
    | r => r)
  | .loop c, s => evLoop L (fun s => evC P call ro L c s) s
  | .rangeFunc f ps as body, s => evRange call ro f ps as body s
  | .exit id, s => some (.exit id, s)
  | .scope c, s => (match evC P call ro L c s with
    | some (.goto _, _) => none
    | r => r)
  | .label _, s => some (.normal, s)
  | .goto l, s => some (.goto l, s)
  | .ret, s => some (.ret, s)
  | .refuse _, _ => none

mutual
def LV.lt (n : Nat) : LV → Bool
  | .p id _ => Nat.blt id n
  | .sl id _ _ _ => Nat.blt id n
  | .gs id _ _ _ => Nat.blt id n
  | .fn _ a c => LV.ltL n a && LV.ltL n c
  | .yld id => Nat.blt id n
  | .mp id => Nat.blt id n
  | .ifc _ v => LV.lt n v
  | .agg l => LV.ltL n l
  | .tup l => LV.ltL n l
  | _ => true
def LV.ltL (n : Nat) : List LV → Bool
  | [] => true
  | x :: l => LV.lt n x && LV.ltL n l
end
def Tr.ltT (n : Nat) : Tr LV → Bool
  | .l => true
  | .n v a b => (match v with | some v => v.lt n | none => true) && Tr.ltT n a && Tr.ltT n b
def LO.lt (n : Nat) : LO → Bool
  | .row _ cs => LV.ltL n cs
  | .gro _ _ cs => LV.ltL n cs
  | .ro _ cs => LV.ltL n cs
  | .loop _ _ _ _ _ _ _ _ => false
  | .dfr => true
def objsBelow (n : Nat) (H H₀ : Hp) : List Nat → Bool
  | [] => true
  | id :: r => (match H₀.get id with | some _ => true | none => false) && (match H.get id with | some o => o.lt n | none => true) && objsBelow n H H₀ r
def back (H : Hp) : List Nat → Hp → Hp
  | [], H₀ => H₀
  | id :: r, H₀ => (H₀.set id (H.get id)).force fun H₀ => back H r H₀
/-- Behind a call: what it has left where nothing new can be reached; else all. -/
def gc (nx : Nat) (H₀ : Hp) (v : LV) (H : Hp) (nx' : Nat) (wr : List Nat) : Out :=
  match below nx wr with
  | [] => bif v.lt nx then ⟨v, H₀, nx, []⟩ else ⟨v, H, nx', []⟩
  | x :: l => bif v.lt nx && objsBelow nx H H₀ (x :: l) then (back H (x :: l) H₀).force fun H => ⟨v, H, nx, x :: l⟩ else ⟨v, H, nx', x :: l⟩
/-- A function that is ranged over keeps all. -/
def gcA (args : List LV) (nx : Nat) (H₀ : Hp) (v : LV) (H : Hp) (nx' : Nat) (wr : List Nat) : Out := match args with
  | .yld _ :: _ => ⟨v, H, nx', below nx wr⟩
  | _ => gc nx H₀ v H nx' wr
def ofArgs : Nat → List LV → Tr LV → Tr LV
  | _, [], T => T
  | k, v :: l, T => (T.set k (some v)).force fun T => ofArgs (k + 1) l T
def putArgs : List Tmp → List LV → Tr LV → Tr LV
  | p :: ps, v :: l, T => (T.set p (some v)).force fun T => putArgs ps l T
  | _, _, T => T
def evRes (P : Program) (T : Tr LV) (H : Hp) : List ResultVar → Option (List LV)
  | [] => some []
  | .tmp t :: r => (match T.get t, evRes P T H r with
    | some v, some l => some (v :: l)
    | _, _ => none)
  | .cell a t :: r => (match T.get a, evRes P T H r with
    | some (.p id off), some l => (match H.get id with
      | some o => (match o.cs with | some cs => (match prt P t cs off with | some v => some (v :: l) | none => none) | none => none)
      | none => none)
    | _, _ => none)
def unmark (nx : Nat) (H : Hp) : List Nat → Option Hp
  | [] => some H
  | d :: r => match H.get d with
    | some .dfr => bif Nat.blt d nx then (H.set d none).force fun H => unmark nx H r else none
    | _ => none
def allLt (N : Nat) : List Tmp → Bool
  | [] => true
  | p :: ps => Nat.blt p N && allLt N ps
def lOf : List LV → LV
  | [v] => v
  | vs => .tup vs
/-- One call, where the calls within it are given. -/
def evStep (P : Program) (L : Nat) (call : CallT) : CallT
  | .f g, args, H, nx => (match P.funcs[g]? with
    | some fn => (match fn.body with
      | some c => (ofArgs 0 args .l).force fun T => nN (args.length + (fn.ntmps - args.length)) fun N =>
        (match evC P call none L c ⟨T, N, H, nx, [], [], nx⟩ with
        | some (.normal, ⟨T, _, H', nx', wr, df, mx⟩) | some (.ret, ⟨T, _, H', nx', wr, df, mx⟩) => (match unmark nx' H' df with
          | some H' => (match evRes P T H' fn.results.toList with
            | some vs => bif Nat.ble nx nx' then some ⟨gcA args nx H (lOf vs) H' nx' (addW df wr), mx⟩ else none
            | none => none)
          | none => none)
        | _ => none)
      | none => none)
    | none => none)
  | .r id, args, H, nx => (match H.get id with
    | some (.loop .ready _ N T ps as bd _) => bif Nat.beq ps.size args.length && allLt N ps.toList && Nat.blt id nx then
      (match evC P call (some id) L as ⟨putArgs ps.toList args T, N, H, nx, [], [], nx⟩ with
      | some (.normal, ⟨T₁, N₁, H₁, nx₁, wr₁, df₁, mx₁⟩) => (match H₁.get id with
        | some (.loop .ready pend N T ps as body d) =>
          (H₁.set id (some (.loop .busy pend N T ps as body d))).force fun H₁ =>
          (match evC P call (some id) L bd ⟨T₁, N₁, H₁, nx₁, addW [id] wr₁, df₁, mx₁⟩ with
          | some (e, ⟨_, _, H₂, nx₂, wr₂, _, mx₂⟩) => (match H₂.get id with
            | some (.loop .busy _ N T ps as body d) =>
              (H₂.set id (some (.loop e.st e.code N T ps as body d))).force fun H₂ =>
              bif Nat.ble nx nx₂ then some ⟨gc nx H e.ok H₂ nx₂ (addW [id] wr₂), mx₂⟩ else none
            | _ => none)
          | _ => none)
        | _ => none)
      | _ => none) else none
    | _ => none)
/-- The run of a call: n calls deep, loops of at most L rounds. -/
def evCall (P : Program) (L : Nat) : Nat → CallT
  | 0 => fun _ _ _ _ => none
  | n + 1 => evStep P L (evCall P L n)
def same1 : LV → LV → Bool
  | .b x, .b y => bif x then y else !y
  | .i k n, .i k' n' => decide (k = k') && decide (n = n')
  | _, _ => false
def sameL : List LV → List LV → Bool
  | [], [] => true
  | x :: l, y :: r => same1 x y && sameL l r
  | _, _ => false
/-- Equal numbers and truth values, or structs and tuples of such. -/
def same : LV → LV → Bool
  | .agg l, .agg r => sameL l r
  | .tup l, .tup r => sameL l r
  | x, y => same1 x y
/-- Calls whose answers are known already, function by function. -/
abbrev Tab := List (FuncId × List (List LV × LV))
def lookIn (as : List LV) : List (List LV × LV) → Option LV
  | [] => none
  | (as', v) :: t => bif sameL as as' then some v else lookIn as t
def look (g : FuncId) (as : List LV) : Tab → Option LV
  | [] => none
  | (g', l) :: t => bif Nat.beq g g' then lookIn as l else look g as t
def known (tab : Tab) (call : CallT) : CallT
  | .f g, as, H, nx => (match look g as tab with | some v => some ⟨⟨v, H, nx, []⟩, nx⟩ | none => call (.f g) as H nx)
  | .r id, as, H, nx => call (.r id) as H nx
/-- The run of a call with known calls in it. -/
def evKnown (P : Program) (L : Nat) (tab : Tab) : Nat → CallT
  | 0 => fun _ _ _ _ => none
  | n + 1 => evStep P L (known tab (evKnown P L tab n))
end
end Go.Rx
