/- An executable machine for one goroutine: Go code is turned into closures over logical blocks, so that the kernel runs it fast. Definitions only. -/
import Derived.RangeFuncLeaves
import Derived.OrdersIn
import Derived.KernelRfl
namespace Go.Ab

structure N8 (α : Type) where
  a : α
  b : α
  c : α
  d : α
  e : α
  f : α
  g : α
  h : α

def Fm (β : Type) : Nat → Type
  | 0 => β
  | n + 1 => N8 (Fm β n)
section fm
variable {β : Type}
def ini (v : β) : (k : Nat) → Fm β k
  | 0 => v
  | k + 1 => let x := ini v k; N8.mk x x x x x x x x
structure GW (β : Type) (k : Nat) where
  g : Fm β k → β
structure SW (β : Type) (k : Nat) where
  s : β → Fm β k → Fm β k
def getW : (k : Nat) → Nat → GW β k
  | 0, _ => ⟨fun t => t⟩
  | k + 1, i =>
    let sub : GW β k := getW k (Nat.div i 8)
    match Nat.mod i 8 with
    | 0 => ⟨fun t => sub.g (N8.a t)⟩
    | 1 => ⟨fun t => sub.g (N8.b t)⟩
    | 2 => ⟨fun t => sub.g (N8.c t)⟩
    | 3 => ⟨fun t => sub.g (N8.d t)⟩
    | 4 => ⟨fun t => sub.g (N8.e t)⟩
    | 5 => ⟨fun t => sub.g (N8.f t)⟩
    | 6 => ⟨fun t => sub.g (N8.g t)⟩
    | _ => ⟨fun t => sub.g (N8.h t)⟩
def setW : (k : Nat) → Nat → SW β k
  | 0, _ => ⟨fun v _ => v⟩
  | k + 1, i =>
    let sub : SW β k := setW k (Nat.div i 8)
    match Nat.mod i 8 with
    | 0 => ⟨fun v t => N8.mk (sub.s v (N8.a t)) (N8.b t) (N8.c t) (N8.d t) (N8.e t) (N8.f t) (N8.g t) (N8.h t)⟩
    | 1 => ⟨fun v t => N8.mk (N8.a t) (sub.s v (N8.b t)) (N8.c t) (N8.d t) (N8.e t) (N8.f t) (N8.g t) (N8.h t)⟩
    | 2 => ⟨fun v t => N8.mk (N8.a t) (N8.b t) (sub.s v (N8.c t)) (N8.d t) (N8.e t) (N8.f t) (N8.g t) (N8.h t)⟩
    | 3 => ⟨fun v t => N8.mk (N8.a t) (N8.b t) (N8.c t) (sub.s v (N8.d t)) (N8.e t) (N8.f t) (N8.g t) (N8.h t)⟩
    | 4 => ⟨fun v t => N8.mk (N8.a t) (N8.b t) (N8.c t) (N8.d t) (sub.s v (N8.e t)) (N8.f t) (N8.g t) (N8.h t)⟩
    | 5 => ⟨fun v t => N8.mk (N8.a t) (N8.b t) (N8.c t) (N8.d t) (N8.e t) (sub.s v (N8.f t)) (N8.g t) (N8.h t)⟩
    | 6 => ⟨fun v t => N8.mk (N8.a t) (N8.b t) (N8.c t) (N8.d t) (N8.e t) (N8.f t) (sub.s v (N8.g t)) (N8.h t)⟩
    | _ => ⟨fun v t => N8.mk (N8.a t) (N8.b t) (N8.c t) (N8.d t) (N8.e t) (N8.f t) (N8.g t) (sub.s v (N8.h t))⟩
end fm

/-- how many levels n cells take -/
def lvl (n : Nat) : Nat := bif Nat.ble n 1 then 0 else bif Nat.ble n 8 then 1 else bif Nat.ble n 64 then 2 else bif Nat.ble n 512 then 3 else bif Nat.ble n 4096 then 4 else 5
def pow8 : Nat → Nat
  | 0 => 1
  | k + 1 => Nat.mul 8 (pow8 k)
def gets (k : Nat) (t : Fm Value k) : Nat → Nat → List Value
  | _, 0 => []
  | o, n + 1 => (getW k o).g t :: gets k t (Nat.add o 1) n
def puts (k : Nat) : Nat → List Value → Fm Value k → Fm Value k
  | _, [], t => t
  | o, v :: vs, t => puts k (Nat.add o 1) vs ((setW k o).s v t)

inductive AObj where
  | cells (k n : Nat) (t : Fm Value k) (e : TypeId) (g : Bool)
  | loop (st : LoopState) (pend : Option Code) (k n : Nat) (t : Fm Value k) (ps : List Tmp) (asg body : Code) (d : Nat)
  | dfr
  | map (es : List MapEntry) (clock : Nat)
  | mit (m : Option Nat) (since : Nat) (seen : List Nat) (stepped : Nat)
  | sit (w : ByteArray) (pos : Nat)

/-- the last number: blocks before it are not changed -/
structure St where
  h : Fm (Option AObj) 14
  nx : Nat
  fl : Nat
def maxB : Nat := 4398046511104
def St.at (s : St) (b : Nat) : Option AObj := bif Nat.blt b 4398046511104 then (getW 14 b).g s.h else none
def St.set (s : St) (b : Nat) (o : Option AObj) : St := ⟨(setW 14 b).s o s.h, s.nx, s.fl⟩
def St.push (s : St) (o : AObj) : St := ⟨(setW 14 s.nx).s (some o) s.h, Nat.add s.nx 1, s.fl⟩
def st0 : St := ⟨ini none 14, 0, 0⟩

abbrev KV := Value → St → Bool

def pureC : Nat → Value → Bool
  | _, .bool _ | _, .int _ _ | _, .string _ | _, .float _ _ | _, .pointer none | _, .slice none _ _ | _, .map none | _, .nilFunc | _, .nilIface => true
  | f + 1, .agg cs => cs.toList.all (pureC f)
  | f + 1, .tuple cs => cs.toList.all (pureC f)
  | f + 1, .iface _ v => pureC f v
  | _, _ => false

/-- a Sem term that asks nothing of the world -/
def pureRun {α : Type} (P : Program) : Sem α → Option α
  | .pure a => some a
  | .program k => pureRun P (k P)
  | _ => none

def flat1 : Value → Bool
  | .agg _ | .tuple _ | .chan _ => false
  | _ => true
/-- a slice without room whose address is not known -/
abbrev empty0 : Value := .slice (some ⟨0, 0, some 0⟩) 0 0
def isCh : Value → Bool
  | .chan _ => true
  | _ => false
def vcells : Value → List Value
  | .agg cs => cs.toList
  | v => [v]
def isAggD : TypeDesc → Bool
  | .struct _ | .array _ _ => true
  | _ => false

def kIdx : IntKind → Nat
  | .i8 => 0 | .i16 => 1 | .i32 => 2 | .i64 => 3 | .u8 => 4 | .u16 => 5 | .u32 => 6 | .u64 => 7
def wr (k : IntKind) (n : Int) : Int :=
  match k with
  | .i64 => match n with
    | .ofNat m => bif Nat.blt m 9223372036854775808 then n else k.wrap n
    | .negSucc m => bif Nat.blt m 9223372036854775808 then n else k.wrap n
  | k => k.wrap n
def iLt : Int → Int → Bool
  | .ofNat m, .ofNat n => Nat.blt m n
  | .negSucc _, .ofNat _ => true
  | .ofNat _, .negSucc _ => false
  | .negSucc m, .negSucc n => Nat.blt n m
def iEq : Int → Int → Bool
  | .ofNat m, .ofNat n => Nat.beq m n
  | .negSucc m, .negSucc n => Nat.beq m n
  | _, _ => false

def asInt (v : Value) (K : IntKind → Int → Bool) : Bool := match v with
  | .int k n => K k n
  | _ => false
def asNat (v : Value) (K : Nat → Bool) : Bool := match v with
  | .int _ n => match n with
    | .ofNat m => K m
    | .negSucc _ => false
  | _ => false
def asBool (v : Value) (K : Bool → Bool) : Bool := match v with
  | .bool b => K b
  | _ => false
def onAddr (a : Addr) (K : Nat → Nat → Bool) : Bool := match a with
  | ⟨b, o, sp⟩ => match sp with
    | none => K b o
    | some _ => false
def asPtr (v : Value) (K : Nat → Nat → Bool) : Bool := match v with
  | .pointer a => match a with
    | some a => onAddr a K
    | none => false
  | _ => false
/-- a slice: nil, or block, offset, length, capacity -/
def asSlice (v : Value) (N : Nat → Nat → Bool) (K : Nat → Nat → Nat → Nat → Bool) : Bool := match v with
  | .slice a n c => match a with
    | none => N n c
    | some a => onAddr a fun b o => K b o n c
  | _ => false
def ptr (b o : Nat) : Value := .pointer (some ⟨b, o, none⟩)
def slc (b o n c : Nat) : Value := .slice (some ⟨b, o, none⟩) n c
def onCells (s : St) (b : Nat) (K : (k : Nat) → Nat → Fm Value k → TypeId → Bool → Bool) : Bool :=
  match s.at b with
  | some o => match o with
    | .cells k n t e g => K k n t e g
    | _ => false
  | none => false
def ld1 (s : St) (b o : Nat) (K : Value → Bool) : Bool :=
  onCells s b fun k n t _ _ => bif Nat.blt o n then K ((getW k o).g t) else false
def ldN (s : St) (b o m : Nat) (K : List Value → Bool) : Bool :=
  onCells s b fun k n t _ _ => bif Nat.ble (Nat.add o m) n then K (gets k t o m) else false
/-- the element type of memory that is only read -/
def ro : TypeId := 4294967295
def isRo : AObj → Bool
  | .cells _ _ _ e g => Nat.beq e ro && !g
  | _ => false
/-- what is not changed -/
def St.fix (s : St) (b : Nat) (o : AObj) : Bool := isRo o || Nat.blt b s.fl
/-- whether a block may be changed -/
def St.ok (s : St) (b : Nat) : Bool := !Nat.blt b s.fl
def onCellsW (s : St) (b : Nat) (K : (k n : Nat) → Fm Value k → TypeId → Bool → Bool) : Bool :=
  onCells s b fun k n t e g => bif !Nat.beq e ro && s.ok b then K k n t e g else false
def st1 (s : St) (b o : Nat) (v : Value) (K : St → Bool) : Bool :=
  onCellsW s b fun k n t e g => bif Nat.blt o n then (bif flat1 v then K (s.set b (some (.cells k n ((setW k o).s v t) e g))) else false) else false
def stN (s : St) (b o : Nat) (l : List Value) (K : St → Bool) : Bool :=
  onCellsW s b fun k n t e g => bif Nat.ble (Nat.add o l.length) n then (bif l.all flat1 then K (s.set b (some (.cells k n (puts k o l t) e g))) else false) else false
section ops
variable (P : Program)
def sizeT (t : TypeId) : Option Nat := (P.info? t).map (·.size)
def zeroL (t : TypeId) : Option (List Value) :=
  match P.info? t with
  | some i => match i.zero with
    | some v => bif pureC 4 v then some (vcells v) else none
    | none => none
  | none => none
def elemOfSlice (t : TypeId) : Option TypeId :=
  match P.underlying t with
  | some (.slice e) => some e
  | _ => none

/-- what a call does: function value, arguments, what follows, state -/
abbrev CallT := Value → List Value → KV → St → Bool
/-- an operation that asks nothing of memory · that reads it · that lays a new block (its content, its value by its number) · any other -/
structure SilC (k : Nat) where
  m : Fm Value k → (Value → Bool) → Bool
structure RdC (k : Nat) where
  m : Fm Value k → St → (Value → Bool) → Bool
structure AlC (k : Nat) where
  m : Fm Value k → (AObj → (Nat → Value) → Bool) → Bool
structure EffC (k : Nat) where
  m : CallT → Fm Value k → St → KV → Bool
inductive OpC (k : Nat) where
  | sil (c : SilC k)
  | rd (c : RdC k)
  | al (c : AlC k)
  | eff (c : EffC k)
  | bad

def cEv (k n : Nat) : Operand → Option (GW Value k)
  | .tmp t => bif Nat.blt t n then some (getW k t) else none
  | .const v => bif pureC 4 v then some ⟨fun _ => v⟩ else none
  | .global _ => none
  | .func f => some ⟨fun _ => .func (.func f) #[] #[]⟩
def cEvs (k n : Nat) : List Operand → Option (List (GW Value k))
  | [] => some []
  | x :: xs => match cEv k n x with
    | some g => match cEvs k n xs with
      | some gs => some (g :: gs)
      | none => none
    | none => none
def evAll {k : Nat} (t : Fm Value k) : List (GW Value k) → List Value
  | [] => []
  | g :: gs => g.g t :: evAll t gs
def cParts (k n : Nat) : List (Nat × Operand) → Option (List (Nat × GW Value k))
  | [] => some []
  | (i, x) :: xs => match cEv k n x with
    | some g => match cParts k n xs with
      | some gs => some ((i, g) :: gs)
      | none => none
    | none => none

/-- replace the cells from 'o' on -/
def splice : Nat → List Value → List Value → Option (List Value)
  | _, [], cs => some cs
  | 0, x :: xs, _ :: cs => match splice 0 xs cs with
    | some r => some (x :: r)
    | none => none
  | o + 1, xs, c :: cs => match splice o xs cs with
    | some r => some (c :: r)
    | none => none
  | _, _ :: _, [] => none
def fillP {k : Nat} (t : Fm Value k) (place : Nat → Option (Nat × Nat)) (cells : List Value) : List (Nat × GW Value k) → Option (List Value)
  | [] => some cells
  | (i, g) :: rest =>
    match place i with
    | none => none
    | some (off, size) =>
      let l := vcells (g.g t)
      bif Nat.beq l.length size && Nat.ble (Nat.add off size) cells.length && !isCh (g.g t) then
        match splice off l cells with
        | some cells' => fillP t place cells' rest
        | none => none
      else none
def repL (z : List Value) : Nat → List Value
  | 0 => []
  | n + 1 => z ++ repL z n
def fieldPlaces : List Field → Option (List (Nat × Nat))
  | [] => some []
  | f :: fs => match sizeT P f.type with
    | some n => match fieldPlaces fs with
      | some r => some ((f.offset, n) :: r)
      | none => none
    | none => none
/-- a new block of some cells -/
def mkC (l : List Value) (e : TypeId) (g : Bool) : AObj := let n := l.length; let k := lvl n; .cells k n (puts k 0 l (ini undef k)) e g
def mkL (l : List Value) (e : TypeId) (v : Nat → Value) (K : AObj → (Nat → Value) → Bool) : Bool :=
  bif Nat.ble l.length 32768 then K (mkC l e false) v else false

def oLoad {k : Nat} (t : TypeId) (x : GW Value k) : OpC k :=
  match P.underlying t, sizeT P t with
  | some d, some n => bif isAggD d then .rd ⟨fun f s K => asPtr (x.g f) fun b o => ldN s b o n fun l => K (.agg ⟨l⟩)⟩
      else .rd ⟨fun f s K => asPtr (x.g f) fun b o => ld1 s b o K⟩
  | _, _ => .bad
def oStore {k : Nat} (t : TypeId) (x y : GW Value k) : OpC k :=
  match sizeT P t with
  | some n => .eff ⟨fun _ f s K => asPtr (x.g f) fun b o => match y.g f with
      | .agg cs => bif Nat.beq cs.toList.length n then stN s b o cs.toList (K undef) else false
      | v => bif Nat.beq n 1 then st1 s b o v (K undef) else false⟩
  | none => .bad
def oAlloc {k : Nat} (t : TypeId) : OpC k :=
  match zeroL P t with
  | some z => .al ⟨fun _ K => mkL z t (fun b => ptr b 0) K⟩
  | none => .bad
def oBox {k : Nat} (t : TypeId) (x : GW Value k) : OpC k :=
  .al ⟨fun f K => match x.g f with
    | .agg cs => mkL cs.toList t (fun b => ptr b 0) K
    | .chan _ => false
    | v => K (.cells 0 1 v t false) (fun b => ptr b 0)⟩
def oBuild {k : Nat} (t : TypeId) (ps : List (Nat × GW Value k)) : OpC k :=
  match zeroL P t, P.underlying t with
  | some z, some (.struct fs) => match fieldPlaces P fs.toList with
    | some pl => .sil ⟨fun f K => match fillP f (fun i => pl[i]?) z ps with
      | some l => K (.agg ⟨l⟩)
      | none => false⟩
    | none => .bad
  | some z, some (.array _ e) => match sizeT P e with
    | some n => .sil ⟨fun f K => match fillP f (fun i => some (Nat.mul i n, n)) z ps with
      | some l => K (.agg ⟨l⟩)
      | none => false⟩
    | none => .bad
  | _, _ => .bad
def oBuildSlice {k : Nat} (t : TypeId) (len : Nat) (ps : List (Nat × GW Value k)) : OpC k :=
  match elemOfSlice P t with
  | some e => match sizeT P e, zeroL P e with
    | some n, some z =>
      bif Nat.ble (Nat.mul len n) 32768 && Nat.beq z.length n then
        .al ⟨fun f K => match fillP f (fun i => some (Nat.mul i n, n)) (repL z len) ps with
          | some l => mkL l e (fun b => slc b 0 len len) K
          | none => false⟩
      else .bad
    | _, _ => .bad
  | none => .bad
def oMakeSlice {k : Nat} (t : TypeId) (x y : GW Value k) : OpC k :=
  match elemOfSlice P t with
  | some e => match P.info? e, zeroL P e with
    | some i, some z =>
      bif Nat.ble i.bytes 1000000 && Nat.beq z.length i.size then
        .al ⟨fun f K => asNat (x.g f) fun l => asNat (y.g f) fun c => bif Nat.ble l c && Nat.ble c 32768 then
          mkL (repL z c) e (fun b => slc b 0 l c) K else false⟩
      else .bad
    | _, _ => .bad
  | none => .bad
def oFieldAddr {k : Nat} (t : TypeId) (x : GW Value k) (i : Nat) : OpC k :=
  match P.underlying t with
  | some (.struct fs) => match fs.toList[i]? with
    | some fd => match sizeT P fd.type with
      | some n => bif Nat.blt 0 n then let d := fd.offset; .sil ⟨fun f K => asPtr (x.g f) fun b o => K (ptr b (Nat.add o d))⟩ else .bad
      | none => .bad
    | none => .bad
  | _ => .bad
def oIndexAddr {k : Nat} (t : TypeId) (x i : GW Value k) : OpC k :=
  match P.underlying t with
  | some (.array len e) => match sizeT P e with
    | some n => .sil ⟨fun f K => asNat (i.g f) fun j => bif Nat.blt j len then (asPtr (x.g f) fun b o => K (ptr b (Nat.add o (Nat.mul j n)))) else false⟩
    | none => .bad
  | some (.slice e) => match sizeT P e with
    | some n => .sil ⟨fun f K => asNat (i.g f) fun j => asSlice (x.g f) (fun _ _ => false) fun b o len _ => bif Nat.blt j len then K (ptr b (Nat.add o (Nat.mul j n))) else false⟩
    | none => .bad
  | _ => .bad
def takeL : Nat → List Value → Option (List Value)
  | 0, _ => some []
  | n + 1, l => match l with
    | [] => none
    | x :: xs => match takeL n xs with
      | some r => some (x :: r)
      | none => none
/-- the part of some cells that a variable of type 't' at 'off' has -/
structure PartC where
  p : List Value → Nat → Option Value
def cPart (t : TypeId) : PartC :=
  match P.underlying t, sizeT P t with
  | some d, some n => bif isAggD d then ⟨fun cs off => match takeL n (cs.drop off) with
      | some l => some (.agg ⟨l⟩)
      | none => none⟩ else ⟨fun cs off => cs[off]?⟩
  | _, _ => ⟨fun _ _ => none⟩
def partOf (pc : PartC) (v : Value) (off : Nat) (K : Value → Bool) : Bool := match v with
  | .agg cs => match pc.p cs.toList off with
    | some v => K v
    | none => false
  | _ => false
def oField {k : Nat} (t : TypeId) (x : GW Value k) (i : Nat) : OpC k :=
  match P.underlying t with
  | some (.struct fs) => match fs.toList[i]? with
    | some fd => let d := fd.offset; let pc := cPart P fd.type; .sil ⟨fun f K => partOf pc (x.g f) d K⟩
    | none => .bad
  | _ => .bad
def oIndex {k : Nat} (t : TypeId) (x i : GW Value k) : OpC k :=
  match P.underlying t with
  | some (.array len e) => match sizeT P e with
    | some n => let pc := cPart P e; .sil ⟨fun f K => asNat (i.g f) fun j => bif Nat.blt j len then partOf pc (x.g f) (Nat.mul j n) K else false⟩
    | none => .bad
  | some .string => .sil ⟨fun f K => asNat (i.g f) fun j => match x.g f with
      | .string w => match w.data.toList[j]? with
        | some c => K (.int .u8 (.ofNat c.toNat))
        | none => false
      | _ => false⟩
  | _ => .bad
def bnd {k : Nat} (f : Fm Value k) (y dflt : Nat) (x : Option (GW Value k)) (K : Nat → Bool) : Bool :=
  match x with
  | none => K dflt
  | some g => asNat (g.g f) fun i => bif Nat.ble i y then K i else false
def slcAt (b o z m l h : Nat) : Value := bif Nat.beq m l then slc b o (Nat.sub h l) (Nat.sub m l) else slc b (Nat.add o (Nat.mul l z)) (Nat.sub h l) (Nat.sub m l)
def oSlice {k : Nat} (t : TypeId) (x : GW Value k) (lo hi mx : Option (GW Value k)) : OpC k :=
  bif mx.isSome && hi.isNone then .bad else match P.underlying t with
  | some (.slice e) => match sizeT P e with
    | some z => .rd ⟨fun f s K => asSlice (x.g f)
        (fun n c => bnd f c c mx fun m => bnd f m n hi fun h => bnd f h 0 lo fun l => K (.slice none (Nat.sub h l) (Nat.sub m l)))
        (fun b o n c => onCells s b fun _ _ _ ce cg => bif !cg || Nat.beq ce e then (bnd f c c mx fun m => bnd f m n hi fun h => bnd f h 0 lo fun l => K (slcAt b o z m l h)) else false)⟩
    | none => .bad
  | some (.array n e) => match sizeT P e with
    | some z => .rd ⟨fun f s K => asPtr (x.g f) fun b o => onCells s b fun _ _ _ _ g => bif g then false else
        bnd f n n mx fun m => bnd f m n hi fun h => bnd f h 0 lo fun l => K (slcAt b o z m l h)⟩
    | none => .bad
  | some .string => match mx with
    | none => .sil ⟨fun f K => match x.g f with
      | .string w => bnd f w.size w.size hi fun h => bnd f h 0 lo fun l => K (.string (w.extract l h))
      | _ => false⟩
    | some _ => .bad
  | _ => .bad

/-- numbers of bytes -/
def intsU8 : List Value → Option (List Int)
  | [] => some []
  | x :: r => match x with
    | .int k n => match k with
      | .u8 => match intsU8 r with
        | some l => some (n :: l)
        | none => none
      | _ => none
    | _ => none
def bytesU8 : List Int → List UInt8
  | [] => []
  | n :: r => UInt8.ofNat n.toNat :: bytesU8 r
/-- a string of bytes that a slice holds -/
def oBytesStr {k : Nat} (x : GW Value k) : OpC k :=
  .rd ⟨fun f s K => asSlice (x.g f) (fun _ _ => K (.string ⟨#[]⟩)) fun b o n _ => ldN s b o n fun l => match intsU8 l with
    | some ns => K (.string ⟨⟨bytesU8 ns⟩⟩)
    | none => false⟩

/-- what an append or a copy takes over -/
def source (s : St) (z : Nat) (x : Value) (K : Nat → List Value → Bool) : Bool :=
  asSlice x (fun n _ => bif Nat.beq n 0 then K 0 [] else false) fun b o n _ => ldN s b o (Nat.mul n z) (K n)
def newC (s : St) (l : List Value) (e : TypeId) (g : Bool) (K : Nat → St → Bool) : Bool :=
  bif Nat.blt s.nx 4398046511104 && Nat.ble l.length 32768 then K s.nx (s.push (mkC l e g)) else false
/-- an append that does not surely fit -/
def growS (s : St) (e sz b o m n : Nat) (l : List Value) (K : KV) : Bool :=
  bif Nat.ble (Nat.add m n) 32768 then
    onCells s b fun ck cn ct ce cg => bif ((Nat.beq ce e && s.ok b) || !cg) && Nat.ble (Nat.add o (Nat.mul m sz)) cn then
      (let s1 : St := bif cg then s.set b none else s
       let tot := Nat.mul (Nat.add m n) sz
       bif Nat.beq o 0 && Nat.ble tot (pow8 ck) then
         (bif Nat.blt s.nx 4398046511104 then K (slc s.nx 0 (Nat.add m n) (Nat.add m n)) (s1.push (.cells ck tot (puts ck (Nat.mul m sz) l ct) e true)) else false)
       else newC s1 (gets ck ct o (Nat.mul m sz) ++ l) e true fun b' s' => K (slc b' 0 (Nat.add m n) (Nat.add m n)) s')
    else false
  else false
/-- what an append takes over: a slice's cells, or zeros (an append of what make makes) -/
def srcOf (xt : TypeId) : Option Bool := match P.underlying xt with
  | some (.slice _) => some true
  | some (.int _) => some false
  | _ => none
def srcF (s : St) (sz : Nat) (z : List Value) (sl : Bool) (y : Value) (K : Nat → List Value → Bool) : Bool :=
  bif sl then source s sz y K else asNat y fun n => bif Nat.ble n 32768 then K n (repL z n) else false
def appS (e sz : Nat) (x : Value) (n : Nat) (l : List Value) (s : St) (K : KV) : Bool :=
  bif l.all flat1 then
    asSlice x
      (fun m c => bif Nat.beq m 0 && Nat.beq c 0 then
        (bif Nat.beq n 0 then K (.slice none 0 0) s else newC s l e true fun b s' => K (slc b 0 n n) s') else false)
      (fun b o m c => bif Nat.ble (Nat.add m n) c then stN s b (Nat.add o (Nat.mul m sz)) l fun s' => K (slc b o (Nat.add m n) c) s'
        else growS s e sz b o m n l K)
  else false
def oAppend {k : Nat} (t xt : TypeId) (x y : GW Value k) : OpC k :=
  match elemOfSlice P t, srcOf P xt with
  | some e, some sl => match P.info? e, zeroL P e with
    | some i, some z =>
      let sz := i.size
      bif Nat.beq z.length sz && Nat.ble i.bytes 1000000 && Nat.ble 1 sz then
        .eff ⟨fun _ f s K => srcF s sz z sl (y.g f) fun n l => appS e sz (x.g f) n l s K⟩
      else .bad
    | _, _ => .bad
  | _, _ => .bad
def oCopy {k : Nat} (t : TypeId) (x y : GW Value k) : OpC k :=
  match elemOfSlice P t with
  | some e => match sizeT P e with
    | some z => .eff ⟨fun _ f s K => asSlice (x.g f) (fun _ _ => asSlice (y.g f) (fun _ _ => false) (fun _ _ _ _ => false))
        fun b o n _ => asSlice (y.g f) (fun n2 _ => bif Nat.beq n2 0 then K (.int .i64 0) s else false)
          fun b2 o2 n2 _ => let m := bif Nat.ble n2 n then n2 else n
            ldN s b2 o2 (Nat.mul m z) fun l => stN s b o l fun s' => K (.int .i64 (.ofNat m)) s'⟩
    | none => .bad
  | none => .bad

def nilCmp (d : Option TypeDesc) (neg : Bool) (x y : Value) (K : Value → Bool) : Bool :=
  match d, x, y with
  | some (.slice _), .slice (some _) _ _, .slice none _ _ | some (.slice _), .slice none _ _, .slice (some _) _ _ => K (.bool neg)
  | some (.pointer _), .pointer (some _), .pointer none | some (.pointer _), .pointer none, .pointer (some _) => K (.bool neg)
  | some (.map _ _), .map (some _), .map none | some (.map _ _), .map none, .map (some _) => K (.bool neg)
  | some (.func _ _ _), .nilFunc, .func _ _ _ | some (.func _ _ _), .func _ _ _, .nilFunc => K (.bool neg)
  | _, _, _ => false
def ints {k : Nat} (x y : GW Value k) (F : IntKind → Int → Int → (Value → Bool) → Bool) : OpC k :=
  .sil ⟨fun f K => asInt (x.g f) fun a m => asInt (y.g f) fun b n => bif Nat.beq (kIdx a) (kIdx b) then F a m n K else false⟩
def gBin {k : Nat} (op : BinOp) (t : TypeId) (xo yo : Operand) (x y : GW Value k) : OpC k :=
  .sil ⟨fun f K => bif pureC 4 (x.g f) && pureC 4 (y.g f) then (match pureRun P (do eqGuard op t xo yo (x.g f) (y.g f); binOp op t (x.g f) (y.g f)) with
    | some v => bif pureC 4 v then K v else false
    | none => false) else match op with
      | .eql => nilCmp (P.underlying t) false (x.g f) (y.g f) K
      | .neq => nilCmp (P.underlying t) true (x.g f) (y.g f) K
      | _ => false⟩
def oBin {k : Nat} (op : BinOp) (t : TypeId) (xo yo : Operand) (x y : GW Value k) : OpC k :=
  match P.underlying t with
  | some (.int _) => match op with
    | .add => ints x y fun a m n K => K (.int a (wr a (Int.add m n)))
    | .sub => ints x y fun a m n K => K (.int a (wr a (Int.sub m n)))
    | .mul => ints x y fun a m n K => K (.int a (wr a (Int.mul m n)))
    | .quo => ints x y fun a m n K => bif iEq n 0 then false else K (.int a (wr a (Int.tdiv m n)))
    | .rem => ints x y fun a m n K => bif iEq n 0 then false else K (.int a (Int.tmod m n))
    | .eql => ints x y fun _ m n K => K (.bool (iEq m n))
    | .neq => ints x y fun _ m n K => K (.bool (!iEq m n))
    | .lss => ints x y fun _ m n K => K (.bool (iLt m n))
    | .gtr => ints x y fun _ m n K => K (.bool (iLt n m))
    | .leq => ints x y fun _ m n K => K (.bool (!iLt n m))
    | .geq => ints x y fun _ m n K => K (.bool (!iLt m n))
    | op => gBin P op t xo yo x y
  | _ => gBin P op t xo yo x y

mutual
def eqV : Nat → TypeId → Value → Value → Option Bool
  | 0, _, _, _ => none
  | f + 1, t, x, y => match P.underlying t with
    | some (.int _) => match x, y with
      | .int a m, .int b n => bif Nat.beq (kIdx a) (kIdx b) then some (iEq m n) else none
      | _, _ => none
    | some .bool => match x, y with
      | .bool a, .bool b => some (a == b)
      | _, _ => none
    | some (.struct fs) => match x, y with
      | .agg xs, .agg ys => bif P.stoodInHeld t then none else eqFs f xs.toList ys.toList fs.toList
      | _, _ => none
    | some (.array n e) => match x, y with
      | .agg xs, .agg ys => match sizeT P e with
        | some m => eqIs f e m xs.toList ys.toList n 0
        | none => none
      | _, _ => none
    | _ => none
def eqFs : Nat → List Value → List Value → List Field → Option Bool
  | 0, _, _, _ => none
  | _ + 1, _, _, [] => some true
  | f + 1, xs, ys, fd :: fs => bif fd.name == "_" then none else match (cPart P fd.type).p xs fd.offset, (cPart P fd.type).p ys fd.offset with
    | some a, some b => match eqV f fd.type a b, eqFs f xs ys fs with
      | some r, some r' => some (r && r')
      | _, _ => none
    | _, _ => none
def eqIs : Nat → TypeId → Nat → List Value → List Value → Nat → Nat → Option Bool
  | 0, _, _, _, _, _, _ => none
  | _ + 1, _, _, _, _, 0, _ => some true
  | f + 1, e, m, xs, ys, n + 1, i => match (cPart P e).p xs (Nat.mul i m), (cPart P e).p ys (Nat.mul i m) with
    | some a, some b => match eqV f e a b, eqIs f e m xs ys n (Nat.add i 1) with
      | some r, some r' => some (r && r')
      | _, _ => none
    | _, _ => none
end
def isAggT (t : TypeId) : Bool := match P.underlying t with
  | some (.struct _) | some (.array _ _) => true
  | _ => false
/-- asked when it runs: such a question is hard to answer while the program is turned into closures -/
def aggOk (t : TypeId) : Bool := !P.eqGuardType P.depth t
def oBinA {k : Nat} (op : BinOp) (t : TypeId) (xo yo : Operand) (x y : GW Value k) : OpC k :=
  match oBin P op t xo yo x y with
  | .sil c => bif isAggT P t then (match op with
    | .eql => .sil ⟨fun f K => bif aggOk P t then (match eqV P 40 t (x.g f) (y.g f) with
      | some r => K (.bool r)
      | none => c.m f K) else c.m f K⟩
    | .neq => .sil ⟨fun f K => bif aggOk P t then (match eqV P 40 t (x.g f) (y.g f) with
      | some r => K (.bool (!r))
      | none => c.m f K) else c.m f K⟩
    | _ => .sil c) else .sil c
  | r => r

def isK : Operand → Bool
  | .const _ => true
  | _ => false
def oBuiltin {k : Nat} (b : Builtin) (args : List Operand) (argTypes : List TypeId) (type : TypeId) (gs : List (GW Value k)) : OpC k :=
  .sil ⟨fun f K => bif (evAll f gs).all (pureC 4) then
      (match pureRun P (builtin b ⟨argTypes⟩ type (args.map isK).toArray ⟨evAll f gs⟩) with
        | some nx => match nx with
          | .value w => bif pureC 4 w then K w else false
          | _ => false
        | none => false)
      else false⟩
/-- one of two, by whether a value is a string -/
def strOr {k : Nat} (x : GW Value k) (c d : OpC k) : OpC k := match c, d with
  | .sil c, .sil d => .sil ⟨fun f K => match x.g f with
    | .string _ => d.m f K
    | _ => c.m f K⟩
  | _, _ => .bad
def cBuiltin (k n : Nat) (b : Builtin) (args : List Operand) (argTypes : List TypeId) (type : TypeId) : OpC k :=
  match cEvs k n args with
  | none => .bad
  | some gs => match b with
    | .append => match gs, argTypes with
      | [x, y], [t, u] => oAppend P t u x y
      | _, _ => .bad
    | .copy => match gs, argTypes with
      | [x, y], [t, _] => oCopy P t x y
      | _, _ => .bad
    | .len => match gs, argTypes with
      | [x], [t] => match P.underlying t with
        | some (.slice _) => .sil ⟨fun f K => match x.g f with
          | .slice _ m _ => K (.int .i64 (.ofNat m))
          | _ => false⟩
        | some .string => .sil ⟨fun f K => match x.g f with
          | .string w => K (.int .i64 (.ofNat w.size))
          | _ => false⟩
        | some (.array m _) => .sil ⟨fun _ K => K (.int .i64 (.ofNat m))⟩
        | _ => .bad
      | _, _ => .bad
    | .min => match gs with
      | [x, y] => strOr x (ints x y fun a m n K => K (.int a (bif iLt n m then n else m))) (oBuiltin P .min args argTypes type gs)
      | _ => .bad
    | .max => match gs with
      | [x, y] => strOr x (ints x y fun a m n K => K (.int a (bif iLt m n then n else m))) (oBuiltin P .max args argTypes type gs)
      | _ => .bad
    | b => oBuiltin P b args argTypes type gs

/-! maps -/
def asMap (v : Value) (N : Bool) (K : Nat → Bool) : Bool := match v with
  | .map r => match r with
    | none => N
    | some b => K b
  | _ => false
def onMap (s : St) (b : Nat) (K : List MapEntry → Nat → Bool) : Bool := match s.at b with
  | some o => match o with
    | .map es c => K es c
    | _ => false
  | none => false
def kEq (d : TypeDesc) (x y : Value) : Option Bool := match d with
  | .int _ => match x, y with
    | .int a m, .int b n => bif Nat.beq (kIdx a) (kIdx b) then some (iEq m n) else none
    | _, _ => none
  | .string => match x, y with
    | .string a, .string b => some (a == b)
    | _, _ => none
  | .bool => match x, y with
    | .bool a, .bool b => some (a == b)
    | _, _ => none
  | _ => none
def isBasD : TypeDesc → Bool
  | .int _ | .string | .bool => true
  | _ => false
def isStrD : TypeDesc → Bool
  | .struct _ => true
  | _ => false
def same1 (x y : Value) : Bool := match x, y with
  | .int a m, .int b n => Nat.beq (kIdx a) (kIdx b) && iEq m n
  | .string a, .string b => a == b
  | .bool a, .bool b => a == b
  | _, _ => false
def sameL : List Value → List Value → Bool
  | [], [] => true
  | x :: xs, y :: ys => same1 x y && sameL xs ys
  | _, _ => false
def sameB (x y : Value) : Bool := match x, y with
  | .agg a, .agg b => sameL a.toList b.toList
  | x, y => same1 x y
/-- whether two keys are equal; those that are equal are the same bits -/
def kEqT (kt : TypeId) (d : TypeDesc) (x y : Value) : Option Bool :=
  bif isBasD d then kEq d x y else match eqV P 40 kt x y with
    | some b => bif b then (bif sameB y x then some true else none) else some false
    | none => none
def findK (kt : TypeId) (d : TypeDesc) (x : Value) : List MapEntry → Nat → Option (Option (Nat × MapEntry))
  | [], _ => some none
  | e :: es, i => match kEqT P kt d x e.key with
    | some b => bif b then some (some (i, e)) else findK kt d x es (Nat.add i 1)
    | none => none
def partsOk (cs : List Value) : List Field → Bool
  | [] => true
  | f :: fs => (match P.underlying f.type with
    | some d => isBasD d
    | none => false) && ((cPart P f.type).p cs f.offset).isSome && partsOk cs fs
/-- a key that can be looked for -/
def keyOk (d : TypeDesc) (x : Value) : Bool := bif isBasD d then pureC 4 x else match d with
  | .struct fs => match x with
    | .agg cs => partsOk P cs.toList fs.toList && pureC 4 x
    | _ => false
  | .array m e => match x with
    | .agg cs => ((match P.underlying e with
      | some d => isBasD d
      | none => false) && (match sizeT P e with
      | some z => Nat.beq z 1
      | none => false) && Nat.beq cs.toList.length m) && pureC 4 x
    | _ => false
  | _ => false
def modL (f : MapEntry → MapEntry) : Nat → List MapEntry → List MapEntry
  | _, [] => []
  | 0, e :: es => f e :: es
  | i + 1, e :: es => e :: modL f i es
def delL : Nat → List MapEntry → List MapEntry
  | _, [] => []
  | 0, _ :: es => es
  | i + 1, e :: es => e :: delL i es
def pairV (c : Bool) (v : Value) (b : Bool) : Value := bif c then .tuple ⟨[v, .bool b]⟩ else v
def oMakeMap {k : Nat} (t : TypeId) (x : Option (GW Value k)) : OpC k :=
  match x with
  | none => .al ⟨fun _ K => K (.map [] 0) (fun b => .map (some b))⟩
  | some g => match P.underlying t with
    | some (.map _ _) => .al ⟨fun f K => asInt (g.g f) fun _ _ => K (.map [] 0) (fun b => .map (some b))⟩
    | _ => .bad
def zeroOf (t : TypeId) : Option Value := match P.info? t with
  | some i => match i.zero with
    | some v => bif pureC 4 v then some v else none
    | none => none
  | none => none
/-- a map's key type, what it is, its element type -/
def mapT (t : TypeId) : Option (TypeId × TypeDesc × TypeId) := match P.underlying t with
  | some (.map kt et) => match P.underlying kt with
    | some d => some (kt, d, et)
    | none => none
  | _ => none
def mapGet (kt : TypeId) (d : TypeDesc) (z : Value) (ok : Bool) (m key : Value) (s : St) (K : Value → Bool) : Bool :=
  bif keyOk P d key then asMap m (K (pairV ok z false)) fun b => onMap s b fun es _ => match findK P kt d key es 0 with
    | some r => match r with
      | some (_, e) => K (pairV ok e.val true)
      | none => K (pairV ok z false)
    | none => false
  else false
def mapUpd (kt : TypeId) (d : TypeDesc) (m key v : Value) (s : St) (K : KV) : Bool :=
  bif keyOk P d key then asMap m false fun b => bif s.ok b then onMap s b fun es c => match findK P kt d key es 0 with
    | some r => match r with
      | some (j, _) => K undef (s.set b (some (.map (modL (fun e => ⟨key, v, e.born⟩) j es) c)))
      | none => K undef (s.set b (some (.map (es ++ [⟨key, v, c⟩]) (Nat.add c 1))))
    | none => false
  else false else false
def mapDel (kt : TypeId) (d : TypeDesc) (m key : Value) (s : St) (K : KV) : Bool :=
  bif keyOk P d key then asMap m (K undef s) fun b => bif s.ok b then onMap s b fun es c => match findK P kt d key es 0 with
    | some r => match r with
      | some (j, _) => K undef (s.set b (some (.map (delL j es) c)))
      | none => K undef (s.set b (some (.map es c)))
    | none => false
  else false else false
def oLookup {k : Nat} (t : TypeId) (x i : GW Value k) (ok : Bool) : OpC k :=
  match mapT P t with
  | some (kt, d, et) => match zeroOf P et with
    | some z => .rd ⟨fun f s K => mapGet P kt d z ok (x.g f) (i.g f) s K⟩
    | none => .bad
  | none => .bad
/-- an entry is put in -/
def oMapUpdate {k : Nat} (t : TypeId) (x i v : GW Value k) : OpC k :=
  match mapT P t with
  | some (kt, d, _) => .eff ⟨fun _ f s K => mapUpd P kt d (x.g f) (i.g f) (v.g f) s K⟩
  | none => .bad
def oMapEntry {k : Nat} (t : TypeId) (x i : GW Value k) : OpC k :=
  match mapT P t with
  | some (kt, d, et) => match zeroOf P et with
    | some z => .eff ⟨fun _ f s K => bif keyOk P d (i.g f) then asMap (x.g f) false fun b => bif s.ok b then onMap s b fun es c => match findK P kt d (i.g f) es 0 with
        | some r => match r with
          | some (j, e0) => K (.tuple ⟨[e0.val, .int .i64 (.ofNat e0.born)]⟩) (s.set b (some (.map (modL (fun e => ⟨i.g f, e.val, e.born⟩) j es) c)))
          | none => K (.tuple ⟨[z, .int .i64 (.ofNat c)]⟩) (s.set b (some (.map (es ++ [⟨i.g f, z, c⟩]) (Nat.add c 1))))
        | none => false
        else false else false⟩
    | none => .bad
  | none => .bad
def findB (n : Nat) : List MapEntry → Nat → Option Nat
  | [], _ => none
  | e :: es, i => bif Nat.beq e.born n then some i else findB n es (Nat.add i 1)
def oEntryStore {k : Nat} (x i v : GW Value k) : OpC k :=
  .eff ⟨fun _ f s K => asMap (x.g f) false fun b => bif s.ok b then onMap s b fun es c => asNat (i.g f) fun n => match findB n es 0 with
    | some j => K undef (s.set b (some (.map (modL (fun e => ⟨e.key, v.g f, e.born⟩) j es) c)))
    | none => false else false⟩
def oRange {k : Nat} (t : TypeId) (x : GW Value k) : OpC k :=
  match P.underlying t with
  | some (.map _ _) => .eff ⟨fun _ f s K => bif Nat.blt s.nx 4398046511104 then asMap (x.g f) (K (ptr s.nx 0) (s.push (.mit none 0 [] 0))) fun b => onMap s b fun _ c => K (ptr s.nx 0) (s.push (.mit (some b) c [] c)) else false⟩
  | some .string => .eff ⟨fun _ f s K => bif Nat.blt s.nx 4398046511104 then (match x.g f with
    | .string w => K (ptr s.nx 0) (s.push (.sit w 0))
    | _ => false) else false⟩
  | _ => .bad
def memNat (n : Nat) : List Nat → Bool
  | [] => false
  | x :: xs => Nat.beq x n || memNat n xs
/-- which entries may come next -/
def leftE (seen : List Nat) : List MapEntry → List MapEntry
  | [] => []
  | e :: es => bif memNat e.born seen then leftE seen es else e :: leftE seen es
def allLt (n : Nat) : List MapEntry → Bool
  | [] => true
  | e :: es => Nat.blt e.born n && allLt n es
def nilL {α : Type} : List α → Bool
  | [] => true
  | _ => false
def eachE (F : MapEntry → Bool) : List MapEntry → Bool
  | [] => true
  | e :: es => F e && eachE F es
def over : Value := .tuple ⟨[.bool false]⟩
def oNext {k : Nat} (x : GW Value k) (str : Bool) : OpC k :=
  .eff ⟨fun _ f s K => asPtr (x.g f) fun b o => bif Nat.beq o 0 && s.ok b then (match s.at b with
    | some ob => match ob with
      | .sit w pos => bif str then (bif Nat.blt pos w.size then (match Utf8.decode w pos with
          | (c, wd) => K (.tuple ⟨[.bool true, .int .i64 (.ofNat pos), .int .i32 (.ofNat c)]⟩) (s.set b (some (.sit w (Nat.add pos wd))))) else K over s) else false
      | .mit m since seen last => bif str then false else (match m with
        | none => K over s
        | some mb => onMap s mb fun es clock => bif allLt since es && Nat.ble since last then
            (bif nilL (leftE seen es) then K over s else eachE (fun e => K (.tuple ⟨[.bool true, e.key, e.val]⟩) (s.set b (some (.mit (some mb) since (seen ++ [e.born]) clock)))) (leftE seen es))
          else false)
      | _ => false
    | none => false) else false⟩
def lastN : List Nat → Option Nat
  | [] => none
  | x :: l => match l with
    | [] => some x
    | y :: l => lastN (y :: l)
def findE (n : Nat) : List MapEntry → Option MapEntry
  | [] => none
  | e :: es => bif Nat.beq e.born n then some e else findE n es
def oEntry {k : Nat} (x : GW Value k) : OpC k :=
  .rd ⟨fun f s K => asPtr (x.g f) fun b o => bif Nat.beq o 0 then (match s.at b with
    | some ob => match ob with
      | .mit m _ seen last => match m with
        | some mb => match lastN seen with
          | some st => onMap s mb fun es clock => bif Nat.beq clock last then (match findE st es with
            | some e => K (.tuple ⟨[e.key, e.val]⟩)
            | none => false) else false
          | none => false
        | none => false
      | _ => false
    | none => false) else false⟩
def oDelete {k : Nat} (t : TypeId) (x i : GW Value k) : OpC k :=
  match mapT P t with
  | some (kt, d, _) => .eff ⟨fun _ f s K => mapDel P kt d (x.g f) (i.g f) s K⟩
  | none => .bad
def oClear {k : Nat} (t : TypeId) (x : GW Value k) : OpC k :=
  match P.underlying t with
  | some (.map _ _) => .eff ⟨fun _ f s K => asMap (x.g f) (K undef s) fun b => bif s.ok b then onMap s b fun _ c => K undef (s.set b (some (.map [] c))) else false⟩
  | some (.slice e) => match zeroL P e with
    | some z => .eff ⟨fun _ f s K => asSlice (x.g f) (fun _ _ => K undef s) fun b o n _ => bif Nat.beq n 0 then K undef s else stN s b o (repL z n) fun s' => K undef s'⟩
    | none => .bad
  | _ => .bad

/-! interfaces -/
def isIfaceD : TypeDesc → Bool
  | .interface _ => true
  | _ => false
def oMakeIface {k : Nat} (t : TypeId) (x : GW Value k) : OpC k :=
  match P.underlying t with
  | some d => bif isIfaceD d then .bad else .sil ⟨fun f K => K (.iface t (x.g f))⟩
  | none => .bad
def oAssert {k : Nat} (a : TypeId) (ok : Bool) (x : GW Value k) : OpC k :=
  match P.underlying a, zeroOf P a with
  | some d, some z => bif isIfaceD d then .bad else .sil ⟨fun f K => match x.g f with
      | .iface t v => bif Nat.beq t a then K (pairV ok v true) else (bif ok then K (pairV true z false) else false)
      | .nilIface => bif ok then K (pairV true z false) else false
      | _ => false⟩
  | _, _ => .bad
/-- the function of a method that is a type's own -/
def methDirect (t : TypeId) (name : String) : Option FuncId :=
  match P.info? t, P.underlying t with
  | some i, some d => match i.methods.toList.find? (·.name == name) with
    | some m => match m.path.toList, m.func with
      | [], some (f, pr) => match d with
        | .pointer _ => bif pr then some f else none
        | _ => bif pr then none else some f
      | _, _ => none
    | none => none
  | _, _ => none

def cOpt (k n : Nat) : Option Operand → Option (Option (GW Value k))
  | none => some none
  | some x => match cEv k n x with
    | some g => some (some g)
    | none => none

/-- builtins of maps; the others -/
def cBuiltinM (k n : Nat) (b : Builtin) (args : List Operand) (argTypes : List TypeId) (type : TypeId) : OpC k :=
  match b, args, argTypes with
  | .len, [x], [t] => match P.underlying t with
    | some (.map _ _) => match cEv k n x with
      | some g => .rd ⟨fun f s K => asMap (g.g f) (K (.int .i64 0)) fun b => onMap s b fun es _ => K (.int .i64 (.ofNat es.length))⟩
      | none => .bad
    | _ => cBuiltin P k n b args argTypes type
  | .delete, [x, i], t :: _ => match cEv k n x, cEv k n i with
    | some g, some h => oDelete P t g h
    | _, _ => .bad
  | .clear, [x], t :: _ => match cEv k n x with
    | some g => oClear P t g
    | none => .bad
  | .min, x :: y :: z :: l, argTypes => match cEvs k n (x :: y :: z :: l) with
    | some gs => oBuiltin P .min (x :: y :: z :: l) argTypes type gs
    | none => .bad
  | .max, x :: y :: z :: l, argTypes => match cEvs k n (x :: y :: z :: l) with
    | some gs => oBuiltin P .max (x :: y :: z :: l) argTypes type gs
    | none => .bad
  | b, args, argTypes => cBuiltin P k n b args argTypes type

/-- an operation, turned into a closure -/
def cOper (k n : Nat) (o : Oper) : OpC k :=
  match o.op with
  | .move x | .assign x => match cEv k n x with
    | some g => .sil ⟨fun f K => K (g.g f)⟩
    | none => .bad
  | .pick c x y => match cEv k n c, cEv k n x, cEv k n y with
    | some c, some x, some y => .sil ⟨fun f K => asBool (c.g f) fun b => bif b then K (x.g f) else K (y.g f)⟩
    | _, _, _ => .bad
  | .alloc e => oAlloc P e
  | .box e x => match cEv k n x with
    | some g => oBox e g
    | none => .bad
  | .build t ps => match cParts k n ps.toList with
    | some l => oBuild P t l
    | none => .bad
  | .buildSlice t len ps => match cParts k n ps.toList with
    | some l => oBuildSlice P t len l
    | none => .bad
  | .load t x => match cEv k n x with
    | some g => oLoad P t g
    | none => .bad
  | .store t x y => match cEv k n x, cEv k n y with
    | some g, some h => oStore P t g h
    | _, _ => .bad
  | .nilCheck x => match cEv k n x with
    | some g => .sil ⟨fun f K => match g.g f with
      | .pointer p => match p with
        | some p => K (.pointer (some p))
        | none => false
      | _ => false⟩
    | none => .bad
  | .binOp op t x y _ => match cEv k n x, cEv k n y with
    | some g, some h => oBinA P op t x y g h
    | _, _ => .bad
  | .unOp op _ x => match cEv k n x with
    | some g => match op with
      | .not => .sil ⟨fun f K => asBool (g.g f) fun b => K (.bool (!b))⟩
      | op => .sil ⟨fun f K => bif pureC 4 (g.g f) then (match pureRun P (Op.unary op (g.g f)) with
        | some v => bif pureC 4 v then K v else false
        | none => false) else false⟩
    | none => .bad
  | .convert t u x => match cEv k n x with
    | some g => match P.underlying t, P.underlying u with
      | some (.int _), some (.int j) => .sil ⟨fun f K => asInt (g.g f) fun _ m => K (.int j (wr j m))⟩
      | some (.slice e), some .string => match P.underlying e with
        | some (.int .u8) => oBytesStr g
        | _ => .bad
      | _, _ => .sil ⟨fun f K => bif pureC 4 (g.g f) then (match pureRun P (convert t u (g.g f)) with
        | some v => bif pureC 4 v then K v else false
        | none => false) else false⟩
    | none => .bad
  | .makeFunc fn a c => match fn, cEvs k n a.toList, cEvs k n c.toList with
    | .func g, some fs, some cs => .sil ⟨fun f K => K (.func (.func g) ⟨evAll f fs⟩ ⟨evAll f cs⟩)⟩
    | _, _, _ => .bad
  | .makeSlice t l c => match cEv k n l, cEv k n c with
    | some x, some y => oMakeSlice P t x y
    | _, _ => .bad
  | .slice t x lo hi mx => match cEv k n x, cOpt k n lo, cOpt k n hi, cOpt k n mx with
    | some g, some l, some h, some m => oSlice P t g l h m
    | _, _, _, _ => .bad
  | .fieldAddr t x i => match cEv k n x with
    | some g => oFieldAddr P t g i
    | none => .bad
  | .field t x i => match cEv k n x with
    | some g => oField P t g i
    | none => .bad
  | .indexAddr t x i => match cEv k n x, cEv k n i with
    | some g, some h => oIndexAddr P t g h
    | _, _ => .bad
  | .index t x i => match cEv k n x, cEv k n i with
    | some g, some h => oIndex P t g h
    | _, _ => .bad
  | .makeInterface t x => match cEv k n x with
    | some g => oMakeIface P t g
    | none => .bad
  | .typeAssert x _ a ok => match cEv k n x with
    | some g => oAssert P a ok g
    | none => .bad
  | .makeMap t r => match cOpt k n r with
    | some g => oMakeMap P t g
    | none => .bad
  | .lookup t x i ok => match cEv k n x, cEv k n i with
    | some g, some h => oLookup P t g h ok
    | _, _ => .bad
  | .mapUpdate t x i v | .insert t x i v => match cEv k n x, cEv k n i, cEv k n v with
    | some g, some h, some w => oMapUpdate P t g h w
    | _, _, _ => .bad
  | .mapEntry t x i => match cEv k n x, cEv k n i with
    | some g, some h => oMapEntry P t g h
    | _, _ => .bad
  | .entryStore _ x i v => match cEv k n x, cEv k n i, cEv k n v with
    | some g, some h, some w => oEntryStore g h w
    | _, _, _ => .bad
  | .range t x => match cEv k n x with
    | some g => oRange P t g
    | none => .bad
  | .next x str => match cEv k n x with
    | some g => oNext g str
    | none => .bad
  | .entry x => match cEv k n x with
    | some g => oEntry g
    | none => .bad
  | .extract x i => match cEv k n x with
    | some g => .sil ⟨fun f K => match g.g f with
      | .tuple vs => match vs.toList[i]? with
        | some v => K v
        | none => false
      | _ => false⟩
    | none => .bad
  | .call c => match c.callee with
    | .value x => match cEv k n x, cEvs k n c.args.toList with
      | some g, some gs => .eff ⟨fun call f s K => call (g.g f) (evAll f gs) K s⟩
      | _, _ => .bad
    | .builtin b => cBuiltinM P k n b c.args.toList c.argTypes.toList o.type
    | .invoke x name => match cEv k n x, cEvs k n c.args.toList with
      | some g, some gs => .eff ⟨fun call f s K => match g.g f with
        | .iface t v => match methDirect P t name with
          | some h => call (.func (.func h) ⟨[]⟩ ⟨[]⟩) (v :: evAll f gs) K s
          | none => false
        | _ => false⟩
      | _, _ => .bad
  | _ => .bad
end ops

inductive AExit where
  | exit (id : Nat)
  | goto (l : Nat)
  | ret

structure OpsC (k : Nat) where
  run : CallT → (Fm Value k → St → Bool) → Fm Value k → St → Bool

/-- what follows a piece of code: off its end; by a jump. The list: the marks that outermost loops have pushed. -/
structure KC (k : Nat) where
  n : List Nat → Fm Value k → St → Bool
  x : AExit → List Nat → Fm Value k → St → Bool
structure Clo (k : Nat) where
  run : CallT → Option Nat → KC k → List Nat → Fm Value k → St → Bool

section run
variable (P : Program)
def cPut (k n : Nat) : Option Tmp → Option (SW Value k)
  | none => some ⟨fun _ t => t⟩
  | some d => bif Nat.blt d n then some (setW k d) else none
/-- whether a guarded operation is wanted: by the slot of the operation that it asks -/
def cGuard (k n : Nat) (ops : List Oper) : Option (Nat × Bool) → Option (Option (GW Value k × Bool))
  | none => some none
  | some (j, want) => match ops[j]? with
    | some o => match o.dst with
      | some d => bif Nat.blt d n then some (some (getW k d, want)) else none
      | none => none
    | none => none
def isB (want : Bool) (v : Value) : Bool := match v with
  | .bool b => b == want
  | _ => false
def oneOp {k : Nat} (c : OpC k) (next : OpsC k) (p : SW Value k) (call : CallT) (K : Fm Value k → St → Bool) (t : Fm Value k) (s : St) : Bool :=
  match c with
  | .sil c => c.m t fun v => next.run call K (p.s v t) s
  | .rd c => c.m t s fun v => next.run call K (p.s v t) s
  | .al c => c.m t fun o v => bif Nat.blt s.nx 4398046511104 then next.run call K (p.s (v s.nx) t) (s.push o) else false
  | .eff c => c.m call t s fun v s' => next.run call K (p.s v t) s'
  | .bad => false
def cOps (k n : Nat) (all : List Oper) : List Oper → OpsC k
  | [] => ⟨fun _ K t s => K t s⟩
  | o :: os =>
    let r := cOps k n all os
    match cPut k n o.dst, cGuard k n all o.guard with
    | some p, some gd =>
      match gd with
      | none => match cOper P k n o with
        | .sil c => ⟨fun call K t s => c.m t fun v => r.run call K (p.s v t) s⟩
        | .rd c => ⟨fun call K t s => c.m t s fun v => r.run call K (p.s v t) s⟩
        | .al c => ⟨fun call K t s => c.m t fun o v => bif Nat.blt s.nx 4398046511104 then r.run call K (p.s (v s.nx) t) (s.push o) else false⟩
        | .eff c => ⟨fun call K t s => c.m call t s fun v s' => r.run call K (p.s v t) s'⟩
        | .bad => ⟨fun _ _ _ _ => false⟩
      | some (g, want) => let c := cOper P k n o; ⟨fun call K t s => bif !isCh (g.g t) then (bif isB want (g.g t) then oneOp c r p call K t s else r.run call K (p.s undef t) s) else false⟩
    | _, _ => ⟨fun _ _ _ _ => false⟩

/-! rows of operations whose order is open: run in the text's order; what may come earlier or later must see the same -/
mutual
def veq : Nat → Value → Value → Bool
  | 0, _, _ => false
  | f + 1, x, y => match x, y with
    | .bool a, .bool b => a == b
    | .int k m, .int j n => Nat.beq (kIdx k) (kIdx j) && iEq m n
    | .string a, .string b => a == b
    | .pointer none, .pointer none => true
    | .pointer (some ⟨a, o, none⟩), .pointer (some ⟨b, p, none⟩) => Nat.beq a b && Nat.beq o p
    | .slice none a b, .slice none c d => Nat.beq a c && Nat.beq b d
    | .slice (some ⟨a, o, none⟩) n c, .slice (some ⟨b, p, none⟩) m d => Nat.beq a b && Nat.beq o p && Nat.beq n m && Nat.beq c d
    | .slice (some ⟨a, o, some x⟩) n c, .slice (some ⟨b, p, some y⟩) m d => Nat.beq a b && Nat.beq o p && Nat.beq x y && Nat.beq n m && Nat.beq c d
    | .map none, .map none => true
    | .map (some a), .map (some b) => Nat.beq a b
    | .nilFunc, .nilFunc => true
    | .nilIface, .nilIface => true
    | .func (.func a) ⟨x⟩ ⟨y⟩, .func (.func b) ⟨z⟩ ⟨w⟩ => Nat.beq a b && veqs f x z && veqs f y w
    | .func (.yield a) ⟨x⟩ ⟨y⟩, .func (.yield b) ⟨z⟩ ⟨w⟩ => Nat.beq a b && veqs f x z && veqs f y w
    | .agg ⟨x⟩, .agg ⟨y⟩ => veqs f x y
    | .tuple ⟨x⟩, .tuple ⟨y⟩ => veqs f x y
    | _, _ => false
def veqs : Nat → List Value → List Value → Bool
  | 0, _, _ => false
  | _ + 1, [], [] => true
  | f + 1, x :: xs, y :: ys => veq f x y && veqs f xs ys
  | _, _, _ => false
end
structure DrC (k : Nat) where
  run : CallT → Nat → (Fm Value k → St → Bool) → List (Nat × (St → Bool)) → List (Nat × AObj) → Fm Value k → St → Bool
def adopt (base mask : Nat) : List (Nat × AObj) → St → St
  | [], s => s
  | (i, o) :: r, s => bif Nat.testBit mask i then (adopt base mask r s).set (Nat.add base i) (some o) else adopt base mask r s
def left (mask : Nat) : List (Nat × AObj) → List (Nat × AObj)
  | [] => []
  | (i, o) :: r => bif Nat.testBit mask i then left mask r else (i, o) :: left mask r
def adoptAll (base : Nat) : List (Nat × AObj) → St → St
  | [], s => s
  | (i, o) :: r, s => (adoptAll base r s).set (Nat.add base i) (some o)
def recheck (mask : Nat) : List (Nat × (St → Bool)) → St → Bool
  | [], _ => true
  | (i, c) :: r, s => (bif Nat.testBit mask i then true else c s) && recheck mask r s
def isEff {k : Nat} : OpC k → Bool
  | .eff _ => true
  | _ => false
def dOne {k : Nat} (i : Nat) (mask : Nat) (c : OpC k) (p : SW Value k) (r : DrC k) : DrC k :=
  match c with
  | .sil c => ⟨fun call base K reads pend t s => c.m t fun v => r.run call base K reads pend (p.s v t) s⟩
  | .rd c => ⟨fun call base K reads pend t s => c.m t s fun v => r.run call base K ((i, fun s' => c.m t s' (veq 100 v)) :: reads) pend (p.s v t) s⟩
  | .al c => ⟨fun call base K reads pend t s => c.m t fun o v => r.run call base K reads ((i, o) :: pend) (p.s (v (Nat.add base i)) t) s⟩
  | .eff c => ⟨fun call base K reads pend t s => c.m call t (adopt base mask pend s) fun v s' =>
      recheck mask reads s' && r.run call base K reads (left mask pend) (p.s v t) s'⟩
  | .bad => ⟨fun _ _ _ _ _ _ _ => false⟩
def cDrs (k n : Nat) (all : List Oper) (masks : List Nat) : List (Nat × Oper) → DrC k
  | [] => ⟨fun _ base K _ pend t s => K t (adoptAll base pend s)⟩
  | (i, o) :: os =>
    let c := cOper P k n o
    let r := cDrs k n all masks os
    match cPut k n o.dst, cGuard k n all o.guard with
    | some p, some gd =>
      let d := dOne i (masks.getD i 0) c p r
      match gd with
      | none => d
      | some (g, want) => ⟨fun call base K reads pend t s => bif !isCh (g.g t) then (bif isB want (g.g t) then d.run call base K reads pend t s else r.run call base K reads pend (p.s undef t) s) else false⟩
    | _, _ => ⟨fun _ _ _ _ _ _ _ => false⟩
/-- slots: whoever shares one, one of them writing it, is ordered -/
def looks (ops : List Oper) (o : Oper) : List Tmp :=
  (o.op.operands.toList.filterMap fun | .tmp t => some t | _ => none) ++ (match o.guard with
    | some (j, _) => match ops[j]? with
      | some q => q.dst.toList
      | none => []
    | none => [])
def memN (d : Nat) : List Nat → Bool
  | [] => false
  | x :: xs => Nat.beq x d || memN d xs
def writesOne (l : List Nat) : Option Tmp → Bool
  | some d => memN d l
  | none => false
/-- one writes what the other one reads or writes -/
def clash (ops : List Oper) (a b : Oper) : Bool := writesOne (looks ops b) a.dst || writesOne (looks ops a) b.dst || writesOne a.dst.toList b.dst
def apartFrom (ops : List Oper) (mask : Nat) (o : Oper) : Nat → List Oper → Bool
  | _, [] => true
  | i, q :: qs => (Nat.testBit mask i || !clash ops q o) && apartFrom ops mask o (Nat.add i 1) qs
/-- an operation's mask: what its edges name, and their masks -/
def maskOf (masks : List Nat) : List Edge → Nat
  | [] => 0
  | e :: es => bif Region.binds .any e then Nat.lor (Nat.lor (Nat.pow 2 e.on) (masks.getD e.on 0)) (maskOf masks es) else maskOf masks es
def edgesLt (i : Nat) : List Edge → Bool
  | [] => true
  | e :: es => (!Region.binds .any e || Nat.blt e.on i) && edgesLt i es
def rowsOk (ops : List Oper) (masks : List Nat) : Nat → List Oper → Bool
  | _, [] => true
  | i, o :: os => edgesLt i o.after.toList && Nat.beq (masks.getD i 0) (maskOf masks o.after.toList) && apartFrom ops (masks.getD i 0) o 0 (ops.take i) && rowsOk ops masks (Nat.add i 1) os
def mkMasks : List Nat → List Oper → List Nat
  | acc, [] => acc
  | acc, o :: os => mkMasks (acc ++ [maskOf acc o.after.toList]) os
/-- how many of some operations a mask names -/
def stageOf (mask : Nat) : List Nat → Nat
  | [] => 0
  | e :: es => bif Nat.testBit mask e then Nat.add (stageOf mask es) 1 else stageOf mask es
def isEffO (k n : Nat) (o : Oper) : Bool := isEff (cOper P k n o)
def number : Nat → List Oper → List (Nat × Oper)
  | _, [] => []
  | i, o :: os => (i, o) :: number (Nat.add i 1) os
/-- the order in which the row is run: everything as early as it may come -/
def orderOf (k n : Nat) (masks effs : List Nat) (l : List (Nat × Oper)) : Nat → List (Nat × Oper) → List (Nat × Oper)
  | m, [] => l.filter fun x => !isEffO P k n x.2 && Nat.beq (stageOf (masks.getD x.1 0) effs) m
  | m, e :: es => (l.filter fun x => !isEffO P k n x.2 && Nat.beq (stageOf (masks.getD x.1 0) effs) m) ++ e :: orderOf k n masks effs l (Nat.add m 1) es
/-- each comes behind what its mask names, and names the last one before it that is no mere reader -/
def orderOk (k n : Nat) (masks : List Nat) : Nat → Option Nat → List (Nat × Oper) → Bool
  | _, _, [] => true
  | done, last, (i, o) :: os => Nat.beq (Nat.land (masks.getD i 0) done) (masks.getD i 0) && !Nat.testBit done i && (match last with
      | some e => Nat.testBit (masks.getD i 0) e
      | none => true) && orderOk k n masks (Nat.lor done (Nat.pow 2 i)) (bif isEffO P k n o then some i else last) os
def hasI (i : Nat) : List (Nat × Oper) → Bool
  | [] => false
  | (j, _) :: os => Nat.beq j i || hasI i os
def covers (ord : List (Nat × Oper)) : Nat → Bool
  | 0 => true
  | n + 1 => hasI n ord && covers ord n
/-- rows of operations whose order is open -/
def cDraw (k n : Nat) (ops : Array Oper) : OpsC k :=
  let l := ops.toList
  let masks := mkMasks [] l
  let nl := number 0 l
  let es := nl.filter fun x => isEffO P k n x.2
  let ord := orderOf P k n masks (es.map (·.1)) nl 0 es
  bif rowsOk l masks 0 l && orderOk P k n masks 0 none ord && covers ord l.length then
    let d := cDrs P k n l masks ord
    ⟨fun call K t s => bif Nat.ble (Nat.add s.nx l.length) 4398046511104 then d.run call s.nx K [] [] t ⟨s.h, Nat.add s.nx l.length, s.fl⟩ else false⟩
  else ⟨fun _ _ _ _ => false⟩

def loopFuel : Nat := 1000000
variable (F : Nat)
def runLoop {k : Nat} (c : Clo k) (call : CallT) (rd : Option Nat) (K : KC k) (n : Nat) : List Nat → Fm Value k → St → Bool :=
  Nat.rec (motive := fun _ => List Nat → Fm Value k → St → Bool) (fun _ _ _ => false)
    (fun _ ih m t s => c.run call rd ⟨ih, K.x⟩ m t s) n

def isFn : Value → Bool
  | .func fn _ _ => match fn with
    | .func _ => true
    | _ => false
  | _ => false
def findClo {k : Nat} (l : Nat) : List (Nat × Clo k) → Option (Clo k)
  | [] => none
  | (l', c) :: r => bif Nat.beq l' l then some c else findClo l r
def runScope {k : Nat} (ls : List (Nat × Clo k)) (call : CallT) (rd : Option Nat) (K : KC k) (n : Nat) : Clo k → List Nat → Fm Value k → St → Bool :=
  Nat.rec (motive := fun _ => Clo k → List Nat → Fm Value k → St → Bool) (fun _ _ _ _ => false)
    (fun _ ih c m t s => c.run call rd ⟨K.n, fun e m' t' s' => match e with
      | .goto l => match findClo l ls with
        | some c' => ih c' m' t' s'
        | none => K.x (.goto l) m' t' s'
      | e => K.x e m' t' s'⟩ m t s) n
def labels : Code → List Nat
  | .seq a b => labels a ++ labels b
  | .label l => [l]
  | _ => []

def putAll (k n : Nat) : List Tmp → List Value → Fm Value k → Option (Fm Value k)
  | [], [], t => some t
  | d :: ds, v :: vs, t => bif Nat.blt d n then putAll k n ds vs ((setW k d).s v t) else none
  | _, _, _ => none

/-- the function that was ranged over has ended -/
def rangeEnd {k : Nat} (K : KC k) (l : Nat) (m : List Nat) (t : Fm Value k) (s : St) : Bool :=
  match s.at l with
  | some o => match o with
    | .loop st pend _ _ _ _ _ _ _ => bif s.ok l then (match st with
      | .busy => false
      | _ => match pend with
        | none => K.n m t (s.set l none)
        | some c => match c with
          | .ret => K.x .ret m t (s.set l none)
          | .exit id => K.x (.exit id) m t (s.set l none)
          | .goto g => K.x (.goto g) m t (s.set l none)
          | _ => false) else false
    | _ => false
  | none => false
/-- code, turned into a closure; the first number bounds how deep it is nested -/
def cCode (k n : Nat) : Nat → Code → Clo k
  | 0, _ => ⟨fun _ _ _ _ _ _ => false⟩
  | d + 1, c => match c with
    | .skip | .label _ => ⟨fun _ _ K m t s => K.n m t s⟩
    | .seq x y =>
      let cx := cCode k n d x
      let cy := cCode k n d y
      ⟨fun call rd K m t s => cx.run call rd ⟨fun m' t' s' => cy.run call rd K m' t' s', K.x⟩ m t s⟩
    | .cond x p q =>
      let cp := cCode k n d p
      let cq := cCode k n d q
      match cEv k n x with
      | some g => ⟨fun call rd K m t s => asBool (g.g t) fun b => bif b then cp.run call rd K m t s else cq.run call rd K m t s⟩
      | none => ⟨fun _ _ _ _ _ _ => false⟩
    | .block id x =>
      let cx := cCode k n d x
      ⟨fun call rd K m t s => cx.run call rd ⟨K.n, fun e m' t' s' => match e with
        | .exit id' => bif Nat.beq id' id then K.n m' t' s' else K.x (.exit id') m' t' s'
        | e => K.x e m' t' s'⟩ m t s⟩
    | .loop x =>
      let cx := cCode k n d x
      ⟨fun call rd K m t s => runLoop cx call rd K F m t s⟩
    | .exit id => ⟨fun _ _ K m t s => K.x (.exit id) m t s⟩
    | .goto l => ⟨fun _ _ K m t s => K.x (.goto l) m t s⟩
    | .ret => ⟨fun _ _ K m t s => K.x .ret m t s⟩
    | .region _ ops draw =>
      let c := bif draw then cDraw P k n ops else cOps P k n ops.toList ops.toList
      ⟨fun call _ K m t s => c.run call (fun t' s' => K.n m t' s') t s⟩
    | .scope x =>
      let cx := cCode k n d x
      let ls := (labels x).filterMap fun l => match findLabel x l with
        | some r => some (l, cCode k n d r)
        | none => none
      ⟨fun call rd K m t s => runScope ls call rd K F cx m t s⟩
    | .rangeFunc f ps asg body =>
      match cEv k n f with
      | some g =>
        ⟨fun call rd K m t s => bif isFn (g.g t) then (match rd with
          | none => bif Nat.blt (Nat.add s.nx 1) 4398046511104 then
              let s1 := s.push .dfr
              let s2 := s1.push (.loop .ready none k n t ps.toList asg body s.nx)
              call (g.g t) [.func (.yield s1.nx) #[] #[]] (fun _ s3 => rangeEnd K s1.nx (s.nx :: m) t s3) s2
            else false
          | some l0 => match s.at l0 with
            | some o => match o with
              | .loop _ _ _ _ _ _ _ _ df => bif Nat.blt s.nx 4398046511104 then
                let s2 := s.push (.loop .ready none k n t ps.toList asg body df)
                call (g.g t) [.func (.yield s.nx) #[] #[]] (fun _ s3 => rangeEnd K s.nx m t s3) s2
                else false
              | _ => false
            | none => false) else false⟩
      | none => ⟨fun _ _ _ _ _ _ => false⟩
    | .refuse _ => ⟨fun _ _ _ _ _ _ => false⟩

def takeMarks : List Nat → St → (St → Bool) → Bool
  | [], s, K => K s
  | b :: bs, s, K => match s.at b with
    | some o => match o with
      | .dfr => bif s.ok b then takeMarks bs (s.set b none) K else false
      | _ => false
    | none => false

structure ResC (k : Nat) where
  r : Fm Value k → St → (List Value → Bool) → Bool
def cRes (k n : Nat) : List ResultVar → ResC k
  | [] => ⟨fun _ _ K => K []⟩
  | .tmp d :: rs =>
    let r := cRes k n rs
    bif Nat.blt d n then let g := getW k d; ⟨fun t s K => r.r t s fun l => K (g.g t :: l)⟩ else ⟨fun _ _ _ => false⟩
  | .cell d ty :: rs =>
    let r := cRes k n rs
    bif Nat.blt d n then
      match oLoad P ty (getW k d) with
      | .rd o => ⟨fun t s K => o.m t s fun v => r.r t s fun l => K (v :: l)⟩
      | _ => ⟨fun _ _ _ => false⟩
    else ⟨fun _ _ _ => false⟩

structure FnC where
  run : CallT → List Value → KV → St → Bool
/-- a function's results, once its marks are taken -/
def retK {k : Nat} (rs : ResC k) (K : KV) (m : List Nat) (t : Fm Value k) (s : St) : Bool :=
  takeMarks m s fun s' => rs.r t s' fun l => match l with
    | [v] => K v s'
    | l => K (.tuple ⟨l⟩) s'
def cFun (f : FuncId) : FnC :=
  match P.funcs[f]? with
  | some fn => match fn.body with
    | some c =>
      let n := fn.ntmps
      let k := lvl n
      let cc := cCode P F k n 10000 c
      let rs := cRes P k n fn.results.toList
      bif Nat.ble n 32768 then
        ⟨fun call args K s => bif Nat.ble args.length n then
          cc.run call none ⟨fun m t s => retK rs K m t s, fun e m t s => match e with
            | .ret => retK rs K m t s
            | _ => false⟩ [] (puts k 0 args (ini undef k)) s
        else false⟩
      else ⟨fun _ _ _ _ => false⟩
    | none => ⟨fun _ _ _ _ => false⟩
  | none => ⟨fun _ _ _ _ => false⟩

/-- a loop's record -/
def onLoop (s : St) (l : Nat) (K : LoopState → Option Code → (k : Nat) → Nat → Fm Value k → List Tmp → Code → Code → Nat → Bool) : Bool :=
  match s.at l with
  | some o => match o with
    | .loop st pd k n t ps asg body d => bif s.ok l then K st pd k n t ps asg body d else false
    | _ => false
  | none => false
def isReady : LoopState → Bool
  | .ready => true
  | _ => false
def roundEnd (K : KV) (l : Nat) (st : LoopState) (j : Option Code) (b : Bool) (s : St) : Bool :=
  onLoop s l fun _ _ k n t ps asg body d => K (.bool b) (s.set l (some (.loop st j k n t ps asg body d)))
/-- 'yield' is called: one round -/
def round (call : CallT) (l : Nat) (args : List Value) (K : KV) (s : St) : Bool :=
  onLoop s l fun _ _ k n t ps asg body _ =>
    match putAll k n ps args t with
    | none => false
    | some t' =>
      (cCode P F k n 10000 asg).run call (some l) ⟨fun m t1 s1 =>
        onLoop s1 l fun st1 pd k1 n1 t0 ps1 asg1 body1 d1 => bif isReady st1 then
          (cCode P F k n 10000 body).run call (some l) ⟨fun _ _ s3 => roundEnd K l .ready none true s3, fun e _ _ s3 => match e with
              | .ret => roundEnd K l .done (some .ret) false s3
              | .exit id => roundEnd K l .done (some (.exit id)) false s3
              | .goto g => roundEnd K l .done (some (.goto g)) false s3⟩ m t1 (s1.set l (some (.loop .busy pd k1 n1 t0 ps1 asg1 body1 d1)))
          else false, fun _ _ _ _ => false⟩ [] t' s

/-- a call of a function value; the number bounds how deep calls are nested; 'ext': what is known of some calls beforehand -/
def callF (ext : CallT → CallT) (d : Nat) : CallT :=
  Nat.rec (motive := fun _ => CallT) (fun _ _ _ _ => false)
    (fun _ ih => ext fun v args K s => match v with
      | .func fn first captured => match fn with
        | .func g => (cFun P F g).run ih (first.toList ++ args ++ captured.toList) K s
        | .yield l => round P F ih l (first.toList ++ args) K s
        | _ => false
      | _ => false) d
def callTop (f : FuncId) (args : List Value) (K : KV) (s : St) : Bool := callF P F (fun c => c) 10000 (.func (.func f) #[] #[]) args K s
end run
end Go.Ab
