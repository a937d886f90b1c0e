/- Runs over open values as a condition that is reckoned: values by their parts, frames and memory as lists. Definitions only. -/
import Derived.Test.YtkpiaipbbpfodaaEngQi
import Derived.Test.YtkpiaipbbpfodaaEngQc
namespace Go.Ab
/-- a value by its parts: 'ptr', 'slc': into a block with a number of its own (the first number), at an address; 'sl': a slice whose elements are known by its number; 'el': the address of a cell of such an element -/
inductive SV where
  | int (k : IntKind) (n : Int)
  | bool (b : Bool)
  | ptr (i b o : Nat)
  | slc (i b o n c : Nat)
  | agg (l : List SV)
  | tup (l : List SV)
  | fn (f : FuncId) (fs cs : List SV)
  | sl (i : Nat) (a : Option Addr) (n c : Nat)
  | el (i b p sz j o : Nat)
  | val (v : Value)
  | junk
mutual
def den : SV → Value
  | .int k n => .int k n
  | .bool b => .bool b
  | .ptr _ b o => ptr b o
  | .slc _ b o n c => slc b o n c
  | .agg l => .agg ⟨dens l⟩
  | .tup l => .tuple ⟨dens l⟩
  | .fn f fs cs => .func (.func f) ⟨dens fs⟩ ⟨dens cs⟩
  | .sl _ a n c => .slice a n c
  | .el _ b p sz j o => ptr b (Nat.add p (Nat.add (Nat.mul j sz) o))
  | .val v => v
  | .junk => undef
def dens : List SV → List Value
  | [] => []
  | v :: l => den v :: dens l
end
def isJ : SV → Bool
  | .junk => true
  | _ => false
/-- what memory holds: a block of the run's own (its address, its elements' type, its cells); a slice that is only read; a slice of the run's own that grows -/
inductive Ent where
  | own (b : Nat) (e : TypeId) (l : List SV)
  | ro (a : Option Addr) (n c sz : Nat) (f : Nat → List SV)
  | gr (a : Option Addr) (n : Nat) (e : TypeId) (sz : Nat) (f : Nat → List SV)
abbrev Frm := List (Nat × SV)
abbrev Mem := List (Nat × Ent)
def getF : Frm → Nat → SV
  | [], _ => .junk
  | x :: r, i => match x with
    | (j, v) => bif Nat.beq j i then v else getF r i
def getM : Mem → Nat → Option Ent
  | [], _ => none
  | x :: r, i => match x with
    | (j, v) => bif Nat.beq j i then some v else getM r i
def setM (v : Ent) : Mem → Nat → Mem
  | [], _ => []
  | x :: r, i => match x with
    | (j, w) => bif Nat.beq j i then (j, v) :: r else (j, w) :: setM v r i
/-- (the list is made anew as far as the entry) -/
def setK (v : Ent) : Mem → Nat → (Mem → Prop) → Prop
  | [], _, K => K []
  | x :: r, i, K => match x with
    | (j, w) => bif Nat.beq j i then K ((j, v) :: r) else setK v r i fun r => K ((j, w) :: r)
theorem setK_eq (v : Ent) : ∀ (m : Mem) (i : Nat) (K : Mem → Prop), setK v m i K = K (setM v m i)
  | [], _, _ => rfl
  | (j, w) :: r, i, K => by
    show (bif Nat.beq j i then K ((j, v) :: r) else setK v r i fun r => K ((j, w) :: r)) = K (bif Nat.beq j i then (j, v) :: r else (j, w) :: setM v r i)
    cases Nat.beq j i with
    | true => rfl
    | false => exact setK_eq v r i _
/-- an entry taken out -/
def remM : Mem → Nat → Mem
  | [], _ => []
  | x :: r, i => match x with
    | (j, w) => bif Nat.beq j i then r else (j, w) :: remM r i
def remK : Mem → Nat → (Mem → Prop) → Prop
  | [], _, K => K []
  | x :: r, i, K => match x with
    | (j, w) => bif Nat.beq j i then K r else remK r i fun r => K ((j, w) :: r)
theorem remK_eq : ∀ (m : Mem) (i : Nat) (K : Mem → Prop), remK m i K = K (remM m i)
  | [], _, _ => rfl
  | (j, w) :: r, i, K => by
    show (bif Nat.beq j i then K r else remK r i fun r => K ((j, w) :: r)) = K (bif Nat.beq j i then r else (j, w) :: remM r i)
    cases Nat.beq j i with
    | true => rfl
    | false => exact remK_eq r i _
/-- a value, its form found -/
def forceS (v : SV) (K : SV → Prop) : Prop := match v with
  | .int k n => K (.int k n)
  | .bool b => K (.bool b)
  | .ptr i b o => K (.ptr i b o)
  | .slc i b o n c => K (.slc i b o n c)
  | .agg l => K (.agg l)
  | .tup l => K (.tup l)
  | .fn f fs cs => K (.fn f fs cs)
  | .sl i a n c => K (.sl i a n c)
  | .el i b p sz j o => K (.el i b p sz j o)
  | .val v => K (.val v)
  | .junk => K .junk
theorem forceS_eq (v : SV) (K : SV → Prop) : forceS v K = K v := by cases v <;> rfl
def forceL : List SV → (List SV → Prop) → Prop
  | [], K => K []
  | x :: l, K => forceS x fun x => forceL l fun l => K (x :: l)
theorem forceL_eq : ∀ (l : List SV) (K : List SV → Prop), forceL l K = K l
  | [], K => rfl
  | x :: l, K => by unfold forceL; rw [forceS_eq, forceL_eq l]
def forceM : Mem → (Mem → Prop) → Prop
  | [], K => K []
  | x :: l, K => match x with
    | (i, e) => match e with
      | .own b t c => forceM l fun l => K ((i, .own b t c) :: l)
      | .ro a n c sz f => forceM l fun l => K ((i, .ro a n c sz f) :: l)
      | .gr a n t sz f => forceM l fun l => K ((i, .gr a n t sz f) :: l)
theorem forceM_eq : ∀ (l : Mem) (K : Mem → Prop), forceM l K = K l
  | [], K => rfl
  | (i, e) :: l, K => by
    unfold forceM
    cases e <;> simp only [forceM_eq l]
def ofV : Value → SV
  | .int k n => .int k n
  | .bool b => .bool b
  | v => .val v
def ofVs : List Value → List SV
  | [] => []
  | v :: l => ofV v :: ofVs l
def evS (n : Nat) (f : Frm) : Operand → SV
  | .tmp t => bif Nat.blt t n then getF f t else .junk
  | .const v => bif pureC 4 v then (match v with
    | .agg cs => .agg (ofVs cs.toList)
    | v => ofV v) else .junk
  | .func g => .fn g [] []
  | .global _ => .junk
/-! stops: what a step asks (kinds of their own: nothing unfolds them) -/
structure brS (b : Bool) (x y : Prop) : Prop where
  t : b = true → x
  f : b = false → y
theorem brS_intro {b : Bool} {x y : Prop} (h : b = true → x) (h' : b = false → y) : brS b x y := ⟨h, h'⟩
structure eqS (a b : Nat) (K : Prop) : Prop where
  h : a = b
  k : K
theorem eqS_rfl {a : Nat} {K : Prop} (h : K) : eqS a a K := ⟨rfl, h⟩
structure eqA (a b : Option Addr) (K : Prop) : Prop where
  h : a = b
  k : K
theorem eqA_rfl {a : Option Addr} {K : Prop} (h : K) : eqA a a K := ⟨rfl, h⟩
theorem eqA_of {a b : Option Addr} {K : Prop} (h : b = a) (hK : K) : eqA a b K := ⟨h.symm, hK⟩
theorem eqS_of {a b : Nat} {K : Prop} (h : a = b) (hK : K) : eqS a b K := ⟨h, hK⟩
structure ltS (a b : Nat) (K : Prop) : Prop where
  h : a < b
  k : K
theorem ltS_intro {a b : Nat} {K : Prop} (h : a < b) (hK : K) : ltS a b K := ⟨h, hK⟩
theorem ltS_inv {a b : Nat} {K : Prop} (h : ltS a b K) : a < b ∧ K := ⟨h.h, h.k⟩
/-- an index -/
structure ixS (j : Int) (n : Nat) (K : Nat → Prop) : Prop where
  ex : ∃ q : Nat, j = .ofNat q ∧ q < n ∧ K q
theorem ixS_intro {j : Int} {n : Nat} {K : Nat → Prop} (h0 : 0 ≤ j) (h1 : j < n) (hK : ∀ q : Nat, j = q → q < n → K q) : ixS j n K :=
  ⟨j.toNat, (by show j = (j.toNat : Int); omega), by omega, hK _ (by omega) (by omega)⟩
theorem ixS_of {j : Int} {n q : Nat} {K : Nat → Prop} (h : j = Int.ofNat q) (hq : q < n) (hK : K q) : ixS j n K := ⟨q, h, hq, hK⟩
theorem ixS_inv {j : Int} {n : Nat} {K : Nat → Prop} (h : ixS j n K) : ∃ q : Nat, j = .ofNat q ∧ q < n ∧ K q := h.ex
def nthS : Nat → List SV → (SV → Prop) → Prop
  | _, [], _ => False
  | 0, x :: _, K => forceS x K
  | i + 1, _ :: l, K => nthS i l K
def takeS : Nat → List SV → (List SV → Prop) → Prop
  | 0, _, K => K []
  | _ + 1, [], _ => False
  | n + 1, x :: l, K => forceS x fun x => takeS n l fun r => K (x :: r)
def dropS : Nat → List SV → (List SV → Prop) → Prop
  | 0, l, K => K l
  | _ + 1, [], _ => False
  | n + 1, _ :: l, K => dropS n l K
/-- cells overwritten from a place on -/
def putS : Nat → List SV → List SV → (List SV → Prop) → Prop
  | 0, [], l, K => K l
  | 0, _ :: _, [], _ => False
  | 0, x :: xs, _ :: l, K => putS 0 xs l fun r => K (x :: r)
  | _ + 1, _, [], _ => False
  | o + 1, xs, y :: l, K => putS o xs l fun r => K (y :: r)
def vcS : SV → List SV
  | .agg l => l
  | v => [v]
/-- no channel -/
def sgO : SV → Bool
  | .val v => match v with
    | .chan _ => false
    | .agg _ => false
    | _ => true
  | .junk => false
  | _ => true
/-- a cell's value -/
def flS : SV → Bool
  | .agg _ => false
  | .tup _ => false
  | .junk => false
  | .val v => flat1 v
  | _ => true
def okL : List SV → Bool
  | [] => true
  | x :: l => flS x && okL l
/-- not a struct or array, nor 'junk' -/
def sgS : SV → Bool
  | .agg _ => false
  | .junk => false
  | .val v => match v with
    | .agg _ => false
    | .chan _ => false
    | _ => true
  | _ => true
/-! operations that only give a value -/
section
variable (P : Program)
def cellS (o n : Nat) (agg : Bool) (l : List SV) (K : SV → Prop) : Prop := bif agg then dropS o l fun l => takeS n l fun l => K (.agg l) else nthS o l K
def ldS (m : Mem) (a : SV) (n : Nat) (agg : Bool) (K : SV → Prop) : Prop := match a with
  | .ptr i b o => match getM m i with
    | some e => match e with
      | .own b' _ l => eqS b b' (cellS o n agg l K)
      | _ => False
    | none => False
  | .el i b p sz j o => match getM m i with
    | some e => match e with
      | .ro a' n' _ sz' g => eqA (some ⟨b, p, none⟩) a' (eqS sz sz' (ltS j n' (cellS o n agg (g j) K)))
      | .gr a' n' _ sz' g => eqA (some ⟨b, p, none⟩) a' (eqS sz sz' (ltS j n' (cellS o n agg (g j) K)))
      | _ => False
    | none => False
  | _ => False
/-- whether a handle is that of an entry -/
def handS (m : Mem) (i : Nat) (a : Option Addr) (n : Nat) (K : Prop) : Prop := match getM m i with
  | some e => match e with
    | .ro a' n' _ _ _ => eqA a a' (eqS n n' K)
    | .gr a' n' _ _ _ => eqA a a' (eqS n n' K)
    | _ => False
  | none => False
def ixA (m : Mem) (t : TypeId) (x i : SV) (K : SV → Prop) : Prop := match i with
  | .int _ j => match P.underlying t with
    | some (.array len e) => match sizeT P e with
      | some z => match x with
        | .ptr i b o => ixS j len fun q => K (.ptr i b (Nat.add o (Nat.mul q z)))
        | .el i b p sz j' o => ixS j len fun q => K (.el i b p sz j' (Nat.add o (Nat.mul q z)))
        | _ => False
      | none => False
    | some (.slice e) => match sizeT P e with
      | some z => match x with
        | .slc i b o n _ => ixS j n fun q => K (.ptr i b (Nat.add o (Nat.mul q z)))
        | .sl i a n _ => handS m i a n (ixS j n fun q => ∀ b p, a = some ⟨b, p, none⟩ → K (.el i b p z q 0))
        | _ => False
      | none => False
    | _ => False
  | _ => False
def fdA (t : TypeId) (x : SV) (i : Nat) (K : SV → Prop) : Prop := match P.underlying t with
  | some (.struct fs) => match fs.toList[i]? with
    | some fd => match sizeT P fd.type with
      | some n => bif Nat.blt 0 n then (match x with
        | .ptr i b o => K (.ptr i b (Nat.add o fd.offset))
        | .el i b p sz j o => K (.el i b p sz j (Nat.add o fd.offset))
        | _ => False) else False
      | none => False
    | none => False
  | _ => False
/-- the part of a struct or array that a variable of type 't' at 'off' has -/
def partS (t : TypeId) (x : SV) (off : Nat) (K : SV → Prop) : Prop := match P.underlying t, sizeT P t with
  | some d, some n => match x with
    | .agg l => cellS off n (isAggD d) l K
    | _ => False
  | _, _ => False
def fdS (t : TypeId) (x : SV) (i : Nat) (K : SV → Prop) : Prop := match P.underlying t with
  | some (.struct fs) => match fs.toList[i]? with
    | some fd => partS P fd.type x fd.offset K
    | none => False
  | _ => False
def ixV (t : TypeId) (x i : SV) (K : SV → Prop) : Prop := match i with
  | .int _ j => match P.underlying t with
    | some (.array len e) => match sizeT P e with
      | some z => ixS j len fun q => partS P e x (Nat.mul q z) K
      | none => False
    | _ => False
  | _ => False
structure nzS (n : Int) (K : Prop) : Prop where
  h : iEq n 0 = false
  k : K
theorem nzS_intro {n : Int} {K : Prop} (h : n ≠ 0) (hK : K) : nzS n K := ⟨by rw [iEq_eq]; simpa using h, hK⟩
def binI (op : BinOp) (a : IntKind) (m n : Int) (K : SV → Prop) : Prop := match op with
  | .add => K (.int a (wr a (Int.add m n)))
  | .sub => K (.int a (wr a (Int.sub m n)))
  | .mul => K (.int a (wr a (Int.mul m n)))
  | .quo => nzS n (K (.int a (wr a (Int.tdiv m n))))
  | .rem => nzS n (K (.int a (Int.tmod m n)))
  | .eql => K (.bool (iEq m n))
  | .neq => K (.bool (!iEq m n))
  | .lss => K (.bool (iLt m n))
  | .gtr => K (.bool (iLt n m))
  | .leq => K (.bool (!iLt n m))
  | .geq => K (.bool (!iLt m n))
  | _ => False
structure agS (t : TypeId) (K : Prop) : Prop where
  h : (isAggT P t && aggOk P t) = true
  k : K
def eqvS (r : Option Bool) (K : Bool → Prop) : Prop := match r with
  | some b => K b
  | none => False
def binS (op : BinOp) (t : TypeId) (x y : SV) (K : SV → Prop) : Prop := match P.underlying t with
  | some (.int _) => match x, y with
    | .int a m, .int b n => bif Nat.beq (kIdx a) (kIdx b) then binI op a m n K else False
    | _, _ => False
  | some (.struct _) | some (.array _ _) => match op with
    | .eql => agS P t (eqvS (eqV P 40 t (den x) (den y)) fun b => K (.bool b))
    | .neq => agS P t (eqvS (eqV P 40 t (den x) (den y)) fun b => K (.bool (!b)))
    | _ => False
  | _ => False
def njS (v : SV) (K : SV → Prop) : Prop := bif isJ v then False else forceS v K
def okO (n : Nat) : Operand → Bool
  | .tmp t => Nat.blt t n
  | .const v => pureC 4 v
  | .func _ => true
  | .global _ => false
def evL (n : Nat) (f : Frm) : List Operand → (List SV → Prop) → Prop
  | [], K => K []
  | x :: l, K => njS (evS n f x) fun v => evL n f l fun r => K (v :: r)
def fillS (n : Nat) (f : Frm) (place : Nat → Option (Nat × Nat)) : List (Nat × Operand) → List SV → (List SV → Prop) → Prop
  | [], l, K => K l
  | x :: r, l, K => match x with
    | (i, x) => match place i with
      | some p => match p with
        | (off, size) => njS (evS n f x) fun v => bif Nat.beq (vcS v).length size && Nat.ble (Nat.add off size) l.length && sgO v then putS off (vcS v) l fun l => fillS n f place r l K else False
      | none => False
def forceV : List Value → (List SV → Prop) → Prop
  | [], K => K []
  | x :: l, K => forceS (ofV x) fun x => forceV l fun l => K (x :: l)
def buS (n : Nat) (f : Frm) (t : TypeId) (ps : List (Nat × Operand)) (K : SV → Prop) : Prop := match zeroL P t, P.underlying t with
  | some z, some (.struct fs) => match fieldPlaces P fs.toList with
    | some pl => forceV z fun z => fillS n f (fun i => pl[i]?) ps z fun l => K (.agg l)
    | none => False
  | some z, some (.array _ e) => match sizeT P e with
    | some sz => forceV z fun z => fillS n f (fun i => some (Nat.mul i sz, sz)) ps z fun l => K (.agg l)
    | none => False
  | _, _ => False
def lenS (t : TypeId) (x : SV) (K : SV → Prop) : Prop := match P.underlying t with
  | some (.slice _) => match x with
    | .slc _ _ _ n _ => K (.int .i64 (.ofNat n))
    | .sl _ _ n _ => K (.int .i64 (.ofNat n))
    | .val v => match v with
      | .slice _ n _ => K (.int .i64 (.ofNat n))
      | _ => False
    | _ => False
  | some .string => match x with
    | .val v => match v with
      | .string w => K (.int .i64 (.ofNat w.size))
      | _ => False
    | _ => False
  | _ => False
def bltS (n : Nat) (f : Frm) (b : Builtin) (args : List Operand) (ts : List TypeId) (K : SV → Prop) : Prop := match b with
  | .len => match args, ts with
    | [x], [t] => lenS P t (evS n f x) K
    | _, _ => False
  | .min => match args with
    | [x, y] => match evS n f x, evS n f y with
      | .int a m, .int b n => bif Nat.beq (kIdx a) (kIdx b) then K (.int a (bif iLt n m then n else m)) else False
      | _, _ => False
    | _ => False
  | .max => match args with
    | [x, y] => match evS n f x, evS n f y with
      | .int a m, .int b n => bif Nat.beq (kIdx a) (kIdx b) then K (.int a (bif iLt m n then n else m)) else False
      | _, _ => False
    | _ => False
  | _ => False
def stepV (n : Nat) (m : Mem) (f : Frm) (o : Oper) (K : SV → Prop) : Prop := match o.op with
  | .move x => njS (evS n f x) K
  | .assign x => njS (evS n f x) K
  | .pick c x y => bif okO n x && okO n y then (match evS n f c with
    | .bool b => brS b (njS (evS n f x) K) (njS (evS n f y) K)
    | _ => False) else False
  | .build t ps => buS P n f t ps.toList K
  | .load t x => match P.underlying t, sizeT P t with
    | some d, some z => ldS m (evS n f x) z (isAggD d) K
    | _, _ => False
  | .nilCheck x => match evS n f x with
    | .ptr i b o => K (.ptr i b o)
    | .el i b p sz j o => K (.el i b p sz j o)
    | _ => False
  | .binOp op t x y _ => binS P op t (evS n f x) (evS n f y) K
  | .unOp op _ x => match op with
    | .not => match evS n f x with
      | .bool b => K (.bool (!b))
      | _ => False
    | .neg => match evS n f x with
      | .int a m => K (.int a (wr a (Int.sub 0 m)))
      | _ => False
    | _ => False
  | .convert t u x => match P.underlying t, P.underlying u with
    | some (.int _), some (.int j) => match evS n f x with
      | .int _ q => K (.int j (wr j q))
      | _ => False
    | _, _ => False
  | .makeFunc fn a c => match fn with
    | .func g => evL n f a.toList fun fs => evL n f c.toList fun cs => K (.fn g fs cs)
    | _ => False
  | .fieldAddr t x i => fdA P t (evS n f x) i K
  | .field t x i => fdS P t (evS n f x) i K
  | .indexAddr t x i => ixA P m t (evS n f x) (evS n f i) K
  | .index t x i => ixV P t (evS n f x) (evS n f i) K
  | .extract x i => match evS n f x with
    | .tup l => nthS i l K
    | _ => False
  | .call c => match c.callee with
    | .builtin b => bltS P n f b c.args.toList c.argTypes.toList K
    | _ => False
  | _ => False
end
end Go.Ab
