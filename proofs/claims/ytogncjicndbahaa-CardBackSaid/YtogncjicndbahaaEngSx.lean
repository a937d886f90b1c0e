/- Runs over open values: values and memory by their parts, operations, rows of operations. -/
import Derived.Test.YtogncjicndbahaaEngQi
import Derived.Test.YtogncjicndbahaaEngQc
import Derived.Test.YtogncjicndbahaaEngUd
namespace Go.Ab
/-- a value by its parts: 'ptr', 'slc': into a block with a number of its own (the first number), at an address; 'sl': a slice whose elements are known by its number; 'el': the address of a cell of such an element; 'yf': the function that a loop over a function hands on (its record's number, its block); 'sb': a part of an entry's slice, from an element on; 'mpv': a map -/
inductive SV where
  | int (k : IntKind) (n : Int)
  | bool (b : Bool)
  | ptr (i b o : Nat)
  | slc (i b o n c : Nat)
  | agg (l : List SV)
  | tup (l : List SV)
  | fn (f : FuncId) (fs cs : List SV)
  | sl (i : Nat) (a : Option Addr) (n c : Nat)
  | el (i b p sz j o : Nat)
  | yf (i b : Nat)
  | sb (i b p lo sz n c : Nat)
  | mpv (i b : Nat)
  | val (v : Value)
  | junk
mutual
def den : SV → Value
  | .int k n => .int k n
  | .bool b => .bool b
  | .ptr _ b o => ptr b o
  | .slc _ b o n c => slc b o n c
  | .agg l => .agg ⟨dens l⟩
  | .tup l => .tuple ⟨dens l⟩
  | .fn f fs cs => .func (.func f) ⟨dens fs⟩ ⟨dens cs⟩
  | .sl _ a n c => .slice a n c
  | .el _ b p sz j o => ptr b (Nat.add p (Nat.add (Nat.mul j sz) o))
  | .yf _ b => .func (.yield b) ⟨[]⟩ ⟨[]⟩
  | .sb _ b p lo sz n c => slc b (bif Nat.beq c 0 then p else Nat.add p (Nat.mul lo sz)) n c
  | .mpv _ b => .map (some b)
  | .val v => v
  | .junk => undef
def dens : List SV → List Value
  | [] => []
  | v :: l => den v :: dens l
end
def isJ : SV → Bool
  | .junk => true
  | _ => false
abbrev Frm := List (Nat × SV)
/-- a row of a family: where it lies, how long it is, its room, its elements -/
abbrev Row := Option Addr × (Nat × (Nat × (Nat → List SV)))
/-- what memory holds: a block of the run's own (its address, its elements' type, its cells); a slice that is only read; a slice of the run's own that grows; the record of a loop over a function; marks of such loops; a map: its keys by numbers, what it has; a family of slices that are only read; a range over a string. A slice that is only read: c is 0 if its elements' type is not known, else the type's number and 1 -/
inductive Ent where
  | own (b : Nat) (e : TypeId) (l : List SV)
  | ro (a : Option Addr) (n c sz : Nat) (f : Nat → List SV)
  | gr (a : Option Addr) (n : Nat) (e : TypeId) (sz : Nat) (f : Nat → List SV)
  | lop (b : Nat) (st : LoopState) (pend : Option Code) (n : Nat) (f : Frm) (ps : List Tmp) (asg body : Code) (d : Nat)
  | dfr (l : List Nat)
  | it (b : Nat) (w : ByteArray) (pos : Nat)
  | mp (b : Nat) (kv : Nat → SV) (f : Nat → Option SV)
  | fam (c sz : Nat) (l : List Row)
abbrev Mem := List (Nat × Ent)
def getF : Frm → Nat → SV
  | [], _ => .junk
  | x :: r, i => match x with
    | (j, v) => bif Nat.beq j i then v else getF r i
def getM : Mem → Nat → Option Ent
  | [], _ => none
  | x :: r, i => match x with
    | (j, v) => bif Nat.beq j i then some v else getM r i
def setM (v : Ent) : Mem → Nat → Mem
  | [], _ => []
  | x :: r, i => match x with
    | (j, w) => bif Nat.beq j i then (j, v) :: r else (j, w) :: setM v r i
/-- (the list is made anew as far as the entry) -/
def setK (v : Ent) : Mem → Nat → (Mem → Prop) → Prop
  | [], _, K => K []
  | x :: r, i, K => match x with
    | (j, w) => bif Nat.beq j i then K ((j, v) :: r) else setK v r i fun r => K ((j, w) :: r)
theorem setK_eq (v : Ent) : ∀ (m : Mem) (i : Nat) (K : Mem → Prop), setK v m i K = K (setM v m i)
  | [], _, _ => rfl
  | (j, w) :: r, i, K => by
    show (bif Nat.beq j i then K ((j, v) :: r) else setK v r i fun r => K ((j, w) :: r)) = K (bif Nat.beq j i then (j, v) :: r else (j, w) :: setM v r i)
    cases Nat.beq j i with
    | true => rfl
    | false => exact setK_eq v r i _
/-- an entry taken out -/
def remM : Mem → Nat → Mem
  | [], _ => []
  | x :: r, i => match x with
    | (j, w) => bif Nat.beq j i then r else (j, w) :: remM r i
def remK : Mem → Nat → (Mem → Prop) → Prop
  | [], _, K => K []
  | x :: r, i, K => match x with
    | (j, w) => bif Nat.beq j i then K r else remK r i fun r => K ((j, w) :: r)
theorem remK_eq : ∀ (m : Mem) (i : Nat) (K : Mem → Prop), remK m i K = K (remM m i)
  | [], _, _ => rfl
  | (j, w) :: r, i, K => by
    show (bif Nat.beq j i then K r else remK r i fun r => K ((j, w) :: r)) = K (bif Nat.beq j i then r else (j, w) :: remM r i)
    cases Nat.beq j i with
    | true => rfl
    | false => exact remK_eq r i _
/-- a value, its form found -/
def forceS (v : SV) (K : SV → Prop) : Prop := match v with
  | .int k n => K (.int k n)
  | .bool b => K (.bool b)
  | .ptr i b o => K (.ptr i b o)
  | .slc i b o n c => K (.slc i b o n c)
  | .agg l => K (.agg l)
  | .tup l => K (.tup l)
  | .fn f fs cs => K (.fn f fs cs)
  | .sl i a n c => K (.sl i a n c)
  | .el i b p sz j o => K (.el i b p sz j o)
  | .yf i b => K (.yf i b)
  | .sb i b p lo sz n c => K (.sb i b p lo sz n c)
  | .mpv i b => K (.mpv i b)
  | .val v => K (.val v)
  | .junk => K .junk
theorem forceS_eq (v : SV) (K : SV → Prop) : forceS v K = K v := by cases v <;> rfl
def forceL : List SV → (List SV → Prop) → Prop
  | [], K => K []
  | x :: l, K => forceS x fun x => forceL l fun l => K (x :: l)
theorem forceL_eq : ∀ (l : List SV) (K : List SV → Prop), forceL l K = K l
  | [], K => rfl
  | x :: l, K => by unfold forceL; rw [forceS_eq, forceL_eq l]
def forceM : Mem → (Mem → Prop) → Prop
  | [], K => K []
  | x :: l, K => match x with
    | (i, e) => match e with
      | .own b t c => forceM l fun l => K ((i, .own b t c) :: l)
      | .ro a n c sz f => forceM l fun l => K ((i, .ro a n c sz f) :: l)
      | .gr a n t sz f => forceM l fun l => K ((i, .gr a n t sz f) :: l)
      | .lop b st pd n f ps x y d => forceM l fun l => K ((i, .lop b st pd n f ps x y d) :: l)
      | .dfr bs => forceM l fun l => K ((i, .dfr bs) :: l)
      | .it b w p => forceM l fun l => K ((i, .it b w p) :: l)
      | .mp b kv g => forceM l fun l => K ((i, .mp b kv g) :: l)
      | .fam c z r => forceM l fun l => K ((i, .fam c z r) :: l)
theorem forceM_eq : ∀ (l : Mem) (K : Mem → Prop), forceM l K = K l
  | [], K => rfl
  | (i, e) :: l, K => by
    unfold forceM
    cases e <;> simp only [forceM_eq l]
def ofV : Value → SV
  | .int k n => .int k n
  | .bool b => .bool b
  | v => .val v
def ofVs : List Value → List SV
  | [] => []
  | v :: l => ofV v :: ofVs l
/-- (the type that a map's block is known by, until it is one) -/
def mapMk : TypeId := 4294967296
def jkM (_ : Nat) : SV := .junk
def noM (_ : Nat) : Option SV := none
def mkO (e : TypeId) (l : List Value) : AObj := bif Nat.beq e mapMk then .map [] 0 else mkC l e false
def entO (b : Nat) (e : TypeId) (l : List SV) : Ent := bif Nat.beq e mapMk then .mp b jkM noM else .own b e l
/-- an entry of a new block -/
def entK (b : Nat) (e : TypeId) (l : List SV) (K : Ent → Prop) : Prop := bif Nat.beq e mapMk then K (.mp b jkM noM) else K (.own b e l)
theorem entK_eq (b : Nat) (e : TypeId) (l : List SV) (K : Ent → Prop) : entK b e l K = K (entO b e l) := by
  unfold entK entO
  cases Nat.beq e mapMk <;> rfl
def evS (n : Nat) (f : Frm) : Operand → SV
  | .tmp t => bif Nat.blt t n then getF f t else .junk
  | .const v => bif pureC 4 v then (match v with
    | .agg cs => .agg (ofVs cs.toList)
    | v => ofV v) else .junk
  | .func g => .fn g [] []
  | .global _ => .junk
/-! stops: what a step asks (kinds of their own: nothing unfolds them) -/
structure brS (b : Bool) (x y : Prop) : Prop where
  t : b = true → x
  f : b = false → y
theorem brS_intro {b : Bool} {x y : Prop} (h : b = true → x) (h' : b = false → y) : brS b x y := ⟨h, h'⟩
structure eqS (a b : Nat) (K : Prop) : Prop where
  h : a = b
  k : K
theorem eqS_rfl {a : Nat} {K : Prop} (h : K) : eqS a a K := ⟨rfl, h⟩
structure eqA (a b : Option Addr) (K : Prop) : Prop where
  h : a = b
  k : K
theorem eqA_rfl {a : Option Addr} {K : Prop} (h : K) : eqA a a K := ⟨rfl, h⟩
theorem eqA_of {a b : Option Addr} {K : Prop} (h : b = a) (hK : K) : eqA a b K := ⟨h.symm, hK⟩
theorem eqS_of {a b : Nat} {K : Prop} (h : a = b) (hK : K) : eqS a b K := ⟨h, hK⟩
/-- two lists of blocks -/
structure eqL (a b : List Nat) (K : Prop) : Prop where
  h : a = b
  k : K
theorem eqL_rfl {a : List Nat} {K : Prop} (h : K) : eqL a a K := ⟨rfl, h⟩
structure ltS (a b : Nat) (K : Prop) : Prop where
  h : a < b
  k : K
theorem ltS_intro {a b : Nat} {K : Prop} (h : a < b) (hK : K) : ltS a b K := ⟨h, hK⟩
theorem ltS_inv {a b : Nat} {K : Prop} (h : ltS a b K) : a < b ∧ K := ⟨h.h, h.k⟩
/-- an index -/
structure ixS (j : Int) (n : Nat) (K : Nat → Prop) : Prop where
  ex : ∃ q : Nat, j = .ofNat q ∧ q < n ∧ K q
theorem ixS_intro {j : Int} {n : Nat} {K : Nat → Prop} (h0 : 0 ≤ j) (h1 : j < n) (hK : ∀ q : Nat, j = q → q < n → K q) : ixS j n K :=
  ⟨j.toNat, (by show j = (j.toNat : Int); omega), by omega, hK _ (by omega) (by omega)⟩
theorem ixS_of {j : Int} {n q : Nat} {K : Nat → Prop} (h : j = Int.ofNat q) (hq : q < n) (hK : K q) : ixS j n K := ⟨q, h, hq, hK⟩
theorem ixS_inv {j : Int} {n : Nat} {K : Nat → Prop} (h : ixS j n K) : ∃ q : Nat, j = .ofNat q ∧ q < n ∧ K q := h.ex
/-- empty or not -/
structure emS (n : Nat) (K0 K1 : Prop) : Prop where
  z : n = 0 → K0
  p : 0 < n → K1
theorem emS_intro {n : Nat} {K0 K1 : Prop} (h : n = 0 → K0) (h' : 0 < n → K1) : emS n K0 K1 := ⟨h, h'⟩
theorem emS_0 {K0 K1 : Prop} (h : K0) : emS 0 K0 K1 := ⟨fun _ => h, fun h => absurd h (Nat.lt_irrefl 0)⟩
theorem emS_p {n : Nat} {K0 K1 : Prop} (hn : 0 < n) (h : K1) : emS n K0 K1 := ⟨fun h0 => absurd hn (by omega), fun _ => h⟩
/-- one way or the other -/
structure orS (A : Prop) (K1 : Prop) (B : Prop) (K2 : Prop) : Prop where
  ex : (A ∧ K1) ∨ (B ∧ K2)
theorem orS_l {A K1 B K2 : Prop} (h : A) (k : K1) : orS A K1 B K2 := ⟨.inl ⟨h, k⟩⟩
theorem orS_r {A K1 B K2 : Prop} (h : B) (k : K2) : orS A K1 B K2 := ⟨.inr ⟨h, k⟩⟩
/-- nil or not -/
structure nlS (a : Option Addr) (K1 K0 : Prop) : Prop where
  t : a = none → K1
  f : a ≠ none → K0
theorem nlS_intro {a : Option Addr} {K1 K0 : Prop} (h : a = none → K1) (h' : a ≠ none → K0) : nlS a K1 K0 := ⟨h, h'⟩
/-- what a map has -/
structure hasS (r : Option SV) (K1 : SV → Prop) (K0 : Prop) : Prop where
  s : ∀ v, r = some v → K1 v
  n : r = none → K0
theorem hasS_intro {r : Option SV} {K1 : SV → Prop} {K0 : Prop} (h : ∀ v, r = some v → K1 v) (h' : r = none → K0) : hasS r K1 K0 := ⟨h, h'⟩
theorem hasS_some {r : Option SV} {v : SV} {K1 : SV → Prop} {K0 : Prop} (e : r = some v) (h : K1 v) : hasS r K1 K0 := ⟨fun w hw => (by rw [e] at hw; cases hw; exact h), fun hn => (by rw [e] at hn; cases hn)⟩
theorem hasS_none {r : Option SV} {K1 : SV → Prop} {K0 : Prop} (e : r = none) (h : K0) : hasS r K1 K0 := ⟨fun w hw => (by rw [e] at hw; cases hw), fun _ => h⟩
/-- a key: how the map's keys are numbered, what it has by these numbers, the key's number -/
structure kyS (P : Program) (kt : TypeId) (d : TypeDesc) (kv : Nat → SV) (f : Nat → Option SV) (key : SV) (K : (Nat → SV) → (Nat → Option SV) → Nat → Prop) : Prop where
  ex : ∃ (kv' : Nat → SV) (f' : Nat → Option SV) (a : Nat), ((kv' = kv ∧ f' = f) ∨ ((∀ x, f x = none) ∧ ∀ x, f' x = none)) ∧ KeyH P kt d (fun x => den (kv' x)) ∧ den key = den (kv' a) ∧ K kv' f' a
theorem kyS_of {P : Program} {kt : TypeId} {d : TypeDesc} {kv : Nat → SV} {f : Nat → Option SV} {key : SV} {K : (Nat → SV) → (Nat → Option SV) → Nat → Prop} (a : Nat) (hk : KeyH P kt d (fun x => den (kv x))) (ha : den key = den (kv a)) (h : K kv f a) : kyS P kt d kv f key K := ⟨kv, f, a, .inl ⟨rfl, rfl⟩, hk, ha, h⟩
theorem kyS_new {P : Program} {kt : TypeId} {d : TypeDesc} {kv : Nat → SV} {f : Nat → Option SV} {key : SV} {K : (Nat → SV) → (Nat → Option SV) → Nat → Prop} (kv' : Nat → SV) (a : Nat) (hf : ∀ x, f x = none) (hk : KeyH P kt d (fun x => den (kv' x))) (ha : den key = den (kv' a)) (h : K kv' (fun _ => none) a) : kyS P kt d kv f key K := ⟨kv', fun _ => none, a, .inr ⟨hf, fun _ => rfl⟩, hk, ha, h⟩
def nthS : Nat → List SV → (SV → Prop) → Prop
  | _, [], _ => False
  | 0, x :: _, K => forceS x K
  | i + 1, _ :: l, K => nthS i l K
def takeS : Nat → List SV → (List SV → Prop) → Prop
  | 0, _, K => K []
  | _ + 1, [], _ => False
  | n + 1, x :: l, K => forceS x fun x => takeS n l fun r => K (x :: r)
def dropS : Nat → List SV → (List SV → Prop) → Prop
  | 0, l, K => K l
  | _ + 1, [], _ => False
  | n + 1, _ :: l, K => dropS n l K
/-- cells overwritten from a place on -/
def putS : Nat → List SV → List SV → (List SV → Prop) → Prop
  | 0, [], l, K => K l
  | 0, _ :: _, [], _ => False
  | 0, x :: xs, _ :: l, K => putS 0 xs l fun r => K (x :: r)
  | _ + 1, _, [], _ => False
  | o + 1, xs, y :: l, K => putS o xs l fun r => K (y :: r)
def vcS : SV → List SV
  | .agg l => l
  | v => [v]
/-- no channel -/
def sgO : SV → Bool
  | .val v => match v with
    | .chan _ => false
    | .agg _ => false
    | _ => true
  | .junk => false
  | _ => true
/-- a cell's value -/
def flS : SV → Bool
  | .agg _ => false
  | .tup _ => false
  | .junk => false
  | .val v => flat1 v
  | _ => true
def okL : List SV → Bool
  | [] => true
  | x :: l => flS x && okL l
/-- not a struct or array, nor 'junk' -/
def sgS : SV → Bool
  | .agg _ => false
  | .junk => false
  | .val v => match v with
    | .agg _ => false
    | .chan _ => false
    | _ => true
  | _ => true
/-! operations that only give a value -/
section
variable (P : Program)
def cellS (o n : Nat) (agg : Bool) (l : List SV) (K : SV → Prop) : Prop := bif agg then dropS o l fun l => takeS n l fun l => K (.agg l) else nthS o l K
def ldS (m : Mem) (a : SV) (n : Nat) (agg : Bool) (K : SV → Prop) : Prop := match a with
  | .ptr i b o => match getM m i with
    | some e => match e with
      | .own b' _ l => eqS b b' (cellS o n agg l K)
      | _ => False
    | none => False
  | .el i b p sz j o => match getM m i with
    | some e => match e with
      | .ro a' n' _ sz' g => eqA (some ⟨b, p, none⟩) a' (eqS sz sz' (ltS j n' (cellS o n agg (g j) K)))
      | .gr a' n' _ sz' g => eqA (some ⟨b, p, none⟩) a' (eqS sz sz' (ltS j n' (cellS o n agg (g j) K)))
      | _ => False
    | none => False
  | _ => False
/-- whether a handle is that of an entry -/
def handS (m : Mem) (i : Nat) (a : Option Addr) (n : Nat) (K : Prop) : Prop := match getM m i with
  | some e => match e with
    | .ro a' n' _ _ _ => eqA a a' (eqS n n' K)
    | .gr a' n' _ _ _ => eqA a a' (eqS n n' K)
    | _ => False
  | none => False
def ixA (m : Mem) (t : TypeId) (x i : SV) (K : SV → Prop) : Prop := match i with
  | .int _ j => match P.underlying t with
    | some (.array len e) => match sizeT P e with
      | some z => match x with
        | .ptr i b o => ixS j len fun q => K (.ptr i b (Nat.add o (Nat.mul q z)))
        | .el i b p sz j' o => ixS j len fun q => K (.el i b p sz j' (Nat.add o (Nat.mul q z)))
        | _ => False
      | none => False
    | some (.slice e) => match sizeT P e with
      | some z => match x with
        | .slc i b o n _ => ixS j n fun q => K (.ptr i b (Nat.add o (Nat.mul q z)))
        | .sl i a n _ => handS m i a n (ixS j n fun q => ∀ b p, a = some ⟨b, p, none⟩ → K (.el i b p z q 0))
        | .sb i b p lo sz n c => eqS sz z (ixS j n fun q => ltS q c (K (.el i b p z (Nat.add lo q) 0)))
        | _ => False
      | none => False
    | _ => False
  | _ => False
def fdA (t : TypeId) (x : SV) (i : Nat) (K : SV → Prop) : Prop := match P.underlying t with
  | some (.struct fs) => match fs.toList[i]? with
    | some fd => match sizeT P fd.type with
      | some n => bif Nat.blt 0 n then (match x with
        | .ptr i b o => K (.ptr i b (Nat.add o fd.offset))
        | .el i b p sz j o => K (.el i b p sz j (Nat.add o fd.offset))
        | _ => False) else False
      | none => False
    | none => False
  | _ => False
/-- the part of a struct or array that a variable of type 't' at 'off' has -/
def partS (t : TypeId) (x : SV) (off : Nat) (K : SV → Prop) : Prop := match P.underlying t, sizeT P t with
  | some d, some n => match x with
    | .agg l => cellS off n (isAggD d) l K
    | _ => False
  | _, _ => False
def fdS (t : TypeId) (x : SV) (i : Nat) (K : SV → Prop) : Prop := match P.underlying t with
  | some (.struct fs) => match fs.toList[i]? with
    | some fd => partS P fd.type x fd.offset K
    | none => False
  | _ => False
/-- a byte of a string -/
def chS (w : ByteArray) (q : Nat) (K : SV → Prop) : Prop := match w.data.toList[q]? with
  | some c => K (.int .u8 (.ofNat c.toNat))
  | none => False
theorem chS_of {w : ByteArray} {q : Nat} {c : UInt8} {K : SV → Prop} (h : w.data.toList[q]? = some c) (hK : K (.int .u8 (.ofNat c.toNat))) : chS w q K := by
  unfold chS
  rw [h]
  exact hK
def ixV (t : TypeId) (x i : SV) (K : SV → Prop) : Prop := match i with
  | .int _ j => match P.underlying t with
    | some (.array len e) => match sizeT P e with
      | some z => ixS j len fun q => partS P e x (Nat.mul q z) K
      | none => False
    | some .string => match x with
      | .val v => match v with
        | .string w => ixS j 65536 fun q => chS w q K
        | _ => False
      | _ => False
    | _ => False
  | _ => False
structure nzS (n : Int) (K : Prop) : Prop where
  h : iEq n 0 = false
  k : K
theorem nzS_intro {n : Int} {K : Prop} (h : n ≠ 0) (hK : K) : nzS n K := ⟨by rw [iEq_eq]; simpa using h, hK⟩
/-- numbers, bit by bit -/
def andI (a : IntKind) (m n : Int) : Int := a.wrap (BitVec.ofInt a.bits m &&& BitVec.ofInt a.bits n).toNat
def isAnd (op : BinOp) : Bool := match op with
  | .and => true
  | _ => false
/-- the other operations on bits -/
def orI (a : IntKind) (m n : Int) : Int := a.wrap (BitVec.ofInt a.bits m ||| BitVec.ofInt a.bits n).toNat
def xorI (a : IntKind) (m n : Int) : Int := a.wrap (BitVec.ofInt a.bits m ^^^ BitVec.ofInt a.bits n).toNat
def anI (a : IntKind) (m n : Int) : Int := a.wrap (BitVec.ofInt a.bits m &&& ~~~BitVec.ofInt a.bits n).toNat
def isBit (op : BinOp) : Bool := match op with
  | .or => true
  | .xor => true
  | .andNot => true
  | _ => false
def bitI (op : BinOp) (a : IntKind) (m n : Int) (K : SV → Prop) : Prop := match op with
  | .or => K (.int a (orI a m n))
  | .xor => K (.int a (xorI a m n))
  | .andNot => K (.int a (anI a m n))
  | _ => False
def binI (op : BinOp) (a : IntKind) (m n : Int) (K : SV → Prop) : Prop := match op with
  | .add => K (.int a (wr a (Int.add m n)))
  | .sub => K (.int a (wr a (Int.sub m n)))
  | .mul => K (.int a (wr a (Int.mul m n)))
  | .quo => nzS n (K (.int a (wr a (Int.tdiv m n))))
  | .rem => nzS n (K (.int a (Int.tmod m n)))
  | .eql => K (.bool (iEq m n))
  | .neq => K (.bool (!iEq m n))
  | .lss => K (.bool (iLt m n))
  | .gtr => K (.bool (iLt n m))
  | .leq => K (.bool (!iLt n m))
  | .geq => K (.bool (!iLt m n))
  | _ => False
structure agS (t : TypeId) (K : Prop) : Prop where
  h : (isAggT P t && aggOk P t) = true
  k : K
structure eqvS (r : Option Bool) (K : Bool → Prop) : Prop where
  ex : ∃ b, r = some b ∧ K b
theorem eqvS_of {r : Option Bool} {b : Bool} {K : Bool → Prop} (h : r = some b) (hK : K b) : eqvS r K := ⟨b, h, hK⟩
/-- a number, shifted to the right -/
def shrV (a : IntKind) (m : Int) (c : Nat) : Int := m.fdiv (2 ^ min c a.bits)
def isShr (op : BinOp) : Bool := match op with
  | .shr => true
  | _ => false
/-- a number, shifted to the left -/
def shlV (a : IntKind) (m : Int) (c : Nat) : Int := a.wrap (m * 2 ^ min c a.bits)
def isShl (op : BinOp) : Bool := match op with
  | .shl => true
  | _ => false
def slS (a : IntKind) (m n : Int) (K : SV → Prop) : Prop := match n with
  | .ofNat c => K (.int a (shlV a m c))
  | .negSucc _ => False
def shS (a : IntKind) (m n : Int) (K : SV → Prop) : Prop := match n with
  | .ofNat c => K (.int a (shrV a m c))
  | .negSucc _ => False
/-- a slice, compared with nil -/
def nilS (op : BinOp) (x : SV) (K : SV → Prop) : Prop := match x with
  | .sl _ a _ _ => match op with
    | .eql => nlS a (K (.bool true)) (K (.bool false))
    | .neq => nlS a (K (.bool false)) (K (.bool true))
    | _ => False
  | .slc _ _ _ _ _ => match op with
    | .eql => K (.bool false)
    | .neq => K (.bool true)
    | _ => False
  | .sb _ _ _ _ _ _ _ => match op with
    | .eql => K (.bool false)
    | .neq => K (.bool true)
    | _ => False
  | .val v => match v with
    | .slice a _ _ => match a with
      | none => match op with
        | .eql => K (.bool true)
        | .neq => K (.bool false)
        | _ => False
      | some _ => False
    | _ => False
  | _ => False
/-- two strings, joined or compared -/
def strI (op : BinOp) (a b : ByteArray) (K : SV → Prop) : Prop := match op with
  | .add => ltS (Nat.add a.size b.size) 9223372036854775808 (K (.val (.string (a ++ b))))
  | .eql => K (.bool (a.toList == b.toList))
  | .neq => K (.bool (!(a.toList == b.toList)))
  | .lss => K (.bool (Op.bytesLess a.toList b.toList))
  | .leq => K (.bool (Op.bytesLess a.toList b.toList || a.toList == b.toList))
  | .gtr => K (.bool (!(Op.bytesLess a.toList b.toList || a.toList == b.toList)))
  | .geq => K (.bool (!Op.bytesLess a.toList b.toList))
  | _ => False
def binS (op : BinOp) (t : TypeId) (x y : SV) (K : SV → Prop) : Prop := match P.underlying t with
  | some (.int _) => match x, y with
    | .int a m, .int b n => bif isShr op then shS a m n K else bif isShl op then slS a m n K else bif Nat.beq (kIdx a) (kIdx b) then (bif isAnd op then K (.int a (andI a m n)) else bif isBit op then bitI op a m n K else binI op a m n K) else False
    | _, _ => False
  | some .bool => match x, y with
    | .bool a, .bool b => match op with
      | .eql => K (.bool (a == b))
      | .neq => K (.bool (!(a == b)))
      | _ => False
    | _, _ => False
  | some (.slice _) => match y with
    | .val v => match v with
      | .slice a2 p2 c2 => match a2 with
        | none => bif Nat.beq p2 0 && Nat.beq c2 0 then nilS op x K else False
        | some _ => False
      | _ => False
    | _ => False
  | some (.struct _) | some (.array _ _) => match op with
    | .eql => agS P t (eqvS (eqV P 40 t (den x) (den y)) fun b => K (.bool b))
    | .neq => agS P t (eqvS (eqV P 40 t (den x) (den y)) fun b => K (.bool (!b)))
    | _ => False
  | some .string => match x with
    | .val v => match v with
      | .string a => match y with
        | .val w => match w with
          | .string b => strI op a b K
          | _ => False
        | _ => False
      | _ => False
    | _ => False
  | _ => False
def njS (v : SV) (K : SV → Prop) : Prop := bif isJ v then False else forceS v K
def okO (n : Nat) : Operand → Bool
  | .tmp t => Nat.blt t n
  | .const v => pureC 4 v
  | .func _ => true
  | .global _ => false
def evL (n : Nat) (f : Frm) : List Operand → (List SV → Prop) → Prop
  | [], K => K []
  | x :: l, K => njS (evS n f x) fun v => evL n f l fun r => K (v :: r)
def fillS (n : Nat) (f : Frm) (place : Nat → Option (Nat × Nat)) : List (Nat × Operand) → List SV → (List SV → Prop) → Prop
  | [], l, K => K l
  | x :: r, l, K => match x with
    | (i, x) => match place i with
      | some p => match p with
        | (off, size) => njS (evS n f x) fun v => bif Nat.beq (vcS v).length size && Nat.ble (Nat.add off size) l.length && sgO v then putS off (vcS v) l fun l => fillS n f place r l K else False
      | none => False
def forceV : List Value → (List SV → Prop) → Prop
  | [], K => K []
  | x :: l, K => forceS (ofV x) fun x => forceV l fun l => K (x :: l)
def buS (n : Nat) (f : Frm) (t : TypeId) (ps : List (Nat × Operand)) (K : SV → Prop) : Prop := match zeroL P t, P.underlying t with
  | some z, some (.struct fs) => match fieldPlaces P fs.toList with
    | some pl => forceV z fun z => fillS n f (fun i => pl[i]?) ps z fun l => K (.agg l)
    | none => False
  | some z, some (.array _ e) => match sizeT P e with
    | some sz => forceV z fun z => fillS n f (fun i => some (Nat.mul i sz, sz)) ps z fun l => K (.agg l)
    | none => False
  | _, _ => False
def lenS (t : TypeId) (x : SV) (K : SV → Prop) : Prop := match P.underlying t with
  | some (.slice _) => match x with
    | .slc _ _ _ n _ => K (.int .i64 (.ofNat n))
    | .sl _ _ n _ => K (.int .i64 (.ofNat n))
    | .sb _ _ _ _ _ n _ => K (.int .i64 (.ofNat n))
    | .val v => match v with
      | .slice _ n _ => K (.int .i64 (.ofNat n))
      | _ => False
    | _ => False
  | some .string => match x with
    | .val v => match v with
      | .string w => K (.int .i64 (.ofNat w.size))
      | _ => False
    | _ => False
  | _ => False
/-- the lesser of two strings -/
def mnB (a b : ByteArray) : ByteArray := if (Op.bytesLess a.toList b.toList || a.toList == b.toList) = true then a else b
def mnS (v w : Value) (K : SV → Prop) : Prop := match v with
  | .string a => match w with
    | .string b => K (.val (.string (mnB a b)))
    | _ => False
  | _ => False
def bltS (n : Nat) (f : Frm) (b : Builtin) (args : List Operand) (ts : List TypeId) (K : SV → Prop) : Prop := match b with
  | .len => match args, ts with
    | [x], [t] => lenS P t (evS n f x) K
    | _, _ => False
  | .cap => match args, ts with
    | [x], [t] => match P.underlying t with
      | some (.slice _) => match evS n f x with
        | .val v => match v with
          | .slice a p c => match a with
            | none => bif Nat.beq p 0 && Nat.beq c 0 then K (.int .i64 (.ofNat 0)) else False
            | some _ => False
          | _ => False
        | _ => False
      | _ => False
    | _, _ => False
  | .min => match args with
    | [x, y] => match evS n f x, evS n f y with
      | .int a m, .int b n => bif Nat.beq (kIdx a) (kIdx b) then K (.int a (bif iLt n m then n else m)) else False
      | .val v, .val w => mnS v w K
      | _, _ => False
    | _ => False
  | .max => match args with
    | [x, y] => match evS n f x, evS n f y with
      | .int a m, .int b n => bif Nat.beq (kIdx a) (kIdx b) then K (.int a (bif iLt m n then n else m)) else False
      | _, _ => False
    | _ => False
  | _ => False
/-- a bound of a slice expression -/
def bdS (n : Nat) (f : Frm) (top dflt : Nat) (x : Option Operand) (K : Nat → Prop) : Prop := match x with
  | none => K dflt
  | some y => match evS n f y with
    | .int _ j => ixS j (Nat.add top 1) K
    | _ => False
/-- a slice expression's bounds -/
def sxR (n : Nat) (f : Frm) (i : Nat) (a : Option Addr) (z len c : Nat) (lo hi : Option Operand) (K : SV → Prop) : Prop := bdS n f c len hi fun h => match lo with
  | none => K (.sl i a h c)
  | some y => bdS n f h 0 (some y) fun l => ∀ b p, a = some ⟨b, p, none⟩ → K (.sb i b p l z (Nat.sub h l) (Nat.sub c l))
/-- a slice expression (of nil, of a slice of the run's own that is not empty, of a slice that is only read and not empty, whose elements' type is known) -/
def sx3 (n : Nat) (m : Mem) (f : Frm) (t : TypeId) (x : Operand) (yh ym : Operand) (K : SV → Prop) : Prop := match P.underlying t with
  | some (.slice e) => match sizeT P e with
    | some z => match evS n f x with
      | .sl i a len c => match getM m i with
        | some en => match en with
          | .gr a' n' e' sz' _ => eqA a a' (eqS c n' (eqS e' e (eqS sz' z (ltS len (Nat.add c 1) (ltS 0 n' (bdS n f c 0 (some ym) fun q => bdS n f q 0 (some yh) fun h => K (.sl i a h q)))))))
          | _ => False
        | none => False
      | .val v => match v with
        | .slice a p c => match a with
          | none => bif Nat.beq p 0 && Nat.beq c 0 then bdS n f 0 0 (some ym) fun q => bdS n f q 0 (some yh) fun _ => K (.val (.slice none 0 0)) else False
          | some _ => False
        | _ => False
      | _ => False
    | none => False
  | _ => False
def sxS (n : Nat) (m : Mem) (f : Frm) (t : TypeId) (x : Operand) (lo hi mx : Option Operand) (K : SV → Prop) : Prop := match mx with
  | some ym => match lo with
    | some _ => False
    | none => match hi with
      | some yh => sx3 P n m f t x yh ym K
      | none => False
  | none => match P.underlying t with
    | some (.slice e) => match sizeT P e with
      | some z => match evS n f x with
        | .sl i a len c => match getM m i with
          | some en => match en with
            | .gr a' n' e' sz' _ => eqA a a' (eqS c n' (eqS e' e (eqS sz' z (ltS len (Nat.add c 1) (ltS 0 n' (sxR n f i a z len c lo hi K))))))
            | .ro a' n' e' sz' _ => eqA a a' (eqS len n' (eqS e' (Nat.add e 1) (eqS sz' z (ltS len (Nat.add c 1) (ltS 0 n' (sxR n f i a z len c lo hi K))))))
            | _ => False
          | none => False
        | .val v => match v with
          | .slice a p c => match a with
            | none => bif Nat.beq p 0 && Nat.beq c 0 then bdS n f 0 0 hi fun h => match lo with
              | none => K (.val (.slice none 0 0))
              | some y => bdS n f h 0 (some y) fun _ => K (.val (.slice none 0 0))
              else False
            | some _ => False
          | _ => False
        | _ => False
      | none => False
    | some .string => match evS n f x with
      | .val v => match v with
        | .string w => bdS n f w.size w.size hi fun h => bdS n f h 0 lo fun l => K (.val (.string (w.extract l h)))
        | _ => False
      | _ => False
    | _ => False
/-- the string of the bytes of a slice of the run's own -/
structure bytG (g : Nat → List SV) (n : Nat) (K : ByteArray → Prop) : Prop where
  ex : ∃ ns : Nat → Int, (∀ j, j < n → g j = [.int .u8 (ns j)]) ∧ K ⟨⟨bytesU8 ((List.range n).map ns)⟩⟩
theorem bytG_of {g : Nat → List SV} {n : Nat} {K : ByteArray → Prop} (ns : Nat → Int) (h : ∀ j, j < n → g j = [.int .u8 (ns j)]) (hK : K ⟨⟨bytesU8 ((List.range n).map ns)⟩⟩) : bytG g n K := ⟨ns, h, hK⟩
structure bytL (l : List SV) (K : ByteArray → Prop) : Prop where
  ex : ∃ ns : List Int, dens l = ns.map (Value.int .u8) ∧ K ⟨⟨bytesU8 ns⟩⟩
theorem bytL_of {l : List SV} {K : ByteArray → Prop} (ns : List Int) (h : dens l = ns.map (Value.int .u8)) (hK : K ⟨⟨bytesU8 ns⟩⟩) : bytL l K := ⟨ns, h, hK⟩
def bySS (m : Mem) (y : SV) (K : ByteArray → Prop) : Prop := match y with
  | .sl i a n _ => match getM m i with
    | some en => match en with
      | .gr a' n' _ sz g => eqA a a' (eqS n n' (eqS sz 1 (bytG g n K)))
      | _ => False
    | none => False
  | .slc i b o n _ => match getM m i with
    | some en => match en with
      | .own b' _ l => eqS b b' (ltS (Nat.add o n) (Nat.add l.length 1) (bytL ((l.drop o).take n) K))
      | _ => False
    | none => False
  | _ => False
/-- a zero value by its parts -/
def zvS (v : Value) : SV := match v with
  | .agg cs => .agg (ofVs cs.toList)
  | v => ofV v
def lkS (m : Mem) (t : TypeId) (x i : SV) (ok : Bool) (K : SV → Prop) : Prop := match mapT P t with
  | some q => match q with
    | (kt, d, et) => match zeroOf P et with
      | some z => match x with
        | .mpv e b => match getM m e with
          | some en => match en with
            | .mp b' kv f => eqS b b' (kyS P kt d kv f i fun _ f' a => hasS (f' a) (fun v => match ok with
              | true => K (.tup [v, .bool true])
              | false => forceS v K) (forceS (zvS z) fun z => match ok with
              | true => K (.tup [z, .bool false])
              | false => K z))
            | _ => False
          | none => False
        | _ => False
      | none => False
  | none => False
/-- the length of a map: that of any list of what it has -/
def lenX (b : Builtin) (args : List Operand) (ts : List TypeId) : Option Operand := match b with
  | .len => match args with
    | [x] => match ts with
      | [t] => match P.underlying t with
        | some (.map _ _) => some x
        | _ => none
      | _ => none
    | _ => none
  | _ => none
structure lnS (g : Nat → Option SV) (K : Nat → Prop) : Prop where
  ex : ∃ q, (∀ L : List Nat, L.Nodup → (∀ a, a ∈ L ↔ g a ≠ none) → L.length = q) ∧ K q
theorem lnS_of {g : Nat → Option SV} {K : Nat → Prop} (q : Nat) (h : ∀ L : List Nat, L.Nodup → (∀ a, a ∈ L ↔ g a ≠ none) → L.length = q) (hK : K q) : lnS g K := ⟨q, h, hK⟩
def lnM (m : Mem) (v : SV) (K : SV → Prop) : Prop := match v with
  | .mpv e b => match getM m e with
    | some en => match en with
      | .mp b' _ g => eqS b b' (lnS g fun q => K (.int .i64 (.ofNat q)))
      | _ => False
    | none => False
  | _ => False
def stepV (n : Nat) (m : Mem) (f : Frm) (o : Oper) (K : SV → Prop) : Prop := match o.op with
  | .move x => njS (evS n f x) K
  | .assign x => njS (evS n f x) K
  | .pick c x y => bif okO n x && okO n y then (match evS n f c with
    | .bool b => brS b (njS (evS n f x) K) (njS (evS n f y) K)
    | _ => False) else False
  | .build t ps => buS P n f t ps.toList K
  | .load t x => match P.underlying t, sizeT P t with
    | some d, some z => ldS m (evS n f x) z (isAggD d) K
    | _, _ => False
  | .nilCheck x => match evS n f x with
    | .ptr i b o => K (.ptr i b o)
    | .el i b p sz j o => K (.el i b p sz j o)
    | _ => False
  | .binOp op t x y _ => binS P op t (evS n f x) (evS n f y) K
  | .unOp op _ x => match op with
    | .not => match evS n f x with
      | .bool b => K (.bool (!b))
      | _ => False
    | .neg => match evS n f x with
      | .int a m => K (.int a (wr a (Int.sub 0 m)))
      | _ => False
    | _ => False
  | .convert t u x => match P.underlying t, P.underlying u with
    | some (.int _), some (.int j) => match evS n f x with
      | .int _ q => K (.int j (wr j q))
      | _ => False
    | some (.slice e), some .string => match P.underlying e with
      | some (.int .u8) => bySS m (evS n f x) fun w => K (.val (.string w))
      | _ => False
    | _, _ => False
  | .makeFunc fn a c => match fn with
    | .func g => evL n f a.toList fun fs => evL n f c.toList fun cs => K (.fn g fs cs)
    | _ => False
  | .fieldAddr t x i => fdA P t (evS n f x) i K
  | .field t x i => fdS P t (evS n f x) i K
  | .indexAddr t x i => ixA P m t (evS n f x) (evS n f i) K
  | .index t x i => ixV P t (evS n f x) (evS n f i) K
  | .slice t x lo hi mx => sxS P n m f t x lo hi mx K
  | .lookup t x i ok => njS (evS n f i) fun i => lkS P m t (evS n f x) i ok K
  | .extract x i => match evS n f x with
    | .tup l => nthS i l K
    | _ => False
  | .call c => match c.callee with
    | .builtin b => match lenX P b c.args.toList c.argTypes.toList with
      | some x => lnM m (evS n f x) K
      | none => bltS P n f b c.args.toList c.argTypes.toList K
    | _ => False
  | _ => False
end
end Go.Ab
namespace Go.Ab
open Go.RowKit
theorem dens_length : ∀ l : List SV, (dens l).length = l.length
  | [] => rfl
  | _ :: l => by simp [dens, dens_length l]
theorem dens_append : ∀ l r : List SV, dens (l ++ r) = dens l ++ dens r
  | [], _ => rfl
  | _ :: l, r => by simp [dens, dens_append l r]
theorem dens_get : ∀ (l : List SV) (i : Nat), (dens l)[i]? = (l[i]?).map den
  | [], _ => by simp [dens]
  | _ :: _, 0 => by simp [dens]
  | _ :: l, i + 1 => by simp [dens, dens_get l i]
theorem dens_drop : ∀ (l : List SV) (n : Nat), dens (l.drop n) = (dens l).drop n
  | [], n => by simp [dens]
  | _ :: _, 0 => rfl
  | _ :: l, n + 1 => by simp [dens, dens_drop l n]
theorem dens_take : ∀ (l : List SV) (n : Nat), dens (l.take n) = (dens l).take n
  | [], n => by simp [dens]
  | _ :: _, 0 => by simp [dens]
  | _ :: l, n + 1 => by simp [dens, dens_take l n]
theorem den_ofV (v : Value) : den (ofV v) = v := by cases v <;> rfl
theorem dens_ofVs : ∀ l : List Value, dens (ofVs l) = l
  | [] => rfl
  | v :: l => by simp [ofVs, dens, den_ofV, dens_ofVs l]
def FrameOK (k n : Nat) (t : Fm Value k) (f : Frm) : Prop := ∀ i, i < n → isJ (getF f i) = false → (getW k i).g t = den (getF f i)
theorem FrameOK.put {k n : Nat} {t : Fm Value k} {f : Frm} (hn : n ≤ pow8 k) (h : FrameOK k n t f) {d : Nat} (hd : d < n) {v : Value} {w : SV} (hv : isJ w = false → v = den w) : FrameOK k n ((setW k d).s v t) ((d, w) :: f) := by
  intro i hi hj
  have e : getF ((d, w) :: f) i = if i = d then w else getF f i := by
    show (bif Nat.beq d i then w else getF f i) = _
    by_cases h : i = d
    · subst h; rw [if_pos rfl, Nat.beq_refl]; rfl
    · rw [if_neg h]
      cases hb : Nat.beq d i with
      | false => rfl
      | true => exact absurd (beq_true hb).symm h
  rw [get_set k i d v t (by omega) (by omega)]
  rw [e] at hj ⊢
  by_cases h' : i = d
  · subst h'; rw [if_pos rfl] at hj ⊢; rw [if_pos rfl]; exact hv hj
  · rw [if_neg h'] at hj ⊢; rw [if_neg h']; exact h i hi hj
def putF (d : Option Tmp) (v : SV) (f : Frm) : Frm := match d with
  | none => f
  | some d => (d, v) :: f
def putK (d : Option Tmp) (v : SV) (f : Frm) (K : Frm → Prop) : Prop := match d with
  | none => K f
  | some d => K ((d, v) :: f)
theorem putK_eq (d : Option Tmp) (v : SV) (f : Frm) (K : Frm → Prop) : putK d v f K = K (putF d v f) := by cases d <;> rfl
theorem FrameOK.putO {k n : Nat} {t : Fm Value k} {f : Frm} (hn : n ≤ pow8 k) (h : FrameOK k n t f) {d : Option Tmp} {p : SW Value k} (hp : cPut k n d = some p) {v : Value} {w : SV} (hv : isJ w = false → v = den w) : FrameOK k n (p.s v t) (putF d w f) := by
  cases d with
  | none => cases hp; exact h
  | some d =>
    have hp : (bif Nat.blt d n then some (setW k d) else none) = some p := hp
    cases hd : Nat.blt d n with
    | false => rw [hd] at hp; cases hp
    | true => rw [hd] at hp; cases hp; exact h.put hn (blt_true hd) hv
theorem okO_ev {k n : Nat} {x : Operand} (h : okO n x = true) : ∃ g, cEv k n x = some g := by
  cases x with
  | tmp t => have h : Nat.blt t n = true := h; exact ⟨getW k t, by show (bif Nat.blt t n then some (getW k t) else none) = _; rw [h]; rfl⟩
  | const v => have h : pureC 4 v = true := h; exact ⟨⟨fun _ => v⟩, by show (bif pureC 4 v then some (⟨fun _ => v⟩ : GW Value k) else none) = _; rw [h]; rfl⟩
  | func g => exact ⟨_, rfl⟩
  | global _ => cases h
theorem evS_ok {k n : Nat} {t : Fm Value k} {f : Frm} (hf : FrameOK k n t f) (x : Operand) (h : isJ (evS n f x) = false) : ∃ g, cEv k n x = some g ∧ g.g t = den (evS n f x) := by
  cases x with
  | tmp i =>
    unfold evS at h ⊢
    unfold cEv
    cases hb : Nat.blt i n with
    | false => simp only [hb, cond_false] at h; cases h
    | true =>
      simp only [hb, cond_true] at h ⊢
      exact ⟨_, rfl, hf i (blt_true hb) h⟩
  | const v =>
    unfold evS at h ⊢
    unfold cEv
    cases hb : pureC 4 v with
    | false => simp only [hb, cond_false] at h; cases h
    | true =>
      simp only [hb, cond_true] at h ⊢
      refine ⟨_, rfl, ?_⟩
      cases v <;> first | rfl | (show Value.agg _ = Value.agg ⟨dens (ofVs _)⟩; rw [dens_ofVs])
  | func g => exact ⟨_, rfl, rfl⟩
  | global _ => cases h
theorem evS_eq {k n : Nat} {t : Fm Value k} {f : Frm} (hf : FrameOK k n t f) {x : Operand} {w : SV} (e : evS n f x = w) (h : isJ w = false) : ∃ g, cEv k n x = some g ∧ g.g t = den w := by
  subst e; exact evS_ok hf x h
/-! memory -/
def slL (f : Nat → List SV) : Nat → List Value
  | 0 => []
  | n + 1 => slL f n ++ dens (f n)
theorem slL_length {f : Nat → List SV} {sz : Nat} : ∀ {n : Nat}, (∀ j, j < n → (f j).length = sz) → (slL f n).length = n * sz
  | 0, _ => by simp [slL]
  | n + 1, h => by rw [slL, List.length_append, slL_length fun j hj => h j (by omega), dens_length, h n (by omega), Nat.succ_mul]
theorem slL_get {f : Nat → List SV} {sz : Nat} : ∀ {n : Nat}, (∀ j, j < n → (f j).length = sz) → ∀ j q, j < n → q < sz → (slL f n)[j * sz + q]? = (dens (f j))[q]?
  | n + 1, h, j, q, hj, hq => by
    have hl := slL_length (n := n) fun j hj => h j (by omega)
    rw [slL]
    by_cases h' : j = n
    · subst h'
      rw [List.getElem?_append_right (by omega), hl, Nat.add_sub_cancel_left]
    · have hlt : j * sz + q < n * sz := by
        have : (j + 1) * sz ≤ n * sz := Nat.mul_le_mul_right _ (by omega)
        rw [Nat.succ_mul] at this; omega
      rw [List.getElem?_append_left (by omega)]
      exact slL_get (fun j hj => h j (by omega)) j q (by omega) hq
theorem slL_congr {f g : Nat → List SV} : ∀ {n : Nat}, (∀ j, j < n → f j = g j) → slL f n = slL g n
  | 0, _ => rfl
  | n + 1, h => by rw [slL, slL, slL_congr fun j hj => h j (by omega), h n (by omega)]
/-- a block whose elements' type is known, or does not matter -/
def TyN (s : St) (b c : Nat) : Prop := ∃ k n t e g, s.at b = some (.cells k n t e g) ∧ (g = false ∨ c = e + 1)
theorem TyN.fr {X : Nat → Prop} {s s' : St} (h : Fr X s s') {b c : Nat} (hA : TyN s b c) (hb : b < s.nx) (hx : ¬ X b) : TyN s' b c := by
  obtain ⟨k, n, t, e, g, h1, h2⟩ := hA
  exact ⟨k, n, t, e, g, (h.2.1 b hb hx).trans h1, h2⟩
theorem OwnE.ty {s : St} {b : Nat} {e : TypeId} {L : List Value} (h : OwnE s b e L) : TyN s b (e + 1) := by
  obtain ⟨_, _, k, n, t, g, h2, _⟩ := h
  exact ⟨k, n, t, e, g, h2, .inr rfl⟩
def RoOK (X Z : Nat → Prop) (s0 s : St) (a : Option Addr) (n c sz : Nat) (f : Nat → List SV) : Prop := (∀ j, j < n → (f j).length = sz) ∧ (n = 0 ∨ ∃ b p, a = some ⟨b, p, none⟩ ∧ AtN s b p (slL f n) ∧ (s0.nx ≤ b ∨ X b ∨ Z b) ∧ (c = 0 ∨ TyN s b c))
def EntOK (X Z : Nat → Prop) (s0 s : St) : Ent → Prop
  | .own b e l => OwnE s b e (dens l) ∧ (s0.nx ≤ b ∨ X b)
  | .ro a n c sz f => (∀ j, j < n → (f j).length = sz) ∧ (n = 0 ∨ ∃ b p, a = some ⟨b, p, none⟩ ∧ AtN s b p (slL f n) ∧ (s0.nx ≤ b ∨ X b ∨ Z b) ∧ (c = 0 ∨ TyN s b c))
  | .gr a n e sz f => (∀ j, j < n → (f j).length = sz) ∧ SlV e sz s (.slice a n n) (slL f n) ∧ ∀ b, slB (.slice a n n) b → (s0.nx ≤ b ∨ X b)
  | .lop b st pd n f ps x y d => ((b < s.nx ∧ s.ok b = true) ∧ b < 4398046511104 ∧ ∃ t : Fm Value (lvl n), s.at b = some (.loop st pd (lvl n) n t ps x y d) ∧ FrameOK (lvl n) n t f) ∧ (s0.nx ≤ b ∨ X b)
  | .dfr l => (∀ b, b ∈ l → (b < s.nx ∧ s.ok b = true) ∧ b < 4398046511104 ∧ s.at b = some .dfr ∧ (s0.nx ≤ b ∨ X b)) ∧ l.Nodup
  | .mp b kv f => MapF (fun x => den (kv x)) s b (fun x => (f x).map den) ∧ (s0.nx ≤ b ∨ X b)
  | .it b w p => ((b < s.nx ∧ s.ok b = true) ∧ b < 4398046511104 ∧ s.at b = some (.sit w p)) ∧ (s0.nx ≤ b ∨ X b)
  | .fam c sz l => ∀ x ∈ l, RoOK X Z s0 s x.1 x.2.1 c sz x.2.2.2
def fpE : Ent → Nat → Prop
  | .own b _ _ => fun x => x = b
  | .lop b _ _ _ _ _ _ _ _ => fun x => x = b
  | .dfr l => fun x => x ∈ l
  | .mp b _ _ => fun x => x = b
  | .it b _ _ => fun x => x = b
  | .ro _ _ _ _ _ => fun _ => False
  | .fam _ _ _ => fun _ => False
  | .gr a n _ _ _ => slB (.slice a n n)
def rdE : Ent → Nat → Prop
  | .ro a n _ _ _ => fun x => n ≠ 0 ∧ ∃ p, a = some ⟨x, p, none⟩
  | .fam _ _ l => fun x => ∃ r ∈ l, r.2.1 ≠ 0 ∧ ∃ p, r.1 = some ⟨x, p, none⟩
  | _ => fun _ => False
/-- two entries that do not touch each other -/
def apE (x y : Ent) : Prop := (∀ b, fpE x b → ¬ fpE y b) ∧ (∀ b, fpE x b → ¬ rdE y b) ∧ ∀ b, rdE x b → ¬ fpE y b
structure MemOK (X Z : Nat → Prop) (s0 : St) (R : Nat) (s : St) (m : Mem) : Prop where
  fr : Fr X s0 s
  nx : s.nx + R ≤ 4398046511104
  fl : s0.fl ≤ s0.nx
  ent : ∀ x ∈ m, EntOK X Z s0 s x.2
  dis : m.Pairwise fun x y => apE x.2 y.2
theorem getM_mem : ∀ {m : Mem} {i : Nat} {e : Ent}, getM m i = some e → ∃ j, (j, e) ∈ m
  | (j, v) :: r, i, e, h => by
    have h : (bif Nat.beq j i then some v else getM r i) = some e := h
    cases hb : Nat.beq j i with
    | true => rw [hb] at h; cases h; exact ⟨j, by simp⟩
    | false =>
      rw [hb] at h
      obtain ⟨q, hq⟩ := getM_mem h
      exact ⟨q, by simp [hq]⟩
theorem MemOK.get {X Z : Nat → Prop} {s0 : St} {R : Nat} {s : St} {m : Mem} (h : MemOK X Z s0 R s m) {i : Nat} {e : Ent} (hi : getM m i = some e) : EntOK X Z s0 s e := by
  obtain ⟨j, hj⟩ := getM_mem hi
  exact h.ent _ hj
/-- the cells of an element -/
theorem el_at {s : St} {b p n sz : Nat} {f : Nat → List SV} (hl : ∀ j, j < n → (f j).length = sz) (h : AtN s b p (slL f n)) {j : Nat} (hj : j < n) : AtN s b (p + j * sz) (dens (f j)) := by
  obtain ⟨h1, k, n', t, e, g, h2, h3, h4⟩ := h
  have hlen := slL_length hl
  have hjs : (j + 1) * sz ≤ n * sz := Nat.mul_le_mul_right _ (by omega)
  rw [Nat.succ_mul] at hjs
  have hd : (dens (f j)).length = sz := by rw [dens_length, hl j hj]
  refine ⟨h1, k, n', t, e, g, h2, by omega, ?_⟩
  rw [hd]
  refine List.ext_getElem? fun q => ?_
  by_cases hq : q < sz
  · rw [gets_get _ _ _ _ _ hq]
    have h5 := gets_get k t (slL f n).length p (j * sz + q) (by omega)
    rw [h4, slL_get hl j q hj hq] at h5
    rw [h5, Nat.add_assoc]
  · rw [List.getElem?_eq_none (by rw [gets_length]; omega), List.getElem?_eq_none (by omega)]
theorem gets_sub {k : Nat} {t : Fm Value k} {a : Nat} {L : List Value} (h : gets k t a L.length = L) {o n : Nat} (ho : o + n ≤ L.length) : gets k t (a + o) n = (L.drop o).take n := by
  refine List.ext_getElem? fun q => ?_
  by_cases hq : q < n
  · rw [gets_get _ _ _ _ _ hq, List.getElem?_take_of_lt hq, List.getElem?_drop]
    have := gets_get k t L.length a (o + q) (by omega)
    rw [h] at this
    rw [this, Nat.add_assoc]
  · rw [List.getElem?_eq_none (by rw [gets_length]; omega), List.getElem?_eq_none (by rw [List.length_take, List.length_drop]; omega)]
theorem AtN.sub {s : St} {b a : Nat} {L : List Value} (h : AtN s b a L) {o n : Nat} (ho : o + n ≤ L.length) : AtN s b (a + o) ((L.drop o).take n) := by
  obtain ⟨h1, k, n', t, e, g, h2, h3, h4⟩ := h
  have hl : ((L.drop o).take n).length = n := by rw [List.length_take, List.length_drop]; omega
  exact ⟨h1, k, n', t, e, g, h2, by omega, by rw [hl]; exact gets_sub h4 ho⟩
/-! the lists -/
theorem nthS_inv : ∀ {i : Nat} {l : List SV} {K : SV → Prop}, nthS i l K → ∃ v, l[i]? = some v ∧ K v
  | 0, x :: _, K, h => ⟨x, rfl, by unfold nthS at h; rw [forceS_eq] at h; exact h⟩
  | i + 1, _ :: l, K, h => by obtain ⟨v, h1, h2⟩ := nthS_inv (i := i) (l := l) h; exact ⟨v, by simpa using h1, h2⟩
  | 0, [], _, h => h.elim
  | _ + 1, [], _, h => h.elim
theorem takeS_inv : ∀ {n : Nat} {l : List SV} {K : List SV → Prop}, takeS n l K → n ≤ l.length ∧ K (l.take n)
  | 0, _, K, h => ⟨Nat.zero_le _, by simpa [takeS] using h⟩
  | n + 1, x :: l, K, h => by
    unfold takeS at h; rw [forceS_eq] at h
    obtain ⟨h1, h2⟩ := takeS_inv (n := n) (l := l) h
    exact ⟨by simp; exact h1, by simpa using h2⟩
  | _ + 1, [], _, h => h.elim
theorem dropS_inv : ∀ {n : Nat} {l : List SV} {K : List SV → Prop}, dropS n l K → n ≤ l.length ∧ K (l.drop n)
  | 0, _, K, h => ⟨Nat.zero_le _, by simpa [dropS] using h⟩
  | n + 1, x :: l, K, h => by
    obtain ⟨h1, h2⟩ := dropS_inv (n := n) (l := l) h
    exact ⟨by simp; exact h1, by simpa using h2⟩
  | _ + 1, [], _, h => h.elim
theorem cellS_inv {o n : Nat} {agg : Bool} {l : List SV} {K : SV → Prop} (h : cellS o n agg l K) : (agg = true ∧ o + n ≤ l.length ∧ K (.agg ((l.drop o).take n))) ∨ (agg = false ∧ ∃ v, l[o]? = some v ∧ K v) := by
  unfold cellS at h
  cases agg with
  | true =>
    left
    simp only [cond_true] at h
    obtain ⟨h1, h2⟩ := dropS_inv h
    obtain ⟨h3, h4⟩ := takeS_inv h2
    rw [List.length_drop] at h3
    exact ⟨rfl, by omega, h4⟩
  | false =>
    right
    simp only [cond_false] at h
    exact ⟨rfl, nthS_inv h⟩
theorem putS_inv : ∀ {o : Nat} {xs l : List SV} {K : List SV → Prop}, putS o xs l K → o + xs.length ≤ l.length ∧ K (l.take o ++ xs ++ l.drop (o + xs.length))
  | 0, [], l, K, h => ⟨by simp, by cases l <;> simpa [putS] using h⟩
  | 0, x :: xs, y :: l, K, h => by
    obtain ⟨h1, h2⟩ := putS_inv (o := 0) (xs := xs) (l := l) h
    refine ⟨by simp only [List.length_cons] at h1 ⊢; omega, ?_⟩
    have e : ([] : List SV) ++ x :: xs ++ (y :: l).drop (0 + (x :: xs).length) = x :: (l.take 0 ++ xs ++ l.drop (0 + xs.length)) := by simp
    rw [List.take_zero, e]; exact h2
  | o + 1, xs, y :: l, K, h => by
    have h : putS o xs l (fun r => K (y :: r)) := by cases xs <;> exact h
    obtain ⟨h1, h2⟩ := putS_inv h
    refine ⟨by simp only [List.length_cons]; omega, ?_⟩
    have e : (y :: l).take (o + 1) ++ xs ++ (y :: l).drop (o + 1 + xs.length) = y :: (l.take o ++ xs ++ l.drop (o + xs.length)) := by
      rw [show o + 1 + xs.length = (o + xs.length) + 1 by omega, List.drop_succ_cons]; simp
    rw [e]; exact h2
  | 0, _ :: _, [], _, h => h.elim
  | _ + 1, [], [], _, h => h.elim
  | _ + 1, _ :: _, [], _, h => h.elim
theorem forceV_eq : ∀ (l : List Value) (K : List SV → Prop), forceV l K = K (ofVs l)
  | [], K => rfl
  | x :: l, K => by unfold forceV; rw [forceS_eq, forceV_eq l]; rfl
theorem njS_inv {v : SV} {K : SV → Prop} (h : njS v K) : isJ v = false ∧ K v := by
  unfold njS at h
  cases hj : isJ v with
  | true => rw [hj] at h; exact h.elim
  | false => rw [hj] at h; rw [forceS_eq] at h; exact ⟨rfl, h⟩
theorem brS_inv {b : Bool} {x y : Prop} (h : brS b x y) : (b = true ∧ x) ∨ (b = false ∧ y) := by cases b; exact .inr ⟨rfl, h.f rfl⟩; exact .inl ⟨rfl, h.t rfl⟩
theorem splice_ok : ∀ {o : Nat} {xs l : List Value}, o + xs.length ≤ l.length → splice o xs l = some (l.take o ++ xs ++ l.drop (o + xs.length))
  | 0, [], l, _ => by cases l <;> simp [splice]
  | o + 1, [], l, h => by
    cases l <;> simp [splice]
  | 0, x :: xs, [], h => by simp at h
  | 0, x :: xs, y :: l, h => by
    have := splice_ok (o := 0) (xs := xs) (l := l) (by simp at h ⊢; omega)
    unfold splice; rw [this]; simp
  | o + 1, x :: xs, [], h => by simp at h
  | o + 1, x :: xs, y :: l, h => by
    have := splice_ok (o := o) (xs := x :: xs) (l := l) (by simp at h ⊢; omega)
    unfold splice; rw [this, show o + 1 + (x :: xs).length = (o + (x :: xs).length) + 1 by omega]; simp
end Go.Ab
namespace Go.Ab
open Go.RowKit
variable {P : Program} {k n : Nat} {t : Fm Value k} {f : Frm} {m : Mem} {X Z : Nat → Prop} {s0 s : St} {R : Nat} {o : Oper}
def isLd (P : Program) (o : Oper) : Bool := match o.op with
  | .load _ _ => true
  | .convert t _ _ => match P.underlying t with
    | some (.slice _) => true
    | _ => false
  | .call c => match c.callee with
    | .builtin b => (lenX P b c.args.toList c.argTypes.toList).isSome
    | _ => false
  | .slice _ _ _ _ _ => true
  | .lookup _ _ _ _ => true
  | _ => false
/-- what an operation comes to -/
def VOK (P : Program) (k n : Nat) (t : Fm Value k) (s : St) (o : Oper) (v : SV) : Prop :=
  (∃ c, cOper P k n o = .sil c ∧ ∀ K', c.m t K' = K' (den v)) ∨ (isLd P o = true ∧ ∃ c, cOper P k n o = .rd c ∧ ∀ K', c.m t s K' = K' (den v))
theorem el_add (K' : Value → Bool) (i b p sz j r d : Nat) : (asPtr (den (.el i b p sz j r)) fun b o => K' (ptr b (Nat.add o d))) = K' (den (.el i b p sz j (Nat.add r d))) := by
  show K' (ptr b (p + (j * sz + r) + d)) = K' (ptr b (p + (j * sz + (r + d))))
  rw [Nat.add_assoc, Nat.add_assoc]
theorem own_at (hm : MemOK X Z s0 R s m) {i b : Nat} {e : TypeId} {l : List SV} (hi : getM m i = some (.own b e l)) : AtN s b 0 (dens l) := (hm.get hi).1.own.at
theorem at_cell {b a : Nat} {l : List SV} (h : AtN s b a (dens l)) {o z : Nat} {agg : Bool} {K : SV → Prop} (hc : cellS o z agg l K) :
    ∃ v, K v ∧ ((agg = true ∧ ∀ K' : Value → Bool, ldN s b (a + o) z (fun l => K' (.agg ⟨l⟩)) = K' (den v)) ∨ (agg = false ∧ ∀ K' : Value → Bool, ld1 s b (a + o) K' = K' (den v))) := by
  rcases cellS_inv hc with ⟨ha, h1, hK⟩ | ⟨ha, v, h1, hK⟩
  · refine ⟨_, hK, .inl ⟨ha, fun K' => ?_⟩⟩
    have h2 := h.sub (o := o) (n := z) (by rw [dens_length]; exact h1)
    have hl : ((dens l |>.drop o).take z).length = z := by rw [List.length_take, List.length_drop, dens_length]; omega
    rw [h2.ldN rfl hl.symm]
    show K' (.agg ⟨_⟩) = K' (.agg ⟨dens _⟩)
    rw [dens_take, dens_drop]
  · refine ⟨v, hK, .inr ⟨ha, fun K' => ?_⟩⟩
    exact h.ld1 (j := o) (V := den v) (by rw [dens_get, h1]; rfl) rfl K'
theorem hand_at (hm : MemOK X Z s0 R s m) {i n : Nat} {a : Option Addr} {Q : Prop} (h : handS m i a n Q) : Q ∧ (0 < n → ∃ b p, a = some ⟨b, p, none⟩) := by
  unfold handS at h
  cases hi : getM m i with
  | none => rw [hi] at h; exact h.elim
  | some e =>
    rw [hi] at h
    have he := hm.get hi
    cases e with
    | own _ _ _ => exact h.elim
    | lop _ _ _ _ _ _ _ _ _ => exact h.elim
    | dfr _ => exact h.elim
    | mp _ _ _ => exact h.elim
    | it _ _ _ => exact h.elim
    | fam _ _ _ => exact h.elim
    | ro a' n' c sz g =>
      obtain ⟨rfl, rfl, hQ⟩ := h
      refine ⟨hQ, fun h0 => ?_⟩
      rcases he.2 with h1 | ⟨b, p, h1, _⟩
      · omega
      · exact ⟨b, p, h1⟩
    | gr a' n' e sz g =>
      obtain ⟨rfl, rfl, hQ⟩ := h
      refine ⟨hQ, fun h0 => ?_⟩
      rcases he.2.1 with ⟨h1, h2⟩ | ⟨b, n', h1, _⟩
      · cases h1; omega
      · cases h1; exact ⟨b, 0, rfl⟩
theorem el_cells (hm : MemOK X Z s0 R s m) {i b p sz j : Nat} {e : Ent} (hi : getM m i = some e) {Q : (Nat → List SV) → Prop}
    (h : match e with
      | .ro a' n' _ sz' g => eqA (some ⟨b, p, none⟩) a' (eqS sz sz' (ltS j n' (Q g)))
      | .gr a' n' _ sz' g => eqA (some ⟨b, p, none⟩) a' (eqS sz sz' (ltS j n' (Q g)))
      | _ => False) : ∃ g, Q g ∧ AtN s b (p + j * sz) (dens (g j)) := by
  have he := hm.get hi
  cases e with
  | own _ _ _ => exact h.elim
  | lop _ _ _ _ _ _ _ _ _ => exact h.elim
  | dfr _ => exact h.elim
  | mp _ _ _ => exact h.elim
  | it _ _ _ => exact h.elim
  | fam _ _ _ => exact h.elim
  | ro a' n' c sz' g =>
    obtain ⟨rfl, rfl, h⟩ := h
    obtain ⟨hj, hQ⟩ := ltS_inv h
    refine ⟨g, hQ, ?_⟩
    rcases he.2 with h1 | ⟨b', p', h1, h2, h3⟩
    · omega
    · cases h1
      exact el_at he.1 h2 hj
  | gr a' n' e sz' g =>
    obtain ⟨rfl, rfl, h⟩ := h
    obtain ⟨hj, hQ⟩ := ltS_inv h
    refine ⟨g, hQ, ?_⟩
    rcases he.2.1 with ⟨h1, h2⟩ | ⟨b', n', h1, h2, h3⟩
    · cases h1
    · cases h1
      exact el_at he.1 h2.own.at hj
theorem ldS_ok (hm : MemOK X Z s0 R s m) {w : SV} {z : Nat} {agg : Bool} {K : SV → Prop} (h : ldS m w z agg K) :
    ∃ b a v, den w = ptr b a ∧ K v ∧ ((agg = true ∧ ∀ K' : Value → Bool, ldN s b a z (fun l => K' (.agg ⟨l⟩)) = K' (den v)) ∨ (agg = false ∧ ∀ K' : Value → Bool, ld1 s b a K' = K' (den v))) := by
  unfold ldS at h
  cases w <;> (try exact h.elim)
  · rename_i i b o
    simp only at h
    cases hi : getM m i with
    | none => rw [hi] at h; exact h.elim
    | some e =>
      rw [hi] at h
      cases e <;> (try exact h.elim)
      rename_i b' e l
      obtain ⟨rfl, h⟩ := h
      obtain ⟨v, hK, hv⟩ := at_cell (own_at hm hi) h
      rw [Nat.zero_add] at hv
      exact ⟨b, o, v, rfl, hK, hv⟩
  · rename_i i b p sz j o
    simp only at h
    cases hi : getM m i with
    | none => rw [hi] at h; exact h.elim
    | some e =>
      rw [hi] at h
      obtain ⟨g, hQ, hA⟩ := el_cells (Q := fun g => cellS o z agg (g j) K) hm hi (by cases e <;> exact h)
      obtain ⟨v, hK, hv⟩ := at_cell hA hQ
      refine ⟨b, _, v, rfl, hK, ?_⟩
      have e1 : Nat.add p (Nat.add (Nat.mul j sz) o) = p + j * sz + o := by show p + (j * sz + o) = _; omega
      rw [e1]; exact hv
theorem load_ok (hf : FrameOK k n t f) (hm : MemOK X Z s0 R s m) {u : TypeId} {x : Operand} (hop : o.op = .load u x) {K : SV → Prop} (h : stepV P n m f o K) : ∃ v, K v ∧ VOK P k n t s o v := by
  unfold stepV at h
  rw [hop] at h
  simp only at h
  cases hu : P.underlying u with
  | none => simp only [hu] at h
  | some d =>
    cases hz : sizeT P u with
    | none => simp only [hu, hz] at h
    | some z =>
      simp only [hu, hz] at h
      obtain ⟨b, a, v, hd, hK, hv⟩ := ldS_ok hm h
      have hj : isJ (evS n f x) = false := by
        cases hx : evS n f x <;> first | rfl | (rw [hx] at hd; cases hd)
      obtain ⟨g, hg, hgt⟩ := evS_ok hf x hj
      refine ⟨v, hK, .inr ⟨by unfold isLd; rw [hop], ?_⟩⟩
      unfold cOper
      rw [hop]
      simp only [hg]
      unfold oLoad
      simp only [hu, hz]
      rcases hv with ⟨ha, hv⟩ | ⟨ha, hv⟩
      · rw [ha]
        refine ⟨_, rfl, fun K' => ?_⟩
        simp only [hgt, hd]
        exact hv K'
      · rw [ha]
        refine ⟨_, rfl, fun K' => ?_⟩
        simp only [hgt, hd]
        exact hv K'
theorem move_ok (hf : FrameOK k n t f) {x : Operand} (hop : o.op = .move x ∨ o.op = .assign x) {K : SV → Prop} (h : stepV P n m f o K) : ∃ v, K v ∧ VOK P k n t s o v := by
  have h : njS (evS n f x) K := by
    unfold stepV at h
    rcases hop with hop | hop <;> rw [hop] at h <;> exact h
  obtain ⟨hj, hK⟩ := njS_inv h
  obtain ⟨g, hg, hgt⟩ := evS_ok hf x hj
  refine ⟨_, hK, .inl ⟨⟨fun f K => K (g.g f)⟩, ?_, fun K' => by show K' (g.g t) = _; rw [hgt]⟩⟩
  unfold cOper
  rcases hop with hop | hop <;> rw [hop] <;> simp only [hg]
theorem pick_ok (hf : FrameOK k n t f) {c x y : Operand} (hop : o.op = .pick c x y) {K : SV → Prop} (h : stepV P n m f o K) : ∃ v, K v ∧ VOK P k n t s o v := by
  unfold stepV at h
  rw [hop] at h
  simp only at h
  cases hxy : (okO n x && okO n y) with
  | false => rw [hxy] at h; exact h.elim
  | true =>
    rw [hxy] at h
    simp only [cond_true] at h
    obtain ⟨hx, hy⟩ := and_true hxy
    obtain ⟨gx, hgx⟩ := okO_ev (k := k) hx
    obtain ⟨gy, hgy⟩ := okO_ev (k := k) hy
    cases hc : evS n f c <;> rw [hc] at h <;> (try exact h.elim)
    rename_i b
    obtain ⟨gc, hgc, hct⟩ := evS_eq hf hc rfl
    have hco : cOper P k n o = .sil ⟨fun f K => asBool (gc.g f) fun b => bif b then K (gx.g f) else K (gy.g f)⟩ := by
      unfold cOper; rw [hop]; simp only [hgc, hgx, hgy]
    have h' := brS_inv h
    clear h
    rcases h' with ⟨rfl, h⟩ | ⟨rfl, h⟩
    · obtain ⟨hj, hK⟩ := njS_inv h
      obtain ⟨g, hg, hgt⟩ := evS_ok hf x hj
      rw [hgx] at hg; cases hg
      refine ⟨_, hK, .inl ⟨_, hco, fun K' => ?_⟩⟩
      simp only [hct]
      show K' (gx.g t) = _
      rw [hgt]
    · obtain ⟨hj, hK⟩ := njS_inv h
      obtain ⟨g, hg, hgt⟩ := evS_ok hf y hj
      rw [hgy] at hg; cases hg
      refine ⟨_, hK, .inl ⟨_, hco, fun K' => ?_⟩⟩
      simp only [hct]
      show K' (gy.g t) = _
      rw [hgt]
theorem nil_ok (hf : FrameOK k n t f) {x : Operand} (hop : o.op = .nilCheck x) {K : SV → Prop} (h : stepV P n m f o K) : ∃ v, K v ∧ VOK P k n t s o v := by
  unfold stepV at h
  rw [hop] at h
  simp only at h
  cases hx : evS n f x <;> rw [hx] at h <;> (try exact h.elim)
  all_goals
    obtain ⟨g, hg, hgt⟩ := evS_eq hf hx rfl
    refine ⟨_, h, .inl ⟨_, (by unfold cOper; rw [hop]; simp only [hg]; rfl), fun K' => ?_⟩⟩
    simp only [hgt]
    rfl
theorem slL_bytes {g : Nat → List SV} {ns : Nat → Int} : ∀ {n : Nat}, (∀ j, j < n → g j = [.int .u8 (ns j)]) → slL g n = ((List.range n).map ns).map (Value.int .u8)
  | 0, _ => rfl
  | q + 1, h => by
    rw [slL, slL_bytes fun j hj => h j (by omega), h q (by omega), List.range_succ, List.map_append, List.map_append]
    rfl
theorem conv_ok (hf : FrameOK k n t f) (hm : MemOK X Z s0 R s m) {u w : TypeId} {x : Operand} (hop : o.op = .convert u w x) {K : SV → Prop} (h : stepV P n m f o K) : ∃ v, K v ∧ VOK P k n t s o v := by
  unfold stepV at h
  rw [hop] at h
  simp only at h
  split at h
  · rename_i i j hu hw
    cases hx : evS n f x <;> rw [hx] at h <;> (try exact h.elim)
    obtain ⟨g, hg, hgt⟩ := evS_eq hf hx rfl
    refine ⟨_, h, .inl ⟨_, (by unfold cOper; rw [hop]; simp only [hg, hu, hw]; rfl), fun K' => ?_⟩⟩
    simp only [hgt]
    rfl
  · rename_i e hu hw
    split at h <;> (try exact h.elim)
    rename_i he8
    have hint2 : ∀ l : List Int, intsU8 (l.map (Value.int .u8)) = some l := fun l => by
      induction l with
      | nil => rfl
      | cons x l ih => simp only [List.map_cons, intsU8, ih]
    unfold bySS at h
    cases hx : evS n f x <;> rw [hx] at h <;> (try exact h.elim)
    · rename_i i b o' len c
      simp only at h
      obtain ⟨g, hg, hgt⟩ := evS_eq hf hx rfl
      cases hi : getM m i with
      | none => rw [hi] at h; exact h.elim
      | some en =>
        rw [hi] at h
        cases en <;> (try exact h.elim)
        rename_i b' e' l
        obtain ⟨rfl, h⟩ := h
        obtain ⟨hlt, h⟩ := ltS_inv h
        have hlt : o' + len < l.length + 1 := hlt
        obtain ⟨ns, hns, hK⟩ := h.ex
        refine ⟨_, hK, .inr ⟨by unfold isLd; rw [hop]; simp only [hu], _, (by unfold cOper; rw [hop]; simp only [hg, hu, hw, he8]; unfold oBytesStr; rfl), fun K' => ?_⟩⟩
        simp only [hgt]
        show (ldN s b o' len fun l => match intsU8 l with
          | some ns => K' (.string ⟨⟨bytesU8 ns⟩⟩)
          | none => false) = _
        have hA := (hm.get hi).1.own.at.sub (o := o') (n := len) (by rw [dens_length]; omega)
        rw [← dens_drop, ← dens_take, Nat.zero_add] at hA
        rw [hA.ldN rfl (by rw [dens_length, List.length_take, List.length_drop]; omega), hns, hint2]
        rfl
    rename_i i a len c
    simp only at h
    obtain ⟨g, hg, hgt⟩ := evS_eq hf hx rfl
    cases hi : getM m i with
    | none => rw [hi] at h; exact h.elim
    | some en =>
      rw [hi] at h
      cases en <;> (try exact h.elim)
      rename_i a' n' e' sz gg
      obtain ⟨rfl, rfl, rfl, h⟩ := h
      obtain ⟨ns, hns, hK⟩ := h.ex
      obtain ⟨hl1, hsl, _⟩ := hm.get hi
      have hL := slL_bytes hns
      have hint : intsU8 (slL gg len) = some ((List.range len).map ns) := by
        rw [hL]
        generalize (List.range len).map ns = l
        induction l with
        | nil => rfl
        | cons x l ih => simp only [List.map_cons, intsU8, ih]
      refine ⟨_, hK, .inr ⟨by unfold isLd; rw [hop]; simp only [hu], _, (by unfold cOper; rw [hop]; simp only [hg, hu, hw, he8]; unfold oBytesStr; rfl), fun K' => ?_⟩⟩
      simp only [hgt]
      rcases hsl with ⟨h1, h2⟩ | ⟨b, n2, h1, h2, h3⟩
      · injection h1 with h1a h1b h1c
        subst h1a h1b
        rfl
      · injection h1 with h1a h1b h1c
        subst h1a h1b
        show (ldN s b 0 len fun l => match intsU8 l with
          | some ns => K' (.string ⟨⟨bytesU8 ns⟩⟩)
          | none => false) = _
        have hA : AtN s b 0 (slL gg len) := h2.own.at
        rw [hA.ldN rfl (by rw [h3]; omega), hint]
        rfl
  · exact h.elim
theorem not_ok (hf : FrameOK k n t f) {op : UnOp} {u : TypeId} {x : Operand} (hop : o.op = .unOp op u x) {K : SV → Prop} (h : stepV P n m f o K) : ∃ v, K v ∧ VOK P k n t s o v := by
  unfold stepV at h
  rw [hop] at h
  simp only at h
  cases op <;> (try exact h.elim) <;> simp only at h
  · cases hx : evS n f x <;> rw [hx] at h <;> (try exact h.elim)
    obtain ⟨g, hg, hgt⟩ := evS_eq hf hx rfl
    refine ⟨_, h, .inl ⟨_, (by unfold cOper; rw [hop]; simp only [hg]; rfl), fun K' => ?_⟩⟩
    simp only [hgt]
    first
    | rfl
    | (rename_i a q
       show (bif pureC 4 (Value.int a q) then (match some (Value.int a (a.wrap (0 - q))) with | some v => bif pureC 4 v then K' v else false | none => false) else false) = K' (.int a (wr a (Int.sub 0 q)))
       rw [wr_eq]; rfl)
  · cases hx : evS n f x <;> rw [hx] at h <;> (try exact h.elim)
    obtain ⟨g, hg, hgt⟩ := evS_eq hf hx rfl
    refine ⟨_, h, .inl ⟨_, (by unfold cOper; rw [hop]; simp only [hg]; rfl), fun K' => ?_⟩⟩
    simp only [hgt]
    first
    | rfl
    | (rename_i a q
       show (bif pureC 4 (Value.int a q) then (match some (Value.int a (a.wrap (0 - q))) with | some v => bif pureC 4 v then K' v else false | none => false) else false) = K' (.int a (wr a (Int.sub 0 q)))
       rw [wr_eq]; rfl)
theorem ext_ok (hf : FrameOK k n t f) {x : Operand} {i : Nat} (hop : o.op = .extract x i) {K : SV → Prop} (h : stepV P n m f o K) : ∃ v, K v ∧ VOK P k n t s o v := by
  unfold stepV at h
  rw [hop] at h
  simp only at h
  cases hx : evS n f x <;> rw [hx] at h <;> (try exact h.elim)
  rename_i l
  obtain ⟨g, hg, hgt⟩ := evS_eq hf hx rfl
  obtain ⟨v, hv, hK⟩ := nthS_inv h
  refine ⟨_, hK, .inl ⟨_, (by unfold cOper; rw [hop]; simp only [hg]; rfl), fun K' => ?_⟩⟩
  simp only [hgt]
  show (match (dens l)[i]? with | some v => K' v | none => false) = _
  rw [dens_get, hv]
  rfl
theorem fdA_ok (hf : FrameOK k n t f) {u : TypeId} {x : Operand} {i : Nat} (hop : o.op = .fieldAddr u x i) {K : SV → Prop} (h : stepV P n m f o K) : ∃ v, K v ∧ VOK P k n t s o v := by
  unfold stepV at h
  rw [hop] at h
  simp only at h
  unfold fdA at h
  split at h <;> (try exact h.elim)
  rename_i fs hu
  split at h <;> (try exact h.elim)
  rename_i fd hfd
  split at h <;> (try exact h.elim)
  rename_i z hz
  cases h0 : Nat.blt 0 z with
  | false => rw [h0] at h; exact h.elim
  | true =>
    rw [h0] at h
    simp only [cond_true] at h
    cases hx : evS n f x <;> rw [hx] at h <;> (try exact h.elim)
    · obtain ⟨g, hg, hgt⟩ := evS_eq hf hx rfl
      refine ⟨_, h, .inl ⟨⟨fun f K => asPtr (g.g f) fun b o => K (ptr b (Nat.add o fd.offset))⟩, by unfold cOper; rw [hop]; simp only [hg]; unfold oFieldAddr; simp only [hu, hfd, hz, h0, cond_true], fun K' => ?_⟩⟩
      simp only [hgt]
      rfl
    · obtain ⟨g, hg, hgt⟩ := evS_eq hf hx rfl
      refine ⟨_, h, .inl ⟨⟨fun f K => asPtr (g.g f) fun b o => K (ptr b (Nat.add o fd.offset))⟩, by unfold cOper; rw [hop]; simp only [hg]; unfold oFieldAddr; simp only [hu, hfd, hz, h0, cond_true], fun K' => ?_⟩⟩
      simp only [hgt]
      exact el_add K' _ _ _ _ _ _ _
theorem partS_ok {u : TypeId} {w : SV} {off : Nat} {K : SV → Prop} (h : partS P u w off K) : ∃ l v, w = .agg l ∧ K v ∧ (cPart P u).p (dens l) off = some (den v) := by
  unfold partS at h
  split at h <;> (try exact h.elim)
  rename_i d z hu hz
  split at h <;> (try exact h.elim)
  rename_i l
  have htk : ∀ (z : Nat) (l : List Value), z ≤ l.length → takeL z l = some (l.take z) := by
    intro z
    induction z with
    | zero => intro l _; cases l <;> rfl
    | succ z ih => intro l hl; cases l with
      | nil => simp at hl
      | cons x l =>
        show (match takeL z l with | some r => some (x :: r) | none => none) = _
        rw [ih l (by simpa using hl)]; rfl
  rcases cellS_inv h with ⟨ha, h1, hK⟩ | ⟨ha, v, h1, hK⟩
  · refine ⟨l, _, rfl, hK, ?_⟩
    unfold cPart
    simp only [hu, hz, ha, cond_true]
    rw [htk z _ (by rw [List.length_drop, dens_length]; omega)]
    show some (Value.agg ⟨_⟩) = some (.agg ⟨dens _⟩)
    rw [dens_take, dens_drop]
  · refine ⟨l, v, rfl, hK, ?_⟩
    unfold cPart
    simp only [hu, hz, ha, cond_false]
    rw [dens_get, h1]; rfl
theorem fdS_ok (hf : FrameOK k n t f) {u : TypeId} {x : Operand} {i : Nat} (hop : o.op = .field u x i) {K : SV → Prop} (h : stepV P n m f o K) : ∃ v, K v ∧ VOK P k n t s o v := by
  unfold stepV at h
  rw [hop] at h
  simp only at h
  unfold fdS at h
  split at h <;> (try exact h.elim)
  rename_i fs hu
  split at h <;> (try exact h.elim)
  rename_i fd hfd
  obtain ⟨l, v, hx, hK, hp⟩ := partS_ok h
  obtain ⟨g, hg, hgt⟩ := evS_eq hf hx rfl
  refine ⟨v, hK, .inl ⟨⟨fun f K => partOf (cPart P fd.type) (g.g f) fd.offset K⟩, by unfold cOper; rw [hop]; simp only [hg]; unfold oField; simp only [hu, hfd], fun K' => ?_⟩⟩
  simp only [hgt]
  show (match (cPart P fd.type).p (dens l) fd.offset with | some v => K' v | none => false) = _
  rw [hp]
theorem asNat_of {g : GW Value k} {a : IntKind} {q : Nat} (h : g.g t = .int a (.ofNat q)) (K' : Nat → Bool) : asNat (g.g t) K' = K' q := by rw [h]; rfl
theorem ixV_ok (hf : FrameOK k n t f) {u : TypeId} {x y : Operand} (hop : o.op = .index u x y) {K : SV → Prop} (h : stepV P n m f o K) : ∃ v, K v ∧ VOK P k n t s o v := by
  unfold stepV at h
  rw [hop] at h
  simp only at h
  unfold ixV at h
  cases hy : evS n f y <;> rw [hy] at h <;> (try exact h.elim)
  rename_i a j
  simp only at h
  split at h <;> (try exact h.elim)
  rotate_left
  · rename_i hu
    cases hx : evS n f x <;> rw [hx] at h <;> (try exact h.elim)
    rename_i v
    simp only at h
    cases v <;> (try exact h.elim)
    rename_i w
    obtain ⟨g, hg, hgt⟩ := evS_eq hf hx rfl
    obtain ⟨gy, hgy, hyt⟩ := evS_eq hf hy rfl
    obtain ⟨q, rfl, hq, h⟩ := ixS_inv h
    unfold chS at h
    cases hc : w.data.toList[q]? with
    | none => rw [hc] at h; exact h.elim
    | some c =>
      rw [hc] at h
      refine ⟨_, h, .inl ⟨_, (by unfold cOper; rw [hop]; simp only [hg, hgy]; unfold oIndex; simp only [hu]; rfl), fun K' => ?_⟩⟩
      simp only [asNat_of hyt, hgt]
      show (match w.data.toList[q]? with
        | some c => K' (.int .u8 (.ofNat c.toNat))
        | none => false) = _
      rw [hc]
      rfl
  rename_i len e hu
  split at h <;> (try exact h.elim)
  rename_i z hz
  obtain ⟨q, rfl, hq, h⟩ := ixS_inv h
  obtain ⟨l, v, hx, hK, hp⟩ := partS_ok h
  obtain ⟨g, hg, hgt⟩ := evS_eq hf hx rfl
  obtain ⟨gy, hgy, hyt⟩ := evS_eq hf hy rfl
  refine ⟨v, hK, .inl ⟨⟨fun f K => asNat (gy.g f) fun j => bif Nat.blt j len then partOf (cPart P e) (g.g f) (Nat.mul j z) K else false⟩, by unfold cOper; rw [hop]; simp only [hg, hgy]; unfold oIndex; simp only [hu, hz], fun K' => ?_⟩⟩
  simp only [asNat_of hyt, hgt, blt_of hq, cond_true]
  show (match (cPart P e).p (dens l) _ with | some v => K' v | none => false) = _
  rw [hp]
theorem ixA_ok (hf : FrameOK k n t f) (hm : MemOK X Z s0 R s m) {u : TypeId} {x y : Operand} (hop : o.op = .indexAddr u x y) {K : SV → Prop} (h : stepV P n m f o K) : ∃ v, K v ∧ VOK P k n t s o v := by
  unfold stepV at h
  rw [hop] at h
  simp only at h
  unfold ixA at h
  cases hy : evS n f y <;> rw [hy] at h <;> (try exact h.elim)
  rename_i a j
  simp only at h
  obtain ⟨gy, hgy, hyt⟩ := evS_eq hf hy rfl
  split at h <;> (try exact h.elim)
  · rename_i len e hu
    split at h <;> (try exact h.elim)
    rename_i z hz
    cases hx : evS n f x <;> rw [hx] at h <;> (try exact h.elim)
    all_goals
      obtain ⟨g, hg, hgt⟩ := evS_eq hf hx rfl
      obtain ⟨q, rfl, hq, h⟩ := ixS_inv h
      refine ⟨_, h, .inl ⟨⟨fun f K => asNat (gy.g f) fun j => bif Nat.blt j len then (asPtr (g.g f) fun b o => K (ptr b (Nat.add o (Nat.mul j z)))) else false⟩, by unfold cOper; rw [hop]; simp only [hg, hgy]; unfold oIndexAddr; simp only [hu, hz], fun K' => ?_⟩⟩
      simp only [asNat_of hyt, hgt, blt_of hq, cond_true]
      first
      | rfl
      | exact el_add K' _ _ _ _ _ _ _
  · rename_i e hu
    split at h <;> (try exact h.elim)
    rename_i z hz
    have hco : ∀ g : GW Value k, cEv k n x = some g → cOper P k n o = .sil ⟨fun f K => asNat (gy.g f) fun j => asSlice (g.g f) (fun _ _ => false) fun b o len _ => bif Nat.blt j len then K (ptr b (Nat.add o (Nat.mul j z))) else false⟩ := by
      intro g hg
      unfold cOper; rw [hop]; simp only [hg, hgy]; unfold oIndexAddr; simp only [hu, hz]
    cases hx : evS n f x <;> rw [hx] at h <;> (try exact h.elim)
    · obtain ⟨g, hg, hgt⟩ := evS_eq hf hx rfl
      obtain ⟨q, rfl, hq, h⟩ := ixS_inv h
      refine ⟨_, h, .inl ⟨_, hco g hg, fun K' => ?_⟩⟩
      simp only [asNat_of hyt, hgt]
      rename_i i b p len c _
      show (bif Nat.blt q len then _ else false) = _
      rw [blt_of hq]; rfl
    · obtain ⟨g, hg, hgt⟩ := evS_eq hf hx rfl
      rename_i i a len c
      obtain ⟨h, hsome⟩ := hand_at hm h
      obtain ⟨q, rfl, hq, h⟩ := ixS_inv h
      obtain ⟨b, p, rfl⟩ := hsome (by omega)
      refine ⟨_, h b p rfl, .inl ⟨_, hco g hg, fun K' => ?_⟩⟩
      simp only [asNat_of hyt, hgt]
      show (bif Nat.blt q len then _ else false) = _
      rw [blt_of hq]; rfl
    · obtain ⟨g, hg, hgt⟩ := evS_eq hf hx rfl
      rename_i i b p lo sz len c
      obtain ⟨rfl, h⟩ := h
      obtain ⟨q, rfl, hq, h⟩ := ixS_inv h
      obtain ⟨hc, h⟩ := ltS_inv h
      refine ⟨_, h, .inl ⟨_, hco g hg, fun K' => ?_⟩⟩
      simp only [asNat_of hyt, hgt]
      show (bif Nat.blt q len then K' (ptr b (Nat.add (bif Nat.beq c 0 then p else Nat.add p (Nat.mul lo sz)) (Nat.mul q sz))) else false) = K' (ptr b (Nat.add p (Nat.add (Nat.mul (Nat.add lo q) sz) 0)))
      have hc0 : Nat.beq c 0 = false := by
        cases hb2 : Nat.beq c 0 with
        | false => rfl
        | true => have := beq_true hb2; omega
      rw [blt_of hq, hc0]
      show K' (ptr b (p + lo * sz + q * sz)) = K' (ptr b (p + ((lo + q) * sz + 0)))
      rw [Nat.add_mul, Nat.add_zero, Nat.add_assoc]
theorem bdS_ok (hf : FrameOK k n t f) {top dflt : Nat} {x : Option Operand} {K : Nat → Prop} (hd : dflt ≤ top) (h : bdS n f top dflt x K) : ∃ g q, cOpt k n x = some g ∧ (∀ K' : Nat → Bool, bnd t top dflt g K' = K' q) ∧ q ≤ top ∧ K q := by
  cases x with
  | none => exact ⟨none, dflt, rfl, fun _ => rfl, hd, h⟩
  | some y =>
    have h : (match evS n f y with | .int _ j => ixS j (Nat.add top 1) K | _ => False) := h
    cases hy : evS n f y <;> rw [hy] at h <;> (try exact h.elim)
    rename_i a j
    obtain ⟨g, hg, hgt⟩ := evS_eq hf hy rfl
    obtain ⟨q, rfl, hq, h⟩ := ixS_inv h
    have hq : q < top + 1 := hq
    refine ⟨some g, q, by unfold cOpt; simp only [hg], fun K' => ?_, by omega, h⟩
    show (asNat (g.g t) fun i => bif Nat.ble i top then K' i else false) = K' q
    rw [asNat_of hgt, Nat.ble_eq_true_of_le (show q ≤ top by omega)]
    rfl
theorem bdS_some (hf : FrameOK k n t f) {top dflt : Nat} {y : Operand} {K : Nat → Prop} (h : bdS n f top dflt (some y) K) : ∃ g q, cOpt k n (some y) = some (some g) ∧ (∀ (d : Nat) (K' : Nat → Bool), bnd t top d (some g) K' = K' q) ∧ q ≤ top ∧ K q := by
  have h : (match evS n f y with | .int _ j => ixS j (Nat.add top 1) K | _ => False) := h
  cases hy : evS n f y <;> rw [hy] at h <;> (try exact h.elim)
  rename_i a j
  obtain ⟨g, hg, hgt⟩ := evS_eq hf hy rfl
  obtain ⟨q, rfl, hq, h⟩ := ixS_inv h
  have hq : q < top + 1 := hq
  refine ⟨g, q, by unfold cOpt; simp only [hg], fun d K' => ?_, by omega, h⟩
  show (asNat (g.g t) fun i => bif Nat.ble i top then K' i else false) = K' q
  rw [asNat_of hgt, Nat.ble_eq_true_of_le (show q ≤ top by omega)]
  rfl
theorem slcAt_sb {b p z l h c : Nat} (hl : l ≤ c) (i : Nat) : slcAt b p z c l h = den (.sb i b p l z (Nat.sub h l) (Nat.sub c l)) := by
  unfold slcAt
  show (bif Nat.beq c l then _ else _) = slc b (bif Nat.beq (c - l) 0 then p else Nat.add p (Nat.mul l z)) (Nat.sub h l) (Nat.sub c l)
  cases hb : Nat.beq c l with
  | true =>
    have := beq_true hb
    subst this
    rw [Nat.sub_self]; rfl
  | false =>
    have hne : c ≠ l := fun e => by subst e; rw [Nat.beq_refl] at hb; cases hb
    have : Nat.beq (c - l) 0 = false := by
      cases hb2 : Nat.beq (c - l) 0 with
      | false => rfl
      | true => have := beq_true hb2; omega
    rw [this]; rfl
theorem slcAt_0 {b p z h c : Nat} (i : Nat) : slcAt b p z c 0 h = den (.sl i (some ⟨b, p, none⟩) h c) := by
  unfold slcAt
  show _ = Value.slice (some ⟨b, p, none⟩) h c
  cases hb : Nat.beq c 0 with
  | true => rfl
  | false =>
    show slc b (p + 0 * z) (h - 0) (c - 0) = _
    rw [Nat.zero_mul]; rfl
theorem sxR_ok (hf : FrameOK k n t f) {i b p z len c : Nat} {lo hi : Option Operand} {K : SV → Prop} (hle : len ≤ c) (h : sxR n f i (some ⟨b, p, none⟩) z len c lo hi K) :
    ∃ gh gl w, cOpt k n hi = some gh ∧ cOpt k n lo = some gl ∧ K w ∧ ∀ K' : Value → Bool, (bnd t c len gh fun h => bnd t h 0 gl fun l => K' (slcAt b p z c l h)) = K' (den w) := by
  obtain ⟨gh, qh, k1, k2, k3, h⟩ := bdS_ok hf hle h
  cases lo with
  | none =>
    refine ⟨gh, none, _, k1, rfl, h, fun K' => ?_⟩
    rw [k2]
    show K' (slcAt b p z c 0 qh) = _
    rw [slcAt_0 i]
  | some y =>
    obtain ⟨gl, ql, l1, l2, l3, h⟩ := bdS_ok hf (Nat.zero_le _) h
    refine ⟨gh, gl, _, k1, l1, h b p rfl, fun K' => ?_⟩
    rw [k2, l2, slcAt_sb (by omega) i]
theorem slice_ok (hf : FrameOK k n t f) (hm : MemOK X Z s0 R s m) {u : TypeId} {x : Operand} {lo hi mx : Option Operand} (hop : o.op = .slice u x lo hi mx) {K : SV → Prop} (h : stepV P n m f o K) : ∃ v, K v ∧ VOK P k n t s o v := by
  unfold stepV at h
  rw [hop] at h
  simp only at h
  unfold sxS at h
  cases mx with
  | some ym =>
    simp only at h
    cases lo with
    | some _ => exact h.elim
    | none =>
    simp only at h
    cases hi with
    | none => exact h.elim
    | some yh =>
    simp only at h
    unfold sx3 at h
    split at h <;> (try exact h.elim)
    rename_i e hu
    split at h <;> (try exact h.elim)
    rename_i z hz
    cases hx : evS n f x <;> rw [hx] at h <;> (try exact h.elim)
    · rename_i i a len c
      simp only at h
      obtain ⟨g, hg, hgt⟩ := evS_eq hf hx rfl
      cases hi' : getM m i with
      | none => rw [hi'] at h; exact h.elim
      | some en =>
        rw [hi'] at h
        cases en <;> (try exact h.elim)
        rename_i a' n' e' sz' gg
        obtain ⟨e1, e2, e4, e5, h⟩ := h
        subst e1 e2 e4 e5
        have h' := ltS_inv h; clear h
        obtain ⟨hlc, h⟩ := h'
        obtain ⟨h0, h⟩ := ltS_inv h
        obtain ⟨_, g2, _⟩ := hm.get hi'
        rcases g2 with ⟨q1, _⟩ | ⟨b, n2, q1, ⟨_, _, ck, cn, ct, cg, q2, _⟩, _⟩
        · cases q1; omega
        · injection q1 with q1a q1b q1c
          subst q1a q1b
          obtain ⟨gm, qm, m1, m2, m3, h⟩ := bdS_some (k := k) (t := t) hf h
          obtain ⟨gh, qh, k1, k2, k3, h⟩ := bdS_some (k := k) (t := t) hf h
          refine ⟨_, h, .inr ⟨by unfold isLd; rw [hop], _, (by unfold cOper; rw [hop]; simp only [hg, k1, m1]; unfold cOpt oSlice; simp only [hu, hz]; rfl), fun K' => ?_⟩⟩
          simp only [hgt]
          show (onCells s b fun _ _ _ ce cg => bif !cg || Nat.beq ce e' then (bnd t c c (some gm) fun m => bnd t m len (some gh) fun h => bnd t h 0 none fun l => K' (slcAt b 0 sz' m l h)) else false) = _
          unfold onCells
          rw [q2]
          simp only [Nat.beq_refl, Bool.or_true, cond_true]
          rw [m2, k2]
          show K' (slcAt b 0 sz' qm 0 qh) = _
          rw [slcAt_0 i]
    · rename_i v
      simp only at h
      obtain ⟨g, hg, hgt⟩ := evS_eq hf hx rfl
      cases v <;> (try exact h.elim)
      rename_i a p c
      cases a <;> (try exact h.elim)
      simp only at h
      cases hq : (Nat.beq p 0 && Nat.beq c 0) with
      | false => rw [hq] at h; exact h.elim
      | true =>
        rw [hq] at h
        simp only [cond_true] at h
        obtain ⟨hp, hc⟩ := and_true hq
        have hp := beq_true hp
        have hc := beq_true hc
        subst hp hc
        obtain ⟨gm, qm, m1, m2, m3, h⟩ := bdS_some (k := k) (t := t) hf h
        obtain ⟨gh, qh, k1, k2, k3, h9⟩ := bdS_some (k := k) (t := t) hf h
        have : qm = 0 := by omega
        subst this
        have : qh = 0 := by omega
        subst this
        refine ⟨_, h9, .inr ⟨by unfold isLd; rw [hop], _, (by unfold cOper; rw [hop]; simp only [hg, k1, m1]; unfold cOpt oSlice; simp only [hu, hz]; rfl), fun K' => ?_⟩⟩
        simp only [hgt]
        show (bnd t 0 0 (some gm) fun m => bnd t m 0 (some gh) fun h => bnd t h 0 none fun l => K' (.slice none (Nat.sub h l) (Nat.sub m l))) = _
        rw [m2, k2]
        rfl
  | none =>
    simp only at h
    split at h <;> (try exact h.elim)
    rotate_left
    · rename_i hu
      cases hx : evS n f x <;> rw [hx] at h <;> (try exact h.elim)
      rename_i v
      cases v <;> (try exact h.elim)
      rename_i w
      simp only at h
      obtain ⟨g, hg, hgt⟩ := evS_eq (k := k) hf hx rfl
      obtain ⟨gh, qh, k1, k2, k3, h⟩ := bdS_ok (k := k) (t := t) hf (Nat.le_refl _) h
      obtain ⟨gl, ql, l1, l2, l3, h⟩ := bdS_ok (k := k) (t := t) hf (Nat.zero_le _) h
      refine ⟨_, h, .inl ⟨_, (by unfold cOper; rw [hop]; simp only [hg, k1, l1]; unfold cOpt oSlice; simp only [hu]; rfl), fun K' => ?_⟩⟩
      simp only [hgt]
      show (bnd t w.size w.size gh fun h => bnd t h 0 gl fun l => K' (.string (w.extract l h))) = _
      rw [k2, l2]
      rfl
    rename_i e hu
    split at h <;> (try exact h.elim)
    rename_i z hz
    cases hx : evS n f x <;> rw [hx] at h <;> (try exact h.elim)
    · rename_i i a len c
      simp only at h
      obtain ⟨g, hg, hgt⟩ := evS_eq hf hx rfl
      cases hi' : getM m i with
      | none => rw [hi'] at h; exact h.elim
      | some en =>
        rw [hi'] at h
        cases en <;> (try exact h.elim)
        · rename_i a' n' c' sz' gg
          obtain ⟨e1, e2, e3, e5, h⟩ := h
          subst e1 e2 e5 e3
          have h' := ltS_inv h; clear h
          obtain ⟨hlc, h⟩ := h'
          obtain ⟨h0, h⟩ := ltS_inv h
          have hlc : len < c + 1 := hlc
          obtain ⟨_, g2⟩ := hm.get hi'
          rcases g2 with q1 | ⟨b, p, rfl, _, _, q2⟩
          · omega
          · obtain ⟨gh, gl, w, k1, l1, hw, hK⟩ := sxR_ok (k := k) hf (by omega) h
            rcases q2 with q2 | ⟨ck, cn, ct, ce, cg, q2, q3⟩
            · cases q2
            · refine ⟨w, hw, .inr ⟨by unfold isLd; rw [hop], _, (by unfold cOper; rw [hop]; simp only [hg, k1, l1]; unfold oSlice; simp only [hu, hz]; rfl), fun K' => ?_⟩⟩
              simp only [hgt]
              show (onCells s b fun _ _ _ ce cg => bif !cg || Nat.beq ce e then (bnd t c len gh fun h => bnd t h 0 gl fun l => K' (slcAt b p sz' c l h)) else false) = _
              unfold onCells
              rw [q2]
              have hty : (!cg || Nat.beq ce e) = true := by
                rcases q3 with rfl | q3
                · rfl
                · have : ce = e := (Nat.succ.inj q3).symm
                  rw [this, Nat.beq_refl, Bool.or_true]
              simp only [hty, cond_true]
              exact hK K'
        · rename_i a' n' e' sz' gg
          obtain ⟨e1, e2, e4, e5, h⟩ := h
          subst e1 e2 e4 e5
          have h' := ltS_inv h; clear h
          obtain ⟨hlc, h⟩ := h'
          obtain ⟨h0, h⟩ := ltS_inv h
          have hlc : len < c + 1 := hlc
          obtain ⟨_, g2, _⟩ := hm.get hi'
          rcases g2 with ⟨q1, _⟩ | ⟨b, n2, q1, ⟨_, _, ck, cn, ct, cg, q2, _⟩, _⟩
          · cases q1; omega
          · injection q1 with q1a q1b q1c
            subst q1a q1b
            obtain ⟨gh, gl, w, k1, l1, hw, hK⟩ := sxR_ok (k := k) hf (by omega) h
            refine ⟨w, hw, .inr ⟨by unfold isLd; rw [hop], _, (by unfold cOper; rw [hop]; simp only [hg, k1, l1]; unfold oSlice; simp only [hu, hz]; rfl), fun K' => ?_⟩⟩
            simp only [hgt]
            show (onCells s b fun _ _ _ ce cg => bif !cg || Nat.beq ce e' then (bnd t c len gh fun h => bnd t h 0 gl fun l => K' (slcAt b 0 sz' c l h)) else false) = _
            unfold onCells
            rw [q2]
            simp only [Nat.beq_refl, Bool.or_true, cond_true]
            exact hK K'
    · rename_i v
      simp only at h
      obtain ⟨g, hg, hgt⟩ := evS_eq hf hx rfl
      cases v <;> (try exact h.elim)
      rename_i a p c
      cases a <;> (try exact h.elim)
      simp only at h
      cases hq : (Nat.beq p 0 && Nat.beq c 0) with
      | false => rw [hq] at h; exact h.elim
      | true =>
        rw [hq] at h
        simp only [cond_true] at h
        obtain ⟨hp, hc⟩ := and_true hq
        have hp := beq_true hp
        have hc := beq_true hc
        subst hp hc
        obtain ⟨gh, qh, k1, k2, k3, h⟩ := bdS_ok hf (Nat.le_refl _) h
        have : qh = 0 := by omega
        subst this
        cases lo with
        | some y =>
          obtain ⟨gl, ql, l1, l2, l3, h⟩ := bdS_ok hf (Nat.zero_le _) h
          have : ql = 0 := by omega
          subst this
          refine ⟨_, h, .inr ⟨by unfold isLd; rw [hop], _, (by unfold cOper; rw [hop]; simp only [hg, k1, l1]; unfold oSlice; simp only [hu, hz]; rfl), fun K' => ?_⟩⟩
          simp only [hgt]
          show (bnd t 0 0 gh fun h => bnd t h 0 gl fun l => K' (.slice none (Nat.sub h l) (Nat.sub 0 l))) = _
          rw [k2, l2]
          rfl
        | none =>
          refine ⟨_, h, .inr ⟨by unfold isLd; rw [hop], _, (by unfold cOper; rw [hop]; simp only [hg, k1]; unfold cOpt oSlice; simp only [hu, hz]; rfl), fun K' => ?_⟩⟩
          simp only [hgt]
          show (bnd t 0 0 gh fun h => bnd t h 0 none fun l => K' (.slice none (Nat.sub h l) (Nat.sub 0 l))) = _
          rw [k2]
          rfl
theorem den_zvS (v : Value) : den (zvS v) = v := by
  cases v <;> first | rfl | (rename_i cs; obtain ⟨cs⟩ := cs; show Value.agg ⟨dens (ofVs cs)⟩ = _; rw [dens_ofVs])
theorem mp_view {s : St} {b : Nat} {kv kv' : Nat → SV} {f f' : Nat → Option SV} (h : MapF (fun x => den (kv x)) s b fun x => (f x).map den) (he : (kv' = kv ∧ f' = f) ∨ ((∀ x, f x = none) ∧ ∀ x, f' x = none)) : MapF (fun x => den (kv' x)) s b fun x => (f' x).map den := by
  rcases he with ⟨rfl, rfl⟩ | ⟨h1, h2⟩
  · exact h
  · obtain ⟨g1, g2, l, c, g3, g4, g5⟩ := h
    have hl : l = [] := by
      cases l with
      | nil => rfl
      | cons x l =>
        have : (f x.1).map den = look (x :: l) x.1 := g5 x.1
        rw [h1] at this
        unfold look at this
        rw [if_pos rfl] at this
        cases this
    subst hl
    exact ⟨g1, g2, [], c, g3, List.nodup_nil, fun a => (by show (f' a).map den = _; rw [h2]; rfl)⟩
theorem look_ok (hf : FrameOK k n t f) (hm : MemOK X Z s0 R s m) {u : TypeId} {x y : Operand} {ok : Bool} (hop : o.op = .lookup u x y ok) {K : SV → Prop} (h : stepV P n m f o K) : ∃ v, K v ∧ VOK P k n t s o v := by
  unfold stepV at h
  rw [hop] at h
  simp only at h
  obtain ⟨hj, h⟩ := njS_inv h
  unfold lkS at h
  split at h <;> (try exact h.elim)
  rename_i q hq
  obtain ⟨kt, d, et⟩ := q
  simp only at h
  split at h <;> (try exact h.elim)
  rename_i z hz
  cases hx : evS n f x <;> rw [hx] at h <;> (try exact h.elim)
  rename_i i b
  simp only at h
  cases hi' : getM m i with
  | none => rw [hi'] at h; exact h.elim
  | some en =>
    rw [hi'] at h
    cases en <;> (try exact h.elim)
    rename_i b' kv g
    obtain ⟨rfl, h⟩ := h
    obtain ⟨kv', f', a, h1, h2, h3, h4⟩ := h.ex
    have hM := mp_view (hm.get hi').1 h1
    obtain ⟨gx, hgx, hxt⟩ := evS_eq (k := k) hf hx rfl
    obtain ⟨gy, hgy, hyt⟩ := evS_ok (k := k) hf y hj
    have hco : cOper P k n o = .rd ⟨fun f s K => mapGet P kt d z ok (gx.g f) (gy.g f) s K⟩ := by
      unfold cOper; rw [hop]; simp only [hgx, hgy]; unfold oLookup; simp only [hq, hz]
    have hget : ∀ K' : Value → Bool, mapGet P kt d z ok (gx.g t) (gy.g t) s K' = K' (match (f' a).map den with | some v => pairV ok v true | none => pairV ok z false) := fun K' => by
      rw [hxt, hyt, h3]
      exact hM.get h2 a K'
    cases hfa : f' a with
    | none =>
      have h5 := h4.n hfa
      rw [forceS_eq] at h5
      cases ok with
      | true => exact ⟨_, h5, .inr ⟨by unfold isLd; rw [hop], _, hco, fun K' => (hget K').trans (by rw [hfa]; show K' (.tuple ⟨[z, .bool false]⟩) = K' (.tuple ⟨[den (zvS z), .bool false]⟩); rw [den_zvS])⟩⟩
      | false => exact ⟨_, h5, .inr ⟨by unfold isLd; rw [hop], _, hco, fun K' => (hget K').trans (by rw [hfa, den_zvS]; rfl)⟩⟩
    | some v =>
      have h5 := h4.s v hfa
      cases ok with
      | true => exact ⟨_, h5, .inr ⟨by unfold isLd; rw [hop], _, hco, fun K' => (hget K').trans (by rw [hfa]; rfl)⟩⟩
      | false =>
        simp only [forceS_eq] at h5
        exact ⟨_, h5, .inr ⟨by unfold isLd; rw [hop], _, hco, fun K' => (hget K').trans (by rw [hfa]; rfl)⟩⟩
theorem intO_ok {g h : GW Value k} {a b : IntKind} {p q : Int} (hx : g.g t = .int a p) (hy : h.g t = .int b q) (hk : Nat.beq (kIdx a) (kIdx b) = true) (F : IntKind → Int → Int → (Value → Bool) → Bool) (K' : Value → Bool) :
    (asInt (g.g t) fun a m => asInt (h.g t) fun b n => bif Nat.beq (kIdx a) (kIdx b) then F a m n K' else false) = F a p q K' := by
  rw [hx, hy]
  show (bif Nat.beq (kIdx a) (kIdx b) then _ else false) = _
  rw [hk]; rfl
theorem VOK.ints {gx gy : GW Value k} {F : IntKind → Int → Int → (Value → Bool) → Bool} (hco : cOper P k n o = Ab.ints gx gy F) {a b : IntKind} {p q : Int} (hx : gx.g t = .int a p) (hy : gy.g t = .int b q) (hk : Nat.beq (kIdx a) (kIdx b) = true) {v : SV} (hv : ∀ K', F a p q K' = K' (den v)) : VOK P k n t s o v :=
  .inl ⟨_, hco, fun K' => (intO_ok hx hy hk F K').trans (hv K')⟩
theorem VOK.intsOr {gx gy : GW Value k} {d : SilC k} {F : IntKind → Int → Int → (Value → Bool) → Bool} (hco : cOper P k n o = strOr gx (Ab.ints gx gy F) (.sil d)) {a b : IntKind} {p q : Int} (hx : gx.g t = .int a p) (hy : gy.g t = .int b q) (hk : Nat.beq (kIdx a) (kIdx b) = true) {v : SV} (hv : ∀ K', F a p q K' = K' (den v)) : VOK P k n t s o v :=
  .inl ⟨_, hco, fun K' => by
    show (match gx.g t with | .string _ => _ | _ => _) = _
    rw [hx]
    exact (intO_ok hx hy hk F K').trans (hv K')⟩
theorem VOK.strsOr {gx : GW Value k} {c d : SilC k} (hco : cOper P k n o = strOr gx (.sil c) (.sil d)) {a : ByteArray} (hx : gx.g t = .string a) {v : SV} (hv : ∀ K', d.m t K' = K' (den v)) : VOK P k n t s o v :=
  .inl ⟨_, hco, fun K' => by
    show (match gx.g t with | .string _ => _ | _ => _) = _
    rw [hx]
    exact hv K'⟩
theorem min_run {P : Program} {ts : Array TypeId} {u : TypeId} {os : Array Bool} {a b : ByteArray} : pureRun P (builtin .min ts u os ⟨[.string a, .string b]⟩) = some (.value (.string (mnB a b))) := rfl
theorem isAggT_int {u : TypeId} {j : IntKind} (h : P.underlying u = some (.int j)) : isAggT P u = false := by
  unfold isAggT; simp only [h]
theorem under_run {α : Type} {P : Program} {u : TypeId} {d : TypeDesc} (hu : P.underlying u = some d) (f : TypeDesc → Sem α) : pureRun P (underlying u >>= f) = pureRun P (f d) := by
  show pureRun P ((match P.underlying u with | some d => pure d | none => stuck "no such type") >>= f) = _
  rw [hu]
  rfl
theorem beq_run {P : Program} {u : TypeId} (hu : P.underlying u = some .bool) (a b : Bool) : pureRun P (Op.equal u (.bool a) (.bool b)) = some (a == b) := by
  show pureRun P (Op.equalIn 10000 u (.bool a) (.bool b)) = _
  unfold Op.equalIn
  rw [under_run hu]
  rfl
theorem bind_run {α β : Type} {P : Program} {f : α → Sem β} : ∀ {x : Sem α} {v : α}, pureRun P x = some v → pureRun P (x >>= f) = pureRun P (f v) := by
  intro x
  induction x with
  | pure a => intro v h; cases h; rfl
  | program k ih => intro v h; exact ih P h
  | _ => intro v h; cases h
theorem bool_run {P : Program} {u : TypeId} (hu : P.underlying u = some .bool) (x y : Operand) (a b : Bool) : pureRun P (do eqGuard .eql u x y (.bool a) (.bool b); binOp .eql u (.bool a) (.bool b)) = some (.bool (a == b)) := by
  show pureRun P (Op.equal u (.bool a) (.bool b) >>= fun r => pure (Value.bool r)) = _
  rw [bind_run (beq_run hu a b)]
  rfl
theorem bool_run' {P : Program} {u : TypeId} (hu : P.underlying u = some .bool) (x y : Operand) (a b : Bool) : pureRun P (do eqGuard .neq u x y (.bool a) (.bool b); binOp .neq u (.bool a) (.bool b)) = some (.bool (!(a == b))) := by
  show pureRun P (Op.equal u (.bool a) (.bool b) >>= fun r => pure (Value.bool (!r))) = _
  rw [bind_run (beq_run hu a b)]
  rfl
theorem nilq_run {P : Program} {u e : TypeId} (hu : P.underlying u = some (.slice e)) (p c : Nat) : pureRun P (Op.equal u (.slice none p c) (.slice none 0 0)) = some true := by
  show pureRun P (Op.equalIn 10000 u (.slice none p c) (.slice none 0 0)) = _
  unfold Op.equalIn
  rw [under_run hu]
  rfl
theorem nil_run {P : Program} {u e : TypeId} (hu : P.underlying u = some (.slice e)) (x y : Operand) (p c : Nat) (K' : Value → Bool) : (match pureRun P (do eqGuard .eql u x y (.slice none p c) (.slice none 0 0); binOp .eql u (.slice none p c) (.slice none 0 0)) with
    | some v => bif pureC 4 v then K' v else false
    | none => false) = K' (.bool true) := by
  show (match pureRun P (Op.equal u (.slice none p c) (.slice none 0 0) >>= fun r => pure (Value.bool r)) with
    | some v => bif pureC 4 v then K' v else false
    | none => false) = _
  rw [bind_run (nilq_run hu p c)]
  rfl
theorem nil_run' {P : Program} {u e : TypeId} (hu : P.underlying u = some (.slice e)) (x y : Operand) (p c : Nat) (K' : Value → Bool) : (match pureRun P (do eqGuard .neq u x y (.slice none p c) (.slice none 0 0); binOp .neq u (.slice none p c) (.slice none 0 0)) with
    | some v => bif pureC 4 v then K' v else false
    | none => false) = K' (.bool false) := by
  show (match pureRun P (Op.equal u (.slice none p c) (.slice none 0 0) >>= fun r => pure (Value.bool (!r))) with
    | some v => bif pureC 4 v then K' v else false
    | none => false) = _
  rw [bind_run (nilq_run hu p c)]
  rfl
theorem isShr_eq {op : BinOp} (h : isShr op = true) : op = .shr := by cases op <;> first | rfl | cases h
theorem shr_run (u : TypeId) (x y : Operand) (a b : IntKind) (p : Int) (c : Nat) (K' : Value → Bool) : (bif pureC 4 (.int a p) && pureC 4 (.int b (.ofNat c)) then (match pureRun P (do eqGuard .shr u x y (.int a p) (.int b (.ofNat c)); binOp .shr u (.int a p) (.int b (.ofNat c))) with
    | some v => bif pureC 4 v then K' v else false
    | none => false) else match BinOp.shr with
      | .eql => nilCmp (P.underlying u) false (.int a p) (.int b (.ofNat c)) K'
      | .neq => nilCmp (P.underlying u) true (.int a p) (.int b (.ofNat c)) K'
      | _ => false) = K' (.int a (shrV a p c)) := by
  have h : Op.shift .shr a p b (.ofNat c) = pure (.int a (shrV a p c)) := by
    unfold Op.shift
    split
    · rename_i h
      exact absurd h (Int.not_lt.2 (Int.natCast_nonneg c))
    · rfl
  show (match pureRun P (Op.shift .shr a p b (.ofNat c)) with
    | some v => bif pureC 4 v then K' v else false
    | none => false) = _
  rw [h]
  rfl
theorem isShl_eq {op : BinOp} (h : isShl op = true) : op = .shl := by cases op <;> first | rfl | cases h
theorem isAnd_eq {op : BinOp} (h : isAnd op = true) : op = .and := by cases op <;> first | rfl | cases h
theorem shl_run (u : TypeId) (x y : Operand) (a b : IntKind) (p : Int) (c : Nat) (K' : Value → Bool) : (bif pureC 4 (.int a p) && pureC 4 (.int b (.ofNat c)) then (match pureRun P (do eqGuard .shl u x y (.int a p) (.int b (.ofNat c)); binOp .shl u (.int a p) (.int b (.ofNat c))) with
    | some v => bif pureC 4 v then K' v else false
    | none => false) else match BinOp.shl with
      | .eql => nilCmp (P.underlying u) false (.int a p) (.int b (.ofNat c)) K'
      | .neq => nilCmp (P.underlying u) true (.int a p) (.int b (.ofNat c)) K'
      | _ => false) = K' (.int a (shlV a p c)) := by
  have h : Op.shift .shl a p b (.ofNat c) = pure (.int a (shlV a p c)) := by
    unfold Op.shift
    split
    · rename_i h
      exact absurd h (Int.not_lt.2 (Int.natCast_nonneg c))
    · rfl
  show (match pureRun P (Op.shift .shl a p b (.ofNat c)) with
    | some v => bif pureC 4 v then K' v else false
    | none => false) = _
  rw [h]
  rfl
theorem and_run (u : TypeId) (x y : Operand) (a : IntKind) (p q : Int) (K' : Value → Bool) : (bif pureC 4 (.int a p) && pureC 4 (.int a q) then (match pureRun P (do eqGuard .and u x y (.int a p) (.int a q); binOp .and u (.int a p) (.int a q)) with
    | some v => bif pureC 4 v then K' v else false
    | none => false) else match BinOp.and with
      | .eql => nilCmp (P.underlying u) false (.int a p) (.int a q) K'
      | .neq => nilCmp (P.underlying u) true (.int a p) (.int a q) K'
      | _ => false) = K' (.int a (andI a p q)) := by
  show (match pureRun P (binOp .and u (.int a p) (.int a q)) with
    | some v => bif pureC 4 v then K' v else false
    | none => false) = _
  have h : binOp .and u (.int a p) (.int a q) = pure (.int a (andI a p q)) := by
    unfold binOp
    simp only [ne_eq, not_true, if_false]
    rfl
  rw [h]
  rfl
theorem or_run (u : TypeId) (x y : Operand) (a : IntKind) (p q : Int) (K' : Value → Bool) : (bif pureC 4 (.int a p) && pureC 4 (.int a q) then (match pureRun P (do eqGuard .or u x y (.int a p) (.int a q); binOp .or u (.int a p) (.int a q)) with
    | some v => bif pureC 4 v then K' v else false
    | none => false) else match BinOp.or with
      | .eql => nilCmp (P.underlying u) false (.int a p) (.int a q) K'
      | .neq => nilCmp (P.underlying u) true (.int a p) (.int a q) K'
      | _ => false) = K' (.int a (orI a p q)) := by
  show (match pureRun P (binOp .or u (.int a p) (.int a q)) with
    | some v => bif pureC 4 v then K' v else false
    | none => false) = _
  have h : binOp .or u (.int a p) (.int a q) = pure (.int a (orI a p q)) := by
    unfold binOp
    simp only [ne_eq, not_true, if_false]
    rfl
  rw [h]
  rfl
theorem xor_run (u : TypeId) (x y : Operand) (a : IntKind) (p q : Int) (K' : Value → Bool) : (bif pureC 4 (.int a p) && pureC 4 (.int a q) then (match pureRun P (do eqGuard .xor u x y (.int a p) (.int a q); binOp .xor u (.int a p) (.int a q)) with
    | some v => bif pureC 4 v then K' v else false
    | none => false) else match BinOp.xor with
      | .eql => nilCmp (P.underlying u) false (.int a p) (.int a q) K'
      | .neq => nilCmp (P.underlying u) true (.int a p) (.int a q) K'
      | _ => false) = K' (.int a (xorI a p q)) := by
  show (match pureRun P (binOp .xor u (.int a p) (.int a q)) with
    | some v => bif pureC 4 v then K' v else false
    | none => false) = _
  have h : binOp .xor u (.int a p) (.int a q) = pure (.int a (xorI a p q)) := by
    unfold binOp
    simp only [ne_eq, not_true, if_false]
    rfl
  rw [h]
  rfl
theorem an_run (u : TypeId) (x y : Operand) (a : IntKind) (p q : Int) (K' : Value → Bool) : (bif pureC 4 (.int a p) && pureC 4 (.int a q) then (match pureRun P (do eqGuard .andNot u x y (.int a p) (.int a q); binOp .andNot u (.int a p) (.int a q)) with
    | some v => bif pureC 4 v then K' v else false
    | none => false) else match BinOp.andNot with
      | .eql => nilCmp (P.underlying u) false (.int a p) (.int a q) K'
      | .neq => nilCmp (P.underlying u) true (.int a p) (.int a q) K'
      | _ => false) = K' (.int a (anI a p q)) := by
  show (match pureRun P (binOp .andNot u (.int a p) (.int a q)) with
    | some v => bif pureC 4 v then K' v else false
    | none => false) = _
  have h : binOp .andNot u (.int a p) (.int a q) = pure (.int a (anI a p q)) := by
    unfold binOp
    simp only [ne_eq, not_true, if_false]
    rfl
  rw [h]
  rfl
theorem strI_run {u : TypeId} {x y : Operand} {op : BinOp} {a b : ByteArray} {K : SV → Prop} (h : strI op a b K) : ∃ r, K r ∧ pureC 4 (den r) = true ∧ pureRun P (do eqGuard op u x y (.string a) (.string b); binOp op u (.string a) (.string b)) = some (den r) := by
  cases op <;> (try exact h.elim)
  case add =>
    obtain ⟨hlt, h⟩ := ltS_inv h
    refine ⟨_, h, rfl, ?_⟩
    show pureRun P (Op.stringOp .add a b) = _
    unfold Op.stringOp
    have : ¬ (((a.size + b.size : Nat) : Int) > IntKind.i64.max) := by
      have e : IntKind.i64.max = 9223372036854775807 := by decide
      have hlt : a.size + b.size < 9223372036854775808 := hlt
      rw [e]; omega
    simp only [this, if_false]
    rfl
  all_goals exact ⟨_, h, rfl, rfl⟩
theorem bin_ok (hf : FrameOK k n t f) {op : BinOp} {u w : TypeId} {x y : Operand} (hop : o.op = .binOp op u x y w) {K : SV → Prop} (h : stepV P n m f o K) : ∃ v, K v ∧ VOK P k n t s o v := by
  unfold stepV at h
  rw [hop] at h
  simp only at h
  have hcop : ∀ {gx gy}, cEv k n x = some gx → cEv k n y = some gy → cOper P k n o = oBinA P op u x y gx gy := fun hx hy => by
    unfold cOper; rw [hop]; simp only [hx, hy]
  unfold binS at h
  split at h <;> (try exact h.elim)
  · rename_i kk hu
    cases hx : evS n f x <;> rw [hx] at h <;> (try exact h.elim)
    cases hy : evS n f y <;> rw [hy] at h <;> (try exact h.elim)
    rename_i a p b q
    simp only at h
    obtain ⟨gx, hgx, hxt⟩ := evS_eq hf hx rfl
    obtain ⟨gy, hgy, hyt⟩ := evS_eq hf hy rfl
    cases hs : isShr op with
    | true =>
      rw [hs] at h
      simp only [cond_true] at h
      have := isShr_eq hs
      subst this
      cases q with
      | negSucc _ => exact h.elim
      | ofNat c =>
        refine ⟨_, h, .inl ⟨_, (hcop hgx hgy).trans (by unfold oBinA oBin; simp only [hu]; unfold gBin; simp only [isAggT_int hu, cond_false]; rfl), fun K' => ?_⟩⟩
        simp only [hxt, hyt]
        exact shr_run (P := P) u x y a b p c K'
    | false =>
    rw [hs] at h
    simp only [cond_false] at h
    cases hs2 : isShl op with
    | true =>
      rw [hs2] at h
      simp only [cond_true] at h
      have := isShl_eq hs2
      subst this
      cases q with
      | negSucc _ => exact h.elim
      | ofNat c =>
        refine ⟨_, h, .inl ⟨_, (hcop hgx hgy).trans (by unfold oBinA oBin; simp only [hu]; unfold gBin; simp only [isAggT_int hu, cond_false]; rfl), fun K' => ?_⟩⟩
        simp only [hxt, hyt]
        exact shl_run (P := P) u x y a b p c K'
    | false =>
    rw [hs2] at h
    simp only [cond_false] at h
    cases hk : Nat.beq (kIdx a) (kIdx b) with
    | false => rw [hk] at h; exact h.elim
    | true =>
      rw [hk] at h
      simp only [cond_true] at h
      cases ha : isAnd op with
      | true =>
        rw [ha] at h
        simp only [cond_true] at h
        have := isAnd_eq ha
        subst this
        have : a = b := kIdx_inj hk
        subst this
        refine ⟨_, h, .inl ⟨_, (hcop hgx hgy).trans (by unfold oBinA oBin; simp only [hu]; unfold gBin; simp only [isAggT_int hu, cond_false]; rfl), fun K' => ?_⟩⟩
        simp only [hxt, hyt]
        exact and_run (P := P) u x y a p q K'
      | false =>
      rw [ha] at h
      simp only [cond_false] at h
      cases hb : isBit op with
      | true =>
        rw [hb] at h
        simp only [cond_true] at h
        have : a = b := kIdx_inj hk
        subst this
        cases op <;> (try cases hb)
        all_goals refine ⟨_, h, .inl ⟨_, (hcop hgx hgy).trans (by unfold oBinA oBin; simp only [hu]; unfold gBin; simp only [isAggT_int hu, cond_false]; rfl), fun K' => ?_⟩⟩
        all_goals simp only [hxt, hyt]
        · exact or_run (P := P) u x y a p q K'
        · exact xor_run (P := P) u x y a p q K'
        · exact an_run (P := P) u x y a p q K'
      | false =>
      rw [hb] at h
      simp only [cond_false] at h
      have hag : isAggT P u = false := isAggT_int hu
      have hco : ∀ F, oBin P op u x y gx gy = ints gx gy F → cOper P k n o = ints gx gy F := fun F hF => by
        rw [hcop hgx hgy]; unfold oBinA; rw [hF]; unfold ints; simp only [hag, cond_false]
      unfold binI at h
      cases op <;> (try exact h.elim) <;> simp only at h
      all_goals
        have hco' := hco _ (by unfold oBin; simp only [hu]; rfl)
        first
        | exact ⟨_, h, VOK.ints hco' hxt hyt hk fun K' => rfl⟩
        | (obtain ⟨hz, h⟩ := h
           exact ⟨_, h, VOK.ints hco' hxt hyt hk fun K' => (by simp only [hz]; rfl)⟩)
  · rename_i hu
    cases hx : evS n f x <;> rw [hx] at h <;> (try exact h.elim)
    cases hy : evS n f y <;> rw [hy] at h <;> (try exact h.elim)
    rename_i a b
    simp only at h
    obtain ⟨gx, hgx, hxt⟩ := evS_eq hf hx rfl
    obtain ⟨gy, hgy, hyt⟩ := evS_eq hf hy rfl
    have hag : isAggT P u = false := by unfold isAggT; simp only [hu]
    cases op <;> (try exact h.elim) <;> simp only at h
    · refine ⟨_, h, .inl ⟨_, (hcop hgx hgy).trans (by unfold oBinA oBin; simp only [hu]; unfold gBin; simp only [hag, cond_false]; rfl), fun K' => ?_⟩⟩
      simp only [hxt, hyt]
      show (match pureRun P (do eqGuard .eql u x y (.bool a) (.bool b); binOp .eql u (.bool a) (.bool b)) with
        | some v => bif pureC 4 v then K' v else false
        | none => false) = _
      rw [bool_run hu]
      rfl
    · refine ⟨_, h, .inl ⟨_, (hcop hgx hgy).trans (by unfold oBinA oBin; simp only [hu]; unfold gBin; simp only [hag, cond_false]; rfl), fun K' => ?_⟩⟩
      simp only [hxt, hyt]
      show (match pureRun P (do eqGuard .neq u x y (.bool a) (.bool b); binOp .neq u (.bool a) (.bool b)) with
        | some v => bif pureC 4 v then K' v else false
        | none => false) = _
      rw [bool_run' hu]
      rfl
  · rename_i e hu
    have hag : isAggT P u = false := by unfold isAggT; simp only [hu]
    cases hy : evS n f y <;> rw [hy] at h <;> (try exact h.elim)
    rename_i v
    cases v <;> (try exact h.elim)
    rename_i a2 p2 c2
    cases a2 <;> (try exact h.elim)
    simp only at h
    cases hq : (Nat.beq p2 0 && Nat.beq c2 0) with
    | false => rw [hq] at h; exact h.elim
    | true =>
      rw [hq] at h
      simp only [cond_true] at h
      obtain ⟨hp, hc⟩ := and_true hq
      have hp := beq_true hp
      have hc := beq_true hc
      subst hp hc
      obtain ⟨gy, hgy, hyt⟩ := evS_eq (k := k) hf hy rfl
      have hbin : ∀ (neg : Bool), op = (bif neg then .neq else .eql) → ∀ {gx : GW Value k}, cEv k n x = some gx → ∀ a p c, gx.g t = .slice a p c → (∃ c', cOper P k n o = .sil c' ∧ ∀ K' : Value → Bool, c'.m t K' = K' (.bool (neg != a.isNone))) := by
        intro neg hop' gx hgx a p c hxt
        refine ⟨_, (hcop hgx hgy).trans (by unfold oBinA oBin; simp only [hu]; unfold gBin; simp only [hag, cond_false]; rfl), fun K' => ?_⟩
        simp only [hxt, hyt, hop']
        cases a with
        | none => cases neg <;> first | exact nil_run hu x y p c K' | exact nil_run' hu x y p c K'
        | some a => cases neg <;> (simp only [hu]; rfl)
      unfold nilS at h
      cases hx : evS n f x <;> rw [hx] at h <;> (try exact h.elim)
      all_goals obtain ⟨gx, hgx, hxt⟩ := evS_eq (k := k) hf hx rfl
      all_goals
        cases op <;> (try exact h.elim)
      all_goals (try simp only at h)
      all_goals first
        | (rename_i i a p c
           cases a with
           | none => obtain ⟨c', h1, h2⟩ := hbin false rfl hgx _ _ _ hxt; exact ⟨_, h.t rfl, .inl ⟨c', h1, fun K' => (h2 K').trans rfl⟩⟩
           | some a => obtain ⟨c', h1, h2⟩ := hbin false rfl hgx _ _ _ hxt; exact ⟨_, h.f (by simp), .inl ⟨c', h1, fun K' => (h2 K').trans rfl⟩⟩)
        | (rename_i i a p c
           cases a with
           | none => obtain ⟨c', h1, h2⟩ := hbin true rfl hgx _ _ _ hxt; exact ⟨_, h.t rfl, .inl ⟨c', h1, fun K' => (h2 K').trans rfl⟩⟩
           | some a => obtain ⟨c', h1, h2⟩ := hbin true rfl hgx _ _ _ hxt; exact ⟨_, h.f (by simp), .inl ⟨c', h1, fun K' => (h2 K').trans rfl⟩⟩)
        | (obtain ⟨c', h1, h2⟩ := hbin false rfl hgx _ _ _ hxt; exact ⟨_, h, .inl ⟨c', h1, fun K' => (h2 K').trans rfl⟩⟩)
        | (obtain ⟨c', h1, h2⟩ := hbin true rfl hgx _ _ _ hxt; exact ⟨_, h, .inl ⟨c', h1, fun K' => (h2 K').trans rfl⟩⟩)
        | (rename_i v
           cases v <;> (try exact h.elim)
           rename_i a p c
           cases a with
           | some a => exact h.elim
           | none =>
           first
           | exact h.elim
           | (obtain ⟨c', h1, h2⟩ := hbin false rfl hgx _ _ _ hxt; exact ⟨_, h, .inl ⟨c', h1, fun K' => (h2 K').trans rfl⟩⟩)
           | (obtain ⟨c', h1, h2⟩ := hbin true rfl hgx _ _ _ hxt; exact ⟨_, h, .inl ⟨c', h1, fun K' => (h2 K').trans rfl⟩⟩))
  rotate_left; rotate_left
  · rename_i hu
    cases hx : evS n f x <;> rw [hx] at h <;> (try exact h.elim)
    rename_i v
    cases v <;> (try exact h.elim)
    cases hy : evS n f y <;> rw [hy] at h <;> (try exact h.elim)
    rename_i w
    cases w <;> (try exact h.elim)
    rename_i a b
    simp only at h
    obtain ⟨gx, hgx, hxt⟩ := evS_eq hf hx rfl
    obtain ⟨gy, hgy, hyt⟩ := evS_eq hf hy rfl
    have hag : isAggT P u = false := by unfold isAggT; simp only [hu]
    obtain ⟨r, h, hp, hr⟩ := strI_run (P := P) (u := u) (x := x) (y := y) h
    refine ⟨r, h, .inl ⟨_, (hcop hgx hgy).trans (by unfold oBinA oBin; simp only [hu]; unfold gBin; simp only [hag, cond_false]; rfl), fun K' => ?_⟩⟩
    simp only [hxt, hyt]
    show (match pureRun P (do eqGuard op u x y (.string a) (.string b); binOp op u (.string a) (.string b)) with
        | some v => bif pureC 4 v then K' v else false
        | none => false) = _
    rw [hr]
    simp only [hp, cond_true]
  all_goals
    rename_i hu
    cases op <;> (try exact h.elim) <;> simp only at h
    all_goals
      obtain ⟨hag, h⟩ := h
      obtain ⟨r, hr, h⟩ := h.ex
      have hjx : isJ (evS n f x) = false := by
        cases hx : evS n f x <;> first | rfl | (rw [hx] at hr; exact absurd hr (by unfold eqV; simp only [hu]; simp [den, undef]))
      have hjy : isJ (evS n f y) = false := by
        cases hy : evS n f y <;> first | rfl | (rw [hy] at hr; exact absurd hr (by unfold eqV; simp only [hu]; cases den (evS n f x) <;> simp [den, undef]))
      obtain ⟨gx, hgx, hxt⟩ := evS_ok hf x hjx
      obtain ⟨gy, hgy, hyt⟩ := evS_ok hf y hjy
      have hob : ∀ op, oBin P op u x y gx gy = gBin P op u x y gx gy := fun op => by unfold oBin; simp only [hu]
      refine ⟨_, h, .inl ⟨_, (hcop hgx hgy).trans (by unfold oBinA; rw [hob]; unfold gBin; simp only [(and_true hag).1, cond_true]; rfl), fun K' => ?_⟩⟩
      simp only [(and_true hag).2, cond_true, hxt, hyt, hr]
      rfl
theorem evL_ok (hf : FrameOK k n t f) : ∀ {l : List Operand} {K : List SV → Prop}, evL n f l K → ∃ gs vs, cEvs k n l = some gs ∧ evAll t gs = dens vs ∧ K vs
  | [], K, h => ⟨[], [], rfl, rfl, h⟩
  | x :: l, K, h => by
    unfold evL at h
    obtain ⟨hj, h⟩ := njS_inv h
    obtain ⟨gs, vs, h1, h2, h3⟩ := evL_ok hf h
    obtain ⟨g, hg, hgt⟩ := evS_ok hf x hj
    refine ⟨g :: gs, _ :: vs, by unfold cEvs; simp only [hg, h1], ?_, h3⟩
    unfold evAll dens
    rw [hgt, h2]
theorem func_ok (hf : FrameOK k n t f) {fn : Fn} {a c : Array Operand} (hop : o.op = .makeFunc fn a c) {K : SV → Prop} (h : stepV P n m f o K) : ∃ v, K v ∧ VOK P k n t s o v := by
  unfold stepV at h
  rw [hop] at h
  simp only at h
  cases fn <;> (try exact h.elim)
  rename_i g
  simp only at h
  obtain ⟨gs, vs, h1, h2, h⟩ := evL_ok hf h
  obtain ⟨gs', vs', h3, h4, h⟩ := evL_ok hf h
  refine ⟨_, h, .inl ⟨_, (by unfold cOper; rw [hop]; simp only [h1, h3]; rfl), fun K' => ?_⟩⟩
  simp only [h2, h4]
  rfl
theorem vcS_ok {v : SV} (h : sgO v = true) : vcells (den v) = dens (vcS v) ∧ isCh (den v) = false := by
  cases v <;> first | exact ⟨rfl, rfl⟩ | (cases h; done) | skip
  rename_i v
  cases v <;> first | exact ⟨rfl, rfl⟩ | cases h
theorem fillS_ok (hf : FrameOK k n t f) {place : Nat → Option (Nat × Nat)} : ∀ {ps : List (Nat × Operand)} {l : List SV} {K : List SV → Prop}, fillS n f place ps l K → ∃ gs, cParts k n ps = some gs ∧ ∃ l', fillP t place (dens l) gs = some (dens l') ∧ K l'
  | [], l, K, h => ⟨[], rfl, l, rfl, h⟩
  | (i, x) :: r, l, K, h => by
    unfold fillS at h
    simp only at h
    cases hp : place i with
    | none => rw [hp] at h; exact h.elim
    | some p =>
      obtain ⟨off, size⟩ := p
      rw [hp] at h
      simp only at h
      obtain ⟨hj, h⟩ := njS_inv h
      obtain ⟨g, hg, hgt⟩ := evS_ok hf x hj
      cases hc : (Nat.beq (vcS (evS n f x)).length size && Nat.ble (Nat.add off size) l.length && sgO (evS n f x)) with
      | false => rw [hc] at h; exact h.elim
      | true =>
        rw [hc] at h
        simp only [cond_true] at h
        obtain ⟨hc1, hc2⟩ := and_true hc
        obtain ⟨hc3, hc4⟩ := and_true hc1
        obtain ⟨hv1, hv2⟩ := vcS_ok hc2
        obtain ⟨h1, h2⟩ := putS_inv h
        obtain ⟨gs, h3, l', h4, h5⟩ := fillS_ok hf h2
        refine ⟨(i, g) :: gs, by unfold cParts; simp only [hg, h3], l', ?_, h5⟩
        unfold fillP
        simp only [hp, hgt, hv1, hv2, dens_length, hc3, hc4, Bool.not_false, Bool.and_self, cond_true]
        rw [splice_ok (by rw [dens_length, dens_length]; exact h1)]
        simp only
        rw [← dens_take, dens_length, ← dens_drop, ← dens_append, ← dens_append]
        exact h4
theorem build_ok (hf : FrameOK k n t f) {u : TypeId} {ps : Array (Nat × Operand)} (hop : o.op = .build u ps) {K : SV → Prop} (h : stepV P n m f o K) : ∃ v, K v ∧ VOK P k n t s o v := by
  unfold stepV at h
  rw [hop] at h
  simp only at h
  unfold buS at h
  split at h <;> (try exact h.elim)
  · rename_i z fs hz hu
    split at h <;> (try exact h.elim)
    rename_i pl hpl
    rw [forceV_eq] at h
    obtain ⟨gs, h1, l', h2, h3⟩ := fillS_ok hf h
    rw [dens_ofVs] at h2
    refine ⟨_, h3, .inl ⟨_, (by unfold cOper; rw [hop]; simp only [h1]; unfold oBuild; simp only [hz, hu, hpl]; rfl), fun K' => ?_⟩⟩
    simp only [h2]
    rfl
  · rename_i z len e hz hu
    split at h <;> (try exact h.elim)
    rename_i sz hsz
    rw [forceV_eq] at h
    obtain ⟨gs, h1, l', h2, h3⟩ := fillS_ok hf h
    rw [dens_ofVs] at h2
    refine ⟨_, h3, .inl ⟨_, (by unfold cOper; rw [hop]; simp only [h1]; unfold oBuild; simp only [hz, hu, hsz]; rfl), fun K' => ?_⟩⟩
    simp only [h2]
    rfl
theorem cEvs_two {x y : Operand} {gx gy : GW Value k} (hx : cEv k n x = some gx) (hy : cEv k n y = some gy) : cEvs k n [x, y] = some [gx, gy] := by simp only [cEvs, hx, hy]
theorem cEvs_one {x : Operand} {gx : GW Value k} (hx : cEv k n x = some gx) : cEvs k n [x] = some [gx] := by simp only [cEvs, hx]
theorem cap_run {P : Program} {u e ty : TypeId} (hu : P.underlying u = some (.slice e)) (cs : Array Bool) : pureRun P (builtin .cap ⟨[u]⟩ ty cs ⟨[.slice none 0 0]⟩) = some (.value (.int .i64 (.ofNat 0))) := by
  show pureRun P ((underlying u >>= _) >>= _) = _
  rw [bind_run (v := goInt 0) (by rw [under_run hu]; rfl)]
  rfl
theorem blt_ok (hf : FrameOK k n t f) (hm : MemOK X Z s0 R s m) {c : Call} {b : Builtin} (hop : o.op = .call c) (hb : c.callee = .builtin b) {K : SV → Prop} (h : stepV P n m f o K) : ∃ v, K v ∧ VOK P k n t s o v := by
  unfold stepV at h
  rw [hop] at h
  simp only [hb] at h
  have hcop : cOper P k n o = cBuiltinM P k n b c.args.toList c.argTypes.toList o.type := by unfold cOper; rw [hop]; simp only [hb]
  cases hlx : lenX P b c.args.toList c.argTypes.toList with
  | some x =>
    rw [hlx] at h
    simp only at h
    have hlx2 := hlx
    unfold lenX at hlx2
    split at hlx2 <;> (try cases hlx2; done)
    split at hlx2 <;> (try cases hlx2; done)
    rename_i y hy
    split at hlx2 <;> (try cases hlx2; done)
    rename_i u hu
    split at hlx2 <;> (try cases hlx2; done)
    rename_i kt et hut
    injection hlx2 with hxy
    subst hxy
    unfold lnM at h
    cases hx : evS n f y <;> rw [hx] at h <;> (try exact h.elim)
    rename_i e b'
    simp only at h
    obtain ⟨g, hg, hgt⟩ := evS_eq hf hx rfl
    cases hi : getM m e with
    | none => rw [hi] at h; exact h.elim
    | some en =>
      rw [hi] at h
      cases en <;> (try exact h.elim)
      rename_i b2 kv gg
      obtain ⟨rfl, h⟩ := h
      obtain ⟨q, hq, hK⟩ := h.ex
      obtain ⟨⟨g1, g2, l, cl, g3, g4, g5⟩, _⟩ := hm.get hi
      have hlen : l.length = q := by
        have := hq (l.map (·.1)) g4 fun a => by
          have h1 : (gg a).map den = look l a := g5 a
          have h2 := look_mem (l := l) (a := a)
          constructor
          · intro hin hno
            rw [hno] at h1
            exact h2.1 h1.symm hin
          · intro hne
            refine Classical.byContradiction fun hno => ?_
            rw [h2.2 hno] at h1
            cases hga : gg a with
            | none => exact hne hga
            | some v => rw [hga] at h1; cases h1
        rw [List.length_map] at this
        exact this
      refine ⟨_, hK, .inr ⟨by unfold isLd; rw [hop]; simp only [hb, hlx]; rfl, _, (by rw [hcop, hy, hu]; unfold cBuiltinM; simp only [hut, hg]; rfl), fun K' => ?_⟩⟩
      simp only [hgt]
      show (onMap s b' fun es _ => K' (.int .i64 (.ofNat es.length))) = _
      unfold onMap
      rw [g3]
      show K' (.int .i64 (.ofNat (ents (fun x => den (kv x)) l).length)) = _
      unfold ents
      rw [List.length_map, hlen]
      rfl
  | none =>
  rw [hlx] at h
  simp only at h
  generalize c.args.toList = args at h hcop
  generalize c.argTypes.toList = ts at h hcop
  unfold bltS at h
  cases b <;> (try exact h.elim) <;> simp only at h
  · split at h <;> (try exact h.elim)
    rename_i x u
    split at h <;> (try exact h.elim)
    rename_i e hu
    cases hx : evS n f x <;> rw [hx] at h <;> (try exact h.elim)
    rename_i v
    cases v <;> (try exact h.elim)
    rename_i a p q
    cases a <;> (try exact h.elim)
    simp only at h
    cases hq : (Nat.beq p 0 && Nat.beq q 0) with
    | false => rw [hq] at h; exact h.elim
    | true =>
      rw [hq] at h
      simp only [cond_true] at h
      obtain ⟨hp, hc⟩ := and_true hq
      have hp := beq_true hp
      have hc := beq_true hc
      subst hp hc
      obtain ⟨g, hg, hgt⟩ := evS_eq (k := k) hf hx rfl
      refine ⟨_, h, .inl ⟨_, by rw [hcop]; unfold cBuiltinM; simp only; unfold cBuiltin; simp only [cEvs_one hg]; unfold oBuiltin; rfl, fun K' => ?_⟩⟩
      simp only [evAll, hgt]
      show (match pureRun P (builtin .cap ⟨[u]⟩ _ _ ⟨[.slice none 0 0]⟩) with
        | some nx => match nx with
          | .value w => bif pureC 4 w then K' w else false
          | _ => false
        | none => false) = _
      rw [cap_run hu]
      rfl
  · split at h <;> (try exact h.elim)
    rename_i x u
    unfold lenS at h
    split at h <;> (try exact h.elim)
    · rename_i e hu
      have hc2 : ∀ {g}, cEv k n x = some g → cOper P k n o = .sil ⟨fun f K => match g.g f with | .slice _ m _ => K (.int .i64 (.ofNat m)) | _ => false⟩ := fun hg => by
        rw [hcop]; unfold cBuiltinM; simp only [hu]; unfold cBuiltin; simp only [cEvs_one hg, hu]; rfl
      cases hx : evS n f x <;> rw [hx] at h <;> (try exact h.elim)
      · obtain ⟨g, hg, hgt⟩ := evS_eq hf hx rfl
        exact ⟨_, h, .inl ⟨_, hc2 hg, fun K' => by simp only [hgt]; rfl⟩⟩
      · obtain ⟨g, hg, hgt⟩ := evS_eq hf hx rfl
        exact ⟨_, h, .inl ⟨_, hc2 hg, fun K' => by simp only [hgt]; rfl⟩⟩
      · obtain ⟨g, hg, hgt⟩ := evS_eq hf hx rfl
        exact ⟨_, h, .inl ⟨_, hc2 hg, fun K' => by simp only [hgt]; rfl⟩⟩
      · rename_i v
        cases v <;> (try exact h.elim)
        obtain ⟨g, hg, hgt⟩ := evS_eq hf hx rfl
        exact ⟨_, h, .inl ⟨_, hc2 hg, fun K' => by simp only [hgt]; rfl⟩⟩
    · rename_i hu
      have hc2 : ∀ {g}, cEv k n x = some g → cOper P k n o = .sil ⟨fun f K => match g.g f with | .string w => K (.int .i64 (.ofNat w.size)) | _ => false⟩ := fun hg => by
        rw [hcop]; unfold cBuiltinM; simp only [hu]; unfold cBuiltin; simp only [cEvs_one hg, hu]; rfl
      cases hx : evS n f x <;> rw [hx] at h <;> (try exact h.elim)
      rename_i v
      cases v <;> (try exact h.elim)
      obtain ⟨g, hg, hgt⟩ := evS_eq hf hx rfl
      exact ⟨_, h, .inl ⟨_, hc2 hg, fun K' => by simp only [hgt]; rfl⟩⟩
  all_goals
    split at h <;> (try exact h.elim)
    rename_i x y
    cases hx : evS n f x <;> rw [hx] at h <;> (try exact h.elim)
    all_goals
      cases hy : evS n f y <;> rw [hy] at h <;> (try exact h.elim)
    all_goals
      obtain ⟨gx, hgx, hxt⟩ := evS_eq hf hx rfl
      obtain ⟨gy, hgy, hyt⟩ := evS_eq hf hy rfl
    all_goals first
      | (rename_i a p b q
         simp only at h
         cases hk : Nat.beq (kIdx a) (kIdx b) with
         | false => rw [hk] at h; exact h.elim
         | true =>
           rw [hk] at h
           simp only [cond_true] at h
           first
           | exact ⟨_, h, VOK.intsOr (F := fun a m n K => K (.int a (bif iLt n m then n else m))) (by rw [hcop]; unfold cBuiltinM; simp only; unfold cBuiltin; simp only [cEvs_two hgx hgy]; rfl) hxt hyt hk fun K' => rfl⟩
           | exact ⟨_, h, VOK.intsOr (F := fun a m n K => K (.int a (bif iLt m n then n else m))) (by rw [hcop]; unfold cBuiltinM; simp only; unfold cBuiltin; simp only [cEvs_two hgx hgy]; rfl) hxt hyt hk fun K' => rfl⟩)
      | (rename_i v w
         simp only at h
         unfold mnS at h
         cases v <;> (try exact h.elim)
         rename_i a
         cases w <;> (try exact h.elim)
         rename_i b
         refine ⟨_, h, VOK.strsOr (by rw [hcop]; unfold cBuiltinM; simp only; unfold cBuiltin; simp only [cEvs_two hgx hgy]; unfold oBuiltin ints; rfl) hxt fun K' => ?_⟩
         simp only [evAll, hxt, hyt]
         show (match pureRun P (builtin .min ⟨ts⟩ o.type ([x, y].map isK).toArray ⟨[.string a, .string b]⟩) with
           | some nx => match nx with
             | .value w => bif pureC 4 w then K' w else false
             | _ => false
           | none => false) = _
         rw [min_run]
         rfl)
theorem stepV_ok (hf : FrameOK k n t f) (hm : MemOK X Z s0 R s m) {K : SV → Prop} (h : stepV P n m f o K) : ∃ v, K v ∧ VOK P k n t s o v := by
  cases hop : o.op with
  | move x => exact move_ok hf (.inl hop) h
  | assign x => exact move_ok hf (.inr hop) h
  | pick c x y => exact pick_ok hf hop h
  | build u ps => exact build_ok hf hop h
  | load u x => exact load_ok hf hm hop h
  | nilCheck x => exact nil_ok hf hop h
  | binOp op u x y w => exact bin_ok hf hop h
  | unOp op u x => exact not_ok hf hop h
  | convert u w x => exact conv_ok hf hm hop h
  | makeFunc fn a c => exact func_ok hf hop h
  | fieldAddr u x i => exact fdA_ok hf hop h
  | field u x i => exact fdS_ok hf hop h
  | indexAddr u x i => exact ixA_ok hf hm hop h
  | index u x i => exact ixV_ok hf hop h
  | slice u x lo hi mx => exact slice_ok hf hm hop h
  | lookup u x i ok => exact look_ok hf hm hop h
  | extract x i => exact ext_ok hf hop h
  | call c =>
    cases hc : c.callee with
    | builtin b => exact blt_ok hf hm hop hc h
    | _ => unfold stepV at h; rw [hop] at h; simp only [hc] at h
  | _ => unfold stepV at h; rw [hop] at h; exact h.elim
end Go.Ab
namespace Go.Ab
open Go.RowKit
/-! what memory says -/
theorem MemOK.more {X Z : Nat → Prop} {s0 : St} {R R' : Nat} {s : St} {m : Mem} (h : MemOK X Z s0 R s m) (hR : R' ≤ R) : MemOK X Z s0 R' s m := ⟨h.fr, by have := h.nx; omega, h.fl, h.ent, h.dis⟩
theorem ent_lt {X Z : Nat → Prop} {s0 s : St} {e : Ent} (h : EntOK X Z s0 s e) {b : Nat} (hb : fpE e b) : b < s.nx := by
  cases e with
  | own b' t l => cases hb; exact h.1.1.1
  | mp b' _ _ => cases hb; exact h.1.1.1
  | it b' _ _ => cases hb; exact h.1.1.1
  | ro _ _ _ _ _ => exact hb.elim
  | fam _ _ _ => exact hb.elim
  | gr a n t sz f => exact h.2.1.lt b hb
  | lop b' _ _ _ _ _ _ _ _ => cases hb; exact h.1.1.1
  | dfr l => exact (h.1 b hb).1.1
theorem rd_lt {X Z : Nat → Prop} {s0 s : St} {e : Ent} (h : EntOK X Z s0 s e) {b : Nat} (hb : rdE e b) : b < s.nx := by
  cases e with
  | ro a n c sz f =>
    obtain ⟨hn, p, rfl⟩ := hb
    rcases h.2 with h1 | ⟨b', p', h1, h2, h3⟩
    · exact absurd h1 hn
    · cases h1; exact h2.1
  | fam c sz l =>
    obtain ⟨x, hx, hn, p, e⟩ := hb
    rcases (h x hx).2 with h1 | ⟨b', p', h1, h2, h3⟩
    · exact absurd h1 hn
    · rw [e] at h1; cases h1; exact h2.1
  | _ => exact hb.elim
/-- an entry stays if its block stays -/
theorem EntOK.keep {X Z : Nat → Prop} {s0 s s' : St} {e : Ent} (h : EntOK X Z s0 s e) {Y : Nat → Prop} (hf : Fr Y s s') (hd : ∀ b, fpE e b → ¬ Y b) (hr : ∀ b, rdE e b → ¬ Y b) : EntOK X Z s0 s' e := by
  cases e with
  | own b t l => exact ⟨h.1.fr hf (hd b rfl), h.2⟩
  | ro a n c sz f =>
    refine ⟨h.1, ?_⟩
    by_cases hn : n = 0
    · exact .inl hn
    · rcases h.2 with h1 | ⟨b, p, rfl, h2, h3⟩
      · exact absurd h1 hn
      · exact .inr ⟨b, p, rfl, h2.fr hf (hr b ⟨hn, p, rfl⟩), h3.1, h3.2.imp_right fun ht => ht.fr hf h2.1 (hr b ⟨hn, p, rfl⟩)⟩
  | gr a n t sz f => exact ⟨h.1, h.2.1.fr hf hd, h.2.2⟩
  | lop b st pd n f ps x y d =>
    obtain ⟨⟨⟨h1, h2⟩, h3, t, h4, h5⟩, h6⟩ := h
    exact ⟨⟨⟨Nat.lt_of_lt_of_le h1 hf.1, by unfold St.ok; rw [hf.2.2]; exact h2⟩, h3, t, by rw [hf.2.1 b h1 (hd b rfl)]; exact h4, h5⟩, h6⟩
  | mp b kv g => exact ⟨h.1.fr hf (hd b rfl), h.2⟩
  | it b w p =>
    obtain ⟨⟨⟨h1, h2⟩, h3, h4⟩, h6⟩ := h
    exact ⟨⟨⟨Nat.lt_of_lt_of_le h1 hf.1, by unfold St.ok; rw [hf.2.2]; exact h2⟩, h3, by rw [hf.2.1 b h1 (hd b rfl)]; exact h4⟩, h6⟩
  | fam c sz l =>
    intro x hx
    refine ⟨(h x hx).1, ?_⟩
    by_cases hn : x.2.1 = 0
    · exact .inl hn
    · rcases (h x hx).2 with h1 | ⟨b, p, e, h2, h3⟩
      · exact absurd h1 hn
      · exact .inr ⟨b, p, e, h2.fr hf (hr b ⟨x, hx, hn, p, e⟩), h3.1, h3.2.imp_right fun ht => ht.fr hf h2.1 (hr b ⟨x, hx, hn, p, e⟩)⟩
  | dfr l =>
    refine ⟨fun b hb => ?_, h.2⟩
    obtain ⟨⟨h1, h2⟩, h3, h4, h5⟩ := h.1 b hb
    exact ⟨⟨Nat.lt_of_lt_of_le h1 hf.1, by unfold St.ok; rw [hf.2.2]; exact h2⟩, h3, by rw [hf.2.1 b h1 (hd b hb)]; exact h4, h5⟩
theorem MemOK.fls {X Z : Nat → Prop} {s0 : St} {R : Nat} {s : St} {m : Mem} (h : MemOK X Z s0 R s m) : s.fl ≤ s.nx := by
  have h1 := h.fr.1; have h2 := h.fr.2.2; have h3 := h.fl; omega
/-- blocks of the run's own -/
def mine (X : Nat → Prop) (s0 : St) (b : Nat) : Prop := s0.nx ≤ b ∨ X b
theorem ent_mine {X Z : Nat → Prop} {s0 s : St} {e : Ent} (h : EntOK X Z s0 s e) {b : Nat} (hb : fpE e b) : mine X s0 b := by
  cases e with
  | own b' t l => cases hb; exact h.2
  | ro _ _ _ _ _ => exact hb.elim
  | fam _ _ _ => exact hb.elim
  | gr a n t sz f => exact h.2.2 b hb
  | lop b' _ _ _ _ _ _ _ _ => cases hb; exact h.2
  | dfr l => exact (h.1 b hb).2.2.2
  | mp b' _ _ => cases hb; exact h.2
  | it b' _ _ => cases hb; exact h.2
theorem Fr.mine {X : Nat → Prop} {s0 s s' : St} (h : Fr X s0 s) {Y : Nat → Prop} (k : Fr Y s s') (hy : ∀ b, Y b → mine X s0 b) : Fr X s0 s' := by
  refine ⟨Nat.le_trans h.1 k.1, fun b hb hx => ?_, k.2.2.trans h.2.2⟩
  rw [k.2.1 b (Nat.lt_of_lt_of_le hb h.1) fun hyb => ?_]
  · exact h.2.1 b hb hx
  · rcases hy b hyb with h1 | h1
    · omega
    · exact hx h1
/-- memory changed in blocks of the run's own that no entry names -/
theorem MemOK.step {X Z : Nat → Prop} {s0 : St} {R : Nat} {s s' : St} {m : Mem} (h : MemOK X Z s0 R s m) {Y : Nat → Prop} (k : Fr Y s s') (hy : ∀ b, Y b → mine X s0 b) (hd : ∀ x ∈ m, ∀ b, fpE x.2 b → ¬ Y b) (hr : ∀ x ∈ m, ∀ b, rdE x.2 b → ¬ Y b) {R' : Nat} (hn : s'.nx + R' ≤ 4398046511104) : MemOK X Z s0 R' s' m :=
  ⟨h.fr.mine k hy, hn, h.fl, fun x hx => (h.ent x hx).keep k (hd x hx) (hr x hx), h.dis⟩
theorem MemOK.keep {X Z : Nat → Prop} {s0 : St} {R N : Nat} {s s' : St} {m : Mem} (h : MemOK X Z s0 (R + N) s m) (k : Kp N s s') : MemOK X Z s0 R s' m :=
  h.step (Y := fun _ => False) (Fr.of_keep k.1) (fun _ h => h.elim) (fun _ _ _ _ h => h) (fun _ _ _ _ h => h) (by have h1 := h.nx; have h2 := k.2; omega)
theorem MemOK.cons {X Z : Nat → Prop} {s0 : St} {R : Nat} {s : St} {m : Mem} (h : MemOK X Z s0 R s m) {i : Nat} {e : Ent} (he : EntOK X Z s0 s e) (hd : ∀ x ∈ m, apE e x.2) : MemOK X Z s0 R s ((i, e) :: m) :=
  ⟨h.fr, h.nx, h.fl, fun x hx => by
    rcases List.mem_cons.1 hx with rfl | hx
    · exact he
    · exact h.ent x hx, List.pairwise_cons.2 ⟨fun x hx => hd x hx, h.dis⟩⟩
/-- a block that no entry can name -/
theorem apE_new {X Z : Nat → Prop} {s0 s : St} {e x : Ent} (hx : EntOK X Z s0 s x) (hr : ∀ b, ¬ rdE e b) (hn : ∀ b, fpE e b → s.nx ≤ b) : apE e x :=
  ⟨fun b hb hxb => by have h1 := ent_lt hx hxb; have h2 := hn b hb; omega, fun b hb hxb => by have h1 := rd_lt hx hxb; have h2 := hn b hb; omega, fun b hb => (hr b hb).elim⟩
theorem MemOK.push {X Z : Nat → Prop} {s0 : St} {R : Nat} {s : St} {m : Mem} (h : MemOK X Z s0 (R + 1) s m) {l : List SV} {e : TypeId} (hl : l.length ≤ 32768) (he : Nat.beq e ro = false) (i : Nat) :
    MemOK X Z s0 R (s.push (mkC (dens l) e false)) ((i, .own s.nx e l) :: m) := by
  have hlt : s.nx < 4398046511104 := by have := h.nx; omega
  have h1 : MemOK X Z s0 R (s.push (mkC (dens l) e false)) m := h.keep (Kp.push _ hlt)
  refine h1.cons ⟨OwnE.push (by rw [dens_length]; exact hl) hlt h.fls he, .inl h.fr.1⟩ fun x hx => apE_new (h.ent x hx) (fun _ hb => hb) fun b hb => by cases hb; exact Nat.le_refl _
theorem MemOK.pushO {X Z : Nat → Prop} {s0 : St} {R : Nat} {s : St} {m : Mem} (h : MemOK X Z s0 (R + 1) s m) {l : List SV} {e : TypeId} (hl : l.length ≤ 32768) (he : Nat.beq e ro = false) (i : Nat) :
    MemOK X Z s0 R (s.push (mkO e (dens l))) ((i, entO s.nx e l) :: m) := by
  unfold mkO entO
  cases hb : Nat.beq e mapMk with
  | false => exact h.push hl he i
  | true =>
    have hlt : s.nx < 4398046511104 := by have := h.nx; omega
    have h1 : MemOK X Z s0 R (s.push (.map [] 0)) m := h.keep (Kp.push _ hlt)
    exact h1.cons (e := .mp s.nx jkM noM) ⟨MapF.push hlt h.fls, .inl h.fr.1⟩ fun x hx => apE_new (h.ent x hx) (fun _ hb => hb) fun b hb => by cases hb; exact Nat.le_refl _
def isI (i : Nat) (x : Nat × Ent) : Bool := Nat.beq x.1 i
theorem getM_split : ∀ {m : Mem} {i : Nat} {e : Ent}, getM m i = some e → ∃ m1 j m2, m = m1 ++ (j, e) :: m2 ∧ ∀ v, setM v m i = m1 ++ (j, v) :: m2
  | (j, w) :: r, i, e, h => by
    have h : (bif Nat.beq j i then some w else getM r i) = some e := h
    cases hb : Nat.beq j i with
    | true =>
      rw [hb] at h; cases h
      exact ⟨[], j, r, rfl, fun v => by show (bif Nat.beq j i then (j, v) :: r else (j, w) :: setM v r i) = _; rw [hb]; rfl⟩
    | false =>
      rw [hb] at h
      obtain ⟨m1, j', m2, h1, h2⟩ := getM_split h
      exact ⟨(j, w) :: m1, j', m2, by rw [h1]; rfl, fun v => by show (bif Nat.beq j i then (j, v) :: r else (j, w) :: setM v r i) = _; rw [hb, h2 v]; rfl⟩
theorem setM_same : ∀ {m : Mem} {i : Nat} {e : Ent}, getM m i = some e → setM e m i = m
  | (j, w) :: r, i, e, h => by
    have h : (bif Nat.beq j i then some w else getM r i) = some e := h
    show (bif Nat.beq j i then (j, e) :: r else (j, w) :: setM e r i) = _
    cases hb : Nat.beq j i with
    | true => rw [hb] at h; cases h; rfl
    | false => rw [hb] at h; rw [setM_same h]; rfl
theorem remM_split : ∀ {m : Mem} {i : Nat} {e : Ent}, getM m i = some e → ∃ m1 j m2, m = m1 ++ (j, e) :: m2 ∧ remM m i = m1 ++ m2
  | (j, w) :: r, i, e, h => by
    have h : (bif Nat.beq j i then some w else getM r i) = some e := h
    cases hb : Nat.beq j i with
    | true =>
      rw [hb] at h; cases h
      exact ⟨[], j, r, rfl, by show (bif Nat.beq j i then r else (j, w) :: remM r i) = _; rw [hb]; rfl⟩
    | false =>
      rw [hb] at h
      obtain ⟨m1, j', m2, h1, h2⟩ := remM_split h
      exact ⟨(j, w) :: m1, j', m2, by rw [h1]; rfl, by show (bif Nat.beq j i then r else (j, w) :: remM r i) = _; rw [hb, h2]; rfl⟩
/-- an entry whose block is changed -/
theorem MemOK.set {X Z : Nat → Prop} {s0 : St} {R : Nat} {s s' : St} {m : Mem} (h : MemOK X Z s0 R s m) {i : Nat} {e e' : Ent} (hi : getM m i = some e) (k : Fr (fpE e) s s') (hnx : s'.nx = s.nx) (he : EntOK X Z s0 s' e') (hf : ∀ b, fpE e' b → fpE e b) (hr : ∀ b, ¬ rdE e' b) : MemOK X Z s0 R s' (setM e' m i) := by
  obtain ⟨m1, j, m2, rfl, h2⟩ := getM_split hi
  rw [h2]
  have hp := List.pairwise_append.1 h.dis
  have hp2 := List.pairwise_cons.1 hp.2.1
  have hme : EntOK X Z s0 s e := h.get hi
  have hfr : Fr X s0 s' := h.fr.mine k fun b hb => ent_mine hme hb
  refine ⟨hfr, by rw [hnx]; exact h.nx, h.fl, fun x hx => ?_, List.pairwise_append.2 ⟨hp.1, List.pairwise_cons.2 ⟨fun y hy => ⟨fun b hb => (hp2.1 y hy).1 b (hf b hb), fun b hb => (hp2.1 y hy).2.1 b (hf b hb), fun b hb => (hr b hb).elim⟩, hp2.2⟩, fun x hx y hy => ?_⟩⟩
  · rcases List.mem_append.1 hx with hx | hx
    · exact (h.ent x (by simp [hx])).keep k (fun b hb => (hp.2.2 x hx (j, e) (by simp)).1 b hb) fun b hb => (hp.2.2 x hx (j, e) (by simp)).2.2 b hb
    · rcases List.mem_cons.1 hx with rfl | hx
      · exact he
      · exact (h.ent x (by simp [hx])).keep k (fun b hb hb' => (hp2.1 x hx).1 b hb' hb) fun b hb hb' => (hp2.1 x hx).2.1 b hb' hb
  · rcases List.mem_cons.1 hy with rfl | hy
    · have h3 := hp.2.2 x hx (j, e) (by simp)
      exact ⟨fun b hb hb' => h3.1 b hb (hf b hb'), fun b _ hb' => hr b hb', fun b hb hb' => h3.2.2 b hb (hf b hb')⟩
    · exact hp.2.2 x hx y (by simp [hy])
theorem MemOK.rem {X Z : Nat → Prop} {s0 : St} {R R' : Nat} {s s' : St} {m : Mem} (h : MemOK X Z s0 R s m) {i : Nat} {e : Ent} (hi : getM m i = some e) (k : Fr (fpE e) s s') (hn : s'.nx + R' ≤ 4398046511104) : MemOK X Z s0 R' s' (remM m i) := by
  obtain ⟨m1, j, m2, rfl, h2⟩ := remM_split hi
  rw [h2]
  have hp := List.pairwise_append.1 h.dis
  have hp2 := List.pairwise_cons.1 hp.2.1
  have hme : EntOK X Z s0 s e := h.get hi
  refine ⟨h.fr.mine k fun b hb => ent_mine hme hb, hn, h.fl, fun x hx => ?_, List.pairwise_append.2 ⟨hp.1, hp2.2, fun x hx y hy => hp.2.2 x hx y (by simp [hy])⟩⟩
  rcases List.mem_append.1 hx with hx | hx
  · exact (h.ent x (by simp [hx])).keep k (fun b hb => (hp.2.2 x hx (j, e) (by simp)).1 b hb) fun b hb => (hp.2.2 x hx (j, e) (by simp)).2.2 b hb
  · exact (h.ent x (by simp [hx])).keep k (fun b hb hb' => (hp2.1 x hx).1 b hb' hb) fun b hb hb' => (hp2.1 x hx).2.1 b hb' hb
theorem remM_sub {m : Mem} {i : Nat} : ∀ x ∈ remM m i, x ∈ m := by
  induction m with
  | nil => intro x hx; exact hx
  | cons y r ih =>
    intro x hx
    obtain ⟨j, w⟩ := y
    have hx : x ∈ (bif Nat.beq j i then r else (j, w) :: remM r i) := hx
    cases hb : Nat.beq j i with
    | true => rw [hb] at hx; exact List.mem_cons_of_mem _ hx
    | false =>
      rw [hb] at hx
      rcases List.mem_cons.1 hx with rfl | hx
      · simp
      · exact List.mem_cons_of_mem _ (ih x hx)
/-! new blocks -/
section
variable (P : Program)
def alS (n : Nat) (f : Frm) (o : Oper) (K : TypeId → List SV → (Nat → Nat → SV) → Prop) : Prop := match o.op with
  | .alloc e => match zeroL P e with
    | some z => bif Nat.ble z.length 32768 && (!Nat.beq e ro && !Nat.beq e mapMk) then forceV z fun z => K e z fun i b => .ptr i b 0 else False
    | none => False
  | .box e x => njS (evS n f x) fun v => bif sgO v && (Nat.ble (vcS v).length 32768 && (!Nat.beq e ro && !Nat.beq e mapMk)) then forceL (vcS v) fun l => K e l fun i b => .ptr i b 0 else False
  | .buildSlice t len ps => match elemOfSlice P t with
    | some e => match sizeT P e, zeroL P e with
      | some z, some zs => bif Nat.ble (Nat.mul len z) 32768 && (Nat.beq zs.length z && (!Nat.beq e ro && !Nat.beq e mapMk)) then
          forceV (repL zs len) fun l => fillS n f (fun i => some (Nat.mul i z, z)) ps.toList l fun l => bif Nat.ble l.length 32768 then K e l fun i b => .slc i b 0 len len else False
        else False
      | _, _ => False
    | none => False
  | .makeMap _ r => match r with
    | none => K mapMk [] fun i b => .mpv i b
    | some _ => False
  | _ => False
def isAl (o : Oper) : Bool := match o.op with
  | .alloc _ | .box _ _ | .buildSlice _ _ _ | .makeMap _ _ => true
  | _ => false
end
section
variable {P : Program} {k n : Nat} {t : Fm Value k} {f : Frm} {m : Mem} {X Z : Nat → Prop} {s0 s : St} {R : Nat} {o : Oper}
theorem not_t {b : Bool} (h : (!b) = true) : b = false := by cases b <;> first | rfl | cases h
theorem alS_ok (hf : FrameOK k n t f) {K : TypeId → List SV → (Nat → Nat → SV) → Prop} (h : alS P n f o K) :
    ∃ e l mk, K e l mk ∧ l.length ≤ 32768 ∧ Nat.beq e ro = false ∧ ∃ c, cOper P k n o = .al c ∧ ∀ i K', c.m t K' = K' (mkO e (dens l)) (fun b => den (mk i b)) := by
  unfold alS at h
  split at h <;> (try exact h.elim)
  · rename_i e hop
    split at h <;> (try exact h.elim)
    rename_i z hz
    cases hc : (Nat.ble z.length 32768 && (!Nat.beq e ro && !Nat.beq e mapMk)) with
    | false => rw [hc] at h; exact h.elim
    | true =>
      rw [hc] at h
      simp only [cond_true, forceV_eq] at h
      obtain ⟨h1, h2⟩ := and_true hc
      obtain ⟨h2, h2m⟩ := and_true h2
      have h2m := not_t h2m
      have hl : (dens (ofVs z)).length = z.length := by rw [dens_ofVs]
      refine ⟨e, _, _, h, by rw [← dens_length, hl]; exact ble_true h1, not_t h2, _, (by unfold cOper; rw [hop]; simp only; unfold oAlloc; simp only [hz]; rfl), fun i K' => ?_⟩
      show mkL z e (fun b => ptr b 0) K' = _
      unfold mkL mkO
      rw [h1, dens_ofVs, h2m]
      rfl
  · rename_i e x hop
    obtain ⟨hj, h⟩ := njS_inv h
    cases hc : (sgO (evS n f x) && (Nat.ble (vcS (evS n f x)).length 32768 && (!Nat.beq e ro && !Nat.beq e mapMk))) with
    | false => rw [hc] at h; exact h.elim
    | true =>
      rw [hc] at h
      simp only [cond_true, forceL_eq] at h
      obtain ⟨h1, h2⟩ := and_true hc
      obtain ⟨h2, h3⟩ := and_true h2
      obtain ⟨h3, h3m⟩ := and_true h3
      have h3m := not_t h3m
      obtain ⟨g, hg, hgt⟩ := evS_ok hf x hj
      obtain ⟨hv1, hv2⟩ := vcS_ok h1
      refine ⟨e, _, _, h, ble_true h2, not_t h3, _, (by unfold cOper; rw [hop]; simp only [hg]; rfl), fun i K' => ?_⟩
      show (match g.g t with
        | .agg cs => mkL cs.toList e (fun b => ptr b 0) K'
        | .chan _ => false
        | v => K' (.cells 0 1 v e false) (fun b => ptr b 0)) = _
      rw [hgt]
      have key : ∀ v : Value, isCh v = false → Nat.ble (vcells v).length 32768 = true → (match v with
        | .agg cs => mkL cs.toList e (fun b => ptr b 0) K'
        | .chan _ => false
        | v => K' (.cells 0 1 v e false) (fun b => ptr b 0)) = K' (mkC (vcells v) e false) (fun b => ptr b 0) := by
        intro v hv hl
        cases v <;> first | rfl | (cases hv; done) | (rename_i cs; obtain ⟨cs⟩ := cs; show mkL cs e _ K' = _; unfold mkL; rw [show Nat.ble cs.length 32768 = true from hl]; rfl)
      rw [key _ hv2 (by rw [hv1, dens_length]; exact h2), hv1]
      unfold mkO
      rw [h3m]
      rfl
  · rename_i u len ps hop
    split at h <;> (try exact h.elim)
    rename_i e he
    split at h <;> (try exact h.elim)
    rename_i z zs hz hzs
    cases hc : (Nat.ble (Nat.mul len z) 32768 && (Nat.beq zs.length z && (!Nat.beq e ro && !Nat.beq e mapMk))) with
    | false => rw [hc] at h; exact h.elim
    | true =>
      rw [hc] at h
      simp only [cond_true, forceV_eq] at h
      obtain ⟨h1, h2⟩ := and_true hc
      obtain ⟨h2, h3⟩ := and_true h2
      obtain ⟨h3, h3m⟩ := and_true h3
      have h3m := not_t h3m
      obtain ⟨gs, h4, l', h5, h6⟩ := fillS_ok hf h
      rw [dens_ofVs] at h5
      cases hl : Nat.ble l'.length 32768 with
      | false => rw [hl] at h6; exact h6.elim
      | true =>
        rw [hl] at h6
        simp only [cond_true] at h6
        refine ⟨e, l', _, h6, ble_true hl, not_t h3, _, (by unfold cOper; rw [hop]; simp only [h4]; unfold oBuildSlice; simp only [he, hz, hzs, h1, h2, Bool.and_self, cond_true]; rfl), fun i K' => ?_⟩
        simp only [h5]
        show mkL (dens l') e _ K' = _
        unfold mkL mkO
        rw [dens_length, hl, h3m]
        rfl
  · rename_i u r hop
    cases r with
    | some _ => exact h.elim
    | none => exact ⟨mapMk, [], _, h, by simp, rfl, _, (by unfold cOper; rw [hop]; simp only; unfold cOpt; rfl), fun i K' => rfl⟩
end
/-! stores, appends, calls -/
/-- what a call comes to, whoever asks -/
structure callS (call : CallT) (fv : SV) (args : List SV) (m : Mem) (R ni : Nat) (K : SV → Mem → Nat → Nat → Prop) : Prop where
  run : ∀ X Z s0 s, MemOK X Z s0 R s m → ∀ (Kr : KV) (r : Bool), (∀ w m' R' ni' s', MemOK X Z s0 R' s' m' → K w m' R' ni' → Kr (den w) s' = r) → call (den fv) (dens args) Kr s = r
section
variable (P : Program)
/-- an element in place of another one -/
def updG (j : Nat) (l : List SV) (g : Nat → List SV) (q : Nat) : List SV := bif Nat.beq q j then l else g q
/-- cells, said otherwise -/
structure lsS (l : List SV) (K : List SV → Prop) : Prop where
  ex : ∃ l', l = l' ∧ K l'
theorem lsS_of {l l' : List SV} {K : List SV → Prop} (h : l = l') (k : K l') : lsS l K := ⟨l', h, k⟩
theorem lsS_rfl {l : List SV} {K : List SV → Prop} (k : K l) : lsS l K := ⟨l, rfl, k⟩
def stS (m : Mem) (z : Nat) (a v : SV) (K : Mem → Prop) : Prop := match a with
  | .el i b p sz j o => match getM m i with
    | some e => match e with
      | .gr a' n' t' sz' g => eqA (some ⟨b, p, none⟩) a' (eqS sz sz' (ltS j n' (bif Nat.beq (vcS v).length z && (sgO v && okL (vcS v)) then lsS (g j) fun l0 => putS o (vcS v) l0 fun l => setK (.gr a' n' t' sz' (updG j l g)) m i K else False)))
      | _ => False
    | none => False
  | .ptr i b o => match getM m i with
    | some e => match e with
      | .own b' t l => eqS b b' (bif Nat.beq (vcS v).length z && (sgO v && okL (vcS v)) then putS o (vcS v) l fun l => setK (.own b t l) m i K else False)
      | _ => False
    | none => False
  | _ => False
/-- the elements of a slice that has grown -/
def grow (n sz : Nat) (g : Nat → List SV) (l : List SV) (j : Nat) : List SV := bif Nat.blt j n then g j else (l.drop (Nat.mul (Nat.sub j n) sz)).take sz
/-- the cells of a slice over a block of the run's own -/
def srcS (m : Mem) (y : SV) (sz : Nat) (K : Nat → List SV → Prop) : Prop := match y with
  | .slc i b o n _ => match getM m i with
    | some e => match e with
      | .own b' _ l => eqS b b' (dropS o l fun l => takeS (Nat.mul n sz) l fun l => K n l)
      | _ => False
    | none => False
  | _ => False
def apS (m : Mem) (R ni : Nat) (e sz : Nat) (x y : SV) (K : SV → Mem → Nat → Nat → Prop) : Prop := match R with
  | 0 => False
  | R + 1 => srcS m y sz fun n l => bif okL l && (Nat.ble 1 n && !Nat.beq e ro) then (match x with
      | .val v => match v with
        | .slice a p c => match a with
          | none => bif Nat.beq p 0 && Nat.beq c 0 && Nat.ble l.length 32768 then ∀ a, K (.sl ni a n n) ((ni, .gr a n e sz (grow 0 sz (fun _ => []) l)) :: m) R (ni + 1) else False
          | some _ => False
        | _ => False
      | .sl i a p c => match getM m i with
        | some en => match en with
          | .gr a' p' e' sz' g => eqA a a' (eqS p p' (eqS p c (eqS e e' (eqS sz sz' (ltS (Nat.add (Nat.mul p sz) l.length) 32769 (remK m i fun m => ∀ a, K (.sl ni a (Nat.add p n) (Nat.add p n)) ((ni, .gr a (Nat.add p n) e sz (grow p sz g l)) :: m) R (ni + 1)))))))
          | _ => False
        | none => False
      | .slc i b o p c => match getM m i with
        | some en => match en with
          | .own b' e' l0 => bif Nat.beq o 0 && (Nat.beq p c && Nat.beq l0.length (Nat.mul p sz)) then eqS b b' (eqS e e' (ltS (Nat.add (Nat.mul p sz) l.length) 32769 (remK m i fun m => ∀ a, K (.sl ni a (Nat.add p n) (Nat.add p n)) ((ni, .gr a (Nat.add p n) e sz (grow p sz (grow 0 sz (fun _ => []) l0) l)) :: m) R (ni + 1)))) else False
          | _ => False
        | none => False
      | _ => False) else False
/-- the elements of two slices -/
def growF (n : Nat) (g h : Nat → List SV) (j : Nat) : List SV := bif Nat.blt j n then g j else h (Nat.sub j n)
structure flE (n : Nat) (h : Nat → List SV) (K : Prop) : Prop where
  h : ∀ j, j < n → okL (h j) = true
  k : K
theorem flE_intro {n : Nat} {h : Nat → List SV} {K : Prop} (h1 : ∀ j, j < n → okL (h j) = true) (hK : K) : flE n h K := ⟨h1, hK⟩
/-- elements from another list, from a place on -/
def putG (lo k : Nat) (h g : Nat → List SV) (q : Nat) : List SV := bif Nat.ble lo q && Nat.blt q (Nat.add lo k) then h (Nat.sub q lo) else g q
def nlK (q : Option (Option Addr)) (K : Prop) : Prop := match q with
  | none => K
  | some a => eqA a none K
def newK (R : Nat) (K : Nat → Prop) : Prop := match R with
  | 0 => False
  | R + 1 => K R
/-- an append of n' elements h -/
def apX (m : Mem) (R ni e sz : Nat) (x : SV) (q : Option (Option Addr)) (n' : Nat) (h : Nat → List SV) (K : SV → Mem → Nat → Nat → Prop) : Prop := bif Nat.beq e ro then False else match x with
  | .val v => match v with
    | .slice a p c => match a with
      | none => bif Nat.beq p 0 && Nat.beq c 0 then emS n' (nlK q (K (.val (.slice none 0 0)) m R ni)) (flE n' h (ltS (Nat.mul n' sz) 32769 (newK R fun R => ∀ a, K (.sl ni a n' n') ((ni, .gr a n' e sz h) :: m) R (ni + 1)))) else False
      | some _ => False
    | _ => False
  | .slc i b o p c => match getM m i with
    | some en => match en with
      | .own b' e' l => match l with
        | [] => bif Nat.beq o 0 && (Nat.beq p 0 && Nat.beq c 0) then eqS b b' (eqS e e' (emS n' (nlK q (K (.slc i b 0 0 0) m R ni)) (flE n' h (ltS (Nat.mul n' sz) 32769 (newK R fun R => remK m i fun m => ∀ a, K (.sl ni a n' n') ((ni, .gr a n' e sz h) :: m) R (ni + 1)))))) else False
        | x0 :: l1 => bif Nat.beq o 0 && (Nat.beq p c && Nat.beq (x0 :: l1).length (Nat.mul p sz)) then eqS b b' (eqS e e' (emS n' (nlK q (K (.slc i b 0 p p) m R ni)) (flE n' h (ltS (Nat.add (Nat.mul p sz) (Nat.mul n' sz)) 32769 (newK R fun R => remK m i fun m => ∀ a, K (.sl ni a (Nat.add p n') (Nat.add p n')) ((ni, .gr a (Nat.add p n') e sz (growF p (grow 0 sz (fun _ => []) (x0 :: l1)) h)) :: m) R (ni + 1)))))) else False
      | _ => False
    | none => False
  | .sl i a p c => match getM m i with
    | some en => match en with
      | .gr a3 p3 e3 sz3 g => eqA a a3 (eqS c p3 (eqS e e3 (eqS sz sz3 (ltS p (Nat.add c 1) (emS n' (nlK q (K (.sl i a p c) m R ni)) (flE n' h (orS (Nat.add p n' ≤ c) (setK (.gr a3 p3 e3 sz3 (putG p n' h g)) m i fun m => K (.sl i a (Nat.add p n') c) m R ni) (p = c) (ltS (Nat.add (Nat.mul p sz) (Nat.mul n' sz)) 32769 (newK R fun R => remK m i fun m => ∀ a, K (.sl ni a (Nat.add p n') (Nat.add p n')) ((ni, .gr a (Nat.add p n') e sz (growF p g h)) :: m) R (ni + 1))))))))))
      | _ => False
    | none => False
  | _ => False
def apF (m : Mem) (R ni e sz : Nat) (x y : SV) (K : SV → Mem → Nat → Nat → Prop) : Prop := match y with
  | .sl i2 a2 p2 _ => match getM m i2 with
    | some en => match en with
      | .ro a' n' _ sz' h => eqA a2 a' (eqS sz sz' (orS (0 < n' ∧ p2 ≤ n') (apX m R ni e sz x none p2 h K) (p2 = n') (apX m R ni e sz x (some a2) p2 h K)))
      | .gr a' n' _ sz' h => eqA a2 a' (ltS p2 (Nat.add n' 1) (eqS sz sz' (apX m R ni e sz x none p2 h K)))
      | _ => False
    | none => False
  | .sb i2 b2 q2 lo sz2 p2 c2 => match getM m i2 with
    | some en => match en with
      | .ro a' n' _ sz' h => eqA (some ⟨b2, q2, none⟩) a' (eqS sz2 sz' (eqS sz sz' (ltS 0 n' (ltS (Nat.add lo p2) (Nat.add n' 1) (ltS p2 (Nat.add c2 1) (apX m R ni e sz x none p2 (fun j => h (Nat.add lo j)) K))))))
      | .gr a' n' _ sz' h => eqA (some ⟨b2, q2, none⟩) a' (eqS sz2 sz' (eqS sz sz' (ltS 0 n' (ltS (Nat.add lo p2) (Nat.add n' 1) (ltS p2 (Nat.add c2 1) (apX m R ni e sz x none p2 (fun j => h (Nat.add lo j)) K))))))
      | _ => False
    | none => False
  | .val v => match v with
    | .slice a p c => match a with
      | none => bif Nat.beq p 0 && Nat.beq c 0 then apX m R ni e sz x none 0 (fun _ => []) K else False
      | some _ => False
    | _ => False
  | y => apS m R ni e sz x y K
/-- an append of zeroes -/
def apZ (m : Mem) (R ni e sz : Nat) (x y : SV) (z : List Value) (K : SV → Mem → Nat → Nat → Prop) : Prop := match y with
  | .int _ j => ixS j 32769 fun q => apX m R ni e sz x none q (fun _ => ofVs z) K
  | _ => False
def updM (f : Nat → Option SV) (a : Nat) (v : SV) (x : Nat) : Option SV := bif Nat.beq x a then some v else f x
def muS (m : Mem) (t : TypeId) (x i v : SV) (K : Mem → Prop) : Prop := match mapT P t with
  | some q => match q with
    | (kt, d, _) => match x with
      | .mpv e b => match getM m e with
        | some en => match en with
          | .mp b' kv f => eqS b b' (kyS P kt d kv f i fun kv' f' a => setK (.mp b' kv' (updM f' a v)) m e K)
          | _ => False
        | none => False
      | _ => False
  | none => False
def clS (m : Mem) (t : TypeId) (x : SV) (K : Mem → Prop) : Prop := match P.underlying t with
  | some (.map _ _) => match x with
    | .mpv e b => match getM m e with
      | some en => match en with
        | .mp b' kv _ => eqS b b' (setK (.mp b' kv noM) m e K)
        | _ => False
      | none => False
    | _ => False
  | _ => False
/-- a range over a string -/
def rstS (n : Nat) (m : Mem) (f : Frm) (t : TypeId) (x : Operand) (R ni : Nat) (K : SV → Mem → Nat → Nat → Prop) : Prop := match P.underlying t with
  | some .string => match evS n f x with
    | .val v => match v with
      | .string w => match R with
        | 0 => False
        | R + 1 => ∀ b, K (.ptr ni b 0) ((ni, .it b w 0) :: m) R (ni + 1)
      | _ => False
    | _ => False
  | _ => False
/-- a letter of a string -/
structure dcS (w : ByteArray) (p : Nat) (K : Nat → Nat → Prop) : Prop where
  ex : ∃ c d, Utf8.decode w p = (c, d) ∧ K c d
theorem dcS_of {w : ByteArray} {p c d : Nat} {K : Nat → Nat → Prop} (h : Utf8.decode w p = (c, d)) (hK : K c d) : dcS w p K := ⟨c, d, h, hK⟩
def nxS (n : Nat) (m : Mem) (f : Frm) (x : Operand) (str : Bool) (R ni : Nat) (K : SV → Mem → Nat → Nat → Prop) : Prop := bif str then (match evS n f x with
    | .ptr i b o => bif Nat.beq o 0 then (match getM m i with
      | some en => match en with
        | .it b' w p => eqS b b' (brS (Nat.blt p w.size) (dcS w p fun c d => setK (.it b w (Nat.add p d)) m i fun m => K (.tup [.bool true, .int .i64 (.ofNat p), .int .i32 (.ofNat c)]) m R ni) (K (.tup [.bool false]) m R ni))
        | _ => False
      | none => False) else False
    | _ => False) else False
def efS (call : CallT) (n : Nat) (m : Mem) (f : Frm) (o : Oper) (R ni : Nat) (K : SV → Mem → Nat → Nat → Prop) : Prop := match o.op with
  | .store t x y => match sizeT P t with
    | some z => njS (evS n f y) fun v => stS m z (evS n f x) v fun m => K .junk m R ni
    | none => False
  | .call c => match c.callee with
    | .value x => njS (evS n f x) fun fv => evL n f c.args.toList fun args => callS call fv args m R ni K
    | .builtin b => match b with
      | .append => match c.args.toList, c.argTypes.toList with
        | [x, y], [t, u] => match elemOfSlice P t, srcOf P u with
          | some e, some sl => match P.info? e, zeroL P e with
            | some i, some z => bif Nat.beq z.length i.size && (Nat.ble i.bytes 1000000 && Nat.ble 1 i.size) then (bif sl then apF m R ni e i.size (evS n f x) (evS n f y) K else apZ m R ni e i.size (evS n f x) (evS n f y) z K) else False
            | _, _ => False
          | _, _ => False
        | _, _ => False
      | .clear => match c.args.toList, c.argTypes.toList with
        | [x], t :: _ => clS P m t (evS n f x) fun m => K .junk m R ni
        | _, _ => False
      | _ => False
    | _ => False
  | .mapUpdate t x i v => njS (evS n f i) fun i => njS (evS n f v) fun v => muS P m t (evS n f x) i v fun m => K .junk m R ni
  | .insert t x i v => njS (evS n f i) fun i => njS (evS n f v) fun v => muS P m t (evS n f x) i v fun m => K .junk m R ni
  | .range t x => rstS P n m f t x R ni K
  | .next x str => nxS n m f x str R ni K
  | _ => False
def isEf (o : Oper) : Bool := match o.op with
  | .store _ _ _ => true
  | .call c => match c.callee with
    | .value _ => true
    | .builtin b => match b with
      | .append | .clear => true
      | _ => false
    | _ => false
  | .mapUpdate _ _ _ _ | .insert _ _ _ _ => true
  | .range _ _ => true
  | .next _ _ => true
  | _ => false
end
section
variable {P : Program} {k n : Nat} {t : Fm Value k} {f : Frm} {m : Mem} {X Z : Nat → Prop} {s0 s : St} {R : Nat} {o : Oper} {call : CallT}
variable {ni : Nat}
theorem flS_ok {v : SV} (h : flS v = true) : flat1 (den v) = true := by cases v <;> first | rfl | (cases h; done) | exact h
theorem okL_ok : ∀ {l : List SV}, okL l = true → (dens l).all flat1 = true
  | [], _ => rfl
  | x :: l, h => by
    have h : (flS x && okL l) = true := h
    obtain ⟨h1, h2⟩ := and_true h
    show (flat1 (den x) && (dens l).all flat1) = true
    rw [flS_ok h1, okL_ok h2]; rfl
theorem updG_same {j : Nat} {l : List SV} {g : Nat → List SV} : updG j l g j = l := by unfold updG; rw [Nat.beq_refl]; rfl
theorem updG_other {j q : Nat} {l : List SV} {g : Nat → List SV} (h : q ≠ j) : updG j l g q = g q := by
  unfold updG
  cases hb : Nat.beq q j with
  | true => exact absurd (beq_true hb) h
  | false => rfl
theorem slL_upd {g : Nat → List SV} {sz j o : Nat} {vs : List SV} (ho : o + vs.length ≤ (g j).length) : ∀ {n : Nat}, (∀ q, q < n → (g q).length = sz) → j < n →
    slL (updG j ((g j).take o ++ vs ++ (g j).drop (o + vs.length)) g) n = (slL g n).take (j * sz + o) ++ dens vs ++ (slL g n).drop (j * sz + o + (dens vs).length)
  | n + 1, h, hj => by
    have hl := slL_length (n := n) fun q hq => h q (by omega)
    rw [dens_length]
    by_cases e : j = n
    · subst e
      have t1 : (slL g j).take (j * sz + o) = slL g j := List.take_of_length_le (by rw [hl]; omega)
      have t2 : (slL g j).drop (j * sz + o + vs.length) = [] := List.drop_eq_nil_of_le (by rw [hl]; omega)
      have t3 : slL (updG j ((g j).take o ++ vs ++ (g j).drop (o + vs.length)) g) j = slL g j := slL_congr fun q hq => updG_other (by omega)
      rw [slL, slL, updG_same, t3, List.take_append, List.drop_append, hl, show j * sz + o - j * sz = o by omega, show j * sz + o + vs.length - j * sz = o + vs.length by omega, t1, t2, List.nil_append, dens_append, dens_append, dens_take, dens_drop]
      simp only [List.append_assoc]
    · have hlt : j < n := by omega
      have hb : j * sz + o + vs.length ≤ n * sz := by
        have h1 : (j + 1) * sz ≤ n * sz := Nat.mul_le_mul_right _ (by omega)
        rw [Nat.succ_mul] at h1
        rw [h j hj] at ho
        omega
      rw [slL, slL, updG_other (by omega), slL_upd ho (fun q hq => h q (by omega)) hlt, dens_length, List.take_append_of_le_length (by rw [hl]; omega), List.drop_append_of_le_length (by rw [hl]; omega)]
      simp only [List.append_assoc]
theorem stS_ok (hm : MemOK X Z s0 R s m) {z : Nat} {a v : SV} {K : Mem → Prop} (h : stS m z a v K) :
    ∃ b o, den a = ptr b o ∧ Nat.beq (vcells (den v)).length z = true ∧ isCh (den v) = false ∧ ∀ (Kr : St → Bool) (r : Bool), (∀ m' s', MemOK X Z s0 R s' m' → K m' → Kr s' = r) → stN s b o (vcells (den v)) Kr = r := by
  unfold stS at h
  cases a <;> (try exact h.elim)
  rotate_left
  · rename_i i b p sz j o
    simp only at h
    cases hi : getM m i with
    | none => rw [hi] at h; exact h.elim
    | some en =>
      rw [hi] at h
      cases en <;> (try exact h.elim)
      rename_i a' n' t' sz' g
      obtain ⟨rfl, rfl, h⟩ := h
      obtain ⟨hj, h⟩ := ltS_inv h
      cases hc : (Nat.beq (vcS v).length z && (sgO v && okL (vcS v))) with
      | false => rw [hc] at h; exact h.elim
      | true =>
        rw [hc] at h
        simp only [cond_true] at h
        obtain ⟨h1, h2⟩ := and_true hc
        obtain ⟨h2, h3⟩ := and_true h2
        obtain ⟨hv1, hv2⟩ := vcS_ok h2
        obtain ⟨l0, hl0, h⟩ := h.ex
        subst hl0
        obtain ⟨h4, h5⟩ := putS_inv h
        rw [setK_eq] at h5
        refine ⟨b, _, rfl, by rw [hv1, dens_length]; exact h1, hv2, fun Kr r hK => ?_⟩
        obtain ⟨g1, g2, g3⟩ := hm.get hi
        rcases g2 with ⟨e1, _⟩ | ⟨b', n2, e1, hO, hL⟩
        · cases e1
        · cases e1
          have hlen := slL_length g1
          have hsz := g1 j hj
          have hjs : (j + 1) * sz ≤ n' * sz := Nat.mul_le_mul_right _ (by omega)
          rw [Nat.succ_mul] at hjs
          refine hO.stN (o := j * sz + o) (l := vcells (den v)) (by rw [hv1, dens_length, hlen]; omega) (by rw [hv1]; exact okL_ok h3) (fun s' hnx hfl _ hat hO' => ?_) (by show 0 + (j * sz + o) = _; omega)
          have hnew : slL (updG j ((g j).take o ++ vcS v ++ (g j).drop (o + (vcS v).length)) g) n' = (slL g n').take (j * sz + o) ++ vcells (den v) ++ (slL g n').drop (j * sz + o + (vcells (den v)).length) := by
            rw [hv1]; exact slL_upd h4 g1 hj
          rw [← hnew] at hO'
          refine hK _ s' (hm.set hi (e' := .gr (some ⟨b, 0, none⟩) n' t' sz _) ⟨by rw [hnx]; exact Nat.le_refl _, fun c _ hx => hat c fun e => hx e.symm, hfl⟩ hnx ⟨fun q hq => ?_, .inr ⟨b, n', rfl, hO', ?_⟩, g3⟩ (fun c hc => hc) fun c hc => hc) h5
          · by_cases e : q = j
            · subst e
              rw [updG_same, List.length_append, List.length_append, List.length_take, List.length_drop]
              omega
            · rw [updG_other e]; exact g1 q hq
          · rw [hnew, List.length_append, List.length_append, List.length_take, List.length_drop, hv1, dens_length, hlen]
            omega
  rename_i i b o
  simp only at h
  cases hi : getM m i with
  | none => rw [hi] at h; exact h.elim
  | some en =>
    rw [hi] at h
    cases en <;> (try exact h.elim)
    rename_i b' u l
    obtain ⟨rfl, h⟩ := h
    cases hc : (Nat.beq (vcS v).length z && (sgO v && okL (vcS v))) with
    | false => rw [hc] at h; exact h.elim
    | true =>
      rw [hc] at h
      simp only [cond_true] at h
      obtain ⟨h1, h2⟩ := and_true hc
      obtain ⟨h2, h3⟩ := and_true h2
      obtain ⟨hv1, hv2⟩ := vcS_ok h2
      obtain ⟨h4, h5⟩ := putS_inv h
      rw [setK_eq] at h5
      refine ⟨b, o, rfl, by rw [hv1, dens_length]; exact h1, hv2, fun Kr r hK => ?_⟩
      have hO := hm.get hi
      refine hO.1.stN (by rw [hv1, dens_length, dens_length]; exact h4) (by rw [hv1]; exact okL_ok h3) (fun s' hnx hfl _ hat hO' => ?_) rfl
      refine hK _ s' (hm.set hi (e' := .own b u (l.take o ++ vcS v ++ l.drop (o + (vcS v).length))) ⟨by rw [hnx]; exact Nat.le_refl _, fun c _ hx => hat c fun e => hx e, hfl⟩ hnx ⟨?_, hO.2⟩ (fun c hc => hc) fun c hc => hc) h5
      rw [hv1, dens_length] at hO'
      rw [dens_append, dens_append, dens_take, dens_drop]
      exact hO'
theorem srcS_ok (hm : MemOK X Z s0 R s m) {y : SV} {sz : Nat} {K : Nat → List SV → Prop} (h : srcS m y sz K) : ∃ b o p c l, den y = slc b o p c ∧ AtN s b o (dens l) ∧ l.length = Nat.mul p sz ∧ K p l := by
  unfold srcS at h
  cases y <;> (try exact h.elim)
  rename_i i b o p c
  simp only at h
  cases hi : getM m i with
  | none => rw [hi] at h; exact h.elim
  | some en =>
    rw [hi] at h
    cases en <;> (try exact h.elim)
    rename_i b' u l
    obtain ⟨rfl, h⟩ := h
    obtain ⟨h1, h⟩ := dropS_inv h
    obtain ⟨h2, h⟩ := takeS_inv h
    rw [List.length_drop] at h2
    refine ⟨b, o, p, c, _, rfl, ?_, by rw [List.length_take, List.length_drop]; omega, h⟩
    have h3 := (own_at hm hi).sub (o := o) (n := Nat.mul p sz) (by rw [dens_length]; omega)
    rw [dens_take, dens_drop]
    simpa using h3
theorem grow_ok {p q sz : Nat} {g : Nat → List SV} {l : List SV} (hg : ∀ j, j < p → (g j).length = sz) (hl : l.length = q * sz) : (∀ j, j < p + q → (grow p sz g l j).length = sz) ∧ slL (grow p sz g l) (p + q) = slL g p ++ dens l := by
  have hlt : ∀ j, j < p → grow p sz g l j = g j := fun j hj => by unfold grow; rw [blt_of hj]; rfl
  have hge : ∀ j, grow p sz g l (p + j) = (l.drop (j * sz)).take sz := fun j => by
    unfold grow
    have : Nat.blt (p + j) p = false := by
      cases h : Nat.blt (p + j) p with
      | false => rfl
      | true => have := blt_true h; omega
    rw [this]
    show (l.drop (Nat.mul (p + j - p) sz)).take sz = _
    rw [Nat.add_sub_cancel_left]; rfl
  have hlen : ∀ j, j < q → ((l.drop (j * sz)).take sz).length = sz := fun j hj => by
    rw [List.length_take, List.length_drop, hl]
    have : (j + 1) * sz ≤ q * sz := Nat.mul_le_mul_right _ (by omega)
    rw [Nat.succ_mul] at this
    omega
  refine ⟨fun j hj => ?_, ?_⟩
  · by_cases h : j < p
    · rw [hlt j h]; exact hg j h
    · have := hlen (j - p) (by omega)
      rw [← hge, Nat.add_sub_cancel' (by omega)] at this
      exact this
  · have key : ∀ q', q' ≤ q → slL (grow p sz g l) (p + q') = slL g p ++ dens (l.take (q' * sz)) := by
      intro q'
      induction q' with
      | zero => intro _; rw [Nat.add_zero, Nat.zero_mul, List.take_zero]; show _ = slL g p ++ []; rw [List.append_nil]; exact slL_congr fun j hj => hlt j hj
      | succ q' ih =>
        intro hq
        rw [← Nat.add_assoc, slL, ih (by omega), hge, List.append_assoc, ← dens_append, Nat.succ_mul, List.take_add]
    have := key q (Nat.le_refl _)
    rw [this, ← hl, List.take_length]
theorem sl_form {e sz : Nat} {v : Value} {L : List Value} (h : SlV e sz s v L) (hsz : 1 ≤ sz) {p : Nat} (hp : L.length = p * sz) : ∃ a, v = .slice a p p := by
  rcases h with ⟨rfl, rfl⟩ | ⟨b, n', rfl, hO, hL⟩
  · have hp : p * sz = 0 := hp.symm
    rcases Nat.mul_eq_zero.1 hp with h | h
    · subst h; exact ⟨none, rfl⟩
    · omega
  · rw [hL] at hp
    have := Nat.eq_of_mul_eq_mul_right (by omega) hp
    subst this
    exact ⟨_, rfl⟩
theorem apS_ok (hm : MemOK X Z s0 R s m) {e sz : Nat} (hsz : 1 ≤ sz) {x y : SV} {K : SV → Mem → Nat → Nat → Prop} (h : apS m R ni e sz x y K) :
    isJ x = false ∧ isJ y = false ∧ ∀ (Kr : KV) (r : Bool), (∀ w m' R' ni' s', MemOK X Z s0 R' s' m' → K w m' R' ni' → Kr (den w) s' = r) → source s sz (den y) (fun p l => appS e sz (den x) p l s Kr) = r := by
  unfold apS at h
  cases R with
  | zero => exact h.elim
  | succ R =>
    simp only at h
    have h' := srcS_ok hm h
    clear h
    obtain ⟨b, o, p, c, l, hy, hA, hl, h⟩ := h'
    cases hc : (okL l && (Nat.ble 1 p && !Nat.beq e ro)) with
    | false => rw [hc] at h; exact h.elim
    | true =>
      rw [hc] at h
      simp only [cond_true] at h
      obtain ⟨h1, h2⟩ := and_true hc
      obtain ⟨h2, h3⟩ := and_true h2
      have hjy : isJ y = false := by cases y <;> first | rfl | cases hy
      have hlt : s.nx < 4398046511104 := by have := hm.nx; omega
      have hsrc : ∀ (F : Nat → List Value → Bool), source s sz (den y) F = F p (dens l) := fun F => by
        rw [hy]
        show ldN s b o (Nat.mul p sz) (F p) = _
        rw [hA.ldN rfl (by rw [dens_length, hl])]
      have main : ∀ {v : Value} {L : List Value} {pp : Nat} {gg : Nat → List SV}, SlV e sz s v L → L = slL gg pp → (∀ j, j < pp → (gg j).length = sz) → Nat.add (Nat.mul pp sz) l.length ≤ 32768 → ∀ (Kr : KV) (r : Bool),
          (∀ a s', s'.nx = s.nx + 1 → Fr (slB v) s s' → EntOK X Z s0 s' (.gr a (pp + p) e sz (grow pp sz gg l)) → (∀ b, slB (.slice a (pp + p) (pp + p)) b → b = s.nx) → Kr (.slice a (pp + p) (pp + p)) s' = r) → appS e sz v p (dens l) s Kr = r := by
        intro v L pp gg hS hL hgg hle Kr r hK
        have hLl : L.length = pp * sz := by rw [hL, slL_length hgg]
        obtain ⟨g1, g2⟩ := grow_ok (q := p) (l := l) hgg hl
        refine hS.app (by rw [dens_length, hl]; rfl) (ble_true h2) hsz (okL_ok h1) (by rw [dens_length, hLl]; exact hle) hlt hm.fls (not_t h3) fun v' s' hnx hfr hS' hb => ?_
        have hS2 : SlV e sz s' v' (slL (grow pp sz gg l) (pp + p)) := by rw [g2, ← hL]; exact hS'
        obtain ⟨a, rfl⟩ := sl_form hS2 hsz (slL_length g1)
        exact hK a s' hnx hfr ⟨g1, hS2, fun b hb' => .inl (by rw [hb b hb']; exact hm.fr.1)⟩ hb
      cases x <;> (try exact h.elim)
      · rename_i i bb oo pp cc
        simp only at h
        cases hi : getM m i with
        | none => rw [hi] at h; exact h.elim
        | some en =>
          rw [hi] at h
          cases en <;> (try exact h.elim)
          rename_i b' e' l0
          simp only at h
          cases hq : (Nat.beq oo 0 && (Nat.beq pp cc && Nat.beq l0.length (Nat.mul pp sz))) with
          | false => rw [hq] at h; exact h.elim
          | true =>
            rw [hq] at h
            simp only [cond_true] at h
            obtain ⟨q1, q2⟩ := and_true hq
            obtain ⟨q2, q3⟩ := and_true q2
            have q1 := beq_true q1
            have q2 := beq_true q2
            have q3 : l0.length = pp * sz := beq_true q3
            subst q1 q2
            obtain ⟨rfl, rfl, h⟩ := h
            obtain ⟨h4, hrem⟩ := ltS_inv h
            rw [remK_eq] at hrem
            have he := hm.get hi
            obtain ⟨g1, g2⟩ := grow_ok (p := 0) (q := pp) (g := fun _ => []) (l := l0) (sz := sz) (fun j hj => absurd hj (Nat.not_lt_zero _)) q3
            rw [Nat.zero_add] at g1 g2
            have g2 : slL (grow 0 sz (fun _ => []) l0) pp = dens l0 := g2
            refine ⟨rfl, hjy, fun Kr r hK => ?_⟩
            rw [hsrc]
            refine main (v := slc bb 0 pp pp) (L := dens l0) (pp := pp) (gg := grow 0 sz (fun _ => []) l0) (.inr ⟨bb, pp, rfl, he.1, by rw [dens_length]; exact q3⟩) g2.symm g1 (by omega) Kr r fun a2 s' hnx hfr hE hb => ?_
            refine hK _ _ _ _ s' (MemOK.cons (hm.rem (R' := R) hi (hfr.mono fun c _ hc => hc.symm) (by rw [hnx]; have := hm.nx; omega)) hE fun x hx => apE_new (hm.ent x (remM_sub x hx)) (fun _ h => h) fun b hb' => by rw [hb b hb']; exact Nat.le_refl _) (hrem a2)
      · rename_i i a pp cc
        simp only at h
        cases hi : getM m i with
        | none => rw [hi] at h; exact h.elim
        | some en =>
          rw [hi] at h
          cases en <;> (try exact h.elim)
          rename_i a' pp' e' sz' g
          obtain ⟨rfl, rfl, rfl, rfl, rfl, h⟩ := h
          obtain ⟨h4, h⟩ := ltS_inv h
          rw [remK_eq] at h
          have he := hm.get hi
          refine ⟨rfl, hjy, fun Kr r hK => ?_⟩
          rw [hsrc]
          refine main (v := .slice a pp pp) he.2.1 rfl he.1 (by omega) Kr r fun a2 s' hnx hfr hE hb => ?_
          refine hK _ _ _ _ s' (MemOK.cons (hm.rem (R' := R) hi hfr (by rw [hnx]; have := hm.nx; omega)) hE fun x hx => apE_new (hm.ent x (remM_sub x hx)) (fun _ h => h) fun b hb' => by rw [hb b hb']; exact Nat.le_refl _) (h a2)
      · rename_i v
        cases v <;> (try exact h.elim)
        rename_i a q cc
        cases a <;> (try exact h.elim)
        simp only at h
        cases hq : (Nat.beq q 0 && Nat.beq cc 0 && Nat.ble l.length 32768) with
        | false => rw [hq] at h; exact h.elim
        | true =>
          rw [hq] at h
          simp only [cond_true] at h
          obtain ⟨hq, hll⟩ := and_true hq
          obtain ⟨hq, hcc⟩ := and_true hq
          have hq := beq_true hq
          have hcc := beq_true hcc
          subst hq hcc
          refine ⟨rfl, hjy, fun Kr r hK => ?_⟩
          rw [hsrc]
          refine main (v := .slice none 0 0) (L := []) (pp := 0) (gg := fun _ => []) (.inl ⟨rfl, rfl⟩) rfl (fun j hj => absurd hj (Nat.not_lt_zero _)) (by show 0 * sz + l.length ≤ _; rw [Nat.zero_mul, Nat.zero_add]; exact ble_true hll) Kr r fun a s' hnx hfr hE hb => ?_
          have h0 : (0 : Nat) + p = p := Nat.zero_add p
          rw [h0] at hE hb ⊢
          refine hK _ _ _ _ s' (MemOK.cons (hm.step (R' := R) hfr (fun b hb => hb.elim) (fun x hx b hb hb' => hb') (fun x hx b hb hb' => hb') (by rw [hnx]; have := hm.nx; omega)) hE fun x hx => apE_new (hm.ent x hx) (fun _ h => h) fun b hb' => by rw [hb b hb']; exact Nat.le_refl _) (h a)
theorem growF_ok {p q sz : Nat} {g h : Nat → List SV} (hg : ∀ j, j < p → (g j).length = sz) (hh : ∀ j, j < q → (h j).length = sz) : (∀ j, j < p + q → (growF p g h j).length = sz) ∧ slL (growF p g h) (p + q) = slL g p ++ slL h q := by
  have hlt : ∀ j, j < p → growF p g h j = g j := fun j hj => by unfold growF; rw [blt_of hj]; rfl
  have hge : ∀ j, growF p g h (p + j) = h j := fun j => by
    unfold growF
    have : Nat.blt (p + j) p = false := by
      cases h : Nat.blt (p + j) p with
      | false => rfl
      | true => have := blt_true h; omega
    rw [this]
    show h (p + j - p) = _
    rw [Nat.add_sub_cancel_left]
  refine ⟨fun j hj => ?_, ?_⟩
  · by_cases h1 : j < p
    · rw [hlt j h1]; exact hg j h1
    · have := hh (j - p) (by omega)
      rw [← hge, Nat.add_sub_cancel' (by omega)] at this
      exact this
  · have key : ∀ q', slL (growF p g h) (p + q') = slL g p ++ slL h q' := by
      intro q'
      induction q' with
      | zero => rw [Nat.add_zero]; show _ = slL g p ++ []; rw [List.append_nil]; exact slL_congr fun j hj => hlt j hj
      | succ q' ih => rw [← Nat.add_assoc, slL, ih, hge, slL, List.append_assoc]
    exact key q
theorem slL_flat {h : Nat → List SV} : ∀ {n : Nat}, (∀ j, j < n → okL (h j) = true) → (slL h n).all flat1 = true
  | 0, _ => rfl
  | n + 1, hh => by rw [slL, List.all_append, slL_flat fun j hj => hh j (by omega), okL_ok (hh n (by omega))]; rfl
theorem repL_comm (z : List Value) : ∀ n, z ++ repL z n = repL z n ++ z
  | 0 => by simp [repL]
  | n + 1 => by
    show z ++ (z ++ repL z n) = (z ++ repL z n) ++ z
    rw [List.append_assoc, ← repL_comm z n]
theorem slL_const (z : List Value) : ∀ n, slL (fun _ => ofVs z) n = repL z n
  | 0 => rfl
  | n + 1 => by rw [slL, slL_const z n, dens_ofVs]; exact (repL_comm z n).symm
theorem slL_add (f : Nat → List SV) (a : Nat) : ∀ b, slL f (a + b) = slL f a ++ slL (fun j => f (a + j)) b
  | 0 => by show _ = _ ++ []; rw [List.append_nil]; rfl
  | b + 1 => by rw [← Nat.add_assoc, slL, slL_add f a b, slL, List.append_assoc]
theorem putG_lo {p k q : Nat} {h g : Nat → List SV} (hq : q < p) : putG p k h g q = g q := by
  unfold putG
  cases hb : Nat.ble p q with
  | false => rfl
  | true => have := ble_true hb; omega
theorem putG_in {p k q : Nat} {h g : Nat → List SV} (hq : q < k) : putG p k h g (p + q) = h q := by
  unfold putG
  rw [Nat.ble_eq_true_of_le (Nat.le_add_right p q), blt_of (show p + q < Nat.add p k by show p + q < p + k; omega)]
  show h (p + q - p) = _
  rw [Nat.add_sub_cancel_left]
theorem putG_hi {p k q : Nat} {h g : Nat → List SV} (hq : p + k ≤ q) : putG p k h g q = g q := by
  unfold putG
  have : Nat.blt q (Nat.add p k) = false := by
    cases hb : Nat.blt q (Nat.add p k) with
    | false => rfl
    | true => have := blt_true hb; have : q < p + k := this; omega
  rw [this, Bool.and_false]; rfl
theorem slL_put {p k c sz : Nat} {h g : Nat → List SV} (hg : ∀ j, j < c → (g j).length = sz) (hh : ∀ j, j < k → (h j).length = sz) (hc : p + k ≤ c) :
    (∀ j, j < c → (putG p k h g j).length = sz) ∧ slL (putG p k h g) c = (slL g c).take (p * sz) ++ slL h k ++ (slL g c).drop (p * sz + (slL h k).length) := by
  obtain ⟨r, rfl⟩ : ∃ r, c = p + (k + r) := ⟨c - p - k, by omega⟩
  refine ⟨fun j hj => ?_, ?_⟩
  · by_cases h1 : j < p
    · rw [putG_lo h1]; exact hg j hj
    · by_cases h2 : j < p + k
      · have := putG_in (p := p) (h := h) (g := g) (show j - p < k by omega)
        rw [show p + (j - p) = j by omega] at this
        rw [this]; exact hh _ (by omega)
      · rw [putG_hi (by omega)]; exact hg j hj
  · have l1 : (slL g p).length = p * sz := slL_length fun j hj => hg j (by omega)
    have l2 : (slL h k).length = k * sz := slL_length hh
    have l3 : (slL (fun j => g (p + j)) k).length = k * sz := slL_length fun j hj => hg _ (by omega)
    have e1 : slL (putG p k h g) p = slL g p := slL_congr fun j hj => putG_lo hj
    have e2 : slL (fun j => putG p k h g (p + j)) k = slL h k := slL_congr fun j hj => putG_in hj
    have e3 : slL (fun j => putG p k h g (p + (k + j))) r = slL (fun j => g (p + (k + j))) r := slL_congr fun j hj => putG_hi (by omega)
    rw [slL_add _ p (k + r), slL_add (fun j => putG p k h g (p + j)) k r, e1, e2, e3, slL_add g p (k + r), slL_add (fun j => g (p + j)) k r, l2]
    rw [List.take_append, l1, Nat.sub_self, List.take_zero, List.append_nil, List.take_of_length_le (by omega), List.drop_append, l1, List.drop_eq_nil_of_le (by omega), List.nil_append, Nat.add_sub_cancel_left, List.drop_append, l3, Nat.sub_self, List.drop_zero, List.drop_eq_nil_of_le (by omega), List.nil_append, List.append_assoc]
/-- a slice's elements, read whole, or not at all -/
theorem source_ok (hm : MemOK X Z s0 R s m) {i2 n' p2 sz c : Nat} {a' : Option Addr} {h : Nat → List SV} {en : Ent} (hi : getM m i2 = some en) (he : ((∃ c', en = .ro a' n' c' sz h) ∧ p2 ≤ n' ∧ (n' = 0 → a' = none)) ∨ ((∃ e', en = .gr a' n' e' sz h) ∧ p2 ≤ n')) : (∀ j, j < p2 → (h j).length = sz) ∧ ∀ F : Nat → List Value → Bool, source s sz (.slice a' p2 c) F = F p2 (slL h p2) := by
  have hE := hm.get hi
  rcases he with ⟨⟨c', rfl⟩, hp, h0⟩ | ⟨⟨e', rfl⟩, hp⟩
  · obtain ⟨g1, g2⟩ := hE
    refine ⟨fun j hj => g1 j (by omega), fun F => ?_⟩
    rcases g2 with g2 | ⟨b, p, rfl, g2, _⟩
    · have : p2 = 0 := by omega
      subst this
      rw [h0 g2]; rfl
    · show ldN s b p (Nat.mul p2 sz) (F p2) = _
      obtain ⟨r, rfl⟩ : ∃ r, n' = p2 + r := ⟨n' - p2, by omega⟩
      have l1 : (slL h p2).length = p2 * sz := slL_length fun j hj => g1 j (by omega)
      have h2 := g2.sub (o := 0) (n := p2 * sz) (by rw [slL_length g1, Nat.add_mul]; omega)
      rw [Nat.add_zero, List.drop_zero, slL_add, List.take_append, l1, Nat.sub_self, List.take_zero, List.append_nil, List.take_of_length_le (by omega)] at h2
      rw [h2.ldN rfl (by rw [l1]; rfl)]
  · obtain ⟨g1, g2, _⟩ := hE
    refine ⟨fun j hj => g1 j (by omega), fun F => ?_⟩
    rcases g2 with ⟨q1, _⟩ | ⟨b, n2, q1, hO, _⟩
    · cases q1
      have : p2 = 0 := by omega
      subst this; rfl
    · cases q1
      show ldN s b 0 (Nat.mul p2 sz) (F p2) = _
      obtain ⟨r, rfl⟩ : ∃ r, n' = p2 + r := ⟨n' - p2, by omega⟩
      have l1 : (slL h p2).length = p2 * sz := slL_length fun j hj => g1 j (by omega)
      have h2 := hO.own.at.sub (o := 0) (n := p2 * sz) (by rw [slL_length g1, Nat.add_mul]; omega)
      rw [Nat.add_zero, List.drop_zero, slL_add, List.take_append, l1, Nat.sub_self, List.take_zero, List.append_nil, List.take_of_length_le (by omega)] at h2
      rw [h2.ldN rfl (by rw [l1]; rfl)]
/-- the same, from an element on -/
theorem source_sb (hm : MemOK X Z s0 R s m) {i2 n' b q lo p2 sz c : Nat} {h : Nat → List SV} {en : Ent} (hi : getM m i2 = some en) (he : (∃ c', en = .ro (some ⟨b, q, none⟩) n' c' sz h) ∨ ∃ e', en = .gr (some ⟨b, q, none⟩) n' e' sz h) (h0 : 0 < n') (hle : lo + p2 ≤ n') (hc : p2 ≤ c) : (∀ j, j < p2 → (h (lo + j)).length = sz) ∧ ∀ F : Nat → List Value → Bool, source s sz (den (.sb i2 b q lo sz p2 c)) F = F p2 (slL (fun j => h (Nat.add lo j)) p2) := by
  have hE := hm.get hi
  have fin : (∀ j, j < n' → (h j).length = sz) → AtN s b q (slL h n') → (∀ j, j < p2 → (h (lo + j)).length = sz) ∧ ∀ F : Nat → List Value → Bool, source s sz (den (.sb i2 b q lo sz p2 c)) F = F p2 (slL (fun j => h (Nat.add lo j)) p2) := by
    intro g1 g2
    refine ⟨fun j hj => g1 _ (by omega), fun F => ?_⟩
    have l2 : (slL (fun j => h (lo + j)) p2).length = p2 * sz := slL_length fun j hj => g1 _ (by omega)
    show ldN s b (bif Nat.beq c 0 then q else Nat.add q (Nat.mul lo sz)) (Nat.mul p2 sz) (F p2) = F p2 (slL (fun j => h (lo + j)) p2)
    cases hb : Nat.beq c 0 with
    | true =>
      have := beq_true hb
      have : p2 = 0 := by omega
      subst this
      have h2 := g2.sub (o := 0) (n := 0) (by omega)
      rw [Nat.add_zero, List.take_zero] at h2
      show ldN s b q (0 * sz) (F 0) = _
      rw [h2.ldN rfl (by simp)]; rfl
    | false =>
      obtain ⟨r, rfl⟩ : ∃ r, n' = lo + (p2 + r) := ⟨n' - lo - p2, by omega⟩
      have l1 : (slL h lo).length = lo * sz := slL_length fun j hj => g1 j (by omega)
      have h2 := g2.sub (o := lo * sz) (n := p2 * sz) (by rw [slL_length g1, Nat.add_mul, Nat.add_mul]; omega)
      rw [slL_add h lo, slL_add (fun j => h (lo + j)) p2, List.drop_append, l1, List.drop_eq_nil_of_le (by omega), List.nil_append, Nat.sub_self, List.drop_zero, List.take_append, l2, Nat.sub_self, List.take_zero, List.append_nil, List.take_of_length_le (by omega)] at h2
      show ldN s b (q + lo * sz) (p2 * sz) (F p2) = _
      rw [h2.ldN rfl (by rw [l2])]
  rcases he with ⟨c', rfl⟩ | ⟨e', rfl⟩
  · obtain ⟨g1, g2⟩ := hE
    rcases g2 with g2 | ⟨b', p, q1, g2, _⟩
    · omega
    · cases q1; exact fin g1 g2
  · obtain ⟨g1, g2, _⟩ := hE
    rcases g2 with ⟨q1, _⟩ | ⟨b', n2, q1, hO, _⟩
    · cases q1
    · cases q1; exact fin g1 hO.own.at
theorem nlK_inv {q : Option (Option Addr)} {K : Prop} (h : nlK q K) : (∀ a, q = some a → a = none) ∧ K := by
  cases q with
  | none => exact ⟨fun a ha => (by cases ha), h⟩
  | some a => obtain ⟨h1, h2⟩ := h; exact ⟨fun a' ha => (by cases ha; exact h1), h2⟩
theorem newK_inv {R : Nat} {K : Nat → Prop} (h : newK R K) : ∃ R', R = R' + 1 ∧ K R' := by
  cases R with
  | zero => exact h.elim
  | succ R => exact ⟨R, rfl, h⟩
theorem apX_ok (hm : MemOK X Z s0 R s m) {e sz : Nat} (hsz : 1 ≤ sz) {x : SV} {q : Option (Option Addr)} {n' : Nat} {hh : Nat → List SV} {K : SV → Mem → Nat → Nat → Prop} (h : apX m R ni e sz x q n' hh K) :
    isJ x = false ∧ (n' = 0 → ∀ a, q = some a → a = none) ∧ ((∀ j, j < n' → (hh j).length = sz) → ∀ (Kr : KV) (r : Bool), (∀ w m' R' ni' s', MemOK X Z s0 R' s' m' → K w m' R' ni' → Kr (den w) s' = r) → appS e sz (den x) n' (slL hh n') s Kr = r) := by
  unfold apX at h
  cases hro : Nat.beq e ro with
  | true => rw [hro] at h; exact h.elim
  | false =>
    rw [hro] at h
    simp only [cond_false] at h
    have app : ∀ {v : Value} {pp : Nat} {gg ff : Nat → List SV}, (∀ j, j < n' → (hh j).length = sz) → (∀ j, j < n' → okL (hh j) = true) → 0 < n' → s.nx < 4398046511104 → SlV e sz s v (slL gg pp) → (∀ j, j < pp → (gg j).length = sz) → (∀ j, j < pp + n' → (ff j).length = sz) → slL ff (pp + n') = slL gg pp ++ slL hh n' → Nat.add (Nat.mul pp sz) (Nat.mul n' sz) ≤ 32768 → ∀ (Kr : KV) (r : Bool),
        (∀ a s', s'.nx = s.nx + 1 → Fr (slB v) s s' → EntOK X Z s0 s' (.gr a (pp + n') e sz ff) → (∀ b, slB (.slice a (pp + n') (pp + n')) b → b = s.nx) → Kr (.slice a (pp + n') (pp + n')) s' = r) → appS e sz v n' (slL hh n') s Kr = r := by
      intro v pp gg ff hlen hfl h0 hlt hS hgg hff hfe hle Kr r hK
      refine hS.app (by rw [slL_length hlen]) h0 hsz (slL_flat hfl) (by rw [slL_length hgg, slL_length hlen]; exact hle) hlt hm.fls hro fun v' s' hnx hfr hS' hb => ?_
      rw [← hfe] at hS'
      obtain ⟨a, rfl⟩ := sl_form hS' hsz (slL_length hff)
      exact hK a s' hnx hfr ⟨hff, hS', fun b hb' => .inl (by rw [hb b hb']; exact hm.fr.1)⟩ hb
    cases x <;> (try exact h.elim)
    · rename_i i b o p c
      simp only at h
      cases hi : getM m i with
      | none => rw [hi] at h; exact h.elim
      | some en =>
        rw [hi] at h
        cases en <;> (try exact h.elim)
        rename_i b' e' l
        cases l with
        | cons x0 l1 =>
          simp only at h
          obtain ⟨l, hl⟩ : ∃ l, l = x0 :: l1 := ⟨_, rfl⟩
          rw [← hl] at h hi
          cases hq : (Nat.beq o 0 && (Nat.beq p c && Nat.beq l.length (Nat.mul p sz))) with
          | false => rw [hq] at h; exact h.elim
          | true =>
            rw [hq] at h
            simp only [cond_true] at h
            obtain ⟨q1, q2⟩ := and_true hq
            obtain ⟨q2, q3⟩ := and_true q2
            have q1 := beq_true q1
            have q2 := beq_true q2
            have q3 : l.length = p * sz := beq_true q3
            subst q1 q2
            obtain ⟨rfl, rfl, h⟩ := h
            have he := hm.get hi
            obtain ⟨g1, g2⟩ := grow_ok (p := 0) (q := p) (g := fun _ => []) (l := l) (sz := sz) (fun j hj => absurd hj (Nat.not_lt_zero _)) q3
            rw [Nat.zero_add] at g1 g2
            have g2 : slL (grow 0 sz (fun _ => []) l) p = dens l := g2
            refine ⟨rfl, fun h0 => (nlK_inv (h.z h0)).1, fun hlen Kr r hK => ?_⟩
            rcases Nat.eq_zero_or_pos n' with rfl | h0
            · show (bif Nat.ble (p + 0) p then stN s b (0 + p * sz) [] (fun s' => Kr (slc b 0 (p + 0) p) s') else _) = r
              rw [Nat.ble_eq_true_of_le (show p + 0 ≤ p by omega)]
              refine he.1.stN (o := p * sz) (l := []) (by rw [dens_length, q3]; simp) rfl (fun s' hnx hfl _ hat hO' => ?_) (by omega)
              rw [List.append_nil, List.length_nil, Nat.add_zero, List.take_append_drop] at hO'
              refine hK (.slc i b 0 p p) (setM (.own b e l) m i) R ni s' (hm.set hi (e' := .own b e l) ⟨by rw [hnx]; exact Nat.le_refl _, fun c _ hx => hat c fun e => hx e, hfl⟩ hnx ⟨hO', he.2⟩ (fun c hc => hc) fun c hc => hc) ?_
              rw [setM_same hi]
              exact (nlK_inv (h.z rfl)).2
            · obtain ⟨hfl, h⟩ := h.p h0
              have h' := ltS_inv h; clear h
              obtain ⟨hle, h⟩ := h'
              have h' := newK_inv h; clear h
              obtain ⟨R', rfl, hfin⟩ := h'
              have hlt : s.nx < 4398046511104 := by have := hm.nx; omega
              rw [remK_eq] at hfin
              have hle : p * sz + n' * sz < 32769 := hle
              obtain ⟨f1, f2⟩ := growF_ok g1 hlen
              refine app (v := slc b 0 p p) (pp := p) (gg := grow 0 sz (fun _ => []) l) (ff := growF p (grow 0 sz (fun _ => []) l) hh) hlen hfl h0 hlt (by rw [g2]; exact .inr ⟨b, p, rfl, he.1, by rw [dens_length]; exact q3⟩) g1 f1 f2 (by show p * sz + n' * sz ≤ _; omega) Kr r fun a s' hnx hfr hE hb => ?_
              exact hK _ _ _ _ s' (MemOK.cons (hm.rem (R' := R') hi (hfr.mono fun c _ hc => hc.symm) (by rw [hnx]; have := hm.nx; omega)) hE fun x hx => apE_new (hm.ent x (remM_sub x hx)) (fun _ h => h) fun b hb' => by rw [hb b hb']; exact Nat.le_refl _) (hfin a)
        | nil =>
          simp only at h
          cases hq : (Nat.beq o 0 && (Nat.beq p 0 && Nat.beq c 0)) with
          | false => rw [hq] at h; exact h.elim
          | true =>
            rw [hq] at h
            simp only [cond_true] at h
            obtain ⟨q1, q2⟩ := and_true hq
            obtain ⟨q2, q3⟩ := and_true q2
            have q1 := beq_true q1
            have q2 := beq_true q2
            have q3 := beq_true q3
            subst q1 q2 q3
            obtain ⟨rfl, rfl, h⟩ := h
            have he := hm.get hi
            refine ⟨rfl, fun h0 => (nlK_inv (h.z h0)).1, fun hlen Kr r hK => ?_⟩
            rcases Nat.eq_zero_or_pos n' with rfl | h0
            · show stN s b (0 + 0 * sz) [] (fun s' => Kr (slc b 0 0 0) s') = r
              refine he.1.stN (o := 0) (l := []) (by simp) rfl (fun s' hnx hfl _ hat hO' => ?_) (by rw [Nat.zero_mul])
              refine hK (.slc i b 0 0 0) (setM (.own b e []) m i) R ni s' (hm.set hi (e' := .own b e []) ⟨by rw [hnx]; exact Nat.le_refl _, fun c _ hx => hat c fun e => hx e, hfl⟩ hnx ⟨hO', he.2⟩ (fun c hc => hc) fun c hc => hc) ?_
              rw [setM_same hi]
              exact (nlK_inv (h.z rfl)).2
            · obtain ⟨hfl, h⟩ := h.p h0
              have h' := ltS_inv h; clear h
              obtain ⟨hle, h⟩ := h'
              have h' := newK_inv h; clear h
              obtain ⟨R', rfl, hfin⟩ := h'
              have hlt : s.nx < 4398046511104 := by have := hm.nx; omega
              rw [remK_eq] at hfin
              have hle : n' * sz < 32769 := hle
              refine app (v := slc b 0 0 0) (pp := 0) (gg := fun _ => []) (ff := hh) hlen hfl h0 hlt (.inr ⟨b, 0, rfl, he.1, by show [].length = _; simp⟩) (fun j hj => absurd hj (Nat.not_lt_zero _)) (fun j hj => hlen j (by omega)) (by rw [Nat.zero_add]; rfl) (by show 0 * sz + n' * sz ≤ _; omega) Kr r fun a s' hnx hfr hE hb => ?_
              rw [Nat.zero_add] at hE hb ⊢
              exact hK _ _ _ _ s' (MemOK.cons (hm.rem (R' := R') hi (hfr.mono fun c _ hc => hc.symm) (by rw [hnx]; have := hm.nx; omega)) hE fun x hx => apE_new (hm.ent x (remM_sub x hx)) (fun _ h => h) fun b hb' => by rw [hb b hb']; exact Nat.le_refl _) (hfin a)
    · rename_i i a p c
      simp only at h
      cases hi : getM m i with
      | none => rw [hi] at h; exact h.elim
      | some en3 =>
        rw [hi] at h
        cases en3 <;> (try exact h.elim)
        rename_i a3 p3 e3 sz3 g
        obtain ⟨rfl, rfl, rfl, rfl, h⟩ := h
        have h' := ltS_inv h; clear h
        obtain ⟨hpc, h⟩ := h'
        have hpc : p < c + 1 := hpc
        have he := hm.get hi
        refine ⟨rfl, fun h0 => (nlK_inv (h.z h0)).1, fun hlen Kr r hK => ?_⟩
        rcases Nat.eq_zero_or_pos n' with rfl | h0
        · have hz := (nlK_inv (h.z rfl)).2
          rcases he.2.1 with ⟨q1, _⟩ | ⟨b, n2, q1, hO, hL⟩
          · cases q1
            have : p = 0 := by omega
            subst this
            exact hK (.sl i none 0 0) m R ni s hm hz
          · cases q1
            show (bif Nat.ble (p + 0) c then stN s b (0 + p * sz) [] (fun s' => Kr (slc b 0 (p + 0) c) s') else _) = r
            rw [Nat.ble_eq_true_of_le (show p + 0 ≤ c by omega)]
            have hpl : p * sz ≤ c * sz := Nat.mul_le_mul_right _ (by omega)
            refine hO.stN (o := p * sz) (l := []) (by rw [hL]; simpa using hpl) rfl (fun s' hnx hfl _ hat hO' => ?_) (by omega)
            rw [List.append_nil, List.length_nil, Nat.add_zero, List.take_append_drop] at hO'
            refine hK (.sl i _ p c) (setM (.gr (some ⟨b, 0, none⟩) c e sz g) m i) R ni s' (hm.set hi (e' := .gr (some ⟨b, 0, none⟩) c e sz g) ⟨by rw [hnx]; exact Nat.le_refl _, fun c _ hx => hat c fun e => hx e.symm, hfl⟩ hnx ⟨he.1, .inr ⟨b, c, rfl, hO', hL⟩, he.2.2⟩ (fun c hc => hc) fun c hc => hc) ?_
            rw [setM_same hi]
            exact hz
        · obtain ⟨hfl, h⟩ := h.p h0
          have hx := h.ex; clear h
          rcases hx with ⟨hfit, h⟩ | ⟨hpe, hgrow⟩
          · have hfit : p + n' ≤ c := hfit
            rw [setK_eq] at h
            rcases he.2.1 with ⟨q1, _⟩ | ⟨b, n2, q1, hO, hL⟩
            · cases q1; omega
            · cases q1
              obtain ⟨f1, f2⟩ := slL_put he.1 hlen hfit
              have l1 := slL_length hlen
              have hps : (p + n') * sz ≤ c * sz := Nat.mul_le_mul_right _ hfit
              rw [Nat.add_mul] at hps
              unfold appS
              rw [slL_flat hfl]
              show (bif Nat.ble (p + n') c then stN s b (0 + p * sz) (slL hh n') (fun s' => Kr (slc b 0 (p + n') c) s') else _) = r
              rw [Nat.ble_eq_true_of_le hfit]
              refine hO.stN (o := p * sz) (l := slL hh n') (by rw [hL, l1]; exact hps) (slL_flat hfl) (fun s' hnx hfl2 _ hat hO' => ?_) (by omega)
              rw [← f2] at hO'
              exact hK (.sl i _ (p + n') c) _ R ni s' (hm.set hi (e' := .gr (some ⟨b, 0, none⟩) c e sz (putG p n' hh g)) ⟨by rw [hnx]; exact Nat.le_refl _, fun c _ hx => hat c fun e => hx e.symm, hfl2⟩ hnx ⟨f1, .inr ⟨b, c, rfl, hO', by rw [slL_length f1]⟩, he.2.2⟩ (fun c hc => hc) fun c hc => hc) h
          · subst hpe
            obtain ⟨h4, hg2⟩ := ltS_inv hgrow
            have h' := newK_inv hg2
            obtain ⟨R', rfl, hfin⟩ := h'
            have hlt : s.nx < 4398046511104 := by have := hm.nx; omega
            rw [remK_eq] at hfin
            obtain ⟨f1, f2⟩ := growF_ok he.1 hlen
            refine app (v := .slice a p p) hlen hfl h0 hlt he.2.1 he.1 f1 f2 (by omega) Kr r fun a4 s' hnx hfr hE hb => ?_
            exact hK _ _ _ _ s' (MemOK.cons (hm.rem (R' := R') hi hfr (by rw [hnx]; have := hm.nx; omega)) hE fun x hx => apE_new (hm.ent x (remM_sub x hx)) (fun _ h => h) fun b hb' => by rw [hb b hb']; exact Nat.le_refl _) (hfin a4)
    · rename_i v
      cases v <;> (try exact h.elim)
      rename_i a p c
      cases a <;> (try exact h.elim)
      simp only at h
      cases hq : (Nat.beq p 0 && Nat.beq c 0) with
      | false => rw [hq] at h; exact h.elim
      | true =>
        rw [hq] at h
        simp only [cond_true] at h
        obtain ⟨hq, hcc⟩ := and_true hq
        have hq := beq_true hq
        have hcc := beq_true hcc
        subst hq hcc
        refine ⟨rfl, fun h0 => (nlK_inv (h.z h0)).1, fun hlen Kr r hK => ?_⟩
        rcases Nat.eq_zero_or_pos n' with rfl | h0
        · exact hK (.val (.slice none 0 0)) m R ni s hm (nlK_inv (h.z rfl)).2
        · obtain ⟨hfl, h⟩ := h.p h0
          have h' := ltS_inv h; clear h
          obtain ⟨hle, h⟩ := h'
          have h' := newK_inv h; clear h
          obtain ⟨R', rfl, hfin⟩ := h'
          have hlt : s.nx < 4398046511104 := by have := hm.nx; omega
          have hle : n' * sz < 32769 := hle
          refine app (v := .slice none 0 0) (pp := 0) (gg := fun _ => []) (ff := hh) hlen hfl h0 hlt (.inl ⟨rfl, rfl⟩) (fun j hj => absurd hj (Nat.not_lt_zero _)) (fun j hj => hlen j (by omega)) (by rw [Nat.zero_add]; rfl) (by show 0 * sz + n' * sz ≤ _; omega) Kr r fun a s' hnx hfr hE hb => ?_
          rw [Nat.zero_add] at hE hb ⊢
          exact hK _ _ _ _ s' (MemOK.cons (hm.step (R' := R') hfr (fun b hb => hb.elim) (fun x hx b hb hb' => hb') (fun x hx b hb hb' => hb') (by rw [hnx]; have := hm.nx; omega)) hE fun x hx => apE_new (hm.ent x hx) (fun _ h => h) fun b hb' => by rw [hb b hb']; exact Nat.le_refl _) (hfin a)
theorem apF_ok (hm : MemOK X Z s0 R s m) {e sz : Nat} (hsz : 1 ≤ sz) {x y : SV} {K : SV → Mem → Nat → Nat → Prop} (h : apF m R ni e sz x y K) :
    isJ x = false ∧ isJ y = false ∧ ∀ (Kr : KV) (r : Bool), (∀ w m' R' ni' s', MemOK X Z s0 R' s' m' → K w m' R' ni' → Kr (den w) s' = r) → source s sz (den y) (fun p l => appS e sz (den x) p l s Kr) = r := by
  unfold apF at h
  cases y <;> (try exact apS_ok hm hsz h)
  · rename_i i2 a2 p2 c2
    simp only at h
    cases hi2 : getM m i2 with
    | none => rw [hi2] at h; exact h.elim
    | some en =>
      rw [hi2] at h
      cases en <;> (try exact h.elim)
      · rename_i a' n' c' sz' hh
        obtain ⟨rfl, rfl, h⟩ := h
        have hx := h.ex
        clear h
        rcases hx with ⟨⟨q1, q2⟩, h⟩ | ⟨q1, h⟩
        · obtain ⟨h1, h2, h3⟩ := apX_ok hm hsz h
          obtain ⟨g1, g2⟩ := source_ok (c := c2) (p2 := p2) hm hi2 (.inl ⟨⟨_, rfl⟩, q2, fun h0 => by omega⟩)
          refine ⟨h1, rfl, fun Kr r hK => ?_⟩
          show source s sz (.slice a2 p2 c2) _ = r
          rw [g2]
          exact h3 g1 Kr r hK
        · obtain ⟨h1, h2, h3⟩ := apX_ok hm hsz h
          obtain ⟨g1, g2⟩ := source_ok (c := c2) (p2 := p2) hm hi2 (.inl ⟨⟨_, rfl⟩, Nat.le_of_eq q1, fun h0 => h2 (q1.trans h0) _ rfl⟩)
          refine ⟨h1, rfl, fun Kr r hK => ?_⟩
          show source s sz (.slice a2 p2 c2) _ = r
          rw [g2]
          exact h3 g1 Kr r hK
      · rename_i a' n' e' sz' hh
        obtain ⟨rfl, h⟩ := h
        have h' := ltS_inv h; clear h
        obtain ⟨hp, rfl, h⟩ := h'
        have hp : p2 < n' + 1 := hp
        obtain ⟨h1, h2, h3⟩ := apX_ok hm hsz h
        obtain ⟨g1, g2⟩ := source_ok (c := c2) (p2 := p2) hm hi2 (.inr ⟨⟨_, rfl⟩, by omega⟩)
        refine ⟨h1, rfl, fun Kr r hK => ?_⟩
        show source s sz (.slice a2 p2 c2) _ = r
        rw [g2]
        exact h3 g1 Kr r hK
  · rename_i i2 b2 q2 lo sz2 p2 c2
    simp only at h
    cases hi2 : getM m i2 with
    | none => rw [hi2] at h; exact h.elim
    | some en =>
      rw [hi2] at h
      cases en <;> (try exact h.elim)
      all_goals
        obtain ⟨rfl, rfl, rfl, h⟩ := h
        have h' := ltS_inv h; clear h
        obtain ⟨h0, h⟩ := h'
        have h' := ltS_inv h; clear h
        obtain ⟨hle, h⟩ := h'
        have h' := ltS_inv h; clear h
        obtain ⟨hc, h⟩ := h'
        obtain ⟨h1, h2, h3⟩ := apX_ok hm hsz h
        obtain ⟨g1, g2⟩ := source_sb (c := c2) (lo := lo) (p2 := p2) hm hi2 (by first | exact .inl ⟨_, rfl⟩ | exact .inr ⟨_, rfl⟩) h0 (Nat.le_of_lt_succ hle) (Nat.le_of_lt_succ hc)
        refine ⟨h1, rfl, fun Kr r hK => ?_⟩
        rw [g2]
        exact h3 g1 Kr r hK
  · rename_i v
    cases v <;> (try exact h.elim)
    rename_i a p c
    cases a <;> (try exact h.elim)
    simp only at h
    cases hq : (Nat.beq p 0 && Nat.beq c 0) with
    | false => rw [hq] at h; exact h.elim
    | true =>
      rw [hq] at h
      simp only [cond_true] at h
      obtain ⟨hq, hcc⟩ := and_true hq
      have hq := beq_true hq
      have hcc := beq_true hcc
      subst hq hcc
      obtain ⟨h1, h2, h3⟩ := apX_ok hm hsz h
      exact ⟨h1, rfl, fun Kr r hK => h3 (fun j hj => absurd hj (Nat.not_lt_zero _)) Kr r hK⟩
theorem apZ_ok (hm : MemOK X Z s0 R s m) {e sz : Nat} (hsz : 1 ≤ sz) {x y : SV} {z : List Value} (hz : z.length = sz) {K : SV → Mem → Nat → Nat → Prop} (h : apZ m R ni e sz x y z K) :
    isJ x = false ∧ isJ y = false ∧ ∀ (Kr : KV) (r : Bool), (∀ w m' R' ni' s', MemOK X Z s0 R' s' m' → K w m' R' ni' → Kr (den w) s' = r) → srcF s sz z false (den y) (fun p l => appS e sz (den x) p l s Kr) = r := by
  unfold apZ at h
  cases y <;> (try exact h.elim)
  rename_i a j
  have h' := ixS_inv h; clear h
  obtain ⟨q, rfl, hq, h⟩ := h'
  obtain ⟨h1, h2, h3⟩ := apX_ok hm hsz h
  refine ⟨h1, rfl, fun Kr r hK => ?_⟩
  show (bif Nat.ble q 32768 then appS e sz (den x) q (repL z q) s Kr else false) = r
  rw [Nat.ble_eq_true_of_le (show q ≤ 32768 by omega), ← slL_const]
  exact h3 (fun j _ => by have := dens_length (ofVs z); rw [dens_ofVs] at this; show (ofVs z).length = sz; omega) Kr r hK
theorem muS_ok (hm : MemOK X Z s0 R s m) {u : TypeId} {x i v : SV} {K : Mem → Prop} (h : muS P m u x i v K) :
    isJ x = false ∧ ∃ kt d et, mapT P u = some (kt, d, et) ∧ ∀ (Kr : KV) (r : Bool), (∀ m' s', MemOK X Z s0 R s' m' → K m' → Kr undef s' = r) → mapUpd P kt d (den x) (den i) (den v) s Kr = r := by
  unfold muS at h
  split at h <;> (try exact h.elim)
  rename_i q hq
  obtain ⟨kt, d, et⟩ := q
  simp only at h
  cases x <;> (try exact h.elim)
  rename_i j b
  simp only at h
  cases hi' : getM m j with
  | none => rw [hi'] at h; exact h.elim
  | some en =>
    rw [hi'] at h
    cases en <;> (try exact h.elim)
    rename_i b' kv g
    obtain ⟨rfl, h⟩ := h
    obtain ⟨kv', f', a, h1, h2, h3, h4⟩ := h.ex
    rw [setK_eq] at h4
    have he := hm.get hi'
    have hM := mp_view he.1 h1
    refine ⟨rfl, kt, d, et, hq, fun Kr r hK => ?_⟩
    rw [h3]
    refine hM.upd h2 a (den v) fun s' hnx hfr hM' => ?_
    refine hK _ s' (hm.set hi' (e' := .mp b kv' (updM f' a v)) (hfr.mono fun c _ hc => hc) hnx ⟨?_, he.2⟩ (fun c hc => hc) fun c hc => hc) h4
    have e1 : (fun x => (updM f' a v x).map den) = fun x => if x = a then some (den v) else (f' x).map den := by
      funext x
      unfold updM
      by_cases hx : x = a
      · subst hx; rw [Nat.beq_refl, if_pos rfl]; rfl
      · rw [if_neg hx]
        cases hb : Nat.beq x a with
        | true => exact absurd (beq_true hb) hx
        | false => rfl
    rw [e1]; exact hM'
theorem clS_ok (hm : MemOK X Z s0 R s m) {u : TypeId} {x : SV} {K : Mem → Prop} (h : clS P m u x K) :
    isJ x = false ∧ ∃ kt et, P.underlying u = some (.map kt et) ∧ ∀ (Kr : KV) (r : Bool), (∀ m' s', MemOK X Z s0 R s' m' → K m' → Kr undef s' = r) → (asMap (den x) (Kr undef s) fun b => bif s.ok b then onMap s b fun _ c => Kr undef (s.set b (some (.map [] c))) else false) = r := by
  unfold clS at h
  split at h <;> (try exact h.elim)
  rename_i kt et hu
  cases x <;> (try exact h.elim)
  rename_i j b
  simp only at h
  cases hi' : getM m j with
  | none => rw [hi'] at h; exact h.elim
  | some en =>
    rw [hi'] at h
    cases en <;> (try exact h.elim)
    rename_i b' kv g
    obtain ⟨rfl, h⟩ := h
    rw [setK_eq] at h
    have he := hm.get hi'
    refine ⟨rfl, kt, et, hu, fun Kr r hK => ?_⟩
    obtain ⟨⟨⟨g1, g2⟩, g3, l, c, g4, g5, g6⟩, g7⟩ := he
    show (bif s.ok b then onMap s b fun _ c => Kr undef (s.set b (some (.map [] c))) else false) = r
    unfold onMap
    rw [g2, g4]
    refine hK _ _ (hm.set hi' (e' := .mp b kv noM) (Fr.set g3) rfl ⟨⟨⟨g1, g2⟩, g3, [], c, (by rw [St.at_set g3, if_pos rfl]; rfl), List.nodup_nil, fun _ => rfl⟩, g7⟩ (fun c hc => hc) fun c hc => hc) h
end
end Go.Ab
namespace Go.Ab
open Go.RowKit
section
variable {P : Program} {k n : Nat} {t : Fm Value k} {f : Frm} {m : Mem} {X Z : Nat → Prop} {s0 s : St} {R : Nat} {o : Oper} {call : CallT}
def fpM (m : Mem) (b : Nat) : Prop := ∃ x ∈ m, fpE x.2 b
def rdM (m : Mem) (b : Nat) : Prop := ∃ x ∈ m, rdE x.2 b
theorem MemOK.rebase (h : MemOK X Z s0 R s m) : MemOK (fpM m) (rdM m) s R s m :=
  ⟨.refl _ _, h.nx, h.fls, fun x hx => by
    have he := h.ent x hx
    obtain ⟨i, e⟩ := x
    cases e with
    | own b t l => exact ⟨he.1, .inr ⟨_, hx, rfl⟩⟩
    | ro a n c sz f =>
      refine ⟨he.1, ?_⟩
      by_cases hn : n = 0
      · exact .inl hn
      · rcases he.2 with h1 | ⟨b, p, rfl, h2, h3⟩
        · exact absurd h1 hn
        · exact .inr ⟨b, p, rfl, h2, .inr (.inr ⟨_, hx, hn, p, rfl⟩), h3.2⟩
    | gr a n t sz f => exact ⟨he.1, he.2.1, fun b hb => .inr ⟨_, hx, hb⟩⟩
    | lop b st pd n f ps x y d => exact ⟨he.1, .inr ⟨_, hx, rfl⟩⟩
    | mp b _ _ => exact ⟨he.1, .inr ⟨_, hx, rfl⟩⟩
    | it b _ _ => exact ⟨he.1, .inr ⟨_, hx, rfl⟩⟩
    | fam c sz l =>
      intro x hxl
      refine ⟨(he x hxl).1, ?_⟩
      by_cases hn : x.2.1 = 0
      · exact .inl hn
      · rcases (he x hxl).2 with h1 | ⟨b, p, e, h2, h3⟩
        · exact absurd h1 hn
        · exact .inr ⟨b, p, e, h2, .inr (.inr ⟨_, hx, x, hxl, hn, p, e⟩), h3.2⟩
    | dfr l => exact ⟨fun b hb => ⟨(he.1 b hb).1, (he.1 b hb).2.1, (he.1 b hb).2.2.1, .inr ⟨_, hx, hb⟩⟩, he.2⟩, h.dis⟩
theorem ent_old {x : Ent} (h : EntOK X Z s0 s x) {b : Nat} (hb : rdE x b) : s0.nx ≤ b ∨ X b ∨ Z b := by
  cases x with
  | ro a n c sz f =>
    obtain ⟨hn, p, rfl⟩ := hb
    rcases h.2 with h1 | ⟨b', p', h1, h2, h3⟩
    · exact absurd h1 hn
    · cases h1; exact h3.1
  | fam c sz l =>
    obtain ⟨x, hx, hn, p, e⟩ := hb
    rcases (h x hx).2 with h1 | ⟨b', p', h1, h2, h3⟩
    · exact absurd h1 hn
    · rw [e] at h1; cases h1; exact h3.1
  | _ => exact hb.elim
theorem MemOK.back (h : MemOK X Z s0 R s m) {R' : Nat} {s' : St} {m' : Mem} (k : MemOK (fpM m) (rdM m) s R' s' m') : MemOK X Z s0 R' s' m' := by
  have hnx := h.fr.1
  have hmine : ∀ b, s.nx ≤ b ∨ fpM m b → s0.nx ≤ b ∨ X b := fun b hb => by
    rcases hb with hb | ⟨x, hx, hb⟩
    · exact .inl (by omega)
    · exact ent_mine (h.ent x hx) hb
  have hold : ∀ b, s.nx ≤ b ∨ fpM m b ∨ rdM m b → s0.nx ≤ b ∨ X b ∨ Z b := fun b hb => by
    rcases hb with hb | hb | ⟨x, hx, hb⟩
    · exact .inl (by omega)
    · rcases hmine b (.inr hb) with h | h
      · exact .inl h
      · exact .inr (.inl h)
    · exact ent_old (h.ent x hx) hb
  refine ⟨h.fr.mine k.fr fun b hb => hmine b (.inr hb), k.nx, h.fl, fun x hx => ?_, k.dis⟩
  have he := k.ent x hx
  obtain ⟨i, e⟩ := x
  cases e with
  | own b t l => exact ⟨he.1, hmine b he.2⟩
  | ro a n c sz f =>
    refine ⟨he.1, ?_⟩
    rcases he.2 with h1 | ⟨b, p, h1, h2, h3⟩
    · exact .inl h1
    · exact .inr ⟨b, p, h1, h2, hold b h3.1, h3.2⟩
  | gr a n t sz f => exact ⟨he.1, he.2.1, fun b hb => hmine b (he.2.2 b hb)⟩
  | lop b st pd n f ps x y d => exact ⟨he.1, hmine b he.2⟩
  | mp b _ _ => exact ⟨he.1, hmine b he.2⟩
  | it b _ _ => exact ⟨he.1, hmine b he.2⟩
  | fam c sz l =>
    intro x hxl
    refine ⟨(he x hxl).1, ?_⟩
    rcases (he x hxl).2 with h1 | ⟨b, p, h1, h2, h3⟩
    · exact .inl h1
    · exact .inr ⟨b, p, h1, h2, hold b h3.1, h3.2⟩
  | dfr l => exact ⟨fun b hb => ⟨(he.1 b hb).1, (he.1 b hb).2.1, (he.1 b hb).2.2.1, hmine b (he.1 b hb).2.2.2⟩, he.2⟩
theorem vcells_stN {s : St} {b o z : Nat} (v : Value) (Kr : KV) : Nat.beq (vcells v).length z = true → isCh v = false →
    (match v with
      | .agg cs => bif Nat.beq cs.toList.length z then stN s b o cs.toList (Kr undef) else false
      | v => bif Nat.beq z 1 then st1 s b o v (Kr undef) else false) = stN s b o (vcells v) (Kr undef) := by
  intro hz hc
  have hz := beq_true hz
  subst hz
  cases v <;> first | exact st1_eq _ _ _ _ _ | (cases hc; done) | skip
  rename_i cs
  obtain ⟨cs⟩ := cs
  show (bif Nat.beq cs.length cs.length then stN s b o cs (Kr undef) else false) = _
  rw [Nat.beq_refl]; rfl
theorem efS_ok' (hf : FrameOK k n t f) (hm : MemOK X Z s0 R s m) {ni : Nat} {K : SV → Mem → Nat → Nat → Prop} (h : efS P call n m f o R ni K) :
    ∃ c, cOper P k n o = .eff c ∧ ∀ (Kr : KV) (r : Bool), (∀ w m' R' ni' s', MemOK X Z s0 R' s' m' → K w m' R' ni' → Kr (den w) s' = r) → c.m call t s Kr = r := by
  unfold efS at h
  split at h <;> (try exact h.elim)
  · rename_i u x y hop
    split at h <;> (try exact h.elim)
    rename_i z hz
    obtain ⟨hj, h⟩ := njS_inv h
    obtain ⟨b, a, hx, h1, h2, h3⟩ := stS_ok hm h
    have hjx : isJ (evS n f x) = false := by cases hx' : evS n f x <;> first | rfl | (rw [hx'] at hx; cases hx)
    obtain ⟨g, hg, hgt⟩ := evS_ok hf x hjx
    obtain ⟨gy, hgy, hyt⟩ := evS_ok hf y hj
    refine ⟨_, (by unfold cOper; rw [hop]; simp only [hg, hgy]; unfold oStore; simp only [hz]; rfl), fun Kr r hK => ?_⟩
    show (asPtr (g.g t) fun b o => match gy.g t with
      | .agg cs => bif Nat.beq cs.toList.length z then stN s b o cs.toList (Kr undef) else false
      | v => bif Nat.beq z 1 then st1 s b o v (Kr undef) else false) = r
    rw [hgt, hx, hyt]
    refine (vcells_stN _ Kr h1 h2).trans (h3 (Kr undef) r fun m' s' hm' hk => ?_)
    exact hK .junk _ _ _ s' hm' hk
  · rename_i c hop
    split at h <;> (try exact h.elim)
    · rename_i x hx
      obtain ⟨hj, h⟩ := njS_inv h
      obtain ⟨gs, vs, h1, h2, h⟩ := evL_ok hf h
      obtain ⟨g, hg, hgt⟩ := evS_ok hf x hj
      refine ⟨_, (by unfold cOper; rw [hop]; simp only [hx, hg, h1]; rfl), fun Kr r hK => ?_⟩
      show call (g.g t) (evAll t gs) Kr s = r
      rw [hgt, h2]
      exact h.run X Z s0 s hm Kr r hK
    · rename_i b hb
      split at h <;> (try exact h.elim)
      · split at h <;> (try exact h.elim)
        rename_i x y u w ha ht
        split at h <;> (try exact h.elim)
        rename_i e sl he hsl
        split at h <;> (try exact h.elim)
        rename_i i z hi hz
        cases hc : (Nat.beq z.length i.size && (Nat.ble i.bytes 1000000 && Nat.ble 1 i.size)) with
        | false => rw [hc] at h; exact h.elim
        | true =>
          rw [hc] at h
          simp only [cond_true] at h
          obtain ⟨h2, h3⟩ := and_true hc
          obtain ⟨h3, h4⟩ := and_true h3
          cases sl with
          | true =>
            simp only [cond_true] at h
            obtain ⟨hjx, hjy, h5⟩ := apF_ok hm (ble_true h4) h
            obtain ⟨g, hg, hgt⟩ := evS_ok hf x hjx
            obtain ⟨gy, hgy, hyt⟩ := evS_ok hf y hjy
            refine ⟨_, (by unfold cOper; rw [hop]; simp only [hb]; unfold cBuiltinM; simp only [ha, ht]; unfold cBuiltin; simp only [cEvs_two hg hgy]; unfold oAppend; simp only [he, hsl, hi, hz, h2, h3, h4, Bool.and_self, cond_true]; rfl), fun Kr r hK => ?_⟩
            show source s i.size (gy.g t) (fun p l => appS e i.size (g.g t) p l s Kr) = r
            rw [hgt, hyt]
            exact h5 Kr r hK
          | false =>
            simp only [cond_false] at h
            obtain ⟨hjx, hjy, h5⟩ := apZ_ok hm (ble_true h4) (beq_true h2) h
            obtain ⟨g, hg, hgt⟩ := evS_ok hf x hjx
            obtain ⟨gy, hgy, hyt⟩ := evS_ok hf y hjy
            refine ⟨_, (by unfold cOper; rw [hop]; simp only [hb]; unfold cBuiltinM; simp only [ha, ht]; unfold cBuiltin; simp only [cEvs_two hg hgy]; unfold oAppend; simp only [he, hsl, hi, hz, h2, h3, h4, Bool.and_self, cond_true]; rfl), fun Kr r hK => ?_⟩
            show srcF s i.size z false (gy.g t) (fun p l => appS e i.size (g.g t) p l s Kr) = r
            rw [hgt, hyt]
            exact h5 Kr r hK
      · split at h <;> (try exact h.elim)
        rename_i x u ts ha ht
        obtain ⟨hjx, kt, et, hu, h5⟩ := clS_ok hm h
        obtain ⟨g, hg, hgt⟩ := evS_ok hf x hjx
        refine ⟨_, (by unfold cOper; rw [hop]; simp only [hb]; unfold cBuiltinM; simp only [ha, ht, hg]; unfold oClear; simp only [hu]; rfl), fun Kr r hK => ?_⟩
        simp only [hgt]
        exact h5 Kr r fun m' s' hm' hk => hK .junk _ _ _ s' hm' hk
  rotate_left; rotate_left
  · rename_i u x hop
    unfold rstS at h
    split at h <;> (try exact h.elim)
    rename_i hu
    cases hx : evS n f x <;> rw [hx] at h <;> (try exact h.elim)
    rename_i v
    cases v <;> (try exact h.elim)
    rename_i w
    obtain ⟨g, hg, hgt⟩ := evS_eq hf hx rfl
    cases R with
    | zero => exact h.elim
    | succ R =>
      have hlt : s.nx < 4398046511104 := by have := hm.nx; omega
      refine ⟨_, (by unfold cOper; rw [hop]; simp only [hg]; unfold oRange; simp only [hu]; rfl), fun Kr r hK => ?_⟩
      simp only [hgt]
      rw [blt_of hlt]
      have h1 : MemOK X Z s0 R (s.push (.sit w 0)) m := hm.keep (Kp.push _ hlt)
      refine hK _ _ _ _ _ (h1.cons (i := ni) (e := .it s.nx w 0) ⟨⟨⟨by rw [St.nx_push]; omega, ?_⟩, hlt, by rw [St.at_push hlt, if_pos rfl]⟩, .inl hm.fr.1⟩ fun x hx => apE_new (hm.ent x hx) (fun _ hb => hb) fun b hb => by cases hb; exact Nat.le_refl _) (h s.nx)
      show (!Nat.blt s.nx s.fl) = true
      have := hm.fls
      cases hb : Nat.blt s.nx s.fl with
      | false => rfl
      | true => have := blt_true hb; omega
  · rename_i x str hop
    unfold nxS at h
    cases str with
    | false => exact h.elim
    | true =>
      simp only [cond_true] at h
      cases hx : evS n f x <;> rw [hx] at h <;> (try exact h.elim)
      rename_i i b o'
      simp only at h
      cases ho : Nat.beq o' 0 with
      | false => rw [ho] at h; exact h.elim
      | true =>
        rw [ho] at h
        have ho := beq_true ho
        subst ho
        simp only [cond_true] at h
        cases hi : getM m i with
        | none => rw [hi] at h; exact h.elim
        | some en =>
          rw [hi] at h
          cases en <;> (try exact h.elim)
          rename_i b' w p
          obtain ⟨rfl, h⟩ := h
          obtain ⟨g, hg, hgt⟩ := evS_eq hf hx rfl
          obtain ⟨⟨⟨q1, q2⟩, q3, q4⟩, q5⟩ := hm.get hi
          refine ⟨_, (by unfold cOper; rw [hop]; simp only [hg]; unfold oNext; rfl), fun Kr r hK => ?_⟩
          simp only [hgt]
          show (asPtr (ptr b 0) fun b o => _) = r
          simp only [ptr, asPtr, onAddr, Nat.beq_refl, q2, q4, Bool.and_self, cond_true]
          cases hb : Nat.blt p w.size with
          | true =>
            have h1 := h.t hb
            obtain ⟨c, d, hd, hk⟩ := h1.ex
            rw [setK_eq] at hk
            simp only [hd, cond_true]
            exact hK _ _ _ _ _ (hm.set hi (e' := .it b w (Nat.add p d)) (Fr.set q3) rfl ⟨⟨⟨q1, q2⟩, q3, by rw [St.at_set q3, if_pos rfl]⟩, q5⟩ (fun b hb => hb) fun b hb => hb) hk
          | false =>
            simp only [cond_false]
            exact hK _ _ _ _ _ hm (h.f hb)
  all_goals
    rename_i u x y w hop
    obtain ⟨hjy, h⟩ := njS_inv h
    obtain ⟨hjw, h⟩ := njS_inv h
    obtain ⟨hjx, kt, d, et, hq, h5⟩ := muS_ok hm h
    obtain ⟨g, hg, hgt⟩ := evS_ok hf x hjx
    obtain ⟨gy, hgy, hyt⟩ := evS_ok hf y hjy
    obtain ⟨gw, hgw, hwt⟩ := evS_ok hf w hjw
    refine ⟨_, (by unfold cOper; rw [hop]; simp only [hg, hgy, hgw]; unfold oMapUpdate; simp only [hq]; rfl), fun Kr r hK => ?_⟩
    simp only [hgt, hyt, hwt]
    exact h5 Kr r fun m' s' hm' hk => hK .junk _ _ _ s' hm' hk
theorem efS_ok (hf : FrameOK k n t f) (hm : MemOK X Z s0 R s m) {ni : Nat} {K : SV → Mem → Nat → Nat → Prop} (h : efS P call n m f o R ni K) :
    ∃ c, cOper P k n o = .eff c ∧ ∀ (Kr : KV) (r : Bool), (∀ w m' R' ni' s', MemOK X Z s0 R' s' m' → MemOK (fpM m) (rdM m) s R' s' m' → K w m' R' ni' → Kr (den w) s' = r) → c.m call t s Kr = r := by
  obtain ⟨c, hc, h1⟩ := efS_ok' hf hm.rebase h
  exact ⟨c, hc, fun Kr r hK => h1 Kr r fun w m' R' ni' s' hm' hk => hK w m' R' ni' s' (hm.back hm') hm' hk⟩
end
section
variable (P : Program) (call : CallT)
def okD (n : Nat) : Option Tmp → Bool
  | none => true
  | some d => Nat.blt d n
structure eqJ (a b : Int) (K : Prop) : Prop where
  h : a = b
  k : K
theorem eqJ_rfl {a : Int} {K : Prop} (h : K) : eqJ a a K := ⟨rfl, h⟩
def isMk (o : Oper) : Bool := match o.op with
  | .makeSlice _ _ _ => true
  | _ => false
/-- a new slice of zeroes, as long as it has room -/
def mkS (n : Nat) (m : Mem) (f : Frm) (o : Oper) (R ni : Nat) (K : SV → Mem → Nat → Nat → Prop) : Prop := match o.op with
  | .makeSlice t l c => match elemOfSlice P t with
    | some e => match P.info? e, zeroL P e with
      | some i, some z => bif Nat.ble i.bytes 1000000 && Nat.beq z.length i.size then bif Nat.beq e ro then False else (match evS n f l with
        | .int _ j => (match evS n f c with
          | .int _ j' => eqJ j' j (ixS j 32769 fun q => ltS (Nat.mul q i.size) 32769 (match R with
            | 0 => False
            | R + 1 => ∀ b, K (.sl ni (some ⟨b, 0, none⟩) q q) ((ni, .gr (some ⟨b, 0, none⟩) q e i.size (fun _ => ofVs z)) :: m) R (ni + 1)))
          | _ => False)
        | _ => False) else False
      | _, _ => False
    | none => False
  | _ => False
def opS (n : Nat) (o : Oper) (f : Frm) (m : Mem) (R ni : Nat) (K : SV → Mem → Nat → Nat → Prop) : Prop :=
  bif isAl o then alS P n f o fun e l mk => (match R with
    | 0 => False
    | R + 1 => ∀ b, forceS (mk ni b) fun v => entK b e l fun en => K v ((ni, en) :: m) R (ni + 1))
  else bif isEf o then efS P call n m f o R ni K
  else bif isMk o then mkS P n m f o R ni K
  else stepV P n m f o fun v => K v m R ni
def nthOp : Nat → List Oper → Option Oper
  | _, [] => none
  | 0, o :: _ => some o
  | i + 1, _ :: l => nthOp i l
/-- whether a guarded operation is wanted -/
def grdS (n : Nat) (f : Frm) (all : List Oper) (g : Option (Nat × Bool)) (y x : Prop) : Prop := match g with
  | none => y
  | some p => match p with
    | (j, want) => match nthOp j all with
      | some q => match q.dst with
        | some d => bif Nat.blt d n then (match getF f d with
          | .bool b => (match want with
            | true => brS b y x
            | false => brS b x y)
          | .val v => bif isCh v || isB want v then False else x
          | _ => False) else False
        | none => False
      | none => False
/-- (by the recursor itself: what is left of a row looks the same to all who unfold it) -/
def wpOps (n : Nat) (all os : List Oper) : Frm → Mem → Nat → Nat → (Frm → Mem → Nat → Nat → Prop) → Prop :=
  List.rec (motive := fun _ => Frm → Mem → Nat → Nat → (Frm → Mem → Nat → Nat → Prop) → Prop) (fun f m R ni K => K f m R ni)
    (fun o _ ih f m R ni K => bif okD n o.dst then grdS n f all o.guard (opS P call n o f m R ni fun v m R ni => putK o.dst v f fun f => ih f m R ni K) (putK o.dst (.val undef) f fun f => ih f m R ni K) else False) os
theorem wpOps_cons {n : Nat} {all os : List Oper} {o : Oper} {f : Frm} {m : Mem} {R ni : Nat} {K : Frm → Mem → Nat → Nat → Prop} : Ab.wpOps P call n all (o :: os) f m R ni K =
    bif okD n o.dst then grdS n f all o.guard (opS P call n o f m R ni fun v m R ni => putK o.dst v f fun f => Ab.wpOps P call n all os f m R ni K) (putK o.dst (.val undef) f fun f => Ab.wpOps P call n all os f m R ni K) else False := rfl
end
section
variable {P : Program} {k n : Nat} {t : Fm Value k} {f : Frm} {m : Mem} {X Z : Nat → Prop} {s0 s : St} {R ni : Nat} {o : Oper} {call : CallT} {r : Bool}
theorem okD_put {d : Option Tmp} (h : okD n d = true) : ∃ p : SW Value k, cPut k n d = some p := by
  cases d with
  | none => exact ⟨_, rfl⟩
  | some d =>
    have h : Nat.blt d n = true := h
    exact ⟨setW k d, by show (bif Nat.blt d n then some (setW k d) else none) = _; rw [h]; rfl⟩
theorem nthOp_get : ∀ {l : List Oper} {i : Nat}, nthOp i l = l[i]?
  | [], _ => by simp [nthOp]
  | _ :: _, 0 => rfl
  | _ :: l, i + 1 => by simpa [nthOp] using nthOp_get (l := l) (i := i)
/-- a guard, as the machine asks it -/
theorem grdS_ok (hf : FrameOK k n t f) {all : List Oper} {g : Option (Nat × Bool)} {y x : Prop} (h : grdS n f all g y x) :
    (g = none ∧ cGuard k n all g = some none ∧ y) ∨ ∃ gw want, cGuard k n all g = some (some (gw, want)) ∧ isCh (gw.g t) = false ∧ ((isB want (gw.g t) = true ∧ y) ∨ (isB want (gw.g t) = false ∧ x)) := by
  unfold grdS at h
  cases g with
  | none => exact .inl ⟨rfl, rfl, h⟩
  | some p =>
    obtain ⟨j, want⟩ := p
    simp only at h
    cases hq : nthOp j all with
    | none => rw [hq] at h; exact h.elim
    | some q =>
      rw [hq] at h
      simp only at h
      rw [nthOp_get] at hq
      cases hd : q.dst with
      | none => rw [hd] at h; exact h.elim
      | some d =>
        rw [hd] at h
        simp only at h
        cases hb : Nat.blt d n with
        | false => rw [hb] at h; exact h.elim
        | true =>
          rw [hb] at h
          simp only [cond_true] at h
          have hgd : cGuard k n all (some (j, want)) = some (some (getW k d, want)) := by
            unfold cGuard
            simp only [hq, hd, hb, cond_true]
          refine .inr ⟨_, _, hgd, ?_⟩
          cases hv : getF f d <;> rw [hv] at h <;> (try exact h.elim)
          · rename_i b
            have e := hf d (blt_true hb) (by rw [hv]; rfl)
            rw [hv] at e
            rw [e]
            refine ⟨rfl, ?_⟩
            show ((b == want) = true ∧ y) ∨ ((b == want) = false ∧ x)
            cases want
            · have h' := brS_inv h
              clear h
              rcases h' with ⟨rfl, h⟩ | ⟨rfl, h⟩
              · exact .inr ⟨rfl, h⟩
              · exact .inl ⟨rfl, h⟩
            · have h' := brS_inv h
              clear h
              rcases h' with ⟨rfl, h⟩ | ⟨rfl, h⟩
              · exact .inl ⟨rfl, h⟩
              · exact .inr ⟨rfl, h⟩
          · rename_i v
            have e := hf d (blt_true hb) (by rw [hv]; rfl)
            rw [hv] at e
            rw [e]
            simp only at h
            show isCh v = false ∧ ((isB want v = true ∧ y) ∨ (isB want v = false ∧ x))
            cases hc : isCh v <;> cases hw : isB want v <;> rw [hc, hw] at h <;> first | exact h.elim | exact ⟨rfl, .inr ⟨rfl, h⟩⟩
theorem mkS_ok (hf : FrameOK k n t f) (hm : MemOK X Z s0 R s m) {K : SV → Mem → Nat → Nat → Prop} (h : mkS P n m f o R ni K) {next : OpsC k} {p : SW Value k} {Kr : Fm Value k → St → Bool}
    (hK : ∀ w m' R' ni' s', MemOK X Z s0 R' s' m' → K w m' R' ni' → next.run call Kr (p.s (den w) t) s' = r) : oneOp (cOper P k n o) next p call Kr t s = r := by
  unfold mkS at h
  split at h <;> (try exact h.elim)
  rename_i u l c hop
  split at h <;> (try exact h.elim)
  rename_i e he
  split at h <;> (try exact h.elim)
  rename_i i z hi hz
  cases hc : (Nat.ble i.bytes 1000000 && Nat.beq z.length i.size) with
  | false => rw [hc] at h; exact h.elim
  | true =>
    rw [hc] at h
    simp only [cond_true] at h
    cases hro : Nat.beq e ro with
    | true => rw [hro] at h; exact h.elim
    | false =>
      rw [hro] at h
      simp only [cond_false] at h
      cases hl : evS n f l <;> rw [hl] at h <;> (try exact h.elim)
      rename_i a j
      cases hcc : evS n f c <;> rw [hcc] at h <;> (try exact h.elim)
      rename_i a2 j2
      obtain ⟨hj, h⟩ := h
      have h' := ixS_inv h
      clear h
      obtain ⟨q, hjq, hq, h⟩ := h'
      have h' := ltS_inv h
      clear h
      obtain ⟨hsz, h⟩ := h'
      subst hj hjq
      cases R with
      | zero => exact h.elim
      | succ R =>
        obtain ⟨gx, hgx, hxt⟩ := evS_eq (k := k) hf hl rfl
        obtain ⟨gy, hgy, hyt⟩ := evS_eq (k := k) hf hcc rfl
        have hlt : s.nx < 4398046511104 := by have := hm.nx; omega
        obtain ⟨hc1, hc2⟩ := and_true hc
        have hzl : z.length = i.size := beq_true hc2
        have hL : (repL z q).length = q * i.size := by rw [repL_length, hzl]
        have hco : cOper P k n o = .al ⟨fun f K => asNat (gx.g f) fun l => asNat (gy.g f) fun c => bif Nat.ble l c && Nat.ble c 32768 then mkL (repL z c) e (fun b => slc b 0 l c) K else false⟩ := by
          unfold cOper; rw [hop]; simp only [hgx, hgy]; unfold oMakeSlice; simp only [he, hi, hz, hc, cond_true]
        rw [hco]
        show (asNat (gx.g t) fun l => asNat (gy.g t) fun c => bif Nat.ble l c && Nat.ble c 32768 then mkL (repL z c) e (fun b => slc b 0 l c) (fun o v => bif Nat.blt s.nx 4398046511104 then next.run call Kr (p.s (v s.nx) t) (s.push o) else false) else false) = r
        rw [asNat_of hxt, asNat_of hyt, Nat.ble_eq_true_of_le (Nat.le_refl q), Nat.ble_eq_true_of_le (show q ≤ 32768 by omega)]
        unfold mkL
        rw [Nat.ble_eq_true_of_le (show (repL z q).length ≤ 32768 by rw [hL]; have hsz : q * i.size < 32769 := hsz; omega)]
        simp only [Bool.and_self, cond_true, blt_of hlt]
        have h1 : MemOK X Z s0 R (s.push (mkC (repL z q) e false)) m := hm.keep (Kp.push _ hlt)
        refine hK (.sl ni (some ⟨s.nx, 0, none⟩) q q) _ _ _ _ (h1.cons (e := .gr (some ⟨s.nx, 0, none⟩) q e i.size fun _ => ofVs z) ⟨fun j _ => ?_, .inr ⟨s.nx, q, rfl, ?_, ?_⟩, fun b hb => .inl ?_⟩ fun x hx => apE_new (hm.ent x hx) (fun _ hb => hb) fun b hb => ?_) (h s.nx)
        · have := dens_length (ofVs z)
          rw [dens_ofVs] at this
          show (ofVs z).length = i.size
          omega
        · rw [slL_const]
          exact OwnE.push (by rw [hL]; have hsz : q * i.size < 32769 := hsz; omega) hlt hm.fls hro
        · rw [slL_const, hL]
        · have hb : s.nx = b := hb
          rw [← hb]; exact hm.fr.1
        · have hb : s.nx = b := hb
          omega
/-- one operation -/
theorem opS_ok (hf : FrameOK k n t f) (hm : MemOK X Z s0 R s m) {K : SV → Mem → Nat → Nat → Prop} (h : opS P call n o f m R ni K) {next : OpsC k} {p : SW Value k} {Kr : Fm Value k → St → Bool}
    (hK : ∀ w m' R' ni' s', MemOK X Z s0 R' s' m' → K w m' R' ni' → next.run call Kr (p.s (den w) t) s' = r) : oneOp (cOper P k n o) next p call Kr t s = r := by
  unfold opS at h
  cases ha : isAl o with
  | true =>
    rw [ha] at h
    simp only [cond_true] at h
    obtain ⟨e, l, mk, h1, h2, h3, c, h4, h5⟩ := alS_ok hf h
    rw [h4]
    cases R with
    | zero => exact h1.elim
    | succ R =>
      have hlt : s.nx < 4398046511104 := by have := hm.nx; omega
      show (c.m t fun o v => bif Nat.blt s.nx 4398046511104 then next.run call Kr (p.s (v s.nx) t) (s.push o) else false) = r
      rw [h5 ni, blt_of hlt]
      have h1 := h1 s.nx
      rw [forceS_eq, entK_eq] at h1
      exact hK _ _ _ _ _ (hm.pushO h2 h3 ni) h1
  | false =>
    rw [ha] at h
    simp only [cond_false] at h
    cases he : isEf o with
    | true =>
      rw [he] at h
      simp only [cond_true] at h
      obtain ⟨c, h1, h2⟩ := efS_ok' hf hm h
      rw [h1]
      exact h2 _ _ fun w m' R' ni' s' hm' hk => hK w m' R' ni' s' hm' hk
    | false =>
      rw [he] at h
      simp only [cond_false] at h
      cases hmk : isMk o with
      | true => rw [hmk] at h; exact mkS_ok hf hm h hK
      | false =>
      rw [hmk] at h
      simp only [cond_false] at h
      obtain ⟨v, hv, ⟨c, h1, h2⟩ | ⟨_, c, h1, h2⟩⟩ := stepV_ok hf hm h
      · rw [h1]; exact (h2 _).trans (hK v _ _ _ s hm hv)
      · rw [h1]; exact (h2 _).trans (hK v _ _ _ s hm hv)
theorem stepO_one {all : List Oper} {next : OpsC k} {p : SW Value k} {Kr : Fm Value k → St → Bool} (hp : cPut k n o.dst = some p) (hg : cGuard k n all o.guard = some none) : (stepO P k n all o next).run call Kr t s = oneOp (cOper P k n o) next p call Kr t s := by
  unfold stepO
  simp only [hp, hg]
  cases cOper P k n o <;> rfl
theorem stepO_grd {all : List Oper} {next : OpsC k} {p : SW Value k} {Kr : Fm Value k → St → Bool} {g : GW Value k} {want : Bool} (hp : cPut k n o.dst = some p) (hg : cGuard k n all o.guard = some (some (g, want))) (hc : isCh (g.g t) = false) : (stepO P k n all o next).run call Kr t s = bif isB want (g.g t) then oneOp (cOper P k n o) next p call Kr t s else next.run call Kr (p.s undef t) s := by
  unfold stepO
  simp only [hp, hg, hc, Bool.not_false, cond_true]
theorem isJ_den {w : SV} : isJ w = false → den w = den w := fun _ => rfl
theorem wpOps_ok (hn : n ≤ pow8 k) {all : List Oper} {Kr : Fm Value k → St → Bool} {K : Frm → Mem → Nat → Nat → Prop} (hK : ∀ f' t' m' R' ni' s', FrameOK k n t' f' → MemOK X Z s0 R' s' m' → K f' m' R' ni' → Kr t' s' = r) :
    ∀ {os : List Oper} {f : Frm} {t : Fm Value k} {m : Mem} {R ni : Nat} {s : St}, FrameOK k n t f → MemOK X Z s0 R s m → wpOps P call n all os f m R ni K → (cOps P k n all os).run call Kr t s = r
  | [], f, t, m, R, ni, s, hf, hm, h => hK f t m R ni s hf hm h
  | o :: os, f, t, m, R, ni, s, hf, hm, h => by
    rw [wpOps_cons] at h
    cases hd : okD n o.dst with
    | false => rw [hd] at h; exact h.elim
    | true =>
      rw [hd] at h
      simp only [cond_true] at h
      obtain ⟨p, hp⟩ := okD_put (k := k) hd
      refine Eq.trans ops_cons ?_
      have hyes : opS P call n o f m R ni (fun v m R ni => putK o.dst v f fun f => wpOps P call n all os f m R ni K) → oneOp (cOper P k n o) (cOps P k n all os) p call Kr t s = r := fun h =>
        opS_ok hf hm h fun w m' R' ni' s' hm' hk => wpOps_ok hn hK (hf.putO hn hp fun _ => rfl) hm' (by rw [putK_eq] at hk; exact hk)
      rcases grdS_ok hf h with ⟨_, hg, h⟩ | ⟨gw, want, hg, hc, ⟨hb, h⟩ | ⟨hb, h⟩⟩
      · rw [stepO_one hp hg]; exact hyes h
      · rw [stepO_grd hp hg hc, hb]; exact hyes h
      · rw [stepO_grd hp hg hc, hb]
        exact wpOps_ok hn hK (hf.putO hn hp (w := .val undef) fun _ => rfl) hm (by rw [putK_eq] at h; exact h)
end
end Go.Ab
namespace Go.Ab
open Go.RowKit
section
variable (P : Program) (call : CallT)
abbrev Rds := List (Nat × (Frm × (Oper × SV)))
abbrev Pds := List (Nat × (Nat × (Nat × (TypeId × List SV))))
/-- a value that equals itself, seen by the machine -/
def lfS : SV → Bool
  | .int _ _ | .bool _ | .ptr _ _ _ | .slc _ _ _ _ _ | .sl _ _ _ _ | .el _ _ _ _ _ _ | .yf _ _ | .sb _ _ _ _ _ _ _ | .mpv _ _ | .junk => true
  | .val v => match v with
    | .slice none _ _ | .pointer none | .nilFunc | .nilIface | .map none => true
    | _ => false
  | _ => false
def lf2 : SV → Bool
  | .agg l => l.all lfS && Nat.ble l.length 20
  | v => lfS v
/-- a struct or function value of such parts -/
def upS (p : SV → Bool) : SV → Bool
  | .agg l => l.all p && Nat.ble l.length 20
  | .fn _ fs cs => fs.all p && cs.all p && Nat.ble fs.length 20 && Nat.ble cs.length 20
  | v => lfS v
def lv3 : SV → Bool := upS (upS (upS lfS))
def vqS : SV → Bool
  | .agg l => (l.all lfS && Nat.ble l.length 70) || (l.all lv3 && Nat.ble l.length 20)
  | .fn _ fs cs => (fs.all lf2 && cs.all lfS && Nat.ble fs.length 70 && Nat.ble cs.length 70) || (fs.all lv3 && cs.all lv3 && Nat.ble fs.length 20 && Nat.ble cs.length 20)
  | v => lfS v
structure okS (A : Prop) (K : Prop) : Prop where
  h : A
  k : K
theorem okS_intro {A K : Prop} (h : A) (hK : K) : okS A K := ⟨h, hK⟩
/-- (a function value's parts may be open: then it is asked) -/
def vqK (v : SV) (K : Prop) : Prop := match v with
  | .fn g fs cs => okS (vqS (.fn g fs cs) = true) K
  | v => bif vqS v then K else False
theorem vqK_inv {v : SV} {K : Prop} (h : vqK v K) : vqS v = true ∧ K := by
  unfold vqK at h
  split at h
  · exact ⟨h.h, h.k⟩
  · cases hv : vqS v with
    | true => rw [hv] at h; exact ⟨rfl, h⟩
    | false => rw [hv] at h; exact h.elim
structure seS (a b : SV) (K : Prop) : Prop where
  h : a = b
  k : K
theorem seS_rfl {a : SV} {K : Prop} (h : K) : seS a a K := ⟨rfl, h⟩
/-- what was read is read again -/
def rcS (n mask : Nat) (m : Mem) (rs : Rds) : Prop → Prop :=
  List.rec (motive := fun _ => Prop → Prop) (fun K => K)
    (fun x _ ih K => match x with
      | (i, f, o, v) => bif Nat.testBit mask i then ih K else stepV P n m f o fun w => seS w v (vqK v (ih K))) rs
def memI (i : Nat) : Pds → Bool
  | [] => false
  | x :: r => match x with
    | (j, _) => Nat.beq j i || memI i r
/-- blocks that are laid now -/
def adM (mask : Nat) : Pds → Mem → (Mem → Prop) → Prop
  | [], m, K => K m
  | x :: r, m, K => match x with
    | (i, c, b, e, l) => bif Nat.testBit mask i then adM mask r m fun m => entK b e l fun en => K ((c, en) :: m) else adM mask r m K
def adA : Pds → Mem → (Mem → Prop) → Prop
  | [], m, K => K m
  | x :: r, m, K => match x with
    | (_, c, b, e, l) => adA r m fun m => entK b e l fun en => K ((c, en) :: m)
def lfP (mask : Nat) : Pds → (Pds → Prop) → Prop
  | [], K => K []
  | x :: r, K => match x with
    | (i, y) => bif Nat.testBit mask i then lfP mask r K else lfP mask r fun r => K ((i, y) :: r)
def wpDrs (n : Nat) (all : List Oper) (masks : List Nat) (os : List (Nat × Oper)) : Frm → Mem → Nat → Nat → Rds → Pds → (Frm → Mem → Nat → Nat → Prop) → Prop :=
  List.rec (motive := fun _ => Frm → Mem → Nat → Nat → Rds → Pds → (Frm → Mem → Nat → Nat → Prop) → Prop) (fun f m R ni _ pend K => adA pend m fun m => K f m R ni)
    (fun x _ ih f m R ni reads pend K => match x with
      | (i, o) => bif okD n o.dst then grdS n f all o.guard
        (bif isAl o then alS P n f o fun e l mk => (bif memI i pend then False else ∀ b, forceS (mk ni b) fun v => putK o.dst v f fun f => ih f m R (ni + 1) reads ((i, ni, b, e, l) :: pend) K)
        else bif isEf o then adM (masks.getD i 0) pend m fun m => efS P call n m f o R ni fun v m R ni =>
          rcS P n (masks.getD i 0) m reads (lfP (masks.getD i 0) pend fun pend => putK o.dst v f fun f => ih f m R ni reads pend K)
        else stepV P n m f o fun v => putK o.dst v f fun f' => bif isLd P o then ih f' m R ni ((i, f, o, v) :: reads) pend K else ih f' m R ni reads pend K)
        (putK o.dst (.val undef) f fun f => ih f m R ni reads pend K) else False) os
theorem wpDrs_cons {n : Nat} {all : List Oper} {masks : List Nat} {i : Nat} {o : Oper} {os : List (Nat × Oper)} {f : Frm} {m : Mem} {R ni : Nat} {reads : Rds} {pend : Pds} {K : Frm → Mem → Nat → Nat → Prop} : Ab.wpDrs P call n all masks ((i, o) :: os) f m R ni reads pend K =
    bif okD n o.dst then grdS n f all o.guard
        (bif isAl o then alS P n f o fun e l mk => (bif memI i pend then False else ∀ b, forceS (mk ni b) fun v => putK o.dst v f fun f => Ab.wpDrs P call n all masks os f m R (ni + 1) reads ((i, ni, b, e, l) :: pend) K)
        else bif isEf o then adM (masks.getD i 0) pend m fun m => efS P call n m f o R ni fun v m R ni =>
          rcS P n (masks.getD i 0) m reads (lfP (masks.getD i 0) pend fun pend => putK o.dst v f fun f => Ab.wpDrs P call n all masks os f m R ni reads pend K)
        else stepV P n m f o fun v => putK o.dst v f fun f' => bif isLd P o then Ab.wpDrs P call n all masks os f' m R ni ((i, f, o, v) :: reads) pend K else Ab.wpDrs P call n all masks os f' m R ni reads pend K)
        (putK o.dst (.val undef) f fun f => Ab.wpDrs P call n all masks os f m R ni reads pend K) else False := rfl
end
section
variable {P : Program} {k n : Nat} {t : Fm Value k} {f : Frm} {m : Mem} {X Z : Nat → Prop} {s0 s : St} {R ni : Nat} {o : Oper} {call : CallT} {r : Bool} {base : Nat}
theorem veq_leaf {v : SV} (h : lfS v = true) (d : Nat) : veq (d + 2) (den v) (den v) = true := by
  cases v <;> (try (cases h; done))
  · exact veq_int (d + 1) _ _
  · show (_ == _) = true; simp
  · show (Nat.beq _ _ && Nat.beq _ _) = true; simp only [Nat.beq_refl]; rfl
  · show (Nat.beq _ _ && Nat.beq _ _ && Nat.beq _ _ && Nat.beq _ _) = true; simp only [Nat.beq_refl]; rfl
  · rename_i i a n c
    show veq (d + 2) (.slice a n c) (.slice a n c) = true
    cases a with
    | none => show (Nat.beq _ _ && Nat.beq _ _) = true; simp only [Nat.beq_refl]; rfl
    | some a =>
      obtain ⟨b, o, sp⟩ := a
      cases sp with
      | none => show (Nat.beq _ _ && Nat.beq _ _ && Nat.beq _ _ && Nat.beq _ _) = true; simp only [Nat.beq_refl]; rfl
      | some x => show (Nat.beq _ _ && Nat.beq _ _ && Nat.beq _ _ && Nat.beq _ _ && Nat.beq _ _) = true; simp only [Nat.beq_refl]; rfl
  · show (Nat.beq _ _ && Nat.beq _ _) = true; simp only [Nat.beq_refl]; rfl
  · rename_i i b; show (Nat.beq b b && veqs (d + 1) [] [] && veqs (d + 1) [] []) = true; rw [Nat.beq_refl]; rfl
  · show (Nat.beq _ _ && Nat.beq _ _ && Nat.beq _ _ && Nat.beq _ _) = true; simp only [Nat.beq_refl]; rfl
  · show Nat.beq _ _ = true; exact Nat.beq_refl _
  · rename_i v
    cases v <;> (try (cases h; done))
    · rename_i p; cases p <;> first | rfl | cases h
    · rename_i a n c; cases a <;> first | (cases h; done) | (show (Nat.beq _ _ && Nat.beq _ _) = true; simp only [Nat.beq_refl]; rfl)
    · rename_i a; cases a <;> first | rfl | cases h
    · rfl
    · rfl
  · rfl
theorem veqs_leaf : ∀ {l : List SV}, l.all lfS = true → ∀ d, l.length + 2 ≤ d → veqs d (dens l) (dens l) = true
  | [], _, d, h => by cases d with
    | zero => simp at h
    | succ d => rfl
  | x :: l, ha, d, h => by
    simp only [List.length_cons] at h
    rw [List.all_cons, Bool.and_eq_true] at ha
    match d, h with
    | d + 3, h =>
      show (veq (d + 2) (den x) (den x) && veqs (d + 2) (dens l) (dens l)) = true
      rw [veq_leaf ha.1, veqs_leaf ha.2 (d + 2) (by omega)]; rfl
    | 0, h => omega
    | 1, h => omega
    | 2, h => omega
theorem veq_lf2 {v : SV} (h : lf2 v = true) (d : Nat) : veq (d + 24) (den v) (den v) = true := by
  cases v <;> first | (refine veq_leaf ?_ (d + 22); exact h) | skip
  rename_i l
  have h : (l.all lfS && Nat.ble l.length 20) = true := h
  obtain ⟨h1, h2⟩ := and_true h
  exact veqs_leaf h1 (d + 23) (by have := ble_true h2; omega)
theorem veqs_lf2 : ∀ {l : List SV}, l.all lf2 = true → ∀ d, l.length + 24 ≤ d → veqs d (dens l) (dens l) = true
  | [], _, d, h => by cases d with
    | zero => simp at h
    | succ d => rfl
  | x :: l, ha, d, h => by
    simp only [List.length_cons] at h
    rw [List.all_cons, Bool.and_eq_true] at ha
    obtain ⟨e, rfl⟩ : ∃ e, d = e + 25 := ⟨d - 25, by omega⟩
    show (veq (e + 24) (den x) (den x) && veqs (e + 24) (dens l) (dens l)) = true
    rw [veq_lf2 ha.1, veqs_lf2 ha.2 (e + 24) (by omega)]; rfl
theorem veqs_up {p : SV → Bool} {e : Nat} (hp : ∀ v, p v = true → ∀ d, veq (d + e) (den v) (den v) = true) : ∀ {l : List SV}, l.all p = true → ∀ d, l.length + e + 1 ≤ d → veqs d (dens l) (dens l) = true
  | [], _, d, h => by cases d with
    | zero => omega
    | succ d => rfl
  | x :: l, ha, d, h => by
    simp only [List.length_cons] at h
    rw [List.all_cons, Bool.and_eq_true] at ha
    obtain ⟨c, rfl⟩ : ∃ c, d = c + e + 1 := ⟨d - e - 1, by omega⟩
    show (veq (c + e) (den x) (den x) && veqs (c + e) (dens l) (dens l)) = true
    rw [hp x ha.1 c, veqs_up hp ha.2 (c + e) (by omega)]; rfl
theorem veq_up {p : SV → Bool} {e : Nat} (_he : 2 ≤ e) (hp : ∀ v, p v = true → ∀ d, veq (d + e) (den v) (den v) = true) : ∀ v, upS p v = true → ∀ d, veq (d + (e + 22)) (den v) (den v) = true := by
  intro v h d
  obtain ⟨c, hc⟩ : ∃ c, d + (e + 22) = c + 2 := ⟨d + e + 20, by omega⟩
  cases v <;> first | (rw [hc]; refine veq_leaf ?_ c; exact h) | skip
  · rename_i l
    have h : (l.all p && Nat.ble l.length 20) = true := h
    obtain ⟨h1, h2⟩ := and_true h
    exact veqs_up hp h1 (d + e + 21) (by have := ble_true h2; omega)
  · rename_i g fs cs
    have h : (fs.all p && cs.all p && Nat.ble fs.length 20 && Nat.ble cs.length 20) = true := h
    obtain ⟨h, h4⟩ := and_true h
    obtain ⟨h, h3⟩ := and_true h
    obtain ⟨h1, h2⟩ := and_true h
    show (Nat.beq g g && veqs (d + e + 21) (dens fs) (dens fs) && veqs (d + e + 21) (dens cs) (dens cs)) = true
    rw [Nat.beq_refl, veqs_up hp h1 (d + e + 21) (by have := ble_true h3; omega), veqs_up hp h2 (d + e + 21) (by have := ble_true h4; omega)]; rfl
theorem veq_lv3 : ∀ v, lv3 v = true → ∀ d, veq (d + 68) (den v) (den v) = true :=
  veq_up (e := 46) (by omega) (veq_up (e := 24) (by omega) (veq_up (e := 2) (by omega) fun v h d => veq_leaf h d))
theorem vqS_ok {v : SV} (h : vqS v = true) : veq 100 (den v) (den v) = true := by
  cases v <;> first | (refine veq_leaf ?_ 98; exact h) | skip
  · rename_i l
    have h : ((l.all lfS && Nat.ble l.length 70) || (l.all lv3 && Nat.ble l.length 20)) = true := h
    rcases (Bool.or_eq_true _ _).mp h with h | h
    · obtain ⟨h1, h2⟩ := and_true h
      exact veqs_leaf h1 99 (by have := ble_true h2; omega)
    · obtain ⟨h1, h2⟩ := and_true h
      exact veqs_up veq_lv3 h1 99 (by have := ble_true h2; omega)
  · rename_i g fs cs
    have h : ((fs.all lf2 && cs.all lfS && Nat.ble fs.length 70 && Nat.ble cs.length 70) || (fs.all lv3 && cs.all lv3 && Nat.ble fs.length 20 && Nat.ble cs.length 20)) = true := h
    rcases (Bool.or_eq_true _ _).mp h with h | h
    rotate_left
    · obtain ⟨h, h4⟩ := and_true h
      obtain ⟨h, h3⟩ := and_true h
      obtain ⟨h1, h2⟩ := and_true h
      show (Nat.beq g g && veqs 99 (dens fs) (dens fs) && veqs 99 (dens cs) (dens cs)) = true
      rw [Nat.beq_refl, veqs_up veq_lv3 h1 99 (by have := ble_true h3; omega), veqs_up veq_lv3 h2 99 (by have := ble_true h4; omega)]; rfl
    obtain ⟨h, h4⟩ := and_true h
    obtain ⟨h, h3⟩ := and_true h
    obtain ⟨h1, h2⟩ := and_true h
    show (Nat.beq g g && veqs 99 (dens fs) (dens fs) && veqs 99 (dens cs) (dens cs)) = true
    rw [Nat.beq_refl, veqs_lf2 h1 99 (by have := ble_true h3; omega), veqs_leaf h2 99 (by have := ble_true h4; omega)]; rfl
/-- reads that the machine remembers are among those that are remembered -/
def RdsOK (P : Program) (k n : Nat) (reads : List (Nat × (St → Bool))) (rs : Rds) : Prop :=
  ∀ x ∈ reads, ∃ f o v t c, (x.1, f, o, v) ∈ rs ∧ FrameOK k n t f ∧ cOper P k n o = .rd c ∧ x.2 = fun s' => c.m t s' (veq 100 (den v))
theorem recheck_all {mask : Nat} {s : St} : ∀ {reads : List (Nat × (St → Bool))}, (∀ x ∈ reads, Nat.testBit mask x.1 = false → x.2 s = true) → recheck mask reads s = true
  | [], _ => rfl
  | (i, c) :: l, h => by
    have h2 := recheck_all (mask := mask) (reads := l) fun x hx => h x (by simp [hx])
    have h1 := h (i, c) (by simp)
    unfold recheck
    rw [h2]
    cases hb : Nat.testBit mask i with
    | true => rfl
    | false => rw [show c s = true from h1 hb]; rfl
theorem rcS_ok (hm : MemOK X Z s0 R s m) {mask : Nat} : ∀ {rs : Rds} {K : Prop}, (∀ x ∈ rs, ∃ t, FrameOK k n t x.2.1) → rcS P n mask m rs K → K ∧ ∀ f o v i, (i, f, o, v) ∈ rs → Nat.testBit mask i = false → ∀ t c, FrameOK k n t f → cOper P k n o = .rd c → c.m t s (veq 100 (den v)) = true
  | [], K, _, h => ⟨h, fun _ _ _ _ hx => by cases hx⟩
  | (i, f, o, v) :: r, K, hfr, h => by
    have h : (bif Nat.testBit mask i then rcS P n mask m r K else stepV P n m f o fun w => seS w v (vqK v (rcS P n mask m r K))) := h
    have hfr' : ∀ x ∈ r, ∃ t, FrameOK k n t x.2.1 := fun x hx => hfr x (List.mem_cons_of_mem _ hx)
    cases hb : Nat.testBit mask i with
    | true =>
      rw [hb] at h
      obtain ⟨h1, h2⟩ := rcS_ok hm hfr' h
      refine ⟨h1, fun f' o' v' i' hx hi => ?_⟩
      rcases List.mem_cons.1 hx with hx | hx
      · cases hx; rw [hb] at hi; cases hi
      · exact h2 f' o' v' i' hx hi
    | false =>
      rw [hb] at h
      simp only [cond_false] at h
      obtain ⟨t0, hf0⟩ := hfr (i, f, o, v) (by simp)
      obtain ⟨w, ⟨rfl, hK⟩, _⟩ := stepV_ok hf0 hm h
      obtain ⟨hv, hK⟩ := vqK_inv hK
      · obtain ⟨h1, h2⟩ := rcS_ok hm hfr' hK
        refine ⟨h1, fun f' o' v' i' hx hi t c hf hc => ?_⟩
        rcases List.mem_cons.1 hx with hx | hx
        · cases hx
          obtain ⟨w', ⟨rfl, _⟩, h3⟩ := stepV_ok hf hm h
          rcases h3 with ⟨c', hc', _⟩ | ⟨_, c', hc', h3⟩
          · rw [hc] at hc'; cases hc'
          · rw [hc] at hc'; cases hc'
            rw [h3]
            exact vqS_ok hv
        · exact h2 f' o' v' i' hx hi t c hf hc
/-! blocks that wait -/
def toP (x : Nat × (Nat × (Nat × (TypeId × List SV)))) : Nat × AObj := (x.1, mkO x.2.2.2.1 (dens x.2.2.2.2))
/-- blocks that wait: their places are named, nothing lies there that is known -/
structure PdsOK (X Z : Nat → Prop) (s0 : St) (base len : Nat) (s : St) (m : Mem) (pend : Pds) : Prop where
  at_ : ∀ x ∈ pend, x.2.2.1 = base + x.1 ∧ x.1 < len ∧ x.2.2.2.2.length ≤ 32768 ∧ Nat.beq x.2.2.2.1 ro = false
  nodup : (pend.map (·.1)).Nodup
  nx : base + len ≤ s.nx
  le : s0.nx ≤ base
  free : ∀ x ∈ pend, ∀ y ∈ m, ¬ fpE y.2 (base + x.1) ∧ ¬ rdE y.2 (base + x.1)
theorem OwnE.setNew {s : St} {b : Nat} {l : List Value} {e : TypeId} (hb : b < s.nx) (hfl : s.fl ≤ b) (hlt : b < 4398046511104) (hl : l.length ≤ 32768) (he : Nat.beq e ro = false) : OwnE (s.set b (some (mkC l e false))) b e l := by
  refine ⟨⟨hb, ok_of (s := s.set b _) hfl⟩, hlt, _, _, _, _, by rw [St.at_set hlt, if_pos rfl]; rfl, he, rfl, le_lvl _ hl, ?_⟩
  rcases gets_puts0 (l := l) with h | h
  · exact h
  · omega
theorem fpE_entO {b : Nat} {e : TypeId} {l : List SV} {c : Nat} (h : fpE (entO b e l) c) : c = b := by
  unfold entO at h
  cases hb : Nat.beq e mapMk <;> rw [hb] at h <;> exact h
theorem rdE_entO {b : Nat} {e : TypeId} {l : List SV} {c : Nat} (h : rdE (entO b e l) c) : False := by
  unfold entO at h
  cases hb : Nat.beq e mapMk <;> rw [hb] at h <;> exact h
theorem MapF.setNew {α : Type} [DecidableEq α] {kv : α → Value} {s : St} {b : Nat} (hb : b < s.nx) (hfl : s.fl ≤ b) (hlt : b < 4398046511104) : MapF kv (s.set b (some (.map [] 0))) b (fun _ => none) :=
  ⟨⟨hb, ok_of (s := s.set b _) hfl⟩, hlt, [], 0, by rw [St.at_set hlt, if_pos rfl]; rfl, List.nodup_nil, fun _ => rfl⟩
/-- one of them is laid -/
theorem MemOK.lay (hm : MemOK X Z s0 R s m) {b : Nat} (hb : b < s.nx) (h0 : s0.nx ≤ b) (hfree : ∀ y ∈ m, ¬ fpE y.2 b ∧ ¬ rdE y.2 b) {l : List SV} {e : TypeId} (hl : l.length ≤ 32768) (he : Nat.beq e ro = false) (c : Nat) :
    MemOK X Z s0 R (s.set b (some (mkO e (dens l)))) ((c, entO b e l) :: m) := by
  have hlt : b < 4398046511104 := by have := hm.nx; omega
  have hfl : s.fl ≤ b := by have h1 := hm.fr.2.2; have h2 := hm.fl; omega
  have h1 : ∀ o, MemOK X Z s0 R (s.set b (some o)) m := fun o => hm.step (Y := (· = b)) (Fr.set hlt) (fun c hc => by cases hc; exact .inl h0) (fun x hx c hc hcb => by cases hcb; exact (hfree x hx).1 hc) (fun x hx c hc hcb => by cases hcb; exact (hfree x hx).2 hc) hm.nx
  refine (h1 _).cons ?_ fun x hx => ⟨fun c hc hxc => ?_, fun c hc hxc => ?_, fun c hc => (rdE_entO hc).elim⟩
  · unfold mkO entO
    cases hb2 : Nat.beq e mapMk with
    | false => exact ⟨OwnE.setNew hb hfl hlt (by rw [dens_length]; exact hl) he, .inl h0⟩
    | true => exact ⟨MapF.setNew hb hfl hlt, .inl h0⟩
  · cases fpE_entO hc; exact (hfree x hx).1 hxc
  · cases fpE_entO hc; exact (hfree x hx).2 hxc
theorem adA_ok {base len : Nat} : ∀ {pend : Pds} {m : Mem} {R : Nat} {s : St} {Q : Mem → Prop}, PdsOK X Z s0 base len s m pend → MemOK X Z s0 R s m → adA pend m Q → ∃ m', MemOK X Z s0 R (adoptAll base (pend.map toP) s) m' ∧ Q m' ∧ (∀ i, i < len → i ∉ pend.map (·.1) → (∀ y ∈ m, ¬ fpE y.2 (base + i) ∧ ¬ rdE y.2 (base + i)) → ∀ y ∈ m', ¬ fpE y.2 (base + i) ∧ ¬ rdE y.2 (base + i)) ∧ (adoptAll base (pend.map toP) s).nx = s.nx
  | [], m, R, s, Q, hp, hm, h => ⟨m, hm, h, fun _ _ _ h => h, rfl⟩
  | (i, c, b, e, l) :: r, m, R, s, Q, hp, hm, h => by
    obtain ⟨ha1, ha2, ha3, ha4⟩ := hp.at_ (i, c, b, e, l) (by simp)
    have ha1 : b = base + i := ha1
    subst ha1
    have ha2 : i < len := ha2
    have hnd := hp.nodup
    rw [List.map_cons, List.nodup_cons] at hnd
    have hp' : PdsOK X Z s0 base len s m r := ⟨fun x hx => hp.at_ x (by simp [hx]), hnd.2, hp.nx, hp.le, fun x hx => hp.free x (by simp [hx])⟩
    have h : adA r m (fun m => entK (base + i) e l fun en => Q ((c, en) :: m)) := h
    simp only [entK_eq] at h
    obtain ⟨m', h1, h2, h3, h4⟩ := adA_ok hp' hm h
    have hfree := h3 i ha2 hnd.1 (hp.free (i, c, base + i, e, l) (by simp))
    have hnx := hp.nx
    have hle := hp.le
    refine ⟨_, h1.lay (b := base + i) (by rw [h4]; omega) (by omega) hfree ha3 ha4 c, h2, fun j hj hn hy y hm' => ?_, h4⟩
    simp only [List.map_cons, List.mem_cons, not_or] at hn
    rcases List.mem_cons.1 hm' with rfl | hm'
    · exact ⟨fun hb => by have hb : base + j = base + i := fpE_entO hb; exact hn.1 (by omega), fun hb => rdE_entO hb⟩
    · exact h3 j hj hn.2 hy y hm'
theorem adM_ok {base len mask : Nat} : ∀ {pend : Pds} {m : Mem} {R : Nat} {s : St} {Q : Mem → Prop}, PdsOK X Z s0 base len s m pend → MemOK X Z s0 R s m → adM mask pend m Q → ∃ m', MemOK X Z s0 R (adopt base mask (pend.map toP) s) m' ∧ Q m' ∧ (∀ i, i < len → (i ∉ pend.map (·.1) ∨ Nat.testBit mask i = false) → (∀ y ∈ m, ¬ fpE y.2 (base + i) ∧ ¬ rdE y.2 (base + i)) → ∀ y ∈ m', ¬ fpE y.2 (base + i) ∧ ¬ rdE y.2 (base + i)) ∧ (adopt base mask (pend.map toP) s).nx = s.nx
  | [], m, R, s, Q, hp, hm, h => ⟨m, hm, h, fun _ _ _ h => h, rfl⟩
  | (i, c, b, e, l) :: r, m, R, s, Q, hp, hm, h => by
    obtain ⟨ha1, ha2, ha3, ha4⟩ := hp.at_ (i, c, b, e, l) (by simp)
    have ha1 : b = base + i := ha1
    subst ha1
    have ha2 : i < len := ha2
    have hnd := hp.nodup
    rw [List.map_cons, List.nodup_cons] at hnd
    have hp' : PdsOK X Z s0 base len s m r := ⟨fun x hx => hp.at_ x (by simp [hx]), hnd.2, hp.nx, hp.le, fun x hx => hp.free x (by simp [hx])⟩
    have h : (bif Nat.testBit mask i then adM mask r m (fun m => entK (base + i) e l fun en => Q ((c, en) :: m)) else adM mask r m Q) := h
    simp only [entK_eq] at h
    have hun : adopt base mask (toP (i, c, base + i, e, l) :: r.map toP) s = bif Nat.testBit mask i then (adopt base mask (r.map toP) s).set (Nat.add base i) (some (mkO e (dens l))) else adopt base mask (r.map toP) s := rfl
    rw [List.map_cons, hun]
    cases hb : Nat.testBit mask i with
    | false =>
      rw [hb] at h
      obtain ⟨m', h1, h2, h3, h4⟩ := adM_ok hp' hm h
      refine ⟨m', h1, h2, fun j hj hn hy => h3 j hj (hn.imp_left fun hn => ?_) hy, h4⟩
      simp only [List.map_cons, List.mem_cons, not_or] at hn
      exact hn.2
    | true =>
      rw [hb] at h
      simp only [cond_true] at h
      obtain ⟨m', h1, h2, h3, h4⟩ := adM_ok hp' hm h
      have hfree := h3 i ha2 (.inl hnd.1) (hp.free (i, c, base + i, e, l) (by simp))
      have hnx := hp.nx
      have hle := hp.le
      refine ⟨_, h1.lay (b := base + i) (by rw [h4]; omega) (by omega) hfree ha3 ha4 c, h2, fun j hj hn hy y hm' => ?_, h4⟩
      have hji : j ≠ i := fun e => by
        subst e
        rcases hn with hn | hn
        · simp at hn
        · rw [hb] at hn; cases hn
      have hn' : j ∉ r.map (·.1) ∨ Nat.testBit mask j = false := hn.imp_left fun hn => by
        simp only [List.map_cons, List.mem_cons, not_or] at hn; exact hn.2
      rcases List.mem_cons.1 hm' with rfl | hm'
      · exact ⟨fun hb => by have hb : base + j = base + i := fpE_entO hb; omega, fun hb => rdE_entO hb⟩
      · exact h3 j hj hn' hy y hm'
theorem lfP_ok {mask : Nat} : ∀ {pend : Pds} {Q : Pds → Prop}, lfP mask pend Q → ∃ p', left mask (pend.map toP) = p'.map toP ∧ Q p' ∧ (∀ x ∈ p', x ∈ pend ∧ Nat.testBit mask x.1 = false) ∧ List.Sublist p' pend
  | [], Q, h => ⟨[], rfl, h, (fun x hx => by cases hx), List.Sublist.slnil⟩
  | (i, y) :: r, Q, h => by
    have h : (bif Nat.testBit mask i then lfP mask r Q else lfP mask r fun r => Q ((i, y) :: r)) := h
    have hun : left mask (toP (i, y) :: r.map toP) = bif Nat.testBit mask i then left mask (r.map toP) else toP (i, y) :: left mask (r.map toP) := rfl
    rw [List.map_cons, hun]
    cases hb : Nat.testBit mask i with
    | true =>
      rw [hb] at h
      obtain ⟨p', h1, h2, h3, h4⟩ := lfP_ok h
      exact ⟨p', h1, h2, fun x hx => ⟨List.mem_cons_of_mem _ (h3 x hx).1, (h3 x hx).2⟩, h4.cons _⟩
    | false =>
      rw [hb] at h
      obtain ⟨p', h1, h2, h3, h4⟩ := lfP_ok h
      refine ⟨(i, y) :: p', by rw [List.map_cons, ← h1]; rfl, h2, fun x hx => ?_, h4.cons_cons _⟩
      rcases List.mem_cons.1 hx with rfl | hx
      · exact ⟨by simp, hb⟩
      · exact ⟨List.mem_cons_of_mem _ (h3 x hx).1, (h3 x hx).2⟩
theorem memI_ok {i : Nat} : ∀ {pend : Pds}, memI i pend = false → i ∉ pend.map (·.1)
  | [], _ => by simp
  | (j, y) :: r, h => by
    have h : (Nat.beq j i || memI i r) = false := h
    rw [Bool.or_eq_false_iff] at h
    have h2 := memI_ok h.2
    rw [List.map_cons, List.mem_cons, not_or]
    refine ⟨fun e => ?_, h2⟩
    have e : i = j := e
    subst e
    rw [Nat.beq_refl] at h
    cases h.1
theorem idx_lt {all : List Oper} {i : Nat} {o : Oper} (h : nthO all i = some o) : i < all.length := by
  induction all generalizing i with
  | nil => cases h
  | cons x l ih => cases i with
    | zero => simp
    | succ i => have := ih (i := i) h; simp; exact this
/-- what is known of the rows that are left -/
structure OsOK (base len : Nat) (m : Mem) (pend : Pds) (os : List (Nat × Oper)) : Prop where
  lt : ∀ x ∈ os, x.1 < len
  nodup : (os.map (·.1)).Nodup
  np : ∀ x ∈ os, x.1 ∉ pend.map (·.1)
  free : ∀ x ∈ os, ∀ y ∈ m, ¬ fpE y.2 (base + x.1) ∧ ¬ rdE y.2 (base + x.1)
theorem OsOK.tail {base len : Nat} {m : Mem} {pend : Pds} {x : Nat × Oper} {os : List (Nat × Oper)} (h : OsOK base len m pend (x :: os)) : OsOK base len m pend os :=
  ⟨fun y hy => h.lt y (by simp [hy]), (List.nodup_cons.1 h.nodup).2, fun y hy => h.np y (by simp [hy]), fun y hy => h.free y (by simp [hy])⟩
theorem free_after {m m' : Mem} {s s' : St} {R' : Nat} (h : MemOK (fpM m) (rdM m) s R' s' m') {b : Nat} (hb : b < s.nx) (hf : ∀ y ∈ m, ¬ fpE y.2 b ∧ ¬ rdE y.2 b) : ∀ y ∈ m', ¬ fpE y.2 b ∧ ¬ rdE y.2 b := by
  intro y hy
  have he := h.ent y hy
  refine ⟨fun hyb => ?_, fun hyb => ?_⟩
  · rcases ent_mine he hyb with h1 | ⟨x, hx, h1⟩
    · omega
    · exact (hf x hx).1 h1
  · rcases ent_old he hyb with h1 | ⟨x, hx, h1⟩ | ⟨x, hx, h1⟩
    · omega
    · exact (hf x hx).1 h1
    · exact (hf x hx).2 h1
/-- rows in an open order -/
theorem wpDrs_ok (hn : n ≤ pow8 k) {all : List Oper} {masks : List Nat} {base : Nat} {Kr : Fm Value k → St → Bool} {K : Frm → Mem → Nat → Nat → Prop} (hK : ∀ f' t' m' R' ni' s', FrameOK k n t' f' → MemOK X Z s0 R' s' m' → K f' m' R' ni' → Kr t' s' = r) :
    ∀ {os : List (Nat × Oper)} {f : Frm} {t : Fm Value k} {m : Mem} {R ni : Nat} {s : St} {reads : List (Nat × (St → Bool))} {rs : Rds} {pend : Pds}, OsOK base all.length m pend os → FrameOK k n t f → MemOK X Z s0 R s m → RdsOK P k n reads rs → (∀ x ∈ rs, ∃ t, FrameOK k n t x.2.1) → PdsOK X Z s0 base all.length s m pend →
      wpDrs P call n all masks os f m R ni rs pend K → (cDrs P k n all masks os).run call base Kr reads (pend.map toP) t s = r
  | [], f, t, m, R, ni, s, reads, rs, pend, _, hf, hm, _, _, hp, h => by
    obtain ⟨m', h1, h2, _, _⟩ := adA_ok hp hm h
    exact hK f t m' R ni _ hf h1 h2
  | (i, o) :: os, f, t, m, R, ni, s, reads, rs, pend, hos, hf, hm, hr, hrf, hp, h => by
    have hi : i < all.length := hos.lt (i, o) (by simp)
    have hnd := hos.nodup
    rw [List.map_cons, List.nodup_cons] at hnd
    rw [wpDrs_cons] at h
    cases hd : okD n o.dst with
    | false => rw [hd] at h; exact h.elim
    | true =>
      rw [hd] at h
      simp only [cond_true] at h
      obtain ⟨p, hpt⟩ := okD_put (k := k) hd
      refine Eq.trans drs_cons ?_
      have hyes : (bif isAl o then alS P n f o fun e l mk => (bif memI i pend then False else ∀ b, forceS (mk ni b) fun v => putK o.dst v f fun f => wpDrs P call n all masks os f m R (ni + 1) rs ((i, ni, b, e, l) :: pend) K)
        else bif isEf o then adM (masks.getD i 0) pend m fun m => efS P call n m f o R ni fun v m R ni =>
          rcS P n (masks.getD i 0) m rs (lfP (masks.getD i 0) pend fun pend => putK o.dst v f fun f => wpDrs P call n all masks os f m R ni rs pend K)
        else stepV P n m f o fun v => putK o.dst v f fun f' => bif isLd P o then wpDrs P call n all masks os f' m R ni ((i, f, o, v) :: rs) pend K else wpDrs P call n all masks os f' m R ni rs pend K) →
          (dOne i (masks.getD i 0) (cOper P k n o) p (cDrs P k n all masks os)).run call base Kr reads (pend.map toP) t s = r := by
        intro h
        cases ha : isAl o with
        | true =>
          rw [ha] at h
          simp only [cond_true] at h
          obtain ⟨e, l, mk, h1, h2, h3, c, h4, h5⟩ := alS_ok hf h
          cases hmi : memI i pend with
          | true => rw [hmi] at h1; exact h1.elim
          | false =>
            rw [hmi] at h1
            simp only [cond_false] at h1
            rw [h4]
            show (c.m t fun o v => (cDrs P k n all masks os).run call base Kr reads ((i, o) :: pend.map toP) (p.s (v (Nat.add base i)) t) s) = r
            rw [h5 ni]
            have hni := memI_ok hmi
            have hp' : PdsOK X Z s0 base all.length s m ((i, ni, base + i, e, l) :: pend) := ⟨fun x hx => by
                rcases List.mem_cons.1 hx with rfl | hx
                · exact ⟨rfl, hi, h2, h3⟩
                · exact hp.at_ x hx, by rw [List.map_cons, List.nodup_cons]; exact ⟨hni, hp.nodup⟩, hp.nx, hp.le, fun x hx => by
                rcases List.mem_cons.1 hx with rfl | hx
                · exact hos.free (i, o) (by simp)
                · exact hp.free x hx⟩
            have hos' : OsOK base all.length m ((i, ni, base + i, e, l) :: pend) os := ⟨hos.tail.lt, hos.tail.nodup, fun x hx => by
                rw [List.map_cons, List.mem_cons, not_or]
                refine ⟨fun e => ?_, hos.tail.np x hx⟩
                have e : x.1 = i := e
                exact hnd.1 (List.mem_map.2 ⟨x, hx, e⟩), hos.tail.free⟩
            exact wpDrs_ok hn hK hos' (hf.putO hn hpt fun _ => rfl) hm hr hrf hp' (by have h1 := h1 (base + i); rw [forceS_eq, putK_eq] at h1; exact h1)
        | false =>
          rw [ha] at h
          simp only [cond_false] at h
          cases he : isEf o with
          | true =>
            rw [he] at h
            simp only [cond_true] at h
            obtain ⟨m1, a1, a2, a3, a4⟩ := adM_ok hp hm h
            obtain ⟨c, b1, b2⟩ := efS_ok hf a1 a2
            rw [b1]
            refine b2 _ r fun w m2 R2 ni2 s2 hm2 hreb hk => ?_
            obtain ⟨hk, hrc⟩ := rcS_ok (k := k) hm2 hrf hk
            have hrec : recheck (masks.getD i 0) reads s2 = true := recheck_all fun x hx hb => by
              obtain ⟨f', o', v', t', c', g1, g2, g3, g4⟩ := hr x hx
              rw [g4]
              exact hrc f' o' v' x.1 g1 hb t' c' g2 g3
            rw [hrec, Bool.true_and]
            obtain ⟨p', l1, l2, l3, l4⟩ := lfP_ok hk
            rw [l1]
            have hfr := hreb.fr.1
            rw [a4] at hfr
            have hfree : ∀ j, j < all.length → (j ∉ pend.map (·.1) ∨ Nat.testBit (masks.getD i 0) j = false) → (∀ y ∈ m, ¬ fpE y.2 (base + j) ∧ ¬ rdE y.2 (base + j)) → ∀ y ∈ m2, ¬ fpE y.2 (base + j) ∧ ¬ rdE y.2 (base + j) := fun j hj hn hy =>
              free_after hreb (by rw [a4]; have := hp.nx; omega) (a3 j hj hn hy)
            have hp' : PdsOK X Z s0 base all.length s2 m2 p' := ⟨fun x hx => hp.at_ x (l3 x hx).1, (l4.map _).nodup hp.nodup, Nat.le_trans hp.nx hfr, hp.le, fun x hx =>
              hfree x.1 (hp.at_ x (l3 x hx).1).2.1 (.inr (l3 x hx).2) (hp.free x (l3 x hx).1)⟩
            have hos' : OsOK base all.length m2 p' os := ⟨hos.tail.lt, hos.tail.nodup, fun x hx hxp => hos.tail.np x hx ((l4.map _).subset hxp), fun x hx =>
              hfree x.1 (hos.tail.lt x hx) (.inl (hos.tail.np x hx)) (hos.tail.free x hx)⟩
            rw [putK_eq] at l2
            exact wpDrs_ok hn hK hos' (hf.putO hn hpt fun _ => rfl) hm2 hr hrf hp' l2
          | false =>
            rw [he] at h
            simp only [cond_false] at h
            obtain ⟨v, hv, ⟨c, h1, h2⟩ | ⟨hl, c, h1, h2⟩⟩ := stepV_ok hf hm h
            · rw [h1]
              rw [putK_eq] at hv
              cases hl : isLd P o with
              | false =>
                rw [hl] at hv
                exact (h2 _).trans (wpDrs_ok hn hK hos.tail (hf.putO hn hpt fun _ => rfl) hm hr hrf hp hv)
              | true =>
                rw [hl] at hv
                refine (h2 _).trans (wpDrs_ok hn hK hos.tail (hf.putO hn hpt fun _ => rfl) hm (rs := (i, f, o, v) :: rs) (fun x hx => ?_) (fun x hx => ?_) hp hv)
                · obtain ⟨f', o', v', t', c', g1, g2⟩ := hr x hx
                  exact ⟨f', o', v', t', c', by simp [g1], g2⟩
                · rcases List.mem_cons.1 hx with rfl | hx
                  · exact ⟨t, hf⟩
                  · exact hrf x hx
            · rw [h1]
              rw [putK_eq, hl] at hv
              refine (h2 _).trans (wpDrs_ok hn hK hos.tail (hf.putO hn hpt fun _ => rfl) hm (rs := (i, f, o, v) :: rs) (fun x hx => ?_) (fun x hx => ?_) hp hv)
              · rcases List.mem_cons.1 hx with rfl | hx
                · exact ⟨f, o, v, t, c, by simp, hf, h1, rfl⟩
                · obtain ⟨f', o', v', t', c', g1, g2⟩ := hr x hx
                  exact ⟨f', o', v', t', c', by simp [g1], g2⟩
              · rcases List.mem_cons.1 hx with rfl | hx
                · exact ⟨t, hf⟩
                · exact hrf x hx
      rcases grdS_ok hf h with ⟨_, hg, h⟩ | ⟨gw, want, hg, hc, ⟨hb, h⟩ | ⟨hb, h⟩⟩
      · simp only [hpt, hg]; exact hyes h
      · simp only [hpt, hg, hc, hb, Bool.not_false, cond_true]; exact hyes h
      · simp only [hpt, hg, hc, hb, Bool.not_false, cond_true, cond_false]
        exact wpDrs_ok hn hK hos.tail (hf.putO hn hpt (w := .val undef) fun _ => rfl) hm hr hrf hp (by rw [putK_eq] at h; exact h)
/-! the order -/
def forceN (a : Nat) (K : Nat → Prop) : Prop := match a with
  | 0 => K 0
  | x + 1 => K (x + 1)
theorem forceN_eq (a : Nat) (K : Nat → Prop) : forceN a K = K a := by cases a <;> rfl
def forceNs : List Nat → (List Nat → Prop) → Prop
  | [], K => K []
  | x :: l, K => forceN x fun x => forceNs l fun l => K (x :: l)
theorem forceNs_eq : ∀ (l : List Nat) (K : List Nat → Prop), forceNs l K = K l
  | [], K => rfl
  | x :: l, K => by unfold forceNs; rw [forceN_eq, forceNs_eq l]
/-- numbers of operations: those with effects; the others by stages -/
def efIdx : Nat → List Oper → List Nat
  | _, [] => []
  | i, o :: os => bif isEf o then i :: efIdx (i + 1) os else efIdx (i + 1) os
def stIdx (masks effs : List Nat) (m : Nat) : Nat → List Oper → List Nat → List Nat
  | _, [], r => r
  | i, o :: os, r => bif !isEf o && Nat.beq (stageOf (masks.getD i 0) effs) m then i :: stIdx masks effs m (i + 1) os r else stIdx masks effs m (i + 1) os r
def orIdx (masks effs : List Nat) (l : List Oper) : Nat → List Nat → List Nat
  | m, [] => stIdx masks effs m 0 l []
  | m, e :: es => stIdx masks effs m 0 l (e :: orIdx masks effs l (m + 1) es)
def sameNs : List Nat → List Nat → Bool
  | [], [] => true
  | x :: l, y :: r => Nat.beq x y && sameNs l r
  | _, _ => false
theorem sameNs_eq : ∀ {l r : List Nat}, sameNs l r = true → l = r
  | [], [], _ => rfl
  | x :: l, y :: r, h => by
    have h : (Nat.beq x y && sameNs l r) = true := h
    obtain ⟨h1, h2⟩ := and_true h
    rw [beq_true h1, sameNs_eq h2]
  | [], _ :: _, h => by cases h
  | _ :: _, [], h => by cases h
def noDup : List Nat → Bool
  | [] => true
  | x :: l => !memNat x l && noDup l
theorem memNat_ok {n : Nat} : ∀ {l : List Nat}, memNat n l = false → n ∉ l
  | [], _ => by simp
  | x :: l, h => by
    have h : (Nat.beq x n || memNat n l) = false := h
    rw [Bool.or_eq_false_iff] at h
    rw [List.mem_cons, not_or]
    refine ⟨fun e => ?_, memNat_ok h.2⟩
    subst e
    rw [Nat.beq_refl] at h
    cases h.1
theorem noDup_ok : ∀ {l : List Nat}, noDup l = true → l.Nodup
  | [], _ => List.nodup_nil
  | x :: l, h => by
    have h : (!memNat x l && noDup l) = true := h
    obtain ⟨h1, h2⟩ := and_true h
    exact List.nodup_cons.2 ⟨memNat_ok (not_t h1), noDup_ok h2⟩
/-- whether the machine's order is that one -/
def drwOK (P : Program) (n : Nat) (ops : Array Oper) : Bool :=
  drawChk P (lvl n) n ops && (sameNs ((drawOrd P (lvl n) n ops).map (·.1)) (orIdx (drawMasks ops) (efIdx 0 ops.toList) ops.toList 0 (efIdx 0 ops.toList)) && noDup ((drawOrd P (lvl n) n ops).map (·.1)))
theorem numb_mem : ∀ {l : List Oper} {j : Nat} {x : Nat × Oper}, x ∈ number j l → j ≤ x.1 ∧ nthO l (x.1 - j) = some x.2
  | [], _, _, h => by cases h
  | o :: l, j, x, h => by
    have h : x ∈ (j, o) :: number (Nat.add j 1) l := h
    rcases List.mem_cons.1 h with rfl | h
    · exact ⟨Nat.le_refl _, by rw [Nat.sub_self]; rfl⟩
    · obtain ⟨h1, h2⟩ := numb_mem h
      have h1 : j + 1 ≤ x.1 := h1
      refine ⟨by omega, ?_⟩
      have h2 : nthO l (x.1 - (j + 1)) = some x.2 := h2
      rw [show x.1 - j = (x.1 - (j + 1)) + 1 by omega]
      exact h2
theorem ordOf_mem {masks effs : List Nat} {l : List (Nat × Oper)} {x : Nat × Oper} : ∀ {m : Nat} {es : List (Nat × Oper)}, x ∈ orderOf P k n masks effs l m es → x ∈ l ∨ x ∈ es
  | m, [], h => .inl (List.mem_filter.1 h).1
  | m, e :: es, h => by
    have h : x ∈ (l.filter fun x => !isEffO P k n x.2 && Nat.beq (stageOf (masks.getD x.1 0) effs) m) ++ e :: orderOf P k n masks effs l (Nat.add m 1) es := h
    rcases List.mem_append.1 h with h | h
    · exact .inl (List.mem_filter.1 h).1
    · rcases List.mem_cons.1 h with rfl | h
      · exact .inr (by simp)
      · exact (ordOf_mem h).imp_right fun h => by simp [h]
theorem drawOrd_mem {ops : Array Oper} {x : Nat × Oper} (h : x ∈ drawOrd P k n ops) : nthO ops.toList x.1 = some x.2 := by
  have h1 : x ∈ number 0 ops.toList := by
    rcases ordOf_mem h with h | h
    · exact h
    · exact (List.mem_filter.1 h).1
  exact (numb_mem h1).2
theorem pick_map {l : List Oper} : ∀ {L : List (Nat × Oper)}, (∀ x ∈ L, nthO l x.1 = some x.2) → pickO l (L.map (·.1)) = L
  | [], _ => rfl
  | (i, o) :: L, h => by
    rw [List.map_cons, pick_cons (h (i, o) (by simp)), pick_map fun x hx => h x (by simp [hx])]
/-- (the list is made once) -/
def pickK (l : List Oper) : List Nat → (List (Nat × Oper) → Prop) → Prop
  | [], K => K []
  | i :: r, K => match nthO l i with
    | some o => pickK l r fun L => K ((i, o) :: L)
    | none => pickK l r K
theorem pickK_eq (l : List Oper) : ∀ (idx : List Nat) (K : List (Nat × Oper) → Prop), pickK l idx K = K (pickO l idx)
  | [], _ => rfl
  | i :: r, K => by
    unfold pickK pickO
    cases nthO l i with
    | some o => exact pickK_eq l r _
    | none => exact pickK_eq l r _
def takeR : Nat → Nat → (Nat → Prop) → Prop
  | 0, R, K => K R
  | l + 1, R, K => match R with
    | 0 => False
    | R + 1 => takeR l R K
theorem takeR_inv : ∀ {l R : Nat} {K : Nat → Prop}, takeR l R K → l ≤ R ∧ K (R - l)
  | 0, R, K, h => ⟨Nat.zero_le _, h⟩
  | l + 1, 0, K, h => h.elim
  | l + 1, R + 1, K, h => by
    obtain ⟨h1, h2⟩ := takeR_inv (l := l) (R := R) h
    exact ⟨by omega, by rw [Nat.add_sub_add_right]; exact h2⟩
def wpDraw (P : Program) (call : CallT) (n : Nat) (ops : Array Oper) (f : Frm) (m : Mem) (R ni : Nat) (K : Frm → Mem → Nat → Nat → Prop) : Prop :=
  okS (drwOK P n ops = true) (forceNs (drawMasks ops) fun masks => forceNs (efIdx 0 ops.toList) fun effs => forceNs (orIdx masks effs ops.toList 0 effs) fun idx =>
    takeR ops.toList.length R fun R => pickK ops.toList idx fun os => wpDrs P call n ops.toList masks os f m R ni [] [] K)
theorem wpDraw_ok (hn : n ≤ pow8 (lvl n)) {t : Fm Value (lvl n)} {ops : Array Oper} {Kr : Fm Value (lvl n) → St → Bool} {K : Frm → Mem → Nat → Nat → Prop} (hK : ∀ f' t' m' R' ni' s', FrameOK (lvl n) n t' f' → MemOK X Z s0 R' s' m' → K f' m' R' ni' → Kr t' s' = r)
    (hf : FrameOK (lvl n) n t f) (hm : MemOK X Z s0 R s m) (h : wpDraw P call n ops f m R ni K) : (cDraw P (lvl n) n ops).run call Kr t s = r := by
  obtain ⟨hd, h⟩ := h
  rw [forceNs_eq, forceNs_eq, forceNs_eq] at h
  obtain ⟨hd1, hd2⟩ := and_true hd
  obtain ⟨hd2, hd3⟩ := and_true hd2
  have he := sameNs_eq hd2
  obtain ⟨hR, h⟩ := takeR_inv h
  rw [pickK_eq] at h
  have hp : pickO ops.toList ((drawOrd P (lvl n) n ops).map (·.1)) = drawOrd P (lvl n) n ops := pick_map fun x hx => drawOrd_mem hx
  rw [← he, hp] at h
  have hnx := hm.nx
  refine run_draw hd1 (by omega) ?_
  have hkp : Kp ops.toList.length s ⟨s.h, Nat.add s.nx ops.toList.length, s.fl⟩ := Kp.more (Nat.le_refl _)
  have hm' : MemOK X Z s0 (R - ops.toList.length) ⟨s.h, Nat.add s.nx ops.toList.length, s.fl⟩ m := MemOK.keep (N := ops.toList.length) (hm.more (by omega)) hkp
  refine wpDrs_ok hn hK (pend := []) ⟨fun x hx => ?_, noDup_ok hd3, fun x _ => by simp, fun x hx y hy => ⟨fun hb => ?_, fun hb => ?_⟩⟩ hf hm' (fun x hx => by cases hx) (fun x hx => by cases hx) ⟨(fun x hx => by cases hx), List.nodup_nil, Nat.le_refl _, hm.fr.1, (fun x hx => by cases hx)⟩ h
  · exact idx_lt (drawOrd_mem hx)
  · have := ent_lt (hm.ent y hy) hb; omega
  · have := rd_lt (hm.ent y hy) hb; omega
end
end Go.Ab
