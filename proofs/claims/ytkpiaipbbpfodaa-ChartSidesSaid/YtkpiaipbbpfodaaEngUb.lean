/- Functions that return plain numbers and answers and leave memory as it was, whichever way they go: their results are found bit by bit, and what follows is run once. -/
import Derived.Test.YtkpiaipbbpfodaaEngUa
import Derived.Test.YtkpiaipbbpfodaaEngW
namespace Go.Ab
variable {P : Program}
/-- a part of a result: the only one, or one of a tuple -/
def compOf (n i : Nat) (x : Value) : Option Value := bif Nat.beq n 1 then some x else match x with
  | .tuple vs => vs.toList[i]?
  | _ => none
/-- whether a bit of a part is 1 (yes: a part that is an answer) -/
def isComp (n i j : Nat) (yes : Bool) : KV := fun x _ => match compOf n i x with
  | some v => match v with
    | .int _ m => match m with
      | .ofNat m => bif yes then false else Nat.testBit m j
      | _ => false
    | .bool c => yes && c
    | _ => false
  | none => false
def bitsOf (f : Nat → Bool) : Nat → Nat → Nat
  | 0, _ => 0
  | n + 1, j => Nat.add (bif f j then Nat.pow 2 j else 0) (bitsOf f n (Nat.add j 1))
def compV (run : KV → Bool) (n i : Nat) (yes : Bool) : Value := bif yes then .bool (run (isComp n i 0 true)) else .int .i64 (.ofNat (bitsOf (fun j => run (isComp n i j false)) 12 0))
def compsV (run : KV → Bool) (n : Nat) : Nat → List Bool → List Value
  | _, [] => []
  | i, b :: bs => compV run n i b :: compsV run n (Nat.add i 1) bs
/-- what a result seems to be: a number or answer for each part -/
def foundV (run : KV → Bool) (sh : List Bool) : Value := match sh with
  | [b] => compV run 1 0 b
  | sh => .tuple ⟨compsV run sh.length 0 sh⟩
def shapeOf (g : FuncId) : List (FuncId × List Bool) → Option (List Bool)
  | [] => none
  | (f, sh) :: r => bif Nat.beq f g then some sh else shapeOf g r
def extV (fs : List (FuncId × List Bool)) (call : CallT) : CallT := fun v args K s => match v with
  | .func fn _ _ => match fn with
    | .func g => match shapeOf g fs with
      | some sh => (fun (c : Value) => bif pureC 4 c && call v args (fun x _ => veq 100 c x) s.shut then K c s else false) (foundV (fun k => call v args k s.shut) sh)
      | none => call v args K s
    | _ => call v args K s
  | _ => call v args K s
open Go.RowKit
theorem extV_ok (fs : List (FuncId × List Bool)) (call : CallT) (hc : CallOK P call) : CallOK P (extV fs call) := by
  intro v args K s h ρ V Args W hv ha hsr
  unfold extV at h
  cases v with
  | func fnv first captured =>
    cases fnv with
    | func g =>
      simp only at h
      cases hg : shapeOf g fs with
      | none => rw [hg] at h; exact hc _ _ _ _ h ρ V Args W hv ha hsr
      | some sh =>
        rw [hg] at h
        simp only at h
        generalize foundV (fun k => call (.func (.func g) first captured) args k s.shut) sh = c at h
        obtain ⟨h1, hK⟩ := cond_inv h
        obtain ⟨hp, hrun⟩ := and_true h1
        obtain ⟨d, hd, hrest⟩ := hc _ _ _ _ hrun ρ V Args W hv ha hsr.shut
        refine ⟨d, hd, ?_⟩
        rcases hrest with ⟨g', as, hinv, hcs⟩ | ⟨hno, _⟩
        · refine .inl ⟨g', as, hinv, fun r m => (hcs r m).mono fun e W' hP => ?_⟩
          obtain ⟨X, rfl, ρ', x, s', hst, hx, hk⟩ := hP
          have hcx := veq_eq 100 c x hk
          subst hcx
          have hX := pureC_eq 4 hx hp
          subst hX
          exact ⟨_, rfl, ρ, X, s, Stp.of_below hsr (hst.shut_below hsr), pureC_VR ρ 4 X hp, hK⟩
        · cases hno
    | _ => exact hc _ _ _ _ h ρ V Args W hv ha hsr
  | _ => exact hc _ _ _ _ h ρ V Args W hv ha hsr
end Go.Ab
