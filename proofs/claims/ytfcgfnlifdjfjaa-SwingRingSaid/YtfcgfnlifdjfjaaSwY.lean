/- Swing: rows by numbers; calls that are answered; what is left of SwingRing's runs. -/
import Derived.Test.YtfcgfnlifdjfjaaSwHp
import Derived.Test.YtfcgfnlifdjfjaaSwHq
import Derived.KernelRfl
import Derived.Test.YtfcgfnlifdjfjaaEngQd
namespace Go.Proofs.Ytfcgfnlifdjfjaa
open Go.Ab Go.RowKit
theorem row_all (b : Int) (c : Nat) (hc : c < 256) (K' : Value → Bool) : rowRun b c K' = K' (.string (mkR (c % 64 + 1) b)) := by
  have hr : c % 16 < 16 := Nat.mod_lt _ (by decide)
  have e : c = 16 * (c / 16) + c % 16 := by omega
  have ha : c / 16 < 16 := by omega
  generalize c / 16 = a at e ha
  generalize c % 16 = r at e hr
  subst e
  match a, ha with
  | 0, _ => exact rows_0 b r hr K'
  | 1, _ => exact rows_1 b r hr K'
  | 2, _ => exact rows_2 b r hr K'
  | 3, _ => exact rows_3 b r hr K'
  | 4, _ => exact rows_4 b r hr K'
  | 5, _ => exact rows_5 b r hr K'
  | 6, _ => exact rows_6 b r hr K'
  | 7, _ => exact rows_7 b r hr K'
  | 8, _ => exact rows_8 b r hr K'
  | 9, _ => exact rows_9 b r hr K'
  | 10, _ => exact rows_10 b r hr K'
  | 11, _ => exact rows_11 b r hr K'
  | 12, _ => exact rows_12 b r hr K'
  | 13, _ => exact rows_13 b r hr K'
  | 14, _ => exact rows_14 b r hr K'
  | 15, _ => exact rows_15 b r hr K'
  | a + 16, ha => exact absurd ha (by omega)
theorem and_1 (x : Int) : andI .u64 x 1 = 0 ∨ andI .u64 x 1 = 1 := by
  unfold andI
  have h : (BitVec.ofInt IntKind.u64.bits x &&& BitVec.ofInt IntKind.u64.bits 1).toNat ≤ 1 := by
    rw [BitVec.toNat_and]
    exact Nat.le_trans Nat.and_le_right (by decide)
  generalize (BitVec.ofInt IntKind.u64.bits x &&& BitVec.ofInt IntKind.u64.bits 1).toNat = n at h
  have : n = 0 ∨ n = 1 := by omega
  rcases this with rfl | rfl
  · exact .inl (by decide)
  · exact .inr (by decide)
theorem byt_ok (b : Int) (i : Nat) : UInt8.ofNat (bytI b i).toNat = 48 ∨ UInt8.ofNat (bytI b i).toNat = 49 := by
  unfold bytI anB
  rcases and_1 (shrV .u64 b i) with h | h <;> rw [h]
  · exact .inl (by decide)
  · exact .inr (by decide)
theorem marks_l (b : Int) : ∀ (n i : Nat) (x : UInt8), x ∈ bytesU8 (intsM b n i) → x = 48 ∨ x = 49
  | 0, i, x, h => by cases h
  | n + 1, i, x, h => by
    simp only [intsM, bytesU8, List.mem_cons] at h
    rcases h with rfl | h
    · exact byt_ok b i
    · exact marks_l b n (i + 1) x h
theorem len_l (b : Int) : ∀ (n i : Nat), (bytesU8 (intsM b n i)).length = n
  | 0, i => rfl
  | n + 1, i => by simp only [intsM, bytesU8, List.length_cons, len_l b n (i + 1)]
theorem marks_mkR (m : Nat) (b : Int) : marks (mkR m b) := fun x hx => marks_l b m 0 x hx
theorem size_mkR (m : Nat) (b : Int) : (mkR m b).size = m := len_l b m 0
set_option maxRecDepth 100000 in
theorem calls_row (b : Int) (c : Nat) (hc : c < 256) (W : World) : Calls Try.prog 33 #[.agg ⟨[.int .u64 b, .int .u8 (.ofNat c)]⟩, .int .i64 1, .int .i64 64] W fun e W' => e = .returned (.string (mkR (c % 64 + 1) b)) ∧ Below W.heap.size W W' :=
  calls_pure draws name_ok ext1_ok (F := 1000) (D := 3) rfl (fun x hx => by
    simp only [List.mem_cons, List.not_mem_nil, or_false] at hx
    rcases hx with rfl | rfl | rfl <;> rfl) (fun K' => row_all b c hc K') W
end Go.Proofs.Ytfcgfnlifdjfjaa
namespace Go.Proofs.Ytfcgfnlifdjfjaa
open Go.Ab Go.RowKit
def allU : Nat → (Nat → Bool) → Bool
  | 0, _ => true
  | n + 1, p => bif p n then allU n p else false
theorem allU_all {p : Nat → Bool} : ∀ {n : Nat}, allU n p = true → ∀ q, q < n → p q = true
  | 0, _, q, h => absurd h (Nat.not_lt_zero q)
  | n + 1, h, q, hq => by
    obtain ⟨h1, h2⟩ := cond_inv (show (bif p n then allU n p else false) = true from h)
    rcases Nat.lt_or_ge q n with hlt | hge
    · exact allU_all h2 q hlt
    · have : q = n := by omega
      subst this; exact h1
/-- from here on calls are those of the law's end: nothing of what is in memory is named any more -/
def St.far (a : Nat) : St := ⟨st0.h, a, a⟩
/-- what is asked of a row: its bits, its count -/
structure Asks where
  w0 : ByteArray
  a : Int → Int → Bool
  b : Int → Int → Bool
  m : Nat → Int → Int → Bool
  a2 : ByteArray → Bool
  b2 : ByteArray → Bool
def rowE (A : Asks) (bits c : Int) (K : KV) : Bool := bif A.a bits c then K (.string A.w0) (St.far 1000000000) else (bif A.b bits c then allU 32 (fun m => bif A.m m bits c then K (.string (mkR (m + 1) bits)) (St.far 2000000000) else true) else false)
def rowA (A : Asks) (l : List Value) (s : St) (K : KV) : Bool := match l with
  | [x, a, b] => match x with
    | .agg cs => match cs with
      | ⟨cl⟩ => match cl with
        | [y, z] => match y with
          | .int k bits => match k with
            | .u64 => match z with
              | .int k c => match k with
                | .u8 => match a with
                  | .int k p => match k with
                    | .i64 => match b with
                      | .int k q => match k with
                        | .i64 => bif iEq p 1 && iEq q 64 && Nat.ble s.nx 1000000000 then rowE A bits c K else false
                        | _ => false
                      | _ => false
                    | _ => false
                  | _ => false
                | _ => false
              | _ => false
            | _ => false
          | _ => false
        | _ => false
    | _ => false
  | _ => false
def clrA (A : Asks) (l : List Value) (s : St) (K : KV) : Bool := match l with
  | [x] => match x with
    | .string w => bif Nat.ble 2000000000 s.nx then (bif A.b2 w then allU 6 (fun n => bif Nat.ble w.size (Nat.pow 2 n) then K (.tuple ⟨[.int .i64 (.ofNat n), .int .i64 0]⟩) s else true) else false)
      else (bif A.a2 w then (bif K (.tuple ⟨[.int .i64 0, .int .i64 14]⟩) s then allU 58 (fun n => K (.tuple ⟨[.int .i64 (.ofNat (n + 6)), .int .i64 0]⟩) s) else false) else false)
    | _ => false
  | _ => false
def extR (A : Asks) (call : CallT) : CallT := fun v args K s => match v with
  | .func fn first captured => match fn with
    | .func g => bif Nat.beq g 33 then rowA A (first.toList ++ args ++ captured.toList) s K
      else bif Nat.beq g 19 && Nat.ble 1000000000 s.nx then clrA A (first.toList ++ args ++ captured.toList) s K
      else call v args K s
    | _ => call v args K s
  | _ => call v args K s
end Go.Proofs.Ytfcgfnlifdjfjaa
namespace Go.Proofs.Ytfcgfnlifdjfjaa
open Go.Ab Go.RowKit
/-- (other names, so that the kernel does not compare what is left before the run has come to its end) -/
def cnd (b x y : Bool) : Bool := match b with
  | true => x
  | false => y
def allV : Nat → (Nat → Bool) → Bool
  | 0, _ => true
  | n + 1, p => cnd (p n) (allV n p) false
def ends (A : Asks) (b c : Int) : Bool := cnd (A.a b c) (cnd (A.a2 A.w0) true false) (cnd (A.b b c) (allV 32 (fun m => cnd (A.m m b c) (cnd (A.b2 (mkR (m + 1) b)) true false) true)) false)
section
variable {P : Program} {k n : Nat} {call : CallT} {s : St} {r : Bool} {all os : List Oper} {o : Oper} {K : Fm Value k → St → Bool} {t : Fm Value k}
theorem step_al {p : SW Value k} {c : AlC k} {v : Nat → Value} {o' : AObj} (hp : cPut k n o.dst = some p) (hg : cGuard k n all o.guard = some none) (hc : cOper P k n o = .al c) (hv : ∀ K', c.m t K' = K' o' v) (hn : Nat.blt s.nx 4398046511104 = true)
    (h : (cOps P k n all os).run call K (p.s (v s.nx) t) (s.push o') = r) : (cOps P k n all (o :: os)).run call K t s = r := by
  refine Eq.trans ops_cons ?_
  unfold stepO
  rw [hp, hg, hc]
  refine (hv _).trans ?_
  rw [hn]
  exact h
end
theorem wr_small (q : Nat) (h : q < 1000) : wr .i64 (Int.ofNat q) = Int.ofNat q := by
  unfold wr
  have : q < 9223372036854775808 := by omega
  simp only [blt_of this, cond_true]
noncomputable abbrev ext2 (A : Asks) : CallT → CallT := fun call => extR A (extX [80, 54] 14 call)
end Go.Proofs.Ytfcgfnlifdjfjaa
