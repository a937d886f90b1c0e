/- Two functions of the library, answered by their contracts: strings.IndexByte; strings.Join with nothing between. -/
import Derived.Test.YtogncjicndbahaaEngQc
import Derived.Lib.Bytealg
namespace Go.Ab
variable {P : Program}
open Go.RowKit
def strs : List Value → Option (List ByteArray)
  | [] => some []
  | x :: r => match x with
    | .string w => match strs r with
      | some l => some (w :: l)
      | none => none
    | _ => none
def catB : List ByteArray → List UInt8
  | [] => []
  | w :: r => w.data.toList ++ catB r
def idxA (a b : Value) (K : Value → Bool) : Bool := match a with
  | .string w => match b with
    | .int k c => match k with
      | .u8 => K (.int .i64 (Go.Lib.indexByte w.data.toList c.toNat.toUInt8))
      | _ => false
    | _ => false
  | _ => false
def joiA (s : St) (a b : Value) (K : Value → Bool) : Bool := match b with
  | .string w => match w.data.toList with
    | [] => asSlice a (fun _ _ => false) fun b o n _ => bif Nat.blt 0 n && Nat.ble n 4096 then ldN s b o n fun l => match strs l with
        | some xs => bif Nat.ble (catB xs).length 1048576 then K (.string ⟨(catB xs).toArray⟩) else false
        | none => false
      else false
    | _ => false
  | _ => false
def two (l : List Value) (K : Value → Value → Bool) : Bool := match l with
  | [a, b] => K a b
  | _ => false
/-- calls of the library: number of strings.IndexByte, number of strings.Join -/
def extL (fi fj : FuncId) (call : CallT) : CallT := fun v args K s => match v with
  | .func fn first captured => match fn with
    | .func g => bif Nat.beq g fi then two (first.toList ++ args ++ captured.toList) (fun a b => idxA a b fun x => K x s)
      else bif Nat.beq g fj then two (first.toList ++ args ++ captured.toList) (fun a b => joiA s a b fun x => K x s)
      else call v args K s
    | _ => call v args K s
  | _ => call v args K s
structure LibH (P : Program) (fi fj : FuncId) : Prop where
  bi : ∃ fn, P.funcs[fi]? = some fn ∧ fn.body.isNone = false
  bj : ∃ fn, P.funcs[fj]? = some fn ∧ fn.body.isNone = false
  idx : ∀ (s : ByteArray) (c : Int) (W : World), Calls P fi #[.string s, .int .u8 c] W fun e W' => e = .returned (.int .i64 (Go.Lib.indexByte s.data.toList c.toNat.toUInt8)) ∧ W' = W
  joi : ∀ (bk o c : Nat) (xs : List ByteArray) (W : World), (∀ (j : Nat) x, xs[j]? = some x → W.cell? ⟨bk, o + j, none⟩ = some (.string x)) → bk < W.heap.size → xs.length ≤ 4096 → xs.length ≤ c → (catB xs).length ≤ 1048576 →
    Calls P fj #[.slice (some ⟨bk, o, none⟩) xs.length c, .string ⟨#[]⟩] W fun e W' => e = .returned (.string ⟨(catB xs).toArray⟩) ∧ Below W.heap.size W W'
theorem strs_some : ∀ {l : List Value} {xs : List ByteArray}, strs l = some xs → l.length = xs.length ∧ ∀ (j : Nat) x, xs[j]? = some x → l[j]? = some (.string x)
  | [], xs, h => by simp only [strs, Option.some.injEq] at h; subst h; exact ⟨rfl, fun j x hx => by simp at hx⟩
  | v :: r, xs, h => by
    unfold strs at h
    cases v with
    | string w =>
      simp only at h
      cases hr : strs r with
      | none => rw [hr] at h; cases h
      | some l =>
        rw [hr] at h
        simp only [Option.some.injEq] at h
        subst h
        obtain ⟨h1, h2⟩ := strs_some hr
        refine ⟨by simp [h1], fun j x hx => ?_⟩
        cases j with
        | zero => simp at hx; simp [hx]
        | succ j => simp at hx; simpa using h2 j x hx
    | _ => cases h
theorem two_inv {l : List Value} {K : Value → Value → Bool} (h : two l K = true) : ∃ a b, l = [a, b] ∧ K a b = true := by
  unfold two at h
  match l, h with
  | [a, b], h => exact ⟨a, b, rfl, h⟩
theorem VsR.two_inv {ρ : Ren} {a b : Value} {L : List Value} (h : VsR ρ [a, b] L) : ∃ A B, L = [A, B] ∧ VR ρ a A ∧ VR ρ b B := by
  cases h with
  | cons h1 h2 => cases h2 with
    | cons h3 h4 => cases h4; exact ⟨_, _, rfl, h1, h3⟩
theorem idxA_inv {a b : Value} {K : Value → Bool} (h : idxA a b K = true) : ∃ w c, a = .string w ∧ b = .int .u8 c ∧ K (.int .i64 (Go.Lib.indexByte w.data.toList c.toNat.toUInt8)) = true := by
  unfold idxA at h
  cases a <;> (try (cases h; done))
  cases b <;> (try (cases h; done))
  rename_i w k c
  cases k <;> (try (cases h; done))
  exact ⟨w, c, rfl, rfl, h⟩
theorem joiA_inv {s : St} {a b : Value} {K : Value → Bool} (h : joiA s a b K = true) : b = .string ⟨#[]⟩ ∧ ∃ q o n c xs, a = .slice (some ⟨q, o, none⟩) n c ∧ 0 < n ∧ n ≤ 4096 ∧ (catB xs).length ≤ 1048576 ∧ K (.string ⟨(catB xs).toArray⟩) = true ∧
    ∃ k N t e g, s.at q = some (.cells k N t e g) ∧ o + n ≤ N ∧ strs (gets k t o n) = some xs := by
  unfold joiA at h
  cases b <;> (try (cases h; done))
  rename_i w
  obtain ⟨⟨wl⟩⟩ := w
  simp only at h
  cases wl with
  | cons _ _ => cases h
  | nil =>
    simp only at h
    refine ⟨rfl, ?_⟩
    rcases asSlice_inv h with ⟨_, _, _, h⟩ | ⟨q, o, n, c, rfl, h⟩
    · cases h
    · obtain ⟨h0, h⟩ := cond_inv h
      obtain ⟨h1, h2⟩ := and_true h0
      obtain ⟨k, N, t, e, g, h3, h4, h⟩ := ldN_inv h
      cases hs : strs (gets k t o n) with
      | none => rw [hs] at h; cases h
      | some xs =>
        rw [hs] at h
        simp only at h
        obtain ⟨h5, h⟩ := cond_inv h
        exact ⟨q, o, n, c, xs, rfl, blt_true h1, ble_true h2, ble_true h5, h, k, N, t, e, g, h3, h4, hs⟩
theorem extL_ok (hn : NameH P) {fi fj : FuncId} (hl : LibH P fi fj) (call : CallT) (hc : CallOK P call) : CallOK P (extL fi fj call) := by
  intro v args K s h ρ V Args W hv ha hsr
  unfold extL at h
  cases v with
  | func fnv first captured =>
    cases fnv with
    | func g =>
      have key : ∀ (fn : Func), P.funcs[g]? = some fn → fn.body.isNone = false →
          (∀ F C : List Value, VsR ρ first.toList F → VsR ρ captured.toList C → Calls P g ⟨F ++ Args ++ C⟩ W fun e W' => ∃ X, e = .returned X ∧ Post P ρ s W K X W') →
          ∃ d, (Deferred.ofValue V ⟨Args⟩).run P W = .ok d W ∧
            ((∃ g as, (invoke d.target d.args).run P W = .ok (.enter g as) W ∧ ∀ r m, CallsIn (WF r) m P g as W fun e W' => ∃ X, e = .returned X ∧ Post P ρ s W K X W') ∨
             (isFn (.func (.func g) first captured) = false ∧ ∃ l fn tmps asg body, (invoke d.target d.args).run P W = .ok (.round l fn tmps asg body) W ∧ ∀ r m, RoundIn (WF r) m P l fn tmps asg body W fun e W' => ∃ X, e = .returned X ∧ Post P ρ s W K X W')) := by
        intro fn hf hb hcl
        obtain ⟨first⟩ := first
        obtain ⟨captured⟩ := captured
        cases hv with
        | func hfn hf' hc' =>
          rename_i fn' F C
          have hfn : fn' = .func g := hfn
          subst hfn
          refine ⟨{ target := .fn (.func g) ⟨C⟩, args := (⟨F⟩ : Array Value) ++ ⟨Args⟩ }, rfl, .inl ⟨g, ⟨F ++ Args ++ C⟩, ?_, fun r m => ?_⟩⟩
          · have hnn : (fn.name == "runtime.NumGoroutine") = false := by simpa using hn g fn hf
            have e1 : (⟨F⟩ : Array Value) ++ (⟨Args⟩ : Array Value) ++ (⟨C⟩ : Array Value) = ⟨F ++ Args ++ C⟩ := by simp
            simp only [invoke, callFunc, Sem.run_bind, run_program, Result.andThen_ok, hf, hnn, hb, Bool.false_eq_true, if_false, Sem.run_pure, e1]
          · show CallsIn Fence.wide m P g _ W _
            exact callsIn_wide.2 (hcl F C hf' hc')
      simp only at h
      cases hg : Nat.beq g fi with
      | true =>
        rw [hg] at h
        have hg := beq_true hg
        subst hg
        simp only [cond_true] at h
        obtain ⟨a, b, he, h⟩ := two_inv h
        obtain ⟨w, c, rfl, rfl, hK⟩ := idxA_inv h
        obtain ⟨fn, hf, hb⟩ := hl.bi
        refine key fn hf hb fun F C hF hC => ?_
        have hL := (hF.append ha).append hC
        rw [he] at hL
        obtain ⟨A, B, e2, hA, hB⟩ := hL.two_inv
        rw [e2, hA.string_inv, hB.int_inv]
        exact (hl.idx w c W).mono fun e W' ⟨h1, h2⟩ => ⟨_, h1, ρ, _, s, by rw [h2]; exact .refl hsr, .int _ _, hK⟩
      | false =>
        rw [hg] at h
        simp only [cond_false] at h
        cases hg2 : Nat.beq g fj with
        | false => rw [hg2] at h; exact hc _ _ _ _ h ρ V Args W hv ha hsr
        | true =>
          rw [hg2] at h
          have hg2 := beq_true hg2
          subst hg2
          simp only [cond_true] at h
          obtain ⟨a, b, he, h⟩ := two_inv h
          obtain ⟨rfl, q, o, n, c, xs, rfl, h0, h1, h2, hK, k, N, t, e, gg, h3, h4, h5⟩ := joiA_inv h
          obtain ⟨fn, hf, hb⟩ := hl.bj
          refine key fn hf hb fun F C hF hC => ?_
          have hL := (hF.append ha).append hC
          rw [he] at hL
          obtain ⟨A, B, e2, hA, hB⟩ := hL.two_inv
          rw [e2, hB.string_inv]
          obtain ⟨h6, h7⟩ := strs_some h5
          rw [gets_length] at h6
          subst h6
          generalize hz : Value.slice (some ⟨q, o, none⟩) xs.length c = z at hA
          cases hA <;> (try (cases hz; done))
          · rename_i b' o' n' c' O C' r hr hn' hg0 hg1
            simp only [Value.slice.injEq, Option.some.injEq, Addr.mk.injEq] at hz
            obtain ⟨⟨rfl, rfl, _⟩, rfl, rfl⟩ := hz
            have hO : O = r.sh + o ∧ xs.length ≤ C' := by
              cases hgr : r.gr with
              | false => obtain ⟨q1, q2⟩ := hg0 hgr; exact ⟨q2, by omega⟩
              | true => obtain ⟨q1, q2, _⟩ := hg1 hgr; exact ⟨q2 (by omega), by omega⟩
            rw [hO.1]
            refine (hl.joi r.blk (r.sh + o) C' xs W (fun j x hx => ?_) (hsr.lt h3 hr) h1 hO.2 h2).mono fun e W' ⟨g1, g2⟩ => ⟨_, g1, ρ, _, s, .of_below hsr g2, .string _, hK⟩
            have hj : j < xs.length := by
              rcases Nat.lt_or_ge j xs.length with h' | h'
              · exact h'
              · rw [List.getElem?_eq_none h'] at hx; cases hx
            obtain ⟨X, hX1, hX2⟩ := hsr.cell hr h3 (i := o + j) (by omega)
            have h8 := h7 j x hx
            rw [gets_get k t _ o j hj] at h8
            simp only [Option.some.injEq] at h8
            rw [h8] at hX2
            rw [hX2.string_inv] at hX1
            rw [Nat.add_assoc]
            exact hX1
    | _ => exact hc _ _ _ _ h ρ V Args W hv ha hsr
  | _ => exact hc _ _ _ _ h ρ V Args W hv ha hsr
/-- calls that are answered by what is known of them: their functions' numbers, the answers -/
structure LibT where
  nums : List FuncId
  ext : CallT → CallT
  out : ∀ g, memF g nums = false → ∀ (call : CallT) (a b : Array Value) (args : List Value) (K : KV) (s : St), ext call (.func (.func g) a b) args K s = call (.func (.func g) a b) args K s
  yld : ∀ (b : Nat) (call : CallT) (x y : Array Value) (args : List Value) (K : KV) (s : St), ext call (.func (.yield b) x y) args K s = call (.func (.yield b) x y) args K s
theorem beq_symm {a b : Nat} (h : Nat.beq a b = false) : Nat.beq b a = false := by
  cases h2 : Nat.beq b a with
  | false => rfl
  | true => have := beq_true h2; subst this; rw [Nat.beq_refl] at h; cases h
def lib0 : LibT := ⟨[], fun call => call, fun _ _ _ _ _ _ _ _ => rfl, fun _ _ _ _ _ _ _ => rfl⟩
theorem memF_cons {g x : FuncId} {l : List FuncId} (h : memF g (x :: l) = false) : Nat.beq g x = false ∧ memF g l = false := by
  unfold memF at h
  cases h1 : Nat.beq x g with
  | true => rw [h1] at h; cases h
  | false => rw [h1] at h; exact ⟨beq_symm h1, h⟩
/-- two functions of the library -/
def libL (fi fj : FuncId) : LibT := ⟨[fi, fj], extL fi fj, fun g hg call a b args K s => by
    obtain ⟨h1, hg⟩ := memF_cons hg
    obtain ⟨h2, _⟩ := memF_cons hg
    unfold extL
    simp only [h1, h2, cond_false], fun _ _ _ _ _ _ _ => rfl⟩
abbrev extX (L : LibT) (w : FuncId) : CallT → CallT := fun call => L.ext (extK w true call)
theorem extX_ok (hn : NameH P) {fi fj : FuncId} (hl : LibH P fi fj) {w : FuncId} {fn : Func} (hf : P.funcs[w]? = some fn) (hb : fn.body.isNone = false) (hr : Ab.Returns P w true) (call : CallT) (hc : CallOK P call) : CallOK P (extX (libL fi fj) w call) :=
  extL_ok hn hl _ (extK_ok hn hf hb hr call hc)
theorem extX_ok0 (hn : NameH P) {w : FuncId} {fn : Func} (hf : P.funcs[w]? = some fn) (hb : fn.body.isNone = false) (hr : Ab.Returns P w true) (call : CallT) (hc : CallOK P call) : CallOK P (extX lib0 w call) :=
  extK_ok hn hf hb hr call hc
theorem callF_X {F : Nat} {fs0 : LibT} {w : FuncId} {d : Nat} {g : FuncId} (hg : Nat.beq g w = false) (hg2 : memF g fs0.nums = false) (fs args cs : List Value) (Kr : KV) (s : St) :
    callF P F (extX fs0 w) (d + 1) (.func (.func g) ⟨fs⟩ ⟨cs⟩) args Kr s = (cFun P F g).run (callF P F (extX fs0 w) d) (fs ++ args ++ cs) Kr s := by
  show fs0.ext (extK w true _) _ _ _ _ = _
  rw [fs0.out _ hg2]
  unfold extK
  simp only [hg, cond_false]
  rfl
/-- strings.IndexByte -/
theorem callF_idx {F : Nat} {fi fj : FuncId} {w : FuncId} {d : Nat} (a : ByteArray) (c : Int) (Kr : KV) (s : St) :
    callF P F (extX (libL fi fj) w) (d + 1) (.func (.func fi) ⟨[]⟩ ⟨[]⟩) [.string a, .int .u8 c] Kr s = Kr (.int .i64 (Go.Lib.indexByte a.data.toList c.toNat.toUInt8)) s := by
  unfold callF extX libL extL
  dsimp only
  simp only [Nat.beq_refl, cond_true]
  rfl
end Go.Ab
