/- SwingRings: the runs for 6 to 6. -/
import Derived.Test.YtfcgfnlifdjfjaaSwX
import Derived.Test.YtfcgfnlifdjfjaaEngQf
import Derived.KernelRfl
namespace Go.Proofs.Ytfcgfnlifdjfjaa
open Go.Ab
/-- a call of one number, whose result is known -/
def extN (g0 : FuncId) (m : Int) (v0 : Value) (call : CallT) : CallT := fun v args K s => match v with
  | .func fn first captured => match fn with
    | .func g => bif Nat.beq g g0 then (match first.toList ++ args ++ captured.toList with
        | [x] => match x with
          | .int k n => match k with
            | .i64 => bif iEq n m then K v0 s else call v args K s
            | _ => call v args K s
          | _ => call v args K s
        | _ => call v args K s)
      else call v args K s
    | _ => call v args K s
  | _ => call v args K s
theorem extN_ok {g0 : FuncId} {m : Int} {v0 : Value} {fn : Func} (hf : Try.prog.funcs[g0]? = some fn) (hb : fn.body.isNone = false) (hp : pureC 4 v0 = true) (hr : ∀ W, Calls Try.prog g0 ⟨[.int .i64 m]⟩ W fun e W' => e = .returned v0 ∧ Go.RowKit.Below W.heap.size W W') (call : CallT) (hc : CallOK Try.prog call) : CallOK Try.prog (extN g0 m v0 call) := by
  intro v args K s h ρ V Args W hv ha hsr
  have h0 := h
  unfold extN at h
  cases v with
  | func fnv first captured =>
    cases fnv with
    | func g =>
      simp only at h
      cases hg : Nat.beq g g0 with
      | false => rw [hg] at h; exact hc _ _ _ _ h ρ V Args W hv ha hsr
      | true =>
        rw [hg] at h
        have hg := beq_true hg
        subst hg
        simp only [cond_true] at h
        split at h
        · rename_i x hl
          split at h
          · rename_i k n
            split at h
            · cases hn : iEq n m with
              | false => rw [hn] at h; exact hc _ _ _ _ h ρ V Args W hv ha hsr
              | true =>
                rw [hn] at h
                rw [iEq_eq] at hn
                have hn := of_decide_eq_true hn
                subst hn
                obtain ⟨first⟩ := first
                obtain ⟨captured⟩ := captured
                cases hv with
                | func hfn hf' hc' =>
                  rename_i fn' F C
                  have hfn : fn' = .func g := hfn
                  subst hfn
                  have hL := (hf'.append ha).append hc'
                  rw [hl] at hL
                  have hL := pureC_eqs 4 hL (fun x hx => by rw [List.mem_singleton.1 hx]; rfl)
                  refine ⟨{ target := .fn (.func g) ⟨C⟩, args := (⟨F⟩ : Array Value) ++ ⟨Args⟩ }, rfl, .inl ⟨g, ⟨F ++ Args ++ C⟩, ?_, fun r m => ?_⟩⟩
                  · have hnn : (fn.name == "runtime.NumGoroutine") = false := by simpa using name_ok g fn hf
                    have e1 : (⟨F⟩ : Array Value) ++ (⟨Args⟩ : Array Value) ++ (⟨C⟩ : Array Value) = ⟨F ++ Args ++ C⟩ := by simp
                    simp only [invoke, callFunc, Sem.run_bind, run_program, Result.andThen_ok, hf, hnn, hb, Bool.false_eq_true, if_false, Sem.run_pure, e1]
                  · show CallsIn Fence.wide m Try.prog g _ W _
                    rw [hL]
                    exact callsIn_wide.2 ((hr W).mono fun e W' ⟨g1, g2⟩ => ⟨_, g1, ρ, _, s, .of_below hsr g2, pureC_VR _ 4 _ hp, h⟩)
            · exact hc _ _ _ _ h ρ V Args W hv ha hsr
          · exact hc _ _ _ _ h ρ V Args W hv ha hsr
        · exact hc _ _ _ _ h ρ V Args W hv ha hsr
    | _ => exact hc _ _ _ _ h ρ V Args W hv ha hsr
  | _ => exact hc _ _ _ _ h ρ V Args W hv ha hsr
def ring6 : Value := .tuple ⟨[.string ⟨⟨[48, 48, 48, 48, 48, 48, 49, 48, 48, 48, 48, 49, 49, 48, 48, 48, 49, 48, 49, 48, 48, 48, 49, 49, 49, 48, 48, 49, 48, 48, 49, 48, 49, 49, 48, 48, 49, 49, 48, 49, 48, 48, 49, 49, 49, 49, 48, 49, 48, 49, 48, 49, 49, 49, 48, 49, 49, 48, 49, 49, 49, 49, 49, 49]⟩⟩, .int .i64 0]⟩
/-- (whether a row is a bar is asked by itself) -/
abbrev ext1q : CallT → CallT := fun call => extP [45] (extX [80, 54] 14 call)
theorem ext1q_ok : ∀ call, CallOK Try.prog call → CallOK Try.prog (ext1q call) := fun call h => extP_ok [45] _ (ext1_ok call h)
theorem ring_6 (K' : Value → Bool) : (cFun Try.prog loopFuel 29).run (callF Try.prog loopFuel ext1q 100) [.int .i64 6] (fun x _ => K' x) st0 = K' ring6 := by kernel_rfl
theorem ref_6 (K' : Value → Bool) : (cFun Try.prog loopFuel 30).run (callF Try.prog loopFuel ext1q 100) [.int .i64 6] (fun x _ => K' x) st0 = K' ring6 := by kernel_rfl
theorem pure6 : ∀ x ∈ ([.int .i64 6] : List Value), pureC 4 x = true := fun x hx => by
  rcases List.mem_singleton.1 hx with rfl
  rfl
set_option maxRecDepth 100000 in
theorem calls_n {f : FuncId} (h : ∀ K' : Value → Bool, (cFun Try.prog loopFuel f).run (callF Try.prog loopFuel ext1q 100) [.int .i64 6] (fun x _ => K' x) st0 = K' ring6) (W : World) : Calls Try.prog f ⟨[.int .i64 6]⟩ W fun e W' => e = .returned ring6 ∧ Go.RowKit.Below W.heap.size W W' :=
  @calls_pure Try.prog draws name_ok ext1q ext1q_ok loopFuel 100 f [.int .i64 6] ring6 (by kernel_rfl) pure6 h W
theorem calls_29 (W : World) : Calls Try.prog 29 ⟨[.int .i64 6]⟩ W fun e W' => e = .returned ring6 ∧ Go.RowKit.Below W.heap.size W W' := calls_n ring_6 W
theorem calls_30 (W : World) : Calls Try.prog 30 ⟨[.int .i64 6]⟩ W fun e W' => e = .returned ring6 ∧ Go.RowKit.Below W.heap.size W W' := calls_n ref_6 W
abbrev ext1p : CallT → CallT := fun call => extN 29 6 ring6 (extN 30 6 ring6 (ext1q call))
set_option maxRecDepth 100000 in
theorem ext1p_ok : ∀ call, CallOK Try.prog call → CallOK Try.prog (ext1p call) := fun call h => extN_ok (g0 := 29) (v0 := ring6) Try.func29 (by kernel_rfl) (by kernel_rfl) calls_29 _ (extN_ok (g0 := 30) (v0 := ring6) Try.func30 (by kernel_rfl) (by kernel_rfl) calls_30 _ (ext1q_ok call h))
theorem rings_6 : argRun Try.prog ext1p 5 [.int .i64 6] = true := by kernel_rfl
end Go.Proofs.Ytfcgfnlifdjfjaa
