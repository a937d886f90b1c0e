/- Functions that answer yes or no and leave memory as it was, whichever way they go: what follows is run once. -/
import Derived.Test.YtogncjicndbahaaEngU
namespace Go.Ab
variable {P : Program}
def memF (g : FuncId) : List FuncId → Bool
  | [] => false
  | x :: xs => Nat.beq x g || memF g xs
/-- the state in which nothing that is there may be changed -/
def St.shut (s : St) : St := ⟨s.h, s.nx, s.nx⟩
def extP (fs : List FuncId) (call : CallT) : CallT := fun v args K s => match v with
  | .func fn _ _ => match fn with
    | .func g => bif memF g fs then
        (bif call v args (isTrue true) s.shut then K (.bool true) s else bif call v args (isTrue false) s.shut then K (.bool false) s else false)
      else call v args K s
    | _ => call v args K s
  | _ => call v args K s
open Go.RowKit
theorem SR.shut {ρ : Ren} {s : St} {W : World} (h : SR P ρ s W) : SR P ρ s.shut W := ⟨h.obj, h.inj, h.new⟩
theorem Stp.shut_below {ρ ρ' : Ren} {s s' : St} {W W' : World} (hsr : SR P ρ s W) (h : Stp P ρ s.shut W ρ' s' W') : Below W.heap.size W W' := by
  refine ⟨h.os, h.tape, h.output, h.size, fun B hB => h.frame B hB fun b o r h1 h2 _ => ?_⟩
  have hlt : b < s.nx := by
    rcases Nat.lt_or_ge b s.nx with h' | h'
    · exact h'
    · rw [hsr.new b h'] at h2; cases h2
  show (isRo o || Nat.blt b s.nx) = true
  rw [blt_of hlt]; simp
theorem extP_ok (fs : List FuncId) (call : CallT) (hc : CallOK P call) : CallOK P (extP fs call) := by
  intro v args K s h ρ V Args W hv ha hsr
  unfold extP at h
  cases v with
  | func fnv first captured =>
    cases fnv with
    | func g =>
      simp only at h
      cases hg : memF g fs with
      | false => rw [hg] at h; exact hc _ _ _ _ h ρ V Args W hv ha hsr
      | true =>
        rw [hg] at h
        simp only [cond_true] at h
        have key : ∀ b, call (.func (.func g) first captured) args (isTrue b) s.shut = true → K (.bool b) s = true → ∃ d, (Deferred.ofValue V ⟨Args⟩).run P W = .ok d W ∧
            ((∃ g as, (invoke d.target d.args).run P W = .ok (.enter g as) W ∧ ∀ r m, CallsIn (WF r) m P g as W fun e W' => ∃ X, e = .returned X ∧ Post P ρ s W K X W') ∨
             (isFn (.func (.func g) first captured) = false ∧ ∃ l fn tmps asg body, (invoke d.target d.args).run P W = .ok (.round l fn tmps asg body) W ∧ ∀ r m, RoundIn (WF r) m P l fn tmps asg body W fun e W' => ∃ X, e = .returned X ∧ Post P ρ s W K X W')) := by
          intro b hrun hK
          obtain ⟨d, hd, hrest⟩ := hc _ _ _ _ hrun ρ V Args W hv ha hsr.shut
          refine ⟨d, hd, ?_⟩
          rcases hrest with ⟨g', as, hinv, hcs⟩ | ⟨hno, _⟩
          · refine .inl ⟨g', as, hinv, fun r m => (hcs r m).mono fun e W' hP => ?_⟩
            obtain ⟨X, rfl, ρ', x, s', hst, hx, hk⟩ := hP
            have hX : X = .bool b := by
              unfold isTrue at hk
              cases x <;> (try (cases hk; done))
              rename_i c
              have : c = b := by simpa using hk
              subst this
              exact hx.bool_inv
            subst hX
            exact ⟨_, rfl, ρ, .bool b, s, Stp.of_below hsr (hst.shut_below hsr), .bool b, hK⟩
          · cases hno
        cases h1 : call (.func (.func g) first captured) args (isTrue true) s.shut with
        | true => rw [h1] at h; exact key true h1 h
        | false =>
          rw [h1] at h
          simp only [cond_false] at h
          cases h2 : call (.func (.func g) first captured) args (isTrue false) s.shut with
          | true => rw [h2] at h; exact key false h2 h
          | false => rw [h2] at h; cases h
    | _ => exact hc _ _ _ _ h ρ V Args W hv ha hsr
  | _ => exact hc _ _ _ _ h ρ V Args W hv ha hsr
end Go.Ab
