/- What is known of a call beforehand: a function that is handed a slice over known cells, and plain values, returns a plain value and leaves memory as it was. (Long runs are cut so.) -/
import Derived.Test.YtkpiaipbbpfodaaEngUb
import Derived.Test.YtkpiaipbbpfodaaEngY
namespace Go.Ab
variable {P : Program}
/-- a state in which one block holds some cells -/
def stL (L : List Value) : St := st0.push (mkC L ro false)
/-- whether arguments are a slice over those cells, and those values -/
def memoArg (s : St) (m : Nat) (L R : List Value) : List Value → Bool
  | [] => false
  | x :: xs => match x with
    | .slice a n c => match a with
      | some a => onAddr a fun b o => Nat.beq o 0 && (Nat.beq n m && (Nat.beq c m && (veqs 100 xs R && onCells s b fun k n' t _ g => !g && (Nat.ble L.length n' && veqs 4000 (gets k t 0 L.length) L))))
      | none => false
    | _ => false
def extM (g m : Nat) (L R : List Value) (v : Value) (call : CallT) : CallT := fun fv args K s => match fv with
  | .func fn first captured => match fn with
    | .func g' => bif Nat.beq g' g then (bif memoArg s m L R (first.toList ++ args ++ captured.toList) then K v s else call fv args K s) else call fv args K s
    | _ => call fv args K s
  | _ => call fv args K s
/-- the run that is known -/
def memoRun (P : Program) (ext : CallT → CallT) (g m : Nat) (L R : List Value) (v : Value) : Bool := (cFun P loopFuel g).run (callF P loopFuel ext 10000) (slc 0 0 m m :: R) (fun x _ => veq 100 v x) (stL L)
open Go.RowKit
theorem memoArg_inv {s : St} {m : Nat} {L R l : List Value} (h : memoArg s m L R l = true) : ∃ b k n' t e, l = slc b 0 m m :: R ∧ s.at b = some (.cells k n' t e false) ∧ L.length ≤ n' ∧ gets k t 0 L.length = L := by
  unfold memoArg at h
  cases l with
  | nil => cases h
  | cons x xs =>
    simp only at h
    cases x <;> (try (cases h; done))
    rename_i a n c
    cases a with
    | none => cases h
    | some a =>
      obtain ⟨b, o, sp⟩ := a
      simp only [onAddr] at h
      cases sp with
      | some _ => cases h
      | none =>
        simp only at h
        obtain ⟨h1, h⟩ := and_true h
        obtain ⟨h2, h⟩ := and_true h
        obtain ⟨h3, h⟩ := and_true h
        obtain ⟨h4, h⟩ := and_true h
        obtain ⟨k, n', t, e, g, h5, h6⟩ := onCells_inv h
        obtain ⟨h7, h8⟩ := and_true h6
        obtain ⟨h9, h10⟩ := and_true h8
        have e1 := beq_true h1
        have e2 := beq_true h2
        have e3 := beq_true h3
        have e4 := veqs_eq _ _ _ h4
        have e5 := veqs_eq _ _ _ h10
        subst e1 e2 e3 e4
        have hg : g = false := by cases g <;> first | rfl | cases h7
        subst hg
        exact ⟨b, k, n', t, e, rfl, h5, ble_true h9, e5⟩
theorem extM_ok (hd : DrawH P) (hn : NameH P) {ext : CallT → CallT} (hext : ∀ call, CallOK P call → CallOK P (ext call)) {g m : Nat} {L R : List Value} {v : Value} (hp : pureC 4 v = true) (hR : R.all (pureC 4) = true) (hL : L.all (pureC 4) = true) (hlen : Nat.ble L.length 32768 = true)
    (hrun : memoRun P ext g m L R v = true) (call : CallT) (hc : CallOK P call) : CallOK P (extM g m L R v call) := by
  intro fv args K s h ρ V Args W hv ha hsr
  unfold extM at h
  cases fv with
  | func fnv first captured =>
    cases fnv with
    | func g' =>
      simp only at h
      cases hg : Nat.beq g' g with
      | false => rw [hg] at h; exact hc _ _ _ _ h ρ V Args W hv ha hsr
      | true =>
        rw [hg] at h
        simp only [cond_true] at h
        obtain ⟨first⟩ := first
        obtain ⟨captured⟩ := captured
        cases hm : memoArg s m L R (first ++ args ++ captured) with
        | false =>
          simp only [hm, cond_false] at h
          exact hc _ _ _ _ h ρ V Args W hv ha hsr
        | true =>
          simp only [hm, cond_true] at h
          have hg := beq_true hg
          subst hg
          obtain ⟨b, k, n', t, e, hl, hb, hle, hcs⟩ := memoArg_inv hm
          cases hv with
          | func hfn hf hcp =>
            rename_i fn' F C
            have hfn : fn' = .func g' := hfn
            subst hfn
            have hall := (hf.append ha).append hcp
            rw [hl] at hall
            generalize hX : F ++ Args ++ C = XS at hall
            cases hall with
            | cons hx hrest =>
              rename_i X XR
              have hRR : XR = R := pureC_eqs 4 hrest fun x hx => List.all_eq_true.1 hR x hx
              subst hRR
              obtain ⟨r, O, hrb, hO, hOR⟩ := hsr.obj b _ hb
              obtain ⟨CC, e', fr, rfl, o1, o2, o3, o4, o5, o6, o7⟩ := hOR
              let ρ' : Ren := fun c => if c = 0 then some r else none
              have hρ0 : ρ' 0 = some r := if_pos rfl
              have hx' : VR ρ' (slc 0 0 m m) X := by
                cases hx with
                | slc hh hn2 h0 h1 =>
                  rw [hrb] at hh
                  cases hh
                  exact .slc hρ0 hn2 h0 h1
              have hlen' := ble_true hlen
              have hsr' : SR P ρ' (stL L) W := by
                have hat : ∀ c, (stL L).at c = if c = 0 then some (mkC L ro false) else none := fun c => by
                  show (st0.push _).at c = _
                  rw [St.at_push (by decide), show st0.nx = 0 from rfl]
                  by_cases hc0 : c = 0
                  · rw [if_pos hc0, if_pos hc0]
                  · rw [if_neg hc0, if_neg hc0, at_st0]
                refine ⟨fun c o hco => ?_, fun c d o o' r1 r2 h1 h2 h3 h4 _ => ?_, fun c hc0 => ?_⟩
                · rw [hat] at hco
                  by_cases hc0 : c = 0
                  · subst hc0
                    rw [if_pos rfl] at hco
                    cases hco
                    refine ⟨r, _, hρ0, hO, CC, e', fr, rfl, fun h => ?_, o2, fun h => (by cases h), o4, by omega, le_lvl _ hlen', fun i hi => ?_⟩
                    · rcases h with h | h
                      · exact absurd h (by decide)
                      · cases h
                    · have h8 := le_lvl _ hlen'
                      rw [puts_get _ _ 0 i _ (by omega) (by omega), if_pos (by omega), Nat.sub_zero, List.getD_eq_getElem?_getD, List.getElem?_eq_getElem hi]
                      show VR ρ' L[i] _
                      have h9 := o7 i (by omega)
                      have h10 : (getW k i).g t = L[i] := by
                        have h11 := gets_get k t L.length 0 i hi
                        rw [hcs, List.getElem?_eq_getElem hi, Nat.zero_add] at h11
                        exact (Option.some.inj h11).symm
                      rw [h10] at h9
                      have hpi := List.all_eq_true.1 hL L[i] (List.getElem_mem hi)
                      rw [pureC_eq 4 h9 hpi]
                      exact pureC_VR ρ' 4 _ hpi
                  · rw [if_neg hc0] at hco; cases hco
                · rw [hat] at h1 h2
                  by_cases hc0 : c = 0 <;> by_cases hd0 : d = 0
                  · rw [hc0, hd0]
                  · rw [if_neg hd0] at h2; cases h2
                  · rw [if_neg hc0] at h1; cases h1
                  · rw [if_neg hd0] at h2; cases h2
                · have h1 : (stL L).nx = 1 := rfl
                  rw [h1] at hc0
                  exact if_neg (by omega)
              obtain ⟨⟨fnn, hgf, hbody⟩, hcalls⟩ := cFun_ok hd (callF_ok hd hn hext 10000) hrun (.cons hx' (pureC_VsR ρ' 4 _ fun x hx => List.all_eq_true.1 hR x hx)) hsr'
              refine ⟨{ target := .fn (.func g') ⟨C⟩, args := (⟨F⟩ : Array Value) ++ ⟨Args⟩ }, rfl, .inl ⟨g', ⟨F ++ Args ++ C⟩, ?_, fun r m => ?_⟩⟩
              · have hnn : (fnn.name == "runtime.NumGoroutine") = false := by simpa using hn g' fnn hgf
                have e1 : (⟨F⟩ : Array Value) ++ (⟨Args⟩ : Array Value) ++ (⟨C⟩ : Array Value) = ⟨F ++ Args ++ C⟩ := by simp
                simp only [invoke, callFunc, Sem.run_bind, run_program, Result.andThen_ok, hgf, hnn, hbody, Bool.false_eq_true, if_false, Sem.run_pure, e1]
              · rw [hX]
                refine (hcalls r m).mono fun e W' hP => ?_
                obtain ⟨Y, rfl, ρ2, x, s', hst, hxy, hk⟩ := hP
                have hvx := veq_eq 100 v x hk
                subst hvx
                have hY := pureC_eq 4 hxy hp
                subst hY
                have hbel : Below W.heap.size W W' := by
                  refine ⟨hst.os, hst.tape, hst.output, hst.size, fun B hB' => hst.frame B hB' fun b o r h _ _ => ?_⟩
                  have hat2 : (stL L).at b = if b = 0 then some (mkC L ro false) else none := by
                    show (st0.push _).at b = _
                    rw [St.at_push (by decide), show st0.nx = 0 from rfl]
                    by_cases hc0 : b = 0
                    · rw [if_pos hc0, if_pos hc0]
                    · rw [if_neg hc0, if_neg hc0, at_st0]
                  rw [hat2] at h
                  by_cases hc0 : b = 0
                  · rw [if_pos hc0] at h; cases h; rfl
                  · rw [if_neg hc0] at h; cases h
                exact ⟨_, rfl, ρ, Y, s, Stp.of_below hsr hbel, pureC_VR ρ 4 Y hp, h⟩
    | _ => exact hc _ _ _ _ h ρ V Args W hv ha hsr
  | _ => exact hc _ _ _ _ h ρ V Args W hv ha hsr
end Go.Ab
