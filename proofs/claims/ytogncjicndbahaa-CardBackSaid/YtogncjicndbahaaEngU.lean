/- Rounds; calls; a whole run. -/
import Derived.Test.YtogncjicndbahaaEngT
namespace Go.Ab
variable {P : Program} {F : Nat}

theorem onLoop_inv {s : St} {l : Nat} {K : LoopState → Option Code → (k : Nat) → Nat → Fm Value k → List Tmp → Code → Code → Nat → Bool} (h : onLoop s l K = true) : ∃ st pd k n t ps asg body d, s.at l = some (.loop st pd k n t ps asg body d) ∧ s.ok l = true ∧ K st pd k n t ps asg body d = true := by
  unfold onLoop at h
  cases hl : s.at l with
  | none => rw [hl] at h; cases h
  | some o =>
    rw [hl] at h
    cases o with
    | cells _ _ _ _ _ => cases h
    | dfr => cases h
    | map _ _ => cases h
    | mit _ _ _ _ => cases h
    | sit _ _ => cases h
    | loop st pd k n t ps asg body d =>
      obtain ⟨hok, h⟩ := cond_inv h
      exact ⟨st, pd, k, n, t, ps, asg, body, d, rfl, hok, h⟩
theorem putAll_ok {ρ : Ren} {k n : Nat} : ∀ {ps : List Tmp} {vs VS : List Value} {t t' : Fm Value k} {T : Array Value}, putAll k n ps vs t = some t' → VsR ρ vs VS → T.size = n → n ≤ pow8 k → (∀ i, i < n → VR ρ ((getW k i).g t) (T.getD i undef)) →
    ps.length = VS.length ∧ ((ps.zip VS).foldl (fun (tmps : Array Value) (x : Tmp × Value) => tmps.setIfInBounds x.1 x.2) T).size = n ∧ ∀ i, i < n → VR ρ ((getW k i).g t') (((ps.zip VS).foldl (fun (tmps : Array Value) (x : Tmp × Value) => tmps.setIfInBounds x.1 x.2) T).getD i undef)
  | [], [], _, t, t', T, h, .nil, hs, _, hr => by
    simp only [putAll, Option.some.injEq] at h; subst h
    exact ⟨rfl, hs, hr⟩
  | d :: ds, v :: vs, _, t, t', T, h, .cons (V := V) (L := VS) hv hvs, hs, hn, hr => by
    simp only [putAll] at h
    cases hd : Nat.blt d n with
    | false => rw [hd] at h; cases h
    | true =>
      rw [hd] at h
      simp only [cond_true] at h
      have hd := blt_true hd
      have := putAll_ok (T := T.setIfInBounds d V) h hvs (by simp [hs]) hn fun i hi => by
        rw [get_set k i d v t (by omega) (by omega)]
        by_cases e : i = d
        · subst e
          rw [if_pos rfl]
          simp [Array.getD_eq_getD_getElem?, hs, hi]; exact hv
        · rw [if_neg e]
          simp only [Array.getD_eq_getD_getElem?]
          rw [Array.getElem?_setIfInBounds_ne (by omega)]
          have := hr i hi
          simpa [Array.getD_eq_getD_getElem?] using this
      refine ⟨by simp [this.1], ?_⟩
      simp only [List.zip_cons_cons, List.foldl_cons]
      exact this.2
  | [], _ :: _, _, _, _, _, h, _, _, _, _ => by simp [putAll] at h
  | _ :: _, [], _, _, _, _, h, _, _, _, _ => by simp [putAll] at h
/-- a loop's record, changed -/
theorem loop_set {ρ : Ren} {s : St} {W : World} (h : SR P ρ s W) {l : Nat} {x : Rn} (hx : ρ l = some x) {st : LoopState} {pd : Option Code} {k n : Nat} {t : Fm Value k} {ps : List Tmp} {asg body : Code} {d : Nat}
    (hl : s.at l = some (.loop st pd k n t ps asg body d)) (hok : s.ok l = true) (st' : LoopState) (pd' : Option Code) :
    ∃ L : Loop, W.heap[x.blk]? = some (.loop L) ∧ L.state = st ∧ L.pending = pd ∧ L.params = ps.toArray ∧ L.assign = asg ∧ L.body = body ∧ L.tmps.size = n ∧ n ≤ pow8 k ∧ (∀ i, i < n → VR ρ ((getW k i).g t) (L.tmps.getD i undef)) ∧
      Stp P ρ s W ρ (s.set l (some (.loop st' pd' k n t ps asg body d))) (World.putO W x.blk (.loop { L with state := st', pending := pd' })) := by
  obtain ⟨x', O, h1, h2, fn, T, rd, h3, h4, h5, h6, h7, h8⟩ := h.obj l _ hl
  rw [hx] at h1; cases h1
  subst h5
  exact ⟨_, h2, rfl, rfl, rfl, rfl, rfl, h6, h7, h8, Stp.set h hl (fix_of rfl hok) hx rfl rfl rfl (putO_size _ _ _) (putO_at h2) (fun B hB => putO_other hB) ⟨fn, T, rd, h3, h4, rfl, h6, h7, h8⟩⟩
theorem roundEnd_ok {K : KV} {l : Nat} {st : LoopState} {j : Option Code} {b : Bool} {s : St} (h : roundEnd K l st j b s = true) (hj : b = j.isNone) (hst : st = if j.isNone then .ready else .done)
    {ρ0 ρ : Ren} {s0 : St} {W0 W : World} (hs : Stp P ρ0 s0 W0 ρ s W) {x : Rn} (hx : ρ l = some x) :
    ∃ v w', (Instr.endRound x.blk j).run P W = .ok v w' ∧ ∃ X, Ending.returned v = .returned X ∧ Post P ρ0 s0 W0 K X w' := by
  obtain ⟨st0, pd, k, n, t, ps, asg, body, d, hl, hok, h⟩ := onLoop_inv h
  obtain ⟨L, h1, _, _, _, _, _, _, _, _, h2⟩ := loop_set hs.sr hx hl hok st j
  refine ⟨.bool j.isNone, _, ?_, _, rfl, ρ, .bool b, _, hs.trans h2, by rw [hj]; exact .bool _, h⟩
  simp only [Instr.endRound, Sem.run_bind, getLoop_run h1, Result.andThen_ok, setObj_run h1 (by intro c e f h; cases h), Sem.run_pure]
  rw [hst]
theorem round_ok (hd : DrawH P) {call : CallT} (hcall : CallOK P call) {l : Nat} {args : List Value} {K : KV} {s : St} (h : round P F call l args K s = true) {ρ : Ren} {x : Rn} (hx : ρ l = some x) {Args : List Value} {W : World} (ha : VsR ρ args Args) (hsr : SR P ρ s W) :
    ∃ fn tmps asg body, (Instr.yield x.blk ⟨Args⟩).run P W = .ok (.round x.blk fn tmps asg body) W ∧ ∀ r m, RoundIn (WF r) m P x.blk fn tmps asg body W fun e W' => ∃ X, e = .returned X ∧ Post P ρ s W K X W' := by
  obtain ⟨st, pd, k, n, t, ps, asg, body, d, hl, hok, h⟩ := onLoop_inv h
  cases hp : putAll k n ps args t with
  | none => rw [hp] at h; cases h
  | some t' =>
    rw [hp] at h
    simp only at h
    obtain ⟨L, h1, h2, h3, h4, h5, h6, h7, h8, h9, _⟩ := loop_set hsr hx hl hok st pd
    obtain ⟨hpl, hts, htr⟩ := putAll_ok (T := L.tmps) hp ha h7 h8 h9
    have hfold : (L.params.zip (⟨Args⟩ : Array Value)).foldl (fun (tmps : Array Value) (x : Tmp × Value) => tmps.setIfInBounds x.1 x.2) L.tmps = (ps.zip Args).foldl (fun (tmps : Array Value) (x : Tmp × Value) => tmps.setIfInBounds x.1 x.2) L.tmps := by
      rw [← Array.foldl_toList, Array.toList_zip, h4]
    refine ⟨L.fn, (ps.zip Args).foldl (fun (tmps : Array Value) (x : Tmp × Value) => tmps.setIfInBounds x.1 x.2) L.tmps, asg, body, ?_, fun r m => ?_⟩
    · have hsz : ¬ ((⟨Args⟩ : Array Value).size ≠ L.params.size) := by rw [h4]; simp [hpl]
      simp only [Instr.yield, Sem.run_bind, getLoop_run h1, Result.andThen_ok, hsz, if_false, Sem.run_pure]
      rw [← hfold, h5, h6]
    · refine roundIn_of_wpIn (F := WF r) trivial ?_
      show asg.wpIn (WF (some x.blk)) m P _ _ W
      refine cCode_ok hd k n 10000 asg call hcall (some l) _ [] t' s h ρ { tmps := _, defers := [] } W ⟨hts, h8, htr⟩ hsr .nil (some x.blk) (.inr ⟨l, x, rfl, hx, rfl⟩) m _ fun ρ1 t1 A1 s1 W1 m1 g1 g2 g3 => ⟨fun hk => ?_, fun e hk => by cases hk⟩
      obtain ⟨st1, pd1, k1, n1, t01, ps1, asg1, body1, d1, hl1, hok1, hk⟩ := onLoop_inv hk
      obtain ⟨hrdy, hk⟩ := cond_inv hk
      have hrdy : st1 = .ready := by cases st1 <;> first | rfl | cases hrdy
      subst hrdy
      have hx1 := g1.ext _ _ hx
      obtain ⟨L1, q1, q2, q3, q4, q5, q6, q7, q8, q9, hst1⟩ := loop_set g1.sr hx1 hl1 hok1 .busy pd1
      refine ⟨World.putO W1 x.blk (.loop { L1 with state := .busy, pending := pd1 }), ?_, ?_⟩
      · simp only [Instr.beginRound, Sem.run_bind, getLoop_run q1, Result.andThen_ok, setObj_run q1 (by intro c e f h; cases h), q2, Sem.run_pure]
        rw [← q3]
      · show body.wpIn (WF (some x.blk)) m P _ A1 _
        refine cCode_ok hd k n 10000 body call hcall (some l) _ m1 t1 _ hk ρ1 A1 _ g2 hst1.sr g3 (some x.blk) (.inr ⟨l, x, rfl, hx1, rfl⟩) m _ fun ρ3 t3 A3 s3 W3 m3 e1 e2 e3 => ⟨fun hk => ?_, fun e hk => ?_⟩
        · exact roundEnd_ok hk rfl rfl ((g1.trans hst1).trans e1) (e1.ext _ _ hx1)
        · cases e with
          | exit id => exact roundEnd_ok (j := some (.exit id)) hk rfl rfl ((g1.trans hst1).trans e1) (e1.ext _ _ hx1)
          | goto g => exact roundEnd_ok (j := some (.goto g)) hk rfl rfl ((g1.trans hst1).trans e1) (e1.ext _ _ hx1)
          | ret => exact roundEnd_ok (j := some .ret) hk rfl rfl ((g1.trans hst1).trans e1) (e1.ext _ _ hx1)
theorem callF_ok (hd : DrawH P) (hn : NameH P) {ext : CallT → CallT} (hext : ∀ call, CallOK P call → CallOK P (ext call)) : ∀ d, CallOK P (callF P F ext d)
  | 0 => fun _ _ _ _ h => by cases h
  | d + 1 => by
    have ih := callF_ok hd hn hext d
    refine hext _ fun v args K s h ρ V Args W hv ha hsr => ?_
    cases v <;> (try (cases h; done))
    rename_i fn first captured
    obtain ⟨first⟩ := first
    obtain ⟨captured⟩ := captured
    cases hv with
    | func hfn hf hc =>
      rename_i fn' F C
      cases fn <;> (try (cases h; done))
      · rename_i g
        have hfn : fn' = .func g := hfn
        subst hfn
        obtain ⟨⟨fnn, hg, hb⟩, hcalls⟩ := cFun_ok hd ih h ((hf.append ha).append hc) hsr
        refine ⟨{ target := .fn (.func g) ⟨C⟩, args := (⟨F⟩ : Array Value) ++ ⟨Args⟩ }, rfl, .inl ⟨g, ⟨F ++ Args ++ C⟩, ?_, fun r m => hcalls r m⟩⟩
        have hnn : (fnn.name == "runtime.NumGoroutine") = false := by simpa using hn g fnn hg
        have e1 : (⟨F⟩ : Array Value) ++ (⟨Args⟩ : Array Value) ++ (⟨C⟩ : Array Value) = ⟨F ++ Args ++ C⟩ := by simp
        simp only [invoke, callFunc, Sem.run_bind, run_program, Result.andThen_ok, hg, hnn, hb, Bool.false_eq_true, if_false, Sem.run_pure, e1]
      · rename_i l
        obtain ⟨x, hx, hfn⟩ : ∃ r, ρ l = some r ∧ fn' = .yield r.blk := hfn
        subst hfn
        obtain ⟨fn, tmps, asg, body, hy, hr⟩ := round_ok hd ih h hx (hf.append ha) hsr
        refine ⟨{ target := .fn (.yield x.blk) ⟨C⟩, args := (⟨F⟩ : Array Value) ++ ⟨Args⟩ }, rfl, .inr ⟨rfl, x.blk, fn, tmps, asg, body, ?_, hr⟩⟩
        have e1 : (⟨F⟩ : Array Value) ++ (⟨Args⟩ : Array Value) = ⟨F ++ Args⟩ := by simp
        simp only [invoke, e1, hy]
/-- what is known of a call beforehand: a function without arguments that returns a plain value and leaves memory as it was -/
def extK (f : FuncId) (b : Bool) (call : CallT) : CallT := fun v args K s => match v with
  | .func fn first captured => match fn with
    | .func g => bif Nat.beq g f then (match first.toList ++ args ++ captured.toList with
      | [] => K (.bool b) s
      | _ => false) else call v args K s
    | _ => call v args K s
  | _ => call v args K s
open Go.RowKit
def Returns (P : Program) (f : FuncId) (b : Bool) : Prop := ∀ W, Calls P f #[] W fun e W' => e = .returned (.bool b) ∧ Below W.heap.size W W'
theorem Stp.of_below {ρ : Ren} {s : St} {W W' : World} (h : SR P ρ s W) (hb : Below W.heap.size W W') : Stp P ρ s W ρ s W' :=
  ⟨.refl ρ, ⟨fun b o hb' => by
    obtain ⟨r, O, h1, h2, h3⟩ := h.obj b o hb'
    exact ⟨r, O, h1, by rw [hb.block _ (h.lt hb' h1)]; exact h2, h3⟩, h.inj, h.new⟩, hb.os, hb.tape, hb.output, hb.size, Nat.le_refl _, fun _ _ => rfl, fun B hB _ => hb.block B hB, fun b o r h1 h2 => .inr ⟨b, o, r, h1, h2, rfl, id⟩⟩
theorem extK_ok (hn : NameH P) {f : FuncId} {b : Bool} {fn : Func} (hf : P.funcs[f]? = some fn) (hb : fn.body.isNone = false) (hr : Returns P f b) (call : CallT) (hc : CallOK P call) : CallOK P (extK f b call) := by
  intro v args K s h ρ V Args W hv ha hsr
  unfold extK at h
  cases v with
  | func fnv first captured =>
    cases fnv with
    | func g =>
      simp only at h
      cases hg : Nat.beq g f with
      | false => rw [hg] at h; exact hc _ _ _ _ h ρ V Args W hv ha hsr
      | true =>
        rw [hg] at h
        have hg := beq_true hg
        subst hg
        obtain ⟨first⟩ := first
        obtain ⟨captured⟩ := captured
        cases hv with
        | func hfn hf' hc' =>
          rename_i fn' F C
          have hfn : fn' = .func g := hfn
          subst hfn
          simp only [cond_true] at h
          have hnil : first ++ args ++ captured = [] := by
            cases hl : first ++ args ++ captured with
            | nil => rfl
            | cons _ _ => rw [hl] at h; cases h
          rw [hnil] at h
          simp only [List.append_eq_nil_iff] at hnil
          obtain ⟨⟨rfl, rfl⟩, rfl⟩ := hnil
          cases hf'; cases ha; cases hc'
          refine ⟨{ target := .fn (.func g) #[], args := #[] ++ #[] }, rfl, .inl ⟨g, #[], ?_, fun r m => ?_⟩⟩
          · have hnn : (fn.name == "runtime.NumGoroutine") = false := by simpa using hn g fn hf
            simp only [invoke, callFunc, Sem.run_bind, run_program, Result.andThen_ok, hf, hnn, hb, Bool.false_eq_true, if_false, Sem.run_pure]
            rfl
          · show CallsIn Fence.wide m P g #[] W _
            refine callsIn_wide.2 ((hr W).mono fun e W' ⟨he, hbl⟩ => ⟨.bool b, he, ρ, .bool b, s, .of_below hsr hbl, .bool b, h⟩)
    | _ => exact hc _ _ _ _ h ρ V Args W hv ha hsr
  | _ => exact hc _ _ _ _ h ρ V Args W hv ha hsr
def isTrue (b : Bool) : KV := fun v _ => match v with
  | .bool c => c == b
  | _ => false
def topRun (P : Program) (ext : CallT → CallT) (f : FuncId) (b : Bool) : Bool := (cFun P loopFuel f).run (callF P loopFuel ext 10000) [] (isTrue b) st0
/-- A WHOLE RUN: what the machine comes to, the function comes to, from whatever memory. -/
theorem returns_of_run (hd : DrawH P) (hn : NameH P) {ext : CallT → CallT} (hext : ∀ call, CallOK P call → CallOK P (ext call)) {f : FuncId} {b : Bool} (h : topRun P ext f b = true) : Returns P f b := by
  intro W
  obtain ⟨_, hc⟩ := cFun_ok hd (callF_ok hd hn hext 10000) h .nil (SR.st0 (P := P) W)
  have hc : CallsIn Fence.wide 0 P f #[] W _ := hc none 0
  refine (callsIn_wide.1 hc).mono fun e W' ⟨X, he, ρ', v, s', hst, hv, hk⟩ => ?_
  have hX : X = .bool b := by
    unfold isTrue at hk
    cases v <;> (try (cases hk; done))
    rename_i c
    have : c = b := by simpa using hk
    subst this
    exact hv.bool_inv
  subst hX
  exact ⟨he, hst.os, hst.tape, hst.output, hst.size, fun B hB => hst.frame B hB fun b o r h => by simp [at_st0] at h⟩
end Go.Ab
