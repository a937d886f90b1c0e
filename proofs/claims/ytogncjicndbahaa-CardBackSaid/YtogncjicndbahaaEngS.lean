/- A range over a function. -/
import Derived.Test.YtogncjicndbahaaEngR
namespace Go.Ab
variable {P : Program} {k n : Nat}

/-- an object may be changed at will once its name goes -/
theorem Stp.free {ρ : Ren} {s : St} {W W' : World} (h : SR P ρ s W) {b : Nat} {o : AObj} {r : Rn} (hb : s.at b = some o) (hro : s.fix b o = false) (hr : ρ b = some r)
    (hos : W'.os = W.os) (htape : W'.tape = W.tape) (hout : W'.output = W.output) (hsz : W'.heap.size = W.heap.size) (hoth : ∀ B, B ≠ r.blk → W'.heap[B]? = W.heap[B]?) : Stp P ρ s W ρ (s.set b none) W' := by
  have hlt := St.at_lt hb
  have back : ∀ c x, (s.set b none).at c = some x → s.at c = some x ∧ c ≠ b := fun c x hc => by
    rw [St.at_set hlt] at hc
    by_cases e : c = b
    · rw [if_pos e] at hc; cases hc
    · rw [if_neg e] at hc; exact ⟨hc, e⟩
  refine ⟨.refl ρ, ⟨fun c x hc => ?_, fun c d o1 o2 r1 r2 h1 h2 => h.inj c d o1 o2 r1 r2 (back _ _ h1).1 (back _ _ h2).1, h.new⟩, hos, htape, hout, by omega, Nat.le_refl _, fun _ _ => rfl, fun B _ hn => hoth B fun e => (by have := hn b o r hb hr e.symm; rw [hro] at this; cases this), fun c x r' h1 h2 => .inr ⟨c, x, r', (back _ _ h1).1, h2, rfl, id⟩⟩
  obtain ⟨h1, h2⟩ := back c x hc
  obtain ⟨r1, O1, g1, g2, g3⟩ := h.obj c x h1
  exact ⟨r1, O1, g1, by rw [hoth _ (fun e => h2 (h.inj c b x o r1 r h1 hb g1 hr e))]; exact g2, g3⟩
theorem getObj_run {W : World} {B : Nat} {O : Obj} (h : W.heap[B]? = some O) (hc : ∀ c e f, O ≠ .cells c e f) : (getObj B).run P W = .ok O W := by
  simp only [getObj, Sem.run, h] <;> (cases O <;> first | rfl | exact absurd rfl (hc _ _ _))
def World.putO (W : World) (B : Nat) (O : Obj) : World := { W with heap := W.heap.setIfInBounds B O }
theorem setObj_run {W : World} {B : Nat} {O O' : Obj} (h : W.heap[B]? = some O) (hc : ∀ c e f, O ≠ .cells c e f) : (setObj B O').run P W = .ok () (World.putO W B O') := by
  simp only [setObj, Sem.run, h]
  cases O <;> first | rfl | exact absurd rfl (hc _ _ _)
theorem putO_size (W : World) (B : Nat) (O : Obj) : (World.putO W B O).heap.size = W.heap.size := by simp [World.putO]
theorem putO_at {W : World} {B : Nat} {O O' : Obj} (h : W.heap[B]? = some O) : (World.putO W B O').heap[B]? = some O' := by
  have hlt : B < W.heap.size := by
    rcases Nat.lt_or_ge B W.heap.size with h' | h'
    · exact h'
    · rw [Array.getElem?_eq_none h'] at h; cases h
  exact Array.getElem?_setIfInBounds_self_of_lt hlt
theorem putO_other {W : World} {B B' : Nat} {O' : Obj} (h : B' ≠ B) : (World.putO W B O').heap[B']? = W.heap[B']? := Array.getElem?_setIfInBounds_ne (Ne.symm h)
theorem getLoop_run {W : World} {B : Nat} {L : Loop} (h : W.heap[B]? = some (.loop L)) : (Instr.getLoop B).run P W = .ok L W := by
  simp only [Instr.getLoop, Sem.run_bind, getObj_run h (by intro c e f h; cases h), Result.andThen_ok, Sem.run_pure]
theorem endLoop_run {W : World} {B : Nat} {L : Loop} (h : W.heap[B]? = some (.loop L)) (hs : L.state ≠ .busy) : (Instr.endLoop B).run P W = .ok L.pending (World.putO W B (.loop { L with state := .exhausted })) := by
  have h1 : (L.state == LoopState.busy) = false := by
    cases hst : L.state <;> first | rfl | exact absurd hst hs
  simp only [Instr.endLoop, Sem.run_bind, getLoop_run h, Result.andThen_ok, h1, Bool.false_eq_true, if_false, Sem.run_pure, setObj_run h (by intro c e f h; cases h)]
theorem rangeEnd_ok {K : KC k} {l : Nat} {m : List Nat} {t : Fm Value k} {s : St} (h : rangeEnd K l m t s = true) {ρ ρ0 : Ren} {s0 : St} {W W0 : World} {A : Act} (hst : Stp P ρ0 s0 W0 ρ s W) {x : Rn} (hx : ρ l = some x) (har : AR ρ k n t A) (hmr : MR ρ m A.defers)
    {r : Option Nat} {m0 : Nat} {Q : Exit → Act → World → Prop} (hK : KQ P k n K Q ρ0 s0 W0) {v : Value} : rangePost (WF r) m0 P x.blk Q A (.returned v) W := by
  unfold rangeEnd at h
  cases hl : s.at l with
  | none => rw [hl] at h; cases h
  | some o =>
    rw [hl] at h
    cases o with
    | cells _ _ _ _ _ => cases h
    | dfr => cases h
    | map _ _ => cases h
    | mit _ _ _ _ => cases h
    | sit _ _ => cases h
    | loop st pend k' n' t' ps asg body d =>
      dsimp only at h
      obtain ⟨hok, h⟩ := cond_inv h
      obtain ⟨x', O, h1, h2, fn, T, rd, h3, h4, h5, h6, h7, h8⟩ := hst.sr.obj l _ hl
      rw [hx] at h1; cases h1
      subst h5
      have hnb : st ≠ .busy := by intro e; subst e; cases h
      have hW' := Stp.free (W' := World.putO W x.blk (.loop { state := .exhausted, pending := pend, fn, tmps := T, params := ps.toArray, assign := asg, body, defers := rd.blk })) hst.sr hl (fix_of rfl hok) hx rfl rfl rfl (putO_size _ _ _) (fun B hB => putO_other hB)
      have hq := hK ρ t A _ _ m (hst.trans hW') har hmr
      refine ⟨pend, _, endLoop_run h2 hnb, ?_⟩
      have go : ∀ {b : Bool}, (match (generalizing := false) st with | .busy => false | _ => b) = true → b = true := fun {b} hb => by
        cases st with
        | busy => exact absurd rfl hnb
        | _ => exact hb
      cases pend with
      | none => exact hq.1 (go h)
      | some c =>
        have h := go h
        cases c <;> (try (cases h; done))
        · exact wpIn_exit (hq.2 (.exit _) h)
        · exact wpIn_goto (hq.2 (.goto _) h)
        · exact wpIn_ret (hq.2 .ret h)
theorem clo_range {g : Operand} {gg : GW Value k} {ps : Array Tmp} {asg body : Code} (hg : cEv k n g = some gg) :
    CloOK P k n ⟨fun call rd K m t s => bif isFn (gg.g t) then (match rd with
          | none => bif Nat.blt (Nat.add s.nx 1) 4398046511104 then
              let s1 := s.push .dfr
              let s2 := s1.push (.loop .ready none k n t ps.toList asg body s.nx)
              call (gg.g t) [.func (.yield s1.nx) #[] #[]] (fun _ s3 => rangeEnd K s1.nx (s.nx :: m) t s3) s2
            else false
          | some l0 => match s.at l0 with
            | some o => match o with
              | .loop _ _ _ _ _ _ _ _ df => bif Nat.blt s.nx 4398046511104 then
                let s2 := s.push (.loop .ready none k n t ps.toList asg body df)
                call (gg.g t) [.func (.yield s.nx) #[] #[]] (fun _ s3 => rangeEnd K s.nx m t s3) s2
                else false
              | _ => false
            | none => false) else false⟩ (.rangeFunc g ps asg body) := by
  intro call hcall rd K m t s h ρ A W har hsr hmr r hrd m0 Q hK
  obtain ⟨hisf, h⟩ := cond_inv h
  have hgv := cEv_sound har hg
  -- what is done once the record lies there
  have main : ∀ (ρ2 : Ren) (s2 : St) (W2 : World) (l : Nat) (x : Rn) (m' : List Nat) (mark : List Deferred), Stp P ρ s W ρ2 s2 W2 → ρ2 l = some x → MR ρ2 m' (mark ++ A.defers) →
      call (gg.g t) [.func (.yield l) #[] #[]] (fun _ s3 => rangeEnd K l m' t s3) s2 = true →
      ∃ (d : Deferred) (w₁' : World) (f : FuncId) (args : Array Value) (w₂ : World), (resolve A.eval (rangeCall g x.blk) 0).run P W2 = .ok d w₁' ∧ (∀ f', Target.leads P w₁' d.target d.args = some f' → (WF r).fn f') ∧
        (invoke d.target d.args).run P w₁' = .ok (.enter f args) w₂ ∧ ((WF r).depth.isSome = true → 1 ≤ m0) ∧ CallsIn (WF r) (m0 - 1) P f args w₂ (rangePost (WF r) m0 P x.blk Q { A with defers := mark ++ A.defers }) := by
    intro ρ2 s2 W2 l x m' mark hstp hx hmr' hc
    obtain ⟨d, hd, hrest⟩ := hcall _ _ _ _ hc ρ2 (A.eval g) [.func (.yield x.blk) #[] #[]] W2 (hgv.mono hstp.ext) (.cons (.func (f := []) (c := []) ⟨x, hx, rfl⟩ .nil .nil) .nil) hstp.sr
    rcases hrest with ⟨f, as, hinv, hcs⟩ | ⟨hno, _⟩
    · refine ⟨d, W2, f, as, W2, ?_, fun _ _ => trivial, hinv, (fun h => by cases h), (hcs r (m0 - 1)).mono fun e W' hP => ?_⟩
      · have e1 : resolve A.eval (rangeCall g x.blk) 0 = Deferred.ofValue (A.eval g) #[.func (.yield x.blk) #[] #[]] := by simp [resolve, Act.eval]
        rw [e1]; exact hd
      · obtain ⟨X, rfl, ρ3, v, s3, h3, h4, h5⟩ := hP
        exact rangeEnd_ok (n := n) (A := { A with defers := mark ++ A.defers }) h5 (hstp.trans h3) (h3.ext _ _ hx) ⟨har.size, har.le, (har.mono (hstp.ext.trans h3.ext)).slot⟩ (hmr'.mono h3.ext) hK
    · rw [hisf] at hno; cases hno
  have hext1 : ∀ r, Ext ρ (ρ.add s.nx r) := fun r => Ren.add_ext (hsr.new _ (Nat.le_refl _))
  refine wpIn_rangeFunc fun fn _ => ?_
  rcases hrd with ⟨rfl, rfl⟩ | ⟨l0, x0, rfl, hx0, rfl⟩
  · obtain ⟨hnx, h⟩ := cond_inv h
    have hnx : s.nx + 1 < 4398046511104 := blt_true hnx
    let r1 : Rn := ⟨W.heap.size, 0, 0, 0, false⟩
    have st1 : Stp P ρ s W (ρ.add s.nx r1) (s.push .dfr) (W.alloc (.deferred (some []))) := Stp.push hsr (by omega) rfl ⟨rfl, rfl⟩
    let L : Loop := { state := .ready, pending := none, fn, tmps := A.tmps, params := ps, assign := asg, body, defers := W.heap.size }
    let W1 := W.alloc (.deferred (some []))
    let r2 : Rn := ⟨W1.heap.size, 0, 0, 0, false⟩
    have hx2 : Ext (ρ.add s.nx r1) ((ρ.add s.nx r1).add (s.nx + 1) r2) := Ren.add_ext (st1.sr.new _ (Nat.le_refl _))
    have st2 : Stp P (ρ.add s.nx r1) (s.push .dfr) W1 ((ρ.add s.nx r1).add (s.nx + 1) r2) ((s.push .dfr).push (.loop .ready none k n t ps.toList asg body s.nx)) (W1.alloc (.loop L)) :=
      Stp.push st1.sr (by rw [St.nx_push]; omega) rfl ⟨fn, A.tmps, r1, rfl, hx2 _ _ (Ren.add_self _ _ _), by simp [L, r1], har.size, har.le, fun i hi => ((har.mono (hext1 r1)).mono hx2).slot i hi⟩
    obtain ⟨d, w1', f, args, w2, q1, q2, q3, q4, q5⟩ := main _ _ _ (s.nx + 1) r2 (s.nx :: m) [{ target := .collected W.heap.size, args := #[] }] (st1.trans st2) (Ren.add_self _ _ _) (.cons (hx2 _ _ (Ren.add_self _ _ _)) (hmr.mono ((hext1 r1).trans hx2))) h
    refine ⟨W1.heap.size, [{ target := .collected W.heap.size, args := #[] }], W1.alloc (.loop L), d, w1', f, args, w2, ?_, q1, q2, q3, q4, q5⟩
    simp only [Instr.enterLoop, WF, Sem.run_bind, run_newObj, Sem.run_pure, Result.andThen_ok]
    rfl
  · dsimp only at h
    cases ha : s.at l0 with
    | none => rw [ha] at h; cases h
    | some o =>
      rw [ha] at h
      cases o with
      | cells _ _ _ _ _ => cases h
      | dfr => cases h
      | map _ _ => cases h
      | mit _ _ _ _ => cases h
      | sit _ _ => cases h
      | loop st0 pend0 k0 n0 t0 ps0 asg0 body0 df =>
        obtain ⟨hnx, h⟩ := cond_inv h
        have hnx : s.nx < 4398046511104 := blt_true hnx
        obtain ⟨x', O, h1, h2, fn0, T0, rd0, h3, h4, h5, h6, h7, h8⟩ := hsr.obj l0 _ ha
        rw [hx0] at h1; cases h1
        subst h5
        let L : Loop := { state := .ready, pending := none, fn, tmps := A.tmps, params := ps, assign := asg, body, defers := rd0.blk }
        let r2 : Rn := ⟨W.heap.size, 0, 0, 0, false⟩
        have st2 : Stp P ρ s W (ρ.add s.nx r2) (s.push (.loop .ready none k n t ps.toList asg body df)) (W.alloc (.loop L)) :=
          Stp.push hsr hnx rfl ⟨fn, A.tmps, rd0, rfl, hext1 r2 _ _ h4, by simp [L], har.size, har.le, fun i hi => (har.mono (hext1 r2)).slot i hi⟩
        obtain ⟨d, w1', f, args, w2, q1, q2, q3, q4, q5⟩ := main _ _ _ s.nx r2 m [] st2 (Ren.add_self _ _ _) (hmr.mono (hext1 r2)) h
        refine ⟨W.heap.size, [], W.alloc (.loop L), d, w1', f, args, w2, ?_, q1, q2, q3, q4, q5⟩
        simp only [Instr.enterLoop, WF, Sem.run_bind, getLoop_run h2, run_newObj, Sem.run_pure, Result.andThen_ok]
        rfl
end Go.Ab
