/- Open runs in small steps: code and rows of operations one by one; a frame is forgotten but for some slots. (With 'cCode' and 'cOps' irreducible, a step's whnf stops at what is left.) -/
import Derived.Test.YtogncjicndbahaaEngQc
namespace Go.Ab
section
variable {P : Program} {F k n d : Nat} {call : CallT} {rd : Option Nat} {K : KC k} {m : List Nat} {t : Fm Value k} {s : St}
theorem run_region0 {id : Nat} {ops : Array Oper} : (cCode P F k n (d + 1) (.region id ops false)).run call rd K m t s = (cOps P k n ops.toList ops.toList).run call (fun t' s' => K.n m t' s') t s := rfl
theorem run_cond {x : Operand} {p q : Code} {g : GW Value k} (hx : cEv k n x = some g) {b : Bool} (hb : g.g t = .bool b) : (cCode P F k n (d + 1) (.cond x p q)).run call rd K m t s = bif b then (cCode P F k n d p).run call rd K m t s else (cCode P F k n d q).run call rd K m t s := by
  dsimp only [cCode]
  rw [hx]
  show asBool (g.g t) _ = _
  rw [hb]; rfl
theorem run_if_t {x : Operand} {p q : Code} {g : GW Value k} (hx : cEv k n x = some g) (hb : g.g t = .bool true) : (cCode P F k n (d + 1) (.cond x p q)).run call rd K m t s = (cCode P F k n d p).run call rd K m t s := run_cond hx hb
theorem run_if_f {x : Operand} {p q : Code} {g : GW Value k} (hx : cEv k n x = some g) (hb : g.g t = .bool false) : (cCode P F k n (d + 1) (.cond x p q)).run call rd K m t s = (cCode P F k n d q).run call rd K m t s := run_cond hx hb
theorem run_exit {id : Nat} : (cCode P F k n (d + 1) (.exit id)).run call rd K m t s = K.x (.exit id) m t s := rfl
theorem run_ret : (cCode P F k n (d + 1) .ret).run call rd K m t s = K.x .ret m t s := rfl
theorem run_label {l : Nat} : (cCode P F k n (d + 1) (.label l)).run call rd K m t s = K.n m t s := rfl
theorem run_loop {x : Code} : (cCode P F k n (d + 1) (.loop x)).run call rd K m t s = runLoop (cCode P F k n d x) call rd K F m t s := rfl
theorem ops_nil {all : List Oper} {K : Fm Value k → St → Bool} : (cOps P k n all []).run call K t s = K t s := rfl
def stepO (P : Program) (k n : Nat) (all : List Oper) (o : Oper) (r : OpsC k) : OpsC k :=
  match cPut k n o.dst, cGuard k n all o.guard with
  | some p, some gd =>
    match gd with
    | none => match cOper P k n o with
      | .sil c => ⟨fun call K t s => c.m t fun v => r.run call K (p.s v t) s⟩
      | .rd c => ⟨fun call K t s => c.m t s fun v => r.run call K (p.s v t) s⟩
      | .al c => ⟨fun call K t s => c.m t fun o v => bif Nat.blt s.nx 4398046511104 then r.run call K (p.s (v s.nx) t) (s.push o) else false⟩
      | .eff c => ⟨fun call K t s => c.m call t s fun v s' => r.run call K (p.s v t) s'⟩
      | .bad => ⟨fun _ _ _ _ => false⟩
    | some (g, want) => let c := cOper P k n o; ⟨fun call K t s => bif !isCh (g.g t) then (bif isB want (g.g t) then oneOp c r p call K t s else r.run call K (p.s undef t) s) else false⟩
  | _, _ => ⟨fun _ _ _ _ => false⟩
theorem ops_cons {all os : List Oper} {o : Oper} {K : Fm Value k → St → Bool} : (cOps P k n all (o :: os)).run call K t s = (stepO P k n all o (cOps P k n all os)).run call K t s := rfl
theorem ops_forget {all os : List Oper} {K : Fm Value k → St → Bool} {r : Bool} (facts : Fm Value k → Prop) (h0 : facts t) (h : ∀ t', facts t' → (cOps P k n all os).run call K t' s = r) : (cOps P k n all os).run call K t s = r := h t h0
theorem run_forget {c : Code} {r : Bool} (facts : Fm Value k → Prop) (h0 : facts t) (h : ∀ t', facts t' → (cCode P F k n d c).run call rd K m t' s = r) : (cCode P F k n d c).run call rd K m t s = r := h t h0
end
section
variable {P : Program} {F k n d : Nat} {call : CallT} {s : St} {r : Bool} {all os : List Oper} {o : Oper} {K : Fm Value k → St → Bool} {t : Fm Value k}
theorem step_sil {p : SW Value k} {c : SilC k} {v : Value} (hp : cPut k n o.dst = some p) (hg : cGuard k n all o.guard = some none) (hc : cOper P k n o = .sil c) (hv : ∀ K', c.m t K' = K' v)
    (h : (cOps P k n all os).run call K (p.s v t) s = r) : (cOps P k n all (o :: os)).run call K t s = r := by
  refine Eq.trans ops_cons ?_
  unfold stepO
  rw [hp, hg, hc]
  exact (hv _).trans h
theorem step_rd {p : SW Value k} {c : RdC k} {v : Value} (hp : cPut k n o.dst = some p) (hg : cGuard k n all o.guard = some none) (hc : cOper P k n o = .rd c) (hv : ∀ K', c.m t s K' = K' v)
    (h : (cOps P k n all os).run call K (p.s v t) s = r) : (cOps P k n all (o :: os)).run call K t s = r := by
  refine Eq.trans ops_cons ?_
  unfold stepO
  rw [hp, hg, hc]
  exact (hv _).trans h
theorem step_yes {p : SW Value k} {c : SilC k} {v : Value} {g : GW Value k} {want : Bool} (hp : cPut k n o.dst = some p) (hg : cGuard k n all o.guard = some (some (g, want))) (hch : isCh (g.g t) = false) (hb : isB want (g.g t) = true)
    (hc : cOper P k n o = .sil c) (hv : ∀ K', c.m t K' = K' v) (h : (cOps P k n all os).run call K (p.s v t) s = r) : (cOps P k n all (o :: os)).run call K t s = r := by
  refine Eq.trans ops_cons ?_
  unfold stepO
  rw [hp, hg]
  simp only [hch, hb, Bool.not_false, cond_true, hc, oneOp]
  exact (hv _).trans h
theorem step_no {p : SW Value k} {g : GW Value k} {want : Bool} (hp : cPut k n o.dst = some p) (hg : cGuard k n all o.guard = some (some (g, want))) (hch : isCh (g.g t) = false) (hb : isB want (g.g t) = false)
    (h : (cOps P k n all os).run call K (p.s undef t) s = r) : (cOps P k n all (o :: os)).run call K t s = r := by
  refine Eq.trans ops_cons ?_
  unfold stepO
  rw [hp, hg]
  simp only [hch, hb, Bool.not_false, cond_true, cond_false]
  exact h
theorem step_call {p : SW Value k} {gf : GW Value k} {gs : List (GW Value k)} (hp : cPut k n o.dst = some p) (hg : cGuard k n all o.guard = some none)
    (hc : cOper P k n o = .eff ⟨fun call f s K => call (gf.g f) (evAll f gs) K s⟩) (h : call (gf.g t) (evAll t gs) (fun v s' => (cOps P k n all os).run call K (p.s v t) s') s = r) : (cOps P k n all (o :: os)).run call K t s = r := by
  refine Eq.trans ops_cons ?_
  unfold stepO
  rw [hp, hg, hc]
  exact h
theorem step_call_yes {p : SW Value k} {gf : GW Value k} {gs : List (GW Value k)} {g : GW Value k} {want : Bool} (hp : cPut k n o.dst = some p) (hg : cGuard k n all o.guard = some (some (g, want))) (hch : isCh (g.g t) = false) (hb : isB want (g.g t) = true)
    (hc : cOper P k n o = .eff ⟨fun call f s K => call (gf.g f) (evAll f gs) K s⟩) (h : call (gf.g t) (evAll t gs) (fun v s' => (cOps P k n all os).run call K (p.s v t) s') s = r) : (cOps P k n all (o :: os)).run call K t s = r := by
  refine Eq.trans ops_cons ?_
  unfold stepO
  rw [hp, hg]
  simp only [hch, hb, Bool.not_false, cond_true, hc, oneOp]
  exact h
/-- a function's run -/
theorem run_fn {f : FuncId} {fn : Func} {c : Code} {rs : List ResultVar} {args : List Value} {K : KV} (hf : P.funcs[f]? = some fn) (hc : fn.body = some c) (hn : fn.ntmps = n) (hk : lvl n = k) (hrs : fn.results.toList = rs) (hle : Nat.ble n 32768 = true) (hargs : Nat.ble args.length n = true)
    (h : (cCode P F k n 10000 c).run call none ⟨fun m t s => retK (cRes P k n rs) K m t s, fun e m t s => match e with
      | .ret => retK (cRes P k n rs) K m t s
      | _ => false⟩ [] (puts k 0 args (ini undef k)) s = r) : (cFun P F f).run call args K s = r := by
  subst hn hk hrs
  unfold cFun
  rw [hf]
  dsimp only
  rw [hc]
  dsimp only
  rw [hle]
  simp only [cond_true, hargs]
  exact h
end
section
variable {P : Program} {F k n d : Nat} {call : CallT} {s : St} {r : Bool} {all os : List Oper} {o : Oper} {K : Fm Value k → St → Bool} {t : Fm Value k}
theorem step_rd_yes {p : SW Value k} {c : RdC k} {v : Value} {g : GW Value k} {want : Bool} (hp : cPut k n o.dst = some p) (hg : cGuard k n all o.guard = some (some (g, want))) (hch : isCh (g.g t) = false) (hb : isB want (g.g t) = true)
    (hc : cOper P k n o = .rd c) (hv : ∀ K', c.m t s K' = K' v) (h : (cOps P k n all os).run call K (p.s v t) s = r) : (cOps P k n all (o :: os)).run call K t s = r := by
  refine Eq.trans ops_cons ?_
  unfold stepO
  rw [hp, hg]
  simp only [hch, hb, Bool.not_false, cond_true, hc, oneOp]
  exact (hv _).trans h
/-- two structs or arrays compared -/
theorem eqAgg {t0 u : TypeId} {X Y : Operand} {gx gy : GW Value k} {r0 : Bool} (hop : o.op = .binOp .eql t0 X Y u) (hx : cEv k n X = some gx) (hy : cEv k n Y = some gy) (hagg : (isAggT P t0 && aggOk P t0) = true)
    (he : eqV P 40 t0 (gx.g t) (gy.g t) = some r0) : ∃ c, cOper P k n o = .sil c ∧ ∀ K', c.m t K' = K' (.bool r0) := by
  have hcop : cOper P k n o = oBinA P .eql t0 X Y gx gy := by
    unfold cOper
    rw [hop]
    dsimp only
    rw [hx, hy]
  have hb : oBin P .eql t0 X Y gx gy = gBin P .eql t0 X Y gx gy := by
    unfold oBin
    have h1 := (and_true hagg).1
    unfold isAggT at h1
    split at h1
    · rename_i fs hu; rw [hu]
    · rename_i m e hu; rw [hu]
    · cases h1
  rw [hcop]
  unfold oBinA
  rw [hb]
  unfold gBin
  dsimp only
  rw [(and_true hagg).1]
  refine ⟨_, rfl, fun K' => ?_⟩
  simp only [(and_true hagg).2, cond_true, he]
theorem step_eqAgg {p : SW Value k} {t0 u : TypeId} {X Y : Operand} {gx gy : GW Value k} {r0 : Bool} (hp : cPut k n o.dst = some p) (hg : cGuard k n all o.guard = some none) (hop : o.op = .binOp .eql t0 X Y u) (hx : cEv k n X = some gx) (hy : cEv k n Y = some gy)
    (hagg : (isAggT P t0 && aggOk P t0) = true) (he : eqV P 40 t0 (gx.g t) (gy.g t) = some r0) (h : (cOps P k n all os).run call K (p.s (.bool r0) t) s = r) : (cOps P k n all (o :: os)).run call K t s = r := by
  obtain ⟨c, hc, hv⟩ := eqAgg (t := t) hop hx hy hagg he
  exact step_sil hp hg hc hv h
theorem step_eqAgg_yes {p : SW Value k} {t0 u : TypeId} {X Y : Operand} {gx gy : GW Value k} {r0 : Bool} {g : GW Value k} {want : Bool} (hp : cPut k n o.dst = some p) (hg : cGuard k n all o.guard = some (some (g, want))) (hch : isCh (g.g t) = false) (hb : isB want (g.g t) = true)
    (hop : o.op = .binOp .eql t0 X Y u) (hx : cEv k n X = some gx) (hy : cEv k n Y = some gy) (hagg : (isAggT P t0 && aggOk P t0) = true) (he : eqV P 40 t0 (gx.g t) (gy.g t) = some r0)
    (h : (cOps P k n all os).run call K (p.s (.bool r0) t) s = r) : (cOps P k n all (o :: os)).run call K t s = r := by
  obtain ⟨c, hc, hv⟩ := eqAgg (t := t) hop hx hy hagg he
  exact step_yes hp hg hch hb hc hv h
end
end Go.Ab
