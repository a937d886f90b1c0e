/- Code as a whole; functions; rounds; calls. -/
import Derived.Test.YtogncjicndbahaaEngS
namespace Go.Ab
variable {P : Program} {F : Nat}

theorem cCode_ok (hd : DrawH P) (k n : Nat) : ∀ (d : Nat) (c : Code), CloOK P k n (cCode P F k n d c) c
  | 0, _ => fun _ _ _ _ _ _ _ h => by cases h
  | d + 1, c => by
    cases c with
    | skip => exact fun _ _ _ _ _ _ _ h ρ A W har hsr hmr _ _ _ _ hK => wpIn_skip ((hK ρ _ A _ W _ (.refl hsr) har hmr).1 h)
    | label l => exact fun _ _ _ _ _ _ _ h ρ A W har hsr hmr _ _ _ _ hK => wpIn_label ((hK ρ _ A _ W _ (.refl hsr) har hmr).1 h)
    | seq x y => exact clo_seq (cCode_ok hd k n d x) (cCode_ok hd k n d y)
    | cond x p q =>
      unfold cCode
      cases hx : cEv k n x with
      | none => simp only [hx]; exact fun _ _ _ _ _ _ _ h => by cases h
      | some g => simp only [hx]; exact clo_cond hx (cCode_ok hd k n d p) (cCode_ok hd k n d q)
    | block id x => exact clo_block (cCode_ok hd k n d x)
    | loop x => exact clo_loop (cCode_ok hd k n d x)
    | exit id => exact fun _ _ _ _ _ _ _ h ρ A W har hsr hmr _ _ _ _ hK => wpIn_exit ((hK ρ _ A _ W _ (.refl hsr) har hmr).2 (.exit id) h)
    | goto l => exact fun _ _ _ _ _ _ _ h ρ A W har hsr hmr _ _ _ _ hK => wpIn_goto ((hK ρ _ A _ W _ (.refl hsr) har hmr).2 (.goto l) h)
    | ret => exact fun _ _ _ _ _ _ _ h ρ A W har hsr hmr _ _ _ _ hK => wpIn_ret ((hK ρ _ A _ W _ (.refl hsr) har hmr).2 .ret h)
    | region id ops draw => exact clo_region hd id ops draw
    | scope x => exact clo_scope (f := cCode P F k n d) (cCode_ok hd k n d x) (cCode_ok hd k n d)
    | rangeFunc g ps asg body =>
      unfold cCode
      cases hg : cEv k n g with
      | none => simp only [hg]; exact fun _ _ _ _ _ _ _ h => by cases h
      | some gg => simp only [hg]; exact clo_range hg
    | refuse _ => exact fun _ _ _ _ _ _ _ h => by cases h

/-! ### Functions -/
def NameH (P : Program) : Prop := ∀ (f : FuncId) (fn : Func), P.funcs[f]? = some fn → fn.name ≠ "runtime.NumGoroutine"
theorem takeDeferred_run {W : World} {B : Nat} (h : W.heap[B]? = some (.deferred (some []))) : (Instr.takeDeferred B).run P W = .ok [] (World.putO W B (.deferred none)) := by
  simp only [Instr.takeDeferred, Sem.run_bind, getObj_run h (by intro c e f h; cases h), Result.andThen_ok, setObj_run h (by intro c e f h; cases h), Sem.run_pure]
theorem takeMarks_ok {fn : Func} {R : Ending → World → Prop} {tmps : Array Value} {r : Option Nat} {m0 : Nat} : ∀ {m : List Nat} {s : St} {K : St → Bool}, takeMarks m s K = true → ∀ {ρ0 ρ : Ren} {s0 : St} {W0 W : World} {D : List Deferred}, MR ρ m D → Stp P ρ0 s0 W0 ρ s W →
    (∀ s' W', Stp P ρ0 s0 W0 ρ s' W' → K s' = true → LeavesInM (WF r) m0 P fn tmps R [] .returning W') → LeavesInM (WF r) m0 P fn tmps R D .returning W
  | [], s, K, h, ρ0, ρ, s0, W0, W, _, .nil, hst, hK => hK s W hst h
  | b :: bs, s, K, h, ρ0, ρ, s0, W0, W, _, .cons (r := x) hx hs, hst, hK => by
    simp only [takeMarks] at h
    cases hb : s.at b with
    | none => rw [hb] at h; cases h
    | some o =>
      rw [hb] at h
      cases o with
      | cells _ _ _ _ _ => cases h
      | loop _ _ _ _ _ _ _ _ _ => cases h
      | map _ _ => cases h
      | mit _ _ _ _ => cases h
      | sit _ _ => cases h
      | dfr =>
        dsimp only at h
        obtain ⟨hok, h⟩ := cond_inv h
        obtain ⟨x', O, h1, h2, h3, h4⟩ := hst.sr.obj b _ hb
        rw [hx] at h1; cases h1
        subst h4
        have hW' := Stp.free (W' := World.putO W x.blk (.deferred none)) hst.sr hb (fix_of rfl hok) hx rfl rfl rfl (putO_size _ _ _) (fun B hB => putO_other hB)
        exact ⟨by simp, .inl ⟨x.blk, _, rfl, takeDeferred_run h2, takeMarks_ok h hs (hst.trans hW') hK⟩⟩
theorem asAddr_run {a : Addr} (W : World) : (Go.asAddr (.pointer (some a))).run P W = .ok a W := rfl
def resS (tmps : Array Value) : ResultVar → Sem Value
  | .tmp t => pure (tmps.getD t undef)
  | .cell a t => do loadVar t (← Go.asAddr (tmps.getD a undef))
theorem results_eq (fn : Func) (tmps : Array Value) : results fn tmps = (do let vs ← fn.results.mapM (resS tmps); pure (if h : vs.size = 1 then vs[0] else .tuple vs)) := by
  have e1 : ∀ x, resS tmps x = (match x with | .tmp t => pure (tmps.getD t undef) | .cell a t => do loadVar t (← Go.asAddr (tmps.getD a undef))) := fun x => by cases x <;> rfl
  have e2 : resS tmps = fun x => (match x with | .tmp t => pure (tmps.getD t undef) | .cell a t => do loadVar t (← Go.asAddr (tmps.getD a undef))) := funext e1
  rw [e2]
  rfl
theorem cRes_ok {k n : Nat} : ∀ {rs : List ResultVar} {t : Fm Value k} {s : St} {K : List Value → Bool}, (cRes P k n rs).r t s K = true → ∃ l, K l = true ∧ l.length = rs.length ∧ ∀ ρ A W, AR ρ k n t A → SR P ρ s W →
    ∃ L, (rs.mapM (resS A.tmps)).run P W = .ok L W ∧ VsR ρ l L
  | [], t, s, K, h => ⟨[], h, rfl, fun ρ A W _ _ => ⟨[], rfl, .nil⟩⟩
  | .tmp d :: rs, t, s, K, h => by
    simp only [cRes] at h
    cases hd : Nat.blt d n with
    | false => rw [hd] at h; cases h
    | true =>
      rw [hd] at h
      obtain ⟨l, hl, hlen, hrun⟩ := cRes_ok h
      refine ⟨_, hl, by simp [hlen], fun ρ A W har hsr => ?_⟩
      obtain ⟨L, h1, h2⟩ := hrun ρ A W har hsr
      refine ⟨A.tmps.getD d undef :: L, ?_, .cons (har.slot d (blt_true hd)) h2⟩
      simp only [List.mapM_cons, Sem.run_bind, Sem.run_pure, Result.andThen_ok, h1, resS]
  | .cell d ty :: rs, t, s, K, h => by
    simp only [cRes] at h
    cases hd : Nat.blt d n with
    | false => rw [hd] at h; cases h
    | true =>
      rw [hd] at h
      simp only [cond_true] at h
      have hev : cEv k n (.tmp d) = some (getW k d) := by simp [cEv, hd]
      cases ho : oLoad P ty (getW k d) with
      | rd o =>
        rw [ho] at h
        let op : Oper := { dst := none, op := .load ty (.tmp d), type := 0, pos := "", after := #[], guard := none }
        obtain ⟨v, h, hrun⟩ := rd_load (P := P) (o := op) rfl hev ho _ _ _ h
        obtain ⟨l, hl, hlen, hrun2⟩ := cRes_ok h
        refine ⟨_, hl, by simp [hlen], fun ρ A W har hsr => ?_⟩
        obtain ⟨L, h1, h2⟩ := hrun2 ρ A W har hsr
        obtain ⟨V, hV, hex⟩ := hrun ρ A W (har.er op) hsr
        refine ⟨V :: L, ?_, .cons hV h2⟩
        have hex : (Instr.loadAt ty (A.tmps.getD d undef)).run P W = .ok V W := by
          have : (do pure (.value (← Instr.loadAt ty (A.tmps.getD d undef))) : Sem Next).run P W = .ok (.value V) W := hex
          rw [Sem.run_bind] at this
          cases hr : (Instr.loadAt ty (A.tmps.getD d undef)).run P W with
          | halt x w => rw [hr] at this; cases this
          | ok y w => rw [hr] at this; simp only [Result.andThen_ok, Sem.run_pure, Result.ok.injEq, Next.value.injEq] at this; rw [this.1, this.2]
        have hslot := har.slot d (blt_true hd)
        have hptr : ∃ a, A.tmps.getD d undef = .pointer (some a) := by
          cases hX : A.tmps.getD d undef with
          | pointer a => cases a with
            | some a => exact ⟨a, rfl⟩
            | none => rw [hX] at hex; cases hex
          | _ => rw [hX] at hex; cases hex
        obtain ⟨a, ha⟩ := hptr
        rw [ha] at hex
        have hlv : (loadVar ty a).run P W = .ok V W := hex
        simp only [List.mapM_cons, Sem.run_bind, ha, asAddr_run, Result.andThen_ok, hlv, h1, Sem.run_pure, resS]
      | _ => rw [ho] at h; cases h
def pack : List Value → Value
  | [v] => v
  | l => .tuple ⟨l⟩
theorem results_run {fn : Func} {tmps : Array Value} {L : List Value} {W : World} (h : (fn.results.toList.mapM (resS tmps)).run P W = .ok L W) : (results fn tmps).run P W = .ok (pack L) W := by
  rw [results_eq, Array.mapM_eq_mapM_toList, Sem.run_bind, Sem.run_map, h]
  simp only [Result.andThen_ok, Sem.run_pure]
  congr 1
  match L with
  | [] => rfl
  | [v] => rfl
  | v :: w :: l => rw [dif_neg (by simp)]; rfl
theorem pack_VR {ρ : Ren} {l L : List Value} (h : VsR ρ l L) : VR ρ (pack l) (pack L) := by
  cases h with
  | nil => exact .tuple .nil
  | cons h1 h2 => cases h2 with
    | nil => exact h1
    | cons h3 h4 => exact .tuple (.cons h1 (.cons h3 h4))
theorem retK_ok {k n : Nat} {fn : Func} {K : KV} {m : List Nat} {t : Fm Value k} {s : St} (h : retK (cRes P k n fn.results.toList) K m t s = true) {ρ0 ρ : Ren} {s0 : St} {W0 W : World} {A : Act} (hst : Stp P ρ0 s0 W0 ρ s W) (har : AR ρ k n t A) (hmr : MR ρ m A.defers)
    {r : Option Nat} {m0 : Nat} : LeavesInM (WF r) m0 P fn A.tmps (fun e W' => ∃ X, e = .returned X ∧ Post P ρ0 s0 W0 K X W') A.defers .returning W := by
  refine takeMarks_ok h hmr hst fun s' W' hst' hk => ?_
  obtain ⟨l, hl, _, hrun⟩ := cRes_ok hk
  obtain ⟨L, h1, h2⟩ := hrun ρ A W' har hst'.sr
  refine ⟨pack L, results_run h1, pack L, rfl, ρ, pack l, s', hst', pack_VR h2, ?_⟩
  match l with
  | [] => exact hl
  | [v] => exact hl
  | v :: w :: l => exact hl
theorem getD_append_replicate (as : List Value) (m i : Nat) : (as.toArray ++ Array.replicate m undef).getD i undef = as.getD i undef := by
  simp only [Array.getD_eq_getD_getElem?, List.getD_eq_getElem?_getD, Array.getElem?_append, List.size_toArray, List.getElem?_toArray]
  by_cases h : i < as.length
  · rw [if_pos h]
  · rw [if_neg h, List.getElem?_eq_none (by omega)]
    simp only [Array.getElem?_replicate]
    split <;> rfl
theorem cFun_ok (hd : DrawH P) {f : FuncId} {call : CallT} (hcall : CallOK P call) {args : List Value} {K : KV} {s : St} (h : (cFun P F f).run call args K s = true) {ρ : Ren} {Args : List Value} {W : World} (ha : VsR ρ args Args) (hsr : SR P ρ s W) :
    (∃ fn, P.funcs[f]? = some fn ∧ fn.body.isNone = false) ∧ ∀ r m, CallsIn (WF r) m P f ⟨Args⟩ W fun e W' => ∃ X, e = .returned X ∧ Post P ρ s W K X W' := by
  unfold cFun at h
  cases hf : P.funcs[f]? with
  | none => simp only [hf] at h; cases h
  | some fn =>
  cases hb : fn.body with
  | none => simp only [hf, hb] at h; cases h
  | some c =>
  simp only [hf, hb] at h
  refine ⟨⟨fn, rfl, by rw [hb]; rfl⟩, fun r m => ?_⟩
  cases hn : Nat.ble fn.ntmps 32768 with
  | false => rw [hn] at h; cases h
  | true =>
  rw [hn] at h
  simp only [cond_true] at h
  have hn := ble_true hn
  obtain ⟨hlen, h⟩ := cond_inv h
  have hlen := ble_true hlen
  have hle := le_lvl fn.ntmps hn
  have hal := ha.length
  show CallsIn (WF none) m P f ⟨Args⟩ W _
  refine callsIn_of_wp_marks hf hb trivial ?_
  have har : AR ρ (lvl fn.ntmps) fn.ntmps (puts (lvl fn.ntmps) 0 args (ini undef (lvl fn.ntmps))) { tmps := (⟨Args⟩ : Array Value) ++ Array.replicate (fn.ntmps - (⟨Args⟩ : Array Value).size) undef, defers := [] } := by
    refine ⟨by simp; omega, hle, fun i hi => ?_⟩
    rw [puts_get _ args 0 i _ (by omega) (by omega), get_ini]
    have e1 : ((⟨Args⟩ : Array Value) ++ Array.replicate (fn.ntmps - (⟨Args⟩ : Array Value).size) undef).getD i undef = Args.getD i undef := getD_append_replicate Args _ i
    show VR ρ _ (((⟨Args⟩ : Array Value) ++ Array.replicate (fn.ntmps - (⟨Args⟩ : Array Value).size) undef).getD i undef)
    rw [e1]
    by_cases hia : 0 ≤ i ∧ i < 0 + args.length
    · rw [if_pos hia]
      have hil : i < args.length := by omega
      obtain ⟨V, h1, h2⟩ := ha.get (List.getElem?_eq_getElem hil)
      rw [Nat.sub_zero, List.getD_eq_getElem?_getD, List.getD_eq_getElem?_getD, h1, List.getElem?_eq_getElem hil]
      exact h2
    · rw [if_neg hia, List.getD_eq_getElem?_getD, List.getElem?_eq_none (by omega)]
      exact VR.undef ρ
  refine cCode_ok hd _ _ 10000 c call hcall none _ [] _ s h ρ _ W har hsr .nil none (.inl ⟨rfl, rfl⟩) m _ fun ρ' t' A' s' W' m' h1 h2 h3 => ⟨fun hk => retK_ok hk h1 h2 h3, fun e hk => ?_⟩
  cases e with
  | exit id => cases hk
  | goto l => cases hk
  | ret => exact retK_ok hk h1 h2 h3
end Go.Ab
