/- All operations; rows of operations in the text's order. -/
import Derived.Test.YtogncjicndbahaaEngNd
namespace Go.Ab
variable {P : Program} {k n : Nat}

theorem OpOK.of_sil {o : Oper} {c : OpC k} (h : ∀ d, c = .sil d → SilOK P k n d o) (h2 : ∀ d, c = .rd d → RdOK P k n d o) (h3 : ∀ d, c = .al d → AlOK P k n d o) (h4 : ∀ d, c = .eff d → EffOK P k n d o) : OpOK P k n o c := by
  cases c with
  | sil d => exact h d rfl
  | rd d => exact h2 d rfl
  | al d => exact h3 d rfl
  | eff d => exact h4 d rfl
  | bad => trivial
theorem eff_invoke {o : Oper} {c : Call} {x : Operand} {name : String} {g : GW Value k} {gs : List (GW Value k)} (ho : o.op = .call c) (hb : c.callee = .invoke x name) (hx : cEv k n x = some g) (hg : cEvs k n c.args.toList = some gs) :
    EffOK P k n ⟨fun call f s K => match g.g f with
        | .iface t v => match methDirect P t name with
          | some h => call (.func (.func h) ⟨[]⟩ ⟨[]⟩) (v :: evAll f gs) K s
          | none => false
        | _ => false⟩ o := by
  intro call hcall f s K h ρ A W he hsr r m next Q hnext
  dsimp only at h
  have hops : o.op.operands = #[x] ++ c.args := by rw [ho]; simp only [Op.operands, Call.operands, hb]
  have h1 := er1 he hx (by rw [hops]; simp)
  have h2 := ers he hg (fun y hy => by rw [hops, Array.mem_append]; right; rw [← Array.mem_toList_iff]; exact hy)
  cases hv : g.g f with
  | iface t v =>
    simp only [hv] at h
    cases hm : methDirect P t name with
    | none => simp [hm] at h
    | some fid =>
      simp only [hm] at h
      rw [hv] at h1
      generalize hX : A.eval x = X at h1
      cases h1 with
      | iface _ hV =>
        rename_i V
        obtain ⟨d, hd, hrest⟩ := hcall _ _ _ _ h ρ (.func (.func fid) #[] #[]) (V :: c.args.toList.map A.eval) W (.func (fn := .func fid) rfl .nil .nil) (.cons hV h2) hsr
        have hd' : d = { target := .fn (.func fid) #[], args := #[] ++ (⟨V :: c.args.toList.map A.eval⟩ : Array Value) } := by
          have : (Result.ok ({ target := Target.fn (.func fid) #[], args := #[] ++ (⟨V :: c.args.toList.map A.eval⟩ : Array Value) } : Deferred) W : Result Deferred) = Result.ok d W := hd
          injection this with this _
          exact this.symm
        subst hd'
        have e1 : c.args.map A.eval = ⟨c.args.toList.map A.eval⟩ := by apply Array.ext'; simp
        have hdp : 0 < Made.depth := by decide
        have hdep : P.types.size + Made.depth = (P.types.size + Made.depth - 1) + 1 := by omega
        have hinv : (invoke (.fn (.method name) #[]) (#[A.eval x] ++ c.args.map A.eval)).run P W = (invoke (.fn (.func fid) #[]) (#[] ++ (⟨V :: c.args.toList.map A.eval⟩ : Array Value))).run P W := by
          rw [hX, e1]
          have e2 : ((#[Value.iface t V] : Array Value) ++ (⟨c.args.toList.map A.eval⟩ : Array Value)).extract 1 ((#[Value.iface t V] : Array Value) ++ (⟨c.args.toList.map A.eval⟩ : Array Value)).size = ⟨c.args.toList.map A.eval⟩ := by
            apply Array.ext'; simp
            exact List.take_of_length_le (by simp)
          have e3 : ((#[Value.iface t V] : Array Value) ++ (⟨c.args.toList.map A.eval⟩ : Array Value))[0]? = some (.iface t V) := by simp
          have e4 : (#[] ++ (⟨V :: c.args.toList.map A.eval⟩ : Array Value)) ++ (#[] : Array Value) = #[V] ++ (⟨c.args.toList.map A.eval⟩ : Array Value) := by apply Array.ext'; simp
          simp only [invoke, e3, e2, e4, callMethod, Sem.run_bind, run_program, Result.andThen_ok]
          rw [hdep, methDirect_run hm]
          simp only [Result.andThen_ok]
        have hsem : ∀ nx, (invoke (.fn (.func fid) #[]) (#[] ++ (⟨V :: c.args.toList.map A.eval⟩ : Array Value))).run P W = .ok nx W → (o.semAt (WF r).round A.eval).run P W = .ok nx W := fun nx hnx => by
          rw [Oper.semAt_eq _ _ _ (by rw [ho]; simp)]
          simp only [execOp, ho, resolve, hb, Sem.run_bind, Sem.run_pure, Result.andThen_ok]
          exact hinv.trans hnx
        refine ⟨fun _ _ => True.intro, ?_⟩
        rcases hrest with ⟨g', as, hinv', hc⟩ | ⟨hno, _⟩
        · rw [hsem _ hinv']
          refine ⟨(fun h => by cases h), (hc r (m - 1)).mono fun e W' hP => ?_⟩
          obtain ⟨X, rfl, ρ', v, s', h3, h4, h5⟩ := hP
          exact hnext ρ' v X s' W' h3 h4 h5
        · cases hno
  | _ => simp [hv] at h
theorem cOper_ok (o : Oper) : OpOK P k n o (cOper P k n o) := by
  unfold cOper
  cases ho : o.op with
  | move x => simp only; cases hx : cEv k n x with
    | none => exact True.intro
    | some g => exact sil_move (.inl ho) hx
  | assign x => simp only; cases hx : cEv k n x with
    | none => exact True.intro
    | some g => exact sil_move (.inr ho) hx
  | pick c x y => simp only; cases hc : cEv k n c with
    | none => exact True.intro
    | some gc => cases hx : cEv k n x with
      | none => exact True.intro
      | some gx => cases hy : cEv k n y with
        | none => exact True.intro
        | some gy => exact sil_pick ho hc hx hy
  | alloc e => simp only; exact OpOK.of_sil (fun d h => by unfold oAlloc at h; split at h <;> cases h) (fun d h => by unfold oAlloc at h; split at h <;> cases h) (fun d h => al_alloc ho h) (fun d h => by unfold oAlloc at h; split at h <;> cases h)
  | box e x => simp only; cases hx : cEv k n x with
    | none => exact True.intro
    | some g => exact OpOK.of_sil (fun d h => by cases h) (fun d h => by cases h) (fun d h => al_box ho hx h) (fun d h => by cases h)
  | build t ps => simp only; cases hp : cParts k n ps.toList with
    | none => exact True.intro
    | some l =>
      refine OpOK.of_sil (fun d h => sil_build ho hp h) ?_ ?_ ?_ <;> (intro d h; exfalso; simp only at h; unfold oBuild at h; (repeat' split at h) <;> cases h)
  | buildSlice t len ps => simp only; cases hp : cParts k n ps.toList with
    | none => exact True.intro
    | some l =>
      refine OpOK.of_sil ?_ ?_ (fun d h => al_buildSlice ho hp h) ?_ <;> (intro d h; exfalso; simp only at h; unfold oBuildSlice at h; (repeat' split at h) <;> (try simp only [cond_eq_ite] at h) <;> (repeat' split at h) <;> cases h)
  | load t x => simp only; cases hx : cEv k n x with
    | none => exact True.intro
    | some g =>
      refine OpOK.of_sil ?_ (fun d h => rd_load ho hx h) ?_ ?_ <;> (intro d h; exfalso; simp only at h; unfold oLoad at h; (repeat' split at h) <;> (try simp only [cond_eq_ite] at h) <;> (repeat' split at h) <;> cases h)
  | store t x y => simp only; cases hx : cEv k n x with
    | none => exact True.intro
    | some g => cases hy : cEv k n y with
      | none => exact True.intro
      | some g' =>
        refine OpOK.of_sil ?_ ?_ ?_ (fun d h => eff_store ho hx hy h) <;> (intro d h; exfalso; simp only at h; unfold oStore at h; (repeat' split at h) <;> cases h)
  | nilCheck x => simp only; cases hx : cEv k n x with
    | none => exact True.intro
    | some g => exact sil_nilCheck ho hx
  | binOp op t x y u => simp only; cases hx : cEv k n x with
    | none => exact True.intro
    | some g => cases hy : cEv k n y with
      | none => exact True.intro
      | some g' =>
        obtain ⟨c, hc, h⟩ := sil_binA (P := P) ho hx hy
        simp only [hc]; exact h
  | unOp op t x => simp only; cases hx : cEv k n x with
    | none => exact True.intro
    | some g =>
      have mx : x ∈ o.op.operands := by rw [ho]; simp [Op.operands]
      cases op with
      | not => exact sil_unNot ho hx
      | neg => exact sil_un (F := Op.unary .neg) mx (fun A => by simp only [execOp, ho]) hx
      | xor => exact sil_un (F := Op.unary .xor) mx (fun A => by simp only [execOp, ho]) hx
      | plus => exact sil_un (F := Op.unary .plus) mx (fun A => by simp only [execOp, ho]) hx
  | convert t u x => simp only; cases hx : cEv k n x with
    | none => exact True.intro
    | some g =>
      have mx : x ∈ o.op.operands := by rw [ho]; simp [Op.operands]
      simp only
      split
      · rename_i i j ht hu; exact sil_convInt ho hx ht hu
      · rename_i e ht hu
        split
        · rename_i he8
          exact OpOK.of_sil (fun d h => by unfold oBytesStr at h; cases h) (fun d h => rd_bytesStr ho hx ht hu he8 h) (fun d h => by unfold oBytesStr at h; cases h) (fun d h => by unfold oBytesStr at h; cases h)
        · exact True.intro
      · exact sil_un (F := convert t u) mx (fun A => by simp only [execOp, ho]) hx
  | makeFunc fn a c =>
    simp only
    split
    · rename_i g fs cs _ ha hc; exact sil_makeFunc ho ha hc
    · exact True.intro
  | makeSlice t l c => simp only; cases hx : cEv k n l with
    | none => exact True.intro
    | some g => cases hy : cEv k n c with
      | none => exact True.intro
      | some g' =>
        refine OpOK.of_sil ?_ ?_ (fun d h => al_makeSlice ho hx hy h) ?_ <;> (intro d h; exfalso; simp only at h; unfold oMakeSlice at h; (repeat' split at h) <;> (try simp only [cond_eq_ite] at h) <;> (repeat' split at h) <;> cases h)
  | slice t x lo hi mx => simp only; cases hx : cEv k n x with
    | none => exact True.intro
    | some g => cases hlo : cOpt k n lo with
      | none => exact True.intro
      | some l => cases hhi : cOpt k n hi with
        | none => exact True.intro
        | some h => cases hmx : cOpt k n mx with
          | none => exact True.intro
          | some m =>
            refine OpOK.of_sil (fun d hd => sil_sliceStr ho hx hlo hhi hmx hd) (fun d hd => rd_slice ho hx hlo hhi hmx hd) ?_ ?_ <;> (intro d h; exfalso; simp only at h; unfold oSlice at h; simp only [cond_eq_ite] at h; (repeat' split at h) <;> cases h)
  | fieldAddr t x i => simp only; cases hx : cEv k n x with
    | none => exact True.intro
    | some g =>
      refine OpOK.of_sil (fun d h => sil_fieldAddr ho hx h) ?_ ?_ ?_ <;> (intro d h; exfalso; simp only at h; unfold oFieldAddr at h; (repeat' split at h) <;> (try simp only [cond_eq_ite] at h) <;> (repeat' split at h) <;> cases h)
  | field t x i => simp only; cases hx : cEv k n x with
    | none => exact True.intro
    | some g =>
      refine OpOK.of_sil (fun d h => sil_field ho hx h) ?_ ?_ ?_ <;> (intro d h; exfalso; simp only at h; unfold oField at h; (repeat' split at h) <;> cases h)
  | indexAddr t x i => simp only; cases hx : cEv k n x with
    | none => exact True.intro
    | some g => cases hi : cEv k n i with
      | none => exact True.intro
      | some g' =>
        refine OpOK.of_sil (fun d h => sil_indexAddr ho hx hi h) ?_ ?_ ?_ <;> (intro d h; exfalso; simp only at h; unfold oIndexAddr at h; (repeat' split at h) <;> cases h)
  | index t x i => simp only; cases hx : cEv k n x with
    | none => exact True.intro
    | some g => cases hi : cEv k n i with
      | none => exact True.intro
      | some g' =>
        refine OpOK.of_sil (fun d h => sil_index ho hx hi h) ?_ ?_ ?_ <;> (intro d h; exfalso; simp only at h; unfold oIndex at h; (repeat' split at h) <;> cases h)
  | extract x i => simp only; cases hx : cEv k n x with
    | none => exact True.intro
    | some g => exact sil_extract ho hx
  | call c =>
    simp only
    cases hb : c.callee with
    | value x =>
      simp only
      cases hx : cEv k n x with
      | none => exact True.intro
      | some g => cases hg : cEvs k n c.args.toList with
        | none => exact True.intro
        | some gs =>
          intro call hcall f s K h ρ A W he hsr r m next Q hnext
          have hops : o.op.operands = #[x] ++ c.args := by rw [ho]; simp only [Op.operands, Call.operands, hb]
          have h1 := er1 he hx (by rw [hops]; simp)
          have h2 := ers he hg (fun y hy => by rw [hops, Array.mem_append]; right; rw [← Array.mem_toList_iff]; exact hy)
          obtain ⟨d, hd, hrest⟩ := hcall _ _ _ _ h ρ _ _ W h1 h2 hsr
          have e1 : c.args.map A.eval = ⟨c.args.toList.map A.eval⟩ := by apply Array.ext'; simp
          have hsem : ∀ nx, (invoke d.target d.args).run P W = .ok nx W → (o.semAt (WF r).round A.eval).run P W = .ok nx W := fun nx hnx => by
            rw [Oper.semAt_eq _ _ _ (by rw [ho]; simp)]
            simp only [execOp, ho, resolve, hb]
            rw [Sem.run_bind, e1, hd]; exact hnx
          refine ⟨fun _ _ => True.intro, ?_⟩
          rcases hrest with ⟨g', as, hinv, hc⟩ | ⟨_, l, fn, tmps, asg, body, hinv, hc⟩
          · rw [hsem _ hinv]
            refine ⟨(fun h => by cases h), (hc r (m - 1)).mono fun e W' hP => ?_⟩
            obtain ⟨X, rfl, ρ', v, s', h3, h4, h5⟩ := hP
            exact hnext ρ' v X s' W' h3 h4 h5
          · rw [hsem _ hinv]
            refine ⟨(fun h => by cases h), (hc r (m - 1)).mono fun e W' hP => ?_⟩
            obtain ⟨X, rfl, ρ', v, s', h3, h4, h5⟩ := hP
            exact hnext ρ' v X s' W' h3 h4 h5
    | builtin b => exact cBuiltinM_ok ho hb
    | invoke x name =>
      simp only
      cases hx : cEv k n x with
      | none => exact True.intro
      | some g => cases hg : cEvs k n c.args.toList with
        | none => exact True.intro
        | some gs => exact eff_invoke ho hb hx hg
  | makeInterface t x => simp only; cases hx : cEv k n x with
    | none => exact True.intro
    | some g =>
      refine OpOK.of_sil (fun d h => sil_makeIface ho hx h) ?_ ?_ ?_ <;> (intro d h; exfalso; simp only at h; unfold oMakeIface at h; (repeat' split at h) <;> (try simp only [cond_eq_ite] at h) <;> (repeat' split at h) <;> cases h)
  | typeAssert x t a ok => simp only; cases hx : cEv k n x with
    | none => exact True.intro
    | some g =>
      refine OpOK.of_sil (fun d h => sil_assert ho hx h) ?_ ?_ ?_ <;> (intro d h; exfalso; simp only at h; unfold oAssert at h; (repeat' split at h) <;> (try simp only [cond_eq_ite] at h) <;> (repeat' split at h) <;> cases h)
  | makeMap t r => simp only; cases hr : cOpt k n r with
    | none => exact True.intro
    | some g => exact cMap_ok (by rw [ho]; exact ⟨g, hr, rfl⟩)
  | lookup t x i ok => simp only; cases hx : cEv k n x with
    | none => exact True.intro
    | some g => cases hi : cEv k n i with
      | none => exact True.intro
      | some g' => exact cMap_ok (by rw [ho]; exact ⟨g, g', hx, hi, rfl⟩)
  | mapUpdate t x i v => simp only; cases hx : cEv k n x with
    | none => exact True.intro
    | some g => cases hi : cEv k n i with
      | none => exact True.intro
      | some g' => cases hv : cEv k n v with
        | none => exact True.intro
        | some w => exact cMap_ok (by rw [ho]; exact ⟨g, g', w, hx, hi, hv, rfl⟩)
  | insert t x i v => simp only; cases hx : cEv k n x with
    | none => exact True.intro
    | some g => cases hi : cEv k n i with
      | none => exact True.intro
      | some g' => cases hv : cEv k n v with
        | none => exact True.intro
        | some w => exact cMap_ok (by rw [ho]; exact ⟨g, g', w, hx, hi, hv, rfl⟩)
  | mapEntry t x i => simp only; cases hx : cEv k n x with
    | none => exact True.intro
    | some g => cases hi : cEv k n i with
      | none => exact True.intro
      | some g' => exact cMap_ok (by rw [ho]; exact ⟨g, g', hx, hi, rfl⟩)
  | entryStore t x i v => simp only; cases hx : cEv k n x with
    | none => exact True.intro
    | some g => cases hi : cEv k n i with
      | none => exact True.intro
      | some g' => cases hv : cEv k n v with
        | none => exact True.intro
        | some w => exact cMap_ok (by rw [ho]; exact ⟨g, g', w, hx, hi, hv, rfl⟩)
  | range t x => simp only; cases hx : cEv k n x with
    | none => exact True.intro
    | some g => exact cMap_ok (by rw [ho]; exact ⟨g, hx, rfl⟩)
  | next x str => simp only; cases hx : cEv k n x with
    | none => exact True.intro
    | some g => exact cMap_ok (by rw [ho]; exact ⟨g, hx, rfl⟩)
  | entry x => simp only; cases hx : cEv k n x with
    | none => exact True.intro
    | some g => exact cMap_ok (by rw [ho]; exact ⟨g, hx, rfl⟩)
  | _ => exact True.intro

/-! ### Rows of operations, in the text's order -/
def OpsOK (P : Program) (k n : Nat) (ops : Array Oper) (l : List Nat) (c : OpsC k) : Prop :=
  ∀ call, CallOK P call → ∀ K t s, c.run call K t s = true → ∀ ρ A W, AR ρ k n t A → SR P ρ s W → ∀ r m (Q : Exit → Act → World → Prop),
    (∀ ρ' t' A' s' W', Stp P ρ s W ρ' s' W' → AR ρ' k n t' A' → A'.defers = A.defers → K t' s' = true → Q .normal A' W') → wpOpsIn (WF r) m P ops Q l A W
theorem put_defers (A : Act) (d : Option Tmp) (v : Value) : (A.put d v).defers = A.defers := by cases d <;> rfl
theorem oneOp_ok {o : Oper} {ops : Array Oper} {l : List Nat} {r : OpsC k} {p : SW Value k} (hp : cPut k n o.dst = some p) (hr : OpsOK P k n ops l r) {call : CallT} (hcall : CallOK P call) {K : Fm Value k → St → Bool} {t : Fm Value k} {s : St}
    {c : OpC k} (hok : OpOK P k n o c) (h : oneOp c r p call K t s = true) {ρ : Ren} {A : Act} {W : World} (har : AR ρ k n t A) (hsr : SR P ρ s W) {r0 : Option Nat} {m : Nat} {Q : Exit → Act → World → Prop} (hnd : ∀ c, o.op ≠ .defer c)
    (hQ : ∀ ρ' t' A' s' W', Stp P ρ s W ρ' s' W' → AR ρ' k n t' A' → A'.defers = A.defers → K t' s' = true → Q .normal A' W') : o.wpIn (WF r0) m P A W (wpOpsIn (WF r0) m P ops Q l) Q := by
  have go : ∀ ρ' v V s' W', Stp P ρ s W ρ' s' W' → VR ρ' v V → r.run call K (p.s v t) s' = true → wpOpsIn (WF r0) m P ops Q l (A.put o.dst V) W' := fun ρ' v V s' W' hstp hv hrun =>
    hr call hcall K _ _ hrun ρ' _ W' ((har.mono hstp.ext).put hp hv) hstp.sr r0 m Q fun ρ2 t2 A2 s2 W2 h2 ha2 hd2 hk => hQ ρ2 t2 A2 s2 W2 (hstp.trans h2) ha2 (hd2.trans (put_defers _ _ _)) hk
  cases c with
  | sil c =>
    obtain ⟨v, hv, hrun⟩ := hok _ _ h
    obtain ⟨V, hV, hex⟩ := hrun ρ A (har.er o)
    exact wpIn_value hnd (hex W) (go ρ v V s W (.refl hsr) hV hv)
  | rd c =>
    obtain ⟨v, hv, hrun⟩ := hok _ _ _ h
    obtain ⟨V, hV, hex⟩ := hrun ρ A W (har.er o) hsr
    exact wpIn_value hnd hex (go ρ v V s W (.refl hsr) hV hv)
  | al c =>
    obtain ⟨ob, vf, hv, hrun⟩ := hok _ _ h
    obtain ⟨hnx, hv⟩ := cond_inv hv
    have hnx := blt_true hnx
    obtain ⟨O, VF, sz, hex, hor, hval⟩ := hrun ρ A (har.er o)
    let rn : Rn := ⟨W.heap.size, 0, sz, 0, false⟩
    have hstp := Stp.push hsr hnx (r := rn) rfl (OR.mono (Ren.add_ext (hsr.new _ (Nat.le_refl _))) (hor W.heap.size))
    exact wpIn_value hnd (hex W) (go _ _ _ _ _ hstp (hval _ _ rn (Ren.add_self _ _ _) rfl rfl) hv)
  | eff c => exact hok call hcall t s _ h ρ A W (har.er o) hsr r0 m _ _ go
  | bad => cases h
theorem cOper_nd {o : Oper} {c : Call} (ho : o.op = .defer c) : cOper P k n o = .bad := by unfold cOper; rw [ho]
theorem cOps_ok (ops : Array Oper) : ∀ (os : List Oper) (j : Nat), (∀ i, os[i]? = ops[j + i]?) → OpsOK P k n ops (List.range' j os.length) (cOps P k n ops.toList os)
  | [], j, _ => fun call _ K t s h ρ A W har hsr r m Q hQ => hQ ρ t A s W (.refl hsr) har rfl h
  | o :: os, j, hj => by
    have ih := cOps_ok ops os (j + 1) fun i => by
      have := hj (i + 1)
      rw [List.getElem?_cons_succ] at this
      rw [this]; congr 1; omega
    have ho : ops[j]? = some o := by have := hj 0; simpa using this.symm
    intro call hcall K t s h ρ A W har hsr r m Q hQ
    have hrange : List.range' j (o :: os).length = j :: List.range' (j + 1) os.length := by simp [List.range'_succ]
    rw [hrange]
    simp only [wpOpsIn, ho]
    simp only [cOps] at h
    cases hp : cPut k n o.dst with
    | none => simp [hp] at h
    | some p =>
    cases hg : cGuard k n ops.toList o.guard with
    | none => simp [hp, hg] at h
    | some gd =>
    simp only [hp, hg] at h
    have hok := cOper_ok (P := P) (k := k) (n := n) o
    have hnd : cOper P k n o ≠ .bad → ∀ c, o.op ≠ .defer c := fun hb c hc => hb (cOper_nd hc)
    cases gd with
    | none =>
      have hw : Region.wanted o (yielded ops A.tmps) = true := by
        unfold cGuard at hg
        unfold Region.wanted
        split at hg
        · rename_i he; rw [he]
        · (repeat' split at hg) <;> (try simp only [cond_eq_ite] at hg) <;> (repeat' split at hg) <;> simp at hg
      rw [hw, if_pos rfl]
      simp only at h
      have hone : oneOp (cOper P k n o) (cOps P k n ops.toList os) p call K t s = true := by
        unfold oneOp
        cases hc : cOper P k n o <;> rw [hc] at h <;> exact h
      exact oneOp_ok hp ih hcall hok hone har hsr (hnd fun hb => by rw [hb] at hone; cases hone) hQ
    | some gw =>
      obtain ⟨g, want⟩ := gw
      simp only at h
      obtain ⟨hch, h⟩ := cond_inv h
      have hguard : Region.wanted o (yielded ops A.tmps) = isB want (g.g t) := by
        unfold cGuard at hg
        split at hg
        · simp at hg
        · rename_i j' want' hgd
          split at hg
          · rename_i o' ho'
            split at hg
            · rename_i d hd
              cases hdn : Nat.blt d n with
              | false => rw [hdn] at hg; cases hg
              | true =>
                rw [hdn] at hg
                simp only [cond_true, Option.some.injEq, Prod.mk.injEq] at hg
                obtain ⟨rfl, rfl⟩ := hg
                have hdn := blt_true hdn
                have hslot := har.slot d hdn
                have hsz := har.size
                have hat : A.tmps[d]? = some (A.tmps.getD d undef) := by
                  have : d < A.tmps.size := Nat.lt_of_lt_of_eq hdn har.size.symm
                  simp [Array.getD, this]
                rw [arr_get?] at ho'
                have hy : yielded ops A.tmps j' = match A.tmps.getD d undef with | .bool b => some b | _ => none := by
                  unfold yielded
                  rw [ho']
                  simp only [Option.bind_some, hd, hat]
                  cases A.tmps.getD d undef <;> rfl
                unfold Region.wanted
                rw [hgd]
                simp only [hy]
                generalize A.tmps.getD d undef = X at hslot
                generalize (getW k d).g t = v at hslot hch
                cases hslot <;> simp [isB, isCh] at hch ⊢
            · cases hg
          · cases hg
      rw [hguard]
      cases hb : isB want (g.g t) with
      | true =>
        rw [hb] at h
        simp only [cond_true] at h
        rw [if_pos rfl]
        exact oneOp_ok hp ih hcall hok h har hsr (hnd fun hb => by rw [hb] at h; cases h) hQ
      | false =>
        rw [hb] at h
        simp only [cond_false] at h
        rw [if_neg (by simp)]
        exact ⟨fun _ _ => trivial, ih call hcall K _ _ h ρ _ W (har.put hp (VR.undef ρ)) hsr r m Q fun ρ2 t2 A2 s2 W2 h2 ha2 hd2 hk => hQ ρ2 t2 A2 s2 W2 h2 ha2 (hd2.trans (put_defers _ _ _)) hk⟩
end Go.Ab
