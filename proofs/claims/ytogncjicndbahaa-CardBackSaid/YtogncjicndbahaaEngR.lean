/- Code. -/
import Derived.Test.YtogncjicndbahaaEngP
namespace Go.Ab
variable {P : Program} {k n F : Nat}

def DrawH (P : Program) : Prop := ∀ (k n : Nat) (ops : Array Oper) (id : Nat) call, CallOK P call → ∀ K t s, (cDraw P k n ops).run call K t s = true → ∀ ρ A W, AR ρ k n t A → SR P ρ s W → ∀ r m (Q : Exit → Act → World → Prop),
    (∀ ρ' t' A' s' W', Stp P ρ s W ρ' s' W' → AR ρ' k n t' A' → A'.defers = A.defers → K t' s' = true → Q .normal A' W') → (Code.region id ops true).wpIn (WF r) m P Q A W

inductive MR (ρ : Ren) : List Nat → List Deferred → Prop
  | nil : MR ρ [] []
  | cons {b : Nat} {r : Rn} {m : List Nat} {D : List Deferred} (h : ρ b = some r) (hs : MR ρ m D) : MR ρ (b :: m) ({ target := .collected r.blk, args := #[] } :: D)
theorem MR.mono {ρ ρ' : Ren} (e : Ext ρ ρ') {m : List Nat} {D : List Deferred} (h : MR ρ m D) : MR ρ' m D := by
  induction h with
  | nil => exact .nil
  | cons h _ ih => exact .cons (e _ _ h) ih
def RdR (ρ : Ren) (rd r : Option Nat) : Prop := (rd = none ∧ r = none) ∨ ∃ l x, rd = some l ∧ ρ l = some x ∧ r = some x.blk
theorem RdR.mono {ρ ρ' : Ren} (e : Ext ρ ρ') {rd r : Option Nat} (h : RdR ρ rd r) : RdR ρ' rd r := by
  rcases h with h | ⟨l, x, h1, h2, h3⟩
  · exact .inl h
  · exact .inr ⟨l, x, h1, e _ _ h2, h3⟩
def AExit.up : AExit → Exit
  | .exit id => .exit id
  | .goto l => .goto l
  | .ret => .ret
/-- what follows is what is asked -/
def KQ (P : Program) (k n : Nat) (K : KC k) (Q : Exit → Act → World → Prop) (ρ : Ren) (s : St) (W : World) : Prop :=
  ∀ ρ' t A s' W' m, Stp P ρ s W ρ' s' W' → AR ρ' k n t A → MR ρ' m A.defers → (K.n m t s' = true → Q .normal A W') ∧ ∀ e, K.x e m t s' = true → Q e.up A W'
theorem KQ.later {K : KC k} {Q : Exit → Act → World → Prop} {ρ ρ' : Ren} {s s' : St} {W W' : World} (h : KQ P k n K Q ρ s W) (hs : Stp P ρ s W ρ' s' W') : KQ P k n K Q ρ' s' W' :=
  fun ρ2 t A s2 W2 m h2 ha hm => h ρ2 t A s2 W2 m (hs.trans h2) ha hm
def CloOK (P : Program) (k n : Nat) (c : Clo k) (code : Code) : Prop :=
  ∀ call, CallOK P call → ∀ rd K m t s, c.run call rd K m t s = true → ∀ ρ A W, AR ρ k n t A → SR P ρ s W → MR ρ m A.defers → ∀ r, RdR ρ rd r → ∀ m0 Q, KQ P k n K Q ρ s W → code.wpIn (WF r) m0 P Q A W

theorem clo_seq {cx cy : Clo k} {x y : Code} (hx : CloOK P k n cx x) (hy : CloOK P k n cy y) : CloOK P k n ⟨fun call rd K m t s => cx.run call rd ⟨fun m' t' s' => cy.run call rd K m' t' s', K.x⟩ m t s⟩ (.seq x y) := by
  intro call hcall rd K m t s h ρ A W har hsr hmr r hrd m0 Q hK
  refine wpIn_seq (hx call hcall rd _ m t s h ρ A W har hsr hmr r hrd m0 _ fun ρ' t' A' s' W' m' h1 h2 h3 => ⟨fun hk => ?_, fun e hk => ?_⟩)
  · exact hy call hcall rd K m' t' s' hk ρ' A' W' h2 h1.sr h3 r (hrd.mono h1.ext) m0 Q (hK.later h1)
  · have := (hK ρ' t' A' s' W' m' h1 h2 h3).2 e hk
    cases e <;> exact this
theorem clo_loop {cx : Clo k} {x : Code} (hx : CloOK P k n cx x) : CloOK P k n ⟨fun call rd K m t s => runLoop cx call rd K F m t s⟩ (.loop x) := by
  intro call hcall rd K m t s h ρ A W har hsr hmr r hrd m0 Q hK
  refine wpIn_loop_fuel (fun j A' W' => ∃ ρ' t' s' m', runLoop cx call rd K j m' t' s' = true ∧ Stp P ρ s W ρ' s' W' ∧ AR ρ' k n t' A' ∧ MR ρ' m' A'.defers)
    (fun A' W' ⟨_, _, _, _, h, _⟩ => by cases h) (fun j A' W' hJ => ?_) F A W ⟨ρ, t, s, m, h, .refl hsr, har, hmr⟩
  obtain ⟨ρ', t', s', m', h, h1, h2, h3⟩ := hJ
  have h : cx.run call rd ⟨runLoop cx call rd K j, K.x⟩ m' t' s' = true := h
  refine hx call hcall rd _ m' t' s' h ρ' A' W' h2 h1.sr h3 r (hrd.mono h1.ext) m0 _ fun ρ2 t2 A2 s2 W2 m2 g1 g2 g3 => ⟨fun hk => ⟨ρ2, t2, s2, m2, hk, h1.trans g1, g2, g3⟩, fun e hk => ?_⟩
  have := (hK ρ2 t2 A2 s2 W2 m2 (h1.trans g1) g2 g3).2 e hk
  cases e <;> exact this
theorem clo_block {cx : Clo k} {x : Code} {id : Nat} (hx : CloOK P k n cx x) : CloOK P k n ⟨fun call rd K m t s => cx.run call rd ⟨K.n, fun e m' t' s' => match e with
        | .exit id' => bif Nat.beq id' id then K.n m' t' s' else K.x (.exit id') m' t' s'
        | e => K.x e m' t' s'⟩ m t s⟩ (.block id x) := by
  intro call hcall rd K m t s h ρ A W har hsr hmr r hrd m0 Q hK
  refine wpIn_block (hx call hcall rd _ m t s h ρ A W har hsr hmr r hrd m0 _ fun ρ' t' A' s' W' m' h1 h2 h3 => ⟨fun hk => (hK ρ' t' A' s' W' m' h1 h2 h3).1 hk, fun e hk => ?_⟩)
  have hq := hK ρ' t' A' s' W' m' h1 h2 h3
  cases e with
  | exit id' =>
    simp only at hk
    show if id' = id then Q .normal A' W' else Q (.exit id') A' W'
    cases hb : Nat.beq id' id with
    | true => rw [hb] at hk; rw [if_pos (beq_true hb)]; exact hq.1 hk
    | false =>
      rw [hb] at hk
      rw [if_neg (fun e => by rw [e, Nat.beq_refl] at hb; cases hb)]; exact hq.2 (.exit id') hk
  | goto l => exact hq.2 (.goto l) hk
  | ret => exact hq.2 .ret hk
theorem findClo_inv {l : Nat} : ∀ {ls : List (Nat × Clo k)} {c : Clo k}, findClo l ls = some c → (l, c) ∈ ls
  | (l', c') :: r, c, h => by
    simp only [findClo] at h
    cases hb : Nat.beq l' l with
    | true => rw [hb] at h; simp only [cond_true, Option.some.injEq] at h; subst h; rw [beq_true hb]; simp
    | false => rw [hb] at h; exact List.mem_cons_of_mem _ (findClo_inv h)
theorem findClo_none {l : Nat} : ∀ {ls : List (Nat × Clo k)}, findClo l ls = none → ∀ c, (l, c) ∉ ls
  | [], _, c, hm => by cases hm
  | (l', c') :: r, h, c, hm => by
    simp only [findClo] at h
    cases hb : Nat.beq l' l with
    | true => rw [hb] at h; cases h
    | false =>
      rw [hb] at h
      cases hm with
      | head => rw [Nat.beq_refl] at hb; cases hb
      | tail _ hm => exact findClo_none h c hm
theorem labels_find : ∀ (x : Code) (l : Nat), l ∉ labels x → findLabel x l = none
  | .seq a b, l, h => by
    simp only [labels, List.mem_append, not_or] at h
    simp only [findLabel, labels_find a l h.1, labels_find b l h.2]
  | .label l', l, h => by
    simp only [labels, List.mem_singleton] at h
    simp only [findLabel]
    have : (l' == l) = false := by simp; exact fun e => h e.symm
    rw [this]; rfl
  | .skip, _, _ | .region _ _ _, _, _ | .cond _ _ _, _, _ | .block _ _, _, _ | .loop _, _, _ | .rangeFunc _ _ _ _, _, _ | .exit _, _, _ | .scope _, _, _ | .goto _, _, _ | .ret, _, _ | .refuse _, _, _ => rfl
theorem clo_scope {cx : Clo k} {x : Code} {f : Code → Clo k} (hx : CloOK P k n cx x) (hf : ∀ c, CloOK P k n (f c) c) : CloOK P k n ⟨fun call rd K m t s => runScope ((labels x).filterMap fun l => match findLabel x l with
        | some r => some (l, f r)
        | none => none) call rd K F cx m t s⟩ (.scope x) := by
  intro call hcall rd K m t s h ρ A W har hsr hmr r hrd m0 Q hK
  refine wpIn_scope_fuel (fun j c A' W' => ∃ ρ' t' s' m' cc, CloOK P k n cc c ∧ runScope ((labels x).filterMap fun l => match findLabel x l with
        | some r => some (l, f r)
        | none => none) call rd K j cc m' t' s' = true ∧ Stp P ρ s W ρ' s' W' ∧ AR ρ' k n t' A' ∧ MR ρ' m' A'.defers)
    (fun c A' W' ⟨_, _, _, _, _, _, h, _⟩ => by cases h) (fun j c A' W' hJ => ?_) F A W ⟨ρ, t, s, m, cx, hx, h, .refl hsr, har, hmr⟩
  obtain ⟨ρ', t', s', m', cc, hcc, h, h1, h2, h3⟩ := hJ
  refine hcc call hcall rd _ m' t' s' h ρ' A' W' h2 h1.sr h3 r (hrd.mono h1.ext) m0 _ fun ρ2 t2 A2 s2 W2 m2 g1 g2 g3 => ⟨fun hk => (hK ρ2 t2 A2 s2 W2 m2 (h1.trans g1) g2 g3).1 hk, fun e hk => ?_⟩
  have hq := hK ρ2 t2 A2 s2 W2 m2 (h1.trans g1) g2 g3
  cases e with
  | exit id => exact hq.2 (.exit id) hk
  | ret => exact hq.2 .ret hk
  | goto l =>
    simp only at hk
    show (match findLabel x l with | some rest => _ | none => _)
    cases hfc : findClo l ((labels x).filterMap fun l => match findLabel x l with
        | some r => some (l, f r)
        | none => none) with
    | some c' =>
      rw [hfc] at hk
      have hm := findClo_inv hfc
      rw [List.mem_filterMap] at hm
      obtain ⟨l', _, hl'⟩ := hm
      cases hfl : findLabel x l' with
      | none => rw [hfl] at hl'; cases hl'
      | some rest =>
        rw [hfl] at hl'
        simp only [Option.some.injEq, Prod.mk.injEq] at hl'
        obtain ⟨rfl, rfl⟩ := hl'
        rw [hfl]
        exact ⟨ρ2, t2, s2, m2, _, hf rest, hk, h1.trans g1, g2, g3⟩
    | none =>
      rw [hfc] at hk
      have : findLabel x l = none := by
        by_cases hm : l ∈ labels x
        · cases hfl : findLabel x l with
          | none => rfl
          | some rest => exact absurd (List.mem_filterMap.2 ⟨l, hm, by rw [hfl]⟩) (findClo_none hfc (f rest))
        · exact labels_find x l hm
      rw [this]
      exact hq.2 (.goto l) hk
theorem clo_region (hd : DrawH P) (id : Nat) (ops : Array Oper) (draw : Bool) : CloOK P k n (let c := bif draw then cDraw P k n ops else cOps P k n ops.toList ops.toList; ⟨fun call _ K m t s => c.run call (fun t' s' => K.n m t' s') t s⟩) (.region id ops draw) := by
  intro call hcall rd K m t s h ρ A W har hsr hmr r hrd m0 Q hK
  cases draw with
  | true =>
    exact hd k n ops id call hcall _ t s h ρ A W har hsr r m0 Q fun ρ' t' A' s' W' h1 h2 h3 hk => (hK ρ' t' A' s' W' m h1 h2 (by rw [h3]; exact hmr.mono h1.ext)).1 hk
  | false =>
    have := cOps_ok (P := P) (k := k) (n := n) ops ops.toList 0 (fun i => by rw [arr_get?, Nat.zero_add])
    refine wpIn_region ?_
    have h2 := this call hcall _ t s h ρ A W har hsr r m0 Q fun ρ' t' A' s' W' h1 h2 h3 hk => (hK ρ' t' A' s' W' m h1 h2 (by rw [h3]; exact hmr.mono h1.ext)).1 hk
    rw [Array.length_toList, ← List.range_eq_range'] at h2
    exact h2
theorem clo_cond {x : Operand} {cp cq : Clo k} {p q : Code} {g : GW Value k} (hx : cEv k n x = some g) (hp : CloOK P k n cp p) (hq : CloOK P k n cq q) :
    CloOK P k n ⟨fun call rd K m t s => Ab.asBool (g.g t) fun b => bif b then cp.run call rd K m t s else cq.run call rd K m t s⟩ (.cond x p q) := by
  intro call hcall rd K m t s h ρ A W har hsr hmr r hrd m0 Q hK
  obtain ⟨b, hb, h⟩ := asBool_inv h
  have h1 := cEv_sound har hx
  rw [hb] at h1
  refine wpIn_cond h1.bool_inv ?_
  cases b with
  | true => exact hp call hcall rd K m t s h ρ A W har hsr hmr r hrd m0 Q hK
  | false => exact hq call hcall rd K m t s h ρ A W har hsr hmr r hrd m0 Q hK
end Go.Ab
