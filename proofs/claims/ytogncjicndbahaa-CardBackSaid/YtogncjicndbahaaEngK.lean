/- Stores, copies, appends. -/
import Derived.Test.YtogncjicndbahaaEngJ
import Derived.Laws.Append
namespace Go.Ab
variable {P : Program} {k n : Nat} {o : Oper}

/-- no fence: every function, any depth; the round in which the code runs -/
def WF (r : Option Nat) : Fence := { Fence.wide with round := r }
def Post (P : Program) (ρ : Ren) (s : St) (W : World) (K : KV) (X : Value) (W' : World) : Prop := ∃ ρ' v s', Stp P ρ s W ρ' s' W' ∧ VR ρ' v X ∧ K v s' = true
def CallOK (P : Program) (call : CallT) : Prop :=
  ∀ v args K s, call v args K s = true → ∀ ρ V Args W, VR ρ v V → VsR ρ args Args → SR P ρ s W →
    ∃ d, (Deferred.ofValue V ⟨Args⟩).run P W = .ok d W ∧
      ((∃ g as, (invoke d.target d.args).run P W = .ok (.enter g as) W ∧ ∀ r m, CallsIn (WF r) m P g as W fun e W' => ∃ X, e = .returned X ∧ Post P ρ s W K X W') ∨
       (isFn v = false ∧ ∃ l fn tmps asg body, (invoke d.target d.args).run P W = .ok (.round l fn tmps asg body) W ∧ ∀ r m, RoundIn (WF r) m P l fn tmps asg body W fun e W' => ∃ X, e = .returned X ∧ Post P ρ s W K X W'))
def EffOK (P : Program) (k n : Nat) (c : EffC k) (o : Oper) : Prop :=
  ∀ call, CallOK P call → ∀ f s K, c.m call f s K = true → ∀ ρ A W, ER ρ k n f A o → SR P ρ s W → ∀ r m (next : Act → World → Prop) Q,
    (∀ ρ' v V s' W', Stp P ρ s W ρ' s' W' → VR ρ' v V → K v s' = true → next (A.put o.dst V) W') → o.wpIn (WF r) m P A W next Q

theorem wpIn_value {A : Act} {W W' : World} {V : Value} {r : Option Nat} {m : Nat} {next : Act → World → Prop} {Q : Exit → Act → World → Prop} (hnd : ∀ c, o.op ≠ .defer c)
    (h : (execOp A.eval o).run P W = .ok (.value V) W') (hn : next (A.put o.dst V) W') : o.wpIn (WF r) m P A W next Q := by
  refine ⟨fun _ _ => trivial, ?_⟩
  rw [Oper.semAt_eq _ _ _ hnd, h]; exact hn
theorem wpIn_skip' {A : Act} {W W' : World} {r : Option Nat} {m : Nat} {next : Act → World → Prop} {Q : Exit → Act → World → Prop} (hnd : ∀ c, o.op ≠ .defer c)
    (h : (execOp A.eval o).run P W = .ok .skip W') (hn : next (A.put o.dst undef) W') : o.wpIn (WF r) m P A W next Q := by
  refine ⟨fun _ _ => trivial, ?_⟩
  rw [Oper.semAt_eq _ _ _ hnd, h]; exact hn

theorem VR.flat {ρ : Ren} {v V : Value} (h : VR ρ v V) (hf : flat1 v = true) : V.oneCell' = true := by
  cases h <;> first | rfl | (cases hf; done)
/-- a row of cells is written -/
theorem storeCells_run {B : Nat} {e : TypeId} : ∀ (vs : List Value) (i O : Nat) (W : World) (C : Array Value), W.heap[B]? = some (.cells C e (0, 0)) → (∀ v ∈ vs, v.oneCell' = true) → O + i + vs.length ≤ C.size →
    ∃ W' C', (storeCells ⟨B, O, none⟩ vs i).run P W = .ok () W' ∧ W'.os = W.os ∧ W'.tape = W.tape ∧ W'.output = W.output ∧ W'.heap.size = W.heap.size ∧ (∀ B', B' ≠ B → W'.heap[B']? = W.heap[B']?) ∧
      W'.heap[B]? = some (.cells C' e (0, 0)) ∧ C'.size = C.size ∧ ∀ j, C'[j]? = if O + i ≤ j ∧ j < O + i + vs.length then vs[j - (O + i)]? else C[j]?
  | [], i, O, W, C, hW, _, _ => ⟨W, C, rfl, rfl, rfl, rfl, rfl, fun _ _ => rfl, hW, rfl, fun j => by rw [if_neg (by simp only [List.length_nil]; omega)]⟩
  | v :: vs, i, O, W, C, hW, hf, hl => by
    simp only [List.length_cons] at hl
    have hlt : O + i < C.size := by omega
    have hcell : W.cell? ⟨B, O + i, none⟩ = some C[O + i] := by rw [cell_at hW, Array.getElem?_eq_getElem hlt]
    have hfz : W.frozen? ⟨B, O + i, none⟩ = false := by simp [World.frozen?, hW]
    have hst : (store ⟨B, O + i, none⟩ v).run P W = .ok () (W.setCell ⟨B, O + i, none⟩ v) := by
      rw [run_store _ _ _ _ _ (hf v (by simp)), hcell]
      simp [hfz]
    have hW1 : (W.setCell ⟨B, O + i, none⟩ v).heap[B]? = some (.cells (C.setIfInBounds (O + i) v) e (0, 0)) := by
      simp only [World.setCell, Array.getElem?_modify, hW]
      simp
    obtain ⟨W', C', h1, h2, h3, h4, h5, h6, h7, h8, h9⟩ := storeCells_run vs (i + 1) O (W.setCell ⟨B, O + i, none⟩ v) _ hW1 (fun w hw => hf w (by simp [hw])) (by simp; omega)
    refine ⟨W', C', ?_, h2, h3, h4, h5.trans (by simp), fun B' hB' => ?_, h7, by rw [h8]; simp, fun j => ?_⟩
    · simp only [storeCells, Sem.run_bind, addr_add, hst, Result.andThen_ok]; exact h1
    · rw [h6 B' hB']
      simp only [World.setCell, Array.getElem?_modify]
      rw [if_neg (Ne.symm hB')]
    · rw [h9 j]
      simp only [List.length_cons]
      by_cases hj : O + (i + 1) ≤ j ∧ j < O + (i + 1) + vs.length
      · rw [if_pos hj, if_pos (by omega), show j - (O + i) = (j - (O + (i + 1))) + 1 from by omega, List.getElem?_cons_succ]
      · rw [if_neg hj]
        by_cases hj2 : j = O + i
        · subst hj2
          rw [if_pos (by omega), Array.getElem?_setIfInBounds_self_of_lt hlt]; simp
        · rw [Array.getElem?_setIfInBounds_ne (by omega), if_neg (by omega)]
/-- a store into a block that is named -/
theorem store_sound {ρ : Ren} {s : St} {W : World} (h : SR P ρ s W) {b : Nat} {r : Rn} (hr : ρ b = some r) {k n : Nat} {t : Fm Value k} {e : TypeId} {g : Bool} (hb : s.at b = some (.cells k n t e g)) (hro : Nat.beq e ro = false ∧ s.ok b = true)
    {off : Nat} {l L : List Value} (hl : VsR ρ l L) (hfl : l.all flat1 = true) (hle : off + l.length ≤ n) :
    ∃ W', (storeCells ⟨r.blk, r.sh + off, none⟩ L).run P W = .ok () W' ∧ Stp P ρ s W ρ (s.set b (some (.cells k n (puts k off l t) e g))) W' := by
  obtain ⟨r', OB, g1, g2, C, e', fr, g3, g0, g4, g5, g6, g7, g8, g9⟩ := h.obj b _ hb
  rw [hr] at g1; cases g1; subst g3
  obtain ⟨rfl, rfl⟩ := g0 (.inl hro.1)
  have hlen := hl.length
  have hL : ∀ v ∈ L, v.oneCell' = true := fun V hV => by
    obtain ⟨i, hi, hiV⟩ := List.getElem_of_mem hV
    have hil : i < l.length := by omega
    obtain ⟨V', h1, h2⟩ := hl.get (List.getElem?_eq_getElem hil)
    rw [List.getElem?_eq_getElem hi, hiV] at h1
    cases h1
    exact h2.flat (List.all_eq_true.1 hfl _ (List.getElem_mem hil))
  obtain ⟨W', C', h1, h2, h3, h4, h5, h6, h7, h8, h9⟩ := storeCells_run (P := P) L 0 (r.sh + off) W C g2 hL (by omega)
  refine ⟨W', h1, Stp.set h hb (fix_of (by show (Nat.beq e' ro && !g) = false; rw [hro.1]; rfl) hro.2) hr h2 h3 h4 h5 h7 h6 ⟨C', _, _, rfl, fun _ => ⟨rfl, rfl⟩, g4, g5, by rw [h8]; exact g6, by omega, g8, fun i hi => ?_⟩⟩
  rw [puts_get k l off i t (by omega) (by omega)]
  have hC := h9 (r.sh + i)
  by_cases hin : off ≤ i ∧ i < off + l.length
  · rw [if_pos hin]
    rw [if_pos (by omega)] at hC
    have hil : i - off < l.length := by omega
    obtain ⟨V, q1, q2⟩ := hl.get (List.getElem?_eq_getElem hil)
    rw [show r.sh + i - (r.sh + off + 0) = i - off from by omega, q1] at hC
    have e1 : l.getD (i - off) undef = l[i - off] := by simp [List.getD, hil]
    have e2 : C'.getD (r.sh + i) undef = V := by simp [Array.getD_eq_getD_getElem?, hC]
    rw [e1, e2]; exact q2
  · rw [if_neg hin]
    rw [if_neg (by omega)] at hC
    have e2 : C'.getD (r.sh + i) undef = C.getD (r.sh + i) undef := by simp only [Array.getD_eq_getD_getElem?, hC]
    rw [e2]; exact g9 i hi
theorem onCellsW_inv {s : St} {b : Nat} {K : (k n : Nat) → Fm Value k → TypeId → Bool → Bool} (h : onCellsW s b K = true) : ∃ k n t e g, s.at b = some (.cells k n t e g) ∧ (Nat.beq e ro = false ∧ s.ok b = true) ∧ K k n t e g = true := by
  obtain ⟨k, n, t, e, g, h1, h⟩ := onCells_inv h
  obtain ⟨h2, h⟩ := cond_inv h
  obtain ⟨h2, h3⟩ := and_true h2
  exact ⟨k, n, t, e, g, h1, ⟨by simpa using h2, h3⟩, h⟩
theorem stN_inv {s : St} {b off : Nat} {l : List Value} {K : St → Bool} (h : stN s b off l K = true) : ∃ k n t e g, s.at b = some (.cells k n t e g) ∧ (Nat.beq e ro = false ∧ s.ok b = true) ∧ off + l.length ≤ n ∧ l.all flat1 = true ∧ K (s.set b (some (.cells k n (puts k off l t) e g))) = true := by
  obtain ⟨k, n, t, e, g, h1, h0, h⟩ := onCellsW_inv h
  obtain ⟨h2, h⟩ := cond_inv h
  obtain ⟨h3, h⟩ := cond_inv h
  exact ⟨k, n, t, e, g, h1, h0, ble_true h2, h3, h⟩
theorem st1_inv {s : St} {b off : Nat} {v : Value} {K : St → Bool} (h : st1 s b off v K = true) : ∃ k n t e g, s.at b = some (.cells k n t e g) ∧ (Nat.beq e ro = false ∧ s.ok b = true) ∧ off + [v].length ≤ n ∧ [v].all flat1 = true ∧ K (s.set b (some (.cells k n (puts k off [v] t) e g))) = true := by
  obtain ⟨k, n, t, e, g, h1, h0, h⟩ := onCellsW_inv h
  obtain ⟨h2, h⟩ := cond_inv h
  obtain ⟨h3, h⟩ := cond_inv h
  exact ⟨k, n, t, e, g, h1, h0, blt_true h2, by simpa using h3, h⟩
theorem eff_store {t : TypeId} {x y : Operand} {g g' : GW Value k} (ho : o.op = .store t x y) (hx : cEv k n x = some g) (hy : cEv k n y = some g') {c : EffC k} (hc : oStore P t g g' = .eff c) : EffOK P k n c o := by
  have mx : x ∈ o.op.operands := by rw [ho]; simp [Op.operands]
  have my : y ∈ o.op.operands := by rw [ho]; simp [Op.operands]
  unfold oStore at hc
  cases hs : sizeT P t with
  | none => simp [hs] at hc
  | some m =>
    simp only [hs, OpC.eff.injEq] at hc; subst hc
    intro call _ f s K h ρ A W he hsr r0 m0 next Q hnext
    obtain ⟨b, off, hv, h⟩ := asPtr_inv h
    have h1 := er1 he hx mx
    rw [hv] at h1
    obtain ⟨r, hr, hX⟩ := h1.ptr_inv
    have h2 := er1 he hy my
    have fin : ∀ (l : List Value), VsR ρ l (A.eval y).cells.toList → l.length = m → (∃ k n t e g, s.at b = some (.cells k n t e g) ∧ (Nat.beq e ro = false ∧ s.ok b = true) ∧ off + l.length ≤ n ∧ l.all flat1 = true ∧ K undef (s.set b (some (.cells k n (puts k off l t) e g))) = true) →
        o.wpIn (WF r0) m0 P A W next Q := by
      intro l hl hlm ⟨k', n', t', e', gg, hb, hro, hle, hfl, hK⟩
      obtain ⟨W', hst, hstp⟩ := store_sound hsr hr hb hro hl hfl hle
      refine wpIn_skip' (by rw [ho]; simp) (W' := W') ?_ (hnext _ _ _ _ _ hstp (VR.undef ρ) hK)
      have hcs : (A.eval y).cells.size = m := by
        have := hl.length
        simp only [Array.length_toList] at this
        omega
      simp only [execOp, ho, hX, Instr.storeAt, Instr.sureAddr, storeVar, Sem.run_bind, Sem.run_pure, Result.andThen_ok, r_size hs, hcs]
      simp [hst]
    cases hvy : g'.g f with
    | agg cs =>
      simp only [hvy] at h
      obtain ⟨hlen, h⟩ := cond_inv h
      rw [hvy] at h2
      have := h2.cells rfl
      exact fin cs.toList this (beq_true hlen) (stN_inv h)
    | chan c =>
      simp only [hvy] at h
      obtain ⟨hlen, h⟩ := cond_inv h
      obtain ⟨k', n', t', e', g', _, _, _, hfl, _⟩ := st1_inv h
      simp [flat1] at hfl
    | _ =>
      simp only [hvy] at h
      obtain ⟨hlen, h⟩ := cond_inv h
      rw [hvy] at h2
      have := h2.cells rfl
      exact fin [_] this (by rw [beq_true hlen]; rfl) (st1_inv h)
end Go.Ab
