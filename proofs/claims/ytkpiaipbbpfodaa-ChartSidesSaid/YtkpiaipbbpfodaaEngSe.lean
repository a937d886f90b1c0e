/- Runs over open values: rows of operations, in order and in an open order. -/
import Derived.Test.YtkpiaipbbpfodaaEngSd
namespace Go.Ab
open Go.RowKit
section
variable {P : Program} {k n : Nat} {t : Fm Value k} {f : Frm} {m : Mem} {X Z : Nat → Prop} {s0 s : St} {R : Nat} {o : Oper} {call : CallT}
def fpM (m : Mem) (b : Nat) : Prop := ∃ x ∈ m, fpE x.2 b
def rdM (m : Mem) (b : Nat) : Prop := ∃ x ∈ m, rdE x.2 b
theorem MemOK.rebase (h : MemOK X Z s0 R s m) : MemOK (fpM m) (rdM m) s R s m :=
  ⟨.refl _ _, h.nx, h.fls, fun x hx => by
    have he := h.ent x hx
    obtain ⟨i, e⟩ := x
    cases e with
    | own b t l => exact ⟨he.1, .inr ⟨_, hx, rfl⟩⟩
    | ro a n c sz f =>
      refine ⟨he.1, ?_⟩
      by_cases hn : n = 0
      · exact .inl hn
      · rcases he.2 with h1 | ⟨b, p, rfl, h2, h3⟩
        · exact absurd h1 hn
        · exact .inr ⟨b, p, rfl, h2, .inr (.inr ⟨_, hx, hn, p, rfl⟩)⟩
    | gr a n t sz f => exact ⟨he.1, he.2.1, fun b hb => .inr ⟨_, hx, hb⟩⟩, h.dis⟩
theorem ent_old {x : Ent} (h : EntOK X Z s0 s x) {b : Nat} (hb : rdE x b) : s0.nx ≤ b ∨ X b ∨ Z b := by
  cases x with
  | ro a n c sz f =>
    obtain ⟨hn, p, rfl⟩ := hb
    rcases h.2 with h1 | ⟨b', p', h1, h2, h3⟩
    · exact absurd h1 hn
    · cases h1; exact h3
  | _ => exact hb.elim
theorem MemOK.back (h : MemOK X Z s0 R s m) {R' : Nat} {s' : St} {m' : Mem} (k : MemOK (fpM m) (rdM m) s R' s' m') : MemOK X Z s0 R' s' m' := by
  have hnx := h.fr.1
  have hmine : ∀ b, s.nx ≤ b ∨ fpM m b → s0.nx ≤ b ∨ X b := fun b hb => by
    rcases hb with hb | ⟨x, hx, hb⟩
    · exact .inl (by omega)
    · exact ent_mine (h.ent x hx) hb
  have hold : ∀ b, s.nx ≤ b ∨ fpM m b ∨ rdM m b → s0.nx ≤ b ∨ X b ∨ Z b := fun b hb => by
    rcases hb with hb | hb | ⟨x, hx, hb⟩
    · exact .inl (by omega)
    · rcases hmine b (.inr hb) with h | h
      · exact .inl h
      · exact .inr (.inl h)
    · exact ent_old (h.ent x hx) hb
  refine ⟨h.fr.mine k.fr fun b hb => hmine b (.inr hb), k.nx, h.fl, fun x hx => ?_, k.dis⟩
  have he := k.ent x hx
  obtain ⟨i, e⟩ := x
  cases e with
  | own b t l => exact ⟨he.1, hmine b he.2⟩
  | ro a n c sz f =>
    refine ⟨he.1, ?_⟩
    rcases he.2 with h1 | ⟨b, p, h1, h2, h3⟩
    · exact .inl h1
    · exact .inr ⟨b, p, h1, h2, hold b h3⟩
  | gr a n t sz f => exact ⟨he.1, he.2.1, fun b hb => hmine b (he.2.2 b hb)⟩
theorem vcells_stN {s : St} {b o z : Nat} (v : Value) (Kr : KV) : Nat.beq (vcells v).length z = true → isCh v = false →
    (match v with
      | .agg cs => bif Nat.beq cs.toList.length z then stN s b o cs.toList (Kr undef) else false
      | v => bif Nat.beq z 1 then st1 s b o v (Kr undef) else false) = stN s b o (vcells v) (Kr undef) := by
  intro hz hc
  have hz := beq_true hz
  subst hz
  cases v <;> first | exact st1_eq _ _ _ _ _ | (cases hc; done) | skip
  rename_i cs
  obtain ⟨cs⟩ := cs
  show (bif Nat.beq cs.length cs.length then stN s b o cs (Kr undef) else false) = _
  rw [Nat.beq_refl]; rfl
theorem efS_ok' (hf : FrameOK k n t f) (hm : MemOK X Z s0 R s m) {ni : Nat} {K : SV → Mem → Nat → Nat → Prop} (h : efS P call n m f o R ni K) :
    ∃ c, cOper P k n o = .eff c ∧ ∀ (Kr : KV) (r : Bool), (∀ w m' R' ni' s', MemOK X Z s0 R' s' m' → K w m' R' ni' → Kr (den w) s' = r) → c.m call t s Kr = r := by
  unfold efS at h
  split at h <;> (try exact h.elim)
  · rename_i u x y hop
    split at h <;> (try exact h.elim)
    rename_i z hz
    obtain ⟨hj, h⟩ := njS_inv h
    obtain ⟨b, a, hx, h1, h2, h3⟩ := stS_ok hm h
    have hjx : isJ (evS n f x) = false := by cases hx' : evS n f x <;> first | rfl | (rw [hx'] at hx; cases hx)
    obtain ⟨g, hg, hgt⟩ := evS_ok hf x hjx
    obtain ⟨gy, hgy, hyt⟩ := evS_ok hf y hj
    refine ⟨_, (by unfold cOper; rw [hop]; simp only [hg, hgy]; unfold oStore; simp only [hz]; rfl), fun Kr r hK => ?_⟩
    show (asPtr (g.g t) fun b o => match gy.g t with
      | .agg cs => bif Nat.beq cs.toList.length z then stN s b o cs.toList (Kr undef) else false
      | v => bif Nat.beq z 1 then st1 s b o v (Kr undef) else false) = r
    rw [hgt, hx, hyt]
    refine (vcells_stN _ Kr h1 h2).trans (h3 (Kr undef) r fun m' s' hm' hk => ?_)
    exact hK .junk _ _ _ s' hm' hk
  · rename_i c hop
    split at h <;> (try exact h.elim)
    · rename_i x hx
      obtain ⟨hj, h⟩ := njS_inv h
      obtain ⟨gs, vs, h1, h2, h⟩ := evL_ok hf h
      obtain ⟨g, hg, hgt⟩ := evS_ok hf x hj
      refine ⟨_, (by unfold cOper; rw [hop]; simp only [hx, hg, h1]; rfl), fun Kr r hK => ?_⟩
      show call (g.g t) (evAll t gs) Kr s = r
      rw [hgt, h2]
      exact h.run X Z s0 s hm Kr r hK
    · rename_i b hb
      split at h <;> (try exact h.elim)
      split at h <;> (try exact h.elim)
      rename_i x y u w ha ht
      split at h <;> (try exact h.elim)
      rename_i e sl he hsl
      split at h <;> (try exact h.elim)
      rename_i i z hi hz
      cases hc : (sl && (Nat.beq z.length i.size && (Nat.ble i.bytes 1000000 && Nat.ble 1 i.size))) with
      | false => rw [hc] at h; exact h.elim
      | true =>
        rw [hc] at h
        simp only [cond_true] at h
        obtain ⟨h1, h2⟩ := and_true hc
        obtain ⟨h2, h3⟩ := and_true h2
        obtain ⟨h3, h4⟩ := and_true h3
        subst h1
        obtain ⟨hjx, hjy, h5⟩ := apS_ok hm (ble_true h4) h
        obtain ⟨g, hg, hgt⟩ := evS_ok hf x hjx
        obtain ⟨gy, hgy, hyt⟩ := evS_ok hf y hjy
        refine ⟨_, (by unfold cOper; rw [hop]; simp only [hb]; unfold cBuiltinM; simp only [ha, ht]; unfold cBuiltin; simp only [cEvs_two hg hgy]; unfold oAppend; simp only [he, hsl, hi, hz, h2, h3, h4, Bool.and_self, cond_true]; rfl), fun Kr r hK => ?_⟩
        show source s i.size (gy.g t) (fun p l => appS e i.size (g.g t) p l s Kr) = r
        rw [hgt, hyt]
        exact h5 Kr r hK
theorem efS_ok (hf : FrameOK k n t f) (hm : MemOK X Z s0 R s m) {ni : Nat} {K : SV → Mem → Nat → Nat → Prop} (h : efS P call n m f o R ni K) :
    ∃ c, cOper P k n o = .eff c ∧ ∀ (Kr : KV) (r : Bool), (∀ w m' R' ni' s', MemOK X Z s0 R' s' m' → MemOK (fpM m) (rdM m) s R' s' m' → K w m' R' ni' → Kr (den w) s' = r) → c.m call t s Kr = r := by
  obtain ⟨c, hc, h1⟩ := efS_ok' hf hm.rebase h
  exact ⟨c, hc, fun Kr r hK => h1 Kr r fun w m' R' ni' s' hm' hk => hK w m' R' ni' s' (hm.back hm') hm' hk⟩
end
section
variable (P : Program) (call : CallT)
def okD (n : Nat) : Option Tmp → Bool
  | none => true
  | some d => Nat.blt d n
def opS (n : Nat) (o : Oper) (f : Frm) (m : Mem) (R ni : Nat) (K : SV → Mem → Nat → Nat → Prop) : Prop :=
  bif isAl o then alS P n f o fun e l mk => (match R with
    | 0 => False
    | R + 1 => ∀ b, forceS (mk ni b) fun v => K v ((ni, .own b e l) :: m) R (ni + 1))
  else bif isEf o then efS P call n m f o R ni K
  else stepV P n m f o fun v => K v m R ni
def nthOp : Nat → List Oper → Option Oper
  | _, [] => none
  | 0, o :: _ => some o
  | i + 1, _ :: l => nthOp i l
/-- whether a guarded operation is wanted -/
def grdS (n : Nat) (f : Frm) (all : List Oper) (g : Option (Nat × Bool)) (y x : Prop) : Prop := match g with
  | none => y
  | some p => match p with
    | (j, want) => match nthOp j all with
      | some q => match q.dst with
        | some d => bif Nat.blt d n then (match getF f d with
          | .bool b => (match want with
            | true => brS b y x
            | false => brS b x y)
          | .val v => bif isCh v || isB want v then False else x
          | _ => False) else False
        | none => False
      | none => False
/-- (by the recursor itself: what is left of a row looks the same to all who unfold it) -/
def wpOps (n : Nat) (all os : List Oper) : Frm → Mem → Nat → Nat → (Frm → Mem → Nat → Nat → Prop) → Prop :=
  List.rec (motive := fun _ => Frm → Mem → Nat → Nat → (Frm → Mem → Nat → Nat → Prop) → Prop) (fun f m R ni K => K f m R ni)
    (fun o _ ih f m R ni K => bif okD n o.dst then grdS n f all o.guard (opS P call n o f m R ni fun v m R ni => putK o.dst v f fun f => ih f m R ni K) (putK o.dst (.val undef) f fun f => ih f m R ni K) else False) os
theorem wpOps_cons {n : Nat} {all os : List Oper} {o : Oper} {f : Frm} {m : Mem} {R ni : Nat} {K : Frm → Mem → Nat → Nat → Prop} : Ab.wpOps P call n all (o :: os) f m R ni K =
    bif okD n o.dst then grdS n f all o.guard (opS P call n o f m R ni fun v m R ni => putK o.dst v f fun f => Ab.wpOps P call n all os f m R ni K) (putK o.dst (.val undef) f fun f => Ab.wpOps P call n all os f m R ni K) else False := rfl
end
section
variable {P : Program} {k n : Nat} {t : Fm Value k} {f : Frm} {m : Mem} {X Z : Nat → Prop} {s0 s : St} {R ni : Nat} {o : Oper} {call : CallT} {r : Bool}
theorem okD_put {d : Option Tmp} (h : okD n d = true) : ∃ p : SW Value k, cPut k n d = some p := by
  cases d with
  | none => exact ⟨_, rfl⟩
  | some d =>
    have h : Nat.blt d n = true := h
    exact ⟨setW k d, by show (bif Nat.blt d n then some (setW k d) else none) = _; rw [h]; rfl⟩
theorem nthOp_get : ∀ {l : List Oper} {i : Nat}, nthOp i l = l[i]?
  | [], _ => by simp [nthOp]
  | _ :: _, 0 => rfl
  | _ :: l, i + 1 => by simpa [nthOp] using nthOp_get (l := l) (i := i)
/-- a guard, as the machine asks it -/
theorem grdS_ok (hf : FrameOK k n t f) {all : List Oper} {g : Option (Nat × Bool)} {y x : Prop} (h : grdS n f all g y x) :
    (g = none ∧ cGuard k n all g = some none ∧ y) ∨ ∃ gw want, cGuard k n all g = some (some (gw, want)) ∧ isCh (gw.g t) = false ∧ ((isB want (gw.g t) = true ∧ y) ∨ (isB want (gw.g t) = false ∧ x)) := by
  unfold grdS at h
  cases g with
  | none => exact .inl ⟨rfl, rfl, h⟩
  | some p =>
    obtain ⟨j, want⟩ := p
    simp only at h
    cases hq : nthOp j all with
    | none => rw [hq] at h; exact h.elim
    | some q =>
      rw [hq] at h
      simp only at h
      rw [nthOp_get] at hq
      cases hd : q.dst with
      | none => rw [hd] at h; exact h.elim
      | some d =>
        rw [hd] at h
        simp only at h
        cases hb : Nat.blt d n with
        | false => rw [hb] at h; exact h.elim
        | true =>
          rw [hb] at h
          simp only [cond_true] at h
          have hgd : cGuard k n all (some (j, want)) = some (some (getW k d, want)) := by
            unfold cGuard
            simp only [hq, hd, hb, cond_true]
          refine .inr ⟨_, _, hgd, ?_⟩
          cases hv : getF f d <;> rw [hv] at h <;> (try exact h.elim)
          · rename_i b
            have e := hf d (blt_true hb) (by rw [hv]; rfl)
            rw [hv] at e
            rw [e]
            refine ⟨rfl, ?_⟩
            show ((b == want) = true ∧ y) ∨ ((b == want) = false ∧ x)
            cases want
            · have h' := brS_inv h
              clear h
              rcases h' with ⟨rfl, h⟩ | ⟨rfl, h⟩
              · exact .inr ⟨rfl, h⟩
              · exact .inl ⟨rfl, h⟩
            · have h' := brS_inv h
              clear h
              rcases h' with ⟨rfl, h⟩ | ⟨rfl, h⟩
              · exact .inl ⟨rfl, h⟩
              · exact .inr ⟨rfl, h⟩
          · rename_i v
            have e := hf d (blt_true hb) (by rw [hv]; rfl)
            rw [hv] at e
            rw [e]
            simp only at h
            show isCh v = false ∧ ((isB want v = true ∧ y) ∨ (isB want v = false ∧ x))
            cases hc : isCh v <;> cases hw : isB want v <;> rw [hc, hw] at h <;> first | exact h.elim | exact ⟨rfl, .inr ⟨rfl, h⟩⟩
/-- one operation -/
theorem opS_ok (hf : FrameOK k n t f) (hm : MemOK X Z s0 R s m) {K : SV → Mem → Nat → Nat → Prop} (h : opS P call n o f m R ni K) {next : OpsC k} {p : SW Value k} {Kr : Fm Value k → St → Bool}
    (hK : ∀ w m' R' ni' s', MemOK X Z s0 R' s' m' → K w m' R' ni' → next.run call Kr (p.s (den w) t) s' = r) : oneOp (cOper P k n o) next p call Kr t s = r := by
  unfold opS at h
  cases ha : isAl o with
  | true =>
    rw [ha] at h
    simp only [cond_true] at h
    obtain ⟨e, l, mk, h1, h2, h3, c, h4, h5⟩ := alS_ok hf h
    rw [h4]
    cases R with
    | zero => exact h1.elim
    | succ R =>
      have hlt : s.nx < 262144 := by have := hm.nx; omega
      show (c.m t fun o v => bif Nat.blt s.nx 262144 then next.run call Kr (p.s (v s.nx) t) (s.push o) else false) = r
      rw [h5 ni, blt_of hlt]
      have h1 := h1 s.nx
      rw [forceS_eq] at h1
      exact hK _ _ _ _ _ (hm.push h2 h3 ni) h1
  | false =>
    rw [ha] at h
    simp only [cond_false] at h
    cases he : isEf o with
    | true =>
      rw [he] at h
      simp only [cond_true] at h
      obtain ⟨c, h1, h2⟩ := efS_ok' hf hm h
      rw [h1]
      exact h2 _ _ fun w m' R' ni' s' hm' hk => hK w m' R' ni' s' hm' hk
    | false =>
      rw [he] at h
      simp only [cond_false] at h
      obtain ⟨v, hv, ⟨c, h1, h2⟩ | ⟨_, c, h1, h2⟩⟩ := stepV_ok hf hm h
      · rw [h1]; exact (h2 _).trans (hK v _ _ _ s hm hv)
      · rw [h1]; exact (h2 _).trans (hK v _ _ _ s hm hv)
theorem stepO_one {all : List Oper} {next : OpsC k} {p : SW Value k} {Kr : Fm Value k → St → Bool} (hp : cPut k n o.dst = some p) (hg : cGuard k n all o.guard = some none) : (stepO P k n all o next).run call Kr t s = oneOp (cOper P k n o) next p call Kr t s := by
  unfold stepO
  simp only [hp, hg]
  cases cOper P k n o <;> rfl
theorem stepO_grd {all : List Oper} {next : OpsC k} {p : SW Value k} {Kr : Fm Value k → St → Bool} {g : GW Value k} {want : Bool} (hp : cPut k n o.dst = some p) (hg : cGuard k n all o.guard = some (some (g, want))) (hc : isCh (g.g t) = false) : (stepO P k n all o next).run call Kr t s = bif isB want (g.g t) then oneOp (cOper P k n o) next p call Kr t s else next.run call Kr (p.s undef t) s := by
  unfold stepO
  simp only [hp, hg, hc, Bool.not_false, cond_true]
theorem isJ_den {w : SV} : isJ w = false → den w = den w := fun _ => rfl
theorem wpOps_ok (hn : n ≤ pow8 k) {all : List Oper} {Kr : Fm Value k → St → Bool} {K : Frm → Mem → Nat → Nat → Prop} (hK : ∀ f' t' m' R' ni' s', FrameOK k n t' f' → MemOK X Z s0 R' s' m' → K f' m' R' ni' → Kr t' s' = r) :
    ∀ {os : List Oper} {f : Frm} {t : Fm Value k} {m : Mem} {R ni : Nat} {s : St}, FrameOK k n t f → MemOK X Z s0 R s m → wpOps P call n all os f m R ni K → (cOps P k n all os).run call Kr t s = r
  | [], f, t, m, R, ni, s, hf, hm, h => hK f t m R ni s hf hm h
  | o :: os, f, t, m, R, ni, s, hf, hm, h => by
    rw [wpOps_cons] at h
    cases hd : okD n o.dst with
    | false => rw [hd] at h; exact h.elim
    | true =>
      rw [hd] at h
      simp only [cond_true] at h
      obtain ⟨p, hp⟩ := okD_put (k := k) hd
      refine Eq.trans ops_cons ?_
      have hyes : opS P call n o f m R ni (fun v m R ni => putK o.dst v f fun f => wpOps P call n all os f m R ni K) → oneOp (cOper P k n o) (cOps P k n all os) p call Kr t s = r := fun h =>
        opS_ok hf hm h fun w m' R' ni' s' hm' hk => wpOps_ok hn hK (hf.putO hn hp fun _ => rfl) hm' (by rw [putK_eq] at hk; exact hk)
      rcases grdS_ok hf h with ⟨_, hg, h⟩ | ⟨gw, want, hg, hc, ⟨hb, h⟩ | ⟨hb, h⟩⟩
      · rw [stepO_one hp hg]; exact hyes h
      · rw [stepO_grd hp hg hc, hb]; exact hyes h
      · rw [stepO_grd hp hg hc, hb]
        exact wpOps_ok hn hK (hf.putO hn hp (w := .val undef) fun _ => rfl) hm (by rw [putK_eq] at h; exact h)
end
end Go.Ab
