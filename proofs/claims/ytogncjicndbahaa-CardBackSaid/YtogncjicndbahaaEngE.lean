/- The operations that ask nothing of memory: each is what the model has. -/
import Derived.Test.YtogncjicndbahaaEngD
namespace Go.Ab
variable {P : Program} {k n : Nat} {o : Oper}

theorem er1 {ρ : Ren} {f : Fm Value k} {A : Act} (he : ER ρ k n f A o) {x : Operand} {g : GW Value k} (hx : cEv k n x = some g) (hm : x ∈ o.op.operands) : VR ρ (g.g f) (A.eval x) := he x hm g hx
theorem ers {ρ : Ren} {f : Fm Value k} {A : Act} (he : ER ρ k n f A o) : ∀ {xs : List Operand} {gs : List (GW Value k)}, cEvs k n xs = some gs → (∀ x ∈ xs, x ∈ o.op.operands) → VsR ρ (evAll f gs) (xs.map A.eval)
  | [], _, hx, _ => by cases hx; exact .nil
  | x :: xs, gs, hx, hm => by
    simp only [cEvs] at hx
    cases h1 : cEv k n x with
    | none => simp [h1] at hx
    | some g =>
      cases h2 : cEvs k n xs with
      | none => simp [h1, h2] at hx
      | some gs' =>
        simp [h1, h2] at hx; subst hx
        exact .cons (he x (hm x (by simp)) g h1) (ers he h2 fun y hy => hm y (by simp [hy]))

theorem sil_move {x : Operand} {g : GW Value k} (ho : o.op = .move x ∨ o.op = .assign x) (hx : cEv k n x = some g) : SilOK P k n ⟨fun f K => K (g.g f)⟩ o := by
  intro f K h
  refine ⟨_, h, fun ρ A he => ⟨A.eval x, ?_, fun W => ?_⟩⟩
  · rcases ho with ho | ho <;> exact er1 he hx (by rw [ho]; simp [Op.operands])
  · rcases ho with ho | ho <;> simp [execOp, ho]
theorem sil_pick {c x y : Operand} {gc gx gy : GW Value k} (ho : o.op = .pick c x y) (hc : cEv k n c = some gc) (hx : cEv k n x = some gx) (hy : cEv k n y = some gy) :
    SilOK P k n ⟨fun f K => asBool (gc.g f) fun b => bif b then K (gx.g f) else K (gy.g f)⟩ o := by
  intro f K h
  obtain ⟨b, hb, h⟩ := asBool_inv h
  refine ⟨bif b then gx.g f else gy.g f, by cases b <;> exact h, fun ρ A he => ⟨bif b then A.eval x else A.eval y, ?_, fun W => ?_⟩⟩
  · cases b
    · exact er1 he hy (by rw [ho]; simp [Op.operands])
    · exact er1 he hx (by rw [ho]; simp [Op.operands])
  · have h1 := er1 he hc (by rw [ho]; simp [Op.operands])
    rw [hb] at h1
    have h2 := h1.bool_inv
    cases b <;> simp [execOp, ho, h2, Go.asBool]
theorem sil_nilCheck {x : Operand} {g : GW Value k} (ho : o.op = .nilCheck x) (hx : cEv k n x = some g) :
    SilOK P k n ⟨fun f K => match g.g f with | .pointer p => (match p with | some p => K (.pointer (some p)) | none => false) | _ => false⟩ o := by
  intro f K h
  cases hv : g.g f with
  | pointer p =>
    cases p with
    | none => simp [hv] at h
    | some p =>
      simp only [hv] at h
      refine ⟨_, h, fun ρ A he => ?_⟩
      have h1 := er1 he hx (by rw [ho]; simp [Op.operands])
      rw [hv] at h1
      generalize hX : A.eval x = X at h1
      refine ⟨_, h1, fun W => ?_⟩
      cases h1 with
      | ptr h => simp [execOp, ho, hX]
  | _ => simp [hv] at h
theorem sil_unNot {t : TypeId} {x : Operand} {g : GW Value k} (ho : o.op = .unOp .not t x) (hx : cEv k n x = some g) :
    SilOK P k n ⟨fun f K => Ab.asBool (g.g f) fun b => K (.bool (!b))⟩ o := by
  intro f K h
  obtain ⟨b, hb, h⟩ := asBool_inv h
  refine ⟨_, h, fun ρ A he => ⟨.bool (!b), .bool _, fun W => ?_⟩⟩
  have h1 := er1 he hx (by rw [ho]; simp [Op.operands])
  rw [hb] at h1
  simp [execOp, ho, h1.bool_inv, Op.unary]
/-- one address-free operand, a term that asks nothing -/
theorem sil_un {x : Operand} {g : GW Value k} {F : Value → Sem Value} (hop : x ∈ o.op.operands) (hex : ∀ A : Act, execOp A.eval o = (do pure (.value (← F (A.eval x))))) (hx : cEv k n x = some g) :
    SilOK P k n ⟨fun f K => bif pureC 4 (g.g f) then (match pureRun P (F (g.g f)) with | some v => bif pureC 4 v then K v else false | none => false) else false⟩ o := by
  intro f K h
  obtain ⟨hp, h⟩ := cond_inv h
  cases hr : pureRun P (F (g.g f)) with
  | none => simp [hr] at h
  | some v =>
    simp only [hr] at h
    obtain ⟨hv, h⟩ := cond_inv h
    refine ⟨v, h, fun ρ A he => ⟨v, pureC_VR ρ 4 v hv, fun W => ?_⟩⟩
    have h1 := pureC_eq 4 (er1 he hx hop) hp
    rw [hex, h1]
    simp [pureRun_run _ hr W]
theorem cond2_inv {a b : Bool} {x y : Bool} (h : (bif a && b then x else y) = true) : (a = true ∧ b = true ∧ x = true) ∨ y = true := by cases a <;> cases b <;> simp_all
theorem nilCmp_inv {d : Option TypeDesc} {neg : Bool} {x y : Value} {K : Value → Bool} (h : nilCmp d neg x y K = true) :
    K (.bool neg) = true ∧ ((∃ e, d = some (.slice e) ∧ ((∃ a n c n' c', x = .slice (some a) n c ∧ y = .slice none n' c') ∨ (∃ a n c n' c', x = .slice none n' c' ∧ y = .slice (some a) n c))) ∨
      (∃ e, d = some (.pointer e) ∧ ((∃ a, x = .pointer (some a) ∧ y = .pointer none) ∨ (∃ a, x = .pointer none ∧ y = .pointer (some a)))) ∨
      (∃ p r v, d = some (.func p r v) ∧ ((∃ f a c, x = .nilFunc ∧ y = .func f a c) ∨ (∃ f a c, x = .func f a c ∧ y = .nilFunc))) ∨
      (∃ p r, d = some (.map p r) ∧ ((∃ b, x = .map (some b) ∧ y = .map none) ∨ (∃ b, x = .map none ∧ y = .map (some b))))) := by
  unfold nilCmp at h
  split at h
  · exact ⟨h, .inl ⟨_, rfl, .inl ⟨_, _, _, _, _, rfl, rfl⟩⟩⟩
  · exact ⟨h, .inl ⟨_, rfl, .inr ⟨_, _, _, _, _, rfl, rfl⟩⟩⟩
  · exact ⟨h, .inr (.inl ⟨_, rfl, .inl ⟨_, rfl, rfl⟩⟩)⟩
  · exact ⟨h, .inr (.inl ⟨_, rfl, .inr ⟨_, rfl, rfl⟩⟩)⟩
  · exact ⟨h, .inr (.inr (.inr ⟨_, _, rfl, .inl ⟨_, rfl, rfl⟩⟩))⟩
  · exact ⟨h, .inr (.inr (.inr ⟨_, _, rfl, .inr ⟨_, rfl, rfl⟩⟩))⟩
  · exact ⟨h, .inr (.inr (.inl ⟨_, _, _, rfl, .inl ⟨_, _, _, rfl, rfl⟩⟩))⟩
  · exact ⟨h, .inr (.inr (.inl ⟨_, _, _, rfl, .inr ⟨_, _, _, rfl, rfl⟩⟩))⟩
  · cases h
/-- what nil is compared with -/
def NilPair (d : TypeDesc) (x y : Value) : Prop :=
  (∃ e, d = .slice e ∧ ((∃ a n c n' c', x = .slice (some a) n c ∧ y = .slice none n' c') ∨ (∃ a n c n' c', x = .slice none n' c' ∧ y = .slice (some a) n c))) ∨
      (∃ e, d = .pointer e ∧ ((∃ a, x = .pointer (some a) ∧ y = .pointer none) ∨ (∃ a, x = .pointer none ∧ y = .pointer (some a)))) ∨
      (∃ p r v, d = .func p r v ∧ ((∃ f a c, x = .nilFunc ∧ y = .func f a c) ∨ (∃ f a c, x = .func f a c ∧ y = .nilFunc))) ∨
      (∃ p r, d = .map p r ∧ ((∃ b, x = .map (some b) ∧ y = .map none) ∨ (∃ b, x = .map none ∧ y = .map (some b))))
theorem nil_eqIn {t : TypeId} {d : TypeDesc} {X Y : Value} (hd : P.underlying t = some d) (h : NilPair d X Y) (m : Nat) (W : World) : (Op.equalIn (m + 1) t X Y).run P W = .ok false W := by
  rcases h with ⟨e, rfl, ⟨a, m, c, m', c', rfl, rfl⟩ | ⟨a, m, c, m', c', rfl, rfl⟩⟩ | ⟨e, rfl, ⟨a, rfl, rfl⟩ | ⟨a, rfl, rfl⟩⟩ | ⟨p, r, v, rfl, ⟨f, a, c, rfl, rfl⟩ | ⟨f, a, c, rfl, rfl⟩⟩ | ⟨p, r, rfl, ⟨b, rfl, rfl⟩ | ⟨b, rfl, rfl⟩⟩ <;>
    rw [Op.equalIn, Sem.run_bind, r_und hd] <;> rfl
theorem nil_guard {op : BinOp} {t : TypeId} {d : TypeDesc} {X Y : Value} {xo yo : Operand} (h : NilPair d X Y) (W : World) : (eqGuard op t xo yo X Y).run P W = .ok () W := by
  rcases h with ⟨e, rfl, ⟨a, m, c, m', c', rfl, rfl⟩ | ⟨a, m, c, m', c', rfl, rfl⟩⟩ | ⟨e, rfl, ⟨a, rfl, rfl⟩ | ⟨a, rfl, rfl⟩⟩ | ⟨p, r, v, rfl, ⟨f, a, c, rfl, rfl⟩ | ⟨f, a, c, rfl, rfl⟩⟩ | ⟨p, r, rfl, ⟨b, rfl, rfl⟩ | ⟨b, rfl, rfl⟩⟩ <;>
    (unfold eqGuard; split <;> rfl)
theorem nil_eql {t : TypeId} {d : TypeDesc} {X Y : Value} (h : NilPair d X Y) : binOp .eql t X Y = (do pure (.bool (← Op.equal t X Y))) ∧ binOp .neq t X Y = (do pure (.bool (!(← Op.equal t X Y)))) := by
  rcases h with ⟨e, rfl, ⟨a, m, c, m', c', rfl, rfl⟩ | ⟨a, m, c, m', c', rfl, rfl⟩⟩ | ⟨e, rfl, ⟨a, rfl, rfl⟩ | ⟨a, rfl, rfl⟩⟩ | ⟨p, r, v, rfl, ⟨f, a, c, rfl, rfl⟩ | ⟨f, a, c, rfl, rfl⟩⟩ | ⟨p, r, rfl, ⟨b, rfl, rfl⟩ | ⟨b, rfl, rfl⟩⟩ <;>
    exact ⟨rfl, rfl⟩
theorem nilPair_VR {ρ : Ren} {d : TypeDesc} {x y X Y : Value} (h : NilPair d x y) (hX : VR ρ x X) (hY : VR ρ y Y) : NilPair d X Y := by
  rcases h with ⟨e, rfl, ⟨a, m, c, m', c', rfl, rfl⟩ | ⟨a, m, c, m', c', rfl, rfl⟩⟩ | ⟨e, rfl, ⟨a, rfl, rfl⟩ | ⟨a, rfl, rfl⟩⟩ | ⟨p, r, v, rfl, ⟨f, a, c, rfl, rfl⟩ | ⟨f, a, c, rfl, rfl⟩⟩ | ⟨p, r, rfl, ⟨b, rfl, rfl⟩ | ⟨b, rfl, rfl⟩⟩
  · cases hX <;> cases hY <;> exact .inl ⟨e, rfl, .inl ⟨_, _, _, _, _, rfl, rfl⟩⟩
  · cases hX <;> cases hY <;> exact .inl ⟨e, rfl, .inr ⟨_, _, _, _, _, rfl, rfl⟩⟩
  · cases hX; cases hY; exact .inr (.inl ⟨e, rfl, .inl ⟨_, rfl, rfl⟩⟩)
  · cases hX; cases hY; exact .inr (.inl ⟨e, rfl, .inr ⟨_, rfl, rfl⟩⟩)
  · cases hX; cases hY; exact .inr (.inr (.inl ⟨p, r, v, rfl, .inl ⟨_, _, _, rfl, rfl⟩⟩))
  · cases hX; cases hY; exact .inr (.inr (.inl ⟨p, r, v, rfl, .inr ⟨_, _, _, rfl, rfl⟩⟩))
  · cases hX; cases hY; exact .inr (.inr (.inr ⟨p, r, rfl, .inl ⟨_, rfl, rfl⟩⟩))
  · cases hX; cases hY; exact .inr (.inr (.inr ⟨p, r, rfl, .inr ⟨_, rfl, rfl⟩⟩))
theorem nilCmp_run {op : BinOp} {neg : Bool} (hop : (op = .eql ∧ neg = false) ∨ (op = .neq ∧ neg = true)) {ρ : Ren} {t : TypeId} {x y X Y : Value} {xo yo : Operand} {K : Value → Bool}
    (h : nilCmp (P.underlying t) neg x y K = true) (hX : VR ρ x X) (hY : VR ρ y Y) (W : World) :
    (do eqGuard op t xo yo X Y; binOp op t X Y : Sem Value).run P W = .ok (.bool neg) W := by
  obtain ⟨_, h⟩ := nilCmp_inv h
  obtain ⟨d, hd, hp⟩ : ∃ d, P.underlying t = some d ∧ NilPair d x y := by
    rcases h with ⟨e, hd, h⟩ | ⟨e, hd, h⟩ | ⟨p, r, v, hd, h⟩ | ⟨p, r, hd, h⟩
    · exact ⟨_, hd, .inl ⟨e, rfl, h⟩⟩
    · exact ⟨_, hd, .inr (.inl ⟨e, rfl, h⟩)⟩
    · exact ⟨_, hd, .inr (.inr (.inl ⟨p, r, v, rfl, h⟩))⟩
    · exact ⟨_, hd, .inr (.inr (.inr ⟨p, r, rfl, h⟩))⟩
  have hp := nilPair_VR hp hX hY
  have h1 : (Op.equal t X Y).run P W = .ok false W := nil_eqIn hd hp 9999 W
  rw [Sem.run_bind, nil_guard hp W, Result.andThen_ok]
  rcases hop with ⟨rfl, rfl⟩ | ⟨rfl, rfl⟩
  · rw [(nil_eql hp).1, Sem.run_bind, h1]; rfl
  · rw [(nil_eql hp).2, Sem.run_bind, h1]; rfl
theorem sil_gBin {op : BinOp} {t u : TypeId} {x y : Operand} {gx gy : GW Value k} (ho : o.op = .binOp op t x y u) (hx : cEv k n x = some gx) (hy : cEv k n y = some gy) :
    ∃ c, gBin P op t x y gx gy = .sil c ∧ SilOK P k n c o := by
  refine ⟨_, rfl, fun f K h => ?_⟩
  have hmx : x ∈ o.op.operands := by rw [ho]; simp [Op.operands]
  have hmy : y ∈ o.op.operands := by rw [ho]; simp [Op.operands]
  rcases cond2_inv h with ⟨hp, hq, h⟩ | h
  · cases hr : pureRun P (do eqGuard op t x y (gx.g f) (gy.g f); binOp op t (gx.g f) (gy.g f)) with
    | none => simp [hr] at h
    | some v =>
      simp only [hr] at h
      obtain ⟨hv, h⟩ := cond_inv h
      refine ⟨v, h, fun ρ A he => ⟨v, pureC_VR ρ 4 v hv, fun W => ?_⟩⟩
      have h1 := pureC_eq 4 (er1 he hx hmx) hp
      have h2 := pureC_eq 4 (er1 he hy hmy) hq
      have h3 := pureRun_run _ hr W
      have : execOp A.eval o = (do pure (.value (← (do eqGuard op t x y (A.eval x) (A.eval y); binOp op t (A.eval x) (A.eval y) : Sem Value)))) := by simp only [execOp, ho]
      rw [this, h1, h2, Sem.run_bind, h3]; rfl
  · have key : ∀ neg, ((op = .eql ∧ neg = false) ∨ (op = .neq ∧ neg = true)) → nilCmp (P.underlying t) neg (gx.g f) (gy.g f) K = true →
        ∃ v, K v = true ∧ ∀ ρ A, ER ρ k n f A o → ∃ V, VR ρ v V ∧ ∀ W, (execOp A.eval o).run P W = .ok (.value V) W := by
      intro neg hop h
      refine ⟨.bool neg, (nilCmp_inv h).1, fun ρ A he => ⟨.bool neg, .bool _, fun W => ?_⟩⟩
      have h3 := nilCmp_run (xo := x) (yo := y) hop h (er1 he hx hmx) (er1 he hy hmy) W
      have : execOp A.eval o = (do pure (.value (← (do eqGuard op t x y (A.eval x) (A.eval y); binOp op t (A.eval x) (A.eval y) : Sem Value)))) := by simp only [execOp, ho]
      rw [this, Sem.run_bind, h3]; rfl
    cases op <;> first | exact key false (.inl ⟨rfl, rfl⟩) h | exact key true (.inr ⟨rfl, rfl⟩) h | cases h
/-- two integers of one kind -/
theorem sil_ints {op : BinOp} {t u : TypeId} {x y : Operand} {gx gy : GW Value k} (ho : o.op = .binOp op t x y u) (hx : cEv k n x = some gx) (hy : cEv k n y = some gy)
    {F : IntKind → Int → Int → (Value → Bool) → Bool}
    (hF : ∀ a m m' K, F a m m' K = true → ∃ v, K v = true ∧ pureC 4 v = true ∧ ∀ W, (do eqGuard op t x y (.int a m) (.int a m'); binOp op t (.int a m) (.int a m') : Sem Value).run P W = .ok v W) :
    ∃ c, (ints gx gy F : OpC k) = .sil c ∧ SilOK P k n c o := by
  refine ⟨_, rfl, fun f K h => ?_⟩
  obtain ⟨a, m, hm, h⟩ := asInt_inv h
  obtain ⟨b, m', hm', h⟩ := asInt_inv h
  obtain ⟨hk, h2⟩ := cond_inv h
  have := kIdx_inj hk; subst this
  obtain ⟨v, hv, hp, hr⟩ := hF _ _ _ _ h2
  refine ⟨v, hv, fun ρ A he => ⟨v, pureC_VR ρ 4 v hp, fun W => ?_⟩⟩
  have h1 := er1 he hx (by rw [ho]; simp [Op.operands])
  have h2 := er1 he hy (by rw [ho]; simp [Op.operands])
  rw [hm] at h1; rw [hm'] at h2
  have : execOp A.eval o = (do pure (.value (← (do eqGuard op t x y (A.eval x) (A.eval y); binOp op t (A.eval x) (A.eval y) : Sem Value)))) := by simp only [execOp, ho]
  rw [this, h1.int_inv, h2.int_inv, Sem.run_bind, hr W]; rfl
theorem isub (a b : Int) : Int.sub a b = a - b := rfl
theorem dec_le (a b : Int) : (!decide (b < a)) = decide (a ≤ b) := by rw [← decide_not]; exact decide_eq_decide.2 Int.not_lt
theorem sil_bin {op : BinOp} {t u : TypeId} {x y : Operand} {gx gy : GW Value k} (ho : o.op = .binOp op t x y u) (hx : cEv k n x = some gx) (hy : cEv k n y = some gy) :
    ∃ c, oBin P op t x y gx gy = .sil c ∧ SilOK P k n c o := by
  unfold oBin
  split
  · rename_i j hd
    cases op <;> first
      | exact sil_gBin ho hx hy
      | (refine sil_ints ho hx hy fun a m m' K h => ⟨_, h, rfl, fun W => ?_⟩; simp [eqGuard, binOp, Op.intArith, Op.intCmp, wr_eq, iLt_eq, iEq_eq, bne, isub, dec_le]; done)
      | (refine sil_ints ho hx hy fun a m m' K h => ?_
         cases hz : iEq m' 0 with
         | true => rw [hz] at h; cases h
         | false =>
           rw [hz] at h
           refine ⟨_, h, rfl, fun W => ?_⟩
           rw [iEq_eq] at hz
           have hz : ¬ m' = 0 := by simpa using hz
           simp [eqGuard, binOp, Op.intDiv, wr_eq, hz])
      | skip
  · exact sil_gBin ho hx hy
end Go.Ab
