/- Interfaces: values of them, what they hold, calls of their methods. -/
import Derived.Test.YtogncjicndbahaaEngNc
namespace Go.Ab
variable {P : Program} {k n : Nat} {o : Oper}

theorem not_iface {d : TypeDesc} (h : isIfaceD d = false) : ∀ ms, d ≠ .interface ms := fun ms e => by rw [e] at h; cases h
theorem sil_makeIface {t : TypeId} {x : Operand} {g : GW Value k} (ho : o.op = .makeInterface t x) (hx : cEv k n x = some g) {c : SilC k} (hc : oMakeIface P t g = .sil c) : SilOK P k n c o := by
  unfold oMakeIface at hc
  cases hd : P.underlying t with
  | none => simp [hd] at hc
  | some d =>
    simp only [hd] at hc
    cases hi : isIfaceD d with
    | true => rw [hi] at hc; cases hc
    | false =>
      rw [hi] at hc
      simp only [cond_false, OpC.sil.injEq] at hc; subst hc
      intro f K h
      refine ⟨_, h, fun ρ A he => ⟨_, .iface t (er1 he hx (by rw [ho]; simp [Op.operands])), fun W => ?_⟩⟩
      have hni := not_iface hi
      cases d <;> first | (exact absurd rfl (hni _)) | simp [execOp, ho, Instr.makeInterface, r_und hd]
theorem sil_assert {x : Operand} {t a : TypeId} {ok : Bool} {g : GW Value k} (ho : o.op = .typeAssert x t a ok) (hx : cEv k n x = some g) {c : SilC k} (hc : oAssert P a ok g = .sil c) : SilOK P k n c o := by
  unfold oAssert at hc
  cases hd : P.underlying a with
  | none => simp [hd] at hc
  | some d =>
  cases hz : zeroOf P a with
  | none => simp [hd, hz] at hc
  | some z =>
    simp only [hd, hz] at hc
    obtain ⟨hzp, hz⟩ := zeroOf_run hz
    cases hi : isIfaceD d with
    | true => rw [hi] at hc; cases hc
    | false =>
      rw [hi] at hc
      simp only [cond_false, OpC.sil.injEq] at hc; subst hc
      have hni := not_iface hi
      intro f K h
      dsimp only at h
      have mx : x ∈ o.op.operands := by rw [ho]; simp [Op.operands]
      have zr : ∀ ρ : Ren, VR ρ (pairV true z false) (.tuple #[z, .bool false]) := fun ρ => .tuple (.cons (pureC_VR ρ 4 z hzp) (.cons (.bool false) .nil))
      cases hv : g.g f with
      | iface u v =>
        simp only [hv] at h
        cases hu : Nat.beq u a with
        | true =>
          rw [hu] at h
          have hu := beq_true hu
          subst hu
          refine ⟨_, h, fun ρ A he => ?_⟩
          have h1 := er1 he hx mx
          rw [hv] at h1
          generalize hX : A.eval x = X at h1
          cases h1 with
          | iface _ h2 =>
            refine ⟨_, pairV_R h2 ok true, fun W => ?_⟩
            cases d <;> first | (exact absurd rfl (hni _)) | simp [execOp, ho, hX, Instr.typeAssert, r_und hd]
        | false =>
          rw [hu] at h
          simp only [cond_false] at h
          have hne : u ≠ a := fun e => by rw [e] at hu; simp at hu
          cases ok with
          | false => cases h
          | true =>
            refine ⟨_, h, fun ρ A he => ⟨_, zr ρ, fun W => ?_⟩⟩
            have h1 := er1 he hx mx
            rw [hv] at h1
            generalize hX : A.eval x = X at h1
            cases h1 with
            | iface _ h2 =>
              cases d <;> first | (exact absurd rfl (hni _)) | simp [execOp, ho, hX, Instr.typeAssert, r_und hd, hne, hz]
      | nilIface =>
        simp only [hv] at h
        cases ok with
        | false => cases h
        | true =>
          refine ⟨_, h, fun ρ A he => ⟨_, zr ρ, fun W => ?_⟩⟩
          have h1 := er1 he hx mx
          rw [hv] at h1
          generalize hX : A.eval x = X at h1
          cases h1 with
          | nili =>
            cases d <;> first | (exact absurd rfl (hni _)) | simp [execOp, ho, hX, Instr.typeAssert, r_und hd, hz]
      | _ => simp [hv] at h
theorem methDirect_run {t : TypeId} {name : String} {f : FuncId} (h : methDirect P t name = some f) (m : Nat) (v : Value) (W : World) : (Go.method (m + 1) t v name).run P W = .ok (f, v) W := by
  unfold methDirect at h
  split at h
  · rename_i i d hi hd
    split at h
    · rename_i mt hm
      split at h
      · rename_i f' pr hp hf
        have hm' : i.methods.find? (·.name == name) = some mt := by rw [← Array.find?_toList]; exact hm
        have hpe : mt.path.isEmpty = true := by
          have : mt.path = #[] := by apply Array.ext'; simpa using hp
          simp [this]
        unfold Go.method
        simp only [Sem.run_bind, typeInfo, run_program, Result.andThen_ok, hi, Sem.run_pure, hm', hp, Go.follow, hf, hpe]
        cases pr with
        | true =>
          split at h
          · rename_i e
            simp only [cond_true, Option.some.injEq] at h; subst h
            simp [Go.receiverAt, r_und hd, Go.Place.get]
          · cases h
        | false =>
          split at h
          · cases h
          · rename_i hne
            simp only [cond_false, Option.some.injEq] at h; subst h
            have : ∀ w, (Go.receiverAt t (.val v) false w).run P W = .ok v W := fun w => by
              unfold Go.receiverAt
              simp only [Sem.run_bind, r_und hd, Result.andThen_ok]
              cases d <;> first | (exact absurd rfl (hne _)) | rfl
            simp [this]
      · cases h
    · cases h
  · cases h
end Go.Ab
