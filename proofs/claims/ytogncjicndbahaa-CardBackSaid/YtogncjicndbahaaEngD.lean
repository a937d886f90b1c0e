/- The operations that ask nothing of memory. -/
import Derived.Test.YtogncjicndbahaaEngC
import Derived.IntWalk
namespace Go.Ab
variable {P : Program}

def ER (ρ : Ren) (k n : Nat) (f : Fm Value k) (A : Act) (o : Oper) : Prop := ∀ x, x ∈ o.op.operands → ∀ g, cEv k n x = some g → VR ρ (g.g f) (A.eval x)
theorem AR.er {ρ : Ren} {k n : Nat} {f : Fm Value k} {A : Act} (h : AR ρ k n f A) (o : Oper) : ER ρ k n f A o := fun _ _ _ hg => cEv_sound h hg
theorem ER.mono {ρ ρ' : Ren} (e : Ext ρ ρ') {k n : Nat} {f : Fm Value k} {A : Act} {o : Oper} (h : ER ρ k n f A o) : ER ρ' k n f A o := fun x hx g hg => (h x hx g hg).mono e

def SilOK (P : Program) (k n : Nat) (c : SilC k) (o : Oper) : Prop :=
  ∀ f K, c.m f K = true → ∃ v, K v = true ∧ ∀ ρ A, ER ρ k n f A o → ∃ V, VR ρ v V ∧ ∀ W, (execOp A.eval o).run P W = .ok (.value V) W

/-! ### taking a value apart -/
theorem asInt_inv {v : Value} {K : IntKind → Int → Bool} (h : asInt v K = true) : ∃ k n, v = .int k n ∧ K k n = true := by
  cases v <;> first | exact ⟨_, _, rfl, h⟩ | cases h
theorem asNat_inv {v : Value} {K : Nat → Bool} (h : asNat v K = true) : ∃ k m, v = .int k (.ofNat m) ∧ K m = true := by
  cases v <;> (try (cases h; done))
  rename_i k n
  cases n with
  | ofNat m => exact ⟨k, m, rfl, h⟩
  | negSucc m => cases h
theorem asBool_inv {v : Value} {K : Bool → Bool} (h : asBool v K = true) : ∃ b, v = .bool b ∧ K b = true := by
  cases v <;> first | exact ⟨_, rfl, h⟩ | cases h
theorem onAddr_inv {a : Addr} {K : Nat → Nat → Bool} (h : onAddr a K = true) : ∃ b o, a = ⟨b, o, none⟩ ∧ K b o = true := by
  obtain ⟨b, o, sp⟩ := a
  cases sp with
  | none => exact ⟨b, o, rfl, h⟩
  | some _ => cases h
theorem asPtr_inv {v : Value} {K : Nat → Nat → Bool} (h : asPtr v K = true) : ∃ b o, v = .pointer (some ⟨b, o, none⟩) ∧ K b o = true := by
  cases v <;> (try (cases h; done))
  rename_i a
  cases a with
  | none => cases h
  | some a => obtain ⟨b, o, rfl, h⟩ := onAddr_inv h; exact ⟨b, o, rfl, h⟩
theorem asSlice_inv {v : Value} {N : Nat → Nat → Bool} {K : Nat → Nat → Nat → Nat → Bool} (h : asSlice v N K = true) :
    (∃ n c, v = .slice none n c ∧ N n c = true) ∨ ∃ b o n c, v = .slice (some ⟨b, o, none⟩) n c ∧ K b o n c = true := by
  cases v <;> (try (cases h; done))
  rename_i a n c
  cases a with
  | none => exact .inl ⟨n, c, rfl, h⟩
  | some a =>
    have h : onAddr a (fun b o => K b o n c) = true := h
    obtain ⟨b, o, rfl, h⟩ := onAddr_inv h; exact .inr ⟨b, o, n, c, rfl, h⟩
theorem cond_inv {b : Bool} {x : Bool} (h : (bif b then x else false) = true) : b = true ∧ x = true := by cases b <;> simp_all
theorem VR.int_inv {ρ : Ren} {k : IntKind} {n : Int} {V : Value} (h : VR ρ (.int k n) V) : V = .int k n := by cases h; rfl
theorem VR.bool_inv {ρ : Ren} {b : Bool} {V : Value} (h : VR ρ (.bool b) V) : V = .bool b := by cases h; rfl
theorem VR.string_inv {ρ : Ren} {b : ByteArray} {V : Value} (h : VR ρ (.string b) V) : V = .string b := by cases h; rfl
theorem VR.ptr_inv {ρ : Ren} {b o : Nat} {V : Value} (h : VR ρ (.pointer (some ⟨b, o, none⟩)) V) : ∃ r, ρ b = some r ∧ V = .pointer (some ⟨r.blk, r.sh + o, none⟩) := by
  cases h with | ptr h => exact ⟨_, h, rfl⟩

/-! ### Sem terms that ask nothing -/
theorem pureRun_run {α : Type} : ∀ (s : Sem α) {a : α}, pureRun P s = some a → ∀ W, s.run P W = .ok a W
  | .pure _, _, h, _ => by simp only [pureRun, Option.some.injEq] at h; subst h; rfl
  | .program k, _, h, W => by simp only [pureRun] at h; exact pureRun_run (k P) h W
  | .load _ _ _, _, h, _ | .store _ _ _ _, _, h, _ | .new _ _, _, h, _ | .shape _ _, _, h, _ | .freeze _ _ _, _, h, _ | .frozen _ _, _, h, _
  | .getObj _ _, _, h, _ | .setObj _ _ _, _, h, _ | .choose _ _, _, h, _ | .sys _ _, _, h, _ | .mark _ _, _, h, _ | .halt _, _, h, _ => by simp [pureRun] at h
theorem r_und {t : TypeId} {d : TypeDesc} (h : P.underlying t = some d) (W : World) : (underlying t).run P W = .ok d W := by simp [underlying, h]
theorem sizeT_info {t n : Nat} (h : sizeT P t = some n) : ∃ i, P.info? t = some i ∧ i.size = n := by
  unfold sizeT at h
  cases hi : P.info? t with
  | none => rw [hi] at h; cases h
  | some i => rw [hi] at h; exact ⟨i, rfl, by simpa using h⟩
theorem r_size {t n : Nat} (h : sizeT P t = some n) (W : World) : (sizeOf t).run P W = .ok n W := by
  obtain ⟨i, h1, h2⟩ := sizeT_info h
  simp [sizeOf, typeInfo, h1, h2]
theorem zeroL_inv {t : Nat} {z : List Value} (h : zeroL P t = some z) : ∃ i v, P.info? t = some i ∧ i.zero = some v ∧ pureC 4 v = true ∧ z = vcells v := by
  unfold zeroL at h
  cases hi : P.info? t with
  | none => simp [hi] at h
  | some i =>
    simp only [hi] at h
    cases hz : i.zero with
    | none => simp [hz] at h
    | some v =>
      simp only [hz] at h
      cases hp : pureC 4 v with
      | false => rw [hp] at h; cases h
      | true => rw [hp] at h; cases h; exact ⟨i, v, rfl, hz, hp, rfl⟩
theorem vcells_eq (v : Value) : vcells v = v.cells.toList := by cases v <;> rfl
theorem r_zero {t : Nat} {z : List Value} (h : zeroL P t = some z) (W : World) : ∃ v, (zeroValue t).run P W = .ok v W ∧ z = v.cells.toList ∧ pureC 4 v = true := by
  obtain ⟨i, v, h1, h2, h3, h4⟩ := zeroL_inv h
  exact ⟨v, by simp [zeroValue, typeInfo, h1, h2], by rw [h4, vcells_eq], h3⟩
theorem pureC_cells (ρ : Ren) {v : Value} (h : pureC 4 v = true) : VsR ρ v.cells.toList v.cells.toList := by
  have := pureC_VR ρ 4 v h
  cases v <;> first | exact .cons this .nil | skip
  rename_i cs
  cases this with | agg hl => exact hl
theorem wr_aux (b : Bool) (n : Int) (h : b = true → IntKind.i64.wrap n = n) : (bif b then n else IntKind.i64.wrap n) = IntKind.i64.wrap n := by
  cases b with
  | false => rfl
  | true => exact (h rfl).symm
theorem wr_eq (k : IntKind) (n : Int) : wr k n = k.wrap n := by
  cases k <;> try rfl
  cases n with
  | ofNat m =>
    refine wr_aux (Nat.blt m 9223372036854775808) (Int.ofNat m) fun h => ?_
    have h := blt_true h
    have e : (Int.ofNat m) = (m : Int) := rfl
    rw [e]
    exact IntWalk.i64_in _ ⟨by omega, by omega⟩
  | negSucc m =>
    refine wr_aux (Nat.blt m 9223372036854775808) (Int.negSucc m) fun h => ?_
    have h := blt_true h
    have e := Int.negSucc_eq m
    generalize Int.negSucc m = x at e
    exact IntWalk.i64_in x ⟨by omega, by omega⟩
theorem blt_dec (m n : Nat) : Nat.blt m n = decide (m < n) := by
  cases h : Nat.blt m n with
  | true => exact (decide_eq_true (blt_true h)).symm
  | false => exact (decide_eq_false (Nat.not_lt.2 (blt_false h))).symm
theorem iLt_eq (a b : Int) : iLt a b = decide (a < b) := by
  cases a with
  | ofNat m =>
    cases b with
    | ofNat n => show Nat.blt m n = _; rw [blt_dec]; exact decide_eq_decide.2 Int.ofNat_lt.symm
    | negSucc n => exact (decide_eq_false (by rw [Int.negSucc_eq]; show ¬ ((m : Int) < _); omega)).symm
  | negSucc m =>
    cases b with
    | ofNat n => exact (decide_eq_true (by rw [Int.negSucc_eq]; show _ < (n : Int); omega)).symm
    | negSucc n => show Nat.blt n m = _; rw [blt_dec]; exact decide_eq_decide.2 (by rw [Int.negSucc_eq, Int.negSucc_eq]; omega)
theorem iEq_eq (a b : Int) : iEq a b = (a == b) := by
  cases a with
  | ofNat m =>
    cases b with
    | ofNat n =>
      show Nat.beq m n = _
      rw [Bool.eq_iff_iff, beq_iff_eq, Nat.beq_eq]; exact Int.ofNat_inj.symm
    | negSucc n => rfl
  | negSucc m =>
    cases b with
    | ofNat n => rfl
    | negSucc n =>
      show Nat.beq m n = _
      rw [Bool.eq_iff_iff, beq_iff_eq, Nat.beq_eq]; exact Int.negSucc_inj.symm
theorem kIdx_inj {a b : IntKind} (h : Nat.beq (kIdx a) (kIdx b) = true) : a = b := by
  have h := Nat.eq_of_beq_eq_true h
  cases a <;> cases b <;> first | rfl | (simp [kIdx] at h)
end Go.Ab
