/- Addresses, parts, slices, conversions, len, min, max. -/
import Derived.Test.YtogncjicndbahaaEngF
import Derived.ChangeKeysEq
import Derived.Laws.StructEq
namespace Go.Ab
variable {P : Program} {k n : Nat} {o : Oper}

def RdOK (P : Program) (k n : Nat) (c : RdC k) (o : Oper) : Prop :=
  ∀ f s K, c.m f s K = true → ∃ v, K v = true ∧ ∀ ρ A W, ER ρ k n f A o → SR P ρ s W → ∃ V, VR ρ v V ∧ (execOp A.eval o).run P W = .ok (.value V) W

theorem addr_add (b o m : Nat) : (⟨b, o, none⟩ : Addr).add m = ⟨b, o + m, none⟩ := by
  unfold Addr.add
  by_cases h : m = 0
  · rw [if_pos h, h]; rfl
  · rw [if_neg h]
theorem arr_get? {α : Type} (a : Array α) (i : Nat) : a.toList[i]? = a[i]? := Array.getElem?_toList
theorem sil_fieldAddr {t : TypeId} {x : Operand} {i : Nat} {g : GW Value k} (ho : o.op = .fieldAddr t x i) (hx : cEv k n x = some g) {c : SilC k} (hc : oFieldAddr P t g i = .sil c) : SilOK P k n c o := by
  unfold oFieldAddr at hc
  split at hc
  · rename_i fs hd
    cases hf : fs.toList[i]? with
    | none => simp [hf] at hc
    | some fd =>
      cases hs : sizeT P fd.type with
      | none => simp [hf, hs] at hc
      | some m =>
        simp only [hf, hs] at hc
        cases hm : Nat.blt 0 m with
        | false => rw [hm] at hc; cases hc
        | true =>
          rw [hm] at hc
          simp only [cond_true, OpC.sil.injEq] at hc; subst hc
          intro f K h
          obtain ⟨b, off, hv, h⟩ := asPtr_inv h
          refine ⟨_, h, fun ρ A he => ?_⟩
          have h1 := er1 he hx (by rw [ho]; simp [Op.operands])
          rw [hv] at h1
          obtain ⟨r, hr, hV⟩ := h1.ptr_inv
          refine ⟨.pointer (some ⟨r.blk, r.sh + (off + fd.offset), none⟩), .ptr hr, fun W => ?_⟩
          have hf' : fs[i]? = some fd := by rw [← arr_get?]; exact hf
          have hm := blt_true hm
          have hne : ¬ m = 0 := by omega
          simp [execOp, ho, hV, Instr.fieldAt, r_und hd, hf', Instr.sureAddr, fieldPlace, r_size hs, hne, addr_add, Nat.add_assoc]
  · cases hc
theorem sil_indexAddr {t : TypeId} {x i : Operand} {g gi : GW Value k} (ho : o.op = .indexAddr t x i) (hx : cEv k n x = some g) (hi : cEv k n i = some gi) {c : SilC k} (hc : oIndexAddr P t g gi = .sil c) : SilOK P k n c o := by
  unfold oIndexAddr at hc
  have mx : x ∈ o.op.operands := by rw [ho]; simp [Op.operands]
  have mi : i ∈ o.op.operands := by rw [ho]; simp [Op.operands]
  split at hc
  · rename_i len e hd
    cases hs : sizeT P e with
    | none => simp [hs] at hc
    | some m =>
      simp only [hs, OpC.sil.injEq] at hc; subst hc
      intro f K h
      obtain ⟨ki, j, hj, h⟩ := asNat_inv h
      obtain ⟨hlt, h⟩ := cond_inv h
      obtain ⟨b, off, hv, h⟩ := asPtr_inv h
      refine ⟨_, h, fun ρ A he => ?_⟩
      have h1 := er1 he hx mx
      have h2 := er1 he hi mi
      rw [hv] at h1; rw [hj] at h2
      obtain ⟨r, hr, hV⟩ := h1.ptr_inv
      refine ⟨.pointer (some ⟨r.blk, r.sh + (off + j * m), none⟩), .ptr hr, fun W => ?_⟩
      have hlt := blt_true hlt
      simp [execOp, ho, hV, h2.int_inv, Instr.indexAt, asIntOf, r_und hd, Instr.sureAddr, r_size hs, addr_add, Nat.add_assoc, hlt]
  · rename_i e hd
    cases hs : sizeT P e with
    | none => simp [hs] at hc
    | some m =>
      simp only [hs, OpC.sil.injEq] at hc; subst hc
      intro f K h
      obtain ⟨ki, j, hj, h⟩ := asNat_inv h
      rcases asSlice_inv h with ⟨_, _, _, h⟩ | ⟨b, off, len, cp, hv, h⟩
      · cases h
      obtain ⟨hlt, h⟩ := cond_inv h
      refine ⟨_, h, fun ρ A he => ?_⟩
      have h1 := er1 he hx mx
      have h2 := er1 he hi mi
      rw [hv] at h1; rw [hj] at h2
      have hlt := blt_true hlt
      generalize hX : A.eval x = X at h1
      cases h1 with
      | slc hr hn h0 h1 =>
        rename_i O C r
        have hO : O = r.sh + off := by
          cases hg : r.gr with
          | false => exact (h0 hg).2
          | true => exact (h1 hg).2.1 (by omega)
        refine ⟨.pointer (some ⟨r.blk, r.sh + (off + j * m), none⟩), .ptr hr, fun W => ?_⟩
        simp [execOp, ho, hX, h2.int_inv, Instr.indexAt, asIntOf, r_und hd, r_size hs, addr_add, Nat.add_assoc, hlt, hO]
  · cases hc
theorem takeL_spec : ∀ (m : Nat) (l : List Value) {r : List Value}, takeL m l = some r → r = l.take m ∧ m ≤ l.length
  | 0, l, r, h => by simp only [takeL, Option.some.injEq] at h; subst h; simp
  | m + 1, [], r, h => by simp [takeL] at h
  | m + 1, x :: xs, r, h => by
    simp only [takeL] at h
    cases hs : takeL m xs with
    | none => simp [hs] at h
    | some r' =>
      simp only [hs, Option.some.injEq] at h; subst h
      obtain ⟨h1, h2⟩ := takeL_spec m xs hs
      exact ⟨by simp [h1], by simpa using h2⟩
theorem VsR.drop {ρ : Ren} : ∀ (m : Nat) {l L : List Value}, VsR ρ l L → VsR ρ (l.drop m) (L.drop m)
  | 0, _, _, h => h
  | _ + 1, _, _, .nil => .nil
  | m + 1, _, _, .cons _ hs => VsR.drop m hs
theorem VsR.take {ρ : Ren} : ∀ (m : Nat) {l L : List Value}, VsR ρ l L → VsR ρ (l.take m) (L.take m)
  | 0, _, _, _ => .nil
  | _ + 1, _, _, .nil => .nil
  | m + 1, _, _, .cons h hs => .cons h (VsR.take m hs)
theorem part_run {ρ : Ren} {t : TypeId} {off : Nat} {cs : List Value} {C : Array Value} (hc : VsR ρ cs C.toList) {v : Value} (h : (cPart P t).p cs off = some v) :
    ∃ V, VR ρ v V ∧ ∀ W, (part t C off).run P W = .ok V W := by
  unfold cPart at h
  cases hd : P.underlying t with
  | none => simp [hd] at h
  | some d =>
    cases hs : sizeT P t with
    | none => simp [hd, hs] at h
    | some m =>
      simp only [hd, hs] at h
      cases ha : isAggD d with
      | true =>
        simp only [ha, cond_true] at h
        cases ht : takeL m (cs.drop off) with
        | none => simp [ht] at h
        | some l =>
          simp only [ht, Option.some.injEq] at h; subst h
          obtain ⟨h1, h2⟩ := takeL_spec m _ ht
          subst h1
          have hag : ∀ W, (isAgg t).run P W = .ok true W := fun W => by
            cases d <;> first | (cases ha; done) | simp [isAgg, r_und hd]
          refine ⟨_, .agg (VsR.take m (VsR.drop off hc)), fun W => ?_⟩
          simp only [part, Sem.run_bind, hag, Result.andThen_ok, if_true, r_size hs, Sem.run_pure]
          congr 2
          apply Array.ext'
          simp [Array.toList_extract, List.take_drop]
      | false =>
        simp only [ha, cond_false] at h
        have hag : ∀ W, (isAgg t).run P W = .ok false W := fun W => by
          cases d <;> first | (cases ha; done) | simp [isAgg, r_und hd]
        obtain ⟨V, h1, h2⟩ := hc.get h
        refine ⟨V, h2, fun W => ?_⟩
        rw [arr_get?] at h1
        simp only [part, Sem.run_bind, hag, Result.andThen_ok, h1]
        rfl
theorem partOf_inv {pc : PartC} {v : Value} {off : Nat} {K : Value → Bool} (h : partOf pc v off K = true) : ∃ cs w, v = .agg cs ∧ pc.p cs.toList off = some w ∧ K w = true := by
  unfold partOf at h
  cases v <;> (try (cases h; done))
  rename_i cs
  simp only at h
  cases hp : pc.p cs.toList off with
  | none => simp [hp] at h
  | some w => simp only [hp] at h; exact ⟨cs, w, rfl, hp, h⟩
theorem VR.agg_inv {ρ : Ren} {cs : Array Value} {V : Value} (h : VR ρ (.agg cs) V) : ∃ C : Array Value, V = .agg C ∧ VsR ρ cs.toList C.toList := by cases h with | agg h => exact ⟨_, rfl, h⟩
theorem sil_field {t : TypeId} {x : Operand} {i : Nat} {g : GW Value k} (ho : o.op = .field t x i) (hx : cEv k n x = some g) {c : SilC k} (hc : oField P t g i = .sil c) : SilOK P k n c o := by
  unfold oField at hc
  split at hc
  · rename_i fs hd
    cases hf : fs.toList[i]? with
    | none => simp [hf] at hc
    | some fd =>
      simp only [hf, OpC.sil.injEq] at hc; subst hc
      intro f K h
      obtain ⟨cs, w, hv, hw, h⟩ := partOf_inv h
      refine ⟨w, h, fun ρ A he => ?_⟩
      have h1 := er1 he hx (by rw [ho]; simp [Op.operands])
      rw [hv] at h1
      obtain ⟨C, hC, hR⟩ := h1.agg_inv
      obtain ⟨V, hV, hr⟩ := part_run hR hw
      refine ⟨V, hV, fun W => ?_⟩
      have hf' : fs[i]? = some fd := by rw [← arr_get?]; exact hf
      simp [execOp, ho, hC, Instr.field, r_und hd, hf', asAgg, hr]
  · cases hc
theorem sil_index {t : TypeId} {x i : Operand} {g gi : GW Value k} (ho : o.op = .index t x i) (hx : cEv k n x = some g) (hi : cEv k n i = some gi) {c : SilC k} (hc : oIndex P t g gi = .sil c) : SilOK P k n c o := by
  unfold oIndex at hc
  have mx : x ∈ o.op.operands := by rw [ho]; simp [Op.operands]
  have mi : i ∈ o.op.operands := by rw [ho]; simp [Op.operands]
  split at hc
  · rename_i len e hd
    cases hs : sizeT P e with
    | none => simp [hs] at hc
    | some m =>
      simp only [hs, OpC.sil.injEq] at hc; subst hc
      intro f K h
      obtain ⟨ki, j, hj, h⟩ := asNat_inv h
      obtain ⟨hlt, h⟩ := cond_inv h
      obtain ⟨cs, w, hv, hw, h⟩ := partOf_inv h
      refine ⟨w, h, fun ρ A he => ?_⟩
      have h1 := er1 he hx mx
      have h2 := er1 he hi mi
      rw [hv] at h1; rw [hj] at h2
      obtain ⟨C, hC, hR⟩ := h1.agg_inv
      obtain ⟨V, hV, hr⟩ := part_run hR hw
      refine ⟨V, hV, fun W => ?_⟩
      have hlt := blt_true hlt
      have hr' : ∀ W, (part e C (j * m)).run P W = .ok V W := hr
      simp [execOp, ho, hC, h2.int_inv, Instr.index, asIntOf, r_und hd, r_size hs, hlt, hr']
  · rename_i hd
    simp only [OpC.sil.injEq] at hc; subst hc
    intro f K h
    obtain ⟨ki, j, hj, h⟩ := asNat_inv h
    cases hv : g.g f with
    | string w =>
      simp only [hv] at h
      cases hc : w.data.toList[j]? with
      | none => simp [hc] at h
      | some ch =>
        simp only [hc] at h
        refine ⟨_, h, fun ρ A he => ⟨_, .int _ _, fun W => ?_⟩⟩
        have h1 := er1 he hx mx
        have h2 := er1 he hi mi
        rw [hv] at h1; rw [hj] at h2
        have hc' : w[j]? = some ch := by
          rw [arr_get?] at hc
          obtain ⟨hlt, hget⟩ := Array.getElem?_eq_some_iff.1 hc
          have hlt' : j < w.size := hlt
          rw [getElem?_pos w j hlt']
          exact congrArg some hget
        simp [execOp, ho, h1.string_inv, h2.int_inv, Instr.index, asIntOf, r_und hd, hc']
    | _ => simp [hv] at h
  · cases hc
theorem sil_extract {x : Operand} {i : Nat} {g : GW Value k} (ho : o.op = .extract x i) (hx : cEv k n x = some g) :
    SilOK P k n ⟨fun f K => match g.g f with | .tuple vs => (match vs.toList[i]? with | some v => K v | none => false) | _ => false⟩ o := by
  intro f K h
  cases hv : g.g f with
  | tuple vs =>
    simp only [hv] at h
    cases hi : vs.toList[i]? with
    | none => simp [hi] at h
    | some v =>
      simp only [hi] at h
      refine ⟨v, h, fun ρ A he => ?_⟩
      have h1 := er1 he hx (by rw [ho]; simp [Op.operands])
      rw [hv] at h1
      generalize hX : A.eval x = X at h1
      cases h1 with
      | tuple hl =>
        obtain ⟨V, h2, h3⟩ := hl.get hi
        refine ⟨V, h3, fun W => ?_⟩
        simp [execOp, ho, hX, Instr.extract, h2]
  | _ => simp [hv] at h
theorem sil_makeFunc {fn : FuncId} {a c : Array Operand} {ga gc : List (GW Value k)} (ho : o.op = .makeFunc (.func fn) a c) (ha : cEvs k n a.toList = some ga) (hc : cEvs k n c.toList = some gc) :
    SilOK P k n ⟨fun f K => K (.func (.func fn) ⟨evAll f ga⟩ ⟨evAll f gc⟩)⟩ o := by
  intro f K h
  refine ⟨_, h, fun ρ A he => ⟨.func (.func fn) ⟨a.toList.map A.eval⟩ ⟨c.toList.map A.eval⟩, ?_, fun W => ?_⟩⟩
  · refine .func rfl (ers he ha fun x hx => ?_) (ers he hc fun x hx => ?_)
    · rw [ho]; simp [Op.operands]; exact .inl (by simpa using hx)
    · rw [ho]; simp [Op.operands]; exact .inr (by simpa using hx)
  · have e1 : a.map A.eval = ⟨a.toList.map A.eval⟩ := by apply Array.ext'; simp
    have e2 : c.map A.eval = ⟨c.toList.map A.eval⟩ := by apply Array.ext'; simp
    simp only [execOp, ho, Instr.makeFunc]
    rw [e1, e2]; rfl
theorem sil_convInt {t u : TypeId} {x : Operand} {g : GW Value k} {i j : IntKind} (ho : o.op = .convert t u x) (hx : cEv k n x = some g) (ht : P.underlying t = some (.int i)) (hu : P.underlying u = some (.int j)) :
    SilOK P k n ⟨fun f K => Ab.asInt (g.g f) fun _ m => K (.int j (wr j m))⟩ o := by
  intro f K h
  obtain ⟨a, m, hv, h⟩ := asInt_inv h
  refine ⟨_, h, fun ρ A he => ⟨_, .int _ _, fun W => ?_⟩⟩
  have h1 := er1 he hx (by rw [ho]; simp [Op.operands])
  rw [hv] at h1
  simp [execOp, ho, h1.int_inv, convert, r_und ht, r_und hu, Conv.intToInt, wr_eq]
section
variable {ρ : Ren}
theorem map2_inv {a b : Option Bool} {r : Bool} (h : (match a, b with | some r, some r' => some (r && r') | _, _ => none) = some r) : ∃ p q, a = some p ∧ b = some q ∧ r = (p && q) := by
  cases a <;> cases b <;> simp at h
  exact ⟨_, _, rfl, rfl, h.symm⟩
mutual
theorem eqV_run : ∀ (f : Nat) {t : TypeId} {x y X Y : Value} {r : Bool}, eqV P f t x y = some r → VR ρ x X → VR ρ y Y → ∀ d, f ≤ d → ∀ W, (Op.equalIn d t X Y).run P W = .ok r W
  | 0, _, _, _, _, _, _, h, _, _, _, _, _ => by simp [eqV] at h
  | f + 1, t, x, y, X, Y, r, h, hx, hy, d, hd, W => by
    obtain ⟨d, rfl⟩ : ∃ e, d = e + 1 := ⟨d - 1, by omega⟩
    unfold eqV at h
    cases hu : P.underlying t with
    | none => simp [hu] at h
    | some u =>
      cases u <;> simp only [hu] at h <;> (try (cases h; done))
      · cases x <;> (try (cases h; done))
        cases y <;> (try (cases h; done))
        simp only [Option.some.injEq] at h
        subst h
        rw [hx.bool_inv, hy.bool_inv]
        exact run_equalIn_bool' W d t _ _ hu
      · cases x <;> (try (cases h; done))
        cases y <;> (try (cases h; done))
        rename_i k a m b n
        simp only at h
        cases hk : Nat.beq (kIdx a) (kIdx b) with
        | false => rw [hk] at h; cases h
        | true =>
          rw [hk] at h
          have := kIdx_inj hk
          subst this
          simp only [cond_true, Option.some.injEq] at h
          subst h
          rw [hx.int_inv, hy.int_inv, iEq_eq]
          exact run_equalIn_int W d t _ _ _ _ hu
      · cases x <;> (try (cases h; done))
        cases y <;> (try (cases h; done))
        rename_i n e xs ys
        simp only at h
        cases hs : sizeT P e with
        | none => simp [hs] at h
        | some m =>
          simp only [hs] at h
          obtain ⟨XS, rfl, hX⟩ := hx.agg_inv
          obtain ⟨YS, rfl, hY⟩ := hy.agg_inv
          obtain ⟨i, hi, him⟩ := sizeT_info hs
          have hc : P.cellsOf e = m := by simp [Program.cellsOf, hi, him]
          rw [run_equalIn_array W d XS YS hu hi, hc, List.range_eq_range']
          exact eqIs_run f h hX hY d (by omega) W
      · cases x <;> (try (cases h; done))
        cases y <;> (try (cases h; done))
        rename_i fs xs ys
        simp only at h
        cases hst : P.stoodInHeld t with
        | true => rw [hst] at h; cases h
        | false =>
          rw [hst] at h
          obtain ⟨XS, rfl, hX⟩ := hx.agg_inv
          obtain ⟨YS, rfl, hY⟩ := hy.agg_inv
          have hfs : P.fieldsOf t = fs := by simp [Program.fieldsOf, hu]
          rw [run_equalIn_struct W d t XS YS (by rw [hfs]; exact hu) hst, hfs]
          exact eqFs_run f h hX hY d (by omega) W
theorem eqFs_run : ∀ (f : Nat) {xs ys : List Value} {XS YS : Array Value} {fs : List Field} {r : Bool}, eqFs P f xs ys fs = some r → VsR ρ xs XS.toList → VsR ρ ys YS.toList → ∀ d, f ≤ d → ∀ W, (Op.eqFields d XS YS fs).run P W = .ok r W
  | 0, _, _, _, _, _, _, h, _, _, _, _, _ => by simp [eqFs] at h
  | f + 1, xs, ys, XS, YS, [], r, h, _, _, d, _, W => by simp only [eqFs, Option.some.injEq] at h; subst h; rfl
  | f + 1, xs, ys, XS, YS, fd :: fs, r, h, hX, hY, d, hd, W => by
    unfold eqFs at h
    cases hn : (fd.name == "_") with
    | true => rw [hn] at h; cases h
    | false =>
      rw [hn] at h
      simp only [cond_false] at h
      cases ha : (cPart P fd.type).p xs fd.offset with
      | none => simp [ha] at h
      | some a =>
        cases hb : (cPart P fd.type).p ys fd.offset with
        | none => simp [ha, hb] at h
        | some b =>
          simp only [ha, hb] at h
          obtain ⟨p, q, h1, h2, rfl⟩ := map2_inv h
          obtain ⟨A, hA, ra⟩ := part_run hX ha
          obtain ⟨B, hB, rb⟩ := part_run hY hb
          have hn' : fd.name ≠ "_" := by simpa using hn
          have e1 := eqV_run f h1 hA hB d (by omega) W
          have e2 := eqFs_run f h2 hX hY d (by omega) W
          simp only [Op.eqFields, hn', ne_eq, not_false_eq_true, if_true, Sem.run_bind, ra, rb, e1, Result.andThen_ok]
          cases p
          · rfl
          · simpa using e2
theorem eqIs_run : ∀ (f : Nat) {e : TypeId} {m : Nat} {xs ys : List Value} {XS YS : Array Value} {n i : Nat} {r : Bool}, eqIs P f e m xs ys n i = some r → VsR ρ xs XS.toList → VsR ρ ys YS.toList → ∀ d, f ≤ d → ∀ W, (Op.eqItems d e m XS YS (List.range' i n)).run P W = .ok r W
  | 0, _, _, _, _, _, _, _, _, _, h, _, _, _, _, _ => by simp [eqIs] at h
  | f + 1, e, m, xs, ys, XS, YS, 0, i, r, h, _, _, d, _, W => by simp only [eqIs, Option.some.injEq] at h; subst h; rfl
  | f + 1, e, m, xs, ys, XS, YS, n + 1, i, r, h, hX, hY, d, hd, W => by
    unfold eqIs at h
    have h : (match (cPart P e).p xs (i * m), (cPart P e).p ys (i * m) with
      | some a, some b => match eqV P f e a b, eqIs P f e m xs ys n (i + 1) with
        | some r, some r' => some (r && r')
        | _, _ => none
      | _, _ => none) = some r := h
    cases ha : (cPart P e).p xs (i * m) with
    | none => simp [ha] at h
    | some a =>
      cases hb : (cPart P e).p ys (i * m) with
      | none => simp [ha, hb] at h
      | some b =>
        simp only [ha, hb] at h
        obtain ⟨p, q, h1, h2, rfl⟩ := map2_inv h
        obtain ⟨A, hA, ra⟩ := part_run hX ha
        obtain ⟨B, hB, rb⟩ := part_run hY hb
        have ra : ∀ W, (part e XS (i * m)).run P W = .ok A W := ra
        have rb : ∀ W, (part e YS (i * m)).run P W = .ok B W := rb
        have e1 := eqV_run f h1 hA hB d (by omega) W
        have e2 := eqIs_run f h2 hX hY d (by omega) W
        simp only [List.range'_succ, Op.eqItems, Sem.run_bind, ra, rb, e1, Result.andThen_ok]
        cases p
        · rfl
        · simpa using e2
end
end
theorem sil_binA {op : BinOp} {t u : TypeId} {x y : Operand} {gx gy : GW Value k} (ho : o.op = .binOp op t x y u) (hx : cEv k n x = some gx) (hy : cEv k n y = some gy) :
    ∃ c, oBinA P op t x y gx gy = .sil c ∧ SilOK P k n c o := by
  obtain ⟨c, hc, hok⟩ := sil_bin (P := P) ho hx hy
  have hmx : x ∈ o.op.operands := by rw [ho]; simp [Op.operands]
  have hmy : y ∈ o.op.operands := by rw [ho]; simp [Op.operands]
  have hex : ∀ A : Act, execOp A.eval o = (do pure (.value (← (do eqGuard op t x y (A.eval x) (A.eval y); binOp op t (A.eval x) (A.eval y) : Sem Value)))) := fun A => by simp only [execOp, ho]
  unfold oBinA
  rw [hc]
  cases hcd : isAggT P t with
  | false => exact ⟨c, rfl, hok⟩
  | true =>
    have h1 := hcd
    have agg : ∀ {f : Fm Value k} {r : Bool}, eqV P 40 t (gx.g f) (gy.g f) = some r → ∃ xs ys, gx.g f = .agg xs ∧ gy.g f = .agg ys := by
      intro f r h
      unfold isAggT at h1
      unfold eqV at h
      split at h1
      · rename_i fs hu
        simp only [hu] at h
        split at h
        · exact ⟨_, _, ‹_›, ‹_›⟩
        · cases h
      · rename_i m e hu
        simp only [hu] at h
        split at h
        · exact ⟨_, _, ‹_›, ‹_›⟩
        · cases h
      · cases h1
    have key : ∀ {f : Fm Value k} {r : Bool}, eqV P 40 t (gx.g f) (gy.g f) = some r → ∀ (ρ : Ren) A, ER ρ k n f A o → ∀ W, (∃ XS YS, A.eval x = .agg XS ∧ A.eval y = .agg YS) ∧ (Op.equalIn 10000 t (A.eval x) (A.eval y)).run P W = .ok r W := by
      intro f r h ρ A he W
      obtain ⟨xs, ys, e1, e2⟩ := agg h
      have r1 := er1 he hx hmx
      have r2 := er1 he hy hmy
      refine ⟨?_, eqV_run 40 h r1 r2 10000 (by omega) W⟩
      rw [e1] at r1; rw [e2] at r2
      obtain ⟨XS, h3, _⟩ := r1.agg_inv
      obtain ⟨YS, h4, _⟩ := r2.agg_inv
      exact ⟨XS, YS, h3, h4⟩
    cases op <;> try exact ⟨c, rfl, hok⟩
    · refine ⟨_, rfl, fun f K h => ?_⟩
      cases h2 : aggOk P t with
      | false =>
        have h : (bif aggOk P t then _ else c.m f K) = true := h
        rw [h2] at h; exact hok f K h
      | true =>
      have hg : P.eqGuardType P.depth t = false := by unfold aggOk at h2; simpa using h2
      simp only [h2, cond_true] at h
      cases hv : eqV P 40 t (gx.g f) (gy.g f) with
      | none => rw [hv] at h; exact hok f K h
      | some r =>
        rw [hv] at h
        refine ⟨.bool r, h, fun ρ A he => ⟨.bool r, .bool r, fun W => ?_⟩⟩
        obtain ⟨⟨XS, YS, e1, e2⟩, e3⟩ := key hv ρ A he W
        rw [hex, e1, e2, Sem.run_bind, Sem.run_bind, run_eqGuard_agg W _ t x y XS YS hg, Result.andThen_ok, run_eql_struct W t XS YS, ← e1, ← e2, e3]; rfl
    · refine ⟨_, rfl, fun f K h => ?_⟩
      cases h2 : aggOk P t with
      | false =>
        have h : (bif aggOk P t then _ else c.m f K) = true := h
        rw [h2] at h; exact hok f K h
      | true =>
      have hg : P.eqGuardType P.depth t = false := by unfold aggOk at h2; simpa using h2
      simp only [h2, cond_true] at h
      cases hv : eqV P 40 t (gx.g f) (gy.g f) with
      | none => rw [hv] at h; exact hok f K h
      | some r =>
        rw [hv] at h
        refine ⟨.bool (!r), h, fun ρ A he => ⟨.bool (!r), .bool _, fun W => ?_⟩⟩
        obtain ⟨⟨XS, YS, e1, e2⟩, e3⟩ := key hv ρ A he W
        rw [hex, e1, e2, Sem.run_bind, Sem.run_bind, run_eqGuard_agg W _ t x y XS YS hg, Result.andThen_ok, run_neq_struct W t XS YS, ← e1, ← e2, e3]; rfl
end Go.Ab
