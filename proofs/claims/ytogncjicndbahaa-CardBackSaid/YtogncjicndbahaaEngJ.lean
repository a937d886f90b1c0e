/- The operations that lay a new block. -/
import Derived.Test.YtogncjicndbahaaEngI
namespace Go.Ab
variable {P : Program} {k n : Nat} {o : Oper}

def AlOK (P : Program) (k n : Nat) (c : AlC k) (o : Oper) : Prop :=
  ∀ f K, c.m f K = true → ∃ ob vf, K ob vf = true ∧ ∀ ρ A, ER ρ k n f A o → ∃ (O : Obj) (VF : Nat → Value) (sz : Nat),
    (∀ W, (execOp A.eval o).run P W = .ok (.value (VF W.heap.size)) (W.alloc O)) ∧ (∀ blk, OR P ρ ⟨blk, 0, sz, 0, false⟩ ob O) ∧ ∀ ρ' b r, ρ' b = some r → r.sh = 0 → r.gr = false → VR ρ' (vf b) (VF r.blk)

theorem mkC_OR {ρ : Ren} {l L : List Value} (h : VsR ρ l L) (hl : l.length ≤ 32768) {e : TypeId} {g : Bool} {es sz blk : Nat} {C : Array Value} (hC : C.toList = L ++ C.toList.drop L.length) (hsz : sz = C.size) (hg : g = true → sizeT P e = some es) :
    OR P ρ ⟨blk, 0, sz, es, g⟩ (mkC l e g) (.cells C e (0, 0)) := by
  have hlen := h.length
  have hle := le_lvl l.length hl
  have hCs : L.length ≤ C.size := by
    have := congrArg List.length hC
    simp only [List.length_append, List.length_drop, Array.length_toList] at this
    omega
  refine ⟨C, _, _, rfl, fun _ => ⟨rfl, rfl⟩, rfl, hg, hsz, by simp only; omega, hle, fun i hi => ?_⟩
  show VR ρ ((getW (lvl l.length) i).g (puts (lvl l.length) 0 l (ini undef (lvl l.length)))) _
  rw [puts_get _ l 0 i _ (by omega) (by omega), if_pos ⟨Nat.zero_le _, by omega⟩]
  obtain ⟨V, h1, h2⟩ := h.get (List.getElem?_eq_getElem hi)
  have h3 : C[i]? = some V := by
    rw [← arr_get?, hC, List.getElem?_append_left (by omega)]; exact h1
  have e1 : l.getD (i - 0) undef = l[i] := by simp [List.getD, hi]
  have e2 : C.getD (0 + i) undef = V := by simp [Array.getD_eq_getD_getElem?, h3]
  rw [e1, e2]; exact h2
theorem mkC_OR0 {ρ : Ren} {l L : List Value} (h : VsR ρ l L) (hl : l.length ≤ 32768) {e : TypeId} {blk : Nat} {C : Array Value} (hC : C.toList = L) : OR P ρ ⟨blk, 0, L.length, 0, false⟩ (mkC l e false) (.cells C e (0, 0)) :=
  mkC_OR h hl (by rw [hC]; simp) (by rw [← hC]; simp) (fun h => by cases h)
theorem mkL_inv {l : List Value} {e : TypeId} {v : Nat → Value} {K : AObj → (Nat → Value) → Bool} (h : mkL l e v K = true) : l.length ≤ 32768 ∧ K (mkC l e false) v = true := by
  obtain ⟨h1, h2⟩ := cond_inv h
  exact ⟨ble_true h1, h2⟩
theorem newRow_run (e : TypeId) (C : Array Value) (W : World) : (newRow e C).run P W = .ok ⟨W.heap.size, 0, none⟩ (W.alloc (.cells C e (0, 0))) := rfl
theorem newVar_run (e : TypeId) (v : Value) (W : World) : (newVar e v).run P W = .ok ⟨W.heap.size, 0, none⟩ (W.alloc (.cells v.cells e (0, 0))) := rfl
theorem VR.ptr0 {ρ : Ren} {b : Nat} {r : Rn} (h : ρ b = some r) (hs : r.sh = 0) : VR ρ (Ab.ptr b 0) (.pointer (some ⟨r.blk, 0, none⟩)) := by
  have := VR.ptr (o := 0) h
  rw [hs] at this; exact this
theorem VR.slc0 {ρ : Ren} {b : Nat} {r : Rn} (h : ρ b = some r) (hs : r.sh = 0) (hg : r.gr = false) {m c : Nat} (hmc : m ≤ c) : VR ρ (Ab.slc b 0 m c) (.slice (some ⟨r.blk, 0, none⟩) m c) :=
  .slc h hmc (fun _ => ⟨rfl, by rw [hs]⟩) (fun h => by rw [hg] at h; cases h)
theorem al_alloc {t : TypeId} (ho : o.op = .alloc t) {c : AlC k} (hc : oAlloc P t = (.al c : OpC k)) : AlOK P k n c o := by
  unfold oAlloc at hc
  cases hz : zeroL P t with
  | none => simp [hz] at hc
  | some z =>
    simp only [hz, OpC.al.injEq] at hc; subst hc
    intro f K h
    obtain ⟨hl, h⟩ := mkL_inv h
    refine ⟨_, _, h, fun ρ A he => ?_⟩
    obtain ⟨i, v, g1, g2, g3, g4⟩ := zeroL_inv hz
    rw [vcells_eq] at g4
    refine ⟨.cells v.cells t (0, 0), fun B => .pointer (some ⟨B, 0, none⟩), z.length, fun W => ?_, fun blk => ?_, fun ρ' b r h1 h2 _ => VR.ptr0 h1 h2⟩
    · have hzr : (zeroValue t).run P W = .ok v W := by simp [zeroValue, typeInfo, g1, g2]
      simp only [execOp, ho, Instr.alloc, Sem.run_bind, hzr, Result.andThen_ok, newVar_run, Sem.run_pure]
    · have := pureC_cells ρ g3
      rw [← g4] at this
      exact mkC_OR0 this hl g4.symm
theorem al_box {t : TypeId} {x : Operand} {g : GW Value k} (ho : o.op = .box t x) (hx : cEv k n x = some g) {c : AlC k} (hc : oBox t g = .al c) : AlOK P k n c o := by
  simp only [oBox, OpC.al.injEq] at hc; subst hc
  intro f K h
  have hrun : ∀ (A : Act) W, (execOp A.eval o).run P W = .ok (.value (.pointer (some ⟨W.heap.size, 0, none⟩))) (W.alloc (.cells (A.eval x).cells t (0, 0))) := fun A W => by
    simp only [execOp, ho, Instr.box, Sem.run_bind, newVar_run, Result.andThen_ok, Sem.run_pure]
  have mx : x ∈ o.op.operands := by rw [ho]; simp [Op.operands]
  have one : ∀ v, g.g f = v → (∀ cs, v ≠ .agg cs) → isCh v = false → K (.cells 0 1 v t false) (fun b => ptr b 0) = true →
      ∃ ob vf, K ob vf = true ∧ ∀ ρ A, ER ρ k n f A o → ∃ (O : Obj) (VF : Nat → Value) (sz : Nat),
        (∀ W, (execOp A.eval o).run P W = .ok (.value (VF W.heap.size)) (W.alloc O)) ∧ (∀ blk, OR P ρ ⟨blk, 0, sz, 0, false⟩ ob O) ∧ ∀ ρ' b r, ρ' b = some r → r.sh = 0 → r.gr = false → VR ρ' (vf b) (VF r.blk) := by
    intro v hv hne hch h
    refine ⟨_, _, h, fun ρ A he => ⟨_, fun B => .pointer (some ⟨B, 0, none⟩), 1, hrun A, fun blk => ?_, fun ρ' b r h1 h2 _ => VR.ptr0 h1 h2⟩⟩
    have h1 := er1 he hx mx
    rw [hv] at h1
    have h2 : (A.eval x).cells = #[A.eval x] := by
      generalize A.eval x = X at h1
      cases h1 <;> first | rfl | exact absurd rfl (hne _) | exact absurd hch (by simp [isCh])
    rw [h2]
    refine ⟨_, _, _, rfl, fun _ => ⟨rfl, rfl⟩, rfl, (fun h => by cases h), rfl, by simp, by simp [pow8], fun i hi => ?_⟩
    have : i = 0 := by omega
    subst this
    exact h1
  cases hv : g.g f with
  | agg cs =>
    simp only [hv] at h
    obtain ⟨hl, h⟩ := mkL_inv h
    refine ⟨_, _, h, fun ρ A he => ?_⟩
    have h1 := er1 he hx mx
    rw [hv] at h1
    obtain ⟨C, hC, hR⟩ := h1.agg_inv
    refine ⟨_, fun B => .pointer (some ⟨B, 0, none⟩), C.toList.length, hrun A, fun blk => ?_, fun ρ' b r h1 h2 _ => VR.ptr0 h1 h2⟩
    rw [hC]
    exact mkC_OR0 hR hl rfl
  | chan c => simp only [hv] at h; cases h
  | _ => simp only [hv] at h; exact one _ hv (by intro cs h; cases h) rfl h
theorem rep_eq {z : Array Value} : ∀ (len : Nat), ((Array.range (len * z.size)).map fun i => z[i % z.size]!).toList = repL z.toList len
  | 0 => by simp [repL]
  | len + 1 => by
    have ih := rep_eq (z := z) len
    simp only [Array.toList_map, Array.toList_range] at ih ⊢
    have e : (len + 1) * z.size = z.size + len * z.size := by rw [Nat.add_mul, Nat.one_mul, Nat.add_comm]
    show _ = z.toList ++ repL z.toList len
    rw [e, List.range_add, List.map_append, List.map_map, ← ih]
    congr 1
    · apply List.ext_getElem (by simp)
      intro i h1 h2
      simp at h1
      simp [Nat.mod_eq_of_lt h1, h1]
    · apply List.map_congr_left
      intro i hi
      simp
theorem repL_length (z : List Value) : ∀ m, (repL z m).length = m * z.length
  | 0 => by simp [repL]
  | m + 1 => by simp [repL, repL_length z m, Nat.add_mul, Nat.add_comm]
theorem repL_VsR {ρ : Ren} {z Z : List Value} (h : VsR ρ z Z) : ∀ m, VsR ρ (repL z m) (repL Z m)
  | 0 => .nil
  | m + 1 => h.append (repL_VsR h m)
theorem al_buildSlice {t : TypeId} {len : Nat} {ps : Array (Nat × Operand)} {gs : List (Nat × GW Value k)} (ho : o.op = .buildSlice t len ps) (hp : cParts k n ps.toList = some gs) {c : AlC k}
    (hc : oBuildSlice P t len gs = .al c) : AlOK P k n c o := by
  have hops : ∀ p ∈ ps.toList, p.2 ∈ o.op.operands := fun p hp => by rw [ho]; simp [Op.operands]; exact ⟨p.1, by simpa using hp⟩
  have hmap : ∀ A : Act, (ps.map fun (i, x) => (i, A.eval x)).toList = ps.toList.map fun (i, x) => (i, A.eval x) := fun A => by simp
  unfold oBuildSlice elemOfSlice at hc
  cases hd : P.underlying t with
  | none => simp [hd] at hc
  | some d =>
    cases d <;> simp only [hd] at hc <;> (try (cases hc; done))
    rename_i e
    cases hs : sizeT P e with
    | none => simp [hs] at hc
    | some m =>
      cases hz : zeroL P e with
      | none => simp [hs, hz] at hc
      | some z =>
        simp only [hs, hz] at hc
        cases hb : (Nat.ble (Nat.mul len m) 32768 && Nat.beq z.length m) with
        | false => rw [hb] at hc; cases hc
        | true =>
          rw [hb] at hc
          simp only [cond_true, OpC.al.injEq] at hc; subst hc
          obtain ⟨hb1, hb2⟩ := and_true hb
          have hb1 : len * m ≤ 32768 := ble_true hb1
          have hb2 := beq_true hb2
          intro f K h
          have h : (match fillP f (fun i => some (Nat.mul i m, m)) (repL z len) gs with | some l => mkL l e (fun b => slc b 0 len len) K | none => false) = true := h
          cases hl : fillP f (fun i => some (Nat.mul i m, m)) (repL z len) gs with
          | none => rw [hl] at h; cases h
          | some l =>
            rw [hl] at h
            obtain ⟨hll, h⟩ := mkL_inv h
            refine ⟨_, _, h, fun ρ A he => ?_⟩
            obtain ⟨i, v, g1, g2, g3, g4⟩ := zeroL_inv hz
            rw [vcells_eq] at g4
            have hvsz : v.cells.size = m := by rw [← hb2, g4]; simp
            have hzz := pureC_cells ρ g3
            rw [← g4] at hzz
            have hstart : VsR ρ (repL z len) ((Array.range (len * v.cells.size)).map fun i => v.cells[i % v.cells.size]!).toList := by
              rw [rep_eq, ← g4]; exact repL_VsR hzz len
            obtain ⟨L, hL, hR⟩ := fillP_sound (cParts_sound he hp hops) hstart hl
            refine ⟨.cells ⟨L⟩ e (0, 0), fun B => .slice (some ⟨B, 0, none⟩) len len, L.length, fun W => ?_, fun blk => mkC_OR0 hR hll rfl, fun ρ' b r h1 h2 h3 => VR.slc0 h1 h2 h3 (Nat.le_refl _)⟩
            have hzr : (zeroValue e).run P W = .ok v W := by simp [zeroValue, typeInfo, g1, g2]
            have hnb : ¬ len * m > 2 ^ 24 := by
              have : (2 : Nat) ^ 24 = 16777216 := by decide
              omega
            have hpl : (fun i : Nat => some (i * m, m)) = fun i => some (Nat.mul i m, m) := rfl
            simp only [execOp, ho, Instr.buildSlice, Sem.run_bind, r_und hd, Result.andThen_ok, r_size hs, hnb, if_false, hmap A]
            by_cases h0 : len * m = 0
            · have hzero : ((Array.range (len * m)).map fun i => (#[] : Array Value)[i % (#[] : Array Value).size]!) = ((Array.range (len * v.cells.size)).map fun i => v.cells[i % v.cells.size]!) := by
                rw [hvsz, h0]; simp
              simp only [h0, if_true, Sem.run_bind, Sem.run_pure, Result.andThen_ok]
              rw [h0] at hzero
              rw [hzero, hpl, hL]
              simp only [Sem.run_bind, newRow_run, Result.andThen_ok, Sem.run_pure]
            · simp only [h0, if_false, Sem.run_bind, hzr, Result.andThen_ok, Sem.run_pure]
              rw [hvsz] at hL
              rw [hvsz, hpl, hL]
              simp only [Sem.run_bind, newRow_run, Result.andThen_ok, Sem.run_pure]
theorem al_makeSlice {t : TypeId} {x y : Operand} {g g' : GW Value k} (ho : o.op = .makeSlice t x y) (hx : cEv k n x = some g) (hy : cEv k n y = some g') {c : AlC k} (hc : oMakeSlice P t g g' = .al c) : AlOK P k n c o := by
  have mx : x ∈ o.op.operands := by rw [ho]; simp [Op.operands]
  have my : y ∈ o.op.operands := by rw [ho]; simp [Op.operands]
  unfold oMakeSlice elemOfSlice at hc
  cases hd : P.underlying t with
  | none => simp [hd] at hc
  | some d =>
    cases d <;> simp only [hd] at hc <;> (try (cases hc; done))
    rename_i e
    cases hi : P.info? e with
    | none => simp [hi] at hc
    | some i =>
      cases hz : zeroL P e with
      | none => simp [hi, hz] at hc
      | some z =>
        simp only [hi, hz] at hc
        cases hb : (Nat.ble i.bytes 1000000 && Nat.beq z.length i.size) with
        | false => rw [hb] at hc; cases hc
        | true =>
          rw [hb] at hc
          simp only [cond_true, OpC.al.injEq] at hc; subst hc
          obtain ⟨hb1, hb2⟩ := and_true hb
          have hb1 := ble_true hb1
          have hb2 := beq_true hb2
          intro f K h
          obtain ⟨k1, l, hl, h⟩ := asNat_inv h
          obtain ⟨k2, cp, hcp, h⟩ := asNat_inv h
          obtain ⟨hlc, h⟩ := cond_inv h
          obtain ⟨hlc, hc3⟩ := and_true hlc
          have hlc := ble_true hlc
          have hc3 := ble_true hc3
          obtain ⟨hll, h⟩ := mkL_inv h
          refine ⟨_, _, h, fun ρ A he => ?_⟩
          have h1 := er1 he hx mx
          have h2 := er1 he hy my
          rw [hl] at h1; rw [hcp] at h2
          obtain ⟨i', v, g1, g2, g3, g4⟩ := zeroL_inv hz
          rw [hi] at g1; cases g1
          rw [vcells_eq] at g4
          have hvsz : v.cells.size = i.size := by rw [← hb2, g4]; simp
          have hzz := pureC_cells ρ g3
          rw [← g4] at hzz
          have hR : VsR ρ (repL z cp) ((Array.range (cp * v.cells.size)).map fun i => v.cells[i % v.cells.size]!).toList := by
            rw [rep_eq, ← g4]; exact repL_VsR hzz cp
          refine ⟨.cells ((Array.range (cp * v.cells.size)).map fun i => v.cells[i % v.cells.size]!) e (0, 0), fun B => .slice (some ⟨B, 0, none⟩) l cp, _, fun W => ?_, fun blk => mkC_OR0 hR hll rfl, fun ρ' b r h1 h2 h3 => VR.slc0 h1 h2 h3 hlc⟩
          have hzr : (zeroValue e).run P W = .ok v W := by simp [zeroValue, typeInfo, hi, g2]
          have hsz : (sizeOf e).run P W = .ok i.size W := by simp [sizeOf, typeInfo, hi]
          have w1 : IntKind.i64.wrap (Int.ofNat l) = (l : Int) := IntWalk.i64_in _ ⟨by show (-9223372036854775808 : Int) ≤ (l : Int); omega, by show (l : Int) ≤ 9223372036854775807; omega⟩
          have w2 : IntKind.i64.wrap (Int.ofNat cp) = (cp : Int) := IntWalk.i64_in _ ⟨by show (-9223372036854775808 : Int) ≤ (cp : Int); omega, by show (cp : Int) ≤ 9223372036854775807; omega⟩
          have hbig : (i.bytes : Int) * (cp : Int) ≤ 281474976710656 := by
            have : i.bytes * cp ≤ 1000000 * 32768 := Nat.mul_le_mul hb1 hc3
            have : ((i.bytes * cp : Nat) : Int) ≤ ((1000000 * 32768 : Nat) : Int) := Int.ofNat_le.2 this
            rw [Int.natCast_mul] at this
            omega
          have c1 : ¬ ((cp : Int) < 0) := by omega
          have c2 : ¬ ((i.bytes : Int) * (cp : Int) > 2 ^ 48) := by
            have : (2 : Int) ^ 48 = 281474976710656 := by decide
            omega
          have c3 : ¬ ((l : Int) < 0) := by omega
          have c4 : ¬ ((l : Int) > (cp : Int)) := by omega
          have htl : (typeInfo e).run P W = .ok i W := by simp [typeInfo, hi]
          simp only [execOp, ho, h1.int_inv, h2.int_inv, Instr.makeSlice, Sem.run_bind, r_und hd, Result.andThen_ok, Go.asInt, asIntOf, Sem.run_pure, htl, w1, w2]
          simp only [c1, c2, c3, c4, decide_false, Bool.or_self, Bool.false_or, Bool.false_eq_true, if_false, run_askRoom, Result.andThen_ok, Int.toNat_natCast, Sem.run_bind, hsz, hvsz]
          by_cases h0 : cp * i.size = 0
          · have hzero : ((Array.range (cp * i.size)).map fun j => (#[] : Array Value)[j % (#[] : Array Value).size]!) = ((Array.range (cp * i.size)).map fun j => v.cells[j % i.size]!) := by
              rw [h0]; simp
            rw [h0] at hzero
            simp only [h0, if_true, Sem.run_bind, Sem.run_pure, Result.andThen_ok, newRow_run, hzero]
          · simp only [h0, if_false, hzr, Result.andThen_ok, Sem.run_pure, newRow_run, Sem.run_bind, hvsz]
end Go.Ab
