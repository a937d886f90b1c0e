/- Appends and copies. -/
import Derived.Test.YtogncjicndbahaaEngK
namespace Go.Ab
variable {P : Program} {k n : Nat} {o : Oper}

theorem execOp_builtin {c : Call} {b : Builtin} (ho : o.op = .call c) (hb : c.callee = .builtin b) (A : Act) :
    execOp A.eval o = builtin b c.argTypes o.type (c.args.map isK) (c.args.map A.eval) := by
  simp only [execOp, ho, resolve, hb]
  refine congrArg (fun z => builtin b c.argTypes o.type z (c.args.map A.eval)) ?_
  apply Array.ext'
  simp only [Array.toList_map]
  exact List.map_congr_left fun x _ => by cases x <;> rfl
theorem source_sound {s : St} {z : Nat} {x : Value} {K : Nat → List Value → Bool} (h : source s z x K = true) :
    ∃ m l, K m l = true ∧ l.length = m * z ∧ ∀ ρ X, VR ρ x X → (∀ W, (Builtin.lenOf X).run P W = .ok m W) ∧ ∀ W, SR P ρ s W → ∃ L, (Builtin.firstCells z m X).run P W = .ok ⟨L⟩ W ∧ VsR ρ l L := by
  rcases asSlice_inv h with ⟨len, cp, rfl, h⟩ | ⟨b, off, len, cp, rfl, h⟩
  · obtain ⟨h1, h⟩ := cond_inv h
    have h1 := beq_true h1
    subst h1
    refine ⟨0, [], h, by simp, fun ρ X hX => ?_⟩
    cases hX with
    | nils => exact ⟨fun W => rfl, fun W _ => ⟨[], rfl, .nil⟩⟩
  · obtain ⟨bk, bn, bt, be, bg, hb, hle, h⟩ := ldN_inv h
    refine ⟨len, _, h, gets_length _ _ _ _, fun ρ X hX => ?_⟩
    cases hX with
    | slc hr hn h0 h1 =>
      rename_i O C r
      refine ⟨fun W => rfl, fun W hsr => ?_⟩
      by_cases hz : Nat.mul len z = 0
      · refine ⟨[], ?_, by rw [hz]; exact .nil⟩
        have hz : len * z = 0 := hz
        simp [Builtin.firstCells, hz, loadCells, loadCellsFrom]
      · have hO : O = r.sh + off := by
          have hlen : len ≠ 0 := by
            intro e; apply hz; rw [e]; exact Nat.zero_mul _
          cases hg : r.gr with
          | false => exact (h0 hg).2
          | true => exact (h1 hg).2.1 (by omega)
        subst hO
        exact loadN_run hsr hr hb hle
theorem cEvs1 {xs : List Operand} {g : GW Value k} (h : cEvs k n xs = some [g]) : ∃ x, xs = [x] ∧ cEv k n x = some g := by
  cases xs with
  | nil => simp [cEvs] at h
  | cons x xs =>
    simp only [cEvs] at h
    cases h1 : cEv k n x with
    | none => simp [h1] at h
    | some g1 =>
      cases h2 : cEvs k n xs with
      | none => simp [h1, h2] at h
      | some gs =>
        simp only [h1, h2, Option.some.injEq, List.cons.injEq] at h
        obtain ⟨rfl, rfl⟩ := h
        cases xs with
        | nil => exact ⟨x, rfl, h1⟩
        | cons y ys => simp only [cEvs] at h2; cases h3 : cEv k n y <;> cases h4 : cEvs k n ys <;> simp [h3, h4] at h2
theorem cEvs2 {xs : List Operand} {g g' : GW Value k} (h : cEvs k n xs = some [g, g']) : ∃ x y, xs = [x, y] ∧ cEv k n x = some g ∧ cEv k n y = some g' := by
  cases xs with
  | nil => simp [cEvs] at h
  | cons x xs =>
    simp only [cEvs] at h
    cases h1 : cEv k n x with
    | none => simp [h1] at h
    | some g1 =>
      cases h2 : cEvs k n xs with
      | none => simp [h1, h2] at h
      | some gs =>
        simp only [h1, h2, Option.some.injEq, List.cons.injEq] at h
        obtain ⟨rfl, rfl⟩ := h
        obtain ⟨y, rfl, hy⟩ := cEvs1 h2
        exact ⟨x, y, rfl, h1, hy⟩
/-! ### The model's append, in two cases -/
section app
variable {t u e e2 : TypeId} {i : TypeInfo} {X : Value} {W : World} {m q C : Nat} {base : Option Addr} {new : Array Value}
theorem append_fit (ty : TypeId) (ht : P.underlying t = some (.slice e)) (hu : P.underlying u = some (.slice e2)) (hi : P.info? e = some i) (hlen : (Builtin.lenOf X).run P W = .ok q W)
    (hnew : (Builtin.firstCells i.size q X).run P W = .ok new W) (hfit : m + q ≤ C) {W' : World} (hst : ∀ a, base = some a → (storeCells (a.add (m * i.size)) new.toList).run P W = .ok () W') (hno : base = none → W' = W) :
    (Builtin.append_ #[t, u] ty #[.slice base m C, X]).run P W = .ok (.slice base (m + q) C) W' := by
  have hsz : (sizeOf e).run P W = .ok i.size W := by simp [sizeOf, typeInfo, hi]
  simp only [Builtin.append_, List.getElem?_toArray, List.getElem?_cons_zero, List.getElem?_cons_succ, Sem.run_bind, r_und ht, r_und hu, hsz, Result.andThen_ok, Sem.run_pure, Bool.false_eq_true, if_false, hlen, hfit, if_true, Bool.not_false, hnew]
  cases base with
  | none => rw [hno rfl]; rfl
  | some a => simp only [Sem.run_bind, hst a rfl, Result.andThen_ok, Sem.run_pure]
theorem append_grow (ty : TypeId) (ht : P.underlying t = some (.slice e)) (hu : P.underlying u = some (.slice e2)) (hi : P.info? e = some i) {v : Value} (hz : i.zero = some v) (hvz : v.cells.size = i.size)
    (hlen : (Builtin.lenOf X).run P W = .ok q W) (hq : C < m + q) (hsm : m + q ≤ 32768) (hby : i.bytes ≤ 1000000)
    {old : Array Value} (hold : (Builtin.firstCells i.size m (.slice base m C)).run P { W with drawn := W.drawn + 1 } = .ok old { W with drawn := W.drawn + 1 })
    (hnew : (Builtin.firstCells i.size q X).run P { W with drawn := W.drawn + 1 } = .ok new { W with drawn := W.drawn + 1 }) :
    ∃ cp rest, m + q ≤ cp ∧ rest.size = (cp - (m + q)) * i.size ∧ (Builtin.append_ #[t, u] ty #[.slice base m C, X]).run P W = .ok (.slice (some ⟨W.heap.size, 0, none⟩) (m + q) cp) (({ W with drawn := W.drawn + 1 } : World).alloc (.cells (old ++ new ++ rest) e (0, 0))) := by
  have hsz : ∀ W, (sizeOf e).run P W = .ok i.size W := fun W => by simp [sizeOf, typeInfo, hi]
  have hti : ∀ W, (typeInfo e).run P W = .ok i W := fun W => by simp [typeInfo, hi]
  have hzv : ∀ W, (zeroValue e).run P W = .ok v W := fun W => by simp [zeroValue, typeInfo, hi, hz]
  have h1 : ¬ m + q ≤ C := by omega
  have h2 : ¬ (((m + q : Nat) : Int) > IntKind.i64.max) := by
    have : IntKind.i64.max = 9223372036854775807 := by decide
    rw [this]; omega
  have h3 : ¬ Builtin.nextslicecap (m + q) C * i.bytes > 2 ^ 48 := by
    have hb : (m + q) * i.bytes ≤ 140737488355328 := by
      have : (m + q) * i.bytes ≤ 32768 * 1000000 := Nat.mul_le_mul hsm hby
      omega
    have := growslice_fits hq hb
    have e48 : (2 : Nat) ^ 48 = 281474976710656 := by decide
    omega
  let cp := Question.cut (.appendCap (m + q) C e) (W.tape W.drawn (.appendCap (m + q) C e))
  have hcp : m + q ≤ cp := Nat.le_add_right _ _
  refine ⟨cp, Builtin.zeroCells v.cells (cp - (m + q)), hcp, by simp [Builtin.zeroCells, hvz], ?_⟩
  have hch : (choose (.appendCap (m + q) C e)).run P W = .ok cp { W with drawn := W.drawn + 1 } := by
    rw [run_choose]; rfl
  simp only [Builtin.append_, List.getElem?_toArray, List.getElem?_cons_zero, List.getElem?_cons_succ, Sem.run_bind, r_und ht, r_und hu, hsz, hti, Result.andThen_ok, Sem.run_pure, Bool.false_eq_true, if_false, hlen, h1, h2, h3, false_and, Bool.not_false, if_true, hch, run_askRoom, hold, hnew, hzv, newRow_run]
/-- the same two cases for a source in general: a slice, or zeros -/
structure SrcOK (P : Program) (t u e ty : TypeId) (i : TypeInfo) (q : Nat) (X : Value) (App : World → Array Value → Prop) : Prop where
  fit : ∀ {W W' : World} {m C : Nat} {base : Option Addr} {new : Array Value}, App W new → m + q ≤ C → (∀ a, base = some a → (storeCells (a.add (m * i.size)) new.toList).run P W = .ok () W') → (base = none → W' = W) →
    (Builtin.append_ #[t, u] ty #[.slice base m C, X]).run P W = .ok (.slice base (m + q) C) W'
  grow : ∀ {W : World} {m C : Nat} {base : Option Addr} {old new : Array Value}, C < m + q → m + q ≤ 32768 →
    (Builtin.firstCells i.size m (.slice base m C)).run P { W with drawn := W.drawn + 1 } = .ok old { W with drawn := W.drawn + 1 } → App { W with drawn := W.drawn + 1 } new →
    ∃ cp rest, m + q ≤ cp ∧ rest.size = (cp - (m + q)) * i.size ∧ (Builtin.append_ #[t, u] ty #[.slice base m C, X]).run P W = .ok (.slice (some ⟨W.heap.size, 0, none⟩) (m + q) cp) (({ W with drawn := W.drawn + 1 } : World).alloc (.cells (old ++ new ++ rest) e (0, 0)))
theorem srcOK_slice (ty : TypeId) (ht : P.underlying t = some (.slice e)) (hu : P.underlying u = some (.slice e2)) (hi : P.info? e = some i) {v : Value} (hz : i.zero = some v) (hvz : v.cells.size = i.size) (hby : i.bytes ≤ 1000000)
    (hlen : ∀ W, (Builtin.lenOf X).run P W = .ok q W) : SrcOK P t u e ty i q X fun W new => (Builtin.firstCells i.size q X).run P W = .ok new W where
  fit hnew hfit hst hno := append_fit ty ht hu hi (hlen _) hnew hfit hst hno
  grow hq hsm hold hnew := append_grow ty ht hu hi hz hvz (hlen _) hq hsm hby hold hnew
theorem srcOK_zeros (ty : TypeId) {ik jk : IntKind} (ht : P.underlying t = some (.slice e)) (hu : P.underlying u = some (.int ik)) (hi : P.info? e = some i) {v : Value} (hz : i.zero = some v) (hvz : v.cells.size = i.size) (hby : i.bytes ≤ 1000000)
    (hq : q ≤ 32768) : SrcOK P t u e ty i q (.int jk (.ofNat q)) fun _ new => new = Builtin.zeroCells v.cells q := by
  have hsz : ∀ W, (sizeOf e).run P W = .ok i.size W := fun W => by simp [sizeOf, typeInfo, hi]
  have hti : ∀ W, (typeInfo e).run P W = .ok i W := fun W => by simp [typeInfo, hi]
  have hzv : ∀ W, (zeroValue e).run P W = .ok v W := fun W => by simp [zeroValue, typeInfo, hi, hz]
  have w1 : IntKind.i64.wrap (Int.ofNat q) = (q : Int) := IntWalk.i64_in _ ⟨by show (-9223372036854775808 : Int) ≤ (q : Int); omega, by show (q : Int) ≤ 9223372036854775807; omega⟩
  have c1 : ¬ ((q : Int) < 0) := by omega
  have c2 : ¬ ((q : Int) * (i.bytes : Int) > 2 ^ 48) := by
    have : q * i.bytes ≤ 32768 * 1000000 := Nat.mul_le_mul hq hby
    have : ((q * i.bytes : Nat) : Int) ≤ ((32768 * 1000000 : Nat) : Int) := Int.ofNat_le.2 this
    rw [Int.natCast_mul] at this
    have : (2 : Int) ^ 48 = 281474976710656 := by decide
    omega
  have app : ∀ (W : World), (if q * i.size = 0 then (pure #[] : Sem (Array Value)) else do pure (Builtin.zeroCells (← zeroValue e).cells q)).run P W = .ok (Builtin.zeroCells v.cells q) W := fun W => by
    by_cases h0 : q * i.size = 0
    · rw [if_pos h0]
      have : Builtin.zeroCells v.cells q = #[] := by simp [Builtin.zeroCells, hvz, h0]
      rw [this]; rfl
    · rw [if_neg h0]
      simp only [Sem.run_bind, hzv, Result.andThen_ok, Sem.run_pure]
  constructor
  · rintro W W' m C base new rfl hfit hst hno
    simp only [Builtin.append_, List.getElem?_toArray, List.getElem?_cons_zero, List.getElem?_cons_succ, Sem.run_bind, r_und ht, r_und hu, hsz, hti, Result.andThen_ok, Sem.run_pure, Bool.not_true, Bool.false_eq_true, if_false, if_true, Go.asInt, asIntOf, w1, c1, c2, Int.toNat_natCast, app, hfit]
    cases base with
    | none => rw [hno rfl]; rfl
    | some a => simp only [Sem.run_bind, hst a rfl, Result.andThen_ok, Sem.run_pure]
  · rintro W m C base old new hlt hsm hold rfl
    have h1 : ¬ m + q ≤ C := by omega
    have h2 : ¬ (((m + q : Nat) : Int) > IntKind.i64.max) := by
      have : IntKind.i64.max = 9223372036854775807 := by decide
      rw [this]; omega
    have h3 : ¬ Builtin.nextslicecap (m + q) C * i.bytes > 2 ^ 48 := by
      have hb : (m + q) * i.bytes ≤ 140737488355328 := by
        have : (m + q) * i.bytes ≤ 32768 * 1000000 := Nat.mul_le_mul hsm hby
        omega
      have := growslice_fits hlt hb
      have e48 : (2 : Nat) ^ 48 = 281474976710656 := by decide
      omega
    let cp := Question.cut (.appendCap (m + q) C e) (W.tape W.drawn (.appendCap (m + q) C e))
    have hcp : m + q ≤ cp := Nat.le_add_right _ _
    refine ⟨cp, Builtin.zeroCells v.cells (cp - (m + q)), hcp, by simp [Builtin.zeroCells, hvz], ?_⟩
    have hch : (choose (.appendCap (m + q) C e)).run P W = .ok cp { W with drawn := W.drawn + 1 } := by
      rw [run_choose]; rfl
    simp only [Builtin.append_, List.getElem?_toArray, List.getElem?_cons_zero, List.getElem?_cons_succ, Sem.run_bind, r_und ht, r_und hu, hsz, hti, Result.andThen_ok, Sem.run_pure, Bool.not_true, Bool.false_eq_true, if_false, if_true, Go.asInt, asIntOf, w1, c1, c2, Int.toNat_natCast, h1, h2, h3, false_and, app, hch, run_askRoom, hold, hzv, newRow_run]
end app
theorem Stp.weaken {ρ ρ' : Ren} {s s1 s' : St} {W W' : World} (h : Stp P ρ s1 W ρ' s' W') (hsub : ∀ b o, s1.at b = some o → s.at b = some o) (hnx : s1.nx = s.nx) (hfl : s1.fl = s.fl) : Stp P ρ s W ρ' s' W' := by
  have hfx : ∀ b o, s1.fix b o = s.fix b o := fun b o => by unfold St.fix; rw [hfl]
  exact ⟨h.ext, h.sr, h.os, h.tape, h.output, h.size, hnx ▸ h.nx, fun b hb => h.keep b (hnx ▸ hb), fun B hB hn => h.frame B hB fun b o r h1 h2 e => (hfx b o).trans (hn b o r (hsub b o h1) h2 e), fun b o r h1 h2 => by
    rcases h.img b o r h1 h2 with h3 | ⟨c, o', r', h3, h4, h5, h6⟩
    · exact .inl h3
    · exact .inr ⟨c, o', r', hsub c o' h3, h4, h5, fun h => h6 ((hfx c o').trans h)⟩⟩
theorem at_drop {s : St} {b : Nat} (hb : b < 4398046511104) (c : Nat) (o : AObj) (h : (s.set b none).at c = some o) : s.at c = some o := by
  rw [St.at_set hb] at h
  by_cases e : c = b
  · rw [if_pos e] at h; cases h
  · rw [if_neg e] at h; exact h
/-- a block gets a new name, its old one goes -/
theorem Stp.rehome {ρ : Ren} {s : St} {W W' : World} (h : SR P ρ s W) {b : Nat} {o ob : AObj} {r r' : Rn} {O' : Obj} (hb : s.at b = some o) (hro : s.fix b o = false) (hr : ρ b = some r) (hn : s.nx < 4398046511104) (hblk : r'.blk = r.blk)
    (hos : W'.os = W.os) (htape : W'.tape = W.tape) (hout : W'.output = W.output) (hsz : W'.heap.size = W.heap.size) (hat : W'.heap[r.blk]? = some O') (hoth : ∀ B, B ≠ r.blk → W'.heap[B]? = W.heap[B]?)
    (ho : OR P (ρ.add s.nx r') r' ob O') : Stp P ρ s W (ρ.add s.nx r') ((s.set b none).push ob) W' := by
  have hx : Ext ρ (ρ.add s.nx r') := Ren.add_ext (h.new _ (Nat.le_refl _))
  have hbl := St.at_lt hb
  have hpush : ∀ c, ((s.set b none).push ob).at c = if c = s.nx then some ob else (s.set b none).at c := fun c => St.at_push (s := s.set b none) hn
  have old : ∀ c x, c ≠ s.nx → ((s.set b none).push ob).at c = some x → s.at c = some x ∧ c ≠ b := by
    intro c x hc hx'
    rw [hpush, if_neg hc, St.at_set hbl] at hx'
    by_cases e : c = b
    · rw [if_pos e] at hx'; cases hx'
    · rw [if_neg e] at hx'; exact ⟨hx', e⟩
  have nnx : ∀ c x, s.at c = some x → c ≠ s.nx := fun c x hc e => by
    obtain ⟨r1, _, h1, _⟩ := h.obj c x hc
    rw [e, h.new _ (Nat.le_refl _)] at h1; cases h1
  refine ⟨hx, ⟨fun c x hc => ?_, fun c d o1 o2 r1 r2 h1 h2 h3 h4 h5 => ?_, fun c hc => ?_⟩, hos, htape, hout, by omega, by rw [St.nx_push]; show s.nx ≤ s.nx + 1; omega, fun b hb => by unfold Ren.add; rw [if_neg (by omega)], fun B _ hB => hoth B fun e => (by have := hB b o r hb hr e.symm; rw [hro] at this; cases this), fun c x r1 h1 h2 => .inr ?_⟩
  · by_cases e : c = s.nx
    · rw [hpush, if_pos e] at hc; cases hc; subst e
      exact ⟨r', O', Ren.add_self _ _ _, by rw [hblk]; exact hat, ho⟩
    · obtain ⟨h1, h2⟩ := old c x e hc
      obtain ⟨r1, O1, g1, g2, g3⟩ := h.obj c x h1
      exact ⟨r1, O1, hx _ _ g1, by rw [hoth _ (fun e' => h2 (h.inj c b x o r1 r h1 hb g1 hr e'))]; exact g2, g3.mono hx⟩
  · have back : ∀ c x r1, c ≠ s.nx → s.at c = some x → (ρ.add s.nx r') c = some r1 → ρ c = some r1 := fun c x r1 hc _ h1 => by
      unfold Ren.add at h1; rw [if_neg hc] at h1; exact h1
    by_cases e1 : c = s.nx <;> by_cases e2 : d = s.nx
    · omega
    · exfalso
      obtain ⟨g1, g2⟩ := old d o2 e2 h2
      have g3 := back d o2 r2 e2 g1 h4
      subst e1; rw [Ren.add_self] at h3; cases h3
      exact g2 (h.inj d b o2 o r2 r g1 hb g3 hr (by omega))
    · exfalso
      obtain ⟨g1, g2⟩ := old c o1 e1 h1
      have g3 := back c o1 r1 e1 g1 h3
      subst e2; rw [Ren.add_self] at h4; cases h4
      exact g2 (h.inj c b o1 o r1 r g1 hb g3 hr (by omega))
    · obtain ⟨g1, _⟩ := old c o1 e1 h1
      obtain ⟨g2, _⟩ := old d o2 e2 h2
      exact h.inj c d o1 o2 r1 r2 g1 g2 (back c o1 r1 e1 g1 h3) (back d o2 r2 e2 g2 h4) h5
  · unfold Ren.add
    have hc : s.nx + 1 ≤ c := hc
    rw [if_neg (by omega)]; exact h.new c (by omega)
  · by_cases e : c = s.nx
    · subst e; rw [Ren.add_self] at h2; cases h2; exact ⟨b, o, r, hb, hr, hblk.symm, fun h => by rw [hro] at h; cases h⟩
    · obtain ⟨g1, _⟩ := old c x e h1
      unfold Ren.add at h2; rw [if_neg e] at h2
      exact ⟨c, x, r1, g1, h2, rfl, id⟩
/-- what 'growS' lays: an object that says its cells are those of the list -/
theorem growS_inv {s : St} {e sz b off m q : Nat} {l : List Value} {K : KV} (hl : l.length = q * sz) (h : growS s e sz b off m q l K = true) :
    ∃ ck cn ct ce cg ob, s.at b = some (.cells ck cn ct ce cg) ∧ (cg = true → ce = e ∧ s.ok b = true) ∧ off + m * sz ≤ cn ∧ m + q ≤ 32768 ∧ s.nx < 4398046511104 ∧
      K (slc s.nx 0 (m + q) (m + q)) ((if cg then s.set b none else s).push ob) = true ∧
      ∀ (ρ : Ren) (r : Rn) (C : Array Value), r.gr = true → sizeT P e = some r.es → r.sz = C.size → r.sh + (m + q) * sz ≤ C.size → cn ≤ pow8 ck →
        (∀ i V, (gets ck ct off (m * sz) ++ l)[i]? = some V → VR ρ V (C.getD (r.sh + i) undef)) → OR P ρ r ob (.cells C e (0, 0)) := by
  unfold growS at h
  obtain ⟨h1, h⟩ := cond_inv h
  obtain ⟨ck, cn, ct, ce, cg, hb, h⟩ := onCells_inv h
  obtain ⟨h2, h⟩ := cond_inv h
  obtain ⟨h2, h3⟩ := and_true h2
  have h3 : off + m * sz ≤ cn := ble_true h3
  have hce : cg = true → ce = e ∧ s.ok b = true := fun hg => by
    cases hbe : Nat.beq ce e with
    | true =>
      cases hok : s.ok b with
      | true => exact ⟨beq_true hbe, rfl⟩
      | false => rw [hbe, hg, hok] at h2; cases h2
    | false => rw [hbe, hg] at h2; cases h2
  have hs1 : (bif cg then s.set b none else s) = if cg then s.set b none else s := by cases cg <;> rfl
  have hlst : (gets ck ct off (m * sz) ++ l).length = (m + q) * sz := by rw [List.length_append, gets_length, hl, Nat.add_mul]
  have get1 : ∀ i, i < m * sz → (gets ck ct off (m * sz) ++ l)[i]? = some ((getW ck (off + i)).g ct) := fun i hi => by
    rw [List.getElem?_append_left (by rw [gets_length]; exact hi), gets_get _ _ _ _ _ hi]
  have get2 : ∀ i, m * sz ≤ i → (gets ck ct off (m * sz) ++ l)[i]? = l[i - m * sz]? := fun i hi => by
    rw [List.getElem?_append_right (by rw [gets_length]; exact hi), gets_length]
  simp only [hs1] at h
  cases hv : (Nat.beq off 0 && Nat.ble (Nat.mul (Nat.add m q) sz) (pow8 ck)) with
  | true =>
    rw [hv] at h
    simp only [cond_true] at h
    obtain ⟨h4, h5⟩ := and_true hv
    have h4 := beq_true h4
    have h5 : (m + q) * sz ≤ pow8 ck := ble_true h5
    obtain ⟨h6, h⟩ := cond_inv h
    refine ⟨ck, cn, ct, ce, cg, _, hb, hce, h3, ble_true h1, blt_true h6, h, fun ρ r C hg hes hsz hfit hcn hVR => ⟨C, _, _, rfl, fun _ => ⟨rfl, rfl⟩, hg, fun _ => hes, hsz, hfit, h5, fun i hi => ?_⟩⟩
    have hi : i < (m + q) * sz := hi
    have hmq : (m + q) * sz = m * sz + q * sz := Nat.add_mul _ _ _
    show VR ρ ((getW ck i).g (puts ck (m * sz) l ct)) _
    rw [puts_get ck l (m * sz) i ct (by omega) (by omega)]
    by_cases hin : m * sz ≤ i ∧ i < m * sz + l.length
    · rw [if_pos hin]
      have hil : i - m * sz < l.length := by omega
      have := hVR i l[i - m * sz] (by rw [get2 i hin.1, List.getElem?_eq_getElem hil])
      simpa [List.getD, hil] using this
    · rw [if_neg hin]
      have := hVR i _ (get1 i (by omega))
      rw [h4, Nat.zero_add] at this; exact this
  | false =>
    rw [hv] at h
    simp only [cond_false] at h
    have h : newC (if cg then s.set b none else s) (gets ck ct off (m * sz) ++ l) e true (fun b' s' => K (slc b' 0 (m + q) (m + q)) s') = true := h
    obtain ⟨h6, h⟩ := cond_inv h
    obtain ⟨h6, h7⟩ := and_true h6
    have h7 := ble_true h7
    have hnx : (if cg then s.set b none else s).nx = s.nx := by cases cg <;> rfl
    rw [hnx] at h6 h
    refine ⟨ck, cn, ct, ce, cg, _, hb, hce, h3, ble_true h1, blt_true h6, h, fun ρ r C hg hes hsz hfit hcn hVR => ⟨C, _, _, rfl, fun _ => ⟨rfl, rfl⟩, hg, fun _ => hes, hsz, ?_, le_lvl _ h7, fun i hi => ?_⟩⟩
    · rw [hlst]; exact hfit
    · have hle := le_lvl _ h7
      rw [puts_get _ _ 0 i _ (by omega) (by omega), if_pos ⟨Nat.zero_le _, by omega⟩]
      have := hVR i _ (List.getElem?_eq_getElem hi)
      rw [Nat.sub_zero, List.getD_eq_getElem?_getD, List.getElem?_eq_getElem hi, Option.getD_some]; exact this
theorem VsR.getD {ρ : Ren} {l L : List Value} (h : VsR ρ l L) {i : Nat} {v : Value} (hi : l[i]? = some v) {C : Array Value} {off : Nat} (hC : ∀ j, j < L.length → C[off + j]? = L[j]?) : VR ρ v (C.getD (off + i) undef) := by
  obtain ⟨V, h1, h2⟩ := h.get hi
  have hlt : i < L.length := by
    rcases Nat.lt_or_ge i L.length with h' | h'
    · exact h'
    · rw [List.getElem?_eq_none h'] at h1; cases h1
  have := hC i hlt
  rw [h1] at this
  simp [Array.getD_eq_getD_getElem?, this]; exact h2
end Go.Ab
