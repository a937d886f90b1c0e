/- Maps: keys, entries. -/
import Derived.Test.YtogncjicndbahaaEngN
import Derived.Maps.RangeRun
namespace Go.Ab
variable {P : Program} {k n : Nat} {o : Oper}

theorem asMap_inv {v : Value} {N : Bool} {K : Nat → Bool} (h : asMap v N K = true) : (v = .map none ∧ N = true) ∨ ∃ b, v = .map (some b) ∧ K b = true := by
  cases v <;> (try (cases h; done))
  rename_i r
  cases r with
  | none => exact .inl ⟨rfl, h⟩
  | some b => exact .inr ⟨b, rfl, h⟩
theorem onMap_inv {s : St} {b : Nat} {K : List MapEntry → Nat → Bool} (h : onMap s b K = true) : ∃ es c, s.at b = some (.map es c) ∧ K es c = true := by
  unfold onMap at h
  split at h
  · rename_i ob hb
    split at h
    · exact ⟨_, _, hb, h⟩
    · cases h
  · cases h
theorem VR.map_inv {ρ : Ren} {b : Nat} {V : Value} (h : VR ρ (.map (some b)) V) : ∃ r, ρ b = some r ∧ V = .map (some r.blk) := by cases h with | mapv h => exact ⟨_, h, rfl⟩
theorem VR.nilm_inv {ρ : Ren} {V : Value} (h : VR ρ (.map none) V) : V = .map none := by cases h; rfl

/-! ### keys -/
theorem bne_bas {d : TypeDesc} (h : isBasD d = true) : d = .string ∨ d = .bool ∨ ∃ i, d = .int i := by
  cases d <;> first | exact .inl rfl | exact .inr (.inl rfl) | exact .inr (.inr ⟨_, rfl⟩) | cases h
theorem checkKey_bas {kt : TypeId} {d : TypeDesc} (hd : P.underlying kt = some d) (hb : isBasD d = true) (x : Value) (e : Bool) (m : Nat) (W : World) : (Instr.checkKey e (m + 1) kt x).run P W = .ok () W := by
  unfold Instr.checkKey
  simp only [Sem.run_bind, r_und hd, Result.andThen_ok]
  rcases bne_bas hb with rfl | rfl | ⟨i, rfl⟩ <;> rfl
theorem forIn_all {α : Type} {F : α → PUnit → Sem (ForInStep PUnit)} : ∀ (l : List α), (∀ a ∈ l, ∀ W, (F a ⟨⟩).run P W = .ok (.yield ⟨⟩) W) → ∀ W, (forIn l PUnit.unit F).run P W = .ok ⟨⟩ W
  | [], _, W => rfl
  | a :: l, h, W => by
    rw [List.forIn_cons, Sem.run_bind, h a (by simp) W]
    exact forIn_all l (fun b hb => h b (by simp [hb])) W
theorem partsOk_mem {cs : List Value} : ∀ {fs : List Field}, partsOk P cs fs = true → ∀ f ∈ fs, (∃ d, P.underlying f.type = some d ∧ isBasD d = true) ∧ ∃ v, (cPart P f.type).p cs f.offset = some v
  | [], _, f, hf => by simp at hf
  | g :: fs, h, f, hf => by
    simp only [partsOk, Bool.and_eq_true] at h
    obtain ⟨⟨h1, h2⟩, h3⟩ := h
    rcases List.mem_cons.1 hf with rfl | hf
    · refine ⟨?_, Option.isSome_iff_exists.1 h2⟩
      split at h1
      · rename_i d hd; exact ⟨d, hd, h1⟩
      · cases h1
    · exact partsOk_mem h3 f hf
theorem keyOk_inv {d : TypeDesc} {x : Value} (h : keyOk P d x = true) : pureC 4 x = true ∧ (isBasD d = true ∨ (∃ fs cs, d = .struct fs ∧ x = .agg cs ∧ partsOk P cs.toList fs.toList = true) ∨ ∃ m e cs de, d = .array m e ∧ x = .agg cs ∧ P.underlying e = some de ∧ isBasD de = true ∧ sizeT P e = some 1 ∧ cs.toList.length = m) := by
  unfold keyOk at h
  cases hb : isBasD d with
  | true => rw [hb] at h; exact ⟨h, .inl rfl⟩
  | false =>
    rw [hb] at h
    simp only [cond_false] at h
    split at h
    · split at h
      · obtain ⟨h1, h2⟩ := and_true h
        exact ⟨h2, .inr (.inl ⟨_, _, rfl, rfl, h1⟩)⟩
      · cases h
    · split at h
      · obtain ⟨h1, h2⟩ := and_true h
        obtain ⟨h1, h3⟩ := and_true h1
        obtain ⟨h1, h4⟩ := and_true h1
        split at h1
        · rename_i de hde
          split at h4
          · rename_i z hz
            have := beq_true h4; subst this
            exact ⟨h2, .inr (.inr ⟨_, _, _, de, rfl, rfl, hde, h1, hz, beq_true h3⟩)⟩
          · cases h4
        · cases h1
      · cases h
    · cases h
theorem isAgg_run' {t : TypeId} {d : TypeDesc} (hd : P.underlying t = some d) (W : World) : (isAgg t).run P W = .ok (isAggD d) W := isAgg_run hd W
theorem checkKey_run {kt : TypeId} {d : TypeDesc} (hd : P.underlying kt = some d) {x : Value} (h : keyOk P d x = true) (e : Bool) (W : World) : (Instr.checkKey e 10000 kt x).run P W = .ok () W := by
  obtain ⟨hp, h | ⟨fs, cs, rfl, rfl, hq⟩ | ⟨m, et, cs, de, rfl, rfl, hde, hbd, hsz, hlen⟩⟩ := keyOk_inv h
  · exact checkKey_bas hd h x e 9999 W
  · unfold Instr.checkKey
    simp only [Sem.run_bind, r_und hd, Result.andThen_ok]
    have hR : VsR (fun _ => none) cs.toList cs.toList := by
      have := pureC_VR (fun _ => none) 4 _ hp
      cases this with | agg h => exact h
    have := forIn_all (P := P) (F := fun f (_ : PUnit) => (do
        if f.name ≠ "_" then Instr.checkKey e 9999 f.type (← part f.type cs f.offset)
        pure (ForInStep.yield PUnit.unit) : Sem (ForInStep PUnit))) fs.toList (fun f hf W => by
      obtain ⟨⟨d, h1, h2⟩, v, h3⟩ := partsOk_mem hq f hf
      obtain ⟨V, h4, h5⟩ := part_run hR h3
      by_cases hn : f.name = "_"
      · simp [hn]
      · simp [hn, h5, checkKey_bas h1 h2]) W
    rw [← Array.forIn_toList]
    simp at this ⊢
    rw [this]; rfl
  · unfold Instr.checkKey
    simp only [Sem.run_bind, r_und hd, Result.andThen_ok]
    have hagg : isAggD de = false := by rcases bne_bas hbd with rfl | rfl | ⟨i, rfl⟩ <;> rfl
    have hpart : ∀ i, i < m → ∀ W, ∃ v, (part et cs (i * 1)).run P W = .ok v W := fun i hi W => by
      have hlt : i < cs.size := by rw [← Array.length_toList]; omega
      refine ⟨cs[i], ?_⟩
      simp [part, isAgg_run' hde, hagg, hlt]
    have := forIn_all (P := P) (F := fun i (_ : PUnit) => (do
        Instr.checkKey e 9999 et (← part et cs (i * (← sizeOf et)))
        pure (ForInStep.yield PUnit.unit) : Sem (ForInStep PUnit))) (List.range' 0 m) (fun i hi W => by
      have hi : i < m := by simpa using hi
      obtain ⟨v, hv⟩ := hpart i hi W
      simp only [Sem.run_bind, r_size hsz, Result.andThen_ok, hv, checkKey_bas hde hbd, Sem.run_pure]) W
    simp [Std.Legacy.Range.forIn_eq_forIn_range', Std.Legacy.Range.size] at this ⊢
    rw [this]; rfl
theorem same1_run {x y : Value} (h : same1 x y = true) (m : Nat) : Instr.sameBits m x y = true := by
  unfold same1 at h
  split at h
  · obtain ⟨h1, h2⟩ := and_true h
    have := kIdx_inj h1; subst this
    rw [iEq_eq] at h2
    have := eq_of_beq h2; subst this
    cases m <;> simp [Instr.sameBits]
  · cases m <;> exact h
  · cases m <;> exact h
  · cases h
theorem sameL_run (m : Nat) : ∀ {a b : List Value}, sameL a b = true → a.length = b.length ∧ (a.zip b).all (fun (x, y) => Instr.sameBits m x y) = true
  | [], [], _ => ⟨rfl, rfl⟩
  | [], _ :: _, h => by cases h
  | _ :: _, [], h => by cases h
  | x :: xs, y :: ys, h => by
    obtain ⟨h1, h2⟩ := and_true h
    obtain ⟨h3, h4⟩ := sameL_run m h2
    refine ⟨by simp [h3], ?_⟩
    simp only [List.zip_cons_cons, List.all_cons, Bool.and_eq_true]
    exact ⟨same1_run h1 m, h4⟩
theorem sameB_run {x y : Value} (h : sameB x y = true) : Instr.sameBits 10000 x y = true := by
  unfold sameB at h
  split at h
  · rename_i a b
    obtain ⟨h1, h2⟩ := sameL_run 9999 h
    show (a.size == b.size && (a.toList.zip b.toList).all fun (x, y) => Instr.sameBits 9999 x y) = true
    rw [h2]
    simp only [Array.length_toList] at h1
    simp [h1]
  · exact same1_run h _
theorem keyThat_run {x y : Value} (h : sameB y x = true) (W : World) : (Instr.keyThatStays y x).run P W = .ok x W := by
  simp [Instr.keyThatStays, sameB_run h]
theorem kEq_run {d : TypeDesc} {x y : Value} {b : Bool} (h : kEq d x y = some b) : Instr.sameNow d x y = some b ∧ (b = true → sameB y x = true) := by
  unfold kEq at h
  split at h
  · split at h
    · rename_i i a m c n
      cases hk : Nat.beq (kIdx a) (kIdx c) with
      | false => rw [hk] at h; cases h
      | true =>
        rw [hk] at h
        simp only [cond_true, Option.some.injEq] at h; subst h
        have := kIdx_inj hk; subst this
        refine ⟨by simp [Instr.sameNow, iEq_eq], fun h => ?_⟩
        show (Nat.beq (kIdx a) (kIdx a) && iEq n m) = true
        rw [hk]
        rw [iEq_eq] at h ⊢
        have := eq_of_beq h; subst this; simp
    · cases h
  · split at h
    · simp only [Option.some.injEq] at h; subst h
      refine ⟨rfl, fun h => ?_⟩
      rw [(MapKept.bytes_beq _ _).1 h]
      exact (MapKept.bytes_beq _ _).2 rfl
    · cases h
  · split at h
    · simp only [Option.some.injEq] at h; subst h
      refine ⟨rfl, fun h => ?_⟩
      have := eq_of_beq h; subst this
      show (_ == _) = true
      simp
    · cases h
  · cases h

/-! ### entries -/
def ER1 (ρ : Ren) (e E : MapEntry) : Prop := E.key = e.key ∧ E.born = e.born ∧ pureC 4 e.key = true ∧ VR ρ e.val E.val
theorem EsR.cons {ρ : Ren} {e E : MapEntry} {es ES : List MapEntry} (h : ER1 ρ e E) (h2 : EsR ρ es ES) : EsR ρ (e :: es) (E :: ES) := ⟨h, h2⟩
theorem EsR.inv {ρ : Ren} {e : MapEntry} {es ES : List MapEntry} (h : EsR ρ (e :: es) ES) : ∃ E ES', ES = E :: ES' ∧ ER1 ρ e E ∧ EsR ρ es ES' := by
  cases ES with
  | nil => exact h.elim
  | cons E ES' => exact ⟨E, ES', rfl, h.1, h.2⟩
theorem EsR.nil_inv {ρ : Ren} {ES : List MapEntry} (h : EsR ρ [] ES) : ES = [] := by
  cases ES with
  | nil => rfl
  | cons E ES' => exact h.elim
theorem EsR.length {ρ : Ren} : ∀ {es ES : List MapEntry}, EsR ρ es ES → es.length = ES.length
  | [], ES, h => by rw [h.nil_inv]
  | e :: es, ES, h => by obtain ⟨E, ES', rfl, _, h2⟩ := h.inv; simp [h2.length]
theorem EsR.mem {ρ : Ren} : ∀ {es ES : List MapEntry}, EsR ρ es ES → ∀ E ∈ ES, ∃ e ∈ es, ER1 ρ e E
  | [], ES, h, E, hE => by rw [h.nil_inv] at hE; simp at hE
  | e :: es, ES, h, E, hE => by
    obtain ⟨E', ES', rfl, h1, h2⟩ := h.inv
    rcases List.mem_cons.1 hE with rfl | hE
    · exact ⟨e, by simp, h1⟩
    · obtain ⟨e', h3, h4⟩ := h2.mem E hE; exact ⟨e', by simp [h3], h4⟩
theorem EsR.append {ρ : Ren} {e E : MapEntry} (h1 : ER1 ρ e E) : ∀ {es ES : List MapEntry}, EsR ρ es ES → EsR ρ (es ++ [e]) (ES ++ [E])
  | [], ES, h => by rw [h.nil_inv]; exact .cons h1 trivial
  | x :: es, ES, h => by obtain ⟨E', ES', rfl, h2, h3⟩ := h.inv; exact .cons h2 (h3.append h1)
theorem EsR.modL {ρ : Ren} {f F : MapEntry → MapEntry} : ∀ {es ES : List MapEntry} {j : Nat}, EsR ρ es ES → (∀ e E, es[j]? = some e → ES[j]? = some E → ER1 ρ e E → ER1 ρ (f e) (F E)) → EsR ρ (Ab.modL f j es) (ES.modify j F)
  | [], ES, j, h, _ => by rw [h.nil_inv]; cases j <;> simp [Ab.modL] <;> trivial
  | e :: es, ES, 0, h, hf => by
    obtain ⟨E, ES', rfl, h1, h2⟩ := h.inv
    exact .cons (hf e E rfl rfl h1) h2
  | e :: es, ES, j + 1, h, hf => by
    obtain ⟨E, ES', rfl, h1, h2⟩ := h.inv
    rw [List.modify_succ_cons]
    exact .cons h1 (h2.modL fun e E he hE => hf e E (by simpa using he) (by simpa using hE))
theorem EsR.delL {ρ : Ren} : ∀ {es ES : List MapEntry} {j : Nat}, EsR ρ es ES → EsR ρ (Ab.delL j es) (ES.eraseIdx j)
  | [], ES, j, h => by rw [h.nil_inv]; cases j <;> trivial
  | e :: es, ES, 0, h => by
    obtain ⟨E, ES', rfl, h1, h2⟩ := h.inv
    exact h2
  | e :: es, ES, j + 1, h => by
    obtain ⟨E, ES', rfl, h1, h2⟩ := h.inv
    exact .cons h1 h2.delL
theorem kEqT_bas {kt : TypeId} {d : TypeDesc} (hb : isBasD d = true) {x y : Value} : kEqT P kt d x y = kEq d x y := by unfold kEqT; rw [hb]; rfl
theorem kEqT_same {kt : TypeId} {d : TypeDesc} {x y : Value} (h : kEqT P kt d x y = some true) : sameB y x = true := by
  unfold kEqT at h
  cases hb : isBasD d with
  | true => rw [hb] at h; exact (kEq_run h).2 rfl
  | false =>
    rw [hb] at h
    simp only [cond_false] at h
    split at h
    · rename_i b _
      cases b with
      | false => cases h
      | true =>
        simp only [cond_true] at h
        cases hs : sameB y x with
        | true => rfl
        | false => rw [hs] at h; cases h
    · cases h
theorem kEqT_run {kt : TypeId} {d : TypeDesc} (hb : isBasD d = false) {x y : Value} {b : Bool} (hx : pureC 4 x = true) (hy : pureC 4 y = true) (h : kEqT P kt d x y = some b) (W : World) : (Op.equal kt x y).run P W = .ok b W := by
  unfold kEqT at h
  rw [hb] at h
  simp only [cond_false] at h
  split at h
  · rename_i b' hv
    have e : b' = b := by
      cases b' with
      | false => simpa using h
      | true =>
        simp only [cond_true] at h
        cases hs : sameB y x with
        | true => rw [hs] at h; simpa using h
        | false => rw [hs] at h; cases h
    subst e
    exact eqV_run 40 hv (pureC_VR (fun _ => none) 4 _ hx) (pureC_VR (fun _ => none) 4 _ hy) 10000 (by omega) W
  · cases h
/-- what a search answers -/
def FndR (ρ : Ren) (x : Value) (es ES : List MapEntry) (i : Nat) (r : Option (Nat × MapEntry)) (R : Option (Nat × Value)) : Prop :=
  match r with
  | none => R = none
  | some (j, e) => ∃ E m, j = i + m ∧ R = some (j, E.val) ∧ es[m]? = some e ∧ ES[m]? = some E ∧ ER1 ρ e E ∧ sameB e.key x = true
theorem FndR.succ {ρ : Ren} {x : Value} {e E : MapEntry} {es ES : List MapEntry} {i : Nat} {r : Option (Nat × MapEntry)} {R : Option (Nat × Value)} (h : FndR ρ x es ES (i + 1) r R) : FndR ρ x (e :: es) (E :: ES) i r R := by
  cases r with
  | none => exact h
  | some r =>
    obtain ⟨j, e'⟩ := r
    obtain ⟨E', m, h1, h2, h3, h4, h5, h6⟩ := h
    exact ⟨E', m + 1, by omega, h2, by simpa using h3, by simpa using h4, h5, h6⟩
theorem findK_now {ρ : Ren} {kt : TypeId} {d : TypeDesc} (hb : isBasD d = true) {x : Value} : ∀ {es ES : List MapEntry} {i : Nat} {r : Option (Nat × MapEntry)}, EsR ρ es ES → findK P kt d x es i = some r → ∃ R, Instr.findNow d x ES i = some R ∧ FndR ρ x es ES i r R
  | [], ES, i, r, h, hf => by
    rw [h.nil_inv]
    simp only [findK, Option.some.injEq] at hf; subst hf
    exact ⟨none, rfl, rfl⟩
  | e :: es, ES, i, r, h, hf => by
    obtain ⟨E, ES', rfl, h1, h2⟩ := h.inv
    simp only [findK] at hf
    cases hk : kEqT P kt d x e.key with
    | none => simp [hk] at hf
    | some b =>
      simp only [hk] at hf
      have hs := kEqT_same (P := P) (kt := kt) (d := d) (x := x) (y := e.key)
      rw [kEqT_bas hb] at hk hs
      have hn := (kEq_run hk).1
      cases b with
      | true =>
        simp only [cond_true, Option.some.injEq] at hf; subst hf
        exact ⟨some (i, E.val), by simp only [Instr.findNow, h1.1, hn], E, 0, rfl, rfl, rfl, rfl, h1, hs hk⟩
      | false =>
        simp only [cond_false] at hf
        obtain ⟨R, h3, h4⟩ := findK_now hb h2 hf
        exact ⟨R, by simp only [Instr.findNow, h1.1, hn]; exact h3, h4.succ⟩
theorem findK_ask {ρ : Ren} {kt : TypeId} {d : TypeDesc} (hb : isBasD d = false) {x : Value} (hx : pureC 4 x = true) : ∀ {es ES : List MapEntry} {i : Nat} {r : Option (Nat × MapEntry)}, EsR ρ es ES → findK P kt d x es i = some r →
    ∃ R, (∀ W, (Instr.findAsking kt x ES i).run P W = .ok R W) ∧ FndR ρ x es ES i r R
  | [], ES, i, r, h, hf => by
    rw [h.nil_inv]
    simp only [findK, Option.some.injEq] at hf; subst hf
    exact ⟨none, fun _ => rfl, rfl⟩
  | e :: es, ES, i, r, h, hf => by
    obtain ⟨E, ES', rfl, h1, h2⟩ := h.inv
    simp only [findK] at hf
    cases hk : kEqT P kt d x e.key with
    | none => simp [hk] at hf
    | some b =>
      simp only [hk] at hf
      have hn := kEqT_run hb hx h1.2.2.1 hk
      cases b with
      | true =>
        simp only [cond_true, Option.some.injEq] at hf; subst hf
        refine ⟨some (i, E.val), fun W => ?_, E, 0, rfl, rfl, rfl, rfl, h1, kEqT_same hk⟩
        simp [Instr.findAsking, h1.1, hn]
      | false =>
        simp only [cond_false] at hf
        obtain ⟨R, h3, h4⟩ := findK_ask hb hx h2 hf
        refine ⟨R, fun W => ?_, h4.succ⟩
        simp [Instr.findAsking, h1.1, hn, h3]
theorem sameNow_none {d : TypeDesc} (hb : isBasD d = false) (x y : Value) : Instr.sameNow d x y = none := by
  unfold Instr.sameNow
  split <;> first | rfl | cases hb
theorem findKey_run {ρ : Ren} {kt : TypeId} {d : TypeDesc} (hd : P.underlying kt = some d) {x : Value} (hx : pureC 4 x = true) {es ES : List MapEntry} {r : Option (Nat × MapEntry)} (h : EsR ρ es ES) (hf : findK P kt d x es 0 = some r) :
    ∃ R, (∀ W, (Instr.findKey kt x ES).run P W = .ok R W) ∧ FndR ρ x es ES 0 r R := by
  cases hb : isBasD d with
  | true =>
    obtain ⟨R, h1, h2⟩ := findK_now hb h hf
    exact ⟨R, fun W => by simp [Instr.findKey, r_und hd, h1], h2⟩
  | false =>
    obtain ⟨R, h1, h2⟩ := findK_ask hb hx h hf
    refine ⟨R, fun W => ?_, h2⟩
    cases ES with
    | nil =>
      have := h1 W
      simp only [Instr.findKey, Sem.run_bind, r_und hd, Result.andThen_ok, Instr.findNow]
      exact this
    | cons E ES => simp [Instr.findKey, r_und hd, Instr.findNow, sameNow_none hb, h1]
end Go.Ab
