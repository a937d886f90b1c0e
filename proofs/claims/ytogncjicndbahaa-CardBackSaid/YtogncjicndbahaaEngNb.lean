/- Maps: the operations. -/
import Derived.Test.YtogncjicndbahaaEngNa
namespace Go.Ab
variable {P : Program} {k n : Nat} {o : Oper}

/-- an object of its own is changed -/
theorem Stp.setObj {ρ : Ren} {s : St} {W : World} (h : SR P ρ s W) {b : Nat} {ob ob' : AObj} {r : Rn} {O' : Obj} (hb : s.at b = some ob) (hfix : s.fix b ob = false) (hr : ρ b = some r) (ho : OR P ρ r ob' O') :
    Stp P ρ s W ρ (s.set b (some ob')) { W with heap := W.heap.setIfInBounds r.blk O' } := by
  have hlt := h.lt hb hr
  exact Stp.set h hb hfix hr rfl rfl rfl (by simp) (by simp [hlt]) (fun B hB => by simp [Ne.symm hB]) ho
theorem fix_map {s : St} {b : Nat} {es : List MapEntry} {c : Nat} (h : s.ok b = true) : s.fix b (.map es c) = false := fix_of rfl h
theorem fix_mit {s : St} {b : Nat} {m : Option Nat} {a : Nat} {l : List Nat} {c : Nat} (h : s.ok b = true) : s.fix b (.mit m a l c) = false := fix_of rfl h
theorem fix_sit {s : St} {b : Nat} {w : ByteArray} {c : Nat} (h : s.ok b = true) : s.fix b (.sit w c) = false := fix_of rfl h
/-- a map that is named -/
theorem SR.map {ρ : Ren} {s : St} {W : World} (h : SR P ρ s W) {b : Nat} {es : List MapEntry} {c : Nat} (hb : s.at b = some (.map es c)) {r : Rn} (hr : ρ b = some r) :
    r.gr = false ∧ ∃ ES : Array MapEntry, W.heap[r.blk]? = some (.map ES c) ∧ EsR ρ es ES.toList := by
  obtain ⟨r', O, h1, h2, h3, ES, rfl, h4⟩ := h.obj b _ hb
  rw [hr] at h1; cases h1
  exact ⟨h3, ES, h2, h4⟩
theorem run_getMap {W : World} {r : Nat} {es : Array MapEntry} {clock : Nat} (hb : W.heap[r]? = some (.map es clock)) : (getObj r).run P W = .ok (.map es clock) W := by
  simp [getObj, Sem.run, hb]
theorem run_setMap {W : World} {r : Nat} {es : Array MapEntry} {clock : Nat} (O : Obj) (hb : W.heap[r]? = some (.map es clock)) : (Go.setObj r O).run P W = .ok () { W with heap := W.heap.setIfInBounds r O } := by
  simp [Go.setObj, Sem.run, hb]
theorem mapT_inv {t : TypeId} {x : TypeId × TypeDesc × TypeId} (h : mapT P t = some x) : P.underlying t = some (.map x.1 x.2.2) ∧ P.underlying x.1 = some x.2.1 := by
  unfold mapT at h
  split at h
  · rename_i kt et hu
    split at h
    · rename_i d hd
      simp only [Option.some.injEq] at h; subst h
      exact ⟨hu, hd⟩
    · cases h
  · cases h
theorem zeroOf_run {t : TypeId} {z : Value} (h : zeroOf P t = some z) : pureC 4 z = true ∧ ∀ W, (zeroValue t).run P W = .ok z W := by
  unfold zeroOf at h
  split at h
  · rename_i i hi
    split at h
    · rename_i v hv
      cases hp : pureC 4 v with
      | false => rw [hp] at h; cases h
      | true =>
        rw [hp] at h
        simp only [cond_true, Option.some.injEq] at h; subst h
        exact ⟨hp, fun W => by simp [zeroValue, typeInfo, hi, hv]⟩
    · cases h
  · cases h

theorem al_map {t : TypeId} {x : Option Operand} (ho : o.op = .makeMap t x) {g : Option (GW Value k)} (hg : cOpt k n x = some g) {c : AlC k} (hc : oMakeMap P t g = .al c) : AlOK P k n c o := by
  have fin : ∀ (K : AObj → (Nat → Value) → Bool), K (.map [] 0) (fun b => .map (some b)) = true → ∀ f, (∀ ρ A, ER ρ k n f A o → ∀ W, (execOp A.eval o).run P W = .ok (.value (.map (some W.heap.size))) (W.alloc (.map #[] 0))) →
      ∃ ob vf, K ob vf = true ∧ ∀ ρ A, ER ρ k n f A o → ∃ (O : Obj) (VF : Nat → Value) (sz : Nat),
        (∀ W, (execOp A.eval o).run P W = .ok (.value (VF W.heap.size)) (W.alloc O)) ∧ (∀ blk, OR P ρ ⟨blk, 0, sz, 0, false⟩ ob O) ∧ ∀ ρ' b r, ρ' b = some r → r.sh = 0 → r.gr = false → VR ρ' (vf b) (VF r.blk) :=
    fun K h f hr => ⟨_, _, h, fun ρ A he => ⟨.map #[] 0, fun B => .map (some B), 0, hr ρ A he, fun _ => ⟨rfl, #[], rfl, trivial⟩, fun _ _ _ h1 _ _ => .mapv h1⟩⟩
  rcases cOpt_inv hg with ⟨rfl, rfl⟩ | ⟨u, g', rfl, rfl, hu⟩
  · simp only [oMakeMap, OpC.al.injEq] at hc; subst hc
    intro f K h
    refine fin K h f fun ρ A he W => ?_
    simp [execOp, ho, Instr.makeMap]
  · unfold oMakeMap at hc
    simp only at hc
    split at hc
    · rename_i kt et hd
      simp only [OpC.al.injEq] at hc; subst hc
      intro f K h
      obtain ⟨i, m, hm, h⟩ := asInt_inv h
      refine fin K h f fun ρ A he W => ?_
      have h1 := er1 he hu (by rw [ho]; simp [Op.operands])
      rw [hm] at h1
      simp [execOp, ho, Instr.makeMap, r_und hd, h1.int_inv, Go.asInt, asIntOf]
    · cases hc
theorem pairV_R {ρ : Ren} {v V : Value} (h : VR ρ v V) (c b : Bool) : VR ρ (pairV c v b) (if c then .tuple #[V, .bool b] else V) := by
  cases c with
  | false => exact h
  | true => exact .tuple (.cons h (.cons (.bool b) .nil))
theorem rd_lookup {t : TypeId} {x i : Operand} {ok : Bool} (ho : o.op = .lookup t x i ok) {g g' : GW Value k} (hx : cEv k n x = some g) (hi : cEv k n i = some g') {c : RdC k} (hc : oLookup P t g g' ok = .rd c) : RdOK P k n c o := by
  have mx : x ∈ o.op.operands := by rw [ho]; simp [Op.operands]
  have mi : i ∈ o.op.operands := by rw [ho]; simp [Op.operands]
  unfold oLookup at hc
  split at hc
  · rename_i kt d et hm
    obtain ⟨hm, hd⟩ := mapT_inv hm
    split at hc
    · rename_i z hz
      obtain ⟨hzp, hz⟩ := zeroOf_run hz
      simp only [OpC.rd.injEq] at hc; subst hc
      intro f s K h
      obtain ⟨hk, h⟩ := cond_inv h
      have hkp := (keyOk_inv hk).1
      have hck := checkKey_run hd hk
      rcases asMap_inv h with ⟨hv, h⟩ | ⟨b, hv, h⟩
      · refine ⟨_, h, fun ρ A W he hsr => ⟨_, pairV_R (pureC_VR ρ 4 z hzp) ok false, ?_⟩⟩
        have h1 := er1 he hx mx
        have h2 := er1 he hi mi
        rw [hv] at h1
        have e2 := pureC_eq 4 h2 hkp
        have hfk : ∀ W, (Instr.findKey kt (g'.g f) ([] : List MapEntry)).run P W = .ok none W := fun W => by simp [Instr.findKey, r_und hd, Instr.findNow]
        simp [execOp, ho, Instr.lookup, r_und hm, h1.nilm_inv, e2, hck, hfk, hz]
      · obtain ⟨es, c, hb, h⟩ := onMap_inv h
        cases hf : findK P kt d (g'.g f) es 0 with
        | none => simp [hf] at h
        | some r =>
          simp only [hf] at h
          have go : ∀ v, K (pairV ok v r.isSome) = true → (∀ ρ, ∀ ES : List MapEntry, EsR ρ es ES → ∃ R V, (∀ W, (Instr.findKey kt (g'.g f) ES).run P W = .ok R W) ∧ VR ρ v V ∧ ((R = none ∧ r = none ∧ V = z) ∨ ∃ j, R = some (j, V) ∧ r.isSome = true)) →
              ∃ v, K v = true ∧ ∀ ρ A W, ER ρ k n f A o → SR P ρ s W → ∃ V, VR ρ v V ∧ (execOp A.eval o).run P W = .ok (.value V) W := by
            intro v hK hR
            refine ⟨_, hK, fun ρ A W he hsr => ?_⟩
            have h1 := er1 he hx mx
            have h2 := er1 he hi mi
            rw [hv] at h1
            obtain ⟨rn, hrn, hX⟩ := h1.map_inv
            have e2 := pureC_eq 4 h2 hkp
            obtain ⟨_, ES, hW, hE⟩ := hsr.map hb hrn
            obtain ⟨R, V, hrun, hV, hcase⟩ := hR ρ ES.toList hE
            refine ⟨_, pairV_R hV ok r.isSome, ?_⟩
            rcases hcase with ⟨rfl, rfl, rfl⟩ | ⟨j, rfl, hs⟩
            · simp [execOp, ho, Instr.lookup, r_und hm, hX, e2, run_getMap hW, hck, hrun, hz]
            · simp [execOp, ho, Instr.lookup, r_und hm, hX, e2, run_getMap hW, hck, hrun, hs]
          cases r with
          | none =>
            refine go z h fun ρ ES hE => ?_
            obtain ⟨R, h3, h4⟩ := findKey_run hd hkp hE hf
            have h4 : R = none := h4
            exact ⟨R, z, h3, pureC_VR ρ 4 z hzp, .inl ⟨h4, rfl, rfl⟩⟩
          | some q =>
            obtain ⟨j, e⟩ := q
            refine go e.val h fun ρ ES hE => ?_
            obtain ⟨R, h3, E, m, h4, h5, h6, h7, h8, h9⟩ := findKey_run hd hkp hE hf
            exact ⟨R, E.val, h3, h8.2.2.2, .inr ⟨j, h5, rfl⟩⟩
    · cases hc
  · cases hc
/-- what a map's change comes to -/
theorem map_set {ρ : Ren} {s : St} {W : World} (hsr : SR P ρ s W) {b : Nat} {es : List MapEntry} {c : Nat} (hb : s.at b = some (.map es c)) (hok : s.ok b = true) {r : Rn} (hr : ρ b = some r) {es' : List MapEntry} {ES' : Array MapEntry} {c' : Nat} (h : EsR ρ es' ES'.toList) :
    Stp P ρ s W ρ (s.set b (some (.map es' c'))) { W with heap := W.heap.setIfInBounds r.blk (.map ES' c') } :=
  Stp.setObj hsr hb (fix_map hok) hr ⟨(hsr.map hb hr).1, ES', rfl, h⟩
theorem arr_get2 {α : Type} {a : Array α} {i : Nat} {x : α} (h : a.toList[i]? = some x) : a[i]? = some x := by rw [← arr_get?]; exact h
theorem eff_mapUpdate {t : TypeId} {x i v : Operand} (ho : o.op = .mapUpdate t x i v ∨ o.op = .insert t x i v) {g g' g2 : GW Value k} (hx : cEv k n x = some g) (hi : cEv k n i = some g') (hv : cEv k n v = some g2) {c : EffC k} (hc : oMapUpdate P t g g' g2 = .eff c) : EffOK P k n c o := by
  have mem : x ∈ o.op.operands ∧ i ∈ o.op.operands ∧ v ∈ o.op.operands := by rcases ho with ho | ho <;> rw [ho] <;> simp [Op.operands]
  have hex : ∀ A : Act, execOp A.eval o = (do Instr.mapUpdate t (A.eval x) (A.eval i) (A.eval v); pure .skip) := fun A => by rcases ho with ho | ho <;> simp only [execOp, ho]
  have hnd : ∀ c, o.op ≠ .defer c := by rcases ho with ho | ho <;> rw [ho] <;> simp
  unfold oMapUpdate at hc
  split at hc
  · rename_i kt d et hm
    obtain ⟨hm, hd⟩ := mapT_inv hm
    simp only [OpC.eff.injEq] at hc; subst hc
    intro call _ f s K h ρ A W he hsr r0 m0 next Q hnext
    obtain ⟨hk, h⟩ := cond_inv h
    have hkp := (keyOk_inv hk).1
    have hck := checkKey_run hd hk
    rcases asMap_inv h with ⟨_, h⟩ | ⟨b, hvx, h⟩
    · cases h
    obtain ⟨hok, h⟩ := cond_inv h
    obtain ⟨es, c, hb, h⟩ := onMap_inv h
    have h1 := er1 he hx mem.1
    have h2 := er1 he hi mem.2.1
    have h3 := er1 he hv mem.2.2
    rw [hvx] at h1
    obtain ⟨rn, hrn, hX⟩ := h1.map_inv
    have e2 := pureC_eq 4 h2 hkp
    obtain ⟨_, ES, hW, hE⟩ := hsr.map hb hrn
    cases hf : findK P kt d (g'.g f) es 0 with
    | none => simp [hf] at h
    | some r =>
      simp only [hf] at h
      obtain ⟨R, hrun, hR⟩ := findKey_run hd hkp hE hf
      cases r with
      | none =>
        have hR : R = none := hR
        subst hR
        have hst := map_set hsr hb hok hrn (es' := es ++ [⟨g'.g f, g2.g f, c⟩]) (ES' := ES.push ⟨g'.g f, A.eval v, c⟩) (c' := c + 1) (by rw [Array.toList_push]; exact EsR.append (e := ⟨g'.g f, g2.g f, c⟩) (E := ⟨g'.g f, A.eval v, c⟩) ⟨rfl, rfl, hkp, h3⟩ hE)
        refine wpIn_skip' hnd ?_ (hnext _ _ _ _ _ hst (VR.undef ρ) h)
        simp [hex, Instr.mapUpdate, r_und hm, hX, e2, run_getMap hW, hck, hrun, run_setMap _ hW]
      | some q =>
        obtain ⟨j, e⟩ := q
        obtain ⟨E, m, h4, h5, h6, h7, h8, h9⟩ := hR
        simp only [Nat.zero_add] at h4; subst h4; subst h5
        have h7' := arr_get2 h7
        have hst := map_set hsr hb hok hrn (es' := modL (fun e => ⟨g'.g f, g2.g f, e.born⟩) j es) (ES' := ES.modify j fun e => { e with key := g'.g f, val := A.eval v }) (c' := c) (by
          rw [Array.toList_modify]
          exact hE.modL fun e E he hE' h => ⟨rfl, h.2.1, hkp, h3⟩)
        refine wpIn_skip' hnd ?_ (hnext _ _ _ _ _ hst (VR.undef ρ) h)
        have e9 := keyThat_run (P := P) h9
        rw [← h8.1] at e9
        simp [hex, Instr.mapUpdate, r_und hm, hX, e2, run_getMap hW, hck, hrun, h7', e9, run_setMap _ hW]
  · cases hc
theorem eff_mapEntry {t : TypeId} {x i : Operand} (ho : o.op = .mapEntry t x i) {g g' : GW Value k} (hx : cEv k n x = some g) (hi : cEv k n i = some g') {c : EffC k} (hc : oMapEntry P t g g' = .eff c) : EffOK P k n c o := by
  have mem : x ∈ o.op.operands ∧ i ∈ o.op.operands := by rw [ho]; simp [Op.operands]
  have hnd : ∀ c, o.op ≠ .defer c := by rw [ho]; simp
  unfold oMapEntry at hc
  split at hc
  · rename_i kt d et hm
    obtain ⟨hm, hd⟩ := mapT_inv hm
    split at hc
    · rename_i z hz
      obtain ⟨hzp, hz⟩ := zeroOf_run hz
      simp only [OpC.eff.injEq] at hc; subst hc
      intro call _ f s K h ρ A W he hsr r0 m0 next Q hnext
      obtain ⟨hk, h⟩ := cond_inv h
      have hkp := (keyOk_inv hk).1
      have hck := checkKey_run hd hk
      rcases asMap_inv h with ⟨_, h⟩ | ⟨b, hvx, h⟩
      · cases h
      obtain ⟨hok, h⟩ := cond_inv h
      obtain ⟨es, c, hb, h⟩ := onMap_inv h
      have h1 := er1 he hx mem.1
      have h2 := er1 he hi mem.2
      rw [hvx] at h1
      obtain ⟨rn, hrn, hX⟩ := h1.map_inv
      have e2 := pureC_eq 4 h2 hkp
      obtain ⟨_, ES, hW, hE⟩ := hsr.map hb hrn
      cases hf : findK P kt d (g'.g f) es 0 with
      | none => simp [hf] at h
      | some r =>
        simp only [hf] at h
        obtain ⟨R, hrun, hR⟩ := findKey_run hd hkp hE hf
        cases r with
        | none =>
          have hR : R = none := hR
          subst hR
          have hst := map_set hsr hb hok hrn (es' := es ++ [⟨g'.g f, z, c⟩]) (ES' := ES.push ⟨g'.g f, z, c⟩) (c' := c + 1) (by rw [Array.toList_push]; exact EsR.append (e := ⟨g'.g f, z, c⟩) (E := ⟨g'.g f, z, c⟩) ⟨rfl, rfl, hkp, pureC_VR ρ 4 z hzp⟩ hE)
          refine wpIn_value hnd ?_ (hnext _ _ (.tuple #[z, goInt c]) _ _ hst (.tuple (.cons (pureC_VR ρ 4 z hzp) (.cons (.int _ _) .nil))) h)
          simp [execOp, ho, Instr.mapEntry, r_und hm, hX, e2, run_getMap hW, hck, hrun, hz, run_setMap _ hW]
        | some q =>
          obtain ⟨j, e⟩ := q
          obtain ⟨E, m, h4, h5, h6, h7, h8, h9⟩ := hR
          simp only [Nat.zero_add] at h4; subst h4; subst h5
          have h7' := arr_get2 h7
          have hst := map_set hsr hb hok hrn (es' := modL (fun e => ⟨g'.g f, e.val, e.born⟩) j es) (ES' := ES.modify j fun e => { e with key := g'.g f }) (c' := c) (by
            rw [Array.toList_modify]
            exact hE.modL fun e E he hE' h => ⟨rfl, h.2.1, hkp, h.2.2.2⟩)
          refine wpIn_value hnd ?_ (hnext _ _ (.tuple #[E.val, goInt E.born]) _ _ hst (.tuple (.cons h8.2.2.2 (.cons (by rw [h8.2.1]; exact .int _ _) .nil))) h)
          have e9 := keyThat_run (P := P) h9
          rw [← h8.1] at e9
          simp [execOp, ho, Instr.mapEntry, r_und hm, hX, e2, run_getMap hW, hck, hrun, h7', e9, run_setMap _ hW]
    · cases hc
  · cases hc
theorem findB_run {ρ : Ren} {m : Nat} : ∀ {es ES : List MapEntry} {i j : Nat}, EsR ρ es ES → findB m es i = some j → ∃ q, j = i + q ∧ ES.findIdx? (fun e => (e.born : Int) == (m : Int)) = some q
  | [], ES, i, j, h, hf => by simp [findB] at hf
  | e :: es, ES, i, j, h, hf => by
    obtain ⟨E, ES', rfl, h1, h2⟩ := h.inv
    simp only [findB] at hf
    rw [List.findIdx?_cons]
    cases hb : Nat.beq e.born m with
    | true =>
      rw [hb] at hf
      simp only [cond_true, Option.some.injEq] at hf
      have := beq_true hb
      exact ⟨0, by omega, by rw [h1.2.1, this]; simp⟩
    | false =>
      rw [hb] at hf
      simp only [cond_false] at hf
      obtain ⟨q, h3, h4⟩ := findB_run h2 hf
      have h3 : j = i + 1 + q := h3
      have hne : E.born ≠ m := fun he => by rw [h1.2.1] at he; rw [he] at hb; simp at hb
      refine ⟨q + 1, by omega, ?_⟩
      rw [if_neg (by simp; omega), h4]; rfl
theorem eff_entryStore {t : TypeId} {x i v : Operand} (ho : o.op = .entryStore t x i v) {g g' g2 : GW Value k} (hx : cEv k n x = some g) (hi : cEv k n i = some g') (hv : cEv k n v = some g2) {c : EffC k} (hc : oEntryStore g g' g2 = .eff c) : EffOK P k n c o := by
  have mem : x ∈ o.op.operands ∧ i ∈ o.op.operands ∧ v ∈ o.op.operands := by rw [ho]; simp [Op.operands]
  have hnd : ∀ c, o.op ≠ .defer c := by rw [ho]; simp
  simp only [oEntryStore, OpC.eff.injEq] at hc; subst hc
  intro call _ f s K h ρ A W he hsr r0 m0 next Q hnext
  rcases asMap_inv h with ⟨_, h⟩ | ⟨b, hvx, h⟩
  · cases h
  obtain ⟨hok, h⟩ := cond_inv h
  obtain ⟨es, c, hb, h⟩ := onMap_inv h
  obtain ⟨ik, m, him, h⟩ := asNat_inv h
  have h1 := er1 he hx mem.1
  have h2 := er1 he hi mem.2.1
  have h3 := er1 he hv mem.2.2
  rw [hvx] at h1
  rw [him] at h2
  obtain ⟨rn, hrn, hX⟩ := h1.map_inv
  obtain ⟨_, ES, hW, hE⟩ := hsr.map hb hrn
  cases hf : findB m es 0 with
  | none => simp [hf] at h
  | some j =>
    simp only [hf] at h
    obtain ⟨q, h4, h5⟩ := findB_run hE hf
    simp only [Nat.zero_add] at h4; subst h4
    have h5' : ES.findIdx? (fun e => (e.born : Int) == (m : Int)) = some j := by rw [← h5, ← List.findIdx?_toArray, Array.toArray_toList]
    have hst := map_set hsr hb hok hrn (es' := modL (fun e => ⟨e.key, g2.g f, e.born⟩) j es) (ES' := ES.modify j fun e => { e with val := A.eval v }) (c' := c) (by
      rw [Array.toList_modify]
      exact hE.modL fun e E he hE' h => ⟨h.1, h.2.1, h.2.2.1, h3⟩)
    refine wpIn_skip' hnd ?_ (hnext _ _ _ _ _ hst (VR.undef ρ) h)
    simp [execOp, ho, Instr.entryStore, hX, run_getMap hW, h2.int_inv, Go.asInt, asIntOf, h5', run_setMap _ hW]
theorem eff_delete {c : Call} {x i : Operand} {t : TypeId} {us : List TypeId} {g g' : GW Value k} (ho : o.op = .call c) (hb : c.callee = .builtin .delete) (hargs : c.args.toList = [x, i]) (hty : c.argTypes.toList = t :: us)
    (hx : cEv k n x = some g) (hi : cEv k n i = some g') {cc : EffC k} (hc : oDelete P t g g' = .eff cc) : EffOK P k n cc o := by
  have mx := call_mem ho hb x (by rw [hargs]; simp)
  have mi := call_mem ho hb i (by rw [hargs]; simp)
  have hex : ∀ A : Act, execOp A.eval o = (do pure (.value (← Builtin.delete_ ⟨t :: us⟩ o.type #[A.eval x, A.eval i]))) := fun A => by
    have e1 : c.args.map A.eval = #[A.eval x, A.eval i] := by apply Array.ext'; simp [hargs]
    have e2 : c.argTypes = ⟨t :: us⟩ := by apply Array.ext'; simp [hty]
    rw [execOp_builtin ho hb, e1, e2]; rfl
  have hnd : ∀ c, o.op ≠ .defer c := by rw [ho]; simp
  unfold oDelete at hc
  split at hc
  · rename_i kt d et hm
    obtain ⟨hm, hd⟩ := mapT_inv hm
    simp only [OpC.eff.injEq] at hc; subst hc
    intro call _ f s K h ρ A W he hsr r0 m0 next Q hnext
    obtain ⟨hk, h⟩ := cond_inv h
    have hkp := (keyOk_inv hk).1
    have hck := checkKey_run hd hk
    have h1 := er1 he hx mx
    have h2 := er1 he hi mi
    have e2 := pureC_eq 4 h2 hkp
    rcases asMap_inv h with ⟨hvx, h⟩ | ⟨b, hvx, h⟩
    · rw [hvx] at h1
      refine wpIn_value hnd (V := undef) ?_ (hnext ρ undef undef s W (.refl hsr) (VR.undef ρ) h)
      simp [hex, Builtin.delete_, r_und hm, h1.nilm_inv, e2, hck, undef]
    obtain ⟨hok, h⟩ := cond_inv h
    obtain ⟨es, c, hb', h⟩ := onMap_inv h
    rw [hvx] at h1
    obtain ⟨rn, hrn, hX⟩ := h1.map_inv
    obtain ⟨_, ES, hW, hE⟩ := hsr.map hb' hrn
    cases hf : findK P kt d (g'.g f) es 0 with
    | none => simp [hf] at h
    | some r =>
      simp only [hf] at h
      obtain ⟨R, hrun, hR⟩ := findKey_run hd hkp hE hf
      cases r with
      | none =>
        have hR : R = none := hR
        subst hR
        have hst := map_set hsr hb' hok hrn (es' := es) (ES' := ES) (c' := c) hE
        refine wpIn_value hnd (V := undef) ?_ (hnext _ _ _ _ _ hst (VR.undef ρ) h)
        simp [hex, Builtin.delete_, r_und hm, hX, e2, run_getMap hW, hck, hrun, run_setMap _ hW, undef]
      | some q =>
        obtain ⟨j, e⟩ := q
        obtain ⟨E, m, h4, h5, h6, h7, h8, h9⟩ := hR
        simp only [Nat.zero_add] at h4; subst h4; subst h5
        have hst := map_set hsr hb' hok hrn (es' := delL j es) (ES' := ES.eraseIdxIfInBounds j) (c' := c) (by
          rw [Array.toList_eraseIdxIfInBounds]
          exact hE.delL)
        refine wpIn_value hnd (V := undef) ?_ (hnext _ _ _ _ _ hst (VR.undef ρ) h)
        simp [hex, Builtin.delete_, r_und hm, hX, e2, run_getMap hW, hck, hrun, run_setMap _ hW, undef]
  · cases hc
theorem eff_clear {c : Call} {x : Operand} {t : TypeId} {us : List TypeId} {g : GW Value k} (ho : o.op = .call c) (hb : c.callee = .builtin .clear) (hargs : c.args.toList = [x]) (hty : c.argTypes.toList = t :: us)
    (hx : cEv k n x = some g) {cc : EffC k} (hc : oClear P t g = .eff cc) : EffOK P k n cc o := by
  have mx := call_mem ho hb x (by rw [hargs]; simp)
  have hex : ∀ A : Act, execOp A.eval o = (do pure (.value (← Builtin.clear_ ⟨t :: us⟩ o.type #[A.eval x]))) := fun A => by
    have e1 : c.args.map A.eval = #[A.eval x] := by apply Array.ext'; simp [hargs]
    have e2 : c.argTypes = ⟨t :: us⟩ := by apply Array.ext'; simp [hty]
    rw [execOp_builtin ho hb, e1, e2]; rfl
  have hnd : ∀ c, o.op ≠ .defer c := by rw [ho]; simp
  unfold oClear at hc
  split at hc
  · rename_i kt et hm
    simp only [OpC.eff.injEq] at hc; subst hc
    intro call _ f s K h ρ A W he hsr r0 m0 next Q hnext
    have h1 := er1 he hx mx
    rcases asMap_inv h with ⟨hvx, h⟩ | ⟨b, hvx, h⟩
    · rw [hvx] at h1
      refine wpIn_value hnd (V := undef) ?_ (hnext ρ undef undef s W (.refl hsr) (VR.undef ρ) h)
      simp [hex, Builtin.clear_, r_und hm, h1.nilm_inv, undef]
    obtain ⟨hok, h⟩ := cond_inv h
    obtain ⟨es, c, hb', h⟩ := onMap_inv h
    rw [hvx] at h1
    obtain ⟨rn, hrn, hX⟩ := h1.map_inv
    obtain ⟨_, ES, hW, hE⟩ := hsr.map hb' hrn
    have hst := map_set hsr hb' hok hrn (es' := []) (ES' := #[]) (c' := c) trivial
    refine wpIn_value hnd (V := undef) ?_ (hnext _ _ _ _ _ hst (VR.undef ρ) h)
    simp [hex, Builtin.clear_, r_und hm, hX, run_getMap hW, run_setMap _ hW, undef]
  · rename_i e hm
    cases hz : zeroL P e with
    | none => simp [hz] at hc
    | some z =>
    simp only [hz, OpC.eff.injEq] at hc; subst hc
    intro call _ f s K h ρ A W he hsr r0 m0 next Q hnext
    dsimp only at h
    have h1 := er1 he hx mx
    rcases asSlice_inv h with ⟨n1, c1, hv, h⟩ | ⟨b, off, n1, cp, hv, h⟩
    · rw [hv] at h1
      generalize hX : A.eval x = X at h1
      cases h1 with
      | nils =>
        refine wpIn_value hnd (V := undef) ?_ (hnext ρ undef undef s W (.refl hsr) (VR.undef ρ) h)
        simp [hex, Builtin.clear_, r_und hm, hX, undef]
    · rw [hv] at h1
      generalize hX : A.eval x = X at h1
      cases h1 with
      | slc hr hmc h0 h1 =>
        rename_i O C r
        cases n1 with
        | zero =>
          refine wpIn_value hnd (V := undef) ?_ (hnext ρ undef undef s W (.refl hsr) (VR.undef ρ) h)
          simp [hex, Builtin.clear_, r_und hm, hX, undef]
        | succ q =>
          have hO : O = r.sh + off := by
            cases hg : r.gr with
            | false => exact (h0 hg).2
            | true => exact (h1 hg).2.1 (by omega)
          obtain ⟨ck, cn, ct, ce, cg, hb', hro, hle', hfl, hk⟩ := stN_inv h
          obtain ⟨v, hzr, hzv, hpure⟩ := r_zero hz W
          have hR : VsR ρ (repL z (q + 1)) ((Array.range ((q + 1) * v.cells.size)).map fun i => v.cells[i % v.cells.size]!).toList := by
            have hzz := pureC_cells ρ hpure
            rw [← hzv] at hzz
            rw [rep_eq, ← hzv]; exact repL_VsR hzz (q + 1)
          obtain ⟨W', hst, hstp⟩ := store_sound hsr hr hb' hro hR hfl hle'
          rw [← hO] at hst
          refine wpIn_value hnd (V := undef) ?_ (hnext _ _ _ _ _ hstp (VR.undef ρ) hk)
          have hst2 : (storeCells ⟨r.blk, O, none⟩ (Builtin.zeroCells v.cells (q + 1)).toList).run P W = .ok () W' := hst
          simp [hex, Builtin.clear_, r_und hm, hX, hzr, hst2, undef]
  · cases hc
end Go.Ab
