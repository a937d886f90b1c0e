/- Appends and copies: what the closures say. -/
import Derived.Test.YtogncjicndbahaaEngL
namespace Go.Ab
variable {P : Program} {k n : Nat} {o : Oper}

theorem newC_inv {s : St} {l : List Value} {e : TypeId} {g : Bool} {K : Nat → St → Bool} (h : newC s l e g K = true) : s.nx < 4398046511104 ∧ l.length ≤ 32768 ∧ K s.nx (s.push (mkC l e g)) = true := by
  obtain ⟨h1, h⟩ := cond_inv h
  obtain ⟨h1, h2⟩ := and_true h1
  exact ⟨blt_true h1, ble_true h2, h⟩
theorem srcOf_inv {u : TypeId} {sl : Bool} (h : srcOf P u = some sl) : (sl = true ∧ ∃ e2, P.underlying u = some (.slice e2)) ∨ (sl = false ∧ ∃ ik, P.underlying u = some (.int ik)) := by
  unfold srcOf at h
  cases hd : P.underlying u with
  | none => simp [hd] at h
  | some d =>
    cases d <;> simp [hd] at h
    · subst h; exact .inr ⟨rfl, _, rfl⟩
    · subst h; exact .inl ⟨rfl, _, rfl⟩
theorem srcF_sound {t u e ty : TypeId} {i : TypeInfo} {v : Value} {z : List Value} {sl : Bool} {s : St} {y : Value} {K : Nat → List Value → Bool} (h : srcF s i.size z sl y K = true) (hs : srcOf P u = some sl)
    (ht : P.underlying t = some (.slice e)) (hi : P.info? e = some i) (hz : i.zero = some v) (hvz : v.cells.size = i.size) (hby : i.bytes ≤ 1000000) (hzv : z = v.cells.toList) (hpure : pureC 4 v = true) :
    ∃ q l, K q l = true ∧ l.length = q * i.size ∧ ∀ ρ X, VR ρ y X → ∃ App, SrcOK P t u e ty i q X App ∧ ∀ W, SR P ρ s W → ∃ L, App W ⟨L⟩ ∧ VsR ρ l L := by
  rcases srcOf_inv hs with ⟨rfl, e2, hu⟩ | ⟨rfl, ik, hu⟩
  · obtain ⟨q, l, h, hlq, hsrc⟩ := source_sound (P := P) (show source s i.size y K = true from h)
    refine ⟨q, l, h, hlq, fun ρ X hX => ⟨_, srcOK_slice ty ht hu hi hz hvz hby (hsrc ρ X hX).1, (hsrc ρ X hX).2⟩⟩
  · obtain ⟨jk, q, hy, h⟩ := asNat_inv (show asNat y (fun n => bif Nat.ble n 32768 then K n (repL z n) else false) = true from h)
    obtain ⟨hq, h⟩ := cond_inv h
    have hq := ble_true hq
    refine ⟨q, repL z q, h, by rw [repL_length, hzv, Array.length_toList, hvz], fun ρ X hX => ?_⟩
    rw [hy] at hX
    rw [hX.int_inv]
    refine ⟨_, srcOK_zeros ty ht hu hi hz hvz hby hq, fun W _ => ⟨(Builtin.zeroCells v.cells q).toList, rfl, ?_⟩⟩
    have := pureC_cells ρ hpure
    show VsR ρ (repL z q) ((Array.range (q * v.cells.size)).map fun i => v.cells[i % v.cells.size]!).toList
    rw [rep_eq, hzv]; exact repL_VsR this q
theorem eff_append {c : Call} {x y : Operand} {t u : TypeId} {gx gy : GW Value k} (ho : o.op = .call c) (hb : c.callee = .builtin .append) (hargs : c.args.toList = [x, y]) (hty : c.argTypes.toList = [t, u])
    (hx : cEv k n x = some gx) (hy : cEv k n y = some gy) {cc : EffC k} (hc : oAppend P t u gx gy = .eff cc) : EffOK P k n cc o := by
  have hmem : ∀ z, z ∈ [x, y] → z ∈ o.op.operands := fun z hz => by
    rw [ho]; simp only [Op.operands, Call.operands, hb]
    rw [Array.mem_append]; right
    rw [← Array.mem_toList_iff, hargs]; exact hz
  have mx := hmem x (by simp)
  have my := hmem y (by simp)
  have hex : ∀ A : Act, execOp A.eval o = (do pure (.value (← Builtin.append_ #[t, u] o.type #[A.eval x, A.eval y]))) := fun A => by
    have e1 : c.args.map A.eval = #[A.eval x, A.eval y] := by apply Array.ext'; simp [hargs]
    have e2 : c.argTypes = #[t, u] := by apply Array.ext'; simp [hty]
    rw [execOp_builtin ho hb, e1, e2]; rfl
  have hnd : ∀ c, o.op ≠ .defer c := by rw [ho]; simp
  unfold oAppend elemOfSlice at hc
  cases hdt : P.underlying t with
  | none => simp [hdt] at hc
  | some dt =>
  cases dt <;> simp only [hdt] at hc <;> (try (cases hc; done))
  rename_i e
  cases hdu : srcOf P u with
  | none => simp [hdu] at hc
  | some sl =>
  simp only [hdu] at hc
  cases hi : P.info? e with
  | none => simp [hi] at hc
  | some i =>
  cases hz : zeroL P e with
  | none => simp [hi, hz] at hc
  | some z =>
  simp only [hi, hz] at hc
  cases hcond : (Nat.beq z.length i.size && Nat.ble i.bytes 1000000 && Nat.ble 1 i.size) with
  | false => rw [hcond] at hc; cases hc
  | true =>
  rw [hcond] at hc
  simp only [cond_true, OpC.eff.injEq] at hc; subst hc
  obtain ⟨hcond, hc3⟩ := and_true hcond
  obtain ⟨hc1, hc2⟩ := and_true hcond
  have hc1 := beq_true hc1
  have hc2 := ble_true hc2
  have hc3 := ble_true hc3
  obtain ⟨i', v, g1, g2, g3, g4⟩ := zeroL_inv hz
  rw [hi] at g1; cases g1
  rw [vcells_eq] at g4
  have hvz : v.cells.size = i.size := by rw [← hc1, g4]; simp
  have hszT : sizeT P e = some i.size := by simp [sizeT, hi]
  intro call _ f s K h ρ A W he hsr r0 m0 next Q hnext
  dsimp only at h
  obtain ⟨q, l, h, hlq, hsrc⟩ := srcF_sound (P := P) (ty := o.type) h hdu hdt hi g2 hvz hc2 g4 g3
  obtain ⟨hfl, h⟩ := cond_inv h
  have h1 := er1 he hx mx
  have h2 := er1 he hy my
  obtain ⟨App, hS, hload⟩ := hsrc ρ _ h2
  have hdrew : ∀ d, SR P ρ s { W with drawn := d } := fun d => hsr.heap rfl
  have fin : ∀ V W', (Builtin.append_ #[t, u] o.type #[A.eval x, A.eval y]).run P W = .ok V W' → next (A.put o.dst V) W' → o.wpIn (WF r0) m0 P A W next Q := fun V W' hr hn => by
    refine wpIn_value hnd (V := V) (W' := W') ?_ hn
    rw [hex, Sem.run_bind, hr]; rfl
  rcases asSlice_inv h with ⟨m, cp, hv, h⟩ | ⟨b, off, m, cp, hv, h⟩
  · -- from nil
    obtain ⟨hm0, hk⟩ := cond_inv h
    obtain ⟨hm0, hc0⟩ := and_true hm0
    have hm0 := beq_true hm0
    have hc0 := beq_true hc0
    subst hm0 hc0
    rw [hv] at h1
    generalize hX : A.eval x = X at h1
    cases h1 with
    | nils =>
      rw [hX] at fin
      cases hq : Nat.beq q 0 with
      | true =>
        rw [hq] at hk
        simp only [cond_true] at hk
        have hq := beq_true hq
        subst hq
        obtain ⟨L, hL, _⟩ := hload W hsr
        refine fin _ W (hS.fit hL (Nat.le_refl _) (by intro a ha; cases ha) (fun _ => rfl)) (hnext ρ _ _ s W (.refl hsr) (.nils _ _) hk)
      | false =>
        rw [hq] at hk
        simp only [cond_false] at hk
        have hq0 : q ≠ 0 := fun e => by rw [e, Nat.beq_refl] at hq; cases hq
        obtain ⟨hnx, hll, hk⟩ := newC_inv hk
        obtain ⟨L, hL, hR⟩ := hload { W with drawn := W.drawn + 1 } (hdrew _)
        have hqs : q ≤ 32768 := by
          have : q * 1 ≤ q * i.size := Nat.mul_le_mul_left q hc3
          omega
        obtain ⟨cpC, rest, hcp, hrest, hrun⟩ := hS.grow (base := none) (m := 0) (C := 0) (by omega) (by omega) (old := #[]) rfl hL
        simp only [Nat.zero_add] at hrun hcp hrest
        refine fin _ _ hrun ?_
        have hlenL := hR.length
        let r : Rn := ⟨W.heap.size, 0, ((#[] : Array Value) ++ (⟨L⟩ : Array Value) ++ rest).size, i.size, true⟩
        have hOR : OR P (ρ.add s.nx r) r (mkC l e true) (.cells ((#[] : Array Value) ++ (⟨L⟩ : Array Value) ++ rest) e (0, 0)) :=
          mkC_OR (hR.mono (Ren.add_ext (hsr.new _ (Nat.le_refl _)))) hll (by simp) rfl (fun _ => hszT)
        have hstp := Stp.push (hdrew (W.drawn + 1)) hnx (r := r) rfl hOR
        refine hnext _ _ _ _ _ ((Stp.drew hsr (W.drawn + 1)).trans hstp) (.slc (o := 0) (c := q) (r := r) (Ren.add_self _ _ _) (Nat.le_refl _) (fun hx => absurd hx (by simp [r])) fun _ => ⟨hcp, fun _ => rfl, ?_⟩) hk
        have e1 : cpC * i.size = q * i.size + (cpC - q) * i.size := by rw [← Nat.add_mul, Nat.add_sub_cancel' (by omega)]
        simp only [r, Array.size_append, List.size_toArray, List.length_nil]
        have : rest.size = (cpC - q) * i.size := by simpa using hrest
        omega
  · -- from a block
    rw [hv] at h1
    generalize hX : A.eval x = X at h1
    rw [hX] at fin
    cases h1 with
    | slc hr hmc h0 h1 =>
      rename_i O C r
      have hcC : cp ≤ C := by
        cases hg : r.gr with
        | false => rw [(h0 hg).1]; exact Nat.le_refl _
        | true => exact (h1 hg).1
      have hO : cp ≠ 0 → O = r.sh + off := fun hne => by
        cases hg : r.gr with
        | false => exact (h0 hg).2
        | true => exact (h1 hg).2.1 hne
      have h : (bif Nat.ble (m + q) cp then stN s b (off + m * i.size) l (fun s' => K (slc b off (m + q) cp) s') else growS s e i.size b off m q l K) = true := h
      cases hfit : Nat.ble (m + q) cp with
      | true =>
        rw [hfit] at h
        simp only [cond_true] at h
        have hfit := ble_true hfit
        obtain ⟨bk, bn, bt, be, bg, hb', hro, hle, _, h⟩ := stN_inv h
        obtain ⟨L, hL, hR⟩ := hload W hsr
        obtain ⟨W', hst, hstp⟩ := store_sound hsr hr hb' hro hR hfl hle
        have hst' : (storeCells ((⟨r.blk, O, none⟩ : Addr).add (m * i.size)) L).run P W = .ok () W' := by
          rw [addr_add]
          by_cases hcp0 : cp = 0
          · have hq0 : q = 0 := by omega
            have : L = [] := by
              have := hR.length
              rw [hlq, hq0, Nat.zero_mul] at this
              exact List.length_eq_zero_iff.1 this.symm
            subst this
            have : W' = W := by simp only [storeCells, Sem.run_pure, Result.ok.injEq] at hst; exact hst.2.symm
            rw [this]; rfl
          · rw [hO hcp0, Nat.add_assoc]; exact hst
        refine fin _ W' (hS.fit hL (by omega) (fun a ha => by cases ha; exact hst') (fun h => by cases h)) (hnext _ _ _ _ _ hstp (.slc hr hfit h0 h1) h)
      | false =>
        rw [hfit] at h
        simp only [cond_false] at h
        have hfit := ble_false hfit
        obtain ⟨ck, cn, ct, ce, cg, ob, hb', hce, hle, hsm, hnx, hk, hob⟩ := growS_inv (P := P) hlq h
        obtain ⟨r', OB, q1, q2, CB, e', fr, q3, q0, q4, q5, q6, q7, q8, q9⟩ := hsr.obj b _ hb'
        rw [hr] at q1; cases q1; subst q3
        have hbl := St.at_lt hb'
        have hext : ∀ r2, Ext ρ (ρ.add s.nx r2) := fun r2 => Ren.add_ext (hsr.new _ (Nat.le_refl _))
        have hmz : m ≠ 0 → O = r.sh + off := fun hne => hO (by omega)
        have hMul : (m + q) * i.size = m * i.size + q * i.size := Nat.add_mul _ _ _
        by_cases hin : m + q ≤ C
        · -- in its place
          have hg : r.gr = true := by
            cases hg : r.gr with
            | true => rfl
            | false => rw [(h0 hg).1] at hin; omega
          have hcg : cg = true := by rw [← q4]; exact hg
          subst hcg
          obtain ⟨rfl, rfl⟩ := q0 (.inr rfl)
          obtain ⟨hce1, hokb⟩ := hce rfl; subst hce1
          have hes : r.es = i.size := by
            have := q5 rfl
            rw [hszT] at this; exact (Option.some.inj this).symm
          obtain ⟨_, _, hfits⟩ := h1 hg
          rw [hes, q6] at hfits
          have hroom : O + (m + q) * i.size ≤ CB.size := by
            have : (m + q) * i.size ≤ C * i.size := Nat.mul_le_mul_right _ hin
            omega
          obtain ⟨L, hL, hR⟩ := hload W hsr
          have hLlen := hR.length
          have hflL : ∀ v ∈ L, v.oneCell' = true := fun V hV => by
            obtain ⟨j, hj, hjV⟩ := List.getElem_of_mem hV
            have hjl : j < l.length := by omega
            obtain ⟨V', e1, e2⟩ := hR.get (List.getElem?_eq_getElem hjl)
            rw [List.getElem?_eq_getElem hj, hjV] at e1
            cases e1
            exact e2.flat (List.all_eq_true.1 hfl _ (List.getElem_mem hjl))
          obtain ⟨W', C', w1, w2, w3, w4, w5, w6, w7, w8, w9⟩ := storeCells_run (P := P) L 0 (O + m * i.size) W CB q2 hflL (by omega)
          let r2 : Rn := ⟨r.blk, O, C'.size, i.size, true⟩
          have hOR : OR P (ρ.add s.nx r2) r2 ob (.cells C' e' (0, 0)) := by
            refine hob _ r2 C' rfl hszT rfl (by show O + (m + q) * i.size ≤ C'.size; omega) q8 fun j V hj => ?_
            refine VR.mono (hext r2) ?_
            show VR ρ V (C'.getD (O + j) undef)
            have hCj := w9 (O + j)
            by_cases hjm : j < m * i.size
            · rw [List.getElem?_append_left (by rw [gets_length]; exact hjm), gets_get _ _ _ _ _ hjm] at hj
              cases hj
              have hm0 : m ≠ 0 := fun e => by rw [e, Nat.zero_mul] at hjm; omega
              rw [if_neg (by omega)] at hCj
              have hcell := q9 (off + j) (by omega)
              rw [show r.sh + (off + j) = O + j from by rw [hmz hm0]; omega] at hcell
              simp only [Array.getD_eq_getD_getElem?, hCj] at hcell ⊢
              exact hcell
            · rw [List.getElem?_append_right (by rw [gets_length]; omega), gets_length] at hj
              have hjl : j - m * i.size < l.length := by
                rcases Nat.lt_or_ge (j - m * i.size) l.length with h' | h'
                · exact h'
                · rw [List.getElem?_eq_none h'] at hj; cases hj
              obtain ⟨V', e1, e2⟩ := hR.get hj
              rw [if_pos (by omega), show O + j - (O + m * i.size + 0) = j - m * i.size from by omega, e1] at hCj
              simp only [Array.getD_eq_getD_getElem?, hCj, Option.getD_some]
              exact e2
          have hstp := Stp.rehome hsr hb' (fix_of (by simp [isRo]) hokb) hr hnx (r' := r2) rfl w2 w3 w4 w5 w7 w6 hOR
          refine fin _ W' (hS.fit hL hin (fun a ha => by cases ha; rw [addr_add]; exact w1) (fun h => by cases h))
            (hnext _ _ _ _ _ hstp (.slc (r := r2) (Ren.add_self _ _ _) (Nat.le_refl _) (fun hx => absurd hx (by simp [r2])) fun _ => ⟨hin, fun _ => rfl, ?_⟩) hk)
          show O + C * i.size ≤ C'.size
          omega
        · -- a new block
          have hgets : ∀ d, ∃ L, (Builtin.firstCells i.size m (.slice (some ⟨r.blk, O, none⟩) m C)).run P { W with drawn := d } = .ok ⟨L⟩ { W with drawn := d } ∧ VsR ρ (gets ck ct off (m * i.size)) L := fun d => by
            by_cases hm0 : m = 0
            · subst hm0
              refine ⟨[], ?_, by rw [Nat.zero_mul]; exact .nil⟩
              simp [Builtin.firstCells, loadCells, loadCellsFrom]
            · rw [hmz hm0]
              exact loadN_run (hdrew d) hr hb' hle
          obtain ⟨L0, hL0, hR0⟩ := hgets (W.drawn + 1)
          obtain ⟨L, hL, hR⟩ := hload { W with drawn := W.drawn + 1 } (hdrew _)
          obtain ⟨cpC, rest, hcp, hrest, hrun⟩ := hS.grow (base := some ⟨r.blk, O, none⟩) (m := m) (C := C) (by omega) hsm hL0 hL
          refine fin _ _ hrun ?_
          have hl0 := hR0.length
          rw [gets_length] at hl0
          have hl1 := hR.length
          let CC : Array Value := (⟨L0⟩ : Array Value) ++ (⟨L⟩ : Array Value) ++ rest
          have hCC : CC.size = cpC * i.size := by
            have e1 : cpC * i.size = (m + q) * i.size + (cpC - (m + q)) * i.size := by rw [← Nat.add_mul, Nat.add_sub_cancel' hcp]
            simp only [CC, Array.size_append, List.size_toArray]
            omega
          let r2 : Rn := ⟨W.heap.size, 0, CC.size, i.size, true⟩
          have hOR : OR P (ρ.add s.nx r2) r2 ob (.cells CC e (0, 0)) := by
            refine hob _ r2 CC rfl hszT rfl (by show 0 + (m + q) * i.size ≤ CC.size; rw [hCC, Nat.zero_add]; exact Nat.mul_le_mul_right _ hcp) q8 fun j V hj => ?_
            refine VR.mono (hext r2) ((hR0.append hR).getD hj fun j' hj' => ?_)
            show CC[0 + j']? = _
            rw [← arr_get?]
            simp only [CC, Array.toList_append, Nat.zero_add]
            rw [List.getElem?_append_left hj']
          have hs1nx : (if cg then s.set b none else s).nx = s.nx := by cases cg <;> rfl
          have hsub : ∀ c o', (if cg then s.set b none else s).at c = some o' → s.at c = some o' := by
            cases cg with
            | false => exact fun _ _ h => h
            | true => exact at_drop hbl
          have hsr1 : SR P ρ (if cg then s.set b none else s) { W with drawn := W.drawn + 1 } := by
            cases cg with
            | false => exact hdrew _
            | true => exact (hdrew _).drop hbl
          have hstp := Stp.push hsr1 (by rw [hs1nx]; exact hnx) (r := r2) rfl (by rw [hs1nx]; exact hOR)
          rw [hs1nx] at hstp
          refine hnext _ _ _ _ _ ((Stp.drew hsr (W.drawn + 1)).trans (hstp.weaken hsub hs1nx (by cases cg <;> rfl))) (.slc (r := r2) (Ren.add_self _ _ _) (Nat.le_refl _) (fun hx => absurd hx (by simp [r2])) fun _ => ⟨hcp, fun _ => rfl, ?_⟩) hk
          show 0 + cpC * i.size ≤ CC.size
          omega
end Go.Ab
