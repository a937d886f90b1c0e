/- Copies, the other builtins, and all operations together. -/
import Derived.Test.YtogncjicndbahaaEngM
namespace Go.Ab
variable {P : Program} {k n : Nat} {o : Oper}

theorem call_mem {c : Call} {b : Builtin} (ho : o.op = .call c) (hb : c.callee = .builtin b) : ∀ z, z ∈ c.args.toList → z ∈ o.op.operands := fun z hz => by
  rw [ho]; simp only [Op.operands, Call.operands, hb]
  rw [Array.mem_append]; right
  rw [← Array.mem_toList_iff]; exact hz
theorem eff_copy {c : Call} {x y : Operand} {t u : TypeId} {gx gy : GW Value k} (ho : o.op = .call c) (hb : c.callee = .builtin .copy) (hargs : c.args.toList = [x, y]) (hty : c.argTypes.toList = [t, u])
    (hx : cEv k n x = some gx) (hy : cEv k n y = some gy) {cc : EffC k} (hc : oCopy P t gx gy = .eff cc) : EffOK P k n cc o := by
  have mx := call_mem ho hb x (by rw [hargs]; simp)
  have my := call_mem ho hb y (by rw [hargs]; simp)
  have hex : ∀ A : Act, execOp A.eval o = (do pure (.value (← Builtin.copy_ #[t, u] o.type #[A.eval x, A.eval y]))) := fun A => by
    have e1 : c.args.map A.eval = #[A.eval x, A.eval y] := by apply Array.ext'; simp [hargs]
    have e2 : c.argTypes = #[t, u] := by apply Array.ext'; simp [hty]
    rw [execOp_builtin ho hb, e1, e2]; rfl
  have hnd : ∀ c, o.op ≠ .defer c := by rw [ho]; simp
  unfold oCopy elemOfSlice at hc
  cases hdt : P.underlying t with
  | none => simp [hdt] at hc
  | some dt =>
  cases dt <;> simp only [hdt] at hc <;> (try (cases hc; done))
  rename_i e
  cases hs : sizeT P e with
  | none => simp [hs] at hc
  | some z =>
  simp only [hs, OpC.eff.injEq] at hc; subst hc
  intro call _ f s K h ρ A W he hsr r0 m0 next Q hnext
  dsimp only at h
  have h1 := er1 he hx mx
  have h2 := er1 he hy my
  have fin : ∀ V W', (Builtin.copy_ #[t, u] o.type #[A.eval x, A.eval y]).run P W = .ok V W' → next (A.put o.dst V) W' → o.wpIn (WF r0) m0 P A W next Q := fun V W' hr hn => by
    refine wpIn_value hnd (V := V) (W' := W') ?_ hn
    rw [hex, Sem.run_bind, hr]; rfl
  have hcp : ∀ (a : Addr) (dn dc sn : Nat) (L : List Value) W', A.eval x = .slice (some a) dn dc → (Builtin.lenOf (A.eval y)).run P W = .ok sn W → (Builtin.firstCells z (Nat.min sn dn) (A.eval y)).run P W = .ok ⟨L⟩ W →
      (storeCells a L).run P W = .ok () W' → (Builtin.copy_ #[t, u] o.type #[A.eval x, A.eval y]).run P W = .ok (.int .i64 (.ofNat (Nat.min sn dn))) W' := by
    intro a dn dc sn L W' e1 e2 e3 e4
    rw [e1]
    simp only [Builtin.copy_, List.getElem?_toArray, List.getElem?_cons_zero, List.getElem?_cons_succ, Sem.run_bind, r_und hdt, r_size hs, Result.andThen_ok, e2, e3, e4, Sem.run_pure]
    rfl
  rcases asSlice_inv h with ⟨m, cp, hv, h⟩ | ⟨b, off, m, cp, hv, h⟩
  · rcases asSlice_inv h with ⟨_, _, _, h⟩ | ⟨_, _, _, _, _, h⟩ <;> cases h
  rw [hv] at h1
  generalize hX : A.eval x = X at h1
  cases h1 with
  | slc hr hmc h0 h1 =>
    rename_i O C r
    have hO : cp ≠ 0 → O = r.sh + off := fun hne => by
      cases hg : r.gr with
      | false => exact (h0 hg).2
      | true => exact (h1 hg).2.1 hne
    rcases asSlice_inv h with ⟨m2, cp2, hv2, h⟩ | ⟨b2, off2, m2, cp2, hv2, h⟩
    · obtain ⟨hz0, hk⟩ := cond_inv h
      have hz0 := beq_true hz0
      rw [hv2] at h2
      generalize hY : A.eval y = Y at h2
      cases h2 with
      | nils =>
        have := hcp ⟨r.blk, O, none⟩ m C m2 [] W hX (by rw [hY]; rfl) (by rw [hY]; rfl) rfl
        refine fin _ _ this (hnext ρ _ _ s W (.refl hsr) (.int _ _) ?_)
        rw [hz0]
        have : Nat.min 0 m = 0 := Nat.zero_min m
        rw [this]; exact hk
    · rw [hv2] at h2
      generalize hY : A.eval y = Y at h2
      cases h2 with
      | slc hr2 hmc2 h02 h12 =>
        rename_i O2 C2 r2
        have hO2 : cp2 ≠ 0 → O2 = r2.sh + off2 := fun hne => by
          cases hg : r2.gr with
          | false => exact (h02 hg).2
          | true => exact (h12 hg).2.1 hne
        have hmin : (bif Nat.ble m2 m then m2 else m) = Nat.min m2 m := by
          show _ = if m2 ≤ m then m2 else m
          cases hb : Nat.ble m2 m with
          | true => rw [if_pos (ble_true hb)]; rfl
          | false => rw [if_neg (by have := ble_false hb; omega)]; rfl
        rw [hmin] at h
        have hle1 : Nat.min m2 m ≤ m2 := Nat.min_le_left _ _
        have hle2 : Nat.min m2 m ≤ m := Nat.min_le_right _ _
        generalize hq : Nat.min m2 m = q at h hle1 hle2
        obtain ⟨bk, bn, bt, be, bg, hb2, hle, h⟩ := ldN_inv h
        obtain ⟨ck, cn, ct, ce, cg, hb', hro, hle', hfl, hk⟩ := stN_inv h
        have hle : off2 + q * z ≤ bn := hle
        have hsrc : ∃ L, (Builtin.firstCells z q (.slice (some ⟨r2.blk, O2, none⟩) m2 C2)).run P W = .ok ⟨L⟩ W ∧ VsR ρ (gets bk bt off2 (q * z)) L := by
          by_cases hq0 : q = 0
          · subst hq0
            refine ⟨[], ?_, by rw [Nat.zero_mul]; exact .nil⟩
            simp [Builtin.firstCells, loadCells, loadCellsFrom]
          · rw [hO2 (by omega)]
            exact loadN_run hsr hr2 hb2 hle
        obtain ⟨L, hL, hR⟩ := hsrc
        obtain ⟨W', hst, hstp⟩ := store_sound hsr hr hb' hro hR hfl hle'
        have hst' : (storeCells ⟨r.blk, O, none⟩ L).run P W = .ok () W' := by
          by_cases hq0 : q = 0
          · subst hq0
            have : L = [] := by
              have := hR.length
              rw [gets_length, Nat.zero_mul] at this
              exact List.length_eq_zero_iff.1 this.symm
            subst this
            have : W' = W := by simp only [storeCells, Sem.run_pure, Result.ok.injEq] at hst; exact hst.2.symm
            rw [this]; rfl
          · rw [hO (by omega)]; exact hst
        have := hcp ⟨r.blk, O, none⟩ m C m2 L W' hX (by rw [hY]; rfl) (by rw [hY, hq]; exact hL) hst'
        rw [hq] at this
        exact fin _ _ this (hnext _ _ _ _ _ hstp (.int _ _) hk)
theorem sil_builtin {c : Call} {b : Builtin} {gs : List (GW Value k)} (ho : o.op = .call c) (hb : c.callee = .builtin b) (hg : cEvs k n c.args.toList = some gs) :
    SilOK P k n ⟨fun f K => bif (evAll f gs).all (pureC 4) then
      (match pureRun P (builtin b ⟨c.argTypes.toList⟩ o.type (c.args.toList.map isK).toArray ⟨evAll f gs⟩) with
        | some nx => match nx with
          | .value w => bif pureC 4 w then K w else false
          | _ => false
        | none => false)
      else false⟩ o := by
  intro f K h
  obtain ⟨hp, h⟩ := cond_inv h
  cases hr : pureRun P (builtin b ⟨c.argTypes.toList⟩ o.type (c.args.toList.map isK).toArray ⟨evAll f gs⟩) with
  | none => rw [hr] at h; cases h
  | some nx =>
    rw [hr] at h
    cases nx <;> (try (cases h; done))
    rename_i w
    simp only at h
    obtain ⟨hw, h⟩ := cond_inv h
    refine ⟨w, h, fun ρ A he => ⟨w, pureC_VR ρ 4 w hw, fun W => ?_⟩⟩
    have h1 := ers he hg (call_mem ho hb)
    have h2 := pureC_eqs 4 h1 (by simpa using hp)
    rw [execOp_builtin ho hb]
    have e1 : c.args.map A.eval = ⟨evAll f gs⟩ := by apply Array.ext'; simp [h2]
    have e2 : c.args.map isK = (c.args.toList.map isK).toArray := by apply Array.ext'; simp
    rw [e1, e2]
    exact pureRun_run _ hr W
theorem sil_mm {c : Call} {b : Builtin} {x y : Operand} {gx gy : GW Value k} (ho : o.op = .call c) (hb : c.callee = .builtin b) (hargs : c.args.toList = [x, y]) (hx : cEv k n x = some gx) (hy : cEv k n y = some gy)
    {F : IntKind → Int → Int → (Value → Bool) → Bool}
    (hF : ∀ a m m' K, F a m m' K = true → ∃ v, K v = true ∧ pureC 4 v = true ∧ ∀ ts ty cs W, (builtin b ts ty cs #[.int a m, .int a m']).run P W = .ok (.value v) W) {cc : SilC k} (hc : (ints gx gy F : OpC k) = .sil cc) : SilOK P k n cc o := by
  simp only [ints, OpC.sil.injEq] at hc; subst hc
  intro f K h
  obtain ⟨a, m, hm, h⟩ := asInt_inv h
  obtain ⟨b', m', hm', h⟩ := asInt_inv h
  obtain ⟨hk, h2⟩ := cond_inv h
  have := kIdx_inj hk; subst this
  obtain ⟨v, hv, hp, hr⟩ := hF _ _ _ _ h2
  refine ⟨v, hv, fun ρ A he => ⟨v, pureC_VR ρ 4 v hp, fun W => ?_⟩⟩
  have h1 := er1 he hx (call_mem ho hb x (by rw [hargs]; simp))
  have h2 := er1 he hy (call_mem ho hb y (by rw [hargs]; simp))
  rw [hm] at h1; rw [hm'] at h2
  have e1 : c.args.map A.eval = #[.int a m, .int a m'] := by apply Array.ext'; simp [hargs, h1.int_inv, h2.int_inv]
  rw [execOp_builtin ho hb, e1]
  exact hr _ _ _ W
theorem cond_if {b : Bool} {x y : Int} {p : Prop} [Decidable p] (h : b = decide p) : (bif b then x else y) = if p then x else y := by
  subst h
  by_cases hp : p <;> simp [hp]
theorem sil_len {c : Call} {x : Operand} {t : TypeId} {g : GW Value k} (ho : o.op = .call c) (hb : c.callee = .builtin .len) (hargs : c.args.toList = [x]) (hty : c.argTypes.toList = [t]) (hx : cEv k n x = some g)
    {F : Fm Value k → (Value → Bool) → Bool} (hF : ∀ f K, F f K = true → ∃ m : Nat, K (.int .i64 (.ofNat m)) = true ∧ ∀ ρ X, VR ρ (g.g f) X → ∀ ty W, (Builtin.len_ #[t] ty #[X]).run P W = .ok (.int .i64 (.ofNat m)) W) : SilOK P k n ⟨F⟩ o := by
  intro f K h
  obtain ⟨m, h, hr⟩ := hF f K h
  refine ⟨_, h, fun ρ A he => ⟨_, .int _ _, fun W => ?_⟩⟩
  have h1 := er1 he hx (call_mem ho hb x (by rw [hargs]; simp))
  have e1 : c.args.map A.eval = #[A.eval x] := by apply Array.ext'; simp [hargs]
  have e2 : c.argTypes = #[t] := by apply Array.ext'; simp [hty]
  rw [execOp_builtin ho hb, e1, e2]
  show (do pure (.value (← Builtin.len_ #[t] o.type #[A.eval x])) : Sem Next).run P W = _
  rw [Sem.run_bind, hr ρ _ h1]; rfl

/-- what holds of an operation's closure -/
def OpOK (P : Program) (k n : Nat) (o : Oper) : OpC k → Prop
  | .sil c => SilOK P k n c o
  | .rd c => RdOK P k n c o
  | .al c => AlOK P k n c o
  | .eff c => EffOK P k n c o
  | .bad => True
theorem OpOK.strOr {x : GW Value k} {c d : OpC k} (hc : OpOK P k n o c) (hd : OpOK P k n o d) : OpOK P k n o (strOr x c d) := by
  unfold Ab.strOr
  cases c <;> (try trivial)
  cases d <;> (try trivial)
  intro f K h
  simp only at h
  split at h
  · exact hd f K h
  · exact hc f K h
theorem cBuiltin_ok {c : Call} {b : Builtin} (ho : o.op = .call c) (hb : c.callee = .builtin b) : OpOK P k n o (cBuiltin P k n b c.args.toList c.argTypes.toList o.type) := by
  unfold cBuiltin
  cases hg : cEvs k n c.args.toList with
  | none => trivial
  | some gs =>
    simp only
    split
    · split
      · rename_i x y t u hty
        obtain ⟨X, Y, hargs, hx, hy⟩ := cEvs2 hg
        cases hc : oAppend P t u x y with
        | eff cc => exact eff_append ho hb hargs hty hx hy hc
        | bad => trivial
        | sil _ => unfold oAppend at hc; (repeat' split at hc) <;> (first | cases hc | (simp only [cond_eq_ite] at hc; split at hc <;> cases hc))
        | rd _ => unfold oAppend at hc; (repeat' split at hc) <;> (first | cases hc | (simp only [cond_eq_ite] at hc; split at hc <;> cases hc))
        | al _ => unfold oAppend at hc; (repeat' split at hc) <;> (first | cases hc | (simp only [cond_eq_ite] at hc; split at hc <;> cases hc))
      · trivial
    · split
      · rename_i x y t u hty
        obtain ⟨X, Y, hargs, hx, hy⟩ := cEvs2 hg
        cases hc : oCopy P t x y with
        | eff cc => exact eff_copy ho hb hargs hty hx hy hc
        | bad => trivial
        | sil _ => unfold oCopy at hc; (repeat' split at hc) <;> cases hc
        | rd _ => unfold oCopy at hc; (repeat' split at hc) <;> cases hc
        | al _ => unfold oCopy at hc; (repeat' split at hc) <;> cases hc
      · trivial
    · split
      · rename_i x t hty
        obtain ⟨X, hargs, hx⟩ := cEvs1 hg
        split
        · rename_i e hd
          refine sil_len ho hb hargs hty hx fun f K h => ?_
          cases hv : x.g f with
          | slice a m cp =>
            rw [hv] at h
            refine ⟨m, h, fun ρ Y hY ty W => ?_⟩
            cases hY <;> simp [Builtin.len_, r_und hd, goInt]
          | _ => rw [hv] at h; cases h
        · rename_i hd
          refine sil_len ho hb hargs hty hx fun f K h => ?_
          cases hv : x.g f with
          | string w =>
            rw [hv] at h
            refine ⟨w.size, h, fun ρ Y hY ty W => ?_⟩
            cases hY
            simp [Builtin.len_, r_und hd, goInt]
          | _ => rw [hv] at h; cases h
        · rename_i m e hd
          refine sil_len ho hb hargs hty hx fun f K h => ⟨m, h, fun ρ Y hY ty W => ?_⟩
          simp [Builtin.len_, r_und hd, goInt]
        · trivial
      · trivial
    · split
      · rename_i x y
        obtain ⟨X, Y, hargs, hx, hy⟩ := cEvs2 hg
        refine OpOK.strOr ?_ (sil_builtin ho hb hg)
        refine sil_mm ho hb hargs hx hy (fun a m m' K h => ⟨_, h, rfl, fun ts ty cs W => ?_⟩) rfl
        rw [cond_if (iLt_eq m' m)]
        rfl
      · trivial
    · split
      · rename_i x y
        obtain ⟨X, Y, hargs, hx, hy⟩ := cEvs2 hg
        refine OpOK.strOr ?_ (sil_builtin ho hb hg)
        refine sil_mm ho hb hargs hx hy (fun a m m' K h => ⟨_, h, rfl, fun ts ty cs W => ?_⟩) rfl
        rw [cond_if (iLt_eq m m')]
        rfl
      · trivial
    · exact sil_builtin ho hb hg
end Go.Ab
