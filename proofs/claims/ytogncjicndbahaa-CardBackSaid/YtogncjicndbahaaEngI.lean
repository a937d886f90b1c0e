/- Slices. -/
import Derived.Test.YtogncjicndbahaaEngH
namespace Go.Ab
variable {P : Program} {k n : Nat} {o : Oper}

def BndR (f : Fm Value k) (y d : Nat) (x : Option (GW Value k)) (i : Nat) : Prop := (x = none ∧ i = d) ∨ ∃ g j, x = some g ∧ g.g f = .int j (.ofNat i) ∧ i ≤ y
theorem bnd_r {f : Fm Value k} {y d : Nat} {x : Option (GW Value k)} {K : Nat → Bool} (h : bnd f y d x K = true) : ∃ i, BndR f y d x i ∧ K i = true := by
  rcases bnd_inv h with ⟨h1, h2⟩ | ⟨g, j, i, h1, h2, h3, h4⟩
  · exact ⟨d, .inl ⟨h1, rfl⟩, h2⟩
  · exact ⟨i, .inr ⟨g, j, h1, h2, h3⟩, h4⟩
theorem BndR.le {f : Fm Value k} {y d : Nat} {x : Option (GW Value k)} {i : Nat} (h : BndR f y d x i) (hd : d ≤ y) : i ≤ y := by
  rcases h with ⟨_, rfl⟩ | ⟨_, _, _, _, h⟩
  · exact hd
  · exact h
/-- the operand of a bound is what the closure says -/
def OptR (f : Fm Value k) (A : Act) (xo : Option Operand) (x : Option (GW Value k)) : Prop :=
  (xo = none ∧ x = none) ∨ ∃ u g, xo = some u ∧ x = some g ∧ ∀ j i, g.g f = .int j i → A.eval u = .int j i
theorem optR {ρ : Ren} {f : Fm Value k} {A : Act} (he : ER ρ k n f A o) {xo : Option Operand} {x : Option (GW Value k)} (h : cOpt k n xo = some x) (hm : ∀ u, xo = some u → u ∈ o.op.operands) : OptR f A xo x := by
  rcases cOpt_inv h with ⟨h1, h2⟩ | ⟨u, g, h1, h2, h3⟩
  · exact .inl ⟨h1, h2⟩
  · refine .inr ⟨u, g, h1, h2, fun j i hi => ?_⟩
    have := he u (hm u h1) g h3
    rw [hi] at this; exact this.int_inv
theorem sliceBound_run (j : IntKind) {i y : Nat} (h : i ≤ y) (code : BoundsCode) (W : World) : (Instr.sliceBound (.int j (.ofNat i)) y code).run P W = .ok i W := by
  simp [Instr.sliceBound, asIntOf, h]
theorem bounds_run {f : Fm Value k} {A : Act} {lo hi mx : Option Operand} {glo ghi gmx : Option (GW Value k)} (hlo : OptR f A lo glo) (hhi : OptR f A hi ghi) (hmx : OptR f A mx gmx)
    {c C len m h l : Nat} (hc : c ≤ C) (hm : BndR f c c gmx m) (hh : BndR f m len ghi h) (hl : BndR f h 0 glo l) (hno : (gmx.isSome && ghi.isNone) = false) (isS : Bool) :
    ∃ M, (∀ W, (Instr.sliceBounds isS len C (lo.map A.eval) (hi.map A.eval) (mx.map A.eval)).run P W = .ok (l, h, M) W) ∧ (gmx = none → M = C ∧ m = c) ∧ (gmx ≠ none → M = m ∧ m ≤ c) ∧ m ≤ M := by
  rcases hmx with ⟨rfl, rfl⟩ | ⟨u, g, rfl, rfl, hu⟩
  · have hmc : m = c := by
      rcases hm with ⟨_, h⟩ | ⟨_, _, h, _⟩
      · exact h
      · cases h
    subst hmc
    refine ⟨C, fun W => ?_, fun _ => ⟨rfl, rfl⟩, fun h => absurd rfl h, hc⟩
    have e2 : ∀ W, (match (hi.map A.eval : Option Value) with
        | some v => Instr.sliceBound v C (if isS then .sliceAcap else .sliceAlen)
        | none => (pure len : Sem Nat)).run P W = .ok h W := fun W => by
      rcases hhi with ⟨rfl, rfl⟩ | ⟨v, g2, rfl, rfl, hv⟩
      · rcases hh with ⟨_, rfl⟩ | ⟨_, _, h, _⟩
        · rfl
        · cases h
      · rcases hh with ⟨h, _⟩ | ⟨g', j, h1, h2, h3⟩
        · cases h
        · cases h1
          simp only [Option.map_some, hv _ _ h2]
          exact sliceBound_run j (by omega) _ W
    have e3 : ∀ W, (match (lo.map A.eval : Option Value) with
        | some v => Instr.sliceBound v h (if (none : Option Value).isSome then .slice3C else .sliceB)
        | none => (pure 0 : Sem Nat)).run P W = .ok l W := fun W => by
      rcases hlo with ⟨rfl, rfl⟩ | ⟨v, g2, rfl, rfl, hv⟩
      · rcases hl with ⟨_, rfl⟩ | ⟨_, _, h, _⟩
        · rfl
        · cases h
      · rcases hl with ⟨h, _⟩ | ⟨g', j, h1, h2, h3⟩
        · cases h
        · cases h1
          simp only [Option.map_some, hv _ _ h2]
          exact sliceBound_run j h3 _ W
    have e2' := e2 W
    have e3' := e3 W
    simp only [Instr.sliceBounds, Option.map_none, Sem.run_bind, Sem.run_pure, Result.andThen_ok]
    cases hhv : (hi.map A.eval : Option Value) <;> cases hlv : (lo.map A.eval : Option Value) <;> rw [hhv] at e2' <;> rw [hlv] at e3' <;> simp only at e2' e3' ⊢ <;>
      (try simp only [Sem.run_bind, e2', Result.andThen_ok, e3', Sem.run_pure]) <;> (try (have e4 := e3'; rw [Sem.run_pure] at e4; injection e4 with e5 e6; rw [e5]))
  · have hmc : ∃ j, g.g f = .int j (.ofNat m) ∧ m ≤ c := by
      rcases hm with ⟨h, _⟩ | ⟨g', j, h1, h2, h3⟩
      · cases h
      · cases h1; exact ⟨j, h2, h3⟩
    obtain ⟨jm, hmv, hmc⟩ := hmc
    refine ⟨m, fun W => ?_, (by simp), fun _ => ⟨rfl, hmc⟩, Nat.le_refl _⟩
    rcases hhi with ⟨rfl, rfl⟩ | ⟨v, g2, rfl, rfl, hv⟩
    · simp at hno
    rcases hh with ⟨h, _⟩ | ⟨g', j, h1, h2, h3⟩
    · cases h
    cases h1
    have e1 : ∀ code W, (Instr.sliceBound (A.eval u) C code).run P W = .ok m W := fun code W => by rw [hu _ _ hmv]; exact sliceBound_run jm (by omega) code W
    have e2 : ∀ code W, (Instr.sliceBound (A.eval v) m code).run P W = .ok h W := fun code W => by rw [hv _ _ h2]; exact sliceBound_run j h3 code W
    rcases hlo with ⟨rfl, rfl⟩ | ⟨v3, g3, rfl, rfl, hv3⟩
    · rcases hl with ⟨_, rfl⟩ | ⟨_, _, h, _⟩
      · simp [Instr.sliceBounds, e1, e2]
      · cases h
    · rcases hl with ⟨h, _⟩ | ⟨g', j3, h13, h23, h33⟩
      · cases h
      · cases h13
        have e3 : ∀ code W, (Instr.sliceBound (A.eval v3) h code).run P W = .ok l W := fun code W => by rw [hv3 _ _ h23]; exact sliceBound_run j3 h33 code W
        simp [Instr.sliceBounds, e1, e2, e3]
theorem BndR.hi {f : Fm Value k} {y d : Nat} {x : Option (GW Value k)} {i : Nat} (h : BndR f y d x i) : i ≤ y ∨ i = d := by
  rcases h with ⟨_, h⟩ | ⟨_, _, _, _, h⟩
  · exact .inr h
  · exact .inl h
theorem not_or_true {a b : Bool} (h : (!a || b) = true) : a = true → b = true := by cases a <;> cases b <;> simp_all
theorem rd_slice {t : TypeId} {x : Operand} {lo hi mx : Option Operand} {g : GW Value k} {glo ghi gmx : Option (GW Value k)} (ho : o.op = .slice t x lo hi mx) (hx : cEv k n x = some g)
    (hlo : cOpt k n lo = some glo) (hhi : cOpt k n hi = some ghi) (hmx : cOpt k n mx = some gmx) {c : RdC k} (hc : oSlice P t g glo ghi gmx = .rd c) : RdOK P k n c o := by
  have mx0 : x ∈ o.op.operands := by rw [ho]; simp [Op.operands]
  have mlo : ∀ u, lo = some u → u ∈ o.op.operands := fun u hu => by rw [ho]; simp [Op.operands, hu]
  have mhi : ∀ u, hi = some u → u ∈ o.op.operands := fun u hu => by rw [ho]; simp [Op.operands, hu]
  have mmx : ∀ u, mx = some u → u ∈ o.op.operands := fun u hu => by rw [ho]; simp [Op.operands, hu]
  unfold oSlice at hc
  cases hno : (gmx.isSome && ghi.isNone) with
  | true => rw [hno] at hc; cases hc
  | false =>
  rw [hno] at hc
  simp only [cond_false] at hc
  split at hc
  · -- a slice
    rename_i e hd
    cases hs : sizeT P e with
    | none => simp [hs] at hc
    | some z =>
      simp only [hs, OpC.rd.injEq] at hc; subst hc
      intro f s K h
      have hrun : ∀ (A : Act) (W : World) (X V : Value), A.eval x = X → (Instr.slice t X (lo.map A.eval) (hi.map A.eval) (mx.map A.eval)).run P W = .ok V W → (execOp A.eval o).run P W = .ok (.value V) W := by
        intro A W X V hX hr
        simp [execOp, ho, hX, Instr.sliceAt, r_und hd, hr]
      rcases asSlice_inv h with ⟨len, cp, hv, h⟩ | ⟨b, off, len, cp, hv, h⟩
      · obtain ⟨m, hm, h⟩ := bnd_r h
        obtain ⟨hh, hhh, h⟩ := bnd_r h
        obtain ⟨l, hl, h⟩ := bnd_r h
        refine ⟨_, h, fun ρ A W he _ => ?_⟩
        have h1 := er1 he hx mx0
        rw [hv] at h1
        generalize hX : A.eval x = X at h1
        cases h1 with
        | nils =>
          obtain ⟨M, hM, hM1, hM2, hM3⟩ := bounds_run (P := P) (optR he hlo mlo) (optR he hhi mhi) (optR he hmx mmx) (Nat.le_refl cp) hm hhh hl hno true
          have : M = m := by
            by_cases hg : gmx = none
            · obtain ⟨a1, a2⟩ := hM1 hg; omega
            · exact (hM2 hg).1
          subst this
          refine ⟨.slice none (hh - l) (M - l), .nils _ _, hrun A W _ _ hX ?_⟩
          simp [Instr.slice, r_und hd, hM, r_size hs]
      · obtain ⟨bk, bn, bt, be, bg, hb, h⟩ := onCells_inv h
        obtain ⟨hbe, h⟩ := cond_inv h
        obtain ⟨m, hm, h⟩ := bnd_r h
        obtain ⟨hh, hhh, h⟩ := bnd_r h
        obtain ⟨l, hl, h⟩ := bnd_r h
        refine ⟨_, h, fun ρ A W he hsr => ?_⟩
        have h1 := er1 he hx mx0
        rw [hv] at h1
        generalize hX : A.eval x = X at h1
        cases h1 with
        | slc hr hln h0 h1 =>
          rename_i O C r
          have hcC : cp ≤ C := by
            cases hg : r.gr with
            | false => rw [(h0 hg).1]; exact Nat.le_refl _
            | true => exact (h1 hg).1
          obtain ⟨M, hM, hM1, hM2, hM3⟩ := bounds_run (P := P) (optR he hlo mlo) (optR he hhi mhi) (optR he hmx mmx) hcC hm hhh hl hno true
          have hMC : M ≤ C := by
            by_cases hg : gmx = none
            · exact Nat.le_of_eq (hM1 hg).1
            · obtain ⟨a1, a2⟩ := hM2 hg; omega
          obtain ⟨r', OB, g1, g2, CB, _, _, g3, _, g4, g5, g6, g7, g8, g9⟩ := hsr.obj b _ hb
          rw [hr] at g1; cases g1
          have hV : (Instr.slice t (.slice (some ⟨r.blk, O, none⟩) len C) (lo.map A.eval) (hi.map A.eval) (mx.map A.eval)).run P W = .ok (.slice (some ⟨r.blk, if M = l then O else O + l * z, none⟩) (hh - l) (M - l)) W := by
            simp only [Instr.slice, Sem.run_bind, r_und hd, hM, Result.andThen_ok, r_size hs, Sem.run_pure]
            by_cases hMl : M = l
            · simp [hMl]
            · simp [hMl, addr_add]
          refine ⟨_, ?_, hrun A W _ _ hX hV⟩
          have hsub : ∀ a b, Nat.sub a b = a - b := fun _ _ => rfl
          have hhm : hh ≤ m := by
            rcases hhh with ⟨hn1, hn2⟩ | ⟨_, _, _, _, hn2⟩
            · have hgn : gmx = none := by
                cases gmx with
                | none => rfl
                | some _ => rw [hn1] at hno; simp at hno
              rw [(hM1 hgn).2, hn2]; exact hln
            · exact hn2
          have hlh : l ≤ hh := hl.le (Nat.zero_le _)
          cases hg : r.gr with
          | false =>
            obtain ⟨a1, a2⟩ := h0 hg
            have hMm : M = m := by
              by_cases hg : gmx = none
              · obtain ⟨b1, b2⟩ := hM1 hg; omega
              · exact (hM2 hg).1
            subst hMm
            unfold slcAt
            cases hml : Nat.beq M l with
            | true =>
              have := beq_true hml
              rw [if_pos this]
              exact .slc hr (by rw [hsub, hsub]; omega) (fun _ => ⟨rfl, a2⟩) (fun h => by rw [hg] at h; cases h)
            | false =>
              have : ¬ M = l := fun e => by rw [e, Nat.beq_refl] at hml; cases hml
              rw [if_neg this]
              exact .slc hr (by rw [hsub, hsub]; omega) (fun _ => ⟨rfl, by rw [a2]; exact Nat.add_assoc _ _ _⟩) (fun h => by rw [hg] at h; cases h)
          | true =>
            obtain ⟨a1, a2, a3⟩ := h1 hg
            have hbg : bg = true := by rw [← g4]; exact hg
            have hbe := beq_true (not_or_true hbe hbg)
            have hes : r.es = z := by
              have := g5 hbg
              rw [hbe, hs] at this; exact (Option.some.inj this).symm
            have key : ∀ (o' c' : Nat), hh - l ≤ c' → c' ≤ M - l → (c' ≠ 0 → (if M = l then O else O + l * z) = r.sh + o') → VR ρ (.slice (some ⟨b, o', none⟩) (hh - l) c') (.slice (some ⟨r.blk, if M = l then O else O + l * z, none⟩) (hh - l) (M - l)) := by
              intro o' c' hnc hc' hO'
              refine .slc hr hnc (fun h => by rw [hg] at h; cases h) (fun _ => ⟨hc', hO', ?_⟩)
              rw [hes] at a3 ⊢
              by_cases hMl : M = l
              · rw [if_pos hMl, hMl, Nat.sub_self, Nat.zero_mul]
                have : O ≤ O + C * z := Nat.le_add_right _ _
                omega
              · rw [if_neg hMl]
                by_cases hlM : l ≤ M
                · have e1 : O + l * z + (M - l) * z = O + M * z := by
                    rw [Nat.add_assoc, ← Nat.add_mul, Nat.add_sub_cancel' hlM]
                  rw [e1]
                  have : M * z ≤ C * z := Nat.mul_le_mul_right z hMC
                  omega
                · have e1 : M - l = 0 := by omega
                  rw [e1, Nat.zero_mul]
                  have hlC : l ≤ C := by omega
                  have : l * z ≤ C * z := Nat.mul_le_mul_right z hlC
                  omega
            unfold slcAt
            cases hml : Nat.beq m l with
            | true =>
              have hml := beq_true hml
              simp only [cond_true, slc, hsub]
              exact key off (m - l) (by omega) (by omega) fun hne => absurd hne (by omega)
            | false =>
              have hml : ¬ m = l := fun e => by rw [e, Nat.beq_refl] at hml; cases hml
              simp only [cond_false, slc, hsub]
              refine key _ (m - l) (by omega) (by omega) fun hne => ?_
              have hmcp : m ≤ cp := hm.le (Nat.le_refl _)
              have hO := a2 (by omega)
              have hMl : ¬ M = l := by omega
              rw [if_neg hMl, hO]
              exact Nat.add_assoc _ _ _
  · -- an array
    rename_i len e hd
    cases hs : sizeT P e with
    | none => simp [hs] at hc
    | some z =>
      simp only [hs, OpC.rd.injEq] at hc; subst hc
      intro f s K h
      obtain ⟨b, off, hv, h⟩ := asPtr_inv h
      obtain ⟨bk, bn, bt, be, bg, hb, h⟩ := onCells_inv h
      cases hbg : bg with
      | true => rw [hbg] at h; cases h
      | false =>
        rw [hbg] at h
        simp only [cond_false] at h
        obtain ⟨m, hm, h⟩ := bnd_r h
        obtain ⟨hh, hhh, h⟩ := bnd_r h
        obtain ⟨l, hl, h⟩ := bnd_r h
        refine ⟨_, h, fun ρ A W he hsr => ?_⟩
        have h1 := er1 he hx mx0
        rw [hv] at h1
        obtain ⟨r, hr, hX⟩ := h1.ptr_inv
        obtain ⟨M, hM, hM1, hM2, hM3⟩ := bounds_run (P := P) (optR he hlo mlo) (optR he hhi mhi) (optR he hmx mmx) (Nat.le_refl len) hm hhh hl hno false
        have hMm : M = m := by
          by_cases hg : gmx = none
          · obtain ⟨b1, b2⟩ := hM1 hg; omega
          · exact (hM2 hg).1
        subst hMm
        obtain ⟨r', OB, g1, g2, CB, _, _, g3, _, g4, g5, g6, g7, g8, g9⟩ := hsr.obj b _ hb
        rw [hr] at g1; cases g1
        have hgr : r.gr = false := by rw [g4]; exact hbg
        have hhm : hh ≤ M := by
          rcases hhh with ⟨hn1, hn2⟩ | ⟨_, _, _, _, hn2⟩
          · have hgn : gmx = none := by
              cases gmx with
              | none => rfl
              | some _ => rw [hn1] at hno; simp at hno
            rw [(hM1 hgn).2, hn2]; exact Nat.le_refl _
          · exact hn2
        refine ⟨.slice (some ⟨r.blk, if M = l then r.sh + off else r.sh + off + l * z, none⟩) (hh - l) (M - l), ?_, ?_⟩
        · unfold slcAt
          cases hml : Nat.beq M l with
          | true =>
            have := beq_true hml
            rw [if_pos this]
            exact .slc hr (Nat.sub_le_sub_right hhm l) (fun _ => ⟨rfl, rfl⟩) (fun h => by rw [hgr] at h; cases h)
          | false =>
            have : ¬ M = l := fun e => by rw [e, Nat.beq_refl] at hml; cases hml
            rw [if_neg this]
            exact .slc hr (Nat.sub_le_sub_right hhm l) (fun _ => ⟨rfl, Nat.add_assoc _ _ _⟩) (fun h => by rw [hgr] at h; cases h)
        · simp only [execOp, ho, hX, Instr.sliceAt, Sem.run_bind, r_und hd, Result.andThen_ok, Instr.sureAddr, Sem.run_pure, hM, r_size hs]
          by_cases hMl : M = l
          · simp [hMl]
          · simp [hMl, addr_add]
  · -- a string: not of this class
    cases gmx <;> simp at hc
  · cases hc
theorem sil_sliceStr {t : TypeId} {x : Operand} {lo hi mx : Option Operand} {g : GW Value k} {glo ghi gmx : Option (GW Value k)} (ho : o.op = .slice t x lo hi mx) (hx : cEv k n x = some g)
    (hlo : cOpt k n lo = some glo) (hhi : cOpt k n hi = some ghi) (hmx : cOpt k n mx = some gmx) {c : SilC k} (hc : oSlice P t g glo ghi gmx = .sil c) : SilOK P k n c o := by
  have mx0 : x ∈ o.op.operands := by rw [ho]; simp [Op.operands]
  have mlo : ∀ u, lo = some u → u ∈ o.op.operands := fun u hu => by rw [ho]; simp [Op.operands, hu]
  have mhi : ∀ u, hi = some u → u ∈ o.op.operands := fun u hu => by rw [ho]; simp [Op.operands, hu]
  unfold oSlice at hc
  cases hno : (gmx.isSome && ghi.isNone) with
  | true => rw [hno] at hc; cases hc
  | false =>
  rw [hno] at hc
  simp only [cond_false] at hc
  split at hc
  · rename_i e hd; cases hs : sizeT P e <;> simp [hs] at hc
  · rename_i len e hd; cases hs : sizeT P e <;> simp [hs] at hc
  · rename_i hd
    cases hgm : gmx with
    | some _ => simp [hgm] at hc
    | none =>
      subst hgm
      simp only [OpC.sil.injEq] at hc; subst hc
      have hmn : mx = none := by
        rcases cOpt_inv hmx with ⟨h, _⟩ | ⟨_, _, _, h, _⟩
        · exact h
        · cases h
      subst hmn
      intro f K h
      cases hv : g.g f with
      | string w =>
        simp only [hv] at h
        obtain ⟨hh, hhh, h⟩ := bnd_r h
        obtain ⟨l, hl, h⟩ := bnd_r h
        refine ⟨_, h, fun ρ A he => ⟨_, .string _, fun W => ?_⟩⟩
        have h1 := er1 he hx mx0
        rw [hv] at h1
        obtain ⟨M, hM, _⟩ := bounds_run (P := P) (gmx := none) (mx := none) (optR he hlo mlo) (optR he hhi mhi) (.inl ⟨rfl, rfl⟩) (Nat.le_refl w.size) (.inl ⟨rfl, rfl⟩) hhh hl rfl false
        have hM : ∀ W, (Instr.sliceBounds false w.size w.size (lo.map A.eval) (hi.map A.eval) none).run P W = .ok (l, hh, M) W := hM
        simp [execOp, ho, h1.string_inv, Instr.sliceAt, Instr.slice, r_und hd, hM]
      | _ => simp [hv] at h
  · cases hc
end Go.Ab
