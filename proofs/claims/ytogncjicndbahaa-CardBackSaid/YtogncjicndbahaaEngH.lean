/- The operations that read memory; those that lay a new block. -/
import Derived.Test.YtogncjicndbahaaEngG
import Derived.Laws.BytesString
namespace Go.Ab
variable {P : Program} {k n : Nat} {o : Oper}

theorem onCells_inv {s : St} {b : Nat} {K : (k : Nat) → Nat → Fm Value k → TypeId → Bool → Bool} (h : onCells s b K = true) : ∃ k n t e g, s.at b = some (.cells k n t e g) ∧ K k n t e g = true := by
  unfold onCells at h
  cases ha : s.at b with
  | none => simp [ha] at h
  | some ob =>
    cases ob with
    | cells k n t e g => simp only [ha] at h; exact ⟨k, n, t, e, g, rfl, h⟩
    | loop _ _ _ _ _ _ _ _ _ => simp [ha] at h
    | dfr => simp [ha] at h
    | map _ _ => simp [ha] at h
    | mit _ _ _ _ => simp [ha] at h
    | sit _ _ => simp [ha] at h
theorem cell_at {W : World} {B O : Nat} {C : Array Value} {e : TypeId} {fz : Nat × Nat} (h : W.heap[B]? = some (.cells C e fz)) : W.cell? ⟨B, O, none⟩ = C[O]? := by
  simp [World.cell?, h]
theorem SR.cell {ρ : Ren} {s : St} {W : World} (h : SR P ρ s W) {b : Nat} {r : Rn} (hr : ρ b = some r) {k n : Nat} {t : Fm Value k} {e : TypeId} {g : Bool} (hb : s.at b = some (.cells k n t e g)) {i : Nat} (hi : i < n) :
    ∃ V, W.cell? ⟨r.blk, r.sh + i, none⟩ = some V ∧ VR ρ ((getW k i).g t) V := by
  obtain ⟨r', O, h1, h2, C, _, _, h3, _, _, _, _, h6, _, h7⟩ := h.obj b _ hb
  rw [hr] at h1; cases h1; subst h3
  have hlt : r.sh + i < C.size := by omega
  refine ⟨C[r.sh + i], by rw [cell_at h2, Array.getElem?_eq_getElem hlt], ?_⟩
  have := h7 i hi
  simpa [Array.getD, hlt] using this
theorem load_run {W : World} {a : Addr} {V : Value} (h : W.cell? a = some V) : (load a).run P W = .ok V W := by simp [h]
theorem loadCellsFrom_run {W : World} {a : Addr} : ∀ (m i : Nat) (L : List Value) (acc : Array Value), L.length = m → (∀ j, j < m → W.cell? (a.add (i + j)) = L[j]?) → (loadCellsFrom a i m acc).run P W = .ok (acc ++ L.toArray) W
  | 0, i, L, acc, hl, _ => by
    have : L = [] := List.length_eq_zero_iff.1 hl
    subst this; simp [loadCellsFrom]
  | m + 1, i, [], acc, hl, _ => by simp at hl
  | m + 1, i, x :: xs, acc, hl, hc => by
    have h0 : W.cell? (a.add i) = some x := by have := hc 0 (by omega); simpa using this
    simp only [loadCellsFrom, Sem.run_bind, load_run h0, Result.andThen_ok]
    rw [loadCellsFrom_run m (i + 1) xs (acc.push x) (by simpa using hl) fun j hj => ?_]
    · congr 1; apply Array.ext'; simp
    · have := hc (j + 1) (by omega)
      rw [show i + 1 + j = i + (j + 1) from by omega, this]; simp
theorem loadN_run {ρ : Ren} {s : St} {W : World} (h : SR P ρ s W) {b : Nat} {r : Rn} (hr : ρ b = some r) {k n : Nat} {t : Fm Value k} {e : TypeId} {g : Bool} (hb : s.at b = some (.cells k n t e g)) {off m : Nat} (hm : off + m ≤ n) :
    ∃ L, (loadCells ⟨r.blk, r.sh + off, none⟩ m).run P W = .ok ⟨L⟩ W ∧ VsR ρ (gets k t off m) L := by
  have hget : ∀ j, j < m → ∃ V, W.cell? ⟨r.blk, r.sh + (off + j), none⟩ = some V ∧ VR ρ ((getW k (off + j)).g t) V := fun j hj => h.cell hr hb (by omega)
  let L := (List.range m).map fun j => (W.cell? ⟨r.blk, r.sh + (off + j), none⟩).getD undef
  have hL : ∀ j, j < m → L[j]? = W.cell? ⟨r.blk, r.sh + (off + j), none⟩ := fun j hj => by
    obtain ⟨V, h1, _⟩ := hget j hj
    simp [L, h1, hj]
  refine ⟨L, ?_, VsR.of_get (by simp [L, gets_length]) fun j hj => ?_⟩
  · have := loadCellsFrom_run (P := P) (W := W) (a := ⟨r.blk, r.sh + off, none⟩) m 0 L #[] (by simp [L]) fun j hj => by
      rw [addr_add, hL j hj, show r.sh + off + (0 + j) = r.sh + (off + j) from by omega]
    simpa [loadCells] using this
  · rw [gets_length] at hj
    obtain ⟨V, h1, h2⟩ := hget j hj
    exact ⟨_, V, gets_get k t m off j hj, by rw [hL j hj, h1], h2⟩
theorem ldN_inv {s : St} {b off m : Nat} {K : List Value → Bool} (h : ldN s b off m K = true) : ∃ k n t e g, s.at b = some (.cells k n t e g) ∧ off + m ≤ n ∧ K (gets k t off m) = true := by
  obtain ⟨k, n, t, e, g, h1, h⟩ := onCells_inv h
  obtain ⟨h2, h⟩ := cond_inv h
  exact ⟨k, n, t, e, g, h1, ble_true h2, h⟩
theorem ld1_inv {s : St} {b off : Nat} {K : Value → Bool} (h : ld1 s b off K = true) : ∃ k n t e g, s.at b = some (.cells k n t e g) ∧ off < n ∧ K ((getW k off).g t) = true := by
  obtain ⟨k, n, t, e, g, h1, h⟩ := onCells_inv h
  obtain ⟨h2, h⟩ := cond_inv h
  exact ⟨k, n, t, e, g, h1, blt_true h2, h⟩
theorem isAgg_run {t : TypeId} {d : TypeDesc} (hd : P.underlying t = some d) (W : World) : (isAgg t).run P W = .ok (isAggD d) W := by
  cases d <;> simp [isAgg, r_und hd, isAggD]
theorem loadVar_agg {ρ : Ren} {t : TypeId} {d : TypeDesc} {m : Nat} (hd : P.underlying t = some d) (hs : sizeT P t = some m) (ha : isAggD d = true) {s : St} {W : World} (h : SR P ρ s W) {b off : Nat} {r : Rn} (hr : ρ b = some r)
    {k n : Nat} {T : Fm Value k} {e : TypeId} {g : Bool} (hb : s.at b = some (.cells k n T e g)) (hm : off + m ≤ n) :
    ∃ V, (loadVar t ⟨r.blk, r.sh + off, none⟩).run P W = .ok V W ∧ VR ρ (.agg ⟨gets k T off m⟩) V := by
  obtain ⟨L, h1, h2⟩ := loadN_run h hr hb hm
  refine ⟨.agg ⟨L⟩, ?_, .agg h2⟩
  simp [loadVar, isAgg_run hd, ha, r_size hs, h1]
theorem loadVar_one {ρ : Ren} {t : TypeId} {d : TypeDesc} (hd : P.underlying t = some d) (ha : isAggD d = false) {s : St} {W : World} (h : SR P ρ s W) {b off : Nat} {r : Rn} (hr : ρ b = some r)
    {k n : Nat} {T : Fm Value k} {e : TypeId} {g : Bool} (hb : s.at b = some (.cells k n T e g)) (hm : off < n) :
    ∃ V, (loadVar t ⟨r.blk, r.sh + off, none⟩).run P W = .ok V W ∧ VR ρ ((getW k off).g T) V := by
  obtain ⟨V, h1, h2⟩ := h.cell hr hb hm
  refine ⟨V, ?_, h2⟩
  simp [loadVar, isAgg_run hd, ha, h1]
theorem rd_load {t : TypeId} {x : Operand} {g : GW Value k} (ho : o.op = .load t x) (hx : cEv k n x = some g) {c : RdC k} (hc : oLoad P t g = .rd c) : RdOK P k n c o := by
  unfold oLoad at hc
  cases hd : P.underlying t with
  | none => simp [hd] at hc
  | some d =>
    cases hs : sizeT P t with
    | none => simp [hd, hs] at hc
    | some m =>
      simp only [hd, hs] at hc
      have hex : ∀ (A : Act) (r : Rn) (off : Nat) (V : Value) (W : World), A.eval x = .pointer (some ⟨r.blk, r.sh + off, none⟩) → (loadVar t ⟨r.blk, r.sh + off, none⟩).run P W = .ok V W → (execOp A.eval o).run P W = .ok (.value V) W := by
        intro A r off V W hA hl
        simp [execOp, ho, hA, Instr.loadAt, Instr.sureAddr, hl]
      cases ha : isAggD d with
      | true =>
        rw [ha] at hc
        simp only [cond_true, OpC.rd.injEq] at hc; subst hc
        intro f s K h
        obtain ⟨b, off, hv, h⟩ := asPtr_inv h
        obtain ⟨k', n', T, e, g', hb, hm, h⟩ := ldN_inv h
        refine ⟨_, h, fun ρ A W he hsr => ?_⟩
        have h1 := er1 he hx (by rw [ho]; simp [Op.operands])
        rw [hv] at h1
        obtain ⟨r, hr, hV⟩ := h1.ptr_inv
        obtain ⟨V, h2, h3⟩ := loadVar_agg hd hs ha hsr hr hb hm
        exact ⟨V, h3, hex A r off V W hV h2⟩
      | false =>
        rw [ha] at hc
        simp only [cond_false, OpC.rd.injEq] at hc; subst hc
        intro f s K h
        obtain ⟨b, off, hv, h⟩ := asPtr_inv h
        obtain ⟨k', n', T, e, g', hb, hm, h⟩ := ld1_inv h
        refine ⟨_, h, fun ρ A W he hsr => ?_⟩
        have h1 := er1 he hx (by rw [ho]; simp [Op.operands])
        rw [hv] at h1
        obtain ⟨r, hr, hV⟩ := h1.ptr_inv
        obtain ⟨V, h2, h3⟩ := loadVar_one hd ha hsr hr hb hm
        exact ⟨V, h3, hex A r off V W hV h2⟩

/-! ### Strings of bytes -/
theorem intsU8_some {ρ : Ren} : ∀ {l L : List Value} {ns : List Int}, intsU8 l = some ns → VsR ρ l L → L = ns.map (Value.int .u8)
  | [], _, ns, h, .nil => by simp only [intsU8, Option.some.injEq] at h; subst h; rfl
  | v :: r, _, ns, h, .cons (V := V) (L := L) hv hr => by
    unfold intsU8 at h
    cases v with
    | int k m =>
      cases k with
      | u8 =>
        simp only at h
        cases hq : intsU8 r with
        | none => rw [hq] at h; cases h
        | some l =>
          rw [hq] at h
          simp only [Option.some.injEq] at h
          subst h
          rw [hv.int_inv, intsU8_some hq hr]; rfl
      | _ => cases h
    | _ => cases h
theorem foldl_bytes : ∀ (ns : List Int) (s : ByteArray), ns.foldl (fun r n => r.push (UInt8.ofNat n.toNat)) s = ⟨⟨s.data.toList ++ bytesU8 ns⟩⟩
  | [], s => by simp [bytesU8]
  | n :: r, s => by
    rw [List.foldl_cons, foldl_bytes r]
    simp [ByteArray.push, bytesU8]
theorem rd_bytesStr {t u e : TypeId} {x : Operand} {g : GW Value k} (ho : o.op = .convert t u x) (hx : cEv k n x = some g) (ht : P.underlying t = some (.slice e)) (hu : P.underlying u = some .string) (he8 : P.underlying e = some (.int .u8)) {c : RdC k} (hc : oBytesStr g = .rd c) : RdOK P k n c o := by
  unfold oBytesStr at hc
  simp only [OpC.rd.injEq] at hc; subst hc
  intro f s K h
  rcases asSlice_inv h with ⟨m, cp, hv, h⟩ | ⟨b, off, m, cp, hv, h⟩
  · refine ⟨_, h, fun ρ A W he hsr => ⟨_, .string _, ?_⟩⟩
    have h1 := er1 he hx (by rw [ho]; simp [Op.operands])
    rw [hv] at h1
    generalize hX : A.eval x = X at h1
    cases h1
    simp only [execOp, ho, hX, Sem.run_bind, run_convert_bytes_string W t u e none m cp ht he8 hu]
    rfl
  · obtain ⟨k', n', T, e', g', hb, hm, h⟩ := ldN_inv h
    cases hs : intsU8 (gets k' T off m) with
    | none => rw [hs] at h; cases h
    | some ns =>
      rw [hs] at h
      refine ⟨_, h, fun ρ A W he hsr => ⟨_, .string _, ?_⟩⟩
      have h1 := er1 he hx (by rw [ho]; simp [Op.operands])
      rw [hv] at h1
      have hex : ∀ a C, A.eval x = .slice (some a) m C → (loadCells a m).run P W = .ok (ns.map (Value.int .u8)).toArray W → (execOp A.eval o).run P W = .ok (.value (.string ⟨⟨bytesU8 ns⟩⟩)) W := by
        intro a C hX hl
        simp only [execOp, ho, hX, Sem.run_bind, run_convert_bytes_string W t u e (some a) m C ht he8 hu, run_bytesToString W a m C ns hl, foldl_bytes]
        rfl
      generalize hX : A.eval x = X at h1 hex
      generalize hz : Value.slice (some ⟨b, off, none⟩) m cp = z at h1
      cases h1 <;> (try (cases hz; done))
      · rename_i b' o' n'' c' O C' r hr hn' hg0 hg1
        simp only [Value.slice.injEq, Option.some.injEq, Addr.mk.injEq] at hz
        obtain ⟨⟨rfl, rfl, _⟩, rfl, rfl⟩ := hz
        obtain ⟨L, h2, h3⟩ := loadN_run hsr hr hb hm
        have h4 := intsU8_some hs h3
        subst h4
        cases hm0 : Nat.beq m 0 with
        | true =>
          have hm0 := beq_true hm0
          subst hm0
          have h5 : ns = [] := by
            cases ns with
            | nil => rfl
            | cons _ _ => simp [gets, intsU8] at hs
          subst h5
          exact hex _ _ rfl (by simp [loadCells, loadCellsFrom, Sem.run_pure])
        | false =>
          have hm0 : m ≠ 0 := fun e => by rw [e] at hm0; cases hm0
          have hO : O = r.sh + off := by
            cases hgr : r.gr with
            | false => exact (hg0 hgr).2
            | true => exact (hg1 hgr).2.1 (by omega)
          rw [hO] at hex
          exact hex _ _ rfl h2

/-! ### Slices -/
theorem bnd_inv {f : Fm Value k} {y dflt : Nat} {x : Option (GW Value k)} {K : Nat → Bool} (h : bnd f y dflt x K = true) :
    (x = none ∧ K dflt = true) ∨ ∃ g j i, x = some g ∧ g.g f = .int j (.ofNat i) ∧ i ≤ y ∧ K i = true := by
  cases x with
  | none => exact .inl ⟨rfl, h⟩
  | some g =>
    obtain ⟨j, i, h1, h⟩ := asNat_inv h
    obtain ⟨h2, h⟩ := cond_inv h
    exact .inr ⟨g, j, i, rfl, h1, ble_true h2, h⟩
theorem cOpt_inv {x : Option Operand} {y : Option (GW Value k)} (h : cOpt k n x = some y) : (x = none ∧ y = none) ∨ ∃ u g, x = some u ∧ y = some g ∧ cEv k n u = some g := by
  cases x with
  | none => simp only [cOpt, Option.some.injEq] at h; exact .inl ⟨rfl, h.symm⟩
  | some u =>
    simp only [cOpt] at h
    cases hu : cEv k n u with
    | none => simp [hu] at h
    | some g => simp only [hu, Option.some.injEq] at h; exact .inr ⟨u, g, rfl, h.symm, hu⟩
end Go.Ab
