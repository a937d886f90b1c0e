/- Runs over open values: each operation that only gives a value does what its step says. -/
import Derived.Test.YtkpiaipbbpfodaaEngSb
namespace Go.Ab
open Go.RowKit
variable {P : Program} {k n : Nat} {t : Fm Value k} {f : Frm} {m : Mem} {X Z : Nat → Prop} {s0 s : St} {R : Nat} {o : Oper}
def isLd (o : Oper) : Bool := match o.op with
  | .load _ _ => true
  | _ => false
/-- what an operation comes to -/
def VOK (P : Program) (k n : Nat) (t : Fm Value k) (s : St) (o : Oper) (v : SV) : Prop :=
  (∃ c, cOper P k n o = .sil c ∧ ∀ K', c.m t K' = K' (den v)) ∨ (isLd o = true ∧ ∃ c, cOper P k n o = .rd c ∧ ∀ K', c.m t s K' = K' (den v))
theorem el_add (K' : Value → Bool) (i b p sz j r d : Nat) : (asPtr (den (.el i b p sz j r)) fun b o => K' (ptr b (Nat.add o d))) = K' (den (.el i b p sz j (Nat.add r d))) := by
  show K' (ptr b (p + (j * sz + r) + d)) = K' (ptr b (p + (j * sz + (r + d))))
  rw [Nat.add_assoc, Nat.add_assoc]
theorem own_at (hm : MemOK X Z s0 R s m) {i b : Nat} {e : TypeId} {l : List SV} (hi : getM m i = some (.own b e l)) : AtN s b 0 (dens l) := (hm.get hi).1.own.at
theorem at_cell {b a : Nat} {l : List SV} (h : AtN s b a (dens l)) {o z : Nat} {agg : Bool} {K : SV → Prop} (hc : cellS o z agg l K) :
    ∃ v, K v ∧ ((agg = true ∧ ∀ K' : Value → Bool, ldN s b (a + o) z (fun l => K' (.agg ⟨l⟩)) = K' (den v)) ∨ (agg = false ∧ ∀ K' : Value → Bool, ld1 s b (a + o) K' = K' (den v))) := by
  rcases cellS_inv hc with ⟨ha, h1, hK⟩ | ⟨ha, v, h1, hK⟩
  · refine ⟨_, hK, .inl ⟨ha, fun K' => ?_⟩⟩
    have h2 := h.sub (o := o) (n := z) (by rw [dens_length]; exact h1)
    have hl : ((dens l |>.drop o).take z).length = z := by rw [List.length_take, List.length_drop, dens_length]; omega
    rw [h2.ldN rfl hl.symm]
    show K' (.agg ⟨_⟩) = K' (.agg ⟨dens _⟩)
    rw [dens_take, dens_drop]
  · refine ⟨v, hK, .inr ⟨ha, fun K' => ?_⟩⟩
    exact h.ld1 (j := o) (V := den v) (by rw [dens_get, h1]; rfl) rfl K'
theorem hand_at (hm : MemOK X Z s0 R s m) {i n : Nat} {a : Option Addr} {Q : Prop} (h : handS m i a n Q) : Q ∧ (0 < n → ∃ b p, a = some ⟨b, p, none⟩) := by
  unfold handS at h
  cases hi : getM m i with
  | none => rw [hi] at h; exact h.elim
  | some e =>
    rw [hi] at h
    have he := hm.get hi
    cases e with
    | own _ _ _ => exact h.elim
    | ro a' n' c sz g =>
      obtain ⟨rfl, rfl, hQ⟩ := h
      refine ⟨hQ, fun h0 => ?_⟩
      rcases he.2 with h1 | ⟨b, p, h1, _⟩
      · omega
      · exact ⟨b, p, h1⟩
    | gr a' n' e sz g =>
      obtain ⟨rfl, rfl, hQ⟩ := h
      refine ⟨hQ, fun h0 => ?_⟩
      rcases he.2.1 with ⟨h1, h2⟩ | ⟨b, n', h1, _⟩
      · cases h1; omega
      · cases h1; exact ⟨b, 0, rfl⟩
theorem el_cells (hm : MemOK X Z s0 R s m) {i b p sz j : Nat} {e : Ent} (hi : getM m i = some e) {Q : (Nat → List SV) → Prop}
    (h : match e with
      | .ro a' n' _ sz' g => eqA (some ⟨b, p, none⟩) a' (eqS sz sz' (ltS j n' (Q g)))
      | .gr a' n' _ sz' g => eqA (some ⟨b, p, none⟩) a' (eqS sz sz' (ltS j n' (Q g)))
      | _ => False) : ∃ g, Q g ∧ AtN s b (p + j * sz) (dens (g j)) := by
  have he := hm.get hi
  cases e with
  | own _ _ _ => exact h.elim
  | ro a' n' c sz' g =>
    obtain ⟨rfl, rfl, h⟩ := h
    obtain ⟨hj, hQ⟩ := ltS_inv h
    refine ⟨g, hQ, ?_⟩
    rcases he.2 with h1 | ⟨b', p', h1, h2, h3⟩
    · omega
    · cases h1
      exact el_at he.1 h2 hj
  | gr a' n' e sz' g =>
    obtain ⟨rfl, rfl, h⟩ := h
    obtain ⟨hj, hQ⟩ := ltS_inv h
    refine ⟨g, hQ, ?_⟩
    rcases he.2.1 with ⟨h1, h2⟩ | ⟨b', n', h1, h2, h3⟩
    · cases h1
    · cases h1
      exact el_at he.1 h2.own.at hj
theorem ldS_ok (hm : MemOK X Z s0 R s m) {w : SV} {z : Nat} {agg : Bool} {K : SV → Prop} (h : ldS m w z agg K) :
    ∃ b a v, den w = ptr b a ∧ K v ∧ ((agg = true ∧ ∀ K' : Value → Bool, ldN s b a z (fun l => K' (.agg ⟨l⟩)) = K' (den v)) ∨ (agg = false ∧ ∀ K' : Value → Bool, ld1 s b a K' = K' (den v))) := by
  unfold ldS at h
  cases w <;> (try exact h.elim)
  · rename_i i b o
    simp only at h
    cases hi : getM m i with
    | none => rw [hi] at h; exact h.elim
    | some e =>
      rw [hi] at h
      cases e <;> (try exact h.elim)
      rename_i b' e l
      obtain ⟨rfl, h⟩ := h
      obtain ⟨v, hK, hv⟩ := at_cell (own_at hm hi) h
      rw [Nat.zero_add] at hv
      exact ⟨b, o, v, rfl, hK, hv⟩
  · rename_i i b p sz j o
    simp only at h
    cases hi : getM m i with
    | none => rw [hi] at h; exact h.elim
    | some e =>
      rw [hi] at h
      obtain ⟨g, hQ, hA⟩ := el_cells (Q := fun g => cellS o z agg (g j) K) hm hi (by cases e <;> exact h)
      obtain ⟨v, hK, hv⟩ := at_cell hA hQ
      refine ⟨b, _, v, rfl, hK, ?_⟩
      have e1 : Nat.add p (Nat.add (Nat.mul j sz) o) = p + j * sz + o := by show p + (j * sz + o) = _; omega
      rw [e1]; exact hv
theorem load_ok (hf : FrameOK k n t f) (hm : MemOK X Z s0 R s m) {u : TypeId} {x : Operand} (hop : o.op = .load u x) {K : SV → Prop} (h : stepV P n m f o K) : ∃ v, K v ∧ VOK P k n t s o v := by
  unfold stepV at h
  rw [hop] at h
  simp only at h
  cases hu : P.underlying u with
  | none => simp only [hu] at h
  | some d =>
    cases hz : sizeT P u with
    | none => simp only [hu, hz] at h
    | some z =>
      simp only [hu, hz] at h
      obtain ⟨b, a, v, hd, hK, hv⟩ := ldS_ok hm h
      have hj : isJ (evS n f x) = false := by
        cases hx : evS n f x <;> first | rfl | (rw [hx] at hd; cases hd)
      obtain ⟨g, hg, hgt⟩ := evS_ok hf x hj
      refine ⟨v, hK, .inr ⟨by unfold isLd; rw [hop], ?_⟩⟩
      unfold cOper
      rw [hop]
      simp only [hg]
      unfold oLoad
      simp only [hu, hz]
      rcases hv with ⟨ha, hv⟩ | ⟨ha, hv⟩
      · rw [ha]
        refine ⟨_, rfl, fun K' => ?_⟩
        simp only [hgt, hd]
        exact hv K'
      · rw [ha]
        refine ⟨_, rfl, fun K' => ?_⟩
        simp only [hgt, hd]
        exact hv K'
theorem move_ok (hf : FrameOK k n t f) {x : Operand} (hop : o.op = .move x ∨ o.op = .assign x) {K : SV → Prop} (h : stepV P n m f o K) : ∃ v, K v ∧ VOK P k n t s o v := by
  have h : njS (evS n f x) K := by
    unfold stepV at h
    rcases hop with hop | hop <;> rw [hop] at h <;> exact h
  obtain ⟨hj, hK⟩ := njS_inv h
  obtain ⟨g, hg, hgt⟩ := evS_ok hf x hj
  refine ⟨_, hK, .inl ⟨⟨fun f K => K (g.g f)⟩, ?_, fun K' => by show K' (g.g t) = _; rw [hgt]⟩⟩
  unfold cOper
  rcases hop with hop | hop <;> rw [hop] <;> simp only [hg]
theorem pick_ok (hf : FrameOK k n t f) {c x y : Operand} (hop : o.op = .pick c x y) {K : SV → Prop} (h : stepV P n m f o K) : ∃ v, K v ∧ VOK P k n t s o v := by
  unfold stepV at h
  rw [hop] at h
  simp only at h
  cases hxy : (okO n x && okO n y) with
  | false => rw [hxy] at h; exact h.elim
  | true =>
    rw [hxy] at h
    simp only [cond_true] at h
    obtain ⟨hx, hy⟩ := and_true hxy
    obtain ⟨gx, hgx⟩ := okO_ev (k := k) hx
    obtain ⟨gy, hgy⟩ := okO_ev (k := k) hy
    cases hc : evS n f c <;> rw [hc] at h <;> (try exact h.elim)
    rename_i b
    obtain ⟨gc, hgc, hct⟩ := evS_eq hf hc rfl
    have hco : cOper P k n o = .sil ⟨fun f K => asBool (gc.g f) fun b => bif b then K (gx.g f) else K (gy.g f)⟩ := by
      unfold cOper; rw [hop]; simp only [hgc, hgx, hgy]
    have h' := brS_inv h
    clear h
    rcases h' with ⟨rfl, h⟩ | ⟨rfl, h⟩
    · obtain ⟨hj, hK⟩ := njS_inv h
      obtain ⟨g, hg, hgt⟩ := evS_ok hf x hj
      rw [hgx] at hg; cases hg
      refine ⟨_, hK, .inl ⟨_, hco, fun K' => ?_⟩⟩
      simp only [hct]
      show K' (gx.g t) = _
      rw [hgt]
    · obtain ⟨hj, hK⟩ := njS_inv h
      obtain ⟨g, hg, hgt⟩ := evS_ok hf y hj
      rw [hgy] at hg; cases hg
      refine ⟨_, hK, .inl ⟨_, hco, fun K' => ?_⟩⟩
      simp only [hct]
      show K' (gy.g t) = _
      rw [hgt]
theorem nil_ok (hf : FrameOK k n t f) {x : Operand} (hop : o.op = .nilCheck x) {K : SV → Prop} (h : stepV P n m f o K) : ∃ v, K v ∧ VOK P k n t s o v := by
  unfold stepV at h
  rw [hop] at h
  simp only at h
  cases hx : evS n f x <;> rw [hx] at h <;> (try exact h.elim)
  all_goals
    obtain ⟨g, hg, hgt⟩ := evS_eq hf hx rfl
    refine ⟨_, h, .inl ⟨_, (by unfold cOper; rw [hop]; simp only [hg]; rfl), fun K' => ?_⟩⟩
    simp only [hgt]
    rfl
theorem conv_ok (hf : FrameOK k n t f) {u w : TypeId} {x : Operand} (hop : o.op = .convert u w x) {K : SV → Prop} (h : stepV P n m f o K) : ∃ v, K v ∧ VOK P k n t s o v := by
  unfold stepV at h
  rw [hop] at h
  simp only at h
  split at h
  · rename_i i j hu hw
    cases hx : evS n f x <;> rw [hx] at h <;> (try exact h.elim)
    obtain ⟨g, hg, hgt⟩ := evS_eq hf hx rfl
    refine ⟨_, h, .inl ⟨_, (by unfold cOper; rw [hop]; simp only [hg, hu, hw]; rfl), fun K' => ?_⟩⟩
    simp only [hgt]
    rfl
  · exact h.elim
theorem not_ok (hf : FrameOK k n t f) {op : UnOp} {u : TypeId} {x : Operand} (hop : o.op = .unOp op u x) {K : SV → Prop} (h : stepV P n m f o K) : ∃ v, K v ∧ VOK P k n t s o v := by
  unfold stepV at h
  rw [hop] at h
  simp only at h
  cases op <;> (try exact h.elim) <;> simp only at h
  · cases hx : evS n f x <;> rw [hx] at h <;> (try exact h.elim)
    obtain ⟨g, hg, hgt⟩ := evS_eq hf hx rfl
    refine ⟨_, h, .inl ⟨_, (by unfold cOper; rw [hop]; simp only [hg]; rfl), fun K' => ?_⟩⟩
    simp only [hgt]
    first
    | rfl
    | (rename_i a q
       show (bif pureC 4 (Value.int a q) then (match some (Value.int a (a.wrap (0 - q))) with | some v => bif pureC 4 v then K' v else false | none => false) else false) = K' (.int a (wr a (Int.sub 0 q)))
       rw [wr_eq]; rfl)
  · cases hx : evS n f x <;> rw [hx] at h <;> (try exact h.elim)
    obtain ⟨g, hg, hgt⟩ := evS_eq hf hx rfl
    refine ⟨_, h, .inl ⟨_, (by unfold cOper; rw [hop]; simp only [hg]; rfl), fun K' => ?_⟩⟩
    simp only [hgt]
    first
    | rfl
    | (rename_i a q
       show (bif pureC 4 (Value.int a q) then (match some (Value.int a (a.wrap (0 - q))) with | some v => bif pureC 4 v then K' v else false | none => false) else false) = K' (.int a (wr a (Int.sub 0 q)))
       rw [wr_eq]; rfl)
theorem ext_ok (hf : FrameOK k n t f) {x : Operand} {i : Nat} (hop : o.op = .extract x i) {K : SV → Prop} (h : stepV P n m f o K) : ∃ v, K v ∧ VOK P k n t s o v := by
  unfold stepV at h
  rw [hop] at h
  simp only at h
  cases hx : evS n f x <;> rw [hx] at h <;> (try exact h.elim)
  rename_i l
  obtain ⟨g, hg, hgt⟩ := evS_eq hf hx rfl
  obtain ⟨v, hv, hK⟩ := nthS_inv h
  refine ⟨_, hK, .inl ⟨_, (by unfold cOper; rw [hop]; simp only [hg]; rfl), fun K' => ?_⟩⟩
  simp only [hgt]
  show (match (dens l)[i]? with | some v => K' v | none => false) = _
  rw [dens_get, hv]
  rfl
theorem fdA_ok (hf : FrameOK k n t f) {u : TypeId} {x : Operand} {i : Nat} (hop : o.op = .fieldAddr u x i) {K : SV → Prop} (h : stepV P n m f o K) : ∃ v, K v ∧ VOK P k n t s o v := by
  unfold stepV at h
  rw [hop] at h
  simp only at h
  unfold fdA at h
  split at h <;> (try exact h.elim)
  rename_i fs hu
  split at h <;> (try exact h.elim)
  rename_i fd hfd
  split at h <;> (try exact h.elim)
  rename_i z hz
  cases h0 : Nat.blt 0 z with
  | false => rw [h0] at h; exact h.elim
  | true =>
    rw [h0] at h
    simp only [cond_true] at h
    cases hx : evS n f x <;> rw [hx] at h <;> (try exact h.elim)
    · obtain ⟨g, hg, hgt⟩ := evS_eq hf hx rfl
      refine ⟨_, h, .inl ⟨⟨fun f K => asPtr (g.g f) fun b o => K (ptr b (Nat.add o fd.offset))⟩, by unfold cOper; rw [hop]; simp only [hg]; unfold oFieldAddr; simp only [hu, hfd, hz, h0, cond_true], fun K' => ?_⟩⟩
      simp only [hgt]
      rfl
    · obtain ⟨g, hg, hgt⟩ := evS_eq hf hx rfl
      refine ⟨_, h, .inl ⟨⟨fun f K => asPtr (g.g f) fun b o => K (ptr b (Nat.add o fd.offset))⟩, by unfold cOper; rw [hop]; simp only [hg]; unfold oFieldAddr; simp only [hu, hfd, hz, h0, cond_true], fun K' => ?_⟩⟩
      simp only [hgt]
      exact el_add K' _ _ _ _ _ _ _
theorem partS_ok {u : TypeId} {w : SV} {off : Nat} {K : SV → Prop} (h : partS P u w off K) : ∃ l v, w = .agg l ∧ K v ∧ (cPart P u).p (dens l) off = some (den v) := by
  unfold partS at h
  split at h <;> (try exact h.elim)
  rename_i d z hu hz
  split at h <;> (try exact h.elim)
  rename_i l
  have htk : ∀ (z : Nat) (l : List Value), z ≤ l.length → takeL z l = some (l.take z) := by
    intro z
    induction z with
    | zero => intro l _; cases l <;> rfl
    | succ z ih => intro l hl; cases l with
      | nil => simp at hl
      | cons x l =>
        show (match takeL z l with | some r => some (x :: r) | none => none) = _
        rw [ih l (by simpa using hl)]; rfl
  rcases cellS_inv h with ⟨ha, h1, hK⟩ | ⟨ha, v, h1, hK⟩
  · refine ⟨l, _, rfl, hK, ?_⟩
    unfold cPart
    simp only [hu, hz, ha, cond_true]
    rw [htk z _ (by rw [List.length_drop, dens_length]; omega)]
    show some (Value.agg ⟨_⟩) = some (.agg ⟨dens _⟩)
    rw [dens_take, dens_drop]
  · refine ⟨l, v, rfl, hK, ?_⟩
    unfold cPart
    simp only [hu, hz, ha, cond_false]
    rw [dens_get, h1]; rfl
theorem fdS_ok (hf : FrameOK k n t f) {u : TypeId} {x : Operand} {i : Nat} (hop : o.op = .field u x i) {K : SV → Prop} (h : stepV P n m f o K) : ∃ v, K v ∧ VOK P k n t s o v := by
  unfold stepV at h
  rw [hop] at h
  simp only at h
  unfold fdS at h
  split at h <;> (try exact h.elim)
  rename_i fs hu
  split at h <;> (try exact h.elim)
  rename_i fd hfd
  obtain ⟨l, v, hx, hK, hp⟩ := partS_ok h
  obtain ⟨g, hg, hgt⟩ := evS_eq hf hx rfl
  refine ⟨v, hK, .inl ⟨⟨fun f K => partOf (cPart P fd.type) (g.g f) fd.offset K⟩, by unfold cOper; rw [hop]; simp only [hg]; unfold oField; simp only [hu, hfd], fun K' => ?_⟩⟩
  simp only [hgt]
  show (match (cPart P fd.type).p (dens l) fd.offset with | some v => K' v | none => false) = _
  rw [hp]
theorem asNat_of {g : GW Value k} {a : IntKind} {q : Nat} (h : g.g t = .int a (.ofNat q)) (K' : Nat → Bool) : asNat (g.g t) K' = K' q := by rw [h]; rfl
theorem ixV_ok (hf : FrameOK k n t f) {u : TypeId} {x y : Operand} (hop : o.op = .index u x y) {K : SV → Prop} (h : stepV P n m f o K) : ∃ v, K v ∧ VOK P k n t s o v := by
  unfold stepV at h
  rw [hop] at h
  simp only at h
  unfold ixV at h
  cases hy : evS n f y <;> rw [hy] at h <;> (try exact h.elim)
  rename_i a j
  simp only at h
  split at h <;> (try exact h.elim)
  rename_i len e hu
  split at h <;> (try exact h.elim)
  rename_i z hz
  obtain ⟨q, rfl, hq, h⟩ := ixS_inv h
  obtain ⟨l, v, hx, hK, hp⟩ := partS_ok h
  obtain ⟨g, hg, hgt⟩ := evS_eq hf hx rfl
  obtain ⟨gy, hgy, hyt⟩ := evS_eq hf hy rfl
  refine ⟨v, hK, .inl ⟨⟨fun f K => asNat (gy.g f) fun j => bif Nat.blt j len then partOf (cPart P e) (g.g f) (Nat.mul j z) K else false⟩, by unfold cOper; rw [hop]; simp only [hg, hgy]; unfold oIndex; simp only [hu, hz], fun K' => ?_⟩⟩
  simp only [asNat_of hyt, hgt, blt_of hq, cond_true]
  show (match (cPart P e).p (dens l) _ with | some v => K' v | none => false) = _
  rw [hp]
theorem ixA_ok (hf : FrameOK k n t f) (hm : MemOK X Z s0 R s m) {u : TypeId} {x y : Operand} (hop : o.op = .indexAddr u x y) {K : SV → Prop} (h : stepV P n m f o K) : ∃ v, K v ∧ VOK P k n t s o v := by
  unfold stepV at h
  rw [hop] at h
  simp only at h
  unfold ixA at h
  cases hy : evS n f y <;> rw [hy] at h <;> (try exact h.elim)
  rename_i a j
  simp only at h
  obtain ⟨gy, hgy, hyt⟩ := evS_eq hf hy rfl
  split at h <;> (try exact h.elim)
  · rename_i len e hu
    split at h <;> (try exact h.elim)
    rename_i z hz
    cases hx : evS n f x <;> rw [hx] at h <;> (try exact h.elim)
    all_goals
      obtain ⟨g, hg, hgt⟩ := evS_eq hf hx rfl
      obtain ⟨q, rfl, hq, h⟩ := ixS_inv h
      refine ⟨_, h, .inl ⟨⟨fun f K => asNat (gy.g f) fun j => bif Nat.blt j len then (asPtr (g.g f) fun b o => K (ptr b (Nat.add o (Nat.mul j z)))) else false⟩, by unfold cOper; rw [hop]; simp only [hg, hgy]; unfold oIndexAddr; simp only [hu, hz], fun K' => ?_⟩⟩
      simp only [asNat_of hyt, hgt, blt_of hq, cond_true]
      first
      | rfl
      | exact el_add K' _ _ _ _ _ _ _
  · rename_i e hu
    split at h <;> (try exact h.elim)
    rename_i z hz
    have hco : ∀ g : GW Value k, cEv k n x = some g → cOper P k n o = .sil ⟨fun f K => asNat (gy.g f) fun j => asSlice (g.g f) (fun _ _ => false) fun b o len _ => bif Nat.blt j len then K (ptr b (Nat.add o (Nat.mul j z))) else false⟩ := by
      intro g hg
      unfold cOper; rw [hop]; simp only [hg, hgy]; unfold oIndexAddr; simp only [hu, hz]
    cases hx : evS n f x <;> rw [hx] at h <;> (try exact h.elim)
    · obtain ⟨g, hg, hgt⟩ := evS_eq hf hx rfl
      obtain ⟨q, rfl, hq, h⟩ := ixS_inv h
      refine ⟨_, h, .inl ⟨_, hco g hg, fun K' => ?_⟩⟩
      simp only [asNat_of hyt, hgt]
      rename_i i b p len c _
      show (bif Nat.blt q len then _ else false) = _
      rw [blt_of hq]; rfl
    · obtain ⟨g, hg, hgt⟩ := evS_eq hf hx rfl
      rename_i i a len c
      obtain ⟨h, hsome⟩ := hand_at hm h
      obtain ⟨q, rfl, hq, h⟩ := ixS_inv h
      obtain ⟨b, p, rfl⟩ := hsome (by omega)
      refine ⟨_, h b p rfl, .inl ⟨_, hco g hg, fun K' => ?_⟩⟩
      simp only [asNat_of hyt, hgt]
      show (bif Nat.blt q len then _ else false) = _
      rw [blt_of hq]; rfl
theorem intO_ok {g h : GW Value k} {a b : IntKind} {p q : Int} (hx : g.g t = .int a p) (hy : h.g t = .int b q) (hk : Nat.beq (kIdx a) (kIdx b) = true) (F : IntKind → Int → Int → (Value → Bool) → Bool) (K' : Value → Bool) :
    (asInt (g.g t) fun a m => asInt (h.g t) fun b n => bif Nat.beq (kIdx a) (kIdx b) then F a m n K' else false) = F a p q K' := by
  rw [hx, hy]
  show (bif Nat.beq (kIdx a) (kIdx b) then _ else false) = _
  rw [hk]; rfl
theorem VOK.ints {gx gy : GW Value k} {F : IntKind → Int → Int → (Value → Bool) → Bool} (hco : cOper P k n o = Ab.ints gx gy F) {a b : IntKind} {p q : Int} (hx : gx.g t = .int a p) (hy : gy.g t = .int b q) (hk : Nat.beq (kIdx a) (kIdx b) = true) {v : SV} (hv : ∀ K', F a p q K' = K' (den v)) : VOK P k n t s o v :=
  .inl ⟨_, hco, fun K' => (intO_ok hx hy hk F K').trans (hv K')⟩
theorem isAggT_int {u : TypeId} {j : IntKind} (h : P.underlying u = some (.int j)) : isAggT P u = false := by
  unfold isAggT; simp only [h]
theorem bin_ok (hf : FrameOK k n t f) {op : BinOp} {u w : TypeId} {x y : Operand} (hop : o.op = .binOp op u x y w) {K : SV → Prop} (h : stepV P n m f o K) : ∃ v, K v ∧ VOK P k n t s o v := by
  unfold stepV at h
  rw [hop] at h
  simp only at h
  have hcop : ∀ {gx gy}, cEv k n x = some gx → cEv k n y = some gy → cOper P k n o = oBinA P op u x y gx gy := fun hx hy => by
    unfold cOper; rw [hop]; simp only [hx, hy]
  unfold binS at h
  split at h <;> (try exact h.elim)
  · rename_i kk hu
    cases hx : evS n f x <;> rw [hx] at h <;> (try exact h.elim)
    cases hy : evS n f y <;> rw [hy] at h <;> (try exact h.elim)
    rename_i a p b q
    simp only at h
    obtain ⟨gx, hgx, hxt⟩ := evS_eq hf hx rfl
    obtain ⟨gy, hgy, hyt⟩ := evS_eq hf hy rfl
    cases hk : Nat.beq (kIdx a) (kIdx b) with
    | false => rw [hk] at h; exact h.elim
    | true =>
      rw [hk] at h
      simp only [cond_true] at h
      have hag : isAggT P u = false := isAggT_int hu
      have hco : ∀ F, oBin P op u x y gx gy = ints gx gy F → cOper P k n o = ints gx gy F := fun F hF => by
        rw [hcop hgx hgy]; unfold oBinA; rw [hF]; unfold ints; simp only [hag, cond_false]
      unfold binI at h
      cases op <;> (try exact h.elim) <;> simp only at h
      all_goals
        have hco' := hco _ (by unfold oBin; simp only [hu]; rfl)
        first
        | exact ⟨_, h, VOK.ints hco' hxt hyt hk fun K' => rfl⟩
        | (obtain ⟨hz, h⟩ := h
           exact ⟨_, h, VOK.ints hco' hxt hyt hk fun K' => (by simp only [hz]; rfl)⟩)
  all_goals
    rename_i hu
    cases op <;> (try exact h.elim) <;> simp only at h
    all_goals
      obtain ⟨hag, h⟩ := h
      unfold eqvS at h
      split at h <;> (try exact h.elim)
      rename_i r hr
      have hjx : isJ (evS n f x) = false := by
        cases hx : evS n f x <;> first | rfl | (rw [hx] at hr; exact absurd hr (by unfold eqV; simp only [hu]; simp [den, undef]))
      have hjy : isJ (evS n f y) = false := by
        cases hy : evS n f y <;> first | rfl | (rw [hy] at hr; exact absurd hr (by unfold eqV; simp only [hu]; cases den (evS n f x) <;> simp [den, undef]))
      obtain ⟨gx, hgx, hxt⟩ := evS_ok hf x hjx
      obtain ⟨gy, hgy, hyt⟩ := evS_ok hf y hjy
      have hob : ∀ op, oBin P op u x y gx gy = gBin P op u x y gx gy := fun op => by unfold oBin; simp only [hu]
      refine ⟨_, h, .inl ⟨_, (hcop hgx hgy).trans (by unfold oBinA; rw [hob]; unfold gBin; simp only [(and_true hag).1, cond_true]; rfl), fun K' => ?_⟩⟩
      simp only [(and_true hag).2, cond_true, hxt, hyt, hr]
      rfl
theorem evL_ok (hf : FrameOK k n t f) : ∀ {l : List Operand} {K : List SV → Prop}, evL n f l K → ∃ gs vs, cEvs k n l = some gs ∧ evAll t gs = dens vs ∧ K vs
  | [], K, h => ⟨[], [], rfl, rfl, h⟩
  | x :: l, K, h => by
    unfold evL at h
    obtain ⟨hj, h⟩ := njS_inv h
    obtain ⟨gs, vs, h1, h2, h3⟩ := evL_ok hf h
    obtain ⟨g, hg, hgt⟩ := evS_ok hf x hj
    refine ⟨g :: gs, _ :: vs, by unfold cEvs; simp only [hg, h1], ?_, h3⟩
    unfold evAll dens
    rw [hgt, h2]
theorem func_ok (hf : FrameOK k n t f) {fn : Fn} {a c : Array Operand} (hop : o.op = .makeFunc fn a c) {K : SV → Prop} (h : stepV P n m f o K) : ∃ v, K v ∧ VOK P k n t s o v := by
  unfold stepV at h
  rw [hop] at h
  simp only at h
  cases fn <;> (try exact h.elim)
  rename_i g
  simp only at h
  obtain ⟨gs, vs, h1, h2, h⟩ := evL_ok hf h
  obtain ⟨gs', vs', h3, h4, h⟩ := evL_ok hf h
  refine ⟨_, h, .inl ⟨_, (by unfold cOper; rw [hop]; simp only [h1, h3]; rfl), fun K' => ?_⟩⟩
  simp only [h2, h4]
  rfl
theorem vcS_ok {v : SV} (h : sgO v = true) : vcells (den v) = dens (vcS v) ∧ isCh (den v) = false := by
  cases v <;> first | exact ⟨rfl, rfl⟩ | (cases h; done) | skip
  rename_i v
  cases v <;> first | exact ⟨rfl, rfl⟩ | cases h
theorem fillS_ok (hf : FrameOK k n t f) {place : Nat → Option (Nat × Nat)} : ∀ {ps : List (Nat × Operand)} {l : List SV} {K : List SV → Prop}, fillS n f place ps l K → ∃ gs, cParts k n ps = some gs ∧ ∃ l', fillP t place (dens l) gs = some (dens l') ∧ K l'
  | [], l, K, h => ⟨[], rfl, l, rfl, h⟩
  | (i, x) :: r, l, K, h => by
    unfold fillS at h
    simp only at h
    cases hp : place i with
    | none => rw [hp] at h; exact h.elim
    | some p =>
      obtain ⟨off, size⟩ := p
      rw [hp] at h
      simp only at h
      obtain ⟨hj, h⟩ := njS_inv h
      obtain ⟨g, hg, hgt⟩ := evS_ok hf x hj
      cases hc : (Nat.beq (vcS (evS n f x)).length size && Nat.ble (Nat.add off size) l.length && sgO (evS n f x)) with
      | false => rw [hc] at h; exact h.elim
      | true =>
        rw [hc] at h
        simp only [cond_true] at h
        obtain ⟨hc1, hc2⟩ := and_true hc
        obtain ⟨hc3, hc4⟩ := and_true hc1
        obtain ⟨hv1, hv2⟩ := vcS_ok hc2
        obtain ⟨h1, h2⟩ := putS_inv h
        obtain ⟨gs, h3, l', h4, h5⟩ := fillS_ok hf h2
        refine ⟨(i, g) :: gs, by unfold cParts; simp only [hg, h3], l', ?_, h5⟩
        unfold fillP
        simp only [hp, hgt, hv1, hv2, dens_length, hc3, hc4, Bool.not_false, Bool.and_self, cond_true]
        rw [splice_ok (by rw [dens_length, dens_length]; exact h1)]
        simp only
        rw [← dens_take, dens_length, ← dens_drop, ← dens_append, ← dens_append]
        exact h4
theorem build_ok (hf : FrameOK k n t f) {u : TypeId} {ps : Array (Nat × Operand)} (hop : o.op = .build u ps) {K : SV → Prop} (h : stepV P n m f o K) : ∃ v, K v ∧ VOK P k n t s o v := by
  unfold stepV at h
  rw [hop] at h
  simp only at h
  unfold buS at h
  split at h <;> (try exact h.elim)
  · rename_i z fs hz hu
    split at h <;> (try exact h.elim)
    rename_i pl hpl
    rw [forceV_eq] at h
    obtain ⟨gs, h1, l', h2, h3⟩ := fillS_ok hf h
    rw [dens_ofVs] at h2
    refine ⟨_, h3, .inl ⟨_, (by unfold cOper; rw [hop]; simp only [h1]; unfold oBuild; simp only [hz, hu, hpl]; rfl), fun K' => ?_⟩⟩
    simp only [h2]
    rfl
  · rename_i z len e hz hu
    split at h <;> (try exact h.elim)
    rename_i sz hsz
    rw [forceV_eq] at h
    obtain ⟨gs, h1, l', h2, h3⟩ := fillS_ok hf h
    rw [dens_ofVs] at h2
    refine ⟨_, h3, .inl ⟨_, (by unfold cOper; rw [hop]; simp only [h1]; unfold oBuild; simp only [hz, hu, hsz]; rfl), fun K' => ?_⟩⟩
    simp only [h2]
    rfl
theorem cEvs_two {x y : Operand} {gx gy : GW Value k} (hx : cEv k n x = some gx) (hy : cEv k n y = some gy) : cEvs k n [x, y] = some [gx, gy] := by simp only [cEvs, hx, hy]
theorem cEvs_one {x : Operand} {gx : GW Value k} (hx : cEv k n x = some gx) : cEvs k n [x] = some [gx] := by simp only [cEvs, hx]
theorem blt_ok (hf : FrameOK k n t f) {c : Call} {b : Builtin} (hop : o.op = .call c) (hb : c.callee = .builtin b) {K : SV → Prop} (h : stepV P n m f o K) : ∃ v, K v ∧ VOK P k n t s o v := by
  unfold stepV at h
  rw [hop] at h
  simp only [hb] at h
  have hcop : cOper P k n o = cBuiltinM P k n b c.args.toList c.argTypes.toList o.type := by unfold cOper; rw [hop]; simp only [hb]
  generalize c.args.toList = args at h hcop
  generalize c.argTypes.toList = ts at h hcop
  unfold bltS at h
  cases b <;> (try exact h.elim) <;> simp only at h
  · split at h <;> (try exact h.elim)
    rename_i x u
    unfold lenS at h
    split at h <;> (try exact h.elim)
    · rename_i e hu
      have hc2 : ∀ {g}, cEv k n x = some g → cOper P k n o = .sil ⟨fun f K => match g.g f with | .slice _ m _ => K (.int .i64 (.ofNat m)) | _ => false⟩ := fun hg => by
        rw [hcop]; unfold cBuiltinM; simp only [hu]; unfold cBuiltin; simp only [cEvs_one hg, hu]; rfl
      cases hx : evS n f x <;> rw [hx] at h <;> (try exact h.elim)
      · obtain ⟨g, hg, hgt⟩ := evS_eq hf hx rfl
        exact ⟨_, h, .inl ⟨_, hc2 hg, fun K' => by simp only [hgt]; rfl⟩⟩
      · obtain ⟨g, hg, hgt⟩ := evS_eq hf hx rfl
        exact ⟨_, h, .inl ⟨_, hc2 hg, fun K' => by simp only [hgt]; rfl⟩⟩
      · rename_i v
        cases v <;> (try exact h.elim)
        obtain ⟨g, hg, hgt⟩ := evS_eq hf hx rfl
        exact ⟨_, h, .inl ⟨_, hc2 hg, fun K' => by simp only [hgt]; rfl⟩⟩
    · rename_i hu
      have hc2 : ∀ {g}, cEv k n x = some g → cOper P k n o = .sil ⟨fun f K => match g.g f with | .string w => K (.int .i64 (.ofNat w.size)) | _ => false⟩ := fun hg => by
        rw [hcop]; unfold cBuiltinM; simp only [hu]; unfold cBuiltin; simp only [cEvs_one hg, hu]; rfl
      cases hx : evS n f x <;> rw [hx] at h <;> (try exact h.elim)
      rename_i v
      cases v <;> (try exact h.elim)
      obtain ⟨g, hg, hgt⟩ := evS_eq hf hx rfl
      exact ⟨_, h, .inl ⟨_, hc2 hg, fun K' => by simp only [hgt]; rfl⟩⟩
  all_goals
    split at h <;> (try exact h.elim)
    rename_i x y
    cases hx : evS n f x <;> rw [hx] at h <;> (try exact h.elim)
    cases hy : evS n f y <;> rw [hy] at h <;> (try exact h.elim)
    rename_i a p b q
    simp only at h
    obtain ⟨gx, hgx, hxt⟩ := evS_eq hf hx rfl
    obtain ⟨gy, hgy, hyt⟩ := evS_eq hf hy rfl
    cases hk : Nat.beq (kIdx a) (kIdx b) with
    | false => rw [hk] at h; exact h.elim
    | true =>
      rw [hk] at h
      simp only [cond_true] at h
      first
      | exact ⟨_, h, VOK.ints (F := fun a m n K => K (.int a (bif iLt n m then n else m))) (by rw [hcop]; unfold cBuiltinM; simp only; unfold cBuiltin; simp only [cEvs_two hgx hgy]) hxt hyt hk fun K' => rfl⟩
      | exact ⟨_, h, VOK.ints (F := fun a m n K => K (.int a (bif iLt m n then n else m))) (by rw [hcop]; unfold cBuiltinM; simp only; unfold cBuiltin; simp only [cEvs_two hgx hgy]) hxt hyt hk fun K' => rfl⟩
theorem stepV_ok (hf : FrameOK k n t f) (hm : MemOK X Z s0 R s m) {K : SV → Prop} (h : stepV P n m f o K) : ∃ v, K v ∧ VOK P k n t s o v := by
  cases hop : o.op with
  | move x => exact move_ok hf (.inl hop) h
  | assign x => exact move_ok hf (.inr hop) h
  | pick c x y => exact pick_ok hf hop h
  | build u ps => exact build_ok hf hop h
  | load u x => exact load_ok hf hm hop h
  | nilCheck x => exact nil_ok hf hop h
  | binOp op u x y w => exact bin_ok hf hop h
  | unOp op u x => exact not_ok hf hop h
  | convert u w x => exact conv_ok hf hop h
  | makeFunc fn a c => exact func_ok hf hop h
  | fieldAddr u x i => exact fdA_ok hf hop h
  | field u x i => exact fdS_ok hf hop h
  | indexAddr u x i => exact ixA_ok hf hm hop h
  | index u x i => exact ixV_ok hf hop h
  | extract x i => exact ext_ok hf hop h
  | call c =>
    cases hc : c.callee with
    | builtin b => exact blt_ok hf hop hc h
    | _ => unfold stepV at h; rw [hop] at h; simp only [hc] at h
  | _ => unfold stepV at h; rw [hop] at h; exact h.elim
end Go.Ab
