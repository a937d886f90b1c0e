/- Runs over open values: new blocks, stores, appends, calls; rows of operations. -/
import Derived.Test.YtkpiaipbbpfodaaEngSc
namespace Go.Ab
open Go.RowKit
/-! what memory says -/
theorem MemOK.more {X Z : Nat → Prop} {s0 : St} {R R' : Nat} {s : St} {m : Mem} (h : MemOK X Z s0 R s m) (hR : R' ≤ R) : MemOK X Z s0 R' s m := ⟨h.fr, by have := h.nx; omega, h.fl, h.ent, h.dis⟩
theorem ent_lt {X Z : Nat → Prop} {s0 s : St} {e : Ent} (h : EntOK X Z s0 s e) {b : Nat} (hb : fpE e b) : b < s.nx := by
  cases e with
  | own b' t l => cases hb; exact h.1.1.1
  | ro _ _ _ _ _ => exact hb.elim
  | gr a n t sz f => exact h.2.1.lt b hb
theorem rd_lt {X Z : Nat → Prop} {s0 s : St} {e : Ent} (h : EntOK X Z s0 s e) {b : Nat} (hb : rdE e b) : b < s.nx := by
  cases e with
  | ro a n c sz f =>
    obtain ⟨hn, p, rfl⟩ := hb
    rcases h.2 with h1 | ⟨b', p', h1, h2, h3⟩
    · exact absurd h1 hn
    · cases h1; exact h2.1
  | _ => exact hb.elim
/-- an entry stays if its block stays -/
theorem EntOK.keep {X Z : Nat → Prop} {s0 s s' : St} {e : Ent} (h : EntOK X Z s0 s e) {Y : Nat → Prop} (hf : Fr Y s s') (hd : ∀ b, fpE e b → ¬ Y b) (hr : ∀ b, rdE e b → ¬ Y b) : EntOK X Z s0 s' e := by
  cases e with
  | own b t l => exact ⟨h.1.fr hf (hd b rfl), h.2⟩
  | ro a n c sz f =>
    refine ⟨h.1, ?_⟩
    by_cases hn : n = 0
    · exact .inl hn
    · rcases h.2 with h1 | ⟨b, p, rfl, h2, h3⟩
      · exact absurd h1 hn
      · exact .inr ⟨b, p, rfl, h2.fr hf (hr b ⟨hn, p, rfl⟩), h3⟩
  | gr a n t sz f => exact ⟨h.1, h.2.1.fr hf hd, h.2.2⟩
theorem MemOK.fls {X Z : Nat → Prop} {s0 : St} {R : Nat} {s : St} {m : Mem} (h : MemOK X Z s0 R s m) : s.fl ≤ s.nx := by
  have h1 := h.fr.1; have h2 := h.fr.2.2; have h3 := h.fl; omega
/-- blocks of the run's own -/
def mine (X : Nat → Prop) (s0 : St) (b : Nat) : Prop := s0.nx ≤ b ∨ X b
theorem ent_mine {X Z : Nat → Prop} {s0 s : St} {e : Ent} (h : EntOK X Z s0 s e) {b : Nat} (hb : fpE e b) : mine X s0 b := by
  cases e with
  | own b' t l => cases hb; exact h.2
  | ro _ _ _ _ _ => exact hb.elim
  | gr a n t sz f => exact h.2.2 b hb
theorem Fr.mine {X : Nat → Prop} {s0 s s' : St} (h : Fr X s0 s) {Y : Nat → Prop} (k : Fr Y s s') (hy : ∀ b, Y b → mine X s0 b) : Fr X s0 s' := by
  refine ⟨Nat.le_trans h.1 k.1, fun b hb hx => ?_, k.2.2.trans h.2.2⟩
  rw [k.2.1 b (Nat.lt_of_lt_of_le hb h.1) fun hyb => ?_]
  · exact h.2.1 b hb hx
  · rcases hy b hyb with h1 | h1
    · omega
    · exact hx h1
/-- memory changed in blocks of the run's own that no entry names -/
theorem MemOK.step {X Z : Nat → Prop} {s0 : St} {R : Nat} {s s' : St} {m : Mem} (h : MemOK X Z s0 R s m) {Y : Nat → Prop} (k : Fr Y s s') (hy : ∀ b, Y b → mine X s0 b) (hd : ∀ x ∈ m, ∀ b, fpE x.2 b → ¬ Y b) (hr : ∀ x ∈ m, ∀ b, rdE x.2 b → ¬ Y b) {R' : Nat} (hn : s'.nx + R' ≤ 262144) : MemOK X Z s0 R' s' m :=
  ⟨h.fr.mine k hy, hn, h.fl, fun x hx => (h.ent x hx).keep k (hd x hx) (hr x hx), h.dis⟩
theorem MemOK.keep {X Z : Nat → Prop} {s0 : St} {R N : Nat} {s s' : St} {m : Mem} (h : MemOK X Z s0 (R + N) s m) (k : Kp N s s') : MemOK X Z s0 R s' m :=
  h.step (Y := fun _ => False) (Fr.of_keep k.1) (fun _ h => h.elim) (fun _ _ _ _ h => h) (fun _ _ _ _ h => h) (by have h1 := h.nx; have h2 := k.2; omega)
theorem MemOK.cons {X Z : Nat → Prop} {s0 : St} {R : Nat} {s : St} {m : Mem} (h : MemOK X Z s0 R s m) {i : Nat} {e : Ent} (he : EntOK X Z s0 s e) (hd : ∀ x ∈ m, apE e x.2) : MemOK X Z s0 R s ((i, e) :: m) :=
  ⟨h.fr, h.nx, h.fl, fun x hx => by
    rcases List.mem_cons.1 hx with rfl | hx
    · exact he
    · exact h.ent x hx, List.pairwise_cons.2 ⟨fun x hx => hd x hx, h.dis⟩⟩
/-- a block that no entry can name -/
theorem apE_new {X Z : Nat → Prop} {s0 s : St} {e x : Ent} (hx : EntOK X Z s0 s x) (hr : ∀ b, ¬ rdE e b) (hn : ∀ b, fpE e b → s.nx ≤ b) : apE e x :=
  ⟨fun b hb hxb => by have h1 := ent_lt hx hxb; have h2 := hn b hb; omega, fun b hb hxb => by have h1 := rd_lt hx hxb; have h2 := hn b hb; omega, fun b hb => (hr b hb).elim⟩
theorem MemOK.push {X Z : Nat → Prop} {s0 : St} {R : Nat} {s : St} {m : Mem} (h : MemOK X Z s0 (R + 1) s m) {l : List SV} {e : TypeId} (hl : l.length ≤ 32768) (he : Nat.beq e ro = false) (i : Nat) :
    MemOK X Z s0 R (s.push (mkC (dens l) e false)) ((i, .own s.nx e l) :: m) := by
  have hlt : s.nx < 262144 := by have := h.nx; omega
  have h1 : MemOK X Z s0 R (s.push (mkC (dens l) e false)) m := h.keep (Kp.push _ hlt)
  refine h1.cons ⟨OwnE.push (by rw [dens_length]; exact hl) hlt h.fls he, .inl h.fr.1⟩ fun x hx => apE_new (h.ent x hx) (fun _ hb => hb) fun b hb => by cases hb; exact Nat.le_refl _
def isI (i : Nat) (x : Nat × Ent) : Bool := Nat.beq x.1 i
theorem getM_split : ∀ {m : Mem} {i : Nat} {e : Ent}, getM m i = some e → ∃ m1 j m2, m = m1 ++ (j, e) :: m2 ∧ ∀ v, setM v m i = m1 ++ (j, v) :: m2
  | (j, w) :: r, i, e, h => by
    have h : (bif Nat.beq j i then some w else getM r i) = some e := h
    cases hb : Nat.beq j i with
    | true =>
      rw [hb] at h; cases h
      exact ⟨[], j, r, rfl, fun v => by show (bif Nat.beq j i then (j, v) :: r else (j, w) :: setM v r i) = _; rw [hb]; rfl⟩
    | false =>
      rw [hb] at h
      obtain ⟨m1, j', m2, h1, h2⟩ := getM_split h
      exact ⟨(j, w) :: m1, j', m2, by rw [h1]; rfl, fun v => by show (bif Nat.beq j i then (j, v) :: r else (j, w) :: setM v r i) = _; rw [hb, h2 v]; rfl⟩
theorem remM_split : ∀ {m : Mem} {i : Nat} {e : Ent}, getM m i = some e → ∃ m1 j m2, m = m1 ++ (j, e) :: m2 ∧ remM m i = m1 ++ m2
  | (j, w) :: r, i, e, h => by
    have h : (bif Nat.beq j i then some w else getM r i) = some e := h
    cases hb : Nat.beq j i with
    | true =>
      rw [hb] at h; cases h
      exact ⟨[], j, r, rfl, by show (bif Nat.beq j i then r else (j, w) :: remM r i) = _; rw [hb]; rfl⟩
    | false =>
      rw [hb] at h
      obtain ⟨m1, j', m2, h1, h2⟩ := remM_split h
      exact ⟨(j, w) :: m1, j', m2, by rw [h1]; rfl, by show (bif Nat.beq j i then r else (j, w) :: remM r i) = _; rw [hb, h2]; rfl⟩
/-- an entry whose block is changed -/
theorem MemOK.set {X Z : Nat → Prop} {s0 : St} {R : Nat} {s s' : St} {m : Mem} (h : MemOK X Z s0 R s m) {i : Nat} {e e' : Ent} (hi : getM m i = some e) (k : Fr (fpE e) s s') (hnx : s'.nx = s.nx) (he : EntOK X Z s0 s' e') (hf : ∀ b, fpE e' b → fpE e b) (hr : ∀ b, ¬ rdE e' b) : MemOK X Z s0 R s' (setM e' m i) := by
  obtain ⟨m1, j, m2, rfl, h2⟩ := getM_split hi
  rw [h2]
  have hp := List.pairwise_append.1 h.dis
  have hp2 := List.pairwise_cons.1 hp.2.1
  have hme : EntOK X Z s0 s e := h.get hi
  have hfr : Fr X s0 s' := h.fr.mine k fun b hb => ent_mine hme hb
  refine ⟨hfr, by rw [hnx]; exact h.nx, h.fl, fun x hx => ?_, List.pairwise_append.2 ⟨hp.1, List.pairwise_cons.2 ⟨fun y hy => ⟨fun b hb => (hp2.1 y hy).1 b (hf b hb), fun b hb => (hp2.1 y hy).2.1 b (hf b hb), fun b hb => (hr b hb).elim⟩, hp2.2⟩, fun x hx y hy => ?_⟩⟩
  · rcases List.mem_append.1 hx with hx | hx
    · exact (h.ent x (by simp [hx])).keep k (fun b hb => (hp.2.2 x hx (j, e) (by simp)).1 b hb) fun b hb => (hp.2.2 x hx (j, e) (by simp)).2.2 b hb
    · rcases List.mem_cons.1 hx with rfl | hx
      · exact he
      · exact (h.ent x (by simp [hx])).keep k (fun b hb hb' => (hp2.1 x hx).1 b hb' hb) fun b hb hb' => (hp2.1 x hx).2.1 b hb' hb
  · rcases List.mem_cons.1 hy with rfl | hy
    · have h3 := hp.2.2 x hx (j, e) (by simp)
      exact ⟨fun b hb hb' => h3.1 b hb (hf b hb'), fun b _ hb' => hr b hb', fun b hb hb' => h3.2.2 b hb (hf b hb')⟩
    · exact hp.2.2 x hx y (by simp [hy])
theorem MemOK.rem {X Z : Nat → Prop} {s0 : St} {R R' : Nat} {s s' : St} {m : Mem} (h : MemOK X Z s0 R s m) {i : Nat} {e : Ent} (hi : getM m i = some e) (k : Fr (fpE e) s s') (hn : s'.nx + R' ≤ 262144) : MemOK X Z s0 R' s' (remM m i) := by
  obtain ⟨m1, j, m2, rfl, h2⟩ := remM_split hi
  rw [h2]
  have hp := List.pairwise_append.1 h.dis
  have hp2 := List.pairwise_cons.1 hp.2.1
  have hme : EntOK X Z s0 s e := h.get hi
  refine ⟨h.fr.mine k fun b hb => ent_mine hme hb, hn, h.fl, fun x hx => ?_, List.pairwise_append.2 ⟨hp.1, hp2.2, fun x hx y hy => hp.2.2 x hx y (by simp [hy])⟩⟩
  rcases List.mem_append.1 hx with hx | hx
  · exact (h.ent x (by simp [hx])).keep k (fun b hb => (hp.2.2 x hx (j, e) (by simp)).1 b hb) fun b hb => (hp.2.2 x hx (j, e) (by simp)).2.2 b hb
  · exact (h.ent x (by simp [hx])).keep k (fun b hb hb' => (hp2.1 x hx).1 b hb' hb) fun b hb hb' => (hp2.1 x hx).2.1 b hb' hb
theorem remM_sub {m : Mem} {i : Nat} : ∀ x ∈ remM m i, x ∈ m := by
  induction m with
  | nil => intro x hx; exact hx
  | cons y r ih =>
    intro x hx
    obtain ⟨j, w⟩ := y
    have hx : x ∈ (bif Nat.beq j i then r else (j, w) :: remM r i) := hx
    cases hb : Nat.beq j i with
    | true => rw [hb] at hx; exact List.mem_cons_of_mem _ hx
    | false =>
      rw [hb] at hx
      rcases List.mem_cons.1 hx with rfl | hx
      · simp
      · exact List.mem_cons_of_mem _ (ih x hx)
/-! new blocks -/
section
variable (P : Program)
def alS (n : Nat) (f : Frm) (o : Oper) (K : TypeId → List SV → (Nat → Nat → SV) → Prop) : Prop := match o.op with
  | .alloc e => match zeroL P e with
    | some z => bif Nat.ble z.length 32768 && !Nat.beq e ro then forceV z fun z => K e z fun i b => .ptr i b 0 else False
    | none => False
  | .box e x => njS (evS n f x) fun v => bif sgO v && (Nat.ble (vcS v).length 32768 && !Nat.beq e ro) then forceL (vcS v) fun l => K e l fun i b => .ptr i b 0 else False
  | .buildSlice t len ps => match elemOfSlice P t with
    | some e => match sizeT P e, zeroL P e with
      | some z, some zs => bif Nat.ble (Nat.mul len z) 32768 && (Nat.beq zs.length z && !Nat.beq e ro) then
          forceV (repL zs len) fun l => fillS n f (fun i => some (Nat.mul i z, z)) ps.toList l fun l => bif Nat.ble l.length 32768 then K e l fun i b => .slc i b 0 len len else False
        else False
      | _, _ => False
    | none => False
  | _ => False
def isAl (o : Oper) : Bool := match o.op with
  | .alloc _ | .box _ _ | .buildSlice _ _ _ => true
  | _ => false
end
section
variable {P : Program} {k n : Nat} {t : Fm Value k} {f : Frm} {m : Mem} {X Z : Nat → Prop} {s0 s : St} {R : Nat} {o : Oper}
theorem not_t {b : Bool} (h : (!b) = true) : b = false := by cases b <;> first | rfl | cases h
theorem alS_ok (hf : FrameOK k n t f) {K : TypeId → List SV → (Nat → Nat → SV) → Prop} (h : alS P n f o K) :
    ∃ e l mk, K e l mk ∧ l.length ≤ 32768 ∧ Nat.beq e ro = false ∧ ∃ c, cOper P k n o = .al c ∧ ∀ i K', c.m t K' = K' (mkC (dens l) e false) (fun b => den (mk i b)) := by
  unfold alS at h
  split at h <;> (try exact h.elim)
  · rename_i e hop
    split at h <;> (try exact h.elim)
    rename_i z hz
    cases hc : (Nat.ble z.length 32768 && !Nat.beq e ro) with
    | false => rw [hc] at h; exact h.elim
    | true =>
      rw [hc] at h
      simp only [cond_true, forceV_eq] at h
      obtain ⟨h1, h2⟩ := and_true hc
      have hl : (dens (ofVs z)).length = z.length := by rw [dens_ofVs]
      refine ⟨e, _, _, h, by rw [← dens_length, hl]; exact ble_true h1, not_t h2, _, (by unfold cOper; rw [hop]; simp only; unfold oAlloc; simp only [hz]; rfl), fun i K' => ?_⟩
      show mkL z e (fun b => ptr b 0) K' = _
      unfold mkL
      rw [h1, dens_ofVs]
      rfl
  · rename_i e x hop
    obtain ⟨hj, h⟩ := njS_inv h
    cases hc : (sgO (evS n f x) && (Nat.ble (vcS (evS n f x)).length 32768 && !Nat.beq e ro)) with
    | false => rw [hc] at h; exact h.elim
    | true =>
      rw [hc] at h
      simp only [cond_true, forceL_eq] at h
      obtain ⟨h1, h2⟩ := and_true hc
      obtain ⟨h2, h3⟩ := and_true h2
      obtain ⟨g, hg, hgt⟩ := evS_ok hf x hj
      obtain ⟨hv1, hv2⟩ := vcS_ok h1
      refine ⟨e, _, _, h, ble_true h2, not_t h3, _, (by unfold cOper; rw [hop]; simp only [hg]; rfl), fun i K' => ?_⟩
      show (match g.g t with
        | .agg cs => mkL cs.toList e (fun b => ptr b 0) K'
        | .chan _ => false
        | v => K' (.cells 0 1 v e false) (fun b => ptr b 0)) = _
      rw [hgt]
      have key : ∀ v : Value, isCh v = false → Nat.ble (vcells v).length 32768 = true → (match v with
        | .agg cs => mkL cs.toList e (fun b => ptr b 0) K'
        | .chan _ => false
        | v => K' (.cells 0 1 v e false) (fun b => ptr b 0)) = K' (mkC (vcells v) e false) (fun b => ptr b 0) := by
        intro v hv hl
        cases v <;> first | rfl | (cases hv; done) | (rename_i cs; obtain ⟨cs⟩ := cs; show mkL cs e _ K' = _; unfold mkL; rw [show Nat.ble cs.length 32768 = true from hl]; rfl)
      rw [key _ hv2 (by rw [hv1, dens_length]; exact h2), hv1]
      rfl
  · rename_i u len ps hop
    split at h <;> (try exact h.elim)
    rename_i e he
    split at h <;> (try exact h.elim)
    rename_i z zs hz hzs
    cases hc : (Nat.ble (Nat.mul len z) 32768 && (Nat.beq zs.length z && !Nat.beq e ro)) with
    | false => rw [hc] at h; exact h.elim
    | true =>
      rw [hc] at h
      simp only [cond_true, forceV_eq] at h
      obtain ⟨h1, h2⟩ := and_true hc
      obtain ⟨h2, h3⟩ := and_true h2
      obtain ⟨gs, h4, l', h5, h6⟩ := fillS_ok hf h
      rw [dens_ofVs] at h5
      cases hl : Nat.ble l'.length 32768 with
      | false => rw [hl] at h6; exact h6.elim
      | true =>
        rw [hl] at h6
        simp only [cond_true] at h6
        refine ⟨e, l', _, h6, ble_true hl, not_t h3, _, (by unfold cOper; rw [hop]; simp only [h4]; unfold oBuildSlice; simp only [he, hz, hzs, h1, h2, Bool.and_self, cond_true]; rfl), fun i K' => ?_⟩
        simp only [h5]
        show mkL (dens l') e _ K' = _
        unfold mkL
        rw [dens_length, hl]
        rfl
end
/-! stores, appends, calls -/
/-- what a call comes to, whoever asks -/
structure callS (call : CallT) (fv : SV) (args : List SV) (m : Mem) (R ni : Nat) (K : SV → Mem → Nat → Nat → Prop) : Prop where
  run : ∀ X Z s0 s, MemOK X Z s0 R s m → ∀ (Kr : KV) (r : Bool), (∀ w m' R' ni' s', MemOK X Z s0 R' s' m' → K w m' R' ni' → Kr (den w) s' = r) → call (den fv) (dens args) Kr s = r
section
variable (P : Program)
def stS (m : Mem) (z : Nat) (a v : SV) (K : Mem → Prop) : Prop := match a with
  | .ptr i b o => match getM m i with
    | some e => match e with
      | .own b' t l => eqS b b' (bif Nat.beq (vcS v).length z && (sgO v && okL (vcS v)) then putS o (vcS v) l fun l => setK (.own b t l) m i K else False)
      | _ => False
    | none => False
  | _ => False
/-- the elements of a slice that has grown -/
def grow (n sz : Nat) (g : Nat → List SV) (l : List SV) (j : Nat) : List SV := bif Nat.blt j n then g j else (l.drop (Nat.mul (Nat.sub j n) sz)).take sz
/-- the cells of a slice over a block of the run's own -/
def srcS (m : Mem) (y : SV) (sz : Nat) (K : Nat → List SV → Prop) : Prop := match y with
  | .slc i b o n _ => match getM m i with
    | some e => match e with
      | .own b' _ l => eqS b b' (dropS o l fun l => takeS (Nat.mul n sz) l fun l => K n l)
      | _ => False
    | none => False
  | _ => False
def apS (m : Mem) (R ni : Nat) (e sz : Nat) (x y : SV) (K : SV → Mem → Nat → Nat → Prop) : Prop := match R with
  | 0 => False
  | R + 1 => srcS m y sz fun n l => bif okL l && (Nat.ble 1 n && !Nat.beq e ro) then (match x with
      | .val v => match v with
        | .slice a p c => match a with
          | none => bif Nat.beq p 0 && Nat.beq c 0 && Nat.ble l.length 32768 then ∀ a, K (.sl ni a n n) ((ni, .gr a n e sz (grow 0 sz (fun _ => []) l)) :: m) R (ni + 1) else False
          | some _ => False
        | _ => False
      | .sl i a p c => match getM m i with
        | some en => match en with
          | .gr a' p' e' sz' g => eqA a a' (eqS p p' (eqS p c (eqS e e' (eqS sz sz' (ltS (Nat.add (Nat.mul p sz) l.length) 32769 (remK m i fun m => ∀ a, K (.sl ni a (Nat.add p n) (Nat.add p n)) ((ni, .gr a (Nat.add p n) e sz (grow p sz g l)) :: m) R (ni + 1)))))))
          | _ => False
        | none => False
      | _ => False) else False
def efS (call : CallT) (n : Nat) (m : Mem) (f : Frm) (o : Oper) (R ni : Nat) (K : SV → Mem → Nat → Nat → Prop) : Prop := match o.op with
  | .store t x y => match sizeT P t with
    | some z => njS (evS n f y) fun v => stS m z (evS n f x) v fun m => K .junk m R ni
    | none => False
  | .call c => match c.callee with
    | .value x => njS (evS n f x) fun fv => evL n f c.args.toList fun args => callS call fv args m R ni K
    | .builtin b => match b with
      | .append => match c.args.toList, c.argTypes.toList with
        | [x, y], [t, u] => match elemOfSlice P t, srcOf P u with
          | some e, some sl => match P.info? e, zeroL P e with
            | some i, some z => bif sl && (Nat.beq z.length i.size && (Nat.ble i.bytes 1000000 && Nat.ble 1 i.size)) then apS m R ni e i.size (evS n f x) (evS n f y) K else False
            | _, _ => False
          | _, _ => False
        | _, _ => False
      | _ => False
    | _ => False
  | _ => False
def isEf (o : Oper) : Bool := match o.op with
  | .store _ _ _ => true
  | .call c => match c.callee with
    | .value _ => true
    | .builtin b => match b with
      | .append => true
      | _ => false
    | _ => false
  | _ => false
end
section
variable {P : Program} {k n : Nat} {t : Fm Value k} {f : Frm} {m : Mem} {X Z : Nat → Prop} {s0 s : St} {R : Nat} {o : Oper} {call : CallT}
variable {ni : Nat}
theorem flS_ok {v : SV} (h : flS v = true) : flat1 (den v) = true := by cases v <;> first | rfl | (cases h; done) | exact h
theorem okL_ok : ∀ {l : List SV}, okL l = true → (dens l).all flat1 = true
  | [], _ => rfl
  | x :: l, h => by
    have h : (flS x && okL l) = true := h
    obtain ⟨h1, h2⟩ := and_true h
    show (flat1 (den x) && (dens l).all flat1) = true
    rw [flS_ok h1, okL_ok h2]; rfl
theorem stS_ok (hm : MemOK X Z s0 R s m) {z : Nat} {a v : SV} {K : Mem → Prop} (h : stS m z a v K) :
    ∃ b o, den a = ptr b o ∧ Nat.beq (vcells (den v)).length z = true ∧ isCh (den v) = false ∧ ∀ (Kr : St → Bool) (r : Bool), (∀ m' s', MemOK X Z s0 R s' m' → K m' → Kr s' = r) → stN s b o (vcells (den v)) Kr = r := by
  unfold stS at h
  cases a <;> (try exact h.elim)
  rename_i i b o
  simp only at h
  cases hi : getM m i with
  | none => rw [hi] at h; exact h.elim
  | some en =>
    rw [hi] at h
    cases en <;> (try exact h.elim)
    rename_i b' u l
    obtain ⟨rfl, h⟩ := h
    cases hc : (Nat.beq (vcS v).length z && (sgO v && okL (vcS v))) with
    | false => rw [hc] at h; exact h.elim
    | true =>
      rw [hc] at h
      simp only [cond_true] at h
      obtain ⟨h1, h2⟩ := and_true hc
      obtain ⟨h2, h3⟩ := and_true h2
      obtain ⟨hv1, hv2⟩ := vcS_ok h2
      obtain ⟨h4, h5⟩ := putS_inv h
      rw [setK_eq] at h5
      refine ⟨b, o, rfl, by rw [hv1, dens_length]; exact h1, hv2, fun Kr r hK => ?_⟩
      have hO := hm.get hi
      refine hO.1.stN (by rw [hv1, dens_length, dens_length]; exact h4) (by rw [hv1]; exact okL_ok h3) (fun s' hnx hfl _ hat hO' => ?_) rfl
      refine hK _ s' (hm.set hi (e' := .own b u (l.take o ++ vcS v ++ l.drop (o + (vcS v).length))) ⟨by rw [hnx]; exact Nat.le_refl _, fun c _ hx => hat c fun e => hx e, hfl⟩ hnx ⟨?_, hO.2⟩ (fun c hc => hc) fun c hc => hc) h5
      rw [hv1, dens_length] at hO'
      rw [dens_append, dens_append, dens_take, dens_drop]
      exact hO'
theorem srcS_ok (hm : MemOK X Z s0 R s m) {y : SV} {sz : Nat} {K : Nat → List SV → Prop} (h : srcS m y sz K) : ∃ b o p c l, den y = slc b o p c ∧ AtN s b o (dens l) ∧ l.length = Nat.mul p sz ∧ K p l := by
  unfold srcS at h
  cases y <;> (try exact h.elim)
  rename_i i b o p c
  simp only at h
  cases hi : getM m i with
  | none => rw [hi] at h; exact h.elim
  | some en =>
    rw [hi] at h
    cases en <;> (try exact h.elim)
    rename_i b' u l
    obtain ⟨rfl, h⟩ := h
    obtain ⟨h1, h⟩ := dropS_inv h
    obtain ⟨h2, h⟩ := takeS_inv h
    rw [List.length_drop] at h2
    refine ⟨b, o, p, c, _, rfl, ?_, by rw [List.length_take, List.length_drop]; omega, h⟩
    have h3 := (own_at hm hi).sub (o := o) (n := Nat.mul p sz) (by rw [dens_length]; omega)
    rw [dens_take, dens_drop]
    simpa using h3
theorem grow_ok {p q sz : Nat} {g : Nat → List SV} {l : List SV} (hg : ∀ j, j < p → (g j).length = sz) (hl : l.length = q * sz) : (∀ j, j < p + q → (grow p sz g l j).length = sz) ∧ slL (grow p sz g l) (p + q) = slL g p ++ dens l := by
  have hlt : ∀ j, j < p → grow p sz g l j = g j := fun j hj => by unfold grow; rw [blt_of hj]; rfl
  have hge : ∀ j, grow p sz g l (p + j) = (l.drop (j * sz)).take sz := fun j => by
    unfold grow
    have : Nat.blt (p + j) p = false := by
      cases h : Nat.blt (p + j) p with
      | false => rfl
      | true => have := blt_true h; omega
    rw [this]
    show (l.drop (Nat.mul (p + j - p) sz)).take sz = _
    rw [Nat.add_sub_cancel_left]; rfl
  have hlen : ∀ j, j < q → ((l.drop (j * sz)).take sz).length = sz := fun j hj => by
    rw [List.length_take, List.length_drop, hl]
    have : (j + 1) * sz ≤ q * sz := Nat.mul_le_mul_right _ (by omega)
    rw [Nat.succ_mul] at this
    omega
  refine ⟨fun j hj => ?_, ?_⟩
  · by_cases h : j < p
    · rw [hlt j h]; exact hg j h
    · have := hlen (j - p) (by omega)
      rw [← hge, Nat.add_sub_cancel' (by omega)] at this
      exact this
  · have key : ∀ q', q' ≤ q → slL (grow p sz g l) (p + q') = slL g p ++ dens (l.take (q' * sz)) := by
      intro q'
      induction q' with
      | zero => intro _; rw [Nat.add_zero, Nat.zero_mul, List.take_zero]; show _ = slL g p ++ []; rw [List.append_nil]; exact slL_congr fun j hj => hlt j hj
      | succ q' ih =>
        intro hq
        rw [← Nat.add_assoc, slL, ih (by omega), hge, List.append_assoc, ← dens_append, Nat.succ_mul, List.take_add]
    have := key q (Nat.le_refl _)
    rw [this, ← hl, List.take_length]
theorem sl_form {e sz : Nat} {v : Value} {L : List Value} (h : SlV e sz s v L) (hsz : 1 ≤ sz) {p : Nat} (hp : L.length = p * sz) : ∃ a, v = .slice a p p := by
  rcases h with ⟨rfl, rfl⟩ | ⟨b, n', rfl, hO, hL⟩
  · have hp : p * sz = 0 := hp.symm
    rcases Nat.mul_eq_zero.1 hp with h | h
    · subst h; exact ⟨none, rfl⟩
    · omega
  · rw [hL] at hp
    have := Nat.eq_of_mul_eq_mul_right (by omega) hp
    subst this
    exact ⟨_, rfl⟩
theorem apS_ok (hm : MemOK X Z s0 R s m) {e sz : Nat} (hsz : 1 ≤ sz) {x y : SV} {K : SV → Mem → Nat → Nat → Prop} (h : apS m R ni e sz x y K) :
    isJ x = false ∧ isJ y = false ∧ ∀ (Kr : KV) (r : Bool), (∀ w m' R' ni' s', MemOK X Z s0 R' s' m' → K w m' R' ni' → Kr (den w) s' = r) → source s sz (den y) (fun p l => appS e sz (den x) p l s Kr) = r := by
  unfold apS at h
  cases R with
  | zero => exact h.elim
  | succ R =>
    simp only at h
    have h' := srcS_ok hm h
    clear h
    obtain ⟨b, o, p, c, l, hy, hA, hl, h⟩ := h'
    cases hc : (okL l && (Nat.ble 1 p && !Nat.beq e ro)) with
    | false => rw [hc] at h; exact h.elim
    | true =>
      rw [hc] at h
      simp only [cond_true] at h
      obtain ⟨h1, h2⟩ := and_true hc
      obtain ⟨h2, h3⟩ := and_true h2
      have hjy : isJ y = false := by cases y <;> first | rfl | cases hy
      have hlt : s.nx < 262144 := by have := hm.nx; omega
      have hsrc : ∀ (F : Nat → List Value → Bool), source s sz (den y) F = F p (dens l) := fun F => by
        rw [hy]
        show ldN s b o (Nat.mul p sz) (F p) = _
        rw [hA.ldN rfl (by rw [dens_length, hl])]
      have main : ∀ {v : Value} {L : List Value} {pp : Nat} {gg : Nat → List SV}, SlV e sz s v L → L = slL gg pp → (∀ j, j < pp → (gg j).length = sz) → Nat.add (Nat.mul pp sz) l.length ≤ 32768 → ∀ (Kr : KV) (r : Bool),
          (∀ a s', s'.nx = s.nx + 1 → Fr (slB v) s s' → EntOK X Z s0 s' (.gr a (pp + p) e sz (grow pp sz gg l)) → (∀ b, slB (.slice a (pp + p) (pp + p)) b → b = s.nx) → Kr (.slice a (pp + p) (pp + p)) s' = r) → appS e sz v p (dens l) s Kr = r := by
        intro v L pp gg hS hL hgg hle Kr r hK
        have hLl : L.length = pp * sz := by rw [hL, slL_length hgg]
        obtain ⟨g1, g2⟩ := grow_ok (q := p) (l := l) hgg hl
        refine hS.app (by rw [dens_length, hl]; rfl) (ble_true h2) hsz (okL_ok h1) (by rw [dens_length, hLl]; exact hle) hlt hm.fls (not_t h3) fun v' s' hnx hfr hS' hb => ?_
        have hS2 : SlV e sz s' v' (slL (grow pp sz gg l) (pp + p)) := by rw [g2, ← hL]; exact hS'
        obtain ⟨a, rfl⟩ := sl_form hS2 hsz (slL_length g1)
        exact hK a s' hnx hfr ⟨g1, hS2, fun b hb' => .inl (by rw [hb b hb']; exact hm.fr.1)⟩ hb
      cases x <;> (try exact h.elim)
      · rename_i i a pp cc
        simp only at h
        cases hi : getM m i with
        | none => rw [hi] at h; exact h.elim
        | some en =>
          rw [hi] at h
          cases en <;> (try exact h.elim)
          rename_i a' pp' e' sz' g
          obtain ⟨rfl, rfl, rfl, rfl, rfl, h⟩ := h
          obtain ⟨h4, h⟩ := ltS_inv h
          rw [remK_eq] at h
          have he := hm.get hi
          refine ⟨rfl, hjy, fun Kr r hK => ?_⟩
          rw [hsrc]
          refine main (v := .slice a pp pp) he.2.1 rfl he.1 (by omega) Kr r fun a2 s' hnx hfr hE hb => ?_
          refine hK _ _ _ _ s' (MemOK.cons (hm.rem (R' := R) hi hfr (by rw [hnx]; have := hm.nx; omega)) hE fun x hx => apE_new (hm.ent x (remM_sub x hx)) (fun _ h => h) fun b hb' => by rw [hb b hb']; exact Nat.le_refl _) (h a2)
      · rename_i v
        cases v <;> (try exact h.elim)
        rename_i a q cc
        cases a <;> (try exact h.elim)
        simp only at h
        cases hq : (Nat.beq q 0 && Nat.beq cc 0 && Nat.ble l.length 32768) with
        | false => rw [hq] at h; exact h.elim
        | true =>
          rw [hq] at h
          simp only [cond_true] at h
          obtain ⟨hq, hll⟩ := and_true hq
          obtain ⟨hq, hcc⟩ := and_true hq
          have hq := beq_true hq
          have hcc := beq_true hcc
          subst hq hcc
          refine ⟨rfl, hjy, fun Kr r hK => ?_⟩
          rw [hsrc]
          refine main (v := .slice none 0 0) (L := []) (pp := 0) (gg := fun _ => []) (.inl ⟨rfl, rfl⟩) rfl (fun j hj => absurd hj (Nat.not_lt_zero _)) (by show 0 * sz + l.length ≤ _; rw [Nat.zero_mul, Nat.zero_add]; exact ble_true hll) Kr r fun a s' hnx hfr hE hb => ?_
          have h0 : (0 : Nat) + p = p := Nat.zero_add p
          rw [h0] at hE hb ⊢
          refine hK _ _ _ _ s' (MemOK.cons (hm.step (R' := R) hfr (fun b hb => hb.elim) (fun x hx b hb hb' => hb') (fun x hx b hb hb' => hb') (by rw [hnx]; have := hm.nx; omega)) hE fun x hx => apE_new (hm.ent x hx) (fun _ h => h) fun b hb' => by rw [hb b hb']; exact Nat.le_refl _) (h a)
end
end Go.Ab
