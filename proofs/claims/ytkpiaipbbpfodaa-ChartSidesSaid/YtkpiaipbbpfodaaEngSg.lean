/- Runs over open values: code, functions, calls, loops. -/
import Derived.Test.YtkpiaipbbpfodaaEngSf
namespace Go.Ab
open Go.RowKit
/-- memory that says no more than another one -/
def WkM (m' m : Mem) : Prop := ∀ X Z s0 R s, MemOK X Z s0 R s m' → MemOK X Z s0 R s m
theorem WkM.refl (m : Mem) : WkM m m := fun _ _ _ _ _ h => h
theorem WkM.trans {m1 m2 m3 : Mem} (h : WkM m1 m2) (k : WkM m2 m3) : WkM m1 m3 := fun X Z s0 R s h' => k X Z s0 R s (h X Z s0 R s h')
theorem WkM.drop {x : Nat × Ent} {l m : Mem} (h : WkM l m) : WkM (x :: l) m := fun X Z s0 R s hm => h X Z s0 R s ⟨hm.fr, hm.nx, hm.fl, fun y hy => hm.ent y (by simp [hy]), (List.pairwise_cons.1 hm.dis).2⟩
theorem apE.symm {x y : Ent} (h : apE x y) : apE y x := ⟨fun b hb hb' => h.1 b hb' hb, fun b hb hb' => h.2.2 b hb' hb, fun b hb hb' => h.2.1 b hb' hb⟩
/-- an entry for another one -/
def wkE : Ent → Ent → Prop
  | .own b t l, .own b' t' l' => b = b' ∧ t = t' ∧ dens l = dens l'
  | .gr a n t sz g, .gr a' n' t' sz' g' => a = a' ∧ n = n' ∧ t = t' ∧ sz = sz' ∧ ∀ j, j < n → g j = g' j
  | .ro a n _ sz g, .ro a' n' _ sz' g' => a = a' ∧ n = n' ∧ sz = sz' ∧ ∀ j, j < n → g j = g' j
  | .gr a n _ sz g, .ro a' n' _ sz' g' => a = a' ∧ n = n' ∧ sz = sz' ∧ ∀ j, j < n → g j = g' j
  | _, _ => False
theorem wkE_ok {e e' : Ent} (h : wkE e e') {X Z : Nat → Prop} {s0 s : St} (he : EntOK X Z s0 s e) : EntOK X Z s0 s e' ∧ (∀ b, fpE e' b → fpE e b) ∧ ∀ b, rdE e' b → fpE e b ∨ rdE e b := by
  cases e <;> cases e' <;> (try exact h.elim)
  · obtain ⟨rfl, rfl, h⟩ := h
    refine ⟨⟨?_, he.2⟩, fun b hb => hb, fun b hb => hb.elim⟩
    have := he.1; rw [h] at this; exact this
  · obtain ⟨rfl, rfl, rfl, h⟩ := h
    refine ⟨⟨fun j hj => by rw [← h j hj]; exact he.1 j hj, ?_⟩, fun b hb => hb.elim, fun b hb => .inr hb⟩
    rw [← slL_congr h]; exact he.2
  · rename_i a n t sz g a' n' c' sz' g'
    obtain ⟨rfl, rfl, rfl, h⟩ := h
    refine ⟨⟨fun j hj => by rw [← h j hj]; exact he.1 j hj, ?_⟩, fun b hb => hb.elim, fun b hb => .inl ?_⟩
    · by_cases hn : n = 0
      · exact .inl hn
      · right
        rcases he.2.1 with ⟨h1, h2⟩ | ⟨b, q, h1, h2, h3⟩
        · cases h1; exact absurd rfl hn
        · cases h1
          refine ⟨b, 0, rfl, by rw [← slL_congr h]; exact h2.own.at, ?_⟩
          rcases he.2.2 b rfl with h | h
          · exact .inl h
          · exact .inr (.inl h)
    · obtain ⟨hn, p, rfl⟩ := hb
      rcases he.2.1 with ⟨h1, h2⟩ | ⟨b', q, h1, h2, h3⟩
      · cases h1
      · cases h1; exact rfl
  · obtain ⟨rfl, rfl, rfl, rfl, h⟩ := h
    refine ⟨⟨fun j hj => by rw [← h j hj]; exact he.1 j hj, by rw [← slL_congr h]; exact he.2.1, he.2.2⟩, fun b hb => hb, fun b hb => hb.elim⟩
theorem WkM.keep {i j : Nat} {e e' : Ent} {l m : Mem} (he : wkE e e') (h : ∀ X Z s0 R s, MemOK X Z s0 R s l → MemOK X Z s0 R s m ∧ ∀ y ∈ m, ∃ x ∈ l, (∀ b, fpE y.2 b → fpE x.2 b) ∧ ∀ b, rdE y.2 b → fpE x.2 b ∨ rdE x.2 b) :
    ∀ X Z s0 R s, MemOK X Z s0 R s ((i, e) :: l) → MemOK X Z s0 R s ((j, e') :: m) ∧ ∀ y ∈ (j, e') :: m, ∃ x ∈ (i, e) :: l, (∀ b, fpE y.2 b → fpE x.2 b) ∧ ∀ b, rdE y.2 b → fpE x.2 b ∨ rdE x.2 b := by
  intro X Z s0 R s hm
  have hp := List.pairwise_cons.1 hm.dis
  obtain ⟨h1, h2⟩ := h X Z s0 R s ⟨hm.fr, hm.nx, hm.fl, fun y hy => hm.ent y (by simp [hy]), hp.2⟩
  obtain ⟨g1, g2, g3⟩ := wkE_ok he (hm.ent (i, e) (by simp))
  refine ⟨h1.cons g1 fun y hy => ?_, fun y hy => ?_⟩
  · obtain ⟨x, hx, q1, q2⟩ := h2 y hy
    have ha := hp.1 x hx
    refine ⟨fun b hb hb' => ha.1 b (g2 b hb) (q1 b hb'), fun b hb hb' => ?_, fun b hb hb' => ?_⟩
    · rcases q2 b hb' with h | h
      · exact ha.1 b (g2 b hb) h
      · exact ha.2.1 b (g2 b hb) h
    · rcases g3 b hb with h | h
      · exact ha.1 b h (q1 b hb')
      · exact ha.2.2 b h (q1 b hb')
  · rcases List.mem_cons.1 hy with rfl | hy
    · exact ⟨(i, e), by simp, g2, g3⟩
    · obtain ⟨x, hx, q⟩ := h2 y hy
      exact ⟨x, by simp [hx], q⟩
/-- memory weakened entry by entry, in the same order -/
def WkL (l m : Mem) : Prop := ∀ X Z s0 R s, MemOK X Z s0 R s l → MemOK X Z s0 R s m ∧ ∀ y ∈ m, ∃ x ∈ l, (∀ b, fpE y.2 b → fpE x.2 b) ∧ ∀ b, rdE y.2 b → fpE x.2 b ∨ rdE x.2 b
theorem WkL.refl (m : Mem) : WkL m m := fun _ _ _ _ _ h => ⟨h, fun y hy => ⟨y, hy, fun _ h => h, fun _ h => .inr h⟩⟩
theorem WkL.nil (l : Mem) : WkL l [] := fun _ _ _ _ _ h => ⟨⟨h.fr, h.nx, h.fl, (fun x hx => by cases hx), List.Pairwise.nil⟩, fun y hy => by cases hy⟩
theorem WkL.drop {x : Nat × Ent} {l m : Mem} (h : WkL l m) : WkL (x :: l) m := fun X Z s0 R s hm => by
  obtain ⟨h1, h2⟩ := h X Z s0 R s ⟨hm.fr, hm.nx, hm.fl, fun y hy => hm.ent y (by simp [hy]), (List.pairwise_cons.1 hm.dis).2⟩
  refine ⟨h1, fun y hy => ?_⟩
  obtain ⟨x, hx, q⟩ := h2 y hy
  exact ⟨x, by simp [hx], q⟩
theorem WkL.wk {l m : Mem} (h : WkL l m) : WkM l m := fun X Z s0 R s hm => (h X Z s0 R s hm).1
/-- a frame that says no more than another one -/
def wkF (f' : Frm) : Frm → Prop
  | [] => True
  | x :: r => getF f' x.1 = x.2 ∧ wkF f' r
theorem wkF_ok {k n : Nat} {t : Fm Value k} {f' : Frm} (h : FrameOK k n t f') : ∀ {f : Frm}, wkF f' f → FrameOK k n t f
  | [], _ => fun i _ hj => by cases hj
  | (j, v) :: r, hw => fun i hi hj => by
    have e : getF ((j, v) :: r) i = bif Nat.beq j i then v else getF r i := rfl
    rw [e] at hj ⊢
    cases hb : Nat.beq j i with
    | true =>
      rw [hb] at hj
      have := beq_true hb
      subst this
      have h1 : getF f' j = v := hw.1
      rw [← h1]
      simp only [cond_true] at hj ⊢
      exact h j hi (by rw [h1]; exact hj)
    | false => rw [hb] at hj; exact wkF_ok h hw.2 i hi hj
structure WK where
  n : Frm → Mem → Nat → Nat → Prop
  x : AExit → Frm → Mem → Nat → Nat → Prop
section
variable (P : Program) (call : CallT) (F : Nat)
/-- a loop, round by round -/
def loU (body : Frm → Mem → Nat → Nat → WK → Prop) (u : Nat) : Frm → Mem → Nat → Nat → WK → Prop :=
  Nat.rec (motive := fun _ => Frm → Mem → Nat → Nat → WK → Prop) (fun _ _ _ _ _ => False) (fun _ ih f m R ni K => body f m R ni ⟨fun f m R ni => ih f m R ni K, K.x⟩) u
/-- a loop: by what holds before each round, or round by round -/
structure loS (body : Frm → Mem → Nat → Nat → WK → Prop) (f : Frm) (m : Mem) (R ni : Nat) (K : WK) : Prop where
  ex : (∃ u, u ≤ F ∧ loU body u f m R ni K) ∨ ∃ (I : Nat → Frm → Mem → Nat → Nat → Prop) (j0 : Nat), j0 < F ∧ (∃ f0 m0 R0 ni0, wkF f f0 ∧ WkM m m0 ∧ R0 ≤ R ∧ I j0 f0 m0 R0 ni0) ∧
    ∀ j f m R ni, I j f m R ni → body f m R ni ⟨fun f m R _ => ∃ j' f0 m0 R0 ni0, j' < j ∧ wkF f f0 ∧ WkM m m0 ∧ R0 ≤ R ∧ I j' f0 m0 R0 ni0, K.x⟩
def wpC (n d : Nat) : Code → Frm → Mem → Nat → Nat → WK → Prop :=
  Nat.rec (motive := fun _ => Code → Frm → Mem → Nat → Nat → WK → Prop) (fun _ _ _ _ _ _ => False)
    (fun _ ih c f m R ni K => match c with
      | .skip => K.n f m R ni
      | .label _ => K.n f m R ni
      | .seq x y => ih x f m R ni ⟨fun f m R ni => ih y f m R ni K, K.x⟩
      | .cond x p q => match evS n f x with
        | .bool b => brS b (ih p f m R ni K) (ih q f m R ni K)
        | _ => False
      | .block id x => ih x f m R ni ⟨K.n, fun e f m R ni => match e with
        | .exit id' => bif Nat.beq id' id then K.n f m R ni else K.x (.exit id') f m R ni
        | e => K.x e f m R ni⟩
      | .loop x => loS F (ih x) f m R ni K
      | .exit id => K.x (.exit id) f m R ni
      | .goto l => K.x (.goto l) f m R ni
      | .ret => K.x .ret f m R ni
      | .region _ ops draw => bif draw then wpDraw P call n ops f m R ni K.n else wpOps P call n ops.toList ops.toList f m R ni K.n
      | _ => False) d
def argF : Nat → List SV → Frm
  | _, [] => []
  | i, v :: l => (i, v) :: argF (i + 1) l
def rslS (n : Nat) (f : Frm) (m : Mem) (rs : List ResultVar) : (List SV → Prop) → Prop :=
  List.rec (motive := fun _ => (List SV → Prop) → Prop) (fun K => K [])
    (fun x _ ih K => match x with
      | .tmp d => bif Nat.blt d n then njS (getF f d) fun v => ih fun l => K (v :: l) else False
      | .cell d ty => bif Nat.blt d n then (match P.underlying ty, sizeT P ty with
        | some de, some z => ldS m (getF f d) z (isAggD de) fun v => ih fun l => K (v :: l)
        | _, _ => False) else False) rs
def rtnS (n : Nat) (rs : List ResultVar) (K : SV → Mem → Nat → Nat → Prop) (f : Frm) (m : Mem) (R ni : Nat) : Prop :=
  rslS P n f m rs fun l => match l with
    | [v] => K v m R ni
    | l => K (.tup l) m R ni
def wpFn (n : Nat) (rs : List ResultVar) (c : Code) (args : List SV) (m : Mem) (R ni : Nat) (K : SV → Mem → Nat → Nat → Prop) : Prop :=
  wpC P call F n 10000 c (argF 0 args) m R ni ⟨rtnS P n rs K, fun e => match e with
    | .ret => rtnS P n rs K
    | _ => fun _ _ _ _ => False⟩
end
section
variable {P : Program} {n : Nat} {X Z : Nat → Prop} {s0 : St} {call : CallT} {r : Bool} {F : Nat}
theorem loS_ok {k : Nat} {body : Frm → Mem → Nat → Nat → WK → Prop} {cc : Clo k} {rd : Option Nat} {mk : List Nat}
    (hb : ∀ {f : Frm} {t : Fm Value k} {m : Mem} {R ni : Nat} {s : St} {K : WK} {Kr : KC k}, FrameOK k n t f → MemOK X Z s0 R s m → (∀ f' t' m' R' ni' s', FrameOK k n t' f' → MemOK X Z s0 R' s' m' → K.n f' m' R' ni' → Kr.n mk t' s' = r) →
      (∀ e f' t' m' R' ni' s', FrameOK k n t' f' → MemOK X Z s0 R' s' m' → K.x e f' m' R' ni' → Kr.x e mk t' s' = r) → body f m R ni K → cc.run call rd Kr mk t s = r)
    {f : Frm} {t : Fm Value k} {m : Mem} {R ni : Nat} {s : St} {K : WK} {Kr : KC k} (hf : FrameOK k n t f) (hm : MemOK X Z s0 R s m)
    (hx : ∀ e f' t' m' R' ni' s', FrameOK k n t' f' → MemOK X Z s0 R' s' m' → K.x e f' m' R' ni' → Kr.x e mk t' s' = r) (h : loS F body f m R ni K) : runLoop cc call rd Kr F mk t s = r := by
  rcases h.ex with ⟨u, hu, h⟩ | ⟨I, j0, hj, ⟨f0, m0, R0, ni0, w1, w2, w3, hI⟩, hstep⟩
  · have key : ∀ (u : Nat) (fuel : Nat) (f : Frm) (t : Fm Value k) (m : Mem) (R ni : Nat) (s : St), u ≤ fuel → FrameOK k n t f → MemOK X Z s0 R s m → loU body u f m R ni K → runLoop cc call rd Kr fuel mk t s = r := by
      intro u
      induction u with
      | zero => intro fuel f t m R ni s _ _ _ h; exact h.elim
      | succ u ih =>
        intro fuel f t m R ni s hu hf hm h
        cases fuel with
        | zero => omega
        | succ fuel =>
          show cc.run call rd ⟨runLoop cc call rd Kr fuel, Kr.x⟩ mk t s = r
          exact hb (K := ⟨fun f m R ni => loU body u f m R ni K, K.x⟩) (Kr := ⟨runLoop cc call rd Kr fuel, Kr.x⟩) hf hm (fun f' t' m' R' ni' s' hf' hm' hk => ih fuel f' t' m' R' ni' s' (by omega) hf' hm' hk) hx h
    exact key u F f t m R ni s hu hf hm h
  refine runLoop_rule (fun j m' t s => m' = mk ∧ ∃ f m R ni, FrameOK k n t f ∧ MemOK X Z s0 R s m ∧ I j f m R ni) ?_ F j0 mk t s hj ⟨rfl, f0, m0, R0, ni0, wkF_ok hf w1, (w2 _ _ _ _ _ hm).more w3, hI⟩
  rintro j _ t s ih ⟨rfl, f, m, R, ni, hf, hm, hI⟩ hih
  refine hb (K := ⟨fun f m R _ => ∃ j' f0 m0 R0 ni0, j' < j ∧ wkF f f0 ∧ WkM m m0 ∧ R0 ≤ R ∧ I j' f0 m0 R0 ni0, K.x⟩) hf hm (fun f' t' m' R' ni' s' hf' hm' hk => ?_) hx (hstep j f m R ni hI)
  obtain ⟨j', f0, m0, R0, ni0, hlt, w1, w2, w3, hI'⟩ := hk
  exact hih j' _ t' s' hlt ⟨rfl, f0, m0, R0, ni0, wkF_ok hf' w1, (w2 _ _ _ _ _ hm').more w3, hI'⟩
theorem wpC_ok (hn : n ≤ pow8 (lvl n)) {rd : Option Nat} {mk : List Nat} : ∀ (d : Nat) (c : Code) {f : Frm} {t : Fm Value (lvl n)} {m : Mem} {R ni : Nat} {s : St} {K : WK} {Kr : KC (lvl n)}, FrameOK (lvl n) n t f → MemOK X Z s0 R s m →
    (∀ f' t' m' R' ni' s', FrameOK (lvl n) n t' f' → MemOK X Z s0 R' s' m' → K.n f' m' R' ni' → Kr.n mk t' s' = r) → (∀ e f' t' m' R' ni' s', FrameOK (lvl n) n t' f' → MemOK X Z s0 R' s' m' → K.x e f' m' R' ni' → Kr.x e mk t' s' = r) →
    wpC P call F n d c f m R ni K → (cCode P F (lvl n) n d c).run call rd Kr mk t s = r
  | 0, _, _, _, _, _, _, _, _, _, _, _, _, _, h => h.elim
  | d + 1, c, f, t, m, R, ni, s, K, Kr, hf, hm, hn1, hx1, h => by
    cases c with
    | skip => exact hn1 f t m R ni s hf hm h
    | label l => exact hn1 f t m R ni s hf hm h
    | seq x y =>
      refine run_seq.trans (wpC_ok hn d x (K := ⟨fun f m R ni => wpC P call F n d y f m R ni K, K.x⟩) hf hm (fun f' t' m' R' ni' s' hf' hm' hk => ?_) hx1 h)
      exact wpC_ok hn d y hf' hm' hn1 hx1 hk
    | cond x p q =>
      have h : (match evS n f x with | .bool b => brS b (wpC P call F n d p f m R ni K) (wpC P call F n d q f m R ni K) | _ => False) := h
      cases hx : evS n f x <;> rw [hx] at h <;> (try exact h.elim)
      rename_i b
      obtain ⟨g, hg, hgt⟩ := evS_eq (k := lvl n) hf hx rfl
      refine (run_cond hg hgt).trans ?_
      have h' := brS_inv h
      clear h
      rcases h' with ⟨rfl, h⟩ | ⟨rfl, h⟩
      · exact wpC_ok hn d p hf hm hn1 hx1 h
      · exact wpC_ok hn d q hf hm hn1 hx1 h
    | block id x =>
      refine run_block.trans (wpC_ok hn d x (K := ⟨K.n, fun e f m R ni => match e with
        | .exit id' => bif Nat.beq id' id then K.n f m R ni else K.x (.exit id') f m R ni
        | e => K.x e f m R ni⟩) hf hm hn1 (fun e f' t' m' R' ni' s' hf' hm' hk => ?_) h)
      cases e with
      | exit id' =>
        simp only at hk ⊢
        cases hb : Nat.beq id' id with
        | true => rw [hb] at hk; exact hn1 f' t' m' R' ni' s' hf' hm' hk
        | false => rw [hb] at hk; exact hx1 _ f' t' m' R' ni' s' hf' hm' hk
      | goto l => exact hx1 _ f' t' m' R' ni' s' hf' hm' hk
      | ret => exact hx1 _ f' t' m' R' ni' s' hf' hm' hk
    | loop x => exact run_loop.trans (loS_ok (fun hf hm h1 h2 h => wpC_ok hn d x hf hm h1 h2 h) (ni := ni) hf hm hx1 h)
    | exit id => exact hx1 _ f t m R ni s hf hm h
    | goto l => exact hx1 _ f t m R ni s hf hm h
    | ret => exact hx1 _ f t m R ni s hf hm h
    | region id ops draw =>
      cases draw with
      | true => exact run_region.trans (wpDraw_ok hn (fun f' t' m' R' ni' s' hf' hm' hk => hn1 f' t' m' R' ni' s' hf' hm' hk) hf hm h)
      | false => exact run_region0.trans (wpOps_ok hn (fun f' t' m' R' ni' s' hf' hm' hk => hn1 f' t' m' R' ni' s' hf' hm' hk) hf hm h)
    | scope _ => exact h.elim
    | rangeFunc _ _ _ _ => exact h.elim
    | refuse _ => exact h.elim
theorem argF_get : ∀ (l : List SV) (o i : Nat), getF (argF o l) i = if o ≤ i ∧ i < o + l.length then (l[i - o]?).getD .junk else .junk
  | [], o, i => by rw [if_neg (by simp only [List.length_nil]; omega)]; rfl
  | v :: l, o, i => by
    show (bif Nat.beq o i then v else getF (argF (o + 1) l) i) = _
    cases hb : Nat.beq o i with
    | true =>
      have := beq_true hb
      subst this
      rw [if_pos (by simp)]; simp
    | false =>
      have hne : o ≠ i := fun e => by subst e; rw [Nat.beq_refl] at hb; cases hb
      simp only [cond_false]
      rw [argF_get l (o + 1) i]
      by_cases h : o + 1 ≤ i ∧ i < o + 1 + l.length
      · rw [if_pos h, if_pos (by simp only [List.length_cons]; omega), show i - o = (i - (o + 1)) + 1 by omega, List.getElem?_cons_succ]
      · rw [if_neg h, if_neg (by simp only [List.length_cons]; omega)]
theorem arg_frame {k : Nat} (hn : n ≤ pow8 k) {args : List SV} (hl : args.length ≤ n) : FrameOK k n (puts k 0 (dens args) (ini undef k)) (argF 0 args) := by
  intro i hi hj
  rw [argF_get] at hj ⊢
  by_cases h : 0 ≤ i ∧ i < 0 + args.length
  · rw [if_pos h] at hj ⊢
    have hd := dens_length args
    rw [puts_get _ _ 0 i _ (by omega) (by omega), if_pos (by omega), List.getD_eq_getElem?_getD, dens_get, Nat.sub_zero, List.getElem?_eq_getElem (by omega)]
    rfl
  · rw [if_neg h] at hj; cases hj
theorem rslS_ok {k : Nat} {t : Fm Value k} {f : Frm} {m : Mem} {R : Nat} {s : St} (hf : FrameOK k n t f) (hm : MemOK X Z s0 R s m) : ∀ {rs : List ResultVar} {K : List SV → Prop}, rslS P n f m rs K → ∃ l, K l ∧ ∀ Kr, (cRes P k n rs).r t s Kr = Kr (dens l)
  | [], K, h => ⟨[], h, fun Kr => rfl⟩
  | .tmp d :: rs, K, h => by
    have h : (bif Nat.blt d n then njS (getF f d) fun v => rslS P n f m rs fun l => K (v :: l) else False) := h
    cases hb : Nat.blt d n with
    | false => rw [hb] at h; exact h.elim
    | true =>
      rw [hb] at h
      simp only [cond_true] at h
      obtain ⟨hj, h⟩ := njS_inv h
      obtain ⟨l, hl, hr⟩ := rslS_ok hf hm h
      refine ⟨_, hl, fun Kr => ?_⟩
      show (bif Nat.blt d n then (⟨fun t s K => (cRes P k n rs).r t s fun l => K ((getW k d).g t :: l)⟩ : ResC k) else ⟨fun _ _ _ => false⟩).r t s Kr = _
      rw [hb]
      show (cRes P k n rs).r t s (fun l => Kr ((getW k d).g t :: l)) = _
      rw [hr, hf d (blt_true hb) hj]
      rfl
  | .cell d ty :: rs, K, h => by
    have h : (bif Nat.blt d n then (match P.underlying ty, sizeT P ty with
      | some de, some z => ldS m (getF f d) z (isAggD de) fun v => rslS P n f m rs fun l => K (v :: l)
      | _, _ => False) else False) := h
    cases hb : Nat.blt d n with
    | false => rw [hb] at h; exact h.elim
    | true =>
      rw [hb] at h
      simp only [cond_true] at h
      split at h <;> (try exact h.elim)
      rename_i de z hu hz
      obtain ⟨b, a, v, hd, hK, hv⟩ := ldS_ok hm h
      obtain ⟨l, hl, hr⟩ := rslS_ok hf hm hK
      refine ⟨_, hl, fun Kr => ?_⟩
      have hj : isJ (getF f d) = false := by cases hx : getF f d <;> first | rfl | (rw [hx] at hd; cases hd)
      have hft := hf d (blt_true hb) hj
      have e : (cRes P k n (.cell d ty :: rs)) = bif Nat.blt d n then (match oLoad P ty (getW k d) with
        | .rd o => ⟨fun t s K => o.m t s fun v => (cRes P k n rs).r t s fun l => K (v :: l)⟩
        | _ => ⟨fun _ _ _ => false⟩) else ⟨fun _ _ _ => false⟩ := rfl
      rw [e, hb]
      simp only [cond_true]
      unfold oLoad
      simp only [hu, hz]
      rcases hv with ⟨ha, hv⟩ | ⟨ha, hv⟩
      · rw [ha]
        show (asPtr ((getW k d).g t) fun b o => ldN s b o z fun l => (cRes P k n rs).r t s fun l' => Kr (.agg ⟨l⟩ :: l')) = _
        rw [hft, hd]
        refine (hv fun w => (cRes P k n rs).r t s fun l' => Kr (w :: l')).trans ?_
        rw [hr]; rfl
      · rw [ha]
        show (asPtr ((getW k d).g t) fun b o => ld1 s b o fun w => (cRes P k n rs).r t s fun l' => Kr (w :: l')) = _
        rw [hft, hd]
        refine (hv fun w => (cRes P k n rs).r t s fun l' => Kr (w :: l')).trans ?_
        rw [hr]; rfl
/-- A FUNCTION's run -/
theorem wpFn_ok {g : FuncId} {fn : Func} {c : Code} {rs : List ResultVar} (hf : P.funcs[g]? = some fn) (hc : fn.body = some c) (hn : fn.ntmps = n) (hrs : fn.results.toList = rs) {args : List SV} (hle : Nat.ble n 32768 = true) (hal : Nat.ble args.length n = true)
    {m : Mem} {R ni : Nat} {s : St} {K : SV → Mem → Nat → Nat → Prop} (hm : MemOK X Z s0 R s m) (h : wpFn P call F n rs c args m R ni K) {Kr : KV} (hK : ∀ w m' R' ni' s', MemOK X Z s0 R' s' m' → K w m' R' ni' → Kr (den w) s' = r) : (cFun P F g).run call (dens args) Kr s = r := by
  have hn8 := le_lvl n (ble_true hle)
  refine run_fn hf hc hn rfl hrs hle (by rw [dens_length]; exact hal) ?_
  have hret : ∀ f' t' m' R' ni' s', FrameOK (lvl n) n t' f' → MemOK X Z s0 R' s' m' → rtnS P n rs K f' m' R' ni' → retK (cRes P (lvl n) n rs) Kr [] t' s' = r := fun f' t' m' R' ni' s' hf' hm' hk => by
    obtain ⟨l, hl, hr⟩ := rslS_ok hf' hm' hk
    show (cRes P (lvl n) n rs).r t' s' (fun l => match l with | [v] => Kr v s' | l => Kr (.tuple ⟨l⟩) s') = r
    rw [hr]
    match l, hl with
    | [], hl => exact hK (.tup []) _ _ _ s' hm' hl
    | [v], hl => exact hK v _ _ _ s' hm' hl
    | v :: w :: l, hl => exact hK (.tup (v :: w :: l)) _ _ _ s' hm' hl
  refine wpC_ok hn8 10000 c (arg_frame hn8 (ble_true hal)) hm hret (fun e f' t' m' R' ni' s' hf' hm' hk => ?_) h
  cases e with
  | ret => exact hret f' t' m' R' ni' s' hf' hm' hk
  | exit _ => exact hk.elim
  | goto _ => exact hk.elim
/-! calls -/
theorem callF_B3 {fs0 : List FuncId} {w : FuncId} {d : Nat} {g : FuncId} (hg : Nat.beq g w = false) (hg2 : memF g fs0 = false) (fs args cs : List Value) (Kr : KV) (s : St) :
    callF P F (extB fs0 w) (d + 1) (.func (.func g) ⟨fs⟩ ⟨cs⟩) args Kr s = (cFun P F g).run (callF P F (extB fs0 w) d) (fs ++ args ++ cs) Kr s := by
  unfold callF extB extP extK
  simp only [hg, hg2, cond_false]
/-- a call: the function's own run -/
theorem call_in {fs0 : List FuncId} {w : FuncId} {d : Nat} {g : FuncId} {fn : Func} {c : Code} {rs : List ResultVar} (hf : P.funcs[g]? = some fn) (hc : fn.body = some c) (hn : fn.ntmps = n) (hrs : fn.results.toList = rs) (hg : Nat.beq g w = false) (hg2 : memF g fs0 = false) (hle : Nat.ble n 32768 = true)
    {fs args cs : List SV} (hal : Nat.ble (fs ++ args ++ cs).length n = true) {m : Mem} {R ni : Nat} {K : SV → Mem → Nat → Nat → Prop} (h : wpFn P (callF P F (extB fs0 w) d) F n rs c (fs ++ args ++ cs) m R ni K) :
    callS (callF P F (extB fs0 w) (d + 1)) (.fn g fs cs) args m R ni K := by
  refine ⟨?_⟩
  intro X Z s0 s hm Kr r hK
  show callF P F (extB fs0 w) (d + 1) (.func (.func g) ⟨dens fs⟩ ⟨dens cs⟩) (dens args) Kr s = r
  rw [callF_B3 hg hg2, ← dens_append, ← dens_append]
  exact wpFn_ok hf hc hn hrs hle hal hm h hK
/-- the same with another end -/
theorem call_post {fv : SV} {args : List SV} {m : Mem} {R ni ni' : Nat} {Q K : SV → Mem → Nat → Nat → Prop} (h : callS call fv args m R ni Q)
    (hQ : ∀ w m' R' n', Q w m' R' n' → ∃ w2 m2 R2 n2, den w = den w2 ∧ WkM m' m2 ∧ R2 ≤ R' ∧ K w2 m2 R2 n2) : callS call fv args m R ni' K := by
  refine ⟨?_⟩
  intro X Z s0 s hm Kr r hK
  refine h.run X Z s0 s hm Kr r fun w m' R' n' s' hm' hq => ?_
  obtain ⟨w2, m2, R2, n2, h1, h2, h3, h4⟩ := hQ w m' R' n' hq
  rw [h1]
  exact hK w2 m2 R2 n2 s' ((h2 _ _ _ _ _ hm').more h3) h4
/-- so many names more (by the recursor itself) -/
def addL (R l : Nat) : Nat := Nat.rec (motive := fun _ => Nat) R (fun _ x => Nat.succ x) l
theorem addL_eq (R : Nat) : ∀ l, addL R l = R + l
  | 0 => rfl
  | l + 1 => congrArg Nat.succ (addL_eq R l)
theorem addL_le' (R l : Nat) : R ≤ Nat.rec (motive := fun _ => Nat) R (fun _ x => Nat.succ x) l := by have h := addL_eq R l; have h : Nat.rec (motive := fun _ => Nat) R (fun _ x => Nat.succ x) l = R + l := h; rw [h]; omega
theorem addL_le (R l : Nat) : R ≤ addL R l := by rw [addL_eq]; omega
/-- a function that gives a value, whatever memory is, and leaves it -/
def PureC (call : CallT) (g : FuncId) (args : List SV) (N : Nat) (v : SV) : Prop :=
  ∀ m R, callS call (.fn g [] []) args m (addL R N) 0 fun w m' R' _ => den w = den v ∧ WkM m' m ∧ R ≤ R'
theorem call_pure {g : FuncId} {args : List SV} {N : Nat} {v : SV} (h : PureC call g args N v) {m : Mem} {R ni : Nat} {K : SV → Mem → Nat → Nat → Prop} (hK : takeR N R fun R => K v m R ni) : callS call (.fn g [] []) args m R ni K := by
  obtain ⟨hR, hK⟩ := takeR_inv hK
  have h1 := h m (R - N)
  rw [addL_eq, Nat.sub_add_cancel hR] at h1
  exact call_post h1 fun w m' R' n' hq => ⟨v, m, R - N, ni, hq.1, hq.2.1, hq.2.2, hK⟩
/-- a contract of the older kind -/
theorem call_sat {fv : SV} {args : List SV} {m : Mem} {R N ni : Nat} {K : SV → Mem → Nat → Nat → Prop} (w : SV) (h : ∀ X Z s0 s, MemOK X Z s0 R s m → Sat (fun Kr => call (den fv) (dens args) Kr s) fun v s' => Kp N s s' ∧ v = den w) (hK : takeR N R fun R => K w m R ni) : callS call fv args m R ni K := by
  obtain ⟨hR, hK⟩ := takeR_inv hK
  refine ⟨?_⟩
  intro X Z s0 s hm Kr r hk
  refine h X Z s0 s hm Kr r fun v s' hv => ?_
  rw [hv.2]
  exact hk w m (R - N) ni s' (MemOK.keep (N := N) (hm.more (by omega)) hv.1) hK
/-- a function value that bears arguments -/
theorem call_fs {fs0 : List FuncId} {w d : Nat} {g : FuncId} (hg : Nat.beq g w = false) (hg2 : memF g fs0 = false) {fs args cs l : List SV} (hl : l = fs ++ args ++ cs) {m : Mem} {R ni : Nat} {K : SV → Mem → Nat → Nat → Prop} (h : callS (callF P F (extB fs0 w) (d + 1)) (.fn g [] []) l m R ni K) : callS (callF P F (extB fs0 w) (d + 1)) (.fn g fs cs) args m R ni K := by
  refine ⟨?_⟩
  intro X Z s0 s hm Kr r hk
  have h1 := h.run X Z s0 s hm Kr r hk
  subst hl
  have h1 : callF P F (extB fs0 w) (d + 1) (.func (.func g) ⟨[]⟩ ⟨[]⟩) (dens (fs ++ args ++ cs)) Kr s = r := h1
  rw [callF_B3 hg hg2, List.nil_append, List.append_nil, dens_append, dens_append] at h1
  show callF P F (extB fs0 w) (d + 1) (.func (.func g) ⟨dens fs⟩ ⟨dens cs⟩) (dens args) Kr s = r
  rw [callF_B3 hg hg2]
  exact h1
theorem callF_Bw {fs0 : List FuncId} {w d : Nat} (hg2 : memF w fs0 = false) (Kr : KV) (s : St) : callF P F (extB fs0 w) (d + 1) (.func (.func w) ⟨[]⟩ ⟨[]⟩) [] Kr s = Kr (.bool true) s := callF_B_w hg2 Kr s
/-- a call that is known to return true -/
theorem call_w {fs0 : List FuncId} {w d : Nat} (hg2 : memF w fs0 = false) {m : Mem} {R ni : Nat} {K : SV → Mem → Nat → Nat → Prop} (hK : K (.bool true) m R ni) : callS (callF P F (extB fs0 w) (d + 1)) (.fn w [] []) [] m R ni K := by
  refine ⟨?_⟩
  intro X Z s0 s hm Kr r hk
  show callF P F (extB fs0 w) (d + 1) (.func (.func w) ⟨[]⟩ ⟨[]⟩) [] Kr s = r
  rw [callF_Bw hg2]
  exact hk (.bool true) m R ni s hm hK
theorem MemOK.start {s : St} {R : Nat} (h : s.nx + R ≤ 262144) (hf : s.fl ≤ s.nx) : MemOK (fun _ => False) (fun _ => False) s R s [] :=
  ⟨.refl _ _, h, hf, (fun x hx => by cases hx), List.Pairwise.nil⟩
theorem loS_u {body : Frm → Mem → Nat → Nat → WK → Prop} {f : Frm} {m : Mem} {R ni : Nat} {K : WK} (u : Nat) (hu : u ≤ F) (h : loU body u f m R ni K) : loS F body f m R ni K := ⟨.inl ⟨u, hu, h⟩⟩
theorem loS_i {body : Frm → Mem → Nat → Nat → WK → Prop} {f : Frm} {m : Mem} {R ni : Nat} {K : WK} (I : Nat → Frm → Mem → Nat → Nat → Prop) (j0 : Nat) (hj : j0 < F) (h0 : ∃ f0 m0 R0 ni0, wkF f f0 ∧ WkM m m0 ∧ R0 ≤ R ∧ I j0 f0 m0 R0 ni0)
    (h : ∀ j f m R ni, I j f m R ni → body f m R ni ⟨fun f m R _ => ∃ j' f0 m0 R0 ni0, j' < j ∧ wkF f f0 ∧ WkM m m0 ∧ R0 ≤ R ∧ I j' f0 m0 R0 ni0, K.x⟩) : loS F body f m R ni K := ⟨.inr ⟨I, j0, hj, h0, h⟩⟩
theorem brS_t {b : Bool} {x y : Prop} (h : b = true) (hx : x) : brS b x y := ⟨fun _ => hx, fun e => (by rw [h] at e; cases e)⟩
theorem brS_f {b : Bool} {x y : Prop} (h : b = false) (hy : y) : brS b x y := ⟨fun e => (by rw [h] at e; cases e), fun _ => hy⟩
theorem brS_tt {x y : Prop} (h : x) : brS true x y := ⟨fun _ => h, fun h => (by cases h)⟩
theorem brS_ff {x y : Prop} (h : y) : brS false x y := ⟨fun h => (by cases h), fun _ => h⟩
theorem brS_not {b : Bool} {x y : Prop} (h : brS b y x) : brS (!b) x y := ⟨fun e => h.f (by simpa using e), fun e => h.t (by simpa using e)⟩
end
end Go.Ab
