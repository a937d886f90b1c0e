/- Runs over open values: code, calls, contracts, frames of laws. -/
import Derived.Test.YtogncjicndbahaaEngSx
import Derived.ChangeSame
import Derived.OpenShut
import Derived.Carry
import Derived.WideShapes
import Derived.Test.YtogncjicndbahaaEngQe
namespace Go.Ab
open Go.RowKit
/-- memory that says no more than another one -/
def WkM (m' m : Mem) : Prop := ∀ X Z s0 R s, MemOK X Z s0 R s m' → MemOK X Z s0 R s m
theorem WkM.refl (m : Mem) : WkM m m := fun _ _ _ _ _ h => h
theorem WkM.trans {m1 m2 m3 : Mem} (h : WkM m1 m2) (k : WkM m2 m3) : WkM m1 m3 := fun X Z s0 R s h' => k X Z s0 R s (h X Z s0 R s h')
theorem WkM.drop {x : Nat × Ent} {l m : Mem} (h : WkM l m) : WkM (x :: l) m := fun X Z s0 R s hm => h X Z s0 R s ⟨hm.fr, hm.nx, hm.fl, fun y hy => hm.ent y (by simp [hy]), (List.pairwise_cons.1 hm.dis).2⟩
theorem apE.symm {x y : Ent} (h : apE x y) : apE y x := ⟨fun b hb hb' => h.1 b hb' hb, fun b hb hb' => h.2.2 b hb' hb, fun b hb hb' => h.2.1 b hb' hb⟩
/-- an empty slice that will grow -/
theorem WkM.gr0 {m' m : Mem} {i : Nat} {e : TypeId} {sz : Nat} {f : Nat → List SV} (h : WkM m' m) : WkM m' ((i, .gr none 0 e sz f) :: m) := fun X Z s0 R s hm =>
  (h X Z s0 R s hm).cons ⟨fun _ hj => absurd hj (Nat.not_lt_zero _), .inl ⟨rfl, rfl⟩, fun _ hb => hb.elim⟩ fun _ _ => ⟨fun _ hb => hb.elim, fun _ hb => hb.elim, fun _ hb => hb.elim⟩
/-- values that are the same for the machine -/
structure eqF (a b : SV) : Prop where
  h : den a = den b
  j : isJ a = isJ b
theorem eqF_rfl (a : SV) : eqF a a := ⟨rfl, rfl⟩
/-- a frame that says no more than another one -/
def wkF (f' : Frm) : Frm → Prop
  | [] => True
  | x :: r => eqF (getF f' x.1) x.2 ∧ wkF f' r
theorem wkF_ok {k n : Nat} {t : Fm Value k} {f' : Frm} (h : FrameOK k n t f') : ∀ {f : Frm}, wkF f' f → FrameOK k n t f
  | [], _ => fun i _ hj => by cases hj
  | (j, v) :: r, hw => fun i hi hj => by
    have e : getF ((j, v) :: r) i = bif Nat.beq j i then v else getF r i := rfl
    rw [e] at hj ⊢
    cases hb : Nat.beq j i with
    | true =>
      rw [hb] at hj
      have := beq_true hb
      subst this
      have h1 : eqF (getF f' j) v := hw.1
      simp only [cond_true] at hj ⊢
      rw [← h1.h]
      exact h j hi (by rw [h1.j]; exact hj)
    | false => rw [hb] at hj; exact wkF_ok h hw.2 i hi hj
/-- an entry for another one -/
def wkE : Ent → Ent → Prop
  | .own b t l, .own b' t' l' => b = b' ∧ t = t' ∧ dens l = dens l'
  | .gr a n t sz g, .gr a' n' t' sz' g' => a = a' ∧ n = n' ∧ t = t' ∧ sz = sz' ∧ ∀ j, j < n → g j = g' j
  | .ro a n c sz g, .ro a' n' c' sz' g' => a = a' ∧ n = n' ∧ sz = sz' ∧ (c' = 0 ∨ c' = c) ∧ ∀ j, j < n → g j = g' j
  | .gr a n t sz g, .ro a' n' c' sz' g' => a = a' ∧ n = n' ∧ sz = sz' ∧ (c' = 0 ∨ c' = t + 1) ∧ ∀ j, j < n → g j = g' j
  | .own b t l, .gr a' n' t' sz' g' => a' = some ⟨b, 0, none⟩ ∧ t = t' ∧ l.length = n' * sz' ∧ (∀ j, j < n' → (g' j).length = sz') ∧ slL g' n' = dens l
  | .own b t l, .ro a' n' c' sz' g' => a' = some ⟨b, 0, none⟩ ∧ (c' = 0 ∨ c' = t + 1) ∧ l.length = n' * sz' ∧ (∀ j, j < n' → (g' j).length = sz') ∧ slL g' n' = dens l
  | .mp b kv g, .mp b' kv' g' => b = b' ∧ ((kv' = kv ∧ ∀ x, g x = g' x) ∨ ((∀ x, g x = none) ∧ ∀ x, g' x = none))
  | .lop b st pd n f ps x y d, .lop b' st' pd' n' f' ps' x' y' d' => b = b' ∧ st = st' ∧ pd = pd' ∧ n = n' ∧ ps = ps' ∧ x = x' ∧ y = y' ∧ d = d' ∧ wkF f f'
  | _, _ => False
theorem wkE_ok {e e' : Ent} (h : wkE e e') {X Z : Nat → Prop} {s0 s : St} (he : EntOK X Z s0 s e) : EntOK X Z s0 s e' ∧ (∀ b, fpE e' b → fpE e b) ∧ ∀ b, rdE e' b → fpE e b ∨ rdE e b := by
  cases e <;> cases e' <;> (try exact h.elim)
  · obtain ⟨rfl, rfl, h⟩ := h
    refine ⟨⟨?_, he.2⟩, fun b hb => hb, fun b hb => hb.elim⟩
    have := he.1; rw [h] at this; exact this
  · rename_i b t l a' n' c' sz' g'
    obtain ⟨rfl, hc, h1, h2, h3⟩ := h
    have hO := he.1.own.at
    rw [← h3] at hO
    refine ⟨⟨h2, .inr ⟨b, 0, rfl, hO, ?_, ?_⟩⟩, fun c hc => hc.elim, fun c hc => .inl ?_⟩
    · rcases he.2 with h | h
      · exact .inl h
      · exact .inr (.inl h)
    · rcases hc with hc | rfl
      · exact .inl hc
      · exact .inr he.1.ty
    · obtain ⟨_, p, hp⟩ := hc
      cases hp; rfl
  · rename_i b t l a' n' t' sz' g'
    obtain ⟨rfl, rfl, h1, h2, h3⟩ := h
    refine ⟨⟨h2, .inr ⟨b, n', rfl, by rw [h3]; exact he.1, by rw [h3, dens_length]; exact h1⟩, fun c hc => ?_⟩, fun c hc => hc.symm, fun c hc => hc.elim⟩
    have hc : b = c := hc
    subst hc; exact he.2
  · obtain ⟨rfl, rfl, rfl, hc, h⟩ := h
    refine ⟨⟨fun j hj => by rw [← h j hj]; exact he.1 j hj, ?_⟩, fun b hb => hb.elim, fun b hb => .inr hb⟩
    rw [← slL_congr h]
    refine he.2.imp_right fun ⟨b, p, h1, h2, h3, h4⟩ => ⟨b, p, h1, h2, h3, ?_⟩
    rcases hc with hc | rfl
    · exact .inl hc
    · exact h4
  · rename_i a n t sz g a' n' c' sz' g'
    obtain ⟨rfl, rfl, rfl, hc, h⟩ := h
    refine ⟨⟨fun j hj => by rw [← h j hj]; exact he.1 j hj, ?_⟩, fun b hb => hb.elim, fun b hb => .inl ?_⟩
    · by_cases hn : n = 0
      · exact .inl hn
      · right
        rcases he.2.1 with ⟨h1, h2⟩ | ⟨b, q, h1, h2, h3⟩
        · cases h1; exact absurd rfl hn
        · cases h1
          refine ⟨b, 0, rfl, by rw [← slL_congr h]; exact h2.own.at, ?_, ?_⟩
          · rcases he.2.2 b rfl with h | h
            · exact .inl h
            · exact .inr (.inl h)
          · rcases hc with hc | rfl
            · exact .inl hc
            · exact .inr h2.ty
    · obtain ⟨hn, p, rfl⟩ := hb
      rcases he.2.1 with ⟨h1, h2⟩ | ⟨b', q, h1, h2, h3⟩
      · cases h1
      · cases h1; exact rfl
  · obtain ⟨rfl, rfl, rfl, rfl, h⟩ := h
    refine ⟨⟨fun j hj => by rw [← h j hj]; exact he.1 j hj, by rw [← slL_congr h]; exact he.2.1, he.2.2⟩, fun b hb => hb, fun b hb => hb.elim⟩
  · obtain ⟨rfl, rfl, rfl, rfl, rfl, rfl, rfl, rfl, h⟩ := h
    obtain ⟨⟨h1, h2, t, h3, h4⟩, h5⟩ := he
    exact ⟨⟨⟨h1, h2, t, h3, wkF_ok h4 h⟩, h5⟩, fun b hb => hb, fun b hb => hb.elim⟩
  · obtain ⟨rfl, h⟩ := h
    refine ⟨⟨mp_view he.1 ?_, he.2⟩, fun b hb => hb, fun b hb => hb.elim⟩
    rcases h with ⟨h1, h2⟩ | h
    · exact .inl ⟨h1, funext fun x => (h2 x).symm⟩
    · exact .inr h
theorem WkM.keep {i j : Nat} {e e' : Ent} {l m : Mem} (he : wkE e e') (h : ∀ X Z s0 R s, MemOK X Z s0 R s l → MemOK X Z s0 R s m ∧ ∀ y ∈ m, ∃ x ∈ l, (∀ b, fpE y.2 b → fpE x.2 b) ∧ ∀ b, rdE y.2 b → fpE x.2 b ∨ rdE x.2 b) :
    ∀ X Z s0 R s, MemOK X Z s0 R s ((i, e) :: l) → MemOK X Z s0 R s ((j, e') :: m) ∧ ∀ y ∈ (j, e') :: m, ∃ x ∈ (i, e) :: l, (∀ b, fpE y.2 b → fpE x.2 b) ∧ ∀ b, rdE y.2 b → fpE x.2 b ∨ rdE x.2 b := by
  intro X Z s0 R s hm
  have hp := List.pairwise_cons.1 hm.dis
  obtain ⟨h1, h2⟩ := h X Z s0 R s ⟨hm.fr, hm.nx, hm.fl, fun y hy => hm.ent y (by simp [hy]), hp.2⟩
  obtain ⟨g1, g2, g3⟩ := wkE_ok he (hm.ent (i, e) (by simp))
  refine ⟨h1.cons g1 fun y hy => ?_, fun y hy => ?_⟩
  · obtain ⟨x, hx, q1, q2⟩ := h2 y hy
    have ha := hp.1 x hx
    refine ⟨fun b hb hb' => ha.1 b (g2 b hb) (q1 b hb'), fun b hb hb' => ?_, fun b hb hb' => ?_⟩
    · rcases q2 b hb' with h | h
      · exact ha.1 b (g2 b hb) h
      · exact ha.2.1 b (g2 b hb) h
    · rcases g3 b hb with h | h
      · exact ha.1 b h (q1 b hb')
      · exact ha.2.2 b h (q1 b hb')
  · rcases List.mem_cons.1 hy with rfl | hy
    · exact ⟨(i, e), by simp, g2, g3⟩
    · obtain ⟨x, hx, q⟩ := h2 y hy
      exact ⟨x, by simp [hx], q⟩
/-- memory weakened entry by entry, in the same order -/
def WkL (l m : Mem) : Prop := ∀ X Z s0 R s, MemOK X Z s0 R s l → MemOK X Z s0 R s m ∧ ∀ y ∈ m, ∃ x ∈ l, (∀ b, fpE y.2 b → fpE x.2 b) ∧ ∀ b, rdE y.2 b → fpE x.2 b ∨ rdE x.2 b
theorem WkL.refl (m : Mem) : WkL m m := fun _ _ _ _ _ h => ⟨h, fun y hy => ⟨y, hy, fun _ h => h, fun _ h => .inr h⟩⟩
theorem WkL.nil (l : Mem) : WkL l [] := fun _ _ _ _ _ h => ⟨⟨h.fr, h.nx, h.fl, (fun x hx => by cases hx), List.Pairwise.nil⟩, fun y hy => by cases hy⟩
theorem WkL.drop {x : Nat × Ent} {l m : Mem} (h : WkL l m) : WkL (x :: l) m := fun X Z s0 R s hm => by
  obtain ⟨h1, h2⟩ := h X Z s0 R s ⟨hm.fr, hm.nx, hm.fl, fun y hy => hm.ent y (by simp [hy]), (List.pairwise_cons.1 hm.dis).2⟩
  refine ⟨h1, fun y hy => ?_⟩
  obtain ⟨x, hx, q⟩ := h2 y hy
  exact ⟨x, by simp [hx], q⟩
theorem WkL.wk {l m : Mem} (h : WkL l m) : WkM l m := fun X Z s0 R s hm => (h X Z s0 R s hm).1
/-- the record of a loop over a function, its frame forgotten as far as it is not named -/
theorem WkM.lop {m' m : Mem} {i j b n d : Nat} {st : LoopState} {pd : Option Code} {f f' : Frm} {ps : List Tmp} {x y : Code} (hf : wkF f f') (h : WkM m' ((i, .lop b st pd n f ps x y d) :: m)) : WkM m' ((j, .lop b st pd n f' ps x y d) :: m) :=
  h.trans (WkL.wk (WkM.keep (e := .lop b st pd n f ps x y d) (e' := .lop b st pd n f' ps x y d) ⟨rfl, rfl, rfl, rfl, rfl, rfl, rfl, rfl, hf⟩ (WkL.refl m)))
structure WK where
  n : List Nat → Frm → Mem → Nat → Nat → Prop
  x : AExit → List Nat → Frm → Mem → Nat → Nat → Prop
section
variable (P : Program) (call : CallT) (F : Nat)
/-- a loop, round by round -/
def loU (body : List Nat → Frm → Mem → Nat → Nat → WK → Prop) (u : Nat) : List Nat → Frm → Mem → Nat → Nat → WK → Prop :=
  Nat.rec (motive := fun _ => List Nat → Frm → Mem → Nat → Nat → WK → Prop) (fun _ _ _ _ _ _ => False) (fun _ ih mk f m R ni K => body mk f m R ni ⟨fun mk f m R ni => ih mk f m R ni K, K.x⟩) u
/-- a loop: by what holds before each round (marks stay, or grow), or round by round -/
structure loS (body : List Nat → Frm → Mem → Nat → Nat → WK → Prop) (mk : List Nat) (f : Frm) (m : Mem) (R ni : Nat) (K : WK) : Prop where
  ex : (∃ u, u ≤ F ∧ loU body u mk f m R ni K) ∨ (∃ (I : Nat → Frm → Mem → Nat → Nat → Prop) (j0 : Nat), j0 < F ∧ (∃ f0 m0 R0 ni0, wkF f f0 ∧ WkM m m0 ∧ R0 ≤ R ∧ I j0 f0 m0 R0 ni0) ∧
    ∀ j f m R ni, I j f m R ni → body mk f m R ni ⟨fun mk' f m R _ => eqL mk' mk (∃ j' f0 m0 R0 ni0, j' < j ∧ wkF f f0 ∧ WkM m m0 ∧ R0 ≤ R ∧ I j' f0 m0 R0 ni0), K.x⟩) ∨
    ∃ (I : Nat → List Nat → Frm → Mem → Nat → Nat → Prop) (j0 : Nat), j0 < F ∧ (∃ f0 m0 R0 ni0, wkF f f0 ∧ WkM m m0 ∧ R0 ≤ R ∧ I j0 mk f0 m0 R0 ni0) ∧
    ∀ j mk f m R ni, I j mk f m R ni → body mk f m R ni ⟨fun mk f m R _ => ∃ j' f0 m0 R0 ni0, j' < j ∧ wkF f f0 ∧ WkM m m0 ∧ R0 ≤ R ∧ I j' mk f0 m0 R0 ni0, K.x⟩
/-- the number of the entry that holds a function's marks -/
def dfN : Nat := 777777
/-- a mark more -/
def dfS (mk : List Nat) (b : Nat) (m : Mem) (K : Mem → Prop) : Prop := match mk with
  | [] => K ((dfN, .dfr [b]) :: m)
  | _ :: _ => match getM m dfN with
    | some e => match e with
      | .dfr l => eqL l mk (remK m dfN fun m => K ((dfN, .dfr (b :: l)) :: m))
      | _ => False
    | none => False
/-- the marks are taken -/
def tkS (mk : List Nat) (m : Mem) (K : Mem → Prop) : Prop := match mk with
  | [] => K m
  | _ :: _ => match getM m dfN with
    | some e => match e with
      | .dfr l => eqL l mk (remK m dfN K)
      | _ => False
    | none => False
/-- the function that was looped over has ended -/
def reS (K : WK) (mk : List Nat) (f : Frm) (i b : Nat) (m : Mem) (R ni : Nat) : Prop := match getM m i with
  | some e => match e with
    | .lop b' st pd _ _ _ _ _ _ => eqS b' b (match st with
      | .busy => False
      | _ => match pd with
        | none => remK m i fun m => K.n mk f m R ni
        | some c => match c with
          | .ret => remK m i fun m => K.x .ret mk f m R ni
          | .exit id => remK m i fun m => K.x (.exit id) mk f m R ni
          | .goto g => remK m i fun m => K.x (.goto g) mk f m R ni
          | _ => False)
    | _ => False
  | none => False
/-- a loop over a function -/
def rgS (n : Nat) (rd : Option (Nat × Nat)) (g : Operand) (ps : List Tmp) (asg body : Code) (mk : List Nat) (f : Frm) (m : Mem) (R ni : Nat) (K : WK) : Prop := match evS n f g with
  | .fn gf fs cs => match rd with
    | none => match R with
      | 0 => False
      | R + 1 => match R with
        | 0 => False
        | R + 1 => ∀ b1 b2, dfS mk b1 m fun m => callS call (.fn gf fs cs) [.yf ni b2] ((ni, .lop b2 .ready none n f ps asg body b1) :: m) R (ni + 1) fun _ m R ni' => reS K (b1 :: mk) f ni b2 m R ni'
    | some p => match p with
      | (i, l0) => match R with
        | 0 => False
        | R + 1 => match getM m i with
          | some e => match e with
            | .lop b0 _ _ _ _ _ _ _ d0 => eqS b0 l0 (∀ b2, callS call (.fn gf fs cs) [.yf ni b2] ((ni, .lop b2 .ready none n f ps asg body d0) :: m) R (ni + 1) fun _ m R ni' => reS K mk f ni b2 m R ni')
            | _ => False
          | none => False
  | _ => False
def wpC (n d : Nat) : Option (Nat × Nat) → Code → List Nat → Frm → Mem → Nat → Nat → WK → Prop :=
  Nat.rec (motive := fun _ => Option (Nat × Nat) → Code → List Nat → Frm → Mem → Nat → Nat → WK → Prop) (fun _ _ _ _ _ _ _ _ => False)
    (fun _ ih rd c mk f m R ni K => match c with
      | .skip => K.n mk f m R ni
      | .label _ => K.n mk f m R ni
      | .seq x y => ih rd x mk f m R ni ⟨fun mk f m R ni => ih rd y mk f m R ni K, K.x⟩
      | .cond x p q => match evS n f x with
        | .bool b => brS b (ih rd p mk f m R ni K) (ih rd q mk f m R ni K)
        | _ => False
      | .block id x => ih rd x mk f m R ni ⟨K.n, fun e mk f m R ni => match e with
        | .exit id' => bif Nat.beq id' id then K.n mk f m R ni else K.x (.exit id') mk f m R ni
        | e => K.x e mk f m R ni⟩
      | .loop x => loS F (ih rd x) mk f m R ni K
      | .exit id => K.x (.exit id) mk f m R ni
      | .goto l => K.x (.goto l) mk f m R ni
      | .ret => K.x .ret mk f m R ni
      | .region _ ops draw => bif draw then wpDraw P call n ops f m R ni (K.n mk) else wpOps P call n ops.toList ops.toList f m R ni (K.n mk)
      | .rangeFunc g ps asg body => rgS call n rd g ps.toList asg body mk f m R ni K
      | .scope x => ltS 1 F (ih rd x mk f m R ni ⟨K.n, fun e mk f m R ni => match e with
        | .goto l => (match findLabel x l with
          | some r => ih rd r mk f m R ni ⟨K.n, fun e mk f m R ni => match e with
            | .goto l2 => (match findLabel x l2 with
              | some _ => False
              | none => K.x (.goto l2) mk f m R ni)
            | e => K.x e mk f m R ni⟩
          | none => K.x (.goto l) mk f m R ni)
        | e => K.x e mk f m R ni⟩)
      | _ => False) d
def argF : Nat → List SV → Frm
  | _, [] => []
  | i, v :: l => (i, v) :: argF (i + 1) l
def rslS (n : Nat) (f : Frm) (m : Mem) (rs : List ResultVar) : (List SV → Prop) → Prop :=
  List.rec (motive := fun _ => (List SV → Prop) → Prop) (fun K => K [])
    (fun x _ ih K => match x with
      | .tmp d => bif Nat.blt d n then njS (getF f d) fun v => ih fun l => K (v :: l) else False
      | .cell d ty => bif Nat.blt d n then (match P.underlying ty, sizeT P ty with
        | some de, some z => ldS m (getF f d) z (isAggD de) fun v => ih fun l => K (v :: l)
        | _, _ => False) else False) rs
def rtnS (n : Nat) (rs : List ResultVar) (K : SV → Mem → Nat → Nat → Prop) (f : Frm) (m : Mem) (R ni : Nat) : Prop :=
  rslS P n f m rs fun l => match l with
    | [v] => K v m R ni
    | l => K (.tup l) m R ni
def wpFn (n : Nat) (rs : List ResultVar) (c : Code) (args : List SV) (m : Mem) (R ni : Nat) (K : SV → Mem → Nat → Nat → Prop) : Prop :=
  wpC P call F n 10000 none c [] (argF 0 args) m R ni ⟨fun mk f m R ni => tkS mk m fun m => rtnS P n rs K f m R ni, fun e mk f m R ni => match e with
    | .ret => tkS mk m fun m => rtnS P n rs K f m R ni
    | _ => False⟩
end
section
variable {P : Program} {n : Nat} {X Z : Nat → Prop} {s0 : St} {call : CallT} {r : Bool} {F : Nat}
theorem loS_ok {k : Nat} {body : List Nat → Frm → Mem → Nat → Nat → WK → Prop} {cc : Clo k} {rd : Option Nat}
    (hb : ∀ {mk : List Nat} {f : Frm} {t : Fm Value k} {m : Mem} {R ni : Nat} {s : St} {K : WK} {Kr : KC k}, FrameOK k n t f → MemOK X Z s0 R s m → (∀ mk f' t' m' R' ni' s', FrameOK k n t' f' → MemOK X Z s0 R' s' m' → K.n mk f' m' R' ni' → Kr.n mk t' s' = r) →
      (∀ e mk f' t' m' R' ni' s', FrameOK k n t' f' → MemOK X Z s0 R' s' m' → K.x e mk f' m' R' ni' → Kr.x e mk t' s' = r) → body mk f m R ni K → cc.run call rd Kr mk t s = r)
    {mk : List Nat} {f : Frm} {t : Fm Value k} {m : Mem} {R ni : Nat} {s : St} {K : WK} {Kr : KC k} (hf : FrameOK k n t f) (hm : MemOK X Z s0 R s m)
    (hx : ∀ e mk f' t' m' R' ni' s', FrameOK k n t' f' → MemOK X Z s0 R' s' m' → K.x e mk f' m' R' ni' → Kr.x e mk t' s' = r) (h : loS F body mk f m R ni K) : runLoop cc call rd Kr F mk t s = r := by
  rcases h.ex with ⟨u, hu, h⟩ | ⟨I, j0, hj, ⟨f0, m0, R0, ni0, w1, w2, w3, hI⟩, hstep⟩ | ⟨I, j0, hj, ⟨f0, m0, R0, ni0, w1, w2, w3, hI⟩, hstep⟩
  · have key : ∀ (u : Nat) (fuel : Nat) (mk : List Nat) (f : Frm) (t : Fm Value k) (m : Mem) (R ni : Nat) (s : St), u ≤ fuel → FrameOK k n t f → MemOK X Z s0 R s m → loU body u mk f m R ni K → runLoop cc call rd Kr fuel mk t s = r := by
      intro u
      induction u with
      | zero => intro fuel mk f t m R ni s _ _ _ h; exact h.elim
      | succ u ih =>
        intro fuel mk f t m R ni s hu hf hm h
        cases fuel with
        | zero => omega
        | succ fuel =>
          show cc.run call rd ⟨runLoop cc call rd Kr fuel, Kr.x⟩ mk t s = r
          exact hb (K := ⟨fun mk f m R ni => loU body u mk f m R ni K, K.x⟩) (Kr := ⟨runLoop cc call rd Kr fuel, Kr.x⟩) hf hm (fun mk f' t' m' R' ni' s' hf' hm' hk => ih fuel mk f' t' m' R' ni' s' (by omega) hf' hm' hk) hx h
    exact key u F mk f t m R ni s hu hf hm h
  · refine runLoop_rule (fun j m' t s => m' = mk ∧ ∃ f m R ni, FrameOK k n t f ∧ MemOK X Z s0 R s m ∧ I j f m R ni) ?_ F j0 mk t s hj ⟨rfl, f0, m0, R0, ni0, wkF_ok hf w1, (w2 _ _ _ _ _ hm).more w3, hI⟩
    rintro j _ t s ih ⟨rfl, f, m, R, ni, hf, hm, hI⟩ hih
    refine hb (K := ⟨fun mk' f m R _ => eqL mk' _ (∃ j' f0 m0 R0 ni0, j' < j ∧ wkF f f0 ∧ WkM m m0 ∧ R0 ≤ R ∧ I j' f0 m0 R0 ni0), K.x⟩) hf hm (fun mk' f' t' m' R' ni' s' hf' hm' hk => ?_) hx (hstep j f m R ni hI)
    obtain ⟨rfl, j', f0, m0, R0, ni0, hlt, w1, w2, w3, hI'⟩ := hk
    exact hih j' _ t' s' hlt ⟨rfl, f0, m0, R0, ni0, wkF_ok hf' w1, (w2 _ _ _ _ _ hm').more w3, hI'⟩
  · refine runLoop_rule (fun j mk t s => ∃ f m R ni, FrameOK k n t f ∧ MemOK X Z s0 R s m ∧ I j mk f m R ni) ?_ F j0 mk t s hj ⟨f0, m0, R0, ni0, wkF_ok hf w1, (w2 _ _ _ _ _ hm).more w3, hI⟩
    rintro j mk t s ih ⟨f, m, R, ni, hf, hm, hI⟩ hih
    refine hb (K := ⟨fun mk f m R _ => ∃ j' f0 m0 R0 ni0, j' < j ∧ wkF f f0 ∧ WkM m m0 ∧ R0 ≤ R ∧ I j' mk f0 m0 R0 ni0, K.x⟩) hf hm (fun mk' f' t' m' R' ni' s' hf' hm' hk => ?_) hx (hstep j mk f m R ni hI)
    obtain ⟨j', f0, m0, R0, ni0, hlt, w1, w2, w3, hI'⟩ := hk
    exact hih j' mk' t' s' hlt ⟨f0, m0, R0, ni0, wkF_ok hf' w1, (w2 _ _ _ _ _ hm').more w3, hI'⟩
/-- an entry does not touch what is left without it -/
theorem MemOK.apart {R : Nat} {s : St} {m : Mem} (h : MemOK X Z s0 R s m) {i : Nat} {e : Ent} (hi : getM m i = some e) : ∀ x ∈ remM m i, apE e x.2 := by
  obtain ⟨m1, j, m2, rfl, h2⟩ := remM_split hi
  rw [h2]
  have hp := List.pairwise_append.1 h.dis
  intro x hx
  rcases List.mem_append.1 hx with hx | hx
  · exact (hp.2.2 x hx (j, e) (by simp)).symm
  · exact (List.pairwise_cons.1 hp.2.1).1 x hx
theorem ok_push {s : St} {o : AObj} (h : s.fl ≤ s.nx) : (s.push o).ok s.nx = true := by
  unfold St.ok
  show (!Nat.blt s.nx s.fl) = true
  cases hb : Nat.blt s.nx s.fl with
  | false => rfl
  | true => have := blt_true hb; omega
/-- a record of a loop over a function -/
theorem MemOK.push_lop {R : Nat} {s : St} {m : Mem} (h : MemOK X Z s0 (R + 1) s m) {f : Frm} {t : Fm Value (lvl n)} (hf : FrameOK (lvl n) n t f) (ps : List Tmp) (x y : Code) (d i : Nat) :
    MemOK X Z s0 R (s.push (.loop .ready none (lvl n) n t ps x y d)) ((i, .lop s.nx .ready none n f ps x y d) :: m) := by
  have hlt : s.nx < 4398046511104 := by have := h.nx; omega
  have h1 : MemOK X Z s0 R (s.push (.loop .ready none (lvl n) n t ps x y d)) m := h.keep (Kp.push _ hlt)
  refine h1.cons ⟨⟨⟨by rw [St.nx_push]; omega, ok_push h.fls⟩, hlt, t, by rw [St.at_push hlt, if_pos rfl], hf⟩, .inl h.fr.1⟩ fun x hx => apE_new (h.ent x hx) (fun _ hb => hb) fun b hb => by cases hb; exact Nat.le_refl _
/-- a mark more -/
theorem MemOK.push_dfr {R : Nat} {s : St} {m : Mem} (h : MemOK X Z s0 (R + 1) s m) {mk : List Nat} {K : Mem → Prop} (hk : dfS mk s.nx m K) : ∃ m', MemOK X Z s0 R (s.push .dfr) m' ∧ K m' := by
  have hlt : s.nx < 4398046511104 := by have := h.nx; omega
  have h1 : MemOK X Z s0 R (s.push .dfr) m := h.keep (Kp.push _ hlt)
  unfold dfS at hk
  cases mk with
  | nil =>
    refine ⟨_, h1.cons (e := .dfr [s.nx]) ⟨fun b hb => ?_, by simp⟩ fun x hx => apE_new (e := .dfr [s.nx]) (h.ent x hx) (fun _ hb => hb) fun b hb => ?_, hk⟩
    · rw [List.mem_singleton] at hb; subst hb
      exact ⟨⟨by rw [St.nx_push]; omega, ok_push h.fls⟩, hlt, by rw [St.at_push hlt, if_pos rfl], .inl h.fr.1⟩
    · have hb : b ∈ [s.nx] := hb
      rw [List.mem_singleton] at hb; subst hb; exact Nat.le_refl _
  | cons b0 mk =>
    simp only at hk
    cases hi : getM m dfN with
    | none => rw [hi] at hk; exact hk.elim
    | some e =>
      rw [hi] at hk
      cases e <;> (try exact hk.elim)
      rename_i l
      obtain ⟨_, hk⟩ := hk
      rw [remK_eq] at hk
      have he := h.get hi
      have he1 := h1.get hi
      have hr : MemOK X Z s0 R (s.push .dfr) (remM m dfN) := h1.rem hi (Fr.refl _ _) h1.nx
      have hne : ∀ b ∈ l, b < s.nx := fun b hb => (he.1 b hb).1.1
      refine ⟨_, hr.cons (e := .dfr (s.nx :: l)) ⟨fun b hb => ?_, List.nodup_cons.2 ⟨fun hb => by have := hne _ hb; omega, he.2⟩⟩ fun x hx => ?_, hk⟩
      · rcases List.mem_cons.1 hb with rfl | hb
        · exact ⟨⟨by rw [St.nx_push]; omega, ok_push h.fls⟩, hlt, by rw [St.at_push hlt, if_pos rfl], .inl h.fr.1⟩
        · exact he1.1 b hb
      · have ha := h.apart hi x hx
        have hn : apE (.dfr [s.nx]) x.2 := apE_new (h.ent x (remM_sub x hx)) (fun _ hb => hb) fun b hb => by
          have hb : b ∈ [s.nx] := hb
          rw [List.mem_singleton] at hb; subst hb; exact Nat.le_refl _
        refine ⟨fun b hb => ?_, fun b hb => ?_, fun b hb => hb.elim⟩
        · rcases List.mem_cons.1 (show b ∈ s.nx :: l from hb) with rfl | hb
          · exact hn.1 _ (List.mem_singleton.2 rfl)
          · exact ha.1 b hb
        · rcases List.mem_cons.1 (show b ∈ s.nx :: l from hb) with rfl | hb
          · exact hn.2.1 _ (List.mem_singleton.2 rfl)
          · exact ha.2.1 b hb
theorem takeMarks_run : ∀ {l : List Nat} {s : St}, (∀ b, b ∈ l → s.ok b = true ∧ b < 4398046511104 ∧ s.at b = some .dfr) → l.Nodup → ∃ s', s'.nx = s.nx ∧ Fr (· ∈ l) s s' ∧ ∀ K, takeMarks l s K = K s'
  | [], s, _, _ => ⟨s, rfl, Fr.refl _ _, fun _ => rfl⟩
  | b :: l, s, h, hn => by
    obtain ⟨h1, h2, h3⟩ := h b (by simp)
    obtain ⟨hn1, hn2⟩ := List.nodup_cons.1 hn
    have hset : Fr (· = b) s (s.set b none) := Fr.set h2
    obtain ⟨s', g1, g2, g3⟩ := takeMarks_run (l := l) (s := s.set b none) (fun c hc => by
      obtain ⟨q1, q2, q3⟩ := h c (by simp [hc])
      exact ⟨q1, q2, by rw [St.at_set h2, if_neg (fun e => hn1 (by rw [← e]; exact hc))]; exact q3⟩) hn2
    refine ⟨s', g1, ⟨by rw [g1]; exact Nat.le_refl _, fun c hc hx => ?_, g2.2.2.trans hset.2.2⟩, fun K => ?_⟩
    · have hx : ¬ c ∈ b :: l := hx
      rw [List.mem_cons, not_or] at hx
      rw [g2.2.1 c hc hx.2, hset.2.1 c hc hx.1]
    · unfold takeMarks
      rw [h3]
      simp only [h1, cond_true]
      exact g3 K
theorem tkS_ok {R : Nat} {s : St} {m : Mem} (h : MemOK X Z s0 R s m) {mk : List Nat} {K : Mem → Prop} (hk : tkS mk m K) : ∃ s' m', MemOK X Z s0 R s' m' ∧ K m' ∧ ∀ Kr, takeMarks mk s Kr = Kr s' := by
  unfold tkS at hk
  cases mk with
  | nil => exact ⟨s, m, h, hk, fun _ => rfl⟩
  | cons b0 mk =>
    simp only at hk
    cases hi : getM m dfN with
    | none => rw [hi] at hk; exact hk.elim
    | some e =>
      rw [hi] at hk
      cases e <;> (try exact hk.elim)
      rename_i l
      obtain ⟨rfl, hk⟩ := hk
      rw [remK_eq] at hk
      have he := h.get hi
      obtain ⟨s', g1, g2, g3⟩ := takeMarks_run (s := s) (fun b hb => ⟨(he.1 b hb).1.2, (he.1 b hb).2.1, (he.1 b hb).2.2.1⟩) he.2
      exact ⟨s', _, h.rem hi g2 (by rw [g1]; exact h.nx), hk, g3⟩
/-- the function that was looped over has ended -/
theorem reS_ok {k : Nat} {Kr : KC k} {K : WK} {mk : List Nat} {f : Frm} {t : Fm Value k} {m : Mem} {R ni i b : Nat} {s : St} (hf : FrameOK k n t f) (hm : MemOK X Z s0 R s m) (hn1 : ∀ mk f' t' m' R' ni' s', FrameOK k n t' f' → MemOK X Z s0 R' s' m' → K.n mk f' m' R' ni' → Kr.n mk t' s' = r)
    (hx1 : ∀ e mk f' t' m' R' ni' s', FrameOK k n t' f' → MemOK X Z s0 R' s' m' → K.x e mk f' m' R' ni' → Kr.x e mk t' s' = r) (h : reS K mk f i b m R ni) : rangeEnd Kr b mk t s = r := by
  unfold reS at h
  cases hi : getM m i with
  | none => rw [hi] at h; exact h.elim
  | some e =>
    rw [hi] at h
    cases e <;> (try exact h.elim)
    rename_i b' st pd n' f' ps x y d
    obtain ⟨rfl, h⟩ := h
    obtain ⟨⟨⟨q1, q2⟩, q3, t', q4, _⟩, _⟩ := hm.get hi
    have hrem : MemOK X Z s0 R (s.set b' none) (remM m i) := hm.rem hi (Fr.set q3) hm.nx
    unfold rangeEnd
    rw [q4]
    simp only [q2, cond_true]
    cases st <;> (try exact h.elim) <;> simp only at h ⊢
    all_goals
      cases pd with
      | none => simp only [remK_eq] at h ⊢; exact hn1 mk f t _ _ _ _ hf hrem h
      | some c =>
        cases c <;> (try exact h.elim) <;> simp only [remK_eq] at h ⊢
        all_goals exact hx1 _ mk f t _ _ _ _ hf hrem h
theorem findClo_find {k : Nat} {x : Code} {l : Nat} {g : Code → Clo k} : findClo l ((labels x).filterMap fun l => match findLabel x l with
        | some r => some (l, g r)
        | none => none) = (findLabel x l).map g := by
  cases hfc : findClo l ((labels x).filterMap fun l => match findLabel x l with
        | some r => some (l, g r)
        | none => none) with
  | some c' =>
    have hm := findClo_inv hfc
    rw [List.mem_filterMap] at hm
    obtain ⟨l', _, hl'⟩ := hm
    cases hfl : findLabel x l' with
    | none => rw [hfl] at hl'; cases hl'
    | some rest =>
      rw [hfl] at hl'
      simp only [Option.some.injEq, Prod.mk.injEq] at hl'
      obtain ⟨rfl, rfl⟩ := hl'
      rw [hfl]; rfl
  | none =>
    have : findLabel x l = none := by
      by_cases hm : l ∈ labels x
      · cases hfl : findLabel x l with
        | none => rfl
        | some rest => exact absurd (List.mem_filterMap.2 ⟨l, hm, by rw [hfl]⟩) (findClo_none hfc (g rest))
      · exact labels_find x l hm
    rw [this]; rfl
theorem wpC_ok (hn : n ≤ pow8 (lvl n)) : ∀ (d : Nat) (rd : Option (Nat × Nat)) (c : Code) {mk : List Nat} {f : Frm} {t : Fm Value (lvl n)} {m : Mem} {R ni : Nat} {s : St} {K : WK} {Kr : KC (lvl n)}, FrameOK (lvl n) n t f → MemOK X Z s0 R s m →
    (∀ mk f' t' m' R' ni' s', FrameOK (lvl n) n t' f' → MemOK X Z s0 R' s' m' → K.n mk f' m' R' ni' → Kr.n mk t' s' = r) → (∀ e mk f' t' m' R' ni' s', FrameOK (lvl n) n t' f' → MemOK X Z s0 R' s' m' → K.x e mk f' m' R' ni' → Kr.x e mk t' s' = r) →
    wpC P call F n d rd c mk f m R ni K → (cCode P F (lvl n) n d c).run call (rd.map (·.2)) Kr mk t s = r
  | 0, _, _, _, _, _, _, _, _, _, _, _, _, _, _, _, h => h.elim
  | d + 1, rd, c, mk, f, t, m, R, ni, s, K, Kr, hf, hm, hn1, hx1, h => by
    cases c with
    | skip => exact hn1 mk f t m R ni s hf hm h
    | label l => exact hn1 mk f t m R ni s hf hm h
    | seq x y =>
      refine run_seq.trans (wpC_ok hn d rd x (K := ⟨fun mk f m R ni => wpC P call F n d rd y mk f m R ni K, K.x⟩) hf hm (fun mk f' t' m' R' ni' s' hf' hm' hk => ?_) hx1 h)
      exact wpC_ok hn d rd y hf' hm' hn1 hx1 hk
    | cond x p q =>
      have h : (match evS n f x with | .bool b => brS b (wpC P call F n d rd p mk f m R ni K) (wpC P call F n d rd q mk f m R ni K) | _ => False) := h
      cases hx : evS n f x <;> rw [hx] at h <;> (try exact h.elim)
      rename_i b
      obtain ⟨g, hg, hgt⟩ := evS_eq (k := lvl n) hf hx rfl
      refine (run_cond hg hgt).trans ?_
      have h' := brS_inv h
      clear h
      rcases h' with ⟨rfl, h⟩ | ⟨rfl, h⟩
      · exact wpC_ok hn d rd p hf hm hn1 hx1 h
      · exact wpC_ok hn d rd q hf hm hn1 hx1 h
    | block id x =>
      refine run_block.trans (wpC_ok hn d rd x (K := ⟨K.n, fun e mk f m R ni => match e with
        | .exit id' => bif Nat.beq id' id then K.n mk f m R ni else K.x (.exit id') mk f m R ni
        | e => K.x e mk f m R ni⟩) hf hm hn1 (fun e mk f' t' m' R' ni' s' hf' hm' hk => ?_) h)
      cases e with
      | exit id' =>
        simp only at hk ⊢
        cases hb : Nat.beq id' id with
        | true => rw [hb] at hk; exact hn1 mk f' t' m' R' ni' s' hf' hm' hk
        | false => rw [hb] at hk; exact hx1 _ mk f' t' m' R' ni' s' hf' hm' hk
      | goto l => exact hx1 _ mk f' t' m' R' ni' s' hf' hm' hk
      | ret => exact hx1 _ mk f' t' m' R' ni' s' hf' hm' hk
    | loop x => exact run_loop.trans (loS_ok (fun hf hm h1 h2 h => wpC_ok hn d rd x hf hm h1 h2 h) (ni := ni) hf hm hx1 h)
    | scope x =>
      have h' := ltS_inv h
      clear h
      obtain ⟨hF, h⟩ := h'
      show runScope ((labels x).filterMap fun l => match findLabel x l with
        | some r => some (l, cCode P F (lvl n) n d r)
        | none => none) call (rd.map (·.2)) Kr F (cCode P F (lvl n) n d x) mk t s = r
      suffices hs : ∀ q, 1 < q → runScope ((labels x).filterMap fun l => match findLabel x l with
        | some r => some (l, cCode P F (lvl n) n d r)
        | none => none) call (rd.map (·.2)) Kr q (cCode P F (lvl n) n d x) mk t s = r from hs F hF
      intro q hq
      cases q with
      | zero => omega
      | succ q =>
        cases q with
        | zero => omega
        | succ q =>
          refine wpC_ok hn d rd x (K := ⟨K.n, fun e mk f m R ni => match e with
            | .goto l => (match findLabel x l with
              | some r => wpC P call F n d rd r mk f m R ni ⟨K.n, fun e mk f m R ni => match e with
                | .goto l2 => (match findLabel x l2 with
                  | some _ => False
                  | none => K.x (.goto l2) mk f m R ni)
                | e => K.x e mk f m R ni⟩
              | none => K.x (.goto l) mk f m R ni)
            | e => K.x e mk f m R ni⟩) hf hm hn1 (fun e mk f' t' m' R' ni' s' hf' hm' hk => ?_) h
          cases e with
          | exit id' => exact hx1 _ mk f' t' m' R' ni' s' hf' hm' hk
          | ret => exact hx1 _ mk f' t' m' R' ni' s' hf' hm' hk
          | goto l =>
            simp only at hk ⊢
            rw [findClo_find]
            cases hfl : findLabel x l with
            | none => rw [hfl] at hk; exact hx1 _ mk f' t' m' R' ni' s' hf' hm' hk
            | some rest =>
              rw [hfl] at hk
              refine wpC_ok hn d rd rest (K := ⟨K.n, fun e mk f m R ni => match e with
                | .goto l2 => (match findLabel x l2 with
                  | some _ => False
                  | none => K.x (.goto l2) mk f m R ni)
                | e => K.x e mk f m R ni⟩) hf' hm' hn1 (fun e mk f' t' m' R' ni' s' hf' hm' hk => ?_) hk
              cases e with
              | exit id' => exact hx1 _ mk f' t' m' R' ni' s' hf' hm' hk
              | ret => exact hx1 _ mk f' t' m' R' ni' s' hf' hm' hk
              | goto l2 =>
                simp only at hk ⊢
                rw [findClo_find]
                cases hfl2 : findLabel x l2 with
                | none => rw [hfl2] at hk; exact hx1 _ mk f' t' m' R' ni' s' hf' hm' hk
                | some r2 => rw [hfl2] at hk; exact hk.elim
    | exit id => exact hx1 _ mk f t m R ni s hf hm h
    | goto l => exact hx1 _ mk f t m R ni s hf hm h
    | ret => exact hx1 _ mk f t m R ni s hf hm h
    | region id ops draw =>
      cases draw with
      | true => exact run_region.trans (wpDraw_ok hn (fun f' t' m' R' ni' s' hf' hm' hk => hn1 mk f' t' m' R' ni' s' hf' hm' hk) hf hm h)
      | false => exact run_region0.trans (wpOps_ok hn (fun f' t' m' R' ni' s' hf' hm' hk => hn1 mk f' t' m' R' ni' s' hf' hm' hk) hf hm h)
    | rangeFunc g ps asg body =>
      have h : rgS call n rd g ps.toList asg body mk f m R ni K := h
      unfold rgS at h
      cases hg : evS n f g <;> rw [hg] at h <;> (try exact h.elim)
      rename_i gf fs cs
      obtain ⟨gw, hgw, hgt⟩ := evS_eq (k := lvl n) hf hg rfl
      have hgt : gw.g t = .func (.func gf) ⟨dens fs⟩ ⟨dens cs⟩ := hgt
      cases rd with
      | none =>
        simp only at h
        cases R with
        | zero => exact h.elim
        | succ R =>
          cases R with
          | zero => exact h.elim
          | succ R =>
            simp only at h
            have hlt : s.nx + 1 < 4398046511104 := by have := hm.nx; omega
            obtain ⟨m1, hm1, hc⟩ := MemOK.push_dfr hm (h s.nx (s.nx + 1))
            have hm2 := MemOK.push_lop hm1 hf ps.toList asg body s.nx ni
            have hrun := hc.run X Z s0 _ hm2 (fun _ s3 => rangeEnd Kr (s.nx + 1) (s.nx :: mk) t s3) r fun w m' R' ni' s' hm' hk => reS_ok hf hm' hn1 hx1 hk
            unfold cCode
            simp only [hgw, hgt]
            show (bif Nat.blt (Nat.add s.nx 1) 4398046511104 then _ else false) = r
            rw [blt_of (show Nat.add s.nx 1 < 4398046511104 from hlt)]
            exact hrun
      | some p =>
        obtain ⟨i, l0⟩ := p
        simp only at h
        cases R with
        | zero => exact h.elim
        | succ R =>
          simp only at h
          cases hi : getM m i with
          | none => rw [hi] at h; exact h.elim
          | some e =>
            rw [hi] at h
            cases e <;> (try exact h.elim)
            rename_i b0 st0 pd0 n0 f0 ps0 x0 y0 d0
            obtain ⟨hb0, h9⟩ := h
            subst hb0
            obtain ⟨⟨⟨q1, q2⟩, q3, t0, q4, _⟩, _⟩ := hm.get hi
            have hlt : s.nx < 4398046511104 := by have := hm.nx; omega
            have hm2 := MemOK.push_lop hm hf ps.toList asg body d0 ni
            have hrun := (h9 s.nx).run X Z s0 _ hm2 (fun _ s3 => rangeEnd Kr s.nx mk t s3) r fun w m' R' ni' s' hm' hk => reS_ok hf hm' hn1 hx1 hk
            unfold cCode
            simp only [hgw, hgt, Option.map_some]
            show (match s.at b0 with | some o => _ | none => false) = r
            rw [q4]
            show (bif Nat.blt s.nx 4398046511104 then _ else false) = r
            rw [blt_of hlt]
            exact hrun
    | refuse _ => exact h.elim
theorem argF_get : ∀ (l : List SV) (o i : Nat), getF (argF o l) i = if o ≤ i ∧ i < o + l.length then (l[i - o]?).getD .junk else .junk
  | [], o, i => by rw [if_neg (by simp only [List.length_nil]; omega)]; rfl
  | v :: l, o, i => by
    show (bif Nat.beq o i then v else getF (argF (o + 1) l) i) = _
    cases hb : Nat.beq o i with
    | true =>
      have := beq_true hb
      subst this
      rw [if_pos (by simp)]; simp
    | false =>
      have hne : o ≠ i := fun e => by subst e; rw [Nat.beq_refl] at hb; cases hb
      simp only [cond_false]
      rw [argF_get l (o + 1) i]
      by_cases h : o + 1 ≤ i ∧ i < o + 1 + l.length
      · rw [if_pos h, if_pos (by simp only [List.length_cons]; omega), show i - o = (i - (o + 1)) + 1 by omega, List.getElem?_cons_succ]
      · rw [if_neg h, if_neg (by simp only [List.length_cons]; omega)]
theorem arg_frame {k : Nat} (hn : n ≤ pow8 k) {args : List SV} (hl : args.length ≤ n) : FrameOK k n (puts k 0 (dens args) (ini undef k)) (argF 0 args) := by
  intro i hi hj
  rw [argF_get] at hj ⊢
  by_cases h : 0 ≤ i ∧ i < 0 + args.length
  · rw [if_pos h] at hj ⊢
    have hd := dens_length args
    rw [puts_get _ _ 0 i _ (by omega) (by omega), if_pos (by omega), List.getD_eq_getElem?_getD, dens_get, Nat.sub_zero, List.getElem?_eq_getElem (by omega)]
    rfl
  · rw [if_neg h] at hj; cases hj
theorem rslS_ok {k : Nat} {t : Fm Value k} {f : Frm} {m : Mem} {R : Nat} {s : St} (hf : FrameOK k n t f) (hm : MemOK X Z s0 R s m) : ∀ {rs : List ResultVar} {K : List SV → Prop}, rslS P n f m rs K → ∃ l, K l ∧ ∀ Kr, (cRes P k n rs).r t s Kr = Kr (dens l)
  | [], K, h => ⟨[], h, fun Kr => rfl⟩
  | .tmp d :: rs, K, h => by
    have h : (bif Nat.blt d n then njS (getF f d) fun v => rslS P n f m rs fun l => K (v :: l) else False) := h
    cases hb : Nat.blt d n with
    | false => rw [hb] at h; exact h.elim
    | true =>
      rw [hb] at h
      simp only [cond_true] at h
      obtain ⟨hj, h⟩ := njS_inv h
      obtain ⟨l, hl, hr⟩ := rslS_ok hf hm h
      refine ⟨_, hl, fun Kr => ?_⟩
      show (bif Nat.blt d n then (⟨fun t s K => (cRes P k n rs).r t s fun l => K ((getW k d).g t :: l)⟩ : ResC k) else ⟨fun _ _ _ => false⟩).r t s Kr = _
      rw [hb]
      show (cRes P k n rs).r t s (fun l => Kr ((getW k d).g t :: l)) = _
      rw [hr, hf d (blt_true hb) hj]
      rfl
  | .cell d ty :: rs, K, h => by
    have h : (bif Nat.blt d n then (match P.underlying ty, sizeT P ty with
      | some de, some z => ldS m (getF f d) z (isAggD de) fun v => rslS P n f m rs fun l => K (v :: l)
      | _, _ => False) else False) := h
    cases hb : Nat.blt d n with
    | false => rw [hb] at h; exact h.elim
    | true =>
      rw [hb] at h
      simp only [cond_true] at h
      split at h <;> (try exact h.elim)
      rename_i de z hu hz
      obtain ⟨b, a, v, hd, hK, hv⟩ := ldS_ok hm h
      obtain ⟨l, hl, hr⟩ := rslS_ok hf hm hK
      refine ⟨_, hl, fun Kr => ?_⟩
      have hj : isJ (getF f d) = false := by cases hx : getF f d <;> first | rfl | (rw [hx] at hd; cases hd)
      have hft := hf d (blt_true hb) hj
      have e : (cRes P k n (.cell d ty :: rs)) = bif Nat.blt d n then (match oLoad P ty (getW k d) with
        | .rd o => ⟨fun t s K => o.m t s fun v => (cRes P k n rs).r t s fun l => K (v :: l)⟩
        | _ => ⟨fun _ _ _ => false⟩) else ⟨fun _ _ _ => false⟩ := rfl
      rw [e, hb]
      simp only [cond_true]
      unfold oLoad
      simp only [hu, hz]
      rcases hv with ⟨ha, hv⟩ | ⟨ha, hv⟩
      · rw [ha]
        show (asPtr ((getW k d).g t) fun b o => ldN s b o z fun l => (cRes P k n rs).r t s fun l' => Kr (.agg ⟨l⟩ :: l')) = _
        rw [hft, hd]
        refine (hv fun w => (cRes P k n rs).r t s fun l' => Kr (w :: l')).trans ?_
        rw [hr]; rfl
      · rw [ha]
        show (asPtr ((getW k d).g t) fun b o => ld1 s b o fun w => (cRes P k n rs).r t s fun l' => Kr (w :: l')) = _
        rw [hft, hd]
        refine (hv fun w => (cRes P k n rs).r t s fun l' => Kr (w :: l')).trans ?_
        rw [hr]; rfl
/-- A FUNCTION's run -/
theorem wpFn_ok {g : FuncId} {fn : Func} {c : Code} {rs : List ResultVar} (hf : P.funcs[g]? = some fn) (hc : fn.body = some c) (hn : fn.ntmps = n) (hrs : fn.results.toList = rs) {args : List SV} (hle : Nat.ble n 32768 = true) (hal : Nat.ble args.length n = true)
    {m : Mem} {R ni : Nat} {s : St} {K : SV → Mem → Nat → Nat → Prop} (hm : MemOK X Z s0 R s m) (h : wpFn P call F n rs c args m R ni K) {Kr : KV} (hK : ∀ w m' R' ni' s', MemOK X Z s0 R' s' m' → K w m' R' ni' → Kr (den w) s' = r) : (cFun P F g).run call (dens args) Kr s = r := by
  have hn8 := le_lvl n (ble_true hle)
  refine run_fn hf hc hn rfl hrs hle (by rw [dens_length]; exact hal) ?_
  have hret : ∀ mk f' t' m' R' ni' s', FrameOK (lvl n) n t' f' → MemOK X Z s0 R' s' m' → (tkS mk m' fun m => rtnS P n rs K f' m R' ni') → retK (cRes P (lvl n) n rs) Kr mk t' s' = r := fun mk f' t' m' R' ni' s' hf' hm' hk => by
    obtain ⟨s2, m2, hm2, hk, htk⟩ := tkS_ok hm' hk
    obtain ⟨l, hl, hr⟩ := rslS_ok hf' hm2 hk
    unfold retK
    rw [htk, hr]
    match l, hl with
    | [], hl => exact hK (.tup []) _ _ _ s2 hm2 hl
    | [v], hl => exact hK v _ _ _ s2 hm2 hl
    | v :: w :: l, hl => exact hK (.tup (v :: w :: l)) _ _ _ s2 hm2 hl
  refine wpC_ok hn8 10000 none c (arg_frame hn8 (ble_true hal)) hm hret (fun e mk f' t' m' R' ni' s' hf' hm' hk => ?_) h
  cases e with
  | ret => exact hret mk f' t' m' R' ni' s' hf' hm' hk
  | exit _ => exact hk.elim
  | goto _ => exact hk.elim
/-! calls -/
theorem callF_B3 {fs0 : LibT} {w : FuncId} {d : Nat} {g : FuncId} (hg : Nat.beq g w = false) (hg2 : memF g fs0.nums = false) (fs args cs : List Value) (Kr : KV) (s : St) :
    callF P F (extX fs0 w) (d + 1) (.func (.func g) ⟨fs⟩ ⟨cs⟩) args Kr s = (cFun P F g).run (callF P F (extX fs0 w) d) (fs ++ args ++ cs) Kr s := by
  exact callF_X hg hg2 fs args cs Kr s
/-- a call: the function's own run -/
theorem call_in {fs0 : LibT} {w : FuncId} {d : Nat} {g : FuncId} {fn : Func} {c : Code} {rs : List ResultVar} (hf : P.funcs[g]? = some fn) (hc : fn.body = some c) (hn : fn.ntmps = n) (hrs : fn.results.toList = rs) (hg : Nat.beq g w = false) (hg2 : memF g fs0.nums = false) (hle : Nat.ble n 32768 = true)
    {fs args cs : List SV} (hal : Nat.ble (fs ++ args ++ cs).length n = true) {m : Mem} {R ni : Nat} {K : SV → Mem → Nat → Nat → Prop} (h : wpFn P (callF P F (extX fs0 w) d) F n rs c (fs ++ args ++ cs) m R ni K) :
    callS (callF P F (extX fs0 w) (d + 1)) (.fn g fs cs) args m R ni K := by
  refine ⟨?_⟩
  intro X Z s0 s hm Kr r hK
  show callF P F (extX fs0 w) (d + 1) (.func (.func g) ⟨dens fs⟩ ⟨dens cs⟩) (dens args) Kr s = r
  rw [callF_B3 hg hg2, ← dens_append, ← dens_append]
  exact wpFn_ok hf hc hn hrs hle hal hm h hK
/-- the same with another end -/
theorem call_post {fv : SV} {args : List SV} {m : Mem} {R ni ni' : Nat} {Q K : SV → Mem → Nat → Nat → Prop} (h : callS call fv args m R ni Q)
    (hQ : ∀ w m' R' n', Q w m' R' n' → ∃ w2 m2 R2 n2, den w = den w2 ∧ WkM m' m2 ∧ R2 ≤ R' ∧ K w2 m2 R2 n2) : callS call fv args m R ni' K := by
  refine ⟨?_⟩
  intro X Z s0 s hm Kr r hK
  refine h.run X Z s0 s hm Kr r fun w m' R' n' s' hm' hq => ?_
  obtain ⟨w2, m2, R2, n2, h1, h2, h3, h4⟩ := hQ w m' R' n' hq
  rw [h1]
  exact hK w2 m2 R2 n2 s' ((h2 _ _ _ _ _ hm').more h3) h4
/-- so many names more (by the recursor itself) -/
def addL (R l : Nat) : Nat := Nat.rec (motive := fun _ => Nat) R (fun _ x => Nat.succ x) l
theorem addL_eq (R : Nat) : ∀ l, addL R l = R + l
  | 0 => rfl
  | l + 1 => congrArg Nat.succ (addL_eq R l)
theorem addL_le' (R l : Nat) : R ≤ Nat.rec (motive := fun _ => Nat) R (fun _ x => Nat.succ x) l := by have h := addL_eq R l; have h : Nat.rec (motive := fun _ => Nat) R (fun _ x => Nat.succ x) l = R + l := h; rw [h]; omega
theorem addL_le (R l : Nat) : R ≤ addL R l := by rw [addL_eq]; omega
/-- a function that gives a value, whatever memory is, and leaves it -/
def PureC (call : CallT) (g : FuncId) (args : List SV) (N : Nat) (v : SV) : Prop :=
  ∀ m R, callS call (.fn g [] []) args m (addL R N) 0 fun w m' R' _ => den w = den v ∧ WkM m' m ∧ R ≤ R'
theorem call_pure {g : FuncId} {args : List SV} {N : Nat} {v : SV} (h : PureC call g args N v) {m : Mem} {R ni : Nat} {K : SV → Mem → Nat → Nat → Prop} (hK : takeR N R fun R => K v m R ni) : callS call (.fn g [] []) args m R ni K := by
  obtain ⟨hR, hK⟩ := takeR_inv hK
  have h1 := h m (R - N)
  rw [addL_eq, Nat.sub_add_cancel hR] at h1
  exact call_post h1 fun w m' R' n' hq => ⟨v, m, R - N, ni, hq.1, hq.2.1, hq.2.2, hK⟩
/-- a contract of the older kind -/
theorem call_sat {fv : SV} {args : List SV} {m : Mem} {R N ni : Nat} {K : SV → Mem → Nat → Nat → Prop} (w : SV) (h : ∀ X Z s0 s, MemOK X Z s0 R s m → Sat (fun Kr => call (den fv) (dens args) Kr s) fun v s' => Kp N s s' ∧ v = den w) (hK : takeR N R fun R => K w m R ni) : callS call fv args m R ni K := by
  obtain ⟨hR, hK⟩ := takeR_inv hK
  refine ⟨?_⟩
  intro X Z s0 s hm Kr r hk
  refine h X Z s0 s hm Kr r fun v s' hv => ?_
  rw [hv.2]
  exact hk w m (R - N) ni s' (MemOK.keep (N := N) (hm.more (by omega)) hv.1) hK
/-- a function value that bears arguments -/
theorem call_fs {fs0 : LibT} {w d : Nat} {g : FuncId} (hg : Nat.beq g w = false) (hg2 : memF g fs0.nums = false) {fs args cs l : List SV} (hl : l = fs ++ args ++ cs) {m : Mem} {R ni : Nat} {K : SV → Mem → Nat → Nat → Prop} (h : callS (callF P F (extX fs0 w) (d + 1)) (.fn g [] []) l m R ni K) : callS (callF P F (extX fs0 w) (d + 1)) (.fn g fs cs) args m R ni K := by
  refine ⟨?_⟩
  intro X Z s0 s hm Kr r hk
  have h1 := h.run X Z s0 s hm Kr r hk
  subst hl
  have h1 : callF P F (extX fs0 w) (d + 1) (.func (.func g) ⟨[]⟩ ⟨[]⟩) (dens (fs ++ args ++ cs)) Kr s = r := h1
  rw [callF_B3 hg hg2, List.nil_append, List.append_nil, dens_append, dens_append] at h1
  show callF P F (extX fs0 w) (d + 1) (.func (.func g) ⟨dens fs⟩ ⟨dens cs⟩) (dens args) Kr s = r
  rw [callF_B3 hg hg2]
  exact h1
theorem callF_Bw {fs0 : LibT} {w d : Nat} (hg2 : memF w fs0.nums = false) (Kr : KV) (s : St) : callF P F (extX fs0 w) (d + 1) (.func (.func w) ⟨[]⟩ ⟨[]⟩) [] Kr s = Kr (.bool true) s := by
  show fs0.ext (extK w true _) _ _ _ _ = _
  rw [fs0.out _ hg2]
  unfold extK
  simp only [Nat.beq_refl, cond_true]
  rfl
/-- a call that is known to return true -/
theorem call_w {fs0 : LibT} {w d : Nat} (hg2 : memF w fs0.nums = false) {m : Mem} {R ni : Nat} {K : SV → Mem → Nat → Nat → Prop} (hK : K (.bool true) m R ni) : callS (callF P F (extX fs0 w) (d + 1)) (.fn w [] []) [] m R ni K := by
  refine ⟨?_⟩
  intro X Z s0 s hm Kr r hk
  show callF P F (extX fs0 w) (d + 1) (.func (.func w) ⟨[]⟩ ⟨[]⟩) [] Kr s = r
  rw [callF_Bw hg2]
  exact hk (.bool true) m R ni s hm hK
theorem MemOK.start {s : St} {R : Nat} (h : s.nx + R ≤ 4398046511104) (hf : s.fl ≤ s.nx) : MemOK (fun _ => False) (fun _ => False) s R s [] :=
  ⟨.refl _ _, h, hf, (fun x hx => by cases hx), List.Pairwise.nil⟩
theorem loS_u {body : List Nat → Frm → Mem → Nat → Nat → WK → Prop} {mk : List Nat} {f : Frm} {m : Mem} {R ni : Nat} {K : WK} (u : Nat) (hu : u ≤ F) (h : loU body u mk f m R ni K) : loS F body mk f m R ni K := ⟨.inl ⟨u, hu, h⟩⟩
theorem loS_i {body : List Nat → Frm → Mem → Nat → Nat → WK → Prop} {mk : List Nat} {f : Frm} {m : Mem} {R ni : Nat} {K : WK} (I : Nat → Frm → Mem → Nat → Nat → Prop) (j0 : Nat) (hj : j0 < F) (h0 : ∃ f0 m0 R0 ni0, wkF f f0 ∧ WkM m m0 ∧ R0 ≤ R ∧ I j0 f0 m0 R0 ni0)
    (h : ∀ j f m R ni, I j f m R ni → body mk f m R ni ⟨fun mk' f m R _ => eqL mk' mk (∃ j' f0 m0 R0 ni0, j' < j ∧ wkF f f0 ∧ WkM m m0 ∧ R0 ≤ R ∧ I j' f0 m0 R0 ni0), K.x⟩) : loS F body mk f m R ni K := ⟨.inr (.inl ⟨I, j0, hj, h0, h⟩)⟩
/-- (marks that grow) -/
theorem loS_m {body : List Nat → Frm → Mem → Nat → Nat → WK → Prop} {mk : List Nat} {f : Frm} {m : Mem} {R ni : Nat} {K : WK} (I : Nat → List Nat → Frm → Mem → Nat → Nat → Prop) (j0 : Nat) (hj : j0 < F) (h0 : ∃ f0 m0 R0 ni0, wkF f f0 ∧ WkM m m0 ∧ R0 ≤ R ∧ I j0 mk f0 m0 R0 ni0)
    (h : ∀ j mk f m R ni, I j mk f m R ni → body mk f m R ni ⟨fun mk f m R _ => ∃ j' f0 m0 R0 ni0, j' < j ∧ wkF f f0 ∧ WkM m m0 ∧ R0 ≤ R ∧ I j' mk f0 m0 R0 ni0, K.x⟩) : loS F body mk f m R ni K := ⟨.inr (.inr ⟨I, j0, hj, h0, h⟩)⟩
theorem brS_t {b : Bool} {x y : Prop} (h : b = true) (hx : x) : brS b x y := ⟨fun _ => hx, fun e => (by rw [h] at e; cases e)⟩
theorem brS_f {b : Bool} {x y : Prop} (h : b = false) (hy : y) : brS b x y := ⟨fun e => (by rw [h] at e; cases e), fun _ => hy⟩
theorem brS_tt {x y : Prop} (h : x) : brS true x y := ⟨fun _ => h, fun h => (by cases h)⟩
theorem brS_ff {x y : Prop} (h : y) : brS false x y := ⟨fun h => (by cases h), fun _ => h⟩
theorem brS_not {b : Bool} {x y : Prop} (h : brS b y x) : brS (!b) x y := ⟨fun e => h.f (by simpa using e), fun e => h.t (by simpa using e)⟩
end
end Go.Ab
namespace Go.Ab
theorem wr_id {n : Int} (h1 : -9223372036854775808 ≤ n) (h2 : n < 9223372036854775808) : wr .i64 n = n := by
  cases n with
  | ofNat m => exact wr_nat (by have h2 : (m : Int) < 9223372036854775808 := h2; omega)
  | negSucc m =>
    unfold wr
    have : m < 9223372036854775808 := by omega
    simp only [blt_of this, cond_true]
/-- a number's size -/
def Bd (n : Int) (B : Nat) : Prop := n.natAbs ≤ B
theorem Bd.mono {n : Int} {B C : Nat} (h : Bd n B) (hle : B ≤ C) : Bd n C := Nat.le_trans h hle
theorem Bd.of {n : Int} {B : Nat} (h1 : -(B : Int) ≤ n) (h2 : n ≤ B) : Bd n B := by unfold Bd; omega
theorem Bd.le {n : Int} {B : Nat} (h : Bd n B) : -(B : Int) ≤ n ∧ n ≤ B := by unfold Bd at h; omega
theorem Bd.sub {a b : Int} {A B : Nat} (h : Bd a A) (k : Bd b B) : Bd (a - b) (A + B) := by unfold Bd at *; omega
theorem Bd.add {a b : Int} {A B : Nat} (h : Bd a A) (k : Bd b B) : Bd (a + b) (A + B) := by unfold Bd at *; omega
theorem Bd.neg {a : Int} {A : Nat} (h : Bd a A) : Bd (-a) A := by unfold Bd at *; omega
theorem Bd.mul {a b : Int} {A B : Nat} (h : Bd a A) (k : Bd b B) : Bd (a * b) (A * B) := by
  unfold Bd at *
  rw [Int.natAbs_mul]
  exact Nat.mul_le_mul h k
theorem wr_sub {a b a' b' : Int} {A B : Nat} (ea : a' = a) (eb : b' = b) (h : Bd a A) (k : Bd b B) (hl : A + B < 9223372036854775808) : wr .i64 (Int.sub a' b') = a - b := by
  subst ea eb; have := (h.sub k).le; exact wr_id (n := a' - b') (by omega) (by omega)
theorem wr_add {a b a' b' : Int} {A B : Nat} (ea : a' = a) (eb : b' = b) (h : Bd a A) (k : Bd b B) (hl : A + B < 9223372036854775808) : wr .i64 (Int.add a' b') = a + b := by
  subst ea eb; have := (h.add k).le; exact wr_id (n := a' + b') (by omega) (by omega)
theorem wr_mul {a b a' b' : Int} {A B : Nat} (ea : a' = a) (eb : b' = b) (h : Bd a A) (k : Bd b B) (hl : A * B < 9223372036854775808) : wr .i64 (Int.mul a' b') = a * b := by
  subst ea eb; have := (h.mul k).le; exact wr_id (n := a' * b') (by omega) (by omega)
/-- a law: what its contract says of a run -/
theorem PureC.run {P : Program} {F : Nat} {fs0 : LibT} {w d : Nat} {g : FuncId} {args : List SV} {N : Nat} (h : PureC (callF P F (extX fs0 w) (d + 1)) g args N (.bool true)) (hg : Nat.beq g w = false) (hg2 : memF g fs0.nums = false) {s : St} (hs : s.nx + N ≤ 4398046511104) (hf : s.fl ≤ s.nx) :
    (cFun P F g).run (callF P F (extX fs0 w) d) (dens args) (isTrue true) s = true := by
  have h1 := (h [] 0).run _ _ s s (MemOK.start (R := addL 0 N) (by rw [addL_eq, Nat.zero_add]; exact hs) hf) (isTrue true) true fun v _ _ _ _ _ hv => by rw [hv.1]; rfl
  have h1 : callF P F (extX fs0 w) (d + 1) (.func (.func g) ⟨[]⟩ ⟨[]⟩) (dens args) (isTrue true) s = true := h1
  rw [callF_B3 hg hg2, List.nil_append, List.append_nil] at h1
  exact h1
theorem stOf_fl (W : World) (Bs : List Nat) : (stOf W Bs).fl ≤ (stOf W Bs).nx := by
  have h : ∀ (l : List (Option AObj)) (s : St), (l.foldl addO s).fl = s.fl := by
    intro l
    induction l with
    | nil => intro s; rfl
    | cons o l ih => intro s; rw [List.foldl_cons, ih]; rfl
  unfold stOf
  rw [h]
  exact Nat.zero_le _
end Go.Ab
namespace Go.Ab
open Go.RowKit
/-- memory, seen by a function that only reads it and names it anew -/
def SeesM (m m0 : Mem) : Prop := ∀ X Z s0 R s, MemOK X Z s0 R s m → MemOK (fun _ => False) (fun _ => True) s R s m0
theorem SeesM.nil (m : Mem) : SeesM m [] := fun X Z s0 R s h => ⟨.refl _ _, h.nx, h.fls, (fun x hx => by cases hx), List.Pairwise.nil⟩
/-- an entry that may be read -/
def SeesE (m : Mem) (e : Ent) : Prop := ∀ X Z s0 R s, MemOK X Z s0 R s m → EntOK (fun _ => False) (fun _ => True) s s e ∧ ∀ b, ¬ fpE e b
theorem SeesM.cons {m m0 : Mem} {e : Ent} (i : Nat) (h : SeesE m e) (k : SeesM m m0) (hf : ∀ X Z s0 R s, MemOK X Z s0 R s m → ∀ x ∈ m0, ∀ b, ¬ fpE x.2 b) : SeesM m ((i, e) :: m0) := fun X Z s0 R s hm =>
  (k X Z s0 R s hm).cons (h X Z s0 R s hm).1 fun x hx => ⟨fun b hb => ((h X Z s0 R s hm).2 b hb).elim, fun b hb => ((h X Z s0 R s hm).2 b hb).elim, fun b _ hb => (hf X Z s0 R s hm x hx b hb).elim⟩
theorem sees_ro {m : Mem} {i n c c' sz : Nat} {a : Option Addr} {f : Nat → List SV} (h : getM m i = some (.ro a n c sz f)) (hc : c' = 0 ∨ c' = c := by first | exact .inl rfl | exact .inr rfl) : SeesE m (.ro a n c' sz f) := fun X Z s0 R s hm => by
  have he := hm.get h
  exact ⟨⟨he.1, he.2.imp_right fun ⟨b, p, h1, h2, _, h4⟩ => ⟨b, p, h1, h2, .inr (.inr trivial), hc.elim .inl fun e => e ▸ h4⟩⟩, fun b hb => hb⟩
theorem sees_gr {m : Mem} {i n e c' sz : Nat} {a : Option Addr} {f : Nat → List SV} (h : getM m i = some (.gr a n e sz f)) (hc : c' = 0 ∨ c' = e + 1 := by first | exact .inl rfl | exact .inr rfl) : SeesE m (.ro a n c' sz f) := fun X Z s0 R s hm => by
  have he := hm.get h
  refine ⟨⟨he.1, ?_⟩, fun b hb => hb⟩
  by_cases hn : n = 0
  · exact .inl hn
  · rcases he.2.1 with ⟨h1, h2⟩ | ⟨b, q, h1, h2, h3⟩
    · cases h1; exact absurd rfl hn
    · cases h1
      exact .inr ⟨b, 0, rfl, h2.own.at, .inr (.inr trivial), hc.imp_right fun (hc : c' = e + 1) => (by rw [hc]; exact h2.ty)⟩
/-- the elements of a slice over a block of cells -/
def part (l : List SV) (o sz j : Nat) : List SV := (l.drop (Nat.add o (Nat.mul j sz))).take sz
theorem sees_own {m : Mem} {i b o n c sz : Nat} {e : TypeId} {l : List SV} (h : getM m i = some (.own b e l)) (hl : o + n * sz ≤ l.length) (hc : c = 0 ∨ c = e + 1 := by first | exact .inl rfl | exact .inr rfl) : SeesE m (.ro (some ⟨b, o, none⟩) n c sz (part l o sz)) := fun X Z s0 R s hm => by
  have he := hm.get h
  have hlen : ∀ j, j < n → (part l o sz j).length = sz := fun j hj => by
    have : (j + 1) * sz ≤ n * sz := Nat.mul_le_mul_right _ (by omega)
    rw [Nat.succ_mul] at this
    show ((l.drop (o + j * sz)).take sz).length = sz
    rw [List.length_take, List.length_drop]
    omega
  refine ⟨⟨hlen, .inr ⟨b, o, rfl, ?_, (.inr (.inr trivial)), hc.imp_right fun (hc : c = e + 1) => (by rw [hc]; exact he.1.ty)⟩⟩, fun b hb => hb⟩
  have h1 := he.1.own.at.sub (o := o) (n := n * sz) (by rw [dens_length]; omega)
  rw [Nat.zero_add] at h1
  have key : ∀ k, k ≤ n → slL (part l o sz) k = dens ((l.drop o).take (k * sz)) := by
    intro k
    induction k with
    | zero => intro _; rw [Nat.zero_mul, List.take_zero]; rfl
    | succ k ih =>
      intro hk
      rw [slL, ih (by omega), ← dens_append, Nat.succ_mul, List.take_add, List.drop_drop]
      rfl
  rw [key n (Nat.le_refl _), dens_take, dens_drop]
  exact h1
/-- a part of a slice -/
theorem sees_sb {m : Mem} {i n c c' sz b p lo k kc : Nat} {f : Nat → List SV} (h : getM m i = some (.ro (some ⟨b, p, none⟩) n c sz f) ∨ ∃ e, c = e + 1 ∧ getM m i = some (.gr (some ⟨b, p, none⟩) n e sz f)) (h0 : 0 < n) (hle : lo + k ≤ n) (hk : k ≤ kc) (hc : c' = 0 ∨ c' = c := by first | exact .inl rfl | exact .inr rfl) :
    SeesE m (.ro (some ⟨b, bif Nat.beq kc 0 then p else Nat.add p (Nat.mul lo sz), none⟩) k c' sz fun j => f (Nat.add lo j)) := fun X Z s0 R s hm => by
  have key : ∃ g : SeesE m (.ro (some ⟨b, p, none⟩) n c sz f), True := by
    rcases h with h | ⟨e, rfl, h⟩
    · exact ⟨sees_ro h (.inr rfl), trivial⟩
    · exact ⟨sees_gr h (.inr rfl), trivial⟩
  obtain ⟨g, _⟩ := key
  obtain ⟨⟨g1, g2⟩, _⟩ := g X Z s0 R s hm
  refine ⟨⟨fun j hj => g1 _ (by show lo + j < n; omega), ?_⟩, fun b hb => hb⟩
  rcases g2 with g2 | ⟨b', p', q1, g2, _, g3⟩
  · omega
  · cases q1
    by_cases hk0 : k = 0
    · exact .inl hk0
    · have hb : Nat.beq kc 0 = false := by
        cases hb : Nat.beq kc 0 with
        | false => rfl
        | true => have := beq_true hb; omega
      rw [hb]
      refine .inr ⟨b, _, rfl, ?_, .inr (.inr trivial), hc.elim .inl fun e => e ▸ g3⟩
      obtain ⟨r, rfl⟩ : ∃ r, n = lo + (k + r) := ⟨n - lo - k, by omega⟩
      have l1 : (slL f lo).length = lo * sz := slL_length fun j hj => g1 j (by omega)
      have l2 : (slL (fun j => f (lo + j)) k).length = k * sz := slL_length fun j hj => g1 _ (by omega)
      have h2 := g2.sub (o := lo * sz) (n := k * sz) (by rw [slL_length g1, Nat.add_mul, Nat.add_mul]; omega)
      rw [slL_add f lo, slL_add (fun j => f (lo + j)) k, List.drop_append, l1, List.drop_eq_nil_of_le (by omega), List.nil_append, Nat.sub_self, List.drop_zero, List.take_append, l2, Nat.sub_self, List.take_zero, List.append_nil, List.take_of_length_le (by omega)] at h2
      exact h2
/-- a function that only reads some memory, and gives a value -/
def ReadC (call : CallT) (g : FuncId) (args : List SV) (m0 : Mem) (N : Nat) (v : SV) : Prop :=
  ∀ R, callS call (.fn g [] []) args m0 (addL R N) 0 fun w _ R' _ => den w = den v ∧ R ≤ R'
theorem PureC.read {call : CallT} {g : FuncId} {args : List SV} {N : Nat} {v : SV} (h : PureC call g args N v) (m0 : Mem) : ReadC call g args m0 N v := fun R => by
  refine call_post (h m0 R) fun w m' R' n' hq => ⟨w, m', R', n', rfl, WkM.refl _, Nat.le_refl _, hq.1, hq.2.2⟩
theorem call_read {call : CallT} {g : FuncId} {args args0 : List SV} {m0 : Mem} {N : Nat} {v : SV} (h : ReadC call g args0 m0 N v) {m : Mem} {R ni : Nat} {K : SV → Mem → Nat → Nat → Prop} (ha : dens args = dens args0) (hs : SeesM m m0) (hK : takeR N R fun R => K v m R ni) : callS call (.fn g [] []) args m R ni K := by
  obtain ⟨hR, hK⟩ := takeR_inv hK
  refine ⟨?_⟩
  intro X Z s0 s hm Kr r hk
  have h1 := h (R - N)
  rw [addL_eq, Nat.sub_add_cancel hR] at h1
  rw [ha]
  refine h1.run _ _ s s (hs X Z s0 R s hm) Kr r fun w m' R' ni' s' hm' hw => ?_
  rw [hw.1]
  have hke : Keep s s' := hm'.fr.keep fun b _ h => h
  exact hk v m (R - N) ni s' (hm.step (Y := fun _ => False) (Fr.of_keep hke) (fun _ h => h.elim) (fun _ _ _ _ h => h) (fun _ _ _ _ h => h) (by have h1 := hm'.nx; have h2 := hw.2; omega)) hK
end Go.Ab
namespace Go.Ab
open Go.ChangeShapes Go.WideShapes
/-- a cell of an argument: a number or an answer -/
inductive Ck where
  | i (k : IntKind)
  | b
def repC (l : List Ck) : Nat → List Ck
  | 0 => []
  | n + 1 => l ++ repC l n
section
variable (P : Program)
mutual
def flatK : Nat → TypeId → Option (List Ck)
  | 0, _ => none
  | d + 1, t => match P.underlying t with
    | some (.int k) => some [.i k]
    | some .bool => some [.b]
    | some (.struct fs) => flatFs d fs.toList 0
    | some (.array n e) => match flatK d e with
      | some l => bif Nat.beq (P.cellsOf e) l.length then some (repC l n) else none
      | none => none
    | _ => none
def flatFs : Nat → List Field → Nat → Option (List Ck)
  | _, [], _ => some []
  | 0, _ :: _, _ => none
  | d + 1, f :: fs, o => match flatK d f.type with
    | some l => bif Nat.beq f.offset o && Nat.beq (P.cellsOf f.type) l.length then (match flatFs d fs (o + l.length) with
      | some r => some (l ++ r)
      | none => none) else none
    | none => none
end
end
def CkOK : Ck → Value → Prop
  | .i k, v => ∃ n, v = .int k n ∧ (Lit.int k n).wf = true
  | .b, v => ∃ b, v = .bool b
def CksOK : List Ck → List Value → Prop
  | [], cs => cs = []
  | k :: ks, cs => ∃ c r, cs = c :: r ∧ CkOK k c ∧ CksOK ks r
theorem CksOK.app : ∀ {l r : List Ck} {a b : List Value}, CksOK l a → CksOK r b → CksOK (l ++ r) (a ++ b)
  | [], _, _, _, h, k => by
    have h : _ = [] := h
    subst h; exact k
  | _ :: _, _, _, _, h, k => by
    obtain ⟨c, r, rfl, h1, h2⟩ := h
    exact ⟨c, _, rfl, h1, h2.app k⟩
theorem repC_length (l : List Ck) : ∀ n, (repC l n).length = n * l.length
  | 0 => by simp [repC]
  | n + 1 => by rw [repC, List.length_append, repC_length l n, Nat.succ_mul, Nat.add_comm]
section
variable {H : Type} {enc : TypeId × Value → H} {P : Program} {w : World} {base : Nat} {spare : Nat → Bool} {held : Bool}
theorem array_cells {e : TypeId} {l : List Ck} {n m : Nat} {cs : List Value} (hc : P.cellsOf e = l.length) (ih : ∀ {cs : List Value} {x : DataW H × List MemPlace}, cs.length = l.length → DataW.trod enc P w base spare held m e cs = some x → CksOK l cs)
    {xs : List (DataW H × List MemPlace)} (hx : xs.length = n) (hl : cs.length = n * l.length) (hd : ∀ i, i < n → DataW.trod enc P w base spare held m e ((cs.drop (i * P.cellsOf e)).take (P.cellsOf e)) = xs[i]?) :
    ∀ j, j ≤ n → CksOK (repC l j) ((cs.drop ((n - j) * l.length)).take (j * l.length)) := by
  intro j
  induction j with
  | zero => intro _; rw [Nat.zero_mul, List.take_zero]; rfl
  | succ j ihj =>
    intro hj
    have h1 := hd (n - (j + 1)) (by omega)
    rw [hc] at h1
    have hxi : (xs[n - (j + 1)]?) = some (xs[n - (j + 1)]'(by omega)) := List.getElem?_eq_getElem (by omega)
    rw [hxi] at h1
    have hlen : (n - (j + 1)) * l.length + (j + 1) * l.length = n * l.length := by rw [← Nat.add_mul]; congr 1; omega
    rw [Nat.succ_mul] at hlen
    have h2 := ih (by rw [List.length_take, List.length_drop]; omega) h1
    have h3 := ihj (by omega)
    have e1 : (n - j) * l.length = (n - (j + 1)) * l.length + l.length := by rw [← Nat.succ_mul]; congr 1; omega
    have e2 : (cs.drop ((n - (j + 1)) * l.length)).take ((j + 1) * l.length) = (cs.drop ((n - (j + 1)) * l.length)).take l.length ++ (cs.drop ((n - j) * l.length)).take (j * l.length) := by
      rw [e1, Nat.succ_mul, Nat.add_comm (j * l.length), List.take_add, List.drop_drop]
    rw [e2]
    exact h2.app h3
mutual
theorem flat_of : ∀ {d : Nat} {t : TypeId} {l : List Ck} {fuel : Nat} {cs : List Value} {x : DataW H × List MemPlace}, flatK P d t = some l → P.cellsOf t = l.length → cs.length = l.length → DataW.trod enc P w base spare held fuel t cs = some x → CksOK l cs
  | 0, _, _, _, _, _, h, _, _, _ => by cases h
  | d + 1, t, l, fuel, cs, x, h, hc, hl, hx => by
    unfold flatK at h
    split at h
    · rename_i k hu
      cases h
      obtain ⟨n, rfl, _, hw⟩ := DataW.trod_int hu hx
      exact ⟨_, _, rfl, ⟨n, rfl, hw⟩, rfl⟩
    · rename_i hu
      cases h
      obtain ⟨b, rfl, _⟩ := DataW.trod_bool hu hx
      exact ⟨_, _, rfl, ⟨b, rfl⟩, rfl⟩
    · rename_i fs hu
      obtain ⟨xs, n, _, _, _, hxl, hd⟩ := DataW.trod_struct hu hx
      have := flatFs_of (d := d) (fs := fs.toList) (o := 0) (l := l) (m := n) (cs := cs) h (by rw [hl, Nat.zero_add]) fun f hf => by
        obtain ⟨i, hi, hfi⟩ := List.getElem_of_mem hf
        have hi' : i < fs.size := by simpa using hi
        have hfi' : fs[i]? = some f := by rw [Array.getElem?_eq_getElem hi']; congr 1
        have h1 := hd i f hfi'
        rw [List.getElem?_eq_getElem (by omega)] at h1
        exact ⟨_, h1⟩
      rw [List.drop_zero] at this
      exact this
    · rename_i n e hu
      obtain ⟨xs, m, _, _, _, hxl, hd⟩ := DataW.trod_array hu hx
      cases he : flatK P d e with
      | none => rw [he] at h; cases h
      | some le =>
        rw [he] at h
        simp only at h
        cases hb : Nat.beq (P.cellsOf e) le.length with
        | false => rw [hb] at h; cases h
        | true =>
          rw [hb] at h
          simp only [cond_true, Option.some.injEq] at h
          subst h
          rw [repC_length] at hl
          have hce : P.cellsOf e = le.length := Nat.eq_of_beq_eq_true hb
          have := array_cells (n := n) hce (fun {cs x} hcs hx' => flat_of he hce hcs hx') hxl hl hd n (Nat.le_refl _)
          rw [Nat.sub_self, Nat.zero_mul, List.drop_zero, ← hl, List.take_length] at this
          exact this
    · cases h
theorem flatFs_of : ∀ {d : Nat} {fs : List Field} {o : Nat} {l : List Ck} {m : Nat} {cs : List Value}, flatFs P d fs o = some l → cs.length = o + l.length →
    (∀ f ∈ fs, ∃ y, DataW.trod enc P w base spare held m f.type ((cs.drop f.offset).take (P.cellsOf f.type)) = some y) → CksOK l (cs.drop o)
  | _, [], o, l, _, cs, h, hl, _ => by
    have h : some [] = some l := by unfold flatFs at h; exact h
    cases h
    show cs.drop o = []
    exact List.drop_eq_nil_of_le (by simp at hl; omega)
  | 0, _ :: _, _, _, _, _, h, _, _ => by unfold flatFs at h; cases h
  | d + 1, f :: fs, o, l, m, cs, h, hl, hf => by
    unfold flatFs at h
    cases hk : flatK P d f.type with
    | none => rw [hk] at h; cases h
    | some lf =>
      rw [hk] at h
      simp only at h
      cases hb : (Nat.beq f.offset o && Nat.beq (P.cellsOf f.type) lf.length) with
      | false => rw [hb] at h; cases h
      | true =>
        rw [hb] at h
        simp only [cond_true] at h
        rw [Bool.and_eq_true] at hb
        have ho : f.offset = o := Nat.eq_of_beq_eq_true hb.1
        have hc : P.cellsOf f.type = lf.length := Nat.eq_of_beq_eq_true hb.2
        cases hr : flatFs P d fs (o + lf.length) with
        | none => rw [hr] at h; cases h
        | some r =>
          rw [hr] at h
          simp only [Option.some.injEq] at h
          subst h
          rw [List.length_append] at hl
          obtain ⟨y, hy⟩ := hf f (by simp)
          rw [ho, hc] at hy
          have h1 := flat_of hk hc (by rw [List.length_take, List.length_drop]; omega) hy
          have h2 := flatFs_of hr (by omega) fun g hg => hf g (by simp [hg])
          have e : cs.drop o = (cs.drop o).take lf.length ++ cs.drop (o + lf.length) := by rw [← List.drop_drop, List.take_append_drop]
          rw [e]
          exact h1.app h2
end
theorem okWide_array {r : Reach} {t e : TypeId} {n : Nat} {v : Value} (ht : P.underlying t = some (.array n e)) (h : Value.okWide P w r base t v) : ∃ cs, v = .agg cs ∧ cs.size = P.cellsOf t := by
  simp only [Value.okWide, ht] at h
  obtain ⟨cs, h1, h2, _⟩ := h
  exact ⟨cs, h1, h2⟩
/-- an argument that is a struct or an array -/
theorem agg_of {d base0 : Nat} {t : TypeId} {l : List Ck} {v : Value} {r : Reach} {dd : DataW H} {ps : List MemPlace} (hk : flatK P d t = some l) (hc : P.cellsOf t = l.length) (hag : isAggT P t = true) (hv : Value.okWide P w r base0 t v) (h : DataW.Trod enc P w base spare held t v dd ps) : ∃ cs, v = .agg ⟨cs⟩ ∧ CksOK l cs := by
  obtain ⟨fuel, h⟩ := h
  have hcs : ∃ cs, v = .agg cs ∧ cs.size = P.cellsOf t := by
    unfold isAggT at hag
    split at hag
    · rename_i fs hu; exact okWide_struct hu hv
    · rename_i n e hu; exact okWide_array hu hv
    · cases hag
  obtain ⟨⟨cs⟩, rfl, hsz⟩ := hcs
  exact ⟨cs, rfl, flat_of hk hc (by rw [← hc]; exact hsz) h⟩
/-- an argument that is a number or an answer -/
theorem one_of {d base0 : Nat} {t : TypeId} {k : Ck} {v : Value} {r : Reach} {dd : DataW H} {ps : List MemPlace} (hk : flatK P d t = some [k]) (hag : isAggT P t = false) (hv : Value.okWide P w r base0 t v) (h : DataW.Trod enc P w base spare held t v dd ps) : CkOK k v := by
  obtain ⟨fuel, h⟩ := h
  cases d with
  | zero => cases hk
  | succ d =>
    unfold flatK at hk
    split at hk
    · rename_i j hu
      cases hk
      obtain ⟨n, rfl⟩ := okWide_int hu hv
      obtain ⟨n', e, _, hw⟩ := DataW.trod_int hu h
      have e : [Value.int j n] = [Value.int j n'] := e
      cases e
      exact ⟨n, rfl, hw⟩
    · rename_i hu
      cases hk
      obtain ⟨b, rfl⟩ := okWide_bool hu hv
      exact ⟨b, rfl⟩
    · rename_i fs hu; unfold isAggT at hag; simp only [hu] at hag; cases hag
    · rename_i n e hu; unfold isAggT at hag; simp only [hu] at hag; cases hag
    · cases hk
end
theorem wf_u8 {n : Int} (h : (Lit.int .u8 n).wf = true) : 0 ≤ n ∧ n < 256 := by
  have h : (decide (IntKind.u8.min ≤ n) && decide (n ≤ IntKind.u8.max)) = true := h
  rw [Bool.and_eq_true, decide_eq_true_eq, decide_eq_true_eq] at h
  have e1 : IntKind.u8.min = 0 := by decide
  have e2 : IntKind.u8.max = 255 := by decide
  rw [e1, e2] at h
  omega
theorem wf_i64 {n : Int} (h : (Lit.int .i64 n).wf = true) : -9223372036854775808 ≤ n ∧ n < 9223372036854775808 := by
  have h : (decide (IntKind.i64.min ≤ n) && decide (n ≤ IntKind.i64.max)) = true := h
  rw [Bool.and_eq_true, decide_eq_true_eq, decide_eq_true_eq] at h
  have e1 : IntKind.i64.min = -9223372036854775808 := by decide
  have e2 : IntKind.i64.max = 9223372036854775807 := by decide
  rw [e1, e2] at h
  omega
end Go.Ab
namespace Go.Ab
open Go.RowKit
/-- the same entries, some left out, under any numbers -/
theorem WkM.sub {m' m : Mem} (h : (m.map Prod.snd).Sublist (m'.map Prod.snd)) : WkM m' m := fun X Z s0 R s hm =>
  ⟨hm.fr, hm.nx, hm.fl, fun x hx => by
    have h1 : x.2 ∈ m'.map Prod.snd := h.subset (List.mem_map.2 ⟨x, hx, rfl⟩)
    obtain ⟨y, hy, e⟩ := List.mem_map.1 h1
    rw [← e]
    exact hm.ent y hy, by
    have h1 : (m'.map Prod.snd).Pairwise apE := List.pairwise_map.2 hm.dis
    exact List.pairwise_map.1 (h1.sublist h)⟩
theorem WkM.swap {x y : Nat × Ent} {l m : Mem} (h : WkM (y :: x :: l) m) : WkM (x :: y :: l) m := fun X Z s0 R s hm => h X Z s0 R s
  ⟨hm.fr, hm.nx, hm.fl, fun z hz => hm.ent z (by simp only [List.mem_cons] at hz ⊢; rcases hz with h | h | h <;> simp [h]), by
    have h1 := List.pairwise_cons.1 hm.dis
    have h2 := List.pairwise_cons.1 h1.2
    refine List.pairwise_cons.2 ⟨fun z hz => ?_, List.pairwise_cons.2 ⟨fun z hz => h1.1 z (by simp [hz]), h2.2⟩⟩
    rcases List.mem_cons.1 hz with rfl | hz
    · exact (h1.1 y (by simp)).symm
    · exact h2.1 z hz⟩
theorem WkM.swapR {x y : Nat × Ent} {l m' : Mem} (h : WkM m' (y :: x :: l)) : WkM m' (x :: y :: l) := h.trans (WkM.swap (WkM.refl _))
theorem SeesM.push {m m0 : Mem} (x : Nat × Ent) (h : SeesM m m0) : SeesM (x :: m) m0 := fun X Z s0 R s hm => h X Z s0 R s (WkM.drop (WkM.refl m) X Z s0 R s hm)
theorem SeesM.wk {m' m m0 : Mem} (w : WkM m' m) (h : SeesM m m0) : SeesM m' m0 := fun X Z s0 R s hm => h X Z s0 R s (w X Z s0 R s hm)
/-- the same arguments, said otherwise -/
theorem callS.cast {call : CallT} {fv fv' : SV} {args args' : List SV} {m : Mem} {R ni : Nat} {K : SV → Mem → Nat → Nat → Prop} (hf : den fv = den fv') (ha : dens args = dens args') (h : callS call fv' args' m R ni K) : callS call fv args m R ni K := ⟨by rw [hf, ha]; exact h.run⟩
/-- the same end, said otherwise -/
theorem callS.mono {call : CallT} {fv : SV} {args : List SV} {m : Mem} {R ni : Nat} {Q K : SV → Mem → Nat → Nat → Prop} (h : callS call fv args m R ni Q) (hQ : ∀ w m' R' n', Q w m' R' n' → K w m' R' n') : callS call fv args m R ni K :=
  ⟨fun X Z s0 s hm Kr r hK => h.run X Z s0 s hm Kr r fun w m' R' ni' s' hm' hq => hK w m' R' ni' s' hm' (hQ w m' R' ni' hq)⟩
/-- a call whose memory says more than is asked -/
theorem callS.wk {call : CallT} {fv : SV} {args : List SV} {m m0 : Mem} {R ni : Nat} {K : SV → Mem → Nat → Nat → Prop} (w : WkM m m0) (h : callS call fv args m0 R ni K) : callS call fv args m R ni K :=
  ⟨fun X Z s0 s hm Kr r hK => h.run X Z s0 s (w X Z s0 R s hm) Kr r hK⟩
/-- with more names -/
theorem callS.less {call : CallT} {fv : SV} {args : List SV} {m : Mem} {R' R ni : Nat} {K : SV → Mem → Nat → Nat → Prop} (hle : R' ≤ R) (h : callS call fv args m R' ni K) : callS call fv args m R ni K :=
  ⟨fun X Z s0 s hm Kr r hK => h.run X Z s0 s (hm.more hle) Kr r hK⟩
theorem takeR_add {N R : Nat} {K : Nat → Prop} (h : K R) : takeR N (addL R N) K := by
  induction N with
  | zero => exact h
  | succ N ih => exact ih
/-- names enough -/
theorem takeR_le {N R : Nat} {K : Nat → Prop} (hle : N ≤ R) (h : K (R - N)) : takeR N R K := by
  have := takeR_add (N := N) (R := R - N) h
  rw [addL_eq, Nat.sub_add_cancel hle] at this
  exact this
/-- a call that gives a value over some memory, and leaves it -/
def ValC (call : CallT) (fv : SV) (args : List SV) (m : Mem) (N : Nat) (v : SV) : Prop := ∀ R, callS call fv args m (addL R N) 100 fun w m' R' _ => den w = den v ∧ WkM m' m ∧ R ≤ R'
theorem call_val {call : CallT} {fv : SV} {args : List SV} {m : Mem} {N : Nat} {v : SV} (h : ValC call fv args m N v) {R ni : Nat} {K : SV → Mem → Nat → Nat → Prop} (hK : takeR N R fun R => K v m R ni) : callS call fv args m R ni K := by
  obtain ⟨hR, hK⟩ := takeR_inv hK
  have h1 := h (R - N)
  rw [addL_eq, Nat.sub_add_cancel hR] at h1
  exact call_post h1 fun w m' R' n' hq => ⟨v, m, R - N, ni, hq.1, hq.2.1, hq.2.2, hK⟩
theorem ValC.more {call : CallT} {fv : SV} {args : List SV} {m : Mem} {N N' : Nat} {v : SV} (h : ValC call fv args m N v) (hle : N ≤ N') : ValC call fv args m N' v := fun R => by
  have h1 := h (R + (N' - N))
  rw [addL_eq, show R + (N' - N) + N = addL R N' by rw [addL_eq]; omega] at h1
  exact h1.mono fun w m' R' _ hq => ⟨hq.1, hq.2.1, by omega⟩
theorem ValC.cast {call : CallT} {fv fv' : SV} {args args' : List SV} {m : Mem} {N : Nat} {v v' : SV} (hf : den fv = den fv') (ha : dens args = dens args') (hv : den v = den v') (h : ValC call fv' args' m N v') : ValC call fv args m N v := fun R => by
  rw [hv]; exact callS.cast hf ha (h R)
theorem PureC.val {call : CallT} {g : FuncId} {args : List SV} {N : Nat} {v : SV} (h : PureC call g args N v) (m : Mem) : ValC call (.fn g [] []) args m N v := fun R => call_post (h m R) fun w m' R' _ hq => ⟨w, m', R', 0, rfl, WkM.refl _, Nat.le_refl _, hq⟩
/-- what only reads some memory does so over any memory that shows it -/
theorem ReadC.val {call : CallT} {g : FuncId} {args args0 : List SV} {m0 m : Mem} {N : Nat} {v : SV} (h : ReadC call g args0 m0 N v) (ha : dens args = dens args0) (hs : SeesM m m0) : ValC call (.fn g [] []) args m N v := fun R => by
  refine call_read h ha hs (takeR_add ?_)
  exact ⟨rfl, WkM.refl _, Nat.le_refl _⟩
theorem ValC.fs {P : Program} {F : Nat} {fs0 : LibT} {w d : Nat} {g : FuncId} (hg : Nat.beq g w = false) (hg2 : memF g fs0.nums = false) {fs args cs l : List SV} (hl : l = fs ++ args ++ cs) {m : Mem} {N : Nat} {v : SV} (h : ValC (callF P F (extX fs0 w) (d + 1)) (.fn g [] []) l m N v) : ValC (callF P F (extX fs0 w) (d + 1)) (.fn g fs cs) args m N v := fun R => call_fs hg hg2 hl (h R)
theorem SeesE.ro_congr {m : Mem} {a : Option Addr} {n c sz : Nat} {f g : Nat → List SV} (h : SeesE m (.ro a n c sz f)) (hc : ∀ j, j < n → f j = g j) : SeesE m (.ro a n c sz g) := fun X Z s0 R s hm => by
  have he := (h X Z s0 R s hm).1
  refine ⟨⟨fun j hj => by rw [← hc j hj]; exact he.1 j hj, ?_⟩, fun b hb => hb⟩
  rw [← slL_congr hc]; exact he.2
/-- a slice that has grown is only read from now on -/
theorem WkM.gr_ro {m' m : Mem} {i j n e sz c : Nat} {a : Option Addr} {f g : Nat → List SV} (hc : ∀ j, j < n → f j = g j) (h : WkM m' ((i, .gr a n e sz f) :: m)) (hc2 : c = 0 ∨ c = e + 1 := by first | exact .inl rfl | exact .inr rfl) : WkM m' ((j, .ro a n c sz g) :: m) :=
  h.trans (WkL.wk (WkM.keep (e := .gr a n e sz f) (e' := .ro a n c sz g) ⟨rfl, rfl, rfl, hc2, hc⟩ (WkL.refl m)))
/-- a call that reads some memory and lays a slice of its own -/
theorem call_fresh {call : CallT} {g : FuncId} {args args0 : List SV} {m0 : Mem} {N : Nat} {e : TypeId} {sz : Nat} {Q : Option Addr → Nat → (Nat → List SV) → Prop} (val : Nat → Option Addr → Nat → SV) (hval : ∀ i a n, den (val 0 a n) = den (val i a n))
    (h : ∀ R, callS call (.fn g [] []) args0 m0 (addL R N) 0 fun w m' R' _ => (∃ a n f, Q a n f ∧ den w = den (val 0 a n) ∧ WkM m' [(0, .gr a n e sz f)]) ∧ R ≤ R') {m : Mem} {R ni : Nat} {K : SV → Mem → Nat → Nat → Prop}
    (ha : dens args = dens args0) (hs : SeesM m m0) (hK : takeR N R fun R => ∀ a n f, Q a n f → K (val ni a n) ((ni, .gr a n e sz f) :: m) R (ni + 1)) : callS call (.fn g [] []) args m R ni K := by
  obtain ⟨hR, hK⟩ := takeR_inv hK
  refine ⟨?_⟩
  intro X Z s0 s hm Kr r hk
  have h1 := h (R - N)
  rw [addL_eq, Nat.sub_add_cancel hR] at h1
  rw [ha]
  refine h1.run _ _ s s (hs X Z s0 R s hm) Kr r fun w m' R' ni' s' hm' hw => ?_
  obtain ⟨⟨a, n, f, hq, hd, hwk⟩, hle⟩ := hw
  rw [hd, hval ni a n]
  have hke : Keep s s' := hm'.fr.keep fun b _ h => h
  have hbase : MemOK X Z s0 (R - N) s' m := hm.step (Y := fun _ => False) (Fr.of_keep hke) (fun _ h => h.elim) (fun _ _ _ _ h => h) (fun _ _ _ _ h => h) (by have h1 := hm'.nx; omega)
  have he := (hwk _ _ _ _ _ hm').ent _ (List.mem_singleton.2 rfl)
  have hnew : ∀ b, slB (.slice a n n) b → s.nx ≤ b := fun b hb => (he.2.2 b hb).resolve_right fun h => h
  refine hk (val ni a n) ((ni, .gr a n e sz f) :: m) (R - N) (ni + 1) s' (hbase.cons ⟨he.1, he.2.1, fun b hb => .inl (Nat.le_trans hm.fr.1 (hnew b hb))⟩ fun x hx => apE_new (hm.ent x hx) (fun _ h => h) hnew) (hK a n f hq)
theorem wr_u64 {n : Int} (h1 : 0 ≤ n) (h2 : n < 18446744073709551616) : wr .u64 n = n := by
  show IntKind.u64.wrap n = n
  unfold IntKind.wrap
  have e : IntKind.u64.bits = 64 := rfl
  first
  | (simp only [e]; omega)
  | (simp [IntKind.signed, e]; omega)
end Go.Ab
namespace Go.Ab
open Go.RowKit
/-- the loops over functions in a text of code, in its order: to name their records in a loop's invariant -/
def rgs : Code → List (List Tmp × (Code × Code))
  | .seq a b => rgs a ++ rgs b
  | .cond _ a b => rgs a ++ rgs b
  | .block _ a => rgs a
  | .loop a => rgs a
  | .scope a => rgs a
  | .rangeFunc _ ps x y => (ps.toList, x, y) :: rgs y
  | _ => []
def rgsF (fn : Func) (k : Nat) : List Tmp × (Code × Code) := match fn.body with
  | some c => (rgs c).getD k ([], .skip, .skip)
  | none => ([], .skip, .skip)
/-- the record of a function's loop number k -/
def lopF (fn : Func) (k : Nat) (b : Nat) (st : LoopState) (pd : Option Code) (n : Nat) (f : Frm) (d : Nat) : Ent := .lop b st pd n f (rgsF fn k).1 (rgsF fn k).2.1 (rgsF fn k).2.2 d
/-- a round's values go into the frame -/
def pfS (n : Nat) : List Tmp → List SV → Frm → (Frm → Prop) → Prop
  | [], [], f, K => K f
  | d :: ds, v :: vs, f, K => bif Nat.blt d n then pfS n ds vs ((d, v) :: f) K else False
  | _, _, _, _ => False
theorem pfS_ok {k n : Nat} (hn : n ≤ pow8 k) : ∀ {ps : List Tmp} {vs : List SV} {f : Frm} {t : Fm Value k} {K : Frm → Prop}, FrameOK k n t f → pfS n ps vs f K → ∃ t' f', putAll k n ps (dens vs) t = some t' ∧ FrameOK k n t' f' ∧ K f'
  | [], [], f, t, K, hf, h => ⟨t, f, rfl, hf, h⟩
  | d :: ds, v :: vs, f, t, K, hf, h => by
    have h : (bif Nat.blt d n then pfS n ds vs ((d, v) :: f) K else False) := h
    cases hb : Nat.blt d n with
    | false => rw [hb] at h; exact h.elim
    | true =>
      rw [hb] at h
      obtain ⟨t', f', h1, h2, h3⟩ := pfS_ok hn (hf.put hn (blt_true hb) (v := den v) (w := v) fun _ => rfl) h
      refine ⟨t', f', ?_, h2, h3⟩
      show (bif Nat.blt d n then putAll k n ds (dens vs) ((setW k d).s (den v) t) else none) = _
      rw [hb]; exact h1
  | [], _ :: _, _, _, _, _, h => h.elim
  | _ :: _, [], _, _, _, _, h => h.elim
/-- the end of a round -/
def yE (i b : Nat) (st : LoopState) (j : Option Code) (r : Bool) (K : SV → Mem → Nat → Nat → Prop) (m : Mem) (R ni : Nat) : Prop := match getM m i with
  | some e => match e with
    | .lop b' _ _ n f ps x y d => eqS b' b (setK (.lop b' st j n f ps x y d) m i fun m => K (.bool r) m R ni)
    | _ => False
  | none => False
def rdyS (st : LoopState) (K : Prop) : Prop := match st with
  | .ready => K
  | _ => False
section
variable (P : Program) (call : CallT) (F : Nat)
/-- what 'yield' comes to -/
def yS (i b : Nat) (args : List SV) (m : Mem) (R ni : Nat) (K : SV → Mem → Nat → Nat → Prop) : Prop := match getM m i with
  | some e => match e with
    | .lop b0 _ _ n f ps asg body _ => eqS b0 b (bif Nat.ble n 32768 then pfS n ps args f fun f1 => wpC P call F n 10000 (some (i, b)) asg [] f1 m R ni ⟨fun mk f2 m2 R2 ni2 => (match getM m2 i with
        | some e => match e with
          | .lop b1 st1 pd1 n1 g1 ps1 x1 y1 d1 => eqS b1 b (rdyS st1 (setK (.lop b1 .busy pd1 n1 g1 ps1 x1 y1 d1) m2 i fun m3 => wpC P call F n 10000 (some (i, b)) body mk f2 m3 R2 ni2 ⟨fun _ _ m R ni => yE i b .ready none true K m R ni, fun e _ _ m R ni => match e with
            | .ret => yE i b .done (some .ret) false K m R ni
            | .exit id => yE i b .done (some (.exit id)) false K m R ni
            | .goto g => yE i b .done (some (.goto g)) false K m R ni⟩))
          | _ => False
        | none => False), fun _ _ _ _ _ _ => False⟩ else False)
    | _ => False
  | none => False
end
section
variable {P : Program} {X Z : Nat → Prop} {s0 : St} {call : CallT} {r : Bool} {F : Nat}
/-- a record that is changed -/
theorem MemOK.set_lop {R : Nat} {s : St} {m : Mem} (hm : MemOK X Z s0 R s m) {i b n d : Nat} {st st' : LoopState} {pd pd' : Option Code} {f : Frm} {ps : List Tmp} {x y : Code} (hi : getM m i = some (.lop b st pd n f ps x y d)) :
    ∃ t : Fm Value (lvl n), s.at b = some (.loop st pd (lvl n) n t ps x y d) ∧ s.ok b = true ∧ FrameOK (lvl n) n t f ∧ MemOK X Z s0 R (s.set b (some (.loop st' pd' (lvl n) n t ps x y d))) (setM (.lop b st' pd' n f ps x y d) m i) := by
  obtain ⟨⟨⟨q1, q2⟩, q3, t, q4, q5⟩, q6⟩ := hm.get hi
  refine ⟨t, q4, q2, q5, hm.set hi (Fr.set q3) rfl ⟨⟨⟨q1, q2⟩, q3, t, by rw [St.at_set q3, if_pos rfl], q5⟩, q6⟩ (fun b hb => hb) fun b hb => hb⟩
theorem yE_ok {i b : Nat} {st : LoopState} {j : Option Code} {q : Bool} {K : SV → Mem → Nat → Nat → Prop} {m : Mem} {R ni : Nat} {s : St} {Kr : KV} (hm : MemOK X Z s0 R s m) (hK : ∀ w m' R' ni' s', MemOK X Z s0 R' s' m' → K w m' R' ni' → Kr (den w) s' = r) (h : yE i b st j q K m R ni) : roundEnd Kr b st j q s = r := by
  unfold yE at h
  cases hi : getM m i with
  | none => rw [hi] at h; exact h.elim
  | some e =>
    rw [hi] at h
    cases e <;> (try exact h.elim)
    rename_i b' st0 pd n f ps x y d
    obtain ⟨rfl, h⟩ := h
    rw [setK_eq] at h
    obtain ⟨t, h1, h2, h3, h4⟩ := MemOK.set_lop (st' := st) (pd' := j) hm hi
    unfold roundEnd onLoop
    rw [h1]
    simp only [h2, cond_true]
    exact hK (.bool q) _ _ _ _ h4 h
theorem round_run {i b : Nat} {args : List SV} {K : SV → Mem → Nat → Nat → Prop} {m : Mem} {R ni : Nat} {s : St} {Kr : KV} (hm : MemOK X Z s0 R s m) (hK : ∀ w m' R' ni' s', MemOK X Z s0 R' s' m' → K w m' R' ni' → Kr (den w) s' = r) (h : yS P call F i b args m R ni K) : round P F call b (dens args) Kr s = r := by
  unfold yS at h
  cases hi : getM m i with
  | none => rw [hi] at h; exact h.elim
  | some e =>
    rw [hi] at h
    cases e <;> (try exact h.elim)
    rename_i b0 st pd n f ps asg body d
    obtain ⟨hb, h⟩ := h
    subst hb
    cases hn : Nat.ble n 32768 with
    | false => rw [hn] at h; exact h.elim
    | true =>
      rw [hn] at h
      simp only [cond_true] at h
      have hn8 := le_lvl n (ble_true hn)
      obtain ⟨⟨⟨q1, q2⟩, q3, t, q4, q5⟩, q6⟩ := hm.get hi
      obtain ⟨t1, f1, g1, g2, g3⟩ := pfS_ok hn8 q5 h
      unfold round onLoop
      rw [q4]
      simp only [q2, cond_true, g1]
      refine wpC_ok hn8 10000 (some (i, b0)) asg g2 hm ?_ ?_ g3
      · intro mk f2 t2 m2 R2 ni2 s2 hf2 hm2 hk
        simp only at hk
        cases hi2 : getM m2 i with
        | none => rw [hi2] at hk; exact hk.elim
        | some e2 =>
          rw [hi2] at hk
          cases e2 <;> (try exact hk.elim)
          rename_i b1 st1 pd1 n1 gg1 ps1 x1 y1 d1
          obtain ⟨hb1, hk⟩ := hk
          subst hb1
          unfold rdyS at hk
          cases st1 <;> (try exact hk.elim)
          simp only at hk
          rw [setK_eq] at hk
          obtain ⟨t3, h1, h2, h3, h4⟩ := MemOK.set_lop (st' := .busy) (pd' := pd1) hm2 hi2
          dsimp only
          rw [h1]
          simp only [h2, cond_true]
          refine wpC_ok hn8 10000 (some (i, b1)) body hf2 h4 ?_ ?_ hk
          · intro _ _ _ _ _ _ _ _ hm5 hk5
            exact yE_ok hm5 hK hk5
          · intro e _ _ _ _ _ _ _ _ hm5 hk5
            cases e with
            | ret => exact yE_ok hm5 hK hk5
            | exit _ => exact yE_ok hm5 hK hk5
            | goto _ => exact yE_ok hm5 hK hk5
      · intro _ _ _ _ _ _ _ _ _ _ hk
        exact hk.elim
theorem callF_By {fs0 : LibT} {w : FuncId} {d b : Nat} (args : List Value) (Kr : KV) (s : St) : callF P F (extX fs0 w) (d + 1) (.func (.yield b) ⟨[]⟩ ⟨[]⟩) args Kr s = round P F (callF P F (extX fs0 w) d) b args Kr s := by
  show fs0.ext (extK w true _) _ _ _ _ = _
  rw [fs0.yld]
  rfl
/-- A CALL OF 'yield': a round -/
theorem call_yield {fs0 : LibT} {w : FuncId} {d i b : Nat} {args : List SV} {m : Mem} {R ni : Nat} {K : SV → Mem → Nat → Nat → Prop} (h : yS P (callF P F (extX fs0 w) d) F i b args m R ni K) : callS (callF P F (extX fs0 w) (d + 1)) (.yf i b) args m R ni K := by
  refine ⟨?_⟩
  intro X Z s0 s hm Kr r hK
  show callF P F (extX fs0 w) (d + 1) (.func (.yield b) ⟨[]⟩ ⟨[]⟩) (dens args) Kr s = r
  rw [callF_By]
  exact round_run hm hK h
end
end Go.Ab
set_option linter.unusedVariables false
set_option linter.unusedSimpArgs false
namespace Go.Ab
open Go.RowKit
theorem addL_rec (R l : Nat) : (Nat.rec (motive := fun _ => Nat) R (fun _ x => Nat.succ x) l : Nat) = R + l := addL_eq R l
/-- memory in another order -/
theorem WkM.perm {m' m : Mem} (h : m'.Perm m) : WkM m' m := fun X Z s0 R s hm =>
  ⟨hm.fr, hm.nx, hm.fl, fun x hx => hm.ent x (h.mem_iff.2 hx), (h.pairwise_iff fun a => a.symm).1 hm.dis⟩
theorem WkM.comm (a b : Mem) : WkM (a ++ b) (b ++ a) := WkM.perm List.perm_append_comm
/-- an entry put last, under another number -/
theorem WkM.mid (l1 l2 : Mem) (i j : Nat) (e : Ent) : WkM (l1 ++ (j, e) :: l2) (l1 ++ l2 ++ [(i, e)]) :=
  (WkM.sub (m' := l1 ++ (j, e) :: l2) (m := l1 ++ (i, e) :: l2) (by simp)).trans ((WkM.perm List.perm_middle).trans (WkM.perm (m := l1 ++ l2 ++ [(i, e)]) (List.perm_append_comm (l₁ := [(i, e)]))))
theorem WkM.cons_app {m' m1 m2 : Mem} {x : Nat × Ent} (h : WkM m' (m1 ++ x :: m2)) : WkM m' (x :: (m1 ++ m2)) := h.trans (WkM.perm List.perm_middle)
/-- an entry, picked out -/
inductive Pick (e : Ent) : Mem → Mem → Prop
  | here {j : Nat} {M : Mem} : Pick e ((j, e) :: M) M
  | there {x : Nat × Ent} {M M' : Mem} : Pick e M M' → Pick e (x :: M) (x :: M')
/-- entries out of others, in any order, under any numbers -/
inductive Sel : Mem → Mem → Prop
  | nil {M : Mem} : Sel M []
  | all {M : Mem} : Sel M M
  | left {m r : Mem} : Sel (m ++ r) m
  | cons {i : Nat} {e : Ent} {M M' m : Mem} : Pick e M M' → Sel M' m → Sel M ((i, e) :: m)
  | consw {i : Nat} {e e' : Ent} {M M' m : Mem} : Pick e M M' → wkE e e' → Sel M' m → Sel M ((i, e') :: m)
  | snoc {i : Nat} {e : Ent} {M M' m : Mem} : Pick e M M' → Sel M' m → Sel M (m ++ [(i, e)])
  | drop {x : Nat × Ent} {M m : Mem} : Sel M m → Sel (x :: M) m
theorem Pick.perm {e : Ent} {M M' : Mem} (h : Pick e M M') : (M.map Prod.snd).Perm (e :: M'.map Prod.snd) := by
  induction h with
  | here => exact .refl _
  | there _ ih => exact (ih.cons _).trans (.swap _ _ _)
theorem WkL.trans {a b c : Mem} (h : WkL a b) (k : WkL b c) : WkL a c := fun X Z s0 R s hm => by
  obtain ⟨h1, h2⟩ := h X Z s0 R s hm
  obtain ⟨k1, k2⟩ := k X Z s0 R s h1
  refine ⟨k1, fun y hy => ?_⟩
  obtain ⟨x, hx, q1, q2⟩ := k2 y hy
  obtain ⟨w, hw, r1, r2⟩ := h2 x hx
  exact ⟨w, hw, fun b hb => r1 b (q1 b hb), fun b hb => (q2 b hb).elim (fun h => .inl (r1 b h)) (r2 b)⟩
theorem WkL.ofSub {M m : Mem} (h : WkM M m) (hs : ∀ y ∈ m, ∃ x ∈ M, x.2 = y.2) : WkL M m := fun X Z s0 R s hm =>
  ⟨h X Z s0 R s hm, fun y hy => by
    obtain ⟨x, hx, e⟩ := hs y hy
    exact ⟨x, hx, by rw [e]; exact fun _ h => h, by rw [e]; exact fun _ h => .inr h⟩⟩
theorem WkL.perm {M m : Mem} (h : (M.map Prod.snd).Perm (m.map Prod.snd)) : WkL M m := by
  refine WkL.ofSub (fun X Z s0 R s hm => ⟨hm.fr, hm.nx, hm.fl, fun x hx => ?_, List.pairwise_map.1 ((h.pairwise_iff fun a => a.symm).1 (List.pairwise_map.2 hm.dis))⟩) fun y hy => ?_
  · obtain ⟨y, hy, e⟩ := List.mem_map.1 (h.mem_iff.2 (List.mem_map.2 ⟨x, hx, rfl⟩))
    rw [← e]; exact hm.ent y hy
  · obtain ⟨x, hx, e⟩ := List.mem_map.1 (h.mem_iff.2 (List.mem_map.2 ⟨y, hy, rfl⟩))
    exact ⟨x, hx, e⟩
theorem WkL.keepE {i j : Nat} {e e' : Ent} {l m : Mem} (he : ∀ X Z s0 s, EntOK X Z s0 s e → EntOK X Z s0 s e' ∧ (∀ b, fpE e' b → fpE e b) ∧ ∀ b, rdE e' b → fpE e b ∨ rdE e b) (h : WkL l m) : WkL ((i, e) :: l) ((j, e') :: m) := by
  intro X Z s0 R s hm
  have hp := List.pairwise_cons.1 hm.dis
  obtain ⟨h1, h2⟩ := h X Z s0 R s ⟨hm.fr, hm.nx, hm.fl, fun y hy => hm.ent y (by simp [hy]), hp.2⟩
  obtain ⟨g1, g2, g3⟩ := he X Z s0 s (hm.ent (i, e) (by simp))
  refine ⟨h1.cons g1 fun y hy => ?_, fun y hy => ?_⟩
  · obtain ⟨x, hx, q1, q2⟩ := h2 y hy
    have ha := hp.1 x hx
    refine ⟨fun b hb hb' => ha.1 b (g2 b hb) (q1 b hb'), fun b hb hb' => ?_, fun b hb hb' => ?_⟩
    · rcases q2 b hb' with h | h
      · exact ha.1 b (g2 b hb) h
      · exact ha.2.1 b (g2 b hb) h
    · rcases g3 b hb with h | h
      · exact ha.1 b h (q1 b hb')
      · exact ha.2.2 b h (q1 b hb')
  · rcases List.mem_cons.1 hy with rfl | hy
    · exact ⟨(i, e), by simp, g2, g3⟩
    · obtain ⟨x, hx, q⟩ := h2 y hy
      exact ⟨x, by simp [hx], q⟩
theorem Pick.wl {e : Ent} {M M' : Mem} (h : Pick e M M') : WkL M ((0, e) :: M') := WkL.perm h.perm
theorem Sel.wl {M m : Mem} (h : Sel M m) : WkL M m := by
  induction h with
  | nil => exact WkL.nil _
  | all => exact WkL.refl _
  | @left m r =>
    refine WkL.ofSub (fun X Z s0 R s hm => ⟨hm.fr, hm.nx, hm.fl, fun x hx => hm.ent x (List.mem_append_left _ hx), (List.pairwise_append.1 hm.dis).1⟩) fun y hy => ⟨y, List.mem_append_left _ hy, rfl⟩
  | cons p _ ih => exact p.wl.trans (WkL.keepE (fun _ _ _ _ h => ⟨h, fun _ h => h, fun _ h => .inr h⟩) ih)
  | consw p w _ ih => exact p.wl.trans (WkL.keepE (fun _ _ _ _ h => wkE_ok w h) ih)
  | @snoc i e M M' m p _ ih => exact (p.wl.trans (WkL.keepE (j := i) (fun _ _ _ _ h => ⟨h, fun _ h => h, fun _ h => .inr h⟩) ih)).trans (WkL.perm (List.Perm.map _ (List.perm_append_comm (l₁ := [(i, e)]))))
  | drop _ ih => exact ih.drop
theorem Sel.wk {M m : Mem} (h : Sel M m) : WkM M m := h.wl.wk
/-- the number of the next entry is a name only -/
theorem callS.ni {call : CallT} {fv : SV} {args : List SV} {m : Mem} {R ni : Nat} {K : SV → Mem → Nat → Nat → Prop} (ni2 : Nat) (h : callS call fv args m R ni2 K) : callS call fv args m R ni K := ⟨h.run⟩
/-- a function that is looped over: it hands on the values L 0 .. L (len - 1), one after the other, as long as it is told to go on; it keeps memory 'me' of its own, and whatever holds of the other memory from round to round. N: names for itself, c: names for one round -/
def IterC (callR callI : CallT) (fv : SV) (me : Mem) (N c : Nat) (len : Nat) (L : Nat → List SV) : Prop :=
  ∀ (i b : Nat) (I : Nat → Mem → Prop) (Q : Mem → Prop),
    (∀ k, k < len → ∀ m, I k m → ∀ (me' : Mem) R, callS callR (.yf i b) (L k) (m ++ me') (addL R c) 500 fun w m' R' _ => R ≤ R' ∧ ∃ m1, WkM m' (m1 ++ me') ∧ ((den w = .bool true ∧ I (k + 1) m1) ∨ (den w = .bool false ∧ Q m1))) →
    ∀ m, I 0 m → ∀ R, callS callI fv [.yf i b] (me ++ m) (addL R N) 500 fun _ m' R' _ => R ≤ R' ∧ ∃ m1, WkM m' (m1 ++ me) ∧ (I len m1 ∨ Q m1)
/-- a loop over such a function, from its record on -/
theorem call_iter {callR callI : CallT} {fv fv' : SV} {me : Mem} {N c len : Nat} {L : Nat → List SV} (h : IterC callR callI fv me N c len L) (I : Nat → Mem → Prop) (Q : Mem → Prop) (m0 : Mem) (R2 : Nat) {i b : Nat} {m : Mem} {R ni : Nat} {K : SV → Mem → Nat → Nat → Prop}
    (hfv : den fv' = den fv) (hw : WkM m (m0 ++ me)) (h0 : I 0 m0)
    (hr : ∀ k, k < len → ∀ m, I k m → ∀ (me' : Mem) R, callS callR (.yf i b) (L k) (m ++ me') (addL R c) 500 fun w m' R' _ => R ≤ R' ∧ ∃ m1, WkM m' (m1 ++ me') ∧ ((den w = .bool true ∧ I (k + 1) m1) ∨ (den w = .bool false ∧ Q m1)))
    (hN : R2 + N ≤ R) (hK : ∀ w m1, I len m1 ∨ Q m1 → K w (m1 ++ me) R2 ni) : callS callI fv' [.yf i b] m R ni K := by
  refine callS.cast (fv' := fv) (args' := [.yf i b]) hfv rfl ?_
  refine callS.wk (hw.trans (WkM.comm _ _)) ?_
  have h1 := h i b I Q hr m0 h0 (R - N)
  rw [addL_eq, Nat.sub_add_cancel (by omega)] at h1
  exact call_post h1 fun w m' R' n' ⟨hR, m1, hw1, hI⟩ => ⟨w, m1 ++ me, R2, ni, rfl, hw1, by omega, hK w m1 hI⟩
/-- in such a function: a value is handed on -/
theorem call_round {callR : CallT} {c i b k : Nat} {L : List SV} {I : Nat → Mem → Prop} {Q : Mem → Prop} {m : Mem} (hI : I k m)
    (hr : ∀ m, I k m → ∀ (me' : Mem) R, callS callR (.yf i b) L (m ++ me') (addL R c) 500 fun w m' R' _ => R ≤ R' ∧ ∃ m1, WkM m' (m1 ++ me') ∧ ((den w = .bool true ∧ I (k + 1) m1) ∨ (den w = .bool false ∧ Q m1)))
    (me' : Mem) (R2 : Nat) {args : List SV} {M : Mem} {R ni : Nat} {K : SV → Mem → Nat → Nat → Prop} (ha : dens args = dens L) (hw : WkM M (me' ++ m)) (hN : R2 + c ≤ R)
    (ht : ∀ m1, I (k + 1) m1 → K (.bool true) (me' ++ m1) R2 ni) (hf : ∀ m1, Q m1 → K (.bool false) (me' ++ m1) R2 ni) : callS callR (.yf i b) args M R ni K := by
  refine callS.cast (fv' := .yf i b) (args' := L) rfl ha ?_
  refine callS.wk (hw.trans (WkM.comm _ _)) ?_
  have h1 := hr m hI me' (R - c)
  rw [addL_eq, Nat.sub_add_cancel (by omega)] at h1
  refine call_post h1 fun w m' R' n' ⟨hR, m1, hw1, h2⟩ => ?_
  rcases h2 with ⟨e, h2⟩ | ⟨e, h2⟩
  · exact ⟨.bool true, me' ++ m1, R2, ni, e, hw1.trans (WkM.comm _ _), by omega, ht m1 h2⟩
  · exact ⟨.bool false, me' ++ m1, R2, ni, e, hw1.trans (WkM.comm _ _), by omega, hf m1 h2⟩
/-- calls that take names in one piece -/
theorem call_readL {call : CallT} {g : FuncId} {args args0 : List SV} {m0 : Mem} {N : Nat} {v : SV} (h : ReadC call g args0 m0 N v) (R2 : Nat) {m : Mem} {R ni : Nat} {K : SV → Mem → Nat → Nat → Prop} (ha : dens args = dens args0) (hs : SeesM m m0) (hN : R2 + N ≤ R) (hK : K v m R2 ni) : callS call (.fn g [] []) args m R ni K :=
  callS.less (R' := addL R2 N) (by rw [addL_eq]; exact hN) (call_read h ha hs (takeR_add hK))
theorem call_pureL {P : Program} {F : Nat} {fs0 : LibT} {w d : Nat} {g : FuncId} {args : List SV} {N : Nat} {v : SV} (h : PureC (callF P F (extX fs0 w) d) g args N v) (R2 : Nat) {m : Mem} {R ni : Nat} {K : SV → Mem → Nat → Nat → Prop} (hN : R2 + N ≤ R) (hK : K v m R2 ni) : callS (callF P F (extX fs0 w) d) (.fn g [] []) args m R ni K :=
  callS.less (R' := addL R2 N) (by rw [addL_eq]; exact hN) (call_pure h (takeR_add hK))
/-- a call that reads some memory and lays slices of its own -/
theorem call_freshL {call : CallT} {g : FuncId} {args args0 : List SV} {m0 : Mem} {N : Nat} (Q : SV → Mem → Prop)
    (h : ∀ R, callS call (.fn g [] []) args0 m0 (addL R N) 0 fun w m' R' _ => (∃ w0 mf, Q w0 mf ∧ den w = den w0 ∧ WkM m' mf) ∧ R ≤ R') (hmf : ∀ w0 mf, Q w0 mf → ∀ x ∈ mf, ∃ a n e sz f, x.2 = .gr a n e sz f) (R2 : Nat) {m : Mem} {R ni : Nat} {K : SV → Mem → Nat → Nat → Prop}
    (ha : dens args = dens args0) (hs : SeesM m m0) (hN : R2 + N ≤ R) (hK : ∀ w0 mf, Q w0 mf → K w0 (mf ++ m) R2 ni) : callS call (.fn g [] []) args m R ni K := by
  refine ⟨?_⟩
  intro X Z s0 s hm Kr r hk
  have h1 := h (R - N)
  rw [addL_eq, Nat.sub_add_cancel (by omega)] at h1
  rw [ha]
  refine h1.run _ _ s s (hs X Z s0 R s hm) Kr r fun w m' R' ni' s' hm' hw => ?_
  obtain ⟨⟨w0, mf, hq, hd, hwk⟩, hle⟩ := hw
  rw [hd]
  have hke : Keep s s' := hm'.fr.keep fun b _ h => h
  have hbase : MemOK X Z s0 R2 s' m := (hm.more (show R2 ≤ R by omega)).step (Y := fun _ => False) (Fr.of_keep hke) (fun _ h => h.elim) (fun _ _ _ _ h => h) (fun _ _ _ _ h => h) (by have h1 := hm'.nx; omega)
  have hm2 := hwk _ _ _ _ _ hm'
  refine hk w0 (mf ++ m) R2 ni s' ⟨hbase.fr, hbase.nx, hbase.fl, fun x hx => ?_, List.pairwise_append.2 ⟨hm2.dis, hbase.dis, fun x hx y hy => ?_⟩⟩ (hK w0 mf hq)
  · rcases List.mem_append.1 hx with hx | hx
    · have he := hm2.ent x hx
      obtain ⟨a, n, e, sz, f, ex⟩ := hmf w0 mf hq x hx
      rw [ex] at he ⊢
      exact ⟨he.1, he.2.1, fun b hb => .inl (Nat.le_trans hm.fr.1 ((he.2.2 b hb).resolve_right fun h => h))⟩
    · exact hbase.ent x hx
  · have he := hm2.ent x hx
    obtain ⟨a, n, e, sz, f, ex⟩ := hmf w0 mf hq x hx
    rw [ex] at he ⊢
    exact apE_new (hm.ent y hy) (fun _ h => h) fun b hb => (he.2.2 b hb).resolve_right fun h => h
/-! families of slices that are only read -/
theorem MemOK.swapIn {X Z : Nat → Prop} {s0 s : St} {R : Nat} {m m' : Mem} (h : MemOK X Z s0 R s m) (he : ∀ x ∈ m', EntOK X Z s0 s x.2) (hd : m'.Pairwise fun x y => apE x.2 y.2) : MemOK X Z s0 R s m' := ⟨h.fr, h.nx, h.fl, he, hd⟩
theorem WkM.fam0 {m' m : Mem} {i c sz : Nat} (h : WkM m' m) : WkM m' ((i, .fam c sz []) :: m) := fun X Z s0 R s hm =>
  (h X Z s0 R s hm).cons (fun _ hx => by cases hx) fun _ _ => ⟨fun _ hb => hb.elim, fun _ hb => hb.elim, fun _ ⟨_, hx, _⟩ => by cases hx⟩
theorem WkM.famApp {m' m : Mem} {i j k c sz : Nat} {l l' : List Row} (h : WkM m' ((i, .fam c sz l) :: (j, .fam c sz l') :: m)) : WkM m' ((k, .fam c sz (l ++ l')) :: m) := fun X Z s0 R s hm => by
  have h1 := h X Z s0 R s hm
  have h2 := List.pairwise_cons.1 h1.dis
  have h3 := List.pairwise_cons.1 h2.2
  refine h1.swapIn (fun x hx => ?_) (List.pairwise_cons.2 ⟨fun y hy => ⟨fun _ hb => hb.elim, fun _ hb => hb.elim, fun b hb => ?_⟩, h3.2⟩)
  · rcases List.mem_cons.1 hx with rfl | hx
    · intro x hx
      rcases List.mem_append.1 hx with hx | hx
      · exact h1.ent (i, .fam c sz l) (by simp) x hx
      · exact h1.ent (j, .fam c sz l') (by simp) x hx
    · exact h1.ent x (by simp [hx])
  · obtain ⟨r, hr, q⟩ := hb
    rcases List.mem_append.1 hr with hr | hr
    · exact (h2.1 y (by simp [hy])).2.2 b ⟨r, hr, q⟩
    · exact (h3.1 y hy).2.2 b ⟨r, hr, q⟩
theorem WkM.fam1 {m' m : Mem} {j k c sz n cp : Nat} {a : Option Addr} {f : Nat → List SV} (h : WkM m' ((j, .ro a n c sz f) :: m)) : WkM m' ((k, .fam c sz [(a, n, cp, f)]) :: m) := fun X Z s0 R s hm => by
  have h1 := h X Z s0 R s hm
  have h2 := List.pairwise_cons.1 h1.dis
  refine h1.swapIn (fun x hx => ?_) (List.pairwise_cons.2 ⟨fun y hy => ⟨fun _ hb => hb.elim, fun _ hb => hb.elim, fun b hb => ?_⟩, h2.2⟩)
  · rcases List.mem_cons.1 hx with rfl | hx
    · intro x hx
      rw [List.mem_singleton.1 hx]
      exact h1.ent (j, .ro a n c sz f) (by simp)
    · exact h1.ent x (by simp [hx])
  · obtain ⟨r, hr, q⟩ := hb
    rw [List.mem_singleton.1 hr] at q
    exact (h2.1 y hy).2.2 b q
theorem WkM.famGet {m' m : Mem} {i j c sz : Nat} {l : List Row} {r : Row} (hr : r ∈ l) (h : WkM m' ((i, .fam c sz l) :: m)) : WkM m' ((j, .ro r.1 r.2.1 c sz r.2.2.2) :: (i, .fam c sz l) :: m) := fun X Z s0 R s hm => by
  have h1 := h X Z s0 R s hm
  have h2 := List.pairwise_cons.1 h1.dis
  refine h1.swapIn (fun x hx => ?_) (List.pairwise_cons.2 ⟨fun y hy => ⟨fun _ hb => hb.elim, fun _ hb => hb.elim, fun b hb => ?_⟩, h1.dis⟩)
  · rcases List.mem_cons.1 hx with rfl | hx
    · exact h1.ent (i, .fam c sz l) (by simp) r hr
    · exact h1.ent x hx
  · rcases List.mem_cons.1 hy with rfl | hy
    · exact fun h => h
    · exact (h2.1 y hy).2.2 b ⟨r, hr, hb⟩
end Go.Ab
set_option linter.unusedVariables false
set_option linter.unusedSimpArgs false
namespace Go.Ab
open Go.RowKit Go.ChangeShapes
theorem ReadC.more {call : CallT} {g : FuncId} {args : List SV} {m0 : Mem} {N N' : Nat} {v : SV} (h : ReadC call g args m0 N v) (hle : N ≤ N') : ReadC call g args m0 N' v := fun R => by
  have h1 := h (R + (N' - N))
  rw [addL_eq, show R + (N' - N) + N = addL R N' by rw [addL_eq]; omega] at h1
  exact h1.mono fun w m' R' _ hq => ⟨hq.1, by omega⟩
/-- numbers of a kind -/
def Rk (k : IntKind) (ci : List Value) (y : Int) : Prop := ci = [.int k y] ∧ (Lit.int k y).wf = true
section
variable {P : Program} {H : Type} {enc : TypeId × Value → H} {W : World} {fuel : Nat} {t e : TypeId} {cs : List Value} {x : DataW H × List MemPlace}
theorem nums_of {k : IntKind} (ht : P.underlying t = some (.slice e)) (he : P.underlying e = some (.int k)) (hsz : P.cellsOf e = 1) (h : DataW.trod enc P W 0 (fun _ => true) true fuel t cs = some x) : ∃ v l, cs = [v] ∧ SlW W 1 (Rk k) v l := by
  have := SlW_of (R := Rk k) ht (by omega) (fun m ci y hy _ => by
    obtain ⟨n, rfl, _, hw⟩ := DataW.trod_int he hy
    exact ⟨n, rfl, hw⟩) h
  rw [hsz] at this; exact this
theorem wf_getD {k : IntKind} {v : Value} {l : List Int} (h : SlW W 1 (Rk k) v l) (h0 : (Lit.int k 0).wf = true) (j : Nat) : (Lit.int k (l.getD j 0)).wf = true := by
  rw [List.getD_eq_getElem?_getD]
  cases hj : l[j]? with
  | none => exact h0
  | some y =>
    rcases h with ⟨B, O, c, _, _, h3⟩ | ⟨h1, _⟩
    · obtain ⟨ci, h4, _⟩ := h3 j y hj
      exact h4.2
    · rw [h1] at hj; cases hj
/-- a struct of three fields of one cell each and a slice -/
theorem four_of {f0 f1 f2 f3 : Field} (ht : P.underlying t = some (.struct #[f0, f1, f2, f3])) (hc : P.cellsOf t = 4) (o0 : f0.offset = 0) (o1 : f1.offset = 1) (o2 : f2.offset = 2) (o3 : f3.offset = 3) (c0 : P.cellsOf f0.type = 1) (c1 : P.cellsOf f1.type = 1) (c2 : P.cellsOf f2.type = 1) (c3 : P.cellsOf f3.type = 1)
    (hl : cs.length = 4) (h : DataW.trod enc P W 0 (fun _ => true) true fuel t cs = some x) : ∃ a b c d y0 y1 y2 y3 n, cs = [a, b, c, d] ∧ DataW.trod enc P W 0 (fun _ => true) true n f0.type [a] = some y0 ∧ DataW.trod enc P W 0 (fun _ => true) true n f1.type [b] = some y1 ∧ DataW.trod enc P W 0 (fun _ => true) true n f2.type [c] = some y2 ∧ DataW.trod enc P W 0 (fun _ => true) true n f3.type [d] = some y3 := by
  obtain ⟨xs, n, _, _, _, hxl, hd⟩ := DataW.trod_struct ht h
  have hxl : xs.length = 4 := hxl
  match cs, hl with
  | [a, b, c, d], _ =>
    match xs, hxl with
    | [y0, y1, y2, y3], _ =>
      have h0 := hd 0 f0 rfl
      have h1 := hd 1 f1 rfl
      have h2 := hd 2 f2 rfl
      have h3 := hd 3 f3 rfl
      rw [o0, c0] at h0
      rw [o1, c1] at h1
      rw [o2, c2] at h2
      rw [o3, c3] at h3
      exact ⟨a, b, c, d, y0, y1, y2, y3, n, rfl, h0, h1, h2, h3⟩
end
theorem slL_map {k : IntKind} {l : List Int} : ∀ {n : Nat}, n ≤ l.length → slL (fun j => [.int k (l.getD j 0)]) n = (l.take n).map (Value.int k)
  | 0, _ => by simp [slL]
  | n + 1, h => by
    rw [slL, slL_map (by omega), List.take_add_one, List.map_append]
    congr 1
    rw [List.getElem?_eq_getElem (by omega)]
    show [Value.int k (l.getD n 0)] = _
    rw [List.getD_eq_getElem?_getD, List.getElem?_eq_getElem (by omega)]
    rfl
/-- a slice of numbers in the state that names its block: an entry that is only read -/
theorem named_ro {k : IntKind} {W : World} {Bs : List Nat} (hl : Bs.length ≤ 4398046511104) {v : Value} {l : List Int} (h : SlW W 1 (Rk k) v l) (hv : ∀ B ∈ blkOf v, B ∈ Bs) :
    ∃ a c, al1 Bs v = .slice a l.length c ∧ EntOK (fun _ => False) (fun _ => True) (stOf W Bs) (stOf W Bs) (.ro a l.length 0 1 fun j => [.int k (l.getD j 0)]) := by
  by_cases hn : l = []
  · obtain ⟨a, c, h1⟩ := named_len h hv
    exact ⟨a, c, h1, fun j hj => rfl, .inl (by rw [hn]; rfl)⟩
  · rcases h with ⟨B, O, c, h1, hlc, h3⟩ | ⟨h1, _⟩
    · obtain ⟨b, hb⟩ := nameIn_mem (hv B (by rw [h1]; simp [blkOf]))
      have hA := AtN_stOf hl hb (o := O) (L := l.map (Value.int k)) (by simpa using hn) fun i V hi => by
        rw [List.getElem?_map] at hi
        cases hx : l[i]? with
        | none => rw [hx] at hi; cases hi
        | some y =>
          rw [hx] at hi
          simp only [Option.map_some, Option.some.injEq] at hi; subst hi
          obtain ⟨ci, h4, _, h6⟩ := h3 i y hx
          have := h6 0 (.int k y) (by rw [h4.1]; rfl)
          rw [Nat.mul_one, Nat.add_zero] at this
          exact this
      rw [List.map_map] at hA
      have e : (l.map (al1 Bs ∘ Value.int k)) = l.map (Value.int k) := rfl
      rw [e] at hA
      refine ⟨some ⟨b, O, none⟩, c, by rw [h1]; simp only [al1, hb]; exact if_pos hlc, fun j hj => rfl, .inr ⟨b, O, rfl, ?_, .inr (.inr trivial), .inl rfl⟩⟩
      rw [slL_map (Nat.le_refl _), List.take_length]
      exact hA
    · exact absurd h1 hn
/-- a law's contract over a slice that is read: its run -/
theorem ReadC.run {P : Program} {F : Nat} {fs0 : LibT} {w d : Nat} {g : FuncId} {args : List SV} {i : Nat} {e : Ent} {N : Nat} (h : ReadC (callF P F (extX fs0 w) (d + 1)) g args [(i, e)] N (.bool true)) (hg : Nat.beq g w = false) (hg2 : memF g fs0.nums = false) {s : St} (hs : s.nx + N ≤ 4398046511104) (hf : s.fl ≤ s.nx)
    (he : EntOK (fun _ => False) (fun _ => True) s s e) : (cFun P F g).run (callF P F (extX fs0 w) d) (dens args) (isTrue true) s = true := by
  have hm : MemOK (fun _ => False) (fun _ => True) s (addL 0 N) s [(i, e)] := ⟨.refl _ _, by rw [addL_eq, Nat.zero_add]; exact hs, hf, fun x hx => by rw [List.mem_singleton.1 hx]; exact he, List.pairwise_singleton _ _⟩
  have h1 := (h 0).run _ _ s s hm (isTrue true) true fun v _ _ _ _ _ hv => by rw [hv.1]; rfl
  have h1 : callF P F (extX fs0 w) (d + 1) (.func (.func g) ⟨[]⟩ ⟨[]⟩) (dens args) (isTrue true) s = true := h1
  rw [callF_B3 hg hg2, List.nil_append, List.append_nil] at h1
  exact h1
theorem wf_0 (k : IntKind) (h : k = .i64 ∨ k = .u8) : (Lit.int k 0).wf = true := by
  rcases h with rfl | rfl <;> rfl
end Go.Ab
set_option linter.unusedVariables false
set_option linter.unusedSimpArgs false
namespace Go.Ab
open Go.RowKit Go.ChangeShapes
section
variable {P : Program} {H : Type} {enc : TypeId × Value → H} {W : World} {fuel : Nat} {t e : TypeId} {cs : List Value} {x : DataW H × List MemPlace}
/-- flat elements of a slice -/
def RF (l : List Ck) (ci y : List Value) : Prop := ci = y ∧ CksOK l y
theorem flats_of {d : Nat} {l : List Ck} (ht : P.underlying t = some (.slice e)) (hk : flatK P d e = some l) (hc : P.cellsOf e = l.length) (h0 : 0 < l.length) (h : DataW.trod enc P W 0 (fun _ => true) true fuel t cs = some x) : ∃ v ys, cs = [v] ∧ SlW W l.length (RF l) v ys := by
  have := SlW_of (R := RF l) ht (by omega) (fun m ci y hy hl => ⟨ci, rfl, flat_of hk hc (hl.trans hc) hy⟩) h
  rw [hc] at this; exact this
theorem al1_ck {Bs : List Nat} : ∀ {k : Ck} {v : Value}, CkOK k v → al1 Bs v = v := by
  intro k v h
  cases k with
  | i k => obtain ⟨n, rfl, _⟩ := h; rfl
  | b => obtain ⟨n, rfl⟩ := h; rfl
theorem al1_cks {Bs : List Nat} : ∀ {l : List Ck} {cs : List Value}, CksOK l cs → cs.map (al1 Bs) = cs
  | [], cs, h => by have h : cs = [] := h; subst h; rfl
  | k :: l, cs, h => by
    obtain ⟨v, r, rfl, h1, h2⟩ := h
    rw [List.map_cons, al1_ck h1, al1_cks h2]
theorem slL_eq {f : Nat → List SV} {sz : Nat} (hlen : ∀ j, (f j).length = sz) {n i : Nat} {V : Value} (hsz : 0 < sz) (h : (slL f n)[i]? = some V) : ∃ q r, q < n ∧ r < sz ∧ i = q * sz + r ∧ (dens (f q))[r]? = some V := by
  have hl := slL_length (f := f) (n := n) fun j _ => hlen j
  have hi : i < n * sz := by
    rcases Nat.lt_or_ge i (slL f n).length with h1 | h1
    · omega
    · rw [List.getElem?_eq_none h1] at h; cases h
  have hq : i / sz < n := (Nat.div_lt_iff_lt_mul hsz).2 hi
  have hr := Nat.mod_lt i hsz
  have he : i = i / sz * sz + i % sz := by rw [Nat.mul_comm]; exact (Nat.div_add_mod i sz).symm
  refine ⟨i / sz, i % sz, hq, hr, he, ?_⟩
  rw [he, slL_get (fun j _ => hlen j) _ _ hq hr] at h
  exact h
/-- a slice of flat elements in the state that names its block: an entry that is only read -/
theorem named_flat {Bs : List Nat} (hl : Bs.length ≤ 4398046511104) {l : List Ck} (h0 : 0 < l.length) {v : Value} {ys : List (List Value)} (h : SlW W l.length (RF l) v ys) (hv : ∀ B ∈ blkOf v, B ∈ Bs) (f : Nat → List SV) (hlen : ∀ j, (f j).length = l.length) (hf : ∀ j y, ys[j]? = some y → dens (f j) = y) (c' : Nat) :
    ∃ a c, al1 Bs v = .slice a ys.length c ∧ EntOK (fun _ => False) (fun _ => True) (stOf W Bs) (stOf W Bs) (.ro a ys.length c' l.length f) := by
  by_cases hn : ys = []
  · obtain ⟨a, c, h1⟩ := named_len h hv
    exact ⟨a, c, h1, fun j hj => hlen j, .inl (by rw [hn]; rfl)⟩
  · rcases h with ⟨B, O, c, h1, hlc, h3⟩ | ⟨h1, _⟩
    · obtain ⟨b, hb⟩ := nameIn_mem (hv B (by rw [h1]; simp [blkOf]))
      have hpos : 0 < ys.length := by cases ys with | nil => exact absurd rfl hn | cons _ _ => simp
      have hL := slL_length (f := f) (n := ys.length) fun j _ => hlen j
      have hck : ∀ q, q < ys.length → ∃ y, ys[q]? = some y ∧ dens (f q) = y ∧ CksOK l y ∧ ∀ j V, y[j]? = some V → W.cell? ⟨B, O + q * l.length + j, none⟩ = some V := fun q hq => by
        obtain ⟨ci, ⟨e1, h4⟩, _, h6⟩ := h3 q ys[q] (List.getElem?_eq_getElem hq)
        exact ⟨ys[q], List.getElem?_eq_getElem hq, hf q _ (List.getElem?_eq_getElem hq), h4, by rw [← e1]; exact h6⟩
      have hA := AtN_stOf hl hb (o := O) (L := slL f ys.length) (by
        intro e1
        rw [e1] at hL
        have : 0 < ys.length * l.length := Nat.mul_pos hpos h0
        simp at hL; omega) fun i V hi => by
        obtain ⟨q, r, hq, hr, rfl, hd⟩ := slL_eq hlen h0 hi
        obtain ⟨y, _, e2, _, h6⟩ := hck q hq
        rw [e2] at hd
        have := h6 r V hd
        rw [← Nat.add_assoc]; exact this
      have e : (slL f ys.length).map (al1 Bs) = slL f ys.length := by
        have key : ∀ n, n ≤ ys.length → (slL f n).map (al1 Bs) = slL f n := by
          intro n
          induction n with
          | zero => intro _; rfl
          | succ n ih =>
            intro hle
            obtain ⟨y, _, e2, e3, _⟩ := hck n (by omega)
            rw [slL, List.map_append, ih (by omega), e2, al1_cks e3]
        exact key _ (Nat.le_refl _)
      rw [e] at hA
      refine ⟨some ⟨b, O, none⟩, c, by rw [h1]; simp only [al1, hb]; exact if_pos hlc, fun j hj => hlen j, .inr ⟨b, O, rfl, hA, .inr (.inr trivial), .inr ?_⟩⟩
      obtain ⟨hbl, k, n, t, e1, g, h2, _⟩ := hA
      have hro : ∀ {o}, (stOf W Bs).at b = some o → isRo o = true := by
        intro o ho
        rw [stOf_at hl, nameIn_some hb, Option.bind_some] at ho
        unfold objOf at ho
        split at ho
        · cases ho; rfl
        · cases ho
      have h5 := hro h2
      refine ⟨k, n, t, e1, g, h2, .inl ?_⟩
      cases g with
      | false => rfl
      | true => simp [isRo] at h5
    · exact absurd h1 hn
/-- what a slice's elements are, in all cases -/
theorem rf_mem {l : List Ck} {v : Value} {ys : List (List Value)} (h : SlW W l.length (RF l) v ys) {j : Nat} {y : List Value} (hy : ys[j]? = some y) : CksOK l y := by
  rcases h with ⟨B, O, c, _, _, h3⟩ | ⟨h1, _⟩
  · obtain ⟨ci, h4, _⟩ := h3 j y hy
    exact h4.2
  · rw [h1] at hy; simp at hy
/-- a number among cells -/
def natAt (l : List Value) (i : Nat) : Nat := match l[i]? with
  | some (.int _ n) => n.toNat
  | _ => 0
theorem u8_nat {v : Value} (h : CkOK (.i .u8) v) : ∃ n : Nat, v = .int .u8 (Int.ofNat n) ∧ n < 256 := by
  obtain ⟨n, rfl, hw⟩ := h
  have := wf_u8 hw
  exact ⟨n.toNat, congrArg (Value.int .u8) (by show n = (n.toNat : Int); omega), by omega⟩
/-- bytes -/
theorem bytes_fn {v : Value} {ys : List (List Value)} (h : SlW W 1 (RF [.i .u8]) v ys) : ∃ t0 : Nat → Nat, (∀ j, t0 j < 256) ∧ ∀ j y, ys[j]? = some y → dens [.int .u8 (Int.ofNat (t0 j))] = y := by
  have key : ∀ j y, ys[j]? = some y → ∃ n : Nat, y = [Value.int .u8 (Int.ofNat n)] ∧ n < 256 := fun j y hy => by
    obtain ⟨v1, r1, rfl, h1, h2⟩ := rf_mem (l := [.i .u8]) h hy
    have h2 : r1 = [] := h2
    subst h2
    obtain ⟨n, rfl, hn⟩ := u8_nat h1
    exact ⟨n, rfl, hn⟩
  refine ⟨fun j => natAt (ys.getD j []) 0, fun j => ?_, fun j y hy => ?_⟩
  · show natAt (ys.getD j []) 0 < 256
    rw [List.getD_eq_getElem?_getD]
    cases hy : ys[j]? with
    | none => show natAt [] 0 < 256; decide
    | some y =>
      obtain ⟨n, rfl, hn⟩ := key j y hy
      exact hn
  · obtain ⟨n, rfl, hn⟩ := key j y hy
    show [Value.int .u8 (Int.ofNat (natAt (ys.getD j []) 0))] = _
    rw [List.getD_eq_getElem?_getD, hy]
    rfl
/-- pairs of bytes -/
theorem pairs_fn {v : Value} {ys : List (List Value)} (h : SlW W 2 (RF [.i .u8, .i .u8]) v ys) : ∃ o0 o1 : Nat → Nat, (∀ j, o0 j < 256) ∧ (∀ j, o1 j < 256) ∧ ∀ j y, ys[j]? = some y → dens [.int .u8 (Int.ofNat (o0 j)), .int .u8 (Int.ofNat (o1 j))] = y := by
  have key : ∀ j y, ys[j]? = some y → ∃ n m : Nat, y = [Value.int .u8 (Int.ofNat n), Value.int .u8 (Int.ofNat m)] ∧ n < 256 ∧ m < 256 := fun j y hy => by
    obtain ⟨v1, r1, rfl, h1, v2, r2, rfl, h2, h3⟩ := rf_mem (l := [.i .u8, .i .u8]) h hy
    have h3 : r2 = [] := h3
    subst h3
    obtain ⟨n, rfl, hn⟩ := u8_nat h1
    obtain ⟨m, rfl, hm⟩ := u8_nat h2
    exact ⟨n, m, rfl, hn, hm⟩
  refine ⟨fun j => natAt (ys.getD j []) 0, fun j => natAt (ys.getD j []) 1, fun j => ?_, fun j => ?_, fun j y hy => ?_⟩
  · show natAt (ys.getD j []) 0 < 256
    rw [List.getD_eq_getElem?_getD]
    cases hy : ys[j]? with
    | none => show natAt [] 0 < 256; decide
    | some y => obtain ⟨n, m, rfl, hn, hm⟩ := key j y hy; exact hn
  · show natAt (ys.getD j []) 1 < 256
    rw [List.getD_eq_getElem?_getD]
    cases hy : ys[j]? with
    | none => show natAt [] 1 < 256; decide
    | some y => obtain ⟨n, m, rfl, hn, hm⟩ := key j y hy; exact hm
  · obtain ⟨n, m, rfl, hn, hm⟩ := key j y hy
    show [Value.int .u8 (Int.ofNat (natAt (ys.getD j []) 0)), Value.int .u8 (Int.ofNat (natAt (ys.getD j []) 1))] = _
    rw [List.getD_eq_getElem?_getD, hy]
    rfl
end
/-- a law's contract over slices that are read: its run -/
theorem ReadC.runs {P : Program} {F : Nat} {fs0 : LibT} {w d : Nat} {g : FuncId} {args : List SV} {m0 : Mem} {N : Nat} (h : ReadC (callF P F (extX fs0 w) (d + 1)) g args m0 N (.bool true)) (hg : Nat.beq g w = false) (hg2 : memF g fs0.nums = false) {s : St} (hs : s.nx + N ≤ 4398046511104) (hf : s.fl ≤ s.nx)
    (he : ∀ x ∈ m0, EntOK (fun _ => False) (fun _ => True) s s x.2) (hr : ∀ x ∈ m0, ∀ b, ¬ fpE x.2 b) : (cFun P F g).run (callF P F (extX fs0 w) d) (dens args) (isTrue true) s = true := by
  have hm : MemOK (fun _ => False) (fun _ => True) s (addL 0 N) s m0 := ⟨.refl _ _, by rw [addL_eq, Nat.zero_add]; exact hs, hf, he, by
    clear h
    induction m0 with
    | nil => exact List.Pairwise.nil
    | cons x l ih => exact List.pairwise_cons.2 ⟨fun y hy => ⟨fun b hb => (hr x (by simp) b hb).elim, fun b hb => (hr x (by simp) b hb).elim, fun b _ hb => hr y (by simp [hy]) b hb⟩, ih (fun y hy => he y (by simp [hy])) (fun y hy => hr y (by simp [hy]))⟩⟩
  have h1 := (h 0).run _ _ s s hm (isTrue true) true fun v _ _ _ _ _ hv => by rw [hv.1]; rfl
  have h1 : callF P F (extX fs0 w) (d + 1) (.func (.func g) ⟨[]⟩ ⟨[]⟩) (dens args) (isTrue true) s = true := h1
  rw [callF_B3 hg hg2, List.nil_append, List.append_nil] at h1
  exact h1
end Go.Ab
