/- Runs over open values: contracts, frames of laws. -/
import Derived.Test.YtfcgfnlifdjfjaaEngSx
import Derived.ChangeSame
import Derived.OpenShut
import Derived.Carry
import Derived.WideShapes
import Derived.Test.YtfcgfnlifdjfjaaEngQe
namespace Go.Ab
theorem wr_id {n : Int} (h1 : -9223372036854775808 ≤ n) (h2 : n < 9223372036854775808) : wr .i64 n = n := by
  cases n with
  | ofNat m => exact wr_nat (by have h2 : (m : Int) < 9223372036854775808 := h2; omega)
  | negSucc m =>
    unfold wr
    have : m < 9223372036854775808 := by omega
    simp only [blt_of this, cond_true]
/-- a number's size -/
def Bd (n : Int) (B : Nat) : Prop := n.natAbs ≤ B
theorem Bd.mono {n : Int} {B C : Nat} (h : Bd n B) (hle : B ≤ C) : Bd n C := Nat.le_trans h hle
theorem Bd.of {n : Int} {B : Nat} (h1 : -(B : Int) ≤ n) (h2 : n ≤ B) : Bd n B := by unfold Bd; omega
theorem Bd.le {n : Int} {B : Nat} (h : Bd n B) : -(B : Int) ≤ n ∧ n ≤ B := by unfold Bd at h; omega
theorem Bd.sub {a b : Int} {A B : Nat} (h : Bd a A) (k : Bd b B) : Bd (a - b) (A + B) := by unfold Bd at *; omega
theorem Bd.add {a b : Int} {A B : Nat} (h : Bd a A) (k : Bd b B) : Bd (a + b) (A + B) := by unfold Bd at *; omega
theorem Bd.neg {a : Int} {A : Nat} (h : Bd a A) : Bd (-a) A := by unfold Bd at *; omega
theorem Bd.mul {a b : Int} {A B : Nat} (h : Bd a A) (k : Bd b B) : Bd (a * b) (A * B) := by
  unfold Bd at *
  rw [Int.natAbs_mul]
  exact Nat.mul_le_mul h k
theorem wr_sub {a b a' b' : Int} {A B : Nat} (ea : a' = a) (eb : b' = b) (h : Bd a A) (k : Bd b B) (hl : A + B < 9223372036854775808) : wr .i64 (Int.sub a' b') = a - b := by
  subst ea eb; have := (h.sub k).le; exact wr_id (n := a' - b') (by omega) (by omega)
theorem wr_add {a b a' b' : Int} {A B : Nat} (ea : a' = a) (eb : b' = b) (h : Bd a A) (k : Bd b B) (hl : A + B < 9223372036854775808) : wr .i64 (Int.add a' b') = a + b := by
  subst ea eb; have := (h.add k).le; exact wr_id (n := a' + b') (by omega) (by omega)
theorem wr_mul {a b a' b' : Int} {A B : Nat} (ea : a' = a) (eb : b' = b) (h : Bd a A) (k : Bd b B) (hl : A * B < 9223372036854775808) : wr .i64 (Int.mul a' b') = a * b := by
  subst ea eb; have := (h.mul k).le; exact wr_id (n := a' * b') (by omega) (by omega)
/-- a law: what its contract says of a run -/
theorem PureC.run {P : Program} {F : Nat} {fs0 : List FuncId} {w d : Nat} {g : FuncId} {args : List SV} {N : Nat} (h : PureC (callF P F (extX fs0 w) (d + 1)) g args N (.bool true)) (hg : Nat.beq g w = false) (hg2 : memF g fs0 = false) {s : St} (hs : s.nx + N ≤ 4398046511104) (hf : s.fl ≤ s.nx) :
    (cFun P F g).run (callF P F (extX fs0 w) d) (dens args) (isTrue true) s = true := by
  have h1 := (h [] 0).run _ _ s s (MemOK.start (R := addL 0 N) (by rw [addL_eq, Nat.zero_add]; exact hs) hf) (isTrue true) true fun v _ _ _ _ _ hv => by rw [hv.1]; rfl
  have h1 : callF P F (extX fs0 w) (d + 1) (.func (.func g) ⟨[]⟩ ⟨[]⟩) (dens args) (isTrue true) s = true := h1
  rw [callF_B3 hg hg2, List.nil_append, List.append_nil] at h1
  exact h1
theorem stOf_fl (W : World) (Bs : List Nat) : (stOf W Bs).fl ≤ (stOf W Bs).nx := by
  have h : ∀ (l : List (Option AObj)) (s : St), (l.foldl addO s).fl = s.fl := by
    intro l
    induction l with
    | nil => intro s; rfl
    | cons o l ih => intro s; rw [List.foldl_cons, ih]; rfl
  unfold stOf
  rw [h]
  exact Nat.zero_le _
end Go.Ab
namespace Go.Ab
open Go.RowKit
/-- memory, seen by a function that only reads it and names it anew -/
def SeesM (m m0 : Mem) : Prop := ∀ X Z s0 R s, MemOK X Z s0 R s m → MemOK (fun _ => False) (fun _ => True) s R s m0
theorem SeesM.nil (m : Mem) : SeesM m [] := fun X Z s0 R s h => ⟨.refl _ _, h.nx, h.fls, (fun x hx => by cases hx), List.Pairwise.nil⟩
/-- an entry that may be read -/
def SeesE (m : Mem) (e : Ent) : Prop := ∀ X Z s0 R s, MemOK X Z s0 R s m → EntOK (fun _ => False) (fun _ => True) s s e ∧ ∀ b, ¬ fpE e b
theorem SeesM.cons {m m0 : Mem} {e : Ent} (i : Nat) (h : SeesE m e) (k : SeesM m m0) (hf : ∀ X Z s0 R s, MemOK X Z s0 R s m → ∀ x ∈ m0, ∀ b, ¬ fpE x.2 b) : SeesM m ((i, e) :: m0) := fun X Z s0 R s hm =>
  (k X Z s0 R s hm).cons (h X Z s0 R s hm).1 fun x hx => ⟨fun b hb => ((h X Z s0 R s hm).2 b hb).elim, fun b hb => ((h X Z s0 R s hm).2 b hb).elim, fun b _ hb => (hf X Z s0 R s hm x hx b hb).elim⟩
theorem sees_ro {m : Mem} {i n c c' sz : Nat} {a : Option Addr} {f : Nat → List SV} (h : getM m i = some (.ro a n c sz f)) (hc : c' = 0 ∨ c' = c := by first | exact .inl rfl | exact .inr rfl) : SeesE m (.ro a n c' sz f) := fun X Z s0 R s hm => by
  have he := hm.get h
  exact ⟨⟨he.1, he.2.imp_right fun ⟨b, p, h1, h2, _, h4⟩ => ⟨b, p, h1, h2, .inr (.inr trivial), hc.elim .inl fun e => e ▸ h4⟩⟩, fun b hb => hb⟩
theorem sees_gr {m : Mem} {i n e c' sz : Nat} {a : Option Addr} {f : Nat → List SV} (h : getM m i = some (.gr a n e sz f)) (hc : c' = 0 ∨ c' = e + 1 := by first | exact .inl rfl | exact .inr rfl) : SeesE m (.ro a n c' sz f) := fun X Z s0 R s hm => by
  have he := hm.get h
  refine ⟨⟨he.1, ?_⟩, fun b hb => hb⟩
  by_cases hn : n = 0
  · exact .inl hn
  · rcases he.2.1 with ⟨h1, h2⟩ | ⟨b, q, h1, h2, h3⟩
    · cases h1; exact absurd rfl hn
    · cases h1
      exact .inr ⟨b, 0, rfl, h2.own.at, .inr (.inr trivial), hc.imp_right fun (hc : c' = e + 1) => (by rw [hc]; exact h2.ty)⟩
/-- the elements of a slice over a block of cells -/
def part (l : List SV) (o sz j : Nat) : List SV := (l.drop (Nat.add o (Nat.mul j sz))).take sz
theorem sees_own {m : Mem} {i b o n c sz : Nat} {e : TypeId} {l : List SV} (h : getM m i = some (.own b e l)) (hl : o + n * sz ≤ l.length) (hc : c = 0 ∨ c = e + 1 := by first | exact .inl rfl | exact .inr rfl) : SeesE m (.ro (some ⟨b, o, none⟩) n c sz (part l o sz)) := fun X Z s0 R s hm => by
  have he := hm.get h
  have hlen : ∀ j, j < n → (part l o sz j).length = sz := fun j hj => by
    have : (j + 1) * sz ≤ n * sz := Nat.mul_le_mul_right _ (by omega)
    rw [Nat.succ_mul] at this
    show ((l.drop (o + j * sz)).take sz).length = sz
    rw [List.length_take, List.length_drop]
    omega
  refine ⟨⟨hlen, .inr ⟨b, o, rfl, ?_, (.inr (.inr trivial)), hc.imp_right fun (hc : c = e + 1) => (by rw [hc]; exact he.1.ty)⟩⟩, fun b hb => hb⟩
  have h1 := he.1.own.at.sub (o := o) (n := n * sz) (by rw [dens_length]; omega)
  rw [Nat.zero_add] at h1
  have key : ∀ k, k ≤ n → slL (part l o sz) k = dens ((l.drop o).take (k * sz)) := by
    intro k
    induction k with
    | zero => intro _; rw [Nat.zero_mul, List.take_zero]; rfl
    | succ k ih =>
      intro hk
      rw [slL, ih (by omega), ← dens_append, Nat.succ_mul, List.take_add, List.drop_drop]
      rfl
  rw [key n (Nat.le_refl _), dens_take, dens_drop]
  exact h1
/-- a part of a slice -/
theorem sees_sb {m : Mem} {i n c c' sz b p lo k kc : Nat} {f : Nat → List SV} (h : getM m i = some (.ro (some ⟨b, p, none⟩) n c sz f) ∨ ∃ e, c = e + 1 ∧ getM m i = some (.gr (some ⟨b, p, none⟩) n e sz f)) (h0 : 0 < n) (hle : lo + k ≤ n) (hk : k ≤ kc) (hc : c' = 0 ∨ c' = c := by first | exact .inl rfl | exact .inr rfl) :
    SeesE m (.ro (some ⟨b, bif Nat.beq kc 0 then p else Nat.add p (Nat.mul lo sz), none⟩) k c' sz fun j => f (Nat.add lo j)) := fun X Z s0 R s hm => by
  have key : ∃ g : SeesE m (.ro (some ⟨b, p, none⟩) n c sz f), True := by
    rcases h with h | ⟨e, rfl, h⟩
    · exact ⟨sees_ro h (.inr rfl), trivial⟩
    · exact ⟨sees_gr h (.inr rfl), trivial⟩
  obtain ⟨g, _⟩ := key
  obtain ⟨⟨g1, g2⟩, _⟩ := g X Z s0 R s hm
  refine ⟨⟨fun j hj => g1 _ (by show lo + j < n; omega), ?_⟩, fun b hb => hb⟩
  rcases g2 with g2 | ⟨b', p', q1, g2, _, g3⟩
  · omega
  · cases q1
    by_cases hk0 : k = 0
    · exact .inl hk0
    · have hb : Nat.beq kc 0 = false := by
        cases hb : Nat.beq kc 0 with
        | false => rfl
        | true => have := beq_true hb; omega
      rw [hb]
      refine .inr ⟨b, _, rfl, ?_, .inr (.inr trivial), hc.elim .inl fun e => e ▸ g3⟩
      obtain ⟨r, rfl⟩ : ∃ r, n = lo + (k + r) := ⟨n - lo - k, by omega⟩
      have l1 : (slL f lo).length = lo * sz := slL_length fun j hj => g1 j (by omega)
      have l2 : (slL (fun j => f (lo + j)) k).length = k * sz := slL_length fun j hj => g1 _ (by omega)
      have h2 := g2.sub (o := lo * sz) (n := k * sz) (by rw [slL_length g1, Nat.add_mul, Nat.add_mul]; omega)
      rw [slL_add f lo, slL_add (fun j => f (lo + j)) k, List.drop_append, l1, List.drop_eq_nil_of_le (by omega), List.nil_append, Nat.sub_self, List.drop_zero, List.take_append, l2, Nat.sub_self, List.take_zero, List.append_nil, List.take_of_length_le (by omega)] at h2
      exact h2
/-- a function that only reads some memory, and gives a value -/
def ReadC (call : CallT) (g : FuncId) (args : List SV) (m0 : Mem) (N : Nat) (v : SV) : Prop :=
  ∀ R, callS call (.fn g [] []) args m0 (addL R N) 0 fun w _ R' _ => den w = den v ∧ R ≤ R'
theorem PureC.read {call : CallT} {g : FuncId} {args : List SV} {N : Nat} {v : SV} (h : PureC call g args N v) (m0 : Mem) : ReadC call g args m0 N v := fun R => by
  refine call_post (h m0 R) fun w m' R' n' hq => ⟨w, m', R', n', rfl, WkM.refl _, Nat.le_refl _, hq.1, hq.2.2⟩
theorem call_read {call : CallT} {g : FuncId} {args args0 : List SV} {m0 : Mem} {N : Nat} {v : SV} (h : ReadC call g args0 m0 N v) {m : Mem} {R ni : Nat} {K : SV → Mem → Nat → Nat → Prop} (ha : dens args = dens args0) (hs : SeesM m m0) (hK : takeR N R fun R => K v m R ni) : callS call (.fn g [] []) args m R ni K := by
  obtain ⟨hR, hK⟩ := takeR_inv hK
  refine ⟨?_⟩
  intro X Z s0 s hm Kr r hk
  have h1 := h (R - N)
  rw [addL_eq, Nat.sub_add_cancel hR] at h1
  rw [ha]
  refine h1.run _ _ s s (hs X Z s0 R s hm) Kr r fun w m' R' ni' s' hm' hw => ?_
  rw [hw.1]
  have hke : Keep s s' := hm'.fr.keep fun b _ h => h
  exact hk v m (R - N) ni s' (hm.step (Y := fun _ => False) (Fr.of_keep hke) (fun _ h => h.elim) (fun _ _ _ _ h => h) (fun _ _ _ _ h => h) (by have h1 := hm'.nx; have h2 := hw.2; omega)) hK
end Go.Ab
namespace Go.Ab
open Go.ChangeShapes Go.WideShapes
/-- a cell of an argument: a number or an answer -/
inductive Ck where
  | i (k : IntKind)
  | b
def repC (l : List Ck) : Nat → List Ck
  | 0 => []
  | n + 1 => l ++ repC l n
section
variable (P : Program)
mutual
def flatK : Nat → TypeId → Option (List Ck)
  | 0, _ => none
  | d + 1, t => match P.underlying t with
    | some (.int k) => some [.i k]
    | some .bool => some [.b]
    | some (.struct fs) => flatFs d fs.toList 0
    | some (.array n e) => match flatK d e with
      | some l => bif Nat.beq (P.cellsOf e) l.length then some (repC l n) else none
      | none => none
    | _ => none
def flatFs : Nat → List Field → Nat → Option (List Ck)
  | _, [], _ => some []
  | 0, _ :: _, _ => none
  | d + 1, f :: fs, o => match flatK d f.type with
    | some l => bif Nat.beq f.offset o && Nat.beq (P.cellsOf f.type) l.length then (match flatFs d fs (o + l.length) with
      | some r => some (l ++ r)
      | none => none) else none
    | none => none
end
end
def CkOK : Ck → Value → Prop
  | .i k, v => ∃ n, v = .int k n ∧ (Lit.int k n).wf = true
  | .b, v => ∃ b, v = .bool b
def CksOK : List Ck → List Value → Prop
  | [], cs => cs = []
  | k :: ks, cs => ∃ c r, cs = c :: r ∧ CkOK k c ∧ CksOK ks r
theorem CksOK.app : ∀ {l r : List Ck} {a b : List Value}, CksOK l a → CksOK r b → CksOK (l ++ r) (a ++ b)
  | [], _, _, _, h, k => by
    have h : _ = [] := h
    subst h; exact k
  | _ :: _, _, _, _, h, k => by
    obtain ⟨c, r, rfl, h1, h2⟩ := h
    exact ⟨c, _, rfl, h1, h2.app k⟩
theorem repC_length (l : List Ck) : ∀ n, (repC l n).length = n * l.length
  | 0 => by simp [repC]
  | n + 1 => by rw [repC, List.length_append, repC_length l n, Nat.succ_mul, Nat.add_comm]
section
variable {H : Type} {enc : TypeId × Value → H} {P : Program} {w : World} {base : Nat} {spare : Nat → Bool} {held : Bool}
theorem array_cells {e : TypeId} {l : List Ck} {n m : Nat} {cs : List Value} (hc : P.cellsOf e = l.length) (ih : ∀ {cs : List Value} {x : DataW H × List MemPlace}, cs.length = l.length → DataW.trod enc P w base spare held m e cs = some x → CksOK l cs)
    {xs : List (DataW H × List MemPlace)} (hx : xs.length = n) (hl : cs.length = n * l.length) (hd : ∀ i, i < n → DataW.trod enc P w base spare held m e ((cs.drop (i * P.cellsOf e)).take (P.cellsOf e)) = xs[i]?) :
    ∀ j, j ≤ n → CksOK (repC l j) ((cs.drop ((n - j) * l.length)).take (j * l.length)) := by
  intro j
  induction j with
  | zero => intro _; rw [Nat.zero_mul, List.take_zero]; rfl
  | succ j ihj =>
    intro hj
    have h1 := hd (n - (j + 1)) (by omega)
    rw [hc] at h1
    have hxi : (xs[n - (j + 1)]?) = some (xs[n - (j + 1)]'(by omega)) := List.getElem?_eq_getElem (by omega)
    rw [hxi] at h1
    have hlen : (n - (j + 1)) * l.length + (j + 1) * l.length = n * l.length := by rw [← Nat.add_mul]; congr 1; omega
    rw [Nat.succ_mul] at hlen
    have h2 := ih (by rw [List.length_take, List.length_drop]; omega) h1
    have h3 := ihj (by omega)
    have e1 : (n - j) * l.length = (n - (j + 1)) * l.length + l.length := by rw [← Nat.succ_mul]; congr 1; omega
    have e2 : (cs.drop ((n - (j + 1)) * l.length)).take ((j + 1) * l.length) = (cs.drop ((n - (j + 1)) * l.length)).take l.length ++ (cs.drop ((n - j) * l.length)).take (j * l.length) := by
      rw [e1, Nat.succ_mul, Nat.add_comm (j * l.length), List.take_add, List.drop_drop]
    rw [e2]
    exact h2.app h3
mutual
theorem flat_of : ∀ {d : Nat} {t : TypeId} {l : List Ck} {fuel : Nat} {cs : List Value} {x : DataW H × List MemPlace}, flatK P d t = some l → P.cellsOf t = l.length → cs.length = l.length → DataW.trod enc P w base spare held fuel t cs = some x → CksOK l cs
  | 0, _, _, _, _, _, h, _, _, _ => by cases h
  | d + 1, t, l, fuel, cs, x, h, hc, hl, hx => by
    unfold flatK at h
    split at h
    · rename_i k hu
      cases h
      obtain ⟨n, rfl, _, hw⟩ := DataW.trod_int hu hx
      exact ⟨_, _, rfl, ⟨n, rfl, hw⟩, rfl⟩
    · rename_i hu
      cases h
      obtain ⟨b, rfl, _⟩ := DataW.trod_bool hu hx
      exact ⟨_, _, rfl, ⟨b, rfl⟩, rfl⟩
    · rename_i fs hu
      obtain ⟨xs, n, _, _, _, hxl, hd⟩ := DataW.trod_struct hu hx
      have := flatFs_of (d := d) (fs := fs.toList) (o := 0) (l := l) (m := n) (cs := cs) h (by rw [hl, Nat.zero_add]) fun f hf => by
        obtain ⟨i, hi, hfi⟩ := List.getElem_of_mem hf
        have hi' : i < fs.size := by simpa using hi
        have hfi' : fs[i]? = some f := by rw [Array.getElem?_eq_getElem hi']; congr 1
        have h1 := hd i f hfi'
        rw [List.getElem?_eq_getElem (by omega)] at h1
        exact ⟨_, h1⟩
      rw [List.drop_zero] at this
      exact this
    · rename_i n e hu
      obtain ⟨xs, m, _, _, _, hxl, hd⟩ := DataW.trod_array hu hx
      cases he : flatK P d e with
      | none => rw [he] at h; cases h
      | some le =>
        rw [he] at h
        simp only at h
        cases hb : Nat.beq (P.cellsOf e) le.length with
        | false => rw [hb] at h; cases h
        | true =>
          rw [hb] at h
          simp only [cond_true, Option.some.injEq] at h
          subst h
          rw [repC_length] at hl
          have hce : P.cellsOf e = le.length := Nat.eq_of_beq_eq_true hb
          have := array_cells (n := n) hce (fun {cs x} hcs hx' => flat_of he hce hcs hx') hxl hl hd n (Nat.le_refl _)
          rw [Nat.sub_self, Nat.zero_mul, List.drop_zero, ← hl, List.take_length] at this
          exact this
    · cases h
theorem flatFs_of : ∀ {d : Nat} {fs : List Field} {o : Nat} {l : List Ck} {m : Nat} {cs : List Value}, flatFs P d fs o = some l → cs.length = o + l.length →
    (∀ f ∈ fs, ∃ y, DataW.trod enc P w base spare held m f.type ((cs.drop f.offset).take (P.cellsOf f.type)) = some y) → CksOK l (cs.drop o)
  | _, [], o, l, _, cs, h, hl, _ => by
    have h : some [] = some l := by unfold flatFs at h; exact h
    cases h
    show cs.drop o = []
    exact List.drop_eq_nil_of_le (by simp at hl; omega)
  | 0, _ :: _, _, _, _, _, h, _, _ => by unfold flatFs at h; cases h
  | d + 1, f :: fs, o, l, m, cs, h, hl, hf => by
    unfold flatFs at h
    cases hk : flatK P d f.type with
    | none => rw [hk] at h; cases h
    | some lf =>
      rw [hk] at h
      simp only at h
      cases hb : (Nat.beq f.offset o && Nat.beq (P.cellsOf f.type) lf.length) with
      | false => rw [hb] at h; cases h
      | true =>
        rw [hb] at h
        simp only [cond_true] at h
        rw [Bool.and_eq_true] at hb
        have ho : f.offset = o := Nat.eq_of_beq_eq_true hb.1
        have hc : P.cellsOf f.type = lf.length := Nat.eq_of_beq_eq_true hb.2
        cases hr : flatFs P d fs (o + lf.length) with
        | none => rw [hr] at h; cases h
        | some r =>
          rw [hr] at h
          simp only [Option.some.injEq] at h
          subst h
          rw [List.length_append] at hl
          obtain ⟨y, hy⟩ := hf f (by simp)
          rw [ho, hc] at hy
          have h1 := flat_of hk hc (by rw [List.length_take, List.length_drop]; omega) hy
          have h2 := flatFs_of hr (by omega) fun g hg => hf g (by simp [hg])
          have e : cs.drop o = (cs.drop o).take lf.length ++ cs.drop (o + lf.length) := by rw [← List.drop_drop, List.take_append_drop]
          rw [e]
          exact h1.app h2
end
theorem okWide_array {r : Reach} {t e : TypeId} {n : Nat} {v : Value} (ht : P.underlying t = some (.array n e)) (h : Value.okWide P w r base t v) : ∃ cs, v = .agg cs ∧ cs.size = P.cellsOf t := by
  simp only [Value.okWide, ht] at h
  obtain ⟨cs, h1, h2, _⟩ := h
  exact ⟨cs, h1, h2⟩
/-- an argument that is a struct or an array -/
theorem agg_of {d base0 : Nat} {t : TypeId} {l : List Ck} {v : Value} {r : Reach} {dd : DataW H} {ps : List MemPlace} (hk : flatK P d t = some l) (hc : P.cellsOf t = l.length) (hag : isAggT P t = true) (hv : Value.okWide P w r base0 t v) (h : DataW.Trod enc P w base spare held t v dd ps) : ∃ cs, v = .agg ⟨cs⟩ ∧ CksOK l cs := by
  obtain ⟨fuel, h⟩ := h
  have hcs : ∃ cs, v = .agg cs ∧ cs.size = P.cellsOf t := by
    unfold isAggT at hag
    split at hag
    · rename_i fs hu; exact okWide_struct hu hv
    · rename_i n e hu; exact okWide_array hu hv
    · cases hag
  obtain ⟨⟨cs⟩, rfl, hsz⟩ := hcs
  exact ⟨cs, rfl, flat_of hk hc (by rw [← hc]; exact hsz) h⟩
/-- an argument that is a number or an answer -/
theorem one_of {d base0 : Nat} {t : TypeId} {k : Ck} {v : Value} {r : Reach} {dd : DataW H} {ps : List MemPlace} (hk : flatK P d t = some [k]) (hag : isAggT P t = false) (hv : Value.okWide P w r base0 t v) (h : DataW.Trod enc P w base spare held t v dd ps) : CkOK k v := by
  obtain ⟨fuel, h⟩ := h
  cases d with
  | zero => cases hk
  | succ d =>
    unfold flatK at hk
    split at hk
    · rename_i j hu
      cases hk
      obtain ⟨n, rfl⟩ := okWide_int hu hv
      obtain ⟨n', e, _, hw⟩ := DataW.trod_int hu h
      have e : [Value.int j n] = [Value.int j n'] := e
      cases e
      exact ⟨n, rfl, hw⟩
    · rename_i hu
      cases hk
      obtain ⟨b, rfl⟩ := okWide_bool hu hv
      exact ⟨b, rfl⟩
    · rename_i fs hu; unfold isAggT at hag; simp only [hu] at hag; cases hag
    · rename_i n e hu; unfold isAggT at hag; simp only [hu] at hag; cases hag
    · cases hk
end
theorem wf_u8 {n : Int} (h : (Lit.int .u8 n).wf = true) : 0 ≤ n ∧ n < 256 := by
  have h : (decide (IntKind.u8.min ≤ n) && decide (n ≤ IntKind.u8.max)) = true := h
  rw [Bool.and_eq_true, decide_eq_true_eq, decide_eq_true_eq] at h
  have e1 : IntKind.u8.min = 0 := by decide
  have e2 : IntKind.u8.max = 255 := by decide
  rw [e1, e2] at h
  omega
theorem wf_i64 {n : Int} (h : (Lit.int .i64 n).wf = true) : -9223372036854775808 ≤ n ∧ n < 9223372036854775808 := by
  have h : (decide (IntKind.i64.min ≤ n) && decide (n ≤ IntKind.i64.max)) = true := h
  rw [Bool.and_eq_true, decide_eq_true_eq, decide_eq_true_eq] at h
  have e1 : IntKind.i64.min = -9223372036854775808 := by decide
  have e2 : IntKind.i64.max = 9223372036854775807 := by decide
  rw [e1, e2] at h
  omega
end Go.Ab
namespace Go.Ab
open Go.RowKit
/-- the same entries, some left out, under any numbers -/
theorem WkM.sub {m' m : Mem} (h : (m.map Prod.snd).Sublist (m'.map Prod.snd)) : WkM m' m := fun X Z s0 R s hm =>
  ⟨hm.fr, hm.nx, hm.fl, fun x hx => by
    have h1 : x.2 ∈ m'.map Prod.snd := h.subset (List.mem_map.2 ⟨x, hx, rfl⟩)
    obtain ⟨y, hy, e⟩ := List.mem_map.1 h1
    rw [← e]
    exact hm.ent y hy, by
    have h1 : (m'.map Prod.snd).Pairwise apE := List.pairwise_map.2 hm.dis
    exact List.pairwise_map.1 (h1.sublist h)⟩
theorem WkM.swap {x y : Nat × Ent} {l m : Mem} (h : WkM (y :: x :: l) m) : WkM (x :: y :: l) m := fun X Z s0 R s hm => h X Z s0 R s
  ⟨hm.fr, hm.nx, hm.fl, fun z hz => hm.ent z (by simp only [List.mem_cons] at hz ⊢; rcases hz with h | h | h <;> simp [h]), by
    have h1 := List.pairwise_cons.1 hm.dis
    have h2 := List.pairwise_cons.1 h1.2
    refine List.pairwise_cons.2 ⟨fun z hz => ?_, List.pairwise_cons.2 ⟨fun z hz => h1.1 z (by simp [hz]), h2.2⟩⟩
    rcases List.mem_cons.1 hz with rfl | hz
    · exact (h1.1 y (by simp)).symm
    · exact h2.1 z hz⟩
theorem WkM.swapR {x y : Nat × Ent} {l m' : Mem} (h : WkM m' (y :: x :: l)) : WkM m' (x :: y :: l) := h.trans (WkM.swap (WkM.refl _))
theorem SeesM.push {m m0 : Mem} (x : Nat × Ent) (h : SeesM m m0) : SeesM (x :: m) m0 := fun X Z s0 R s hm => h X Z s0 R s (WkM.drop (WkM.refl m) X Z s0 R s hm)
theorem SeesM.wk {m' m m0 : Mem} (w : WkM m' m) (h : SeesM m m0) : SeesM m' m0 := fun X Z s0 R s hm => h X Z s0 R s (w X Z s0 R s hm)
/-- the same arguments, said otherwise -/
theorem callS.cast {call : CallT} {fv fv' : SV} {args args' : List SV} {m : Mem} {R ni : Nat} {K : SV → Mem → Nat → Nat → Prop} (hf : den fv = den fv') (ha : dens args = dens args') (h : callS call fv' args' m R ni K) : callS call fv args m R ni K := ⟨by rw [hf, ha]; exact h.run⟩
/-- the same end, said otherwise -/
theorem callS.mono {call : CallT} {fv : SV} {args : List SV} {m : Mem} {R ni : Nat} {Q K : SV → Mem → Nat → Nat → Prop} (h : callS call fv args m R ni Q) (hQ : ∀ w m' R' n', Q w m' R' n' → K w m' R' n') : callS call fv args m R ni K :=
  ⟨fun X Z s0 s hm Kr r hK => h.run X Z s0 s hm Kr r fun w m' R' ni' s' hm' hq => hK w m' R' ni' s' hm' (hQ w m' R' ni' hq)⟩
/-- a call whose memory says more than is asked -/
theorem callS.wk {call : CallT} {fv : SV} {args : List SV} {m m0 : Mem} {R ni : Nat} {K : SV → Mem → Nat → Nat → Prop} (w : WkM m m0) (h : callS call fv args m0 R ni K) : callS call fv args m R ni K :=
  ⟨fun X Z s0 s hm Kr r hK => h.run X Z s0 s (w X Z s0 R s hm) Kr r hK⟩
/-- with more names -/
theorem callS.less {call : CallT} {fv : SV} {args : List SV} {m : Mem} {R' R ni : Nat} {K : SV → Mem → Nat → Nat → Prop} (hle : R' ≤ R) (h : callS call fv args m R' ni K) : callS call fv args m R ni K :=
  ⟨fun X Z s0 s hm Kr r hK => h.run X Z s0 s (hm.more hle) Kr r hK⟩
theorem takeR_add {N R : Nat} {K : Nat → Prop} (h : K R) : takeR N (addL R N) K := by
  induction N with
  | zero => exact h
  | succ N ih => exact ih
/-- names enough -/
theorem takeR_le {N R : Nat} {K : Nat → Prop} (hle : N ≤ R) (h : K (R - N)) : takeR N R K := by
  have := takeR_add (N := N) (R := R - N) h
  rw [addL_eq, Nat.sub_add_cancel hle] at this
  exact this
/-- a call that gives a value over some memory, and leaves it -/
def ValC (call : CallT) (fv : SV) (args : List SV) (m : Mem) (N : Nat) (v : SV) : Prop := ∀ R, callS call fv args m (addL R N) 100 fun w m' R' _ => den w = den v ∧ WkM m' m ∧ R ≤ R'
theorem call_val {call : CallT} {fv : SV} {args : List SV} {m : Mem} {N : Nat} {v : SV} (h : ValC call fv args m N v) {R ni : Nat} {K : SV → Mem → Nat → Nat → Prop} (hK : takeR N R fun R => K v m R ni) : callS call fv args m R ni K := by
  obtain ⟨hR, hK⟩ := takeR_inv hK
  have h1 := h (R - N)
  rw [addL_eq, Nat.sub_add_cancel hR] at h1
  exact call_post h1 fun w m' R' n' hq => ⟨v, m, R - N, ni, hq.1, hq.2.1, hq.2.2, hK⟩
theorem ValC.more {call : CallT} {fv : SV} {args : List SV} {m : Mem} {N N' : Nat} {v : SV} (h : ValC call fv args m N v) (hle : N ≤ N') : ValC call fv args m N' v := fun R => by
  have h1 := h (R + (N' - N))
  rw [addL_eq, show R + (N' - N) + N = addL R N' by rw [addL_eq]; omega] at h1
  exact h1.mono fun w m' R' _ hq => ⟨hq.1, hq.2.1, by omega⟩
theorem ValC.cast {call : CallT} {fv fv' : SV} {args args' : List SV} {m : Mem} {N : Nat} {v v' : SV} (hf : den fv = den fv') (ha : dens args = dens args') (hv : den v = den v') (h : ValC call fv' args' m N v') : ValC call fv args m N v := fun R => by
  rw [hv]; exact callS.cast hf ha (h R)
theorem PureC.val {call : CallT} {g : FuncId} {args : List SV} {N : Nat} {v : SV} (h : PureC call g args N v) (m : Mem) : ValC call (.fn g [] []) args m N v := fun R => call_post (h m R) fun w m' R' _ hq => ⟨w, m', R', 0, rfl, WkM.refl _, Nat.le_refl _, hq⟩
/-- what only reads some memory does so over any memory that shows it -/
theorem ReadC.val {call : CallT} {g : FuncId} {args args0 : List SV} {m0 m : Mem} {N : Nat} {v : SV} (h : ReadC call g args0 m0 N v) (ha : dens args = dens args0) (hs : SeesM m m0) : ValC call (.fn g [] []) args m N v := fun R => by
  refine call_read h ha hs (takeR_add ?_)
  exact ⟨rfl, WkM.refl _, Nat.le_refl _⟩
theorem ValC.fs {P : Program} {F : Nat} {fs0 : List FuncId} {w d : Nat} {g : FuncId} (hg : Nat.beq g w = false) (hg2 : memF g fs0 = false) {fs args cs l : List SV} (hl : l = fs ++ args ++ cs) {m : Mem} {N : Nat} {v : SV} (h : ValC (callF P F (extX fs0 w) (d + 1)) (.fn g [] []) l m N v) : ValC (callF P F (extX fs0 w) (d + 1)) (.fn g fs cs) args m N v := fun R => call_fs hg hg2 hl (h R)
theorem SeesE.ro_congr {m : Mem} {a : Option Addr} {n c sz : Nat} {f g : Nat → List SV} (h : SeesE m (.ro a n c sz f)) (hc : ∀ j, j < n → f j = g j) : SeesE m (.ro a n c sz g) := fun X Z s0 R s hm => by
  have he := (h X Z s0 R s hm).1
  refine ⟨⟨fun j hj => by rw [← hc j hj]; exact he.1 j hj, ?_⟩, fun b hb => hb⟩
  rw [← slL_congr hc]; exact he.2
/-- a slice that has grown is only read from now on -/
theorem WkM.gr_ro {m' m : Mem} {i j n e sz c : Nat} {a : Option Addr} {f g : Nat → List SV} (hc : ∀ j, j < n → f j = g j) (h : WkM m' ((i, .gr a n e sz f) :: m)) (hc2 : c = 0 ∨ c = e + 1 := by first | exact .inl rfl | exact .inr rfl) : WkM m' ((j, .ro a n c sz g) :: m) :=
  h.trans (WkL.wk (WkM.keep (e := .gr a n e sz f) (e' := .ro a n c sz g) ⟨rfl, rfl, rfl, hc2, hc⟩ (WkL.refl m)))
/-- a call that reads some memory and lays a slice of its own -/
theorem call_fresh {call : CallT} {g : FuncId} {args args0 : List SV} {m0 : Mem} {N : Nat} {e : TypeId} {sz : Nat} {Q : Option Addr → Nat → (Nat → List SV) → Prop} (val : Nat → Option Addr → Nat → SV) (hval : ∀ i a n, den (val 0 a n) = den (val i a n))
    (h : ∀ R, callS call (.fn g [] []) args0 m0 (addL R N) 0 fun w m' R' _ => (∃ a n f, Q a n f ∧ den w = den (val 0 a n) ∧ WkM m' [(0, .gr a n e sz f)]) ∧ R ≤ R') {m : Mem} {R ni : Nat} {K : SV → Mem → Nat → Nat → Prop}
    (ha : dens args = dens args0) (hs : SeesM m m0) (hK : takeR N R fun R => ∀ a n f, Q a n f → K (val ni a n) ((ni, .gr a n e sz f) :: m) R (ni + 1)) : callS call (.fn g [] []) args m R ni K := by
  obtain ⟨hR, hK⟩ := takeR_inv hK
  refine ⟨?_⟩
  intro X Z s0 s hm Kr r hk
  have h1 := h (R - N)
  rw [addL_eq, Nat.sub_add_cancel hR] at h1
  rw [ha]
  refine h1.run _ _ s s (hs X Z s0 R s hm) Kr r fun w m' R' ni' s' hm' hw => ?_
  obtain ⟨⟨a, n, f, hq, hd, hwk⟩, hle⟩ := hw
  rw [hd, hval ni a n]
  have hke : Keep s s' := hm'.fr.keep fun b _ h => h
  have hbase : MemOK X Z s0 (R - N) s' m := hm.step (Y := fun _ => False) (Fr.of_keep hke) (fun _ h => h.elim) (fun _ _ _ _ h => h) (fun _ _ _ _ h => h) (by have h1 := hm'.nx; omega)
  have he := (hwk _ _ _ _ _ hm').ent _ (List.mem_singleton.2 rfl)
  have hnew : ∀ b, slB (.slice a n n) b → s.nx ≤ b := fun b hb => (he.2.2 b hb).resolve_right fun h => h
  refine hk (val ni a n) ((ni, .gr a n e sz f) :: m) (R - N) (ni + 1) s' (hbase.cons ⟨he.1, he.2.1, fun b hb => .inl (Nat.le_trans hm.fr.1 (hnew b hb))⟩ fun x hx => apE_new (hm.ent x hx) (fun _ h => h) hnew) (hK a n f hq)
theorem wr_u64 {n : Int} (h1 : 0 ≤ n) (h2 : n < 18446744073709551616) : wr .u64 n = n := by
  show IntKind.u64.wrap n = n
  unfold IntKind.wrap
  have e : IntKind.u64.bits = 64 := rfl
  first
  | (simp only [e]; omega)
  | (simp [IntKind.signed, e]; omega)
end Go.Ab
namespace Go.Ab
open Go.RowKit
/-- the loops over functions in a text of code, in its order: to name their records in a loop's invariant -/
def rgs : Code → List (List Tmp × (Code × Code))
  | .seq a b => rgs a ++ rgs b
  | .cond _ a b => rgs a ++ rgs b
  | .block _ a => rgs a
  | .loop a => rgs a
  | .scope a => rgs a
  | .rangeFunc _ ps x y => (ps.toList, x, y) :: rgs y
  | _ => []
def rgsF (fn : Func) (k : Nat) : List Tmp × (Code × Code) := match fn.body with
  | some c => (rgs c).getD k ([], .skip, .skip)
  | none => ([], .skip, .skip)
/-- the record of a function's loop number k -/
def lopF (fn : Func) (k : Nat) (b : Nat) (st : LoopState) (pd : Option Code) (n : Nat) (f : Frm) (d : Nat) : Ent := .lop b st pd n f (rgsF fn k).1 (rgsF fn k).2.1 (rgsF fn k).2.2 d
/-- a round's values go into the frame -/
def pfS (n : Nat) : List Tmp → List SV → Frm → (Frm → Prop) → Prop
  | [], [], f, K => K f
  | d :: ds, v :: vs, f, K => bif Nat.blt d n then pfS n ds vs ((d, v) :: f) K else False
  | _, _, _, _ => False
theorem pfS_ok {k n : Nat} (hn : n ≤ pow8 k) : ∀ {ps : List Tmp} {vs : List SV} {f : Frm} {t : Fm Value k} {K : Frm → Prop}, FrameOK k n t f → pfS n ps vs f K → ∃ t' f', putAll k n ps (dens vs) t = some t' ∧ FrameOK k n t' f' ∧ K f'
  | [], [], f, t, K, hf, h => ⟨t, f, rfl, hf, h⟩
  | d :: ds, v :: vs, f, t, K, hf, h => by
    have h : (bif Nat.blt d n then pfS n ds vs ((d, v) :: f) K else False) := h
    cases hb : Nat.blt d n with
    | false => rw [hb] at h; exact h.elim
    | true =>
      rw [hb] at h
      obtain ⟨t', f', h1, h2, h3⟩ := pfS_ok hn (hf.put hn (blt_true hb) (v := den v) (w := v) fun _ => rfl) h
      refine ⟨t', f', ?_, h2, h3⟩
      show (bif Nat.blt d n then putAll k n ds (dens vs) ((setW k d).s (den v) t) else none) = _
      rw [hb]; exact h1
  | [], _ :: _, _, _, _, _, h => h.elim
  | _ :: _, [], _, _, _, _, h => h.elim
/-- the end of a round -/
def yE (i b : Nat) (st : LoopState) (j : Option Code) (r : Bool) (K : SV → Mem → Nat → Nat → Prop) (m : Mem) (R ni : Nat) : Prop := match getM m i with
  | some e => match e with
    | .lop b' _ _ n f ps x y d => eqS b' b (setK (.lop b' st j n f ps x y d) m i fun m => K (.bool r) m R ni)
    | _ => False
  | none => False
def rdyS (st : LoopState) (K : Prop) : Prop := match st with
  | .ready => K
  | _ => False
section
variable (P : Program) (call : CallT) (F : Nat)
/-- what 'yield' comes to -/
def yS (i b : Nat) (args : List SV) (m : Mem) (R ni : Nat) (K : SV → Mem → Nat → Nat → Prop) : Prop := match getM m i with
  | some e => match e with
    | .lop b0 _ _ n f ps asg body _ => eqS b0 b (bif Nat.ble n 32768 then pfS n ps args f fun f1 => wpC P call F n 10000 (some (i, b)) asg [] f1 m R ni ⟨fun mk f2 m2 R2 ni2 => (match getM m2 i with
        | some e => match e with
          | .lop b1 st1 pd1 n1 g1 ps1 x1 y1 d1 => eqS b1 b (rdyS st1 (setK (.lop b1 .busy pd1 n1 g1 ps1 x1 y1 d1) m2 i fun m3 => wpC P call F n 10000 (some (i, b)) body mk f2 m3 R2 ni2 ⟨fun _ _ m R ni => yE i b .ready none true K m R ni, fun e _ _ m R ni => match e with
            | .ret => yE i b .done (some .ret) false K m R ni
            | .exit id => yE i b .done (some (.exit id)) false K m R ni
            | .goto g => yE i b .done (some (.goto g)) false K m R ni⟩))
          | _ => False
        | none => False), fun _ _ _ _ _ _ => False⟩ else False)
    | _ => False
  | none => False
end
section
variable {P : Program} {X Z : Nat → Prop} {s0 : St} {call : CallT} {r : Bool} {F : Nat}
/-- a record that is changed -/
theorem MemOK.set_lop {R : Nat} {s : St} {m : Mem} (hm : MemOK X Z s0 R s m) {i b n d : Nat} {st st' : LoopState} {pd pd' : Option Code} {f : Frm} {ps : List Tmp} {x y : Code} (hi : getM m i = some (.lop b st pd n f ps x y d)) :
    ∃ t : Fm Value (lvl n), s.at b = some (.loop st pd (lvl n) n t ps x y d) ∧ s.ok b = true ∧ FrameOK (lvl n) n t f ∧ MemOK X Z s0 R (s.set b (some (.loop st' pd' (lvl n) n t ps x y d))) (setM (.lop b st' pd' n f ps x y d) m i) := by
  obtain ⟨⟨⟨q1, q2⟩, q3, t, q4, q5⟩, q6⟩ := hm.get hi
  refine ⟨t, q4, q2, q5, hm.set hi (Fr.set q3) rfl ⟨⟨⟨q1, q2⟩, q3, t, by rw [St.at_set q3, if_pos rfl], q5⟩, q6⟩ (fun b hb => hb) fun b hb => hb⟩
theorem yE_ok {i b : Nat} {st : LoopState} {j : Option Code} {q : Bool} {K : SV → Mem → Nat → Nat → Prop} {m : Mem} {R ni : Nat} {s : St} {Kr : KV} (hm : MemOK X Z s0 R s m) (hK : ∀ w m' R' ni' s', MemOK X Z s0 R' s' m' → K w m' R' ni' → Kr (den w) s' = r) (h : yE i b st j q K m R ni) : roundEnd Kr b st j q s = r := by
  unfold yE at h
  cases hi : getM m i with
  | none => rw [hi] at h; exact h.elim
  | some e =>
    rw [hi] at h
    cases e <;> (try exact h.elim)
    rename_i b' st0 pd n f ps x y d
    obtain ⟨rfl, h⟩ := h
    rw [setK_eq] at h
    obtain ⟨t, h1, h2, h3, h4⟩ := MemOK.set_lop (st' := st) (pd' := j) hm hi
    unfold roundEnd onLoop
    rw [h1]
    simp only [h2, cond_true]
    exact hK (.bool q) _ _ _ _ h4 h
theorem round_run {i b : Nat} {args : List SV} {K : SV → Mem → Nat → Nat → Prop} {m : Mem} {R ni : Nat} {s : St} {Kr : KV} (hm : MemOK X Z s0 R s m) (hK : ∀ w m' R' ni' s', MemOK X Z s0 R' s' m' → K w m' R' ni' → Kr (den w) s' = r) (h : yS P call F i b args m R ni K) : round P F call b (dens args) Kr s = r := by
  unfold yS at h
  cases hi : getM m i with
  | none => rw [hi] at h; exact h.elim
  | some e =>
    rw [hi] at h
    cases e <;> (try exact h.elim)
    rename_i b0 st pd n f ps asg body d
    obtain ⟨hb, h⟩ := h
    subst hb
    cases hn : Nat.ble n 32768 with
    | false => rw [hn] at h; exact h.elim
    | true =>
      rw [hn] at h
      simp only [cond_true] at h
      have hn8 := le_lvl n (ble_true hn)
      obtain ⟨⟨⟨q1, q2⟩, q3, t, q4, q5⟩, q6⟩ := hm.get hi
      obtain ⟨t1, f1, g1, g2, g3⟩ := pfS_ok hn8 q5 h
      unfold round onLoop
      rw [q4]
      simp only [q2, cond_true, g1]
      refine wpC_ok hn8 10000 (some (i, b0)) asg g2 hm ?_ ?_ g3
      · intro mk f2 t2 m2 R2 ni2 s2 hf2 hm2 hk
        simp only at hk
        cases hi2 : getM m2 i with
        | none => rw [hi2] at hk; exact hk.elim
        | some e2 =>
          rw [hi2] at hk
          cases e2 <;> (try exact hk.elim)
          rename_i b1 st1 pd1 n1 gg1 ps1 x1 y1 d1
          obtain ⟨hb1, hk⟩ := hk
          subst hb1
          unfold rdyS at hk
          cases st1 <;> (try exact hk.elim)
          simp only at hk
          rw [setK_eq] at hk
          obtain ⟨t3, h1, h2, h3, h4⟩ := MemOK.set_lop (st' := .busy) (pd' := pd1) hm2 hi2
          dsimp only
          rw [h1]
          simp only [h2, cond_true]
          refine wpC_ok hn8 10000 (some (i, b1)) body hf2 h4 ?_ ?_ hk
          · intro _ _ _ _ _ _ _ _ hm5 hk5
            exact yE_ok hm5 hK hk5
          · intro e _ _ _ _ _ _ _ _ hm5 hk5
            cases e with
            | ret => exact yE_ok hm5 hK hk5
            | exit _ => exact yE_ok hm5 hK hk5
            | goto _ => exact yE_ok hm5 hK hk5
      · intro _ _ _ _ _ _ _ _ _ _ hk
        exact hk.elim
theorem callF_By {fs0 : List FuncId} {w : FuncId} {d b : Nat} (args : List Value) (Kr : KV) (s : St) : callF P F (extX fs0 w) (d + 1) (.func (.yield b) ⟨[]⟩ ⟨[]⟩) args Kr s = round P F (callF P F (extX fs0 w) d) b args Kr s := by
  show extG fs0 (extK w true _) _ _ _ _ = _
  rw [extG_y]
  rfl
/-- A CALL OF 'yield': a round -/
theorem call_yield {fs0 : List FuncId} {w : FuncId} {d i b : Nat} {args : List SV} {m : Mem} {R ni : Nat} {K : SV → Mem → Nat → Nat → Prop} (h : yS P (callF P F (extX fs0 w) d) F i b args m R ni K) : callS (callF P F (extX fs0 w) (d + 1)) (.yf i b) args m R ni K := by
  refine ⟨?_⟩
  intro X Z s0 s hm Kr r hK
  show callF P F (extX fs0 w) (d + 1) (.func (.yield b) ⟨[]⟩ ⟨[]⟩) (dens args) Kr s = r
  rw [callF_By]
  exact round_run hm hK h
end
end Go.Ab
set_option linter.unusedVariables false
set_option linter.unusedSimpArgs false
namespace Go.Ab
open Go.RowKit
theorem addL_rec (R l : Nat) : (Nat.rec (motive := fun _ => Nat) R (fun _ x => Nat.succ x) l : Nat) = R + l := addL_eq R l
/-- memory in another order -/
theorem WkM.perm {m' m : Mem} (h : m'.Perm m) : WkM m' m := fun X Z s0 R s hm =>
  ⟨hm.fr, hm.nx, hm.fl, fun x hx => hm.ent x (h.mem_iff.2 hx), (h.pairwise_iff fun a => a.symm).1 hm.dis⟩
theorem WkM.comm (a b : Mem) : WkM (a ++ b) (b ++ a) := WkM.perm List.perm_append_comm
/-- an entry put last, under another number -/
theorem WkM.mid (l1 l2 : Mem) (i j : Nat) (e : Ent) : WkM (l1 ++ (j, e) :: l2) (l1 ++ l2 ++ [(i, e)]) :=
  (WkM.sub (m' := l1 ++ (j, e) :: l2) (m := l1 ++ (i, e) :: l2) (by simp)).trans ((WkM.perm List.perm_middle).trans (WkM.perm (m := l1 ++ l2 ++ [(i, e)]) (List.perm_append_comm (l₁ := [(i, e)]))))
theorem WkM.cons_app {m' m1 m2 : Mem} {x : Nat × Ent} (h : WkM m' (m1 ++ x :: m2)) : WkM m' (x :: (m1 ++ m2)) := h.trans (WkM.perm List.perm_middle)
/-- an entry, picked out -/
inductive Pick (e : Ent) : Mem → Mem → Prop
  | here {j : Nat} {M : Mem} : Pick e ((j, e) :: M) M
  | there {x : Nat × Ent} {M M' : Mem} : Pick e M M' → Pick e (x :: M) (x :: M')
/-- entries out of others, in any order, under any numbers -/
inductive Sel : Mem → Mem → Prop
  | nil {M : Mem} : Sel M []
  | all {M : Mem} : Sel M M
  | left {m r : Mem} : Sel (m ++ r) m
  | cons {i : Nat} {e : Ent} {M M' m : Mem} : Pick e M M' → Sel M' m → Sel M ((i, e) :: m)
  | consw {i : Nat} {e e' : Ent} {M M' m : Mem} : Pick e M M' → wkE e e' → Sel M' m → Sel M ((i, e') :: m)
  | snoc {i : Nat} {e : Ent} {M M' m : Mem} : Pick e M M' → Sel M' m → Sel M (m ++ [(i, e)])
  | drop {x : Nat × Ent} {M m : Mem} : Sel M m → Sel (x :: M) m
theorem Pick.perm {e : Ent} {M M' : Mem} (h : Pick e M M') : (M.map Prod.snd).Perm (e :: M'.map Prod.snd) := by
  induction h with
  | here => exact .refl _
  | there _ ih => exact (ih.cons _).trans (.swap _ _ _)
theorem WkL.trans {a b c : Mem} (h : WkL a b) (k : WkL b c) : WkL a c := fun X Z s0 R s hm => by
  obtain ⟨h1, h2⟩ := h X Z s0 R s hm
  obtain ⟨k1, k2⟩ := k X Z s0 R s h1
  refine ⟨k1, fun y hy => ?_⟩
  obtain ⟨x, hx, q1, q2⟩ := k2 y hy
  obtain ⟨w, hw, r1, r2⟩ := h2 x hx
  exact ⟨w, hw, fun b hb => r1 b (q1 b hb), fun b hb => (q2 b hb).elim (fun h => .inl (r1 b h)) (r2 b)⟩
theorem WkL.ofSub {M m : Mem} (h : WkM M m) (hs : ∀ y ∈ m, ∃ x ∈ M, x.2 = y.2) : WkL M m := fun X Z s0 R s hm =>
  ⟨h X Z s0 R s hm, fun y hy => by
    obtain ⟨x, hx, e⟩ := hs y hy
    exact ⟨x, hx, by rw [e]; exact fun _ h => h, by rw [e]; exact fun _ h => .inr h⟩⟩
theorem WkL.perm {M m : Mem} (h : (M.map Prod.snd).Perm (m.map Prod.snd)) : WkL M m := by
  refine WkL.ofSub (fun X Z s0 R s hm => ⟨hm.fr, hm.nx, hm.fl, fun x hx => ?_, List.pairwise_map.1 ((h.pairwise_iff fun a => a.symm).1 (List.pairwise_map.2 hm.dis))⟩) fun y hy => ?_
  · obtain ⟨y, hy, e⟩ := List.mem_map.1 (h.mem_iff.2 (List.mem_map.2 ⟨x, hx, rfl⟩))
    rw [← e]; exact hm.ent y hy
  · obtain ⟨x, hx, e⟩ := List.mem_map.1 (h.mem_iff.2 (List.mem_map.2 ⟨y, hy, rfl⟩))
    exact ⟨x, hx, e⟩
theorem WkL.keepE {i j : Nat} {e e' : Ent} {l m : Mem} (he : ∀ X Z s0 s, EntOK X Z s0 s e → EntOK X Z s0 s e' ∧ (∀ b, fpE e' b → fpE e b) ∧ ∀ b, rdE e' b → fpE e b ∨ rdE e b) (h : WkL l m) : WkL ((i, e) :: l) ((j, e') :: m) := by
  intro X Z s0 R s hm
  have hp := List.pairwise_cons.1 hm.dis
  obtain ⟨h1, h2⟩ := h X Z s0 R s ⟨hm.fr, hm.nx, hm.fl, fun y hy => hm.ent y (by simp [hy]), hp.2⟩
  obtain ⟨g1, g2, g3⟩ := he X Z s0 s (hm.ent (i, e) (by simp))
  refine ⟨h1.cons g1 fun y hy => ?_, fun y hy => ?_⟩
  · obtain ⟨x, hx, q1, q2⟩ := h2 y hy
    have ha := hp.1 x hx
    refine ⟨fun b hb hb' => ha.1 b (g2 b hb) (q1 b hb'), fun b hb hb' => ?_, fun b hb hb' => ?_⟩
    · rcases q2 b hb' with h | h
      · exact ha.1 b (g2 b hb) h
      · exact ha.2.1 b (g2 b hb) h
    · rcases g3 b hb with h | h
      · exact ha.1 b h (q1 b hb')
      · exact ha.2.2 b h (q1 b hb')
  · rcases List.mem_cons.1 hy with rfl | hy
    · exact ⟨(i, e), by simp, g2, g3⟩
    · obtain ⟨x, hx, q⟩ := h2 y hy
      exact ⟨x, by simp [hx], q⟩
theorem Pick.wl {e : Ent} {M M' : Mem} (h : Pick e M M') : WkL M ((0, e) :: M') := WkL.perm h.perm
theorem Sel.wl {M m : Mem} (h : Sel M m) : WkL M m := by
  induction h with
  | nil => exact WkL.nil _
  | all => exact WkL.refl _
  | @left m r =>
    refine WkL.ofSub (fun X Z s0 R s hm => ⟨hm.fr, hm.nx, hm.fl, fun x hx => hm.ent x (List.mem_append_left _ hx), (List.pairwise_append.1 hm.dis).1⟩) fun y hy => ⟨y, List.mem_append_left _ hy, rfl⟩
  | cons p _ ih => exact p.wl.trans (WkL.keepE (fun _ _ _ _ h => ⟨h, fun _ h => h, fun _ h => .inr h⟩) ih)
  | consw p w _ ih => exact p.wl.trans (WkL.keepE (fun _ _ _ _ h => wkE_ok w h) ih)
  | @snoc i e M M' m p _ ih => exact (p.wl.trans (WkL.keepE (j := i) (fun _ _ _ _ h => ⟨h, fun _ h => h, fun _ h => .inr h⟩) ih)).trans (WkL.perm (List.Perm.map _ (List.perm_append_comm (l₁ := [(i, e)]))))
  | drop _ ih => exact ih.drop
theorem Sel.wk {M m : Mem} (h : Sel M m) : WkM M m := h.wl.wk
/-- the number of the next entry is a name only -/
theorem callS.ni {call : CallT} {fv : SV} {args : List SV} {m : Mem} {R ni : Nat} {K : SV → Mem → Nat → Nat → Prop} (ni2 : Nat) (h : callS call fv args m R ni2 K) : callS call fv args m R ni K := ⟨h.run⟩
/-- a function that is looped over: it hands on the values L 0 .. L (len - 1), one after the other, as long as it is told to go on; it keeps memory 'me' of its own, and whatever holds of the other memory from round to round. N: names for itself, c: names for one round -/
def IterC (callR callI : CallT) (fv : SV) (me : Mem) (N c : Nat) (len : Nat) (L : Nat → List SV) : Prop :=
  ∀ (i b : Nat) (I : Nat → Mem → Prop) (Q : Mem → Prop),
    (∀ k, k < len → ∀ m, I k m → ∀ (me' : Mem) R, callS callR (.yf i b) (L k) (m ++ me') (addL R c) 500 fun w m' R' _ => R ≤ R' ∧ ∃ m1, WkM m' (m1 ++ me') ∧ ((den w = .bool true ∧ I (k + 1) m1) ∨ (den w = .bool false ∧ Q m1))) →
    ∀ m, I 0 m → ∀ R, callS callI fv [.yf i b] (me ++ m) (addL R N) 500 fun _ m' R' _ => R ≤ R' ∧ ∃ m1, WkM m' (m1 ++ me) ∧ (I len m1 ∨ Q m1)
/-- a loop over such a function, from its record on -/
theorem call_iter {callR callI : CallT} {fv fv' : SV} {me : Mem} {N c len : Nat} {L : Nat → List SV} (h : IterC callR callI fv me N c len L) (I : Nat → Mem → Prop) (Q : Mem → Prop) (m0 : Mem) (R2 : Nat) {i b : Nat} {m : Mem} {R ni : Nat} {K : SV → Mem → Nat → Nat → Prop}
    (hfv : den fv' = den fv) (hw : WkM m (m0 ++ me)) (h0 : I 0 m0)
    (hr : ∀ k, k < len → ∀ m, I k m → ∀ (me' : Mem) R, callS callR (.yf i b) (L k) (m ++ me') (addL R c) 500 fun w m' R' _ => R ≤ R' ∧ ∃ m1, WkM m' (m1 ++ me') ∧ ((den w = .bool true ∧ I (k + 1) m1) ∨ (den w = .bool false ∧ Q m1)))
    (hN : R2 + N ≤ R) (hK : ∀ w m1, I len m1 ∨ Q m1 → K w (m1 ++ me) R2 ni) : callS callI fv' [.yf i b] m R ni K := by
  refine callS.cast (fv' := fv) (args' := [.yf i b]) hfv rfl ?_
  refine callS.wk (hw.trans (WkM.comm _ _)) ?_
  have h1 := h i b I Q hr m0 h0 (R - N)
  rw [addL_eq, Nat.sub_add_cancel (by omega)] at h1
  exact call_post h1 fun w m' R' n' ⟨hR, m1, hw1, hI⟩ => ⟨w, m1 ++ me, R2, ni, rfl, hw1, by omega, hK w m1 hI⟩
/-- in such a function: a value is handed on -/
theorem call_round {callR : CallT} {c i b k : Nat} {L : List SV} {I : Nat → Mem → Prop} {Q : Mem → Prop} {m : Mem} (hI : I k m)
    (hr : ∀ m, I k m → ∀ (me' : Mem) R, callS callR (.yf i b) L (m ++ me') (addL R c) 500 fun w m' R' _ => R ≤ R' ∧ ∃ m1, WkM m' (m1 ++ me') ∧ ((den w = .bool true ∧ I (k + 1) m1) ∨ (den w = .bool false ∧ Q m1)))
    (me' : Mem) (R2 : Nat) {args : List SV} {M : Mem} {R ni : Nat} {K : SV → Mem → Nat → Nat → Prop} (ha : dens args = dens L) (hw : WkM M (me' ++ m)) (hN : R2 + c ≤ R)
    (ht : ∀ m1, I (k + 1) m1 → K (.bool true) (me' ++ m1) R2 ni) (hf : ∀ m1, Q m1 → K (.bool false) (me' ++ m1) R2 ni) : callS callR (.yf i b) args M R ni K := by
  refine callS.cast (fv' := .yf i b) (args' := L) rfl ha ?_
  refine callS.wk (hw.trans (WkM.comm _ _)) ?_
  have h1 := hr m hI me' (R - c)
  rw [addL_eq, Nat.sub_add_cancel (by omega)] at h1
  refine call_post h1 fun w m' R' n' ⟨hR, m1, hw1, h2⟩ => ?_
  rcases h2 with ⟨e, h2⟩ | ⟨e, h2⟩
  · exact ⟨.bool true, me' ++ m1, R2, ni, e, hw1.trans (WkM.comm _ _), by omega, ht m1 h2⟩
  · exact ⟨.bool false, me' ++ m1, R2, ni, e, hw1.trans (WkM.comm _ _), by omega, hf m1 h2⟩
/-- calls that take names in one piece -/
theorem call_readL {call : CallT} {g : FuncId} {args args0 : List SV} {m0 : Mem} {N : Nat} {v : SV} (h : ReadC call g args0 m0 N v) (R2 : Nat) {m : Mem} {R ni : Nat} {K : SV → Mem → Nat → Nat → Prop} (ha : dens args = dens args0) (hs : SeesM m m0) (hN : R2 + N ≤ R) (hK : K v m R2 ni) : callS call (.fn g [] []) args m R ni K :=
  callS.less (R' := addL R2 N) (by rw [addL_eq]; exact hN) (call_read h ha hs (takeR_add hK))
theorem call_pureL {P : Program} {F : Nat} {fs0 : List FuncId} {w d : Nat} {g : FuncId} {args : List SV} {N : Nat} {v : SV} (h : PureC (callF P F (extX fs0 w) d) g args N v) (R2 : Nat) {m : Mem} {R ni : Nat} {K : SV → Mem → Nat → Nat → Prop} (hN : R2 + N ≤ R) (hK : K v m R2 ni) : callS (callF P F (extX fs0 w) d) (.fn g [] []) args m R ni K :=
  callS.less (R' := addL R2 N) (by rw [addL_eq]; exact hN) (call_pure h (takeR_add hK))
/-- a call that reads some memory and lays slices of its own -/
theorem call_freshL {call : CallT} {g : FuncId} {args args0 : List SV} {m0 : Mem} {N : Nat} (Q : SV → Mem → Prop)
    (h : ∀ R, callS call (.fn g [] []) args0 m0 (addL R N) 0 fun w m' R' _ => (∃ w0 mf, Q w0 mf ∧ den w = den w0 ∧ WkM m' mf) ∧ R ≤ R') (hmf : ∀ w0 mf, Q w0 mf → ∀ x ∈ mf, ∃ a n e sz f, x.2 = .gr a n e sz f) (R2 : Nat) {m : Mem} {R ni : Nat} {K : SV → Mem → Nat → Nat → Prop}
    (ha : dens args = dens args0) (hs : SeesM m m0) (hN : R2 + N ≤ R) (hK : ∀ w0 mf, Q w0 mf → K w0 (mf ++ m) R2 ni) : callS call (.fn g [] []) args m R ni K := by
  refine ⟨?_⟩
  intro X Z s0 s hm Kr r hk
  have h1 := h (R - N)
  rw [addL_eq, Nat.sub_add_cancel (by omega)] at h1
  rw [ha]
  refine h1.run _ _ s s (hs X Z s0 R s hm) Kr r fun w m' R' ni' s' hm' hw => ?_
  obtain ⟨⟨w0, mf, hq, hd, hwk⟩, hle⟩ := hw
  rw [hd]
  have hke : Keep s s' := hm'.fr.keep fun b _ h => h
  have hbase : MemOK X Z s0 R2 s' m := (hm.more (show R2 ≤ R by omega)).step (Y := fun _ => False) (Fr.of_keep hke) (fun _ h => h.elim) (fun _ _ _ _ h => h) (fun _ _ _ _ h => h) (by have h1 := hm'.nx; omega)
  have hm2 := hwk _ _ _ _ _ hm'
  refine hk w0 (mf ++ m) R2 ni s' ⟨hbase.fr, hbase.nx, hbase.fl, fun x hx => ?_, List.pairwise_append.2 ⟨hm2.dis, hbase.dis, fun x hx y hy => ?_⟩⟩ (hK w0 mf hq)
  · rcases List.mem_append.1 hx with hx | hx
    · have he := hm2.ent x hx
      obtain ⟨a, n, e, sz, f, ex⟩ := hmf w0 mf hq x hx
      rw [ex] at he ⊢
      exact ⟨he.1, he.2.1, fun b hb => .inl (Nat.le_trans hm.fr.1 ((he.2.2 b hb).resolve_right fun h => h))⟩
    · exact hbase.ent x hx
  · have he := hm2.ent x hx
    obtain ⟨a, n, e, sz, f, ex⟩ := hmf w0 mf hq x hx
    rw [ex] at he ⊢
    exact apE_new (hm.ent y hy) (fun _ h => h) fun b hb => (he.2.2 b hb).resolve_right fun h => h
/-! families of slices that are only read -/
theorem MemOK.swapIn {X Z : Nat → Prop} {s0 s : St} {R : Nat} {m m' : Mem} (h : MemOK X Z s0 R s m) (he : ∀ x ∈ m', EntOK X Z s0 s x.2) (hd : m'.Pairwise fun x y => apE x.2 y.2) : MemOK X Z s0 R s m' := ⟨h.fr, h.nx, h.fl, he, hd⟩
theorem WkM.fam0 {m' m : Mem} {i c sz : Nat} (h : WkM m' m) : WkM m' ((i, .fam c sz []) :: m) := fun X Z s0 R s hm =>
  (h X Z s0 R s hm).cons (fun _ hx => by cases hx) fun _ _ => ⟨fun _ hb => hb.elim, fun _ hb => hb.elim, fun _ ⟨_, hx, _⟩ => by cases hx⟩
theorem WkM.famApp {m' m : Mem} {i j k c sz : Nat} {l l' : List Row} (h : WkM m' ((i, .fam c sz l) :: (j, .fam c sz l') :: m)) : WkM m' ((k, .fam c sz (l ++ l')) :: m) := fun X Z s0 R s hm => by
  have h1 := h X Z s0 R s hm
  have h2 := List.pairwise_cons.1 h1.dis
  have h3 := List.pairwise_cons.1 h2.2
  refine h1.swapIn (fun x hx => ?_) (List.pairwise_cons.2 ⟨fun y hy => ⟨fun _ hb => hb.elim, fun _ hb => hb.elim, fun b hb => ?_⟩, h3.2⟩)
  · rcases List.mem_cons.1 hx with rfl | hx
    · intro x hx
      rcases List.mem_append.1 hx with hx | hx
      · exact h1.ent (i, .fam c sz l) (by simp) x hx
      · exact h1.ent (j, .fam c sz l') (by simp) x hx
    · exact h1.ent x (by simp [hx])
  · obtain ⟨r, hr, q⟩ := hb
    rcases List.mem_append.1 hr with hr | hr
    · exact (h2.1 y (by simp [hy])).2.2 b ⟨r, hr, q⟩
    · exact (h3.1 y hy).2.2 b ⟨r, hr, q⟩
theorem WkM.fam1 {m' m : Mem} {j k c sz n cp : Nat} {a : Option Addr} {f : Nat → List SV} (h : WkM m' ((j, .ro a n c sz f) :: m)) : WkM m' ((k, .fam c sz [(a, n, cp, f)]) :: m) := fun X Z s0 R s hm => by
  have h1 := h X Z s0 R s hm
  have h2 := List.pairwise_cons.1 h1.dis
  refine h1.swapIn (fun x hx => ?_) (List.pairwise_cons.2 ⟨fun y hy => ⟨fun _ hb => hb.elim, fun _ hb => hb.elim, fun b hb => ?_⟩, h2.2⟩)
  · rcases List.mem_cons.1 hx with rfl | hx
    · intro x hx
      rw [List.mem_singleton.1 hx]
      exact h1.ent (j, .ro a n c sz f) (by simp)
    · exact h1.ent x (by simp [hx])
  · obtain ⟨r, hr, q⟩ := hb
    rw [List.mem_singleton.1 hr] at q
    exact (h2.1 y hy).2.2 b q
theorem WkM.famGet {m' m : Mem} {i j c sz : Nat} {l : List Row} {r : Row} (hr : r ∈ l) (h : WkM m' ((i, .fam c sz l) :: m)) : WkM m' ((j, .ro r.1 r.2.1 c sz r.2.2.2) :: (i, .fam c sz l) :: m) := fun X Z s0 R s hm => by
  have h1 := h X Z s0 R s hm
  have h2 := List.pairwise_cons.1 h1.dis
  refine h1.swapIn (fun x hx => ?_) (List.pairwise_cons.2 ⟨fun y hy => ⟨fun _ hb => hb.elim, fun _ hb => hb.elim, fun b hb => ?_⟩, h1.dis⟩)
  · rcases List.mem_cons.1 hx with rfl | hx
    · exact h1.ent (i, .fam c sz l) (by simp) r hr
    · exact h1.ent x hx
  · rcases List.mem_cons.1 hy with rfl | hy
    · exact fun h => h
    · exact (h2.1 y hy).2.2 b ⟨r, hr, hb⟩
end Go.Ab
set_option linter.unusedVariables false
set_option linter.unusedSimpArgs false
namespace Go.Ab
open Go.RowKit Go.ChangeShapes
theorem ReadC.more {call : CallT} {g : FuncId} {args : List SV} {m0 : Mem} {N N' : Nat} {v : SV} (h : ReadC call g args m0 N v) (hle : N ≤ N') : ReadC call g args m0 N' v := fun R => by
  have h1 := h (R + (N' - N))
  rw [addL_eq, show R + (N' - N) + N = addL R N' by rw [addL_eq]; omega] at h1
  exact h1.mono fun w m' R' _ hq => ⟨hq.1, by omega⟩
/-- numbers of a kind -/
def Rk (k : IntKind) (ci : List Value) (y : Int) : Prop := ci = [.int k y] ∧ (Lit.int k y).wf = true
section
variable {P : Program} {H : Type} {enc : TypeId × Value → H} {W : World} {fuel : Nat} {t e : TypeId} {cs : List Value} {x : DataW H × List MemPlace}
theorem nums_of {k : IntKind} (ht : P.underlying t = some (.slice e)) (he : P.underlying e = some (.int k)) (hsz : P.cellsOf e = 1) (h : DataW.trod enc P W 0 (fun _ => true) true fuel t cs = some x) : ∃ v l, cs = [v] ∧ SlW W 1 (Rk k) v l := by
  have := SlW_of (R := Rk k) ht (by omega) (fun m ci y hy _ => by
    obtain ⟨n, rfl, _, hw⟩ := DataW.trod_int he hy
    exact ⟨n, rfl, hw⟩) h
  rw [hsz] at this; exact this
theorem wf_getD {k : IntKind} {v : Value} {l : List Int} (h : SlW W 1 (Rk k) v l) (h0 : (Lit.int k 0).wf = true) (j : Nat) : (Lit.int k (l.getD j 0)).wf = true := by
  rw [List.getD_eq_getElem?_getD]
  cases hj : l[j]? with
  | none => exact h0
  | some y =>
    rcases h with ⟨B, O, c, _, _, h3⟩ | ⟨h1, _⟩
    · obtain ⟨ci, h4, _⟩ := h3 j y hj
      exact h4.2
    · rw [h1] at hj; cases hj
/-- a struct of three fields of one cell each and a slice -/
theorem four_of {f0 f1 f2 f3 : Field} (ht : P.underlying t = some (.struct #[f0, f1, f2, f3])) (hc : P.cellsOf t = 4) (o0 : f0.offset = 0) (o1 : f1.offset = 1) (o2 : f2.offset = 2) (o3 : f3.offset = 3) (c0 : P.cellsOf f0.type = 1) (c1 : P.cellsOf f1.type = 1) (c2 : P.cellsOf f2.type = 1) (c3 : P.cellsOf f3.type = 1)
    (hl : cs.length = 4) (h : DataW.trod enc P W 0 (fun _ => true) true fuel t cs = some x) : ∃ a b c d y0 y1 y2 y3 n, cs = [a, b, c, d] ∧ DataW.trod enc P W 0 (fun _ => true) true n f0.type [a] = some y0 ∧ DataW.trod enc P W 0 (fun _ => true) true n f1.type [b] = some y1 ∧ DataW.trod enc P W 0 (fun _ => true) true n f2.type [c] = some y2 ∧ DataW.trod enc P W 0 (fun _ => true) true n f3.type [d] = some y3 := by
  obtain ⟨xs, n, _, _, _, hxl, hd⟩ := DataW.trod_struct ht h
  have hxl : xs.length = 4 := hxl
  match cs, hl with
  | [a, b, c, d], _ =>
    match xs, hxl with
    | [y0, y1, y2, y3], _ =>
      have h0 := hd 0 f0 rfl
      have h1 := hd 1 f1 rfl
      have h2 := hd 2 f2 rfl
      have h3 := hd 3 f3 rfl
      rw [o0, c0] at h0
      rw [o1, c1] at h1
      rw [o2, c2] at h2
      rw [o3, c3] at h3
      exact ⟨a, b, c, d, y0, y1, y2, y3, n, rfl, h0, h1, h2, h3⟩
end
theorem slL_map {k : IntKind} {l : List Int} : ∀ {n : Nat}, n ≤ l.length → slL (fun j => [.int k (l.getD j 0)]) n = (l.take n).map (Value.int k)
  | 0, _ => by simp [slL]
  | n + 1, h => by
    rw [slL, slL_map (by omega), List.take_add_one, List.map_append]
    congr 1
    rw [List.getElem?_eq_getElem (by omega)]
    show [Value.int k (l.getD n 0)] = _
    rw [List.getD_eq_getElem?_getD, List.getElem?_eq_getElem (by omega)]
    rfl
/-- a slice of numbers in the state that names its block: an entry that is only read -/
theorem named_ro {k : IntKind} {W : World} {Bs : List Nat} (hl : Bs.length ≤ 4398046511104) {v : Value} {l : List Int} (h : SlW W 1 (Rk k) v l) (hv : ∀ B ∈ blkOf v, B ∈ Bs) :
    ∃ a c, al1 Bs v = .slice a l.length c ∧ EntOK (fun _ => False) (fun _ => True) (stOf W Bs) (stOf W Bs) (.ro a l.length 0 1 fun j => [.int k (l.getD j 0)]) := by
  by_cases hn : l = []
  · obtain ⟨a, c, h1⟩ := named_len h hv
    exact ⟨a, c, h1, fun j hj => rfl, .inl (by rw [hn]; rfl)⟩
  · rcases h with ⟨B, O, c, h1, hlc, h3⟩ | ⟨h1, _⟩
    · obtain ⟨b, hb⟩ := nameIn_mem (hv B (by rw [h1]; simp [blkOf]))
      have hA := AtN_stOf hl hb (o := O) (L := l.map (Value.int k)) (by simpa using hn) fun i V hi => by
        rw [List.getElem?_map] at hi
        cases hx : l[i]? with
        | none => rw [hx] at hi; cases hi
        | some y =>
          rw [hx] at hi
          simp only [Option.map_some, Option.some.injEq] at hi; subst hi
          obtain ⟨ci, h4, _, h6⟩ := h3 i y hx
          have := h6 0 (.int k y) (by rw [h4.1]; rfl)
          rw [Nat.mul_one, Nat.add_zero] at this
          exact this
      rw [List.map_map] at hA
      have e : (l.map (al1 Bs ∘ Value.int k)) = l.map (Value.int k) := rfl
      rw [e] at hA
      refine ⟨some ⟨b, O, none⟩, c, by rw [h1]; simp only [al1, hb]; exact if_pos hlc, fun j hj => rfl, .inr ⟨b, O, rfl, ?_, .inr (.inr trivial), .inl rfl⟩⟩
      rw [slL_map (Nat.le_refl _), List.take_length]
      exact hA
    · exact absurd h1 hn
/-- a law's contract over a slice that is read: its run -/
theorem ReadC.run {P : Program} {F : Nat} {fs0 : List FuncId} {w d : Nat} {g : FuncId} {args : List SV} {i : Nat} {e : Ent} {N : Nat} (h : ReadC (callF P F (extX fs0 w) (d + 1)) g args [(i, e)] N (.bool true)) (hg : Nat.beq g w = false) (hg2 : memF g fs0 = false) {s : St} (hs : s.nx + N ≤ 4398046511104) (hf : s.fl ≤ s.nx)
    (he : EntOK (fun _ => False) (fun _ => True) s s e) : (cFun P F g).run (callF P F (extX fs0 w) d) (dens args) (isTrue true) s = true := by
  have hm : MemOK (fun _ => False) (fun _ => True) s (addL 0 N) s [(i, e)] := ⟨.refl _ _, by rw [addL_eq, Nat.zero_add]; exact hs, hf, fun x hx => by rw [List.mem_singleton.1 hx]; exact he, List.pairwise_singleton _ _⟩
  have h1 := (h 0).run _ _ s s hm (isTrue true) true fun v _ _ _ _ _ hv => by rw [hv.1]; rfl
  have h1 : callF P F (extX fs0 w) (d + 1) (.func (.func g) ⟨[]⟩ ⟨[]⟩) (dens args) (isTrue true) s = true := h1
  rw [callF_B3 hg hg2, List.nil_append, List.append_nil] at h1
  exact h1
theorem wf_0 (k : IntKind) (h : k = .i64 ∨ k = .u8) : (Lit.int k 0).wf = true := by
  rcases h with rfl | rfl <;> rfl
end Go.Ab
set_option linter.unusedVariables false
set_option linter.unusedSimpArgs false
namespace Go.Ab
open Go.RowKit Go.ChangeShapes
section
variable {P : Program} {H : Type} {enc : TypeId × Value → H} {W : World} {fuel : Nat} {t e : TypeId} {cs : List Value} {x : DataW H × List MemPlace}
/-- flat elements of a slice -/
def RF (l : List Ck) (ci y : List Value) : Prop := ci = y ∧ CksOK l y
theorem flats_of {d : Nat} {l : List Ck} (ht : P.underlying t = some (.slice e)) (hk : flatK P d e = some l) (hc : P.cellsOf e = l.length) (h0 : 0 < l.length) (h : DataW.trod enc P W 0 (fun _ => true) true fuel t cs = some x) : ∃ v ys, cs = [v] ∧ SlW W l.length (RF l) v ys := by
  have := SlW_of (R := RF l) ht (by omega) (fun m ci y hy hl => ⟨ci, rfl, flat_of hk hc (hl.trans hc) hy⟩) h
  rw [hc] at this; exact this
theorem al1_ck {Bs : List Nat} : ∀ {k : Ck} {v : Value}, CkOK k v → al1 Bs v = v := by
  intro k v h
  cases k with
  | i k => obtain ⟨n, rfl, _⟩ := h; rfl
  | b => obtain ⟨n, rfl⟩ := h; rfl
theorem al1_cks {Bs : List Nat} : ∀ {l : List Ck} {cs : List Value}, CksOK l cs → cs.map (al1 Bs) = cs
  | [], cs, h => by have h : cs = [] := h; subst h; rfl
  | k :: l, cs, h => by
    obtain ⟨v, r, rfl, h1, h2⟩ := h
    rw [List.map_cons, al1_ck h1, al1_cks h2]
theorem slL_eq {f : Nat → List SV} {sz : Nat} (hlen : ∀ j, (f j).length = sz) {n i : Nat} {V : Value} (hsz : 0 < sz) (h : (slL f n)[i]? = some V) : ∃ q r, q < n ∧ r < sz ∧ i = q * sz + r ∧ (dens (f q))[r]? = some V := by
  have hl := slL_length (f := f) (n := n) fun j _ => hlen j
  have hi : i < n * sz := by
    rcases Nat.lt_or_ge i (slL f n).length with h1 | h1
    · omega
    · rw [List.getElem?_eq_none h1] at h; cases h
  have hq : i / sz < n := (Nat.div_lt_iff_lt_mul hsz).2 hi
  have hr := Nat.mod_lt i hsz
  have he : i = i / sz * sz + i % sz := by rw [Nat.mul_comm]; exact (Nat.div_add_mod i sz).symm
  refine ⟨i / sz, i % sz, hq, hr, he, ?_⟩
  rw [he, slL_get (fun j _ => hlen j) _ _ hq hr] at h
  exact h
/-- a slice of flat elements in the state that names its block: an entry that is only read -/
theorem named_flat {Bs : List Nat} (hl : Bs.length ≤ 4398046511104) {l : List Ck} (h0 : 0 < l.length) {v : Value} {ys : List (List Value)} (h : SlW W l.length (RF l) v ys) (hv : ∀ B ∈ blkOf v, B ∈ Bs) (f : Nat → List SV) (hlen : ∀ j, (f j).length = l.length) (hf : ∀ j y, ys[j]? = some y → dens (f j) = y) (c' : Nat) :
    ∃ a c, al1 Bs v = .slice a ys.length c ∧ EntOK (fun _ => False) (fun _ => True) (stOf W Bs) (stOf W Bs) (.ro a ys.length c' l.length f) := by
  by_cases hn : ys = []
  · obtain ⟨a, c, h1⟩ := named_len h hv
    exact ⟨a, c, h1, fun j hj => hlen j, .inl (by rw [hn]; rfl)⟩
  · rcases h with ⟨B, O, c, h1, hlc, h3⟩ | ⟨h1, _⟩
    · obtain ⟨b, hb⟩ := nameIn_mem (hv B (by rw [h1]; simp [blkOf]))
      have hpos : 0 < ys.length := by cases ys with | nil => exact absurd rfl hn | cons _ _ => simp
      have hL := slL_length (f := f) (n := ys.length) fun j _ => hlen j
      have hck : ∀ q, q < ys.length → ∃ y, ys[q]? = some y ∧ dens (f q) = y ∧ CksOK l y ∧ ∀ j V, y[j]? = some V → W.cell? ⟨B, O + q * l.length + j, none⟩ = some V := fun q hq => by
        obtain ⟨ci, ⟨e1, h4⟩, _, h6⟩ := h3 q ys[q] (List.getElem?_eq_getElem hq)
        exact ⟨ys[q], List.getElem?_eq_getElem hq, hf q _ (List.getElem?_eq_getElem hq), h4, by rw [← e1]; exact h6⟩
      have hA := AtN_stOf hl hb (o := O) (L := slL f ys.length) (by
        intro e1
        rw [e1] at hL
        have : 0 < ys.length * l.length := Nat.mul_pos hpos h0
        simp at hL; omega) fun i V hi => by
        obtain ⟨q, r, hq, hr, rfl, hd⟩ := slL_eq hlen h0 hi
        obtain ⟨y, _, e2, _, h6⟩ := hck q hq
        rw [e2] at hd
        have := h6 r V hd
        rw [← Nat.add_assoc]; exact this
      have e : (slL f ys.length).map (al1 Bs) = slL f ys.length := by
        have key : ∀ n, n ≤ ys.length → (slL f n).map (al1 Bs) = slL f n := by
          intro n
          induction n with
          | zero => intro _; rfl
          | succ n ih =>
            intro hle
            obtain ⟨y, _, e2, e3, _⟩ := hck n (by omega)
            rw [slL, List.map_append, ih (by omega), e2, al1_cks e3]
        exact key _ (Nat.le_refl _)
      rw [e] at hA
      refine ⟨some ⟨b, O, none⟩, c, by rw [h1]; simp only [al1, hb]; exact if_pos hlc, fun j hj => hlen j, .inr ⟨b, O, rfl, hA, .inr (.inr trivial), .inr ?_⟩⟩
      obtain ⟨hbl, k, n, t, e1, g, h2, _⟩ := hA
      have hro : ∀ {o}, (stOf W Bs).at b = some o → isRo o = true := by
        intro o ho
        rw [stOf_at hl, nameIn_some hb, Option.bind_some] at ho
        unfold objOf at ho
        split at ho
        · cases ho; rfl
        · cases ho
      have h5 := hro h2
      refine ⟨k, n, t, e1, g, h2, .inl ?_⟩
      cases g with
      | false => rfl
      | true => simp [isRo] at h5
    · exact absurd h1 hn
/-- what a slice's elements are, in all cases -/
theorem rf_mem {l : List Ck} {v : Value} {ys : List (List Value)} (h : SlW W l.length (RF l) v ys) {j : Nat} {y : List Value} (hy : ys[j]? = some y) : CksOK l y := by
  rcases h with ⟨B, O, c, _, _, h3⟩ | ⟨h1, _⟩
  · obtain ⟨ci, h4, _⟩ := h3 j y hy
    exact h4.2
  · rw [h1] at hy; simp at hy
/-- a number among cells -/
def natAt (l : List Value) (i : Nat) : Nat := match l[i]? with
  | some (.int _ n) => n.toNat
  | _ => 0
theorem u8_nat {v : Value} (h : CkOK (.i .u8) v) : ∃ n : Nat, v = .int .u8 (Int.ofNat n) ∧ n < 256 := by
  obtain ⟨n, rfl, hw⟩ := h
  have := wf_u8 hw
  exact ⟨n.toNat, congrArg (Value.int .u8) (by show n = (n.toNat : Int); omega), by omega⟩
/-- bytes -/
theorem bytes_fn {v : Value} {ys : List (List Value)} (h : SlW W 1 (RF [.i .u8]) v ys) : ∃ t0 : Nat → Nat, (∀ j, t0 j < 256) ∧ ∀ j y, ys[j]? = some y → dens [.int .u8 (Int.ofNat (t0 j))] = y := by
  have key : ∀ j y, ys[j]? = some y → ∃ n : Nat, y = [Value.int .u8 (Int.ofNat n)] ∧ n < 256 := fun j y hy => by
    obtain ⟨v1, r1, rfl, h1, h2⟩ := rf_mem (l := [.i .u8]) h hy
    have h2 : r1 = [] := h2
    subst h2
    obtain ⟨n, rfl, hn⟩ := u8_nat h1
    exact ⟨n, rfl, hn⟩
  refine ⟨fun j => natAt (ys.getD j []) 0, fun j => ?_, fun j y hy => ?_⟩
  · show natAt (ys.getD j []) 0 < 256
    rw [List.getD_eq_getElem?_getD]
    cases hy : ys[j]? with
    | none => show natAt [] 0 < 256; decide
    | some y =>
      obtain ⟨n, rfl, hn⟩ := key j y hy
      exact hn
  · obtain ⟨n, rfl, hn⟩ := key j y hy
    show [Value.int .u8 (Int.ofNat (natAt (ys.getD j []) 0))] = _
    rw [List.getD_eq_getElem?_getD, hy]
    rfl
/-- pairs of bytes -/
theorem pairs_fn {v : Value} {ys : List (List Value)} (h : SlW W 2 (RF [.i .u8, .i .u8]) v ys) : ∃ o0 o1 : Nat → Nat, (∀ j, o0 j < 256) ∧ (∀ j, o1 j < 256) ∧ ∀ j y, ys[j]? = some y → dens [.int .u8 (Int.ofNat (o0 j)), .int .u8 (Int.ofNat (o1 j))] = y := by
  have key : ∀ j y, ys[j]? = some y → ∃ n m : Nat, y = [Value.int .u8 (Int.ofNat n), Value.int .u8 (Int.ofNat m)] ∧ n < 256 ∧ m < 256 := fun j y hy => by
    obtain ⟨v1, r1, rfl, h1, v2, r2, rfl, h2, h3⟩ := rf_mem (l := [.i .u8, .i .u8]) h hy
    have h3 : r2 = [] := h3
    subst h3
    obtain ⟨n, rfl, hn⟩ := u8_nat h1
    obtain ⟨m, rfl, hm⟩ := u8_nat h2
    exact ⟨n, m, rfl, hn, hm⟩
  refine ⟨fun j => natAt (ys.getD j []) 0, fun j => natAt (ys.getD j []) 1, fun j => ?_, fun j => ?_, fun j y hy => ?_⟩
  · show natAt (ys.getD j []) 0 < 256
    rw [List.getD_eq_getElem?_getD]
    cases hy : ys[j]? with
    | none => show natAt [] 0 < 256; decide
    | some y => obtain ⟨n, m, rfl, hn, hm⟩ := key j y hy; exact hn
  · show natAt (ys.getD j []) 1 < 256
    rw [List.getD_eq_getElem?_getD]
    cases hy : ys[j]? with
    | none => show natAt [] 1 < 256; decide
    | some y => obtain ⟨n, m, rfl, hn, hm⟩ := key j y hy; exact hm
  · obtain ⟨n, m, rfl, hn, hm⟩ := key j y hy
    show [Value.int .u8 (Int.ofNat (natAt (ys.getD j []) 0)), Value.int .u8 (Int.ofNat (natAt (ys.getD j []) 1))] = _
    rw [List.getD_eq_getElem?_getD, hy]
    rfl
end
/-- a law's contract over slices that are read: its run -/
theorem ReadC.runs {P : Program} {F : Nat} {fs0 : List FuncId} {w d : Nat} {g : FuncId} {args : List SV} {m0 : Mem} {N : Nat} (h : ReadC (callF P F (extX fs0 w) (d + 1)) g args m0 N (.bool true)) (hg : Nat.beq g w = false) (hg2 : memF g fs0 = false) {s : St} (hs : s.nx + N ≤ 4398046511104) (hf : s.fl ≤ s.nx)
    (he : ∀ x ∈ m0, EntOK (fun _ => False) (fun _ => True) s s x.2) (hr : ∀ x ∈ m0, ∀ b, ¬ fpE x.2 b) : (cFun P F g).run (callF P F (extX fs0 w) d) (dens args) (isTrue true) s = true := by
  have hm : MemOK (fun _ => False) (fun _ => True) s (addL 0 N) s m0 := ⟨.refl _ _, by rw [addL_eq, Nat.zero_add]; exact hs, hf, he, by
    clear h
    induction m0 with
    | nil => exact List.Pairwise.nil
    | cons x l ih => exact List.pairwise_cons.2 ⟨fun y hy => ⟨fun b hb => (hr x (by simp) b hb).elim, fun b hb => (hr x (by simp) b hb).elim, fun b _ hb => hr y (by simp [hy]) b hb⟩, ih (fun y hy => he y (by simp [hy])) (fun y hy => hr y (by simp [hy]))⟩⟩
  have h1 := (h 0).run _ _ s s hm (isTrue true) true fun v _ _ _ _ _ hv => by rw [hv.1]; rfl
  have h1 : callF P F (extX fs0 w) (d + 1) (.func (.func g) ⟨[]⟩ ⟨[]⟩) (dens args) (isTrue true) s = true := h1
  rw [callF_B3 hg hg2, List.nil_append, List.append_nil] at h1
  exact h1
end Go.Ab
