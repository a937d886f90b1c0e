/- Card: fractions, segments, courses of a segment. -/
import Derived.Test.YtogncjicndbahaaProg
import Derived.Test.YtogncjicndbahaaEngSy
import Derived.KernelRfl
namespace Go.Proofs.Ytogncjicndbahaa
open Go.Ab
attribute [local irreducible] aggOk drwOK
set_option maxRecDepth 100000
set_option maxHeartbeats 4000000
set_option linter.unusedVariables false
set_option linter.unusedSimpArgs false
theorem pH {e : Ent} {j : Nat} {M : Mem} : Pick e ((j, e) :: M) M := Pick.here
theorem pT {e : Ent} {x : Nat × Ent} {M M' : Mem} (h : Pick e M M') : Pick e (x :: M) (x :: M') := Pick.there h
noncomputable abbrev CL (F d : Nat) : CallT := callF Try.prog F (extX lib0 15) d
theorem WS {m m' : Mem} (h : WkM m m' := by refine Sel.wk ?_; (try simp only [List.cons_append, List.nil_append]); repeat' (first | exact Sel.nil | exact Sel.all | exact Sel.left | refine Sel.cons pH ?_ | refine Sel.cons (pT pH) ?_ | refine Sel.cons (pT (pT pH)) ?_ | refine Sel.cons (pT (pT (pT pH))) ?_ | refine Sel.cons (pT (pT (pT (pT pH)))) ?_ | refine Sel.cons (pT (pT (pT (pT (pT pH))))) ?_ | refine Sel.cons (pT (pT (pT (pT (pT (pT pH)))))) ?_ | refine Sel.cons (pT (pT (pT (pT (pT (pT (pT pH))))))) ?_ | refine Sel.cons (pT (pT (pT (pT (pT (pT (pT (pT pH)))))))) ?_ | refine Sel.cons (pT (pT (pT (pT (pT (pT (pT (pT (pT pH))))))))) ?_ | refine Sel.cons (pT (pT (pT (pT (pT (pT (pT (pT (pT (pT pH)))))))))) ?_ | refine Sel.cons (pT (pT (pT (pT (pT (pT (pT (pT (pT (pT (pT pH))))))))))) ?_ | refine Sel.cons (pT (pT (pT (pT (pT (pT (pT (pT (pT (pT (pT (pT pH)))))))))))) ?_ | refine Sel.cons (pT (pT (pT (pT (pT (pT (pT (pT (pT (pT (pT (pT (pT pH))))))))))))) ?_ | refine Sel.cons (pT (pT (pT (pT (pT (pT (pT (pT (pT (pT (pT (pT (pT (pT pH)))))))))))))) ?_ | refine Sel.cons (pT (pT (pT (pT (pT (pT (pT (pT (pT (pT (pT (pT (pT (pT (pT pH))))))))))))))) ?_ | refine Sel.consw pH ⟨rfl, rfl, rfl⟩ ?_ | refine Sel.consw (pT pH) ⟨rfl, rfl, rfl⟩ ?_ | refine Sel.consw (pT (pT pH)) ⟨rfl, rfl, rfl⟩ ?_ | refine Sel.consw (pT (pT (pT pH))) ⟨rfl, rfl, rfl⟩ ?_ | refine Sel.consw (pT (pT (pT (pT pH)))) ⟨rfl, rfl, rfl⟩ ?_ | refine Sel.consw (pT (pT (pT (pT (pT pH))))) ⟨rfl, rfl, rfl⟩ ?_ | refine Sel.consw (pT (pT (pT (pT (pT (pT pH)))))) ⟨rfl, rfl, rfl⟩ ?_ | refine Sel.consw (pT (pT (pT (pT (pT (pT (pT pH))))))) ⟨rfl, rfl, rfl⟩ ?_ | refine Sel.consw (pT (pT (pT (pT (pT (pT (pT (pT pH)))))))) ⟨rfl, rfl, rfl⟩ ?_ | refine Sel.consw (pT (pT (pT (pT (pT (pT (pT (pT (pT pH))))))))) ⟨rfl, rfl, rfl⟩ ?_ | refine Sel.consw (pT (pT (pT (pT (pT (pT (pT (pT (pT (pT pH)))))))))) ⟨rfl, rfl, rfl⟩ ?_ | refine Sel.consw (pT (pT (pT (pT (pT (pT (pT (pT (pT (pT (pT pH))))))))))) ⟨rfl, rfl, rfl⟩ ?_ | refine Sel.consw (pT (pT (pT (pT (pT (pT (pT (pT (pT (pT (pT (pT pH)))))))))))) ⟨rfl, rfl, rfl⟩ ?_ | refine Sel.consw (pT (pT (pT (pT (pT (pT (pT (pT (pT (pT (pT (pT (pT pH))))))))))))) ⟨rfl, rfl, rfl⟩ ?_ | refine Sel.consw (pT (pT (pT (pT (pT (pT (pT (pT (pT (pT (pT (pT (pT (pT pH)))))))))))))) ⟨rfl, rfl, rfl⟩ ?_ | refine Sel.consw (pT (pT (pT (pT (pT (pT (pT (pT (pT (pT (pT (pT (pT (pT (pT pH))))))))))))))) ⟨rfl, rfl, rfl⟩ ?_ | refine Sel.snoc pH ?_ | refine Sel.snoc (pT pH) ?_ | refine Sel.snoc (pT (pT pH)) ?_ | refine Sel.snoc (pT (pT (pT pH))) ?_ | refine Sel.snoc (pT (pT (pT (pT pH)))) ?_ | refine Sel.snoc (pT (pT (pT (pT (pT pH))))) ?_ | refine Sel.snoc (pT (pT (pT (pT (pT (pT pH)))))) ?_ | refine Sel.snoc (pT (pT (pT (pT (pT (pT (pT pH))))))) ?_ | refine Sel.snoc (pT (pT (pT (pT (pT (pT (pT (pT pH)))))))) ?_ | refine Sel.snoc (pT (pT (pT (pT (pT (pT (pT (pT (pT pH))))))))) ?_ | refine Sel.snoc (pT (pT (pT (pT (pT (pT (pT (pT (pT (pT pH)))))))))) ?_ | refine Sel.snoc (pT (pT (pT (pT (pT (pT (pT (pT (pT (pT (pT pH))))))))))) ?_ | refine Sel.snoc (pT (pT (pT (pT (pT (pT (pT (pT (pT (pT (pT (pT pH)))))))))))) ?_ | refine Sel.snoc (pT (pT (pT (pT (pT (pT (pT (pT (pT (pT (pT (pT (pT pH))))))))))))) ?_ | refine Sel.snoc (pT (pT (pT (pT (pT (pT (pT (pT (pT (pT (pT (pT (pT (pT pH)))))))))))))) ?_ | refine Sel.snoc (pT (pT (pT (pT (pT (pT (pT (pT (pT (pT (pT (pT (pT (pT (pT pH))))))))))))))) ?_ | refine Sel.drop ?_)) : WkM m m' := h
theorem WG {m m' : Mem} (h : WkM m m' := by refine Sel.wk ?_; (try simp only [List.cons_append, List.nil_append]); repeat' (first | exact Sel.nil | exact Sel.all | exact Sel.left | refine Sel.cons pH ?_ | refine Sel.cons (pT pH) ?_ | refine Sel.cons (pT (pT pH)) ?_ | refine Sel.cons (pT (pT (pT pH))) ?_ | refine Sel.cons (pT (pT (pT (pT pH)))) ?_ | refine Sel.cons (pT (pT (pT (pT (pT pH))))) ?_ | refine Sel.cons (pT (pT (pT (pT (pT (pT pH)))))) ?_ | refine Sel.cons (pT (pT (pT (pT (pT (pT (pT pH))))))) ?_ | refine Sel.cons (pT (pT (pT (pT (pT (pT (pT (pT pH)))))))) ?_ | refine Sel.cons (pT (pT (pT (pT (pT (pT (pT (pT (pT pH))))))))) ?_ | refine Sel.cons (pT (pT (pT (pT (pT (pT (pT (pT (pT (pT pH)))))))))) ?_ | refine Sel.cons (pT (pT (pT (pT (pT (pT (pT (pT (pT (pT (pT pH))))))))))) ?_ | refine Sel.cons (pT (pT (pT (pT (pT (pT (pT (pT (pT (pT (pT (pT pH)))))))))))) ?_ | refine Sel.cons (pT (pT (pT (pT (pT (pT (pT (pT (pT (pT (pT (pT (pT pH))))))))))))) ?_ | refine Sel.cons (pT (pT (pT (pT (pT (pT (pT (pT (pT (pT (pT (pT (pT (pT pH)))))))))))))) ?_ | refine Sel.cons (pT (pT (pT (pT (pT (pT (pT (pT (pT (pT (pT (pT (pT (pT (pT pH))))))))))))))) ?_ | refine Sel.consw pH ⟨rfl, rfl, rfl⟩ ?_ | refine Sel.consw (pT pH) ⟨rfl, rfl, rfl⟩ ?_ | refine Sel.consw (pT (pT pH)) ⟨rfl, rfl, rfl⟩ ?_ | refine Sel.consw (pT (pT (pT pH))) ⟨rfl, rfl, rfl⟩ ?_ | refine Sel.consw (pT (pT (pT (pT pH)))) ⟨rfl, rfl, rfl⟩ ?_ | refine Sel.consw (pT (pT (pT (pT (pT pH))))) ⟨rfl, rfl, rfl⟩ ?_ | refine Sel.consw (pT (pT (pT (pT (pT (pT pH)))))) ⟨rfl, rfl, rfl⟩ ?_ | refine Sel.consw (pT (pT (pT (pT (pT (pT (pT pH))))))) ⟨rfl, rfl, rfl⟩ ?_ | refine Sel.consw (pT (pT (pT (pT (pT (pT (pT (pT pH)))))))) ⟨rfl, rfl, rfl⟩ ?_ | refine Sel.consw (pT (pT (pT (pT (pT (pT (pT (pT (pT pH))))))))) ⟨rfl, rfl, rfl⟩ ?_ | refine Sel.consw (pT (pT (pT (pT (pT (pT (pT (pT (pT (pT pH)))))))))) ⟨rfl, rfl, rfl⟩ ?_ | refine Sel.consw (pT (pT (pT (pT (pT (pT (pT (pT (pT (pT (pT pH))))))))))) ⟨rfl, rfl, rfl⟩ ?_ | refine Sel.consw (pT (pT (pT (pT (pT (pT (pT (pT (pT (pT (pT (pT pH)))))))))))) ⟨rfl, rfl, rfl⟩ ?_ | refine Sel.consw (pT (pT (pT (pT (pT (pT (pT (pT (pT (pT (pT (pT (pT pH))))))))))))) ⟨rfl, rfl, rfl⟩ ?_ | refine Sel.consw (pT (pT (pT (pT (pT (pT (pT (pT (pT (pT (pT (pT (pT (pT pH)))))))))))))) ⟨rfl, rfl, rfl⟩ ?_ | refine Sel.consw (pT (pT (pT (pT (pT (pT (pT (pT (pT (pT (pT (pT (pT (pT (pT pH))))))))))))))) ⟨rfl, rfl, rfl⟩ ?_ | refine Sel.consw pH ⟨rfl, rfl, rfl, rfl, by assumption⟩ ?_ | refine Sel.consw (pT pH) ⟨rfl, rfl, rfl, rfl, by assumption⟩ ?_ | refine Sel.consw (pT (pT pH)) ⟨rfl, rfl, rfl, rfl, by assumption⟩ ?_ | refine Sel.consw (pT (pT (pT pH))) ⟨rfl, rfl, rfl, rfl, by assumption⟩ ?_ | refine Sel.consw (pT (pT (pT (pT pH)))) ⟨rfl, rfl, rfl, rfl, by assumption⟩ ?_ | refine Sel.consw (pT (pT (pT (pT (pT pH))))) ⟨rfl, rfl, rfl, rfl, by assumption⟩ ?_ | refine Sel.consw (pT (pT (pT (pT (pT (pT pH)))))) ⟨rfl, rfl, rfl, rfl, by assumption⟩ ?_ | refine Sel.consw (pT (pT (pT (pT (pT (pT (pT pH))))))) ⟨rfl, rfl, rfl, rfl, by assumption⟩ ?_ | refine Sel.consw (pT (pT (pT (pT (pT (pT (pT (pT pH)))))))) ⟨rfl, rfl, rfl, rfl, by assumption⟩ ?_ | refine Sel.consw (pT (pT (pT (pT (pT (pT (pT (pT (pT pH))))))))) ⟨rfl, rfl, rfl, rfl, by assumption⟩ ?_ | refine Sel.consw (pT (pT (pT (pT (pT (pT (pT (pT (pT (pT pH)))))))))) ⟨rfl, rfl, rfl, rfl, by assumption⟩ ?_ | refine Sel.consw (pT (pT (pT (pT (pT (pT (pT (pT (pT (pT (pT pH))))))))))) ⟨rfl, rfl, rfl, rfl, by assumption⟩ ?_ | refine Sel.consw (pT (pT (pT (pT (pT (pT (pT (pT (pT (pT (pT (pT pH)))))))))))) ⟨rfl, rfl, rfl, rfl, by assumption⟩ ?_ | refine Sel.consw (pT (pT (pT (pT (pT (pT (pT (pT (pT (pT (pT (pT (pT pH))))))))))))) ⟨rfl, rfl, rfl, rfl, by assumption⟩ ?_ | refine Sel.consw (pT (pT (pT (pT (pT (pT (pT (pT (pT (pT (pT (pT (pT (pT pH)))))))))))))) ⟨rfl, rfl, rfl, rfl, by assumption⟩ ?_ | refine Sel.consw (pT (pT (pT (pT (pT (pT (pT (pT (pT (pT (pT (pT (pT (pT (pT pH))))))))))))))) ⟨rfl, rfl, rfl, rfl, by assumption⟩ ?_ | refine Sel.consw pH ⟨rfl, rfl, rfl, .inl rfl, fun _ _ => rfl⟩ ?_ | refine Sel.consw (pT pH) ⟨rfl, rfl, rfl, .inl rfl, fun _ _ => rfl⟩ ?_ | refine Sel.consw (pT (pT pH)) ⟨rfl, rfl, rfl, .inl rfl, fun _ _ => rfl⟩ ?_ | refine Sel.consw (pT (pT (pT pH))) ⟨rfl, rfl, rfl, .inl rfl, fun _ _ => rfl⟩ ?_ | refine Sel.consw (pT (pT (pT (pT pH)))) ⟨rfl, rfl, rfl, .inl rfl, fun _ _ => rfl⟩ ?_ | refine Sel.consw (pT (pT (pT (pT (pT pH))))) ⟨rfl, rfl, rfl, .inl rfl, fun _ _ => rfl⟩ ?_ | refine Sel.consw (pT (pT (pT (pT (pT (pT pH)))))) ⟨rfl, rfl, rfl, .inl rfl, fun _ _ => rfl⟩ ?_ | refine Sel.consw (pT (pT (pT (pT (pT (pT (pT pH))))))) ⟨rfl, rfl, rfl, .inl rfl, fun _ _ => rfl⟩ ?_ | refine Sel.consw (pT (pT (pT (pT (pT (pT (pT (pT pH)))))))) ⟨rfl, rfl, rfl, .inl rfl, fun _ _ => rfl⟩ ?_ | refine Sel.consw (pT (pT (pT (pT (pT (pT (pT (pT (pT pH))))))))) ⟨rfl, rfl, rfl, .inl rfl, fun _ _ => rfl⟩ ?_ | refine Sel.consw (pT (pT (pT (pT (pT (pT (pT (pT (pT (pT pH)))))))))) ⟨rfl, rfl, rfl, .inl rfl, fun _ _ => rfl⟩ ?_ | refine Sel.consw (pT (pT (pT (pT (pT (pT (pT (pT (pT (pT (pT pH))))))))))) ⟨rfl, rfl, rfl, .inl rfl, fun _ _ => rfl⟩ ?_ | refine Sel.consw (pT (pT (pT (pT (pT (pT (pT (pT (pT (pT (pT (pT pH)))))))))))) ⟨rfl, rfl, rfl, .inl rfl, fun _ _ => rfl⟩ ?_ | refine Sel.consw (pT (pT (pT (pT (pT (pT (pT (pT (pT (pT (pT (pT (pT pH))))))))))))) ⟨rfl, rfl, rfl, .inl rfl, fun _ _ => rfl⟩ ?_ | refine Sel.consw (pT (pT (pT (pT (pT (pT (pT (pT (pT (pT (pT (pT (pT (pT pH)))))))))))))) ⟨rfl, rfl, rfl, .inl rfl, fun _ _ => rfl⟩ ?_ | refine Sel.consw (pT (pT (pT (pT (pT (pT (pT (pT (pT (pT (pT (pT (pT (pT (pT pH))))))))))))))) ⟨rfl, rfl, rfl, .inl rfl, fun _ _ => rfl⟩ ?_ | refine Sel.consw pH ⟨rfl, rfl, rfl, .inr rfl, fun _ _ => rfl⟩ ?_ | refine Sel.consw (pT pH) ⟨rfl, rfl, rfl, .inr rfl, fun _ _ => rfl⟩ ?_ | refine Sel.consw (pT (pT pH)) ⟨rfl, rfl, rfl, .inr rfl, fun _ _ => rfl⟩ ?_ | refine Sel.consw (pT (pT (pT pH))) ⟨rfl, rfl, rfl, .inr rfl, fun _ _ => rfl⟩ ?_ | refine Sel.consw (pT (pT (pT (pT pH)))) ⟨rfl, rfl, rfl, .inr rfl, fun _ _ => rfl⟩ ?_ | refine Sel.consw (pT (pT (pT (pT (pT pH))))) ⟨rfl, rfl, rfl, .inr rfl, fun _ _ => rfl⟩ ?_ | refine Sel.consw (pT (pT (pT (pT (pT (pT pH)))))) ⟨rfl, rfl, rfl, .inr rfl, fun _ _ => rfl⟩ ?_ | refine Sel.consw (pT (pT (pT (pT (pT (pT (pT pH))))))) ⟨rfl, rfl, rfl, .inr rfl, fun _ _ => rfl⟩ ?_ | refine Sel.consw (pT (pT (pT (pT (pT (pT (pT (pT pH)))))))) ⟨rfl, rfl, rfl, .inr rfl, fun _ _ => rfl⟩ ?_ | refine Sel.consw (pT (pT (pT (pT (pT (pT (pT (pT (pT pH))))))))) ⟨rfl, rfl, rfl, .inr rfl, fun _ _ => rfl⟩ ?_ | refine Sel.consw (pT (pT (pT (pT (pT (pT (pT (pT (pT (pT pH)))))))))) ⟨rfl, rfl, rfl, .inr rfl, fun _ _ => rfl⟩ ?_ | refine Sel.consw (pT (pT (pT (pT (pT (pT (pT (pT (pT (pT (pT pH))))))))))) ⟨rfl, rfl, rfl, .inr rfl, fun _ _ => rfl⟩ ?_ | refine Sel.consw (pT (pT (pT (pT (pT (pT (pT (pT (pT (pT (pT (pT pH)))))))))))) ⟨rfl, rfl, rfl, .inr rfl, fun _ _ => rfl⟩ ?_ | refine Sel.consw (pT (pT (pT (pT (pT (pT (pT (pT (pT (pT (pT (pT (pT pH))))))))))))) ⟨rfl, rfl, rfl, .inr rfl, fun _ _ => rfl⟩ ?_ | refine Sel.consw (pT (pT (pT (pT (pT (pT (pT (pT (pT (pT (pT (pT (pT (pT pH)))))))))))))) ⟨rfl, rfl, rfl, .inr rfl, fun _ _ => rfl⟩ ?_ | refine Sel.consw (pT (pT (pT (pT (pT (pT (pT (pT (pT (pT (pT (pT (pT (pT (pT pH))))))))))))))) ⟨rfl, rfl, rfl, .inr rfl, fun _ _ => rfl⟩ ?_ | refine Sel.snoc pH ?_ | refine Sel.snoc (pT pH) ?_ | refine Sel.snoc (pT (pT pH)) ?_ | refine Sel.snoc (pT (pT (pT pH))) ?_ | refine Sel.snoc (pT (pT (pT (pT pH)))) ?_ | refine Sel.snoc (pT (pT (pT (pT (pT pH))))) ?_ | refine Sel.snoc (pT (pT (pT (pT (pT (pT pH)))))) ?_ | refine Sel.snoc (pT (pT (pT (pT (pT (pT (pT pH))))))) ?_ | refine Sel.snoc (pT (pT (pT (pT (pT (pT (pT (pT pH)))))))) ?_ | refine Sel.snoc (pT (pT (pT (pT (pT (pT (pT (pT (pT pH))))))))) ?_ | refine Sel.snoc (pT (pT (pT (pT (pT (pT (pT (pT (pT (pT pH)))))))))) ?_ | refine Sel.snoc (pT (pT (pT (pT (pT (pT (pT (pT (pT (pT (pT pH))))))))))) ?_ | refine Sel.snoc (pT (pT (pT (pT (pT (pT (pT (pT (pT (pT (pT (pT pH)))))))))))) ?_ | refine Sel.snoc (pT (pT (pT (pT (pT (pT (pT (pT (pT (pT (pT (pT (pT pH))))))))))))) ?_ | refine Sel.snoc (pT (pT (pT (pT (pT (pT (pT (pT (pT (pT (pT (pT (pT (pT pH)))))))))))))) ?_ | refine Sel.snoc (pT (pT (pT (pT (pT (pT (pT (pT (pT (pT (pT (pT (pT (pT (pT pH))))))))))))))) ?_ | refine Sel.drop ?_)) : WkM m m' := h
abbrev i64 (n : Int) : SV := .int .i64 n
theorem lt_of_iLt {a b : Nat} (h : iLt (Int.ofNat a) (Int.ofNat b) = true) : a < b := by rw [iLt_eq] at h; simpa using h
theorem ge_of_iLt {a b : Nat} (h : iLt (Int.ofNat a) (Int.ofNat b) = false) : b ≤ a := by rw [iLt_eq] at h; simpa using h
theorem iLt_t {a b : Nat} (h : a < b) : iLt (Int.ofNat a) (Int.ofNat b) = true := by rw [iLt_eq]; simpa using h
theorem iLt_f {a b : Nat} (h : b ≤ a) : iLt (Int.ofNat a) (Int.ofNat b) = false := by rw [iLt_eq]; simpa using h
theorem iLt_0 (a : Nat) : iLt (Int.ofNat a) 0 = false := by rw [iLt_eq]; simp
theorem iEq_n {a b : Nat} : iEq (Int.ofNat a) (Int.ofNat b) = decide (a = b) := by rw [iEq_eq]; refine decide_eq_decide.2 ?_; show (a : Int) = (b : Int) ↔ _; omega
theorem sm {n : Int} (h : -1000000000000 ≤ n ∧ n ≤ 1000000000000) : wr .i64 n = n := wr_id (by omega) (by omega)
theorem smn {i : Nat} (h : i ≤ 1000000000000) : wr .i64 (Int.ofNat i) = Int.ofNat i := wr_nat (i := i) (by omega)
theorem cg2 {α β γ : Type} (f : α → β → γ) {a a2 : α} {b b2 : β} (h : a = a2) (k : b = b2) : f a b = f a2 b2 := by rw [h, k]
theorem bool_tf {b : Bool} (h : b ≠ true) : b = false := by cases b <;> simp_all
theorem growE {n sz : Nat} {f : Nat → List SV} {l : List SV} (hl : l.length = sz) (hv : f n = l) : ∀ j, j < n + 1 → grow n sz f l j = f j := fun j hj => by
  unfold grow
  by_cases hjn : j < n
  · rw [blt_of hjn, cond_true]
  · have e : j = n := by omega
    subst e
    have hb : Nat.blt j j = false := by
      cases hh : Nat.blt j j with
      | false => rfl
      | true => have := blt_true hh; omega
    rw [hb, cond_false, hv]
    show List.take sz (List.drop ((j - j) * sz) l) = _
    rw [Nat.sub_self, Nat.zero_mul, List.drop_zero, List.take_of_length_le (by omega)]
/-- a slice that is empty may be read wherever -/
theorem sees_nil {m : Mem} (c sz : Nat) (f : Nat → List SV) (a : Option Addr) : SeesE m (.ro a 0 c sz f) := fun X Z s0 R s hm => ⟨⟨fun j hj => absurd hj (Nat.not_lt_zero _), .inl rfl⟩, fun b hb => hb⟩
/-- a loop over a function; its own memory comes first again -/
theorem call_iter2 {callR callI : CallT} {fv fv' : SV} {me : Mem} {N c len : Nat} {L : Nat → List SV} (h : IterC callR callI fv me N c len L) (I : Nat → Mem → Prop) (Q : Mem → Prop) (m0 : Mem) (R2 : Nat) {i b : Nat} {m : Mem} {R ni : Nat} {K : SV → Mem → Nat → Nat → Prop}
    (hfv : den fv' = den fv) (hw : WkM m (me ++ m0)) (h0 : I 0 m0)
    (hr : ∀ k, k < len → ∀ m, I k m → ∀ (me' : Mem) R, callS callR (.yf i b) (L k) (m ++ me') (addL R c) 500 fun w m' R' _ => R ≤ R' ∧ ∃ m1, WkM m' (m1 ++ me') ∧ ((den w = .bool true ∧ I (k + 1) m1) ∨ (den w = .bool false ∧ Q m1)))
    (hN : R2 + N ≤ R) (hK : ∀ w m1, I len m1 ∨ Q m1 → K w (me ++ m1) R2 ni) : callS callI fv' [.yf i b] m R ni K := by
  refine callS.cast (fv' := fv) (args' := [.yf i b]) hfv rfl ?_
  refine callS.wk hw ?_
  have h1 := h i b I Q hr m0 h0 (R - N)
  rw [addL_eq, Nat.sub_add_cancel (by omega)] at h1
  exact call_post h1 fun w m' R' n' ⟨hR, m1, hw1, hI⟩ => ⟨w, me ++ m1, R2, ni, rfl, hw1.trans (WkM.comm _ _), by omega, hK w m1 hI⟩
theorem len1 {n : Nat} (h1 : 0 < n) (h2 : n ≤ 1000) : wr .i64 (Int.sub (Int.ofNat n) 1) = Int.ofNat (n - 1) := (sm (n := (n : Int) - 1) (by omega)).trans (by show (n : Int) - 1 = ((n - 1 : Nat) : Int); omega)
theorem getD_mem {l : List Nat} {k : Nat} (h : k < l.length) : l.getD k 0 ∈ l := by rw [List.getD_eq_getElem?_getD, List.getElem?_eq_getElem h]; exact List.getElem_mem h
theorem mem_getD {l : List Nat} {y : Nat} (h : y ∈ l) : ∃ k, k < l.length ∧ l.getD k 0 = y := by
  obtain ⟨k, hk, e⟩ := List.mem_iff_getElem.1 h
  exact ⟨k, hk, by rw [List.getD_eq_getElem?_getD, List.getElem?_eq_getElem hk]; exact e⟩
/-- a slice that is only read may be read twice -/
theorem WkM.dup {i j n c sz : Nat} {a : Option Addr} {f : Nat → List SV} {m : Mem} : WkM ((i, .ro a n c sz f) :: m) ((j, .ro a n c sz f) :: (i, .ro a n c sz f) :: m) := fun X Z s0 R s hm =>
  hm.cons (hm.ent (i, .ro a n c sz f) (by simp)) fun x hx => by
    rcases List.mem_cons.1 hx with rfl | hx
    · exact ⟨fun b hb => hb.elim, fun b hb => hb.elim, fun b _ hb => hb⟩
    · exact (List.pairwise_cons.1 hm.dis).1 x hx
theorem putG_all {n2 : Nat} {h g0 : Nat → List SV} : ∀ j, j < n2 → putG 0 n2 h g0 j = h j := fun j hj => by
  have := putG_in (p := 0) (h := h) (g := g0) hj
  rw [Nat.zero_add] at this; exact this
theorem emS_z {n : Nat} {K0 K1 : Prop} (hn : n = 0) (h : K0) : emS n K0 K1 := ⟨fun _ => h, fun h0 => absurd hn (by omega)⟩
theorem seS_sb {i b p b' p' j sz n c : Nat} {a : Option Addr} {K : Prop} (h1 : a = some ⟨b, p, none⟩) (h2 : a = some ⟨b', p', none⟩) (h : K) : seS (.sb i b p j sz n c) (.sb i b' p' j sz n c) K := by
  rw [h1] at h2; cases h2; exact ⟨rfl, h⟩
/-- whose turn it is among what Spare answers -/
theorem ltS_1 {p s b : Nat} {K : Prop} (hs : s = 1) (h : p < b) (k : K) : ltS (Nat.mul p s) b K := by subst hs; exact ltS_intro (by show p * 1 < b; omega) k
theorem ltS_2 {p q s b : Nat} {K : Prop} (hs : s = 1) (h : p + q < b) (k : K) : ltS (Nat.add (Nat.mul p s) (Nat.mul q s)) b K := by subst hs; exact ltS_intro (by show p * 1 + q * 1 < b; omega) k
theorem nM1 {A : Prop} (h : A := by (first | (simp only [addL_eq, addL_rec]; omega) | omega | exact Nat.le_refl _)) : A := h
theorem oM1 {A : Prop} (h : A := by first | omega | (simp only [Nat.add_eq, Nat.sub_eq, Nat.mul_eq, Nat.succ_eq_add_one]; omega)) : A := h
theorem gL {a b : Nat} {K : Prop} (k : K) (h : a < b := by first | assumption | decide | exact Nat.le_of_ble_eq_true rfl | omega) : ltS a b K := ltS_intro h k
theorem gM {a b : Nat} {K : Prop} (k : K) (h : a < b := by have := lt_of_iLt ‹iLt (Int.ofNat _) (Int.ofNat _) = true›; omega) : ltS a b K := ltS_intro h k
theorem gX {n q : Nat} {K : Nat → Prop} (k : K q) (h : q < n := by first | assumption | decide | omega) : ixS (Int.ofNat q) n K := ixS_of rfl h k
theorem gY {n q : Nat} {K : Nat → Prop} (k : K q) (h : q < n := by have := lt_of_iLt ‹iLt (Int.ofNat _) (Int.ofNat _) = true›; omega) : ixS (Int.ofNat q) n K := ixS_of rfl h k
theorem gE {n : Nat} {f : Nat → List SV} {K : Prop} (k : K) (h : ∀ j, j < n → okL (f j) = true := by exact fun _ _ => rfl) : flE n f K := flE_intro h k
theorem gT {b : Bool} {x y : Prop} (k : x) (h : b = true := by assumption) : brS b x y := brS_t h k
theorem gF {b : Bool} {x y : Prop} (k : y) (h : b = false := by assumption) : brS b x y := brS_f h k
theorem gI {a : Int} {x y : Prop} (k : x) : brS (iEq a a) x y := brS_t (iEq_self a) k
theorem gO {A K : Prop} (k : K) (h : A := by first | assumption | kernel_rfl) : okS A K := okS_intro h k
theorem gN {n : Int} {K : Prop} (k : K) (h : n ≠ 0 := by first | decide | assumption) : nzS n K := nzS_intro h k
/-- fractions -/
abbrev fr (q : Rat) : SV := .agg [.int .i64 q.num, .int .i64 (Int.ofNat q.den)]
theorem div_num {n m : Int} (hm : 0 < m) : ((n : Rat) / (m : Rat)).num = Int.tdiv n (Int.ofNat (Int.gcd n m)) := by
  have hg : 0 < Int.gcd n m := Int.gcd_pos_of_ne_zero_right _ (by omega)
  rw [← Rat.divInt_eq_div, Rat.num_divInt, Int.sign_eq_one_of_pos hm, Int.one_mul, Int.gcd_comm]
  obtain ⟨k, hk⟩ := Int.gcd_dvd_left (a := n) (b := m)
  conv => lhs; arg 1; rw [hk]
  conv => rhs; arg 1; rw [hk]
  rw [Int.mul_ediv_cancel_left _ (by omega), show (Int.ofNat (Int.gcd n m)) = ((Int.gcd n m : Nat) : Int) from rfl, Int.mul_tdiv_cancel_left _ (by omega)]
theorem div_den {n m : Int} (hm : 0 < m) : (((n : Rat) / (m : Rat)).den : Int) = Int.tdiv m (Int.ofNat (Int.gcd n m)) := by
  have hg : 0 < Int.gcd n m := Int.gcd_pos_of_ne_zero_right _ (by omega)
  rw [← Rat.divInt_eq_div, Rat.den_divInt, if_neg (by omega), Int.gcd_comm m n]
  obtain ⟨k, hk⟩ := Int.gcd_dvd_right (a := n) (b := m)
  have e1 : m.natAbs / Int.gcd n m = k.natAbs := by
    conv => lhs; arg 1; rw [hk]
    rw [Int.natAbs_mul, Int.natAbs_natCast, Nat.mul_div_cancel_left _ hg]
  rw [e1]
  conv => rhs; arg 1; rw [hk]
  rw [show (Int.ofNat (Int.gcd n m)) = ((Int.gcd n m : Nat) : Int) from rfl, Int.mul_tdiv_cancel_left _ (by omega)]
  have : 0 < k := by
    rcases Int.lt_or_le 0 k with h | h
    · exact h
    · have := Int.mul_le_mul_of_nonneg_left h (show (0 : Int) ≤ (Int.gcd n m : Nat) by omega)
      rw [Int.mul_zero, ← hk] at this
      omega
  omega
theorem num_div (q : Rat) : (q.num : Rat) / (q.den : Rat) = q := by
  rw [← Rat.mkRat_eq_div, Rat.mkRat_self]
/-- a fraction whose denominator is at most D and that lies from -V to V -/
structure Vb (q : Rat) (V D : Nat) : Prop where
  d : q.den ≤ D
  lo : -(V : Int) * q.den ≤ q.num
  hi : q.num ≤ (V : Int) * q.den
theorem le_iff_num {q : Rat} {V : Int} : q ≤ (V : Rat) ↔ q.num ≤ V * q.den := by
  rw [Rat.le_iff, Rat.den_intCast, Rat.num_intCast]; simp
theorem num_le_iff {q : Rat} {V : Int} : (V : Rat) ≤ q ↔ V * q.den ≤ q.num := by
  rw [Rat.le_iff, Rat.den_intCast, Rat.num_intCast]; simp
theorem lt_iff_num {q : Rat} {V : Int} : q < (V : Rat) ↔ q.num < V * q.den := by
  rw [Rat.lt_iff, Rat.den_intCast, Rat.num_intCast]; simp
theorem num_lt_iff {q : Rat} {V : Int} : (V : Rat) < q ↔ V * q.den < q.num := by
  rw [Rat.lt_iff, Rat.den_intCast, Rat.num_intCast]; simp
theorem Vb.of {q : Rat} {V D : Nat} (hd : q.den ≤ D) (h1 : -(V : Rat) ≤ q) (h2 : q ≤ (V : Rat)) : Vb q V D :=
  ⟨hd, num_le_iff.1 (by push_cast; exact h1), le_iff_num.1 (by push_cast; exact h2)⟩
theorem Vb.r1 {q : Rat} {V D : Nat} (h : Vb q V D) : -(V : Rat) ≤ q := by
  have := num_le_iff.2 h.lo; push_cast at this; exact this
theorem Vb.r2 {q : Rat} {V D : Nat} (h : Vb q V D) : q ≤ (V : Rat) := by
  have := le_iff_num.2 h.hi; push_cast at this; exact this
theorem den_dvd {n m : Int} (hm : 0 < m) : (((n : Rat) / (m : Rat)).den : Int) ∣ m := by
  rw [div_den hm]
  obtain ⟨k, hk⟩ := Int.gcd_dvd_right (a := n) (b := m)
  have hg : 0 < Int.gcd n m := Int.gcd_pos_of_ne_zero_right _ (by omega)
  conv => rhs; rw [hk]
  conv => lhs; arg 1; rw [hk]
  rw [show (Int.ofNat (Int.gcd n m)) = ((Int.gcd n m : Nat) : Int) from rfl, Int.mul_tdiv_cancel_left _ (by omega)]
  exact ⟨_, Int.mul_comm _ _⟩
theorem den_le {n m : Int} (hm : 0 < m) : (((n : Rat) / (m : Rat)).den : Int) ≤ m := Int.le_of_dvd hm (den_dvd hm)
/-- the sum, as it is reckoned -/
theorem add_rk {f o : Rat} {k1 k2 c : Int} (h1 : c = f.den * k1) (h2 : c = o.den * k2) (hc : 0 < c) : ((f.num * k1 + o.num * k2 : Int) : Rat) / (c : Rat) = f + o := by
  have hf := num_div f
  have ho := num_div o
  have e1 : (c : Rat) = (f.den : Rat) * (k1 : Rat) := by rw [h1]; push_cast; rfl
  have e2 : (c : Rat) = (o.den : Rat) * (k2 : Rat) := by rw [h2]; push_cast; rfl
  have hc' : (c : Rat) ≠ 0 := by intro h; rw [Rat.intCast_eq_zero_iff] at h; omega
  have hfd : (f.den : Rat) ≠ 0 := by intro h; rw [Rat.natCast_eq_zero_iff] at h; exact f.den_nz h
  have hod : (o.den : Rat) ≠ 0 := by intro h; rw [Rat.natCast_eq_zero_iff] at h; exact o.den_nz h
  push_cast
  conv => rhs; rw [← hf, ← ho]
  generalize (f.num : Rat) = a at *
  generalize (o.num : Rat) = b at *
  generalize (f.den : Rat) = x at *
  generalize (o.den : Rat) = y at *
  generalize (k1 : Rat) = k at *
  generalize (k2 : Rat) = l at *
  generalize (c : Rat) = z at *
  grind
theorem div_eq {q : Rat} {n m : Int} (hm : m ≠ 0) (h : q.num * m = n * q.den) : (n : Rat) / (m : Rat) = q := by
  have hq := num_div q
  have e : (q.num : Rat) * (m : Rat) = (n : Rat) * (q.den : Rat) := by exact_mod_cast congrArg (fun x : Int => (x : Rat)) h
  have hm' : (m : Rat) ≠ 0 := by intro h; rw [Rat.intCast_eq_zero_iff] at h; exact hm h
  have hfd : (q.den : Rat) ≠ 0 := by intro h; rw [Rat.natCast_eq_zero_iff] at h; exact q.den_nz h
  conv => rhs; rw [← hq]
  generalize (q.num : Rat) = a at *
  generalize (q.den : Rat) = x at *
  generalize (n : Rat) = b at *
  generalize (m : Rat) = y at *
  grind
theorem addI_gcd (q : Rat) (k : Int) : (q.num + k * ↑q.den).natAbs.gcd q.den = 1 := by
  have h := q.reduced
  unfold Nat.Coprime at h
  have e : ((q.num + k * ↑q.den).natAbs.gcd q.den : Nat) = Int.gcd (q.num + k * ↑q.den) (q.den : Int) := rfl
  rw [e, Int.gcd_add_mul_right_left]
  exact h
theorem addI_den (q : Rat) (k : Int) : (q + (k : Rat)).den = q.den := by
  rw [Rat.den_add]; simp [addI_gcd]
theorem addI_num (q : Rat) (k : Int) : (q + (k : Rat)).num = q.num + k * q.den := by
  rw [Rat.num_add]; simp [addI_gcd]
theorem mul_rk {f : Rat} {n m : Int} (hm : 0 < m) : ((f.num * n : Int) : Rat) / ((f.den * m : Int) : Rat) = f * ((n : Rat) / (m : Rat)) := by
  have hf := num_div f
  have hm' : (m : Rat) ≠ 0 := by intro h; rw [Rat.intCast_eq_zero_iff] at h; omega
  have hfd : (f.den : Rat) ≠ 0 := by intro h; rw [Rat.natCast_eq_zero_iff] at h; exact f.den_nz h
  push_cast
  conv => rhs; rw [← hf]
  generalize (f.num : Rat) = a at *
  generalize (f.den : Rat) = x at *
  generalize (n : Rat) = b at *
  generalize (m : Rat) = y at *
  grind
theorem lt_rk {f o : Rat} : f < o ↔ f.num * o.den < o.num * f.den := Rat.lt_iff f o
theorem mul_den {f : Rat} {n m : Int} (hm : 0 < m) : ((f * ((n : Rat) / (m : Rat))).den : Int) ≤ f.den * m := by
  rw [← mul_rk hm]
  exact den_le (Int.mul_pos (by have := f.den_pos; omega) hm)
theorem add_den (f o : Rat) : (f + o).den ≤ f.den * o.den := by
  have := add_rk (f := f) (o := o) (k1 := o.den) (k2 := f.den) (c := f.den * o.den) rfl (Int.mul_comm _ _) (Int.mul_pos (by have := f.den_pos; omega) (by have := o.den_pos; omega))
  rw [← this]
  have := den_le (n := f.num * o.den + o.num * f.den) (m := f.den * o.den) (Int.mul_pos (by have := f.den_pos; omega) (by have := o.den_pos; omega))
  exact_mod_cast this
theorem Vb.add {f o : Rat} {V W D E : Nat} (h : Vb f V D) (k : Vb o W E) : Vb (f + o) (V + W) (D * E) := by
  refine Vb.of (Nat.le_trans (add_den f o) (Nat.mul_le_mul h.d k.d)) ?_ ?_
  · have := h.r1; have := k.r1; push_cast; grind
  · have := h.r2; have := k.r2; push_cast; grind
theorem Vb.int {n : Int} {V : Nat} (h : -(V : Int) ≤ n ∧ n ≤ V) : Vb (n : Rat) V 1 := ⟨Nat.le_refl 1, by simp; omega, by simp; omega⟩
theorem Vb.mono {q : Rat} {V W D E : Nat} (h : Vb q V D) (h1 : V ≤ W) (h2 : D ≤ E) : Vb q W E := by
  refine ⟨Nat.le_trans h.d h2, ?_, ?_⟩
  · have := h.lo; have h3 : (V : Int) * q.den ≤ W * q.den := Int.mul_le_mul_of_nonneg_right (by omega) (by omega)
    rw [Int.neg_mul] at *; omega
  · have := h.hi; have h3 : (V : Int) * q.den ≤ W * q.den := Int.mul_le_mul_of_nonneg_right (by omega) (by omega)
    omega
/-- how large the parts are -/
theorem Vb.num {q : Rat} {V D : Nat} (h : Vb q V D) : -((V * D : Nat) : Int) ≤ q.num ∧ q.num ≤ ((V * D : Nat) : Int) := by
  have h1 : (V : Int) * q.den ≤ V * D := Int.mul_le_mul_of_nonneg_left (by have := h.d; omega) (by omega)
  have := h.lo; have := h.hi
  push_cast
  rw [Int.neg_mul] at *
  omega
theorem div_cross (n : Int) {m : Int} (hm : 0 < m) : ((n : Rat) / (m : Rat)).num * m = n * ((n : Rat) / (m : Rat)).den := by
  rw [div_num hm, div_den hm]
  have hg : 0 < Int.gcd n m := Int.gcd_pos_of_ne_zero_right _ (by omega)
  obtain ⟨k, hk⟩ := Int.gcd_dvd_left (a := n) (b := m)
  obtain ⟨l, hl⟩ := Int.gcd_dvd_right (a := n) (b := m)
  have e1 : Int.tdiv n (Int.ofNat (Int.gcd n m)) = k := by
    conv => lhs; arg 1; rw [hk]
    rw [show (Int.ofNat (Int.gcd n m)) = ((Int.gcd n m : Nat) : Int) from rfl, Int.mul_tdiv_cancel_left _ (by omega)]
  have e2 : Int.tdiv m (Int.ofNat (Int.gcd n m)) = l := by
    conv => lhs; arg 1; rw [hl]
    rw [show (Int.ofNat (Int.gcd n m)) = ((Int.gcd n m : Nat) : Int) from rfl, Int.mul_tdiv_cancel_left _ (by omega)]
  rw [e1, e2]
  conv => lhs; arg 2; rw [hl]
  conv => rhs; arg 1; rw [hk]
  generalize ((Int.gcd n m : Nat) : Int) = g
  rw [← Int.mul_assoc, Int.mul_comm k g]
theorem Vb.div {n m : Int} {V D : Nat} (hm : 0 < m) (h1 : -((V : Int) * m) ≤ n) (h2 : n ≤ (V : Int) * m) (hD : m ≤ D) : Vb ((n : Rat) / (m : Rat)) V D := by
  have hc := div_cross n hm
  have hd := den_le (n := n) hm
  have hp := ((n : Rat) / (m : Rat)).den_pos
  generalize (n : Rat) / (m : Rat) = q at *
  have hb : (0 : Int) ≤ q.den := by omega
  refine ⟨by omega, ?_, ?_⟩
  · refine Int.le_of_mul_le_mul_right ?_ hm
    rw [hc]
    have := Int.mul_le_mul_of_nonneg_right h1 hb
    rw [Int.neg_mul, Int.neg_mul, Int.mul_right_comm]
    rw [Int.neg_mul] at this
    exact this
  · refine Int.le_of_mul_le_mul_right ?_ hm
    rw [hc]
    have := Int.mul_le_mul_of_nonneg_right h2 hb
    rw [Int.mul_right_comm]
    exact this
theorem natAbs_le_iff {a : Int} {A : Nat} : a.natAbs ≤ A ↔ -(A : Int) ≤ a ∧ a ≤ A := by omega
theorem Vb.part {p : Rat} {n m : Int} {V D A B : Nat} (h : Vb p V D) (hm : 0 < m) (hA : n.natAbs ≤ A) (hB : m ≤ B) : Vb (p * ((n : Rat) / (m : Rat))) (V * A) (D * B) := by
  rw [← mul_rk hm]
  have hp := p.den_pos
  have h1 : (p.num * n).natAbs ≤ V * A * p.den := by
    rw [Int.natAbs_mul, Nat.mul_right_comm]
    refine Nat.mul_le_mul ?_ hA
    have := h.lo; have := h.hi
    have e : ((V * p.den : Nat) : Int) = (V : Int) * p.den := by push_cast; rfl
    rw [Int.neg_mul] at *
    omega
  have h2 : ((V * A * p.den : Nat) : Int) ≤ ((V * A : Nat) : Int) * ((p.den : Int) * m) := by
    push_cast
    rw [← Int.mul_assoc]
    have h0 : (0 : Int) ≤ (V : Int) * A * p.den := Int.mul_nonneg (Int.mul_nonneg (by omega) (by omega)) (by omega)
    have := Int.mul_le_mul_of_nonneg_left (show (1 : Int) ≤ m by omega) h0
    rw [Int.mul_one] at this
    exact this
  have h3 := natAbs_le_iff.1 h1
  refine Vb.div (Int.mul_pos (by omega) hm) (by omega) (by omega) ?_
  push_cast
  exact Int.mul_le_mul (by have := h.d; omega) hB (by omega) (by omega)

theorem iLt_i (a b : Int) : iLt a b = decide (a < b) := iLt_eq a b
theorem smW {n : Int} (h : -9000000000000000000 ≤ n ∧ n ≤ 9000000000000000000) : wr .i64 n = n := wr_id (by omega) (by omega)
theorem ilt_t {a b : Int} (h : iLt a b = true) : a < b := by rw [iLt_eq] at h; simpa using h
theorem ilt_f {a b : Int} (h : iLt a b = false) : b ≤ a := by rw [iLt_eq] at h; simpa using h
theorem ieq_t {a b : Int} (h : iEq a b = true) : a = b := by rw [iEq_eq] at h; simpa using h
theorem ieq_f {a b : Int} (h : iEq a b = false) : a ≠ b := by rw [iEq_eq] at h; simpa using h
theorem ltT {a b : Int} (h : a < b) : iLt a b = true := by rw [iLt_eq]; simpa using h
theorem ltF {a b : Int} (h : b ≤ a) : iLt a b = false := by rw [iLt_eq]; simpa using h
theorem eqT {a b : Int} (h : a = b) : iEq a b = true := by rw [iEq_eq]; simpa using h
theorem eqFa {a b : Int} (h : a ≠ b) : iEq a b = false := by rw [iEq_eq]; simpa using h
theorem natAbs_tmod (a b : Int) : (Int.tmod a b).natAbs = a.natAbs % b.natAbs := by rw [Int.natAbs_tmod]
theorem gcd_tmod (a b : Int) : Int.gcd b (Int.tmod a b) = Int.gcd a b := by
  show Nat.gcd b.natAbs (Int.tmod a b).natAbs = Nat.gcd a.natAbs b.natAbs
  rw [natAbs_tmod, Nat.gcd_comm, ← Nat.gcd_rec, Nat.gcd_comm]
theorem euc (x y k : Nat) (hxy : y ≤ x) (hy : 0 < y) (h : x * y < 2 ^ (k + 1)) : y * (x % y) < 2 ^ k := by
  have h1 := Nat.mod_lt x hy
  have h2 : 2 * (x % y) ≤ x := by
    have h3 := Nat.div_add_mod x y
    have h4 : 1 ≤ x / y := (Nat.le_div_iff_mul_le hy).2 (by omega)
    have h5 : y * 1 ≤ y * (x / y) := Nat.mul_le_mul_left _ h4
    omega
  have h6 : y * (2 * (x % y)) ≤ y * x := Nat.mul_le_mul_left _ h2
  have h7 : y * (2 * (x % y)) = 2 * (y * (x % y)) := by rw [Nat.mul_left_comm]
  rw [Nat.pow_succ, Nat.mul_comm x y] at h
  omega
/-- rounds that are left -/
def Eu (x y jj : Nat) : Prop := ∃ k, x * y < 2 ^ k ∧ ((y ≤ x ∧ jj = k + 1) ∨ (x < y ∧ jj = k + 2))
theorem Eu.next {x y jj : Nat} (h : Eu x y jj) (hy : 0 < y) : ∃ j2, jj = j2 + 1 ∧ Eu y (x % y) j2 := by
  obtain ⟨k, h1, h2⟩ := h
  rcases h2 with ⟨h2, h3⟩ | ⟨h2, h3⟩
  · cases k with
    | zero =>
      have : 0 < x * y := Nat.mul_pos (by omega) hy
      omega
    | succ k => exact ⟨k + 1, h3, k, euc x y k h2 hy h1, .inl ⟨Nat.le_of_lt (Nat.mod_lt _ hy), rfl⟩⟩
  · refine ⟨k + 1, h3, k, ?_, .inl ⟨Nat.le_of_lt (Nat.mod_lt _ hy), rfl⟩⟩
    rw [Nat.mod_eq_of_lt h2, Nat.mul_comm]
    exact h1
theorem Eu.init {x y : Nat} (hx : x ≤ 4000000000000000000) (hy : y ≤ 4000000000000000000) : ∃ jj, jj ≤ 130 ∧ Eu x y jj := by
  have h : x * y < 2 ^ 128 := Nat.lt_of_le_of_lt (Nat.mul_le_mul hx hy) (by decide)
  by_cases hxy : y ≤ x
  · exact ⟨129, by omega, 128, h, .inl ⟨hxy, rfl⟩⟩
  · exact ⟨130, by omega, 128, h, .inr ⟨by omega, rfl⟩⟩
/-- the greatest common divisor: Euclid's rounds -/
theorem c72 (F d : Nat) (hF : 300 < F) (a b a' b' : Int) (ea : a' = a) (eb : b' = b) (ha : a.natAbs ≤ 4000000000000000000) (hb : b.natAbs ≤ 4000000000000000000) : PureC (CL F (d + 1)) 72 [.int .i64 a', .int .i64 b'] (3000 + 100) (.int .i64 (Int.ofNat (Int.gcd a b))) := by
  subst ea eb
  obtain ⟨j0, hj0, hE⟩ := Eu.init ha hb
  intro m R
  rw [show 3000 + 100 = (3000) + 100 from rfl, addL_eq, ← Nat.add_assoc, ← addL_eq _ 100, Nat.add_comm R (3000)]
  refine call_in (n := 15) Try.func72 rfl rfl rfl rfl rfl rfl rfl ?_
  repeat' ((conv => whnf); first | refine eqS_rfl ?_ | refine eqA_rfl ?_ | refine eqA_of (by assumption) ?_ | refine eqS_of (by rfl) ?_ | refine eqL_rfl ?_ | refine eqJ_rfl ?_ | refine gE ?_ | refine seS_rfl ?_ | refine lsS_of hup ?_ | refine lsS_rfl ?_ | refine brS_tt ?_ | refine brS_ff ?_ | refine brS_not ?_ | refine gI ?_ | refine gT ?_ | refine gF ?_ | refine brS_intro (fun _ => ?_) (fun _ => ?_) | refine gL ?_ | refine gX ?_ | refine gO ?_ | refine gN ?_ | intro _)
  conv => whnf
  refine loS_i (fun jj f mm R' ni => ∃ x y : Int, Int.gcd x y = Int.gcd a' b' ∧ x.natAbs ≤ 4000000000000000000 ∧ y.natAbs ≤ 4000000000000000000 ∧ jj ≤ 130 ∧ Eu x.natAbs y.natAbs jj ∧ f = [(0, .int .i64 x), (1, .int .i64 y)] ∧ mm = m ∧ R' = addL (20 * jj + R) 50 ∧ ni = 10) j0 (by omega)
    ⟨[(0, .int .i64 a'), (1, .int .i64 b')], m, addL (20 * j0 + R) 50, 10, ⟨eqF_rfl _, eqF_rfl _, trivial⟩, WkM.refl _, nM1, a', b', rfl, ha, hb, hj0, hE, rfl, rfl, rfl, rfl⟩ ?_
  rintro jj _ _ _ _ ⟨x, y, hg, hx, hy, hjj, hE, rfl, rfl, rfl, rfl⟩
  by_cases h0 : y = 0
  · have h1 := eqT h0
    have h2 : Int.gcd a' b' = x.natAbs := by rw [← hg, h0, Int.gcd_zero]
    have h3 : (bif iLt x (wr .i64 (Int.sub 0 x)) then wr .i64 (Int.sub 0 x) else x) = Int.ofNat (Int.gcd a' b') := by
      rw [h2, show wr .i64 (Int.sub 0 x) = 0 - x from smW (n := 0 - x) (by omega), iLt_eq]
      by_cases h : x < 0 - x
      · rw [decide_eq_true h, cond_true]; show 0 - x = ((x.natAbs : Nat) : Int); omega
      · rw [decide_eq_false h, cond_false]; show x = ((x.natAbs : Nat) : Int); omega
    repeat' ((conv => whnf); first | refine eqS_rfl ?_ | refine eqA_rfl ?_ | refine eqA_of (by assumption) ?_ | refine eqS_of (by rfl) ?_ | refine eqL_rfl ?_ | refine eqJ_rfl ?_ | refine gE ?_ | refine seS_rfl ?_ | refine lsS_of hup ?_ | refine lsS_rfl ?_ | refine brS_tt ?_ | refine brS_ff ?_ | refine brS_not ?_ | refine gI ?_ | refine gT ?_ | refine gF ?_ | refine brS_intro (fun _ => ?_) (fun _ => ?_) | refine gL ?_ | refine gX ?_ | refine gO ?_ | refine gN ?_ | intro _)
    conv => whnf
    exact ⟨congrArg (Value.int .i64) h3, WkM.refl _, nM1⟩
  · have h1 := eqFa h0
    obtain ⟨j2, rfl, hE2⟩ := hE.next (by omega)
    repeat' ((conv => whnf); first | refine eqS_rfl ?_ | refine eqA_rfl ?_ | refine eqA_of (by assumption) ?_ | refine eqS_of (by rfl) ?_ | refine eqL_rfl ?_ | refine eqJ_rfl ?_ | refine gE ?_ | refine seS_rfl ?_ | refine lsS_of hup ?_ | refine lsS_rfl ?_ | refine brS_tt ?_ | refine brS_ff ?_ | refine brS_not ?_ | refine gI ?_ | refine gT ?_ | refine gF ?_ | refine brS_intro (fun _ => ?_) (fun _ => ?_) | refine gL ?_ | refine gX ?_ | refine gO ?_ | refine gN ?_ | intro _)
    conv => whnf
    exact ⟨j2, [(0, .int .i64 y), (1, .int .i64 (Int.tmod x y))], _, addL (20 * j2 + R) 50, 10, by omega, ⟨eqF_rfl _, eqF_rfl _, trivial⟩, WkM.refl _, nM1, y, Int.tmod x y, by rw [gcd_tmod]; exact hg, hy, by rw [natAbs_tmod]; have := Nat.mod_lt x.natAbs (show 0 < y.natAbs by omega); omega, by omega, by rw [natAbs_tmod]; exact hE2, rfl, rfl, rfl, rfl⟩
end Go.Proofs.Ytogncjicndbahaa
namespace Go.Proofs.Ytogncjicndbahaa
open Go.Ab
attribute [local irreducible] aggOk drwOK
set_option maxRecDepth 100000
set_option maxHeartbeats 4000000
set_option linter.unusedVariables false
set_option linter.unusedSimpArgs false
theorem c73 (F d : Nat) (hF : 300 < F) (n m n' m' : Int) (en : n' = n) (em : m' = m) (hn : n.natAbs ≤ 4000000000000000000) (hm : m.natAbs ≤ 4000000000000000000) (hm0 : 0 < m) (q : Rat) (hq : q = (n : Rat) / (m : Rat)) : PureC (CL F (d + 2)) 73 [.int .i64 n', .int .i64 m'] (3200 + 100) (fr q) := by
  subst en em
  have hg : 0 < Int.gcd n' m' := Int.gcd_pos_of_ne_zero_right _ (by omega)
  have hg0 : Int.ofNat (Int.gcd n' m') ≠ 0 := by show ((Int.gcd n' m' : Nat) : Int) ≠ 0; omega
  have e1 : wr .i64 (Int.tdiv n' (Int.ofNat (Int.gcd n' m'))) = q.num := by
    rw [hq, div_num hm0]
    have h1 : (Int.tdiv n' (Int.ofNat (Int.gcd n' m'))).natAbs ≤ n'.natAbs := by rw [Int.natAbs_tdiv]; exact Nat.div_le_self _ _
    exact smW (by omega)
  have e2 : wr .i64 (Int.tdiv m' (Int.ofNat (Int.gcd n' m'))) = Int.ofNat q.den := by
    have h1 : (Int.tdiv m' (Int.ofNat (Int.gcd n' m'))).natAbs ≤ m'.natAbs := by rw [Int.natAbs_tdiv]; exact Nat.div_le_self _ _
    rw [smW (by omega), ← div_den (n := n') hm0, ← hq]
    rfl
  intro m R
  rw [show 3200 + 100 = (3200) + 100 from rfl, addL_eq, ← Nat.add_assoc, ← addL_eq _ 100, Nat.add_comm R (3200)]
  refine call_in (n := 16) Try.func73 rfl rfl rfl rfl rfl rfl rfl ?_
  repeat' ((conv => whnf); first | refine eqS_rfl ?_ | refine eqA_rfl ?_ | refine eqA_of (by assumption) ?_ | refine eqS_of (by rfl) ?_ | refine eqL_rfl ?_ | refine eqJ_rfl ?_ | refine gE ?_ | refine seS_rfl ?_ | refine lsS_of hup ?_ | refine lsS_rfl ?_ | refine brS_tt ?_ | refine brS_ff ?_ | refine brS_not ?_ | refine gI ?_ | refine gT ?_ | refine gF ?_ | refine brS_intro (fun _ => ?_) (fun _ => ?_) | refine gL ?_ | refine gX ?_ | refine gO ?_ | refine gN ?_ | refine call_pureL (c72 F _ hF _ _ _ _ rfl rfl hn hm) (addL R 80) (nM1) ?_ | refine nzS_intro hg0 ?_ | intro _)
  conv => whnf
  exact ⟨cg2 (fun u v => Value.agg ⟨[.int .i64 u, .int .i64 v]⟩) e1 e2, WkM.drop (WkM.refl _), nM1⟩
theorem dvN {a b : Nat} (h : a ≤ 4000000000000000000) : wr .i64 (Int.tdiv (Int.ofNat a) (Int.ofNat b)) = Int.ofNat (a / b) := by
  have e : Int.tdiv (Int.ofNat a) (Int.ofNat b) = ((a / b : Nat) : Int) := by show Int.tdiv (a : Int) (b : Int) = _; rw [← Int.ofNat_tdiv]
  have h1 := Nat.div_le_self a b
  rw [e]
  generalize a / b = q at h1
  exact smW (by omega)
theorem mlN {a b : Nat} (h : a * b ≤ 4000000000000000000) : wr .i64 (Int.mul (Int.ofNat a) (Int.ofNat b)) = Int.ofNat (a * b) := smW (n := ((a * b : Nat) : Int)) (by omega)
theorem mlZ {a : Int} {b B : Nat} (hB : B ≤ 4000000000000000000) (h : a.natAbs * b ≤ B) : wr .i64 (Int.mul a (Int.ofNat b)) = a * b := smW (n := a * (b : Int)) (by have : (a * (b : Int)).natAbs ≤ B := by { rw [Int.natAbs_mul]; exact h }; omega)
theorem Vb.nab {q : Rat} {V D : Nat} (h : Vb q V D) : q.num.natAbs ≤ V * D := by have := h.num; omega
theorem c55 (F d : Nat) (hF : 300 < F) (n : Nat) (hn : n ≤ 3) (S g : Nat → Rat) (a : Option Addr) (c e : Nat) (hS : ∀ k, k < n → S (k + 1) = S k + g k) (D E V W : Nat) (hV : ∀ k, k < n → Vb (S k) V D) (hW : ∀ k, k < n → Vb (g k) W E) (hB : V * D * E + W * E * D ≤ 4000000000000000000) (hD : D * E ≤ 4000000000000000000) : ReadC (CL F (d + 3)) 55 [fr (S 0), .sl 1000 a n c] [(1000, .ro a n e 2 fun j => [.int .i64 (g j).num, .int .i64 (Int.ofNat (g j).den)])] (30000 + 100) (fr (S n)) := by
  intro R
  rw [show 30000 + 100 = (30000) + 100 from rfl, addL_eq, ← Nat.add_assoc, ← addL_eq _ 100, Nat.add_comm R (30000)]
  refine call_in (n := 44) Try.func55 rfl rfl rfl rfl rfl rfl rfl ?_
  repeat' ((conv => whnf); first | refine eqS_rfl ?_ | refine eqA_rfl ?_ | refine eqA_of (by assumption) ?_ | refine eqS_of (by rfl) ?_ | refine eqL_rfl ?_ | refine eqJ_rfl ?_ | refine gE ?_ | refine seS_rfl ?_ | refine lsS_of hup ?_ | refine lsS_rfl ?_ | refine brS_tt ?_ | refine brS_ff ?_ | refine brS_not ?_ | refine gI ?_ | refine gT ?_ | refine gF ?_ | refine brS_intro (fun _ => ?_) (fun _ => ?_) | refine gL ?_ | refine gX ?_ | refine gO ?_ | refine gN ?_ | intro _)
  conv => whnf
  rename_i b2 b4
  refine loS_i (fun jj f mm R' ni => ∃ k : Nat, k ≤ n ∧ jj = n - k + 1 ∧ f = [(2, .ptr 0 b2 0), (4, .ptr 1 b4 0), (8, .sl 1000 a n c), (9, .int .i64 (Int.ofNat n)), (10, .int .i64 (Int.ofNat k))] ∧ mm = [(1, .own b4 81 [.int .i64 0, .int .i64 0]), (0, .own b2 81 [.int .i64 (S k).num, .int .i64 (Int.ofNat (S k).den)]), (1000, .ro a n e 2 fun j => [.int .i64 (g j).num, .int .i64 (Int.ofNat (g j).den)])] ∧ R' = addL (9000 * (n - k) + R) 60 ∧ ni = 10) (n + 1) (by omega)
    ⟨[(2, .ptr 0 b2 0), (4, .ptr 1 b4 0), (8, .sl 1000 a n c), (9, .int .i64 (Int.ofNat n)), (10, .int .i64 (Int.ofNat 0))], [(1, .own b4 81 [.int .i64 0, .int .i64 0]), (0, .own b2 81 [.int .i64 (S 0).num, .int .i64 (Int.ofNat (S 0).den)]), (1000, .ro a n e 2 fun j => [.int .i64 (g j).num, .int .i64 (Int.ofNat (g j).den)])], addL (9000 * (n - 0) + R) 60, 10, ⟨eqF_rfl _, eqF_rfl _, eqF_rfl _, eqF_rfl _, eqF_rfl _, trivial⟩, WkM.refl _, nM1, 0, by omega, by omega, rfl, rfl, rfl, rfl⟩ ?_
  rintro jj _ _ _ _ ⟨k, hk, rfl, rfl, rfl, rfl, rfl⟩
  by_cases hlt : k < n
  · have h1 := iLt_t hlt
    have hx := hV k hlt
    have hy := hW k hlt
    have hs := hS k hlt
    have hg0 : 0 < Nat.gcd (S k).den (g k).den := Nat.gcd_pos_of_pos_right _ (g k).den_pos
    obtain ⟨k2, hk2⟩ := Nat.gcd_dvd_left (S k).den (g k).den
    obtain ⟨k1, hk1⟩ := Nat.gcd_dvd_right (S k).den (g k).den
    have q2 : (S k).den / Nat.gcd (S k).den (g k).den = k2 := by conv => { lhs; arg 1; rw [hk2] }; exact Nat.mul_div_cancel_left _ hg0
    have hc1 : k2 * (g k).den = (S k).den * k1 := by
      conv => { lhs; arg 2; rw [hk1] }
      conv => { rhs; arg 1; rw [hk2] }
      rw [Nat.mul_left_comm, Nat.mul_comm k2 k1, ← Nat.mul_assoc, Nat.mul_right_comm, Nat.mul_assoc]
    have hp1 : 0 < (S k).den := (S k).den_pos
    have hp2 : 0 < (g k).den := (g k).den_pos
    have hz1 : Int.ofNat (Int.gcd (Int.ofNat (S k).den) (Int.ofNat (g k).den)) ≠ 0 := by show ((Nat.gcd (S k).den (g k).den : Nat) : Int) ≠ 0; omega
    have hz2 : Int.ofNat (S k).den ≠ 0 := by show (((S k).den : Nat) : Int) ≠ 0; omega
    have hz3 : Int.ofNat (g k).den ≠ 0 := by show (((g k).den : Nat) : Int) ≠ 0; omega
    have hk1l : k1 ≤ (g k).den := by rw [hk1]; exact Nat.le_mul_of_pos_left _ hg0
    have hk2l : k2 ≤ (S k).den := by rw [hk2]; exact Nat.le_mul_of_pos_left _ hg0
    have hk20 : 0 < k2 := Nat.pos_of_ne_zero fun h => by rw [h, Nat.mul_zero] at hk2; omega
    have hcl : k2 * (g k).den ≤ D * E := Nat.mul_le_mul (Nat.le_trans hk2l hx.d) hy.d
    have hc0 : 0 < k2 * (g k).den := Nat.mul_pos hk20 hp2
    have bb1 : (S k).num.natAbs * k1 ≤ V * D * E := Nat.mul_le_mul hx.nab (Nat.le_trans hk1l hy.d)
    have bb2 : (g k).num.natAbs * k2 ≤ W * E * D := Nat.mul_le_mul hy.nab (Nat.le_trans hk2l hx.d)
    have e0 : Int.ofNat (Int.gcd (Int.ofNat (S k).den) (Int.ofNat (g k).den)) = Int.ofNat (Nat.gcd (S k).den (g k).den) := rfl
    have hd1 : (S k).den ≤ 4000000000000000000 := Nat.le_trans (Nat.le_mul_of_pos_right _ (Nat.lt_of_lt_of_le hp2 hy.d)) (Nat.le_trans (Nat.mul_le_mul_right _ hx.d) hD)
    have hd2 : (g k).den ≤ 4000000000000000000 := Nat.le_trans (Nat.le_mul_of_pos_left _ (Nat.lt_of_lt_of_le hp1 hx.d)) (Nat.le_trans (Nat.mul_le_mul_left _ hy.d) hD)
    have e1 : wr .i64 (Int.tdiv (Int.ofNat (S k).den) (Int.ofNat (Nat.gcd (S k).den (g k).den))) = Int.ofNat k2 := by rw [dvN hd1, q2]
    have e2 : wr .i64 (Int.mul (Int.ofNat k2) (Int.ofNat (g k).den)) = Int.ofNat (k2 * (g k).den) := mlN (Nat.le_trans hcl hD)
    have e3 : wr .i64 (Int.tdiv (Int.ofNat (k2 * (g k).den)) (Int.ofNat (S k).den)) = Int.ofNat k1 := by rw [dvN (Nat.le_trans hcl hD), hc1, Nat.mul_div_cancel_left _ hp1]
    have e5 : wr .i64 (Int.tdiv (Int.ofNat (k2 * (g k).den)) (Int.ofNat (g k).den)) = Int.ofNat k2 := by rw [dvN (Nat.le_trans hcl hD), Nat.mul_div_cancel _ hp2]
    have e4 := mlZ (B := V * D * E) (by omega) bb1
    have e6 := mlZ (B := W * E * D) (by omega) bb2
    have a4 : ((S k).num * (k1 : Int)).natAbs ≤ V * D * E := by rw [Int.natAbs_mul]; exact bb1
    have a6 : ((g k).num * (k2 : Int)).natAbs ≤ W * E * D := by rw [Int.natAbs_mul]; exact bb2
    have e7 : wr .i64 (Int.add ((S k).num * (k1 : Int)) ((g k).num * (k2 : Int))) = (S k).num * (k1 : Int) + (g k).num * (k2 : Int) := smW (n := (S k).num * (k1 : Int) + (g k).num * (k2 : Int)) (by omega)
    have hq : S (k + 1) = (((S k).num * (k1 : Int) + (g k).num * (k2 : Int) : Int) : Rat) / ((((k2 * (g k).den : Nat) : Int)) : Rat) := by
      rw [hs]
      exact (add_rk (c := ((k2 * (g k).den : Nat) : Int)) (by rw [hc1]; push_cast; rfl) (by push_cast; exact Int.mul_comm _ _) (by omega)).symm
    repeat' ((conv => whnf); first | refine eqS_rfl ?_ | refine eqA_rfl ?_ | refine eqA_of (by assumption) ?_ | refine eqS_of (by rfl) ?_ | refine eqL_rfl ?_ | refine eqJ_rfl ?_ | refine gE ?_ | refine seS_rfl ?_ | refine lsS_of hup ?_ | refine lsS_rfl ?_ | refine brS_tt ?_ | refine brS_ff ?_ | refine brS_not ?_ | refine gI ?_ | refine gT ?_ | refine gF ?_ | refine brS_intro (fun _ => ?_) (fun _ => ?_) | refine gL ?_ | refine gX ?_ | refine gO ?_ | refine gN ?_ | refine call_pureL (c72 F _ hF _ _ _ _ rfl rfl (by exact hd1) (by exact hd2)) (addL (9000 * (n - (k + 1)) + R) 4000) (nM1) ?_ | refine call_pureL (c73 F _ hF ((S k).num * (k1 : Int) + (g k).num * (k2 : Int)) ((k2 * (g k).den : Nat) : Int) _ _ (by rw [e0, e1, e2, e3, e4, e5, e6, e7]) (by rw [e0, e1, e2]; rfl) (by omega) (by omega) (by omega) (S (k + 1)) hq) (addL (9000 * (n - (k + 1)) + R) 500) (nM1) ?_ | refine nzS_intro hz1 ?_ | refine nzS_intro hz2 ?_ | refine nzS_intro hz3 ?_ | intro _)
    conv => whnf
    exact ⟨n - (k + 1) + 1, [(2, .ptr 0 b2 0), (4, .ptr 1 b4 0), (8, .sl 1000 a n c), (9, .int .i64 (Int.ofNat n)), (10, .int .i64 (Int.ofNat (k + 1)))], _, addL (9000 * (n - (k + 1)) + R) 60, 10, by omega, ⟨eqF_rfl _, eqF_rfl _, eqF_rfl _, eqF_rfl _, ⟨congrArg (Value.int .i64) (smn (i := k + 1) (by omega)), rfl⟩, trivial⟩, WS, nM1, k + 1, by omega, rfl, rfl, rfl, rfl, rfl⟩
  · have e2 : n = k := by omega
    subst e2
    have h1 := iLt_f (Nat.le_refl n)
    repeat' ((conv => whnf); first | refine eqS_rfl ?_ | refine eqA_rfl ?_ | refine eqA_of (by assumption) ?_ | refine eqS_of (by rfl) ?_ | refine eqL_rfl ?_ | refine eqJ_rfl ?_ | refine gE ?_ | refine seS_rfl ?_ | refine lsS_of hup ?_ | refine lsS_rfl ?_ | refine brS_tt ?_ | refine brS_ff ?_ | refine brS_not ?_ | refine gI ?_ | refine gT ?_ | refine gF ?_ | refine brS_intro (fun _ => ?_) (fun _ => ?_) | refine gL ?_ | refine gX ?_ | refine gO ?_ | refine gN ?_ | intro _)
    conv => whnf
    exact ⟨rfl, nM1⟩
end Go.Proofs.Ytogncjicndbahaa
namespace Go.Proofs.Ytogncjicndbahaa
open Go.Ab
attribute [local irreducible] aggOk drwOK
set_option maxRecDepth 100000
set_option maxHeartbeats 4000000
set_option linter.unusedVariables false
set_option linter.unusedSimpArgs false
def S2 (x y : Rat) : Nat → Rat
  | 0 => x
  | _ + 1 => y
theorem c55a (F d : Nat) (hF : 300 < F) (f o q : Rat) (hq : q = f + o) (D E V W : Nat) (hV : Vb f V D) (hW : Vb o W E) (hB : V * D * E + W * E * D ≤ 4000000000000000000) (hD : D * E ≤ 4000000000000000000) (a : Option Addr) (c e : Nat) : ReadC (CL F (d + 3)) 55 [fr f, .sl 1000 a 1 c] [(1000, .ro a 1 e 2 fun _ => [.int .i64 o.num, .int .i64 (Int.ofNat o.den)])] (30000 + 100) (fr q) :=
  c55 F d hF 1 (by omega) (S2 f q) (fun _ => o) a c e (fun k hk => by match k, hk with | 0, _ => exact hq | k + 1, hk => exact absurd hk (by omega)) D E V W (fun k hk => by match k, hk with | 0, _ => exact hV | k + 1, hk => exact absurd hk (by omega)) (fun _ _ => hW) hB hD
theorem c88 (F d : Nat) (hF : 300 < F) (f q : Rat) (n m n' m' : Int) (en : n' = n) (em : m' = m) (hm : 0 < m) (hq : q = f * ((n : Rat) / (m : Rat))) (V D A B : Nat) (hV : Vb f V D) (hA : n.natAbs ≤ A) (hB : m.natAbs ≤ B) (h1 : V * D * A ≤ 4000000000000000000) (h2 : D * B ≤ 4000000000000000000) : PureC (CL F (d + 3)) 88 [fr f, .int .i64 n', .int .i64 m'] (3400 + 100) (fr q) := by
  subst en em
  have a1 : (f.num * n').natAbs ≤ V * D * A := by rw [Int.natAbs_mul]; exact Nat.mul_le_mul hV.nab hA
  have a2 : ((f.den : Int) * m').natAbs ≤ D * B := by rw [Int.natAbs_mul]; exact Nat.mul_le_mul hV.d hB
  have e1 : wr .i64 (Int.mul f.num n') = f.num * n' := smW (n := f.num * n') (by omega)
  have e2 : wr .i64 (Int.mul (Int.ofNat f.den) m') = (f.den : Int) * m' := smW (n := (f.den : Int) * m') (by omega)
  have hq2 : q = ((f.num * n' : Int) : Rat) / (((f.den : Int) * m' : Int) : Rat) := by rw [hq, mul_rk hm]
  have hp : 0 < (f.den : Int) * m' := Int.mul_pos (by have := f.den_pos; omega) hm
  intro m R
  rw [show 3400 + 100 = (3400) + 100 from rfl, addL_eq, ← Nat.add_assoc, ← addL_eq _ 100, Nat.add_comm R (3400)]
  refine call_in (n := 16) Try.func88 rfl rfl rfl rfl rfl rfl rfl ?_
  repeat' ((conv => whnf); first | refine eqS_rfl ?_ | refine eqA_rfl ?_ | refine eqA_of (by assumption) ?_ | refine eqS_of (by rfl) ?_ | refine eqL_rfl ?_ | refine eqJ_rfl ?_ | refine gE ?_ | refine seS_rfl ?_ | refine lsS_of hup ?_ | refine lsS_rfl ?_ | refine brS_tt ?_ | refine brS_ff ?_ | refine brS_not ?_ | refine gI ?_ | refine gT ?_ | refine gF ?_ | refine brS_intro (fun _ => ?_) (fun _ => ?_) | refine gL ?_ | refine gX ?_ | refine gO ?_ | refine gN ?_ | refine call_pureL (c73 F _ hF (f.num * n') ((f.den : Int) * m') _ _ e1 e2 (by omega) (by omega) hp q hq2) (addL R 50) (nM1) ?_ | intro _)
  conv => whnf
  exact ⟨rfl, WkM.drop (WkM.drop (WkM.refl _)), nM1⟩
theorem c53 (F d : Nat) (n n' : Int) (en : n' = n) : PureC (CL F (d + 1)) 53 [.int .i64 n'] 20 (fr (n : Rat)) := by
  subst en
  intro m R
  refine call_in (n := 5) Try.func53 rfl rfl rfl rfl rfl rfl rfl ?_
  repeat' ((conv => whnf); first | refine eqS_rfl ?_ | refine eqA_rfl ?_ | refine eqA_of (by assumption) ?_ | refine eqS_of (by rfl) ?_ | refine eqL_rfl ?_ | refine eqJ_rfl ?_ | refine gE ?_ | refine seS_rfl ?_ | refine lsS_of hup ?_ | refine lsS_rfl ?_ | refine brS_tt ?_ | refine brS_ff ?_ | refine brS_not ?_ | refine gI ?_ | refine gT ?_ | refine gF ?_ | refine brS_intro (fun _ => ?_) (fun _ => ?_) | refine gL ?_ | refine gX ?_ | refine gO ?_ | refine gN ?_ | intro _)
  all_goals (conv => whnf)
  all_goals refine ⟨?_, by repeat' (first | exact WkM.refl _ | refine WkM.drop ?_), by repeat' (first | exact Nat.le_refl _ | refine Nat.le_succ_of_le ?_)⟩
  all_goals (rfl)

theorem c69 (F d : Nat) (f : Rat) (n n' : Int) (en : n' = n) (D A : Nat) (hd : f.den ≤ D) (hA : n.natAbs ≤ A) (h : A * D ≤ 4000000000000000000) : PureC (CL F (d + 1)) 69 [fr f, .int .i64 n'] 20 (.bool (decide (f < (n : Rat)))) := by
  subst en
  have a1 : (n' * (f.den : Int)).natAbs ≤ A * D := by rw [Int.natAbs_mul]; exact Nat.mul_le_mul hA hd
  have e1 : wr .i64 (Int.mul n' (Int.ofNat f.den)) = n' * (f.den : Int) := smW (n := n' * (f.den : Int)) (by omega)
  have e2 : iLt f.num (wr .i64 (Int.mul n' (Int.ofNat f.den))) = decide (f < (n' : Rat)) := by rw [e1, iLt_eq]; exact decide_eq_decide.2 lt_iff_num.symm
  intro m R
  refine call_in (n := 12) Try.func69 rfl rfl rfl rfl rfl rfl rfl ?_
  repeat' ((conv => whnf); first | refine eqS_rfl ?_ | refine eqA_rfl ?_ | refine eqA_of (by assumption) ?_ | refine eqS_of (by rfl) ?_ | refine eqL_rfl ?_ | refine eqJ_rfl ?_ | refine gE ?_ | refine seS_rfl ?_ | refine lsS_of hup ?_ | refine lsS_rfl ?_ | refine brS_tt ?_ | refine brS_ff ?_ | refine brS_not ?_ | refine gI ?_ | refine gT ?_ | refine gF ?_ | refine brS_intro (fun _ => ?_) (fun _ => ?_) | refine gL ?_ | refine gX ?_ | refine gO ?_ | refine gN ?_ | intro _)
  all_goals (conv => whnf)
  all_goals refine ⟨?_, by repeat' (first | exact WkM.refl _ | refine WkM.drop ?_), by repeat' (first | exact Nat.le_refl _ | refine Nat.le_succ_of_le ?_)⟩
  all_goals (exact congrArg Value.bool e2)

theorem c68 (F d : Nat) (n : Int) : PureC (CL F (d + 1)) 68 [.int .i64 n] 20 (.bool false) := by
  intro m R
  refine call_in (n := 6) Try.func68 rfl rfl rfl rfl rfl rfl rfl ?_
  repeat' ((conv => whnf); first | refine eqS_rfl ?_ | refine eqA_rfl ?_ | refine eqA_of (by assumption) ?_ | refine eqS_of (by rfl) ?_ | refine eqL_rfl ?_ | refine eqJ_rfl ?_ | refine gE ?_ | refine seS_rfl ?_ | refine lsS_of hup ?_ | refine lsS_rfl ?_ | refine brS_tt ?_ | refine brS_ff ?_ | refine brS_not ?_ | refine gI ?_ | refine gT ?_ | refine gF ?_ | refine brS_intro (fun _ => ?_) (fun _ => ?_) | refine gL ?_ | refine gX ?_ | refine gO ?_ | refine gN ?_ | intro _)
  all_goals (conv => whnf)
  all_goals refine ⟨?_, by repeat' (first | exact WkM.refl _ | refine WkM.drop ?_), by repeat' (first | exact Nat.le_refl _ | refine Nat.le_succ_of_le ?_)⟩
  all_goals (exact congrArg Value.bool (by rw [iEq_self]; rfl))

def cmI (a b : Int) : Int := if a < b then -1 else if b < a then 1 else 0
theorem c47 (F d : Nat) (a b : Int) : PureC (CL F (d + 2)) 47 [.int .i64 a, .int .i64 b] 100 (.int .i64 (cmI a b)) := by
  intro m R
  refine call_in (n := 20) Try.func47 rfl rfl rfl rfl rfl rfl rfl ?_
  repeat' ((conv => whnf); first | refine eqS_rfl ?_ | refine eqA_rfl ?_ | refine eqA_of (by assumption) ?_ | refine eqS_of (by rfl) ?_ | refine eqL_rfl ?_ | refine eqJ_rfl ?_ | refine gE ?_ | refine seS_rfl ?_ | refine lsS_of hup ?_ | refine lsS_rfl ?_ | refine brS_tt ?_ | refine brS_ff ?_ | refine brS_not ?_ | refine gI ?_ | refine gT ?_ | refine gF ?_ | refine brS_intro (fun _ => ?_) (fun _ => ?_) | refine gL ?_ | refine gX ?_ | refine gO ?_ | refine gN ?_ | refine call_pure (c68 F _ _) ?_ | intro _)
  all_goals (conv => whnf)
  all_goals refine ⟨?_, by repeat' (first | exact WkM.refl _ | refine WkM.drop ?_), by repeat' (first | exact Nat.le_refl _ | refine Nat.le_succ_of_le ?_)⟩
  all_goals ((refine congrArg (Value.int .i64) ?_; unfold cmI; simp only [iLt_eq, decide_eq_true_eq, decide_eq_false_iff_not] at *; first | (rw [if_pos (by assumption)]; done) | (rw [if_neg (by assumption), if_pos (by assumption)]; done) | (rw [if_neg (by assumption), if_neg (by assumption)]; done)))

/-- comparison of fractions -/
def cmR (f o : Rat) : Int := if f < o then -1 else if o < f then 1 else 0
theorem cmR_eq (f o : Rat) : cmI (f.num * (o.den : Int)) (o.num * (f.den : Int)) = cmR f o := by
  unfold cmI cmR
  simp only [Rat.lt_iff]
theorem c65 (F d : Nat) (f o : Rat) (V D W E : Nat) (hV : Vb f V D) (hW : Vb o W E) (h1 : V * D * E ≤ 4000000000000000000) (h2 : W * E * D ≤ 4000000000000000000) : PureC (CL F (d + 3)) 65 [fr f, fr o] 300 (.int .i64 (cmR f o)) := by
  have e1 := mlZ (a := f.num) (b := o.den) h1 (Nat.mul_le_mul hV.nab hW.d)
  have e2 := mlZ (a := o.num) (b := f.den) h2 (Nat.mul_le_mul hW.nab hV.d)
  have e3 := cmR_eq f o
  rw [← e1, ← e2] at e3
  intro m R
  refine call_in (n := 16) Try.func65 rfl rfl rfl rfl rfl rfl rfl ?_
  repeat' ((conv => whnf); first | refine eqS_rfl ?_ | refine eqA_rfl ?_ | refine eqA_of (by assumption) ?_ | refine eqS_of (by rfl) ?_ | refine eqL_rfl ?_ | refine eqJ_rfl ?_ | refine gE ?_ | refine seS_rfl ?_ | refine lsS_of hup ?_ | refine lsS_rfl ?_ | refine brS_tt ?_ | refine brS_ff ?_ | refine brS_not ?_ | refine gI ?_ | refine gT ?_ | refine gF ?_ | refine brS_intro (fun _ => ?_) (fun _ => ?_) | refine gL ?_ | refine gX ?_ | refine gO ?_ | refine gN ?_ | refine call_pure (c47 F _ _ _) ?_ | intro _)
  all_goals (conv => whnf)
  all_goals refine ⟨?_, by repeat' (first | exact WkM.refl _ | refine WkM.drop ?_), by repeat' (first | exact Nat.le_refl _ | refine Nat.le_succ_of_le ?_)⟩
  all_goals (exact congrArg (Value.int .i64) e3)

/-- back into a turn -/
def bkI (h t : Int) : Int := if h < -t then h + t + t else if h < 0 then h + t else if t ≤ h then h - t else h
theorem c43 (F d : Nat) (h t h' t' : Int) (eh : h' = h) (et : t' = t) (b1 : h.natAbs ≤ 1000000000000000000) (b2 : t.natAbs ≤ 1000000000000000000) : PureC (CL F (d + 1)) 43 [.int .i64 h', .int .i64 t'] 100 (.int .i64 (bkI h t)) := by
  subst eh et
  have e1 : wr .i64 (Int.sub 0 t') = -t' := (smW (n := 0 - t') (by omega)).trans (by omega)
  have e2 : wr .i64 (Int.add h' t') = h' + t' := smW (n := h' + t') (by omega)
  have e3 : wr .i64 (Int.add (h' + t') t') = h' + t' + t' := smW (n := h' + t' + t') (by omega)
  have e4 : wr .i64 (Int.sub h' t') = h' - t' := smW (n := h' - t') (by omega)
  intro m R
  refine call_in (n := 27) Try.func43 rfl rfl rfl rfl rfl rfl rfl ?_
  repeat' ((conv => whnf); first | refine eqS_rfl ?_ | refine eqA_rfl ?_ | refine eqA_of (by assumption) ?_ | refine eqS_of (by rfl) ?_ | refine eqL_rfl ?_ | refine eqJ_rfl ?_ | refine gE ?_ | refine seS_rfl ?_ | refine lsS_of hup ?_ | refine lsS_rfl ?_ | refine brS_tt ?_ | refine brS_ff ?_ | refine brS_not ?_ | refine gI ?_ | refine gT ?_ | refine gF ?_ | refine brS_intro (fun _ => ?_) (fun _ => ?_) | refine gL ?_ | refine gX ?_ | refine gO ?_ | refine gN ?_ | intro _)
  all_goals (conv => whnf)
  all_goals refine ⟨?_, by repeat' (first | exact WkM.refl _ | refine WkM.drop ?_), by repeat' (first | exact Nat.le_refl _ | refine Nat.le_succ_of_le ?_)⟩
  all_goals ((refine congrArg (Value.int .i64) ?_; unfold bkI; (try rw [e1] at *); (try rw [e2] at *); (try rw [e3] at *); (try rw [e4] at *); simp only [iLt_eq, decide_eq_true_eq, decide_eq_false_iff_not, Bool.not_eq_true', Bool.not_eq_false'] at *; repeat' (first | rw [if_pos (by omega)] | rw [if_neg (by omega)])))

def bkR (f : Rat) : Rat := if f < ((-3600 : Int) : Rat) then f + ((7200 : Int) : Rat) else if f < ((0 : Int) : Rat) then f + ((3600 : Int) : Rat) else if ((3600 : Int) : Rat) ≤ f then f + ((-3600 : Int) : Rat) else f
theorem bkR_eq (f : Rat) : (bkR f).num = bkI f.num (3600 * (f.den : Int)) ∧ (bkR f).den = f.den := by
  unfold bkR bkI
  simp only [lt_iff_num, num_le_iff]
  have e : (-3600 : Int) * (f.den : Int) = -(3600 * (f.den : Int)) := by omega
  have e0 : (0 : Int) * (f.den : Int) = 0 := by omega
  rw [e, e0]
  split
  · rw [addI_num, addI_den]; exact ⟨by omega, rfl⟩
  · split
    · rw [addI_num, addI_den]; exact ⟨by omega, rfl⟩
    · split
      · rw [addI_num, addI_den]; exact ⟨by omega, rfl⟩
      · exact ⟨rfl, rfl⟩
theorem c56 (F d : Nat) (f q : Rat) (hq : q = bkR f) (V D : Nat) (hV : Vb f V D) (h1 : V * D ≤ 1000000000000000000) (h2 : D ≤ 100000000000000) : PureC (CL F (d + 2)) 56 [fr f] 200 (fr q) := by
  have e1 : wr .i64 (Int.mul 3600 (Int.ofNat f.den)) = 3600 * (f.den : Int) := smW (n := 3600 * (f.den : Int)) (by have := hV.d; omega)
  obtain ⟨q1, q2⟩ := bkR_eq f
  rw [← hq] at q1 q2
  have hn := hV.nab
  have hd := hV.d
  intro m R
  refine call_in (n := 12) Try.func56 rfl rfl rfl rfl rfl rfl rfl ?_
  repeat' ((conv => whnf); first | refine eqS_rfl ?_ | refine eqA_rfl ?_ | refine eqA_of (by assumption) ?_ | refine eqS_of (by rfl) ?_ | refine eqL_rfl ?_ | refine eqJ_rfl ?_ | refine gE ?_ | refine seS_rfl ?_ | refine lsS_of hup ?_ | refine lsS_rfl ?_ | refine brS_tt ?_ | refine brS_ff ?_ | refine brS_not ?_ | refine gI ?_ | refine gT ?_ | refine gF ?_ | refine brS_intro (fun _ => ?_) (fun _ => ?_) | refine gL ?_ | refine gX ?_ | refine gO ?_ | refine gN ?_ | refine call_pure (c43 F _ _ _ _ _ rfl e1 (by omega) (by omega)) ?_ | intro _)
  all_goals (conv => whnf)
  all_goals refine ⟨?_, by repeat' (first | exact WkM.refl _ | refine WkM.drop ?_), by repeat' (first | exact Nat.le_refl _ | refine Nat.le_succ_of_le ?_)⟩
  all_goals ((rw [← q1]; rw [← q2]))

abbrev sg (bh bd eh ed : Int) : SV := .agg [.int .i64 bh, .int .i64 bd, .int .i64 eh, .int .i64 ed]
theorem c44 (F d : Nat) (h e : Int) : PureC (CL F (d + 1)) 44 [.agg [.int .i64 h, .int .i64 e]] 20 (.int .i64 (wr .i64 (Int.add h e))) := by
  intro m R
  refine call_in (n := 8) Try.func44 rfl rfl rfl rfl rfl rfl rfl ?_
  repeat' ((conv => whnf); first | refine eqS_rfl ?_ | refine eqA_rfl ?_ | refine eqA_of (by assumption) ?_ | refine eqS_of (by rfl) ?_ | refine eqL_rfl ?_ | refine eqJ_rfl ?_ | refine gE ?_ | refine seS_rfl ?_ | refine lsS_of hup ?_ | refine lsS_rfl ?_ | refine brS_tt ?_ | refine brS_ff ?_ | refine brS_not ?_ | refine gI ?_ | refine gT ?_ | refine gF ?_ | refine brS_intro (fun _ => ?_) (fun _ => ?_) | refine gL ?_ | refine gX ?_ | refine gO ?_ | refine gN ?_ | intro _)
  all_goals (conv => whnf)
  all_goals refine ⟨?_, by repeat' (first | exact WkM.refl _ | refine WkM.drop ?_), by repeat' (first | exact Nat.le_refl _ | refine Nat.le_succ_of_le ?_)⟩
  all_goals (rfl)

theorem c70 (F d : Nat) (bh bd eh ed : Int) : PureC (CL F (d + 1)) 70 [sg bh bd eh ed] 20 (.int .i64 (wr .i64 (Int.sub eh bh))) := by
  intro m R
  refine call_in (n := 10) Try.func70 rfl rfl rfl rfl rfl rfl rfl ?_
  repeat' ((conv => whnf); first | refine eqS_rfl ?_ | refine eqA_rfl ?_ | refine eqA_of (by assumption) ?_ | refine eqS_of (by rfl) ?_ | refine eqL_rfl ?_ | refine eqJ_rfl ?_ | refine gE ?_ | refine seS_rfl ?_ | refine lsS_of hup ?_ | refine lsS_rfl ?_ | refine brS_tt ?_ | refine brS_ff ?_ | refine brS_not ?_ | refine gI ?_ | refine gT ?_ | refine gF ?_ | refine brS_intro (fun _ => ?_) (fun _ => ?_) | refine gL ?_ | refine gX ?_ | refine gO ?_ | refine gN ?_ | intro _)
  all_goals (conv => whnf)
  all_goals refine ⟨?_, by repeat' (first | exact WkM.refl _ | refine WkM.drop ?_), by repeat' (first | exact Nat.le_refl _ | refine Nat.le_succ_of_le ?_)⟩
  all_goals (rfl)

theorem c61 (F d : Nat) (bh bd eh ed : Int) (hb : -100000 ≤ bh + bd ∧ bh + bd ≤ 100000) (he : -100000 ≤ eh + ed ∧ eh + ed ≤ 100000) : PureC (CL F (d + 2)) 61 [sg bh bd eh ed] 100 (.int .i64 (eh + ed - (bh + bd))) := by
  have e1 : wr .i64 (Int.add bh bd) = bh + bd := smW (n := bh + bd) (by omega)
  have e2 : wr .i64 (Int.add eh ed) = eh + ed := smW (n := eh + ed) (by omega)
  have e3 : wr .i64 (Int.sub (wr .i64 (Int.add eh ed)) (wr .i64 (Int.add bh bd))) = eh + ed - (bh + bd) := by rw [e1, e2]; exact smW (n := eh + ed - (bh + bd)) (by omega)
  intro m R
  refine call_in (n := 10) Try.func61 rfl rfl rfl rfl rfl rfl rfl ?_
  repeat' ((conv => whnf); first | refine eqS_rfl ?_ | refine eqA_rfl ?_ | refine eqA_of (by assumption) ?_ | refine eqS_of (by rfl) ?_ | refine eqL_rfl ?_ | refine eqJ_rfl ?_ | refine gE ?_ | refine seS_rfl ?_ | refine lsS_of hup ?_ | refine lsS_rfl ?_ | refine brS_tt ?_ | refine brS_ff ?_ | refine brS_not ?_ | refine gI ?_ | refine gT ?_ | refine gF ?_ | refine brS_intro (fun _ => ?_) (fun _ => ?_) | refine gL ?_ | refine gX ?_ | refine gO ?_ | refine gN ?_ | refine call_pure (c44 F _ _ _) ?_ | intro _)
  all_goals (conv => whnf)
  all_goals refine ⟨?_, by repeat' (first | exact WkM.refl _ | refine WkM.drop ?_), by repeat' (first | exact Nat.le_refl _ | refine Nat.le_succ_of_le ?_)⟩
  all_goals (exact congrArg (Value.int .i64) e3)

end Go.Proofs.Ytogncjicndbahaa
namespace Go.Proofs.Ytogncjicndbahaa
open Go.Ab
attribute [local irreducible] aggOk drwOK
set_option maxRecDepth 100000
set_option maxHeartbeats 4000000
set_option linter.unusedVariables false
set_option linter.unusedSimpArgs false
/-- a valid card -/
structure VC (n : Nat) (h dv : Nat → Int) : Prop where
  n0 : 0 < n
  n1 : n ≤ 36
  hb : ∀ j, j < n → 0 ≤ h j ∧ h j < 3600
  db : ∀ j, j < n → -900 ≤ dv j ∧ dv j ≤ 900
  up : ∀ i j, i < j → j < n → h i < h j
/-- the heading before a point -/
def pv (h : Nat → Int) : Nat → Int
  | 0 => -1
  | j + 1 => h j
/-- the end of a segment -/
def nh (n : Nat) (h : Nat → Int) (k : Nat) : Int := if k + 1 < n then h (k + 1) else h 0 + 3600
def nd (n : Nat) (dv : Nat → Int) (k : Nat) : Int := if k + 1 < n then dv (k + 1) else dv 0
theorem c49 (F d : Nat) (n : Nat) (h0 : 0 < n) (h1 : n ≤ 36) : PureC (CL F (d + 1)) 49 [.int .i64 (Int.ofNat n), .int .i64 36] 20 (.int .i64 0) := by
  have t1 : iEq (Int.ofNat n) 0 = false := (iEq_n (a := n) (b := 0)).trans (decide_eq_false (by omega))
  have t2 : iLt 36 (Int.ofNat n) = false := iLt_f (a := 36) (b := n) h1
  intro m R
  refine call_in (n := 12) Try.func49 rfl rfl rfl rfl rfl rfl rfl ?_
  repeat' ((conv => whnf); first | refine eqS_rfl ?_ | refine eqA_rfl ?_ | refine eqA_of (by assumption) ?_ | refine eqS_of (by rfl) ?_ | refine eqL_rfl ?_ | refine eqJ_rfl ?_ | refine gE ?_ | refine seS_rfl ?_ | refine lsS_of hup ?_ | refine lsS_rfl ?_ | refine brS_tt ?_ | refine brS_ff ?_ | refine brS_not ?_ | refine gI ?_ | refine gT ?_ | refine gF ?_ | refine brS_intro (fun _ => ?_) (fun _ => ?_) | refine gL ?_ | refine gX ?_ | refine gO ?_ | refine gN ?_ | intro _)
  all_goals (conv => whnf)
  all_goals refine ⟨?_, by repeat' (first | exact WkM.refl _ | refine WkM.drop ?_), by repeat' (first | exact Nat.le_refl _ | refine Nat.le_succ_of_le ?_)⟩
  all_goals (rfl)

theorem c50 (F d : Nat) (n : Int) : PureC (CL F (d + 1)) 50 [.int .i64 n] 20 (.bool (decide (0 ≤ n ∧ n < 3600))) := by
  intro m R
  refine call_in (n := 9) Try.func50 rfl rfl rfl rfl rfl rfl rfl ?_
  repeat' ((conv => whnf); first | refine eqS_rfl ?_ | refine eqA_rfl ?_ | refine eqA_of (by assumption) ?_ | refine eqS_of (by rfl) ?_ | refine eqL_rfl ?_ | refine eqJ_rfl ?_ | refine gE ?_ | refine seS_rfl ?_ | refine lsS_of hup ?_ | refine lsS_rfl ?_ | refine brS_tt ?_ | refine brS_ff ?_ | refine brS_not ?_ | refine gI ?_ | refine gT ?_ | refine gF ?_ | refine brS_intro (fun _ => ?_) (fun _ => ?_) | refine gL ?_ | refine gX ?_ | refine gO ?_ | refine gN ?_ | intro _)
  all_goals (conv => whnf)
  all_goals refine ⟨?_, by repeat' (first | exact WkM.refl _ | refine WkM.drop ?_), by repeat' (first | exact Nat.le_refl _ | refine Nat.le_succ_of_le ?_)⟩
  all_goals ((refine congrArg Value.bool ?_; simp only [iLt_eq, Bool.not_eq_true', decide_eq_true_eq, decide_eq_false_iff_not] at *; first | (refine Bool.eq_iff_iff.2 ?_; simp; omega) | (simp; omega) | omega))

theorem c51 (F d : Nat) (n : Int) : PureC (CL F (d + 1)) 51 [.int .i64 n] 20 (.bool (decide (-900 ≤ n ∧ n ≤ 900))) := by
  intro m R
  refine call_in (n := 9) Try.func51 rfl rfl rfl rfl rfl rfl rfl ?_
  repeat' ((conv => whnf); first | refine eqS_rfl ?_ | refine eqA_rfl ?_ | refine eqA_of (by assumption) ?_ | refine eqS_of (by rfl) ?_ | refine eqL_rfl ?_ | refine eqJ_rfl ?_ | refine gE ?_ | refine seS_rfl ?_ | refine lsS_of hup ?_ | refine lsS_rfl ?_ | refine brS_tt ?_ | refine brS_ff ?_ | refine brS_not ?_ | refine gI ?_ | refine gT ?_ | refine gF ?_ | refine brS_intro (fun _ => ?_) (fun _ => ?_) | refine gL ?_ | refine gX ?_ | refine gO ?_ | refine gN ?_ | intro _)
  all_goals (conv => whnf)
  all_goals refine ⟨?_, by repeat' (first | exact WkM.refl _ | refine WkM.drop ?_), by repeat' (first | exact Nat.le_refl _ | refine Nat.le_succ_of_le ?_)⟩
  all_goals ((refine congrArg Value.bool ?_; simp only [iLt_eq, Bool.not_eq_true', decide_eq_true_eq, decide_eq_false_iff_not] at *; first | (refine Bool.eq_iff_iff.2 ?_; simp; omega) | (simp; omega) | omega))

theorem c52 (F d : Nat) (p n : Int) (h : p < n) : PureC (CL F (d + 1)) 52 [.int .i64 p, .int .i64 n] 20 (.int .i64 0) := by
  have t1 : iEq n p = false := eqFa (by omega)
  have t2 : iLt n p = false := ltF (by omega)
  intro m R
  refine call_in (n := 13) Try.func52 rfl rfl rfl rfl rfl rfl rfl ?_
  repeat' ((conv => whnf); first | refine eqS_rfl ?_ | refine eqA_rfl ?_ | refine eqA_of (by assumption) ?_ | refine eqS_of (by rfl) ?_ | refine eqL_rfl ?_ | refine eqJ_rfl ?_ | refine gE ?_ | refine seS_rfl ?_ | refine lsS_of hup ?_ | refine lsS_rfl ?_ | refine brS_tt ?_ | refine brS_ff ?_ | refine brS_not ?_ | refine gI ?_ | refine gT ?_ | refine gF ?_ | refine brS_intro (fun _ => ?_) (fun _ => ?_) | refine gL ?_ | refine gX ?_ | refine gO ?_ | refine gN ?_ | intro _)
  all_goals (conv => whnf)
  all_goals refine ⟨?_, by repeat' (first | exact WkM.refl _ | refine WkM.drop ?_), by repeat' (first | exact Nat.le_refl _ | refine Nat.le_succ_of_le ?_)⟩
  all_goals (rfl)

theorem c22 (F d : Nat) (hF : 200 < F) (a : Option Addr) (n e c : Nat) (h dv : Nat → Int) (hv : VC n h dv) : ReadC (CL F (d + 2)) 22 [.sl 1000 a n c] [(1000, .ro a n e 2 fun j => [.int .i64 (h j), .int .i64 (dv j)])] (20000 + 300) (.int .i64 (Int.ofNat 0)) := by
  have hn0 := hv.n0
  have hn1 := hv.n1
  intro R
  rw [show 20000 + 300 = (20000) + 300 from rfl, addL_eq, ← Nat.add_assoc, ← addL_eq _ 300, Nat.add_comm R (20000)]
  refine call_in (n := 40) Try.func22 rfl rfl rfl rfl rfl rfl rfl ?_
  repeat' ((conv => whnf); first | refine eqS_rfl ?_ | refine eqA_rfl ?_ | refine eqA_of (by assumption) ?_ | refine eqS_of (by rfl) ?_ | refine eqL_rfl ?_ | refine eqJ_rfl ?_ | refine gE ?_ | refine seS_rfl ?_ | refine lsS_of hup ?_ | refine lsS_rfl ?_ | refine brS_tt ?_ | refine brS_ff ?_ | refine brS_not ?_ | refine gI ?_ | refine gT ?_ | refine gF ?_ | refine brS_intro (fun _ => ?_) (fun _ => ?_) | refine gL ?_ | refine gX ?_ | refine gO ?_ | refine gN ?_ | refine call_pure (c49 F _ n hn0 hn1) ?_ | intro _)
  conv => whnf
  refine loS_i (fun jj f mm R' ni => ∃ j : Nat, j ≤ n ∧ jj = n - j + 1 ∧ f = [(4, .int .i64 (pv h j)), (14, .sl 1000 a n c), (15, .int .i64 (Int.ofNat n)), (16, .int .i64 (Int.ofNat j))] ∧ mm = [(1000, .ro a n e 2 fun j => [.int .i64 (h j), .int .i64 (dv j)])] ∧ R' = (addL (500 * (n - j) + R) 200) ∧ ni = 10) (n + 1) (by omega)
    ⟨[(4, .int .i64 (pv h 0)), (14, .sl 1000 a n c), (15, .int .i64 (Int.ofNat n)), (16, .int .i64 (Int.ofNat 0))], [(1000, .ro a n e 2 fun j => [.int .i64 (h j), .int .i64 (dv j)])], (addL (500 * (n - 0) + R) 200), 10, ⟨eqF_rfl _, eqF_rfl _, eqF_rfl _, eqF_rfl _, trivial⟩, WkM.refl _, nM1, 0, by omega, by omega, rfl, rfl, rfl, rfl⟩ ?_
  rintro _ _ _ _ _ ⟨j, hj, rfl, rfl, rfl, rfl, rfl⟩
  by_cases hlt : j < n
  · have h1 := iLt_t hlt
    have hh := hv.hb j hlt
    have hd := hv.db j hlt
    have g1 : decide (0 ≤ h j ∧ h j < 3600) = true := decide_eq_true hh
    have g2 : decide (-900 ≤ dv j ∧ dv j ≤ 900) = true := decide_eq_true hd
    have g3 : pv h j < h j := by cases j with
      | zero => show -1 < h 0; omega
      | succ j => exact hv.up j (j + 1) (by omega) hlt
    have k1 := c50 F (d + 0) (h j)
    have k2 := c51 F (d + 0) (dv j)
    rw [g1] at k1
    rw [g2] at k2
    repeat' ((conv => whnf); first | refine eqS_rfl ?_ | refine eqA_rfl ?_ | refine eqA_of (by assumption) ?_ | refine eqS_of (by rfl) ?_ | refine eqL_rfl ?_ | refine eqJ_rfl ?_ | refine gE ?_ | refine seS_rfl ?_ | refine lsS_of hup ?_ | refine lsS_rfl ?_ | refine brS_tt ?_ | refine brS_ff ?_ | refine brS_not ?_ | refine gI ?_ | refine gT ?_ | refine gF ?_ | refine brS_intro (fun _ => ?_) (fun _ => ?_) | refine gL ?_ | refine gX ?_ | refine gO ?_ | refine gN ?_ | refine call_pure k1 ?_ | refine call_pure k2 ?_ | refine call_pure (c52 F _ _ _ g3) ?_ | intro _)
    conv => whnf
    exact ⟨n - (j + 1) + 1, [(4, .int .i64 (pv h (j + 1))), (14, .sl 1000 a n c), (15, .int .i64 (Int.ofNat n)), (16, .int .i64 (Int.ofNat (j + 1)))], _, (addL (500 * (n - (j + 1)) + R) 200), 10, by omega, ⟨eqF_rfl _, eqF_rfl _, eqF_rfl _, ⟨congrArg (Value.int .i64) (smn (i := j + 1) (by omega)), rfl⟩, trivial⟩, WkM.drop (WkM.refl _), nM1, j + 1, by omega, rfl, rfl, rfl, rfl, rfl⟩
  · have e2 : n = j := by omega
    subst e2
    have h1 := iLt_f (Nat.le_refl n)
    repeat' ((conv => whnf); first | refine eqS_rfl ?_ | refine eqA_rfl ?_ | refine eqA_of (by assumption) ?_ | refine eqS_of (by rfl) ?_ | refine eqL_rfl ?_ | refine eqJ_rfl ?_ | refine gE ?_ | refine seS_rfl ?_ | refine lsS_of hup ?_ | refine lsS_rfl ?_ | refine brS_tt ?_ | refine brS_ff ?_ | refine brS_not ?_ | refine gI ?_ | refine gT ?_ | refine gF ?_ | refine brS_intro (fun _ => ?_) (fun _ => ?_) | refine gL ?_ | refine gX ?_ | refine gO ?_ | refine gN ?_ | intro _)
    conv => whnf
    exact ⟨rfl, nM1⟩
theorem c36 (F d : Nat) (hF : 200 < F) (a : Option Addr) (n e c : Nat) (h dv : Nat → Int) (hv : VC n h dv) (m : Int) (hm : 0 ≤ m ∧ m < 3600) : ReadC (CL F (d + 3)) 36 [.sl 1000 a n c, .int .i64 m] [(1000, .ro a n e 2 fun j => [.int .i64 (h j), .int .i64 (dv j)])] (20400 + 100) (.int .i64 (Int.ofNat 0)) := by
  intro R
  rw [show 20400 + 100 = (20400) + 100 from rfl, addL_eq, ← Nat.add_assoc, ← addL_eq _ 100, Nat.add_comm R (20400)]
  have g1 : decide (0 ≤ m ∧ m < 3600) = true := decide_eq_true hm
  have k1 := c50 F (d + 1) m
  rw [g1] at k1
  refine call_in (n := 14) Try.func36 rfl rfl rfl rfl rfl rfl rfl ?_
  repeat' ((conv => whnf); first | refine eqS_rfl ?_ | refine eqA_rfl ?_ | refine eqA_of (by assumption) ?_ | refine eqS_of (by rfl) ?_ | refine eqL_rfl ?_ | refine eqJ_rfl ?_ | refine gE ?_ | refine seS_rfl ?_ | refine lsS_of hup ?_ | refine lsS_rfl ?_ | refine brS_tt ?_ | refine brS_ff ?_ | refine brS_not ?_ | refine gI ?_ | refine gT ?_ | refine gF ?_ | refine brS_intro (fun _ => ?_) (fun _ => ?_) | refine gL ?_ | refine gX ?_ | refine gO ?_ | refine gN ?_ | refine call_readL (c22 F _ hF a n e c h dv hv) (addL R 50) (by rfl) (by exact SeesM.cons 1000 (sees_ro (i := 1000) (by rfl)) (SeesM.nil _) (fun _ _ _ _ _ _ x hx => by cases hx)) (nM1) ?_ | refine call_pure k1 ?_ | intro _)
  conv => whnf
  exact ⟨rfl, nM1⟩
theorem c40 (F d c2 : Nat) (hF : 200 < F) (a : Option Addr) (n e c : Nat) (h dv : Nat → Int) (hv : VC n h dv) : IterC (CL F (d + 1)) (CL F (d + 2)) (.fn 40 [.sl 1000 a n c] []) [(1000, .ro a n e 2 fun j => [.int .i64 (h j), .int .i64 (dv j)])] ((c2 + 80) * n + 100) c2 n (fun k => [.int .i64 (Int.ofNat k), sg (h k) (dv k) (nh n h k) (nd n dv k)]) := by
  have hn0 := hv.n0
  have hn1 := hv.n1
  intro i b I Q hr m hI R
  rw [addL_eq, ← Nat.add_assoc, ← addL_eq _ 100, Nat.add_comm R]
  refine call_in (n := 39) Try.func40 rfl rfl rfl rfl rfl rfl rfl ?_
  repeat' ((conv => whnf); first | refine eqS_rfl ?_ | refine eqA_rfl ?_ | refine eqA_of (by assumption) ?_ | refine eqS_of (by rfl) ?_ | refine eqL_rfl ?_ | refine eqJ_rfl ?_ | refine gE ?_ | refine seS_rfl ?_ | refine lsS_of hup ?_ | refine lsS_rfl ?_ | refine brS_tt ?_ | refine brS_ff ?_ | refine brS_not ?_ | refine gI ?_ | refine gT ?_ | refine gF ?_ | refine brS_intro (fun _ => ?_) (fun _ => ?_) | refine gL ?_ | refine gX ?_ | refine gO ?_ | refine gN ?_ | intro _)
  conv => whnf
  refine loS_i (fun jj f mm R' ni => ∃ (j : Nat) (m1 : Mem), j ≤ n ∧ jj = n - j + 1 ∧ f = [(0, .sl 1000 a n c), (1, .yf i b), (7, .sl 1000 a n c), (8, .int .i64 (Int.ofNat n)), (9, .int .i64 (Int.ofNat j))] ∧ mm = [(1000, .ro a n e 2 fun j => [.int .i64 (h j), .int .i64 (dv j)])] ++ m1 ∧ I j m1 ∧ R' = (addL ((c2 + 80) * (n - j) + R) 60) ∧ ni = 500) (n + 1) (by omega)
    ⟨[(0, .sl 1000 a n c), (1, .yf i b), (7, .sl 1000 a n c), (8, .int .i64 (Int.ofNat n)), (9, .int .i64 (Int.ofNat 0))], [(1000, .ro a n e 2 fun j => [.int .i64 (h j), .int .i64 (dv j)])] ++ m, (addL ((c2 + 80) * (n - 0) + R) 60), 500, ⟨eqF_rfl _, eqF_rfl _, eqF_rfl _, eqF_rfl _, eqF_rfl _, trivial⟩, WS, by rw [Nat.sub_zero]; (first | (simp only [addL_eq, addL_rec]; omega) | omega | exact Nat.le_refl _), 0, m, by omega, by omega, rfl, rfl, hI, rfl, rfl⟩ ?_
  rintro _ _ _ _ _ ⟨j, m1, hj, rfl, rfl, rfl, hI, rfl, rfl⟩
  by_cases hlt : j < n
  · have d1 := iLt_t hlt
    have hb : (c2 + 80) * (n - j) = (c2 + 80) * (n - (j + 1)) + (c2 + 80) := by rw [← Nat.mul_succ]; congr 1; omega
    by_cases hl : j + 1 < n
    · have q1 : Int.tmod (wr .i64 (Int.add (Int.ofNat j) 1)) (Int.ofNat n) = Int.ofNat (j + 1) := by
        show Int.tmod (wr .i64 (Int.ofNat (j + 1))) _ = _
        rw [smn (i := j + 1) (by omega)]
        show Int.tmod ((j + 1 : Nat) : Int) (n : Int) = _
        rw [← Int.ofNat_tmod, Nat.mod_eq_of_lt hl]; rfl
      have q2 : iEq (Int.ofNat j) (wr .i64 (Int.sub (Int.ofNat n) 1)) = false := by rw [len1 hn0 (by omega)]; exact eqFa (by show ((j : Nat) : Int) ≠ ((n - 1 : Nat) : Int); omega)
      have q3 : nh n h j = h (j + 1) := by unfold nh; rw [if_pos hl]
      have q4 : nd n dv j = dv (j + 1) := by unfold nd; rw [if_pos hl]
      repeat' ((conv => whnf); first | refine eqS_rfl ?_ | refine eqA_rfl ?_ | refine eqA_of (by assumption) ?_ | refine eqS_of (by rfl) ?_ | refine eqL_rfl ?_ | refine eqJ_rfl ?_ | refine gE ?_ | refine seS_rfl ?_ | refine lsS_of hup ?_ | refine lsS_rfl ?_ | refine brS_tt ?_ | refine brS_ff ?_ | refine brS_not ?_ | refine gI ?_ | refine gT ?_ | refine gF ?_ | refine brS_intro (fun _ => ?_) (fun _ => ?_) | refine gL ?_ | refine gX ?_ | refine gO ?_ | refine gN ?_ | refine gM ?_ | refine gY ?_ | refine nzS_intro (by show ((n : Nat) : Int) ≠ 0; omega) ?_ | refine ixS_of q1 hl ?_ | refine call_round (k := j) hI (hr j hlt) [_, _, _] (addL ((c2 + 80) * (n - (j + 1)) + R) 75) (by show _ = dens [_, sg _ _ (nh n h j) (nd n dv j)]; rw [q3, q4]) (by exact WkM.refl _) (nM1) ?_ ?_ | intro _)
      all_goals conv => whnf
      all_goals first
        | exact ⟨n - (j + 1) + 1, [(0, .sl 1000 a n c), (1, .yf i b), (7, .sl 1000 a n c), (8, .int .i64 (Int.ofNat n)), (9, .int .i64 (Int.ofNat (j + 1)))], [(1000, .ro a n e 2 fun j => [.int .i64 (h j), .int .i64 (dv j)])] ++ _, (addL ((c2 + 80) * (n - (j + 1)) + R) 60), 500, by omega, ⟨eqF_rfl _, eqF_rfl _, eqF_rfl _, eqF_rfl _, ⟨congrArg (Value.int .i64) (smn (i := j + 1) (by omega)), rfl⟩, trivial⟩, WkM.drop (WkM.drop (WkM.refl _)), nM1, j + 1, _, by omega, rfl, rfl, rfl, by assumption, rfl, rfl⟩
        | exact ⟨nM1, _, by repeat' (first | exact WkM.comm [(1000, _)] _ | refine WkM.drop ?_), .inr (by assumption)⟩
    · have hj2 : j = n - 1 := by omega
      have q1 : Int.tmod (wr .i64 (Int.add (Int.ofNat j) 1)) (Int.ofNat n) = Int.ofNat 0 := by
        show Int.tmod (wr .i64 (Int.ofNat (j + 1))) _ = _
        rw [smn (i := j + 1) (by omega), show j + 1 = n by omega]
        exact Int.tmod_self
      have q2 : iEq (Int.ofNat j) (wr .i64 (Int.sub (Int.ofNat n) 1)) = true := by rw [len1 hn0 (by omega), hj2]; exact iEq_self _
      have h0 := hv.hb 0 hn0
      have q5 : wr .i64 (Int.add (h 0) 3600) = nh n h j := by unfold nh; rw [if_neg hl]; exact smW (n := h 0 + 3600) (by omega)
      have q4 : nd n dv j = dv 0 := by unfold nd; rw [if_neg hl]
      repeat' ((conv => whnf); first | refine eqS_rfl ?_ | refine eqA_rfl ?_ | refine eqA_of (by assumption) ?_ | refine eqS_of (by rfl) ?_ | refine eqL_rfl ?_ | refine eqJ_rfl ?_ | refine gE ?_ | refine seS_rfl ?_ | refine lsS_of hup ?_ | refine lsS_rfl ?_ | refine brS_tt ?_ | refine brS_ff ?_ | refine brS_not ?_ | refine gI ?_ | refine gT ?_ | refine gF ?_ | refine brS_intro (fun _ => ?_) (fun _ => ?_) | refine gL ?_ | refine gX ?_ | refine gO ?_ | refine gN ?_ | refine gM ?_ | refine gY ?_ | refine nzS_intro (by show ((n : Nat) : Int) ≠ 0; omega) ?_ | refine ixS_of q1 hn0 ?_ | refine call_round (k := j) hI (hr j hlt) [_, _, _] (addL ((c2 + 80) * (n - (j + 1)) + R) 75) (by show _ = dens [_, sg _ _ (nh n h j) (nd n dv j)]; rw [← q5, q4]) (by exact WkM.refl _) (nM1) ?_ ?_ | intro _)
      all_goals conv => whnf
      all_goals first
        | exact ⟨n - (j + 1) + 1, [(0, .sl 1000 a n c), (1, .yf i b), (7, .sl 1000 a n c), (8, .int .i64 (Int.ofNat n)), (9, .int .i64 (Int.ofNat (j + 1)))], [(1000, .ro a n e 2 fun j => [.int .i64 (h j), .int .i64 (dv j)])] ++ _, (addL ((c2 + 80) * (n - (j + 1)) + R) 60), 500, by omega, ⟨eqF_rfl _, eqF_rfl _, eqF_rfl _, eqF_rfl _, ⟨congrArg (Value.int .i64) (smn (i := j + 1) (by omega)), rfl⟩, trivial⟩, WkM.drop (WkM.drop (WkM.refl _)), nM1, j + 1, _, by omega, rfl, rfl, rfl, by assumption, rfl, rfl⟩
        | exact ⟨nM1, _, by repeat' (first | exact WkM.comm [(1000, _)] _ | refine WkM.drop ?_), .inr (by assumption)⟩
  · have e2 : n = j := by omega
    subst e2
    have d1 := iLt_f (Nat.le_refl n)
    repeat' ((conv => whnf); first | refine eqS_rfl ?_ | refine eqA_rfl ?_ | refine eqA_of (by assumption) ?_ | refine eqS_of (by rfl) ?_ | refine eqL_rfl ?_ | refine eqJ_rfl ?_ | refine gE ?_ | refine seS_rfl ?_ | refine lsS_of hup ?_ | refine lsS_rfl ?_ | refine brS_tt ?_ | refine brS_ff ?_ | refine brS_not ?_ | refine gI ?_ | refine gT ?_ | refine gF ?_ | refine brS_intro (fun _ => ?_) (fun _ => ?_) | refine gL ?_ | refine gX ?_ | refine gO ?_ | refine gN ?_ | intro _)
    conv => whnf
    exact ⟨nM1, m1, by repeat' (first | exact WkM.comm [(1000, _)] _ | refine WkM.drop ?_), .inl hI⟩
end Go.Proofs.Ytogncjicndbahaa
namespace Go.Proofs.Ytogncjicndbahaa
open Go.Ab
attribute [local irreducible] aggOk drwOK
set_option maxRecDepth 100000
set_option maxHeartbeats 4000000
set_option linter.unusedVariables false
set_option linter.unusedSimpArgs false
/-- how far a fraction lies behind a point -/
def ps (h : Nat → Int) (x : Rat) (k : Nat) : Rat := bkR (x + ((-(h k) : Int) : Rat))
/-- it lies in a segment -/
def inS (n : Nat) (h : Nat → Int) (x : Rat) (k : Nat) : Prop := ps h x k < ((nh n h k - h k : Int) : Rat)
/-- the deviation, from a segment -/
def dvS (n : Nat) (h dv : Nat → Int) (x : Rat) (k : Nat) : Rat := ((dv k : Int) : Rat) + ps h x k * (((nd n dv k - dv k : Int) : Rat) / ((nh n h k - h k : Int) : Rat))
theorem nh_gt {n : Nat} {h dv : Nat → Int} (hv : VC n h dv) {k : Nat} (hk : k < n) : h k < nh n h k ∧ nh n h k ≤ h k + 3600 := by
  unfold nh
  have h0 := hv.hb 0 hv.n0
  have h1 := hv.hb k hk
  split
  · rename_i hl
    have h2 := hv.hb (k + 1) hl
    have := hv.up k (k + 1) (by omega) hl
    omega
  · cases k with
    | zero => omega
    | succ k => have := hv.up 0 (k + 1) (by omega) hk; omega
theorem nd_bd {n : Nat} {h dv : Nat → Int} (hv : VC n h dv) (k : Nat) : -900 ≤ nd n dv k ∧ nd n dv k ≤ 900 := by
  unfold nd
  split
  · rename_i hl; exact hv.db (k + 1) hl
  · exact hv.db 0 hv.n0
theorem c71 (F d : Nat) (hF : 300 < F) (bh bd eh ed : Int) (p q : Rat) (hq : q = (bd : Rat) + p * (((ed - bd : Int) : Rat) / ((eh - bh : Int) : Rat))) (hp : Vb p 3600 6000) (h1 : 0 < eh - bh ∧ eh - bh ≤ 3600) (hb1 : -10000 ≤ bh ∧ bh ≤ 10000) (h2 : -900 ≤ bd ∧ bd ≤ 900) (h3 : -900 ≤ ed ∧ ed ≤ 900) : PureC (CL F (d + 4)) 71 [sg bh bd eh ed, fr p] (40000 + 100) (fr q) := by
  have e1 : wr .i64 (Int.sub ed bd) = ed - bd := smW (n := ed - bd) (by omega)
  have e2 : wr .i64 (Int.sub eh bh) = eh - bh := smW (n := eh - bh) (by omega)
  obtain ⟨ch, hch⟩ : ∃ ch, ch = p * (((ed - bd : Int) : Rat) / ((eh - bh : Int) : Rat)) := ⟨_, rfl⟩
  rw [← hch] at hq
  have hcv : Vb ch 6480000 21600000 := by rw [hch]; exact Vb.part (A := 1800) (B := 3600) hp h1.1 (by omega) (by omega)
  intro m R
  rw [show 40000 + 100 = (40000) + 100 from rfl, addL_eq, ← Nat.add_assoc, ← addL_eq _ 100, Nat.add_comm R (40000)]
  refine call_in (n := 24) Try.func71 rfl rfl rfl rfl rfl rfl rfl ?_
  repeat' ((conv => whnf); first | refine eqS_rfl ?_ | refine eqA_rfl ?_ | refine eqA_of (by assumption) ?_ | refine eqS_of (by rfl) ?_ | refine eqL_rfl ?_ | refine eqJ_rfl ?_ | refine gE ?_ | refine seS_rfl ?_ | refine lsS_of hup ?_ | refine lsS_rfl ?_ | refine brS_tt ?_ | refine brS_ff ?_ | refine brS_not ?_ | refine gI ?_ | refine gT ?_ | refine gF ?_ | refine brS_intro (fun _ => ?_) (fun _ => ?_) | refine gL ?_ | refine gX ?_ | refine gO ?_ | refine gN ?_ | refine call_pure (c70 F _ _ _ _ _) ?_ | refine call_pureL (c88 F d hF p ch _ _ _ _ e1 e2 h1.1 hch 3600 6000 1800 3600 hp (by omega) (by omega) (by decide) (by decide)) (addL (34000 + R) 50) (nM1) ?_ | refine call_pure (c53 F _ bd _ rfl) ?_ | refine call_readL (c55a F d hF (bd : Rat) ch q hq 1 21600000 900 6480000 (Vb.int (by omega)) hcv (by decide) (by decide) _ 1 0) (addL R 50) (by rfl) (by exact SeesM.cons 1000 (SeesE.ro_congr (g := fun _ => [.int .i64 (ch).num, .int .i64 (Int.ofNat (ch).den)]) (sees_own (i := 4) (n := 1) (o := 0) (sz := 2) (c := 0) (by rfl) (by exact Nat.le_refl 2)) (fun j hj => by match j, hj with | 0, _ => rfl | j + 1, hj => exact absurd hj (by omega))) (SeesM.nil _) (fun _ _ _ _ _ _ x hx => by cases hx)) (nM1) ?_ | intro _)
  conv => whnf
  exact ⟨rfl, WS, nM1⟩
end Go.Proofs.Ytogncjicndbahaa
namespace Go.Proofs.Ytogncjicndbahaa
open Go.Ab
attribute [local irreducible] aggOk drwOK
set_option maxRecDepth 100000
set_option maxHeartbeats 4000000
set_option linter.unusedVariables false
set_option linter.unusedSimpArgs false
theorem bkR_rg {t : Rat} (h1 : -3600 ≤ t) (h2 : t ≤ 3600) : 0 ≤ bkR t ∧ bkR t < 3600 ∨ t = -3600 ∧ bkR t = 0 := by
  have e1 : ((-3600 : Int) : Rat) = -3600 := rfl
  have e2 : ((7200 : Int) : Rat) = 7200 := rfl
  have e3 : ((3600 : Int) : Rat) = 3600 := rfl
  have e4 : ((0 : Int) : Rat) = 0 := rfl
  unfold bkR; rw [e1, e2, e3, e4]
  split
  · grind
  · split
    · grind
    · split <;> grind
theorem bkR_bd {t : Rat} {D : Nat} (h : Vb t 3600 D) : Vb (bkR t) 3600 D := by
  have h1 := h.r1
  have h2 := h.r2
  have e5 : ((3600 : Nat) : Rat) = 3600 := rfl
  rw [e5] at h1 h2
  have h3 := bkR_rg h1 h2
  generalize hb : bkR t = b at *
  refine Vb.of (by rw [← hb, (bkR_eq t).2]; exact h.d) ?_ ?_ <;> (rw [e5]; clear hb; grind)
theorem c54 (F d : Nat) (hF : 300 < F) (a : Option Addr) (n e c : Nat) (h dv : Nat → Int) (hv : VC n h dv) (x : Rat) (hx : Vb x 3600 6000) (hx0 : (0 : Rat) ≤ x) (i : Nat) (hi : i < n) (hin : inS n h x i) (hbe : ∀ k, k < i → ¬ inS n h x k) (q : Rat) (hq : q = dvS n h dv x i) : ReadC (CL F (d + 7)) 54 [.sl 1000 a n c, fr x] [(1000, .ro a n e 2 fun j => [.int .i64 (h j), .int .i64 (dv j)])] (4000000 + 300) (fr q) := by
  have hn1 := hv.n1
  intro R
  rw [show 4000000 + 300 = (4000000) + 300 from rfl, addL_eq, ← Nat.add_assoc, ← addL_eq _ 300, Nat.add_comm R (4000000)]
  refine call_in (n := 29) Try.func54 rfl rfl rfl rfl rfl rfl rfl ?_
  repeat' ((conv => whnf); first | refine eqS_rfl ?_ | refine eqA_rfl ?_ | refine eqA_of (by assumption) ?_ | refine eqS_of (by rfl) ?_ | refine eqL_rfl ?_ | refine eqJ_rfl ?_ | refine gE ?_ | refine seS_rfl ?_ | refine lsS_of hup ?_ | refine lsS_rfl ?_ | refine brS_tt ?_ | refine brS_ff ?_ | refine brS_not ?_ | refine gI ?_ | refine gT ?_ | refine gF ?_ | refine brS_intro (fun _ => ?_) (fun _ => ?_) | refine gL ?_ | refine gX ?_ | refine gO ?_ | refine gN ?_ | intro _)
  rename_i bx br b1 b2
  refine call_iter (c40 F (d + 4) (89000 + 1000) (by omega) a n e c h dv hv) (fun k m => m = [(2, lopF Try.f54 0 b2 .ready none 29 [(3, .ptr 0 bx 0), (4, .ptr 1 br 0)] b1), (dfN, .dfr [b1]), (1, .own br 81 [.int .i64 0, .int .i64 (Int.ofNat 0)]), (0, .own bx 81 [.int .i64 x.num, .int .i64 (Int.ofNat x.den)])] ∧ k ≤ i) (fun m => m = [(2, lopF Try.f54 0 b2 .done (some .ret) 29 [(3, .ptr 0 bx 0), (4, .ptr 1 br 0)] b1), (dfN, .dfr [b1]), (1, .own br 81 [.int .i64 q.num, .int .i64 (Int.ofNat q.den)]), (0, .own bx 81 [.int .i64 x.num, .int .i64 (Int.ofNat x.den)])]) [(2, lopF Try.f54 0 b2 .ready none 29 [(3, .ptr 0 bx 0), (4, .ptr 1 br 0)] b1), (dfN, .dfr [b1]), (1, .own br 81 [.int .i64 0, .int .i64 (Int.ofNat 0)]), (0, .own bx 81 [.int .i64 x.num, .int .i64 (Int.ofNat x.den)])] (addL R 50) (by rfl) (by exact (WkM.lop (i := 2) (j := 2) (f' := [(3, .ptr 0 bx 0), (4, .ptr 1 br 0)]) ⟨eqF_rfl _, eqF_rfl _, trivial⟩ (WkM.refl _)).trans WS) ⟨rfl, Nat.zero_le _⟩ ?_ (nM1) ?_
  · rintro k hk _ ⟨rfl, hki⟩ me' R
    rw [show 89000 + 1000 = (89000) + 1000 from rfl, addL_eq, ← Nat.add_assoc, ← addL_eq _ 1000, Nat.add_comm R (89000)]
    refine call_yield ?_
    have hh := hv.hb k hk
    have hg := nh_gt hv hk
    have hd := hv.db k hk
    have hd2 := nd_bd hv k
    have e1 : wr .i64 (Int.sub 0 (h k)) = -(h k) := (smW (n := 0 - h k) (by omega)).trans (by omega)
    have e2 : wr .i64 (Int.sub (nh n h k) (h k)) = nh n h k - h k := smW (n := nh n h k - h k) (by omega)
    obtain ⟨t, ht⟩ : ∃ t, t = x + ((-(h k) : Int) : Rat) := ⟨_, rfl⟩
    obtain ⟨p, hp⟩ : ∃ p, p = bkR t := ⟨_, rfl⟩
    have htv : Vb t 3600 6000 := by
      refine Vb.of (by rw [ht, addI_den]; exact hx.d) ?_ ?_
      · have := Rat.intCast_le_intCast.2 (show -3600 ≤ -(h k) by omega)
        rw [ht]
        have e : ((-3600 : Int) : Rat) = -((3600 : Nat) : Rat) := rfl
        rw [e] at this
        grind
      · have h5 := Rat.intCast_le_intCast.2 (show -(h k) ≤ 0 by omega)
        have h6 := hx.r2
        rw [ht]
        have e : ((0 : Int) : Rat) = 0 := rfl
        rw [e] at h5
        grind
    have hpv : Vb p 3600 6000 := by rw [hp]; exact bkR_bd htv
    have hps : ps h x k = p := by rw [hp, ht]; rfl
    by_cases hik : k = i
    · subst hik
      have hlt : decide (p < ((nh n h k - h k : Int) : Rat)) = true := decide_eq_true (by rw [← hps]; exact hin)
      have hq2 : q = ((dv k : Int) : Rat) + p * (((nd n dv k - dv k : Int) : Rat) / ((nh n h k - h k : Int) : Rat)) := by rw [hq, ← hps]; rfl
      have k69 := c69 F (d + 3) p (nh n h k - h k) _ e2 6000 3600 hpv.d (by omega) (by decide)
      rw [hlt] at k69
      repeat' ((conv => whnf); first | refine eqS_rfl ?_ | refine eqA_rfl ?_ | refine eqA_of (by assumption) ?_ | refine eqS_of (by rfl) ?_ | refine eqL_rfl ?_ | refine eqJ_rfl ?_ | refine gE ?_ | refine seS_rfl ?_ | refine lsS_of hup ?_ | refine lsS_rfl ?_ | refine brS_tt ?_ | refine brS_ff ?_ | refine brS_not ?_ | refine gI ?_ | refine gT ?_ | refine gF ?_ | refine brS_intro (fun _ => ?_) (fun _ => ?_) | refine gL ?_ | refine gX ?_ | refine gO ?_ | refine gN ?_ | refine gM ?_ | refine gY ?_ | refine call_pure (c53 F _ _ _ e1) ?_ | refine call_readL (c55a F (d + 1) hF x ((-(h k) : Int) : Rat) t ht 6000 1 3600 3600 hx (Vb.int (by omega)) (by decide) (by decide) _ 1 0) (addL (50000 + R) 900) (by rfl) (by exact SeesM.cons 1000 (SeesE.ro_congr (g := fun _ => [.int .i64 (((-(h k) : Int) : Rat)).num, .int .i64 (Int.ofNat (((-(h k) : Int) : Rat)).den)]) (sees_own (i := 502) (n := 1) (o := 0) (sz := 2) (c := 0) (by rfl) (by exact Nat.le_refl 2)) (fun j hj => by match j, hj with | 0, _ => rfl | j + 1, hj => exact absurd hj (by omega))) (SeesM.nil _) (fun _ _ _ _ _ _ x hx => by cases hx)) (nM1) ?_ | refine call_pure (c56 F _ t p hp 3600 6000 htv (by decide) (by decide)) ?_ | refine call_pure (c70 F _ _ _ _ _) ?_ | refine call_pure k69 ?_ | refine call_pureL (c71 F d hF _ _ _ _ p q hq2 hpv (by omega) (by omega) hd hd2) (addL (1000 + R) 500) (nM1) ?_ | intro _)
      conv => whnf
      exact ⟨nM1, [(2, lopF Try.f54 0 b2 .done (some .ret) 29 [(3, .ptr 0 bx 0), (4, .ptr 1 br 0)] b1), (dfN, .dfr [b1]), (1, .own br 81 [.int .i64 q.num, .int .i64 (Int.ofNat q.den)]), (0, .own bx 81 [.int .i64 x.num, .int .i64 (Int.ofNat x.den)])], WS, .inr ⟨rfl, rfl⟩⟩
    · have hlt : decide (p < ((nh n h k - h k : Int) : Rat)) = false := decide_eq_false (by rw [← hps]; exact hbe k (by omega))
      have k69 := c69 F (d + 3) p (nh n h k - h k) _ e2 6000 3600 hpv.d (by omega) (by decide)
      rw [hlt] at k69
      repeat' ((conv => whnf); first | refine eqS_rfl ?_ | refine eqA_rfl ?_ | refine eqA_of (by assumption) ?_ | refine eqS_of (by rfl) ?_ | refine eqL_rfl ?_ | refine eqJ_rfl ?_ | refine gE ?_ | refine seS_rfl ?_ | refine lsS_of hup ?_ | refine lsS_rfl ?_ | refine brS_tt ?_ | refine brS_ff ?_ | refine brS_not ?_ | refine gI ?_ | refine gT ?_ | refine gF ?_ | refine brS_intro (fun _ => ?_) (fun _ => ?_) | refine gL ?_ | refine gX ?_ | refine gO ?_ | refine gN ?_ | refine gM ?_ | refine gY ?_ | refine call_pure (c53 F _ _ _ e1) ?_ | refine call_readL (c55a F (d + 1) hF x ((-(h k) : Int) : Rat) t ht 6000 1 3600 3600 hx (Vb.int (by omega)) (by decide) (by decide) _ 1 0) (addL (50000 + R) 900) (by rfl) (by exact SeesM.cons 1000 (SeesE.ro_congr (g := fun _ => [.int .i64 (((-(h k) : Int) : Rat)).num, .int .i64 (Int.ofNat (((-(h k) : Int) : Rat)).den)]) (sees_own (i := 502) (n := 1) (o := 0) (sz := 2) (c := 0) (by rfl) (by exact Nat.le_refl 2)) (fun j hj => by match j, hj with | 0, _ => rfl | j + 1, hj => exact absurd hj (by omega))) (SeesM.nil _) (fun _ _ _ _ _ _ x hx => by cases hx)) (nM1) ?_ | refine call_pure (c56 F _ t p hp 3600 6000 htv (by decide) (by decide)) ?_ | refine call_pure (c70 F _ _ _ _ _) ?_ | refine call_pure k69 ?_ | intro _)
      conv => whnf
      exact ⟨nM1, [(2, lopF Try.f54 0 b2 .ready none 29 [(3, .ptr 0 bx 0), (4, .ptr 1 br 0)] b1), (dfN, .dfr [b1]), (1, .own br 81 [.int .i64 0, .int .i64 (Int.ofNat 0)]), (0, .own bx 81 [.int .i64 x.num, .int .i64 (Int.ofNat x.den)])], WS, .inl ⟨rfl, rfl, by omega⟩⟩
  · rintro _ _ (⟨_, hc⟩ | rfl)
    · omega
    · skip
      repeat' ((conv => whnf); first | refine eqS_rfl ?_ | refine eqA_rfl ?_ | refine eqA_of (by assumption) ?_ | refine eqS_of (by rfl) ?_ | refine eqL_rfl ?_ | refine eqJ_rfl ?_ | refine gE ?_ | refine seS_rfl ?_ | refine lsS_of hup ?_ | refine lsS_rfl ?_ | refine brS_tt ?_ | refine brS_ff ?_ | refine brS_not ?_ | refine gI ?_ | refine gT ?_ | refine gF ?_ | refine brS_intro (fun _ => ?_) (fun _ => ?_) | refine gL ?_ | refine gX ?_ | refine gO ?_ | refine gN ?_ | intro _)
      conv => whnf
      exact ⟨rfl, nM1⟩
end Go.Proofs.Ytogncjicndbahaa
namespace Go.Proofs.Ytogncjicndbahaa
open Go.Ab
attribute [local irreducible] aggOk drwOK
set_option maxRecDepth 100000
set_option maxHeartbeats 4000000
set_option linter.unusedVariables false
set_option linter.unusedSimpArgs false
/-- the courses of a segment: its rise, without a sign; the first way; a course -/
def csR (bh bd eh ed : Int) : Int := if eh + ed - (bh + bd) < 0 then -(eh + ed - (bh + bd)) else eh + ed - (bh + bd)
def csW0 (bh bd eh ed m : Int) : Int := if eh + ed - (bh + bd) < 0 then -(m - (bh + bd)) else m - (bh + bd)
def csW (bh bd eh ed m : Int) : Int := bkI (csW0 bh bd eh ed m) 3600
def csV (bh eh R w : Int) : Rat := bkR ((bh : Rat) + (((eh - bh) * w : Int) : Rat) / (R : Rat))
def csL (bh bd eh ed m : Int) : List Rat := if csR bh bd eh ed ≤ csW bh bd eh ed m then [] else if csR bh bd eh ed ≤ csW bh bd eh ed m + 3600 then [csV bh eh (csR bh bd eh ed) (csW bh bd eh ed m)] else [csV bh eh (csR bh bd eh ed) (csW bh bd eh ed m), csV bh eh (csR bh bd eh ed) (csW bh bd eh ed m + 3600)]
structure SgB (bh bd eh ed : Int) : Prop where
  h : 0 ≤ bh ∧ bh < 3600
  l : bh < eh ∧ eh ≤ bh + 3600
  d : -900 ≤ bd ∧ bd ≤ 900
  e : -900 ≤ ed ∧ ed ≤ 900
theorem csW_bd {bh bd eh ed m : Int} (h : SgB bh bd eh ed) (hm : 0 ≤ m ∧ m < 3600) : 0 ≤ csW bh bd eh ed m ∧ csW bh bd eh ed m < 3600 ∧ -4600 ≤ csW0 bh bd eh ed m ∧ csW0 bh bd eh ed m ≤ 4600 ∧ 0 ≤ csR bh bd eh ed ∧ csR bh bd eh ed ≤ 5400 := by
  have h1 := h.h; have h2 := h.l; have h3 := h.d; have h4 := h.e
  unfold csW csW0 csR bkI
  split <;> (refine ⟨?_, ?_, by omega, by omega, by omega, by omega⟩ <;> (split <;> (try split) <;> (try split) <;> omega))
/-- a course's parts -/
structure CsP (bh eh R w : Int) (p t q : Rat) : Prop where
  hp : p = (((eh - bh) * w : Int) : Rat) / (R : Rat)
  hvp : Vb p 3600 6000
  ht : t = (bh : Rat) + p
  hvt : Vb t 7200 6000
  hq : q = bkR t
  e : q = csV bh eh R w
  m0 : ((eh - bh) * w).natAbs ≤ 30000000
theorem csP (bh eh R w : Int) (h1 : 0 ≤ bh ∧ bh < 3600) (h2 : bh < eh ∧ eh ≤ bh + 3600) (h3 : 0 ≤ w ∧ w < R) (h4 : R ≤ 5400) : ∃ p t q, CsP bh eh R w p t q := by
  have hR : 0 < R := by omega
  have m1 : (eh - bh) * w ≤ 3600 * R := Int.mul_le_mul (by omega) (by omega) (by omega) (by omega)
  have m2 : 0 ≤ (eh - bh) * w := Int.mul_nonneg (by omega) (by omega)
  have hvp : Vb ((((eh - bh) * w : Int) : Rat) / (R : Rat)) 3600 6000 := Vb.div hR (by omega) (by show _ ≤ (3600 : Int) * R; omega) (by omega)
  exact ⟨_, _, _, rfl, hvp, rfl, (Vb.add (Vb.int (V := 3600) (by omega)) hvp).mono (by decide) (by decide), rfl, rfl, by omega⟩
end Go.Proofs.Ytogncjicndbahaa
namespace Go.Proofs.Ytogncjicndbahaa
open Go.Ab
attribute [local irreducible] aggOk drwOK
set_option maxRecDepth 100000
set_option maxHeartbeats 4000000
set_option linter.unusedVariables false
set_option linter.unusedSimpArgs false
theorem c76 (F d c2 : Nat) (hF : 300 < F) (bh bd eh ed m : Int) (hB : SgB bh bd eh ed) (hm : 0 ≤ m ∧ m < 3600) (b1 b2 : Nat) : IterC (CL F (d + 3)) (CL F (d + 4)) (.fn 76 [] [.ptr 901 b1 0, .ptr 902 b2 0]) [(901, .own b1 101 [.int .i64 bh, .int .i64 bd, .int .i64 eh, .int .i64 ed]), (902, .own b2 3 [.int .i64 m])] (2 * c2 + 100000 + 900) c2 (csL bh bd eh ed m).length (fun k => [fr ((csL bh bd eh ed m).getD k 0)]) := by
  have h1 := hB.h
  have h2 := hB.l
  have h3 := hB.d
  have h4 := hB.e
  intro i b I Q hr m0 hI R
  rw [addL_eq, ← Nat.add_assoc, ← addL_eq _ 900, Nat.add_comm R]
  obtain ⟨w1, w2, w3, w4, w5, w6⟩ := csW_bd hB hm
  obtain ⟨RR, hRR⟩ : ∃ RR, RR = csR bh bd eh ed := ⟨_, rfl⟩
  obtain ⟨W0, hWW0⟩ : ∃ W0, W0 = csW0 bh bd eh ed m := ⟨_, rfl⟩
  obtain ⟨W, hWc⟩ : ∃ W, W = csW bh bd eh ed m := ⟨_, rfl⟩
  have hW : W = bkI W0 3600 := by rw [hWc, hWW0]; rfl
  rw [← hWc] at w1 w2
  rw [← hWW0] at w3 w4
  rw [← hRR] at w5 w6
  have eA : wr .i64 (Int.add bh bd) = bh + bd := smW (n := bh + bd) (by omega)
  have eB : wr .i64 (Int.sub m (bh + bd)) = m - (bh + bd) := smW (n := m - (bh + bd)) (by omega)
  have eN1 : wr .i64 (Int.sub 0 (m - (bh + bd))) = -(m - (bh + bd)) := (smW (n := 0 - (m - (bh + bd))) (by omega)).trans (by omega)
  have eN2 : wr .i64 (Int.sub 0 (eh + ed - (bh + bd))) = -(eh + ed - (bh + bd)) := (smW (n := 0 - (eh + ed - (bh + bd))) (by omega)).trans (by omega)
  have eS : wr .i64 (Int.sub eh bh) = eh - bh := smW (n := eh - bh) (by omega)
  refine call_in (n := 44) Try.func76 rfl rfl rfl rfl rfl rfl rfl ?_
  by_cases hs : eh + ed - (bh + bd) < 0
  · by_cases g1 : RR ≤ W
    · skip
      have hs : eh + ed - (bh + bd) < 0 := hs
      have hR : RR = -(eh + ed - (bh + bd)) := by rw [hRR]; unfold csR; exact if_pos hs
      have hW0 : W0 = -(m - (bh + bd)) := by rw [hWW0]; unfold csW0; exact if_pos hs
      have d0 : iLt (eh + ed - (bh + bd)) 0 = true := ltT hs
      have eR : (wr .i64 (Int.sub 0 (eh + ed - (bh + bd)))) = RR := by rw [eN2, hR]
      have eW : (wr .i64 (Int.sub 0 (wr .i64 (Int.sub m (wr .i64 (Int.add bh bd)))))) = W0 := by rw [eA, eB, eN1, hW0]
      have k43 := c43 F (d + 2) W0 3600 _ 3600 eW rfl (by omega) (by omega)
      rw [← hW] at k43
      have d1 : iLt W (wr .i64 (Int.sub 0 (eh + ed - (bh + bd)))) = false := by rw [eR]; exact ltF (by omega)
      have hL : csL bh bd eh ed m = [] := by unfold csL; rw [← hRR, ← hWc]; rw [if_pos (by omega)]
      repeat' ((conv => whnf); first | refine eqS_rfl ?_ | refine eqA_rfl ?_ | refine eqA_of (by assumption) ?_ | refine eqS_of (by rfl) ?_ | refine eqL_rfl ?_ | refine eqJ_rfl ?_ | refine gE ?_ | refine seS_rfl ?_ | refine lsS_of hup ?_ | refine lsS_rfl ?_ | refine brS_tt ?_ | refine brS_ff ?_ | refine brS_not ?_ | refine gI ?_ | refine gT ?_ | refine gF ?_ | refine brS_intro (fun _ => ?_) (fun _ => ?_) | refine gL ?_ | refine gX ?_ | refine gO ?_ | refine gN ?_ | refine call_pure (c61 F _ bh bd eh ed (by omega) (by omega)) ?_ | refine call_pure (c44 F _ _ _) ?_ | refine call_pure k43 ?_ | refine call_pure (c70 F _ _ _ _ _) ?_ | refine loS_u 4 (by omega) ?_ | intro _)
      all_goals conv => whnf
      all_goals first
        | exact ⟨nM1, _, by repeat' (first | exact WkM.comm [(901, _), (902, _)] _ | refine WkM.drop ?_), .inr (by assumption)⟩
        | exact ⟨nM1, _, by repeat' (first | exact WkM.comm [(901, _), (902, _)] _ | refine WkM.drop ?_), .inl (by rw [hL]; assumption)⟩

    by_cases g2 : RR ≤ W + 3600
    · skip
      have hs : eh + ed - (bh + bd) < 0 := hs
      have hR : RR = -(eh + ed - (bh + bd)) := by rw [hRR]; unfold csR; exact if_pos hs
      have hW0 : W0 = -(m - (bh + bd)) := by rw [hWW0]; unfold csW0; exact if_pos hs
      have d0 : iLt (eh + ed - (bh + bd)) 0 = true := ltT hs
      have eR : (wr .i64 (Int.sub 0 (eh + ed - (bh + bd)))) = RR := by rw [eN2, hR]
      have eW : (wr .i64 (Int.sub 0 (wr .i64 (Int.sub m (wr .i64 (Int.add bh bd)))))) = W0 := by rw [eA, eB, eN1, hW0]
      have k43 := c43 F (d + 2) W0 3600 _ 3600 eW rfl (by omega) (by omega)
      rw [← hW] at k43
      have d1 : iLt W (wr .i64 (Int.sub 0 (eh + ed - (bh + bd)))) = true := by rw [eR]; exact ltT (by omega)
      have eT : wr .i64 (Int.add W 3600) = W + 3600 := smW (n := W + 3600) (by omega)
      have d2 : iLt (wr .i64 (Int.add W 3600)) (wr .i64 (Int.sub 0 (eh + ed - (bh + bd)))) = false := by rw [eR, eT]; exact ltF (by omega)
      obtain ⟨p0, t0, q0, k0⟩ := csP bh eh RR W h1 h2 (by omega) (by omega)
      have em0 : wr .i64 (Int.mul (wr .i64 (Int.sub eh bh)) W) = (eh - bh) * W := by rw [eS]; exact smW (n := (eh - bh) * W) (by have := k0.m0; omega)
      have hL : csL bh bd eh ed m = [csV bh eh RR W] := by unfold csL; rw [← hRR, ← hWc]; rw [if_neg (by omega), if_pos (by omega)]
      have hLe0 : [csV bh eh RR W].getD 0 0 = q0 := k0.e.symm
      repeat' ((conv => whnf); first | refine eqS_rfl ?_ | refine eqA_rfl ?_ | refine eqA_of (by assumption) ?_ | refine eqS_of (by rfl) ?_ | refine eqL_rfl ?_ | refine eqJ_rfl ?_ | refine gE ?_ | refine seS_rfl ?_ | refine lsS_of hup ?_ | refine lsS_rfl ?_ | refine brS_tt ?_ | refine brS_ff ?_ | refine brS_not ?_ | refine gI ?_ | refine gT ?_ | refine gF ?_ | refine brS_intro (fun _ => ?_) (fun _ => ?_) | refine gL ?_ | refine gX ?_ | refine gO ?_ | refine gN ?_ | refine call_pure (c61 F _ bh bd eh ed (by omega) (by omega)) ?_ | refine call_pure (c44 F _ _ _) ?_ | refine call_pure k43 ?_ | refine call_pure (c70 F _ _ _ _ _) ?_ | refine loS_u 4 (by omega) ?_ | refine call_pureL (c73 F (d + 1) hF ((eh - bh) * (W)) RR _ _ (by first | exact em0 | (rw [eT]; exact em0)) eR (by have := k0.m0; omega) (by omega) (by omega) p0 k0.hp) (addL (2 * c2 + 90000 + R) 900) (nM1) ?_ | refine call_pure (c53 F _ bh _ rfl) ?_ | refine call_readL (c55a F d hF (bh : Rat) p0 t0 k0.ht 1 6000 3600 3600 (Vb.int (by omega)) k0.hvp (by decide) (by decide) _ 1 0) (addL (2 * c2 + 50000 + R) 900) (by rfl) (by exact SeesM.cons 1000 (SeesE.ro_congr (g := fun _ => [.int .i64 (p0).num, .int .i64 (Int.ofNat (p0).den)]) (sees_own (i := 501) (n := 1) (o := 0) (sz := 2) (c := 0) (by rfl) (by exact Nat.le_refl 2)) (fun j hj => by match j, hj with | 0, _ => rfl | j + 1, hj => exact absurd hj (by omega))) (SeesM.nil _) (fun _ _ _ _ _ _ x hx => by cases hx)) (nM1) ?_ | refine call_pure (c56 F _ t0 q0 k0.hq 7200 6000 k0.hvt (by decide) (by decide)) ?_ | refine call_round (k := 0) hI (hr 0 (by rw [hL]; exact Nat.succ_pos _)) [_, _, _, _] (addL (c2 + 49000 + R) 900) (by show dens [fr q0] = dens [fr ((csL bh bd eh ed m).getD 0 0)]; rw [hL, hLe0]) (by exact WkM.refl _) (nM1) ?_ ?_ | intro _)
      all_goals conv => whnf
      all_goals first
        | exact ⟨nM1, _, by repeat' (first | exact WkM.comm [(901, _), (902, _)] _ | refine WkM.drop ?_), .inr (by assumption)⟩
        | exact ⟨nM1, _, by repeat' (first | exact WkM.comm [(901, _), (902, _)] _ | refine WkM.drop ?_), .inl (by rw [hL]; assumption)⟩

    · skip
      have hs : eh + ed - (bh + bd) < 0 := hs
      have hR : RR = -(eh + ed - (bh + bd)) := by rw [hRR]; unfold csR; exact if_pos hs
      have hW0 : W0 = -(m - (bh + bd)) := by rw [hWW0]; unfold csW0; exact if_pos hs
      have d0 : iLt (eh + ed - (bh + bd)) 0 = true := ltT hs
      have eR : (wr .i64 (Int.sub 0 (eh + ed - (bh + bd)))) = RR := by rw [eN2, hR]
      have eW : (wr .i64 (Int.sub 0 (wr .i64 (Int.sub m (wr .i64 (Int.add bh bd)))))) = W0 := by rw [eA, eB, eN1, hW0]
      have k43 := c43 F (d + 2) W0 3600 _ 3600 eW rfl (by omega) (by omega)
      rw [← hW] at k43
      have d1 : iLt W (wr .i64 (Int.sub 0 (eh + ed - (bh + bd)))) = true := by rw [eR]; exact ltT (by omega)
      have eT : wr .i64 (Int.add W 3600) = W + 3600 := smW (n := W + 3600) (by omega)
      have d2 : iLt (wr .i64 (Int.add W 3600)) (wr .i64 (Int.sub 0 (eh + ed - (bh + bd)))) = true := by rw [eR, eT]; exact ltT (by omega)
      obtain ⟨p0, t0, q0, k0⟩ := csP bh eh RR W h1 h2 (by omega) (by omega)
      have em0 : wr .i64 (Int.mul (wr .i64 (Int.sub eh bh)) W) = (eh - bh) * W := by rw [eS]; exact smW (n := (eh - bh) * W) (by have := k0.m0; omega)
      have eT2 : wr .i64 (Int.add (W + 3600) 3600) = W + 3600 + 3600 := smW (n := W + 3600 + 3600) (by omega)
      have d3 : iLt (wr .i64 (Int.add (wr .i64 (Int.add W 3600)) 3600)) (wr .i64 (Int.sub 0 (eh + ed - (bh + bd)))) = false := by rw [eR, eT, eT2]; exact ltF (by omega)
      obtain ⟨p1, t1, q1, k1⟩ := csP bh eh RR (W + 3600) h1 h2 (by omega) (by omega)
      have em1 : wr .i64 (Int.mul (wr .i64 (Int.sub eh bh)) (W + 3600)) = (eh - bh) * (W + 3600) := by rw [eS]; exact smW (n := (eh - bh) * (W + 3600)) (by have := k1.m0; omega)
      have hL : csL bh bd eh ed m = [csV bh eh RR W, csV bh eh RR (W + 3600)] := by unfold csL; rw [← hRR, ← hWc]; rw [if_neg (by omega), if_neg (by omega)]
      have hLe0 : [csV bh eh RR W, csV bh eh RR (W + 3600)].getD 0 0 = q0 := k0.e.symm
      have hLe1 : [csV bh eh RR W, csV bh eh RR (W + 3600)].getD 1 0 = q1 := k1.e.symm
      repeat' ((conv => whnf); first | refine eqS_rfl ?_ | refine eqA_rfl ?_ | refine eqA_of (by assumption) ?_ | refine eqS_of (by rfl) ?_ | refine eqL_rfl ?_ | refine eqJ_rfl ?_ | refine gE ?_ | refine seS_rfl ?_ | refine lsS_of hup ?_ | refine lsS_rfl ?_ | refine brS_tt ?_ | refine brS_ff ?_ | refine brS_not ?_ | refine gI ?_ | refine gT ?_ | refine gF ?_ | refine brS_intro (fun _ => ?_) (fun _ => ?_) | refine gL ?_ | refine gX ?_ | refine gO ?_ | refine gN ?_ | refine call_pure (c61 F _ bh bd eh ed (by omega) (by omega)) ?_ | refine call_pure (c44 F _ _ _) ?_ | refine call_pure k43 ?_ | refine call_pure (c70 F _ _ _ _ _) ?_ | refine loS_u 4 (by omega) ?_ | refine call_pureL (c73 F (d + 1) hF ((eh - bh) * (W)) RR _ _ (by first | exact em0 | (rw [eT]; exact em0)) eR (by have := k0.m0; omega) (by omega) (by omega) p0 k0.hp) (addL (2 * c2 + 90000 + R) 900) (nM1) ?_ | refine call_pure (c53 F _ bh _ rfl) ?_ | refine call_readL (c55a F d hF (bh : Rat) p0 t0 k0.ht 1 6000 3600 3600 (Vb.int (by omega)) k0.hvp (by decide) (by decide) _ 1 0) (addL (2 * c2 + 50000 + R) 900) (by rfl) (by exact SeesM.cons 1000 (SeesE.ro_congr (g := fun _ => [.int .i64 (p0).num, .int .i64 (Int.ofNat (p0).den)]) (sees_own (i := 501) (n := 1) (o := 0) (sz := 2) (c := 0) (by rfl) (by exact Nat.le_refl 2)) (fun j hj => by match j, hj with | 0, _ => rfl | j + 1, hj => exact absurd hj (by omega))) (SeesM.nil _) (fun _ _ _ _ _ _ x hx => by cases hx)) (nM1) ?_ | refine call_pure (c56 F _ t0 q0 k0.hq 7200 6000 k0.hvt (by decide) (by decide)) ?_ | refine call_round (k := 0) hI (hr 0 (by rw [hL]; exact Nat.succ_pos _)) [_, _, _, _] (addL (c2 + 49000 + R) 900) (by show dens [fr q0] = dens [fr ((csL bh bd eh ed m).getD 0 0)]; rw [hL, hLe0]) (by exact WkM.refl _) (nM1) ?_ ?_ | refine call_pureL (c73 F (d + 1) hF ((eh - bh) * (W + 3600)) RR _ _ (by first | exact em1 | (rw [eT]; exact em1)) eR (by have := k1.m0; omega) (by omega) (by omega) p1 k1.hp) (addL (c2 + 45000 + R) 900) (nM1) ?_ | refine call_pure (c53 F _ bh _ rfl) ?_ | refine call_readL (c55a F d hF (bh : Rat) p1 t1 k1.ht 1 6000 3600 3600 (Vb.int (by omega)) k1.hvp (by decide) (by decide) _ 1 0) (addL (c2 + 10000 + R) 900) (by rfl) (by exact SeesM.cons 1000 (SeesE.ro_congr (g := fun _ => [.int .i64 (p1).num, .int .i64 (Int.ofNat (p1).den)]) (sees_own (i := 503) (n := 1) (o := 0) (sz := 2) (c := 0) (by rfl) (by exact Nat.le_refl 2)) (fun j hj => by match j, hj with | 0, _ => rfl | j + 1, hj => exact absurd hj (by omega))) (SeesM.nil _) (fun _ _ _ _ _ _ x hx => by cases hx)) (nM1) ?_ | refine call_pure (c56 F _ t1 q1 k1.hq 7200 6000 k1.hvt (by decide) (by decide)) ?_ | refine call_round (k := 1) (by assumption) (hr 1 (by rw [hL]; exact Nat.lt_succ_self 1)) [_, _, _, _, _, _] (addL (9000 + R) 900) (by show dens [fr q1] = dens [fr ((csL bh bd eh ed m).getD 1 0)]; rw [hL, hLe1]) (by exact WkM.refl _) (nM1) ?_ ?_ | intro _)
      all_goals conv => whnf
      all_goals first
        | exact ⟨nM1, _, by repeat' (first | exact WkM.comm [(901, _), (902, _)] _ | refine WkM.drop ?_), .inr (by assumption)⟩
        | exact ⟨nM1, _, by repeat' (first | exact WkM.comm [(901, _), (902, _)] _ | refine WkM.drop ?_), .inl (by rw [hL]; assumption)⟩

  · by_cases g1 : RR ≤ W
    · skip
      have hs : 0 ≤ eh + ed - (bh + bd) := by omega
      have hR : RR = eh + ed - (bh + bd) := by rw [hRR]; unfold csR; exact if_neg (by omega)
      have hW0 : W0 = m - (bh + bd) := by rw [hWW0]; unfold csW0; exact if_neg (by omega)
      have d0 : iLt (eh + ed - (bh + bd)) 0 = false := ltF hs
      have eR : (eh + ed - (bh + bd)) = RR := by exact hR.symm
      have eW : (wr .i64 (Int.sub m (wr .i64 (Int.add bh bd)))) = W0 := by rw [eA, eB, hW0]
      have k43 := c43 F (d + 2) W0 3600 _ 3600 eW rfl (by omega) (by omega)
      rw [← hW] at k43
      have d1 : iLt W (eh + ed - (bh + bd)) = false := by rw [eR]; exact ltF (by omega)
      have hL : csL bh bd eh ed m = [] := by unfold csL; rw [← hRR, ← hWc]; rw [if_pos (by omega)]
      repeat' ((conv => whnf); first | refine eqS_rfl ?_ | refine eqA_rfl ?_ | refine eqA_of (by assumption) ?_ | refine eqS_of (by rfl) ?_ | refine eqL_rfl ?_ | refine eqJ_rfl ?_ | refine gE ?_ | refine seS_rfl ?_ | refine lsS_of hup ?_ | refine lsS_rfl ?_ | refine brS_tt ?_ | refine brS_ff ?_ | refine brS_not ?_ | refine gI ?_ | refine gT ?_ | refine gF ?_ | refine brS_intro (fun _ => ?_) (fun _ => ?_) | refine gL ?_ | refine gX ?_ | refine gO ?_ | refine gN ?_ | refine call_pure (c61 F _ bh bd eh ed (by omega) (by omega)) ?_ | refine call_pure (c44 F _ _ _) ?_ | refine call_pure k43 ?_ | refine call_pure (c70 F _ _ _ _ _) ?_ | refine loS_u 4 (by omega) ?_ | intro _)
      all_goals conv => whnf
      all_goals first
        | exact ⟨nM1, _, by repeat' (first | exact WkM.comm [(901, _), (902, _)] _ | refine WkM.drop ?_), .inr (by assumption)⟩
        | exact ⟨nM1, _, by repeat' (first | exact WkM.comm [(901, _), (902, _)] _ | refine WkM.drop ?_), .inl (by rw [hL]; assumption)⟩

    by_cases g2 : RR ≤ W + 3600
    · skip
      have hs : 0 ≤ eh + ed - (bh + bd) := by omega
      have hR : RR = eh + ed - (bh + bd) := by rw [hRR]; unfold csR; exact if_neg (by omega)
      have hW0 : W0 = m - (bh + bd) := by rw [hWW0]; unfold csW0; exact if_neg (by omega)
      have d0 : iLt (eh + ed - (bh + bd)) 0 = false := ltF hs
      have eR : (eh + ed - (bh + bd)) = RR := by exact hR.symm
      have eW : (wr .i64 (Int.sub m (wr .i64 (Int.add bh bd)))) = W0 := by rw [eA, eB, hW0]
      have k43 := c43 F (d + 2) W0 3600 _ 3600 eW rfl (by omega) (by omega)
      rw [← hW] at k43
      have d1 : iLt W (eh + ed - (bh + bd)) = true := by rw [eR]; exact ltT (by omega)
      have eT : wr .i64 (Int.add W 3600) = W + 3600 := smW (n := W + 3600) (by omega)
      have d2 : iLt (wr .i64 (Int.add W 3600)) (eh + ed - (bh + bd)) = false := by rw [eR, eT]; exact ltF (by omega)
      obtain ⟨p0, t0, q0, k0⟩ := csP bh eh RR W h1 h2 (by omega) (by omega)
      have em0 : wr .i64 (Int.mul (wr .i64 (Int.sub eh bh)) W) = (eh - bh) * W := by rw [eS]; exact smW (n := (eh - bh) * W) (by have := k0.m0; omega)
      have hL : csL bh bd eh ed m = [csV bh eh RR W] := by unfold csL; rw [← hRR, ← hWc]; rw [if_neg (by omega), if_pos (by omega)]
      have hLe0 : [csV bh eh RR W].getD 0 0 = q0 := k0.e.symm
      repeat' ((conv => whnf); first | refine eqS_rfl ?_ | refine eqA_rfl ?_ | refine eqA_of (by assumption) ?_ | refine eqS_of (by rfl) ?_ | refine eqL_rfl ?_ | refine eqJ_rfl ?_ | refine gE ?_ | refine seS_rfl ?_ | refine lsS_of hup ?_ | refine lsS_rfl ?_ | refine brS_tt ?_ | refine brS_ff ?_ | refine brS_not ?_ | refine gI ?_ | refine gT ?_ | refine gF ?_ | refine brS_intro (fun _ => ?_) (fun _ => ?_) | refine gL ?_ | refine gX ?_ | refine gO ?_ | refine gN ?_ | refine call_pure (c61 F _ bh bd eh ed (by omega) (by omega)) ?_ | refine call_pure (c44 F _ _ _) ?_ | refine call_pure k43 ?_ | refine call_pure (c70 F _ _ _ _ _) ?_ | refine loS_u 4 (by omega) ?_ | refine call_pureL (c73 F (d + 1) hF ((eh - bh) * (W)) RR _ _ (by first | exact em0 | (rw [eT]; exact em0)) eR (by have := k0.m0; omega) (by omega) (by omega) p0 k0.hp) (addL (2 * c2 + 90000 + R) 900) (nM1) ?_ | refine call_pure (c53 F _ bh _ rfl) ?_ | refine call_readL (c55a F d hF (bh : Rat) p0 t0 k0.ht 1 6000 3600 3600 (Vb.int (by omega)) k0.hvp (by decide) (by decide) _ 1 0) (addL (2 * c2 + 50000 + R) 900) (by rfl) (by exact SeesM.cons 1000 (SeesE.ro_congr (g := fun _ => [.int .i64 (p0).num, .int .i64 (Int.ofNat (p0).den)]) (sees_own (i := 501) (n := 1) (o := 0) (sz := 2) (c := 0) (by rfl) (by exact Nat.le_refl 2)) (fun j hj => by match j, hj with | 0, _ => rfl | j + 1, hj => exact absurd hj (by omega))) (SeesM.nil _) (fun _ _ _ _ _ _ x hx => by cases hx)) (nM1) ?_ | refine call_pure (c56 F _ t0 q0 k0.hq 7200 6000 k0.hvt (by decide) (by decide)) ?_ | refine call_round (k := 0) hI (hr 0 (by rw [hL]; exact Nat.succ_pos _)) [_, _, _, _] (addL (c2 + 49000 + R) 900) (by show dens [fr q0] = dens [fr ((csL bh bd eh ed m).getD 0 0)]; rw [hL, hLe0]) (by exact WkM.refl _) (nM1) ?_ ?_ | intro _)
      all_goals conv => whnf
      all_goals first
        | exact ⟨nM1, _, by repeat' (first | exact WkM.comm [(901, _), (902, _)] _ | refine WkM.drop ?_), .inr (by assumption)⟩
        | exact ⟨nM1, _, by repeat' (first | exact WkM.comm [(901, _), (902, _)] _ | refine WkM.drop ?_), .inl (by rw [hL]; assumption)⟩

    · skip
      have hs : 0 ≤ eh + ed - (bh + bd) := by omega
      have hR : RR = eh + ed - (bh + bd) := by rw [hRR]; unfold csR; exact if_neg (by omega)
      have hW0 : W0 = m - (bh + bd) := by rw [hWW0]; unfold csW0; exact if_neg (by omega)
      have d0 : iLt (eh + ed - (bh + bd)) 0 = false := ltF hs
      have eR : (eh + ed - (bh + bd)) = RR := by exact hR.symm
      have eW : (wr .i64 (Int.sub m (wr .i64 (Int.add bh bd)))) = W0 := by rw [eA, eB, hW0]
      have k43 := c43 F (d + 2) W0 3600 _ 3600 eW rfl (by omega) (by omega)
      rw [← hW] at k43
      have d1 : iLt W (eh + ed - (bh + bd)) = true := by rw [eR]; exact ltT (by omega)
      have eT : wr .i64 (Int.add W 3600) = W + 3600 := smW (n := W + 3600) (by omega)
      have d2 : iLt (wr .i64 (Int.add W 3600)) (eh + ed - (bh + bd)) = true := by rw [eR, eT]; exact ltT (by omega)
      obtain ⟨p0, t0, q0, k0⟩ := csP bh eh RR W h1 h2 (by omega) (by omega)
      have em0 : wr .i64 (Int.mul (wr .i64 (Int.sub eh bh)) W) = (eh - bh) * W := by rw [eS]; exact smW (n := (eh - bh) * W) (by have := k0.m0; omega)
      have eT2 : wr .i64 (Int.add (W + 3600) 3600) = W + 3600 + 3600 := smW (n := W + 3600 + 3600) (by omega)
      have d3 : iLt (wr .i64 (Int.add (wr .i64 (Int.add W 3600)) 3600)) (eh + ed - (bh + bd)) = false := by rw [eR, eT, eT2]; exact ltF (by omega)
      obtain ⟨p1, t1, q1, k1⟩ := csP bh eh RR (W + 3600) h1 h2 (by omega) (by omega)
      have em1 : wr .i64 (Int.mul (wr .i64 (Int.sub eh bh)) (W + 3600)) = (eh - bh) * (W + 3600) := by rw [eS]; exact smW (n := (eh - bh) * (W + 3600)) (by have := k1.m0; omega)
      have hL : csL bh bd eh ed m = [csV bh eh RR W, csV bh eh RR (W + 3600)] := by unfold csL; rw [← hRR, ← hWc]; rw [if_neg (by omega), if_neg (by omega)]
      have hLe0 : [csV bh eh RR W, csV bh eh RR (W + 3600)].getD 0 0 = q0 := k0.e.symm
      have hLe1 : [csV bh eh RR W, csV bh eh RR (W + 3600)].getD 1 0 = q1 := k1.e.symm
      repeat' ((conv => whnf); first | refine eqS_rfl ?_ | refine eqA_rfl ?_ | refine eqA_of (by assumption) ?_ | refine eqS_of (by rfl) ?_ | refine eqL_rfl ?_ | refine eqJ_rfl ?_ | refine gE ?_ | refine seS_rfl ?_ | refine lsS_of hup ?_ | refine lsS_rfl ?_ | refine brS_tt ?_ | refine brS_ff ?_ | refine brS_not ?_ | refine gI ?_ | refine gT ?_ | refine gF ?_ | refine brS_intro (fun _ => ?_) (fun _ => ?_) | refine gL ?_ | refine gX ?_ | refine gO ?_ | refine gN ?_ | refine call_pure (c61 F _ bh bd eh ed (by omega) (by omega)) ?_ | refine call_pure (c44 F _ _ _) ?_ | refine call_pure k43 ?_ | refine call_pure (c70 F _ _ _ _ _) ?_ | refine loS_u 4 (by omega) ?_ | refine call_pureL (c73 F (d + 1) hF ((eh - bh) * (W)) RR _ _ (by first | exact em0 | (rw [eT]; exact em0)) eR (by have := k0.m0; omega) (by omega) (by omega) p0 k0.hp) (addL (2 * c2 + 90000 + R) 900) (nM1) ?_ | refine call_pure (c53 F _ bh _ rfl) ?_ | refine call_readL (c55a F d hF (bh : Rat) p0 t0 k0.ht 1 6000 3600 3600 (Vb.int (by omega)) k0.hvp (by decide) (by decide) _ 1 0) (addL (2 * c2 + 50000 + R) 900) (by rfl) (by exact SeesM.cons 1000 (SeesE.ro_congr (g := fun _ => [.int .i64 (p0).num, .int .i64 (Int.ofNat (p0).den)]) (sees_own (i := 501) (n := 1) (o := 0) (sz := 2) (c := 0) (by rfl) (by exact Nat.le_refl 2)) (fun j hj => by match j, hj with | 0, _ => rfl | j + 1, hj => exact absurd hj (by omega))) (SeesM.nil _) (fun _ _ _ _ _ _ x hx => by cases hx)) (nM1) ?_ | refine call_pure (c56 F _ t0 q0 k0.hq 7200 6000 k0.hvt (by decide) (by decide)) ?_ | refine call_round (k := 0) hI (hr 0 (by rw [hL]; exact Nat.succ_pos _)) [_, _, _, _] (addL (c2 + 49000 + R) 900) (by show dens [fr q0] = dens [fr ((csL bh bd eh ed m).getD 0 0)]; rw [hL, hLe0]) (by exact WkM.refl _) (nM1) ?_ ?_ | refine call_pureL (c73 F (d + 1) hF ((eh - bh) * (W + 3600)) RR _ _ (by first | exact em1 | (rw [eT]; exact em1)) eR (by have := k1.m0; omega) (by omega) (by omega) p1 k1.hp) (addL (c2 + 45000 + R) 900) (nM1) ?_ | refine call_pure (c53 F _ bh _ rfl) ?_ | refine call_readL (c55a F d hF (bh : Rat) p1 t1 k1.ht 1 6000 3600 3600 (Vb.int (by omega)) k1.hvp (by decide) (by decide) _ 1 0) (addL (c2 + 10000 + R) 900) (by rfl) (by exact SeesM.cons 1000 (SeesE.ro_congr (g := fun _ => [.int .i64 (p1).num, .int .i64 (Int.ofNat (p1).den)]) (sees_own (i := 503) (n := 1) (o := 0) (sz := 2) (c := 0) (by rfl) (by exact Nat.le_refl 2)) (fun j hj => by match j, hj with | 0, _ => rfl | j + 1, hj => exact absurd hj (by omega))) (SeesM.nil _) (fun _ _ _ _ _ _ x hx => by cases hx)) (nM1) ?_ | refine call_pure (c56 F _ t1 q1 k1.hq 7200 6000 k1.hvt (by decide) (by decide)) ?_ | refine call_round (k := 1) (by assumption) (hr 1 (by rw [hL]; exact Nat.lt_succ_self 1)) [_, _, _, _, _, _] (addL (9000 + R) 900) (by show dens [fr q1] = dens [fr ((csL bh bd eh ed m).getD 1 0)]; rw [hL, hLe1]) (by exact WkM.refl _) (nM1) ?_ ?_ | intro _)
      all_goals conv => whnf
      all_goals first
        | exact ⟨nM1, _, by repeat' (first | exact WkM.comm [(901, _), (902, _)] _ | refine WkM.drop ?_), .inr (by assumption)⟩
        | exact ⟨nM1, _, by repeat' (first | exact WkM.comm [(901, _), (902, _)] _ | refine WkM.drop ?_), .inl (by rw [hL]; assumption)⟩

end Go.Proofs.Ytogncjicndbahaa
