/- Rank: numbers, sets, days. -/
import Derived.Test.YtefnljdfgjjpjaaProg
import Derived.Test.YtefnljdfgjjpjaaEngSy
import Derived.KernelRfl
namespace Go.Proofs.Ytefnljdfgjjpjaa
open Go.Ab
attribute [local irreducible] aggOk drwOK
set_option maxRecDepth 100000
set_option maxHeartbeats 4000000
set_option linter.unusedVariables false
set_option linter.unusedSimpArgs false
theorem pH {e : Ent} {j : Nat} {M : Mem} : Pick e ((j, e) :: M) M := Pick.here
theorem pT {e : Ent} {x : Nat × Ent} {M M' : Mem} (h : Pick e M M') : Pick e (x :: M) (x :: M') := Pick.there h
theorem WS {m m' : Mem} (h : WkM m m' := by refine Sel.wk ?_; (try simp only [List.cons_append, List.nil_append]); repeat' (first | exact Sel.nil | exact Sel.all | exact Sel.left | refine Sel.cons pH ?_ | refine Sel.cons (pT pH) ?_ | refine Sel.cons (pT (pT pH)) ?_ | refine Sel.cons (pT (pT (pT pH))) ?_ | refine Sel.cons (pT (pT (pT (pT pH)))) ?_ | refine Sel.cons (pT (pT (pT (pT (pT pH))))) ?_ | refine Sel.cons (pT (pT (pT (pT (pT (pT pH)))))) ?_ | refine Sel.cons (pT (pT (pT (pT (pT (pT (pT pH))))))) ?_ | refine Sel.cons (pT (pT (pT (pT (pT (pT (pT (pT pH)))))))) ?_ | refine Sel.cons (pT (pT (pT (pT (pT (pT (pT (pT (pT pH))))))))) ?_ | refine Sel.cons (pT (pT (pT (pT (pT (pT (pT (pT (pT (pT pH)))))))))) ?_ | refine Sel.cons (pT (pT (pT (pT (pT (pT (pT (pT (pT (pT (pT pH))))))))))) ?_ | refine Sel.cons (pT (pT (pT (pT (pT (pT (pT (pT (pT (pT (pT (pT pH)))))))))))) ?_ | refine Sel.cons (pT (pT (pT (pT (pT (pT (pT (pT (pT (pT (pT (pT (pT pH))))))))))))) ?_ | refine Sel.cons (pT (pT (pT (pT (pT (pT (pT (pT (pT (pT (pT (pT (pT (pT pH)))))))))))))) ?_ | refine Sel.cons (pT (pT (pT (pT (pT (pT (pT (pT (pT (pT (pT (pT (pT (pT (pT pH))))))))))))))) ?_ | refine Sel.consw pH ⟨rfl, rfl, rfl⟩ ?_ | refine Sel.consw (pT pH) ⟨rfl, rfl, rfl⟩ ?_ | refine Sel.consw (pT (pT pH)) ⟨rfl, rfl, rfl⟩ ?_ | refine Sel.consw (pT (pT (pT pH))) ⟨rfl, rfl, rfl⟩ ?_ | refine Sel.consw (pT (pT (pT (pT pH)))) ⟨rfl, rfl, rfl⟩ ?_ | refine Sel.consw (pT (pT (pT (pT (pT pH))))) ⟨rfl, rfl, rfl⟩ ?_ | refine Sel.consw (pT (pT (pT (pT (pT (pT pH)))))) ⟨rfl, rfl, rfl⟩ ?_ | refine Sel.consw (pT (pT (pT (pT (pT (pT (pT pH))))))) ⟨rfl, rfl, rfl⟩ ?_ | refine Sel.consw (pT (pT (pT (pT (pT (pT (pT (pT pH)))))))) ⟨rfl, rfl, rfl⟩ ?_ | refine Sel.consw (pT (pT (pT (pT (pT (pT (pT (pT (pT pH))))))))) ⟨rfl, rfl, rfl⟩ ?_ | refine Sel.consw (pT (pT (pT (pT (pT (pT (pT (pT (pT (pT pH)))))))))) ⟨rfl, rfl, rfl⟩ ?_ | refine Sel.consw (pT (pT (pT (pT (pT (pT (pT (pT (pT (pT (pT pH))))))))))) ⟨rfl, rfl, rfl⟩ ?_ | refine Sel.consw (pT (pT (pT (pT (pT (pT (pT (pT (pT (pT (pT (pT pH)))))))))))) ⟨rfl, rfl, rfl⟩ ?_ | refine Sel.consw (pT (pT (pT (pT (pT (pT (pT (pT (pT (pT (pT (pT (pT pH))))))))))))) ⟨rfl, rfl, rfl⟩ ?_ | refine Sel.consw (pT (pT (pT (pT (pT (pT (pT (pT (pT (pT (pT (pT (pT (pT pH)))))))))))))) ⟨rfl, rfl, rfl⟩ ?_ | refine Sel.consw (pT (pT (pT (pT (pT (pT (pT (pT (pT (pT (pT (pT (pT (pT (pT pH))))))))))))))) ⟨rfl, rfl, rfl⟩ ?_ | refine Sel.snoc pH ?_ | refine Sel.snoc (pT pH) ?_ | refine Sel.snoc (pT (pT pH)) ?_ | refine Sel.snoc (pT (pT (pT pH))) ?_ | refine Sel.snoc (pT (pT (pT (pT pH)))) ?_ | refine Sel.snoc (pT (pT (pT (pT (pT pH))))) ?_ | refine Sel.snoc (pT (pT (pT (pT (pT (pT pH)))))) ?_ | refine Sel.snoc (pT (pT (pT (pT (pT (pT (pT pH))))))) ?_ | refine Sel.snoc (pT (pT (pT (pT (pT (pT (pT (pT pH)))))))) ?_ | refine Sel.snoc (pT (pT (pT (pT (pT (pT (pT (pT (pT pH))))))))) ?_ | refine Sel.snoc (pT (pT (pT (pT (pT (pT (pT (pT (pT (pT pH)))))))))) ?_ | refine Sel.snoc (pT (pT (pT (pT (pT (pT (pT (pT (pT (pT (pT pH))))))))))) ?_ | refine Sel.snoc (pT (pT (pT (pT (pT (pT (pT (pT (pT (pT (pT (pT pH)))))))))))) ?_ | refine Sel.snoc (pT (pT (pT (pT (pT (pT (pT (pT (pT (pT (pT (pT (pT pH))))))))))))) ?_ | refine Sel.snoc (pT (pT (pT (pT (pT (pT (pT (pT (pT (pT (pT (pT (pT (pT pH)))))))))))))) ?_ | refine Sel.snoc (pT (pT (pT (pT (pT (pT (pT (pT (pT (pT (pT (pT (pT (pT (pT pH))))))))))))))) ?_ | refine Sel.drop ?_)) : WkM m m' := h
theorem WG {m m' : Mem} (h : WkM m m' := by refine Sel.wk ?_; (try simp only [List.cons_append, List.nil_append]); repeat' (first | exact Sel.nil | exact Sel.all | exact Sel.left | refine Sel.cons pH ?_ | refine Sel.cons (pT pH) ?_ | refine Sel.cons (pT (pT pH)) ?_ | refine Sel.cons (pT (pT (pT pH))) ?_ | refine Sel.cons (pT (pT (pT (pT pH)))) ?_ | refine Sel.cons (pT (pT (pT (pT (pT pH))))) ?_ | refine Sel.cons (pT (pT (pT (pT (pT (pT pH)))))) ?_ | refine Sel.cons (pT (pT (pT (pT (pT (pT (pT pH))))))) ?_ | refine Sel.cons (pT (pT (pT (pT (pT (pT (pT (pT pH)))))))) ?_ | refine Sel.cons (pT (pT (pT (pT (pT (pT (pT (pT (pT pH))))))))) ?_ | refine Sel.cons (pT (pT (pT (pT (pT (pT (pT (pT (pT (pT pH)))))))))) ?_ | refine Sel.cons (pT (pT (pT (pT (pT (pT (pT (pT (pT (pT (pT pH))))))))))) ?_ | refine Sel.cons (pT (pT (pT (pT (pT (pT (pT (pT (pT (pT (pT (pT pH)))))))))))) ?_ | refine Sel.cons (pT (pT (pT (pT (pT (pT (pT (pT (pT (pT (pT (pT (pT pH))))))))))))) ?_ | refine Sel.cons (pT (pT (pT (pT (pT (pT (pT (pT (pT (pT (pT (pT (pT (pT pH)))))))))))))) ?_ | refine Sel.cons (pT (pT (pT (pT (pT (pT (pT (pT (pT (pT (pT (pT (pT (pT (pT pH))))))))))))))) ?_ | refine Sel.consw pH ⟨rfl, rfl, rfl⟩ ?_ | refine Sel.consw (pT pH) ⟨rfl, rfl, rfl⟩ ?_ | refine Sel.consw (pT (pT pH)) ⟨rfl, rfl, rfl⟩ ?_ | refine Sel.consw (pT (pT (pT pH))) ⟨rfl, rfl, rfl⟩ ?_ | refine Sel.consw (pT (pT (pT (pT pH)))) ⟨rfl, rfl, rfl⟩ ?_ | refine Sel.consw (pT (pT (pT (pT (pT pH))))) ⟨rfl, rfl, rfl⟩ ?_ | refine Sel.consw (pT (pT (pT (pT (pT (pT pH)))))) ⟨rfl, rfl, rfl⟩ ?_ | refine Sel.consw (pT (pT (pT (pT (pT (pT (pT pH))))))) ⟨rfl, rfl, rfl⟩ ?_ | refine Sel.consw (pT (pT (pT (pT (pT (pT (pT (pT pH)))))))) ⟨rfl, rfl, rfl⟩ ?_ | refine Sel.consw (pT (pT (pT (pT (pT (pT (pT (pT (pT pH))))))))) ⟨rfl, rfl, rfl⟩ ?_ | refine Sel.consw (pT (pT (pT (pT (pT (pT (pT (pT (pT (pT pH)))))))))) ⟨rfl, rfl, rfl⟩ ?_ | refine Sel.consw (pT (pT (pT (pT (pT (pT (pT (pT (pT (pT (pT pH))))))))))) ⟨rfl, rfl, rfl⟩ ?_ | refine Sel.consw (pT (pT (pT (pT (pT (pT (pT (pT (pT (pT (pT (pT pH)))))))))))) ⟨rfl, rfl, rfl⟩ ?_ | refine Sel.consw (pT (pT (pT (pT (pT (pT (pT (pT (pT (pT (pT (pT (pT pH))))))))))))) ⟨rfl, rfl, rfl⟩ ?_ | refine Sel.consw (pT (pT (pT (pT (pT (pT (pT (pT (pT (pT (pT (pT (pT (pT pH)))))))))))))) ⟨rfl, rfl, rfl⟩ ?_ | refine Sel.consw (pT (pT (pT (pT (pT (pT (pT (pT (pT (pT (pT (pT (pT (pT (pT pH))))))))))))))) ⟨rfl, rfl, rfl⟩ ?_ | refine Sel.consw pH ⟨rfl, rfl, rfl, rfl, by assumption⟩ ?_ | refine Sel.consw (pT pH) ⟨rfl, rfl, rfl, rfl, by assumption⟩ ?_ | refine Sel.consw (pT (pT pH)) ⟨rfl, rfl, rfl, rfl, by assumption⟩ ?_ | refine Sel.consw (pT (pT (pT pH))) ⟨rfl, rfl, rfl, rfl, by assumption⟩ ?_ | refine Sel.consw (pT (pT (pT (pT pH)))) ⟨rfl, rfl, rfl, rfl, by assumption⟩ ?_ | refine Sel.consw (pT (pT (pT (pT (pT pH))))) ⟨rfl, rfl, rfl, rfl, by assumption⟩ ?_ | refine Sel.consw (pT (pT (pT (pT (pT (pT pH)))))) ⟨rfl, rfl, rfl, rfl, by assumption⟩ ?_ | refine Sel.consw (pT (pT (pT (pT (pT (pT (pT pH))))))) ⟨rfl, rfl, rfl, rfl, by assumption⟩ ?_ | refine Sel.consw (pT (pT (pT (pT (pT (pT (pT (pT pH)))))))) ⟨rfl, rfl, rfl, rfl, by assumption⟩ ?_ | refine Sel.consw (pT (pT (pT (pT (pT (pT (pT (pT (pT pH))))))))) ⟨rfl, rfl, rfl, rfl, by assumption⟩ ?_ | refine Sel.consw (pT (pT (pT (pT (pT (pT (pT (pT (pT (pT pH)))))))))) ⟨rfl, rfl, rfl, rfl, by assumption⟩ ?_ | refine Sel.consw (pT (pT (pT (pT (pT (pT (pT (pT (pT (pT (pT pH))))))))))) ⟨rfl, rfl, rfl, rfl, by assumption⟩ ?_ | refine Sel.consw (pT (pT (pT (pT (pT (pT (pT (pT (pT (pT (pT (pT pH)))))))))))) ⟨rfl, rfl, rfl, rfl, by assumption⟩ ?_ | refine Sel.consw (pT (pT (pT (pT (pT (pT (pT (pT (pT (pT (pT (pT (pT pH))))))))))))) ⟨rfl, rfl, rfl, rfl, by assumption⟩ ?_ | refine Sel.consw (pT (pT (pT (pT (pT (pT (pT (pT (pT (pT (pT (pT (pT (pT pH)))))))))))))) ⟨rfl, rfl, rfl, rfl, by assumption⟩ ?_ | refine Sel.consw (pT (pT (pT (pT (pT (pT (pT (pT (pT (pT (pT (pT (pT (pT (pT pH))))))))))))))) ⟨rfl, rfl, rfl, rfl, by assumption⟩ ?_ | refine Sel.consw pH ⟨rfl, rfl, rfl, .inl rfl, fun _ _ => rfl⟩ ?_ | refine Sel.consw (pT pH) ⟨rfl, rfl, rfl, .inl rfl, fun _ _ => rfl⟩ ?_ | refine Sel.consw (pT (pT pH)) ⟨rfl, rfl, rfl, .inl rfl, fun _ _ => rfl⟩ ?_ | refine Sel.consw (pT (pT (pT pH))) ⟨rfl, rfl, rfl, .inl rfl, fun _ _ => rfl⟩ ?_ | refine Sel.consw (pT (pT (pT (pT pH)))) ⟨rfl, rfl, rfl, .inl rfl, fun _ _ => rfl⟩ ?_ | refine Sel.consw (pT (pT (pT (pT (pT pH))))) ⟨rfl, rfl, rfl, .inl rfl, fun _ _ => rfl⟩ ?_ | refine Sel.consw (pT (pT (pT (pT (pT (pT pH)))))) ⟨rfl, rfl, rfl, .inl rfl, fun _ _ => rfl⟩ ?_ | refine Sel.consw (pT (pT (pT (pT (pT (pT (pT pH))))))) ⟨rfl, rfl, rfl, .inl rfl, fun _ _ => rfl⟩ ?_ | refine Sel.consw (pT (pT (pT (pT (pT (pT (pT (pT pH)))))))) ⟨rfl, rfl, rfl, .inl rfl, fun _ _ => rfl⟩ ?_ | refine Sel.consw (pT (pT (pT (pT (pT (pT (pT (pT (pT pH))))))))) ⟨rfl, rfl, rfl, .inl rfl, fun _ _ => rfl⟩ ?_ | refine Sel.consw (pT (pT (pT (pT (pT (pT (pT (pT (pT (pT pH)))))))))) ⟨rfl, rfl, rfl, .inl rfl, fun _ _ => rfl⟩ ?_ | refine Sel.consw (pT (pT (pT (pT (pT (pT (pT (pT (pT (pT (pT pH))))))))))) ⟨rfl, rfl, rfl, .inl rfl, fun _ _ => rfl⟩ ?_ | refine Sel.consw (pT (pT (pT (pT (pT (pT (pT (pT (pT (pT (pT (pT pH)))))))))))) ⟨rfl, rfl, rfl, .inl rfl, fun _ _ => rfl⟩ ?_ | refine Sel.consw (pT (pT (pT (pT (pT (pT (pT (pT (pT (pT (pT (pT (pT pH))))))))))))) ⟨rfl, rfl, rfl, .inl rfl, fun _ _ => rfl⟩ ?_ | refine Sel.consw (pT (pT (pT (pT (pT (pT (pT (pT (pT (pT (pT (pT (pT (pT pH)))))))))))))) ⟨rfl, rfl, rfl, .inl rfl, fun _ _ => rfl⟩ ?_ | refine Sel.consw (pT (pT (pT (pT (pT (pT (pT (pT (pT (pT (pT (pT (pT (pT (pT pH))))))))))))))) ⟨rfl, rfl, rfl, .inl rfl, fun _ _ => rfl⟩ ?_ | refine Sel.consw pH ⟨rfl, rfl, rfl, .inr rfl, fun _ _ => rfl⟩ ?_ | refine Sel.consw (pT pH) ⟨rfl, rfl, rfl, .inr rfl, fun _ _ => rfl⟩ ?_ | refine Sel.consw (pT (pT pH)) ⟨rfl, rfl, rfl, .inr rfl, fun _ _ => rfl⟩ ?_ | refine Sel.consw (pT (pT (pT pH))) ⟨rfl, rfl, rfl, .inr rfl, fun _ _ => rfl⟩ ?_ | refine Sel.consw (pT (pT (pT (pT pH)))) ⟨rfl, rfl, rfl, .inr rfl, fun _ _ => rfl⟩ ?_ | refine Sel.consw (pT (pT (pT (pT (pT pH))))) ⟨rfl, rfl, rfl, .inr rfl, fun _ _ => rfl⟩ ?_ | refine Sel.consw (pT (pT (pT (pT (pT (pT pH)))))) ⟨rfl, rfl, rfl, .inr rfl, fun _ _ => rfl⟩ ?_ | refine Sel.consw (pT (pT (pT (pT (pT (pT (pT pH))))))) ⟨rfl, rfl, rfl, .inr rfl, fun _ _ => rfl⟩ ?_ | refine Sel.consw (pT (pT (pT (pT (pT (pT (pT (pT pH)))))))) ⟨rfl, rfl, rfl, .inr rfl, fun _ _ => rfl⟩ ?_ | refine Sel.consw (pT (pT (pT (pT (pT (pT (pT (pT (pT pH))))))))) ⟨rfl, rfl, rfl, .inr rfl, fun _ _ => rfl⟩ ?_ | refine Sel.consw (pT (pT (pT (pT (pT (pT (pT (pT (pT (pT pH)))))))))) ⟨rfl, rfl, rfl, .inr rfl, fun _ _ => rfl⟩ ?_ | refine Sel.consw (pT (pT (pT (pT (pT (pT (pT (pT (pT (pT (pT pH))))))))))) ⟨rfl, rfl, rfl, .inr rfl, fun _ _ => rfl⟩ ?_ | refine Sel.consw (pT (pT (pT (pT (pT (pT (pT (pT (pT (pT (pT (pT pH)))))))))))) ⟨rfl, rfl, rfl, .inr rfl, fun _ _ => rfl⟩ ?_ | refine Sel.consw (pT (pT (pT (pT (pT (pT (pT (pT (pT (pT (pT (pT (pT pH))))))))))))) ⟨rfl, rfl, rfl, .inr rfl, fun _ _ => rfl⟩ ?_ | refine Sel.consw (pT (pT (pT (pT (pT (pT (pT (pT (pT (pT (pT (pT (pT (pT pH)))))))))))))) ⟨rfl, rfl, rfl, .inr rfl, fun _ _ => rfl⟩ ?_ | refine Sel.consw (pT (pT (pT (pT (pT (pT (pT (pT (pT (pT (pT (pT (pT (pT (pT pH))))))))))))))) ⟨rfl, rfl, rfl, .inr rfl, fun _ _ => rfl⟩ ?_ | refine Sel.snoc pH ?_ | refine Sel.snoc (pT pH) ?_ | refine Sel.snoc (pT (pT pH)) ?_ | refine Sel.snoc (pT (pT (pT pH))) ?_ | refine Sel.snoc (pT (pT (pT (pT pH)))) ?_ | refine Sel.snoc (pT (pT (pT (pT (pT pH))))) ?_ | refine Sel.snoc (pT (pT (pT (pT (pT (pT pH)))))) ?_ | refine Sel.snoc (pT (pT (pT (pT (pT (pT (pT pH))))))) ?_ | refine Sel.snoc (pT (pT (pT (pT (pT (pT (pT (pT pH)))))))) ?_ | refine Sel.snoc (pT (pT (pT (pT (pT (pT (pT (pT (pT pH))))))))) ?_ | refine Sel.snoc (pT (pT (pT (pT (pT (pT (pT (pT (pT (pT pH)))))))))) ?_ | refine Sel.snoc (pT (pT (pT (pT (pT (pT (pT (pT (pT (pT (pT pH))))))))))) ?_ | refine Sel.snoc (pT (pT (pT (pT (pT (pT (pT (pT (pT (pT (pT (pT pH)))))))))))) ?_ | refine Sel.snoc (pT (pT (pT (pT (pT (pT (pT (pT (pT (pT (pT (pT (pT pH))))))))))))) ?_ | refine Sel.snoc (pT (pT (pT (pT (pT (pT (pT (pT (pT (pT (pT (pT (pT (pT pH)))))))))))))) ?_ | refine Sel.snoc (pT (pT (pT (pT (pT (pT (pT (pT (pT (pT (pT (pT (pT (pT (pT pH))))))))))))))) ?_ | refine Sel.drop ?_)) : WkM m m' := h
noncomputable abbrev CL (F d : Nat) : CallT := callF Try.prog F (extB [] 14) d
abbrev i64 (n : Int) : SV := .int .i64 n
theorem lt_of_iLt {a b : Nat} (h : iLt (Int.ofNat a) (Int.ofNat b) = true) : a < b := by rw [iLt_eq] at h; simpa using h
theorem ge_of_iLt {a b : Nat} (h : iLt (Int.ofNat a) (Int.ofNat b) = false) : b ≤ a := by rw [iLt_eq] at h; simpa using h
theorem iLt_t {a b : Nat} (h : a < b) : iLt (Int.ofNat a) (Int.ofNat b) = true := by rw [iLt_eq]; simpa using h
theorem iLt_f {a b : Nat} (h : b ≤ a) : iLt (Int.ofNat a) (Int.ofNat b) = false := by rw [iLt_eq]; simpa using h
theorem iLt_0 (a : Nat) : iLt (Int.ofNat a) 0 = false := by rw [iLt_eq]; simp
theorem iEq_n {a b : Nat} : iEq (Int.ofNat a) (Int.ofNat b) = decide (a = b) := by rw [iEq_eq]; refine decide_eq_decide.2 ?_; show (a : Int) = (b : Int) ↔ _; omega
theorem sm {n : Int} (h : -1000000000000 ≤ n ∧ n ≤ 1000000000000) : wr .i64 n = n := wr_id (by omega) (by omega)
theorem smn {i : Nat} (h : i ≤ 1000000000000) : wr .i64 (Int.ofNat i) = Int.ofNat i := wr_nat (i := i) (by omega)
theorem cg2 {α β γ : Type} (f : α → β → γ) {a a2 : α} {b b2 : β} (h : a = a2) (k : b = b2) : f a b = f a2 b2 := by rw [h, k]
theorem bool_tf {b : Bool} (h : b ≠ true) : b = false := by cases b <;> simp_all
theorem growE {n sz : Nat} {f : Nat → List SV} {l : List SV} (hl : l.length = sz) (hv : f n = l) : ∀ j, j < n + 1 → grow n sz f l j = f j := fun j hj => by
  unfold grow
  by_cases hjn : j < n
  · rw [blt_of hjn, cond_true]
  · have e : j = n := by omega
    subst e
    have hb : Nat.blt j j = false := by
      cases hh : Nat.blt j j with
      | false => rfl
      | true => have := blt_true hh; omega
    rw [hb, cond_false, hv]
    show List.take sz (List.drop ((j - j) * sz) l) = _
    rw [Nat.sub_self, Nat.zero_mul, List.drop_zero, List.take_of_length_le (by omega)]
/-- a slice that is empty may be read wherever -/
theorem sees_nil {m : Mem} (c sz : Nat) (f : Nat → List SV) (a : Option Addr) : SeesE m (.ro a 0 c sz f) := fun X Z s0 R s hm => ⟨⟨fun j hj => absurd hj (Nat.not_lt_zero _), .inl rfl⟩, fun b hb => hb⟩
/-- a loop over a function; its own memory comes first again -/
theorem call_iter2 {callR callI : CallT} {fv fv' : SV} {me : Mem} {N c len : Nat} {L : Nat → List SV} (h : IterC callR callI fv me N c len L) (I : Nat → Mem → Prop) (Q : Mem → Prop) (m0 : Mem) (R2 : Nat) {i b : Nat} {m : Mem} {R ni : Nat} {K : SV → Mem → Nat → Nat → Prop}
    (hfv : den fv' = den fv) (hw : WkM m (me ++ m0)) (h0 : I 0 m0)
    (hr : ∀ k, k < len → ∀ m, I k m → ∀ (me' : Mem) R, callS callR (.yf i b) (L k) (m ++ me') (addL R c) 500 fun w m' R' _ => R ≤ R' ∧ ∃ m1, WkM m' (m1 ++ me') ∧ ((den w = .bool true ∧ I (k + 1) m1) ∨ (den w = .bool false ∧ Q m1)))
    (hN : R2 + N ≤ R) (hK : ∀ w m1, I len m1 ∨ Q m1 → K w (me ++ m1) R2 ni) : callS callI fv' [.yf i b] m R ni K := by
  refine callS.cast (fv' := fv) (args' := [.yf i b]) hfv rfl ?_
  refine callS.wk hw ?_
  have h1 := h i b I Q hr m0 h0 (R - N)
  rw [addL_eq, Nat.sub_add_cancel (by omega)] at h1
  exact call_post h1 fun w m' R' n' ⟨hR, m1, hw1, hI⟩ => ⟨w, me ++ m1, R2, ni, rfl, hw1.trans (WkM.comm _ _), by omega, hK w m1 hI⟩
theorem len1 {n : Nat} (h1 : 0 < n) (h2 : n ≤ 1000) : wr .i64 (Int.sub (Int.ofNat n) 1) = Int.ofNat (n - 1) := (sm (n := (n : Int) - 1) (by omega)).trans (by show (n : Int) - 1 = ((n - 1 : Nat) : Int); omega)
theorem getD_mem {l : List Nat} {k : Nat} (h : k < l.length) : l.getD k 0 ∈ l := by rw [List.getD_eq_getElem?_getD, List.getElem?_eq_getElem h]; exact List.getElem_mem h
theorem mem_getD {l : List Nat} {y : Nat} (h : y ∈ l) : ∃ k, k < l.length ∧ l.getD k 0 = y := by
  obtain ⟨k, hk, e⟩ := List.mem_iff_getElem.1 h
  exact ⟨k, hk, by rw [List.getD_eq_getElem?_getD, List.getElem?_eq_getElem hk]; exact e⟩
/-- a slice that is only read may be read twice -/
theorem WkM.dup {i j n c sz : Nat} {a : Option Addr} {f : Nat → List SV} {m : Mem} : WkM ((i, .ro a n c sz f) :: m) ((j, .ro a n c sz f) :: (i, .ro a n c sz f) :: m) := fun X Z s0 R s hm =>
  hm.cons (hm.ent (i, .ro a n c sz f) (by simp)) fun x hx => by
    rcases List.mem_cons.1 hx with rfl | hx
    · exact ⟨fun b hb => hb.elim, fun b hb => hb.elim, fun b _ hb => hb⟩
    · exact (List.pairwise_cons.1 hm.dis).1 x hx
theorem putG_all {n2 : Nat} {h g0 : Nat → List SV} : ∀ j, j < n2 → putG 0 n2 h g0 j = h j := fun j hj => by
  have := putG_in (p := 0) (h := h) (g := g0) hj
  rw [Nat.zero_add] at this; exact this
theorem emS_z {n : Nat} {K0 K1 : Prop} (hn : n = 0) (h : K0) : emS n K0 K1 := ⟨fun _ => h, fun h0 => absurd hn (by omega)⟩
theorem seS_sb {i b p b' p' j sz n c : Nat} {a : Option Addr} {K : Prop} (h1 : a = some ⟨b, p, none⟩) (h2 : a = some ⟨b', p', none⟩) (h : K) : seS (.sb i b p j sz n c) (.sb i b' p' j sz n c) K := by
  rw [h1] at h2; cases h2; exact ⟨rfl, h⟩
/-- whose turn it is among what Spare answers -/
theorem ltS_1 {p s b : Nat} {K : Prop} (hs : s = 1) (h : p < b) (k : K) : ltS (Nat.mul p s) b K := by subst hs; exact ltS_intro (by show p * 1 < b; omega) k
theorem ltS_2 {p q s b : Nat} {K : Prop} (hs : s = 1) (h : p + q < b) (k : K) : ltS (Nat.add (Nat.mul p s) (Nat.mul q s)) b K := by subst hs; exact ltS_intro (by show p * 1 + q * 1 < b; omega) k

theorem nM1 {A : Prop} (h : A := by (first | (simp only [addL_eq, addL_rec]; omega) | omega | exact Nat.le_refl _)) : A := h
theorem oM1 {A : Prop} (h : A := by first | omega | (simp only [Nat.add_eq, Nat.sub_eq, Nat.mul_eq, Nat.succ_eq_add_one]; omega)) : A := h
theorem gL {a b : Nat} {K : Prop} (k : K) (h : a < b := by first | assumption | decide | exact Nat.le_of_ble_eq_true rfl | omega) : ltS a b K := ltS_intro h k
theorem gM {a b : Nat} {K : Prop} (k : K) (h : a < b := by have := lt_of_iLt ‹iLt (Int.ofNat _) (Int.ofNat _) = true›; omega) : ltS a b K := ltS_intro h k
theorem gX {n q : Nat} {K : Nat → Prop} (k : K q) (h : q < n := by first | assumption | decide | omega) : ixS (Int.ofNat q) n K := ixS_of rfl h k
theorem gY {n q : Nat} {K : Nat → Prop} (k : K q) (h : q < n := by have := lt_of_iLt ‹iLt (Int.ofNat _) (Int.ofNat _) = true›; omega) : ixS (Int.ofNat q) n K := ixS_of rfl h k
theorem gE {n : Nat} {f : Nat → List SV} {K : Prop} (k : K) (h : ∀ j, j < n → okL (f j) = true := by exact fun _ _ => rfl) : flE n f K := flE_intro h k
theorem gT {b : Bool} {x y : Prop} (k : x) (h : b = true := by assumption) : brS b x y := brS_t h k
theorem gF {b : Bool} {x y : Prop} (k : y) (h : b = false := by assumption) : brS b x y := brS_f h k
theorem gI {a : Int} {x y : Prop} (k : x) : brS (iEq a a) x y := brS_t (iEq_self a) k
theorem gO {A K : Prop} (k : K) (h : A := by first | assumption | kernel_rfl) : okS A K := okS_intro h k
theorem gN {n : Int} {K : Prop} (k : K) (h : n ≠ 0 := by first | decide | assumption) : nzS n K := nzS_intro h k
/-- a day -/
abbrev mf (lo hi : Nat → Nat) (j : Nat) : List SV := [.int .i64 (Int.ofNat (lo j)), .int .i64 (Int.ofNat (hi j))]
abbrev nf (o : Nat → Nat) (j : Nat) : List SV := [.int .i64 (Int.ofNat (o j))]
/-- a day is surely quieter -/
def qt (lo hi : Nat → Nat) (i k : Nat) : Bool := decide (hi i < lo k)
theorem iLt_n (a b : Nat) : iLt (Int.ofNat a) (Int.ofNat b) = decide (a < b) := by rw [iLt_eq]; refine decide_eq_decide.2 ?_; show (a : Int) < (b : Int) ↔ _; omega
theorem wr_u32 {n : Nat} (h : n < 4294967296) : IntKind.u32.wrap (n : Int) = (n : Int) := by
  unfold IntKind.wrap
  have e : IntKind.u32.bits = 32 := rfl
  first
  | (simp only [e]; omega)
  | (simp [IntKind.signed, e]; omega)
theorem bv_u32 {n : Nat} (h : n < 4294967296) : (BitVec.ofInt IntKind.u32.bits (Int.ofNat n)).toNat = n := by
  show (BitVec.ofInt 32 ((n : Nat) : Int)).toNat = n
  rw [BitVec.ofInt_natCast, BitVec.toNat_ofNat]
  exact Nat.mod_eq_of_lt h
theorem and_u32 {a b : Nat} (ha : a < 4294967296) (hb : b < 4294967296) : andI .u32 (Int.ofNat a) (Int.ofNat b) = Int.ofNat (a &&& b) := by
  unfold andI
  rw [BitVec.toNat_and, bv_u32 ha, bv_u32 hb]
  exact wr_u32 (Nat.lt_of_le_of_lt Nat.and_le_left ha)
theorem or_lt {a b : Nat} (ha : a < 4294967296) (hb : b < 4294967296) : a ||| b < 4294967296 := Nat.or_lt_two_pow (n := 32) ha hb
theorem or_u32 {a b : Nat} (ha : a < 4294967296) (hb : b < 4294967296) : orI .u32 (Int.ofNat a) (Int.ofNat b) = Int.ofNat (a ||| b) := by
  unfold orI
  rw [BitVec.toNat_or, bv_u32 ha, bv_u32 hb]
  exact wr_u32 (or_lt ha hb)
theorem an_u32 {a b : Nat} (ha : a < 4294967296) (hb : b < 4294967296) : anI .u32 (Int.ofNat a) (Int.ofNat b) = Int.ofNat (a &&& (4294967295 - b)) := by
  unfold anI
  rw [BitVec.toNat_and, BitVec.toNat_not, bv_u32 ha, bv_u32 hb]
  exact wr_u32 (Nat.lt_of_le_of_lt Nat.and_le_left ha)
theorem shr_u32 {s d : Nat} (hd : d < 32) : shrV .u32 (Int.ofNat s) d = Int.ofNat (s >>> d) := by
  unfold shrV
  have e : min d IntKind.u32.bits = d := Nat.min_eq_left (by show d ≤ 32; omega)
  rw [e, Nat.shiftRight_eq_div_pow]
  show Int.fdiv (s : Int) (2 ^ d) = ((s / 2 ^ d : Nat) : Int)
  rw [Int.fdiv_eq_ediv_of_nonneg _ (by exact_mod_cast Nat.zero_le (2 ^ d))]
  norm_cast
theorem pow_u32 {d : Nat} (hd : d < 32) : 2 ^ d < 4294967296 := by
  have : 2 ^ d < 2 ^ 32 := Nat.pow_lt_pow_right (by omega) hd
  exact this
theorem shl_u32 {d : Nat} (hd : d < 32) : shlV .u32 1 d = Int.ofNat (2 ^ d) := by
  unfold shlV
  have e : min d IntKind.u32.bits = d := Nat.min_eq_left (by show d ≤ 32; omega)
  rw [e, Int.one_mul]
  have := wr_u32 (pow_u32 hd)
  rw [show ((2 : Int) ^ d) = ((2 ^ d : Nat) : Int) by norm_cast]
  exact this
/-- a set with one day more -/
def wt (s d : Nat) : Nat := s ||| 2 ^ d
theorem wt_lt {s d : Nat} (hs : s < 4294967296) (hd : d < 32) : wt s d < 4294967296 := or_lt hs (pow_u32 hd)
theorem wt_bit (s d e : Nat) : (wt s d).testBit e = (s.testBit e || decide (d = e)) := by
  unfold wt
  rw [Nat.testBit_or, Nat.testBit_two_pow]
theorem has_eq {s d : Nat} (hs : s < 4294967296) (hd : d < 32) : iEq (andI .u32 (shrV .u32 (Int.ofNat s) d) 1) 1 = s.testBit d := by
  rw [shr_u32 hd, show (1 : Int) = Int.ofNat 1 from rfl, and_u32 (Nat.lt_of_le_of_lt (Nat.shiftRight_le s d) hs) (by omega), iEq_n]
  rw [Nat.testBit, Nat.and_comm]
  rcases Nat.mod_two_eq_zero_or_one (s >>> d) with h | h <;> simp [Nat.one_and_eq_mod_two, h]
theorem with_eq {s d : Nat} (hs : s < 4294967296) (hd : d < 32) : orI .u32 (Int.ofNat s) (shlV .u32 1 d) = Int.ofNat (wt s d) := by
  rw [shl_u32 hd]
  exact or_u32 hs (pow_u32 hd)
abbrev u32 (n : Nat) : SV := .int .u32 (Int.ofNat n)
theorem c79 (F k s d : Nat) (hs : s < 4294967296) (hd : d < 32) (b : Bool) (hb : s.testBit d = b) : PureC (CL F (k + 1)) 79 [u32 s, .int .i64 (Int.ofNat d)] 2 (.bool b) := by
  intro m R
  refine call_in (n := 10) Try.func79 rfl rfl rfl rfl rfl rfl rfl ?_
  repeat' ((conv => whnf); first | refine eqS_rfl ?_ | refine eqA_rfl ?_ | refine eqA_of (by assumption) ?_ | refine eqS_of (by rfl) ?_ | refine eqL_rfl ?_ | refine eqJ_rfl ?_ | refine gE ?_ | refine seS_rfl ?_ | refine lsS_of hup ?_ | refine lsS_rfl ?_ | refine brS_tt ?_ | refine brS_ff ?_ | refine brS_not ?_ | refine gI ?_ | refine gT ?_ | refine gF ?_ | refine brS_intro (fun _ => ?_) (fun _ => ?_) | refine gL ?_ | refine gX ?_ | refine gO ?_ | refine gN ?_ | intro _)
  all_goals (conv => whnf)
  all_goals refine ⟨?_, by repeat' (first | exact WkM.refl _ | refine WkM.drop ?_), by repeat' (first | exact Nat.le_refl _ | refine Nat.le_succ_of_le ?_)⟩
  all_goals (exact congrArg Value.bool ((has_eq hs hd).trans hb))

theorem c80 (F k s d : Nat) (hs : s < 4294967296) (hd : d < 32) : PureC (CL F (k + 1)) 80 [u32 s, .int .i64 (Int.ofNat d)] 2 (u32 (wt s d)) := by
  intro m R
  refine call_in (n := 9) Try.func80 rfl rfl rfl rfl rfl rfl rfl ?_
  repeat' ((conv => whnf); first | refine eqS_rfl ?_ | refine eqA_rfl ?_ | refine eqA_of (by assumption) ?_ | refine eqS_of (by rfl) ?_ | refine eqL_rfl ?_ | refine eqJ_rfl ?_ | refine gE ?_ | refine seS_rfl ?_ | refine lsS_of hup ?_ | refine lsS_rfl ?_ | refine brS_tt ?_ | refine brS_ff ?_ | refine brS_not ?_ | refine gI ?_ | refine gT ?_ | refine gF ?_ | refine brS_intro (fun _ => ?_) (fun _ => ?_) | refine gL ?_ | refine gX ?_ | refine gO ?_ | refine gN ?_ | intro _)
  all_goals (conv => whnf)
  all_goals refine ⟨?_, by repeat' (first | exact WkM.refl _ | refine WkM.drop ?_), by repeat' (first | exact Nat.le_refl _ | refine Nat.le_succ_of_le ?_)⟩
  all_goals (exact congrArg (Value.int .u32) (with_eq hs hd))

theorem c56 (F k x n : Nat) (h : x < n) : PureC (CL F (k + 1)) 56 [.int .i64 (Int.ofNat x), .int .i64 (Int.ofNat n)] 2 (.bool true) := by
  have h1 := iLt_t h
  have h0 : iLt (Int.ofNat x) 0 = false := iLt_0 x
  intro m R
  refine call_in (n := 12) Try.func56 rfl rfl rfl rfl rfl rfl rfl ?_
  repeat' ((conv => whnf); first | refine eqS_rfl ?_ | refine eqA_rfl ?_ | refine eqA_of (by assumption) ?_ | refine eqS_of (by rfl) ?_ | refine eqL_rfl ?_ | refine eqJ_rfl ?_ | refine gE ?_ | refine seS_rfl ?_ | refine lsS_of hup ?_ | refine lsS_rfl ?_ | refine brS_tt ?_ | refine brS_ff ?_ | refine brS_not ?_ | refine gI ?_ | refine gT ?_ | refine gF ?_ | refine brS_intro (fun _ => ?_) (fun _ => ?_) | refine gL ?_ | refine gX ?_ | refine gO ?_ | refine gN ?_ | intro _)
  all_goals (conv => whnf)
  all_goals refine ⟨?_, by repeat' (first | exact WkM.refl _ | refine WkM.drop ?_), by repeat' (first | exact Nat.le_refl _ | refine Nat.le_succ_of_le ?_)⟩
  all_goals (exact congrArg Value.bool h1)

theorem c81 (F k : Nat) (am : Option Addr) (n em cm : Nat) (lo hi : Nat → Nat) (i j : Nat) (hi' : i < n) (hj : j < n) : ReadC (CL F (k + 1)) 81 [.sl 1000 am n cm, .int .i64 (Int.ofNat i), .int .i64 (Int.ofNat j)] [(1000, .ro am n em 2 (mf lo hi))] 20 (.bool (qt lo hi i j)) := by
  intro R
  refine call_in (n := 18) Try.func81 rfl rfl rfl rfl rfl rfl rfl ?_
  repeat' ((conv => whnf); first | refine eqS_rfl ?_ | refine eqA_rfl ?_ | refine eqA_of (by assumption) ?_ | refine eqS_of (by rfl) ?_ | refine eqL_rfl ?_ | refine eqJ_rfl ?_ | refine gE ?_ | refine seS_rfl ?_ | refine lsS_of hup ?_ | refine lsS_rfl ?_ | refine brS_tt ?_ | refine brS_ff ?_ | refine brS_not ?_ | refine gI ?_ | refine gT ?_ | refine gF ?_ | refine brS_intro (fun _ => ?_) (fun _ => ?_) | refine gL ?_ | refine gX ?_ | refine gO ?_ | refine gN ?_ | intro _)
  conv => whnf
  exact ⟨congrArg Value.bool (iLt_n _ _), nM1⟩
end Go.Proofs.Ytefnljdfgjjpjaa
