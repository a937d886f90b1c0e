/- Keys: cases by numbers, chains, the law's own truths. -/
import Derived.Test.YtoocmgefoagfnaaProg
import Derived.Test.YtoocmgefoagfnaaEngSy
import Derived.KernelRfl
namespace Go.Proofs.Ytoocmgefoagfnaa
open Go.Ab
attribute [local irreducible] aggOk drwOK
set_option maxRecDepth 100000
set_option maxHeartbeats 4000000
set_option linter.unusedVariables false
set_option linter.unusedSimpArgs false
theorem WS {m m' : Mem} (h : WkM m m' := by refine Sel.wk ?_; (try simp only [List.cons_append, List.nil_append]); repeat' (first | exact Sel.nil | exact Sel.all | exact Sel.left | refine Sel.cons Pick.here ?_ | refine Sel.cons (Pick.there Pick.here) ?_ | refine Sel.cons (Pick.there (Pick.there Pick.here)) ?_ | refine Sel.cons (Pick.there (Pick.there (Pick.there Pick.here))) ?_ | refine Sel.cons (Pick.there (Pick.there (Pick.there (Pick.there Pick.here)))) ?_ | refine Sel.cons (Pick.there (Pick.there (Pick.there (Pick.there (Pick.there Pick.here))))) ?_ | refine Sel.cons (Pick.there (Pick.there (Pick.there (Pick.there (Pick.there (Pick.there Pick.here)))))) ?_ | refine Sel.cons (Pick.there (Pick.there (Pick.there (Pick.there (Pick.there (Pick.there (Pick.there Pick.here))))))) ?_ | refine Sel.cons (Pick.there (Pick.there (Pick.there (Pick.there (Pick.there (Pick.there (Pick.there (Pick.there Pick.here)))))))) ?_ | refine Sel.cons (Pick.there (Pick.there (Pick.there (Pick.there (Pick.there (Pick.there (Pick.there (Pick.there (Pick.there Pick.here))))))))) ?_ | refine Sel.cons (Pick.there (Pick.there (Pick.there (Pick.there (Pick.there (Pick.there (Pick.there (Pick.there (Pick.there (Pick.there Pick.here)))))))))) ?_ | refine Sel.cons (Pick.there (Pick.there (Pick.there (Pick.there (Pick.there (Pick.there (Pick.there (Pick.there (Pick.there (Pick.there (Pick.there Pick.here))))))))))) ?_ | refine Sel.cons (Pick.there (Pick.there (Pick.there (Pick.there (Pick.there (Pick.there (Pick.there (Pick.there (Pick.there (Pick.there (Pick.there (Pick.there Pick.here)))))))))))) ?_ | refine Sel.cons (Pick.there (Pick.there (Pick.there (Pick.there (Pick.there (Pick.there (Pick.there (Pick.there (Pick.there (Pick.there (Pick.there (Pick.there (Pick.there Pick.here))))))))))))) ?_ | refine Sel.cons (Pick.there (Pick.there (Pick.there (Pick.there (Pick.there (Pick.there (Pick.there (Pick.there (Pick.there (Pick.there (Pick.there (Pick.there (Pick.there (Pick.there Pick.here)))))))))))))) ?_ | refine Sel.cons (Pick.there (Pick.there (Pick.there (Pick.there (Pick.there (Pick.there (Pick.there (Pick.there (Pick.there (Pick.there (Pick.there (Pick.there (Pick.there (Pick.there (Pick.there Pick.here))))))))))))))) ?_ | refine Sel.consw Pick.here ⟨rfl, rfl, rfl⟩ ?_ | refine Sel.consw (Pick.there Pick.here) ⟨rfl, rfl, rfl⟩ ?_ | refine Sel.consw (Pick.there (Pick.there Pick.here)) ⟨rfl, rfl, rfl⟩ ?_ | refine Sel.consw (Pick.there (Pick.there (Pick.there Pick.here))) ⟨rfl, rfl, rfl⟩ ?_ | refine Sel.consw (Pick.there (Pick.there (Pick.there (Pick.there Pick.here)))) ⟨rfl, rfl, rfl⟩ ?_ | refine Sel.consw (Pick.there (Pick.there (Pick.there (Pick.there (Pick.there Pick.here))))) ⟨rfl, rfl, rfl⟩ ?_ | refine Sel.consw (Pick.there (Pick.there (Pick.there (Pick.there (Pick.there (Pick.there Pick.here)))))) ⟨rfl, rfl, rfl⟩ ?_ | refine Sel.consw (Pick.there (Pick.there (Pick.there (Pick.there (Pick.there (Pick.there (Pick.there Pick.here))))))) ⟨rfl, rfl, rfl⟩ ?_ | refine Sel.consw (Pick.there (Pick.there (Pick.there (Pick.there (Pick.there (Pick.there (Pick.there (Pick.there Pick.here)))))))) ⟨rfl, rfl, rfl⟩ ?_ | refine Sel.consw (Pick.there (Pick.there (Pick.there (Pick.there (Pick.there (Pick.there (Pick.there (Pick.there (Pick.there Pick.here))))))))) ⟨rfl, rfl, rfl⟩ ?_ | refine Sel.consw (Pick.there (Pick.there (Pick.there (Pick.there (Pick.there (Pick.there (Pick.there (Pick.there (Pick.there (Pick.there Pick.here)))))))))) ⟨rfl, rfl, rfl⟩ ?_ | refine Sel.consw (Pick.there (Pick.there (Pick.there (Pick.there (Pick.there (Pick.there (Pick.there (Pick.there (Pick.there (Pick.there (Pick.there Pick.here))))))))))) ⟨rfl, rfl, rfl⟩ ?_ | refine Sel.consw (Pick.there (Pick.there (Pick.there (Pick.there (Pick.there (Pick.there (Pick.there (Pick.there (Pick.there (Pick.there (Pick.there (Pick.there Pick.here)))))))))))) ⟨rfl, rfl, rfl⟩ ?_ | refine Sel.consw (Pick.there (Pick.there (Pick.there (Pick.there (Pick.there (Pick.there (Pick.there (Pick.there (Pick.there (Pick.there (Pick.there (Pick.there (Pick.there Pick.here))))))))))))) ⟨rfl, rfl, rfl⟩ ?_ | refine Sel.consw (Pick.there (Pick.there (Pick.there (Pick.there (Pick.there (Pick.there (Pick.there (Pick.there (Pick.there (Pick.there (Pick.there (Pick.there (Pick.there (Pick.there Pick.here)))))))))))))) ⟨rfl, rfl, rfl⟩ ?_ | refine Sel.consw (Pick.there (Pick.there (Pick.there (Pick.there (Pick.there (Pick.there (Pick.there (Pick.there (Pick.there (Pick.there (Pick.there (Pick.there (Pick.there (Pick.there (Pick.there Pick.here))))))))))))))) ⟨rfl, rfl, rfl⟩ ?_ | refine Sel.snoc Pick.here ?_ | refine Sel.snoc (Pick.there Pick.here) ?_ | refine Sel.snoc (Pick.there (Pick.there Pick.here)) ?_ | refine Sel.snoc (Pick.there (Pick.there (Pick.there Pick.here))) ?_ | refine Sel.snoc (Pick.there (Pick.there (Pick.there (Pick.there Pick.here)))) ?_ | refine Sel.snoc (Pick.there (Pick.there (Pick.there (Pick.there (Pick.there Pick.here))))) ?_ | refine Sel.snoc (Pick.there (Pick.there (Pick.there (Pick.there (Pick.there (Pick.there Pick.here)))))) ?_ | refine Sel.snoc (Pick.there (Pick.there (Pick.there (Pick.there (Pick.there (Pick.there (Pick.there Pick.here))))))) ?_ | refine Sel.snoc (Pick.there (Pick.there (Pick.there (Pick.there (Pick.there (Pick.there (Pick.there (Pick.there Pick.here)))))))) ?_ | refine Sel.snoc (Pick.there (Pick.there (Pick.there (Pick.there (Pick.there (Pick.there (Pick.there (Pick.there (Pick.there Pick.here))))))))) ?_ | refine Sel.snoc (Pick.there (Pick.there (Pick.there (Pick.there (Pick.there (Pick.there (Pick.there (Pick.there (Pick.there (Pick.there Pick.here)))))))))) ?_ | refine Sel.snoc (Pick.there (Pick.there (Pick.there (Pick.there (Pick.there (Pick.there (Pick.there (Pick.there (Pick.there (Pick.there (Pick.there Pick.here))))))))))) ?_ | refine Sel.snoc (Pick.there (Pick.there (Pick.there (Pick.there (Pick.there (Pick.there (Pick.there (Pick.there (Pick.there (Pick.there (Pick.there (Pick.there Pick.here)))))))))))) ?_ | refine Sel.snoc (Pick.there (Pick.there (Pick.there (Pick.there (Pick.there (Pick.there (Pick.there (Pick.there (Pick.there (Pick.there (Pick.there (Pick.there (Pick.there Pick.here))))))))))))) ?_ | refine Sel.snoc (Pick.there (Pick.there (Pick.there (Pick.there (Pick.there (Pick.there (Pick.there (Pick.there (Pick.there (Pick.there (Pick.there (Pick.there (Pick.there (Pick.there Pick.here)))))))))))))) ?_ | refine Sel.snoc (Pick.there (Pick.there (Pick.there (Pick.there (Pick.there (Pick.there (Pick.there (Pick.there (Pick.there (Pick.there (Pick.there (Pick.there (Pick.there (Pick.there (Pick.there Pick.here))))))))))))))) ?_ | refine Sel.drop ?_)) : WkM m m' := h
theorem WG {m m' : Mem} (h : WkM m m' := by refine Sel.wk ?_; (try simp only [List.cons_append, List.nil_append]); repeat' (first | exact Sel.nil | exact Sel.all | exact Sel.left | refine Sel.cons Pick.here ?_ | refine Sel.cons (Pick.there Pick.here) ?_ | refine Sel.cons (Pick.there (Pick.there Pick.here)) ?_ | refine Sel.cons (Pick.there (Pick.there (Pick.there Pick.here))) ?_ | refine Sel.cons (Pick.there (Pick.there (Pick.there (Pick.there Pick.here)))) ?_ | refine Sel.cons (Pick.there (Pick.there (Pick.there (Pick.there (Pick.there Pick.here))))) ?_ | refine Sel.cons (Pick.there (Pick.there (Pick.there (Pick.there (Pick.there (Pick.there Pick.here)))))) ?_ | refine Sel.cons (Pick.there (Pick.there (Pick.there (Pick.there (Pick.there (Pick.there (Pick.there Pick.here))))))) ?_ | refine Sel.cons (Pick.there (Pick.there (Pick.there (Pick.there (Pick.there (Pick.there (Pick.there (Pick.there Pick.here)))))))) ?_ | refine Sel.cons (Pick.there (Pick.there (Pick.there (Pick.there (Pick.there (Pick.there (Pick.there (Pick.there (Pick.there Pick.here))))))))) ?_ | refine Sel.cons (Pick.there (Pick.there (Pick.there (Pick.there (Pick.there (Pick.there (Pick.there (Pick.there (Pick.there (Pick.there Pick.here)))))))))) ?_ | refine Sel.cons (Pick.there (Pick.there (Pick.there (Pick.there (Pick.there (Pick.there (Pick.there (Pick.there (Pick.there (Pick.there (Pick.there Pick.here))))))))))) ?_ | refine Sel.cons (Pick.there (Pick.there (Pick.there (Pick.there (Pick.there (Pick.there (Pick.there (Pick.there (Pick.there (Pick.there (Pick.there (Pick.there Pick.here)))))))))))) ?_ | refine Sel.cons (Pick.there (Pick.there (Pick.there (Pick.there (Pick.there (Pick.there (Pick.there (Pick.there (Pick.there (Pick.there (Pick.there (Pick.there (Pick.there Pick.here))))))))))))) ?_ | refine Sel.cons (Pick.there (Pick.there (Pick.there (Pick.there (Pick.there (Pick.there (Pick.there (Pick.there (Pick.there (Pick.there (Pick.there (Pick.there (Pick.there (Pick.there Pick.here)))))))))))))) ?_ | refine Sel.cons (Pick.there (Pick.there (Pick.there (Pick.there (Pick.there (Pick.there (Pick.there (Pick.there (Pick.there (Pick.there (Pick.there (Pick.there (Pick.there (Pick.there (Pick.there Pick.here))))))))))))))) ?_ | refine Sel.consw Pick.here ⟨rfl, rfl, rfl⟩ ?_ | refine Sel.consw (Pick.there Pick.here) ⟨rfl, rfl, rfl⟩ ?_ | refine Sel.consw (Pick.there (Pick.there Pick.here)) ⟨rfl, rfl, rfl⟩ ?_ | refine Sel.consw (Pick.there (Pick.there (Pick.there Pick.here))) ⟨rfl, rfl, rfl⟩ ?_ | refine Sel.consw (Pick.there (Pick.there (Pick.there (Pick.there Pick.here)))) ⟨rfl, rfl, rfl⟩ ?_ | refine Sel.consw (Pick.there (Pick.there (Pick.there (Pick.there (Pick.there Pick.here))))) ⟨rfl, rfl, rfl⟩ ?_ | refine Sel.consw (Pick.there (Pick.there (Pick.there (Pick.there (Pick.there (Pick.there Pick.here)))))) ⟨rfl, rfl, rfl⟩ ?_ | refine Sel.consw (Pick.there (Pick.there (Pick.there (Pick.there (Pick.there (Pick.there (Pick.there Pick.here))))))) ⟨rfl, rfl, rfl⟩ ?_ | refine Sel.consw (Pick.there (Pick.there (Pick.there (Pick.there (Pick.there (Pick.there (Pick.there (Pick.there Pick.here)))))))) ⟨rfl, rfl, rfl⟩ ?_ | refine Sel.consw (Pick.there (Pick.there (Pick.there (Pick.there (Pick.there (Pick.there (Pick.there (Pick.there (Pick.there Pick.here))))))))) ⟨rfl, rfl, rfl⟩ ?_ | refine Sel.consw (Pick.there (Pick.there (Pick.there (Pick.there (Pick.there (Pick.there (Pick.there (Pick.there (Pick.there (Pick.there Pick.here)))))))))) ⟨rfl, rfl, rfl⟩ ?_ | refine Sel.consw (Pick.there (Pick.there (Pick.there (Pick.there (Pick.there (Pick.there (Pick.there (Pick.there (Pick.there (Pick.there (Pick.there Pick.here))))))))))) ⟨rfl, rfl, rfl⟩ ?_ | refine Sel.consw (Pick.there (Pick.there (Pick.there (Pick.there (Pick.there (Pick.there (Pick.there (Pick.there (Pick.there (Pick.there (Pick.there (Pick.there Pick.here)))))))))))) ⟨rfl, rfl, rfl⟩ ?_ | refine Sel.consw (Pick.there (Pick.there (Pick.there (Pick.there (Pick.there (Pick.there (Pick.there (Pick.there (Pick.there (Pick.there (Pick.there (Pick.there (Pick.there Pick.here))))))))))))) ⟨rfl, rfl, rfl⟩ ?_ | refine Sel.consw (Pick.there (Pick.there (Pick.there (Pick.there (Pick.there (Pick.there (Pick.there (Pick.there (Pick.there (Pick.there (Pick.there (Pick.there (Pick.there (Pick.there Pick.here)))))))))))))) ⟨rfl, rfl, rfl⟩ ?_ | refine Sel.consw (Pick.there (Pick.there (Pick.there (Pick.there (Pick.there (Pick.there (Pick.there (Pick.there (Pick.there (Pick.there (Pick.there (Pick.there (Pick.there (Pick.there (Pick.there Pick.here))))))))))))))) ⟨rfl, rfl, rfl⟩ ?_ | refine Sel.consw Pick.here ⟨rfl, rfl, rfl, rfl, by assumption⟩ ?_ | refine Sel.consw (Pick.there Pick.here) ⟨rfl, rfl, rfl, rfl, by assumption⟩ ?_ | refine Sel.consw (Pick.there (Pick.there Pick.here)) ⟨rfl, rfl, rfl, rfl, by assumption⟩ ?_ | refine Sel.consw (Pick.there (Pick.there (Pick.there Pick.here))) ⟨rfl, rfl, rfl, rfl, by assumption⟩ ?_ | refine Sel.consw (Pick.there (Pick.there (Pick.there (Pick.there Pick.here)))) ⟨rfl, rfl, rfl, rfl, by assumption⟩ ?_ | refine Sel.consw (Pick.there (Pick.there (Pick.there (Pick.there (Pick.there Pick.here))))) ⟨rfl, rfl, rfl, rfl, by assumption⟩ ?_ | refine Sel.consw (Pick.there (Pick.there (Pick.there (Pick.there (Pick.there (Pick.there Pick.here)))))) ⟨rfl, rfl, rfl, rfl, by assumption⟩ ?_ | refine Sel.consw (Pick.there (Pick.there (Pick.there (Pick.there (Pick.there (Pick.there (Pick.there Pick.here))))))) ⟨rfl, rfl, rfl, rfl, by assumption⟩ ?_ | refine Sel.consw (Pick.there (Pick.there (Pick.there (Pick.there (Pick.there (Pick.there (Pick.there (Pick.there Pick.here)))))))) ⟨rfl, rfl, rfl, rfl, by assumption⟩ ?_ | refine Sel.consw (Pick.there (Pick.there (Pick.there (Pick.there (Pick.there (Pick.there (Pick.there (Pick.there (Pick.there Pick.here))))))))) ⟨rfl, rfl, rfl, rfl, by assumption⟩ ?_ | refine Sel.consw (Pick.there (Pick.there (Pick.there (Pick.there (Pick.there (Pick.there (Pick.there (Pick.there (Pick.there (Pick.there Pick.here)))))))))) ⟨rfl, rfl, rfl, rfl, by assumption⟩ ?_ | refine Sel.consw (Pick.there (Pick.there (Pick.there (Pick.there (Pick.there (Pick.there (Pick.there (Pick.there (Pick.there (Pick.there (Pick.there Pick.here))))))))))) ⟨rfl, rfl, rfl, rfl, by assumption⟩ ?_ | refine Sel.consw (Pick.there (Pick.there (Pick.there (Pick.there (Pick.there (Pick.there (Pick.there (Pick.there (Pick.there (Pick.there (Pick.there (Pick.there Pick.here)))))))))))) ⟨rfl, rfl, rfl, rfl, by assumption⟩ ?_ | refine Sel.consw (Pick.there (Pick.there (Pick.there (Pick.there (Pick.there (Pick.there (Pick.there (Pick.there (Pick.there (Pick.there (Pick.there (Pick.there (Pick.there Pick.here))))))))))))) ⟨rfl, rfl, rfl, rfl, by assumption⟩ ?_ | refine Sel.consw (Pick.there (Pick.there (Pick.there (Pick.there (Pick.there (Pick.there (Pick.there (Pick.there (Pick.there (Pick.there (Pick.there (Pick.there (Pick.there (Pick.there Pick.here)))))))))))))) ⟨rfl, rfl, rfl, rfl, by assumption⟩ ?_ | refine Sel.consw (Pick.there (Pick.there (Pick.there (Pick.there (Pick.there (Pick.there (Pick.there (Pick.there (Pick.there (Pick.there (Pick.there (Pick.there (Pick.there (Pick.there (Pick.there Pick.here))))))))))))))) ⟨rfl, rfl, rfl, rfl, by assumption⟩ ?_ | refine Sel.consw Pick.here ⟨rfl, rfl, rfl, .inl rfl, fun _ _ => rfl⟩ ?_ | refine Sel.consw (Pick.there Pick.here) ⟨rfl, rfl, rfl, .inl rfl, fun _ _ => rfl⟩ ?_ | refine Sel.consw (Pick.there (Pick.there Pick.here)) ⟨rfl, rfl, rfl, .inl rfl, fun _ _ => rfl⟩ ?_ | refine Sel.consw (Pick.there (Pick.there (Pick.there Pick.here))) ⟨rfl, rfl, rfl, .inl rfl, fun _ _ => rfl⟩ ?_ | refine Sel.consw (Pick.there (Pick.there (Pick.there (Pick.there Pick.here)))) ⟨rfl, rfl, rfl, .inl rfl, fun _ _ => rfl⟩ ?_ | refine Sel.consw (Pick.there (Pick.there (Pick.there (Pick.there (Pick.there Pick.here))))) ⟨rfl, rfl, rfl, .inl rfl, fun _ _ => rfl⟩ ?_ | refine Sel.consw (Pick.there (Pick.there (Pick.there (Pick.there (Pick.there (Pick.there Pick.here)))))) ⟨rfl, rfl, rfl, .inl rfl, fun _ _ => rfl⟩ ?_ | refine Sel.consw (Pick.there (Pick.there (Pick.there (Pick.there (Pick.there (Pick.there (Pick.there Pick.here))))))) ⟨rfl, rfl, rfl, .inl rfl, fun _ _ => rfl⟩ ?_ | refine Sel.consw (Pick.there (Pick.there (Pick.there (Pick.there (Pick.there (Pick.there (Pick.there (Pick.there Pick.here)))))))) ⟨rfl, rfl, rfl, .inl rfl, fun _ _ => rfl⟩ ?_ | refine Sel.consw (Pick.there (Pick.there (Pick.there (Pick.there (Pick.there (Pick.there (Pick.there (Pick.there (Pick.there Pick.here))))))))) ⟨rfl, rfl, rfl, .inl rfl, fun _ _ => rfl⟩ ?_ | refine Sel.consw (Pick.there (Pick.there (Pick.there (Pick.there (Pick.there (Pick.there (Pick.there (Pick.there (Pick.there (Pick.there Pick.here)))))))))) ⟨rfl, rfl, rfl, .inl rfl, fun _ _ => rfl⟩ ?_ | refine Sel.consw (Pick.there (Pick.there (Pick.there (Pick.there (Pick.there (Pick.there (Pick.there (Pick.there (Pick.there (Pick.there (Pick.there Pick.here))))))))))) ⟨rfl, rfl, rfl, .inl rfl, fun _ _ => rfl⟩ ?_ | refine Sel.consw (Pick.there (Pick.there (Pick.there (Pick.there (Pick.there (Pick.there (Pick.there (Pick.there (Pick.there (Pick.there (Pick.there (Pick.there Pick.here)))))))))))) ⟨rfl, rfl, rfl, .inl rfl, fun _ _ => rfl⟩ ?_ | refine Sel.consw (Pick.there (Pick.there (Pick.there (Pick.there (Pick.there (Pick.there (Pick.there (Pick.there (Pick.there (Pick.there (Pick.there (Pick.there (Pick.there Pick.here))))))))))))) ⟨rfl, rfl, rfl, .inl rfl, fun _ _ => rfl⟩ ?_ | refine Sel.consw (Pick.there (Pick.there (Pick.there (Pick.there (Pick.there (Pick.there (Pick.there (Pick.there (Pick.there (Pick.there (Pick.there (Pick.there (Pick.there (Pick.there Pick.here)))))))))))))) ⟨rfl, rfl, rfl, .inl rfl, fun _ _ => rfl⟩ ?_ | refine Sel.consw (Pick.there (Pick.there (Pick.there (Pick.there (Pick.there (Pick.there (Pick.there (Pick.there (Pick.there (Pick.there (Pick.there (Pick.there (Pick.there (Pick.there (Pick.there Pick.here))))))))))))))) ⟨rfl, rfl, rfl, .inl rfl, fun _ _ => rfl⟩ ?_ | refine Sel.consw Pick.here ⟨rfl, rfl, rfl, .inr rfl, fun _ _ => rfl⟩ ?_ | refine Sel.consw (Pick.there Pick.here) ⟨rfl, rfl, rfl, .inr rfl, fun _ _ => rfl⟩ ?_ | refine Sel.consw (Pick.there (Pick.there Pick.here)) ⟨rfl, rfl, rfl, .inr rfl, fun _ _ => rfl⟩ ?_ | refine Sel.consw (Pick.there (Pick.there (Pick.there Pick.here))) ⟨rfl, rfl, rfl, .inr rfl, fun _ _ => rfl⟩ ?_ | refine Sel.consw (Pick.there (Pick.there (Pick.there (Pick.there Pick.here)))) ⟨rfl, rfl, rfl, .inr rfl, fun _ _ => rfl⟩ ?_ | refine Sel.consw (Pick.there (Pick.there (Pick.there (Pick.there (Pick.there Pick.here))))) ⟨rfl, rfl, rfl, .inr rfl, fun _ _ => rfl⟩ ?_ | refine Sel.consw (Pick.there (Pick.there (Pick.there (Pick.there (Pick.there (Pick.there Pick.here)))))) ⟨rfl, rfl, rfl, .inr rfl, fun _ _ => rfl⟩ ?_ | refine Sel.consw (Pick.there (Pick.there (Pick.there (Pick.there (Pick.there (Pick.there (Pick.there Pick.here))))))) ⟨rfl, rfl, rfl, .inr rfl, fun _ _ => rfl⟩ ?_ | refine Sel.consw (Pick.there (Pick.there (Pick.there (Pick.there (Pick.there (Pick.there (Pick.there (Pick.there Pick.here)))))))) ⟨rfl, rfl, rfl, .inr rfl, fun _ _ => rfl⟩ ?_ | refine Sel.consw (Pick.there (Pick.there (Pick.there (Pick.there (Pick.there (Pick.there (Pick.there (Pick.there (Pick.there Pick.here))))))))) ⟨rfl, rfl, rfl, .inr rfl, fun _ _ => rfl⟩ ?_ | refine Sel.consw (Pick.there (Pick.there (Pick.there (Pick.there (Pick.there (Pick.there (Pick.there (Pick.there (Pick.there (Pick.there Pick.here)))))))))) ⟨rfl, rfl, rfl, .inr rfl, fun _ _ => rfl⟩ ?_ | refine Sel.consw (Pick.there (Pick.there (Pick.there (Pick.there (Pick.there (Pick.there (Pick.there (Pick.there (Pick.there (Pick.there (Pick.there Pick.here))))))))))) ⟨rfl, rfl, rfl, .inr rfl, fun _ _ => rfl⟩ ?_ | refine Sel.consw (Pick.there (Pick.there (Pick.there (Pick.there (Pick.there (Pick.there (Pick.there (Pick.there (Pick.there (Pick.there (Pick.there (Pick.there Pick.here)))))))))))) ⟨rfl, rfl, rfl, .inr rfl, fun _ _ => rfl⟩ ?_ | refine Sel.consw (Pick.there (Pick.there (Pick.there (Pick.there (Pick.there (Pick.there (Pick.there (Pick.there (Pick.there (Pick.there (Pick.there (Pick.there (Pick.there Pick.here))))))))))))) ⟨rfl, rfl, rfl, .inr rfl, fun _ _ => rfl⟩ ?_ | refine Sel.consw (Pick.there (Pick.there (Pick.there (Pick.there (Pick.there (Pick.there (Pick.there (Pick.there (Pick.there (Pick.there (Pick.there (Pick.there (Pick.there (Pick.there Pick.here)))))))))))))) ⟨rfl, rfl, rfl, .inr rfl, fun _ _ => rfl⟩ ?_ | refine Sel.consw (Pick.there (Pick.there (Pick.there (Pick.there (Pick.there (Pick.there (Pick.there (Pick.there (Pick.there (Pick.there (Pick.there (Pick.there (Pick.there (Pick.there (Pick.there Pick.here))))))))))))))) ⟨rfl, rfl, rfl, .inr rfl, fun _ _ => rfl⟩ ?_ | refine Sel.snoc Pick.here ?_ | refine Sel.snoc (Pick.there Pick.here) ?_ | refine Sel.snoc (Pick.there (Pick.there Pick.here)) ?_ | refine Sel.snoc (Pick.there (Pick.there (Pick.there Pick.here))) ?_ | refine Sel.snoc (Pick.there (Pick.there (Pick.there (Pick.there Pick.here)))) ?_ | refine Sel.snoc (Pick.there (Pick.there (Pick.there (Pick.there (Pick.there Pick.here))))) ?_ | refine Sel.snoc (Pick.there (Pick.there (Pick.there (Pick.there (Pick.there (Pick.there Pick.here)))))) ?_ | refine Sel.snoc (Pick.there (Pick.there (Pick.there (Pick.there (Pick.there (Pick.there (Pick.there Pick.here))))))) ?_ | refine Sel.snoc (Pick.there (Pick.there (Pick.there (Pick.there (Pick.there (Pick.there (Pick.there (Pick.there Pick.here)))))))) ?_ | refine Sel.snoc (Pick.there (Pick.there (Pick.there (Pick.there (Pick.there (Pick.there (Pick.there (Pick.there (Pick.there Pick.here))))))))) ?_ | refine Sel.snoc (Pick.there (Pick.there (Pick.there (Pick.there (Pick.there (Pick.there (Pick.there (Pick.there (Pick.there (Pick.there Pick.here)))))))))) ?_ | refine Sel.snoc (Pick.there (Pick.there (Pick.there (Pick.there (Pick.there (Pick.there (Pick.there (Pick.there (Pick.there (Pick.there (Pick.there Pick.here))))))))))) ?_ | refine Sel.snoc (Pick.there (Pick.there (Pick.there (Pick.there (Pick.there (Pick.there (Pick.there (Pick.there (Pick.there (Pick.there (Pick.there (Pick.there Pick.here)))))))))))) ?_ | refine Sel.snoc (Pick.there (Pick.there (Pick.there (Pick.there (Pick.there (Pick.there (Pick.there (Pick.there (Pick.there (Pick.there (Pick.there (Pick.there (Pick.there Pick.here))))))))))))) ?_ | refine Sel.snoc (Pick.there (Pick.there (Pick.there (Pick.there (Pick.there (Pick.there (Pick.there (Pick.there (Pick.there (Pick.there (Pick.there (Pick.there (Pick.there (Pick.there Pick.here)))))))))))))) ?_ | refine Sel.snoc (Pick.there (Pick.there (Pick.there (Pick.there (Pick.there (Pick.there (Pick.there (Pick.there (Pick.there (Pick.there (Pick.there (Pick.there (Pick.there (Pick.there (Pick.there Pick.here))))))))))))))) ?_ | refine Sel.drop ?_)) : WkM m m' := h
noncomputable abbrev CL (F d : Nat) : CallT := callF Try.prog F (extB [] 15) d
abbrev i64 (n : Int) : SV := .int .i64 n
theorem lt_of_iLt {a b : Nat} (h : iLt (Int.ofNat a) (Int.ofNat b) = true) : a < b := by rw [iLt_eq] at h; simpa using h
theorem ge_of_iLt {a b : Nat} (h : iLt (Int.ofNat a) (Int.ofNat b) = false) : b ≤ a := by rw [iLt_eq] at h; simpa using h
theorem iLt_t {a b : Nat} (h : a < b) : iLt (Int.ofNat a) (Int.ofNat b) = true := by rw [iLt_eq]; simpa using h
theorem iLt_f {a b : Nat} (h : b ≤ a) : iLt (Int.ofNat a) (Int.ofNat b) = false := by rw [iLt_eq]; simpa using h
theorem iLt_0 (a : Nat) : iLt (Int.ofNat a) 0 = false := by rw [iLt_eq]; simp
theorem iEq_n {a b : Nat} : iEq (Int.ofNat a) (Int.ofNat b) = decide (a = b) := by rw [iEq_eq]; refine decide_eq_decide.2 ?_; show (a : Int) = (b : Int) ↔ _; omega
theorem sm {n : Int} (h : -1000000000000 ≤ n ∧ n ≤ 1000000000000) : wr .i64 n = n := wr_id (by omega) (by omega)
theorem smn {i : Nat} (h : i ≤ 1000000000000) : wr .i64 (Int.ofNat i) = Int.ofNat i := wr_nat (i := i) (by omega)
theorem cg2 {α β γ : Type} (f : α → β → γ) {a a2 : α} {b b2 : β} (h : a = a2) (k : b = b2) : f a b = f a2 b2 := by rw [h, k]
theorem bool_tf {b : Bool} (h : b ≠ true) : b = false := by cases b <;> simp_all
/-- the contrary -/
def ng (a : Nat) : Nat := if a % 2 = 1 then a - 1 else a + 1
theorem ng_ng (a : Nat) : ng (ng a) = a := by unfold ng; split <;> split <;> omega
/-- a case by a byte -/
def sm2 (T x : Nat) : Nat := 2 * (x / 2 % T) + x % 2
theorem sm2_mod (T x : Nat) : sm2 T x % 2 = x % 2 := by unfold sm2; omega
theorem sm2_div (T x : Nat) : sm2 T x / 2 = x / 2 % T := by unfold sm2; omega
theorem sm2_lt {T x : Nat} (hT : T ≠ 0) : sm2 T x < 2 * T := by
  have := Nat.mod_lt (x / 2) (Nat.pos_of_ne_zero hT)
  unfold sm2; omega
/-- the cases that can follow a case in a chain, as far as the first rules say -/
def afL (ru : Nat → Nat × Nat) (x : Nat) : Nat → List Nat
  | 0 => []
  | k + 1 => afL ru x k ++ ((if (ru k).1 = ng x then [(ru k).2] else []) ++ (if (ru k).2 = ng x then [(ru k).1] else []))
theorem afL_pre (ru : Nat → Nat × Nat) (x : Nat) {j n : Nat} (h : j ≤ n) : ∃ t, afL ru x n = afL ru x j ++ t := by
  induction n with
  | zero => have : j = 0 := by omega
            subst this; exact ⟨[], by simp⟩
  | succ n ih =>
    by_cases e : j = n + 1
    · subst e; exact ⟨[], by simp⟩
    · obtain ⟨t, ht⟩ := ih (by omega)
      exact ⟨t ++ ((if (ru n).1 = ng x then [(ru n).2] else []) ++ (if (ru n).2 = ng x then [(ru n).1] else [])), by rw [afL, ht, List.append_assoc]⟩
theorem mem_afL {ru : Nat → Nat × Nat} {x y : Nat} : ∀ {n : Nat}, y ∈ afL ru x n ↔ ∃ j, j < n ∧ (((ru j).1 = ng x ∧ (ru j).2 = y) ∨ ((ru j).2 = ng x ∧ (ru j).1 = y))
  | 0 => by simp [afL]
  | n + 1 => by
    rw [afL, List.mem_append, List.mem_append, mem_afL (n := n)]
    constructor
    · rintro (⟨j, h1, h2⟩ | h | h)
      · exact ⟨j, by omega, h2⟩
      · split at h
        · simp only [List.mem_singleton] at h; exact ⟨n, by omega, .inl ⟨by assumption, h.symm⟩⟩
        · cases h
      · split at h
        · simp only [List.mem_singleton] at h; exact ⟨n, by omega, .inr ⟨by assumption, h.symm⟩⟩
        · cases h
    · rintro ⟨j, h1, h2⟩
      by_cases e : j = n
      · subst e
        rcases h2 with ⟨h2, h3⟩ | ⟨h2, h3⟩
        · exact .inr (.inl (by rw [if_pos h2, h3]; simp))
        · exact .inr (.inr (by rw [if_pos h2, h3]; simp))
      · exact .inl ⟨j, by omega, h2⟩
/-- a bit -/
def tb (bits t : Nat) : Bool := bits / 2 ^ t % 2 == 1
/-- whether a case is true with values, as bits -/
def trB (bits a : Nat) : Bool := tb bits (a / 2) == (a % 2 == 1)
theorem trB_ng (bits a : Nat) : trB bits (ng a) = !trB bits a := by
  have h1 : ng a / 2 = a / 2 := by unfold ng; split <;> omega
  unfold trB
  rw [h1]
  have h2 : (ng a % 2 == 1) = !(a % 2 == 1) := by
    unfold ng
    rcases Nat.mod_two_eq_zero_or_one a with ha | ha
    · have e : (a + 1) % 2 = 1 := by omega
      rw [if_neg (by omega), e, ha]; rfl
    · have e : (a - 1) % 2 = 0 := by omega
      rw [if_pos ha, e, ha]; rfl
  rw [h2]
  cases tb bits (a / 2) <;> cases (a % 2 == 1) <;> rfl
/-- the rules, the given cases hold -/
def okR (ru : Nat → Nat × Nat) (n bits : Nat) : Bool := (List.range n).all fun j => trB bits (ru j).1 || trB bits (ru j).2
def okG (gv : Nat → Nat) (n bits : Nat) : Bool := (List.range n).all fun j => trB bits (gv j)
theorem okR_succ (ru : Nat → Nat × Nat) (n bits : Nat) : okR ru (n + 1) bits = (okR ru n bits && (trB bits (ru n).1 || trB bits (ru n).2)) := by
  unfold okR; rw [List.range_succ, List.all_append]; simp
theorem okG_succ (gv : Nat → Nat) (n bits : Nat) : okG gv (n + 1) bits = (okG gv n bits && trB bits (gv n)) := by
  unfold okG; rw [List.range_succ, List.all_append]; simp
/-- the truths among the first values -/
def trL (ru : Nat → Nat × Nat) (n : Nat) (gv : Nat → Nat) (n3 k : Nat) : List Nat := (List.range k).filter fun bits => okR ru n bits && okG gv n3 bits
theorem trL_succ (ru : Nat → Nat × Nat) (n : Nat) (gv : Nat → Nat) (n3 k : Nat) : trL ru n gv n3 (k + 1) = trL ru n gv n3 k ++ (if (okR ru n k && okG gv n3 k) = true then [k] else []) := by
  unfold trL; rw [List.range_succ, List.filter_append]; simp [List.filter_cons]
theorem trL_pre (ru : Nat → Nat × Nat) (n : Nat) (gv : Nat → Nat) (n3 : Nat) {k m : Nat} (h : k ≤ m) : ∃ t, trL ru n gv n3 m = trL ru n gv n3 k ++ t := by
  induction m with
  | zero => have : k = 0 := by omega
            subst this; exact ⟨[], by simp⟩
  | succ m ih =>
    by_cases e : k = m + 1
    · subst e; exact ⟨[], by simp⟩
    · obtain ⟨t, ht⟩ := ih (by omega)
      exact ⟨t ++ (if (okR ru n m && okG gv n3 m) = true then [m] else []), by rw [trL_succ, ht, List.append_assoc]⟩
theorem trL_len (ru : Nat → Nat × Nat) (n : Nat) (gv : Nat → Nat) (n3 k : Nat) : (trL ru n gv n3 k).length ≤ k := by
  have := List.length_filter_le (fun bits => okR ru n bits && okG gv n3 bits) (List.range k)
  rw [List.length_range] at this
  exact this
theorem mem_trL {ru : Nat → Nat × Nat} {n : Nat} {gv : Nat → Nat} {n3 k bits : Nat} : bits ∈ trL ru n gv n3 k ↔ bits < k ∧ okR ru n bits = true ∧ okG gv n3 bits = true := by
  unfold trL
  rw [List.mem_filter, List.mem_range, Bool.and_eq_true]
theorem mem_okR {ru : Nat → Nat × Nat} {n bits : Nat} : okR ru n bits = true ↔ ∀ j, j < n → trB bits (ru j).1 = true ∨ trB bits (ru j).2 = true := by
  unfold okR
  rw [List.all_eq_true]
  simp only [List.mem_range, Bool.or_eq_true]
theorem mem_okG {gv : Nat → Nat} {n bits : Nat} : okG gv n bits = true ↔ ∀ j, j < n → trB bits (gv j) = true := by
  unfold okG
  rw [List.all_eq_true]
  simp only [List.mem_range]
theorem step_true {ru : Nat → Nat × Nat} {n bits x y : Nat} (h : okR ru n bits = true) (hy : y ∈ afL ru x n) (hx : trB bits x = true) : trB bits y = true := by
  obtain ⟨j, hj, h2⟩ := mem_afL.1 hy
  have h3 := mem_okR.1 h j hj
  rcases h2 with ⟨e1, e2⟩ | ⟨e1, e2⟩
  · rw [e1, e2, trB_ng, hx] at h3
    rcases h3 with h3 | h3
    · cases h3
    · exact h3
  · rw [e1, e2, trB_ng, hx] at h3
    rcases h3 with h3 | h3
    · exact h3
    · cases h3
/-- neighbours of a chain belong together -/
def linkB (ru : Nat → Nat × Nat) (n : Nat) (ch : Nat → Nat) (k : Nat) : Bool := (List.range k).all fun j => decide (ch (1 + j) ∈ afL ru (ch j) n)
theorem link_true {ru : Nat → Nat × Nat} {n bits : Nat} {ch : Nat → Nat} {k : Nat} (h : okR ru n bits = true) (hl : linkB ru n ch k = true) (hx : trB bits (ch 0) = true) : trB bits (ch k) = true := by
  unfold linkB at hl
  rw [List.all_eq_true] at hl
  have key : ∀ j, j ≤ k → trB bits (ch j) = true := by
    intro j
    induction j with
    | zero => intro _; exact hx
    | succ j ih =>
      intro hj
      have := hl j (List.mem_range.2 (by omega))
      rw [decide_eq_true_eq, Nat.add_comm] at this
      exact step_true h this (ih (by omega))
  exact key k (Nat.le_refl _)
/-- two chains that prove that there is no truth -/
theorem no_truth {ru : Nat → Nat × Nat} {n bits : Nat} {ch ch3 : Nat → Nat} {k k3 : Nat} (hl : linkB ru n ch k = true) (hl3 : linkB ru n ch3 k3 = true) (h1 : ch k = ng (ch 0)) (h2 : ch3 0 = ch k) (h3 : ch3 k3 = ch 0) : okR ru n bits = false := by
  cases h : okR ru n bits with
  | false => rfl
  | true =>
    cases hx : trB bits (ch 0) with
    | true =>
      have := link_true h hl hx
      rw [h1, trB_ng, hx] at this
      cases this
    | false =>
      have : trB bits (ch3 0) = true := by rw [h2, h1, trB_ng, hx]; rfl
      have := link_true h hl3 this
      rw [h3, hx] at this
      cases this
theorem trL_nil {ru : Nat → Nat × Nat} {n : Nat} {gv : Nat → Nat} {n3 k : Nat} (h : ∀ bits, okR ru n bits = false) : trL ru n gv n3 k = [] := by
  unfold trL
  exact List.filter_eq_nil_iff.2 fun bits _ => by rw [h]; simp
/-- what Verify, Proves answer for cases of a valid book -/
def verE (ru : Nat → Nat × Nat) (n : Nat) (ch : Nat → Nat) (n2 : Nat) : Int := if n2 = 0 then 2 else if linkB ru n ch (n2 - 1) = true then 0 else 14
def prE (ru : Nat → Nat × Nat) (n : Nat) (ch : Nat → Nat) (n2 : Nat) (ch3 : Nat → Nat) (n3 : Nat) : Int := if verE ru n ch n2 ≠ 0 then verE ru n ch n2 else if verE ru n ch3 n3 ≠ 0 then verE ru n ch3 n3 else if ch (n2 - 1) = ng (ch 0) ∧ ch3 0 = ch (n2 - 1) ∧ ch3 (n3 - 1) = ch 0 then 0 else 12
theorem verE_pos {ru : Nat → Nat × Nat} {n : Nat} {ch : Nat → Nat} {n2 : Nat} (h : verE ru n ch n2 = 0) : 0 < n2 := by
  unfold verE at h
  split at h
  · cases h
  · omega
theorem verE_iff (ru : Nat → Nat × Nat) (n : Nat) (ch : Nat → Nat) (n2 : Nat) : (decide (0 < n2) && linkB ru n ch (n2 - 1)) = decide (verE ru n ch n2 = 0) := by
  unfold verE
  by_cases h : n2 = 0
  · rw [if_pos h, h]; rfl
  · rw [if_neg h, decide_eq_true (show 0 < n2 by omega)]
    cases linkB ru n ch (n2 - 1) <;> rfl

/-- a case, by a number: its thing twice, and 1 if it is so -/
abbrev cl (a : Nat) : List SV := [.int .i64 (Int.ofNat (a / 2)), .bool (a % 2 == 1)]
abbrev cv (a : Nat) : SV := .agg (cl a)
abbrev rl (p : Nat × Nat) : List SV := [.int .i64 (Int.ofNat (p.1 / 2)), .bool (p.1 % 2 == 1), .int .i64 (Int.ofNat (p.2 / 2)), .bool (p.2 % 2 == 1)]
abbrev bk (T : Nat) (a : Option Addr) (n c : Nat) : SV := .agg [.int .i64 (Int.ofNat T), .sl 1000 a n c]
abbrev roR (a : Option Addr) (n e : Nat) (ru : Nat → Nat × Nat) : Ent := .ro a n e 4 fun j => rl (ru j)
abbrev roC (a : Option Addr) (n e : Nat) (ch : Nat → Nat) : Ent := .ro a n e 2 fun j => cl (ch j)
theorem cl_eq {a b : Nat} (h1 : a / 2 = b / 2) (h2 : (a % 2 == 1) = (b % 2 == 1)) : cl a = cl b := by
  have : a = b := by
    have h3 : a % 2 = b % 2 := by
      rcases Nat.mod_two_eq_zero_or_one a with ha | ha <;> rcases Nat.mod_two_eq_zero_or_one b with hb | hb <;> rw [ha, hb] at h2 <;> first | omega | cases h2
    omega
  rw [this]
theorem eqV_case (m n : Int) (x y : Bool) : eqV Try.prog 40 50 (.agg ⟨[.int .i64 m, .bool x]⟩) (.agg ⟨[.int .i64 n, .bool y]⟩) = some (iEq m n && ((x == y) && true)) := by kernel_rfl
theorem eqC (a b : Nat) : eqV Try.prog 40 50 (den (cv a)) (den (cv b)) = some (decide (a = b)) := by
  refine (eqV_case _ _ _ _).trans (congrArg some ?_)
  rw [iEq_n, Bool.and_true, Bool.eq_iff_iff]
  simp only [Bool.and_eq_true, decide_eq_true_eq]
  rcases Nat.mod_two_eq_zero_or_one a with ha | ha <;> rcases Nat.mod_two_eq_zero_or_one b with hb | hb <;> simp only [ha, hb] <;> simp <;> omega
theorem ng_div (a : Nat) : ng a / 2 = a / 2 := by unfold ng; split <;> omega
theorem ng_mod (a : Nat) : (ng a % 2 == 1) = !(a % 2 == 1) := by
  unfold ng
  rcases Nat.mod_two_eq_zero_or_one a with ha | ha
  · have e : (a + 1) % 2 = 1 := by omega
    rw [if_neg (by omega), e, ha]; rfl
  · have e : (a - 1) % 2 = 0 := by omega
    rw [if_pos ha, e, ha]; rfl
theorem cv_ng (a : Nat) : den (.agg [.int .i64 (Int.ofNat (a / 2)), .bool (!(a % 2 == 1))]) = den (cv (ng a)) := by
  show Value.agg ⟨[.int .i64 (Int.ofNat (a / 2)), .bool (!(a % 2 == 1))]⟩ = Value.agg ⟨[.int .i64 (Int.ofNat (ng a / 2)), .bool (ng a % 2 == 1)]⟩
  rw [ng_div, ng_mod]
theorem c74 (F d : Nat) (x : Nat) : PureC (CL F (d + 1)) 74 [cv x] 2 (cv (ng x)) := by
  intro m R
  refine call_in (n := 9) Try.func74 rfl rfl rfl rfl rfl rfl rfl ?_
  repeat' ((conv => whnf); first | refine eqS_rfl ?_ | refine eqA_rfl ?_ | refine eqA_of (by assumption) ?_ | refine eqS_of (by rfl) ?_ | refine eqL_rfl ?_ | refine eqJ_rfl ?_ | refine flE_intro (fun _ _ => rfl) ?_ | refine seS_rfl ?_ | refine lsS_of hup ?_ | refine lsS_rfl ?_ | refine brS_tt ?_ | refine brS_ff ?_ | refine brS_not ?_ | refine brS_t (iEq_self _) ?_ | refine brS_t (by assumption) ?_ | refine brS_f (by assumption) ?_ | refine brS_intro (fun _ => ?_) (fun _ => ?_) | refine ltS_intro (by first | assumption | decide | exact Nat.le_of_ble_eq_true rfl | omega) ?_ | refine ixS_of rfl (by first | assumption | decide | omega) ?_ | refine okS_intro (by first | assumption | kernel_rfl) ?_ | refine nzS_intro (by first | decide | assumption) ?_ | intro _)
  all_goals (conv => whnf)
  all_goals refine ⟨?_, by repeat' (first | exact WkM.refl _ | refine WkM.drop ?_), by repeat' (first | exact Nat.le_refl _ | refine Nat.le_succ_of_le ?_)⟩
  all_goals (exact cv_ng x)

theorem c43 (F d : Nat) (x : Nat) : PureC (CL F (d + 1)) 43 [cv x] 2 (cv (ng x)) := by
  intro m R
  refine call_in (n := 9) Try.func43 rfl rfl rfl rfl rfl rfl rfl ?_
  repeat' ((conv => whnf); first | refine eqS_rfl ?_ | refine eqA_rfl ?_ | refine eqA_of (by assumption) ?_ | refine eqS_of (by rfl) ?_ | refine eqL_rfl ?_ | refine eqJ_rfl ?_ | refine flE_intro (fun _ _ => rfl) ?_ | refine seS_rfl ?_ | refine lsS_of hup ?_ | refine lsS_rfl ?_ | refine brS_tt ?_ | refine brS_ff ?_ | refine brS_not ?_ | refine brS_t (iEq_self _) ?_ | refine brS_t (by assumption) ?_ | refine brS_f (by assumption) ?_ | refine brS_intro (fun _ => ?_) (fun _ => ?_) | refine ltS_intro (by first | assumption | decide | exact Nat.le_of_ble_eq_true rfl | omega) ?_ | refine ixS_of rfl (by first | assumption | decide | omega) ?_ | refine okS_intro (by first | assumption | kernel_rfl) ?_ | refine nzS_intro (by first | decide | assumption) ?_ | intro _)
  all_goals (conv => whnf)
  all_goals refine ⟨?_, by repeat' (first | exact WkM.refl _ | refine WkM.drop ?_), by repeat' (first | exact Nat.le_refl _ | refine Nat.le_succ_of_le ?_)⟩
  all_goals (exact cv_ng x)

theorem some_eq {x T : Nat} (hx : x < 256) : den (.agg [.int .i64 (Int.tmod (wr .i64 (Int.tdiv (wr .i64 (Int.ofNat x)) 2)) (Int.ofNat T)), .bool (iEq (Int.tmod (Int.ofNat x) 2) 1)]) = den (cv (sm2 T x)) := by
  have e1 : wr .i64 (Int.ofNat x) = Int.ofNat x := smn (by omega)
  have e2 : Int.tdiv (Int.ofNat x) 2 = Int.ofNat (x / 2) := rfl
  have e3 : wr .i64 (Int.ofNat (x / 2)) = Int.ofNat (x / 2) := smn (by omega)
  have e4 : Int.tmod (Int.ofNat (x / 2)) (Int.ofNat T) = Int.ofNat (x / 2 % T) := rfl
  have e5 : iEq (Int.tmod (Int.ofNat x) 2) 1 = (sm2 T x % 2 == 1) := by
    rw [show Int.tmod (Int.ofNat x) 2 = Int.ofNat (x % 2) from rfl, show (1 : Int) = Int.ofNat 1 from rfl, iEq_n, sm2_mod]
    rcases Nat.mod_two_eq_zero_or_one x with ha | ha <;> rw [ha] <;> rfl
  rw [e1, e2, e3, e4, e5]
  show Value.agg ⟨[.int .i64 (Int.ofNat (x / 2 % T)), .bool _]⟩ = Value.agg ⟨[.int .i64 (Int.ofNat (sm2 T x / 2)), .bool _]⟩
  rw [sm2_div]
theorem c45 (F d : Nat) (x T : Nat) (hT : T ≠ 0) (hx : x < 256) (v : SV) : PureC (CL F (d + 1)) 45 [.agg [.int .i64 (Int.ofNat T), v], .int .u8 (Int.ofNat x)] 2 (cv (sm2 T x)) := by
  have hT2 : (Int.ofNat T) ≠ 0 := fun h => hT (by have h : (T : Int) = 0 := h; omega)
  cases v <;> skip
  all_goals
    intro m R
    refine call_in (n := 15) Try.func45 rfl rfl rfl rfl rfl rfl rfl ?_
    repeat' ((conv => whnf); first | refine eqS_rfl ?_ | refine eqA_rfl ?_ | refine eqA_of (by assumption) ?_ | refine eqS_of (by rfl) ?_ | refine eqL_rfl ?_ | refine eqJ_rfl ?_ | refine flE_intro (fun _ _ => rfl) ?_ | refine seS_rfl ?_ | refine lsS_of hup ?_ | refine lsS_rfl ?_ | refine brS_tt ?_ | refine brS_ff ?_ | refine brS_not ?_ | refine brS_t (iEq_self _) ?_ | refine brS_t (by assumption) ?_ | refine brS_f (by assumption) ?_ | refine brS_intro (fun _ => ?_) (fun _ => ?_) | refine ltS_intro (by first | assumption | decide | exact Nat.le_of_ble_eq_true rfl | omega) ?_ | refine ixS_of rfl (by first | assumption | decide | omega) ?_ | refine okS_intro (by first | assumption | kernel_rfl) ?_ | refine nzS_intro (by first | decide | assumption) ?_ | intro _)
    all_goals (conv => whnf)
    all_goals first
      | exact ⟨some_eq hx, by repeat' (first | exact WkM.refl _ | refine WkM.drop ?_), by repeat' (first | exact Nat.le_refl _ | refine Nat.le_succ_of_le ?_)⟩
      | trace_state
end Go.Proofs.Ytoocmgefoagfnaa
namespace Go.Proofs.Ytoocmgefoagfnaa
open Go.Ab
attribute [local irreducible] aggOk drwOK
set_option maxRecDepth 100000
set_option maxHeartbeats 4000000
set_option linter.unusedVariables false
set_option linter.unusedSimpArgs false
theorem c65 (F d : Nat) (T : Nat) (v : SV) (hv : isJ v = false) (a2 : Option Addr) (n2 e2 c2 : Nat) (ch : Nat → Nat) (hF : n2 + 1 < F) (hn : n2 ≤ 1000) (hc : ∀ j, j < n2 → ch j < 2 * T) : ReadC (CL F (d + 1)) 65 [.agg [.int .i64 (Int.ofNat T), v], .sl 1001 a2 n2 c2] [(1001, roC a2 n2 e2 ch)] (n2 + 10) (.bool true) := by
  have hc2 : ∀ j, j < n2 → iLt (Int.ofNat (ch j / 2)) (Int.ofNat T) = true := fun j hj => iLt_t (by have := hc j hj; omega)
  have hc0 : ∀ j, iLt (Int.ofNat (ch j / 2)) 0 = false := fun j => iLt_0 _
  intro R
  rw [show n2 + 10 = n2 + 5 + 5 from rfl, addL_eq, ← Nat.add_assoc, ← addL_eq _ 5, Nat.add_comm R]
  cases v <;> first
  | (cases hv; done)
  | skip
  all_goals
    refine call_in (n := 24) Try.func65 rfl rfl rfl rfl rfl rfl rfl ?_
    repeat' ((conv => whnf); first | refine eqS_rfl ?_ | refine eqA_rfl ?_ | refine eqA_of (by assumption) ?_ | refine eqS_of (by rfl) ?_ | refine eqL_rfl ?_ | refine eqJ_rfl ?_ | refine flE_intro (fun _ _ => rfl) ?_ | refine seS_rfl ?_ | refine lsS_of hup ?_ | refine lsS_rfl ?_ | refine brS_tt ?_ | refine brS_ff ?_ | refine brS_not ?_ | refine brS_t (iEq_self _) ?_ | refine brS_t (by assumption) ?_ | refine brS_f (by assumption) ?_ | refine brS_intro (fun _ => ?_) (fun _ => ?_) | refine ltS_intro (by first | assumption | decide | exact Nat.le_of_ble_eq_true rfl | omega) ?_ | refine ixS_of rfl (by first | assumption | decide | omega) ?_ | refine okS_intro (by first | assumption | kernel_rfl) ?_ | refine nzS_intro (by first | decide | assumption) ?_ | intro _)
    rename_i bb
    conv => whnf
    refine loS_i (fun jj f mm R' ni => ∃ j : Nat, j ≤ n2 ∧ jj = n2 - j + 1 ∧ f = [(2, .ptr 0 bb 0), (7, .sl 1001 a2 n2 c2), (8, .int .i64 (Int.ofNat n2)), (9, .int .i64 (Int.ofNat j))] ∧ mm = [(0, .own bb 24 [.int .i64 (Int.ofNat T), _]), (1001, roC a2 n2 e2 ch)] ∧ R' = addL ((n2 - j) + R) 5 ∧ ni = 10) (n2 + 1) (by omega)
      ⟨[(2, .ptr 0 bb 0), (7, .sl 1001 a2 n2 c2), (8, .int .i64 (Int.ofNat n2)), (9, .int .i64 (Int.ofNat 0))], [(0, .own bb 24 [.int .i64 (Int.ofNat T), _]), (1001, roC a2 n2 e2 ch)], addL ((n2 - 0) + R) 5, 10, ⟨eqF_rfl _, eqF_rfl _, eqF_rfl _, eqF_rfl _, trivial⟩, WkM.refl _, by (first | (simp only [addL_eq, addL_rec]; omega) | omega | exact Nat.le_refl _), 0, by omega, by omega, rfl, rfl, rfl, rfl⟩ ?_
    rintro _ _ _ _ _ ⟨j, hj, rfl, rfl, rfl, rfl, rfl⟩
    by_cases hlt : j < n2
    · have h1 := iLt_t hlt
      have h2 := hc2 j hlt
      have h3 := hc0 j
      repeat' ((conv => whnf); first | refine eqS_rfl ?_ | refine eqA_rfl ?_ | refine eqA_of (by assumption) ?_ | refine eqS_of (by rfl) ?_ | refine eqL_rfl ?_ | refine eqJ_rfl ?_ | refine flE_intro (fun _ _ => rfl) ?_ | refine seS_rfl ?_ | refine lsS_of hup ?_ | refine lsS_rfl ?_ | refine brS_tt ?_ | refine brS_ff ?_ | refine brS_not ?_ | refine brS_t (iEq_self _) ?_ | refine brS_t (by assumption) ?_ | refine brS_f (by assumption) ?_ | refine brS_intro (fun _ => ?_) (fun _ => ?_) | refine ltS_intro (by first | assumption | decide | exact Nat.le_of_ble_eq_true rfl | omega) ?_ | refine ixS_of rfl (by first | assumption | decide | omega) ?_ | refine okS_intro (by first | assumption | kernel_rfl) ?_ | refine nzS_intro (by first | decide | assumption) ?_ | refine ltS_intro (by have := lt_of_iLt ‹iLt (Int.ofNat _) (Int.ofNat _) = true›; omega) ?_ | refine ixS_of rfl (by have := lt_of_iLt ‹iLt (Int.ofNat _) (Int.ofNat _) = true›; omega) ?_ | intro _)
      conv => whnf
      exact ⟨n2 - (j + 1) + 1, [(2, .ptr 0 bb 0), (7, .sl 1001 a2 n2 c2), (8, .int .i64 (Int.ofNat n2)), (9, .int .i64 (Int.ofNat (j + 1)))], _, addL ((n2 - (j + 1)) + R) 5, 10, by omega, ⟨eqF_rfl _, eqF_rfl _, eqF_rfl _, ⟨congrArg (Value.int .i64) (smn (i := j + 1) (by omega)), rfl⟩, trivial⟩, by exact WkM.drop (WkM.refl _), by (first | (simp only [addL_eq, addL_rec]; omega) | omega | exact Nat.le_refl _), j + 1, by omega, rfl, rfl, rfl, rfl, rfl⟩
    · have e : j = n2 := by omega
      subst e
      have h1 := iLt_f (Nat.le_refl j)
      repeat' ((conv => whnf); first | refine eqS_rfl ?_ | refine eqA_rfl ?_ | refine eqA_of (by assumption) ?_ | refine eqS_of (by rfl) ?_ | refine eqL_rfl ?_ | refine eqJ_rfl ?_ | refine flE_intro (fun _ _ => rfl) ?_ | refine seS_rfl ?_ | refine lsS_of hup ?_ | refine lsS_rfl ?_ | refine brS_tt ?_ | refine brS_ff ?_ | refine brS_not ?_ | refine brS_t (iEq_self _) ?_ | refine brS_t (by assumption) ?_ | refine brS_f (by assumption) ?_ | refine brS_intro (fun _ => ?_) (fun _ => ?_) | refine ltS_intro (by first | assumption | decide | exact Nat.le_of_ble_eq_true rfl | omega) ?_ | refine ixS_of rfl (by first | assumption | decide | omega) ?_ | refine okS_intro (by first | assumption | kernel_rfl) ?_ | refine nzS_intro (by first | decide | assumption) ?_ | intro _)
      conv => whnf
      exact ⟨rfl, by (first | (simp only [addL_eq, addL_rec]; omega) | omega | exact Nat.le_refl _)⟩
/-- a rule's cases -/
def pc (p : Nat × Nat) (j : Nat) : Nat := if j = 0 then p.1 else p.2
theorem c26 (F d : Nat) (T : Nat) (a : Option Addr) (n e c : Nat) (ru : Nat → Nat × Nat) (hF : 100 < F) (hT : 1 ≤ T ∧ T ≤ 24) (hn : n ≤ 80) (hr : ∀ j, j < n → (ru j).1 < 2 * T ∧ (ru j).2 < 2 * T) : ReadC (CL F (d + 2)) 26 [bk T a n c] [(1000, roR a n e ru)] (2000 + 100) (i64 0) := by
  have t1 : iLt (Int.ofNat T) 1 = false := iLt_f (a := T) (b := 1) hT.1
  have t2 : iLt 24 (Int.ofNat T) = false := iLt_f (a := 24) (b := T) hT.2
  have t3 : iLt 80 (Int.ofNat n) = false := iLt_f (a := 80) (b := n) hn
  intro R
  rw [show 2000 + 100 = (2000) + 100 from rfl, addL_eq, ← Nat.add_assoc, ← addL_eq _ 100, Nat.add_comm R (2000)]
  refine call_in (n := 33) Try.func26 rfl rfl rfl rfl rfl rfl rfl ?_
  repeat' ((conv => whnf); first | refine eqS_rfl ?_ | refine eqA_rfl ?_ | refine eqA_of (by assumption) ?_ | refine eqS_of (by rfl) ?_ | refine eqL_rfl ?_ | refine eqJ_rfl ?_ | refine flE_intro (fun _ _ => rfl) ?_ | refine seS_rfl ?_ | refine lsS_of hup ?_ | refine lsS_rfl ?_ | refine brS_tt ?_ | refine brS_ff ?_ | refine brS_not ?_ | refine brS_t (iEq_self _) ?_ | refine brS_t (by assumption) ?_ | refine brS_f (by assumption) ?_ | refine brS_intro (fun _ => ?_) (fun _ => ?_) | refine ltS_intro (by first | assumption | decide | exact Nat.le_of_ble_eq_true rfl | omega) ?_ | refine ixS_of rfl (by first | assumption | decide | omega) ?_ | refine okS_intro (by first | assumption | kernel_rfl) ?_ | refine nzS_intro (by first | decide | assumption) ?_ | intro _)
  rename_i bb
  conv => whnf
  refine loS_i (fun jj f mm R' ni => ∃ j : Nat, j ≤ n ∧ jj = n - j + 1 ∧ f = [(1, .ptr 0 bb 0), (18, .sl 1000 a n c), (19, .int .i64 (Int.ofNat n)), (20, .int .i64 (Int.ofNat j))] ∧ mm = [(0, .own bb 24 [.int .i64 (Int.ofNat T), .sl 1000 a n c]), (1000, roR a n e ru)] ∧ R' = addL (20 * (n - j) + R) 20 ∧ ni = 10) (n + 1) (by omega)
    ⟨[(1, .ptr 0 bb 0), (18, .sl 1000 a n c), (19, .int .i64 (Int.ofNat n)), (20, .int .i64 (Int.ofNat 0))], [(0, .own bb 24 [.int .i64 (Int.ofNat T), .sl 1000 a n c]), (1000, roR a n e ru)], addL (20 * (n - 0) + R) 20, 10, ⟨eqF_rfl _, eqF_rfl _, eqF_rfl _, eqF_rfl _, trivial⟩, WkM.refl _, by (first | (simp only [addL_eq, addL_rec]; omega) | omega | exact Nat.le_refl _), 0, by omega, by omega, rfl, rfl, rfl, rfl⟩ ?_
  rintro _ _ _ _ _ ⟨j0, hj, rfl, rfl, rfl, rfl, rfl⟩
  by_cases hlt : j0 < n
  · have h1 := iLt_t hlt
    have hh := hr j0 hlt
    repeat' ((conv => whnf); first | refine eqS_rfl ?_ | refine eqA_rfl ?_ | refine eqA_of (by assumption) ?_ | refine eqS_of (by rfl) ?_ | refine eqL_rfl ?_ | refine eqJ_rfl ?_ | refine flE_intro (fun _ _ => rfl) ?_ | refine seS_rfl ?_ | refine lsS_of hup ?_ | refine lsS_rfl ?_ | refine brS_tt ?_ | refine brS_ff ?_ | refine brS_not ?_ | refine brS_t (iEq_self _) ?_ | refine brS_t (by assumption) ?_ | refine brS_f (by assumption) ?_ | refine brS_intro (fun _ => ?_) (fun _ => ?_) | refine ltS_intro (by first | assumption | decide | exact Nat.le_of_ble_eq_true rfl | omega) ?_ | refine ixS_of rfl (by first | assumption | decide | omega) ?_ | refine okS_intro (by first | assumption | kernel_rfl) ?_ | refine nzS_intro (by first | decide | assumption) ?_ | refine ltS_intro (by have := lt_of_iLt ‹iLt (Int.ofNat _) (Int.ofNat _) = true›; omega) ?_ | refine ixS_of rfl (by have := lt_of_iLt ‹iLt (Int.ofNat _) (Int.ofNat _) = true›; omega) ?_ | refine call_readL (c65 F d T (.sl 1000 a n c) rfl _ 2 0 2 (pc (ru j0)) (by omega) (by omega) (fun j hj => by unfold pc; split <;> omega)) (addL (20 * (n - (j0 + 1)) + R) 20) (by rfl) (by exact SeesM.cons 1001 (SeesE.ro_congr (g := fun j => cl (pc (ru j0) j)) (sees_own (i := 11) (n := 2) (o := 0) (sz := 2) (c := 0) (by rfl) (by exact Nat.le_refl 4)) (fun j hj => by match j, hj with | 0, _ => rfl | 1, _ => rfl | j + 2, hj => exact absurd hj (by omega))) (SeesM.nil _) (fun _ _ _ _ _ _ x hx => by cases hx)) (by (first | (simp only [addL_eq, addL_rec]; omega) | omega | exact Nat.le_refl _)) ?_ | intro _)
    conv => whnf
    exact ⟨n - (j0 + 1) + 1, [(1, .ptr 0 bb 0), (18, .sl 1000 a n c), (19, .int .i64 (Int.ofNat n)), (20, .int .i64 (Int.ofNat (j0 + 1)))], _, addL (20 * (n - (j0 + 1)) + R) 20, 10, by omega, ⟨eqF_rfl _, eqF_rfl _, eqF_rfl _, ⟨congrArg (Value.int .i64) (smn (i := j0 + 1) (by omega)), rfl⟩, trivial⟩, by exact WkM.drop (WkM.drop (WkM.refl _)), by (first | (simp only [addL_eq, addL_rec]; omega) | omega | exact Nat.le_refl _), j0 + 1, by omega, rfl, rfl, rfl, rfl, rfl⟩
  · have e2 : j0 = n := by omega
    subst e2
    have h1 := iLt_f (Nat.le_refl j0)
    repeat' ((conv => whnf); first | refine eqS_rfl ?_ | refine eqA_rfl ?_ | refine eqA_of (by assumption) ?_ | refine eqS_of (by rfl) ?_ | refine eqL_rfl ?_ | refine eqJ_rfl ?_ | refine flE_intro (fun _ _ => rfl) ?_ | refine seS_rfl ?_ | refine lsS_of hup ?_ | refine lsS_rfl ?_ | refine brS_tt ?_ | refine brS_ff ?_ | refine brS_not ?_ | refine brS_t (iEq_self _) ?_ | refine brS_t (by assumption) ?_ | refine brS_f (by assumption) ?_ | refine brS_intro (fun _ => ?_) (fun _ => ?_) | refine ltS_intro (by first | assumption | decide | exact Nat.le_of_ble_eq_true rfl | omega) ?_ | refine ixS_of rfl (by first | assumption | decide | omega) ?_ | refine okS_intro (by first | assumption | kernel_rfl) ?_ | refine nzS_intro (by first | decide | assumption) ?_ | intro _)
    conv => whnf
    exact ⟨rfl, by (first | (simp only [addL_eq, addL_rec]; omega) | omega | exact Nat.le_refl _)⟩
end Go.Proofs.Ytoocmgefoagfnaa
namespace Go.Proofs.Ytoocmgefoagfnaa
open Go.Ab
attribute [local irreducible] aggOk drwOK
set_option maxRecDepth 100000
set_option maxHeartbeats 4000000
set_option linter.unusedVariables false
set_option linter.unusedSimpArgs false
theorem c106 (F d c2 : Nat) (hF : 200 < F) (T : Nat) (a : Option Addr) (n e c : Nat) (hn : n ≤ 80) (ru : Nat → Nat × Nat) (x bx bb : Nat) : IterC (CL F (d + 1)) (CL F (d + 2)) (.fn 106 [] [.ptr 901 bx 0, .ptr 900 bb 0]) [(901, .own bx 50 (cl x)), (900, .own bb 24 [.int .i64 (Int.ofNat T), .sl 1000 a n c]), (1000, roR a n e ru)] ((2 * c2 + 20) * n + 100) c2 (afL ru x n).length (fun k => [cv ((afL ru x n).getD k 0)]) := by
  intro i b I Q hr m hI R
  rw [addL_eq, ← Nat.add_assoc, ← addL_eq _ 100, Nat.add_comm R]
  refine call_in (n := 41) Try.func106 rfl rfl rfl rfl rfl rfl rfl ?_
  repeat' ((conv => whnf); first | refine eqS_rfl ?_ | refine eqA_rfl ?_ | refine eqA_of (by assumption) ?_ | refine eqS_of (by rfl) ?_ | refine eqL_rfl ?_ | refine eqJ_rfl ?_ | refine flE_intro (fun _ _ => rfl) ?_ | refine seS_rfl ?_ | refine lsS_of hup ?_ | refine lsS_rfl ?_ | refine brS_tt ?_ | refine brS_ff ?_ | refine brS_not ?_ | refine brS_t (iEq_self _) ?_ | refine brS_t (by assumption) ?_ | refine brS_f (by assumption) ?_ | refine brS_intro (fun _ => ?_) (fun _ => ?_) | refine ltS_intro (by first | assumption | decide | exact Nat.le_of_ble_eq_true rfl | omega) ?_ | refine ixS_of rfl (by first | assumption | decide | omega) ?_ | refine okS_intro (by first | assumption | kernel_rfl) ?_ | refine nzS_intro (by first | decide | assumption) ?_ | refine call_pure (c74 F d x) ?_ | intro _)
  rename_i b4
  conv => whnf
  refine loS_i (fun jj f mm R' ni => ∃ (j : Nat) (m1 : Mem), j ≤ n ∧ jj = n - j + 1 ∧ f = [(0, .yf i b), (4, .ptr 500 b4 0), (10, .sl 1000 a n c), (11, .int .i64 (Int.ofNat n)), (12, .int .i64 (Int.ofNat j))] ∧ mm = [(500, .own b4 50 (cl (ng x))), (901, .own bx 50 (cl x)), (900, .own bb 24 [.int .i64 (Int.ofNat T), .sl 1000 a n c]), (1000, roR a n e ru)] ++ m1 ∧ I (afL ru x j).length m1 ∧ R' = addL ((2 * c2 + 20) * (n - j) + R) 10 ∧ ni = 502) (n + 1) (by omega)
    ⟨[(0, .yf i b), (4, .ptr 500 b4 0), (10, .sl 1000 a n c), (11, .int .i64 (Int.ofNat n)), (12, .int .i64 (Int.ofNat 0))], [(500, .own b4 50 (cl (ng x))), (901, .own bx 50 (cl x)), (900, .own bb 24 [.int .i64 (Int.ofNat T), .sl 1000 a n c]), (1000, roR a n e ru)] ++ m, addL ((2 * c2 + 20) * (n - 0) + R) 10, 502, ⟨eqF_rfl _, eqF_rfl _, eqF_rfl _, eqF_rfl _, eqF_rfl _, trivial⟩, by exact WS, by rw [Nat.sub_zero]; (first | (simp only [addL_eq, addL_rec]; omega) | omega | exact Nat.le_refl _), 0, m, by omega, by omega, rfl, rfl, hI, rfl, rfl⟩ ?_
  rintro _ _ _ _ _ ⟨j, m1, hj, rfl, rfl, rfl, hI, rfl, rfl⟩
  by_cases hlt : j < n
  · have h1 := iLt_t hlt
    obtain ⟨t, ht⟩ := afL_pre ru x (show j + 1 ≤ n by omega)
    have hb : (2 * c2 + 20) * (n - j) = (2 * c2 + 20) * (n - (j + 1)) + (2 * c2 + 20) := by rw [← Nat.mul_succ]; congr 1; omega
    by_cases e1 : (ru j).1 = ng x <;> by_cases e2 : (ru j).2 = ng x
    · have d1 := decide_eq_true e1
      have d2 := decide_eq_true e2
      have ha : afL ru x (j + 1) = afL ru x j ++ [(ru j).2, (ru j).1] := by rw [afL, if_pos e1, if_pos e2]; rfl
      have hl : (afL ru x (j + 1)).length = (afL ru x j).length + 1 + 1 := by rw [ha]; simp
      have hle : (afL ru x n).length = (afL ru x (j + 1)).length + t.length := by rw [ht, List.length_append]
      have g1 : (ru j).2 = (afL ru x n).getD (afL ru x j).length 0 := by rw [ht, ha]; simp [List.getD_eq_getElem?_getD, List.getElem?_append_right, List.getElem?_append_left]
      have g2 : (ru j).1 = (afL ru x n).getD ((afL ru x j).length + 1) 0 := by rw [ht, ha]; simp [List.getD_eq_getElem?_getD, List.getElem?_append_right, List.getElem?_append_left]
      repeat' ((conv => whnf); first | refine eqS_rfl ?_ | refine eqA_rfl ?_ | refine eqA_of (by assumption) ?_ | refine eqS_of (by rfl) ?_ | refine eqL_rfl ?_ | refine eqJ_rfl ?_ | refine flE_intro (fun _ _ => rfl) ?_ | refine seS_rfl ?_ | refine lsS_of hup ?_ | refine lsS_rfl ?_ | refine brS_tt ?_ | refine brS_ff ?_ | refine brS_not ?_ | refine brS_t (iEq_self _) ?_ | refine brS_t (by assumption) ?_ | refine brS_f (by assumption) ?_ | refine brS_intro (fun _ => ?_) (fun _ => ?_) | refine ltS_intro (by first | assumption | decide | exact Nat.le_of_ble_eq_true rfl | omega) ?_ | refine ixS_of rfl (by first | assumption | decide | omega) ?_ | refine okS_intro (by first | assumption | kernel_rfl) ?_ | refine nzS_intro (by first | decide | assumption) ?_ | refine ltS_intro (by have := lt_of_iLt ‹iLt (Int.ofNat _) (Int.ofNat _) = true›; omega) ?_ | refine ixS_of rfl (by have := lt_of_iLt ‹iLt (Int.ofNat _) (Int.ofNat _) = true›; omega) ?_ | refine agS.mk (by kernel_rfl) ?_ | refine eqvS_of (eqC _ _) ?_ | refine call_round (k := (afL ru x j).length) hI (hr ((afL ru x j).length) (by omega)) [_, _, _, _, _] (addL (((2 * c2 + 20) * (n - (j + 1)) + R) + c2) 15) (by exact congrArg (fun q => dens [cv q]) g1) (by exact WkM.refl _) (by (first | (simp only [addL_eq, addL_rec]; omega) | omega | exact Nat.le_refl _)) ?_ ?_ | refine call_round (k := (afL ru x j).length + 1) (by assumption) (hr ((afL ru x j).length + 1) (by omega)) [_, _, _, _, _] (addL (((2 * c2 + 20) * (n - (j + 1)) + R) + 0) 15) (by exact congrArg (fun q => dens [cv q]) g2) (by exact WkM.refl _) (by (first | (simp only [addL_eq, addL_rec]; omega) | omega | exact Nat.le_refl _)) ?_ ?_ | intro _)
      all_goals conv => whnf
      all_goals first
        | exact ⟨n - (j + 1) + 1, [(0, .yf i b), (4, .ptr 500 b4 0), (10, .sl 1000 a n c), (11, .int .i64 (Int.ofNat n)), (12, .int .i64 (Int.ofNat (j + 1)))], _, addL ((2 * c2 + 20) * (n - (j + 1)) + R) 10, 502, by omega, ⟨eqF_rfl _, eqF_rfl _, eqF_rfl _, eqF_rfl _, ⟨congrArg (Value.int .i64) (smn (i := j + 1) (by omega)), rfl⟩, trivial⟩, by exact WkM.drop (WkM.refl _), by (first | (simp only [addL_eq, addL_rec]; omega) | omega | exact Nat.le_refl _), j + 1, _, by omega, rfl, rfl, rfl, by rw [hl]; assumption, rfl, rfl⟩
        | exact ⟨by (first | (simp only [addL_eq, addL_rec]; omega) | omega | exact Nat.le_refl _), _, by repeat' (first | exact WkM.comm [(901, _), (900, _), (1000, _)] _ | refine WkM.drop ?_), .inr (by assumption)⟩
    · have d1 := decide_eq_true e1
      have d2 := decide_eq_false e2
      have ha : afL ru x (j + 1) = afL ru x j ++ [(ru j).2] := by rw [afL, if_pos e1, if_neg e2]; rfl
      have hl : (afL ru x (j + 1)).length = (afL ru x j).length + 1 := by rw [ha]; simp
      have hle : (afL ru x n).length = (afL ru x (j + 1)).length + t.length := by rw [ht, List.length_append]
      have g1 : (ru j).2 = (afL ru x n).getD (afL ru x j).length 0 := by rw [ht, ha]; simp [List.getD_eq_getElem?_getD, List.getElem?_append_right, List.getElem?_append_left]
      repeat' ((conv => whnf); first | refine eqS_rfl ?_ | refine eqA_rfl ?_ | refine eqA_of (by assumption) ?_ | refine eqS_of (by rfl) ?_ | refine eqL_rfl ?_ | refine eqJ_rfl ?_ | refine flE_intro (fun _ _ => rfl) ?_ | refine seS_rfl ?_ | refine lsS_of hup ?_ | refine lsS_rfl ?_ | refine brS_tt ?_ | refine brS_ff ?_ | refine brS_not ?_ | refine brS_t (iEq_self _) ?_ | refine brS_t (by assumption) ?_ | refine brS_f (by assumption) ?_ | refine brS_intro (fun _ => ?_) (fun _ => ?_) | refine ltS_intro (by first | assumption | decide | exact Nat.le_of_ble_eq_true rfl | omega) ?_ | refine ixS_of rfl (by first | assumption | decide | omega) ?_ | refine okS_intro (by first | assumption | kernel_rfl) ?_ | refine nzS_intro (by first | decide | assumption) ?_ | refine ltS_intro (by have := lt_of_iLt ‹iLt (Int.ofNat _) (Int.ofNat _) = true›; omega) ?_ | refine ixS_of rfl (by have := lt_of_iLt ‹iLt (Int.ofNat _) (Int.ofNat _) = true›; omega) ?_ | refine agS.mk (by kernel_rfl) ?_ | refine eqvS_of (eqC _ _) ?_ | refine call_round (k := (afL ru x j).length) hI (hr ((afL ru x j).length) (by omega)) [_, _, _, _, _] (addL (((2 * c2 + 20) * (n - (j + 1)) + R) + c2) 15) (by exact congrArg (fun q => dens [cv q]) g1) (by exact WkM.refl _) (by (first | (simp only [addL_eq, addL_rec]; omega) | omega | exact Nat.le_refl _)) ?_ ?_ | intro _)
      all_goals conv => whnf
      all_goals first
        | exact ⟨n - (j + 1) + 1, [(0, .yf i b), (4, .ptr 500 b4 0), (10, .sl 1000 a n c), (11, .int .i64 (Int.ofNat n)), (12, .int .i64 (Int.ofNat (j + 1)))], _, addL ((2 * c2 + 20) * (n - (j + 1)) + R) 10, 502, by omega, ⟨eqF_rfl _, eqF_rfl _, eqF_rfl _, eqF_rfl _, ⟨congrArg (Value.int .i64) (smn (i := j + 1) (by omega)), rfl⟩, trivial⟩, by exact WkM.drop (WkM.refl _), by (first | (simp only [addL_eq, addL_rec]; omega) | omega | exact Nat.le_refl _), j + 1, _, by omega, rfl, rfl, rfl, by rw [hl]; assumption, rfl, rfl⟩
        | exact ⟨by (first | (simp only [addL_eq, addL_rec]; omega) | omega | exact Nat.le_refl _), _, by repeat' (first | exact WkM.comm [(901, _), (900, _), (1000, _)] _ | refine WkM.drop ?_), .inr (by assumption)⟩
    · have d1 := decide_eq_false e1
      have d2 := decide_eq_true e2
      have ha : afL ru x (j + 1) = afL ru x j ++ [(ru j).1] := by rw [afL, if_neg e1, if_pos e2]; rfl
      have hl : (afL ru x (j + 1)).length = (afL ru x j).length + 1 := by rw [ha]; simp
      have hle : (afL ru x n).length = (afL ru x (j + 1)).length + t.length := by rw [ht, List.length_append]
      have g1 : (ru j).1 = (afL ru x n).getD (afL ru x j).length 0 := by rw [ht, ha]; simp [List.getD_eq_getElem?_getD, List.getElem?_append_right, List.getElem?_append_left]
      repeat' ((conv => whnf); first | refine eqS_rfl ?_ | refine eqA_rfl ?_ | refine eqA_of (by assumption) ?_ | refine eqS_of (by rfl) ?_ | refine eqL_rfl ?_ | refine eqJ_rfl ?_ | refine flE_intro (fun _ _ => rfl) ?_ | refine seS_rfl ?_ | refine lsS_of hup ?_ | refine lsS_rfl ?_ | refine brS_tt ?_ | refine brS_ff ?_ | refine brS_not ?_ | refine brS_t (iEq_self _) ?_ | refine brS_t (by assumption) ?_ | refine brS_f (by assumption) ?_ | refine brS_intro (fun _ => ?_) (fun _ => ?_) | refine ltS_intro (by first | assumption | decide | exact Nat.le_of_ble_eq_true rfl | omega) ?_ | refine ixS_of rfl (by first | assumption | decide | omega) ?_ | refine okS_intro (by first | assumption | kernel_rfl) ?_ | refine nzS_intro (by first | decide | assumption) ?_ | refine ltS_intro (by have := lt_of_iLt ‹iLt (Int.ofNat _) (Int.ofNat _) = true›; omega) ?_ | refine ixS_of rfl (by have := lt_of_iLt ‹iLt (Int.ofNat _) (Int.ofNat _) = true›; omega) ?_ | refine agS.mk (by kernel_rfl) ?_ | refine eqvS_of (eqC _ _) ?_ | refine call_round (k := (afL ru x j).length) hI (hr ((afL ru x j).length) (by omega)) [_, _, _, _, _] (addL (((2 * c2 + 20) * (n - (j + 1)) + R) + c2) 15) (by exact congrArg (fun q => dens [cv q]) g1) (by exact WkM.refl _) (by (first | (simp only [addL_eq, addL_rec]; omega) | omega | exact Nat.le_refl _)) ?_ ?_ | intro _)
      all_goals conv => whnf
      all_goals first
        | exact ⟨n - (j + 1) + 1, [(0, .yf i b), (4, .ptr 500 b4 0), (10, .sl 1000 a n c), (11, .int .i64 (Int.ofNat n)), (12, .int .i64 (Int.ofNat (j + 1)))], _, addL ((2 * c2 + 20) * (n - (j + 1)) + R) 10, 502, by omega, ⟨eqF_rfl _, eqF_rfl _, eqF_rfl _, eqF_rfl _, ⟨congrArg (Value.int .i64) (smn (i := j + 1) (by omega)), rfl⟩, trivial⟩, by exact WkM.drop (WkM.refl _), by (first | (simp only [addL_eq, addL_rec]; omega) | omega | exact Nat.le_refl _), j + 1, _, by omega, rfl, rfl, rfl, by rw [hl]; assumption, rfl, rfl⟩
        | exact ⟨by (first | (simp only [addL_eq, addL_rec]; omega) | omega | exact Nat.le_refl _), _, by repeat' (first | exact WkM.comm [(901, _), (900, _), (1000, _)] _ | refine WkM.drop ?_), .inr (by assumption)⟩
    · have d1 := decide_eq_false e1
      have d2 := decide_eq_false e2
      have ha : afL ru x (j + 1) = afL ru x j := by rw [afL, if_neg e1, if_neg e2]; simp
      have hl : (afL ru x (j + 1)).length = (afL ru x j).length := by rw [ha]
      have hle : (afL ru x n).length = (afL ru x (j + 1)).length + t.length := by rw [ht, List.length_append]
      repeat' ((conv => whnf); first | refine eqS_rfl ?_ | refine eqA_rfl ?_ | refine eqA_of (by assumption) ?_ | refine eqS_of (by rfl) ?_ | refine eqL_rfl ?_ | refine eqJ_rfl ?_ | refine flE_intro (fun _ _ => rfl) ?_ | refine seS_rfl ?_ | refine lsS_of hup ?_ | refine lsS_rfl ?_ | refine brS_tt ?_ | refine brS_ff ?_ | refine brS_not ?_ | refine brS_t (iEq_self _) ?_ | refine brS_t (by assumption) ?_ | refine brS_f (by assumption) ?_ | refine brS_intro (fun _ => ?_) (fun _ => ?_) | refine ltS_intro (by first | assumption | decide | exact Nat.le_of_ble_eq_true rfl | omega) ?_ | refine ixS_of rfl (by first | assumption | decide | omega) ?_ | refine okS_intro (by first | assumption | kernel_rfl) ?_ | refine nzS_intro (by first | decide | assumption) ?_ | refine ltS_intro (by have := lt_of_iLt ‹iLt (Int.ofNat _) (Int.ofNat _) = true›; omega) ?_ | refine ixS_of rfl (by have := lt_of_iLt ‹iLt (Int.ofNat _) (Int.ofNat _) = true›; omega) ?_ | refine agS.mk (by kernel_rfl) ?_ | refine eqvS_of (eqC _ _) ?_ | intro _)
      all_goals conv => whnf
      all_goals first
        | exact ⟨n - (j + 1) + 1, [(0, .yf i b), (4, .ptr 500 b4 0), (10, .sl 1000 a n c), (11, .int .i64 (Int.ofNat n)), (12, .int .i64 (Int.ofNat (j + 1)))], _, addL ((2 * c2 + 20) * (n - (j + 1)) + R) 10, 502, by omega, ⟨eqF_rfl _, eqF_rfl _, eqF_rfl _, eqF_rfl _, ⟨congrArg (Value.int .i64) (smn (i := j + 1) (by omega)), rfl⟩, trivial⟩, by exact WkM.drop (WkM.refl _), by (first | (simp only [addL_eq, addL_rec]; omega) | omega | exact Nat.le_refl _), j + 1, _, by omega, rfl, rfl, rfl, by rw [hl]; assumption, rfl, rfl⟩
        | exact ⟨by (first | (simp only [addL_eq, addL_rec]; omega) | omega | exact Nat.le_refl _), _, by repeat' (first | exact WkM.comm [(901, _), (900, _), (1000, _)] _ | refine WkM.drop ?_), .inr (by assumption)⟩
  · have e2 : j = n := by omega
    subst e2
    have h1 := iLt_f (Nat.le_refl j)
    repeat' ((conv => whnf); first | refine eqS_rfl ?_ | refine eqA_rfl ?_ | refine eqA_of (by assumption) ?_ | refine eqS_of (by rfl) ?_ | refine eqL_rfl ?_ | refine eqJ_rfl ?_ | refine flE_intro (fun _ _ => rfl) ?_ | refine seS_rfl ?_ | refine lsS_of hup ?_ | refine lsS_rfl ?_ | refine brS_tt ?_ | refine brS_ff ?_ | refine brS_not ?_ | refine brS_t (iEq_self _) ?_ | refine brS_t (by assumption) ?_ | refine brS_f (by assumption) ?_ | refine brS_intro (fun _ => ?_) (fun _ => ?_) | refine ltS_intro (by first | assumption | decide | exact Nat.le_of_ble_eq_true rfl | omega) ?_ | refine ixS_of rfl (by first | assumption | decide | omega) ?_ | refine okS_intro (by first | assumption | kernel_rfl) ?_ | refine nzS_intro (by first | decide | assumption) ?_ | intro _)
    conv => whnf
    exact ⟨by (first | (simp only [addL_eq, addL_rec]; omega) | omega | exact Nat.le_refl _), m1, by repeat' (first | exact WkM.comm [(901, _), (900, _), (1000, _)] _ | refine WkM.drop ?_), .inl hI⟩
end Go.Proofs.Ytoocmgefoagfnaa
namespace Go.Proofs.Ytoocmgefoagfnaa
open Go.Ab
attribute [local irreducible] aggOk drwOK
set_option maxRecDepth 100000
set_option maxHeartbeats 4000000
set_option linter.unusedVariables false
set_option linter.unusedSimpArgs false
theorem len1 {n : Nat} (h1 : 0 < n) (h2 : n ≤ 1000) : wr .i64 (Int.sub (Int.ofNat n) 1) = Int.ofNat (n - 1) := (sm (n := (n : Int) - 1) (by omega)).trans (by show (n : Int) - 1 = ((n - 1 : Nat) : Int); omega)
theorem getD_mem {l : List Nat} {k : Nat} (h : k < l.length) : l.getD k 0 ∈ l := by rw [List.getD_eq_getElem?_getD, List.getElem?_eq_getElem h]; exact List.getElem_mem h
theorem mem_getD {l : List Nat} {y : Nat} (h : y ∈ l) : ∃ k, k < l.length ∧ l.getD k 0 = y := by
  obtain ⟨k, hk, e⟩ := List.mem_iff_getElem.1 h
  exact ⟨k, hk, by rw [List.getD_eq_getElem?_getD, List.getElem?_eq_getElem hk]; exact e⟩
theorem afL_len (ru : Nat → Nat × Nat) (x : Nat) : ∀ n, (afL ru x n).length ≤ 2 * n
  | 0 => by simp [afL]
  | n + 1 => by
    have := afL_len ru x n
    rw [afL, List.length_append, List.length_append]
    have h1 : (if (ru n).1 = ng x then [(ru n).2] else []).length ≤ 1 := by split <;> simp
    have h2 : (if (ru n).2 = ng x then [(ru n).1] else []).length ≤ 1 := by split <;> simp
    omega
theorem c93 (F d : Nat) (hF : 200 < F) (T : Nat) (a : Option Addr) (n e c : Nat) (hn : n ≤ 80) (ru : Nat → Nat × Nat) (x y : Nat) : ReadC (CL F (d + 3)) 93 [bk T a n c, cv x, cv y] [(1000, roR a n e ru)] (8000 + 200) (.bool (decide (y ∈ afL ru x n))) := by
  intro R
  rw [show 8000 + 200 = (8000) + 200 from rfl, addL_eq, ← Nat.add_assoc, ← addL_eq _ 200, Nat.add_comm R (8000)]
  refine call_in (n := 15) Try.func93 rfl rfl rfl rfl rfl rfl rfl ?_
  repeat' ((conv => whnf); first | refine eqS_rfl ?_ | refine eqA_rfl ?_ | refine eqA_of (by assumption) ?_ | refine eqS_of (by rfl) ?_ | refine eqL_rfl ?_ | refine eqJ_rfl ?_ | refine flE_intro (fun _ _ => rfl) ?_ | refine seS_rfl ?_ | refine lsS_of hup ?_ | refine lsS_rfl ?_ | refine brS_tt ?_ | refine brS_ff ?_ | refine brS_not ?_ | refine brS_t (iEq_self _) ?_ | refine brS_t (by assumption) ?_ | refine brS_f (by assumption) ?_ | refine brS_intro (fun _ => ?_) (fun _ => ?_) | refine ltS_intro (by first | assumption | decide | exact Nat.le_of_ble_eq_true rfl | omega) ?_ | refine ixS_of rfl (by first | assumption | decide | omega) ?_ | refine okS_intro (by first | assumption | kernel_rfl) ?_ | refine nzS_intro (by first | decide | assumption) ?_ | refine call_in (n := 6) Try.func102 rfl rfl rfl rfl rfl rfl rfl ?_ | intro _)
  rename_i b0 b1x by_ br bb bx b1 b2
  have hlen := afL_len ru x n
  refine call_iter (c106 F d 20 hF T a n e c hn ru x bx bb) (fun k m => m = [(6, lopF Try.f93 0 b2 .ready none 15 [(5, .ptr 2 by_ 0), (6, .ptr 3 br 0)] b1), (dfN, .dfr [b1]), (3, .own br 4 [.bool false]), (2, .own by_ 50 (cl y))] ∧ ∀ q, q < k → (afL ru x n).getD q 0 ≠ y) (fun m => m = [(6, lopF Try.f93 0 b2 .done (some .ret) 15 [(5, .ptr 2 by_ 0), (6, .ptr 3 br 0)] b1), (dfN, .dfr [b1]), (3, .own br 4 [.bool true]), (2, .own by_ 50 (cl y))] ∧ y ∈ afL ru x n) [(6, lopF Try.f93 0 b2 .ready none 15 [(5, .ptr 2 by_ 0), (6, .ptr 3 br 0)] b1), (dfN, .dfr [b1]), (3, .own br 4 [.bool false]), (2, .own by_ 50 (cl y))] (addL R 50) (by rfl) (by exact (WkM.lop (i := 6) (j := 6) (f' := [(5, .ptr 2 by_ 0), (6, .ptr 3 br 0)]) ⟨eqF_rfl _, eqF_rfl _, trivial⟩ (WkM.refl _)).trans WS) ⟨rfl, fun q hq => absurd hq (Nat.not_lt_zero _)⟩ ?_ (by (first | (simp only [addL_eq, addL_rec]; omega) | omega | exact Nat.le_refl _)) ?_
  · rintro k hk _ ⟨rfl, hok⟩ me' R
    refine call_yield ?_
    by_cases hy : (afL ru x n).getD k 0 = y
    · have d1 := decide_eq_true hy
      repeat' ((conv => whnf); first | refine eqS_rfl ?_ | refine eqA_rfl ?_ | refine eqA_of (by assumption) ?_ | refine eqS_of (by rfl) ?_ | refine eqL_rfl ?_ | refine eqJ_rfl ?_ | refine flE_intro (fun _ _ => rfl) ?_ | refine seS_rfl ?_ | refine lsS_of hup ?_ | refine lsS_rfl ?_ | refine brS_tt ?_ | refine brS_ff ?_ | refine brS_not ?_ | refine brS_t (iEq_self _) ?_ | refine brS_t (by assumption) ?_ | refine brS_f (by assumption) ?_ | refine brS_intro (fun _ => ?_) (fun _ => ?_) | refine ltS_intro (by first | assumption | decide | exact Nat.le_of_ble_eq_true rfl | omega) ?_ | refine ixS_of rfl (by first | assumption | decide | omega) ?_ | refine okS_intro (by first | assumption | kernel_rfl) ?_ | refine nzS_intro (by first | decide | assumption) ?_ | refine agS.mk (by kernel_rfl) ?_ | refine eqvS_of (eqC _ _) ?_ | intro _)
      conv => whnf
      exact ⟨by (first | (simp only [addL_eq, addL_rec]; omega) | omega | exact Nat.le_refl _), [(6, lopF Try.f93 0 b2 .done (some .ret) 15 [(5, .ptr 2 by_ 0), (6, .ptr 3 br 0)] b1), (dfN, .dfr [b1]), (3, .own br 4 [.bool true]), (2, .own by_ 50 (cl y))], WS, .inr ⟨rfl, rfl, hy ▸ getD_mem hk⟩⟩
    · have d1 := decide_eq_false hy
      repeat' ((conv => whnf); first | refine eqS_rfl ?_ | refine eqA_rfl ?_ | refine eqA_of (by assumption) ?_ | refine eqS_of (by rfl) ?_ | refine eqL_rfl ?_ | refine eqJ_rfl ?_ | refine flE_intro (fun _ _ => rfl) ?_ | refine seS_rfl ?_ | refine lsS_of hup ?_ | refine lsS_rfl ?_ | refine brS_tt ?_ | refine brS_ff ?_ | refine brS_not ?_ | refine brS_t (iEq_self _) ?_ | refine brS_t (by assumption) ?_ | refine brS_f (by assumption) ?_ | refine brS_intro (fun _ => ?_) (fun _ => ?_) | refine ltS_intro (by first | assumption | decide | exact Nat.le_of_ble_eq_true rfl | omega) ?_ | refine ixS_of rfl (by first | assumption | decide | omega) ?_ | refine okS_intro (by first | assumption | kernel_rfl) ?_ | refine nzS_intro (by first | decide | assumption) ?_ | refine agS.mk (by kernel_rfl) ?_ | refine eqvS_of (eqC _ _) ?_ | intro _)
      conv => whnf
      refine ⟨by (first | (simp only [addL_eq, addL_rec]; omega) | omega | exact Nat.le_refl _), [(6, lopF Try.f93 0 b2 .ready none 15 [(5, .ptr 2 by_ 0), (6, .ptr 3 br 0)] b1), (dfN, .dfr [b1]), (3, .own br 4 [.bool false]), (2, .own by_ 50 (cl y))], WS, .inl ⟨rfl, rfl, fun q hq => ?_⟩⟩
      by_cases e2 : q = k
      · rw [e2]; exact hy
      · exact hok q (by omega)
  · rintro _ _ (⟨rfl, h⟩ | ⟨rfl, h⟩)
    · have hno : decide (y ∈ afL ru x n) = false := decide_eq_false fun hm => by obtain ⟨k, hk, e2⟩ := mem_getD hm; exact h k hk e2
      rw [hno]
      repeat' ((conv => whnf); first | refine eqS_rfl ?_ | refine eqA_rfl ?_ | refine eqA_of (by assumption) ?_ | refine eqS_of (by rfl) ?_ | refine eqL_rfl ?_ | refine eqJ_rfl ?_ | refine flE_intro (fun _ _ => rfl) ?_ | refine seS_rfl ?_ | refine lsS_of hup ?_ | refine lsS_rfl ?_ | refine brS_tt ?_ | refine brS_ff ?_ | refine brS_not ?_ | refine brS_t (iEq_self _) ?_ | refine brS_t (by assumption) ?_ | refine brS_f (by assumption) ?_ | refine brS_intro (fun _ => ?_) (fun _ => ?_) | refine ltS_intro (by first | assumption | decide | exact Nat.le_of_ble_eq_true rfl | omega) ?_ | refine ixS_of rfl (by first | assumption | decide | omega) ?_ | refine okS_intro (by first | assumption | kernel_rfl) ?_ | refine nzS_intro (by first | decide | assumption) ?_ | intro _)
      conv => whnf
      exact ⟨rfl, by (first | (simp only [addL_eq, addL_rec]; omega) | omega | exact Nat.le_refl _)⟩
    · rw [decide_eq_true h]
      repeat' ((conv => whnf); first | refine eqS_rfl ?_ | refine eqA_rfl ?_ | refine eqA_of (by assumption) ?_ | refine eqS_of (by rfl) ?_ | refine eqL_rfl ?_ | refine eqJ_rfl ?_ | refine flE_intro (fun _ _ => rfl) ?_ | refine seS_rfl ?_ | refine lsS_of hup ?_ | refine lsS_rfl ?_ | refine brS_tt ?_ | refine brS_ff ?_ | refine brS_not ?_ | refine brS_t (iEq_self _) ?_ | refine brS_t (by assumption) ?_ | refine brS_f (by assumption) ?_ | refine brS_intro (fun _ => ?_) (fun _ => ?_) | refine ltS_intro (by first | assumption | decide | exact Nat.le_of_ble_eq_true rfl | omega) ?_ | refine ixS_of rfl (by first | assumption | decide | omega) ?_ | refine okS_intro (by first | assumption | kernel_rfl) ?_ | refine nzS_intro (by first | decide | assumption) ?_ | intro _)
      conv => whnf
      exact ⟨rfl, by (first | (simp only [addL_eq, addL_rec]; omega) | omega | exact Nat.le_refl _)⟩
theorem all_t {n : Nat} {p : Nat → Bool} (h : ∀ k, k < n → p k = true) : (List.range n).all p = true := List.all_eq_true.2 fun k hk => h k (List.mem_range.1 hk)
theorem all_f {n : Nat} {p : Nat → Bool} {k : Nat} (hk : k < n) (h : p k = false) : (List.range n).all p = false := by
  cases e : (List.range n).all p with
  | false => rfl
  | true => rw [List.all_eq_true.1 e k (List.mem_range.2 hk)] at h; cases h
theorem c71 (F d : Nat) (hF : 200 < F) (T : Nat) (a : Option Addr) (n e c : Nat) (hn : n ≤ 80) (ru : Nat → Nat × Nat) (a2 : Option Addr) (n2 c2 : Nat) (ch : Nat → Nat) (h1 : 0 < n2) (h2 : n2 ≤ 100) (hc2 : n2 ≤ c2) : ReadC (CL F (d + 4)) 71 [bk T a n c, .sl 1001 a2 n2 c2] [(1000, roR a n e ru), (1001, roC a2 n2 51 ch)] (9000 * n2 + 100) (.bool (linkB ru n ch (n2 - 1))) := by
  intro R
  rw [addL_eq, ← Nat.add_assoc, ← addL_eq _ 100, Nat.add_comm R]
  refine call_in (n := 24) Try.func71 rfl rfl rfl rfl rfl rfl rfl ?_
  repeat' ((conv => whnf); first | refine eqS_rfl ?_ | refine eqA_rfl ?_ | refine eqA_of (by assumption) ?_ | refine eqS_of (by rfl) ?_ | refine eqL_rfl ?_ | refine eqJ_rfl ?_ | refine flE_intro (fun _ _ => rfl) ?_ | refine seS_rfl ?_ | refine lsS_of hup ?_ | refine lsS_rfl ?_ | refine brS_tt ?_ | refine brS_ff ?_ | refine brS_not ?_ | refine brS_t (iEq_self _) ?_ | refine brS_t (by assumption) ?_ | refine brS_f (by assumption) ?_ | refine brS_intro (fun _ => ?_) (fun _ => ?_) | refine ltS_intro (by first | assumption | decide | exact Nat.le_of_ble_eq_true rfl | omega) ?_ | refine ixS_of rfl (by first | assumption | decide | omega) ?_ | refine okS_intro (by first | assumption | kernel_rfl) ?_ | refine nzS_intro (by first | decide | assumption) ?_ | refine ltS_intro (Nat.lt_succ_of_le hc2) ?_ | refine ixS_of (q := 1) rfl (Nat.succ_lt_succ h1) ?_ | intro _)
  rename_i bb bq pq haq
  conv => whnf
  refine loS_i (fun jj f mm R' ni => ∃ j : Nat, j ≤ n2 - 1 ∧ jj = n2 - 1 - j + 1 ∧ (∀ q, q < j → decide (ch (1 + q) ∈ afL ru (ch q) n) = true) ∧ f = [(1, .sl 1001 a2 n2 c2), (2, .ptr 0 bb 0), (8, .sb 1001 bq pq 1 2 (n2 - 1) (c2 - 1)), (9, .int .i64 (Int.ofNat (n2 - 1))), (10, .int .i64 (Int.ofNat j))] ∧ mm = [(0, .own bb 24 [.int .i64 (Int.ofNat T), .sl 1000 a n c]), (1000, roR a n e ru), (1001, roC a2 n2 51 ch)] ∧ R' = addL (9000 * (n2 - j) + R) 20 ∧ ni = 10) (n2 - 1 + 1) (by omega)
    ⟨[(1, .sl 1001 a2 n2 c2), (2, .ptr 0 bb 0), (8, .sb 1001 bq pq 1 2 (n2 - 1) (c2 - 1)), (9, .int .i64 (Int.ofNat (n2 - 1))), (10, .int .i64 (Int.ofNat 0))], [(0, .own bb 24 [.int .i64 (Int.ofNat T), .sl 1000 a n c]), (1000, roR a n e ru), (1001, roC a2 n2 51 ch)], addL (9000 * (n2 - 0) + R) 20, 10, ⟨eqF_rfl _, eqF_rfl _, eqF_rfl _, eqF_rfl _, eqF_rfl _, trivial⟩, WkM.refl _, by rw [Nat.sub_zero]; (first | (simp only [addL_eq, addL_rec]; omega) | omega | exact Nat.le_refl _), 0, by omega, by omega, fun q hq => absurd hq (Nat.not_lt_zero _), rfl, rfl, rfl, rfl⟩ ?_
  rintro _ _ _ _ _ ⟨j, hj, rfl, hok, rfl, rfl, rfl, rfl⟩
  by_cases hlt : j < n2 - 1
  · have h3 := iLt_t hlt
    have h4 : Nat.add 1 j < n2 := by show 1 + j < n2; omega
    cases hb : decide (ch (1 + j) ∈ afL ru (ch j) n) with
    | true =>
      have hc := c93 F d hF T a n e c hn ru (ch j) (ch (1 + j))
      rw [hb] at hc
      repeat' ((conv => whnf); first | refine eqS_rfl ?_ | refine eqA_rfl ?_ | refine eqA_of (by assumption) ?_ | refine eqS_of (by rfl) ?_ | refine eqL_rfl ?_ | refine eqJ_rfl ?_ | refine flE_intro (fun _ _ => rfl) ?_ | refine seS_rfl ?_ | refine lsS_of hup ?_ | refine lsS_rfl ?_ | refine brS_tt ?_ | refine brS_ff ?_ | refine brS_not ?_ | refine brS_t (iEq_self _) ?_ | refine brS_t (by assumption) ?_ | refine brS_f (by assumption) ?_ | refine brS_intro (fun _ => ?_) (fun _ => ?_) | refine ltS_intro (by first | assumption | decide | exact Nat.le_of_ble_eq_true rfl | omega) ?_ | refine ixS_of rfl (by first | assumption | decide | omega) ?_ | refine okS_intro (by first | assumption | kernel_rfl) ?_ | refine nzS_intro (by first | decide | assumption) ?_ | refine ltS_intro (by have := lt_of_iLt ‹iLt (Int.ofNat _) (Int.ofNat _) = true›; omega) ?_ | refine ixS_of rfl (by have := lt_of_iLt ‹iLt (Int.ofNat _) (Int.ofNat _) = true›; omega) ?_ | refine call_readL hc (addL (9000 * (n2 - (j + 1)) + R) 40) (by rfl) (by exact SeesM.cons 1000 (sees_ro (i := 1000) (by rfl)) (SeesM.nil _) (fun _ _ _ _ _ _ x hx => by cases hx)) (by (first | (simp only [addL_eq, addL_rec]; omega) | omega | exact Nat.le_refl _)) ?_ | intro _)
      conv => whnf
      refine ⟨n2 - 1 - (j + 1) + 1, [(1, .sl 1001 a2 n2 c2), (2, .ptr 0 bb 0), (8, .sb 1001 bq pq 1 2 (n2 - 1) (c2 - 1)), (9, .int .i64 (Int.ofNat (n2 - 1))), (10, .int .i64 (Int.ofNat (j + 1)))], _, addL (9000 * (n2 - (j + 1)) + R) 20, 10, by omega, ⟨eqF_rfl _, eqF_rfl _, eqF_rfl _, eqF_rfl _, ⟨congrArg (Value.int .i64) (smn (i := j + 1) (by omega)), rfl⟩, trivial⟩, by exact WkM.drop (WkM.refl _), by (first | (simp only [addL_eq, addL_rec]; omega) | omega | exact Nat.le_refl _), j + 1, by omega, rfl, fun q hq => ?_, rfl, rfl, rfl, rfl⟩
      by_cases e2 : q = j
      · rw [e2]; exact hb
      · exact hok q (by omega)
    | false =>
      have hc := c93 F d hF T a n e c hn ru (ch j) (ch (1 + j))
      rw [hb] at hc
      repeat' ((conv => whnf); first | refine eqS_rfl ?_ | refine eqA_rfl ?_ | refine eqA_of (by assumption) ?_ | refine eqS_of (by rfl) ?_ | refine eqL_rfl ?_ | refine eqJ_rfl ?_ | refine flE_intro (fun _ _ => rfl) ?_ | refine seS_rfl ?_ | refine lsS_of hup ?_ | refine lsS_rfl ?_ | refine brS_tt ?_ | refine brS_ff ?_ | refine brS_not ?_ | refine brS_t (iEq_self _) ?_ | refine brS_t (by assumption) ?_ | refine brS_f (by assumption) ?_ | refine brS_intro (fun _ => ?_) (fun _ => ?_) | refine ltS_intro (by first | assumption | decide | exact Nat.le_of_ble_eq_true rfl | omega) ?_ | refine ixS_of rfl (by first | assumption | decide | omega) ?_ | refine okS_intro (by first | assumption | kernel_rfl) ?_ | refine nzS_intro (by first | decide | assumption) ?_ | refine ltS_intro (by have := lt_of_iLt ‹iLt (Int.ofNat _) (Int.ofNat _) = true›; omega) ?_ | refine ixS_of rfl (by have := lt_of_iLt ‹iLt (Int.ofNat _) (Int.ofNat _) = true›; omega) ?_ | refine call_readL hc (addL (9000 * (n2 - (j + 1)) + R) 40) (by rfl) (by exact SeesM.cons 1000 (sees_ro (i := 1000) (by rfl)) (SeesM.nil _) (fun _ _ _ _ _ _ x hx => by cases hx)) (by (first | (simp only [addL_eq, addL_rec]; omega) | omega | exact Nat.le_refl _)) ?_ | intro _)
      conv => whnf
      exact ⟨congrArg Value.bool (all_f hlt hb).symm, by (first | (simp only [addL_eq, addL_rec]; omega) | omega | exact Nat.le_refl _)⟩
  · have e2 : j = n2 - 1 := by omega
    subst e2
    have h3 := iLt_f (Nat.le_refl (n2 - 1))
    repeat' ((conv => whnf); first | refine eqS_rfl ?_ | refine eqA_rfl ?_ | refine eqA_of (by assumption) ?_ | refine eqS_of (by rfl) ?_ | refine eqL_rfl ?_ | refine eqJ_rfl ?_ | refine flE_intro (fun _ _ => rfl) ?_ | refine seS_rfl ?_ | refine lsS_of hup ?_ | refine lsS_rfl ?_ | refine brS_tt ?_ | refine brS_ff ?_ | refine brS_not ?_ | refine brS_t (iEq_self _) ?_ | refine brS_t (by assumption) ?_ | refine brS_f (by assumption) ?_ | refine brS_intro (fun _ => ?_) (fun _ => ?_) | refine ltS_intro (by first | assumption | decide | exact Nat.le_of_ble_eq_true rfl | omega) ?_ | refine ixS_of rfl (by first | assumption | decide | omega) ?_ | refine okS_intro (by first | assumption | kernel_rfl) ?_ | refine nzS_intro (by first | decide | assumption) ?_ | intro _)
    conv => whnf
    exact ⟨congrArg Value.bool (all_t hok).symm, by (first | (simp only [addL_eq, addL_rec]; omega) | omega | exact Nat.le_refl _)⟩

end Go.Proofs.Ytoocmgefoagfnaa
namespace Go.Proofs.Ytoocmgefoagfnaa
open Go.Ab
attribute [local irreducible] aggOk drwOK
set_option maxRecDepth 100000
set_option maxHeartbeats 4000000
set_option linter.unusedVariables false
set_option linter.unusedSimpArgs false
theorem c30 (F d : Nat) (hF : 200 < F) (T : Nat) (a : Option Addr) (n e c : Nat) (hT : 1 ≤ T ∧ T ≤ 24) (hn : n ≤ 80) (ru : Nat → Nat × Nat) (hr : ∀ j, j < n → (ru j).1 < 2 * T ∧ (ru j).2 < 2 * T) (a2 : Option Addr) (n2 c2 : Nat) (ch : Nat → Nat) (h2 : n2 ≤ 100) (hc2 : n2 ≤ c2) (hch : ∀ j, j < n2 → ch j < 2 * T) : ReadC (CL F (d + 5)) 30 [bk T a n c, .sl 1001 a2 n2 c2] [(1000, roR a n e ru), (1001, roC a2 n2 51 ch)] (9000 * n2 + 2500) (i64 (verE ru n ch n2)) := by
  intro R
  rw [addL_eq, show R + (9000 * n2 + 2500) = 9000 * n2 + 2400 + R + 100 by omega, ← addL_eq _ 100]
  have k26 := c26 F (d + 2) T a n e c ru (by omega) hT hn hr
  have k65 := c65 F (d + 3) T (.sl 1000 a n c) rfl a2 n2 51 c2 ch (by omega) (by omega) hch
  rcases Nat.eq_zero_or_pos n2 with e0 | h1
  · subst e0
    refine call_in (n := 29) Try.func30 rfl rfl rfl rfl rfl rfl rfl ?_
    repeat' ((conv => whnf); first | refine eqS_rfl ?_ | refine eqA_rfl ?_ | refine eqA_of (by assumption) ?_ | refine eqS_of (by rfl) ?_ | refine eqL_rfl ?_ | refine eqJ_rfl ?_ | refine flE_intro (fun _ _ => rfl) ?_ | refine seS_rfl ?_ | refine lsS_of hup ?_ | refine lsS_rfl ?_ | refine brS_tt ?_ | refine brS_ff ?_ | refine brS_not ?_ | refine brS_t (iEq_self _) ?_ | refine brS_t (by assumption) ?_ | refine brS_f (by assumption) ?_ | refine brS_intro (fun _ => ?_) (fun _ => ?_) | refine ltS_intro (by first | assumption | decide | exact Nat.le_of_ble_eq_true rfl | omega) ?_ | refine ixS_of rfl (by first | assumption | decide | omega) ?_ | refine okS_intro (by first | assumption | kernel_rfl) ?_ | refine nzS_intro (by first | decide | assumption) ?_ | refine call_readL k26 (addL (R + 9000 * 0) 40) (by rfl) (by exact SeesM.cons 1000 (sees_ro (i := 1000) (by rfl)) (SeesM.nil _) (fun _ _ _ _ _ _ x hx => by cases hx)) (by (first | (simp only [addL_eq, addL_rec]; omega) | omega | exact Nat.le_refl _)) ?_ | intro _)
    conv => whnf
    exact ⟨rfl, by (first | (simp only [addL_eq, addL_rec]; omega) | omega | exact Nat.le_refl _)⟩
  · have t1 : iEq (Int.ofNat n2) 0 = false := (iEq_n (a := n2) (b := 0)).trans (decide_eq_false (by omega))
    have t2 : iLt 100 (Int.ofNat n2) = false := iLt_f (a := 100) (b := n2) h2
    have k71 := c71 F d hF T a n e c hn ru a2 n2 c2 ch h1 h2 hc2
    have ev : verE ru n ch n2 = if linkB ru n ch (n2 - 1) = true then 0 else 14 := by unfold verE; rw [if_neg (by omega)]
    rw [ev]
    cases hb : linkB ru n ch (n2 - 1) with
    | true =>
      rw [hb] at k71
      refine call_in (n := 29) Try.func30 rfl rfl rfl rfl rfl rfl rfl ?_
      repeat' ((conv => whnf); first | refine eqS_rfl ?_ | refine eqA_rfl ?_ | refine eqA_of (by assumption) ?_ | refine eqS_of (by rfl) ?_ | refine eqL_rfl ?_ | refine eqJ_rfl ?_ | refine flE_intro (fun _ _ => rfl) ?_ | refine seS_rfl ?_ | refine lsS_of hup ?_ | refine lsS_rfl ?_ | refine brS_tt ?_ | refine brS_ff ?_ | refine brS_not ?_ | refine brS_t (iEq_self _) ?_ | refine brS_t (by assumption) ?_ | refine brS_f (by assumption) ?_ | refine brS_intro (fun _ => ?_) (fun _ => ?_) | refine ltS_intro (by first | assumption | decide | exact Nat.le_of_ble_eq_true rfl | omega) ?_ | refine ixS_of rfl (by first | assumption | decide | omega) ?_ | refine okS_intro (by first | assumption | kernel_rfl) ?_ | refine nzS_intro (by first | decide | assumption) ?_ | refine call_readL k26 (addL (R + 9000 * n2) 300) (by rfl) (by exact SeesM.cons 1000 (sees_ro (i := 1000) (by rfl)) (SeesM.nil _) (fun _ _ _ _ _ _ x hx => by cases hx)) (by (first | (simp only [addL_eq, addL_rec]; omega) | omega | exact Nat.le_refl _)) ?_ | refine call_readL k65 (addL (R + 9000 * n2) 180) (by rfl) (by exact SeesM.cons 1001 (sees_ro (i := 1001) (by rfl)) (SeesM.nil _) (fun _ _ _ _ _ _ x hx => by cases hx)) (by (first | (simp only [addL_eq, addL_rec]; omega) | omega | exact Nat.le_refl _)) ?_ | refine call_readL k71 (addL R 10) (by rfl) (by exact SeesM.cons 1000 (sees_ro (i := 1000) (by rfl)) (SeesM.cons 1001 (sees_ro (i := 1001) (by rfl)) (SeesM.nil _) (fun _ _ _ _ _ _ x hx => by cases hx)) (fun _ _ _ _ _ _ x hx => by rcases List.mem_singleton.1 hx with rfl; exact fun _ h => h)) (by (first | (simp only [addL_eq, addL_rec]; omega) | omega | exact Nat.le_refl _)) ?_ | intro _)
      conv => whnf
      exact ⟨rfl, by (first | (simp only [addL_eq, addL_rec]; omega) | omega | exact Nat.le_refl _)⟩
    | false =>
      rw [hb] at k71
      refine call_in (n := 29) Try.func30 rfl rfl rfl rfl rfl rfl rfl ?_
      repeat' ((conv => whnf); first | refine eqS_rfl ?_ | refine eqA_rfl ?_ | refine eqA_of (by assumption) ?_ | refine eqS_of (by rfl) ?_ | refine eqL_rfl ?_ | refine eqJ_rfl ?_ | refine flE_intro (fun _ _ => rfl) ?_ | refine seS_rfl ?_ | refine lsS_of hup ?_ | refine lsS_rfl ?_ | refine brS_tt ?_ | refine brS_ff ?_ | refine brS_not ?_ | refine brS_t (iEq_self _) ?_ | refine brS_t (by assumption) ?_ | refine brS_f (by assumption) ?_ | refine brS_intro (fun _ => ?_) (fun _ => ?_) | refine ltS_intro (by first | assumption | decide | exact Nat.le_of_ble_eq_true rfl | omega) ?_ | refine ixS_of rfl (by first | assumption | decide | omega) ?_ | refine okS_intro (by first | assumption | kernel_rfl) ?_ | refine nzS_intro (by first | decide | assumption) ?_ | refine call_readL k26 (addL (R + 9000 * n2) 300) (by rfl) (by exact SeesM.cons 1000 (sees_ro (i := 1000) (by rfl)) (SeesM.nil _) (fun _ _ _ _ _ _ x hx => by cases hx)) (by (first | (simp only [addL_eq, addL_rec]; omega) | omega | exact Nat.le_refl _)) ?_ | refine call_readL k65 (addL (R + 9000 * n2) 180) (by rfl) (by exact SeesM.cons 1001 (sees_ro (i := 1001) (by rfl)) (SeesM.nil _) (fun _ _ _ _ _ _ x hx => by cases hx)) (by (first | (simp only [addL_eq, addL_rec]; omega) | omega | exact Nat.le_refl _)) ?_ | refine call_readL k71 (addL R 10) (by rfl) (by exact SeesM.cons 1000 (sees_ro (i := 1000) (by rfl)) (SeesM.cons 1001 (sees_ro (i := 1001) (by rfl)) (SeesM.nil _) (fun _ _ _ _ _ _ x hx => by cases hx)) (fun _ _ _ _ _ _ x hx => by rcases List.mem_singleton.1 hx with rfl; exact fun _ h => h)) (by (first | (simp only [addL_eq, addL_rec]; omega) | omega | exact Nat.le_refl _)) ?_ | intro _)
      conv => whnf
      exact ⟨rfl, by (first | (simp only [addL_eq, addL_rec]; omega) | omega | exact Nat.le_refl _)⟩
theorem c34 (F d : Nat) (hF : 200 < F) (T : Nat) (a : Option Addr) (n e c : Nat) (hT : 1 ≤ T ∧ T ≤ 24) (hn : n ≤ 80) (ru : Nat → Nat × Nat) (hr : ∀ j, j < n → (ru j).1 < 2 * T ∧ (ru j).2 < 2 * T) (a2 : Option Addr) (n2 c2 : Nat) (ch : Nat → Nat) (h2 : n2 ≤ 100) (hc2 : n2 ≤ c2) (hch : ∀ j, j < n2 → ch j < 2 * T) (a3 : Option Addr) (n3 c3 : Nat) (ch3 : Nat → Nat) (h3 : n3 ≤ 100) (hc3 : n3 ≤ c3) (hch3 : ∀ j, j < n3 → ch3 j < 2 * T) : ReadC (CL F (d + 6)) 34 [bk T a n c, .sl 1001 a2 n2 c2, .sl 1002 a3 n3 c3] [(1000, roR a n e ru), (1001, roC a2 n2 51 ch), (1002, roC a3 n3 51 ch3)] (9000 * n2 + 9000 * n3 + 5200) (i64 (prE ru n ch n2 ch3 n3)) := by
  intro R
  rw [addL_eq, show R + (9000 * n2 + 9000 * n3 + 5200) = 9000 * n2 + 9000 * n3 + 5100 + R + 100 by omega, ← addL_eq _ 100]
  have k1 := c30 F d hF T a n e c hT hn ru hr a2 n2 c2 ch h2 hc2 hch
  have k2 := c30 F d hF T a n e c hT hn ru hr a3 n3 c3 ch3 h3 hc3 hch3
  by_cases v1 : verE ru n ch n2 = 0
  · by_cases v2 : verE ru n ch3 n3 = 0
    · have p1 := verE_pos v1
      have p2 := verE_pos v2
      have i1 := len1 p1 (by omega)
      have i2 := len1 p2 (by omega)
      have q1 : n2 - 1 < n2 := by omega
      have q2 : n3 - 1 < n3 := by omega
      rw [v1] at k1
      rw [v2] at k2
      have ev : prE ru n ch n2 ch3 n3 = if ch (n2 - 1) = ng (ch 0) ∧ ch3 0 = ch (n2 - 1) ∧ ch3 (n3 - 1) = ch 0 then 0 else 12 := by unfold prE; rw [if_neg (by simp [v1]), if_neg (by simp [v2])]
      rw [ev]
      by_cases g1 : ch (n2 - 1) = ng (ch 0)
      · have d1 := decide_eq_true g1
        by_cases g2 : ch3 0 = ch (n2 - 1)
        · have d2 := decide_eq_true g2
          by_cases g3 : ch3 (n3 - 1) = ch 0
          · have d3 := decide_eq_true g3
            rw [if_pos ⟨g1, g2, g3⟩]
            refine call_in (n := 53) Try.func34 rfl rfl rfl rfl rfl rfl rfl ?_
            repeat' ((conv => whnf); first | refine eqS_rfl ?_ | refine eqA_rfl ?_ | refine eqA_of (by assumption) ?_ | refine eqS_of (by rfl) ?_ | refine eqL_rfl ?_ | refine eqJ_rfl ?_ | refine flE_intro (fun _ _ => rfl) ?_ | refine seS_rfl ?_ | refine lsS_of hup ?_ | refine lsS_rfl ?_ | refine brS_tt ?_ | refine brS_ff ?_ | refine brS_not ?_ | refine brS_t (iEq_self _) ?_ | refine brS_t (by assumption) ?_ | refine brS_f (by assumption) ?_ | refine brS_intro (fun _ => ?_) (fun _ => ?_) | refine ltS_intro (by first | assumption | decide | exact Nat.le_of_ble_eq_true rfl | omega) ?_ | refine ixS_of rfl (by first | assumption | decide | omega) ?_ | refine okS_intro (by first | assumption | kernel_rfl) ?_ | refine nzS_intro (by first | decide | assumption) ?_ | refine ltS_intro (by assumption) ?_ | refine ixS_of (q := 0) rfl (by assumption) ?_ | refine ixS_of i1 q1 ?_ | refine ixS_of i2 q2 ?_ | refine call_pure (c74 F _ _) ?_ | refine call_readL k1 (addL (9000 * n3 + 2500 + R) 60) (by rfl) (by exact SeesM.cons 1000 (sees_ro (i := 1000) (by rfl)) (SeesM.cons 1001 (sees_ro (i := 1001) (by rfl)) (SeesM.nil _) (fun _ _ _ _ _ _ x hx => by cases hx)) (fun _ _ _ _ _ _ x hx => by rcases List.mem_singleton.1 hx with rfl; exact fun _ h => h)) (by (first | (simp only [addL_eq, addL_rec]; omega) | omega | exact Nat.le_refl _)) ?_ | refine call_readL k2 (addL R 50) (by rfl) (by exact SeesM.cons 1000 (sees_ro (i := 1000) (by rfl)) (SeesM.cons 1001 (sees_ro (i := 1002) (by rfl)) (SeesM.nil _) (fun _ _ _ _ _ _ x hx => by cases hx)) (fun _ _ _ _ _ _ x hx => by rcases List.mem_singleton.1 hx with rfl; exact fun _ h => h)) (by (first | (simp only [addL_eq, addL_rec]; omega) | omega | exact Nat.le_refl _)) ?_ | refine agS.mk (by kernel_rfl) ?_ | refine eqvS_of (eqC _ _) ?_ | intro _)
            conv => whnf
            exact ⟨rfl, by (first | (simp only [addL_eq, addL_rec]; omega) | omega | exact Nat.le_refl _)⟩
          · have d3 := decide_eq_false g3
            rw [if_neg fun h => g3 h.2.2]
            refine call_in (n := 53) Try.func34 rfl rfl rfl rfl rfl rfl rfl ?_
            repeat' ((conv => whnf); first | refine eqS_rfl ?_ | refine eqA_rfl ?_ | refine eqA_of (by assumption) ?_ | refine eqS_of (by rfl) ?_ | refine eqL_rfl ?_ | refine eqJ_rfl ?_ | refine flE_intro (fun _ _ => rfl) ?_ | refine seS_rfl ?_ | refine lsS_of hup ?_ | refine lsS_rfl ?_ | refine brS_tt ?_ | refine brS_ff ?_ | refine brS_not ?_ | refine brS_t (iEq_self _) ?_ | refine brS_t (by assumption) ?_ | refine brS_f (by assumption) ?_ | refine brS_intro (fun _ => ?_) (fun _ => ?_) | refine ltS_intro (by first | assumption | decide | exact Nat.le_of_ble_eq_true rfl | omega) ?_ | refine ixS_of rfl (by first | assumption | decide | omega) ?_ | refine okS_intro (by first | assumption | kernel_rfl) ?_ | refine nzS_intro (by first | decide | assumption) ?_ | refine ltS_intro (by assumption) ?_ | refine ixS_of (q := 0) rfl (by assumption) ?_ | refine ixS_of i1 q1 ?_ | refine ixS_of i2 q2 ?_ | refine call_pure (c74 F _ _) ?_ | refine call_readL k1 (addL (9000 * n3 + 2500 + R) 60) (by rfl) (by exact SeesM.cons 1000 (sees_ro (i := 1000) (by rfl)) (SeesM.cons 1001 (sees_ro (i := 1001) (by rfl)) (SeesM.nil _) (fun _ _ _ _ _ _ x hx => by cases hx)) (fun _ _ _ _ _ _ x hx => by rcases List.mem_singleton.1 hx with rfl; exact fun _ h => h)) (by (first | (simp only [addL_eq, addL_rec]; omega) | omega | exact Nat.le_refl _)) ?_ | refine call_readL k2 (addL R 50) (by rfl) (by exact SeesM.cons 1000 (sees_ro (i := 1000) (by rfl)) (SeesM.cons 1001 (sees_ro (i := 1002) (by rfl)) (SeesM.nil _) (fun _ _ _ _ _ _ x hx => by cases hx)) (fun _ _ _ _ _ _ x hx => by rcases List.mem_singleton.1 hx with rfl; exact fun _ h => h)) (by (first | (simp only [addL_eq, addL_rec]; omega) | omega | exact Nat.le_refl _)) ?_ | refine agS.mk (by kernel_rfl) ?_ | refine eqvS_of (eqC _ _) ?_ | intro _)
            conv => whnf
            exact ⟨rfl, by (first | (simp only [addL_eq, addL_rec]; omega) | omega | exact Nat.le_refl _)⟩
        · have d2 := decide_eq_false g2
          rw [if_neg fun h => g2 h.2.1]
          refine call_in (n := 53) Try.func34 rfl rfl rfl rfl rfl rfl rfl ?_
          repeat' ((conv => whnf); first | refine eqS_rfl ?_ | refine eqA_rfl ?_ | refine eqA_of (by assumption) ?_ | refine eqS_of (by rfl) ?_ | refine eqL_rfl ?_ | refine eqJ_rfl ?_ | refine flE_intro (fun _ _ => rfl) ?_ | refine seS_rfl ?_ | refine lsS_of hup ?_ | refine lsS_rfl ?_ | refine brS_tt ?_ | refine brS_ff ?_ | refine brS_not ?_ | refine brS_t (iEq_self _) ?_ | refine brS_t (by assumption) ?_ | refine brS_f (by assumption) ?_ | refine brS_intro (fun _ => ?_) (fun _ => ?_) | refine ltS_intro (by first | assumption | decide | exact Nat.le_of_ble_eq_true rfl | omega) ?_ | refine ixS_of rfl (by first | assumption | decide | omega) ?_ | refine okS_intro (by first | assumption | kernel_rfl) ?_ | refine nzS_intro (by first | decide | assumption) ?_ | refine ltS_intro (by assumption) ?_ | refine ixS_of (q := 0) rfl (by assumption) ?_ | refine ixS_of i1 q1 ?_ | refine ixS_of i2 q2 ?_ | refine call_pure (c74 F _ _) ?_ | refine call_readL k1 (addL (9000 * n3 + 2500 + R) 60) (by rfl) (by exact SeesM.cons 1000 (sees_ro (i := 1000) (by rfl)) (SeesM.cons 1001 (sees_ro (i := 1001) (by rfl)) (SeesM.nil _) (fun _ _ _ _ _ _ x hx => by cases hx)) (fun _ _ _ _ _ _ x hx => by rcases List.mem_singleton.1 hx with rfl; exact fun _ h => h)) (by (first | (simp only [addL_eq, addL_rec]; omega) | omega | exact Nat.le_refl _)) ?_ | refine call_readL k2 (addL R 50) (by rfl) (by exact SeesM.cons 1000 (sees_ro (i := 1000) (by rfl)) (SeesM.cons 1001 (sees_ro (i := 1002) (by rfl)) (SeesM.nil _) (fun _ _ _ _ _ _ x hx => by cases hx)) (fun _ _ _ _ _ _ x hx => by rcases List.mem_singleton.1 hx with rfl; exact fun _ h => h)) (by (first | (simp only [addL_eq, addL_rec]; omega) | omega | exact Nat.le_refl _)) ?_ | refine agS.mk (by kernel_rfl) ?_ | refine eqvS_of (eqC _ _) ?_ | intro _)
          conv => whnf
          exact ⟨rfl, by (first | (simp only [addL_eq, addL_rec]; omega) | omega | exact Nat.le_refl _)⟩
      · have d1 := decide_eq_false g1
        rw [if_neg fun h => g1 h.1]
        refine call_in (n := 53) Try.func34 rfl rfl rfl rfl rfl rfl rfl ?_
        repeat' ((conv => whnf); first | refine eqS_rfl ?_ | refine eqA_rfl ?_ | refine eqA_of (by assumption) ?_ | refine eqS_of (by rfl) ?_ | refine eqL_rfl ?_ | refine eqJ_rfl ?_ | refine flE_intro (fun _ _ => rfl) ?_ | refine seS_rfl ?_ | refine lsS_of hup ?_ | refine lsS_rfl ?_ | refine brS_tt ?_ | refine brS_ff ?_ | refine brS_not ?_ | refine brS_t (iEq_self _) ?_ | refine brS_t (by assumption) ?_ | refine brS_f (by assumption) ?_ | refine brS_intro (fun _ => ?_) (fun _ => ?_) | refine ltS_intro (by first | assumption | decide | exact Nat.le_of_ble_eq_true rfl | omega) ?_ | refine ixS_of rfl (by first | assumption | decide | omega) ?_ | refine okS_intro (by first | assumption | kernel_rfl) ?_ | refine nzS_intro (by first | decide | assumption) ?_ | refine ltS_intro (by assumption) ?_ | refine ixS_of (q := 0) rfl (by assumption) ?_ | refine ixS_of i1 q1 ?_ | refine ixS_of i2 q2 ?_ | refine call_pure (c74 F _ _) ?_ | refine call_readL k1 (addL (9000 * n3 + 2500 + R) 60) (by rfl) (by exact SeesM.cons 1000 (sees_ro (i := 1000) (by rfl)) (SeesM.cons 1001 (sees_ro (i := 1001) (by rfl)) (SeesM.nil _) (fun _ _ _ _ _ _ x hx => by cases hx)) (fun _ _ _ _ _ _ x hx => by rcases List.mem_singleton.1 hx with rfl; exact fun _ h => h)) (by (first | (simp only [addL_eq, addL_rec]; omega) | omega | exact Nat.le_refl _)) ?_ | refine call_readL k2 (addL R 50) (by rfl) (by exact SeesM.cons 1000 (sees_ro (i := 1000) (by rfl)) (SeesM.cons 1001 (sees_ro (i := 1002) (by rfl)) (SeesM.nil _) (fun _ _ _ _ _ _ x hx => by cases hx)) (fun _ _ _ _ _ _ x hx => by rcases List.mem_singleton.1 hx with rfl; exact fun _ h => h)) (by (first | (simp only [addL_eq, addL_rec]; omega) | omega | exact Nat.le_refl _)) ?_ | refine agS.mk (by kernel_rfl) ?_ | refine eqvS_of (eqC _ _) ?_ | intro _)
        conv => whnf
        exact ⟨rfl, by (first | (simp only [addL_eq, addL_rec]; omega) | omega | exact Nat.le_refl _)⟩
    · have e2 : iEq (verE ru n ch3 n3) 0 = false := by rw [iEq_eq]; exact decide_eq_false v2
      have ev : prE ru n ch n2 ch3 n3 = verE ru n ch3 n3 := by unfold prE; rw [if_neg (by simp [v1]), if_pos v2]
      rw [v1] at k1
      rw [ev]
      refine call_in (n := 53) Try.func34 rfl rfl rfl rfl rfl rfl rfl ?_
      repeat' ((conv => whnf); first | refine eqS_rfl ?_ | refine eqA_rfl ?_ | refine eqA_of (by assumption) ?_ | refine eqS_of (by rfl) ?_ | refine eqL_rfl ?_ | refine eqJ_rfl ?_ | refine flE_intro (fun _ _ => rfl) ?_ | refine seS_rfl ?_ | refine lsS_of hup ?_ | refine lsS_rfl ?_ | refine brS_tt ?_ | refine brS_ff ?_ | refine brS_not ?_ | refine brS_t (iEq_self _) ?_ | refine brS_t (by assumption) ?_ | refine brS_f (by assumption) ?_ | refine brS_intro (fun _ => ?_) (fun _ => ?_) | refine ltS_intro (by first | assumption | decide | exact Nat.le_of_ble_eq_true rfl | omega) ?_ | refine ixS_of rfl (by first | assumption | decide | omega) ?_ | refine okS_intro (by first | assumption | kernel_rfl) ?_ | refine nzS_intro (by first | decide | assumption) ?_ | refine ltS_intro (by assumption) ?_ | refine ixS_of (q := 0) rfl (by assumption) ?_ | refine ixS_of i1 q1 ?_ | refine ixS_of i2 q2 ?_ | refine call_pure (c74 F _ _) ?_ | refine call_readL k1 (addL (9000 * n3 + 2500 + R) 60) (by rfl) (by exact SeesM.cons 1000 (sees_ro (i := 1000) (by rfl)) (SeesM.cons 1001 (sees_ro (i := 1001) (by rfl)) (SeesM.nil _) (fun _ _ _ _ _ _ x hx => by cases hx)) (fun _ _ _ _ _ _ x hx => by rcases List.mem_singleton.1 hx with rfl; exact fun _ h => h)) (by (first | (simp only [addL_eq, addL_rec]; omega) | omega | exact Nat.le_refl _)) ?_ | refine call_readL k2 (addL R 50) (by rfl) (by exact SeesM.cons 1000 (sees_ro (i := 1000) (by rfl)) (SeesM.cons 1001 (sees_ro (i := 1002) (by rfl)) (SeesM.nil _) (fun _ _ _ _ _ _ x hx => by cases hx)) (fun _ _ _ _ _ _ x hx => by rcases List.mem_singleton.1 hx with rfl; exact fun _ h => h)) (by (first | (simp only [addL_eq, addL_rec]; omega) | omega | exact Nat.le_refl _)) ?_ | refine agS.mk (by kernel_rfl) ?_ | refine eqvS_of (eqC _ _) ?_ | intro _)
      conv => whnf
      exact ⟨rfl, by (first | (simp only [addL_eq, addL_rec]; omega) | omega | exact Nat.le_refl _)⟩
  · have e1 : iEq (verE ru n ch n2) 0 = false := by rw [iEq_eq]; exact decide_eq_false v1
    have ev : prE ru n ch n2 ch3 n3 = verE ru n ch n2 := by unfold prE; rw [if_pos v1]
    rw [ev]
    refine call_in (n := 53) Try.func34 rfl rfl rfl rfl rfl rfl rfl ?_
    repeat' ((conv => whnf); first | refine eqS_rfl ?_ | refine eqA_rfl ?_ | refine eqA_of (by assumption) ?_ | refine eqS_of (by rfl) ?_ | refine eqL_rfl ?_ | refine eqJ_rfl ?_ | refine flE_intro (fun _ _ => rfl) ?_ | refine seS_rfl ?_ | refine lsS_of hup ?_ | refine lsS_rfl ?_ | refine brS_tt ?_ | refine brS_ff ?_ | refine brS_not ?_ | refine brS_t (iEq_self _) ?_ | refine brS_t (by assumption) ?_ | refine brS_f (by assumption) ?_ | refine brS_intro (fun _ => ?_) (fun _ => ?_) | refine ltS_intro (by first | assumption | decide | exact Nat.le_of_ble_eq_true rfl | omega) ?_ | refine ixS_of rfl (by first | assumption | decide | omega) ?_ | refine okS_intro (by first | assumption | kernel_rfl) ?_ | refine nzS_intro (by first | decide | assumption) ?_ | refine ltS_intro (by assumption) ?_ | refine ixS_of (q := 0) rfl (by assumption) ?_ | refine ixS_of i1 q1 ?_ | refine ixS_of i2 q2 ?_ | refine call_pure (c74 F _ _) ?_ | refine call_readL k1 (addL (9000 * n3 + 2500 + R) 60) (by rfl) (by exact SeesM.cons 1000 (sees_ro (i := 1000) (by rfl)) (SeesM.cons 1001 (sees_ro (i := 1001) (by rfl)) (SeesM.nil _) (fun _ _ _ _ _ _ x hx => by cases hx)) (fun _ _ _ _ _ _ x hx => by rcases List.mem_singleton.1 hx with rfl; exact fun _ h => h)) (by (first | (simp only [addL_eq, addL_rec]; omega) | omega | exact Nat.le_refl _)) ?_ | refine call_readL k2 (addL R 50) (by rfl) (by exact SeesM.cons 1000 (sees_ro (i := 1000) (by rfl)) (SeesM.cons 1001 (sees_ro (i := 1002) (by rfl)) (SeesM.nil _) (fun _ _ _ _ _ _ x hx => by cases hx)) (fun _ _ _ _ _ _ x hx => by rcases List.mem_singleton.1 hx with rfl; exact fun _ h => h)) (by (first | (simp only [addL_eq, addL_rec]; omega) | omega | exact Nat.le_refl _)) ?_ | refine agS.mk (by kernel_rfl) ?_ | refine eqvS_of (eqC _ _) ?_ | intro _)
    conv => whnf
    exact ⟨rfl, by (first | (simp only [addL_eq, addL_rec]; omega) | omega | exact Nat.le_refl _)⟩
end Go.Proofs.Ytoocmgefoagfnaa
namespace Go.Proofs.Ytoocmgefoagfnaa
open Go.Ab
attribute [local irreducible] aggOk drwOK
set_option maxRecDepth 100000
set_option maxHeartbeats 4000000
set_option linter.unusedVariables false
set_option linter.unusedSimpArgs false
theorem shr_nat (m t : Nat) (ht : t ≤ 63) : shrV .i64 (Int.ofNat m) t = Int.ofNat (m / 2 ^ t) := by
  unfold shrV
  rw [show min t IntKind.i64.bits = t by have : IntKind.i64.bits = 64 := rfl; omega, Int.fdiv_eq_ediv_of_nonneg _ (by exact Int.le_of_lt (Int.pow_pos (by decide)))]
  show ((m : Int)) / ((2 : Int) ^ t) = ((m / 2 ^ t : Nat) : Int)
  rw [Int.natCast_ediv, Int.natCast_pow]; rfl
theorem and_1 (m : Nat) (hm : m < 2 ^ 62) : andI .i64 (Int.ofNat m) 1 = Int.ofNat (m % 2) := by
  show IntKind.i64.wrap (((BitVec.ofNat 64 m &&& BitVec.ofNat 64 1 : BitVec 64).toNat : Nat) : Int) = _
  rw [BitVec.toNat_and, BitVec.toNat_ofNat, BitVec.toNat_ofNat, Nat.mod_eq_of_lt (show m < 2 ^ 64 by omega), show 1 % 2 ^ 64 = 2 ^ 1 - 1 from rfl, Nat.and_two_pow_sub_one_eq_mod, Nat.pow_one, ← wr_eq]
  exact smn (i := m % 2) (by omega)
theorem c47 (F d : Nat) (x bits : Nat) (hx : x / 2 ≤ 60) (hb : bits < 2 ^ 60) : PureC (CL F (d + 1)) 47 [cv x, .int .i64 (Int.ofNat bits)] 11 (.bool (trB bits x)) := by
  have e1 := shr_nat bits (x / 2) (by omega)
  have e2 := and_1 (bits / 2 ^ (x / 2)) (by have := Nat.div_le_self bits (2 ^ (x / 2)); omega)
  have e3 : iEq (andI .i64 (shrV .i64 (Int.ofNat bits) (x / 2)) 1) 1 = tb bits (x / 2) := by
    rw [e1, e2, show (1 : Int) = Int.ofNat 1 from rfl, iEq_n]
    unfold tb
    rw [Bool.eq_iff_iff]; simp
  intro m R
  refine call_in (n := 14) Try.func47 rfl rfl rfl rfl rfl rfl rfl ?_
  repeat' ((conv => whnf); first | refine eqS_rfl ?_ | refine eqA_rfl ?_ | refine eqA_of (by assumption) ?_ | refine eqS_of (by rfl) ?_ | refine eqL_rfl ?_ | refine eqJ_rfl ?_ | refine flE_intro (fun _ _ => rfl) ?_ | refine seS_rfl ?_ | refine lsS_of hup ?_ | refine lsS_rfl ?_ | refine brS_tt ?_ | refine brS_ff ?_ | refine brS_not ?_ | refine brS_t (iEq_self _) ?_ | refine brS_t (by assumption) ?_ | refine brS_f (by assumption) ?_ | refine brS_intro (fun _ => ?_) (fun _ => ?_) | refine ltS_intro (by first | assumption | decide | exact Nat.le_of_ble_eq_true rfl | omega) ?_ | refine ixS_of rfl (by first | assumption | decide | omega) ?_ | refine okS_intro (by first | assumption | kernel_rfl) ?_ | refine nzS_intro (by first | decide | assumption) ?_ | intro _)
  all_goals (conv => whnf)
  all_goals refine ⟨?_, by repeat' (first | exact WkM.refl _ | refine WkM.drop ?_), by repeat' (first | exact Nat.le_refl _ | refine Nat.le_succ_of_le ?_)⟩
  all_goals ((refine congrArg Value.bool ?_; unfold trB; rw [← e3]))

theorem c82 (F d : Nat) (hF : 200 < F) (T : Nat) (a : Option Addr) (n e c : Nat) (hn : n ≤ 80) (ru : Nat → Nat × Nat) (x y : Nat) : ReadC (CL F (d + 2)) 82 [bk T a n c, cv x, cv y] [(1000, roR a n e ru)] (3300 + 100) (.bool (decide (y ∈ afL ru x n))) := by
  intro R
  rw [show 3300 + 100 = (3300) + 100 from rfl, addL_eq, ← Nat.add_assoc, ← addL_eq _ 100, Nat.add_comm R (3300)]
  refine call_in (n := 41) Try.func82 rfl rfl rfl rfl rfl rfl rfl ?_
  repeat' ((conv => whnf); first | refine eqS_rfl ?_ | refine eqA_rfl ?_ | refine eqA_of (by assumption) ?_ | refine eqS_of (by rfl) ?_ | refine eqL_rfl ?_ | refine eqJ_rfl ?_ | refine flE_intro (fun _ _ => rfl) ?_ | refine seS_rfl ?_ | refine lsS_of hup ?_ | refine lsS_rfl ?_ | refine brS_tt ?_ | refine brS_ff ?_ | refine brS_not ?_ | refine brS_t (iEq_self _) ?_ | refine brS_t (by assumption) ?_ | refine brS_f (by assumption) ?_ | refine brS_intro (fun _ => ?_) (fun _ => ?_) | refine ltS_intro (by first | assumption | decide | exact Nat.le_of_ble_eq_true rfl | omega) ?_ | refine ixS_of rfl (by first | assumption | decide | omega) ?_ | refine okS_intro (by first | assumption | kernel_rfl) ?_ | refine nzS_intro (by first | decide | assumption) ?_ | intro _)
  rename_i bb bx by_
  conv => whnf
  refine loS_i (fun jj f mm R' ni => ∃ j : Nat, j ≤ n ∧ jj = n - j + 1 ∧ y ∉ afL ru x j ∧ f = [(3, .ptr 0 bb 0), (4, .ptr 1 bx 0), (5, .ptr 2 by_ 0), (10, .sl 1000 a n c), (11, .int .i64 (Int.ofNat n)), (12, .int .i64 (Int.ofNat j))] ∧ mm = [(2, .own by_ 50 (cl y)), (1, .own bx 50 (cl x)), (0, .own bb 24 [.int .i64 (Int.ofNat T), .sl 1000 a n c]), (1000, roR a n e ru)] ∧ R' = addL (40 * (n - j) + R) 35 ∧ ni = 10) (n + 1) (by omega)
    ⟨[(3, .ptr 0 bb 0), (4, .ptr 1 bx 0), (5, .ptr 2 by_ 0), (10, .sl 1000 a n c), (11, .int .i64 (Int.ofNat n)), (12, .int .i64 (Int.ofNat 0))], [(2, .own by_ 50 (cl y)), (1, .own bx 50 (cl x)), (0, .own bb 24 [.int .i64 (Int.ofNat T), .sl 1000 a n c]), (1000, roR a n e ru)], addL (40 * (n - 0) + R) 35, 10, ⟨eqF_rfl _, eqF_rfl _, eqF_rfl _, eqF_rfl _, eqF_rfl _, eqF_rfl _, trivial⟩, WkM.refl _, by (first | (simp only [addL_eq, addL_rec]; omega) | omega | exact Nat.le_refl _), 0, by omega, by omega, by simp [afL], rfl, rfl, rfl, rfl⟩ ?_
  rintro _ _ _ _ _ ⟨j, hj, rfl, hno, rfl, rfl, rfl, rfl⟩
  by_cases hlt : j < n
  · have h1 := iLt_t hlt
    have hyes : (((ru j).1 = ng x ∧ (ru j).2 = y) ∨ ((ru j).2 = ng x ∧ (ru j).1 = y)) → decide (y ∈ afL ru x n) = true := fun h => decide_eq_true (mem_afL.2 ⟨j, hlt, h⟩)
    have hstep : ¬ (((ru j).1 = ng x ∧ (ru j).2 = y) ∨ ((ru j).2 = ng x ∧ (ru j).1 = y)) → y ∉ afL ru x (j + 1) := fun h hm => by
      obtain ⟨q, hq, h2⟩ := mem_afL.1 hm
      by_cases e2 : q = j
      · rw [e2] at h2; exact h h2
      · exact hno (mem_afL.2 ⟨q, by omega, h2⟩)
    by_cases e1 : (ru j).1 = ng x <;> by_cases e2 : (ru j).2 = y <;> by_cases e3 : (ru j).2 = ng x <;> by_cases e4 : (ru j).1 = y
    all_goals
      first | have d1 := decide_eq_false e1 | have d1 := decide_eq_true e1
      first | have d2 := decide_eq_false e2 | have d2 := decide_eq_true e2
      first | have d3 := decide_eq_false e3 | have d3 := decide_eq_true e3
      first | have d4 := decide_eq_false e4 | have d4 := decide_eq_true e4
      repeat' ((conv => whnf); first | refine eqS_rfl ?_ | refine eqA_rfl ?_ | refine eqA_of (by assumption) ?_ | refine eqS_of (by rfl) ?_ | refine eqL_rfl ?_ | refine eqJ_rfl ?_ | refine flE_intro (fun _ _ => rfl) ?_ | refine seS_rfl ?_ | refine lsS_of hup ?_ | refine lsS_rfl ?_ | refine brS_tt ?_ | refine brS_ff ?_ | refine brS_not ?_ | refine brS_t (iEq_self _) ?_ | refine brS_t (by assumption) ?_ | refine brS_f (by assumption) ?_ | refine brS_intro (fun _ => ?_) (fun _ => ?_) | refine ltS_intro (by first | assumption | decide | exact Nat.le_of_ble_eq_true rfl | omega) ?_ | refine ixS_of rfl (by first | assumption | decide | omega) ?_ | refine okS_intro (by first | assumption | kernel_rfl) ?_ | refine nzS_intro (by first | decide | assumption) ?_ | refine ltS_intro (by have := lt_of_iLt ‹iLt (Int.ofNat _) (Int.ofNat _) = true›; omega) ?_ | refine ixS_of rfl (by have := lt_of_iLt ‹iLt (Int.ofNat _) (Int.ofNat _) = true›; omega) ?_ | refine agS.mk (by kernel_rfl) ?_ | refine eqvS_of (eqC _ _) ?_ | refine call_pure (c43 F _ _) ?_ | intro _)
      conv => whnf
      first
        | exact ⟨by (rw [hyes (by first | exact .inl ⟨by assumption, by assumption⟩ | exact .inr ⟨by assumption, by assumption⟩)]), by (first | (simp only [addL_eq, addL_rec]; omega) | omega | exact Nat.le_refl _)⟩
        | exact ⟨n - (j + 1) + 1, [(3, .ptr 0 bb 0), (4, .ptr 1 bx 0), (5, .ptr 2 by_ 0), (10, .sl 1000 a n c), (11, .int .i64 (Int.ofNat n)), (12, .int .i64 (Int.ofNat (j + 1)))], _, addL (40 * (n - (j + 1)) + R) 35, 10, by omega, ⟨eqF_rfl _, eqF_rfl _, eqF_rfl _, eqF_rfl _, eqF_rfl _, ⟨congrArg (Value.int .i64) (smn (i := j + 1) (by omega)), rfl⟩, trivial⟩, by exact WkM.drop (WkM.refl _), by (first | (simp only [addL_eq, addL_rec]; omega) | omega | exact Nat.le_refl _), j + 1, by omega, rfl, hstep (by rintro (⟨z1, z2⟩ | ⟨z1, z2⟩) <;> contradiction), rfl, rfl, rfl, rfl⟩
        | trace_state
  · have e2 : j = n := by omega
    subst e2
    have h1 := iLt_f (Nat.le_refl j)
    repeat' ((conv => whnf); first | refine eqS_rfl ?_ | refine eqA_rfl ?_ | refine eqA_of (by assumption) ?_ | refine eqS_of (by rfl) ?_ | refine eqL_rfl ?_ | refine eqJ_rfl ?_ | refine flE_intro (fun _ _ => rfl) ?_ | refine seS_rfl ?_ | refine lsS_of hup ?_ | refine lsS_rfl ?_ | refine brS_tt ?_ | refine brS_ff ?_ | refine brS_not ?_ | refine brS_t (iEq_self _) ?_ | refine brS_t (by assumption) ?_ | refine brS_f (by assumption) ?_ | refine brS_intro (fun _ => ?_) (fun _ => ?_) | refine ltS_intro (by first | assumption | decide | exact Nat.le_of_ble_eq_true rfl | omega) ?_ | refine ixS_of rfl (by first | assumption | decide | omega) ?_ | refine okS_intro (by first | assumption | kernel_rfl) ?_ | refine nzS_intro (by first | decide | assumption) ?_ | intro _)
    conv => whnf
    exact ⟨congrArg Value.bool (decide_eq_false hno).symm, by (first | (simp only [addL_eq, addL_rec]; omega) | omega | exact Nat.le_refl _)⟩
theorem c42 (F d : Nat) (hF : 200 < F) (T : Nat) (a : Option Addr) (n e c : Nat) (hn : n ≤ 80) (ru : Nat → Nat × Nat) (a2 : Option Addr) (n2 c2 : Nat) (ch : Nat → Nat) (h2 : n2 ≤ 100) (hch : ∀ j, j < n2 → ch j < 2 * T) : ReadC (CL F (d + 3)) 42 [bk T a n c, .sl 1001 a2 n2 c2] [(1000, roR a n e ru), (1001, roC a2 n2 51 ch)] (3500 * n2 + 100) (.bool (decide (0 < n2) && linkB ru n ch (n2 - 1))) := by
  intro R
  rw [addL_eq, show R + (3500 * n2 + 100) = 3500 * n2 + R + 100 by omega, ← addL_eq _ 100]
  refine call_in (n := 43) Try.func42 rfl rfl rfl rfl rfl rfl rfl ?_
  repeat' ((conv => whnf); first | refine eqS_rfl ?_ | refine eqA_rfl ?_ | refine eqA_of (by assumption) ?_ | refine eqS_of (by rfl) ?_ | refine eqL_rfl ?_ | refine eqJ_rfl ?_ | refine flE_intro (fun _ _ => rfl) ?_ | refine seS_rfl ?_ | refine lsS_of hup ?_ | refine lsS_rfl ?_ | refine brS_tt ?_ | refine brS_ff ?_ | refine brS_not ?_ | refine brS_t (iEq_self _) ?_ | refine brS_t (by assumption) ?_ | refine brS_f (by assumption) ?_ | refine brS_intro (fun _ => ?_) (fun _ => ?_) | refine ltS_intro (by first | assumption | decide | exact Nat.le_of_ble_eq_true rfl | omega) ?_ | refine ixS_of rfl (by first | assumption | decide | omega) ?_ | refine okS_intro (by first | assumption | kernel_rfl) ?_ | refine nzS_intro (by first | decide | assumption) ?_ | intro _)
  rename_i bb
  conv => whnf
  refine loS_i (fun jj f mm R' ni => ∃ j : Nat, j ≤ n2 ∧ jj = n2 - j + 1 ∧ (∀ q, q < j - 1 → decide (ch (1 + q) ∈ afL ru (ch q) n) = true) ∧ f = [(1, .sl 1001 a2 n2 c2), (2, .ptr 0 bb 0), (7, .sl 1001 a2 n2 c2), (8, .int .i64 (Int.ofNat n2)), (9, .int .i64 (Int.ofNat j))] ∧ mm = [(0, .own bb 24 [.int .i64 (Int.ofNat T), .sl 1000 a n c]), (1000, roR a n e ru), (1001, roC a2 n2 51 ch)] ∧ R' = addL (3500 * (n2 - j) + R) 40 ∧ ni = 10) (n2 + 1) (by omega)
    ⟨[(1, .sl 1001 a2 n2 c2), (2, .ptr 0 bb 0), (7, .sl 1001 a2 n2 c2), (8, .int .i64 (Int.ofNat n2)), (9, .int .i64 (Int.ofNat 0))], [(0, .own bb 24 [.int .i64 (Int.ofNat T), .sl 1000 a n c]), (1000, roR a n e ru), (1001, roC a2 n2 51 ch)], addL (3500 * (n2 - 0) + R) 40, 10, ⟨eqF_rfl _, eqF_rfl _, eqF_rfl _, eqF_rfl _, eqF_rfl _, trivial⟩, WkM.refl _, by (first | (simp only [addL_eq, addL_rec]; omega) | omega | exact Nat.le_refl _), 0, by omega, by omega, fun q hq => absurd hq (by omega), rfl, rfl, rfl, rfl⟩ ?_
  rintro _ _ _ _ _ ⟨j, hj, rfl, hok, rfl, rfl, rfl, rfl⟩
  by_cases hlt : j < n2
  · have h1 := iLt_t hlt
    have g1 := iLt_t (show ch j / 2 < T by have := hch j hlt; omega)
    have g0 := iLt_0 (ch j / 2)
    rcases Nat.eq_zero_or_pos j with e0 | hpos
    · subst e0
      have z1 : iLt 0 (Int.ofNat 0) = false := iLt_f (Nat.le_refl 0)
      repeat' ((conv => whnf); first | refine eqS_rfl ?_ | refine eqA_rfl ?_ | refine eqA_of (by assumption) ?_ | refine eqS_of (by rfl) ?_ | refine eqL_rfl ?_ | refine eqJ_rfl ?_ | refine flE_intro (fun _ _ => rfl) ?_ | refine seS_rfl ?_ | refine lsS_of hup ?_ | refine lsS_rfl ?_ | refine brS_tt ?_ | refine brS_ff ?_ | refine brS_not ?_ | refine brS_t (iEq_self _) ?_ | refine brS_t (by assumption) ?_ | refine brS_f (by assumption) ?_ | refine brS_intro (fun _ => ?_) (fun _ => ?_) | refine ltS_intro (by first | assumption | decide | exact Nat.le_of_ble_eq_true rfl | omega) ?_ | refine ixS_of rfl (by first | assumption | decide | omega) ?_ | refine okS_intro (by first | assumption | kernel_rfl) ?_ | refine nzS_intro (by first | decide | assumption) ?_ | refine ltS_intro (by have := lt_of_iLt ‹iLt (Int.ofNat _) (Int.ofNat _) = true›; omega) ?_ | refine ixS_of rfl (by have := lt_of_iLt ‹iLt (Int.ofNat _) (Int.ofNat _) = true›; omega) ?_ | intro _)
      conv => whnf
      exact ⟨n2 - (0 + 1) + 1, [(1, .sl 1001 a2 n2 c2), (2, .ptr 0 bb 0), (7, .sl 1001 a2 n2 c2), (8, .int .i64 (Int.ofNat n2)), (9, .int .i64 (Int.ofNat (0 + 1)))], _, addL (3500 * (n2 - (0 + 1)) + R) 40, 10, by omega, ⟨eqF_rfl _, eqF_rfl _, eqF_rfl _, eqF_rfl _, ⟨congrArg (Value.int .i64) (smn (i := 0 + 1) (by omega)), rfl⟩, trivial⟩, by exact WkM.drop (WkM.refl _), by (first | (simp only [addL_eq, addL_rec]; omega) | omega | exact Nat.le_refl _), 0 + 1, by omega, rfl, fun q hq => absurd hq (by omega), rfl, rfl, rfl, rfl⟩
    · have z1 : iLt 0 (Int.ofNat j) = true := iLt_t hpos
      have i1 := len1 hpos (by omega)
      have q1 : j - 1 < n2 := by omega
      have ej : 1 + (j - 1) = j := by omega
      have hc := c82 F d hF T a n e c hn ru (ch (j - 1)) (ch j)
      cases hb : decide (ch j ∈ afL ru (ch (j - 1)) n) with
      | true =>
        rw [hb] at hc
        repeat' ((conv => whnf); first | refine eqS_rfl ?_ | refine eqA_rfl ?_ | refine eqA_of (by assumption) ?_ | refine eqS_of (by rfl) ?_ | refine eqL_rfl ?_ | refine eqJ_rfl ?_ | refine flE_intro (fun _ _ => rfl) ?_ | refine seS_rfl ?_ | refine lsS_of hup ?_ | refine lsS_rfl ?_ | refine brS_tt ?_ | refine brS_ff ?_ | refine brS_not ?_ | refine brS_t (iEq_self _) ?_ | refine brS_t (by assumption) ?_ | refine brS_f (by assumption) ?_ | refine brS_intro (fun _ => ?_) (fun _ => ?_) | refine ltS_intro (by first | assumption | decide | exact Nat.le_of_ble_eq_true rfl | omega) ?_ | refine ixS_of rfl (by first | assumption | decide | omega) ?_ | refine okS_intro (by first | assumption | kernel_rfl) ?_ | refine nzS_intro (by first | decide | assumption) ?_ | refine ltS_intro (by have := lt_of_iLt ‹iLt (Int.ofNat _) (Int.ofNat _) = true›; omega) ?_ | refine ixS_of rfl (by have := lt_of_iLt ‹iLt (Int.ofNat _) (Int.ofNat _) = true›; omega) ?_ | refine ixS_of i1 q1 ?_ | refine ltS_intro q1 ?_ | refine call_readL hc (addL (3500 * (n2 - (j + 1)) + R) 60) (by rfl) (by exact SeesM.cons 1000 (sees_ro (i := 1000) (by rfl)) (SeesM.nil _) (fun _ _ _ _ _ _ x hx => by cases hx)) (by (first | (simp only [addL_eq, addL_rec]; omega) | omega | exact Nat.le_refl _)) ?_ | intro _)
        conv => whnf
        refine ⟨n2 - (j + 1) + 1, [(1, .sl 1001 a2 n2 c2), (2, .ptr 0 bb 0), (7, .sl 1001 a2 n2 c2), (8, .int .i64 (Int.ofNat n2)), (9, .int .i64 (Int.ofNat (j + 1)))], _, addL (3500 * (n2 - (j + 1)) + R) 40, 10, by omega, ⟨eqF_rfl _, eqF_rfl _, eqF_rfl _, eqF_rfl _, ⟨congrArg (Value.int .i64) (smn (i := j + 1) (by omega)), rfl⟩, trivial⟩, by exact WkM.drop (WkM.refl _), by (first | (simp only [addL_eq, addL_rec]; omega) | omega | exact Nat.le_refl _), j + 1, by omega, rfl, fun q hq => ?_, rfl, rfl, rfl, rfl⟩
        by_cases e2 : q = j - 1
        · rw [e2, ej]; exact hb
        · exact hok q (by omega)
      | false =>
        rw [hb] at hc
        repeat' ((conv => whnf); first | refine eqS_rfl ?_ | refine eqA_rfl ?_ | refine eqA_of (by assumption) ?_ | refine eqS_of (by rfl) ?_ | refine eqL_rfl ?_ | refine eqJ_rfl ?_ | refine flE_intro (fun _ _ => rfl) ?_ | refine seS_rfl ?_ | refine lsS_of hup ?_ | refine lsS_rfl ?_ | refine brS_tt ?_ | refine brS_ff ?_ | refine brS_not ?_ | refine brS_t (iEq_self _) ?_ | refine brS_t (by assumption) ?_ | refine brS_f (by assumption) ?_ | refine brS_intro (fun _ => ?_) (fun _ => ?_) | refine ltS_intro (by first | assumption | decide | exact Nat.le_of_ble_eq_true rfl | omega) ?_ | refine ixS_of rfl (by first | assumption | decide | omega) ?_ | refine okS_intro (by first | assumption | kernel_rfl) ?_ | refine nzS_intro (by first | decide | assumption) ?_ | refine ltS_intro (by have := lt_of_iLt ‹iLt (Int.ofNat _) (Int.ofNat _) = true›; omega) ?_ | refine ixS_of rfl (by have := lt_of_iLt ‹iLt (Int.ofNat _) (Int.ofNat _) = true›; omega) ?_ | refine ixS_of i1 q1 ?_ | refine ltS_intro q1 ?_ | refine call_readL hc (addL (3500 * (n2 - (j + 1)) + R) 60) (by rfl) (by exact SeesM.cons 1000 (sees_ro (i := 1000) (by rfl)) (SeesM.nil _) (fun _ _ _ _ _ _ x hx => by cases hx)) (by (first | (simp only [addL_eq, addL_rec]; omega) | omega | exact Nat.le_refl _)) ?_ | intro _)
        conv => whnf
        refine ⟨congrArg Value.bool ?_, by (first | (simp only [addL_eq, addL_rec]; omega) | omega | exact Nat.le_refl _)⟩
        have : linkB ru n ch (n2 - 1) = false := all_f (k := j - 1) (by omega) (by rw [ej]; exact hb)
        rw [this, Bool.and_false]
  · have e2 : j = n2 := by omega
    subst e2
    have h1 := iLt_f (Nat.le_refl j)
    have hl : linkB ru n ch (j - 1) = true := all_t hok
    rw [hl]
    repeat' ((conv => whnf); first | refine eqS_rfl ?_ | refine eqA_rfl ?_ | refine eqA_of (by assumption) ?_ | refine eqS_of (by rfl) ?_ | refine eqL_rfl ?_ | refine eqJ_rfl ?_ | refine flE_intro (fun _ _ => rfl) ?_ | refine seS_rfl ?_ | refine lsS_of hup ?_ | refine lsS_rfl ?_ | refine brS_tt ?_ | refine brS_ff ?_ | refine brS_not ?_ | refine brS_t (iEq_self _) ?_ | refine brS_t (by assumption) ?_ | refine brS_f (by assumption) ?_ | refine brS_intro (fun _ => ?_) (fun _ => ?_) | refine ltS_intro (by first | assumption | decide | exact Nat.le_of_ble_eq_true rfl | omega) ?_ | refine ixS_of rfl (by first | assumption | decide | omega) ?_ | refine okS_intro (by first | assumption | kernel_rfl) ?_ | refine nzS_intro (by first | decide | assumption) ?_ | intro _)
    conv => whnf
    refine ⟨congrArg Value.bool ?_, by (first | (simp only [addL_eq, addL_rec]; omega) | omega | exact Nat.le_refl _)⟩
    rw [Bool.and_true, iLt_eq]; refine decide_eq_decide.2 ?_
    show (0 : Int) < (j : Int) ↔ _
    omega
end Go.Proofs.Ytoocmgefoagfnaa
namespace Go.Proofs.Ytoocmgefoagfnaa
open Go.Ab
attribute [local irreducible] aggOk drwOK
set_option maxRecDepth 100000
set_option maxHeartbeats 4000000
set_option linter.unusedVariables false
set_option linter.unusedSimpArgs false
theorem shl_1 {T : Nat} (hT : T ≤ 60) : shlV .i64 1 T = Int.ofNat (2 ^ T) := by
  unfold shlV
  rw [show min T IntKind.i64.bits = T by have : IntKind.i64.bits = 64 := rfl; omega, Int.one_mul, ← wr_eq]
  have h1 : 2 ^ T ≤ 2 ^ 60 := Nat.pow_le_pow_right (by decide) hT
  have e : (2 : Int) ^ T = ((2 ^ T : Nat) : Int) := by rw [Int.natCast_pow]; rfl
  rw [e]
  exact wr_nat (i := 2 ^ T) (by omega)
theorem grow1 {n : Nat} {f : Nat → List SV} {v : SV} (hv : f n = [v]) : ∀ j, j < n + 1 → grow n 1 f [v] j = f j := fun j hj => by
  unfold grow
  by_cases hjn : j < n
  · rw [blt_of hjn, cond_true]
  · have e : j = n := by omega
    subst e
    have hb : Nat.blt j j = false := by
      cases hh : Nat.blt j j with
      | false => rfl
      | true => have := blt_true hh; omega
    rw [hb, cond_false, hv]
    show List.take 1 (List.drop ((j - j) * 1) [v]) = _
    rw [Nat.sub_self]; rfl
/-- all truths, as bits -/
def QT (i : Nat) (l : List Nat) (w0 : SV) (mf : Mem) : Prop := ∃ a, w0 = .sl i a l.length l.length ∧ mf = [(i, .gr a l.length 3 1 fun j => [.int .i64 (Int.ofNat (l.getD j 0))])]
theorem c41 (F d i : Nat) (T K : Nat) (a : Option Addr) (n e c : Nat) (hT : T ≤ 14) (hK : 2 ^ T = K) (hF : K + 200 < F) (hn : n ≤ 80) (ru : Nat → Nat × Nat) (hr : ∀ j, j < n → (ru j).1 < 2 * T ∧ (ru j).2 < 2 * T) (a3 : Option Addr) (n3 e3 c3 : Nat) (gv : Nat → Nat) (h3 : n3 ≤ 24) (hg : ∀ j, j < n3 → gv j < 2 * T) (B : Nat) (hB : 40 * n + 40 * n3 + 60 ≤ B) (R : Nat) :
    callS (CL F (d + 2)) (.fn 41 [] []) [bk T a n c, .sl 1001 a3 n3 c3] [(1000, roR a n e ru), (1001, roC a3 n3 e3 gv)] (addL R (B * K + 100)) 0 fun w m' R' _ => (∃ w0 mf, QT i (trL ru n gv n3 K) w0 mf ∧ den w = den w0 ∧ WkM m' mf) ∧ R ≤ R' := by
  have eK := shl_1 (T := T) (by omega)
  rw [hK] at eK
  have hK2 : K ≤ 2 ^ 14 := by rw [← hK]; exact Nat.pow_le_pow_right (by decide) hT
  have hK3 : K ≤ 16384 := hK2
  rw [addL_eq, show R + (B * K + 100) = B * K + R + 100 by omega, ← addL_eq _ 100]
  refine call_in (n := 59) Try.func41 rfl rfl rfl rfl rfl rfl rfl ?_
  repeat' ((conv => whnf); first | refine eqS_rfl ?_ | refine eqA_rfl ?_ | refine eqA_of (by assumption) ?_ | refine eqS_of (by rfl) ?_ | refine eqL_rfl ?_ | refine eqJ_rfl ?_ | refine flE_intro (fun _ _ => rfl) ?_ | refine seS_rfl ?_ | refine lsS_of hup ?_ | refine lsS_rfl ?_ | refine brS_tt ?_ | refine brS_ff ?_ | refine brS_not ?_ | refine brS_t (iEq_self _) ?_ | refine brS_t (by assumption) ?_ | refine brS_f (by assumption) ?_ | refine brS_intro (fun _ => ?_) (fun _ => ?_) | refine ltS_intro (by first | assumption | decide | exact Nat.le_of_ble_eq_true rfl | omega) ?_ | refine ixS_of rfl (by first | assumption | decide | omega) ?_ | refine okS_intro (by first | assumption | kernel_rfl) ?_ | refine nzS_intro (by first | decide | assumption) ?_ | intro _)
  rename_i bb
  conv => whnf
  refine loS_i (fun jj f mm R' ni => ∃ (bits : Nat) (a1 : Option Addr), bits ≤ K ∧ jj = K - bits + 1 ∧ f = [(1, .sl 1001 a3 n3 c3), (2, .ptr 0 bb 0), (5, .sl 600 a1 (trL ru n gv n3 bits).length (trL ru n gv n3 bits).length), (6, .int .i64 (Int.ofNat bits))] ∧ mm = [(600, .gr a1 (trL ru n gv n3 bits).length 3 1 (fun z => [.int .i64 (Int.ofNat ((trL ru n gv n3 K).getD z 0))])), (0, .own bb 24 [.int .i64 (Int.ofNat T), .sl 1000 a n c]), (1000, roR a n e ru), (1001, roC a3 n3 e3 gv)] ∧ R' = addL (B * (K - bits) + R) 30 ∧ ni = 700) (K + 1) (by omega)
    ⟨[(1, .sl 1001 a3 n3 c3), (2, .ptr 0 bb 0), (5, .sl 600 none (trL ru n gv n3 0).length (trL ru n gv n3 0).length), (6, .int .i64 (Int.ofNat 0))], [(600, .gr none (trL ru n gv n3 0).length 3 1 (fun z => [.int .i64 (Int.ofNat ((trL ru n gv n3 K).getD z 0))])), (0, .own bb 24 [.int .i64 (Int.ofNat T), .sl 1000 a n c]), (1000, roR a n e ru), (1001, roC a3 n3 e3 gv)], addL (B * (K - 0) + R) 30, 700, ⟨eqF_rfl _, eqF_rfl _, ⟨rfl, rfl⟩, eqF_rfl _, trivial⟩, by exact (WkM.gr0 (WkM.refl _)).trans WS, by rw [Nat.sub_zero]; (first | (simp only [addL_eq, addL_rec]; omega) | omega | exact Nat.le_refl _), 0, none, by omega, by omega, rfl, rfl, rfl, rfl⟩ ?_
  rintro _ _ _ _ _ ⟨bits, a1, hbK, rfl, rfl, rfl, rfl, rfl⟩
  have dl : ∀ b, decide (bits < K) = b → iLt (Int.ofNat bits) (shlV .i64 1 T) = b := fun b hb => by rw [eK, iLt_eq, ← hb]; refine decide_eq_decide.2 ?_; show (bits : Int) < (K : Int) ↔ _; omega
  by_cases hlt : bits < K
  · have d1 := dl true (decide_eq_true hlt)
    have hb : B * (K - bits) = B * (K - (bits + 1)) + B := by rw [← Nat.mul_succ]; congr 1; omega
    have hLl := trL_len ru n gv n3 bits
    obtain ⟨t, ht⟩ := trL_pre ru n gv n3 (show bits + 1 ≤ K by omega)
    repeat' ((conv => whnf); first | refine eqS_rfl ?_ | refine eqA_rfl ?_ | refine eqA_of (by assumption) ?_ | refine eqS_of (by rfl) ?_ | refine eqL_rfl ?_ | refine eqJ_rfl ?_ | refine flE_intro (fun _ _ => rfl) ?_ | refine seS_rfl ?_ | refine lsS_of hup ?_ | refine lsS_rfl ?_ | refine brS_tt ?_ | refine brS_ff ?_ | refine brS_not ?_ | refine brS_t (iEq_self _) ?_ | refine brS_t (by assumption) ?_ | refine brS_f (by assumption) ?_ | refine brS_intro (fun _ => ?_) (fun _ => ?_) | refine ltS_intro (by first | assumption | decide | exact Nat.le_of_ble_eq_true rfl | omega) ?_ | refine ixS_of rfl (by first | assumption | decide | omega) ?_ | refine okS_intro (by first | assumption | kernel_rfl) ?_ | refine nzS_intro (by first | decide | assumption) ?_ | intro _)
    conv => whnf
    refine loS_i (fun jj f mm R' ni => ∃ j : Nat, j ≤ n ∧ jj = n - j + 1 ∧ f = [(1, .sl 1001 a3 n3 c3), (2, .ptr 0 bb 0), (5, .sl 600 a1 (trL ru n gv n3 bits).length (trL ru n gv n3 bits).length), (6, .int .i64 (Int.ofNat bits)), (7, .bool (okR ru j bits)), (20, .sl 1000 a n c), (21, .int .i64 (Int.ofNat n)), (22, .int .i64 (Int.ofNat j))] ∧ mm = [(600, .gr a1 (trL ru n gv n3 bits).length 3 1 (fun z => [.int .i64 (Int.ofNat ((trL ru n gv n3 K).getD z 0))])), (0, .own bb 24 [.int .i64 (Int.ofNat T), .sl 1000 a n c]), (1000, roR a n e ru), (1001, roC a3 n3 e3 gv)] ∧ R' = addL (B * (K - (bits + 1)) + 40 * n3 + 40 * (n - j) + 20 + R) 30 ∧ ni = 700) (n + 1) (by omega)
      ⟨[(1, .sl 1001 a3 n3 c3), (2, .ptr 0 bb 0), (5, .sl 600 a1 (trL ru n gv n3 bits).length (trL ru n gv n3 bits).length), (6, .int .i64 (Int.ofNat bits)), (7, .bool (okR ru 0 bits)), (20, .sl 1000 a n c), (21, .int .i64 (Int.ofNat n)), (22, .int .i64 (Int.ofNat 0))], [(600, .gr a1 (trL ru n gv n3 bits).length 3 1 (fun z => [.int .i64 (Int.ofNat ((trL ru n gv n3 K).getD z 0))])), (0, .own bb 24 [.int .i64 (Int.ofNat T), .sl 1000 a n c]), (1000, roR a n e ru), (1001, roC a3 n3 e3 gv)], addL (B * (K - (bits + 1)) + 40 * n3 + 40 * (n - 0) + 20 + R) 30, 700, ⟨eqF_rfl _, eqF_rfl _, eqF_rfl _, eqF_rfl _, eqF_rfl _, eqF_rfl _, eqF_rfl _, eqF_rfl _, trivial⟩, WkM.refl _, by (first | (simp only [addL_eq, addL_rec]; omega) | omega | exact Nat.le_refl _), 0, by omega, by omega, rfl, rfl, rfl, rfl⟩ ?_
    rintro _ _ _ _ _ ⟨j, hj, rfl, rfl, rfl, rfl, rfl⟩
    by_cases hjn : j < n
    · have h1 := iLt_t hjn
      have hrj := hr j hjn
      cases g0 : okR ru j bits <;> cases g1 : trB bits (ru j).1 <;> cases g2 : trB bits (ru j).2
      all_goals
        repeat' ((conv => whnf); first | refine eqS_rfl ?_ | refine eqA_rfl ?_ | refine eqA_of (by assumption) ?_ | refine eqS_of (by rfl) ?_ | refine eqL_rfl ?_ | refine eqJ_rfl ?_ | refine flE_intro (fun _ _ => rfl) ?_ | refine seS_rfl ?_ | refine lsS_of hup ?_ | refine lsS_rfl ?_ | refine brS_tt ?_ | refine brS_ff ?_ | refine brS_not ?_ | refine brS_t (iEq_self _) ?_ | refine brS_t (by assumption) ?_ | refine brS_f (by assumption) ?_ | refine brS_intro (fun _ => ?_) (fun _ => ?_) | refine ltS_intro (by first | assumption | decide | exact Nat.le_of_ble_eq_true rfl | omega) ?_ | refine ixS_of rfl (by first | assumption | decide | omega) ?_ | refine okS_intro (by first | assumption | kernel_rfl) ?_ | refine nzS_intro (by first | decide | assumption) ?_ | refine ltS_intro (by have := lt_of_iLt ‹iLt (Int.ofNat _) (Int.ofNat _) = true›; omega) ?_ | refine ixS_of rfl (by have := lt_of_iLt ‹iLt (Int.ofNat _) (Int.ofNat _) = true›; omega) ?_ | refine call_pure (c47 F _ _ bits (by omega) (by omega)) ?_ | intro _)
        conv => whnf
        exact ⟨n - (j + 1) + 1, [(1, .sl 1001 a3 n3 c3), (2, .ptr 0 bb 0), (5, .sl 600 a1 (trL ru n gv n3 bits).length (trL ru n gv n3 bits).length), (6, .int .i64 (Int.ofNat bits)), (7, .bool (okR ru (j + 1) bits)), (20, .sl 1000 a n c), (21, .int .i64 (Int.ofNat n)), (22, .int .i64 (Int.ofNat (j + 1)))], _, addL (B * (K - (bits + 1)) + 40 * n3 + 40 * (n - (j + 1)) + 20 + R) 30, 700, by omega, ⟨eqF_rfl _, eqF_rfl _, eqF_rfl _, eqF_rfl _, ⟨congrArg Value.bool (by simp [okR_succ, g0, g1, g2]), rfl⟩, eqF_rfl _, eqF_rfl _, ⟨congrArg (Value.int .i64) (smn (i := j + 1) (by omega)), rfl⟩, trivial⟩, by exact WkM.drop (WkM.refl _), by (first | (simp only [addL_eq, addL_rec]; omega) | omega | exact Nat.le_refl _), j + 1, by omega, rfl, rfl, rfl, rfl, rfl⟩
    · have e2 : j = n := by omega
      subst e2
      have h1 := iLt_f (Nat.le_refl j)
      repeat' ((conv => whnf); first | refine eqS_rfl ?_ | refine eqA_rfl ?_ | refine eqA_of (by assumption) ?_ | refine eqS_of (by rfl) ?_ | refine eqL_rfl ?_ | refine eqJ_rfl ?_ | refine flE_intro (fun _ _ => rfl) ?_ | refine seS_rfl ?_ | refine lsS_of hup ?_ | refine lsS_rfl ?_ | refine brS_tt ?_ | refine brS_ff ?_ | refine brS_not ?_ | refine brS_t (iEq_self _) ?_ | refine brS_t (by assumption) ?_ | refine brS_f (by assumption) ?_ | refine brS_intro (fun _ => ?_) (fun _ => ?_) | refine ltS_intro (by first | assumption | decide | exact Nat.le_of_ble_eq_true rfl | omega) ?_ | refine ixS_of rfl (by first | assumption | decide | omega) ?_ | refine okS_intro (by first | assumption | kernel_rfl) ?_ | refine nzS_intro (by first | decide | assumption) ?_ | intro _)
      conv => whnf
      have eG : (okR ru j bits && okG gv 0 bits) = okR ru j bits := by unfold okG; simp
      refine loS_i (fun jj f mm R' ni => ∃ q : Nat, q ≤ n3 ∧ jj = n3 - q + 1 ∧ f = [(1, .sl 1001 a3 n3 c3), (2, .ptr 0 bb 0), (5, .sl 600 a1 (trL ru j gv n3 bits).length (trL ru j gv n3 bits).length), (6, .int .i64 (Int.ofNat bits)), (7, .bool (okR ru j bits && okG gv q bits)), (40, .sl 1001 a3 n3 c3), (41, .int .i64 (Int.ofNat n3)), (42, .int .i64 (Int.ofNat q))] ∧ mm = [(600, .gr a1 (trL ru j gv n3 bits).length 3 1 (fun z => [.int .i64 (Int.ofNat ((trL ru j gv n3 K).getD z 0))])), (0, .own bb 24 [.int .i64 (Int.ofNat T), .sl 1000 a j c]), (1000, roR a j e ru), (1001, roC a3 n3 e3 gv)] ∧ R' = addL (B * (K - (bits + 1)) + 40 * (n3 - q) + 20 + R) 30 ∧ ni = 700) (n3 + 1) (by omega)
        ⟨[(1, .sl 1001 a3 n3 c3), (2, .ptr 0 bb 0), (5, .sl 600 a1 (trL ru j gv n3 bits).length (trL ru j gv n3 bits).length), (6, .int .i64 (Int.ofNat bits)), (7, .bool (okR ru j bits && okG gv 0 bits)), (40, .sl 1001 a3 n3 c3), (41, .int .i64 (Int.ofNat n3)), (42, .int .i64 (Int.ofNat 0))], [(600, .gr a1 (trL ru j gv n3 bits).length 3 1 (fun z => [.int .i64 (Int.ofNat ((trL ru j gv n3 K).getD z 0))])), (0, .own bb 24 [.int .i64 (Int.ofNat T), .sl 1000 a j c]), (1000, roR a j e ru), (1001, roC a3 n3 e3 gv)], addL (B * (K - (bits + 1)) + 40 * (n3 - 0) + 20 + R) 30, 700, ⟨eqF_rfl _, eqF_rfl _, eqF_rfl _, eqF_rfl _, ⟨congrArg Value.bool eG.symm, rfl⟩, eqF_rfl _, eqF_rfl _, eqF_rfl _, trivial⟩, WkM.refl _, by (first | (simp only [addL_eq, addL_rec]; omega) | omega | exact Nat.le_refl _), 0, by omega, by omega, rfl, rfl, rfl, rfl⟩ ?_
      rintro _ _ _ _ _ ⟨q, hq, rfl, rfl, rfl, rfl, rfl⟩
      by_cases hqn : q < n3
      · have h2 := iLt_t hqn
        have hgq := hg q hqn
        cases g0 : (okR ru j bits && okG gv q bits) <;> cases g1 : trB bits (gv q)
        all_goals
          have g3 : (okR ru j bits && okG gv (q + 1) bits) = ((okR ru j bits && okG gv q bits) && trB bits (gv q)) := by rw [okG_succ, Bool.and_assoc]
          rw [g0, g1] at g3
          repeat' ((conv => whnf); first | refine eqS_rfl ?_ | refine eqA_rfl ?_ | refine eqA_of (by assumption) ?_ | refine eqS_of (by rfl) ?_ | refine eqL_rfl ?_ | refine eqJ_rfl ?_ | refine flE_intro (fun _ _ => rfl) ?_ | refine seS_rfl ?_ | refine lsS_of hup ?_ | refine lsS_rfl ?_ | refine brS_tt ?_ | refine brS_ff ?_ | refine brS_not ?_ | refine brS_t (iEq_self _) ?_ | refine brS_t (by assumption) ?_ | refine brS_f (by assumption) ?_ | refine brS_intro (fun _ => ?_) (fun _ => ?_) | refine ltS_intro (by first | assumption | decide | exact Nat.le_of_ble_eq_true rfl | omega) ?_ | refine ixS_of rfl (by first | assumption | decide | omega) ?_ | refine okS_intro (by first | assumption | kernel_rfl) ?_ | refine nzS_intro (by first | decide | assumption) ?_ | refine ltS_intro (by have := lt_of_iLt ‹iLt (Int.ofNat _) (Int.ofNat _) = true›; omega) ?_ | refine ixS_of rfl (by have := lt_of_iLt ‹iLt (Int.ofNat _) (Int.ofNat _) = true›; omega) ?_ | refine call_pure (c47 F _ _ bits (by omega) (by omega)) ?_ | intro _)
          conv => whnf
          exact ⟨n3 - (q + 1) + 1, [(1, .sl 1001 a3 n3 c3), (2, .ptr 0 bb 0), (5, .sl 600 a1 (trL ru j gv n3 bits).length (trL ru j gv n3 bits).length), (6, .int .i64 (Int.ofNat bits)), (7, .bool (okR ru j bits && okG gv (q + 1) bits)), (40, .sl 1001 a3 n3 c3), (41, .int .i64 (Int.ofNat n3)), (42, .int .i64 (Int.ofNat (q + 1)))], _, addL (B * (K - (bits + 1)) + 40 * (n3 - (q + 1)) + 20 + R) 30, 700, by omega, ⟨eqF_rfl _, eqF_rfl _, eqF_rfl _, eqF_rfl _, ⟨congrArg Value.bool (by rw [g3]; first | rfl | (rw [g1]; rfl)), rfl⟩, eqF_rfl _, eqF_rfl _, ⟨congrArg (Value.int .i64) (smn (i := q + 1) (by omega)), rfl⟩, trivial⟩, by exact WkM.drop (WkM.refl _), by (first | (simp only [addL_eq, addL_rec]; omega) | omega | exact Nat.le_refl _), q + 1, by omega, rfl, rfl, rfl, rfl, rfl⟩
      · have e3 : q = n3 := by omega
        subst e3
        have h2 := iLt_f (Nat.le_refl q)
        cases g0 : (okR ru j bits && okG gv q bits) with
        | true =>
          have hs : trL ru j gv q (bits + 1) = trL ru j gv q bits ++ [bits] := by rw [trL_succ, if_pos g0]
          have hl : (trL ru j gv q (bits + 1)).length = (trL ru j gv q bits).length + 1 := by rw [hs]; simp
          have hg2 := grow1 (n := (trL ru j gv q bits).length) (f := fun z => [.int .i64 (Int.ofNat ((trL ru j gv q K).getD z 0))]) (v := .int .i64 (Int.ofNat bits)) (by
            show [SV.int .i64 (Int.ofNat ((trL ru j gv q K).getD _ 0))] = _
            rw [ht, hs]; simp [List.getD_eq_getElem?_getD, List.getElem?_append_right, List.getElem?_append_left])
          repeat' ((conv => whnf); first | refine eqS_rfl ?_ | refine eqA_rfl ?_ | refine eqA_of (by assumption) ?_ | refine eqS_of (by rfl) ?_ | refine eqL_rfl ?_ | refine eqJ_rfl ?_ | refine flE_intro (fun _ _ => rfl) ?_ | refine seS_rfl ?_ | refine lsS_of hup ?_ | refine lsS_rfl ?_ | refine brS_tt ?_ | refine brS_ff ?_ | refine brS_not ?_ | refine brS_t (iEq_self _) ?_ | refine brS_t (by assumption) ?_ | refine brS_f (by assumption) ?_ | refine brS_intro (fun _ => ?_) (fun _ => ?_) | refine ltS_intro (by first | assumption | decide | exact Nat.le_of_ble_eq_true rfl | omega) ?_ | refine ixS_of rfl (by first | assumption | decide | omega) ?_ | refine okS_intro (by first | assumption | kernel_rfl) ?_ | refine nzS_intro (by first | decide | assumption) ?_ | refine ltS_intro (by have := lt_of_iLt ‹iLt (Int.ofNat _) (Int.ofNat _) = true›; omega) ?_ | refine ixS_of rfl (by have := lt_of_iLt ‹iLt (Int.ofNat _) (Int.ofNat _) = true›; omega) ?_ | refine ltS_intro (show (trL ru j gv q bits).length * 1 + 1 < 32769 by omega) ?_ | intro _)
          rename_i b9 a9
          conv => whnf
          exact ⟨K - (bits + 1) + 1, [(1, .sl 1001 a3 q c3), (2, .ptr 0 bb 0), (5, .sl 600 a9 (trL ru j gv q (bits + 1)).length (trL ru j gv q (bits + 1)).length), (6, .int .i64 (Int.ofNat (bits + 1)))], [(600, .gr a9 (trL ru j gv q (bits + 1)).length 3 1 (fun z => [.int .i64 (Int.ofNat ((trL ru j gv q K).getD z 0))])), (0, .own bb 24 [.int .i64 (Int.ofNat T), .sl 1000 a j c]), (1000, roR a j e ru), (1001, roC a3 q e3 gv)], addL (B * (K - (bits + 1)) + R) 30, 700, by omega, ⟨eqF_rfl _, eqF_rfl _, by rw [hl]; exact ⟨rfl, rfl⟩, ⟨congrArg (Value.int .i64) (smn (i := bits + 1) (by omega)), rfl⟩, trivial⟩, by rw [hl]; exact WG, by (first | (simp only [addL_eq, addL_rec]; omega) | omega | exact Nat.le_refl _), bits + 1, _, by omega, rfl, rfl, rfl, rfl, rfl⟩
        | false =>
          have hs : trL ru j gv q (bits + 1) = trL ru j gv q bits := by rw [trL_succ, if_neg (by rw [g0]; simp)]; simp
          repeat' ((conv => whnf); first | refine eqS_rfl ?_ | refine eqA_rfl ?_ | refine eqA_of (by assumption) ?_ | refine eqS_of (by rfl) ?_ | refine eqL_rfl ?_ | refine eqJ_rfl ?_ | refine flE_intro (fun _ _ => rfl) ?_ | refine seS_rfl ?_ | refine lsS_of hup ?_ | refine lsS_rfl ?_ | refine brS_tt ?_ | refine brS_ff ?_ | refine brS_not ?_ | refine brS_t (iEq_self _) ?_ | refine brS_t (by assumption) ?_ | refine brS_f (by assumption) ?_ | refine brS_intro (fun _ => ?_) (fun _ => ?_) | refine ltS_intro (by first | assumption | decide | exact Nat.le_of_ble_eq_true rfl | omega) ?_ | refine ixS_of rfl (by first | assumption | decide | omega) ?_ | refine okS_intro (by first | assumption | kernel_rfl) ?_ | refine nzS_intro (by first | decide | assumption) ?_ | refine ltS_intro (by have := lt_of_iLt ‹iLt (Int.ofNat _) (Int.ofNat _) = true›; omega) ?_ | refine ixS_of rfl (by have := lt_of_iLt ‹iLt (Int.ofNat _) (Int.ofNat _) = true›; omega) ?_ | intro _)
          conv => whnf
          exact ⟨K - (bits + 1) + 1, [(1, .sl 1001 a3 q c3), (2, .ptr 0 bb 0), (5, .sl 600 a1 (trL ru j gv q (bits + 1)).length (trL ru j gv q (bits + 1)).length), (6, .int .i64 (Int.ofNat (bits + 1)))], [(600, .gr a1 (trL ru j gv q (bits + 1)).length 3 1 (fun z => [.int .i64 (Int.ofNat ((trL ru j gv q K).getD z 0))])), (0, .own bb 24 [.int .i64 (Int.ofNat T), .sl 1000 a j c]), (1000, roR a j e ru), (1001, roC a3 q e3 gv)], addL (B * (K - (bits + 1)) + R) 30, 700, by omega, ⟨eqF_rfl _, eqF_rfl _, by rw [hs]; exact eqF_rfl _, ⟨congrArg (Value.int .i64) (smn (i := bits + 1) (by omega)), rfl⟩, trivial⟩, by rw [hs]; exact WG, by (first | (simp only [addL_eq, addL_rec]; omega) | omega | exact Nat.le_refl _), bits + 1, _, by omega, rfl, rfl, rfl, rfl, rfl⟩
  · have d1 := dl false (decide_eq_false hlt)
    have e2 : bits = K := by omega
    subst e2
    repeat' ((conv => whnf); first | refine eqS_rfl ?_ | refine eqA_rfl ?_ | refine eqA_of (by assumption) ?_ | refine eqS_of (by rfl) ?_ | refine eqL_rfl ?_ | refine eqJ_rfl ?_ | refine flE_intro (fun _ _ => rfl) ?_ | refine seS_rfl ?_ | refine lsS_of hup ?_ | refine lsS_rfl ?_ | refine brS_tt ?_ | refine brS_ff ?_ | refine brS_not ?_ | refine brS_t (iEq_self _) ?_ | refine brS_t (by assumption) ?_ | refine brS_f (by assumption) ?_ | refine brS_intro (fun _ => ?_) (fun _ => ?_) | refine ltS_intro (by first | assumption | decide | exact Nat.le_of_ble_eq_true rfl | omega) ?_ | refine ixS_of rfl (by first | assumption | decide | omega) ?_ | refine okS_intro (by first | assumption | kernel_rfl) ?_ | refine nzS_intro (by first | decide | assumption) ?_ | intro _)
    conv => whnf
    exact ⟨⟨_, _, ⟨a1, rfl, rfl⟩, rfl, WS⟩, by (first | (simp only [addL_eq, addL_rec]; omega) | omega | exact Nat.le_refl _)⟩
end Go.Proofs.Ytoocmgefoagfnaa
namespace Go.Proofs.Ytoocmgefoagfnaa
open Go.Ab
attribute [local irreducible] aggOk drwOK
set_option maxRecDepth 100000
set_option maxHeartbeats 4000000
set_option linter.unusedVariables false
set_option linter.unusedSimpArgs false
theorem growE {n sz : Nat} {f : Nat → List SV} {l : List SV} (hl : l.length = sz) (hv : f n = l) : ∀ j, j < n + 1 → grow n sz f l j = f j := fun j hj => by
  unfold grow
  by_cases hjn : j < n
  · rw [blt_of hjn, cond_true]
  · have e : j = n := by omega
    subst e
    have hb : Nat.blt j j = false := by
      cases hh : Nat.blt j j with
      | false => rfl
      | true => have := blt_true hh; omega
    rw [hb, cond_false, hv]
    show List.take sz (List.drop ((j - j) * sz) l) = _
    rw [Nat.sub_self, Nat.zero_mul, List.drop_zero, List.take_of_length_le (by omega)]
/-- an office's rules -/
def ofr (T : Nat) (o0 o1 : Nat → Nat) (j : Nat) : Nat × Nat := (sm2 T (o0 j), sm2 T (o1 j))
theorem ofr_lt {T : Nat} (hT : T ≠ 0) (o0 o1 : Nat → Nat) (j : Nat) : (ofr T o0 o1 j).1 < 2 * T ∧ (ofr T o0 o1 j).2 < 2 * T := ⟨sm2_lt hT, sm2_lt hT⟩
/-- a book of its own -/
def QB (i T m : Nat) (ru : Nat → Nat × Nat) (w0 : SV) (mf : Mem) : Prop := ∃ a, w0 = .agg [.int .i64 (Int.ofNat T), .sl i a m m] ∧ mf = [(i, .gr a m 86 4 fun j => rl (ru j))]
theorem c40 (F d i : Nat) (hF : 200 < F) (x0 : Nat) (hx : x0 < 256) (T : Nat) (hT : T = 1 + x0 % 5) (a : Option Addr) (n c : Nat) (o0 o1 : Nat → Nat) (h0 : ∀ j, o0 j < 256) (h1 : ∀ j, o1 j < 256) (m : Nat) (hm : m = min n 9) (R : Nat) :
    callS (CL F (d + 2)) (.fn 40 [] []) [.agg [.int .u8 (Int.ofNat x0), .sl 1000 a n c]] [(1000, .ro a n 0 2 fun j => [.int .u8 (Int.ofNat (o0 j)), .int .u8 (Int.ofNat (o1 j))])] (addL R (1000 + 100)) 0 fun w m' R' _ => (∃ w0 mf, QB i T m (ofr T o0 o1) w0 mf ∧ den w = den w0 ∧ WkM m' mf) ∧ R ≤ R' := by
  have eT : wr .i64 (Int.add 1 (Int.tmod (wr .i64 (Int.ofNat x0)) 5)) = Int.ofNat T := by
    rw [smn (i := x0) (by omega), show Int.tmod (Int.ofNat x0) 5 = Int.ofNat (x0 % 5) from rfl, hT]
    exact smn (i := 1 + x0 % 5) (by omega)
  have hT0 : T ≠ 0 := by omega
  rw [show 1000 + 100 = (1000) + 100 from rfl, addL_eq, ← Nat.add_assoc, ← addL_eq _ 100, Nat.add_comm R (1000)]
  refine call_in (n := 45) Try.func40 rfl rfl rfl rfl rfl rfl rfl ?_
  repeat' ((conv => whnf); first | refine eqS_rfl ?_ | refine eqA_rfl ?_ | refine eqA_of (by assumption) ?_ | refine eqS_of (by rfl) ?_ | refine eqL_rfl ?_ | refine eqJ_rfl ?_ | refine flE_intro (fun _ _ => rfl) ?_ | refine seS_rfl ?_ | refine lsS_of hup ?_ | refine lsS_rfl ?_ | refine brS_tt ?_ | refine brS_ff ?_ | refine brS_not ?_ | refine brS_t (iEq_self _) ?_ | refine brS_t (by assumption) ?_ | refine brS_f (by assumption) ?_ | refine brS_intro (fun _ => ?_) (fun _ => ?_) | refine ltS_intro (by first | assumption | decide | exact Nat.le_of_ble_eq_true rfl | omega) ?_ | refine ixS_of rfl (by first | assumption | decide | omega) ?_ | refine okS_intro (by first | assumption | kernel_rfl) ?_ | refine nzS_intro (by first | decide | assumption) ?_ | intro _)
  rename_i bo b2 b3
  conv => whnf
  refine loS_i (fun jj f mm R' ni => ∃ (j : Nat) (a1 : Option Addr), j ≤ m ∧ jj = m - j + 1 ∧ f = [(1, .ptr 0 bo 0), (2, .ptr 1 b2 0), (3, .ptr 2 b3 0), (4, .int .i64 (Int.ofNat j))] ∧ mm = [(2, .own b3 24 [.int .i64 (Int.ofNat T), .sl 600 a1 j j]), (1, .own b2 24 [.int .i64 0, .val (.slice none 0 0)]), (0, .own bo 71 [.int .u8 (Int.ofNat x0), .sl 1000 a n c]), (600, .gr a1 j 86 4 (fun z => rl (ofr T o0 o1 z))), (1000, .ro a n 0 2 fun j => [.int .u8 (Int.ofNat (o0 j)), .int .u8 (Int.ofNat (o1 j))])] ∧ R' = addL (100 * (m - j) + R) 50 ∧ ni = 100) (m + 1) (by omega)
    ⟨[(1, .ptr 0 bo 0), (2, .ptr 1 b2 0), (3, .ptr 2 b3 0), (4, .int .i64 (Int.ofNat 0))], [(2, .own b3 24 [.int .i64 (Int.ofNat T), .sl 600 none 0 0]), (1, .own b2 24 [.int .i64 0, .val (.slice none 0 0)]), (0, .own bo 71 [.int .u8 (Int.ofNat x0), .sl 1000 a n c]), (600, .gr none 0 86 4 (fun z => rl (ofr T o0 o1 z))), (1000, .ro a n 0 2 fun j => [.int .u8 (Int.ofNat (o0 j)), .int .u8 (Int.ofNat (o1 j))])], addL (100 * (m - 0) + R) 50, 100, ⟨eqF_rfl _, eqF_rfl _, eqF_rfl _, eqF_rfl _, trivial⟩, ?_, by (first | (simp only [addL_eq, addL_rec]; omega) | omega | exact Nat.le_refl _), 0, none, by omega, by omega, rfl, rfl, rfl, rfl⟩ ?_
  · rw [eT]
    exact (WkM.gr0 (WkM.refl _)).trans WS
  rintro _ _ _ _ _ ⟨j, a1, hj, rfl, rfl, rfl, rfl, rfl⟩
  by_cases hjm : j < m
  · have d1 : iLt (Int.ofNat j) (Int.ofNat n) = true := iLt_t (by omega)
    have d2 : iLt (Int.ofNat j) 9 = true := iLt_t (a := j) (b := 9) (by omega)
    have hg := growE (n := j) (sz := 4) (f := fun z => rl (ofr T o0 o1 z)) (l := rl (ofr T o0 o1 j)) rfl rfl
    repeat' ((conv => whnf); first | refine eqS_rfl ?_ | refine eqA_rfl ?_ | refine eqA_of (by assumption) ?_ | refine eqS_of (by rfl) ?_ | refine eqL_rfl ?_ | refine eqJ_rfl ?_ | refine flE_intro (fun _ _ => rfl) ?_ | refine seS_rfl ?_ | refine lsS_of hup ?_ | refine lsS_rfl ?_ | refine brS_tt ?_ | refine brS_ff ?_ | refine brS_not ?_ | refine brS_t (iEq_self _) ?_ | refine brS_t (by assumption) ?_ | refine brS_f (by assumption) ?_ | refine brS_intro (fun _ => ?_) (fun _ => ?_) | refine ltS_intro (by first | assumption | decide | exact Nat.le_of_ble_eq_true rfl | omega) ?_ | refine ixS_of rfl (by first | assumption | decide | omega) ?_ | refine okS_intro (by first | assumption | kernel_rfl) ?_ | refine nzS_intro (by first | decide | assumption) ?_ | refine ltS_intro (by have := lt_of_iLt ‹iLt (Int.ofNat _) (Int.ofNat _) = true›; omega) ?_ | refine ixS_of rfl (by have := lt_of_iLt ‹iLt (Int.ofNat _) (Int.ofNat _) = true›; omega) ?_ | refine ixS_of (q := 0) rfl (by decide) ?_ | refine ixS_of (q := 1) rfl (by decide) ?_ | refine ltS_intro (show j * 4 + 4 < 32769 by omega) ?_ | refine call_pure (c45 F _ _ T hT0 (h0 _) _) ?_ | refine call_pure (c45 F _ _ T hT0 (h1 _) _) ?_ | intro _)
    rename_i a9
    conv => whnf
    exact ⟨m - (j + 1) + 1, [(1, .ptr 0 bo 0), (2, .ptr 1 b2 0), (3, .ptr 2 b3 0), (4, .int .i64 (Int.ofNat (j + 1)))], [(2, .own b3 24 [.int .i64 (Int.ofNat T), .sl 600 a9 (j + 1) (j + 1)]), (1, .own b2 24 [.int .i64 0, .val (.slice none 0 0)]), (0, .own bo 71 [.int .u8 (Int.ofNat x0), .sl 1000 a n c]), (600, .gr a9 (j + 1) 86 4 (fun z => rl (ofr T o0 o1 z))), (1000, .ro a n 0 2 fun j => [.int .u8 (Int.ofNat (o0 j)), .int .u8 (Int.ofNat (o1 j))])], addL (100 * (m - (j + 1)) + R) 50, 100, by omega, ⟨eqF_rfl _, eqF_rfl _, eqF_rfl _, ⟨congrArg (Value.int .i64) (smn (i := j + 1) (by omega)), rfl⟩, trivial⟩, WG, by (first | (simp only [addL_eq, addL_rec]; omega) | omega | exact Nat.le_refl _), j + 1, _, by omega, rfl, rfl, rfl, rfl, rfl⟩
  · have e2 : j = m := by omega
    by_cases hn9 : n ≤ 9
    · have d1 : iLt (Int.ofNat j) (Int.ofNat n) = false := iLt_f (by omega)
      repeat' ((conv => whnf); first | refine eqS_rfl ?_ | refine eqA_rfl ?_ | refine eqA_of (by assumption) ?_ | refine eqS_of (by rfl) ?_ | refine eqL_rfl ?_ | refine eqJ_rfl ?_ | refine flE_intro (fun _ _ => rfl) ?_ | refine seS_rfl ?_ | refine lsS_of hup ?_ | refine lsS_rfl ?_ | refine brS_tt ?_ | refine brS_ff ?_ | refine brS_not ?_ | refine brS_t (iEq_self _) ?_ | refine brS_t (by assumption) ?_ | refine brS_f (by assumption) ?_ | refine brS_intro (fun _ => ?_) (fun _ => ?_) | refine ltS_intro (by first | assumption | decide | exact Nat.le_of_ble_eq_true rfl | omega) ?_ | refine ixS_of rfl (by first | assumption | decide | omega) ?_ | refine okS_intro (by first | assumption | kernel_rfl) ?_ | refine nzS_intro (by first | decide | assumption) ?_ | intro _)
      conv => whnf
      subst e2
      exact ⟨⟨_, _, ⟨a1, rfl, rfl⟩, rfl, WS⟩, by (first | (simp only [addL_eq, addL_rec]; omega) | omega | exact Nat.le_refl _)⟩
    · have d1 : iLt (Int.ofNat j) (Int.ofNat n) = true := iLt_t (by omega)
      have d2 : iLt (Int.ofNat j) 9 = false := iLt_f (a := j) (b := 9) (by omega)
      repeat' ((conv => whnf); first | refine eqS_rfl ?_ | refine eqA_rfl ?_ | refine eqA_of (by assumption) ?_ | refine eqS_of (by rfl) ?_ | refine eqL_rfl ?_ | refine eqJ_rfl ?_ | refine flE_intro (fun _ _ => rfl) ?_ | refine seS_rfl ?_ | refine lsS_of hup ?_ | refine lsS_rfl ?_ | refine brS_tt ?_ | refine brS_ff ?_ | refine brS_not ?_ | refine brS_t (iEq_self _) ?_ | refine brS_t (by assumption) ?_ | refine brS_f (by assumption) ?_ | refine brS_intro (fun _ => ?_) (fun _ => ?_) | refine ltS_intro (by first | assumption | decide | exact Nat.le_of_ble_eq_true rfl | omega) ?_ | refine ixS_of rfl (by first | assumption | decide | omega) ?_ | refine okS_intro (by first | assumption | kernel_rfl) ?_ | refine nzS_intro (by first | decide | assumption) ?_ | intro _)
      conv => whnf
      subst e2
      exact ⟨⟨_, _, ⟨a1, rfl, rfl⟩, rfl, WS⟩, by (first | (simp only [addL_eq, addL_rec]; omega) | omega | exact Nat.le_refl _)⟩
end Go.Proofs.Ytoocmgefoagfnaa
namespace Go.Proofs.Ytoocmgefoagfnaa
open Go.Ab
attribute [local irreducible] aggOk drwOK
set_option maxRecDepth 100000
set_option maxHeartbeats 4000000
set_option linter.unusedVariables false
set_option linter.unusedSimpArgs false
theorem eqC_t {a b : Nat} (h : a = b) : eqV Try.prog 40 50 (den (cv a)) (den (cv b)) = some true := (eqC a b).trans (congrArg some (decide_eq_true h))
theorem eqC_f {a b : Nat} (h : ¬ a = b) : eqV Try.prog 40 50 (den (cv a)) (den (cv b)) = some false := (eqC a b).trans (congrArg some (decide_eq_false h))
/-- a slice that is empty may be read wherever -/
theorem sees_nil {m : Mem} (c sz : Nat) (f : Nat → List SV) (a : Option Addr) : SeesE m (.ro a 0 c sz f) := fun X Z s0 R s hm => ⟨⟨fun j hj => absurd hj (Nat.not_lt_zero _), .inl rfl⟩, fun b hb => hb⟩
/-- a loop over a function; its own memory comes first again -/
theorem call_iter2 {callR callI : CallT} {fv fv' : SV} {me : Mem} {N c len : Nat} {L : Nat → List SV} (h : IterC callR callI fv me N c len L) (I : Nat → Mem → Prop) (Q : Mem → Prop) (m0 : Mem) (R2 : Nat) {i b : Nat} {m : Mem} {R ni : Nat} {K : SV → Mem → Nat → Nat → Prop}
    (hfv : den fv' = den fv) (hw : WkM m (me ++ m0)) (h0 : I 0 m0)
    (hr : ∀ k, k < len → ∀ m, I k m → ∀ (me' : Mem) R, callS callR (.yf i b) (L k) (m ++ me') (addL R c) 500 fun w m' R' _ => R ≤ R' ∧ ∃ m1, WkM m' (m1 ++ me') ∧ ((den w = .bool true ∧ I (k + 1) m1) ∨ (den w = .bool false ∧ Q m1)))
    (hN : R2 + N ≤ R) (hK : ∀ w m1, I len m1 ∨ Q m1 → K w (me ++ m1) R2 ni) : callS callI fv' [.yf i b] m R ni K := by
  refine callS.cast (fv' := fv) (args' := [.yf i b]) hfv rfl ?_
  refine callS.wk hw ?_
  have h1 := h i b I Q hr m0 h0 (R - N)
  rw [addL_eq, Nat.sub_add_cancel (by omega)] at h1
  exact call_post h1 fun w m' R' n' ⟨hR, m1, hw1, hI⟩ => ⟨w, me ++ m1, R2, ni, rfl, hw1.trans (WkM.comm _ _), by omega, hK w m1 hI⟩
theorem call40 {call : CallT} {g : FuncId} {args args0 : List SV} {m0 : Mem} {N i T k : Nat} {ru : Nat → Nat × Nat} (h : ∀ R, callS call (.fn g [] []) args0 m0 (addL R N) 0 fun w m' R' _ => (∃ w0 mf, QB i T k ru w0 mf ∧ den w = den w0 ∧ WkM m' mf) ∧ R ≤ R') (R2 : Nat) {m : Mem} {R ni : Nat} {K : SV → Mem → Nat → Nat → Prop} (ha : dens args = dens args0) (hs : SeesM m m0) (hN : R2 + N ≤ R)
    (hK : ∀ a, K (.agg [.int .i64 (Int.ofNat T), .sl i a k k]) ((i, .gr a k 86 4 fun j => rl (ru j)) :: m) R2 ni) : callS call (.fn g [] []) args m R ni K := by
  refine call_freshL (QB i T k ru) h ?_ R2 ha hs hN ?_
  · rintro _ _ ⟨a1, rfl, rfl⟩ x hx
    rw [List.mem_singleton.1 hx]; exact ⟨_, _, _, _, _, rfl⟩
  · rintro _ _ ⟨a1, rfl, rfl⟩
    exact hK a1
theorem call41 {call : CallT} {g : FuncId} {args args0 : List SV} {m0 : Mem} {N i : Nat} {l : List Nat} (h : ∀ R, callS call (.fn g [] []) args0 m0 (addL R N) 0 fun w m' R' _ => (∃ w0 mf, QT i l w0 mf ∧ den w = den w0 ∧ WkM m' mf) ∧ R ≤ R') (R2 : Nat) {m : Mem} {R ni : Nat} {K : SV → Mem → Nat → Nat → Prop} (ha : dens args = dens args0) (hs : SeesM m m0) (hN : R2 + N ≤ R)
    (hK : ∀ a, K (.sl i a l.length l.length) ((i, .gr a l.length 3 1 fun j => [.int .i64 (Int.ofNat (l.getD j 0))]) :: m) R2 ni) : callS call (.fn g [] []) args m R ni K := by
  refine call_freshL (QT i l) h ?_ R2 ha hs hN ?_
  · rintro _ _ ⟨a1, rfl, rfl⟩ x hx
    rw [List.mem_singleton.1 hx]; exact ⟨_, _, _, _, _, rfl⟩
  · rintro _ _ ⟨a1, rfl, rfl⟩
    exact hK a1
end Go.Proofs.Ytoocmgefoagfnaa
