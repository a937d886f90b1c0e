/- Neutral: texts T Ua Ub Ue Uf Ug. -/
import Derived.Test.YtpncjgiojoehkaaNmA
import Derived.KernelRfl
namespace Go.Proofs.Ytpncjgiojoehkaa
open Go.Ab
attribute [local irreducible] aggOk drwOK
set_option maxRecDepth 100000
set_option maxHeartbeats 4000000
set_option linter.unusedVariables false
set_option linter.unusedSimpArgs false
theorem seS_sb {i b p b' p' j sz n c : Nat} {a : Option Addr} {K : Prop} (h1 : a = some ⟨b, p, none⟩) (h2 : a = some ⟨b', p', none⟩) (h : K) : seS (.sb i b p j sz n c) (.sb i b' p' j sz n c) K := by
  rw [h1] at h2; cases h2; exact ⟨rfl, h⟩
theorem c35 (F d : Nat) (x y : Int) : PureC (CL F (d + 1)) 35 [.int .i64 x, .int .i64 y] 20 (.agg [.int .i64 x, .int .i64 y]) := by
  intro m R
  refine call_in (n := 8) Try.func35 rfl rfl rfl rfl rfl rfl rfl ?_
  repeat' ((conv => whnf); first | refine eqS_rfl ?_ | refine eqA_rfl ?_ | refine eqA_of (by assumption) ?_ | refine eqS_of (by rfl) ?_ | refine eqL_rfl ?_ | refine eqJ_rfl ?_ | refine gE ?_ | refine seS_rfl ?_ | refine lsS_of hup ?_ | refine lsS_rfl ?_ | refine brS_tt ?_ | refine brS_ff ?_ | refine brS_not ?_ | refine gI ?_ | refine gT ?_ | refine gF ?_ | refine brS_intro (fun _ => ?_) (fun _ => ?_) | refine gL ?_ | refine gX ?_ | refine gO ?_ | refine gN ?_ | intro _)
  all_goals (conv => whnf)
  all_goals refine ⟨?_, by repeat' (first | exact WkM.refl _ | refine WkM.drop ?_), by repeat' (first | exact Nat.le_refl _ | refine Nat.le_succ_of_le ?_)⟩
  all_goals (rfl)

/-- a root by numbers -/
abbrev xq (r : Int) : Int := Int.tmod (wr .i64 r) 4
abbrev yq (r : Int) : Int := wr .i64 (Int.add 1 (andI .i64 (wr .i64 r) 1))
abbrev fq (r s : Int) : List Int := [wr .i64 (Int.sub 0 (xq r)), yq s]
/-- roots, each behind the smaller ones -/
abbrev lsB (q r : Int × Int) : Bool := iLt (wr .i64 (Int.mul q.1 r.2)) (wr .i64 (Int.mul r.1 q.2))
def insR (r : Int × Int) : List (Int × Int) → List (Int × Int)
  | [] => [r]
  | q :: t => bif lsB q r then q :: insR r t else r :: q :: t
abbrev rf (l : List (Int × Int)) (z : Nat) : List SV := [.int .i64 (l.getD z (0, 0)).1, .int .i64 (l.getD z (0, 0)).2]
/-- a polynomial's first coefficients are small -/
def okB (L : List Int) : Nat → Bool
  | 0 => true
  | j + 1 => okB L j && (!iLt 50 (L.getD j 0) && !iLt (L.getD j 0) (-50))
/-- what made answers -/
def QM (i j n k : Nat) (P : List Int) (RS : List (Int × Int)) (w0 : SV) (mf : Mem) : Prop := ∃ a1 a2, w0 = .tup [.sl i a1 n n, .sl j a2 k k, .bool (okB P n)] ∧ mf = [(i, .gr a1 n 3 1 (pf P)), (j, .gr a2 k 24 2 (rf RS))]
/-- with another sign -/
def ngL (b : Bool) (P : List Int) : List Int := bif b then P.map fun c => wr .i64 (Int.sub 0 c) else P
/-- the first ones are done -/
def njL (L P : List Int) (j z : Nat) : Int := if z < j then L.getD z 0 else P.getD z 0
theorem njL_at {L P : List Int} {j : Nat} : njL L P j j = P.getD j 0 := by unfold njL; rw [if_neg (Nat.lt_irrefl _)]
theorem njL_0 {L P : List Int} {z : Nat} : njL L P 0 z = P.getD z 0 := by unfold njL; rw [if_neg (Nat.not_lt_zero _)]
theorem njL_t {P : List Int} {j : Nat} (h : j < P.length) : wr .i64 (Int.sub 0 (P.getD j 0)) = (ngL true P).getD j 0 := by
  show _ = (P.map fun c => wr .i64 (Int.sub 0 c)).getD j 0
  rw [List.getD_eq_getElem?_getD, List.getD_eq_getElem?_getD, List.getElem?_map, List.getElem?_eq_getElem h]
  rfl
theorem njL_up {L P : List Int} {j : Nat} (h : j < P.length) (hL : ngL true P = L) : ∀ z, updG j [.int .i64 (wr .i64 (Int.sub 0 (njL L P j j)))] (fun z => [.int .i64 (njL L P j z)]) z = [.int .i64 (njL L P (j + 1) z)] := fun z => by
  by_cases hz : z = j
  · subst hz
    rw [updG_same, njL_at, njL_t h, hL]
    unfold njL
    rw [if_pos (Nat.lt_succ_self _)]
  · rw [updG_other hz]
    unfold njL
    by_cases h1 : z < j
    · rw [if_pos h1, if_pos (Nat.lt_succ_of_lt h1)]
    · rw [if_neg h1, if_neg (by omega)]
theorem njL_up0 {L P : List Int} {j : Nat} (hL : ngL false P = L) : ∀ z, [SV.int .i64 (njL L P j z)] = [.int .i64 (njL L P (j + 1) z)] := fun z => by
  have hL : P = L := hL
  subst hL
  unfold njL
  split <;> split <;> rfl
theorem okB_s {L : List Int} {j : Nat} : okB L (j + 1) = (okB L j && (!iLt 50 (L.getD j 0) && !iLt (L.getD j 0) (-50))) := rfl
theorem njL_fin {L P : List Int} {n z : Nat} (h : z < n) : [SV.int .i64 (njL L P n z)] = pf L z := by unfold njL; rw [if_pos h]
theorem S59a {m m0 : Mem} (h : SeesM m m0 := by first | exact SeesM.cons 1000 (SeesE.ro_congr (sees_own (i := 1) (n := 1) (o := 0) (sz := 1) (c := 4) (by rfl) (by exact Nat.le_refl 1)) (fun j hj => by match j, hj with | 0, _ => rfl | j + 1, hj => exact absurd hj (by omega))) (SeesM.cons 1001 (SeesE.ro_congr (sees_own (i := 3) (n := 2) (o := 0) (sz := 1) (c := 4) (by rfl) (by exact Nat.le_refl 2)) (fun j hj => by match j, hj with | 0, _ => rfl | 1, _ => rfl | j + 2, hj => exact absurd hj (by omega))) (SeesM.nil _) (fun _ _ _ _ _ _ x hx => by cases hx)) (fun _ _ _ _ _ _ x hx => by rcases List.mem_singleton.1 hx with rfl; exact fun _ h => h) | exact SeesM.cons 1000 (SeesE.ro_congr (sees_own (i := 2) (n := 3) (o := 0) (sz := 1) (c := 4) (by rfl) (by exact Nat.le_refl 3)) (fun j hj => by match j, hj with | 0, _ => rfl | 1, _ => rfl | 2, _ => rfl | j + 3, hj => exact absurd hj (by omega))) (SeesM.cons 1001 (SeesE.ro_congr (sees_own (i := 4) (n := 2) (o := 0) (sz := 1) (c := 4) (by rfl) (by exact Nat.le_refl 2)) (fun j hj => by match j, hj with | 0, _ => rfl | 1, _ => rfl | j + 2, hj => exact absurd hj (by omega))) (SeesM.nil _) (fun _ _ _ _ _ _ x hx => by cases hx)) (fun _ _ _ _ _ _ x hx => by rcases List.mem_singleton.1 hx with rfl; exact fun _ h => h) | exact SeesM.cons 1000 (SeesE.ro_congr (sees_own (i := 3) (n := 3) (o := 0) (sz := 1) (c := 4) (by rfl) (by exact Nat.le_refl 3)) (fun j hj => by match j, hj with | 0, _ => rfl | 1, _ => rfl | 2, _ => rfl | j + 3, hj => exact absurd hj (by omega))) (SeesM.cons 1001 (SeesE.ro_congr (sees_own (i := 5) (n := 2) (o := 0) (sz := 1) (c := 4) (by rfl) (by exact Nat.le_refl 2)) (fun j hj => by match j, hj with | 0, _ => rfl | 1, _ => rfl | j + 2, hj => exact absurd hj (by omega))) (SeesM.nil _) (fun _ _ _ _ _ _ x hx => by cases hx)) (fun _ _ _ _ _ _ x hx => by rcases List.mem_singleton.1 hx with rfl; exact fun _ h => h)) : SeesM m m0 := h
theorem S59b {m m0 : Mem} (h : SeesM m m0 := by first | exact SeesM.cons 1000 (sees_gr (i := 710) (by rfl)) (SeesM.cons 1001 (SeesE.ro_congr (sees_own (i := 7) (n := 2) (o := 0) (sz := 1) (c := 4) (by rfl) (by exact Nat.le_refl 2)) (fun j hj => by match j, hj with | 0, _ => rfl | 1, _ => rfl | j + 2, hj => exact absurd hj (by omega))) (SeesM.nil _) (fun _ _ _ _ _ _ x hx => by cases hx)) (fun _ _ _ _ _ _ x hx => by rcases List.mem_singleton.1 hx with rfl; exact fun _ h => h) | exact SeesM.cons 1000 (sees_gr (i := 710) (by rfl)) (SeesM.cons 1001 (SeesE.ro_congr (sees_own (i := 8) (n := 2) (o := 0) (sz := 1) (c := 4) (by rfl) (by exact Nat.le_refl 2)) (fun j hj => by match j, hj with | 0, _ => rfl | 1, _ => rfl | j + 2, hj => exact absurd hj (by omega))) (SeesM.nil _) (fun _ _ _ _ _ _ x hx => by cases hx)) (fun _ _ _ _ _ _ x hx => by rcases List.mem_singleton.1 hx with rfl; exact fun _ h => h) | exact SeesM.cons 1000 (sees_gr (i := 710) (by rfl)) (SeesM.cons 1001 (SeesE.ro_congr (sees_own (i := 9) (n := 2) (o := 0) (sz := 1) (c := 4) (by rfl) (by exact Nat.le_refl 2)) (fun j hj => by match j, hj with | 0, _ => rfl | 1, _ => rfl | j + 2, hj => exact absurd hj (by omega))) (SeesM.nil _) (fun _ _ _ _ _ _ x hx => by cases hx)) (fun _ _ _ _ _ _ x hx => by rcases List.mem_singleton.1 hx with rfl; exact fun _ h => h) | exact SeesM.cons 1000 (sees_gr (i := 710) (by rfl)) (SeesM.cons 1001 (SeesE.ro_congr (sees_own (i := 10) (n := 2) (o := 0) (sz := 1) (c := 4) (by rfl) (by exact Nat.le_refl 2)) (fun j hj => by match j, hj with | 0, _ => rfl | 1, _ => rfl | j + 2, hj => exact absurd hj (by omega))) (SeesM.nil _) (fun _ _ _ _ _ _ x hx => by cases hx)) (fun _ _ _ _ _ _ x hx => by rcases List.mem_singleton.1 hx with rfl; exact fun _ h => h) | exact SeesM.cons 1000 (sees_gr (i := 710) (by rfl)) (SeesM.cons 1001 (SeesE.ro_congr (sees_own (i := 11) (n := 2) (o := 0) (sz := 1) (c := 4) (by rfl) (by exact Nat.le_refl 2)) (fun j hj => by match j, hj with | 0, _ => rfl | 1, _ => rfl | j + 2, hj => exact absurd hj (by omega))) (SeesM.nil _) (fun _ _ _ _ _ _ x hx => by cases hx)) (fun _ _ _ _ _ _ x hx => by rcases List.mem_singleton.1 hx with rfl; exact fun _ h => h) | exact SeesM.cons 1000 (sees_gr (i := 710) (by rfl)) (SeesM.cons 1001 (SeesE.ro_congr (sees_own (i := 12) (n := 2) (o := 0) (sz := 1) (c := 4) (by rfl) (by exact Nat.le_refl 2)) (fun j hj => by match j, hj with | 0, _ => rfl | 1, _ => rfl | j + 2, hj => exact absurd hj (by omega))) (SeesM.nil _) (fun _ _ _ _ _ _ x hx => by cases hx)) (fun _ _ _ _ _ _ x hx => by rcases List.mem_singleton.1 hx with rfl; exact fun _ h => h) | exact SeesM.cons 1000 (sees_gr (i := 710) (by rfl)) (SeesM.cons 1001 (SeesE.ro_congr (sees_own (i := 13) (n := 2) (o := 0) (sz := 1) (c := 4) (by rfl) (by exact Nat.le_refl 2)) (fun j hj => by match j, hj with | 0, _ => rfl | 1, _ => rfl | j + 2, hj => exact absurd hj (by omega))) (SeesM.nil _) (fun _ _ _ _ _ _ x hx => by cases hx)) (fun _ _ _ _ _ _ x hx => by rcases List.mem_singleton.1 hx with rfl; exact fun _ h => h) | exact SeesM.cons 1000 (sees_gr (i := 710) (by rfl)) (SeesM.cons 1001 (SeesE.ro_congr (sees_own (i := 14) (n := 2) (o := 0) (sz := 1) (c := 4) (by rfl) (by exact Nat.le_refl 2)) (fun j hj => by match j, hj with | 0, _ => rfl | 1, _ => rfl | j + 2, hj => exact absurd hj (by omega))) (SeesM.nil _) (fun _ _ _ _ _ _ x hx => by cases hx)) (fun _ _ _ _ _ _ x hx => by rcases List.mem_singleton.1 hx with rfl; exact fun _ h => h) | exact SeesM.cons 1000 (sees_gr (i := 710) (by rfl)) (SeesM.cons 1001 (SeesE.ro_congr (sees_own (i := 15) (n := 2) (o := 0) (sz := 1) (c := 4) (by rfl) (by exact Nat.le_refl 2)) (fun j hj => by match j, hj with | 0, _ => rfl | 1, _ => rfl | j + 2, hj => exact absurd hj (by omega))) (SeesM.nil _) (fun _ _ _ _ _ _ x hx => by cases hx)) (fun _ _ _ _ _ _ x hx => by rcases List.mem_singleton.1 hx with rfl; exact fun _ h => h) | exact SeesM.cons 1000 (sees_gr (i := 710) (by rfl)) (SeesM.cons 1001 (SeesE.ro_congr (sees_own (i := 16) (n := 2) (o := 0) (sz := 1) (c := 4) (by rfl) (by exact Nat.le_refl 2)) (fun j hj => by match j, hj with | 0, _ => rfl | 1, _ => rfl | j + 2, hj => exact absurd hj (by omega))) (SeesM.nil _) (fun _ _ _ _ _ _ x hx => by cases hx)) (fun _ _ _ _ _ _ x hx => by rcases List.mem_singleton.1 hx with rfl; exact fun _ h => h) | exact SeesM.cons 1000 (sees_gr (i := 710) (by rfl)) (SeesM.cons 1001 (SeesE.ro_congr (sees_own (i := 17) (n := 2) (o := 0) (sz := 1) (c := 4) (by rfl) (by exact Nat.le_refl 2)) (fun j hj => by match j, hj with | 0, _ => rfl | 1, _ => rfl | j + 2, hj => exact absurd hj (by omega))) (SeesM.nil _) (fun _ _ _ _ _ _ x hx => by cases hx)) (fun _ _ _ _ _ _ x hx => by rcases List.mem_singleton.1 hx with rfl; exact fun _ h => h) | exact SeesM.cons 1000 (sees_gr (i := 710) (by rfl)) (SeesM.cons 1001 (SeesE.ro_congr (sees_own (i := 18) (n := 2) (o := 0) (sz := 1) (c := 4) (by rfl) (by exact Nat.le_refl 2)) (fun j hj => by match j, hj with | 0, _ => rfl | 1, _ => rfl | j + 2, hj => exact absurd hj (by omega))) (SeesM.nil _) (fun _ _ _ _ _ _ x hx => by cases hx)) (fun _ _ _ _ _ _ x hx => by rcases List.mem_singleton.1 hx with rfl; exact fun _ h => h) | exact SeesM.cons 1000 (sees_gr (i := 710) (by rfl)) (SeesM.cons 1001 (SeesE.ro_congr (sees_own (i := 19) (n := 2) (o := 0) (sz := 1) (c := 4) (by rfl) (by exact Nat.le_refl 2)) (fun j hj => by match j, hj with | 0, _ => rfl | 1, _ => rfl | j + 2, hj => exact absurd hj (by omega))) (SeesM.nil _) (fun _ _ _ _ _ _ x hx => by cases hx)) (fun _ _ _ _ _ _ x hx => by rcases List.mem_singleton.1 hx with rfl; exact fun _ h => h) | exact SeesM.cons 1000 (sees_gr (i := 710) (by rfl)) (SeesM.cons 1001 (SeesE.ro_congr (sees_own (i := 20) (n := 2) (o := 0) (sz := 1) (c := 4) (by rfl) (by exact Nat.le_refl 2)) (fun j hj => by match j, hj with | 0, _ => rfl | 1, _ => rfl | j + 2, hj => exact absurd hj (by omega))) (SeesM.nil _) (fun _ _ _ _ _ _ x hx => by cases hx)) (fun _ _ _ _ _ _ x hx => by rcases List.mem_singleton.1 hx with rfl; exact fun _ h => h)) : SeesM m m0 := h
theorem S59c {m m0 : Mem} (h : SeesM m m0 := by first | exact SeesM.cons 1000 (sees_gr (i := 711) (by rfl)) (SeesM.cons 1001 (SeesE.ro_congr (sees_own (i := 7) (n := 2) (o := 0) (sz := 1) (c := 4) (by rfl) (by exact Nat.le_refl 2)) (fun j hj => by match j, hj with | 0, _ => rfl | 1, _ => rfl | j + 2, hj => exact absurd hj (by omega))) (SeesM.nil _) (fun _ _ _ _ _ _ x hx => by cases hx)) (fun _ _ _ _ _ _ x hx => by rcases List.mem_singleton.1 hx with rfl; exact fun _ h => h) | exact SeesM.cons 1000 (sees_gr (i := 711) (by rfl)) (SeesM.cons 1001 (SeesE.ro_congr (sees_own (i := 8) (n := 2) (o := 0) (sz := 1) (c := 4) (by rfl) (by exact Nat.le_refl 2)) (fun j hj => by match j, hj with | 0, _ => rfl | 1, _ => rfl | j + 2, hj => exact absurd hj (by omega))) (SeesM.nil _) (fun _ _ _ _ _ _ x hx => by cases hx)) (fun _ _ _ _ _ _ x hx => by rcases List.mem_singleton.1 hx with rfl; exact fun _ h => h) | exact SeesM.cons 1000 (sees_gr (i := 711) (by rfl)) (SeesM.cons 1001 (SeesE.ro_congr (sees_own (i := 9) (n := 2) (o := 0) (sz := 1) (c := 4) (by rfl) (by exact Nat.le_refl 2)) (fun j hj => by match j, hj with | 0, _ => rfl | 1, _ => rfl | j + 2, hj => exact absurd hj (by omega))) (SeesM.nil _) (fun _ _ _ _ _ _ x hx => by cases hx)) (fun _ _ _ _ _ _ x hx => by rcases List.mem_singleton.1 hx with rfl; exact fun _ h => h) | exact SeesM.cons 1000 (sees_gr (i := 711) (by rfl)) (SeesM.cons 1001 (SeesE.ro_congr (sees_own (i := 10) (n := 2) (o := 0) (sz := 1) (c := 4) (by rfl) (by exact Nat.le_refl 2)) (fun j hj => by match j, hj with | 0, _ => rfl | 1, _ => rfl | j + 2, hj => exact absurd hj (by omega))) (SeesM.nil _) (fun _ _ _ _ _ _ x hx => by cases hx)) (fun _ _ _ _ _ _ x hx => by rcases List.mem_singleton.1 hx with rfl; exact fun _ h => h) | exact SeesM.cons 1000 (sees_gr (i := 711) (by rfl)) (SeesM.cons 1001 (SeesE.ro_congr (sees_own (i := 11) (n := 2) (o := 0) (sz := 1) (c := 4) (by rfl) (by exact Nat.le_refl 2)) (fun j hj => by match j, hj with | 0, _ => rfl | 1, _ => rfl | j + 2, hj => exact absurd hj (by omega))) (SeesM.nil _) (fun _ _ _ _ _ _ x hx => by cases hx)) (fun _ _ _ _ _ _ x hx => by rcases List.mem_singleton.1 hx with rfl; exact fun _ h => h) | exact SeesM.cons 1000 (sees_gr (i := 711) (by rfl)) (SeesM.cons 1001 (SeesE.ro_congr (sees_own (i := 12) (n := 2) (o := 0) (sz := 1) (c := 4) (by rfl) (by exact Nat.le_refl 2)) (fun j hj => by match j, hj with | 0, _ => rfl | 1, _ => rfl | j + 2, hj => exact absurd hj (by omega))) (SeesM.nil _) (fun _ _ _ _ _ _ x hx => by cases hx)) (fun _ _ _ _ _ _ x hx => by rcases List.mem_singleton.1 hx with rfl; exact fun _ h => h) | exact SeesM.cons 1000 (sees_gr (i := 711) (by rfl)) (SeesM.cons 1001 (SeesE.ro_congr (sees_own (i := 13) (n := 2) (o := 0) (sz := 1) (c := 4) (by rfl) (by exact Nat.le_refl 2)) (fun j hj => by match j, hj with | 0, _ => rfl | 1, _ => rfl | j + 2, hj => exact absurd hj (by omega))) (SeesM.nil _) (fun _ _ _ _ _ _ x hx => by cases hx)) (fun _ _ _ _ _ _ x hx => by rcases List.mem_singleton.1 hx with rfl; exact fun _ h => h) | exact SeesM.cons 1000 (sees_gr (i := 711) (by rfl)) (SeesM.cons 1001 (SeesE.ro_congr (sees_own (i := 14) (n := 2) (o := 0) (sz := 1) (c := 4) (by rfl) (by exact Nat.le_refl 2)) (fun j hj => by match j, hj with | 0, _ => rfl | 1, _ => rfl | j + 2, hj => exact absurd hj (by omega))) (SeesM.nil _) (fun _ _ _ _ _ _ x hx => by cases hx)) (fun _ _ _ _ _ _ x hx => by rcases List.mem_singleton.1 hx with rfl; exact fun _ h => h) | exact SeesM.cons 1000 (sees_gr (i := 711) (by rfl)) (SeesM.cons 1001 (SeesE.ro_congr (sees_own (i := 15) (n := 2) (o := 0) (sz := 1) (c := 4) (by rfl) (by exact Nat.le_refl 2)) (fun j hj => by match j, hj with | 0, _ => rfl | 1, _ => rfl | j + 2, hj => exact absurd hj (by omega))) (SeesM.nil _) (fun _ _ _ _ _ _ x hx => by cases hx)) (fun _ _ _ _ _ _ x hx => by rcases List.mem_singleton.1 hx with rfl; exact fun _ h => h) | exact SeesM.cons 1000 (sees_gr (i := 711) (by rfl)) (SeesM.cons 1001 (SeesE.ro_congr (sees_own (i := 16) (n := 2) (o := 0) (sz := 1) (c := 4) (by rfl) (by exact Nat.le_refl 2)) (fun j hj => by match j, hj with | 0, _ => rfl | 1, _ => rfl | j + 2, hj => exact absurd hj (by omega))) (SeesM.nil _) (fun _ _ _ _ _ _ x hx => by cases hx)) (fun _ _ _ _ _ _ x hx => by rcases List.mem_singleton.1 hx with rfl; exact fun _ h => h) | exact SeesM.cons 1000 (sees_gr (i := 711) (by rfl)) (SeesM.cons 1001 (SeesE.ro_congr (sees_own (i := 17) (n := 2) (o := 0) (sz := 1) (c := 4) (by rfl) (by exact Nat.le_refl 2)) (fun j hj => by match j, hj with | 0, _ => rfl | 1, _ => rfl | j + 2, hj => exact absurd hj (by omega))) (SeesM.nil _) (fun _ _ _ _ _ _ x hx => by cases hx)) (fun _ _ _ _ _ _ x hx => by rcases List.mem_singleton.1 hx with rfl; exact fun _ h => h) | exact SeesM.cons 1000 (sees_gr (i := 711) (by rfl)) (SeesM.cons 1001 (SeesE.ro_congr (sees_own (i := 18) (n := 2) (o := 0) (sz := 1) (c := 4) (by rfl) (by exact Nat.le_refl 2)) (fun j hj => by match j, hj with | 0, _ => rfl | 1, _ => rfl | j + 2, hj => exact absurd hj (by omega))) (SeesM.nil _) (fun _ _ _ _ _ _ x hx => by cases hx)) (fun _ _ _ _ _ _ x hx => by rcases List.mem_singleton.1 hx with rfl; exact fun _ h => h) | exact SeesM.cons 1000 (sees_gr (i := 711) (by rfl)) (SeesM.cons 1001 (SeesE.ro_congr (sees_own (i := 19) (n := 2) (o := 0) (sz := 1) (c := 4) (by rfl) (by exact Nat.le_refl 2)) (fun j hj => by match j, hj with | 0, _ => rfl | 1, _ => rfl | j + 2, hj => exact absurd hj (by omega))) (SeesM.nil _) (fun _ _ _ _ _ _ x hx => by cases hx)) (fun _ _ _ _ _ _ x hx => by rcases List.mem_singleton.1 hx with rfl; exact fun _ h => h) | exact SeesM.cons 1000 (sees_gr (i := 711) (by rfl)) (SeesM.cons 1001 (SeesE.ro_congr (sees_own (i := 20) (n := 2) (o := 0) (sz := 1) (c := 4) (by rfl) (by exact Nat.le_refl 2)) (fun j hj => by match j, hj with | 0, _ => rfl | 1, _ => rfl | j + 2, hj => exact absurd hj (by omega))) (SeesM.nil _) (fun _ _ _ _ _ _ x hx => by cases hx)) (fun _ _ _ _ _ _ x hx => by rcases List.mem_singleton.1 hx with rfl; exact fun _ h => h)) : SeesM m m0 := h
end Go.Proofs.Ytpncjgiojoehkaa
namespace Go.Proofs.Ytpncjgiojoehkaa
open Go.Ab
attribute [local irreducible] aggOk drwOK
set_option maxRecDepth 100000
set_option maxHeartbeats 4000000
set_option linter.unusedVariables false
set_option linter.unusedSimpArgs false
theorem c31_e1 (F d i j : Nat) (hF : 200 < F) (r00 r01 r10 r11 r20 r21 fa : Int) (cnt : Nat) (hcnt : cnt < 256) (hk1 : 1 + cnt % 3 = 1) (R : Nat) : callS (CL F (d + 2)) (.fn 31 [] []) [.agg [.int .i8 r00, .int .i8 r01, .int .i8 r10, .int .i8 r11, .int .i8 r20, .int .i8 r21, .int .u8 (Int.ofNat cnt), .bool false, .int .i8 fa]] [] (addL R (30000 + 100)) 0 fun w m' R' _ => (∃ w0 mf, QM i j 2 1 (ngL (iLt fa 0) (mulL [1] (fq r00 r01))) (insR (xq r00, yq r01) ([] : List (Int × Int))) w0 mf ∧ den w = den w0 ∧ WkM m' mf) ∧ R ≤ R' := by
  have hc : wr .i64 (Int.add 1 (Int.tmod (wr .i64 (Int.ofNat cnt)) 3)) = Int.ofNat 1 := by
    rw [smn (i := cnt) (by omega), show Int.tmod (Int.ofNat cnt) 3 = Int.ofNat (cnt % 3) from rfl]
    exact (smn (i := 1 + cnt % 3) (by omega)).trans (congrArg Int.ofNat hk1)
  have c0 : iLt 0 (wr .i64 (Int.add 1 (Int.tmod (wr .i64 (Int.ofNat cnt)) 3))) = true := by rw [hc]; rfl
  have c1 : iLt 1 (wr .i64 (Int.add 1 (Int.tmod (wr .i64 (Int.ofNat cnt)) 3))) = false := by rw [hc]; rfl
  have k59_0 := fun a c a2 c2 R => c59 F d 710 a 1 c [1] rfl a2 2 c2 (fq r00 r01) rfl (by omega) (by omega) (by omega) (by omega) (by omega) R
  obtain ⟨P1, hP1⟩ : ∃ z, mulL [1] (fq r00 r01) = z := ⟨_, rfl⟩
  rw [hP1] at k59_0 ⊢
  have hl1 : P1.length = 2 := by rw [← hP1, mulL_len]; rfl
  obtain ⟨L, hL⟩ : ∃ z, ngL (iLt fa 0) P1 = z := ⟨_, rfl⟩
  obtain ⟨RS, hRS⟩ : ∃ z, (insR (xq r00, yq r01) ([] : List (Int × Int))) = z := ⟨_, rfl⟩
  rw [hL, hRS]
  rw [show 30000 + 100 = (30000) + 100 from rfl, addL_eq, ← Nat.add_assoc, ← addL_eq _ 100, Nat.add_comm R (30000)]
  refine call_in (n := 129) Try.func31 rfl rfl rfl rfl rfl rfl rfl ?_
  repeat' ((conv => whnf); first | refine eqS_rfl ?_ | refine eqA_rfl ?_ | refine eqA_of (by assumption) ?_ | refine eqS_of (by rfl) ?_ | refine eqL_rfl ?_ | refine eqJ_rfl ?_ | refine gE ?_ | refine seS_rfl ?_ | refine lsS_of hup ?_ | refine lsS_rfl ?_ | refine brS_tt ?_ | refine brS_ff ?_ | refine brS_not ?_ | refine gI ?_ | refine gT ?_ | refine gF ?_ | refine brS_intro (fun _ => ?_) (fun _ => ?_) | refine gL ?_ | refine gX ?_ | refine gO ?_ | refine gN ?_ | refine gM ?_ | refine gY ?_ | refine call_pure (c35 F _ _ _) ?_ | refine call67 710 (k59_0 _ _ _ _) (addL (24000 + R) 400) (by rfl) S59a (nM1) ?_ | refine seS_sb (by assumption) (by assumption) ?_ | refine flE_intro (fun j hj => by match j, hj with | 0, _ => rfl | 1, _ => rfl | 2, _ => rfl | j + 3, hj => exact absurd (Nat.lt_of_lt_of_le hj (show _ ≤ 3 by decide)) (Nat.not_lt_of_le (Nat.le_add_left 3 j))) ?_ | refine emS_0 ?_ | refine emS_p oM1 ?_ | refine orS_l oM1 ?_ | refine orS_r oM1 ?_ | refine ltS_intro oM1 ?_ | intro _)
  rename_i bo b1
  conv => whnf
  refine loS_u 4 (by omega) ?_
  repeat' ((conv => whnf); first | refine eqS_rfl ?_ | refine eqA_rfl ?_ | refine eqA_of (by assumption) ?_ | refine eqS_of (by rfl) ?_ | refine eqL_rfl ?_ | refine eqJ_rfl ?_ | refine gE ?_ | refine seS_rfl ?_ | refine lsS_of hup ?_ | refine lsS_rfl ?_ | refine brS_tt ?_ | refine brS_ff ?_ | refine brS_not ?_ | refine gI ?_ | refine gT ?_ | refine gF ?_ | refine brS_intro (fun _ => ?_) (fun _ => ?_) | refine gL ?_ | refine gX ?_ | refine gO ?_ | refine gN ?_ | refine gM ?_ | refine gY ?_ | refine call_pure (c35 F _ _ _) ?_ | refine call67 710 (k59_0 _ _ _ _) (addL (24000 + R) 400) (by rfl) S59a (nM1) ?_ | refine seS_sb (by assumption) (by assumption) ?_ | refine flE_intro (fun j hj => by match j, hj with | 0, _ => rfl | 1, _ => rfl | 2, _ => rfl | j + 3, hj => exact absurd (Nat.lt_of_lt_of_le hj (show _ ≤ 3 by decide)) (Nat.not_lt_of_le (Nat.le_add_left 3 j))) ?_ | refine emS_0 ?_ | refine emS_p oM1 ?_ | refine orS_l oM1 ?_ | refine orS_r oM1 ?_ | refine ltS_intro oM1 ?_ | intro _)
  conv => whnf
  refine loS_u 4 (by omega) ?_
  repeat' ((conv => whnf); first | refine eqS_rfl ?_ | refine eqA_rfl ?_ | refine eqA_of (by assumption) ?_ | refine eqS_of (by rfl) ?_ | refine eqL_rfl ?_ | refine eqJ_rfl ?_ | refine gE ?_ | refine seS_rfl ?_ | refine lsS_of hup ?_ | refine lsS_rfl ?_ | refine brS_tt ?_ | refine brS_ff ?_ | refine brS_not ?_ | refine gI ?_ | refine gT ?_ | refine gF ?_ | refine brS_intro (fun _ => ?_) (fun _ => ?_) | refine gL ?_ | refine gX ?_ | refine gO ?_ | refine gN ?_ | refine gM ?_ | refine gY ?_ | refine call_pure (c35 F _ _ _) ?_ | refine call67 710 (k59_0 _ _ _ _) (addL (24000 + R) 400) (by rfl) S59a (nM1) ?_ | refine seS_sb (by assumption) (by assumption) ?_ | refine flE_intro (fun j hj => by match j, hj with | 0, _ => rfl | 1, _ => rfl | 2, _ => rfl | j + 3, hj => exact absurd (Nat.lt_of_lt_of_le hj (show _ ≤ 3 by decide)) (Nat.not_lt_of_le (Nat.le_add_left 3 j))) ?_ | refine emS_0 ?_ | refine emS_p oM1 ?_ | refine orS_l oM1 ?_ | refine orS_r oM1 ?_ | refine ltS_intro oM1 ?_ | intro _)
  simp only [insR, cond_true, cond_false] at hRS
  conv => whnf
  have hN0 : ∀ z, z < 2 → pf P1 z = [SV.int .i64 (njL L P1 0 z)] := fun z _ => by rw [njL_0]
  refine loS_i (fun jj f mm R' ni => ∃ (j : Nat) (aP aR : Option Addr), j ≤ 2 ∧ jj = 2 - j + 1 ∧ f = [(1, .ptr 0 bo 0), (2, .sl 710 aP 2 2), (3, .sl 760 aR 1 1), (4, .bool (okB L j)), (94, .sl 710 aP 2 2), (95, .int .i64 (Int.ofNat 2)), (96, .int .i64 (Int.ofNat j))] ∧ mm = [(760, .gr aR 1 24 2 (rf RS)), (710, .gr aP 2 3 1 (fun z => [.int .i64 (njL L P1 j z)])), (0, .own bo 54 [.int .i8 r00, .int .i8 r01, .int .i8 r10, .int .i8 r11, .int .i8 r20, .int .i8 r21, .int .u8 (Int.ofNat cnt), .bool false, .int .i8 fa])] ∧ R' = addL (60 * (2 - j) + R) 60 ∧ ni = 900) 3 (by omega) ⟨[(1, .ptr 0 bo 0), (2, .sl 710 _ 2 2), (3, .sl 760 _ 1 1), (4, .bool (okB L 0)), (94, .sl 710 _ 2 2), (95, .int .i64 (Int.ofNat 2)), (96, .int .i64 (Int.ofNat 0))], [(760, .gr _ 1 24 2 (rf RS)), (710, .gr _ 2 3 1 (fun z => [.int .i64 (njL L P1 0 z)])), (0, .own bo 54 [.int .i8 r00, .int .i8 r01, .int .i8 r10, .int .i8 r11, .int .i8 r20, .int .i8 r21, .int .u8 (Int.ofNat cnt), .bool false, .int .i8 fa])], addL (60 * (2 - 0) + R) 60, 900, ⟨eqF_rfl _, ⟨rfl, rfl⟩, ⟨rfl, rfl⟩, ⟨rfl, rfl⟩, ⟨rfl, rfl⟩, ⟨rfl, rfl⟩, ⟨rfl, rfl⟩, trivial⟩, (WkM.gr_den (j := 760) (g := rf RS) (by rw [← hRS]; exact fun z hz => by match z, hz with | 0, _ => rfl | z + 1, hz => exact absurd (Nat.lt_of_lt_of_le hz (show _ ≤ 1 by decide)) (Nat.not_lt_of_le (Nat.le_add_left 1 z)))).trans WG, nM1, 0, _, _, by omega, by omega, rfl, rfl, rfl, rfl⟩ ?_
  rintro _ _ _ _ _ ⟨j', aP, aR, hj', rfl, rfl, rfl, rfl, rfl⟩
  by_cases hlt : j' < 2
  · have d1 := iLt_t hlt
    have hl' : j' < P1.length := by omega
    rcases Bool.eq_false_or_eq_true (iLt fa 0) with hs | hs <;> rw [hs] at hL
    · have hN := njL_up hl' hL
      have hup : updG j' [.int .i64 (wr .i64 (Int.sub 0 (njL L P1 j' j')))] (fun z => [.int .i64 (njL L P1 j' z)]) j' = [.int .i64 (L.getD j' 0)] := by rw [updG_same, njL_at, njL_t hl', hL]
      have hU : ∀ z, z < 2 → updG j' [.int .i64 (wr .i64 (Int.sub 0 (njL L P1 j' j')))] (fun z => [.int .i64 (njL L P1 j' z)]) z = [.int .i64 (njL L P1 (j' + 1) z)] := fun z _ => hN z
      rcases Bool.eq_false_or_eq_true (okB L j') with ho | ho
      all_goals
        rcases Bool.eq_false_or_eq_true (iLt 50 (L.getD j' 0)) with h5 | h5
        all_goals
          rcases Bool.eq_false_or_eq_true (iLt (L.getD j' 0) (-50)) with h6 | h6
          all_goals
            have e := okB_s (L := L) (j := j')
            rw [ho, h5, h6] at e
            repeat' ((conv => whnf); first | refine eqS_rfl ?_ | refine eqA_rfl ?_ | refine eqA_of (by assumption) ?_ | refine eqS_of (by rfl) ?_ | refine eqL_rfl ?_ | refine eqJ_rfl ?_ | refine gE ?_ | refine seS_rfl ?_ | refine lsS_of hup ?_ | refine lsS_rfl ?_ | refine brS_tt ?_ | refine brS_ff ?_ | refine brS_not ?_ | refine gI ?_ | refine gT ?_ | refine gF ?_ | refine brS_intro (fun _ => ?_) (fun _ => ?_) | refine gL ?_ | refine gX ?_ | refine gO ?_ | refine gN ?_ | refine gM ?_ | refine gY ?_ | rw [hup] | intro _)
            conv => whnf
            exact ⟨2 - (j' + 1) + 1, [(1, .ptr 0 bo 0), (2, .sl 710 aP 2 2), (3, .sl 760 aR 1 1), (4, .bool (okB L (j' + 1))), (94, .sl 710 aP 2 2), (95, .int .i64 (Int.ofNat 2)), (96, .int .i64 (Int.ofNat (j' + 1)))], [(760, .gr aR 1 24 2 (rf RS)), (710, .gr aP 2 3 1 (fun z => [.int .i64 (njL L P1 (j' + 1) z)])), (0, .own bo 54 [.int .i8 r00, .int .i8 r01, .int .i8 r10, .int .i8 r11, .int .i8 r20, .int .i8 r21, .int .u8 (Int.ofNat cnt), .bool false, .int .i8 fa])], addL (60 * (2 - (j' + 1)) + R) 60, 900, by omega, ⟨eqF_rfl _, eqF_rfl _, eqF_rfl _, ⟨by first | exact congrArg (fun b => Value.bool b) e.symm | exact congrArg (fun b => Value.bool b) ((congrArg not h6).trans e.symm), rfl⟩, eqF_rfl _, eqF_rfl _, ⟨congrArg (Value.int .i64) (smn (i := j' + 1) (by omega)), rfl⟩, trivial⟩, WG, nM1, j' + 1, aP, aR, by omega, rfl, rfl, rfl, rfl, rfl⟩
    · have hN := njL_up0 (j := j') hL
      have e9 : L.getD j' 0 = njL L P1 j' j' := by rw [njL_at, ← hL]; rfl
      have hU : ∀ z, z < 2 → [SV.int .i64 (njL L P1 j' z)] = [.int .i64 (njL L P1 (j' + 1) z)] := fun z _ => hN z
      rcases Bool.eq_false_or_eq_true (okB L j') with ho | ho
      all_goals
        rcases Bool.eq_false_or_eq_true (iLt 50 (njL L P1 j' j')) with h5 | h5
        all_goals
          rcases Bool.eq_false_or_eq_true (iLt (njL L P1 j' j') (-50)) with h6 | h6
          all_goals
            have e := okB_s (L := L) (j := j')
            rw [e9, ho, h5, h6] at e
            repeat' ((conv => whnf); first | refine eqS_rfl ?_ | refine eqA_rfl ?_ | refine eqA_of (by assumption) ?_ | refine eqS_of (by rfl) ?_ | refine eqL_rfl ?_ | refine eqJ_rfl ?_ | refine gE ?_ | refine seS_rfl ?_ | refine lsS_of hup ?_ | refine lsS_rfl ?_ | refine brS_tt ?_ | refine brS_ff ?_ | refine brS_not ?_ | refine gI ?_ | refine gT ?_ | refine gF ?_ | refine brS_intro (fun _ => ?_) (fun _ => ?_) | refine gL ?_ | refine gX ?_ | refine gO ?_ | refine gN ?_ | refine gM ?_ | refine gY ?_ | intro _)
            conv => whnf
            exact ⟨2 - (j' + 1) + 1, [(1, .ptr 0 bo 0), (2, .sl 710 aP 2 2), (3, .sl 760 aR 1 1), (4, .bool (okB L (j' + 1))), (94, .sl 710 aP 2 2), (95, .int .i64 (Int.ofNat 2)), (96, .int .i64 (Int.ofNat (j' + 1)))], [(760, .gr aR 1 24 2 (rf RS)), (710, .gr aP 2 3 1 (fun z => [.int .i64 (njL L P1 (j' + 1) z)])), (0, .own bo 54 [.int .i8 r00, .int .i8 r01, .int .i8 r10, .int .i8 r11, .int .i8 r20, .int .i8 r21, .int .u8 (Int.ofNat cnt), .bool false, .int .i8 fa])], addL (60 * (2 - (j' + 1)) + R) 60, 900, by omega, ⟨eqF_rfl _, eqF_rfl _, eqF_rfl _, ⟨by first | exact congrArg (fun b => Value.bool b) e.symm | exact congrArg (fun b => Value.bool b) ((congrArg not h6).trans e.symm), rfl⟩, eqF_rfl _, eqF_rfl _, ⟨congrArg (Value.int .i64) (smn (i := j' + 1) (by omega)), rfl⟩, trivial⟩, WG, nM1, j' + 1, aP, aR, by omega, rfl, rfl, rfl, rfl, rfl⟩
  · have e3 : 2 = j' := by omega
    subst e3
    have d1 := iLt_f (Nat.le_refl 2)
    have hfin : ∀ z, z < 2 → [SV.int .i64 (njL L P1 2 z)] = pf L z := fun z hz => njL_fin hz
    repeat' ((conv => whnf); first | refine eqS_rfl ?_ | refine eqA_rfl ?_ | refine eqA_of (by assumption) ?_ | refine eqS_of (by rfl) ?_ | refine eqL_rfl ?_ | refine eqJ_rfl ?_ | refine gE ?_ | refine seS_rfl ?_ | refine lsS_of hup ?_ | refine lsS_rfl ?_ | refine brS_tt ?_ | refine brS_ff ?_ | refine brS_not ?_ | refine gI ?_ | refine gT ?_ | refine gF ?_ | refine brS_intro (fun _ => ?_) (fun _ => ?_) | refine gL ?_ | refine gX ?_ | refine gO ?_ | refine gN ?_ | refine gM ?_ | refine gY ?_ | intro _)
    conv => whnf
    exact ⟨⟨_, _, ⟨aP, aR, rfl, rfl⟩, rfl, WG⟩, nM1⟩
end Go.Proofs.Ytpncjgiojoehkaa
namespace Go.Proofs.Ytpncjgiojoehkaa
open Go.Ab
attribute [local irreducible] aggOk drwOK
set_option maxRecDepth 100000
set_option maxHeartbeats 4000000
set_option linter.unusedVariables false
set_option linter.unusedSimpArgs false
theorem c31_e2 (F d i j : Nat) (hF : 200 < F) (r00 r01 r10 r11 r20 r21 fa : Int) (cnt : Nat) (hcnt : cnt < 256) (hk1 : 1 + cnt % 3 = 2) (R : Nat) : callS (CL F (d + 2)) (.fn 31 [] []) [.agg [.int .i8 r00, .int .i8 r01, .int .i8 r10, .int .i8 r11, .int .i8 r20, .int .i8 r21, .int .u8 (Int.ofNat cnt), .bool false, .int .i8 fa]] [] (addL R (30000 + 100)) 0 fun w m' R' _ => (∃ w0 mf, QM i j 3 2 (ngL (iLt fa 0) (mulL (mulL [1] (fq r00 r01)) (fq r10 r11))) (insR (xq r10, yq r11) (insR (xq r00, yq r01) ([] : List (Int × Int)))) w0 mf ∧ den w = den w0 ∧ WkM m' mf) ∧ R ≤ R' := by
  have hc : wr .i64 (Int.add 1 (Int.tmod (wr .i64 (Int.ofNat cnt)) 3)) = Int.ofNat 2 := by
    rw [smn (i := cnt) (by omega), show Int.tmod (Int.ofNat cnt) 3 = Int.ofNat (cnt % 3) from rfl]
    exact (smn (i := 1 + cnt % 3) (by omega)).trans (congrArg Int.ofNat hk1)
  have c0 : iLt 0 (wr .i64 (Int.add 1 (Int.tmod (wr .i64 (Int.ofNat cnt)) 3))) = true := by rw [hc]; rfl
  have c1 : iLt 1 (wr .i64 (Int.add 1 (Int.tmod (wr .i64 (Int.ofNat cnt)) 3))) = true := by rw [hc]; rfl
  have c2 : iLt 2 (wr .i64 (Int.add 1 (Int.tmod (wr .i64 (Int.ofNat cnt)) 3))) = false := by rw [hc]; rfl
  have k59_0 := fun a c a2 c2 R => c59 F d 710 a 1 c [1] rfl a2 2 c2 (fq r00 r01) rfl (by omega) (by omega) (by omega) (by omega) (by omega) R
  obtain ⟨P1, hP1⟩ : ∃ z, mulL [1] (fq r00 r01) = z := ⟨_, rfl⟩
  rw [hP1] at k59_0 ⊢
  have hl1 : P1.length = 2 := by rw [← hP1, mulL_len]; rfl
  have k59_1 := fun a c a2 c2 R => c59 F d 711 a 2 c P1 hl1 a2 2 c2 (fq r10 r11) rfl (by omega) (by omega) (by omega) (by omega) (by omega) R
  obtain ⟨P2, hP2⟩ : ∃ z, mulL P1 (fq r10 r11) = z := ⟨_, rfl⟩
  rw [hP2] at k59_1 ⊢
  have hl2 : P2.length = 3 := by rw [← hP2, mulL_len, hl1]; rfl
  obtain ⟨L, hL⟩ : ∃ z, ngL (iLt fa 0) P2 = z := ⟨_, rfl⟩
  obtain ⟨RS, hRS⟩ : ∃ z, (insR (xq r10, yq r11) (insR (xq r00, yq r01) ([] : List (Int × Int)))) = z := ⟨_, rfl⟩
  rw [hL, hRS]
  rw [show 30000 + 100 = (30000) + 100 from rfl, addL_eq, ← Nat.add_assoc, ← addL_eq _ 100, Nat.add_comm R (30000)]
  rcases Bool.eq_false_or_eq_true (lsB (xq r00, yq r01) (xq r10, yq r11)) with h01 | h01
  all_goals
    refine call_in (n := 129) Try.func31 rfl rfl rfl rfl rfl rfl rfl ?_
    repeat' ((conv => whnf); first | refine eqS_rfl ?_ | refine eqA_rfl ?_ | refine eqA_of (by assumption) ?_ | refine eqS_of (by rfl) ?_ | refine eqL_rfl ?_ | refine eqJ_rfl ?_ | refine gE ?_ | refine seS_rfl ?_ | refine lsS_of hup ?_ | refine lsS_rfl ?_ | refine brS_tt ?_ | refine brS_ff ?_ | refine brS_not ?_ | refine gI ?_ | refine gT ?_ | refine gF ?_ | refine brS_intro (fun _ => ?_) (fun _ => ?_) | refine gL ?_ | refine gX ?_ | refine gO ?_ | refine gN ?_ | refine gM ?_ | refine gY ?_ | refine call_pure (c35 F _ _ _) ?_ | refine call67 710 (k59_0 _ _ _ _) (addL (24000 + R) 400) (by rfl) S59a (nM1) ?_ | refine call67 711 (k59_1 _ _ _ _) (addL (18000 + R) 400) (by rfl) S59b (nM1) ?_ | refine seS_sb (by assumption) (by assumption) ?_ | refine flE_intro (fun j hj => by match j, hj with | 0, _ => rfl | 1, _ => rfl | 2, _ => rfl | j + 3, hj => exact absurd (Nat.lt_of_lt_of_le hj (show _ ≤ 3 by decide)) (Nat.not_lt_of_le (Nat.le_add_left 3 j))) ?_ | refine emS_0 ?_ | refine emS_p oM1 ?_ | refine orS_l oM1 ?_ | refine orS_r oM1 ?_ | refine ltS_intro oM1 ?_ | intro _)
    rename_i bo b1
    conv => whnf
    refine loS_u 4 (by omega) ?_
    repeat' ((conv => whnf); first | refine eqS_rfl ?_ | refine eqA_rfl ?_ | refine eqA_of (by assumption) ?_ | refine eqS_of (by rfl) ?_ | refine eqL_rfl ?_ | refine eqJ_rfl ?_ | refine gE ?_ | refine seS_rfl ?_ | refine lsS_of hup ?_ | refine lsS_rfl ?_ | refine brS_tt ?_ | refine brS_ff ?_ | refine brS_not ?_ | refine gI ?_ | refine gT ?_ | refine gF ?_ | refine brS_intro (fun _ => ?_) (fun _ => ?_) | refine gL ?_ | refine gX ?_ | refine gO ?_ | refine gN ?_ | refine gM ?_ | refine gY ?_ | refine call_pure (c35 F _ _ _) ?_ | refine call67 710 (k59_0 _ _ _ _) (addL (24000 + R) 400) (by rfl) S59a (nM1) ?_ | refine call67 711 (k59_1 _ _ _ _) (addL (18000 + R) 400) (by rfl) S59b (nM1) ?_ | refine seS_sb (by assumption) (by assumption) ?_ | refine flE_intro (fun j hj => by match j, hj with | 0, _ => rfl | 1, _ => rfl | 2, _ => rfl | j + 3, hj => exact absurd (Nat.lt_of_lt_of_le hj (show _ ≤ 3 by decide)) (Nat.not_lt_of_le (Nat.le_add_left 3 j))) ?_ | refine emS_0 ?_ | refine emS_p oM1 ?_ | refine orS_l oM1 ?_ | refine orS_r oM1 ?_ | refine ltS_intro oM1 ?_ | intro _)
    conv => whnf
    refine loS_u 4 (by omega) ?_
    repeat' ((conv => whnf); first | refine eqS_rfl ?_ | refine eqA_rfl ?_ | refine eqA_of (by assumption) ?_ | refine eqS_of (by rfl) ?_ | refine eqL_rfl ?_ | refine eqJ_rfl ?_ | refine gE ?_ | refine seS_rfl ?_ | refine lsS_of hup ?_ | refine lsS_rfl ?_ | refine brS_tt ?_ | refine brS_ff ?_ | refine brS_not ?_ | refine gI ?_ | refine gT ?_ | refine gF ?_ | refine brS_intro (fun _ => ?_) (fun _ => ?_) | refine gL ?_ | refine gX ?_ | refine gO ?_ | refine gN ?_ | refine gM ?_ | refine gY ?_ | refine call_pure (c35 F _ _ _) ?_ | refine call67 710 (k59_0 _ _ _ _) (addL (24000 + R) 400) (by rfl) S59a (nM1) ?_ | refine call67 711 (k59_1 _ _ _ _) (addL (18000 + R) 400) (by rfl) S59b (nM1) ?_ | refine seS_sb (by assumption) (by assumption) ?_ | refine flE_intro (fun j hj => by match j, hj with | 0, _ => rfl | 1, _ => rfl | 2, _ => rfl | j + 3, hj => exact absurd (Nat.lt_of_lt_of_le hj (show _ ≤ 3 by decide)) (Nat.not_lt_of_le (Nat.le_add_left 3 j))) ?_ | refine emS_0 ?_ | refine emS_p oM1 ?_ | refine orS_l oM1 ?_ | refine orS_r oM1 ?_ | refine ltS_intro oM1 ?_ | intro _)
    conv => whnf
    refine loS_u 4 (by omega) ?_
    repeat' ((conv => whnf); first | refine eqS_rfl ?_ | refine eqA_rfl ?_ | refine eqA_of (by assumption) ?_ | refine eqS_of (by rfl) ?_ | refine eqL_rfl ?_ | refine eqJ_rfl ?_ | refine gE ?_ | refine seS_rfl ?_ | refine lsS_of hup ?_ | refine lsS_rfl ?_ | refine brS_tt ?_ | refine brS_ff ?_ | refine brS_not ?_ | refine gI ?_ | refine gT ?_ | refine gF ?_ | refine brS_intro (fun _ => ?_) (fun _ => ?_) | refine gL ?_ | refine gX ?_ | refine gO ?_ | refine gN ?_ | refine gM ?_ | refine gY ?_ | refine call_pure (c35 F _ _ _) ?_ | refine call67 710 (k59_0 _ _ _ _) (addL (24000 + R) 400) (by rfl) S59a (nM1) ?_ | refine call67 711 (k59_1 _ _ _ _) (addL (18000 + R) 400) (by rfl) S59b (nM1) ?_ | refine seS_sb (by assumption) (by assumption) ?_ | refine flE_intro (fun j hj => by match j, hj with | 0, _ => rfl | 1, _ => rfl | 2, _ => rfl | j + 3, hj => exact absurd (Nat.lt_of_lt_of_le hj (show _ ≤ 3 by decide)) (Nat.not_lt_of_le (Nat.le_add_left 3 j))) ?_ | refine emS_0 ?_ | refine emS_p oM1 ?_ | refine orS_l oM1 ?_ | refine orS_r oM1 ?_ | refine ltS_intro oM1 ?_ | intro _)
    simp only [insR, h01, cond_true, cond_false] at hRS
    conv => whnf
    have hN0 : ∀ z, z < 3 → pf P2 z = [SV.int .i64 (njL L P2 0 z)] := fun z _ => by rw [njL_0]
    refine loS_i (fun jj f mm R' ni => ∃ (j : Nat) (aP aR : Option Addr), j ≤ 3 ∧ jj = 3 - j + 1 ∧ f = [(1, .ptr 0 bo 0), (2, .sl 711 aP 3 3), (3, .sl 760 aR 2 2), (4, .bool (okB L j)), (94, .sl 711 aP 3 3), (95, .int .i64 (Int.ofNat 3)), (96, .int .i64 (Int.ofNat j))] ∧ mm = [(760, .gr aR 2 24 2 (rf RS)), (711, .gr aP 3 3 1 (fun z => [.int .i64 (njL L P2 j z)])), (0, .own bo 54 [.int .i8 r00, .int .i8 r01, .int .i8 r10, .int .i8 r11, .int .i8 r20, .int .i8 r21, .int .u8 (Int.ofNat cnt), .bool false, .int .i8 fa])] ∧ R' = addL (60 * (3 - j) + R) 60 ∧ ni = 900) 4 (by omega) ⟨[(1, .ptr 0 bo 0), (2, .sl 711 _ 3 3), (3, .sl 760 _ 2 2), (4, .bool (okB L 0)), (94, .sl 711 _ 3 3), (95, .int .i64 (Int.ofNat 3)), (96, .int .i64 (Int.ofNat 0))], [(760, .gr _ 2 24 2 (rf RS)), (711, .gr _ 3 3 1 (fun z => [.int .i64 (njL L P2 0 z)])), (0, .own bo 54 [.int .i8 r00, .int .i8 r01, .int .i8 r10, .int .i8 r11, .int .i8 r20, .int .i8 r21, .int .u8 (Int.ofNat cnt), .bool false, .int .i8 fa])], addL (60 * (3 - 0) + R) 60, 900, ⟨eqF_rfl _, ⟨rfl, rfl⟩, ⟨rfl, rfl⟩, ⟨rfl, rfl⟩, ⟨rfl, rfl⟩, ⟨rfl, rfl⟩, ⟨rfl, rfl⟩, trivial⟩, (WkM.gr_den (j := 760) (g := rf RS) (by rw [← hRS]; exact fun z hz => by match z, hz with | 0, _ => rfl | 1, _ => rfl | z + 2, hz => exact absurd (Nat.lt_of_lt_of_le hz (show _ ≤ 2 by decide)) (Nat.not_lt_of_le (Nat.le_add_left 2 z)))).trans WG, nM1, 0, _, _, by omega, by omega, rfl, rfl, rfl, rfl⟩ ?_
    rintro _ _ _ _ _ ⟨j', aP, aR, hj', rfl, rfl, rfl, rfl, rfl⟩
    by_cases hlt : j' < 3
    · have d1 := iLt_t hlt
      have hl' : j' < P2.length := by omega
      rcases Bool.eq_false_or_eq_true (iLt fa 0) with hs | hs <;> rw [hs] at hL
      · have hN := njL_up hl' hL
        have hup : updG j' [.int .i64 (wr .i64 (Int.sub 0 (njL L P2 j' j')))] (fun z => [.int .i64 (njL L P2 j' z)]) j' = [.int .i64 (L.getD j' 0)] := by rw [updG_same, njL_at, njL_t hl', hL]
        have hU : ∀ z, z < 3 → updG j' [.int .i64 (wr .i64 (Int.sub 0 (njL L P2 j' j')))] (fun z => [.int .i64 (njL L P2 j' z)]) z = [.int .i64 (njL L P2 (j' + 1) z)] := fun z _ => hN z
        rcases Bool.eq_false_or_eq_true (okB L j') with ho | ho
        all_goals
          rcases Bool.eq_false_or_eq_true (iLt 50 (L.getD j' 0)) with h5 | h5
          all_goals
            rcases Bool.eq_false_or_eq_true (iLt (L.getD j' 0) (-50)) with h6 | h6
            all_goals
              have e := okB_s (L := L) (j := j')
              rw [ho, h5, h6] at e
              repeat' ((conv => whnf); first | refine eqS_rfl ?_ | refine eqA_rfl ?_ | refine eqA_of (by assumption) ?_ | refine eqS_of (by rfl) ?_ | refine eqL_rfl ?_ | refine eqJ_rfl ?_ | refine gE ?_ | refine seS_rfl ?_ | refine lsS_of hup ?_ | refine lsS_rfl ?_ | refine brS_tt ?_ | refine brS_ff ?_ | refine brS_not ?_ | refine gI ?_ | refine gT ?_ | refine gF ?_ | refine brS_intro (fun _ => ?_) (fun _ => ?_) | refine gL ?_ | refine gX ?_ | refine gO ?_ | refine gN ?_ | refine gM ?_ | refine gY ?_ | rw [hup] | intro _)
              conv => whnf
              exact ⟨3 - (j' + 1) + 1, [(1, .ptr 0 bo 0), (2, .sl 711 aP 3 3), (3, .sl 760 aR 2 2), (4, .bool (okB L (j' + 1))), (94, .sl 711 aP 3 3), (95, .int .i64 (Int.ofNat 3)), (96, .int .i64 (Int.ofNat (j' + 1)))], [(760, .gr aR 2 24 2 (rf RS)), (711, .gr aP 3 3 1 (fun z => [.int .i64 (njL L P2 (j' + 1) z)])), (0, .own bo 54 [.int .i8 r00, .int .i8 r01, .int .i8 r10, .int .i8 r11, .int .i8 r20, .int .i8 r21, .int .u8 (Int.ofNat cnt), .bool false, .int .i8 fa])], addL (60 * (3 - (j' + 1)) + R) 60, 900, by omega, ⟨eqF_rfl _, eqF_rfl _, eqF_rfl _, ⟨by first | exact congrArg (fun b => Value.bool b) e.symm | exact congrArg (fun b => Value.bool b) ((congrArg not h6).trans e.symm), rfl⟩, eqF_rfl _, eqF_rfl _, ⟨congrArg (Value.int .i64) (smn (i := j' + 1) (by omega)), rfl⟩, trivial⟩, WG, nM1, j' + 1, aP, aR, by omega, rfl, rfl, rfl, rfl, rfl⟩
      · have hN := njL_up0 (j := j') hL
        have e9 : L.getD j' 0 = njL L P2 j' j' := by rw [njL_at, ← hL]; rfl
        have hU : ∀ z, z < 3 → [SV.int .i64 (njL L P2 j' z)] = [.int .i64 (njL L P2 (j' + 1) z)] := fun z _ => hN z
        rcases Bool.eq_false_or_eq_true (okB L j') with ho | ho
        all_goals
          rcases Bool.eq_false_or_eq_true (iLt 50 (njL L P2 j' j')) with h5 | h5
          all_goals
            rcases Bool.eq_false_or_eq_true (iLt (njL L P2 j' j') (-50)) with h6 | h6
            all_goals
              have e := okB_s (L := L) (j := j')
              rw [e9, ho, h5, h6] at e
              repeat' ((conv => whnf); first | refine eqS_rfl ?_ | refine eqA_rfl ?_ | refine eqA_of (by assumption) ?_ | refine eqS_of (by rfl) ?_ | refine eqL_rfl ?_ | refine eqJ_rfl ?_ | refine gE ?_ | refine seS_rfl ?_ | refine lsS_of hup ?_ | refine lsS_rfl ?_ | refine brS_tt ?_ | refine brS_ff ?_ | refine brS_not ?_ | refine gI ?_ | refine gT ?_ | refine gF ?_ | refine brS_intro (fun _ => ?_) (fun _ => ?_) | refine gL ?_ | refine gX ?_ | refine gO ?_ | refine gN ?_ | refine gM ?_ | refine gY ?_ | intro _)
              conv => whnf
              exact ⟨3 - (j' + 1) + 1, [(1, .ptr 0 bo 0), (2, .sl 711 aP 3 3), (3, .sl 760 aR 2 2), (4, .bool (okB L (j' + 1))), (94, .sl 711 aP 3 3), (95, .int .i64 (Int.ofNat 3)), (96, .int .i64 (Int.ofNat (j' + 1)))], [(760, .gr aR 2 24 2 (rf RS)), (711, .gr aP 3 3 1 (fun z => [.int .i64 (njL L P2 (j' + 1) z)])), (0, .own bo 54 [.int .i8 r00, .int .i8 r01, .int .i8 r10, .int .i8 r11, .int .i8 r20, .int .i8 r21, .int .u8 (Int.ofNat cnt), .bool false, .int .i8 fa])], addL (60 * (3 - (j' + 1)) + R) 60, 900, by omega, ⟨eqF_rfl _, eqF_rfl _, eqF_rfl _, ⟨by first | exact congrArg (fun b => Value.bool b) e.symm | exact congrArg (fun b => Value.bool b) ((congrArg not h6).trans e.symm), rfl⟩, eqF_rfl _, eqF_rfl _, ⟨congrArg (Value.int .i64) (smn (i := j' + 1) (by omega)), rfl⟩, trivial⟩, WG, nM1, j' + 1, aP, aR, by omega, rfl, rfl, rfl, rfl, rfl⟩
    · have e3 : 3 = j' := by omega
      subst e3
      have d1 := iLt_f (Nat.le_refl 3)
      have hfin : ∀ z, z < 3 → [SV.int .i64 (njL L P2 3 z)] = pf L z := fun z hz => njL_fin hz
      repeat' ((conv => whnf); first | refine eqS_rfl ?_ | refine eqA_rfl ?_ | refine eqA_of (by assumption) ?_ | refine eqS_of (by rfl) ?_ | refine eqL_rfl ?_ | refine eqJ_rfl ?_ | refine gE ?_ | refine seS_rfl ?_ | refine lsS_of hup ?_ | refine lsS_rfl ?_ | refine brS_tt ?_ | refine brS_ff ?_ | refine brS_not ?_ | refine gI ?_ | refine gT ?_ | refine gF ?_ | refine brS_intro (fun _ => ?_) (fun _ => ?_) | refine gL ?_ | refine gX ?_ | refine gO ?_ | refine gN ?_ | refine gM ?_ | refine gY ?_ | intro _)
      conv => whnf
      exact ⟨⟨_, _, ⟨aP, aR, rfl, rfl⟩, rfl, WG⟩, nM1⟩
end Go.Proofs.Ytpncjgiojoehkaa
namespace Go.Proofs.Ytpncjgiojoehkaa
open Go.Ab
attribute [local irreducible] aggOk drwOK
set_option maxRecDepth 100000
set_option maxHeartbeats 4000000
set_option linter.unusedVariables false
set_option linter.unusedSimpArgs false
theorem c31_o11 (F d i j : Nat) (hF : 200 < F) (r00 r01 r10 r11 r20 r21 fa : Int) (cnt : Nat) (hcnt : cnt < 256) (hk1 : cnt % 2 = 1) (hf2 : iEq (Int.tmod fa 2) 0 = false) (R : Nat) : callS (CL F (d + 2)) (.fn 31 [] []) [.agg [.int .i8 r00, .int .i8 r01, .int .i8 r10, .int .i8 r11, .int .i8 r20, .int .i8 r21, .int .u8 (Int.ofNat cnt), .bool true, .int .i8 fa]] [] (addL R (30000 + 100)) 0 fun w m' R' _ => (∃ w0 mf, QM i j 4 1 (ngL (iLt fa 0) (mulL [1, 1, 1] (fq r00 r01))) (insR (xq r00, yq r01) ([] : List (Int × Int))) w0 mf ∧ den w = den w0 ∧ WkM m' mf) ∧ R ≤ R' := by
  have hc : Int.tmod (wr .i64 (Int.ofNat cnt)) 2 = Int.ofNat 1 := by
    rw [smn (i := cnt) (by omega), show Int.tmod (Int.ofNat cnt) 2 = Int.ofNat (cnt % 2) from rfl, hk1]
  have c0 : iLt 0 (Int.tmod (wr .i64 (Int.ofNat cnt)) 2) = true := by rw [hc]; rfl
  have c1 : iLt 1 (Int.tmod (wr .i64 (Int.ofNat cnt)) 2) = false := by rw [hc]; rfl
  have k59_0 := fun a c a2 c2 R => c59 F d 710 a 3 c [1, 1, 1] rfl a2 2 c2 (fq r00 r01) rfl (by omega) (by omega) (by omega) (by omega) (by omega) R
  obtain ⟨P1, hP1⟩ : ∃ z, mulL [1, 1, 1] (fq r00 r01) = z := ⟨_, rfl⟩
  rw [hP1] at k59_0 ⊢
  have hl1 : P1.length = 4 := by rw [← hP1, mulL_len]; rfl
  obtain ⟨L, hL⟩ : ∃ z, ngL (iLt fa 0) P1 = z := ⟨_, rfl⟩
  obtain ⟨RS, hRS⟩ : ∃ z, (insR (xq r00, yq r01) ([] : List (Int × Int))) = z := ⟨_, rfl⟩
  rw [hL, hRS]
  rw [show 30000 + 100 = (30000) + 100 from rfl, addL_eq, ← Nat.add_assoc, ← addL_eq _ 100, Nat.add_comm R (30000)]
  refine call_in (n := 129) Try.func31 rfl rfl rfl rfl rfl rfl rfl ?_
  repeat' ((conv => whnf); first | refine eqS_rfl ?_ | refine eqA_rfl ?_ | refine eqA_of (by assumption) ?_ | refine eqS_of (by rfl) ?_ | refine eqL_rfl ?_ | refine eqJ_rfl ?_ | refine gE ?_ | refine seS_rfl ?_ | refine lsS_of hup ?_ | refine lsS_rfl ?_ | refine brS_tt ?_ | refine brS_ff ?_ | refine brS_not ?_ | refine gI ?_ | refine gT ?_ | refine gF ?_ | refine brS_intro (fun _ => ?_) (fun _ => ?_) | refine gL ?_ | refine gX ?_ | refine gO ?_ | refine gN ?_ | refine gM ?_ | refine gY ?_ | refine call_pure (c35 F _ _ _) ?_ | refine call67 710 (k59_0 _ _ _ _) (addL (24000 + R) 400) (by rfl) S59a (nM1) ?_ | refine seS_sb (by assumption) (by assumption) ?_ | refine flE_intro (fun j hj => by match j, hj with | 0, _ => rfl | 1, _ => rfl | 2, _ => rfl | j + 3, hj => exact absurd (Nat.lt_of_lt_of_le hj (show _ ≤ 3 by decide)) (Nat.not_lt_of_le (Nat.le_add_left 3 j))) ?_ | refine emS_0 ?_ | refine emS_p oM1 ?_ | refine orS_l oM1 ?_ | refine orS_r oM1 ?_ | refine ltS_intro oM1 ?_ | intro _)
  rename_i bo b1 b2
  conv => whnf
  refine loS_u 4 (by omega) ?_
  repeat' ((conv => whnf); first | refine eqS_rfl ?_ | refine eqA_rfl ?_ | refine eqA_of (by assumption) ?_ | refine eqS_of (by rfl) ?_ | refine eqL_rfl ?_ | refine eqJ_rfl ?_ | refine gE ?_ | refine seS_rfl ?_ | refine lsS_of hup ?_ | refine lsS_rfl ?_ | refine brS_tt ?_ | refine brS_ff ?_ | refine brS_not ?_ | refine gI ?_ | refine gT ?_ | refine gF ?_ | refine brS_intro (fun _ => ?_) (fun _ => ?_) | refine gL ?_ | refine gX ?_ | refine gO ?_ | refine gN ?_ | refine gM ?_ | refine gY ?_ | refine call_pure (c35 F _ _ _) ?_ | refine call67 710 (k59_0 _ _ _ _) (addL (24000 + R) 400) (by rfl) S59a (nM1) ?_ | refine seS_sb (by assumption) (by assumption) ?_ | refine flE_intro (fun j hj => by match j, hj with | 0, _ => rfl | 1, _ => rfl | 2, _ => rfl | j + 3, hj => exact absurd (Nat.lt_of_lt_of_le hj (show _ ≤ 3 by decide)) (Nat.not_lt_of_le (Nat.le_add_left 3 j))) ?_ | refine emS_0 ?_ | refine emS_p oM1 ?_ | refine orS_l oM1 ?_ | refine orS_r oM1 ?_ | refine ltS_intro oM1 ?_ | intro _)
  conv => whnf
  refine loS_u 4 (by omega) ?_
  repeat' ((conv => whnf); first | refine eqS_rfl ?_ | refine eqA_rfl ?_ | refine eqA_of (by assumption) ?_ | refine eqS_of (by rfl) ?_ | refine eqL_rfl ?_ | refine eqJ_rfl ?_ | refine gE ?_ | refine seS_rfl ?_ | refine lsS_of hup ?_ | refine lsS_rfl ?_ | refine brS_tt ?_ | refine brS_ff ?_ | refine brS_not ?_ | refine gI ?_ | refine gT ?_ | refine gF ?_ | refine brS_intro (fun _ => ?_) (fun _ => ?_) | refine gL ?_ | refine gX ?_ | refine gO ?_ | refine gN ?_ | refine gM ?_ | refine gY ?_ | refine call_pure (c35 F _ _ _) ?_ | refine call67 710 (k59_0 _ _ _ _) (addL (24000 + R) 400) (by rfl) S59a (nM1) ?_ | refine seS_sb (by assumption) (by assumption) ?_ | refine flE_intro (fun j hj => by match j, hj with | 0, _ => rfl | 1, _ => rfl | 2, _ => rfl | j + 3, hj => exact absurd (Nat.lt_of_lt_of_le hj (show _ ≤ 3 by decide)) (Nat.not_lt_of_le (Nat.le_add_left 3 j))) ?_ | refine emS_0 ?_ | refine emS_p oM1 ?_ | refine orS_l oM1 ?_ | refine orS_r oM1 ?_ | refine ltS_intro oM1 ?_ | intro _)
  simp only [insR, cond_true, cond_false] at hRS
  conv => whnf
  have hN0 : ∀ z, z < 4 → pf P1 z = [SV.int .i64 (njL L P1 0 z)] := fun z _ => by rw [njL_0]
  refine loS_i (fun jj f mm R' ni => ∃ (j : Nat) (aP aR : Option Addr), j ≤ 4 ∧ jj = 4 - j + 1 ∧ f = [(1, .ptr 0 bo 0), (2, .sl 710 aP 4 4), (3, .sl 760 aR 1 1), (4, .bool (okB L j)), (94, .sl 710 aP 4 4), (95, .int .i64 (Int.ofNat 4)), (96, .int .i64 (Int.ofNat j))] ∧ mm = [(760, .gr aR 1 24 2 (rf RS)), (710, .gr aP 4 3 1 (fun z => [.int .i64 (njL L P1 j z)])), (0, .own bo 54 [.int .i8 r00, .int .i8 r01, .int .i8 r10, .int .i8 r11, .int .i8 r20, .int .i8 r21, .int .u8 (Int.ofNat cnt), .bool true, .int .i8 fa])] ∧ R' = addL (60 * (4 - j) + R) 60 ∧ ni = 900) 5 (by omega) ⟨[(1, .ptr 0 bo 0), (2, .sl 710 _ 4 4), (3, .sl 760 _ 1 1), (4, .bool (okB L 0)), (94, .sl 710 _ 4 4), (95, .int .i64 (Int.ofNat 4)), (96, .int .i64 (Int.ofNat 0))], [(760, .gr _ 1 24 2 (rf RS)), (710, .gr _ 4 3 1 (fun z => [.int .i64 (njL L P1 0 z)])), (0, .own bo 54 [.int .i8 r00, .int .i8 r01, .int .i8 r10, .int .i8 r11, .int .i8 r20, .int .i8 r21, .int .u8 (Int.ofNat cnt), .bool true, .int .i8 fa])], addL (60 * (4 - 0) + R) 60, 900, ⟨eqF_rfl _, ⟨rfl, rfl⟩, ⟨rfl, rfl⟩, ⟨rfl, rfl⟩, ⟨rfl, rfl⟩, ⟨rfl, rfl⟩, ⟨rfl, rfl⟩, trivial⟩, (WkM.gr_den (j := 760) (g := rf RS) (by rw [← hRS]; exact fun z hz => by match z, hz with | 0, _ => rfl | z + 1, hz => exact absurd (Nat.lt_of_lt_of_le hz (show _ ≤ 1 by decide)) (Nat.not_lt_of_le (Nat.le_add_left 1 z)))).trans WG, nM1, 0, _, _, by omega, by omega, rfl, rfl, rfl, rfl⟩ ?_
  rintro _ _ _ _ _ ⟨j', aP, aR, hj', rfl, rfl, rfl, rfl, rfl⟩
  by_cases hlt : j' < 4
  · have d1 := iLt_t hlt
    have hl' : j' < P1.length := by omega
    rcases Bool.eq_false_or_eq_true (iLt fa 0) with hs | hs <;> rw [hs] at hL
    · have hN := njL_up hl' hL
      have hup : updG j' [.int .i64 (wr .i64 (Int.sub 0 (njL L P1 j' j')))] (fun z => [.int .i64 (njL L P1 j' z)]) j' = [.int .i64 (L.getD j' 0)] := by rw [updG_same, njL_at, njL_t hl', hL]
      have hU : ∀ z, z < 4 → updG j' [.int .i64 (wr .i64 (Int.sub 0 (njL L P1 j' j')))] (fun z => [.int .i64 (njL L P1 j' z)]) z = [.int .i64 (njL L P1 (j' + 1) z)] := fun z _ => hN z
      rcases Bool.eq_false_or_eq_true (okB L j') with ho | ho
      all_goals
        rcases Bool.eq_false_or_eq_true (iLt 50 (L.getD j' 0)) with h5 | h5
        all_goals
          rcases Bool.eq_false_or_eq_true (iLt (L.getD j' 0) (-50)) with h6 | h6
          all_goals
            have e := okB_s (L := L) (j := j')
            rw [ho, h5, h6] at e
            repeat' ((conv => whnf); first | refine eqS_rfl ?_ | refine eqA_rfl ?_ | refine eqA_of (by assumption) ?_ | refine eqS_of (by rfl) ?_ | refine eqL_rfl ?_ | refine eqJ_rfl ?_ | refine gE ?_ | refine seS_rfl ?_ | refine lsS_of hup ?_ | refine lsS_rfl ?_ | refine brS_tt ?_ | refine brS_ff ?_ | refine brS_not ?_ | refine gI ?_ | refine gT ?_ | refine gF ?_ | refine brS_intro (fun _ => ?_) (fun _ => ?_) | refine gL ?_ | refine gX ?_ | refine gO ?_ | refine gN ?_ | refine gM ?_ | refine gY ?_ | rw [hup] | intro _)
            conv => whnf
            exact ⟨4 - (j' + 1) + 1, [(1, .ptr 0 bo 0), (2, .sl 710 aP 4 4), (3, .sl 760 aR 1 1), (4, .bool (okB L (j' + 1))), (94, .sl 710 aP 4 4), (95, .int .i64 (Int.ofNat 4)), (96, .int .i64 (Int.ofNat (j' + 1)))], [(760, .gr aR 1 24 2 (rf RS)), (710, .gr aP 4 3 1 (fun z => [.int .i64 (njL L P1 (j' + 1) z)])), (0, .own bo 54 [.int .i8 r00, .int .i8 r01, .int .i8 r10, .int .i8 r11, .int .i8 r20, .int .i8 r21, .int .u8 (Int.ofNat cnt), .bool true, .int .i8 fa])], addL (60 * (4 - (j' + 1)) + R) 60, 900, by omega, ⟨eqF_rfl _, eqF_rfl _, eqF_rfl _, ⟨by first | exact congrArg (fun b => Value.bool b) e.symm | exact congrArg (fun b => Value.bool b) ((congrArg not h6).trans e.symm), rfl⟩, eqF_rfl _, eqF_rfl _, ⟨congrArg (Value.int .i64) (smn (i := j' + 1) (by omega)), rfl⟩, trivial⟩, WG, nM1, j' + 1, aP, aR, by omega, rfl, rfl, rfl, rfl, rfl⟩
    · have hN := njL_up0 (j := j') hL
      have e9 : L.getD j' 0 = njL L P1 j' j' := by rw [njL_at, ← hL]; rfl
      have hU : ∀ z, z < 4 → [SV.int .i64 (njL L P1 j' z)] = [.int .i64 (njL L P1 (j' + 1) z)] := fun z _ => hN z
      rcases Bool.eq_false_or_eq_true (okB L j') with ho | ho
      all_goals
        rcases Bool.eq_false_or_eq_true (iLt 50 (njL L P1 j' j')) with h5 | h5
        all_goals
          rcases Bool.eq_false_or_eq_true (iLt (njL L P1 j' j') (-50)) with h6 | h6
          all_goals
            have e := okB_s (L := L) (j := j')
            rw [e9, ho, h5, h6] at e
            repeat' ((conv => whnf); first | refine eqS_rfl ?_ | refine eqA_rfl ?_ | refine eqA_of (by assumption) ?_ | refine eqS_of (by rfl) ?_ | refine eqL_rfl ?_ | refine eqJ_rfl ?_ | refine gE ?_ | refine seS_rfl ?_ | refine lsS_of hup ?_ | refine lsS_rfl ?_ | refine brS_tt ?_ | refine brS_ff ?_ | refine brS_not ?_ | refine gI ?_ | refine gT ?_ | refine gF ?_ | refine brS_intro (fun _ => ?_) (fun _ => ?_) | refine gL ?_ | refine gX ?_ | refine gO ?_ | refine gN ?_ | refine gM ?_ | refine gY ?_ | intro _)
            conv => whnf
            exact ⟨4 - (j' + 1) + 1, [(1, .ptr 0 bo 0), (2, .sl 710 aP 4 4), (3, .sl 760 aR 1 1), (4, .bool (okB L (j' + 1))), (94, .sl 710 aP 4 4), (95, .int .i64 (Int.ofNat 4)), (96, .int .i64 (Int.ofNat (j' + 1)))], [(760, .gr aR 1 24 2 (rf RS)), (710, .gr aP 4 3 1 (fun z => [.int .i64 (njL L P1 (j' + 1) z)])), (0, .own bo 54 [.int .i8 r00, .int .i8 r01, .int .i8 r10, .int .i8 r11, .int .i8 r20, .int .i8 r21, .int .u8 (Int.ofNat cnt), .bool true, .int .i8 fa])], addL (60 * (4 - (j' + 1)) + R) 60, 900, by omega, ⟨eqF_rfl _, eqF_rfl _, eqF_rfl _, ⟨by first | exact congrArg (fun b => Value.bool b) e.symm | exact congrArg (fun b => Value.bool b) ((congrArg not h6).trans e.symm), rfl⟩, eqF_rfl _, eqF_rfl _, ⟨congrArg (Value.int .i64) (smn (i := j' + 1) (by omega)), rfl⟩, trivial⟩, WG, nM1, j' + 1, aP, aR, by omega, rfl, rfl, rfl, rfl, rfl⟩
  · have e3 : 4 = j' := by omega
    subst e3
    have d1 := iLt_f (Nat.le_refl 4)
    have hfin : ∀ z, z < 4 → [SV.int .i64 (njL L P1 4 z)] = pf L z := fun z hz => njL_fin hz
    repeat' ((conv => whnf); first | refine eqS_rfl ?_ | refine eqA_rfl ?_ | refine eqA_of (by assumption) ?_ | refine eqS_of (by rfl) ?_ | refine eqL_rfl ?_ | refine eqJ_rfl ?_ | refine gE ?_ | refine seS_rfl ?_ | refine lsS_of hup ?_ | refine lsS_rfl ?_ | refine brS_tt ?_ | refine brS_ff ?_ | refine brS_not ?_ | refine gI ?_ | refine gT ?_ | refine gF ?_ | refine brS_intro (fun _ => ?_) (fun _ => ?_) | refine gL ?_ | refine gX ?_ | refine gO ?_ | refine gN ?_ | refine gM ?_ | refine gY ?_ | intro _)
    conv => whnf
    exact ⟨⟨_, _, ⟨aP, aR, rfl, rfl⟩, rfl, WG⟩, nM1⟩
end Go.Proofs.Ytpncjgiojoehkaa
namespace Go.Proofs.Ytpncjgiojoehkaa
open Go.Ab
attribute [local irreducible] aggOk drwOK
set_option maxRecDepth 100000
set_option maxHeartbeats 4000000
set_option linter.unusedVariables false
set_option linter.unusedSimpArgs false
theorem c31_o21 (F d i j : Nat) (hF : 200 < F) (r00 r01 r10 r11 r20 r21 fa : Int) (cnt : Nat) (hcnt : cnt < 256) (hk1 : cnt % 2 = 1) (hf2 : iEq (Int.tmod fa 2) 0 = true) (R : Nat) : callS (CL F (d + 2)) (.fn 31 [] []) [.agg [.int .i8 r00, .int .i8 r01, .int .i8 r10, .int .i8 r11, .int .i8 r20, .int .i8 r21, .int .u8 (Int.ofNat cnt), .bool true, .int .i8 fa]] [] (addL R (30000 + 100)) 0 fun w m' R' _ => (∃ w0 mf, QM i j 4 1 (ngL (iLt fa 0) (mulL [2, 0, 1] (fq r00 r01))) (insR (xq r00, yq r01) ([] : List (Int × Int))) w0 mf ∧ den w = den w0 ∧ WkM m' mf) ∧ R ≤ R' := by
  have hc : Int.tmod (wr .i64 (Int.ofNat cnt)) 2 = Int.ofNat 1 := by
    rw [smn (i := cnt) (by omega), show Int.tmod (Int.ofNat cnt) 2 = Int.ofNat (cnt % 2) from rfl, hk1]
  have c0 : iLt 0 (Int.tmod (wr .i64 (Int.ofNat cnt)) 2) = true := by rw [hc]; rfl
  have c1 : iLt 1 (Int.tmod (wr .i64 (Int.ofNat cnt)) 2) = false := by rw [hc]; rfl
  have k59_0 := fun a c a2 c2 R => c59 F d 710 a 3 c [2, 0, 1] rfl a2 2 c2 (fq r00 r01) rfl (by omega) (by omega) (by omega) (by omega) (by omega) R
  obtain ⟨P1, hP1⟩ : ∃ z, mulL [2, 0, 1] (fq r00 r01) = z := ⟨_, rfl⟩
  rw [hP1] at k59_0 ⊢
  have hl1 : P1.length = 4 := by rw [← hP1, mulL_len]; rfl
  obtain ⟨L, hL⟩ : ∃ z, ngL (iLt fa 0) P1 = z := ⟨_, rfl⟩
  obtain ⟨RS, hRS⟩ : ∃ z, (insR (xq r00, yq r01) ([] : List (Int × Int))) = z := ⟨_, rfl⟩
  rw [hL, hRS]
  rw [show 30000 + 100 = (30000) + 100 from rfl, addL_eq, ← Nat.add_assoc, ← addL_eq _ 100, Nat.add_comm R (30000)]
  refine call_in (n := 129) Try.func31 rfl rfl rfl rfl rfl rfl rfl ?_
  repeat' ((conv => whnf); first | refine eqS_rfl ?_ | refine eqA_rfl ?_ | refine eqA_of (by assumption) ?_ | refine eqS_of (by rfl) ?_ | refine eqL_rfl ?_ | refine eqJ_rfl ?_ | refine gE ?_ | refine seS_rfl ?_ | refine lsS_of hup ?_ | refine lsS_rfl ?_ | refine brS_tt ?_ | refine brS_ff ?_ | refine brS_not ?_ | refine gI ?_ | refine gT ?_ | refine gF ?_ | refine brS_intro (fun _ => ?_) (fun _ => ?_) | refine gL ?_ | refine gX ?_ | refine gO ?_ | refine gN ?_ | refine gM ?_ | refine gY ?_ | refine call_pure (c35 F _ _ _) ?_ | refine call67 710 (k59_0 _ _ _ _) (addL (24000 + R) 400) (by rfl) S59a (nM1) ?_ | refine seS_sb (by assumption) (by assumption) ?_ | refine flE_intro (fun j hj => by match j, hj with | 0, _ => rfl | 1, _ => rfl | 2, _ => rfl | j + 3, hj => exact absurd (Nat.lt_of_lt_of_le hj (show _ ≤ 3 by decide)) (Nat.not_lt_of_le (Nat.le_add_left 3 j))) ?_ | refine emS_0 ?_ | refine emS_p oM1 ?_ | refine orS_l oM1 ?_ | refine orS_r oM1 ?_ | refine ltS_intro oM1 ?_ | intro _)
  rename_i bo b1 b2 b3
  conv => whnf
  refine loS_u 4 (by omega) ?_
  repeat' ((conv => whnf); first | refine eqS_rfl ?_ | refine eqA_rfl ?_ | refine eqA_of (by assumption) ?_ | refine eqS_of (by rfl) ?_ | refine eqL_rfl ?_ | refine eqJ_rfl ?_ | refine gE ?_ | refine seS_rfl ?_ | refine lsS_of hup ?_ | refine lsS_rfl ?_ | refine brS_tt ?_ | refine brS_ff ?_ | refine brS_not ?_ | refine gI ?_ | refine gT ?_ | refine gF ?_ | refine brS_intro (fun _ => ?_) (fun _ => ?_) | refine gL ?_ | refine gX ?_ | refine gO ?_ | refine gN ?_ | refine gM ?_ | refine gY ?_ | refine call_pure (c35 F _ _ _) ?_ | refine call67 710 (k59_0 _ _ _ _) (addL (24000 + R) 400) (by rfl) S59a (nM1) ?_ | refine seS_sb (by assumption) (by assumption) ?_ | refine flE_intro (fun j hj => by match j, hj with | 0, _ => rfl | 1, _ => rfl | 2, _ => rfl | j + 3, hj => exact absurd (Nat.lt_of_lt_of_le hj (show _ ≤ 3 by decide)) (Nat.not_lt_of_le (Nat.le_add_left 3 j))) ?_ | refine emS_0 ?_ | refine emS_p oM1 ?_ | refine orS_l oM1 ?_ | refine orS_r oM1 ?_ | refine ltS_intro oM1 ?_ | intro _)
  conv => whnf
  refine loS_u 4 (by omega) ?_
  repeat' ((conv => whnf); first | refine eqS_rfl ?_ | refine eqA_rfl ?_ | refine eqA_of (by assumption) ?_ | refine eqS_of (by rfl) ?_ | refine eqL_rfl ?_ | refine eqJ_rfl ?_ | refine gE ?_ | refine seS_rfl ?_ | refine lsS_of hup ?_ | refine lsS_rfl ?_ | refine brS_tt ?_ | refine brS_ff ?_ | refine brS_not ?_ | refine gI ?_ | refine gT ?_ | refine gF ?_ | refine brS_intro (fun _ => ?_) (fun _ => ?_) | refine gL ?_ | refine gX ?_ | refine gO ?_ | refine gN ?_ | refine gM ?_ | refine gY ?_ | refine call_pure (c35 F _ _ _) ?_ | refine call67 710 (k59_0 _ _ _ _) (addL (24000 + R) 400) (by rfl) S59a (nM1) ?_ | refine seS_sb (by assumption) (by assumption) ?_ | refine flE_intro (fun j hj => by match j, hj with | 0, _ => rfl | 1, _ => rfl | 2, _ => rfl | j + 3, hj => exact absurd (Nat.lt_of_lt_of_le hj (show _ ≤ 3 by decide)) (Nat.not_lt_of_le (Nat.le_add_left 3 j))) ?_ | refine emS_0 ?_ | refine emS_p oM1 ?_ | refine orS_l oM1 ?_ | refine orS_r oM1 ?_ | refine ltS_intro oM1 ?_ | intro _)
  simp only [insR, cond_true, cond_false] at hRS
  conv => whnf
  have hN0 : ∀ z, z < 4 → pf P1 z = [SV.int .i64 (njL L P1 0 z)] := fun z _ => by rw [njL_0]
  refine loS_i (fun jj f mm R' ni => ∃ (j : Nat) (aP aR : Option Addr), j ≤ 4 ∧ jj = 4 - j + 1 ∧ f = [(1, .ptr 0 bo 0), (2, .sl 710 aP 4 4), (3, .sl 760 aR 1 1), (4, .bool (okB L j)), (94, .sl 710 aP 4 4), (95, .int .i64 (Int.ofNat 4)), (96, .int .i64 (Int.ofNat j))] ∧ mm = [(760, .gr aR 1 24 2 (rf RS)), (710, .gr aP 4 3 1 (fun z => [.int .i64 (njL L P1 j z)])), (0, .own bo 54 [.int .i8 r00, .int .i8 r01, .int .i8 r10, .int .i8 r11, .int .i8 r20, .int .i8 r21, .int .u8 (Int.ofNat cnt), .bool true, .int .i8 fa])] ∧ R' = addL (60 * (4 - j) + R) 60 ∧ ni = 900) 5 (by omega) ⟨[(1, .ptr 0 bo 0), (2, .sl 710 _ 4 4), (3, .sl 760 _ 1 1), (4, .bool (okB L 0)), (94, .sl 710 _ 4 4), (95, .int .i64 (Int.ofNat 4)), (96, .int .i64 (Int.ofNat 0))], [(760, .gr _ 1 24 2 (rf RS)), (710, .gr _ 4 3 1 (fun z => [.int .i64 (njL L P1 0 z)])), (0, .own bo 54 [.int .i8 r00, .int .i8 r01, .int .i8 r10, .int .i8 r11, .int .i8 r20, .int .i8 r21, .int .u8 (Int.ofNat cnt), .bool true, .int .i8 fa])], addL (60 * (4 - 0) + R) 60, 900, ⟨eqF_rfl _, ⟨rfl, rfl⟩, ⟨rfl, rfl⟩, ⟨rfl, rfl⟩, ⟨rfl, rfl⟩, ⟨rfl, rfl⟩, ⟨rfl, rfl⟩, trivial⟩, (WkM.gr_den (j := 760) (g := rf RS) (by rw [← hRS]; exact fun z hz => by match z, hz with | 0, _ => rfl | z + 1, hz => exact absurd (Nat.lt_of_lt_of_le hz (show _ ≤ 1 by decide)) (Nat.not_lt_of_le (Nat.le_add_left 1 z)))).trans WG, nM1, 0, _, _, by omega, by omega, rfl, rfl, rfl, rfl⟩ ?_
  rintro _ _ _ _ _ ⟨j', aP, aR, hj', rfl, rfl, rfl, rfl, rfl⟩
  by_cases hlt : j' < 4
  · have d1 := iLt_t hlt
    have hl' : j' < P1.length := by omega
    rcases Bool.eq_false_or_eq_true (iLt fa 0) with hs | hs <;> rw [hs] at hL
    · have hN := njL_up hl' hL
      have hup : updG j' [.int .i64 (wr .i64 (Int.sub 0 (njL L P1 j' j')))] (fun z => [.int .i64 (njL L P1 j' z)]) j' = [.int .i64 (L.getD j' 0)] := by rw [updG_same, njL_at, njL_t hl', hL]
      have hU : ∀ z, z < 4 → updG j' [.int .i64 (wr .i64 (Int.sub 0 (njL L P1 j' j')))] (fun z => [.int .i64 (njL L P1 j' z)]) z = [.int .i64 (njL L P1 (j' + 1) z)] := fun z _ => hN z
      rcases Bool.eq_false_or_eq_true (okB L j') with ho | ho
      all_goals
        rcases Bool.eq_false_or_eq_true (iLt 50 (L.getD j' 0)) with h5 | h5
        all_goals
          rcases Bool.eq_false_or_eq_true (iLt (L.getD j' 0) (-50)) with h6 | h6
          all_goals
            have e := okB_s (L := L) (j := j')
            rw [ho, h5, h6] at e
            repeat' ((conv => whnf); first | refine eqS_rfl ?_ | refine eqA_rfl ?_ | refine eqA_of (by assumption) ?_ | refine eqS_of (by rfl) ?_ | refine eqL_rfl ?_ | refine eqJ_rfl ?_ | refine gE ?_ | refine seS_rfl ?_ | refine lsS_of hup ?_ | refine lsS_rfl ?_ | refine brS_tt ?_ | refine brS_ff ?_ | refine brS_not ?_ | refine gI ?_ | refine gT ?_ | refine gF ?_ | refine brS_intro (fun _ => ?_) (fun _ => ?_) | refine gL ?_ | refine gX ?_ | refine gO ?_ | refine gN ?_ | refine gM ?_ | refine gY ?_ | rw [hup] | intro _)
            conv => whnf
            exact ⟨4 - (j' + 1) + 1, [(1, .ptr 0 bo 0), (2, .sl 710 aP 4 4), (3, .sl 760 aR 1 1), (4, .bool (okB L (j' + 1))), (94, .sl 710 aP 4 4), (95, .int .i64 (Int.ofNat 4)), (96, .int .i64 (Int.ofNat (j' + 1)))], [(760, .gr aR 1 24 2 (rf RS)), (710, .gr aP 4 3 1 (fun z => [.int .i64 (njL L P1 (j' + 1) z)])), (0, .own bo 54 [.int .i8 r00, .int .i8 r01, .int .i8 r10, .int .i8 r11, .int .i8 r20, .int .i8 r21, .int .u8 (Int.ofNat cnt), .bool true, .int .i8 fa])], addL (60 * (4 - (j' + 1)) + R) 60, 900, by omega, ⟨eqF_rfl _, eqF_rfl _, eqF_rfl _, ⟨by first | exact congrArg (fun b => Value.bool b) e.symm | exact congrArg (fun b => Value.bool b) ((congrArg not h6).trans e.symm), rfl⟩, eqF_rfl _, eqF_rfl _, ⟨congrArg (Value.int .i64) (smn (i := j' + 1) (by omega)), rfl⟩, trivial⟩, WG, nM1, j' + 1, aP, aR, by omega, rfl, rfl, rfl, rfl, rfl⟩
    · have hN := njL_up0 (j := j') hL
      have e9 : L.getD j' 0 = njL L P1 j' j' := by rw [njL_at, ← hL]; rfl
      have hU : ∀ z, z < 4 → [SV.int .i64 (njL L P1 j' z)] = [.int .i64 (njL L P1 (j' + 1) z)] := fun z _ => hN z
      rcases Bool.eq_false_or_eq_true (okB L j') with ho | ho
      all_goals
        rcases Bool.eq_false_or_eq_true (iLt 50 (njL L P1 j' j')) with h5 | h5
        all_goals
          rcases Bool.eq_false_or_eq_true (iLt (njL L P1 j' j') (-50)) with h6 | h6
          all_goals
            have e := okB_s (L := L) (j := j')
            rw [e9, ho, h5, h6] at e
            repeat' ((conv => whnf); first | refine eqS_rfl ?_ | refine eqA_rfl ?_ | refine eqA_of (by assumption) ?_ | refine eqS_of (by rfl) ?_ | refine eqL_rfl ?_ | refine eqJ_rfl ?_ | refine gE ?_ | refine seS_rfl ?_ | refine lsS_of hup ?_ | refine lsS_rfl ?_ | refine brS_tt ?_ | refine brS_ff ?_ | refine brS_not ?_ | refine gI ?_ | refine gT ?_ | refine gF ?_ | refine brS_intro (fun _ => ?_) (fun _ => ?_) | refine gL ?_ | refine gX ?_ | refine gO ?_ | refine gN ?_ | refine gM ?_ | refine gY ?_ | intro _)
            conv => whnf
            exact ⟨4 - (j' + 1) + 1, [(1, .ptr 0 bo 0), (2, .sl 710 aP 4 4), (3, .sl 760 aR 1 1), (4, .bool (okB L (j' + 1))), (94, .sl 710 aP 4 4), (95, .int .i64 (Int.ofNat 4)), (96, .int .i64 (Int.ofNat (j' + 1)))], [(760, .gr aR 1 24 2 (rf RS)), (710, .gr aP 4 3 1 (fun z => [.int .i64 (njL L P1 (j' + 1) z)])), (0, .own bo 54 [.int .i8 r00, .int .i8 r01, .int .i8 r10, .int .i8 r11, .int .i8 r20, .int .i8 r21, .int .u8 (Int.ofNat cnt), .bool true, .int .i8 fa])], addL (60 * (4 - (j' + 1)) + R) 60, 900, by omega, ⟨eqF_rfl _, eqF_rfl _, eqF_rfl _, ⟨by first | exact congrArg (fun b => Value.bool b) e.symm | exact congrArg (fun b => Value.bool b) ((congrArg not h6).trans e.symm), rfl⟩, eqF_rfl _, eqF_rfl _, ⟨congrArg (Value.int .i64) (smn (i := j' + 1) (by omega)), rfl⟩, trivial⟩, WG, nM1, j' + 1, aP, aR, by omega, rfl, rfl, rfl, rfl, rfl⟩
  · have e3 : 4 = j' := by omega
    subst e3
    have d1 := iLt_f (Nat.le_refl 4)
    have hfin : ∀ z, z < 4 → [SV.int .i64 (njL L P1 4 z)] = pf L z := fun z hz => njL_fin hz
    repeat' ((conv => whnf); first | refine eqS_rfl ?_ | refine eqA_rfl ?_ | refine eqA_of (by assumption) ?_ | refine eqS_of (by rfl) ?_ | refine eqL_rfl ?_ | refine eqJ_rfl ?_ | refine gE ?_ | refine seS_rfl ?_ | refine lsS_of hup ?_ | refine lsS_rfl ?_ | refine brS_tt ?_ | refine brS_ff ?_ | refine brS_not ?_ | refine gI ?_ | refine gT ?_ | refine gF ?_ | refine brS_intro (fun _ => ?_) (fun _ => ?_) | refine gL ?_ | refine gX ?_ | refine gO ?_ | refine gN ?_ | refine gM ?_ | refine gY ?_ | intro _)
    conv => whnf
    exact ⟨⟨_, _, ⟨aP, aR, rfl, rfl⟩, rfl, WG⟩, nM1⟩
end Go.Proofs.Ytpncjgiojoehkaa
namespace Go.Proofs.Ytpncjgiojoehkaa
open Go.Ab
attribute [local irreducible] aggOk drwOK
set_option maxRecDepth 100000
set_option maxHeartbeats 4000000
set_option linter.unusedVariables false
set_option linter.unusedSimpArgs false
theorem c31_o10 (F d i j : Nat) (hF : 200 < F) (r00 r01 r10 r11 r20 r21 fa : Int) (cnt : Nat) (hcnt : cnt < 256) (hk1 : cnt % 2 = 0) (hf2 : iEq (Int.tmod fa 2) 0 = false) (R : Nat) : callS (CL F (d + 2)) (.fn 31 [] []) [.agg [.int .i8 r00, .int .i8 r01, .int .i8 r10, .int .i8 r11, .int .i8 r20, .int .i8 r21, .int .u8 (Int.ofNat cnt), .bool true, .int .i8 fa]] [] (addL R (30000 + 100)) 0 fun w m' R' _ => (∃ w0 mf, QM i j 3 0 (ngL (iLt fa 0) [1, 1, 1]) ([] : List (Int × Int)) w0 mf ∧ den w = den w0 ∧ WkM m' mf) ∧ R ≤ R' := by
  have hc : Int.tmod (wr .i64 (Int.ofNat cnt)) 2 = Int.ofNat 0 := by
    rw [smn (i := cnt) (by omega), show Int.tmod (Int.ofNat cnt) 2 = Int.ofNat (cnt % 2) from rfl, hk1]
  have c0 : iLt 0 (Int.tmod (wr .i64 (Int.ofNat cnt)) 2) = false := by rw [hc]; rfl
  rw [show 30000 + 100 = (30000) + 100 from rfl, addL_eq, ← Nat.add_assoc, ← addL_eq _ 100, Nat.add_comm R (30000)]
  rcases Bool.eq_false_or_eq_true (iLt fa 0) with hs | hs <;> rw [hs]
  all_goals
    refine call_in (n := 129) Try.func31 rfl rfl rfl rfl rfl rfl rfl ?_
    repeat' ((conv => whnf); first | refine eqS_rfl ?_ | refine eqA_rfl ?_ | refine eqA_of (by assumption) ?_ | refine eqS_of (by rfl) ?_ | refine eqL_rfl ?_ | refine eqJ_rfl ?_ | refine gE ?_ | refine seS_rfl ?_ | refine lsS_of hup ?_ | refine lsS_rfl ?_ | refine brS_tt ?_ | refine brS_ff ?_ | refine brS_not ?_ | refine gI ?_ | refine gT ?_ | refine gF ?_ | refine brS_intro (fun _ => ?_) (fun _ => ?_) | refine gL ?_ | refine gX ?_ | refine gO ?_ | refine gN ?_ | refine gM ?_ | refine gY ?_ | refine ltS_intro oM1 ?_ | rw [updG_same] | intro _)
    rename_i bo b1 b2
    conv => whnf
    refine loS_u 4 (by omega) ?_
    repeat' ((conv => whnf); first | refine eqS_rfl ?_ | refine eqA_rfl ?_ | refine eqA_of (by assumption) ?_ | refine eqS_of (by rfl) ?_ | refine eqL_rfl ?_ | refine eqJ_rfl ?_ | refine gE ?_ | refine seS_rfl ?_ | refine lsS_of hup ?_ | refine lsS_rfl ?_ | refine brS_tt ?_ | refine brS_ff ?_ | refine brS_not ?_ | refine gI ?_ | refine gT ?_ | refine gF ?_ | refine brS_intro (fun _ => ?_) (fun _ => ?_) | refine gL ?_ | refine gX ?_ | refine gO ?_ | refine gN ?_ | refine gM ?_ | refine gY ?_ | refine ltS_intro oM1 ?_ | rw [updG_same] | intro _)
    conv => whnf
    refine loS_u 4 (by omega) ?_
    repeat' ((conv => whnf); first | refine eqS_rfl ?_ | refine eqA_rfl ?_ | refine eqA_of (by assumption) ?_ | refine eqS_of (by rfl) ?_ | refine eqL_rfl ?_ | refine eqJ_rfl ?_ | refine gE ?_ | refine seS_rfl ?_ | refine lsS_of hup ?_ | refine lsS_rfl ?_ | refine brS_tt ?_ | refine brS_ff ?_ | refine brS_not ?_ | refine gI ?_ | refine gT ?_ | refine gF ?_ | refine brS_intro (fun _ => ?_) (fun _ => ?_) | refine gL ?_ | refine gX ?_ | refine gO ?_ | refine gN ?_ | refine gM ?_ | refine gY ?_ | refine ltS_intro oM1 ?_ | rw [updG_same] | intro _)
    conv => whnf
    exact ⟨⟨_, _, ⟨some ⟨b2, 0, none⟩, none, rfl, rfl⟩, rfl, (WkM.gr0 (by refine Sel.wk ?_; (first | refine Sel.consw pH ⟨rfl, rfl, rfl, fun _ _ => rfl, rfl⟩ ?_ | refine Sel.consw (pT pH) ⟨rfl, rfl, rfl, fun _ _ => rfl, rfl⟩ ?_ | refine Sel.consw (pT (pT pH)) ⟨rfl, rfl, rfl, fun _ _ => rfl, rfl⟩ ?_ | refine Sel.consw (pT (pT (pT pH))) ⟨rfl, rfl, rfl, fun _ _ => rfl, rfl⟩ ?_ | refine Sel.consw (pT (pT (pT (pT pH)))) ⟨rfl, rfl, rfl, fun _ _ => rfl, rfl⟩ ?_ | refine Sel.consw (pT (pT (pT (pT (pT pH))))) ⟨rfl, rfl, rfl, fun _ _ => rfl, rfl⟩ ?_ | refine Sel.consw (pT (pT (pT (pT (pT (pT pH)))))) ⟨rfl, rfl, rfl, fun _ _ => rfl, rfl⟩ ?_ | refine Sel.consw (pT (pT (pT (pT (pT (pT (pT pH))))))) ⟨rfl, rfl, rfl, fun _ _ => rfl, rfl⟩ ?_); first | exact Sel.nil | exact Sel.all | exact Sel.left)).swapR⟩, nM1⟩
theorem c31_o20 (F d i j : Nat) (hF : 200 < F) (r00 r01 r10 r11 r20 r21 fa : Int) (cnt : Nat) (hcnt : cnt < 256) (hk1 : cnt % 2 = 0) (hf2 : iEq (Int.tmod fa 2) 0 = true) (R : Nat) : callS (CL F (d + 2)) (.fn 31 [] []) [.agg [.int .i8 r00, .int .i8 r01, .int .i8 r10, .int .i8 r11, .int .i8 r20, .int .i8 r21, .int .u8 (Int.ofNat cnt), .bool true, .int .i8 fa]] [] (addL R (30000 + 100)) 0 fun w m' R' _ => (∃ w0 mf, QM i j 3 0 (ngL (iLt fa 0) [2, 0, 1]) ([] : List (Int × Int)) w0 mf ∧ den w = den w0 ∧ WkM m' mf) ∧ R ≤ R' := by
  have hc : Int.tmod (wr .i64 (Int.ofNat cnt)) 2 = Int.ofNat 0 := by
    rw [smn (i := cnt) (by omega), show Int.tmod (Int.ofNat cnt) 2 = Int.ofNat (cnt % 2) from rfl, hk1]
  have c0 : iLt 0 (Int.tmod (wr .i64 (Int.ofNat cnt)) 2) = false := by rw [hc]; rfl
  rw [show 30000 + 100 = (30000) + 100 from rfl, addL_eq, ← Nat.add_assoc, ← addL_eq _ 100, Nat.add_comm R (30000)]
  rcases Bool.eq_false_or_eq_true (iLt fa 0) with hs | hs <;> rw [hs]
  all_goals
    refine call_in (n := 129) Try.func31 rfl rfl rfl rfl rfl rfl rfl ?_
    repeat' ((conv => whnf); first | refine eqS_rfl ?_ | refine eqA_rfl ?_ | refine eqA_of (by assumption) ?_ | refine eqS_of (by rfl) ?_ | refine eqL_rfl ?_ | refine eqJ_rfl ?_ | refine gE ?_ | refine seS_rfl ?_ | refine lsS_of hup ?_ | refine lsS_rfl ?_ | refine brS_tt ?_ | refine brS_ff ?_ | refine brS_not ?_ | refine gI ?_ | refine gT ?_ | refine gF ?_ | refine brS_intro (fun _ => ?_) (fun _ => ?_) | refine gL ?_ | refine gX ?_ | refine gO ?_ | refine gN ?_ | refine gM ?_ | refine gY ?_ | refine ltS_intro oM1 ?_ | rw [updG_same] | intro _)
    rename_i bo b1 b2 b3
    conv => whnf
    refine loS_u 4 (by omega) ?_
    repeat' ((conv => whnf); first | refine eqS_rfl ?_ | refine eqA_rfl ?_ | refine eqA_of (by assumption) ?_ | refine eqS_of (by rfl) ?_ | refine eqL_rfl ?_ | refine eqJ_rfl ?_ | refine gE ?_ | refine seS_rfl ?_ | refine lsS_of hup ?_ | refine lsS_rfl ?_ | refine brS_tt ?_ | refine brS_ff ?_ | refine brS_not ?_ | refine gI ?_ | refine gT ?_ | refine gF ?_ | refine brS_intro (fun _ => ?_) (fun _ => ?_) | refine gL ?_ | refine gX ?_ | refine gO ?_ | refine gN ?_ | refine gM ?_ | refine gY ?_ | refine ltS_intro oM1 ?_ | rw [updG_same] | intro _)
    conv => whnf
    refine loS_u 4 (by omega) ?_
    repeat' ((conv => whnf); first | refine eqS_rfl ?_ | refine eqA_rfl ?_ | refine eqA_of (by assumption) ?_ | refine eqS_of (by rfl) ?_ | refine eqL_rfl ?_ | refine eqJ_rfl ?_ | refine gE ?_ | refine seS_rfl ?_ | refine lsS_of hup ?_ | refine lsS_rfl ?_ | refine brS_tt ?_ | refine brS_ff ?_ | refine brS_not ?_ | refine gI ?_ | refine gT ?_ | refine gF ?_ | refine brS_intro (fun _ => ?_) (fun _ => ?_) | refine gL ?_ | refine gX ?_ | refine gO ?_ | refine gN ?_ | refine gM ?_ | refine gY ?_ | refine ltS_intro oM1 ?_ | rw [updG_same] | intro _)
    conv => whnf
    exact ⟨⟨_, _, ⟨some ⟨b3, 0, none⟩, none, rfl, rfl⟩, rfl, (WkM.gr0 (by refine Sel.wk ?_; (first | refine Sel.consw pH ⟨rfl, rfl, rfl, fun _ _ => rfl, rfl⟩ ?_ | refine Sel.consw (pT pH) ⟨rfl, rfl, rfl, fun _ _ => rfl, rfl⟩ ?_ | refine Sel.consw (pT (pT pH)) ⟨rfl, rfl, rfl, fun _ _ => rfl, rfl⟩ ?_ | refine Sel.consw (pT (pT (pT pH))) ⟨rfl, rfl, rfl, fun _ _ => rfl, rfl⟩ ?_ | refine Sel.consw (pT (pT (pT (pT pH)))) ⟨rfl, rfl, rfl, fun _ _ => rfl, rfl⟩ ?_ | refine Sel.consw (pT (pT (pT (pT (pT pH))))) ⟨rfl, rfl, rfl, fun _ _ => rfl, rfl⟩ ?_ | refine Sel.consw (pT (pT (pT (pT (pT (pT pH)))))) ⟨rfl, rfl, rfl, fun _ _ => rfl, rfl⟩ ?_ | refine Sel.consw (pT (pT (pT (pT (pT (pT (pT pH))))))) ⟨rfl, rfl, rfl, fun _ _ => rfl, rfl⟩ ?_); first | exact Sel.nil | exact Sel.all | exact Sel.left)).swapR⟩, nM1⟩
end Go.Proofs.Ytpncjgiojoehkaa
