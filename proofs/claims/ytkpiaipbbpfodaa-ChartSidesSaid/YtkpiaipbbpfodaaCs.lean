/- Sides and circles: open runs of all functions that the law calls. -/
import Derived.Test.YtkpiaipbbpfodaaProg
import Derived.Test.YtkpiaipbbpfodaaEngSh
import Derived.KernelRfl
namespace Go.Proofs.Ytkpiaipbbpfodaa
open Go.Ab
attribute [local irreducible] aggOk drwOK
set_option maxRecDepth 100000
set_option maxHeartbeats 4000000
noncomputable abbrev CL (F d : Nat) : CallT := callF Try.prog F (extB [] 19) d
abbrev i64 (n : Int) : SV := .int .i64 n
abbrev pt (x y : Int) : SV := .agg [i64 x, i64 y]
def inB (x : Int) : Bool := decide (-100 ≤ x ∧ x ≤ 100)
def plB (x y : Int) : Bool := inB x && inB y
theorem inB_dn (x : Int) : (!iLt x (-100) && !iLt 100 x) = inB x := by
  rw [iLt_eq, iLt_eq]
  unfold inB
  rw [Bool.eq_iff_iff]
  simp
theorem inB_up (x : Int) : (!iLt x (wr .i64 (Int.sub 0 100)) && !iLt 100 x) = inB x := by
  have e : wr .i64 (Int.sub 0 100) = -100 := by kernel_rfl
  rw [e, inB_dn]
theorem plB_bd {x y : Int} (h : plB x y = true) : Bd x 100 ∧ Bd y 100 := by
  unfold plB inB at h
  simp at h
  exact ⟨Bd.of (by omega) (by omega), Bd.of (by omega) (by omega)⟩
theorem c96 (F d : Nat) (x : Int) : PureC (CL F (d + 1)) 96 [i64 x, i64 100] 0 (.bool (inB x)) := by
  intro m R
  refine call_in (n := 14) Try.func96 rfl rfl rfl rfl rfl rfl rfl ?_
  repeat' ((conv => whnf); first
           | refine eqS_rfl ?_
           | refine eqA_rfl ?_
           | refine eqA_of (by assumption) ?_
           | refine eqS_of (by rfl) ?_
           | refine seS_rfl ?_
           | refine brS_tt ?_
           | refine brS_ff ?_
           | refine brS_not ?_
           | refine brS_t (iEq_self _) ?_
           | refine brS_t (by assumption) ?_
           | refine brS_f (by assumption) ?_
           | refine brS_intro (fun _ => ?_) (fun _ => ?_)
           | refine ltS_intro (by first | assumption | decide | exact Nat.le_of_ble_eq_true rfl | omega) ?_
           | refine ixS_of rfl (by first | assumption | decide | omega) ?_
           | refine okS_intro (by kernel_rfl) ?_
           | intro _)
  all_goals (conv => whnf)
  all_goals refine ⟨?_, by repeat' (first | exact WkM.refl _ | refine WkM.drop ?_), by repeat' (first | exact Nat.le_refl _ | refine Nat.le_succ_of_le ?_)⟩
  all_goals ((rw [← inB_up]; simp only [*]; rfl))

theorem c66 (F d : Nat) (x y : Int) : PureC (CL F (d + 2)) 66 [i64 x, i64 y] 0 (.bool (plB x y)) := by
  intro m R
  refine call_in (n := 11) Try.func66 rfl rfl rfl rfl rfl rfl rfl ?_
  repeat' ((conv => whnf); first
           | refine eqS_rfl ?_
           | refine eqA_rfl ?_
           | refine eqA_of (by assumption) ?_
           | refine eqS_of (by rfl) ?_
           | refine seS_rfl ?_
           | refine brS_tt ?_
           | refine brS_ff ?_
           | refine brS_not ?_
           | refine brS_t (iEq_self _) ?_
           | refine brS_t (by assumption) ?_
           | refine brS_f (by assumption) ?_
           | refine brS_intro (fun _ => ?_) (fun _ => ?_)
           | refine ltS_intro (by first | assumption | decide | exact Nat.le_of_ble_eq_true rfl | omega) ?_
           | refine ixS_of rfl (by first | assumption | decide | omega) ?_
           | refine okS_intro (by kernel_rfl) ?_
           | refine call_pure (c96 F d _) ?_
           | intro _)
  all_goals (conv => whnf)
  all_goals refine ⟨?_, by repeat' (first | exact WkM.refl _ | refine WkM.drop ?_), by repeat' (first | exact Nat.le_refl _ | refine Nat.le_succ_of_le ?_)⟩
  all_goals ((unfold plB; simp only [*]; rfl))

theorem c99 (F d : Nat) (x : Int) : PureC (CL F (d + 1)) 99 [i64 x, i64 (-100), i64 100] 0 (.bool (inB x)) := by
  intro m R
  refine call_in (n := 15) Try.func99 rfl rfl rfl rfl rfl rfl rfl ?_
  repeat' ((conv => whnf); first
           | refine eqS_rfl ?_
           | refine eqA_rfl ?_
           | refine eqA_of (by assumption) ?_
           | refine eqS_of (by rfl) ?_
           | refine seS_rfl ?_
           | refine brS_tt ?_
           | refine brS_ff ?_
           | refine brS_not ?_
           | refine brS_t (iEq_self _) ?_
           | refine brS_t (by assumption) ?_
           | refine brS_f (by assumption) ?_
           | refine brS_intro (fun _ => ?_) (fun _ => ?_)
           | refine ltS_intro (by first | assumption | decide | exact Nat.le_of_ble_eq_true rfl | omega) ?_
           | refine ixS_of rfl (by first | assumption | decide | omega) ?_
           | refine okS_intro (by kernel_rfl) ?_
           | intro _)
  all_goals (conv => whnf)
  all_goals refine ⟨?_, by repeat' (first | exact WkM.refl _ | refine WkM.drop ?_), by repeat' (first | exact Nat.le_refl _ | refine Nat.le_succ_of_le ?_)⟩
  all_goals ((rw [← inB_dn]; simp only [*]; rfl))

theorem c71 (F d : Nat) (x : Int) : PureC (CL F (d + 2)) 71 [i64 x, i64 (-100), i64 100] 0 (.bool (inB x)) := by
  intro m R
  refine call_in (n := 11) Try.func71 rfl rfl rfl rfl rfl rfl rfl ?_
  repeat' ((conv => whnf); first
           | refine eqS_rfl ?_
           | refine eqA_rfl ?_
           | refine eqA_of (by assumption) ?_
           | refine eqS_of (by rfl) ?_
           | refine seS_rfl ?_
           | refine brS_tt ?_
           | refine brS_ff ?_
           | refine brS_not ?_
           | refine brS_t (iEq_self _) ?_
           | refine brS_t (by assumption) ?_
           | refine brS_f (by assumption) ?_
           | refine brS_intro (fun _ => ?_) (fun _ => ?_)
           | refine ltS_intro (by first | assumption | decide | exact Nat.le_of_ble_eq_true rfl | omega) ?_
           | refine ixS_of rfl (by first | assumption | decide | omega) ?_
           | refine okS_intro (by kernel_rfl) ?_
           | refine call_pure (c99 F d _) ?_
           | intro _)
  all_goals (conv => whnf)
  all_goals refine ⟨?_, by repeat' (first | exact WkM.refl _ | refine WkM.drop ?_), by repeat' (first | exact Nat.le_refl _ | refine Nat.le_succ_of_le ?_)⟩
  all_goals (rfl)

theorem c54 (F d : Nat) (x y : Int) : PureC (CL F (d + 3)) 54 [i64 x, i64 y] 0 (.bool (plB x y)) := by
  intro m R
  refine call_in (n := 11) Try.func54 rfl rfl rfl rfl rfl rfl rfl ?_
  repeat' ((conv => whnf); first
           | refine eqS_rfl ?_
           | refine eqA_rfl ?_
           | refine eqA_of (by assumption) ?_
           | refine eqS_of (by rfl) ?_
           | refine seS_rfl ?_
           | refine brS_tt ?_
           | refine brS_ff ?_
           | refine brS_not ?_
           | refine brS_t (iEq_self _) ?_
           | refine brS_t (by assumption) ?_
           | refine brS_f (by assumption) ?_
           | refine brS_intro (fun _ => ?_) (fun _ => ?_)
           | refine ltS_intro (by first | assumption | decide | exact Nat.le_of_ble_eq_true rfl | omega) ?_
           | refine ixS_of rfl (by first | assumption | decide | omega) ?_
           | refine okS_intro (by kernel_rfl) ?_
           | refine call_pure (c71 F d _) ?_
           | intro _)
  all_goals (conv => whnf)
  all_goals refine ⟨?_, by repeat' (first | exact WkM.refl _ | refine WkM.drop ?_), by repeat' (first | exact Nat.le_refl _ | refine Nat.le_succ_of_le ?_)⟩
  all_goals ((unfold plB; simp only [*]; rfl))

/-- twice an area -/
def tw (ax ay bx yb cx cy : Int) : Int := (bx - ax) * (cy - ay) - (yb - ay) * (cx - ax)
def sq (px py ax ay : Int) : Int := (ax - px) * (ax - px) + (ay - py) * (ay - py)
def sgn (x : Int) : Int := if x < 0 then -1 else if 0 < x then 1 else 0
theorem sgn_pos {x : Int} (h : iLt 0 x = true) : sgn x = 1 := by rw [iLt_eq] at h; simp at h; unfold sgn; rw [if_neg (by omega), if_pos h]
theorem sgn_neg {x : Int} (h : iLt x 0 = true) : sgn x = -1 := by rw [iLt_eq] at h; simp at h; unfold sgn; rw [if_pos h]
theorem sgn_zero {x : Int} (h1 : iLt x 0 = false) (h2 : iLt 0 x = false) : sgn x = 0 := by rw [iLt_eq] at h1 h2; simp at h1 h2; unfold sgn; rw [if_neg (by omega), if_neg (by omega)]
theorem tw_bd {ax ay bx yb cx cy : Int} (ha : plB ax ay = true) (hb : plB bx yb = true) (hc : plB cx cy = true) : Bd (tw ax ay bx yb cx cy) 80000 := by
  obtain ⟨a1, a2⟩ := plB_bd ha
  obtain ⟨b1, b2⟩ := plB_bd hb
  obtain ⟨c1, c2⟩ := plB_bd hc
  exact ((b1.sub a1).mul (c2.sub a2)).sub ((b2.sub a2).mul (c1.sub a1))
theorem tw_wr {ax ay bx yb cx cy : Int} (ha : plB ax ay = true) (hb : plB bx yb = true) (hc : plB cx cy = true) :
    wr .i64 (Int.sub (wr .i64 (Int.mul (wr .i64 (Int.sub bx ax)) (wr .i64 (Int.sub cy ay)))) (wr .i64 (Int.mul (wr .i64 (Int.sub yb ay)) (wr .i64 (Int.sub cx ax))))) = tw ax ay bx yb cx cy := by
  obtain ⟨a1, a2⟩ := plB_bd ha
  obtain ⟨b1, b2⟩ := plB_bd hb
  obtain ⟨c1, c2⟩ := plB_bd hc
  exact wr_sub (wr_mul (wr_sub rfl rfl b1 a1 (by decide)) (wr_sub rfl rfl c2 a2 (by decide)) (b1.sub a1) (c2.sub a2) (by decide)) (wr_mul (wr_sub rfl rfl b2 a2 (by decide)) (wr_sub rfl rfl c1 a1 (by decide)) (b2.sub a2) (c1.sub a1) (by decide)) ((b1.sub a1).mul (c2.sub a2)) ((b2.sub a2).mul (c1.sub a1)) (by decide)
theorem c52 (F d : Nat) (x y z w : Int) : PureC (CL F (d + 1)) 52 [.agg [i64 x, i64 y, i64 z, i64 w]] 20 (pt x y) := by
  intro m R
  refine call_in (n := 8) Try.func52 rfl rfl rfl rfl rfl rfl rfl ?_
  repeat' ((conv => whnf); first
           | refine eqS_rfl ?_
           | refine eqA_rfl ?_
           | refine eqA_of (by assumption) ?_
           | refine eqS_of (by rfl) ?_
           | refine seS_rfl ?_
           | refine brS_tt ?_
           | refine brS_ff ?_
           | refine brS_not ?_
           | refine brS_t (iEq_self _) ?_
           | refine brS_t (by assumption) ?_
           | refine brS_f (by assumption) ?_
           | refine brS_intro (fun _ => ?_) (fun _ => ?_)
           | refine ltS_intro (by first | assumption | decide | exact Nat.le_of_ble_eq_true rfl | omega) ?_
           | refine ixS_of rfl (by first | assumption | decide | omega) ?_
           | refine okS_intro (by kernel_rfl) ?_
           | intro _)
  all_goals (conv => whnf)
  all_goals refine ⟨?_, by repeat' (first | exact WkM.refl _ | refine WkM.drop ?_), by repeat' (first | exact Nat.le_refl _ | refine Nat.le_succ_of_le ?_)⟩
  all_goals (rfl)

theorem c53 (F d : Nat) (ax ay bx yb cx cy : Int) (ha : plB ax ay = true) (hb : plB bx yb = true) (hc : plB cx cy = true) : PureC (CL F (d + 1)) 53 [pt ax ay, pt bx yb, pt cx cy] 20 (i64 (tw ax ay bx yb cx cy)) := by
  intro m R
  refine call_in (n := 30) Try.func53 rfl rfl rfl rfl rfl rfl rfl ?_
  repeat' ((conv => whnf); first
           | refine eqS_rfl ?_
           | refine eqA_rfl ?_
           | refine eqA_of (by assumption) ?_
           | refine eqS_of (by rfl) ?_
           | refine seS_rfl ?_
           | refine brS_tt ?_
           | refine brS_ff ?_
           | refine brS_not ?_
           | refine brS_t (iEq_self _) ?_
           | refine brS_t (by assumption) ?_
           | refine brS_f (by assumption) ?_
           | refine brS_intro (fun _ => ?_) (fun _ => ?_)
           | refine ltS_intro (by first | assumption | decide | exact Nat.le_of_ble_eq_true rfl | omega) ?_
           | refine ixS_of rfl (by first | assumption | decide | omega) ?_
           | refine okS_intro (by kernel_rfl) ?_
           | intro _)
  all_goals (conv => whnf)
  all_goals refine ⟨?_, by repeat' (first | exact WkM.refl _ | refine WkM.drop ?_), by repeat' (first | exact Nat.le_refl _ | refine Nat.le_succ_of_le ?_)⟩
  all_goals (exact congrArg (Value.int .i64) (tw_wr ha hb hc))

theorem c105 (F d : Nat) (px py ax ay : Int) (hp : plB px py = true) (ha : plB ax ay = true) : PureC (CL F (d + 1)) 105 [pt px py, pt ax ay, pt ax ay] 20 (i64 (sq px py ax ay)) := by
  obtain ⟨a1, a2⟩ := plB_bd ha
  obtain ⟨p1, p2⟩ := plB_bd hp
  intro m R
  refine call_in (n := 30) Try.func105 rfl rfl rfl rfl rfl rfl rfl ?_
  repeat' ((conv => whnf); first
           | refine eqS_rfl ?_
           | refine eqA_rfl ?_
           | refine eqA_of (by assumption) ?_
           | refine eqS_of (by rfl) ?_
           | refine seS_rfl ?_
           | refine brS_tt ?_
           | refine brS_ff ?_
           | refine brS_not ?_
           | refine brS_t (iEq_self _) ?_
           | refine brS_t (by assumption) ?_
           | refine brS_f (by assumption) ?_
           | refine brS_intro (fun _ => ?_) (fun _ => ?_)
           | refine ltS_intro (by first | assumption | decide | exact Nat.le_of_ble_eq_true rfl | omega) ?_
           | refine ixS_of rfl (by first | assumption | decide | omega) ?_
           | refine okS_intro (by kernel_rfl) ?_
           | intro _)
  all_goals (conv => whnf)
  all_goals refine ⟨?_, by repeat' (first | exact WkM.refl _ | refine WkM.drop ?_), by repeat' (first | exact Nat.le_refl _ | refine Nat.le_succ_of_le ?_)⟩
  all_goals (exact congrArg (Value.int .i64) (wr_add (wr_mul (wr_sub rfl rfl a1 p1 (by decide)) (wr_sub rfl rfl a1 p1 (by decide)) (a1.sub p1) (a1.sub p1) (by decide)) (wr_mul (wr_sub rfl rfl a2 p2 (by decide)) (wr_sub rfl rfl a2 p2 (by decide)) (a2.sub p2) (a2.sub p2) (by decide)) ((a1.sub p1).mul (a1.sub p1)) ((a2.sub p2).mul (a2.sub p2)) (by decide)))

theorem c87 (F d : Nat) (px py ax ay : Int) (hp : plB px py = true) (ha : plB ax ay = true) : PureC (CL F (d + 2)) 87 [pt px py, pt ax ay] 40 (i64 (sq px py ax ay)) := by
  intro m R
  refine call_in (n := 9) Try.func87 rfl rfl rfl rfl rfl rfl rfl ?_
  repeat' ((conv => whnf); first
           | refine eqS_rfl ?_
           | refine eqA_rfl ?_
           | refine eqA_of (by assumption) ?_
           | refine eqS_of (by rfl) ?_
           | refine seS_rfl ?_
           | refine brS_tt ?_
           | refine brS_ff ?_
           | refine brS_not ?_
           | refine brS_t (iEq_self _) ?_
           | refine brS_t (by assumption) ?_
           | refine brS_f (by assumption) ?_
           | refine brS_intro (fun _ => ?_) (fun _ => ?_)
           | refine ltS_intro (by first | assumption | decide | exact Nat.le_of_ble_eq_true rfl | omega) ?_
           | refine ixS_of rfl (by first | assumption | decide | omega) ?_
           | refine okS_intro (by kernel_rfl) ?_
           | refine call_pure (c105 F d _ _ _ _ (by assumption) (by assumption)) ?_
           | intro _)
  all_goals (conv => whnf)
  all_goals refine ⟨?_, by repeat' (first | exact WkM.refl _ | refine WkM.drop ?_), by repeat' (first | exact Nat.le_refl _ | refine Nat.le_succ_of_le ?_)⟩
  all_goals (rfl)

theorem c57 (F d : Nat) (ax ay bx yb cx cy : Int) (ha : plB ax ay = true) (hb : plB bx yb = true) (hc : plB cx cy = true) : PureC (CL F (d + 2)) 57 [.agg [i64 ax, i64 ay, i64 bx, i64 yb, i64 cx, i64 cy]] 40 (.bool (iEq (tw ax ay bx yb cx cy) 0)) := by
  intro m R
  refine call_in (n := 11) Try.func57 rfl rfl rfl rfl rfl rfl rfl ?_
  repeat' ((conv => whnf); first
           | refine eqS_rfl ?_
           | refine eqA_rfl ?_
           | refine eqA_of (by assumption) ?_
           | refine eqS_of (by rfl) ?_
           | refine seS_rfl ?_
           | refine brS_tt ?_
           | refine brS_ff ?_
           | refine brS_not ?_
           | refine brS_t (iEq_self _) ?_
           | refine brS_t (by assumption) ?_
           | refine brS_f (by assumption) ?_
           | refine brS_intro (fun _ => ?_) (fun _ => ?_)
           | refine ltS_intro (by first | assumption | decide | exact Nat.le_of_ble_eq_true rfl | omega) ?_
           | refine ixS_of rfl (by first | assumption | decide | omega) ?_
           | refine okS_intro (by kernel_rfl) ?_
           | refine call_pure (c53 F d _ _ _ _ _ _ (by assumption) (by assumption) (by assumption)) ?_
           | intro _)
  all_goals (conv => whnf)
  all_goals refine ⟨?_, by repeat' (first | exact WkM.refl _ | refine WkM.drop ?_), by repeat' (first | exact Nat.le_refl _ | refine Nat.le_succ_of_le ?_)⟩
  all_goals (rfl)

theorem c86 (F d : Nat) (x : Int) : PureC (CL F (d + 1)) 86 [i64 x] 0 (.bool false) := by
  intro m R
  refine call_in (n := 6) Try.func86 rfl rfl rfl rfl rfl rfl rfl ?_
  repeat' ((conv => whnf); first
           | refine eqS_rfl ?_
           | refine eqA_rfl ?_
           | refine eqA_of (by assumption) ?_
           | refine eqS_of (by rfl) ?_
           | refine seS_rfl ?_
           | refine brS_tt ?_
           | refine brS_ff ?_
           | refine brS_not ?_
           | refine brS_t (iEq_self _) ?_
           | refine brS_t (by assumption) ?_
           | refine brS_f (by assumption) ?_
           | refine brS_intro (fun _ => ?_) (fun _ => ?_)
           | refine ltS_intro (by first | assumption | decide | exact Nat.le_of_ble_eq_true rfl | omega) ?_
           | refine ixS_of rfl (by first | assumption | decide | omega) ?_
           | refine okS_intro (by kernel_rfl) ?_
           | intro _)
  all_goals (conv => whnf)
  all_goals refine ⟨?_, by repeat' (first | exact WkM.refl _ | refine WkM.drop ?_), by repeat' (first | exact Nat.le_refl _ | refine Nat.le_succ_of_le ?_)⟩
  all_goals ((show Value.bool (!iEq x x) = _; rw [iEq_self]; rfl))

theorem c51 (F d : Nat) (x : Int) : PureC (CL F (d + 2)) 51 [i64 x, i64 0] 0 (i64 (sgn x)) := by
  intro m R
  refine call_in (n := 20) Try.func51 rfl rfl rfl rfl rfl rfl rfl ?_
  repeat' ((conv => whnf); first
           | refine eqS_rfl ?_
           | refine eqA_rfl ?_
           | refine eqA_of (by assumption) ?_
           | refine eqS_of (by rfl) ?_
           | refine seS_rfl ?_
           | refine brS_tt ?_
           | refine brS_ff ?_
           | refine brS_not ?_
           | refine brS_t (iEq_self _) ?_
           | refine brS_t (by assumption) ?_
           | refine brS_f (by assumption) ?_
           | refine brS_intro (fun _ => ?_) (fun _ => ?_)
           | refine ltS_intro (by first | assumption | decide | exact Nat.le_of_ble_eq_true rfl | omega) ?_
           | refine ixS_of rfl (by first | assumption | decide | omega) ?_
           | refine okS_intro (by kernel_rfl) ?_
           | refine call_pure (c86 F d _) ?_
           | intro _)
  all_goals (conv => whnf)
  all_goals refine ⟨?_, by repeat' (first | exact WkM.refl _ | refine WkM.drop ?_), by repeat' (first | exact Nat.le_refl _ | refine Nat.le_succ_of_le ?_)⟩
  all_goals ((first | rw [sgn_neg ‹iLt x 0 = true›] | rw [sgn_pos ‹iLt 0 x = true›] | rw [sgn_zero ‹iLt x 0 = false› ‹iLt 0 x = false›]))

theorem c55 (F d : Nat) (x : Int) : PureC (CL F (d + 1)) 55 [i64 x] 0 (i64 (sgn x)) := by
  intro m R
  refine call_in (n := 7) Try.func55 rfl rfl rfl rfl rfl rfl rfl ?_
  repeat' ((conv => whnf); first
           | refine eqS_rfl ?_
           | refine eqA_rfl ?_
           | refine eqA_of (by assumption) ?_
           | refine eqS_of (by rfl) ?_
           | refine seS_rfl ?_
           | refine brS_tt ?_
           | refine brS_ff ?_
           | refine brS_not ?_
           | refine brS_t (iEq_self _) ?_
           | refine brS_t (by assumption) ?_
           | refine brS_f (by assumption) ?_
           | refine brS_intro (fun _ => ?_) (fun _ => ?_)
           | refine ltS_intro (by first | assumption | decide | exact Nat.le_of_ble_eq_true rfl | omega) ?_
           | refine ixS_of rfl (by first | assumption | decide | omega) ?_
           | refine okS_intro (by kernel_rfl) ?_
           | intro _)
  all_goals (conv => whnf)
  all_goals refine ⟨?_, by repeat' (first | exact WkM.refl _ | refine WkM.drop ?_), by repeat' (first | exact Nat.le_refl _ | refine Nat.le_succ_of_le ?_)⟩
  all_goals ((first | rw [sgn_neg ‹iLt x 0 = true›] | rw [sgn_pos ‹iLt 0 x = true›] | rw [sgn_zero ‹iLt x 0 = false› ‹iLt 0 x = false›]))

theorem c56 (F d : Nat) (ax ay bx yb cx cy a3 a4 b3 b4 c3 c4 : Int) (ha : plB ax ay = true) (hb : plB bx yb = true) (hc : plB cx cy = true) : PureC (CL F (d + 1)) 56 [.agg [i64 ax, i64 ay, i64 a3, i64 a4], .agg [i64 bx, i64 yb, i64 b3, i64 b4], .agg [i64 cx, i64 cy, i64 c3, i64 c4]] 20 (i64 (tw ax ay bx yb cx cy)) := by
  intro m R
  refine call_in (n := 30) Try.func56 rfl rfl rfl rfl rfl rfl rfl ?_
  repeat' ((conv => whnf); first
           | refine eqS_rfl ?_
           | refine eqA_rfl ?_
           | refine eqA_of (by assumption) ?_
           | refine eqS_of (by rfl) ?_
           | refine seS_rfl ?_
           | refine brS_tt ?_
           | refine brS_ff ?_
           | refine brS_not ?_
           | refine brS_t (iEq_self _) ?_
           | refine brS_t (by assumption) ?_
           | refine brS_f (by assumption) ?_
           | refine brS_intro (fun _ => ?_) (fun _ => ?_)
           | refine ltS_intro (by first | assumption | decide | exact Nat.le_of_ble_eq_true rfl | omega) ?_
           | refine ixS_of rfl (by first | assumption | decide | omega) ?_
           | refine okS_intro (by kernel_rfl) ?_
           | intro _)
  all_goals (conv => whnf)
  all_goals refine ⟨?_, by repeat' (first | exact WkM.refl _ | refine WkM.drop ?_), by repeat' (first | exact Nat.le_refl _ | refine Nat.le_succ_of_le ?_)⟩
  all_goals (exact congrArg (Value.int .i64) (tw_wr ha hb hc))

abbrev cr (ax ay bx yb cx cy : Int) : SV := .agg [i64 ax, i64 ay, i64 bx, i64 yb, i64 cx, i64 cy]
def flp (b : Bool) (x : Int) : Int := if b = true then -x else x
theorem sq_bd {px py ax ay : Int} (hp : plB px py = true) (ha : plB ax ay = true) : Bd (sq px py ax ay) 80000 := by
  obtain ⟨a1, a2⟩ := plB_bd ha
  obtain ⟨p1, p2⟩ := plB_bd hp
  exact ((a1.sub p1).mul (a1.sub p1)).add ((a2.sub p2).mul (a2.sub p2))
theorem flp_bd {b : Bool} {x : Int} {B : Nat} (h : Bd x B) : Bd (flp b x) B := by unfold flp; split; exact h.neg; exact h
theorem wr_neg {x : Int} {B : Nat} (h : Bd x B) (hl : B < 9223372036854775808) : wr .i64 (Int.sub 0 x) = -x := by
  have := h.le
  rw [show Int.sub 0 x = -x from Int.zero_sub x]
  exact wr_id (by omega) (by omega)
theorem c81 (F d : Nat) (ax ay bx yb cx cy px py : Int) (ha : plB ax ay = true) (hb : plB bx yb = true) (hc : plB cx cy = true) (hp : plB px py = true) :
    PureC (CL F (d + 3)) 81 [cr ax ay bx yb cx cy, pt px py] 110 (.agg [i64 (flp (iLt (tw ax ay bx yb cx cy) 0) (tw px py bx yb cx cy)), i64 (flp (iLt (tw ax ay bx yb cx cy) 0) (tw px py cx cy ax ay)), i64 (flp (iLt (tw ax ay bx yb cx cy) 0) (tw px py ax ay bx yb))]) := by
  intro m R
  refine call_in (n := 29) Try.func81 rfl rfl rfl rfl rfl rfl rfl ?_
  repeat' ((conv => whnf); first
           | refine eqS_rfl ?_
           | refine eqA_rfl ?_
           | refine eqA_of (by assumption) ?_
           | refine eqS_of (by rfl) ?_
           | refine seS_rfl ?_
           | refine brS_tt ?_
           | refine brS_ff ?_
           | refine brS_not ?_
           | refine brS_t (iEq_self _) ?_
           | refine brS_t (by assumption) ?_
           | refine brS_f (by assumption) ?_
           | refine brS_intro (fun _ => ?_) (fun _ => ?_)
           | refine ltS_intro (by first | assumption | decide | exact Nat.le_of_ble_eq_true rfl | omega) ?_
           | refine ixS_of rfl (by first | assumption | decide | omega) ?_
           | refine okS_intro (by kernel_rfl) ?_
           | refine call_in (n := 24) Try.func101 rfl rfl rfl rfl rfl rfl rfl ?_
           | refine call_pure (c53 F _ _ _ _ _ _ _ (by assumption) (by assumption) (by assumption)) ?_
           | refine call_fs rfl rfl rfl (call_pure (c53 F _ _ _ _ _ _ _ (by assumption) (by assumption) (by assumption)) ?_)
           | intro _)
  all_goals (conv => whnf)
  all_goals refine ⟨?_, by repeat' (first | exact WkM.refl _ | refine WkM.drop ?_), by repeat' (first | exact Nat.le_refl _ | refine Nat.le_succ_of_le ?_)⟩
  all_goals ((unfold flp; simp only [*]; first | rfl | (rw [wr_neg (tw_bd hp hb hc) (by decide), wr_neg (tw_bd hp hc ha) (by decide), wr_neg (tw_bd hp ha hb) (by decide)]; rfl)))

theorem sum_wr {u v w x y z : Int} (hu : Bd u 80000) (hv : Bd v 80000) (hw : Bd w 80000) (hx : Bd x 80000) (hy : Bd y 80000) (hz : Bd z 80000) :
    wr .i64 (Int.add (wr .i64 (Int.add (wr .i64 (Int.mul u x)) (wr .i64 (Int.mul v y)))) (wr .i64 (Int.mul w z))) = u * x + v * y + w * z :=
  wr_add (wr_add (wr_mul rfl rfl hu hx (by decide)) (wr_mul rfl rfl hv hy (by decide)) (hu.mul hx) (hv.mul hy) (by decide)) (wr_mul rfl rfl hw hz (by decide)) ((hu.mul hx).add (hv.mul hy)) (hw.mul hz) (by decide)
theorem c88 (F d : Nat) (u v w x y z : Int) (hu : Bd u 80000) (hv : Bd v 80000) (hw : Bd w 80000) (hx : Bd x 80000) (hy : Bd y 80000) (hz : Bd z 80000) : PureC (CL F (d + 1)) 88 [.agg [i64 u, i64 v, i64 w], .agg [i64 x, i64 y, i64 z]] 20 (i64 (u * x + v * y + w * z)) := by
  intro m R
  refine call_in (n := 22) Try.func88 rfl rfl rfl rfl rfl rfl rfl ?_
  repeat' ((conv => whnf); first
           | refine eqS_rfl ?_
           | refine eqA_rfl ?_
           | refine eqA_of (by assumption) ?_
           | refine eqS_of (by rfl) ?_
           | refine seS_rfl ?_
           | refine brS_tt ?_
           | refine brS_ff ?_
           | refine brS_not ?_
           | refine brS_t (iEq_self _) ?_
           | refine brS_t (by assumption) ?_
           | refine brS_f (by assumption) ?_
           | refine brS_intro (fun _ => ?_) (fun _ => ?_)
           | refine ltS_intro (by first | assumption | decide | exact Nat.le_of_ble_eq_true rfl | omega) ?_
           | refine ixS_of rfl (by first | assumption | decide | omega) ?_
           | refine okS_intro (by kernel_rfl) ?_
           | intro _)
  all_goals (conv => whnf)
  all_goals refine ⟨?_, by repeat' (first | exact WkM.refl _ | refine WkM.drop ?_), by repeat' (first | exact Nat.le_refl _ | refine Nat.le_succ_of_le ?_)⟩
  all_goals (exact congrArg (Value.int .i64) (sum_wr hu hv hw hx hy hz))

def cirN (ax ay bx yb cx cy px py : Int) : Int := flp (iLt (tw ax ay bx yb cx cy) 0) (tw px py bx yb cx cy) * sq px py ax ay + flp (iLt (tw ax ay bx yb cx cy) 0) (tw px py cx cy ax ay) * sq px py bx yb + flp (iLt (tw ax ay bx yb cx cy) 0) (tw px py ax ay bx yb) * sq px py cx cy
theorem c58 (F d : Nat) (ax ay bx yb cx cy px py : Int) (ha : plB ax ay = true) (hb : plB bx yb = true) (hc : plB cx cy = true) (hp : plB px py = true) :
    PureC (CL F (d + 4)) 58 [cr ax ay bx yb cx cy, pt px py] 350 (i64 (sgn (cirN ax ay bx yb cx cy px py))) := by
  intro m R
  refine call_in (n := 25) Try.func58 rfl rfl rfl rfl rfl rfl rfl ?_
  repeat' ((conv => whnf); first
           | refine eqS_rfl ?_
           | refine eqA_rfl ?_
           | refine eqA_of (by assumption) ?_
           | refine eqS_of (by rfl) ?_
           | refine seS_rfl ?_
           | refine brS_tt ?_
           | refine brS_ff ?_
           | refine brS_not ?_
           | refine brS_t (iEq_self _) ?_
           | refine brS_t (by assumption) ?_
           | refine brS_f (by assumption) ?_
           | refine brS_intro (fun _ => ?_) (fun _ => ?_)
           | refine ltS_intro (by first | assumption | decide | exact Nat.le_of_ble_eq_true rfl | omega) ?_
           | refine ixS_of rfl (by first | assumption | decide | omega) ?_
           | refine okS_intro (by kernel_rfl) ?_
           | refine call_pure (c87 F _ _ _ _ _ (by assumption) (by assumption)) ?_
           | refine call_pure (c81 F _ _ _ _ _ _ _ _ _ (by assumption) (by assumption) (by assumption) (by assumption)) ?_
           | refine call_pure (c88 F _ _ _ _ _ _ _ (flp_bd (tw_bd hp hb hc)) (flp_bd (tw_bd hp hc ha)) (flp_bd (tw_bd hp ha hb)) (sq_bd hp ha) (sq_bd hp hb) (sq_bd hp hc)) ?_
           | refine call_pure (c51 F _ _) ?_
           | intro _)
  all_goals (conv => whnf)
  all_goals refine ⟨?_, by repeat' (first | exact WkM.refl _ | refine WkM.drop ?_), by repeat' (first | exact Nat.le_refl _ | refine Nat.le_succ_of_le ?_)⟩
  all_goals (rfl)

abbrev st (x y z w : Int) : SV := .agg [i64 x, i64 y, i64 z, i64 w]
def sdN (ax ay bx yb cx cy : Int) : Int := if plB ax ay = true ∧ plB bx yb = true ∧ plB cx cy = true then sgn (tw ax ay bx yb cx cy) else 0
def sdE (ax ay bx yb cx cy : Int) : Int := if plB ax ay = true ∧ plB bx yb = true ∧ plB cx cy = true then 0 else 1
theorem c15 (F d : Nat) (hF : 20 < F) (ax ay bx yb cx cy a3 a4 b3 b4 c3 c4 : Int) : PureC (CL F (d + 4)) 15 [st ax ay a3 a4, st bx yb b3 b4, st cx cy c3 c4] 200 (.tup [i64 (sdN ax ay bx yb cx cy), i64 (sdE ax ay bx yb cx cy)]) := by
  intro m R
  refine call_in (n := 22) Try.func15 rfl rfl rfl rfl rfl rfl rfl ?_
  repeat' ((conv => whnf); first
           | refine eqS_rfl ?_
           | refine eqA_rfl ?_
           | refine eqA_of (by assumption) ?_
           | refine eqS_of (by rfl) ?_
           | refine seS_rfl ?_
           | refine brS_tt ?_
           | refine brS_ff ?_
           | refine brS_not ?_
           | refine brS_t (iEq_self _) ?_
           | refine brS_t (by assumption) ?_
           | refine brS_f (by assumption) ?_
           | refine brS_intro (fun _ => ?_) (fun _ => ?_)
           | refine ltS_intro (by first | assumption | decide | exact Nat.le_of_ble_eq_true rfl | omega) ?_
           | refine ixS_of rfl (by first | assumption | decide | omega) ?_
           | refine okS_intro (by kernel_rfl) ?_
           | refine call_in (n := 18) Try.func50 rfl rfl rfl rfl rfl rfl rfl ?_
           | refine loS_u 8 (by omega) ?_
           | refine call_pure (c66 F _ _ _) ?_
           | refine call_pure (c52 F _ _ _ _ _) ?_
           | refine call_pure (c53 F _ _ _ _ _ _ _ (by assumption) (by assumption) (by assumption)) ?_
           | refine call_pure (c51 F _ _) ?_
           | intro _)
  all_goals (conv => whnf)
  all_goals refine ⟨?_, by repeat' (first | exact WkM.refl _ | refine WkM.drop ?_), by repeat' (first | exact Nat.le_refl _ | refine Nat.le_succ_of_le ?_)⟩
  all_goals ((unfold sdN sdE; simp [*]; first | done | rfl))

theorem c16 (F d : Nat) (ax ay bx yb cx cy a3 a4 b3 b4 c3 c4 : Int) : PureC (CL F (d + 4)) 16 [st ax ay a3 a4, st bx yb b3 b4, st cx cy c3 c4] 200 (.tup [i64 (sdN ax ay bx yb cx cy), i64 (sdE ax ay bx yb cx cy)]) := by
  intro m R
  refine call_in (n := 35) Try.func16 rfl rfl rfl rfl rfl rfl rfl ?_
  repeat' ((conv => whnf); first
           | refine eqS_rfl ?_
           | refine eqA_rfl ?_
           | refine eqA_of (by assumption) ?_
           | refine eqS_of (by rfl) ?_
           | refine seS_rfl ?_
           | refine brS_tt ?_
           | refine brS_ff ?_
           | refine brS_not ?_
           | refine brS_t (iEq_self _) ?_
           | refine brS_t (by assumption) ?_
           | refine brS_f (by assumption) ?_
           | refine brS_intro (fun _ => ?_) (fun _ => ?_)
           | refine ltS_intro (by first | assumption | decide | exact Nat.le_of_ble_eq_true rfl | omega) ?_
           | refine ixS_of rfl (by first | assumption | decide | omega) ?_
           | refine okS_intro (by kernel_rfl) ?_
           | refine call_pure (c54 F _ _ _) ?_
           | refine call_pure (c56 F _ _ _ _ _ _ _ _ _ _ _ _ _ (by assumption) (by assumption) (by assumption)) ?_
           | refine call_pure (c55 F _ _) ?_
           | intro _)
  all_goals (conv => whnf)
  all_goals refine ⟨?_, by repeat' (first | exact WkM.refl _ | refine WkM.drop ?_), by repeat' (first | exact Nat.le_refl _ | refine Nat.le_succ_of_le ?_)⟩
  all_goals ((unfold sdN sdE; simp [*]; first | done | rfl))

def dt (ax ay bx yb cx cy px py : Int) : Int := (ax - px) * ((yb - py) * sq px py cx cy - sq px py bx yb * (cy - py)) - (ay - py) * ((bx - px) * sq px py cx cy - sq px py bx yb * (cx - px)) + sq px py ax ay * ((bx - px) * (cy - py) - (yb - py) * (cx - px))
theorem dt_cir (ax ay bx yb cx cy px py : Int) : tw px py bx yb cx cy * sq px py ax ay + tw px py cx cy ax ay * sq px py bx yb + tw px py ax ay bx yb * sq px py cx cy = dt ax ay bx yb cx cy px py := by
  unfold tw dt
  generalize sq px py ax ay = z0
  generalize sq px py bx yb = z1
  generalize sq px py cx cy = z2
  generalize ax - px = x0
  generalize bx - px = x1
  generalize cx - px = x2
  generalize ay - py = y0
  generalize yb - py = y1
  generalize cy - py = y2
  grind
theorem sgn_flip {t x : Int} (h : iEq t 0 = false) : sgn (flp (iLt t 0) x) = sgn t * sgn x := by
  rw [iEq_eq] at h
  rw [iLt_eq]
  unfold flp sgn
  simp at h
  by_cases h1 : t < 0
  · simp only [h1, decide_true, if_true]
    by_cases h2 : x < 0
    · rw [if_neg (by omega), if_pos (by omega), if_pos h2]; rfl
    · by_cases h3 : 0 < x
      · rw [if_pos (by omega), if_neg h2, if_pos h3]; rfl
      · rw [if_neg (by omega), if_neg (by omega), if_neg h2, if_neg h3]; rfl
  · simp only [h1, decide_false, if_false, Bool.false_eq_true]
    rw [if_pos (show 0 < t by omega), Int.one_mul]
theorem cir_sgn {ax ay bx yb cx cy px py : Int} (h : iEq (tw ax ay bx yb cx cy) 0 = false) : sgn (cirN ax ay bx yb cx cy px py) = sgn (tw ax ay bx yb cx cy) * sgn (dt ax ay bx yb cx cy px py) := by
  rw [← sgn_flip h]
  congr 1
  unfold cirN
  rw [← dt_cir]
  unfold flp
  split
  · rw [Int.neg_mul, Int.neg_mul, Int.neg_mul]; omega
  · rfl
theorem dt_wr {ax ay bx yb cx cy px py : Int} (ha : plB ax ay = true) (hb : plB bx yb = true) (hc : plB cx cy = true) (hp : plB px py = true) {x0 x1 x2 y0 y1 y2 z0 z1 z2 : Int}
    (e0 : x0 = ax - px) (e1 : x1 = bx - px) (e2 : x2 = cx - px) (f0 : y0 = ay - py) (f1 : y1 = yb - py) (f2 : y2 = cy - py) (g0 : z0 = sq px py ax ay) (g1 : z1 = sq px py bx yb) (g2 : z2 = sq px py cx cy) :
    wr .i64 (Int.add (wr .i64 (Int.sub (wr .i64 (Int.mul x0 (wr .i64 (Int.sub (wr .i64 (Int.mul y1 z2)) (wr .i64 (Int.mul z1 y2)))))) (wr .i64 (Int.mul y0 (wr .i64 (Int.sub (wr .i64 (Int.mul x1 z2)) (wr .i64 (Int.mul z1 x2)))))))) (wr .i64 (Int.mul z0 (wr .i64 (Int.sub (wr .i64 (Int.mul x1 y2)) (wr .i64 (Int.mul y1 x2))))))) = dt ax ay bx yb cx cy px py := by
  obtain ⟨a1, a2⟩ := plB_bd ha
  obtain ⟨b1, b2⟩ := plB_bd hb
  obtain ⟨c1, c2⟩ := plB_bd hc
  obtain ⟨p1, p2⟩ := plB_bd hp
  have X0 := a1.sub p1
  have X1 := b1.sub p1
  have X2 := c1.sub p1
  have Y0 := a2.sub p2
  have Y1 := b2.sub p2
  have Y2 := c2.sub p2
  have Z0 := sq_bd hp ha
  have Z1 := sq_bd hp hb
  have Z2 := sq_bd hp hc
  rw [← e0] at X0
  rw [← e1] at X1
  rw [← e2] at X2
  rw [← f0] at Y0
  rw [← f1] at Y1
  rw [← f2] at Y2
  rw [← g0] at Z0
  rw [← g1] at Z1
  rw [← g2] at Z2
  unfold dt
  rw [← e0, ← e1, ← e2, ← f0, ← f1, ← f2, ← g0, ← g1, ← g2]
  have m1 := wr_sub (wr_mul rfl rfl Y1 Z2 (by decide)) (wr_mul rfl rfl Z1 Y2 (by decide)) (Y1.mul Z2) (Z1.mul Y2) (by decide)
  have m2 := wr_sub (wr_mul rfl rfl X1 Z2 (by decide)) (wr_mul rfl rfl Z1 X2 (by decide)) (X1.mul Z2) (Z1.mul X2) (by decide)
  have m3 := wr_sub (wr_mul rfl rfl X1 Y2 (by decide)) (wr_mul rfl rfl Y1 X2 (by decide)) (X1.mul Y2) (Y1.mul X2) (by decide)
  have b1 := (Y1.mul Z2).sub (Z1.mul Y2)
  have b2 := (X1.mul Z2).sub (Z1.mul X2)
  have b3 := (X1.mul Y2).sub (Y1.mul X2)
  exact wr_add (wr_sub (wr_mul rfl m1 X0 b1 (by decide)) (wr_mul rfl m2 Y0 b2 (by decide)) (X0.mul b1) (Y0.mul b2) (by decide)) (wr_mul rfl m3 Z0 b3 (by decide)) ((X0.mul b1).sub (Y0.mul b2)) (Z0.mul b3) (by decide)
theorem sb_wr {a b : Int} (ha : Bd a 100) (hb : Bd b 100) : wr .i64 (Int.sub a b) = a - b := wr_sub rfl rfl ha hb (by decide)
theorem sq_wr {x y px py ax ay : Int} (ha : plB ax ay = true) (hp : plB px py = true) (e : x = ax - px) (f : y = ay - py) : wr .i64 (Int.add (wr .i64 (Int.mul x x)) (wr .i64 (Int.mul y y))) = sq px py ax ay := by
  obtain ⟨a1, a2⟩ := plB_bd ha
  obtain ⟨p1, p2⟩ := plB_bd hp
  have X := a1.sub p1
  have Y := a2.sub p2
  rw [← e] at X
  rw [← f] at Y
  unfold sq
  rw [← e, ← f]
  exact wr_add (wr_mul rfl rfl X X (by decide)) (wr_mul rfl rfl Y Y (by decide)) (X.mul X) (Y.mul Y) (by decide)
theorem c59 (F d : Nat) (hF : 20 < F) (ax ay bx yb cx cy px py a3 a4 b3 b4 c3 c4 p3 p4 : Int) (ha : plB ax ay = true) (hb : plB bx yb = true) (hc : plB cx cy = true) (hp : plB px py = true) :
    PureC (CL F (d + 1)) 59 [st ax ay a3 a4, st bx yb b3 b4, st cx cy c3 c4, st px py p3 p4] 400 (i64 (dt ax ay bx yb cx cy px py)) := by
  obtain ⟨a1, a2⟩ := plB_bd ha
  obtain ⟨b1, b2⟩ := plB_bd hb
  obtain ⟨c1, c2⟩ := plB_bd hc
  obtain ⟨p1, p2⟩ := plB_bd hp
  intro m R
  refine call_in (n := 117) Try.func59 rfl rfl rfl rfl rfl rfl rfl ?_
  repeat' ((conv => whnf); first
           | refine eqS_rfl ?_
           | refine eqA_rfl ?_
           | refine eqA_of (by assumption) ?_
           | refine eqS_of (by rfl) ?_
           | refine seS_rfl ?_
           | refine brS_tt ?_
           | refine brS_ff ?_
           | refine brS_not ?_
           | refine brS_t (iEq_self _) ?_
           | refine brS_t (by assumption) ?_
           | refine brS_f (by assumption) ?_
           | refine brS_intro (fun _ => ?_) (fun _ => ?_)
           | refine ltS_intro (by first | assumption | decide | exact Nat.le_of_ble_eq_true rfl | omega) ?_
           | refine ixS_of rfl (by first | assumption | decide | omega) ?_
           | refine okS_intro (by kernel_rfl) ?_
           | refine loS_u 8 (by omega) ?_
           | intro _)
  all_goals (conv => whnf)
  all_goals refine ⟨?_, by repeat' (first | exact WkM.refl _ | refine WkM.drop ?_), by repeat' (first | exact Nat.le_refl _ | refine Nat.le_succ_of_le ?_)⟩
  all_goals (exact congrArg (Value.int .i64) (dt_wr ha hb hc hp (sb_wr a1 p1) (sb_wr b1 p1) (sb_wr c1 p1) (sb_wr a2 p2) (sb_wr b2 p2) (sb_wr c2 p2) (sq_wr ha hp (sb_wr a1 p1) (sb_wr a2 p2)) (sq_wr hb hp (sb_wr b1 p1) (sb_wr b2 p2)) (sq_wr hc hp (sb_wr c1 p1) (sb_wr c2 p2))))

def isN (ax ay bx yb cx cy px py : Int) : Int := if (plB ax ay = true ∧ plB bx yb = true ∧ plB cx cy = true ∧ plB px py = true) ∧ iEq (tw ax ay bx yb cx cy) 0 = false then sgn (tw ax ay bx yb cx cy) * sgn (dt ax ay bx yb cx cy px py) else 0
def isE (ax ay bx yb cx cy px py : Int) : Int := if plB ax ay = true ∧ plB bx yb = true ∧ plB cx cy = true ∧ plB px py = true then (if iEq (tw ax ay bx yb cx cy) 0 = true then 15 else 0) else 1
theorem c17 (F d : Nat) (hF : 20 < F) (ax ay bx yb cx cy px py a3 a4 b3 b4 c3 c4 p3 p4 : Int) : PureC (CL F (d + 5)) 17 [st ax ay a3 a4, st bx yb b3 b4, st cx cy c3 c4, st px py p3 p4] 600 (.tup [i64 (isN ax ay bx yb cx cy px py), i64 (isE ax ay bx yb cx cy px py)]) := by
  intro m R
  refine call_in (n := 31) Try.func17 rfl rfl rfl rfl rfl rfl rfl ?_
  repeat' ((conv => whnf); first
           | refine eqS_rfl ?_
           | refine eqA_rfl ?_
           | refine eqA_of (by assumption) ?_
           | refine eqS_of (by rfl) ?_
           | refine seS_rfl ?_
           | refine brS_tt ?_
           | refine brS_ff ?_
           | refine brS_not ?_
           | refine brS_t (iEq_self _) ?_
           | refine brS_t (by assumption) ?_
           | refine brS_f (by assumption) ?_
           | refine brS_intro (fun _ => ?_) (fun _ => ?_)
           | refine ltS_intro (by first | assumption | decide | exact Nat.le_of_ble_eq_true rfl | omega) ?_
           | refine ixS_of rfl (by first | assumption | decide | omega) ?_
           | refine okS_intro (by kernel_rfl) ?_
           | refine call_in (n := 18) Try.func50 rfl rfl rfl rfl rfl rfl rfl ?_
           | refine loS_u 8 (by omega) ?_
           | refine call_pure (c66 F _ _ _) ?_
           | refine call_pure (c52 F _ _ _ _ _) ?_
           | refine call_pure (c57 F _ _ _ _ _ _ _ (by assumption) (by assumption) (by assumption)) ?_
           | refine call_pure (c58 F _ _ _ _ _ _ _ _ _ (by assumption) (by assumption) (by assumption) (by assumption)) ?_
           | intro _)
  all_goals (conv => whnf)
  all_goals refine ⟨?_, by repeat' (first | exact WkM.refl _ | refine WkM.drop ?_), by repeat' (first | exact Nat.le_refl _ | refine Nat.le_succ_of_le ?_)⟩
  all_goals ((unfold isN isE; first | (simp [*]; done) | (rw [cir_sgn ‹_›]; simp [*]; first | done | rfl) | trace_state))

theorem sgn_z {t : Int} : iEq (sgn t) 0 = iEq t 0 := by
  rw [iEq_eq, iEq_eq, Bool.eq_iff_iff]
  unfold sgn
  simp
  split
  · constructor <;> intro h <;> omega
  · split
    · constructor <;> intro h <;> omega
    · constructor <;> intro h <;> omega
theorem c16t (F d : Nat) (ax ay bx yb cx cy a3 a4 b3 b4 c3 c4 : Int) (ha : plB ax ay = true) (hb : plB bx yb = true) (hc : plB cx cy = true) : PureC (CL F (d + 4)) 16 [st ax ay a3 a4, st bx yb b3 b4, st cx cy c3 c4] 200 (.tup [i64 (sgn (tw ax ay bx yb cx cy)), i64 0]) := by
  have h := c16 F d ax ay bx yb cx cy a3 a4 b3 b4 c3 c4
  unfold sdN sdE at h
  rw [if_pos ⟨ha, hb, hc⟩, if_pos ⟨ha, hb, hc⟩] at h
  exact h
theorem c16f (F d : Nat) (ax ay bx yb cx cy a3 a4 b3 b4 c3 c4 : Int) (ha : ¬ (plB ax ay = true ∧ plB bx yb = true ∧ plB cx cy = true)) : PureC (CL F (d + 4)) 16 [st ax ay a3 a4, st bx yb b3 b4, st cx cy c3 c4] 200 (.tup [i64 0, i64 1]) := by
  have h := c16 F d ax ay bx yb cx cy a3 a4 b3 b4 c3 c4
  unfold sdN sdE at h
  rw [if_neg ha, if_neg ha] at h
  exact h
theorem mul_wr {t x : Int} : wr .i64 (Int.mul (sgn t) (sgn x)) = sgn t * sgn x := by
  have h : ∀ y, Bd (sgn y) 1 := fun y => by unfold sgn; split; exact Bd.of (by omega) (by omega); split; exact Bd.of (by omega) (by omega); exact Bd.of (by omega) (by omega)
  exact wr_mul rfl rfl (h t) (h x) (by decide)
theorem c18 (F d : Nat) (hF : 20 < F) (ax ay bx yb cx cy px py a3 a4 b3 b4 c3 c4 p3 p4 : Int) : PureC (CL F (d + 5)) 18 [st ax ay a3 a4, st bx yb b3 b4, st cx cy c3 c4, st px py p3 p4] 700 (.tup [i64 (isN ax ay bx yb cx cy px py), i64 (isE ax ay bx yb cx cy px py)]) := by
  by_cases hs : plB ax ay = true ∧ plB bx yb = true ∧ plB cx cy = true
  · obtain ⟨ha, hb, hc⟩ := hs
    intro m R
    refine call_in (n := 46) Try.func18 rfl rfl rfl rfl rfl rfl rfl ?_
    repeat' ((conv => whnf); first
             | refine eqS_rfl ?_
             | refine eqA_rfl ?_
             | refine eqA_of (by assumption) ?_
             | refine eqS_of (by rfl) ?_
             | refine seS_rfl ?_
             | refine brS_tt ?_
             | refine brS_ff ?_
             | refine brS_not ?_
             | refine brS_t (iEq_self _) ?_
             | refine brS_t (by assumption) ?_
             | refine brS_f (by assumption) ?_
             | refine brS_intro (fun _ => ?_) (fun _ => ?_)
             | refine ltS_intro (by first | assumption | decide | exact Nat.le_of_ble_eq_true rfl | omega) ?_
             | refine ixS_of rfl (by first | assumption | decide | omega) ?_
             | refine okS_intro (by kernel_rfl) ?_
             | refine call_pure (c16t F _ _ _ _ _ _ _ _ _ _ _ _ _ ha hb hc) ?_
             | refine call_pure (c54 F _ _ _) ?_
             | refine call_pure (c59 F _ hF _ _ _ _ _ _ _ _ _ _ _ _ _ _ _ _ ha hb hc (by assumption)) ?_
             | refine call_pure (c55 F _ _) ?_
             | intro _)
    all_goals (conv => whnf)
    all_goals refine ⟨?_, by repeat' (first | exact WkM.refl _ | refine WkM.drop ?_), by repeat' (first | exact Nat.le_refl _ | refine Nat.le_succ_of_le ?_)⟩
    all_goals ((unfold isN isE; (try rw [sgn_z] at *); first | (simp [*]; done) | (rw [mul_wr]; simp [*]; first | done | rfl) | (have hp := ‹plB px py = false›; rw [if_neg (fun h => (by rw [hp] at h; simp at h)), if_neg (fun h => (by rw [hp] at h; simp at h))]) | (simp [*]; rfl) | trace_state))

  · intro m R
    refine call_in (n := 46) Try.func18 rfl rfl rfl rfl rfl rfl rfl ?_
    repeat' ((conv => whnf); first
             | refine eqS_rfl ?_
             | refine eqA_rfl ?_
             | refine eqA_of (by assumption) ?_
             | refine eqS_of (by rfl) ?_
             | refine seS_rfl ?_
             | refine brS_tt ?_
             | refine brS_ff ?_
             | refine brS_not ?_
             | refine brS_t (iEq_self _) ?_
             | refine brS_t (by assumption) ?_
             | refine brS_f (by assumption) ?_
             | refine brS_intro (fun _ => ?_) (fun _ => ?_)
             | refine ltS_intro (by first | assumption | decide | exact Nat.le_of_ble_eq_true rfl | omega) ?_
             | refine ixS_of rfl (by first | assumption | decide | omega) ?_
             | refine okS_intro (by kernel_rfl) ?_
             | refine call_pure (c16f F _ _ _ _ _ _ _ _ _ _ _ _ _ hs) ?_
             | intro _)
    all_goals (conv => whnf)
    all_goals refine ⟨?_, by repeat' (first | exact WkM.refl _ | refine WkM.drop ?_), by repeat' (first | exact Nat.le_refl _ | refine Nat.le_succ_of_le ?_)⟩
    all_goals ((unfold isN isE; rw [if_neg (fun h => hs ⟨h.1.1, h.1.2.1, h.1.2.2.1⟩), if_neg (fun h => hs ⟨h.1, h.2.1, h.2.2.1⟩)]))

theorem law3 (F d : Nat) (hF : 20 < F) (ax ay bx yb cx cy px py a3 a4 b3 b4 c3 c4 p3 p4 : Int) : PureC (CL F (d + 6)) 3 [st ax ay a3 a4, st bx yb b3 b4, st cx cy c3 c4, st px py p3 p4] 2500 (.bool true) := by
  intro m R
  refine call_in (n := 89) Try.func3 rfl rfl rfl rfl rfl rfl rfl ?_
  repeat' ((conv => whnf); first
           | refine eqS_rfl ?_
           | refine eqA_rfl ?_
           | refine eqA_of (by assumption) ?_
           | refine eqS_of (by rfl) ?_
           | refine seS_rfl ?_
           | refine brS_tt ?_
           | refine brS_ff ?_
           | refine brS_not ?_
           | refine brS_t (iEq_self _) ?_
           | refine brS_t (by assumption) ?_
           | refine brS_f (by assumption) ?_
           | refine brS_intro (fun _ => ?_) (fun _ => ?_)
           | refine ltS_intro (by first | assumption | decide | exact Nat.le_of_ble_eq_true rfl | omega) ?_
           | refine ixS_of rfl (by first | assumption | decide | omega) ?_
           | refine okS_intro (by kernel_rfl) ?_
           | refine call_in (n := 19) Try.func14 rfl rfl rfl rfl rfl rfl rfl ?_
           | refine loS_u 8 (by omega) ?_
           | refine call_pure (c15 F _ hF _ _ _ _ _ _ _ _ _ _ _ _) ?_
           | refine call_pure (c16 F _ _ _ _ _ _ _ _ _ _ _ _ _) ?_
           | refine call_pure (c17 F _ hF _ _ _ _ _ _ _ _ _ _ _ _ _ _ _ _) ?_
           | refine call_pure (c18 F _ hF _ _ _ _ _ _ _ _ _ _ _ _ _ _ _ _) ?_
           | refine call_w rfl ?_
           | intro _)
  all_goals (conv => whnf)
  all_goals refine ⟨?_, by repeat' (first | exact WkM.refl _ | refine WkM.drop ?_), by repeat' (first | exact Nat.le_refl _ | refine Nat.le_succ_of_le ?_)⟩
  all_goals (first | rfl | trace_state)

end Go.Proofs.Ytkpiaipbbpfodaa
