/- Ore: needles that are off, and OreCertain. -/
import Derived.Test.YtbpdmbgkoijfbaaOrV
import Derived.KernelRfl
namespace Go.Proofs.Ytbpdmbgkoijfbaa
open Go.Ab
attribute [local irreducible] aggOk drwOK
set_option maxRecDepth 100000
set_option maxHeartbeats 4000000
set_option linter.unusedVariables false
set_option linter.unusedSimpArgs false
theorem nthS_get : ∀ {i : Nat} {l : List SV} {v : SV} {K : SV → Prop}, l[i]? = some v → K v → nthS i l K
  | _, [], _, _, h, _ => by simp at h
  | 0, x :: _, v, K, h, hK => by
    have h : some x = some v := h
    injection h with h
    subst h
    show forceS x K
    rw [forceS_eq]; exact hK
  | i + 1, _ :: l, v, K, h, hK => nthS_get (i := i) (l := l) (by simpa using h) hK
theorem nthS_at {j i : Nat} {l : List SV} {v : SV} {K : SV → Prop} (e : j = i) (h : l[i]? = some v) (hK : K v) : nthS j l K := by rw [e]; exact nthS_get h hK
/-- numbers that are off -/
def fO (dl : Nat → Int) (nf : Nat → Int) (j : Nat) : Int := (nf j + dl j + 3600) % 3600
theorem T_off {o a b p q : Int} (hp : -o ≤ p ∧ p ≤ o) (hq : -o ≤ q ∧ q ≤ o) (h : okE o a b = true) : T ((a + p + 3600) % 3600) ((b + q + 3600) % 3600) = T a b + (q - p) := by
  have h := of_decide_eq_true h
  obtain ⟨k, hk⟩ := T_mod a b
  refine T_of (by omega) (by omega) ?_
  exact ⟨k + ((b + q + 3600) / 3600 - 1) - ((a + p + 3600) / 3600 - 1), by omega⟩
theorem okE_off {o a b p q : Int} (hp : -o ≤ p ∧ p ≤ o) (hq : -o ≤ q ∧ q ≤ o) (h : okE o a b = true) : okE 0 ((a + p + 3600) % 3600) ((b + q + 3600) % 3600) = true := by
  have h1 := T_off hp hq h
  have h := of_decide_eq_true h
  unfold okE
  rw [h1]
  exact decide_eq_true (by omega)
section
variable {dl nf : Nat → Int} {o : Int} {W H : Nat} (hd : ∀ j, -o ≤ dl j ∧ dl j ≤ o) (hC : Cert (grid nf W) o W H)
include hd hC
theorem cert_O : Cert (grid (fO dl nf) W) 0 W H := ⟨fun x y hx hy => okE_off (hd _) (hd _) (hC.1 x y hx hy), fun x y hx hy => okE_off (hd _) (hd _) (hC.2 x y hx hy)⟩
theorem bsum_O {x y w h : Nat} (hw : x + w < W) (hh : y + h < H) : bsum (grid (fO dl nf) W) x y w h = bsum (grid nf W) x y w h := by
  have D : ∀ a b, grid dl W a b = dl (b * W + a) := fun _ _ => rfl
  have e1 : sumN w (fun k => T (grid (fO dl nf) W (x + k) y) (grid (fO dl nf) W (x + k + 1) y)) = sumN w (fun k => T (grid nf W (x + k) y) (grid nf W (x + k + 1) y)) + (grid dl W (x + w) y - grid dl W x y) := by
    rw [show grid dl W (x + w) y - grid dl W x y = _ from (sumN_tele (g := fun k => grid dl W (x + k) y) (n := w)).symm, ← sumN_add]
    exact sumN_congr fun k hk => T_off (hd _) (hd _) (hC.1 (x + k) y (by omega) (by omega))
  have e2 : sumN h (fun k => T (grid (fO dl nf) W (x + w) (y + k)) (grid (fO dl nf) W (x + w) (y + k + 1))) = sumN h (fun k => T (grid nf W (x + w) (y + k)) (grid nf W (x + w) (y + k + 1))) + (grid dl W (x + w) (y + h) - grid dl W (x + w) y) := by
    rw [show grid dl W (x + w) (y + h) - grid dl W (x + w) y = _ from (sumN_tele (g := fun k => grid dl W (x + w) (y + k)) (n := h)).symm, ← sumN_add]
    exact sumN_congr fun k hk => T_off (hd _) (hd _) (hC.2 (x + w) (y + k) (by omega) (by omega))
  have e3 : sumN w (fun k => T (grid (fO dl nf) W (x + k + 1) (y + h)) (grid (fO dl nf) W (x + k) (y + h))) = sumN w (fun k => T (grid nf W (x + k + 1) (y + h)) (grid nf W (x + k) (y + h))) - (grid dl W (x + w) (y + h) - grid dl W x (y + h)) := by
    rw [show grid dl W (x + w) (y + h) - grid dl W x (y + h) = _ from (sumN_tele (g := fun k => grid dl W (x + k) (y + h)) (n := w)).symm, Int.sub_eq_add_neg, ← sumN_neg, ← sumN_add]
    refine sumN_congr fun k hk => ?_
    have h1 : T (grid (fO dl nf) W (x + k + 1) (y + h)) (grid (fO dl nf) W (x + k) (y + h)) = _ := T_off (hd _) (hd _) ((okE_symm _ _ _).trans (hC.1 (x + k) (y + h) (by omega) (by omega)))
    rw [h1]
    show _ + (grid dl W (x + k) (y + h) - grid dl W (x + k + 1) (y + h)) = _ + - (grid dl W (x + (k + 1)) (y + h) - grid dl W (x + k) (y + h))
    rw [show x + (k + 1) = x + k + 1 from rfl]
    have : ∀ s a b : Int, s + (a - b) = s + - (b - a) := fun _ _ _ => by omega
    exact this _ _ _
  have e4 : sumN h (fun k => T (grid (fO dl nf) W x (y + k + 1)) (grid (fO dl nf) W x (y + k))) = sumN h (fun k => T (grid nf W x (y + k + 1)) (grid nf W x (y + k))) - (grid dl W x (y + h) - grid dl W x y) := by
    rw [show grid dl W x (y + h) - grid dl W x y = _ from (sumN_tele (g := fun k => grid dl W x (y + k)) (n := h)).symm, Int.sub_eq_add_neg, ← sumN_neg, ← sumN_add]
    refine sumN_congr fun k hk => ?_
    have h1 : T (grid (fO dl nf) W x (y + k + 1)) (grid (fO dl nf) W x (y + k)) = _ := T_off (hd _) (hd _) ((okE_symm _ _ _).trans (hC.2 x (y + k) (by omega) (by omega)))
    rw [h1]
    show _ + (grid dl W x (y + k) - grid dl W x (y + k + 1)) = _ + - (grid dl W x (y + (k + 1)) - grid dl W x (y + k))
    rw [show y + (k + 1) = y + k + 1 from rfl]
    have : ∀ s a b : Int, s + (a - b) = s + - (b - a) := fun _ _ _ => by omega
    exact this _ _ _
  rw [bsum_eq, bsum_eq, e1, e2, e3, e4]
  omega
theorem ixk_O {q : Nat} (hW : 2 ≤ W) (hq : q < (W - 1) * (H - 1)) : ixk (grid (fO dl nf) W) (W - 1) q = ixk (grid nf W) (W - 1) q := by
  have h2 : q % (W - 1) < W - 1 := Nat.mod_lt _ (by omega)
  have h3 : q / (W - 1) < H - 1 := by rw [Nat.div_lt_iff_lt_mul (by omega), Nat.mul_comm]; exact hq
  unfold ixk
  generalize q / (W - 1) = e at h3
  generalize q % (W - 1) = f at h2
  rw [bsum_O hd hC (x := 0 + f) (y := 0 + e) (w := 1) (h := 1) (by omega) (by omega)]
theorem hits_O (hW : 2 ≤ W) {n : Nat} (hn : n ≤ (W - 1) * (H - 1)) : hits (grid (fO dl nf) W) (W - 1) n = hits (grid nf W) (W - 1) n := by
  unfold hits
  refine List.filter_congr fun q hq => ?_
  have := List.mem_range.1 hq
  rw [ixk_O hd hC hW (by omega)]
end
theorem hits_lt {g : Grid} {W1 n i : Nat} (h : i < (hits g W1 n).length) : (hits g W1 n).getD i 0 < n := by
  rw [List.getD_eq_getElem?_getD, List.getElem?_eq_getElem h]
  have := List.getElem_mem h
  unfold hits at this
  exact List.mem_range.1 (List.mem_filter.1 this).1
end Go.Proofs.Ytbpdmbgkoijfbaa
namespace Go.Proofs.Ytbpdmbgkoijfbaa
open Go.Ab
attribute [local irreducible] aggOk drwOK
set_option maxRecDepth 100000
set_option maxHeartbeats 4000000
set_option linter.unusedVariables false
set_option linter.unusedSimpArgs false
theorem wf_i8 {n : Int} (h : (Lit.int .i8 n).wf = true) : -128 ≤ n ∧ n < 128 := by
  have h : (decide (IntKind.i8.min ≤ n) && decide (n ≤ IntKind.i8.max)) = true := h
  rw [Bool.and_eq_true, decide_eq_true_eq, decide_eq_true_eq] at h
  have e1 : IntKind.i8.min = -128 := by decide
  have e2 : IntKind.i8.max = 127 := by decide
  rw [e1, e2] at h
  omega
theorem l8 (F d : Nat) (hF : 300 < F) (x0 x1 x2 : Int) (h0 : 0 ≤ x0 ∧ x0 < 256) (h1 : 0 ≤ x1 ∧ x1 < 256) (h2 : 0 ≤ x2 ∧ x2 < 256) (a : Option Addr) (n c : Nat) (nf : Nat → Int) (_ : ∀ j, n ≤ j → nf j = 0) (hnf : ∀ j, 0 ≤ nf j ∧ nf j < 256) (y0 y1 y2 y3 : Int) (x7 x8 x9 x10 x11 x12 x13 x14 x15 x16 x17 x18 x19 x20 x21 x22 x23 x24 x25 x26 x27 x28 x29 x30 x31 x32 x33 x34 x35 x36 x37 x38 x39 x40 x41 x42 : Int) (k0 : 0 ≤ y0 ∧ y0 < 256) (k1 : 0 ≤ y1 ∧ y1 < 256) (k2 : 0 ≤ y2 ∧ y2 < 256) (k3 : 0 ≤ y3 ∧ y3 < 256) (hx7 : -128 ≤ x7 ∧ x7 < 128) (hx8 : -128 ≤ x8 ∧ x8 < 128) (hx9 : -128 ≤ x9 ∧ x9 < 128) (hx10 : -128 ≤ x10 ∧ x10 < 128) (hx11 : -128 ≤ x11 ∧ x11 < 128) (hx12 : -128 ≤ x12 ∧ x12 < 128) (hx13 : -128 ≤ x13 ∧ x13 < 128) (hx14 : -128 ≤ x14 ∧ x14 < 128) (hx15 : -128 ≤ x15 ∧ x15 < 128) (hx16 : -128 ≤ x16 ∧ x16 < 128) (hx17 : -128 ≤ x17 ∧ x17 < 128) (hx18 : -128 ≤ x18 ∧ x18 < 128) (hx19 : -128 ≤ x19 ∧ x19 < 128) (hx20 : -128 ≤ x20 ∧ x20 < 128) (hx21 : -128 ≤ x21 ∧ x21 < 128) (hx22 : -128 ≤ x22 ∧ x22 < 128) (hx23 : -128 ≤ x23 ∧ x23 < 128) (hx24 : -128 ≤ x24 ∧ x24 < 128) (hx25 : -128 ≤ x25 ∧ x25 < 128) (hx26 : -128 ≤ x26 ∧ x26 < 128) (hx27 : -128 ≤ x27 ∧ x27 < 128) (hx28 : -128 ≤ x28 ∧ x28 < 128) (hx29 : -128 ≤ x29 ∧ x29 < 128) (hx30 : -128 ≤ x30 ∧ x30 < 128) (hx31 : -128 ≤ x31 ∧ x31 < 128) (hx32 : -128 ≤ x32 ∧ x32 < 128) (hx33 : -128 ≤ x33 ∧ x33 < 128) (hx34 : -128 ≤ x34 ∧ x34 < 128) (hx35 : -128 ≤ x35 ∧ x35 < 128) (hx36 : -128 ≤ x36 ∧ x36 < 128) (hx37 : -128 ≤ x37 ∧ x37 < 128) (hx38 : -128 ≤ x38 ∧ x38 < 128) (hx39 : -128 ≤ x39 ∧ x39 < 128) (hx40 : -128 ≤ x40 ∧ x40 < 128) (hx41 : -128 ≤ x41 ∧ x41 < 128) (hx42 : -128 ≤ x42 ∧ x42 < 128) : ReadC (CL F (d + 10)) 8 [.agg [.int .u8 x0, .int .u8 x1, .int .u8 x2, .sl 1000 a n c], .agg [.int .u8 y0, .int .u8 y1, .int .u8 y2, .int .u8 y3], .agg [.int .i8 x7, .int .i8 x8, .int .i8 x9, .int .i8 x10, .int .i8 x11, .int .i8 x12, .int .i8 x13, .int .i8 x14, .int .i8 x15, .int .i8 x16, .int .i8 x17, .int .i8 x18, .int .i8 x19, .int .i8 x20, .int .i8 x21, .int .i8 x22, .int .i8 x23, .int .i8 x24, .int .i8 x25, .int .i8 x26, .int .i8 x27, .int .i8 x28, .int .i8 x29, .int .i8 x30, .int .i8 x31, .int .i8 x32, .int .i8 x33, .int .i8 x34, .int .i8 x35, .int .i8 x36, .int .i8 x37, .int .i8 x38, .int .i8 x39, .int .i8 x40, .int .i8 x41, .int .i8 x42]] [(1000, .ro a n c 1 fun j => [.int .u8 (nf j)])] (700000 + 100) (.bool true) := by
  obtain ⟨zs, hzs⟩ : ∃ zs : List Int, zs = [x7, x8, x9, x10, x11, x12, x13, x14, x15, x16, x17, x18, x19, x20, x21, x22, x23, x24, x25, x26, x27, x28, x29, x30, x31, x32, x33, x34, x35, x36, x37, x38, x39, x40, x41, x42] := ⟨_, rfl⟩
  have hz8 : ∀ i, i < 36 → ([.int .i8 x7, .int .i8 x8, .int .i8 x9, .int .i8 x10, .int .i8 x11, .int .i8 x12, .int .i8 x13, .int .i8 x14, .int .i8 x15, .int .i8 x16, .int .i8 x17, .int .i8 x18, .int .i8 x19, .int .i8 x20, .int .i8 x21, .int .i8 x22, .int .i8 x23, .int .i8 x24, .int .i8 x25, .int .i8 x26, .int .i8 x27, .int .i8 x28, .int .i8 x29, .int .i8 x30, .int .i8 x31, .int .i8 x32, .int .i8 x33, .int .i8 x34, .int .i8 x35, .int .i8 x36, .int .i8 x37, .int .i8 x38, .int .i8 x39, .int .i8 x40, .int .i8 x41, .int .i8 x42] : List SV)[i]? = some (.int .i8 (zs.getD i 0)) := fun i hi => by
    have e : ([.int .i8 x7, .int .i8 x8, .int .i8 x9, .int .i8 x10, .int .i8 x11, .int .i8 x12, .int .i8 x13, .int .i8 x14, .int .i8 x15, .int .i8 x16, .int .i8 x17, .int .i8 x18, .int .i8 x19, .int .i8 x20, .int .i8 x21, .int .i8 x22, .int .i8 x23, .int .i8 x24, .int .i8 x25, .int .i8 x26, .int .i8 x27, .int .i8 x28, .int .i8 x29, .int .i8 x30, .int .i8 x31, .int .i8 x32, .int .i8 x33, .int .i8 x34, .int .i8 x35, .int .i8 x36, .int .i8 x37, .int .i8 x38, .int .i8 x39, .int .i8 x40, .int .i8 x41, .int .i8 x42] : List SV) = zs.map (SV.int .i8) := by rw [hzs]; rfl
    have hl : zs.length = 36 := by rw [hzs]; rfl
    rw [e, List.getElem?_map, List.getElem?_eq_getElem (by omega), List.getD_eq_getElem?_getD, List.getElem?_eq_getElem (by omega)]; rfl
  have hzb : ∀ j, -128 ≤ zs.getD j 0 ∧ zs.getD j 0 < 128 := fun j => by
    rw [List.getD_eq_getElem?_getD]
    cases e : zs[j]? with
    | none => show -128 ≤ (0 : Int) ∧ (0 : Int) < 128; omega
    | some v =>
      have hm := List.mem_of_getElem? e
      rw [hzs] at hm
      simp only [List.mem_cons, List.not_mem_nil, or_false] at hm
      show -128 ≤ v ∧ v < 128
      rcases hm with rfl | rfl | rfl | rfl | rfl | rfl | rfl | rfl | rfl | rfl | rfl | rfl | rfl | rfl | rfl | rfl | rfl | rfl | rfl | rfl | rfl | rfl | rfl | rfl | rfl | rfl | rfl | rfl | rfl | rfl | rfl | rfl | rfl | rfl | rfl | rfl <;> assumption
  clear hzs
  obtain ⟨W, hW⟩ : ∃ W : Nat, (W : Int) = 2 + x0 % 5 := ⟨(2 + x0 % 5).toNat, by omega⟩
  obtain ⟨H, hH⟩ : ∃ H : Nat, (H : Int) = 2 + x1 % 5 := ⟨(2 + x1 % 5).toNat, by omega⟩
  have hWb : 2 ≤ W ∧ W ≤ 6 := by omega
  have hHb : 2 ≤ H ∧ H ≤ 6 := by omega
  have hWH : W * H ≤ 6 * 6 := Nat.mul_le_mul hWb.2 hHb.2
  have k31 := c31 F (d + 8) (by omega) 700 x0 x1 x2 h0 h1 h2 a n c nf hnf W H hW hH
  have hC := land_cert n nf W H (x2 % 80) (by omega)
  have hD := mkN_dir n nf
  have ho : 0 ≤ x2 % 80 ∧ x2 % 80 ≤ 400 := by omega
  generalize x2 % 80 = o at k31 hC ho
  generalize mkN n nf = ng at k31 hC hD
  obtain ⟨x, y, w, h, hx, hy, hw, hh, h32⟩ := c32 F (d + 7) W H y0 y1 y2 y3 k0 k1 k2 k3 (by omega) (by omega)
  have hs := hC.sure ho.1

  obtain ⟨dl, hdl⟩ : ∃ dl : Nat → Int, dl = fun j => Int.tmod (zs.getD j 0) (o + 1) := ⟨_, rfl⟩
  have hd : ∀ j, -o ≤ dl j ∧ dl j ≤ o := fun j => by
    rw [hdl]
    have h1 := Int.tmod_lt_of_pos (zs.getD j 0) (show 0 < o + 1 by omega)
    have h2 := Int.lt_tmod_of_pos (zs.getD j 0) (show 0 < o + 1 by omega)
    show -o ≤ Int.tmod (zs.getD j 0) (o + 1) ∧ Int.tmod (zs.getD j 0) (o + 1) ≤ o
    omega
  have hDO : ∀ j, Dir (fO dl ng j) := fun j => by unfold fO; omega
  have hCO := cert_O hd hC
  have hWH1 : ((W - 1) * (H - 1)) ≤ 5 * 5 := Nat.mul_le_mul (by omega) (by omega)
  have h17 := fun a => chk_ok F d (by omega) W H o a (W * H) ng hD (by omega) (by omega) ho hC
  have h17o := fun a => chk_ok F d (by omega) W H 0 a (W * H) (fO dl ng) hDO (by omega) (by omega) (by omega) hCO
  have i1 := fun a => c20_ok F d (by omega) W H o a (W * H) (W * H) ng x y w h hD (by omega) (by omega) rfl hx hy hw hh (h17 a)
  have i2 := fun a => c20_ok F d (by omega) W H 0 a (W * H) (W * H) (fO dl ng) x y w h hDO (by omega) (by omega) rfl hx hy hw hh (h17o a)
  rw [bsum_O hd hC hx hy] at i2
  have k1 := fun a => c22_ok F d (by omega) 600 W H o a (W * H) (W * H) ng hD (by omega) (by omega) rfl (h17 a)
  have k2 := fun a => c22_ok F d (by omega) 602 W H 0 a (W * H) (W * H) (fO dl ng) hDO (by omega) (by omega) rfl (h17o a)
  rw [hits_O hd hC (by omega) (Nat.le_refl _)] at k2
  have hLen := hits_len (grid ng W) (W - 1) ((W - 1) * (H - 1))
  have hsame : ∀ i, i < (hits (grid ng W) (W - 1) ((W - 1) * (H - 1))).length → ixk (grid (fO dl ng) W) (W - 1) ((hits (grid ng W) (W - 1) ((W - 1) * (H - 1))).getD i 0) = ixk (grid ng W) (W - 1) ((hits (grid ng W) (W - 1) ((W - 1) * (H - 1))).getD i 0) := fun i hi => ixk_O hd hC (by omega) (hits_lt hi)
  generalize hits (grid ng W) (W - 1) ((W - 1) * (H - 1)) = L at k1 k2 hLen hsame
  generalize (bsum (grid ng W) x y w h).tdiv 3600 = v at i1 i2
  intro R
  rw [show 700000 + 100 = (700000) + 100 from rfl, addL_eq, ← Nat.add_assoc, ← addL_eq _ 100, Nat.add_comm R (700000)]
  refine call_in (n := 148) Try.func8 rfl rfl rfl rfl rfl rfl rfl ?_
  repeat' ((conv => whnf); first
           | refine eqS_rfl ?_
           | refine eqA_rfl ?_
           | refine eqA_of (by assumption) ?_
           | refine eqS_of (by rfl) ?_
           | refine eqL_rfl ?_
           | refine eqJ_rfl ?_
           | refine flE_intro (fun _ _ => rfl) ?_
           | refine seS_rfl ?_
           | refine brS_tt ?_
           | refine brS_ff ?_
           | refine brS_not ?_
           | refine brS_t (iEq_self _) ?_
           | refine brS_t (by assumption) ?_
           | refine brS_f (by assumption) ?_
           | refine brS_intro (fun _ => ?_) (fun _ => ?_)
           | refine ltS_intro (by first | assumption | decide | exact Nat.le_of_ble_eq_true rfl | omega) ?_
           | refine ixS_of rfl (by first | assumption | decide | omega) ?_
           | refine okS_intro (by first | assumption | kernel_rfl) ?_
           | refine nzS_intro (by first | decide | assumption) ?_
           | refine call31 k31 (addL (690000 + R) 90) (by rfl) (by exact SeesM.cons 1000 (sees_ro (i := 1000) (by rfl)) (SeesM.nil _) (fun _ _ _ _ _ _ x hx => by cases hx)) (by (first | (simp only [addL_eq, addL_rec]; omega) | omega | exact Nat.le_refl _)) ?_
           | refine call_pureD (h32 o _ (W * H) (W * H)) (addL (680000 + R) 80) (by rfl) (by (first | (simp only [addL_eq, addL_rec]; omega) | omega | exact Nat.le_refl _)) ?_
           | intro _)
  rename_i b5 a0 b7 b8 b9
  conv => whnf
  refine loS_i (fun jj f mm R' ni => ∃ (i : Nat) (a1 : Option Addr), i ≤ W * H ∧ jj = W * H - i + 1 ∧ f = [(7, .ptr 3 b7 0), (8, .ptr 4 b8 0), (9, .ptr 5 b9 0), (5, .ptr 2 b5 0), (32, .sl 700 a0 (W * H) (W * H)), (33, .int .i64 (Int.ofNat (W * H))), (34, .int .i64 (Int.ofNat i))] ∧ mm = [(5, .own b9 24 [i64 W, i64 H, i64 0, .sl 701 a1 i i]), (4, .own b8 35 [i64 x, i64 y, i64 w, i64 h]), (3, .own b7 24 [i64 W, i64 H, i64 o, .sl 700 a0 (W * H) (W * H)]), (2, .own b5 67 [.int .i8 x7, .int .i8 x8, .int .i8 x9, .int .i8 x10, .int .i8 x11, .int .i8 x12, .int .i8 x13, .int .i8 x14, .int .i8 x15, .int .i8 x16, .int .i8 x17, .int .i8 x18, .int .i8 x19, .int .i8 x20, .int .i8 x21, .int .i8 x22, .int .i8 x23, .int .i8 x24, .int .i8 x25, .int .i8 x26, .int .i8 x27, .int .i8 x28, .int .i8 x29, .int .i8 x30, .int .i8 x31, .int .i8 x32, .int .i8 x33, .int .i8 x34, .int .i8 x35, .int .i8 x36, .int .i8 x37, .int .i8 x38, .int .i8 x39, .int .i8 x40, .int .i8 x41, .int .i8 x42]), (700, .gr a0 (W * H) 3 1 fun j => [i64 (ng j)]), (701, .gr a1 i 3 1 fun j => [i64 (fO dl ng j)])] ∧ R' = addL (R + 600000 + 100 * (W * H - i)) 100 ∧ ni = 100) (W * H + 1) (by omega)
    ⟨[(7, .ptr 3 b7 0), (8, .ptr 4 b8 0), (9, .ptr 5 b9 0), (5, .ptr 2 b5 0), (32, .sl 700 a0 (W * H) (W * H)), (33, .int .i64 (Int.ofNat (W * H))), (34, .int .i64 (Int.ofNat 0))], [(5, .own b9 24 [i64 W, i64 H, i64 0, .sl 701 none 0 0]), (4, .own b8 35 [i64 x, i64 y, i64 w, i64 h]), (3, .own b7 24 [i64 W, i64 H, i64 o, .sl 700 a0 (W * H) (W * H)]), (2, .own b5 67 [.int .i8 x7, .int .i8 x8, .int .i8 x9, .int .i8 x10, .int .i8 x11, .int .i8 x12, .int .i8 x13, .int .i8 x14, .int .i8 x15, .int .i8 x16, .int .i8 x17, .int .i8 x18, .int .i8 x19, .int .i8 x20, .int .i8 x21, .int .i8 x22, .int .i8 x23, .int .i8 x24, .int .i8 x25, .int .i8 x26, .int .i8 x27, .int .i8 x28, .int .i8 x29, .int .i8 x30, .int .i8 x31, .int .i8 x32, .int .i8 x33, .int .i8 x34, .int .i8 x35, .int .i8 x36, .int .i8 x37, .int .i8 x38, .int .i8 x39, .int .i8 x40, .int .i8 x41, .int .i8 x42]), (700, .gr a0 (W * H) 3 1 fun j => [i64 (ng j)]), (701, .gr none 0 3 1 fun j => [i64 (fO dl ng j)])], addL (R + 600000 + 100 * (W * H - 0)) 100, 100, ⟨eqF_rfl _, eqF_rfl _, eqF_rfl _, eqF_rfl _, eqF_rfl _, eqF_rfl _, eqF_rfl _, trivial⟩, by exact (WkM.gr0 (i := 701) (e := 3) (sz := 1) (f := fun j => [i64 (fO dl ng j)]) (WkM.refl _)).trans (by refine Sel.wk ?_; (try simp only [List.cons_append, List.nil_append]); repeat' (first | exact Sel.nil | exact Sel.all | exact Sel.left | refine Sel.cons Pick.here ?_ | refine Sel.cons (Pick.there Pick.here) ?_ | refine Sel.cons (Pick.there (Pick.there Pick.here)) ?_ | refine Sel.cons (Pick.there (Pick.there (Pick.there Pick.here))) ?_ | refine Sel.cons (Pick.there (Pick.there (Pick.there (Pick.there Pick.here)))) ?_ | refine Sel.cons (Pick.there (Pick.there (Pick.there (Pick.there (Pick.there Pick.here))))) ?_ | refine Sel.cons (Pick.there (Pick.there (Pick.there (Pick.there (Pick.there (Pick.there Pick.here)))))) ?_ | refine Sel.cons (Pick.there (Pick.there (Pick.there (Pick.there (Pick.there (Pick.there (Pick.there Pick.here))))))) ?_ | refine Sel.cons (Pick.there (Pick.there (Pick.there (Pick.there (Pick.there (Pick.there (Pick.there (Pick.there Pick.here)))))))) ?_ | refine Sel.cons (Pick.there (Pick.there (Pick.there (Pick.there (Pick.there (Pick.there (Pick.there (Pick.there (Pick.there Pick.here))))))))) ?_ | refine Sel.cons (Pick.there (Pick.there (Pick.there (Pick.there (Pick.there (Pick.there (Pick.there (Pick.there (Pick.there (Pick.there Pick.here)))))))))) ?_ | refine Sel.cons (Pick.there (Pick.there (Pick.there (Pick.there (Pick.there (Pick.there (Pick.there (Pick.there (Pick.there (Pick.there (Pick.there Pick.here))))))))))) ?_ | refine Sel.consw Pick.here ⟨rfl, rfl, rfl⟩ ?_ | refine Sel.consw (Pick.there Pick.here) ⟨rfl, rfl, rfl⟩ ?_ | refine Sel.consw (Pick.there (Pick.there Pick.here)) ⟨rfl, rfl, rfl⟩ ?_ | refine Sel.consw (Pick.there (Pick.there (Pick.there Pick.here))) ⟨rfl, rfl, rfl⟩ ?_ | refine Sel.consw (Pick.there (Pick.there (Pick.there (Pick.there Pick.here)))) ⟨rfl, rfl, rfl⟩ ?_ | refine Sel.consw (Pick.there (Pick.there (Pick.there (Pick.there (Pick.there Pick.here))))) ⟨rfl, rfl, rfl⟩ ?_ | refine Sel.consw (Pick.there (Pick.there (Pick.there (Pick.there (Pick.there (Pick.there Pick.here)))))) ⟨rfl, rfl, rfl⟩ ?_ | refine Sel.consw (Pick.there (Pick.there (Pick.there (Pick.there (Pick.there (Pick.there (Pick.there Pick.here))))))) ⟨rfl, rfl, rfl⟩ ?_ | refine Sel.consw (Pick.there (Pick.there (Pick.there (Pick.there (Pick.there (Pick.there (Pick.there (Pick.there Pick.here)))))))) ⟨rfl, rfl, rfl⟩ ?_ | refine Sel.consw (Pick.there (Pick.there (Pick.there (Pick.there (Pick.there (Pick.there (Pick.there (Pick.there (Pick.there Pick.here))))))))) ⟨rfl, rfl, rfl⟩ ?_ | refine Sel.consw (Pick.there (Pick.there (Pick.there (Pick.there (Pick.there (Pick.there (Pick.there (Pick.there (Pick.there (Pick.there Pick.here)))))))))) ⟨rfl, rfl, rfl⟩ ?_ | refine Sel.consw (Pick.there (Pick.there (Pick.there (Pick.there (Pick.there (Pick.there (Pick.there (Pick.there (Pick.there (Pick.there (Pick.there Pick.here))))))))))) ⟨rfl, rfl, rfl⟩ ?_ | refine Sel.snoc Pick.here ?_ | refine Sel.snoc (Pick.there Pick.here) ?_ | refine Sel.snoc (Pick.there (Pick.there Pick.here)) ?_ | refine Sel.snoc (Pick.there (Pick.there (Pick.there Pick.here))) ?_ | refine Sel.snoc (Pick.there (Pick.there (Pick.there (Pick.there Pick.here)))) ?_ | refine Sel.snoc (Pick.there (Pick.there (Pick.there (Pick.there (Pick.there Pick.here))))) ?_ | refine Sel.snoc (Pick.there (Pick.there (Pick.there (Pick.there (Pick.there (Pick.there Pick.here)))))) ?_ | refine Sel.snoc (Pick.there (Pick.there (Pick.there (Pick.there (Pick.there (Pick.there (Pick.there Pick.here))))))) ?_ | refine Sel.snoc (Pick.there (Pick.there (Pick.there (Pick.there (Pick.there (Pick.there (Pick.there (Pick.there Pick.here)))))))) ?_ | refine Sel.snoc (Pick.there (Pick.there (Pick.there (Pick.there (Pick.there (Pick.there (Pick.there (Pick.there (Pick.there Pick.here))))))))) ?_ | refine Sel.snoc (Pick.there (Pick.there (Pick.there (Pick.there (Pick.there (Pick.there (Pick.there (Pick.there (Pick.there (Pick.there Pick.here)))))))))) ?_ | refine Sel.snoc (Pick.there (Pick.there (Pick.there (Pick.there (Pick.there (Pick.there (Pick.there (Pick.there (Pick.there (Pick.there (Pick.there Pick.here))))))))))) ?_ | refine Sel.drop ?_)), by (first | (simp only [addL_eq, addL_rec]; omega) | omega | exact Nat.le_refl _), 0, none, by omega, by omega, rfl, rfl, rfl, rfl⟩ ?_
  rintro _ _ _ _ _ ⟨i, a1, hi, rfl, rfl, rfl, rfl, rfl⟩
  by_cases hil : i < W * H
  · have d1 : iLt (Int.ofNat i) (Int.ofNat (W * H)) = true := iltn hil
    have hDi := hD i
    have hdi := hd i
    have hzi := hzb i
    have eo : wr .i64 (Int.add o 1) = o + 1 := sm (n := o + 1) (by omega)
    have hnz : wr .i64 (Int.add o 1) ≠ 0 := by rw [eo]; omega
    have ev : Int.tmod (wr .i64 (Int.add (wr .i64 (Int.add (ng i) (Int.tmod (wr .i64 (zs.getD i 0)) (wr .i64 (Int.add o 1))))) 3600)) 3600 = fO dl ng i := by
      have e1 : Int.tmod (wr .i64 (zs.getD i 0)) (wr .i64 (Int.add o 1)) = dl i := by rw [eo, show wr .i64 (zs.getD i 0) = zs.getD i 0 from sm (n := zs.getD i 0) (by omega), hdl]
      rw [e1, show wr .i64 (Int.add (ng i) (dl i)) = ng i + dl i from sm (n := ng i + dl i) (by omega), show wr .i64 (Int.add (ng i + dl i) 3600) = ng i + dl i + 3600 from sm (n := ng i + dl i + 3600) (by omega)]
      exact Int.tmod_eq_emod_of_nonneg (by omega)
    have hg1 := grow1 (n := i) (f := fun j => [i64 (fO dl ng j)]) (v := .int .i64 (Int.tmod (wr .i64 (Int.add (wr .i64 (Int.add (ng i) (Int.tmod (wr .i64 (zs.getD i 0)) (wr .i64 (Int.add o 1))))) 3600)) 3600)) (by rw [ev])
    repeat' ((conv => whnf); first
             | refine eqS_rfl ?_
             | refine eqA_rfl ?_
             | refine eqA_of (by assumption) ?_
             | refine eqS_of (by rfl) ?_
             | refine eqL_rfl ?_
             | refine eqJ_rfl ?_
             | refine flE_intro (fun _ _ => rfl) ?_
             | refine seS_rfl ?_
             | refine brS_tt ?_
             | refine brS_ff ?_
             | refine brS_not ?_
             | refine brS_t (iEq_self _) ?_
             | refine brS_t (by assumption) ?_
             | refine brS_f (by assumption) ?_
             | refine brS_intro (fun _ => ?_) (fun _ => ?_)
             | refine ltS_intro (by first | assumption | decide | exact Nat.le_of_ble_eq_true rfl | omega) ?_
             | refine ixS_of rfl (by first | assumption | decide | omega) ?_
             | refine okS_intro (by first | assumption | kernel_rfl) ?_
             | refine nzS_intro (by first | decide | assumption) ?_
             | refine nthS_at (i := i) (by show 0 + i * 1 = i; omega) (hz8 i (by omega)) ?_
             | refine ltS_intro (by have := lt_of_iLt ‹iLt (Int.ofNat _) (Int.ofNat _) = true›; omega) ?_
             | refine ixS_of rfl (by have := lt_of_iLt ‹iLt (Int.ofNat _) (Int.ofNat _) = true›; omega) ?_
             | refine ixS_of (q := i) (n := 36) rfl (by omega) ?_
             | refine ltS_intro (show i * 1 + 1 < 32769 by omega) ?_
             | intro _)
    conv => whnf
    exact ⟨W * H - (i + 1) + 1, [(7, .ptr 3 b7 0), (8, .ptr 4 b8 0), (9, .ptr 5 b9 0), (5, .ptr 2 b5 0), (32, .sl 700 a0 (W * H) (W * H)), (33, .int .i64 (Int.ofNat (W * H))), (34, .int .i64 (Int.ofNat (i + 1)))], [(5, .own b9 24 [i64 W, i64 H, i64 0, .sl 701 _ (i + 1) (i + 1)]), (4, .own b8 35 [i64 x, i64 y, i64 w, i64 h]), (3, .own b7 24 [i64 W, i64 H, i64 o, .sl 700 a0 (W * H) (W * H)]), (2, .own b5 67 [.int .i8 x7, .int .i8 x8, .int .i8 x9, .int .i8 x10, .int .i8 x11, .int .i8 x12, .int .i8 x13, .int .i8 x14, .int .i8 x15, .int .i8 x16, .int .i8 x17, .int .i8 x18, .int .i8 x19, .int .i8 x20, .int .i8 x21, .int .i8 x22, .int .i8 x23, .int .i8 x24, .int .i8 x25, .int .i8 x26, .int .i8 x27, .int .i8 x28, .int .i8 x29, .int .i8 x30, .int .i8 x31, .int .i8 x32, .int .i8 x33, .int .i8 x34, .int .i8 x35, .int .i8 x36, .int .i8 x37, .int .i8 x38, .int .i8 x39, .int .i8 x40, .int .i8 x41, .int .i8 x42]), (700, .gr a0 (W * H) 3 1 fun j => [i64 (ng j)]), (701, .gr _ (i + 1) 3 1 fun j => [i64 (fO dl ng j)])], addL (R + 600000 + 100 * (W * H - (i + 1))) 100, 100, by omega, ⟨eqF_rfl _, eqF_rfl _, eqF_rfl _, eqF_rfl _, eqF_rfl _, eqF_rfl _, ⟨congrArg (Value.int .i64) (wr_nat (i := i + 1) (by omega)), rfl⟩, trivial⟩, (by refine Sel.wk ?_; (try simp only [List.cons_append, List.nil_append]); repeat' (first | exact Sel.nil | exact Sel.all | exact Sel.left | refine Sel.cons Pick.here ?_ | refine Sel.cons (Pick.there Pick.here) ?_ | refine Sel.cons (Pick.there (Pick.there Pick.here)) ?_ | refine Sel.cons (Pick.there (Pick.there (Pick.there Pick.here))) ?_ | refine Sel.cons (Pick.there (Pick.there (Pick.there (Pick.there Pick.here)))) ?_ | refine Sel.cons (Pick.there (Pick.there (Pick.there (Pick.there (Pick.there Pick.here))))) ?_ | refine Sel.cons (Pick.there (Pick.there (Pick.there (Pick.there (Pick.there (Pick.there Pick.here)))))) ?_ | refine Sel.cons (Pick.there (Pick.there (Pick.there (Pick.there (Pick.there (Pick.there (Pick.there Pick.here))))))) ?_ | refine Sel.cons (Pick.there (Pick.there (Pick.there (Pick.there (Pick.there (Pick.there (Pick.there (Pick.there Pick.here)))))))) ?_ | refine Sel.cons (Pick.there (Pick.there (Pick.there (Pick.there (Pick.there (Pick.there (Pick.there (Pick.there (Pick.there Pick.here))))))))) ?_ | refine Sel.cons (Pick.there (Pick.there (Pick.there (Pick.there (Pick.there (Pick.there (Pick.there (Pick.there (Pick.there (Pick.there Pick.here)))))))))) ?_ | refine Sel.cons (Pick.there (Pick.there (Pick.there (Pick.there (Pick.there (Pick.there (Pick.there (Pick.there (Pick.there (Pick.there (Pick.there Pick.here))))))))))) ?_ | refine Sel.consw Pick.here ⟨rfl, rfl, rfl⟩ ?_ | refine Sel.consw (Pick.there Pick.here) ⟨rfl, rfl, rfl⟩ ?_ | refine Sel.consw (Pick.there (Pick.there Pick.here)) ⟨rfl, rfl, rfl⟩ ?_ | refine Sel.consw (Pick.there (Pick.there (Pick.there Pick.here))) ⟨rfl, rfl, rfl⟩ ?_ | refine Sel.consw (Pick.there (Pick.there (Pick.there (Pick.there Pick.here)))) ⟨rfl, rfl, rfl⟩ ?_ | refine Sel.consw (Pick.there (Pick.there (Pick.there (Pick.there (Pick.there Pick.here))))) ⟨rfl, rfl, rfl⟩ ?_ | refine Sel.consw (Pick.there (Pick.there (Pick.there (Pick.there (Pick.there (Pick.there Pick.here)))))) ⟨rfl, rfl, rfl⟩ ?_ | refine Sel.consw (Pick.there (Pick.there (Pick.there (Pick.there (Pick.there (Pick.there (Pick.there Pick.here))))))) ⟨rfl, rfl, rfl⟩ ?_ | refine Sel.consw (Pick.there (Pick.there (Pick.there (Pick.there (Pick.there (Pick.there (Pick.there (Pick.there Pick.here)))))))) ⟨rfl, rfl, rfl⟩ ?_ | refine Sel.consw (Pick.there (Pick.there (Pick.there (Pick.there (Pick.there (Pick.there (Pick.there (Pick.there (Pick.there Pick.here))))))))) ⟨rfl, rfl, rfl⟩ ?_ | refine Sel.consw (Pick.there (Pick.there (Pick.there (Pick.there (Pick.there (Pick.there (Pick.there (Pick.there (Pick.there (Pick.there Pick.here)))))))))) ⟨rfl, rfl, rfl⟩ ?_ | refine Sel.consw (Pick.there (Pick.there (Pick.there (Pick.there (Pick.there (Pick.there (Pick.there (Pick.there (Pick.there (Pick.there (Pick.there Pick.here))))))))))) ⟨rfl, rfl, rfl⟩ ?_ | refine Sel.consw Pick.here ⟨rfl, rfl, rfl, rfl, by assumption⟩ ?_ | refine Sel.consw (Pick.there Pick.here) ⟨rfl, rfl, rfl, rfl, by assumption⟩ ?_ | refine Sel.consw (Pick.there (Pick.there Pick.here)) ⟨rfl, rfl, rfl, rfl, by assumption⟩ ?_ | refine Sel.consw (Pick.there (Pick.there (Pick.there Pick.here))) ⟨rfl, rfl, rfl, rfl, by assumption⟩ ?_ | refine Sel.consw (Pick.there (Pick.there (Pick.there (Pick.there Pick.here)))) ⟨rfl, rfl, rfl, rfl, by assumption⟩ ?_ | refine Sel.consw (Pick.there (Pick.there (Pick.there (Pick.there (Pick.there Pick.here))))) ⟨rfl, rfl, rfl, rfl, by assumption⟩ ?_ | refine Sel.consw (Pick.there (Pick.there (Pick.there (Pick.there (Pick.there (Pick.there Pick.here)))))) ⟨rfl, rfl, rfl, rfl, by assumption⟩ ?_ | refine Sel.consw (Pick.there (Pick.there (Pick.there (Pick.there (Pick.there (Pick.there (Pick.there Pick.here))))))) ⟨rfl, rfl, rfl, rfl, by assumption⟩ ?_ | refine Sel.consw (Pick.there (Pick.there (Pick.there (Pick.there (Pick.there (Pick.there (Pick.there (Pick.there Pick.here)))))))) ⟨rfl, rfl, rfl, rfl, by assumption⟩ ?_ | refine Sel.consw (Pick.there (Pick.there (Pick.there (Pick.there (Pick.there (Pick.there (Pick.there (Pick.there (Pick.there Pick.here))))))))) ⟨rfl, rfl, rfl, rfl, by assumption⟩ ?_ | refine Sel.consw (Pick.there (Pick.there (Pick.there (Pick.there (Pick.there (Pick.there (Pick.there (Pick.there (Pick.there (Pick.there Pick.here)))))))))) ⟨rfl, rfl, rfl, rfl, by assumption⟩ ?_ | refine Sel.consw (Pick.there (Pick.there (Pick.there (Pick.there (Pick.there (Pick.there (Pick.there (Pick.there (Pick.there (Pick.there (Pick.there Pick.here))))))))))) ⟨rfl, rfl, rfl, rfl, by assumption⟩ ?_ | refine Sel.snoc Pick.here ?_ | refine Sel.snoc (Pick.there Pick.here) ?_ | refine Sel.snoc (Pick.there (Pick.there Pick.here)) ?_ | refine Sel.snoc (Pick.there (Pick.there (Pick.there Pick.here))) ?_ | refine Sel.snoc (Pick.there (Pick.there (Pick.there (Pick.there Pick.here)))) ?_ | refine Sel.snoc (Pick.there (Pick.there (Pick.there (Pick.there (Pick.there Pick.here))))) ?_ | refine Sel.snoc (Pick.there (Pick.there (Pick.there (Pick.there (Pick.there (Pick.there Pick.here)))))) ?_ | refine Sel.snoc (Pick.there (Pick.there (Pick.there (Pick.there (Pick.there (Pick.there (Pick.there Pick.here))))))) ?_ | refine Sel.snoc (Pick.there (Pick.there (Pick.there (Pick.there (Pick.there (Pick.there (Pick.there (Pick.there Pick.here)))))))) ?_ | refine Sel.snoc (Pick.there (Pick.there (Pick.there (Pick.there (Pick.there (Pick.there (Pick.there (Pick.there (Pick.there Pick.here))))))))) ?_ | refine Sel.snoc (Pick.there (Pick.there (Pick.there (Pick.there (Pick.there (Pick.there (Pick.there (Pick.there (Pick.there (Pick.there Pick.here)))))))))) ?_ | refine Sel.snoc (Pick.there (Pick.there (Pick.there (Pick.there (Pick.there (Pick.there (Pick.there (Pick.there (Pick.there (Pick.there (Pick.there Pick.here))))))))))) ?_ | refine Sel.drop ?_)), by (first | (simp only [addL_eq, addL_rec]; omega) | omega | exact Nat.le_refl _), i + 1, _, by omega, rfl, rfl, rfl, rfl, rfl⟩
  · have d1 : iLt (Int.ofNat i) (Int.ofNat (W * H)) = false := iltf hil
    have e : i = W * H := by omega
    subst e
    repeat' ((conv => whnf); first
             | refine eqS_rfl ?_
             | refine eqA_rfl ?_
             | refine eqA_of (by assumption) ?_
             | refine eqS_of (by rfl) ?_
             | refine eqL_rfl ?_
             | refine eqJ_rfl ?_
             | refine flE_intro (fun _ _ => rfl) ?_
             | refine seS_rfl ?_
             | refine brS_tt ?_
             | refine brS_ff ?_
             | refine brS_not ?_
             | refine brS_t (iEq_self _) ?_
             | refine brS_t (by assumption) ?_
             | refine brS_f (by assumption) ?_
             | refine brS_intro (fun _ => ?_) (fun _ => ?_)
             | refine ltS_intro (by first | assumption | decide | exact Nat.le_of_ble_eq_true rfl | omega) ?_
             | refine ixS_of rfl (by first | assumption | decide | omega) ?_
             | refine okS_intro (by first | assumption | kernel_rfl) ?_
             | refine nzS_intro (by first | decide | assumption) ?_
             | refine call_readL (i1 a0) (addL (500000 + R) 90) (by rfl) (by exact SeesM.cons 1000 (sees_gr (i := 700) (by rfl)) (SeesM.nil _) (fun _ _ _ _ _ _ x hx => by cases hx)) (by (first | (simp only [addL_eq, addL_rec]; omega) | omega | exact Nat.le_refl _)) ?_
             | refine call_readL (i2 a1) (addL (420000 + R) 80) (by rfl) (by exact SeesM.cons 1000 (sees_gr (i := 701) (by rfl)) (SeesM.nil _) (fun _ _ _ _ _ _ x hx => by cases hx)) (by (first | (simp only [addL_eq, addL_rec]; omega) | omega | exact Nat.le_refl _)) ?_
             | refine call22 (k1 a0) (addL (230000 + R) 70) (by rfl) (by exact SeesM.cons 1000 (sees_gr (i := 700) (by rfl)) (SeesM.nil _) (fun _ _ _ _ _ _ x hx => by cases hx)) (by (first | (simp only [addL_eq, addL_rec]; omega) | omega | exact Nat.le_refl _)) ?_
             | refine call22 (k2 a1) (addL (40000 + R) 60) (by rfl) (by exact SeesM.cons 1000 (sees_gr (i := 701) (by rfl)) (SeesM.nil _) (fun _ _ _ _ _ _ x hx => by cases hx)) (by (first | (simp only [addL_eq, addL_rec]; omega) | omega | exact Nat.le_refl _)) ?_
             | intro _)
    rename_i a2 a3 a4 a5
    conv => whnf
    refine loS_i (fun jj f mm R' ni => ∃ i : Nat, i ≤ L.length ∧ jj = L.length - i + 1 ∧ f = [(16, .sl 600 a2 L.length L.length), (17, .sl 601 a3 L.length L.length), (19, .sl 602 a4 L.length L.length), (20, .sl 603 a5 L.length L.length), (122, .int .i64 (Int.ofNat L.length)), (123, .int .i64 (Int.ofNat i))] ∧ mm = [(600, .gr a2 L.length 35 4 (fC (W - 1) L)), (601, .gr a3 L.length 3 1 (fX (grid ng W) (W - 1) L)), (602, .gr a4 L.length 35 4 (fC (W - 1) L)), (603, .gr a5 L.length 3 1 (fX (grid (fO dl ng) W) (W - 1) L))] ∧ R' = addL (R + 40 * (64 - i)) 40 ∧ ni = 900) (L.length + 1) (by omega)
      ⟨[(16, .sl 600 a2 L.length L.length), (17, .sl 601 a3 L.length L.length), (19, .sl 602 a4 L.length L.length), (20, .sl 603 a5 L.length L.length), (122, .int .i64 (Int.ofNat L.length)), (123, .int .i64 (Int.ofNat 0))], [(600, .gr a2 L.length 35 4 (fC (W - 1) L)), (601, .gr a3 L.length 3 1 (fX (grid ng W) (W - 1) L)), (602, .gr a4 L.length 35 4 (fC (W - 1) L)), (603, .gr a5 L.length 3 1 (fX (grid (fO dl ng) W) (W - 1) L))], addL (R + 40 * (64 - 0)) 40, 900, ⟨eqF_rfl _, eqF_rfl _, eqF_rfl _, eqF_rfl _, eqF_rfl _, eqF_rfl _, trivial⟩, (by refine Sel.wk ?_; (try simp only [List.cons_append, List.nil_append]); repeat' (first | exact Sel.nil | exact Sel.all | exact Sel.left | refine Sel.cons Pick.here ?_ | refine Sel.cons (Pick.there Pick.here) ?_ | refine Sel.cons (Pick.there (Pick.there Pick.here)) ?_ | refine Sel.cons (Pick.there (Pick.there (Pick.there Pick.here))) ?_ | refine Sel.cons (Pick.there (Pick.there (Pick.there (Pick.there Pick.here)))) ?_ | refine Sel.cons (Pick.there (Pick.there (Pick.there (Pick.there (Pick.there Pick.here))))) ?_ | refine Sel.cons (Pick.there (Pick.there (Pick.there (Pick.there (Pick.there (Pick.there Pick.here)))))) ?_ | refine Sel.cons (Pick.there (Pick.there (Pick.there (Pick.there (Pick.there (Pick.there (Pick.there Pick.here))))))) ?_ | refine Sel.cons (Pick.there (Pick.there (Pick.there (Pick.there (Pick.there (Pick.there (Pick.there (Pick.there Pick.here)))))))) ?_ | refine Sel.cons (Pick.there (Pick.there (Pick.there (Pick.there (Pick.there (Pick.there (Pick.there (Pick.there (Pick.there Pick.here))))))))) ?_ | refine Sel.cons (Pick.there (Pick.there (Pick.there (Pick.there (Pick.there (Pick.there (Pick.there (Pick.there (Pick.there (Pick.there Pick.here)))))))))) ?_ | refine Sel.cons (Pick.there (Pick.there (Pick.there (Pick.there (Pick.there (Pick.there (Pick.there (Pick.there (Pick.there (Pick.there (Pick.there Pick.here))))))))))) ?_ | refine Sel.consw Pick.here ⟨rfl, rfl, rfl⟩ ?_ | refine Sel.consw (Pick.there Pick.here) ⟨rfl, rfl, rfl⟩ ?_ | refine Sel.consw (Pick.there (Pick.there Pick.here)) ⟨rfl, rfl, rfl⟩ ?_ | refine Sel.consw (Pick.there (Pick.there (Pick.there Pick.here))) ⟨rfl, rfl, rfl⟩ ?_ | refine Sel.consw (Pick.there (Pick.there (Pick.there (Pick.there Pick.here)))) ⟨rfl, rfl, rfl⟩ ?_ | refine Sel.consw (Pick.there (Pick.there (Pick.there (Pick.there (Pick.there Pick.here))))) ⟨rfl, rfl, rfl⟩ ?_ | refine Sel.consw (Pick.there (Pick.there (Pick.there (Pick.there (Pick.there (Pick.there Pick.here)))))) ⟨rfl, rfl, rfl⟩ ?_ | refine Sel.consw (Pick.there (Pick.there (Pick.there (Pick.there (Pick.there (Pick.there (Pick.there Pick.here))))))) ⟨rfl, rfl, rfl⟩ ?_ | refine Sel.consw (Pick.there (Pick.there (Pick.there (Pick.there (Pick.there (Pick.there (Pick.there (Pick.there Pick.here)))))))) ⟨rfl, rfl, rfl⟩ ?_ | refine Sel.consw (Pick.there (Pick.there (Pick.there (Pick.there (Pick.there (Pick.there (Pick.there (Pick.there (Pick.there Pick.here))))))))) ⟨rfl, rfl, rfl⟩ ?_ | refine Sel.consw (Pick.there (Pick.there (Pick.there (Pick.there (Pick.there (Pick.there (Pick.there (Pick.there (Pick.there (Pick.there Pick.here)))))))))) ⟨rfl, rfl, rfl⟩ ?_ | refine Sel.consw (Pick.there (Pick.there (Pick.there (Pick.there (Pick.there (Pick.there (Pick.there (Pick.there (Pick.there (Pick.there (Pick.there Pick.here))))))))))) ⟨rfl, rfl, rfl⟩ ?_ | refine Sel.snoc Pick.here ?_ | refine Sel.snoc (Pick.there Pick.here) ?_ | refine Sel.snoc (Pick.there (Pick.there Pick.here)) ?_ | refine Sel.snoc (Pick.there (Pick.there (Pick.there Pick.here))) ?_ | refine Sel.snoc (Pick.there (Pick.there (Pick.there (Pick.there Pick.here)))) ?_ | refine Sel.snoc (Pick.there (Pick.there (Pick.there (Pick.there (Pick.there Pick.here))))) ?_ | refine Sel.snoc (Pick.there (Pick.there (Pick.there (Pick.there (Pick.there (Pick.there Pick.here)))))) ?_ | refine Sel.snoc (Pick.there (Pick.there (Pick.there (Pick.there (Pick.there (Pick.there (Pick.there Pick.here))))))) ?_ | refine Sel.snoc (Pick.there (Pick.there (Pick.there (Pick.there (Pick.there (Pick.there (Pick.there (Pick.there Pick.here)))))))) ?_ | refine Sel.snoc (Pick.there (Pick.there (Pick.there (Pick.there (Pick.there (Pick.there (Pick.there (Pick.there (Pick.there Pick.here))))))))) ?_ | refine Sel.snoc (Pick.there (Pick.there (Pick.there (Pick.there (Pick.there (Pick.there (Pick.there (Pick.there (Pick.there (Pick.there Pick.here)))))))))) ?_ | refine Sel.snoc (Pick.there (Pick.there (Pick.there (Pick.there (Pick.there (Pick.there (Pick.there (Pick.there (Pick.there (Pick.there (Pick.there Pick.here))))))))))) ?_ | refine Sel.drop ?_)), by (first | (simp only [addL_eq, addL_rec]; omega) | omega | exact Nat.le_refl _), 0, by omega, by omega, rfl, rfl, rfl, rfl⟩ ?_
    rintro _ _ _ _ _ ⟨i, hi, rfl, rfl, rfl, rfl, rfl⟩
    by_cases hil : i < L.length
    · have dil : iLt (Int.ofNat i) (Int.ofNat L.length) = true := iltn hil
      have heq : iEq (ixk (grid ng W) (W - 1) (L.getD i 0)) (ixk (grid (fO dl ng) W) (W - 1) (L.getD i 0)) = true := by rw [hsame i hil]; exact iEq_self _
      repeat' ((conv => whnf); first
               | refine eqS_rfl ?_
               | refine eqA_rfl ?_
               | refine eqA_of (by assumption) ?_
               | refine eqS_of (by rfl) ?_
               | refine eqL_rfl ?_
               | refine eqJ_rfl ?_
               | refine flE_intro (fun _ _ => rfl) ?_
               | refine seS_rfl ?_
               | refine brS_tt ?_
               | refine brS_ff ?_
               | refine brS_not ?_
               | refine brS_t (iEq_self _) ?_
               | refine brS_t (by assumption) ?_
               | refine brS_f (by assumption) ?_
               | refine brS_intro (fun _ => ?_) (fun _ => ?_)
               | refine ltS_intro (by first | assumption | decide | exact Nat.le_of_ble_eq_true rfl | omega) ?_
               | refine ixS_of rfl (by first | assumption | decide | omega) ?_
               | refine okS_intro (by first | assumption | kernel_rfl) ?_
               | refine nzS_intro (by first | decide | assumption) ?_
               | refine ltS_intro (by have := lt_of_iLt ‹iLt (Int.ofNat _) (Int.ofNat _) = true›; omega) ?_
               | refine ixS_of rfl (by have := lt_of_iLt ‹iLt (Int.ofNat _) (Int.ofNat _) = true›; omega) ?_
               | refine agS.mk (by kernel_rfl) ?_
               | refine eqvS_of (eq35t rfl rfl rfl rfl) ?_
               | intro _)
      conv => whnf
      exact ⟨L.length - (i + 1) + 1, [(16, .sl 600 a2 L.length L.length), (17, .sl 601 a3 L.length L.length), (19, .sl 602 a4 L.length L.length), (20, .sl 603 a5 L.length L.length), (122, .int .i64 (Int.ofNat L.length)), (123, .int .i64 (Int.ofNat (i + 1)))], _, addL (R + 40 * (64 - (i + 1))) 40, 900, by omega, ⟨eqF_rfl _, eqF_rfl _, eqF_rfl _, eqF_rfl _, eqF_rfl _, ⟨congrArg (Value.int .i64) (wr_nat (i := i + 1) (by omega)), rfl⟩, trivial⟩, WkM.refl _, by (first | (simp only [addL_eq, addL_rec]; omega) | omega | exact Nat.le_refl _), i + 1, by omega, rfl, rfl, rfl, rfl, rfl⟩
    · have dil : iLt (Int.ofNat i) (Int.ofNat L.length) = false := iltf hil
      repeat' ((conv => whnf); first
               | refine eqS_rfl ?_
               | refine eqA_rfl ?_
               | refine eqA_of (by assumption) ?_
               | refine eqS_of (by rfl) ?_
               | refine eqL_rfl ?_
               | refine eqJ_rfl ?_
               | refine flE_intro (fun _ _ => rfl) ?_
               | refine seS_rfl ?_
               | refine brS_tt ?_
               | refine brS_ff ?_
               | refine brS_not ?_
               | refine brS_t (iEq_self _) ?_
               | refine brS_t (by assumption) ?_
               | refine brS_f (by assumption) ?_
               | refine brS_intro (fun _ => ?_) (fun _ => ?_)
               | refine ltS_intro (by first | assumption | decide | exact Nat.le_of_ble_eq_true rfl | omega) ?_
               | refine ixS_of rfl (by first | assumption | decide | omega) ?_
               | refine okS_intro (by first | assumption | kernel_rfl) ?_
               | refine nzS_intro (by first | decide | assumption) ?_
               | refine call_w rfl ?_
               | intro _)
      conv => whnf
      exact ⟨rfl, by (first | (simp only [addL_eq, addL_rec]; omega) | omega | exact Nat.le_refl _)⟩
end Go.Proofs.Ytbpdmbgkoijfbaa
