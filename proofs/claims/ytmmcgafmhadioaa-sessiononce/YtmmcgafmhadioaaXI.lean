/- For the laws of layer 9: two boxes that a statement makes and fills. (Made by mk9l.py.) -/
import Derived.Test.YtmmcgafmhadioaaXG
import Derived.Test.YtmmcgafmhadioaaXH
import Derived.Test.YtmmcgafmhadioaaSQ
import Derived.Deep.Cut
import Derived.Deep.RegionHeld3
section
set_option linter.unusedVariables false
set_option linter.unusedSimpArgs false
namespace Go.Proofs.Ytmmcgafmhadioaa
open Go.RowKit Oct Kvl

theorem alloc_size (w : World) (o : Obj) : (w.alloc o).heap.size = w.heap.size + 1 := by simp
theorem drew_size (w : World) : w.drew.heap.size = w.heap.size := rfl
theorem bel_al {w u : World} {o : Obj} (h : Below w.heap.size w u) : Below w.heap.size w (u.alloc o) := below_and h (Nat.le_refl _) (below_alloc _ _)
theorem bel_ch {w u z : World} (h : Below w.heap.size w u) (h' : Below u.heap.size u z) : Below w.heap.size w z := below_and h (Nat.le_refl _) h'
theorem bel_st {w u : World} {b j : Nat} {x : Value} (h : Below w.heap.size w u) (hb : w.heap.size ≤ b) : Below w.heap.size w (u.setCell ⟨b, j, none⟩ x) :=
  h.trans (grown_below (grown_set u b j x) h.size (fun k hk => by cases hk; exact hb))
theorem bel_set1 {B b j : Nat} {w u : World} {x : Value} (h : Below B w u) (hw : B ≤ w.heap.size) (hb : B ≤ b) : Below B w (u.setCell ⟨b, j, none⟩ x) :=
  h.trans (grown_below (grown_set u b j x) (Nat.le_trans hw h.size) (fun k hk => by cases hk; exact hb))
theorem ses_rng (G : Nat → Prop) (w : World) (r : List Value) (a : PEnt) (h : RSes G w r a) : RSes (fun k => G k ∧ k < w.heap.size) w r a := by
  obtain ⟨c, d, k, x, l, e, h1, h2⟩ := h
  exact ⟨c, d, k, x, l, e, rt_rng h1, h2⟩
/-- Two boxes are filled: what lies elsewhere stays. -/
structure Fin2 (w5 Z : World) (bA bB : Nat) (r : List Value) (s : List Value) : Prop where
  a : Row Z bA 31 r
  b : Row Z bB 24 s
  size : w5.heap.size ≤ Z.heap.size
  block : ∀ k, k < w5.heap.size → k ≠ bA → k ≠ bB → Z.heap[k]? = w5.heap[k]?
  os : Z.os = w5.os
  tape : Z.tape = w5.tape
  output : Z.output = w5.output
theorem Fin2.of {w5 z1 Z : World} {bA bB : Nat} {r s : List Value} (a : Row Z bA 31 r) (b : Row Z bB 24 s) {p q : Nat} (g1 : w5.grownBy z1 (some p)) (g2 : z1.grownBy Z (some q)) (h : (p = bA ∧ q = bB) ∨ (p = bB ∧ q = bA)) : Fin2 w5 Z bA bB r s :=
  ⟨a, b, Nat.le_trans g1.size g2.size, fun k hk h1 h2 => (g2.block k (Nat.lt_of_lt_of_le hk g1.size) (fun e => by injection e with e; omega)).trans (g1.block k hk (fun e => by injection e with e; omega)), g2.os.trans g1.os, g2.tape.trans g1.tape, g2.output.trans g1.output⟩
theorem Fin2.bel {w w5 Z : World} {bA bB B : Nat} {r s : List Value} (h : Fin2 w5 Z bA bB r s) (hb : Below B w w5) (hB : B ≤ w.heap.size) (h1 : B ≤ bA) (h2 : B ≤ bB) : Below B w Z :=
  ⟨h.os.trans hb.os, h.tape.trans hb.tape, h.output.trans hb.output, Nat.le_trans hb.size h.size, fun k hk => (h.block k (Nat.lt_of_lt_of_le (Nat.lt_of_lt_of_le hk hB) hb.size) (by omega) (by omega)).trans (hb.block k hk)⟩
theorem Fin2.ra {w5 Z : World} {bA bB : Nat} {r s row : List Value} {a : PApp} (F : Fin2 w5 Z bA bB r s) {u v : Nat} (h : RApp (Rng u v) Z row a) (hA : bA < u ∨ v ≤ bA) : RApp (fun k => k ≠ bA) Z row a := mov_app _ _ _ _ _ _ h (Nat.le_refl _) (fun k hk _ => ⟨rfl, fun e => by obtain ⟨h1, h2⟩ := hk; omega⟩)
theorem Fin2.rt {w5 Z : World} {bA bB : Nat} {r s : List Value} {x : Value} {l : List Int} (F : Fin2 w5 Z bA bB r s) {u v : Nat} (h : RT (Rng u v) Z x l) (hA : bA < u ∨ v ≤ bA) : RT (fun k => k ≠ bA) Z x l := h.mv (fun k hk _ => ⟨rfl, fun e => by obtain ⟨h1, h2⟩ := hk; omega⟩)
theorem Fin2.ras {w5 Z : World} {bA bB : Nat} {r s row : List Value} {a : PApp} (F : Fin2 w5 Z bA bB r s) {u v N : Nat} (h : RApp (Rng u v) Z row a) (hA : (bA < u ∨ v ≤ bA) ∧ N ≤ u) : RApp (fun k => k ≠ bA ∧ N ≤ k) Z row a := mov_app _ _ _ _ _ _ h (Nat.le_refl _) (fun k hk _ => ⟨rfl, fun e => by obtain ⟨h1, h2⟩ := hk; omega, by obtain ⟨h1, h2⟩ := hk; omega⟩)
theorem Fin2.rts {w5 Z : World} {bA bB : Nat} {r s : List Value} {x : Value} {l : List Int} (F : Fin2 w5 Z bA bB r s) {u v N : Nat} (h : RT (Rng u v) Z x l) (hA : (bA < u ∨ v ≤ bA) ∧ N ≤ u) : RT (fun k => k ≠ bA ∧ N ≤ k) Z x l := h.mv (fun k hk _ => ⟨rfl, fun e => by obtain ⟨h1, h2⟩ := hk; omega, by obtain ⟨h1, h2⟩ := hk; omega⟩)
section
variable {w5 : World} {v0 v1 v2 v3 c v : Value}
theorem g4 (u : World) (b : Nat) : u.grownBy ((((u.setCell ⟨b, 0, none⟩ v0).setCell ⟨b, 1, none⟩ v1).setCell ⟨b, 2, none⟩ v2).setCell ⟨b, 3, none⟩ v3) (some b) := grown_trans (grown_trans (grown_trans (grown_set u b 0 v0) (grown_set _ b 1 v1) (.inl rfl)) (grown_set _ b 2 v2) (.inl rfl)) (grown_set _ b 3 v3) (.inl rfl)
theorem g2 (u : World) (b : Nat) : u.grownBy ((u.setCell ⟨b, 0, none⟩ c).setCell ⟨b, 1, none⟩ v) (some b) := grown_trans (grown_set u b 0 c) (grown_set _ b 1 v) (.inl rfl)
theorem ne_of {b b' : Nat} (h : b ≠ b') : some b ≠ some b' := fun e => h (by injection e)
/-- Both were there. -/
theorem fin_bb {bA bB : Nat} {xs ys : List Value} (hx : xs.length = 4) (hy : ys.length = 2) (qA : Row w5 bA 31 xs) (qB : Row w5 bB 24 ys) :
    ∃ Z, Z = (((((w5.setCell ⟨bA, 0, none⟩ v0).setCell ⟨bA, 1, none⟩ v1).setCell ⟨bA, 2, none⟩ v2).setCell ⟨bA, 3, none⟩ v3).setCell ⟨bB, 0, none⟩ c).setCell ⟨bB, 1, none⟩ v ∧ Fin2 w5 Z bA bB [v0, v1, v2, v3] [c, v] := by
  have hne : bA ≠ bB := Row.apart qA qB (by decide)
  obtain ⟨x0, x1, x2, x3, rfl⟩ : ∃ x0 x1 x2 x3, xs = [x0, x1, x2, x3] := by match xs, hx with | [a, b, c, d], _ => exact ⟨a, b, c, d, rfl⟩
  obtain ⟨y0, y1, rfl⟩ : ∃ y0 y1, ys = [y0, y1] := by match ys, hy with | [a, b], _ => exact ⟨a, b, rfl⟩
  have r1 := (((qA.set 0 v0).set 1 v1).set 2 v2).set 3 v3
  have h1 := g4 (v0 := v0) (v1 := v1) (v2 := v2) (v3 := v3) w5 bA
  have r2 := qB.grown h1 (ne_of hne)
  have h2 := g2 (c := c) (v := v) ((((w5.setCell ⟨bA, 0, none⟩ v0).setCell ⟨bA, 1, none⟩ v1).setCell ⟨bA, 2, none⟩ v2).setCell ⟨bA, 3, none⟩ v3) bB
  exact ⟨_, rfl, Fin2.of (r1.grown h2 (ne_of (Ne.symm hne))) ((r2.set 0 c).set 1 v) h1 h2 (.inl ⟨rfl, rfl⟩)⟩
/-- The state's was there, the result's is new. -/
theorem fin_bn {bA : Nat} {xs : List Value} {y0 y1 : Value} (hx : xs.length = 4) (qA : Row w5 bA 31 xs) :
    ∃ Z, Z = ((((((w5.alloc (.cells #[y0, y1] 24)).setCell ⟨bA, 0, none⟩ v0).setCell ⟨bA, 1, none⟩ v1).setCell ⟨bA, 2, none⟩ v2).setCell ⟨bA, 3, none⟩ v3).setCell ⟨w5.heap.size, 0, none⟩ c).setCell ⟨w5.heap.size, 1, none⟩ v ∧ Fin2 w5 Z bA w5.heap.size [v0, v1, v2, v3] [c, v] := by
  have hlt := qA.lt
  have n := Row.new w5 24 [y0, y1]
  obtain ⟨Z, hZ, F⟩ := fin_bb (v0 := v0) (v1 := v1) (v2 := v2) (v3 := v3) (c := c) (v := v) hx rfl (qA.below (below_alloc w5 (.cells #[y0, y1] 24))) n
  have hb := below_alloc w5 (.cells #[y0, y1] 24)
  exact ⟨Z, hZ, F.a, F.b, Nat.le_trans hb.size F.size, fun k hk h1 h2 => (F.block k (Nat.lt_of_lt_of_le hk hb.size) h1 h2).trans (hb.block k hk), F.os.trans hb.os, F.tape.trans hb.tape, F.output.trans hb.output⟩
/-- The result's was there, the state's is new. -/
theorem fin_nb {bB : Nat} {ys : List Value} (hy : ys.length = 2) (qB : Row w5 bB 24 ys) :
    ∃ Z, Z = ((w5.alloc (.cells #[v0, v1, v2, v3] 31)).setCell ⟨bB, 0, none⟩ c).setCell ⟨bB, 1, none⟩ v ∧ Fin2 w5 Z w5.heap.size bB [v0, v1, v2, v3] [c, v] := by
  obtain ⟨y0, y1, rfl⟩ : ∃ y0 y1, ys = [y0, y1] := by match ys, hy with | [a, b], _ => exact ⟨a, b, rfl⟩
  have hlt := qB.lt
  have n := Row.new w5 31 [v0, v1, v2, v3]
  have h1 : w5.grownBy (w5.alloc (.cells #[v0, v1, v2, v3] 31)) (some w5.heap.size) := grown_of_below (below_alloc _ _) _
  have r1 := ((qB.below (below_alloc w5 (.cells #[v0, v1, v2, v3] 31))).set 0 c).set 1 v
  have h2 := g2 (c := c) (v := v) (w5.alloc (.cells #[v0, v1, v2, v3] 31)) bB
  exact ⟨_, rfl, Fin2.of (n.grown h2 (ne_of (Nat.ne_of_lt hlt))) r1 h1 h2 (.inl ⟨rfl, rfl⟩)⟩
/-- Both are new. -/
theorem fin_nn : ∃ Z, Z = (w5.alloc (.cells #[v0, v1, v2, v3] 31)).alloc (.cells #[c, v] 24) ∧ Fin2 w5 Z w5.heap.size (w5.heap.size + 1) [v0, v1, v2, v3] [c, v] := by
  have n := Row.new w5 31 [v0, v1, v2, v3]
  have m := Row.new (w5.alloc (.cells #[v0, v1, v2, v3] 31)) 24 [c, v]
  rw [alloc_size] at m
  exact ⟨_, rfl, Fin2.of (rowA n _) m (grown_of_below (below_alloc _ _) (some w5.heap.size)) (grown_of_below (below_alloc _ _) (some (w5.heap.size + 1))) (.inl ⟨rfl, rfl⟩)⟩
theorem fin_nn' : ∃ Z, Z = (w5.alloc (.cells #[c, v] 24)).alloc (.cells #[v0, v1, v2, v3] 31) ∧ Fin2 w5 Z (w5.heap.size + 1) w5.heap.size [v0, v1, v2, v3] [c, v] := by
  have n := Row.new w5 24 [c, v]
  have m := Row.new (w5.alloc (.cells #[c, v] 24)) 31 [v0, v1, v2, v3]
  rw [alloc_size] at m
  exact ⟨_, rfl, Fin2.of m (rowA n _) (grown_of_below (below_alloc _ _) (some w5.heap.size)) (grown_of_below (below_alloc _ _) (some (w5.heap.size + 1))) (.inr ⟨rfl, rfl⟩)⟩
end
end Go.Proofs.Ytmmcgafmhadioaa
end
