/- catenarylaw09.SessionApplies: its walk. (Made by mk9p.py.) -/
import Derived.Test.YtejkkhlblnepeaaGreatXF
import Derived.Test.YtejkkhlblnepeaaGreatKm
import Derived.Test.YtejkkhlblnepeaaGreatKr
import Derived.Test.YtejkkhlblnepeaaGreatXH
import Derived.Test.YtejkkhlblnepeaaGreatSQ
import Derived.Deep.Cut
import Derived.Deep.RegionHeld3
import Derived.Test.YtejkkhlblnepeaaGreatKw
import Derived.Laws.BitsAllLaws
import Derived.Test.YtejkkhlblnepeaaGreatRY
import Derived.Sort.AtCall
section
set_option linter.unusedVariables false
set_option linter.unusedSimpArgs false
namespace Go.Proofs.YtejkkhlblnepeaaGreat
open Go.RowKit Oct Kvl

theorem aliveW : outW (2, [97], [53], [], 0) = [2, 1, 97, 1, 53, 0, 0] ∧ errW (2, [97], [53], [], 0) = 0 := by decide
theorem aliveA1 : applyA (0, [], [], []) (1, 1, [2, 1, 97, 1, 53, 0, 0], []) = ((1, [([97], [53])], [], [([1], [1, 0])]), (0, []), true) := by kernel_rfl
theorem aliveA2 : applyA (1, [([97], [53])], [], [([1], [1, 0])]) (1, 1, [2, 1, 97, 1, 53, 0, 0], []) = ((2, [([97], [53])], [], [([1], [1, 0])]), (0, []), false) := by kernel_rfl
theorem zeroApp (w : World) : RApp Any w [.int .i64 0, .slice none 0 0, .slice none 0 0, .slice none 0 0] (0, [], [], []) := ⟨_, _, _, rfl, RL.nil _ _ _ _, RL.nil _ _ _ _, RL.nil _ _ _ _⟩
theorem zeroSz : szA (0, [], [], []) := ⟨⟨by simp, fun y hy => by cases hy⟩, ⟨by simp, fun y hy => by cases hy⟩, ⟨by simp, fun y hy => by cases hy⟩⟩
theorem rgt_sz {a : PApp} (h : rgtA a) : szA a := by
  obtain ⟨_, h1, h2, h3⟩ := h
  refine ⟨⟨by have := h1.1; omega, fun y hy => ?_⟩, ⟨by have := h2.1; omega, fun y hy => ?_⟩, ⟨by have := rgn_len h3; omega, fun y hy => ?_⟩⟩
  · obtain ⟨a1, a2, a3⟩ := h1.2.2 y hy
    exact ⟨by unfold szT; omega, by unfold szT; omega⟩
  · obtain ⟨a1, a2, a3⟩ := h2.2.2 y hy
    show y.1.length ≤ _
    omega
  · obtain ⟨a1, a2, a3, a4⟩ := chk_all h3 y hy
    show (sv y).length ≤ _
    omega
theorem two_new (w4 : World) (T U : TypeId) (xs ys : List Value) : Row ((w4.alloc (.cells xs.toArray T)).alloc (.cells ys.toArray U)) w4.heap.size T xs ∧ Row ((w4.alloc (.cells xs.toArray T)).alloc (.cells ys.toArray U)) (w4.heap.size + 1) U ys := by
  refine ⟨rowA (Row.new w4 _ _) _, ?_⟩
  have := Row.new (w4.alloc (.cells xs.toArray T)) U ys
  simpa using this

set_option maxRecDepth 10000 in
set_option maxHeartbeats 8000000 in
/-- sessionAlive. -/
theorem sessionAlive_any (w : World) : Calls Tryz.prog 5 #[] w fun e w' => e = .returned (.bool true) ∧ Below w.heap.size w w' := by
  have le := Nat.le_refl w.heap.size
  obtain ⟨w1, hw1⟩ : ∃ w1, w1 = (w.alloc (.cells #[.int .u8 97] 5 (1, 2))).alloc (.cells #[.int .u8 53] 5 (1, 2)) := ⟨_, rfl⟩
  have B1 : Below w.heap.size w w1 := by rw [hw1]; exact below_and (below_alloc _ _) (Nat.le_refl _) (below_alloc _ _)
  have r1 : Rd w1 (.slice (some ⟨w.heap.size, 0, none⟩) 1 1) [97] := by rw [hw1]; exact (litB w 97 (by decide)).below (below_alloc _ _)
  have r2 : Rd w1 (.slice (some ⟨w.heap.size + 1, 0, none⟩) 1 1) [53] := by
    rw [hw1]
    have := litB (w.alloc (.cells #[.int .u8 97] 5 (1, 2))) 53 (by decide)
    simpa using this
  have hW := write_any w1 [.int .i64 2, .slice (some ⟨w.heap.size, 0, none⟩) 1 1, .slice (some ⟨w.heap.size + 1, 0, none⟩) 1 1, .slice none 0 0, .int .i64 0] (2, [97], [53], [], 0) ⟨_, _, _, rfl, rt_any r1, rt_any r2, RT.nil _ _⟩
  rw [aliveW.1, aliveW.2] at hW
  have HW := (show Hid (∀ _ : Unit, _) from fun _ => hW)
  clear hW r1 r2
  have v0 := cvtB
  have v1 := cvtB1
  go_enter Tryz.func5, Tryz.ntmps5
  go_upto_region 1 with fail
  go_upto_region 2 with (rw [← hw1]; go_at_call 21; refine (HW.out ()).mono ?_; rintro e w2 ⟨v2, rfl, o2, f2, hb2⟩)
  have B2 := below_and B1 le hb2
  have R2 : Rd w2 v2 [2, 1, 97, 1, 53, 0, 0] := o2.rd (fun y hy => by simp at hy; omega)
  obtain ⟨a2, c2, rfl, hc2⟩ := o2.form
  clear hw1 HW v0 v1 hb2 f2 o2 B1
  obtain ⟨w3, hw3⟩ : ∃ w3, w3 = w2.alloc (.cells #[.int .i64 1, .int .i64 1, .slice a2 (bc [2, 1, 97, 1, 53, 0, 0]).length c2, .slice none 0 0] 29) := ⟨_, rfl⟩
  have q3 : Row w3 w2.heap.size 29 [.int .i64 1, .int .i64 1, .slice a2 (bc [2, 1, 97, 1, 53, 0, 0]).length c2, .slice none 0 0] := by rw [hw3]; exact Row.new w2 _ _
  have b23 : Below w2.heap.size w2 w3 := by rw [hw3]; exact below_alloc _ _
  have hx : ∀ u, Below w3.heap.size w3 u → RReq Any u [.int .i64 1, .int .i64 1, .slice a2 (bc [2, 1, 97, 1, 53, 0, 0]).length c2, .slice none 0 0] (1, 1, [2, 1, 97, 1, 53, 0, 0], []) := fun u hu => ⟨_, _, rfl, rt_any ((R2.below b23).below hu), RT.nil _ _⟩
  have hzq : szQ (1, 1, [2, 1, 97, 1, 53, 0, 0], []) := ⟨by simp [szT], by simp [szT]⟩
  have hA1 := apply_any w3 _ _ (zeroApp w3) zeroSz _ _ (hx w3 (Below.refl _ _)) hzq
  rw [aliveA1] at hA1
  have HA1 := (show Hid (∀ _ : Unit, _) from fun _ => hA1)
  have HX := (show Hid (∀ u, Below w3.heap.size w3 u → RReq Any u [.int .i64 1, .int .i64 1, .slice a2 (bc [2, 1, 97, 1, 53, 0, 0]).length c2, .slice none 0 0] (1, 1, [2, 1, 97, 1, 53, 0, 0], [])) from hx)
  clear hx hA1
  go_upto_region 3 with fail
  rw [← hw3]
  clear hw3 R2
  go_upto_region 4 with (first
    | (refine wl_load rfl _ _ rfl w2.heap.size rfl _ _ q3 _ Tryz.underlying29 rfl (by kernel_rfl) ?_)
    | (go_at_call 8; refine (HA1.out ()).mono ?_; rintro e w4 ⟨row4, vv4, rfl, o4, t4, hb4⟩; have o4' := o4; obtain ⟨ve4, vl4, vs4, rfl, l1, l2, l3⟩ := o4; obtain ⟨nA, nB⟩ := two_new w4 26 34 [.int .i64 0, .slice none 0 0, .slice none 0 0, .slice none 0 0] [.int .i64 0, .slice none 0 0])
    | (refine wl_store rfl _ _ _ rfl w4.heap.size [.int .i64 1, ve4, vl4, vs4] rfl rfl _ _ nA rfl (by kernel_rfl) (onA4 l1.form l2.form l3.form) ?_; intro w5 hr5 hg5; have nB5 := nB.grown hg5 (fun e => by injection e with e; omega))
    | (refine wl_store rfl _ _ _ rfl (w4.heap.size + 1) [.int .i64 0, vv4] rfl rfl _ _ nB5 rfl (by kernel_rfl) (one_res t4.one) ?_; intro w6 hr6 hg6))
  have b45 : Below w4.heap.size w4 w5 := (below_and (below_alloc w4 _) (Nat.le_refl _) (below_alloc _ _)).trans (grown_below hg5 (by simp; omega) (fun k hk => by cases hk; exact Nat.le_refl _))
  have b46 : Below w4.heap.size w4 w6 := b45.trans (grown_below hg6 b45.size (fun k hk => by cases hk; omega))
  have yA : Row w6 w4.heap.size 26 [.int .i64 1, ve4, vl4, vs4] := hr5.out.grown hg6 (fun e => by injection e with e; omega)
  have yB := hr6.out
  have b36 := below_and hb4 (Nat.le_refl _) b46
  have q6 := q3.below b36
  have o6 := o4'.app.below b46
  have hA2 := apply_any w6 _ _ o6 (rgt_sz (by decide)) _ _ (HX.out w6 b36) hzq
  rw [aliveA2] at hA2
  have HA2 := (show Hid (∀ _ : Unit, _) from fun _ => hA2)
  obtain ⟨bA, hbA⟩ : ∃ bA, bA = w4.heap.size := ⟨_, rfl⟩
  have hlA := yA.lt
  have hlB := yB.lt
  rw [← hbA] at yA yB hlA hlB ⊢
  clear hA2 HA1 l1 l2 l3 o4' nA nB hr5 hr6 hg5 hg6 b45 b46 hb4 nB5 t4 o6 hbA
  go_upto_region 5 with (first
    | (refine wl_load rfl _ _ rfl bA rfl _ _ yA _ Tryz.underlying26 rfl (by kernel_rfl) ?_)
    | (refine wl_load rfl _ _ rfl w2.heap.size rfl _ _ q6 _ Tryz.underlying29 rfl (by kernel_rfl) ?_)
    | (go_at_call 8; refine (HA2.out ()).mono ?_; rintro e w7 ⟨row7, vv7, rfl, o7, t7, hb7⟩; have o7' := o7; obtain ⟨ve7, vl7, vs7, rfl, l1, l2, l3⟩ := o7; obtain ⟨nA, nB⟩ := two_new w7 26 34 [.int .i64 0, .slice none 0 0, .slice none 0 0, .slice none 0 0] [.int .i64 0, .slice none 0 0])
    | (refine wl_store rfl _ _ _ rfl w7.heap.size [.int .i64 2, ve7, vl7, vs7] rfl rfl _ _ nA rfl (by kernel_rfl) (onA4 l1.form l2.form l3.form) ?_; intro w8 hr8 hg8; have nB8 := nB.grown hg8 (fun e => by injection e with e; omega))
    | (refine wl_store rfl _ _ _ rfl (w7.heap.size + 1) [.int .i64 0, vv7] rfl rfl _ _ nB8 rfl (by kernel_rfl) (one_res t7.one) ?_; intro w9 hr9 hg9))
  have b78 : Below w7.heap.size w7 w8 := (below_and (below_alloc w7 _) (Nat.le_refl _) (below_alloc _ _)).trans (grown_below hg8 (by simp; omega) (fun k hk => by cases hk; exact Nat.le_refl _))
  have b79 : Below w7.heap.size w7 w9 := b78.trans (grown_below hg9 b78.size (fun k hk => by cases hk; omega))
  have zA : Row w9 w7.heap.size 26 [.int .i64 2, ve7, vl7, vs7] := hr8.out.grown hg9 (fun e => by injection e with e; omega)
  have b69 := below_and hb7 (Nat.le_refl _) b79
  have B9 := below_and B2 le (below_and b23 (Nat.le_refl _) (below_and b36 (Nat.le_refl _) b69))
  obtain ⟨ae, ce, rfl, _⟩ := (Re.rl l1).form
  obtain ⟨as', cs', rfl, _⟩ := (Rn.rl l3).form
  have e0 := (yB.below b69).cell (j := 0) rfl
  have e1 := hr9.out.cell (j := 0) rfl
  have e2 := zA.cell (j := 0) rfl
  have e3 := zA.cell (j := 1) rfl
  have e4 := zA.cell (j := 3) rfl
  clear yA yB q6 q3 HX HA2 l1 l2 l3 o7' t7 nA nB hr8 hr9 hg8 hg9 b78 b79 zA nB8
  go_wp2_with fail
  go_ret
  exact ⟨rfl, B9⟩

end Go.Proofs.YtejkkhlblnepeaaGreat
end

section
set_option linter.unusedVariables false
set_option linter.unusedSimpArgs false
namespace Go.Proofs.YtejkkhlblnepeaaGreat
open Go.RowKit Oct Kvl

theorem alloc_size (w : World) (o : Obj) : (w.alloc o).heap.size = w.heap.size + 1 := by simp
theorem drew_size (w : World) : w.drew.heap.size = w.heap.size := rfl
theorem bel_al {w u : World} {o : Obj} (h : Below w.heap.size w u) : Below w.heap.size w (u.alloc o) := below_and h (Nat.le_refl _) (below_alloc _ _)
theorem bel_ch {w u z : World} (h : Below w.heap.size w u) (h' : Below u.heap.size u z) : Below w.heap.size w z := below_and h (Nat.le_refl _) h'
theorem bel_st {w u : World} {b j : Nat} {x : Value} (h : Below w.heap.size w u) (hb : w.heap.size ≤ b) : Below w.heap.size w (u.setCell ⟨b, j, none⟩ x) :=
  h.trans (grown_below (grown_set u b j x) h.size (fun k hk => by cases hk; exact hb))
theorem bel_set1 {B b j : Nat} {w u : World} {x : Value} (h : Below B w u) (hw : B ≤ w.heap.size) (hb : B ≤ b) : Below B w (u.setCell ⟨b, j, none⟩ x) :=
  h.trans (grown_below (grown_set u b j x) (Nat.le_trans hw h.size) (fun k hk => by cases hk; exact hb))
theorem ses_rng (G : Nat → Prop) (w : World) (r : List Value) (a : PEnt) (h : RSes G w r a) : RSes (fun k => G k ∧ k < w.heap.size) w r a := by
  obtain ⟨c, d, k, x, l, e, h1, h2⟩ := h
  exact ⟨c, d, k, x, l, e, rt_rng h1, h2⟩
/-- Two boxes are filled: what lies elsewhere stays. -/
structure Fin2 (w5 Z : World) (bA bB : Nat) (r : List Value) (s : List Value) : Prop where
  a : Row Z bA 26 r
  b : Row Z bB 34 s
  size : w5.heap.size ≤ Z.heap.size
  block : ∀ k, k < w5.heap.size → k ≠ bA → k ≠ bB → Z.heap[k]? = w5.heap[k]?
  os : Z.os = w5.os
  tape : Z.tape = w5.tape
  output : Z.output = w5.output
theorem Fin2.of {w5 z1 Z : World} {bA bB : Nat} {r s : List Value} (a : Row Z bA 26 r) (b : Row Z bB 34 s) {p q : Nat} (g1 : w5.grownBy z1 (some p)) (g2 : z1.grownBy Z (some q)) (h : (p = bA ∧ q = bB) ∨ (p = bB ∧ q = bA)) : Fin2 w5 Z bA bB r s :=
  ⟨a, b, Nat.le_trans g1.size g2.size, fun k hk h1 h2 => (g2.block k (Nat.lt_of_lt_of_le hk g1.size) (fun e => by injection e with e; omega)).trans (g1.block k hk (fun e => by injection e with e; omega)), g2.os.trans g1.os, g2.tape.trans g1.tape, g2.output.trans g1.output⟩
theorem Fin2.bel {w w5 Z : World} {bA bB B : Nat} {r s : List Value} (h : Fin2 w5 Z bA bB r s) (hb : Below B w w5) (hB : B ≤ w.heap.size) (h1 : B ≤ bA) (h2 : B ≤ bB) : Below B w Z :=
  ⟨h.os.trans hb.os, h.tape.trans hb.tape, h.output.trans hb.output, Nat.le_trans hb.size h.size, fun k hk => (h.block k (Nat.lt_of_lt_of_le (Nat.lt_of_lt_of_le hk hB) hb.size) (by omega) (by omega)).trans (hb.block k hk)⟩
theorem Fin2.ra {w5 Z : World} {bA bB : Nat} {r s row : List Value} {a : PApp} (F : Fin2 w5 Z bA bB r s) {u v : Nat} (h : RApp (Rng u v) Z row a) (hA : bA < u ∨ v ≤ bA) : RApp (fun k => k ≠ bA) Z row a := mov_app _ _ _ _ _ _ h (Nat.le_refl _) (fun k hk _ => ⟨rfl, fun e => by obtain ⟨h1, h2⟩ := hk; omega⟩)
theorem Fin2.rt {w5 Z : World} {bA bB : Nat} {r s : List Value} {x : Value} {l : List Int} (F : Fin2 w5 Z bA bB r s) {u v : Nat} (h : RT (Rng u v) Z x l) (hA : bA < u ∨ v ≤ bA) : RT (fun k => k ≠ bA) Z x l := h.mv (fun k hk _ => ⟨rfl, fun e => by obtain ⟨h1, h2⟩ := hk; omega⟩)
theorem Fin2.ras {w5 Z : World} {bA bB : Nat} {r s row : List Value} {a : PApp} (F : Fin2 w5 Z bA bB r s) {u v N : Nat} (h : RApp (Rng u v) Z row a) (hA : (bA < u ∨ v ≤ bA) ∧ N ≤ u) : RApp (fun k => k ≠ bA ∧ N ≤ k) Z row a := mov_app _ _ _ _ _ _ h (Nat.le_refl _) (fun k hk _ => ⟨rfl, fun e => by obtain ⟨h1, h2⟩ := hk; omega, by obtain ⟨h1, h2⟩ := hk; omega⟩)
theorem Fin2.rts {w5 Z : World} {bA bB : Nat} {r s : List Value} {x : Value} {l : List Int} (F : Fin2 w5 Z bA bB r s) {u v N : Nat} (h : RT (Rng u v) Z x l) (hA : (bA < u ∨ v ≤ bA) ∧ N ≤ u) : RT (fun k => k ≠ bA ∧ N ≤ k) Z x l := h.mv (fun k hk _ => ⟨rfl, fun e => by obtain ⟨h1, h2⟩ := hk; omega, by obtain ⟨h1, h2⟩ := hk; omega⟩)
section
variable {w5 : World} {v0 v1 v2 v3 c v : Value}
theorem g4 (u : World) (b : Nat) : u.grownBy ((((u.setCell ⟨b, 0, none⟩ v0).setCell ⟨b, 1, none⟩ v1).setCell ⟨b, 2, none⟩ v2).setCell ⟨b, 3, none⟩ v3) (some b) := grown_trans (grown_trans (grown_trans (grown_set u b 0 v0) (grown_set _ b 1 v1) (.inl rfl)) (grown_set _ b 2 v2) (.inl rfl)) (grown_set _ b 3 v3) (.inl rfl)
theorem g2 (u : World) (b : Nat) : u.grownBy ((u.setCell ⟨b, 0, none⟩ c).setCell ⟨b, 1, none⟩ v) (some b) := grown_trans (grown_set u b 0 c) (grown_set _ b 1 v) (.inl rfl)
theorem ne_of {b b' : Nat} (h : b ≠ b') : some b ≠ some b' := fun e => h (by injection e)
/-- Both were there. -/
theorem fin_bb {bA bB : Nat} {xs ys : List Value} (hx : xs.length = 4) (hy : ys.length = 2) (qA : Row w5 bA 26 xs) (qB : Row w5 bB 34 ys) :
    ∃ Z, Z = (((((w5.setCell ⟨bA, 0, none⟩ v0).setCell ⟨bA, 1, none⟩ v1).setCell ⟨bA, 2, none⟩ v2).setCell ⟨bA, 3, none⟩ v3).setCell ⟨bB, 0, none⟩ c).setCell ⟨bB, 1, none⟩ v ∧ Fin2 w5 Z bA bB [v0, v1, v2, v3] [c, v] := by
  have hne : bA ≠ bB := Row.apart qA qB (by decide)
  obtain ⟨x0, x1, x2, x3, rfl⟩ : ∃ x0 x1 x2 x3, xs = [x0, x1, x2, x3] := by match xs, hx with | [a, b, c, d], _ => exact ⟨a, b, c, d, rfl⟩
  obtain ⟨y0, y1, rfl⟩ : ∃ y0 y1, ys = [y0, y1] := by match ys, hy with | [a, b], _ => exact ⟨a, b, rfl⟩
  have r1 := (((qA.set 0 v0).set 1 v1).set 2 v2).set 3 v3
  have h1 := g4 (v0 := v0) (v1 := v1) (v2 := v2) (v3 := v3) w5 bA
  have r2 := qB.grown h1 (ne_of hne)
  have h2 := g2 (c := c) (v := v) ((((w5.setCell ⟨bA, 0, none⟩ v0).setCell ⟨bA, 1, none⟩ v1).setCell ⟨bA, 2, none⟩ v2).setCell ⟨bA, 3, none⟩ v3) bB
  exact ⟨_, rfl, Fin2.of (r1.grown h2 (ne_of (Ne.symm hne))) ((r2.set 0 c).set 1 v) h1 h2 (.inl ⟨rfl, rfl⟩)⟩
/-- The state's was there, the result's is new. -/
theorem fin_bn {bA : Nat} {xs : List Value} {y0 y1 : Value} (hx : xs.length = 4) (qA : Row w5 bA 26 xs) :
    ∃ Z, Z = ((((((w5.alloc (.cells #[y0, y1] 34)).setCell ⟨bA, 0, none⟩ v0).setCell ⟨bA, 1, none⟩ v1).setCell ⟨bA, 2, none⟩ v2).setCell ⟨bA, 3, none⟩ v3).setCell ⟨w5.heap.size, 0, none⟩ c).setCell ⟨w5.heap.size, 1, none⟩ v ∧ Fin2 w5 Z bA w5.heap.size [v0, v1, v2, v3] [c, v] := by
  have hlt := qA.lt
  have n := Row.new w5 34 [y0, y1]
  obtain ⟨Z, hZ, F⟩ := fin_bb (v0 := v0) (v1 := v1) (v2 := v2) (v3 := v3) (c := c) (v := v) hx rfl (qA.below (below_alloc w5 (.cells #[y0, y1] 34))) n
  have hb := below_alloc w5 (.cells #[y0, y1] 34)
  exact ⟨Z, hZ, F.a, F.b, Nat.le_trans hb.size F.size, fun k hk h1 h2 => (F.block k (Nat.lt_of_lt_of_le hk hb.size) h1 h2).trans (hb.block k hk), F.os.trans hb.os, F.tape.trans hb.tape, F.output.trans hb.output⟩
/-- The result's was there, the state's is new. -/
theorem fin_nb {bB : Nat} {ys : List Value} (hy : ys.length = 2) (qB : Row w5 bB 34 ys) :
    ∃ Z, Z = ((w5.alloc (.cells #[v0, v1, v2, v3] 26)).setCell ⟨bB, 0, none⟩ c).setCell ⟨bB, 1, none⟩ v ∧ Fin2 w5 Z w5.heap.size bB [v0, v1, v2, v3] [c, v] := by
  obtain ⟨y0, y1, rfl⟩ : ∃ y0 y1, ys = [y0, y1] := by match ys, hy with | [a, b], _ => exact ⟨a, b, rfl⟩
  have hlt := qB.lt
  have n := Row.new w5 26 [v0, v1, v2, v3]
  have h1 : w5.grownBy (w5.alloc (.cells #[v0, v1, v2, v3] 26)) (some w5.heap.size) := grown_of_below (below_alloc _ _) _
  have r1 := ((qB.below (below_alloc w5 (.cells #[v0, v1, v2, v3] 26))).set 0 c).set 1 v
  have h2 := g2 (c := c) (v := v) (w5.alloc (.cells #[v0, v1, v2, v3] 26)) bB
  exact ⟨_, rfl, Fin2.of (n.grown h2 (ne_of (Nat.ne_of_lt hlt))) r1 h1 h2 (.inl ⟨rfl, rfl⟩)⟩
/-- Both are new. -/
theorem fin_nn : ∃ Z, Z = (w5.alloc (.cells #[v0, v1, v2, v3] 26)).alloc (.cells #[c, v] 34) ∧ Fin2 w5 Z w5.heap.size (w5.heap.size + 1) [v0, v1, v2, v3] [c, v] := by
  have n := Row.new w5 26 [v0, v1, v2, v3]
  have m := Row.new (w5.alloc (.cells #[v0, v1, v2, v3] 26)) 34 [c, v]
  rw [alloc_size] at m
  exact ⟨_, rfl, Fin2.of (rowA n _) m (grown_of_below (below_alloc _ _) (some w5.heap.size)) (grown_of_below (below_alloc _ _) (some (w5.heap.size + 1))) (.inl ⟨rfl, rfl⟩)⟩
theorem fin_nn' : ∃ Z, Z = (w5.alloc (.cells #[c, v] 34)).alloc (.cells #[v0, v1, v2, v3] 26) ∧ Fin2 w5 Z (w5.heap.size + 1) w5.heap.size [v0, v1, v2, v3] [c, v] := by
  have n := Row.new w5 34 [c, v]
  have m := Row.new (w5.alloc (.cells #[c, v] 34)) 26 [v0, v1, v2, v3]
  rw [alloc_size] at m
  exact ⟨_, rfl, Fin2.of m (rowA n _) (grown_of_below (below_alloc _ _) (some w5.heap.size)) (grown_of_below (below_alloc _ _) (some (w5.heap.size + 1))) (.inr ⟨rfl, rfl⟩)⟩
end
end Go.Proofs.YtejkkhlblnepeaaGreat
end

section
set_option linter.unusedVariables false
set_option linter.unusedSimpArgs false
namespace Go.Proofs.YtejkkhlblnepeaaGreat
open Go.RowKit Oct Kvl

/-- Two boxes are filled: what lies elsewhere stays. -/
structure Fin4 (w5 Z : World) (bA bB : Nat) (r : List Value) (s : List Value) : Prop where
  a : Row Z bA 26 r
  b : Row Z bB 29 s
  size : w5.heap.size ≤ Z.heap.size
  block : ∀ k, k < w5.heap.size → k ≠ bA → k ≠ bB → Z.heap[k]? = w5.heap[k]?
  os : Z.os = w5.os
  tape : Z.tape = w5.tape
  output : Z.output = w5.output
theorem Fin4.of {w5 z1 Z : World} {bA bB : Nat} {r s : List Value} (a : Row Z bA 26 r) (b : Row Z bB 29 s) {p q : Nat} (g1 : w5.grownBy z1 (some p)) (g2 : z1.grownBy Z (some q)) (h : (p = bA ∧ q = bB) ∨ (p = bB ∧ q = bA)) : Fin4 w5 Z bA bB r s :=
  ⟨a, b, Nat.le_trans g1.size g2.size, fun k hk h1 h2 => (g2.block k (Nat.lt_of_lt_of_le hk g1.size) (fun e => by injection e with e; omega)).trans (g1.block k hk (fun e => by injection e with e; omega)), g2.os.trans g1.os, g2.tape.trans g1.tape, g2.output.trans g1.output⟩
theorem Fin4.bel {w w5 Z : World} {bA bB B : Nat} {r s : List Value} (h : Fin4 w5 Z bA bB r s) (hb : Below B w w5) (hB : B ≤ w.heap.size) (h1 : B ≤ bA) (h2 : B ≤ bB) : Below B w Z :=
  ⟨h.os.trans hb.os, h.tape.trans hb.tape, h.output.trans hb.output, Nat.le_trans hb.size h.size, fun k hk => (h.block k (Nat.lt_of_lt_of_le (Nat.lt_of_lt_of_le hk hB) hb.size) (by omega) (by omega)).trans (hb.block k hk)⟩
section
variable {w5 : World} {v0 v1 v2 v3 c0 c1 c2 c3 : Value}
/-- Both were there. -/
theorem fin4_bb {bA bB : Nat} {xs ys : List Value} (hx : xs.length = 4) (hy : ys.length = 4) (qA : Row w5 bA 26 xs) (qB : Row w5 bB 29 ys) (hne : bA ≠ bB) :
    ∃ Z, Z = (((((((w5.setCell ⟨bA, 0, none⟩ v0).setCell ⟨bA, 1, none⟩ v1).setCell ⟨bA, 2, none⟩ v2).setCell ⟨bA, 3, none⟩ v3).setCell ⟨bB, 0, none⟩ c0).setCell ⟨bB, 1, none⟩ c1).setCell ⟨bB, 2, none⟩ c2).setCell ⟨bB, 3, none⟩ c3 ∧ Fin4 w5 Z bA bB [v0, v1, v2, v3] [c0, c1, c2, c3] := by
  obtain ⟨x0, x1, x2, x3, rfl⟩ : ∃ x0 x1 x2 x3, xs = [x0, x1, x2, x3] := by match xs, hx with | [a, b, c, d], _ => exact ⟨a, b, c, d, rfl⟩
  obtain ⟨y0, y1, y2, y3, rfl⟩ : ∃ y0 y1 y2 y3, ys = [y0, y1, y2, y3] := by match ys, hy with | [a, b, c, d], _ => exact ⟨a, b, c, d, rfl⟩
  have r1 := (((qA.set 0 v0).set 1 v1).set 2 v2).set 3 v3
  have h1 := g4 (v0 := v0) (v1 := v1) (v2 := v2) (v3 := v3) w5 bA
  have r2 := qB.grown h1 (ne_of hne)
  have h2 := g4 (v0 := c0) (v1 := c1) (v2 := c2) (v3 := c3) ((((w5.setCell ⟨bA, 0, none⟩ v0).setCell ⟨bA, 1, none⟩ v1).setCell ⟨bA, 2, none⟩ v2).setCell ⟨bA, 3, none⟩ v3) bB
  exact ⟨_, rfl, Fin4.of (r1.grown h2 (ne_of (Ne.symm hne))) ((((r2.set 0 c0).set 1 c1).set 2 c2).set 3 c3) h1 h2 (.inl ⟨rfl, rfl⟩)⟩
/-- The state's was there, the request's is new. -/
theorem fin4_bn {bA : Nat} {xs : List Value} {y0 y1 y2 y3 : Value} (hx : xs.length = 4) (qA : Row w5 bA 26 xs) :
    ∃ Z, Z = ((((((((w5.alloc (.cells #[y0, y1, y2, y3] 29)).setCell ⟨bA, 0, none⟩ v0).setCell ⟨bA, 1, none⟩ v1).setCell ⟨bA, 2, none⟩ v2).setCell ⟨bA, 3, none⟩ v3).setCell ⟨w5.heap.size, 0, none⟩ c0).setCell ⟨w5.heap.size, 1, none⟩ c1).setCell ⟨w5.heap.size, 2, none⟩ c2).setCell ⟨w5.heap.size, 3, none⟩ c3 ∧ Fin4 w5 Z bA w5.heap.size [v0, v1, v2, v3] [c0, c1, c2, c3] := by
  have hlt := qA.lt
  have n := Row.new w5 29 [y0, y1, y2, y3]
  have hb := below_alloc w5 (.cells #[y0, y1, y2, y3] 29)
  obtain ⟨Z, hZ, F⟩ := fin4_bb (v0 := v0) (v1 := v1) (v2 := v2) (v3 := v3) (c0 := c0) (c1 := c1) (c2 := c2) (c3 := c3) hx rfl (qA.below hb) n (Nat.ne_of_lt hlt)
  exact ⟨Z, hZ, F.a, F.b, Nat.le_trans hb.size F.size, fun k hk h1 h2 => (F.block k (Nat.lt_of_lt_of_le hk hb.size) h1 h2).trans (hb.block k hk), F.os.trans hb.os, F.tape.trans hb.tape, F.output.trans hb.output⟩
/-- The request's was there, the state's is new. -/
theorem fin4_nb {bB : Nat} {ys : List Value} (hy : ys.length = 4) (qB : Row w5 bB 29 ys) :
    ∃ Z, Z = ((((w5.alloc (.cells #[v0, v1, v2, v3] 26)).setCell ⟨bB, 0, none⟩ c0).setCell ⟨bB, 1, none⟩ c1).setCell ⟨bB, 2, none⟩ c2).setCell ⟨bB, 3, none⟩ c3 ∧ Fin4 w5 Z w5.heap.size bB [v0, v1, v2, v3] [c0, c1, c2, c3] := by
  obtain ⟨y0, y1, y2, y3, rfl⟩ : ∃ y0 y1 y2 y3, ys = [y0, y1, y2, y3] := by match ys, hy with | [a, b, c, d], _ => exact ⟨a, b, c, d, rfl⟩
  have hlt := qB.lt
  have n := Row.new w5 26 [v0, v1, v2, v3]
  have h1 : w5.grownBy (w5.alloc (.cells #[v0, v1, v2, v3] 26)) (some w5.heap.size) := grown_of_below (below_alloc _ _) _
  have r1 := ((((qB.below (below_alloc w5 (.cells #[v0, v1, v2, v3] 26))).set 0 c0).set 1 c1).set 2 c2).set 3 c3
  have h2 := g4 (v0 := c0) (v1 := c1) (v2 := c2) (v3 := c3) (w5.alloc (.cells #[v0, v1, v2, v3] 26)) bB
  exact ⟨_, rfl, Fin4.of (n.grown h2 (ne_of (Nat.ne_of_lt hlt))) r1 h1 h2 (.inl ⟨rfl, rfl⟩)⟩
/-- Both are new. -/
theorem fin4_nn : ∃ Z, Z = (w5.alloc (.cells #[v0, v1, v2, v3] 26)).alloc (.cells #[c0, c1, c2, c3] 29) ∧ Fin4 w5 Z w5.heap.size (w5.heap.size + 1) [v0, v1, v2, v3] [c0, c1, c2, c3] := by
  have n := Row.new w5 26 [v0, v1, v2, v3]
  have m := Row.new (w5.alloc (.cells #[v0, v1, v2, v3] 26)) 29 [c0, c1, c2, c3]
  rw [alloc_size] at m
  exact ⟨_, rfl, Fin4.of (rowA n _) m (grown_of_below (below_alloc _ _) (some w5.heap.size)) (grown_of_below (below_alloc _ _) (some (w5.heap.size + 1))) (.inl ⟨rfl, rfl⟩)⟩
theorem fin4_nn' : ∃ Z, Z = (w5.alloc (.cells #[c0, c1, c2, c3] 29)).alloc (.cells #[v0, v1, v2, v3] 26) ∧ Fin4 w5 Z (w5.heap.size + 1) w5.heap.size [v0, v1, v2, v3] [c0, c1, c2, c3] := by
  have n := Row.new w5 29 [c0, c1, c2, c3]
  have m := Row.new (w5.alloc (.cells #[c0, c1, c2, c3] 29)) 26 [v0, v1, v2, v3]
  rw [alloc_size] at m
  exact ⟨_, rfl, Fin4.of m (rowA n _) (grown_of_below (below_alloc _ _) (some w5.heap.size)) (grown_of_below (below_alloc _ _) (some (w5.heap.size + 1))) (.inr ⟨rfl, rfl⟩)⟩
end
end Go.Proofs.YtejkkhlblnepeaaGreat
end

section
set_option linter.unusedVariables false
set_option linter.unusedSimpArgs false
namespace Go.Proofs.YtejkkhlblnepeaaGreat
open Go.RowKit Oct Kvl

/-- Entries whose texts lie in memory that was there in w0. -/
def RS (w0 : World) (G : Nat → Prop) (w : World) (r : List Value) (x : PEnt) : Prop := ∀ u, Below w0.heap.size w0 u → REnt Any u r x
theorem mov_rs (w0 : World) : Mov (RS w0) := fun _ _ _ _ _ _ h _ _ => h
theorem RS.of {w0 : World} {r : List Value} {x : PEnt} (h : REnt Any w0 r x) (G : Nat → Prop) (w : World) : RS w0 G w r x := fun u hu => mov_ent _ _ _ _ _ _ h hu.size (Mv.below hu)
theorem LB.rs {w0 w : World} {B : Nat} {v : Value} {zs : List PEnt} (h : LB (RS w0) 82 2 B w v zs) (hb : Below w0.heap.size w0 w) : RL REnt 2 Any w v zs := by
  obtain ⟨rows, h1, h2⟩ := (h.rl (mov_rs w0)).mv (mov_rs w0) (Nat.le_refl _) (Mv.any (w := w))
  exact ⟨rows, h1, h2.mono fun r a h => h w hb⟩
theorem LB.grownS {w0 w w' : World} {v : Value} {zs : List PEnt} {B b : Nat} (h : LB (RS w0) 82 2 B w v zs) (hg : w.grownBy w' (some b)) (hn : v.ownBlock ≠ some b) : LB (RS w0) 82 2 B w' v zs := by
  obtain ⟨rows, h0, h1, h2, h3⟩ := h
  exact ⟨rows, h0, World.ownsRow.kept h1 hg (.inr hn), h2, h3⟩
theorem one_E {w : World} {r : List Value} {x : PEnt} (h : REnt Any w r x) : ∀ u ∈ r, u.oneCell' = true := one_RE h

set_option maxRecDepth 10000 in
set_option maxHeartbeats 8000000 in
theorem refWith_some (w00 w : World) (h00 : Below w00.heap.size w00 w) (bb off cap : Nat) (ys : List PEnt) (hl : 0 < ys.length) (h64 : ys.length ≤ 64) (hc : ys.length ≤ cap) (hm : cap ≤ maxLen) (hbb : bb < w.heap.size)
    (hx : ∀ (i : Nat) (a : PEnt), ys[i]? = some a → ∃ r, r.length = 2 ∧ w.rangeAt bb (off + i * 2) r ∧ REnt Any w00 r a) (nv vv : Value) (n v : List Int) (hn : RT Any w00 nv n) (hv : RT Any w00 vv v) :
    Calls Tryz.prog 67 #[.slice (some ⟨bb, off, none⟩) ys.length cap, nv, vv] w fun e w' => ∃ v', e = .returned v' ∧ LB (RS w00) 82 2 w.heap.size w' v' (wiF n v false ys) ∧ Below w.heap.size w w' := by
  have HX := (show Hid (∀ (i : Nat) (a : PEnt), ys[i]? = some a → ∃ r, r.length = 2 ∧ w.rangeAt bb (off + i * 2) r ∧ REnt Any w00 r a) from hx)
  have hlm : (ys.length : Int) ≤ 9223372036854775807 := by omega
  obtain ⟨an, cn, rfl, hcn⟩ := hn.form
  obtain ⟨av, cv, rfl, hcv⟩ := hv.form
  have HNV := (show Hid (REnt Any w00 [.slice an n.length cn, .slice av v.length cv] (n, v)) from ⟨_, _, rfl, hn, hv⟩)
  have HS := (show Hid (∀ (u : World) (s : Value) (l : List Int), Below w00.heap.size w00 u → RT Any w00 s l → Calls Tryz.prog 40 #[s, .slice an n.length cn] u fun e w' => e = .returned (.bool (decide (l = n))) ∧ w' = u) from fun u s l hu hs => same_any u _ _ _ _ (hs.mv (Mv.below hu)).1 (hn.mv (Mv.below hu)).1)
  have HLe := (show Hid (∀ (u : World) (s : Value) (l : List Int), Below w00.heap.size w00 u → RT Any w00 s l → Calls Tryz.prog 76 #[.slice an n.length cn, s] u fun e w' => e = .returned (.bool (decide (cmpL n l < 0))) ∧ w' = u) from fun u s l hu hs => less_any u _ _ _ _ (hn.mv (Mv.below hu)).1 (hs.mv (Mv.below hu)).1)
  clear hx hn hv
  obtain ⟨Ln, hLn⟩ : ∃ L, n.length = L := ⟨_, rfl⟩
  obtain ⟨Lv, hLv⟩ : ∃ L, v.length = L := ⟨_, rfl⟩
  obtain ⟨N, hN⟩ : ∃ N, ys.length = N := ⟨_, rfl⟩
  rw [hLn] at HS HLe HNV ⊢
  rw [hLv] at HNV ⊢
  rw [hN] at hl h64 hc hlm ⊢
  have HN := (show Hid (ys.length = N) from hN)
  clear hLn hLv hN
  go_enter Tryz.func67, Tryz.ntmps67
  go_wp2_with fail
  go_loopw [7, 8, 14] (fun o p i wr => ∃ (q : Nat) (put : Bool) (zs : List PEnt), q ≤ N ∧ i = .int .i64 q ∧ p = .bool put ∧ zs.length ≤ 2 * q ∧ LB (RS w00) 82 2 w.heap.size wr o zs ∧ Below w.heap.size w wr ∧ Hid (wiF n v false ys = zs ++ wiF n v put (ys.drop q))) (fun _ _ i _ => N - (intOf i).toNat)
  case atStart => exact ⟨0, false, [], by omega, rfl, rfl, by simp, LB.fresh _ _ _ _ _ (Nat.le_refl _), below_alloc w _, rfl⟩
  case round =>
    obtain ⟨q, put, zs, hq, rfl, rfl, hzl, hLB, hB, hI⟩ := hrel
    by_cases hql : q < N
    · obtain ⟨x, hx⟩ : ∃ x, ys[q]? = some x := ⟨_, List.getElem?_eq_getElem (by have := HN.out; omega)⟩
      obtain ⟨r, _, hrng, s1, s2, rfl, t1, t2⟩ := HX.out q x hx
      have hrng := rangeAt_block hrng (hB.block bb hbb)
      obtain ⟨a1, c1, rfl, hc1⟩ := t1.form
      obtain ⟨a2, c2, rfl, hc2⟩ := t2.form
      have hrow0 := Row.new wr 82 [.slice none 0 0, .slice none 0 0]
      have HD := (show Hid (ys.drop q = x :: ys.drop (q + 1)) from drop_cons hx)
      clear hx
      have HXE := (show Hid (REnt Any w00 [.slice a1 x.1.length c1, .slice a2 x.2.length c2] x) from ⟨_, _, rfl, t1, t2⟩)
      have HXV := (show Hid (REnt Any w00 [.slice a1 x.1.length c1, .slice av Lv cv] (x.1, v)) by obtain ⟨p1, p2, e, _, q2⟩ := HNV.out; simp only [List.cons.injEq, and_true] at e; obtain ⟨rfl, rfl⟩ := e; exact ⟨_, _, rfl, t1, q2⟩)
      have HT1 := (show Hid (RT Any w00 (.slice a1 x.1.length c1) x.1) from t1)
      have hone := onE2 t1.one t2.one
      clear t1 t2
      obtain ⟨L1, hL1⟩ : ∃ L, x.1.length = L := ⟨_, rfl⟩
      obtain ⟨L2, hL2⟩ : ∃ L, x.2.length = L := ⟨_, rfl⟩
      rw [hL1] at hrng hone HXE HXV HT1
      rw [hL2] at hrng hone HXE
      clear hL1 hL2
      go_upto_region 6 with (first
        | (refine wpList_load_mid rfl _ _ rfl bb (off + q * 2) rfl [.slice a1 L1 c1, .slice a2 L2 c2] _ hrng Tryz.underlying82 rfl (by kernel_rfl) ?_)
        | (refine wl_store rfl _ _ _ rfl wr.heap.size [.slice a1 L1 c1, .slice a2 L2 c2] rfl rfl _ _ hrow0 rfl (by kernel_rfl) hone ?_; intro w5 hr5 hg5))
      have hb5 : Below wr.heap.size wr w5 := (below_alloc wr _).trans (grown_below hg5 (by simp) (fun k hk => by cases hk; exact Nat.le_refl _))
      have B5 : Below w.heap.size w w5 := below_and hB (Nat.le_refl _) hb5
      have hr5 := hr5.out
      have hLB5 := hLB.below (mov_rs w00) hb5
      have hlt5 : ∀ g, u7.ownBlock = some g → g < wr.heap.size := hLB.lt
      have hs5 : wr.heap.size < w5.heap.size := by
        obtain ⟨hlt, _⟩ := Array.getElem?_eq_some_iff.1 hr5
        exact hlt
      have HS5 := fun u (hu : Below w.heap.size w u) => HS.out u _ x.1 (below_and h00 (Nat.le_refl _) hu) HT1.out
      have HL5 := HLe.out w5 _ x.1 (below_and h00 (Nat.le_refl _) B5) HT1.out
      clear hg5 hrow0 hrng hone hb5 hLB
      have e0 := hr5.cell (j := 0) rfl
      cases put with
      | false =>
        by_cases hlt : cmpL n x.1 < 0
        · rw [decide_eq_true hlt] at HL5
          go_upto_region 9 with (first
            | (go_at_call 76; refine HL5.mono ?_; rintro e w5 ⟨rfl, rfl⟩)
            | (at_builtin; refine wl_push (mov_rs w00) rfl _ _ _ rfl 82 2 48 _ Tryz.underlying22 Tryz.infE rfl (by decide) w.heap.size u7 zs rfl hLB5 [.slice an Ln cn, .slice av Lv cv] (n, v) w5.heap.size (RS.of HNV.out _ _) rfl (one_E HNV.out) B5.size (fun g hg => Nat.lt_trans (hlt5 g hg) hs5) rfl B5.size (by omega) (by decide) ?_; intro v6 w6 hLB6 hg6))
          have B6 : Below w.heap.size w w6 := B5.trans (grown_below hg6 B5.size (fun k hk => hLB5.fr k hk))
          have hr6 := hr5.grown hg6 (fun e => by have := hlt5 _ e; omega)
          have e6 := hr6.cell (j := 0) rfl
          have HS6 := HS5 w6 B6
          rw [decide_eq_false (fun e => cmp_lt_ne hlt e.symm)] at HS6
          go_wp2_with (first
            | (go_at_call 40; refine HS6.mono ?_; rintro e w6 ⟨rfl, rfl⟩)
            | (refine wl_load rfl _ _ rfl wr.heap.size rfl _ _ hr6 _ Tryz.underlying82 rfl (by kernel_rfl) ?_)
            | (at_builtin; refine wl_push (mov_rs w00) rfl _ _ _ rfl 82 2 48 _ Tryz.underlying22 Tryz.infE rfl (by decide) w.heap.size v6 (zs ++ [(n, v)]) rfl hLB6 [.slice a1 L1 c1, .slice a2 L2 c2] x w6.heap.size (RS.of HXE.out _ _) rfl (one_E HXE.out) B6.size hLB6.lt rfl B6.size (by rw [List.length_append]; simp only [List.length_cons, List.length_nil]; omega) (by decide) ?_; intro v8 w8 hLB8 hg8))
          have B8 : Below w.heap.size w w8 := B6.trans (grown_below hg8 B6.size (fun k hk => hLB6.fr k hk))
          go_roundw
          case rel => exact ⟨q + 1, true, (zs ++ [(n, v)]) ++ [x], by omega, by go_num, rfl, by simp only [List.length_append, List.length_cons, List.length_nil]; omega, hLB8, B8, by
            show _ = _
            rw [hI.out, HD.out, wiF, if_pos ⟨rfl, hlt⟩, if_neg (fun e => cmp_lt_ne hlt e.symm), decide_eq_true hlt]
            simp⟩
          case measure => simp [intOf]; omega
        rw [decide_eq_false hlt] at HL5
        have HLT := (show Hid (¬ cmpL n x.1 < 0) from hlt)
        by_cases heq : x.1 = n
        · skip
          have HS6 := HS5 w5 B5
          rw [decide_eq_true heq] at HS6
          go_wp2_with (first
            | (go_at_call 76; refine HL5.mono ?_; rintro e w5 ⟨rfl, rfl⟩)
            | (go_at_call 40; refine HS6.mono ?_; rintro e w5 ⟨rfl, rfl⟩)
            | (refine wl_set rfl _ _ _ rfl wr.heap.size 1 _ rfl rfl _ _ hr5 (show 1 < 2 by decide) (by kernel_rfl) rfl ?_; intro w6 hr6 hg6; have hLB6 := hLB5.grownS hg6 (fun e => Nat.lt_irrefl _ (hlt5 _ e)); have B6 : Below w.heap.size w w6 := B5.trans (grown_below hg6 B5.size (fun k hk => by cases hk; exact hB.size)); have s6 : wr.heap.size < w6.heap.size := Nat.lt_of_lt_of_le hs5 hg6.size)
            | (refine wl_load rfl _ _ rfl wr.heap.size rfl _ _ hr6.out _ Tryz.underlying82 rfl (by kernel_rfl) ?_)
            | (at_builtin; refine wl_push (mov_rs w00) rfl _ _ _ rfl 82 2 48 _ Tryz.underlying22 Tryz.infE rfl (by decide) w.heap.size u7 zs rfl hLB6 [.slice a1 L1 c1, .slice av Lv cv] (x.1, v) w6.heap.size (RS.of HXV.out _ _) rfl (one_E HXV.out) B6.size (fun g hg => Nat.lt_trans (hlt5 g hg) s6) rfl B6.size (by omega) (by decide) ?_; intro v8 w8 hLB8 hg8))
          have B8 : Below w.heap.size w w8 := B6.trans (grown_below hg8 B6.size (fun k hk => hLB6.fr k hk))
          go_roundw
          case rel => exact ⟨q + 1, true, zs ++ [(x.1, v)], by omega, by go_num, rfl, by simp only [List.length_append, List.length_cons, List.length_nil]; omega, hLB8, B8, by
            show _ = _
            rw [hI.out, HD.out, wiF, if_neg (fun h => absurd h.2 (by have := HLT.out; omega)), if_pos heq, decide_eq_false (p := cmpL n x.1 < 0) (by have := HLT.out; omega), decide_eq_true heq]
            simp⟩
          case measure => simp [intOf]; omega
        · skip
          have HS6 := HS5 w5 B5
          rw [decide_eq_false heq] at HS6
          go_wp2_with (first
            | (go_at_call 76; refine HL5.mono ?_; rintro e w5 ⟨rfl, rfl⟩)
            | (go_at_call 40; refine HS6.mono ?_; rintro e w5 ⟨rfl, rfl⟩)
            | (refine wl_load rfl _ _ rfl wr.heap.size rfl _ _ hr5 _ Tryz.underlying82 rfl (by kernel_rfl) ?_)
            | (at_builtin; refine wl_push (mov_rs w00) rfl _ _ _ rfl 82 2 48 _ Tryz.underlying22 Tryz.infE rfl (by decide) w.heap.size u7 zs rfl hLB5 [.slice a1 L1 c1, .slice a2 L2 c2] x w5.heap.size (RS.of HXE.out _ _) rfl (one_E HXE.out) B5.size (fun g hg => Nat.lt_trans (hlt5 g hg) hs5) rfl B5.size (by omega) (by decide) ?_; intro v8 w8 hLB8 hg8))
          have B8 : Below w.heap.size w w8 := B5.trans (grown_below hg8 B5.size (fun k hk => hLB5.fr k hk))
          go_roundw
          case rel => exact ⟨q + 1, false, zs ++ [x], by omega, by go_num, rfl, by simp only [List.length_append, List.length_cons, List.length_nil]; omega, hLB8, B8, by
            show _ = _
            rw [hI.out, HD.out, wiF, if_neg (fun h => absurd h.2 (by have := HLT.out; omega)), if_neg heq, decide_eq_false (p := cmpL n x.1 < 0) (by have := HLT.out; omega), decide_eq_false heq]
            simp⟩
          case measure => simp [intOf]; omega
      | true =>
        by_cases heq : x.1 = n
        · skip
          have HS6 := HS5 w5 B5
          rw [decide_eq_true heq] at HS6
          go_wp2_with (first
            | (go_at_call 40; refine HS6.mono ?_; rintro e w5 ⟨rfl, rfl⟩)
            | (refine wl_set rfl _ _ _ rfl wr.heap.size 1 _ rfl rfl _ _ hr5 (show 1 < 2 by decide) (by kernel_rfl) rfl ?_; intro w6 hr6 hg6; have hLB6 := hLB5.grownS hg6 (fun e => Nat.lt_irrefl _ (hlt5 _ e)); have B6 : Below w.heap.size w w6 := B5.trans (grown_below hg6 B5.size (fun k hk => by cases hk; exact hB.size)); have s6 : wr.heap.size < w6.heap.size := Nat.lt_of_lt_of_le hs5 hg6.size)
            | (refine wl_load rfl _ _ rfl wr.heap.size rfl _ _ hr6.out _ Tryz.underlying82 rfl (by kernel_rfl) ?_)
            | (at_builtin; refine wl_push (mov_rs w00) rfl _ _ _ rfl 82 2 48 _ Tryz.underlying22 Tryz.infE rfl (by decide) w.heap.size u7 zs rfl hLB6 [.slice a1 L1 c1, .slice av Lv cv] (x.1, v) w6.heap.size (RS.of HXV.out _ _) rfl (one_E HXV.out) B6.size (fun g hg => Nat.lt_trans (hlt5 g hg) s6) rfl B6.size (by omega) (by decide) ?_; intro v8 w8 hLB8 hg8))
          have B8 : Below w.heap.size w w8 := B6.trans (grown_below hg8 B6.size (fun k hk => hLB6.fr k hk))
          go_roundw
          case rel => exact ⟨q + 1, true, zs ++ [(x.1, v)], by omega, by go_num, rfl, by simp only [List.length_append, List.length_cons, List.length_nil]; omega, hLB8, B8, by
            show _ = _
            rw [hI.out, HD.out, wiF, if_neg (by simp), if_pos heq]
            simp⟩
          case measure => simp [intOf]; omega
        · skip
          have HS6 := HS5 w5 B5
          rw [decide_eq_false heq] at HS6
          go_wp2_with (first
            | (go_at_call 40; refine HS6.mono ?_; rintro e w5 ⟨rfl, rfl⟩)
            | (refine wl_load rfl _ _ rfl wr.heap.size rfl _ _ hr5 _ Tryz.underlying82 rfl (by kernel_rfl) ?_)
            | (at_builtin; refine wl_push (mov_rs w00) rfl _ _ _ rfl 82 2 48 _ Tryz.underlying22 Tryz.infE rfl (by decide) w.heap.size u7 zs rfl hLB5 [.slice a1 L1 c1, .slice a2 L2 c2] x w5.heap.size (RS.of HXE.out _ _) rfl (one_E HXE.out) B5.size (fun g hg => Nat.lt_trans (hlt5 g hg) hs5) rfl B5.size (by omega) (by decide) ?_; intro v8 w8 hLB8 hg8))
          have B8 : Below w.heap.size w w8 := B5.trans (grown_below hg8 B5.size (fun k hk => hLB5.fr k hk))
          go_roundw
          case rel => exact ⟨q + 1, true, zs ++ [x], by omega, by go_num, rfl, by simp only [List.length_append, List.length_cons, List.length_nil]; omega, hLB8, B8, by
            show _ = _
            rw [hI.out, HD.out, wiF, if_neg (by simp), if_neg heq]
            simp⟩
          case measure => simp [intOf]; omega
    · have hLBr := hLB
      have he : ys.drop q = [] := List.drop_of_length_le (by have := HN.out; omega)
      cases put with
      | true =>
        go_wp2_with fail
        go_ret
        refine ⟨_, rfl, ?_, hB⟩
        rw [hI.out, he, wiF, if_pos rfl, List.append_nil]
        exact hLB
      | false =>
        go_wp2_with (at_builtin; refine wl_push (mov_rs w00) rfl _ _ _ rfl 82 2 48 _ Tryz.underlying22 Tryz.infE rfl (by decide) w.heap.size u7 zs rfl hLB [.slice an Ln cn, .slice av Lv cv] (n, v) wr.heap.size (RS.of HNV.out _ _) rfl (one_E HNV.out) hB.size hLB.lt rfl hB.size (by omega) (by decide) ?_; intro v8 w8 hLB8 hg8)
        have B8 : Below w.heap.size w w8 := hB.trans (grown_below hg8 hB.size (fun k hk => hLBr.fr k hk))
        go_ret
        refine ⟨_, rfl, ?_, B8⟩
        rw [hI.out, he, wiF, if_neg (by simp)]
        exact hLB8

set_option maxRecDepth 10000 in
set_option maxHeartbeats 2000000 in
theorem refWith_none (w00 w : World) (h00 : Below w00.heap.size w00 w) (ao : Option Addr) (c : Nat) (nv vv : Value) (n v : List Int) (hn : RT Any w00 nv n) (hv : RT Any w00 vv v) :
    Calls Tryz.prog 67 #[.slice ao 0 c, nv, vv] w fun e w' => ∃ v', e = .returned v' ∧ LB (RS w00) 82 2 w.heap.size w' v' (wiF n v false []) ∧ Below w.heap.size w w' := by
  obtain ⟨an, cn, rfl, hcn⟩ := hn.form
  obtain ⟨av, cv, rfl, hcv⟩ := hv.form
  have HNV := (show Hid (REnt Any w00 [.slice an n.length cn, .slice av v.length cv] (n, v)) from ⟨_, _, rfl, hn, hv⟩)
  have hB := below_alloc w (.cells #[] 82)
  have hLB : LB (RS w00) 82 2 w.heap.size (w.alloc (.cells #[] 82)) (.slice (some ⟨w.heap.size, 0, none⟩) 0 0) [] := LB.fresh _ _ _ _ _ (Nat.le_refl _)
  clear hn hv
  generalize n.length = Ln at *
  generalize v.length = Lv at *
  go_enter Tryz.func67, Tryz.ntmps67
  go_wp2_with fail
  obtain ⟨w1, hw1⟩ : ∃ w1, w1 = w.alloc (.cells #[] 82) := ⟨_, rfl⟩
  rw [← hw1] at hB hLB ⊢
  clear hw1
  refine wp_loop_rounds 1 ?_; rw [rounds_succ]
  go_wp2_with (at_builtin; refine wl_push (mov_rs w00) rfl _ _ _ rfl 82 2 48 _ Tryz.underlying22 Tryz.infE rfl (by decide) w.heap.size (.slice (some ⟨w.heap.size, 0, none⟩) 0 0) [] rfl hLB [.slice an Ln cn, .slice av Lv cv] (n, v) w1.heap.size (RS.of HNV.out _ _) rfl (one_E HNV.out) hB.size hLB.lt rfl hB.size (by decide) (by decide) ?_; intro v8 w8 hLB8 hg8)
  have B8 : Below w.heap.size w w8 := hB.trans (grown_below hg8 hB.size (fun k hk => hLB.fr k hk))
  go_ret
  refine ⟨_, rfl, ?_, B8⟩
  rw [wiF, if_neg (by simp)]
  exact hLB8
/-- The document's With. -/
theorem refWith_any (w00 w : World) (h00 : Below w00.heap.size w00 w) (ev : Value) (ys : List PEnt) (h : RL REnt 2 Any w00 ev ys) (h64 : ys.length ≤ 64) (nv vv : Value) (n v : List Int) (hn : RT Any w00 nv n) (hv : RT Any w00 vv v) :
    Calls Tryz.prog 67 #[ev, nv, vv] w fun e w' => ∃ v', e = .returned v' ∧ LB (RS w00) 82 2 w.heap.size w' v' (wiF n v false ys) ∧ Below w.heap.size w w' := by
  by_cases hl : 0 < ys.length
  · obtain ⟨b1, o1, c1, rfl, hc1, hm1, _, hb1, hx1⟩ := h.at hl
    exact refWith_some w00 w h00 b1 o1 c1 ys hl h64 hc1 hm1 (Nat.lt_of_lt_of_le hb1 h00.size) (fun i a ha => by obtain ⟨r, e1, e2, e3⟩ := hx1 i a ha; exact ⟨r, e1, rangeAt_block e2 (h00.block _ hb1), e3⟩) nv vv n v hn hv
  · obtain rfl : ys = [] := List.eq_nil_of_length_eq_zero (by omega)
    obtain ⟨ao, c, rfl, _⟩ := h.form
    exact refWith_none w00 w h00 ao c nv vv n v hn hv
end Go.Proofs.YtejkkhlblnepeaaGreat
end

section
set_option linter.unusedVariables false
set_option linter.unusedSimpArgs false
namespace Go.Proofs.YtejkkhlblnepeaaGreat
open Go.RowKit Oct Kvl

theorem flat_inv {k : Nat} : ∀ {rows : List (List Value)} {j : Nat} {v : Value}, (∀ r ∈ rows, r.length = k) → rows.flatten[j]? = some v → ∃ i r j', j = i * k + j' ∧ rows[i]? = some r ∧ r[j']? = some v
  | [], j, v, _, h => by simp at h
  | x :: rows, j, v, hk, h => by
    have hx := hk x (by simp)
    rw [List.flatten_cons] at h
    rcases Nat.lt_or_ge j x.length with hj | hj
    · rw [List.getElem?_append_left hj] at h
      exact ⟨0, x, j, by omega, rfl, h⟩
    · rw [List.getElem?_append_right hj] at h
      obtain ⟨i, r, j', e, h1, h2⟩ := flat_inv (rows := rows) (fun y hy => hk y (by simp [hy])) h
      refine ⟨i + 1, r, j', ?_, by simpa using h1, h2⟩
      rw [Nat.add_mul]
      omega
theorem owns_up {w : World} {B : Nat} {e : TypeId} {k : Nat} {v : Value} {n : Nat} {xs : List Value} (h : w.ownsRow 0 e k v n xs) (hf : Fr B v) : w.ownsRow B e k v n xs :=
  ⟨h.1, by
    rcases h.2 with h | ⟨g, cap, cur, rfl, _, r⟩
    · exact .inl h
    · exact .inr ⟨g, cap, cur, rfl, hf g rfl, r⟩⟩
theorem owns_dn {w : World} {B : Nat} {e : TypeId} {k : Nat} {v : Value} {n : Nat} {xs : List Value} (h : w.ownsRow B e k v n xs) : w.ownsRow 0 e k v n xs ∧ Fr B v :=
  ⟨⟨h.1, by
    rcases h.2 with h | ⟨g, cap, cur, h1, _, r⟩
    · exact .inl h
    · exact .inr ⟨g, cap, cur, h1, Nat.zero_le _, r⟩⟩, fun k hk => (h.lt k hk).1⟩
/-- Entries of another slice are put behind those of the call's own. -/
theorem wl_addN {w0 w : World} {B : Nat} {ops : Array Oper} {rest : List Oper} {o : Oper} {a : Act} {Q : Exit → Act → World → Prop} (hgd : o.guard = none) (s x : Operand)
    (ho : o.op = .call { callee := .builtin .append, args := #[s, x], argTypes := #[22, 22] }) (v : Value) (zs : List PEnt) (hs : a.eval s = v) (hL : LB (RS w0) 82 2 B w v zs) (hB : B ≤ w.heap.size)
    (b off m c : Nat) (src : List (List Value)) (us : List PEnt) (hx : a.eval x = .slice (some ⟨b, off, none⟩) m c) (hm : src.length = m) (h2 : ∀ r ∈ src, r.length = 2) (hc : ∀ (i : Nat) (r : List Value), src[i]? = some r → w.rangeAt b (off + i * 2) r)
    (hA : All2 (RS w0 Any w0) src us) (hb : zs.length + m ≤ 1000)
    (h : ∀ v' w', LB (RS w0) 82 2 B w' v' (zs ++ us) → w.grownBy w' v.ownBlock → wpList Tryz.prog ops Q rest (a.put o.dst v') w') : wpList Tryz.prog ops Q (o :: rest) a w := by
  obtain ⟨i0, hi, hz0, hz1, hz2⟩ := info_parts Tryz.infE
  obtain ⟨rows, h0, hown, hfr, hall⟩ := hL
  have hlen := hall.len
  have h1 : ∀ u ∈ src.flatten, u.oneCell' = true := by
    intro u hu
    obtain ⟨q, hq, huq⟩ := List.mem_flatten.1 hu
    obtain ⟨k, hk, rfl⟩ := List.getElem_of_mem hq
    have := hA.get (List.getElem?_eq_getElem hk) (List.getElem?_eq_getElem (by rw [← hA.len]; exact hk))
    exact one_RE (this w0 (Below.refl _ _)) u huq
  refine wpList_append_own w hgd s x _ ho B 82 i0 _ 2 48 Tryz.underlying22 hi hz0 hz1 hz2 rfl (by decide) v rows.length rows.flatten hs (owns_up hown hfr) ⟨b, off, none⟩ m c src.flatten hx (by rw [flat_len h2, hm])
    (fun j u hj => by
      obtain ⟨i, r, j', e, g1, g2⟩ := flat_inv h2 hj
      rw [Addr.add_mid, e, ← Nat.add_assoc]
      exact hc i r g1 j' u g2) h1 (by unfold maxLen; omega) (by omega) hB ?_
  intro v' w' hown' hgr _
  obtain ⟨o1, o2⟩ := owns_dn hown'
  refine h v' w' ⟨rows ++ src, fun r hr => ?_, ?_, o2, All2.app (hall.mono fun _ _ h => h) (hA.mono fun _ _ h => h)⟩ hgr
  · rcases List.mem_append.1 hr with hr | hr
    · exact h0 r hr
    · exact h2 r hr
  · rw [List.length_append, List.flatten_append, hm]
    exact o1

/-- The end of the document's Do. -/
def Rq (w : World) (x : List PEnt × Int × List Int) (e : Ending) (w' : World) : Prop :=
  ∃ v' vv, e = .returned (.tuple #[v', .agg #[.int .i64 x.2.1, vv]]) ∧ RL REnt 2 Any w' v' x.1 ∧ Rd w' vv x.2.2 ∧ Below w.heap.size w w'
theorem fI_get {n : List Int} {l : List PEnt} (h : rgtL l) : fI n l = if getR n l = none then -1 else (pos n l : Int) := by
  have := fst_pos (n := n) h.2.1
  split
  · rename_i hg
    rw [if_pos hg] at this
    exact fI_none this
  · rename_i hg
    rw [if_neg hg] at this
    exact fI_some this

set_option maxRecDepth 10000 in
set_option maxHeartbeats 8000000 in
/-- The document's Do. -/
theorem refDo_any (w : World) (v : Value) (ys : List PEnt) (h : RL REnt 2 Any w v ys) (r : List Value) (o : POp) (ho : ROp Any w r o) :
    Calls Tryz.prog 28 #[v, .agg r.toArray] w (Rq w (doL ys o)) := by
  have le := Nat.le_refl w.heap.size
  have hall := ho
  obtain ⟨ao, cap, rfl, hcap⟩ := h.form
  obtain ⟨k, on, oa, ob, u⟩ := o
  obtain ⟨vn, va, vb, rfl, rn, ra', rb'⟩ := ho
  simp only at rn ra' rb'
  obtain ⟨an, cn, rfl, hcn⟩ := rn.form
  obtain ⟨aa, ca, rfl, hca⟩ := ra'.form
  obtain ⟨ab, cb, rfl, hcb⟩ := rb'.form
  obtain ⟨w0, hw0⟩ : ∃ w0, w0 = (w.alloc (.cells #[.int .i64 k, .slice an on.length cn, .slice aa oa.length ca, .slice ab ob.length cb, .int .i64 u] 56)).alloc (.cells #[.int .i64 0, .slice none 0 0] 34) := ⟨_, rfl⟩
  have x0 : Row w0 w.heap.size 56 [.int .i64 k, .slice an on.length cn, .slice aa oa.length ca, .slice ab ob.length cb, .int .i64 u] := by rw [hw0]; exact rowA (Row.new w 56 _) _
  have r0 : Row w0 (w.heap.size + 1) 34 [.int .i64 0, .slice none 0 0] := by
    rw [hw0]
    have := Row.new (w.alloc (.cells #[.int .i64 k, .slice an on.length cn, .slice aa oa.length ca, .slice ab ob.length cb, .int .i64 u] 56)) 34 [.int .i64 0, .slice none 0 0]
    simpa using this
  have B0 : Below w.heap.size w w0 := by rw [hw0]; exact below_and (below_alloc _ _) le (below_alloc _ _)
  have hs0 : w.heap.size + 2 ≤ w0.heap.size := by rw [hw0]; simp
  have HE := (show Hid (∀ z, Below w.heap.size w z → RL REnt 2 Any z (.slice ao ys.length cap) ys) from fun z hu => h.mv mov_ent hu.size (Mv.below hu))
  have HO := (show Hid (∀ z, Below w.heap.size w z → ROp Any z [.int .i64 k, .slice an on.length cn, .slice aa oa.length ca, .slice ab ob.length cb, .int .i64 u] (k, on, oa, ob, u)) from fun z hu => mov_op _ _ _ _ _ _ hall hu.size (Mv.below hu))
  have HT := (show Hid (RT Any w (.slice an on.length cn) on ∧ RT Any w (.slice aa oa.length ca) oa ∧ RT Any w (.slice ab ob.length cb) ob) from ⟨rn, ra', rb'⟩)
  have HV := (show Hid (RL REnt 2 Any w (.slice ao ys.length cap) ys) from h)
  have FB := (show Hid (∀ {wa wb : World} (c : Int) (vv : Value) (l : List Int), doL ys (k, on, oa, ob, u) = (ys, c, l) → RT Any w vv l → Below w.heap.size w wa → wa.grownBy wb (some (w.heap.size + 1)) → Rq w (doL ys (k, on, oa, ob, u)) (.returned (.tuple #[.slice ao ys.length cap, .agg #[.int .i64 c, vv]])) wb) from fun {wa wb} c vv l hd hv hb hg => by
    have hB := hb.trans (grown_below hg hb.size (fun j hj => by cases hj; omega))
    exact ⟨_, vv, by rw [hd], by rw [hd]; exact HE.out wb hB, by rw [hd]; exact (hv.mv (Mv.below hB)).1, hB⟩)
  have FL := (show Hid (∀ {wa wb : World} (vx : Value) (zs : List PEnt) (B : Nat), doL ys (k, on, oa, ob, u) = (zs, 0, []) → LB (RS w) 82 2 B wa vx zs → w.heap.size + 2 ≤ B → Below w.heap.size w wa → wa.grownBy wb (some (w.heap.size + 1)) → Rq w (doL ys (k, on, oa, ob, u)) (.returned (.tuple #[vx, .agg #[.int .i64 0, .slice none 0 0]])) wb) from fun {wa wb} vx zs B hd hL h2 hb hg => by
    have hB := hb.trans (grown_below hg hb.size (fun j hj => by cases hj; omega))
    have hL' := hL.grownS hg (fun e => by have := hL.fr _ e; omega)
    exact ⟨vx, _, by rw [hd], by rw [hd]; exact hL'.rs hB, by rw [hd]; exact (RT.nil Any wb).1, hB⟩)
  have hR := refRight_any w0 _ ys (HE.out w0 B0)
  clear hall rn ra' rb' hcn hca hcb h
  go_enter Tryz.func28, Tryz.ntmps28
  go_upto_region 1 with fail
  rw [← hw0]
  clear hw0
  by_cases hr : rgtL ys
  rotate_left
  · rw [decide_eq_false hr] at hR
    have hd := (show Hid (_ = _) from do_bad (l := ys) (o := (k, on, oa, ob, u)) (fun h => hr h.1))
    go_wp2_with (first
      | (go_at_call 36; refine hR.mono ?_; rintro e w1 ⟨rfl, hb1⟩; have r1 := r0.below hb1)
      | (refine wl_store rfl _ _ _ rfl (w.heap.size + 1) [.int .i64 5, .slice none 0 0] rfl rfl _ _ r1 rfl (by kernel_rfl) (one_res rfl) ?_; intro w9 hr9 hg9))
    refine bodyPost_ret (results_tc rfl _ _ (w.heap.size + 1) _ _ (0, 0) _ (by rfl) hr9.out Tryz.underlying34 rfl (by kernel_rfl)) rfl ?_
    exact FB.out 5 _ [] hd.out (RT.nil _ _) (below_and B0 le hb1) hg9
  rw [decide_eq_true hr] at hR
  have HP := (show Hid (∀ z, Below w.heap.size w z → Calls Tryz.prog 65 #[.agg #[.int .i64 k, .slice an on.length cn, .slice aa oa.length ca, .slice ab ob.length cb, .int .i64 u]] z fun e w' => e = .returned (.bool (decide (wok (k, on, oa, ob, u)))) ∧ Below z.heap.size z w') from fun z hz => rightOp_any z _ _ (HO.out z hz))
  by_cases hw : wok (k, on, oa, ob, u)
  rotate_left
  · rw [decide_eq_false hw] at HP
    have hd := (show Hid (_ = _) from do_bad (l := ys) (o := (k, on, oa, ob, u)) (fun h => hw h.2.1))
    go_wp2_with (first
      | (go_at_call 36; refine hR.mono ?_; rintro e w1 ⟨rfl, hb1⟩; have x1 := x0.below hb1; have B1 := below_and B0 le hb1)
      | (refine wl_load_w (by rfl) _ _ rfl w.heap.size rfl _ _ x1 _ Tryz.underlying56 rfl (by kernel_rfl) ?_)
      | (go_at_call 65; refine (HP.out w1 B1).mono ?_; rintro e w2 ⟨rfl, hb2⟩; have r2 := (r0.below hb1).below hb2)
      | (refine wl_store rfl _ _ _ rfl (w.heap.size + 1) [.int .i64 5, .slice none 0 0] rfl rfl _ _ r2 rfl (by kernel_rfl) (one_res rfl) ?_; intro w9 hr9 hg9))
    refine bodyPost_ret (results_tc rfl _ _ (w.heap.size + 1) _ _ (0, 0) _ (by rfl) hr9.out Tryz.underlying34 rfl (by kernel_rfl)) rfl ?_
    exact FB.out 5 _ [] hd.out (RT.nil _ _) (below_and B1 le hb2) hg9
  rw [decide_eq_true hw] at HP
  by_cases hk : k ≤ 4
  rotate_left
  · have hd := (show Hid (_ = _) from do_bad (l := ys) (o := (k, on, oa, ob, u)) (fun h => hk h.2.2))
    have hk' : 4 < k := by omega
    go_wp2_with (first
      | (go_at_call 36; refine hR.mono ?_; rintro e w1 ⟨rfl, hb1⟩; have x1 := x0.below hb1; have B1 := below_and B0 le hb1)
      | (refine wl_load_w (by rfl) _ _ rfl w.heap.size rfl _ _ x1 _ Tryz.underlying56 rfl (by kernel_rfl) ?_)
      | (go_at_call 65; refine (HP.out w1 B1).mono ?_; rintro e w2 ⟨rfl, hb2⟩; have r2 := (r0.below hb1).below hb2; have c2 := (x1.below hb2).cell (j := 0) rfl)
      | (refine wl_store rfl _ _ _ rfl (w.heap.size + 1) [.int .i64 5, .slice none 0 0] rfl rfl _ _ r2 rfl (by kernel_rfl) (one_res rfl) ?_; intro w9 hr9 hg9))
    refine bodyPost_ret (results_tc rfl _ _ (w.heap.size + 1) _ _ (0, 0) _ (by rfl) hr9.out Tryz.underlying34 rfl (by kernel_rfl)) rfl ?_
    exact FB.out 5 _ [] hd.out (RT.nil _ _) (below_and B1 le hb2) hg9
  have hk' : decide (4 < k) = false := by simp; omega
  have hd := (show Hid (doL ys (k, on, oa, ob, u) = doR ys (k, on, oa, ob, u)) from do_yes (l := ys) (o := (k, on, oa, ob, u)) hr hw hk)
  go_upto_region 3 with (first
    | (go_at_call 36; refine hR.mono ?_; rintro e w1 ⟨rfl, hb1⟩; have x1 := x0.below hb1; have B1 := below_and B0 le hb1)
    | (refine wl_load_w (by rfl) _ _ rfl w.heap.size rfl _ _ x1 _ Tryz.underlying56 rfl (by kernel_rfl) ?_)
    | (go_at_call 65; refine (HP.out w1 B1).mono ?_; rintro e w2 ⟨rfl, hb2⟩; have r2 := (r0.below hb1).below hb2; have c2 := (x1.below hb2).cell (j := 0) rfl))
  have x2 := x1.below hb2
  have B2 := below_and B1 le hb2
  have s2 : w.heap.size + 2 ≤ w2.heap.size := by have := hb1.size; have := hb2.size; omega
  clear hR HP r0 x0 x1 B0 B1 hb1 hb2 c2 hk' hs0
  have hF := refFind_any w2 _ ys (HE.out w2 B2) _ on (HT.out.1.mv (Mv.below B2)).1
  rw [fI_get hr] at hF
  have b1 := x2.cell (j := 1) rfl
  go_upto_region 4 with (go_at_call 66; refine hF.mono ?_; rintro e w3 ⟨rfl, hb3⟩)
  have x3 := x2.below hb3
  have r3 := r2.below hb3
  have B3 := below_and B2 le hb3
  have s3 : w.heap.size + 2 ≤ w3.heap.size := by have := hb3.size; omega
  have d0 := x3.cell (j := 0) rfl
  have d1 := x3.cell (j := 1) rfl
  have d2 := x3.cell (j := 2) rfl
  have d3 := x3.cell (j := 3) rfl
  clear hF b1 x2 r2 B2 s2 hb3
  have HRG := (show Hid (rgtL ys) from hr)
  have HD := hd
  have HK := (show Hid ((1 ≤ k) ∧ k ≤ 4) from ⟨hw.1.1, hk⟩)
  clear hr hw hk hd
  have HW1 := (show Hid (Calls Tryz.prog 67 #[.slice ao ys.length cap, .slice an on.length cn, .slice aa oa.length ca] w3 fun e w' => ∃ v', e = .returned v' ∧ LB (RS w) 82 2 w3.heap.size w' v' (putR on oa ys) ∧ Below w3.heap.size w3 w') by
    have := refWith_any w w3 B3 _ ys HV.out HRG.out.1 _ _ on oa HT.out.1 HT.out.2.1
    rw [wi_put HRG.out.2.1] at this
    exact this)
  cases hg : getR on ys with
  | none =>
    rw [if_pos rfl]
    have HG := (show Hid (getR on ys = none) from hg)
    clear hg
    by_cases k2 : k = 2
    rotate_left
    · have k2' : (k != 2) = true := by simp [k2]
      have HDD := (show Hid (doL ys (k, on, oa, ob, u) = (ys, 1, [])) by show _ = _; rw [HD.out]; unfold doR; simp only; rw [HG.out]; exact if_neg k2)
      clear k2
      go_wp2_with (first
        | (refine wl_store rfl _ _ _ rfl (w.heap.size + 1) [.int .i64 1, .slice none 0 0] rfl rfl _ _ r3 rfl (by kernel_rfl) (one_res rfl) ?_; intro w9 hr9 hg9))
      refine bodyPost_ret (results_tc rfl _ _ (w.heap.size + 1) _ _ (0, 0) _ (by rfl) hr9.out Tryz.underlying34 rfl (by kernel_rfl)) rfl ?_
      exact FB.out 1 _ [] HDD.out (RT.nil _ _) B3 hg9
    subst k2
    by_cases h64 : ys.length = 64
    · have HDD := (show Hid (doL ys (2, on, oa, ob, u) = (ys, 3, [])) by show _ = _; rw [HD.out]; unfold doR; simp only; rw [HG.out]; simp only [if_true]; exact if_pos (by omega))
      have h64' : ((ys.length : Int) == 64) = true := by simp [h64]
      clear h64
      go_wp2_with (first
        | (refine wl_store rfl _ _ _ rfl (w.heap.size + 1) [.int .i64 3, .slice none 0 0] rfl rfl _ _ r3 rfl (by kernel_rfl) (one_res rfl) ?_; intro w9 hr9 hg9))
      refine bodyPost_ret (results_tc rfl _ _ (w.heap.size + 1) _ _ (0, 0) _ (by rfl) hr9.out Tryz.underlying34 rfl (by kernel_rfl)) rfl ?_
      exact FB.out 3 _ [] HDD.out (RT.nil _ _) B3 hg9
    have HDD := (show Hid (doL ys (2, on, oa, ob, u) = (putR on oa ys, 0, [])) by show _ = _; rw [HD.out]; unfold doR; simp only; rw [HG.out]; simp only [if_true]; exact if_neg (by have := HRG.out.1; omega))
    have h64' : ((ys.length : Int) == 64) = false := by simp; omega
    clear h64
    go_wp2_with (first
      | (go_at_call 67; refine HW1.out.mono ?_; rintro e w4 ⟨v4, rfl, hL4, hb4⟩; have r4 := r3.below hb4)
      | (refine wl_store rfl _ _ _ rfl (w.heap.size + 1) [.int .i64 0, .slice none 0 0] rfl rfl _ _ r4 rfl (by kernel_rfl) (one_res rfl) ?_; intro w9 hr9 hg9))
    refine bodyPost_ret (results_tc rfl _ _ (w.heap.size + 1) _ _ (0, 0) _ (by rfl) hr9.out Tryz.underlying34 rfl (by kernel_rfl)) rfl ?_
    exact FL.out _ _ _ HDD.out hL4 s3 (below_and B3 le hb4) hg9
  | some uu =>
    rw [if_neg (by simp)]
    have HG := (show Hid (getR on ys = some uu) from hg)
    have hP := get_some hg
    clear hg
    obtain ⟨p, hp⟩ : ∃ p, p = pos on ys := ⟨_, rfl⟩
    have HDEL := (show Hid (delR on ys = ys.take p ++ ys.drop (p + 1)) by show _ = _; rw [hp]; exact del_old HG.out)
    rw [← hp] at hP ⊢
    clear hp
    have hpN : p < ys.length := (List.getElem?_eq_some_iff.1 hP).1
    obtain ⟨rows, ⟨hr2, hcase⟩, hA⟩ := HV.out
    have hlen := hA.len
    rcases hcase with ⟨ao', cap', _, e2, _⟩ | ⟨b, off, cap', hve, hcc, hmm, hpos, _, hbb, hcells⟩
    · rw [e2] at hlen; simp at hlen; omega
    injection hve with e1 e2 e3
    subst e1 e3
    clear e2
    rw [hlen] at hcc
    have hrp := List.getElem?_eq_getElem (l := rows) (i := p) (by omega)
    have hrng := hcells p _ hrp
    obtain ⟨s1, s2, hrr, t1, t2⟩ := hA.get hrp hP
    rw [hrr] at hrng
    simp only at t1 t2
    obtain ⟨a2, c2, rfl, hc2⟩ := t2.form
    have m1 : w3.cell? ⟨b, off + p * 2 + 1, none⟩ = some (.slice a2 uu.length c2) := (B3.cell (p := ⟨b, off + p * 2 + 1, none⟩) hbb).trans (hrng 1 _ rfl)
    have HSR := (show Hid ((∀ r ∈ rows, r.length = 2) ∧ (∀ (i : Nat) (r : List Value), rows[i]? = some r → w.rangeAt b (off + i * 2) r) ∧ All2 (REnt Any w) rows ys ∧ rows.length = ys.length) from ⟨hr2, hcells, hA, hlen⟩)
    have hp0 : decide ((p : Int) < 0) = false := by simp
    have HT2 := (show Hid (RT Any w (.slice a2 uu.length c2) uu) from t2)
    have h64 := HRG.out.1
    clear hrng t1 t2 hP hr2 hcells hA hlen hpos hrr hrp
    have q0 := r3.cell (j := 0) rfl
    have q1 := r3.cell (j := 1) rfl
    have z0 := r3.frozen 0
    have z1 := r3.frozen 1
    by_cases k1 : k = 1
    · subst k1
      have HDD := (show Hid (doL ys (1, on, oa, ob, u) = (ys, 0, uu)) by show _ = _; rw [HD.out]; unfold doR; simp only; rw [HG.out]; rfl)
      go_wp2_with fail
      go_region
      have hr9 := (r3.set 0 (.int .i64 0)).set 1 (.slice a2 uu.length c2)
      have hg9 := grown_to_drew (grown_trans (grown_set w3 (w.heap.size + 1) 0 (.int .i64 0)) (grown_set _ (w.heap.size + 1) 1 (.slice a2 uu.length c2)) (.inl rfl))
      go_wp2_with fail
      refine bodyPost_ret (results_tc rfl _ _ (w.heap.size + 1) _ _ (0, 0) _ (by rfl) hr9 Tryz.underlying34 rfl (by kernel_rfl)) rfl ?_
      exact FB.out 0 _ uu HDD.out HT2.out B3 hg9
    have k1' : (k == 1) = false := by simp [k1]
    by_cases k2 : k = 2
    · subst k2
      have HDD := (show Hid (doL ys (2, on, oa, ob, u) = (putR on oa ys, 0, [])) by show _ = _; rw [HD.out]; unfold doR; simp only; rw [HG.out]; rfl)
      clear q0 q1 z0 z1 m1 k1 k1'
      go_wp2_with (first
        | (go_at_call 67; refine HW1.out.mono ?_; rintro e w4 ⟨v4, rfl, hL4, hb4⟩; have r4 := r3.below hb4)
        | (refine wl_store rfl _ _ _ rfl (w.heap.size + 1) [.int .i64 0, .slice none 0 0] rfl rfl _ _ r4 rfl (by kernel_rfl) (one_res rfl) ?_; intro w9 hr9 hg9))
      refine bodyPost_ret (results_tc rfl _ _ (w.heap.size + 1) _ _ (0, 0) _ (by rfl) hr9.out Tryz.underlying34 rfl (by kernel_rfl)) rfl ?_
      exact FL.out _ _ _ HDD.out hL4 s3 (below_and B3 le hb4) hg9
    have k2' : (k == 2) = false := by simp [k2]
    by_cases k3 : k = 3
    · subst k3
      clear k1 k2 k1' k2'
      have HS := (show Hid (∀ z, Below w.heap.size w z → Calls Tryz.prog 40 #[.slice a2 uu.length c2, .slice aa oa.length ca] z fun e w' => e = .returned (.bool (decide (uu = oa))) ∧ w' = z) from fun z hz => same_any z _ _ _ _ (HT2.out.mv (Mv.below hz)).1 (HT.out.2.1.mv (Mv.below hz)).1)
      go_wp2_with fail
      by_cases hq : uu = oa
      · rw [decide_eq_true hq] at HS
        have HDD := (show Hid (doL ys (3, on, oa, ob, u) = (putR on ob ys, 0, [])) by show _ = _; rw [HD.out]; unfold doR; simp only; rw [HG.out]; exact if_pos hq)
        clear hq
        go_big_quiet ((go_at_call 40; exact quiet_as (HS.out _ (bel_dnE B3 _)) rfl))
        have B4 := bel_dnE B3 nq
        have r4 : Row (w3.drewN nq) (w.heap.size + 1) 34 [.int .i64 0, .slice none 0 0] := r3
        have f1 : (w3.drewN nq).cell? ⟨w.heap.size, 1, none⟩ = some (.slice an on.length cn) := d1
        have f3 : (w3.drewN nq).cell? ⟨w.heap.size, 3, none⟩ = some (.slice ab ob.length cb) := d3
        have s4 : w.heap.size + 2 ≤ (w3.drewN nq).heap.size := s3
        obtain ⟨w4, hw4⟩ : ∃ w4, w4 = w3.drewN nq := ⟨_, rfl⟩
        rw [← hw4] at B4 r4 f1 f3 s4 ⊢
        have HW2 := refWith_any w w4 B4 _ ys HV.out HRG.out.1 _ _ on ob HT.out.1 HT.out.2.2
        rw [wi_put HRG.out.2.1] at HW2
        clear q0 q1 z0 z1 m1 d1 d2 d3 hw4 HS
        go_wp2_with (first
          | (go_at_call 67; refine HW2.mono ?_; rintro e w5 ⟨v5, rfl, hL5, hb5⟩; have r5 := r4.below hb5)
          | (refine wl_store rfl _ _ _ rfl (w.heap.size + 1) [.int .i64 0, .slice none 0 0] rfl rfl _ _ r5 rfl (by kernel_rfl) (one_res rfl) ?_; intro w9 hr9 hg9))
        refine bodyPost_ret (results_tc rfl _ _ (w.heap.size + 1) _ _ (0, 0) _ (by rfl) hr9.out Tryz.underlying34 rfl (by kernel_rfl)) rfl ?_
        exact FL.out _ _ _ HDD.out hL5 s4 (below_and B4 le hb5) hg9
      · rw [decide_eq_false hq] at HS
        have HDD := (show Hid (doL ys (3, on, oa, ob, u) = (ys, 2, uu)) by show _ = _; rw [HD.out]; unfold doR; simp only; rw [HG.out]; exact if_neg hq)
        clear hq
        go_big_quiet ((go_at_call 40; exact quiet_as (HS.out _ (bel_dnE B3 _)) rfl))
        have B4 := bel_dnE B3 nq
        have r4 : Row (w3.drewN nq) (w.heap.size + 1) 34 [.int .i64 0, .slice none 0 0] := r3
        have m4 : (w3.drewN nq).cell? ⟨b, off + p * 2 + 1, none⟩ = some (.slice a2 uu.length c2) := m1
        obtain ⟨w4, hw4⟩ : ∃ w4, w4 = w3.drewN nq := ⟨_, rfl⟩
        rw [← hw4] at B4 r4 m4 ⊢
        clear q0 q1 z0 z1 m1 d1 d2 d3 hw4 HS
        have q0 := r4.cell (j := 0) rfl
        have q1 := r4.cell (j := 1) rfl
        have z0 := r4.frozen 0
        have z1 := r4.frozen 1
        go_wp2_with fail
        go_region
        have hr9 := (r4.set 0 (.int .i64 2)).set 1 (.slice a2 uu.length c2)
        have hg9 := grown_to_drew (grown_trans (grown_set w4 (w.heap.size + 1) 0 (.int .i64 2)) (grown_set _ (w.heap.size + 1) 1 (.slice a2 uu.length c2)) (.inl rfl))
        go_wp2_with fail
        refine bodyPost_ret (results_tc rfl _ _ (w.heap.size + 1) _ _ (0, 0) _ (by rfl) hr9 Tryz.underlying34 rfl (by kernel_rfl)) rfl ?_
        exact FB.out 2 _ uu HDD.out HT2.out B4 hg9
    have k3' : (k == 3) = false := by simp [k3]
    have HDD := (show Hid (doL ys (k, on, oa, ob, u) = (ys.take p ++ ys.drop (p + 1), 0, [])) by show _ = _; rw [HD.out]; unfold doR; simp only; rw [HG.out]; simp only; rw [if_neg k1, if_neg k2, if_neg k3, HDEL.out])
    clear q0 q1 z0 z1 m1 d1 d2 d3 k1 k2 k3
    have hF0 : LB (RS w) 82 2 w3.heap.size (w3.alloc (.cells #[] 82)) (.slice (some ⟨w3.heap.size, 0, none⟩) 0 0) [] := LB.fresh _ _ _ _ _ (Nat.le_refl _)
    have B4 : Below w.heap.size w (w3.alloc (.cells #[] 82)) := below_and B3 le (below_alloc _ _)
    have hs4 : w3.heap.size ≤ (w3.alloc (.cells #[] 82)).heap.size := (below_alloc w3 (.cells #[] 82)).size
    have r4 : Row (w3.alloc (.cells #[] 82)) (w.heap.size + 1) 34 [.int .i64 0, .slice none 0 0] := r3.below (below_alloc _ _)
    have HTK := (show Hid ((rows.take p).length = p ∧ (∀ r ∈ rows.take p, r.length = 2) ∧ (∀ z, Below w.heap.size w z → ∀ (i : Nat) (r : List Value), (rows.take p)[i]? = some r → z.rangeAt b (off + i * 2) r) ∧ All2 (RS w Any w) (rows.take p) (ys.take p)) from by
      obtain ⟨g1, g2, g3, g4⟩ := HSR.out
      refine ⟨by rw [List.length_take]; omega, fun r hr => g1 r (List.mem_of_mem_take hr), fun z hz i r hi => ?_, (g3.take p).mono fun r y h => RS.of h _ _⟩
      rw [List.getElem?_take] at hi
      split at hi
      · exact rangeAt_block (g2 i r hi) (hz.block b hbb)
      · cases hi)
    have HDR := (show Hid ((rows.drop (p + 1)).length = ys.length - (p + 1) ∧ (∀ r ∈ rows.drop (p + 1), r.length = 2) ∧ (∀ z, Below w.heap.size w z → ∀ (i : Nat) (r : List Value), (rows.drop (p + 1))[i]? = some r → z.rangeAt b (off + (p + 1) * 2 + i * 2) r) ∧ All2 (RS w Any w) (rows.drop (p + 1)) (ys.drop (p + 1))) from by
      obtain ⟨g1, g2, g3, g4⟩ := HSR.out
      refine ⟨by rw [List.length_drop]; omega, fun r hr => g1 r (List.mem_of_mem_drop hr), fun z hz i r hi => ?_, (g3.drop (p + 1)).mono fun r y h => RS.of h _ _⟩
      rw [List.getElem?_drop] at hi
      have := rangeAt_block (g2 _ r hi) (hz.block b hbb)
      rw [Nat.add_mul, ← Nat.add_assoc] at this
      exact this)
    go_upto_region 18 with (at_builtin; refine wl_addN (w0 := w) (B := w3.heap.size) rfl _ _ rfl (.slice (some ⟨w3.heap.size, 0, none⟩) 0 0) [] rfl hF0 hs4 b off p cap (rows.take p) (ys.take p) rfl HTK.out.1 HTK.out.2.1 (HTK.out.2.2.1 _ B4) HTK.out.2.2.2 (by simp only [List.length_nil]; omega) ?_; intro v5 w5 hL5 hg5)
    have hg5 : (w3.alloc (.cells #[] 82)).grownBy w5 (some w3.heap.size) := hg5
    have B5 : Below w.heap.size w w5 := B4.trans (grown_below hg5 B4.size (fun j hj => by cases hj; omega))
    have r5 := r4.grown hg5 (fun e => by injection e with e; omega)
    have s5 : w3.heap.size ≤ w5.heap.size := Nat.le_trans hs4 hg5.size
    rw [List.nil_append] at hL5
    have htl : (ys.take p).length = p := by rw [List.length_take]; omega
    have HTL := (show Hid ((ys.take p).length = p) from htl)
    clear htl hF0 B4 r4 hg5 hs4
    by_cases hci : cap = p + 1
    · have hdn : ys.drop (p + 1) = [] := List.drop_of_length_le (by omega)
      rw [hdn] at HDD
      have hNp : ys.length - (p + 1) = 0 := by omega
      have HNP := (show Hid (ys.length - (p + 1) = 0) from hNp)
      clear hdn hNp
      subst hci
      go_wp2_with (first
        | (at_builtin; refine wl_addN (w0 := w) (B := w3.heap.size) rfl _ _ rfl v5 (ys.take p) rfl hL5 s5 b off (ys.length - (p + 1)) 0 [] [] (by simp [Act.eval, Act.put]; omega) HNP.out.symm (fun r hr => by cases hr) (fun i r hr => by simp at hr) trivial (by rw [HTL.out]; omega) ?_; intro v6 w6 hL6 hg6; have B6 : Below w.heap.size w w6 := B5.trans (grown_below hg6 B5.size (fun j hj => Nat.le_trans B3.size (hL5.fr j hj))); have r6 := r5.grown hg6 (fun e => by have := hL5.fr _ e; omega))
        | (refine wl_store rfl _ _ _ rfl (w.heap.size + 1) [.int .i64 0, .slice none 0 0] rfl rfl _ _ r6 rfl (by kernel_rfl) (one_res rfl) ?_; intro w9 hr9 hg9))
      refine bodyPost_ret (results_tc rfl _ _ (w.heap.size + 1) _ _ (0, 0) _ (by rfl) hr9.out Tryz.underlying34 rfl (by kernel_rfl)) rfl ?_
      exact FL.out _ _ _ HDD.out hL6 s3 B6 hg9
    · go_wp2_with (first
        | (at_builtin; refine wl_addN (w0 := w) (B := w3.heap.size) rfl _ _ rfl v5 (ys.take p) rfl hL5 s5 b (off + (p + 1) * 2) (ys.length - (p + 1)) (cap - (p + 1)) (rows.drop (p + 1)) (ys.drop (p + 1)) (by simp [Act.eval, Act.put, hci]) HDR.out.1 HDR.out.2.1 (HDR.out.2.2.1 _ B5) HDR.out.2.2.2 (by rw [HTL.out]; omega) ?_; intro v6 w6 hL6 hg6; have B6 : Below w.heap.size w w6 := B5.trans (grown_below hg6 B5.size (fun j hj => Nat.le_trans B3.size (hL5.fr j hj))); have r6 := r5.grown hg6 (fun e => by have := hL5.fr _ e; omega))
        | (refine wl_store rfl _ _ _ rfl (w.heap.size + 1) [.int .i64 0, .slice none 0 0] rfl rfl _ _ r6 rfl (by kernel_rfl) (one_res rfl) ?_; intro w9 hr9 hg9))
      refine bodyPost_ret (results_tc rfl _ _ (w.heap.size + 1) _ _ (0, 0) _ (by rfl) hr9.out Tryz.underlying34 rfl (by kernel_rfl)) rfl ?_
      exact FL.out _ _ _ HDD.out hL6 s3 B6 hg9
end Go.Proofs.YtejkkhlblnepeaaGreat
end

section
set_option linter.unusedVariables false
set_option linter.unusedSimpArgs false
namespace Go.Proofs.YtejkkhlblnepeaaGreat
open Go.RowKit Oct Kvl

section
variable {P : Program}
theorem step_load {ops : Array Oper} {o : Oper} {a : Act} {w : World} {K : Act → World → Prop} {Q : Exit → Act → World → Prop} {E : Prop} (hgd : o.guard = none) (ty : TypeId) (x : Operand) (ho : o.op = .load ty x)
    (b : Nat) (hx : a.eval x = .pointer (some ⟨b, 0, none⟩)) (t : TypeId) (xs : List Value) (h : Row w b t xs) (d : TypeDesc) (hu : P.underlying ty = some d) (hd : (match d with | .struct _ | .array _ _ => true | _ => false) = true)
    (hi : (P.info? ty).map (·.size) = some xs.length) (k : K (a.put o.dst (.agg xs.toArray)) w) : if Region.wanted o (yielded ops a.tmps) = true then Oper.wp P o a w K Q else E := by
  rw [if_pos (wanted_none hgd)]
  exact wp_load_row ty x ho b hx t xs.toArray (0, 0) d h hu hd (by simpa using hi) k
theorem step_store {ops : Array Oper} {o : Oper} {a : Act} {w : World} {K : Act → World → Prop} {Q : Exit → Act → World → Prop} {E : Prop} (hgd : o.guard = none) (ty : TypeId) (x y : Operand) (ho : o.op = .store ty x y)
    (b : Nat) (ys : List Value) (hx : a.eval x = .pointer (some ⟨b, 0, none⟩)) (hy : a.eval y = .agg ys.toArray) (t : TypeId) (xs : List Value) (h : Row w b t xs) (hl : xs.length = ys.length)
    (hi : (P.info? ty).map (·.size) = some ys.length) (h1 : ∀ v ∈ ys, v.oneCell' = true) (k : ∀ w', Hid (Row w' b t ys) → w.grownBy w' (some b) → K (a.put o.dst undef) w') : if Region.wanted o (yielded ops a.tmps) = true then Oper.wp P o a w K Q else E := by
  rw [if_pos (wanted_none hgd)]
  exact wp_store_row ty x y ho b ys.toArray hx hy t xs.toArray h (by simpa using hi) (by simpa using hl) (all_oneCell_toArray h1) (k _ (h.setRow ys) (grown_setRow _ _ _))
end
/-- A byte is set somewhere: a text of the call's own is still one, of the same length. -/
theorem OT.byte {G : Nat → Prop} {w : World} {v : Value} {l : List Int} (h : OT G w v l) (g j : Nat) (x : Int) (hx : 0 ≤ x ∧ x ≤ 255) : ∃ l', l'.length = l.length ∧ OT G (w.setCell ⟨g, j, none⟩ (.int .u8 x)) v l' := by
  by_cases hg : v.ownBlock = some g
  · obtain ⟨hown, hb, hG⟩ := h
    refine ⟨l.set j x, by simp, ?_, fun z hz => ?_, hG⟩
    · obtain ⟨h1, h2⟩ := hown
      rcases h2 with ⟨rfl, _⟩ | ⟨g', cap, cur, rfl, h0, hh, n1, n2, n3, n4⟩
      · simp [Value.ownBlock] at hg
      · simp [Value.ownBlock] at hg
        subst hg
        have q : Row w g' 5 cur.toList := by unfold Row; simpa using hh
        have q' := q.set j (.int .u8 x)
        have hbc : bc (l.set j x) = (bc l).set j (.int .u8 x) := by unfold bc; rw [List.map_set]
        have hn : (bc (l.set j x)).length = (bc l).length := by rw [hbc, List.length_set]
        show World.ownsRow _ 0 _ 1 _ (bc (l.set j x)).length _
        rw [hn, hbc]
        refine ⟨by simp, .inr ⟨g', cap, (cur.toList.set j (.int .u8 x)).toArray, rfl, h0, q', n1, n2, by simpa using n3, ?_⟩⟩
        rw [List.toList_toArray, List.take_set, n4]
    · rcases List.mem_or_eq_of_mem_set hz with hz | rfl
      · exact hb z hz
      · exact hx
  · refine ⟨l, rfl, h.1.grown (grown_set w g j (.int .u8 x)) (fun k hk => ?_), h.2.1, h.2.2⟩
    cases hk
    exact hg
end Go.Proofs.YtejkkhlblnepeaaGreat
end

section
set_option linter.unusedVariables false
set_option linter.unusedSimpArgs false
namespace Go.Proofs.YtejkkhlblnepeaaGreat
open Go.RowKit Oct Kvl

theorem xor_rng {y : Int} (h : 0 ≤ y ∧ y ≤ 255) : 0 ≤ bits .xor .u8 y 255 ∧ bits .xor .u8 y 255 ≤ 255 := by
  rw [u8_xor y 255 h.1 (by omega) (by decide) (by decide)]
  have : y.toNat ^^^ (255 : Int).toNat < 2 ^ 8 := Nat.xor_lt_two_pow (by omega) (by decide)
  omega
theorem OT.byteR {G : Nat → Prop} {w w' : World} {v : Value} {l : List Int} (h : OT G w v l) {k j : Nat} {cur : List Value} {x : Int} (hk : Row w k 5 cur) (hk' : Row w' k 5 (cur.set j (.int .u8 x))) (hg' : w.grownBy w' (some k)) (hx : 0 ≤ x ∧ x ≤ 255) : ∃ l', l'.length = l.length ∧ OT G w' v l' := by
  by_cases hg : v.ownBlock = some k
  · obtain ⟨hown, hb, hG⟩ := h
    refine ⟨l.set j x, by simp, ?_, fun z hz => ?_, hG⟩
    · obtain ⟨h1, h2⟩ := hown
      rcases h2 with ⟨rfl, _⟩ | ⟨g', cap, cur', rfl, h0, hh, n1, n2, n3, n4⟩
      · simp [Value.ownBlock] at hg
      · simp [Value.ownBlock] at hg
        subst hg
        have q : Row w g' 5 cur'.toList := by unfold Row; simpa using hh
        obtain rfl := q.uniq hk
        have hbc : bc (l.set j x) = (bc l).set j (.int .u8 x) := by unfold bc; rw [List.map_set]
        have hn : (bc (l.set j x)).length = (bc l).length := by rw [hbc, List.length_set]
        show World.ownsRow _ 0 _ 1 _ (bc (l.set j x)).length _
        rw [hn, hbc]
        refine ⟨by simp, .inr ⟨g', cap, (cur'.toList.set j (.int .u8 x)).toArray, rfl, h0, hk', n1, n2, by simpa using n3, ?_⟩⟩
        rw [List.toList_toArray, List.take_set, n4]
    · rcases List.mem_or_eq_of_mem_set hz with hz | rfl
      · exact hb z hz
      · exact hx
  · refine ⟨l, rfl, h.1.grown hg' (fun j hj => ?_), h.2.1, h.2.2⟩
    cases hj
    exact hg
/-- Rows that stay as they are, and texts of the call's own of which only the length stays. -/
structure Zap (B : Nat) (w0 w : World) (rs : List (Nat × TypeId × List Value)) (ts : List (Value × Nat)) : Prop where
  bel : Below B w0 w
  low : B ≤ w0.heap.size
  row : ∀ r ∈ rs, r.2.1 ≠ 5 ∧ Row w r.1 r.2.1 r.2.2
  txt : ∀ p ∈ ts, ∃ l : List Int, l.length = p.2 ∧ OT (From B) w p.1 l
/-- A text of them, at a place. -/
theorem Zap.at {B : Nat} {w0 w : World} {rs : List (Nat × TypeId × List Value)} {ts : List (Value × Nat)} (h : Zap B w0 w rs ts) {v : Value} {n : Nat} (hv : (v, n) ∈ ts) {j : Nat} (hj : j < n) :
    ∃ (k cap : Nat) (cur : List Value) (y : Int), v = .slice (some ⟨k, 0, none⟩) n cap ∧ n ≤ cap ∧ cap ≤ maxLen ∧ B ≤ k ∧ Row w k 5 cur ∧ j < cur.length ∧ cur[j]? = some (.int .u8 y) ∧ 0 ≤ y ∧ y ≤ 255 := by
  obtain ⟨l, hl, hown, hb, hG⟩ := h.txt _ hv
  have hl' : l.length = n := hl
  obtain ⟨h1, h2⟩ := hown
  rcases h2 with ⟨_, h3⟩ | ⟨k, cap, cur, e, _, hh, n1, n2, n3, n4⟩
  · rw [bc_len] at h3; omega
  · have e' : v = .slice (some ⟨k, 0, none⟩) (bc l).length cap := e
    rw [bc_len, hl'] at e'
    have hy : (bc l)[j]? = some (.int .u8 l[j]) := by rw [bc_at, List.getElem?_eq_getElem (by omega)]; rfl
    rw [← n4, List.getElem?_take] at hy
    rw [bc_len] at n1 hy
    split at hy
    · refine ⟨k, cap, cur.toList, l[j], e', by omega, n2, hG k (by rw [e']; rfl), by unfold Row; simpa using hh, (List.getElem?_eq_some_iff.1 hy).1, hy, hb _ (List.getElem_mem _)⟩
    · cases hy
theorem Zap.set {B : Nat} {w0 w w' : World} {rs : List (Nat × TypeId × List Value)} {ts : List (Value × Nat)} (h : Zap B w0 w rs ts) {k j : Nat} {cur : List Value} {x : Int} (hB : B ≤ k) (hk : Row w k 5 cur) (hk' : Row w' k 5 (cur.set j (.int .u8 x))) (hg' : w.grownBy w' (some k)) (hx : 0 ≤ x ∧ x ≤ 255) : Zap B w0 w' rs ts := by
  refine ⟨h.bel.trans (grown_below hg' (Nat.le_trans h.low h.bel.size) (fun q hq => by cases hq; exact hB)), h.low, fun r hr => ⟨(h.row r hr).1, (h.row r hr).2.grown hg' (fun e => ?_)⟩, fun p hp => ?_⟩
  · injection e with e
    exact (h.row r hr).2.apart hk (h.row r hr).1 e.symm
  · obtain ⟨l, hl, ho⟩ := h.txt p hp
    obtain ⟨l', hl', ho'⟩ := ho.byteR hk hk' hg' hx
    exact ⟨l', hl'.trans hl, ho'⟩
/-- A list that was built, and what else stays. -/
theorem Zap.of {B : Nat} {w0 w : World} {v : Value} {ys : List PEnt} (h : LB OEnt 82 2 B w v ys) (hb : Below B w0 w) (hl : B ≤ w0.heap.size) {b : Nat} {t : TypeId} {xs : List Value} (ht : t ≠ 5) (hr : Row w b t xs) {xv : Value} {xl : List Int} (hx : OT (From B) w xv xl) :
    ∃ ao cap rs ts, v = .slice ao ys.length cap ∧ ys.length ≤ cap ∧ cap ≤ maxLen ∧ Zap B w0 w ((b, t, xs) :: rs) ((xv, xl.length) :: ts) ∧
      ∀ i, i < ys.length → ∃ g cur a mm, ao = some ⟨g, 0, none⟩ ∧ (g, 82, cur) ∈ rs ∧ cur[i * 2 + 1]? = some a ∧ (a, mm) ∈ ts := by
  have base : Zap B w0 w [(b, t, xs)] [(xv, xl.length)] := ⟨hb, hl, fun r hr' => by simp at hr'; subst hr'; exact ⟨ht, hr⟩, fun p hp => by simp at hp; subst hp; exact ⟨xl, rfl, hx⟩⟩
  rcases Nat.eq_zero_or_pos ys.length with h0 | hp
  · obtain ⟨ao, cap, e, hc⟩ := (Rp.rl h).form
    obtain ⟨rows, hown⟩ := h.len
    refine ⟨ao, cap, [], [], e, by omega, ?_, base, fun i hi => by omega⟩
    rcases hown.2 with ⟨e2, _⟩ | ⟨g, cap', cur, e2, _, _, _, h5, _⟩
    · rw [e2] at e; simp at e; omega
    · rw [e2] at e; simp at e; omega
  · obtain ⟨g, cap, cur, rows, e, hrow, h2, h3, h4, h5, h6, h7, h8, h9⟩ := h.opn hp
    refine ⟨some ⟨g, 0, none⟩, cap, [(g, 82, cur)], (rows.zip ys).map fun p => (p.1.getD 1 (.bool true), p.2.2.length), e, h3, h4, ⟨hb, hl, fun r hr' => ?_, fun p hp => ?_⟩, fun i hi => ?_⟩
    · simp only [List.mem_cons, List.not_mem_nil, or_false] at hr'
      rcases hr' with rfl | rfl
      · exact ⟨ht, hr⟩
      · exact ⟨by show (82 : Nat) ≠ 5; decide, hrow⟩
    · rcases List.mem_cons.1 hp with rfl | hp
      · exact ⟨xl, rfl, hx⟩
      · obtain ⟨⟨r, y⟩, hm, rfl⟩ := List.mem_map.1 hp
        obtain ⟨i, hi, he⟩ := List.getElem_of_mem hm
        rw [List.getElem_zip] at he
        injection he with e1 e2
        rw [List.length_zip] at hi
        obtain ⟨a, c, er, o1, o2⟩ := h9.get (List.getElem?_eq_getElem (by omega : i < rows.length)) (List.getElem?_eq_getElem (by omega : i < ys.length))
        rw [e1] at er
        rw [e2] at o2
        refine ⟨y.2, rfl, ?_⟩
        show OT (From B) w (r.getD 1 (.bool true)) y.2
        rw [er]
        exact o2.mv fun k hk _ => ⟨rfl, hk.1⟩
    · obtain ⟨a, c, er, o1, o2⟩ := h9.get (List.getElem?_eq_getElem (by omega : i < rows.length)) (List.getElem?_eq_getElem (by omega : i < ys.length))
      refine ⟨g, cur, c, ys[i].2.length, rfl, by simp, ?_, ?_⟩
      · have := flat_at (j := 1) h7 (List.getElem?_eq_getElem (by omega : i < rows.length)) (by rw [er]; rfl)
        rw [← h8, List.getElem?_take, if_pos (by omega)] at this
        exact this
      · refine List.mem_map.2 ⟨(rows[i], ys[i]), ?_, by rw [er]; rfl⟩
        rw [← List.getElem_zip (h := by rw [List.length_zip]; omega)]
        exact List.getElem_mem _
end Go.Proofs.YtejkkhlblnepeaaGreat
end

section
set_option linter.unusedVariables false
set_option linter.unusedSimpArgs false
namespace Go.Proofs.YtejkkhlblnepeaaGreat
open Go.RowKit Oct Kvl

theorem Fin4.mv {w5 Z : World} {bA bB : Nat} {r s : List Value} (F : Fin4 w5 Z bA bB r s) {u v N : Nat} (hA : (bA < u ∨ v ≤ bA) ∧ (bB < u ∨ v ≤ bB) ∧ N ≤ u) : Mv (Rng u v) (fun k => k ≠ bA ∧ k ≠ bB ∧ N ≤ k) Z Z := fun k hk _ => ⟨rfl, fun e => by obtain ⟨h1, h2⟩ := hk; omega, fun e => by obtain ⟨h1, h2⟩ := hk; omega, by obtain ⟨h1, h2⟩ := hk; omega⟩
theorem ses_rng4 (G : Nat → Prop) (w : World) (r : List Value) (a : PEnt) (h : RSes G w r a) : RSes (fun k => G k ∧ k < w.heap.size) w r a := ses_rng G w r a h

theorem RApp.forms {G : Nat → Prop} {w : World} {r : List Value} {a : PApp} (h : RApp G w r a) : ∃ ae ce al cl an cn, r = [.int .i64 a.1, .slice ae a.2.1.length ce, .slice al a.2.2.1.length cl, .slice an a.2.2.2.length cn] := by
  obtain ⟨ve, vl, vs, rfl, h1, h2, h3⟩ := h
  obtain ⟨ae, ce, rfl, _⟩ := h1.form
  obtain ⟨al, cl, rfl, _⟩ := h2.form
  obtain ⟨an, cn, rfl, _⟩ := h3.form
  exact ⟨_, _, _, _, _, _, rfl⟩
/-- Sessions that were built: what stays where the bytes of their values are turned. -/
theorem Zap.ofN {B : Nat} {w0 w : World} {v : Value} {ys : List PEnt} {rs0 : List (Nat × TypeId × List Value)} {ts0 : List (Value × Nat)} (h : LB OSes 43 4 B w v ys) (base : Zap B w0 w rs0 ts0) :
    ∃ ao cap rs ts, v = .slice ao ys.length cap ∧ ys.length ≤ cap ∧ cap ≤ maxLen ∧ Zap B w0 w (rs0 ++ rs) (ts0 ++ ts) ∧
      ∀ i, i < ys.length → ∃ g cur a mm, ao = some ⟨g, 0, none⟩ ∧ (g, 43, cur) ∈ rs0 ++ rs ∧ cur[i * 4 + 3]? = some a ∧ (a, mm) ∈ ts0 ++ ts := by
  rcases Nat.eq_zero_or_pos ys.length with h0 | hp
  · obtain ⟨ao, cap, e, hc⟩ := (h.rl mov_oses).form
    obtain ⟨rows, hown⟩ := h.len
    refine ⟨ao, cap, [], [], e, by omega, ?_, by simpa using base, fun i hi => by omega⟩
    rcases hown.2 with ⟨e2, _⟩ | ⟨g, cap', cur, e2, _, _, _, h5, _⟩
    · rw [e2] at e; simp at e; omega
    · rw [e2] at e; simp at e; omega
  · obtain ⟨g, cap, cur, rows, e, hrow, h2, h3, h4, h5, h6, h7, h8, h9⟩ := h.opnN hp
    refine ⟨some ⟨g, 0, none⟩, cap, [(g, 43, cur)], (rows.zip ys).map fun p => (p.1.getD 3 (.bool true), p.2.2.length - 2), e, h3, h4, ⟨base.bel, base.low, fun r hr' => ?_, fun p hp => ?_⟩, fun i hi => ?_⟩
    · rcases List.mem_append.1 hr' with hr' | hr'
      · exact base.row r hr'
      · simp only [List.mem_cons, List.not_mem_nil, or_false] at hr'
        subst hr'
        exact ⟨by show (43 : Nat) ≠ 5; decide, hrow⟩
    · rcases List.mem_append.1 hp with hp | hp
      · exact base.txt p hp
      obtain ⟨⟨r, y⟩, hm, rfl⟩ := List.mem_map.1 hp
      obtain ⟨i, hi, he⟩ := List.getElem_of_mem hm
      rw [List.getElem_zip] at he
      injection he with e1 e2
      rw [List.length_zip] at hi
      obtain ⟨c, d, k, a, l, er, o1, o2⟩ := h9.get (List.getElem?_eq_getElem (by omega : i < rows.length)) (List.getElem?_eq_getElem (by omega : i < ys.length))
      rw [e1] at er
      rw [e2] at o2
      refine ⟨l, by rw [o2]; simp, ?_⟩
      show OT (From B) w (r.getD 3 (.bool true)) l
      rw [er]
      exact o1.mv fun k hk _ => ⟨rfl, hk.1⟩
    · obtain ⟨c, d, k, a, l, er, o1, o2⟩ := h9.get (List.getElem?_eq_getElem (by omega : i < rows.length)) (List.getElem?_eq_getElem (by omega : i < ys.length))
      refine ⟨g, cur, a, ys[i].2.length - 2, rfl, by simp, ?_, ?_⟩
      · have := flat_at (j := 3) h7 (List.getElem?_eq_getElem (by omega : i < rows.length)) (by rw [er]; rfl)
        rw [← h8, List.getElem?_take, if_pos (by omega)] at this
        exact this
      · refine List.mem_append_right _ (List.mem_map.2 ⟨(rows[i], ys[i]), ?_, by rw [er]; rfl⟩)
        rw [← List.getElem_zip (h := by rw [List.length_zip]; omega)]
        exact List.getElem_mem _

set_option maxRecDepth 10000 in
set_option maxHeartbeats 16000000 in
theorem appliesA_any (w : World) (r0 : List Value) (a : PApp) (r1 : List Value) (x : PReq) (h0 : RApp Any w r0 a) (h1 : RReq Any w r1 x) (z0 : szA a) (z1 : szQ x) :
    Calls Tryz.prog 3 #[.agg r0.toArray, .agg r1.toArray] w fun e w' => e = .returned (.bool true) ∧ Below w.heap.size w w' := by
  have le := Nat.le_refl w.heap.size
  have hall := h0
  have hxall := h1
  obtain ⟨ve, vl, vs, rfl, e1, e2, e3⟩ := h0
  obtain ⟨vo, vg, rfl, o1, o2⟩ := h1
  clear e1 e2 e3 o1 o2
  obtain ⟨w0, hw0⟩ : ∃ w0, w0 = (w.alloc (.cells #[.int .i64 a.1, ve, vl, vs] 26)).alloc (.cells #[.int .i64 x.1, .int .i64 x.2.1, vo, vg] 29) := ⟨_, rfl⟩
  have xa : Row w0 w.heap.size 26 [.int .i64 a.1, ve, vl, vs] := by rw [hw0]; exact rowA (Row.new w 26 _) _
  have xq : Row w0 (w.heap.size + 1) 29 [.int .i64 x.1, .int .i64 x.2.1, vo, vg] := by
    rw [hw0]
    have := Row.new (w.alloc (.cells #[.int .i64 a.1, ve, vl, vs] 26)) 29 [.int .i64 x.1, .int .i64 x.2.1, vo, vg]
    simpa using this
  have B0 : Below w.heap.size w w0 := by rw [hw0]; exact below_and (below_alloc _ _) (Nat.le_refl _) (below_alloc _ _)
  go_enter Tryz.func3, Tryz.ntmps3
  go_upto_region 1 with fail
  rw [← hw0]
  clear hw0
  go_upto_region 3 with (go_at_call 5; refine (sessionAlive_any w0).mono ?_; rintro e w1 ⟨rfl, hb1⟩)
  have B1 := below_and B0 le hb1
  have xa := xa.below hb1
  have xq := xq.below hb1
  clear hb1 B0
  have H0 := (show Hid (∀ u, Below w1.heap.size w1 u → RApp Any u [.int .i64 a.1, ve, vl, vs] a) from fun u hu => hall.below (below_and B1 le hu))
  have H1 := (show Hid (∀ u, Below w1.heap.size w1 u → RReq Any u [.int .i64 x.1, .int .i64 x.2.1, vo, vg] x) from fun u hu => mov_req _ _ _ _ _ _ hxall (below_and B1 le hu).size (Mv.below (below_and B1 le hu)))
  have HC := (show Hid (∀ u, Below w1.heap.size w1 u → Calls Tryz.prog 6 #[.agg #[.int .i64 a.1, ve, vl, vs]] u fun e w' => ∃ ae ne ce al nl cl an nn cn, e = .returned (.agg #[.int .i64 a.1, .slice ae ne ce, .slice al nl cl, .slice an nn cn]) ∧ Hid (∀ z : World, w'.heap.size ≤ z.heap.size → (∀ j, u.heap.size ≤ j → j < w'.heap.size → z.heap[j]? = w'.heap[j]?) → RApp (Rng u.heap.size w'.heap.size) z [.int .i64 a.1, .slice ae ne ce, .slice al nl cl, .slice an nn cn] a) ∧ Below u.heap.size u w' ∧ Below w1.heap.size w1 w') from fun u hu => (refCopyA_any u _ a (H0.out u hu) z0).mono fun e w' ⟨r', e1, e2, e3⟩ => by
    obtain ⟨ve', vl', vs', rfl, t1, t2, t3⟩ := e2
    obtain ⟨ae, ce, rfl, _⟩ := t1.form
    obtain ⟨al, cl, rfl, _⟩ := t2.form
    obtain ⟨an, cn, rfl, _⟩ := t3.form
    exact ⟨ae, _, ce, al, _, cl, an, _, cn, e1, fun z hz hk => ⟨_, _, _, rfl, (rl_rng ent_rng t1).mv mov_ent hz (fun j hj _ => ⟨hk j hj.1 hj.2, hj⟩), (rl_rng lea_rng t2).mv mov_lea hz (fun j hj _ => ⟨hk j hj.1 hj.2, hj⟩), (rl_rng ses_rng t3).mv mov_ses hz (fun j hj _ => ⟨hk j hj.1 hj.2, hj⟩)⟩, e3, below_and hu (Nat.le_refl _) e3⟩)
  have HQ := (show Hid (∀ u, Below w1.heap.size w1 u → Calls Tryz.prog 7 #[.agg #[.int .i64 x.1, .int .i64 x.2.1, vo, vg]] u fun e w' => ∃ ao no co ag ng cg, e = .returned (.agg #[.int .i64 x.1, .int .i64 x.2.1, .slice ao no co, .slice ag ng cg]) ∧ Hid (∀ z : World, w'.heap.size ≤ z.heap.size → (∀ j, u.heap.size ≤ j → j < w'.heap.size → z.heap[j]? = w'.heap[j]?) → RReq (Rng u.heap.size w'.heap.size) z [.int .i64 x.1, .int .i64 x.2.1, .slice ao no co, .slice ag ng cg] x) ∧ Below u.heap.size u w' ∧ Below w1.heap.size w1 w') from fun u hu => (copyReq_any u _ x (H1.out u hu) z1).mono fun e w' ⟨r', e1, e2, e3⟩ => by
    obtain ⟨vo', vg', rfl, t1, t2⟩ := e2
    obtain ⟨ao, co, rfl, _⟩ := t1.form
    obtain ⟨ag, cg, rfl, _⟩ := t2.form
    exact ⟨ao, _, co, ag, _, cg, e1, fun z hz hk => ⟨_, _, rfl, (rt_rng t1).mv (fun j hj _ => ⟨hk j hj.1 hj.2, hj⟩), (rt_rng t2).mv (fun j hj _ => ⟨hk j hj.1 hj.2, hj⟩)⟩, e3, below_and hu (Nat.le_refl _) e3⟩)
  have SK := (show Hid (∀ u, Below w1.heap.size w1 u → u.cell? ⟨w.heap.size, 0, none⟩ = some (.int .i64 a.1) ∧ u.cell? ⟨w.heap.size, 1, none⟩ = some (ve) ∧ u.cell? ⟨w.heap.size, 2, none⟩ = some (vl) ∧ u.cell? ⟨w.heap.size, 3, none⟩ = some (vs) ∧ u.cell? ⟨w.heap.size + 1, 0, none⟩ = some (.int .i64 x.1) ∧ u.cell? ⟨w.heap.size + 1, 1, none⟩ = some (.int .i64 x.2.1) ∧ u.cell? ⟨w.heap.size + 1, 2, none⟩ = some (vo) ∧ u.cell? ⟨w.heap.size + 1, 3, none⟩ = some (vg)) from fun u hu => ⟨(xa.below hu).cell (j := 0) rfl, (xa.below hu).cell (j := 1) rfl, (xa.below hu).cell (j := 2) rfl, (xa.below hu).cell (j := 3) rfl, (xq.below hu).cell (j := 0) rfl, (xq.below hu).cell (j := 1) rfl, (xq.below hu).cell (j := 2) rfl, (xq.below hu).cell (j := 3) rfl⟩)
  have hdw : Below w1.heap.size w1 w1.drew := ⟨rfl, rfl, rfl, Nat.le_refl _, fun _ _ => rfl⟩
  have hdA : Below w1.heap.size w1 (w1.alloc (.cells ([.int .i64 0, .slice none 0 0, .slice none 0 0, .slice none 0 0] : List Value).toArray 26)).drew := (below_alloc _ _).drew
  have hdB : Below w1.heap.size w1 (w1.alloc (.cells ([.int .i64 0, .int .i64 0, .slice none 0 0, .slice none 0 0] : List Value).toArray 29)).drew := (below_alloc _ _).drew
  have hdAB : Below w1.heap.size w1 ((w1.alloc (.cells ([.int .i64 0, .slice none 0 0, .slice none 0 0, .slice none 0 0] : List Value).toArray 26)).alloc (.cells ([.int .i64 0, .int .i64 0, .slice none 0 0, .slice none 0 0] : List Value).toArray 29)).drew := (below_and (below_alloc _ _) (Nat.le_refl _) (below_alloc _ _)).drew
  have hdBA : Below w1.heap.size w1 ((w1.alloc (.cells ([.int .i64 0, .int .i64 0, .slice none 0 0, .slice none 0 0] : List Value).toArray 29)).alloc (.cells ([.int .i64 0, .slice none 0 0, .slice none 0 0, .slice none 0 0] : List Value).toArray 26)).drew := (below_and (below_alloc _ _) (Nat.le_refl _) (below_alloc _ _)).drew
  try go_simp
  go_cut [5, 6] from 26 (fun sA sB wx => ∃ (bA bB : Nat) (ae : Option Addr) (ne ce : Nat) (al : Option Addr) (nl cl : Nat) (an : Option Addr) (nn cn : Nat) (ao : Option Addr) (no co : Nat) (ag : Option Addr) (ng cg : Nat), sA = .pointer (some ⟨bA, 0, none⟩) ∧ sB = .pointer (some ⟨bB, 0, none⟩) ∧ Row wx bA 26 [.int .i64 a.1, .slice ae ne ce, .slice al nl cl, .slice an nn cn] ∧ Row wx bB 29 [.int .i64 x.1, .int .i64 x.2.1, .slice ao no co, .slice ag ng cg] ∧ RApp (fun k => k ≠ bA ∧ k ≠ bB ∧ w1.heap.size ≤ k) wx [.int .i64 a.1, .slice ae ne ce, .slice al nl cl, .slice an nn cn] a ∧ RReq (fun k => k ≠ bA ∧ k ≠ bB ∧ w1.heap.size ≤ k) wx [.int .i64 x.1, .int .i64 x.2.1, .slice ao no co, .slice ag ng cg] x ∧ bA ≠ bB ∧ w1.heap.size ≤ bA ∧ w1.heap.size ≤ bB ∧ Below w1.heap.size w1 wx)
  case first =>
    go_wp2_with fail
    go_region_held3 (fun u => u.cell? ⟨w.heap.size, 0, none⟩ = some (.int .i64 a.1) ∧ u.cell? ⟨w.heap.size, 1, none⟩ = some (ve) ∧ u.cell? ⟨w.heap.size, 2, none⟩ = some (vl) ∧ u.cell? ⟨w.heap.size, 3, none⟩ = some (vs) ∧ u.cell? ⟨w.heap.size + 1, 0, none⟩ = some (.int .i64 x.1) ∧ u.cell? ⟨w.heap.size + 1, 1, none⟩ = some (.int .i64 x.2.1) ∧ u.cell? ⟨w.heap.size + 1, 2, none⟩ = some (vo) ∧ u.cell? ⟨w.heap.size + 1, 3, none⟩ = some (vg))
      (first | (with_reducible exact SK.out w4 hB4) | (with_reducible exact SK.out w3 hB3) | (with_reducible exact SK.out (w4.alloc _) (bel_al hB4)) | (with_reducible exact SK.out ((w4.alloc _).alloc _) (bel_al (bel_al hB4))) | (with_reducible exact SK.out (w3.alloc _) (bel_al hB3)) | (with_reducible exact SK.out ((w3.alloc _).alloc _) (bel_al (bel_al hB3))) | (with_reducible exact SK.out ((((w4.setCell _ _).setCell _ _).setCell _ _).setCell _ _) (bel_st (bel_st (bel_st (bel_st hB4 (by omega)) (by omega)) (by omega)) (by omega))) | (with_reducible exact SK.out (((((w4.alloc _).setCell _ _).setCell _ _).setCell _ _).setCell _ _) (bel_st (bel_st (bel_st (bel_st (bel_al hB4) (by omega)) (by omega)) (by omega)) (by omega))) | (with_reducible exact SK.out ((((((((w4.setCell _ _).setCell _ _).setCell _ _).setCell _ _).setCell _ _).setCell _ _).setCell _ _).setCell _ _) (bel_st (bel_st (bel_st (bel_st (bel_st (bel_st (bel_st (bel_st hB4 (by omega)) (by omega)) (by omega)) (by omega)) (by omega)) (by omega)) (by omega)) (by omega))) | (with_reducible exact SK.out (((((((((w4.alloc _).setCell _ _).setCell _ _).setCell _ _).setCell _ _).setCell _ _).setCell _ _).setCell _ _).setCell _ _) (bel_st (bel_st (bel_st (bel_st (bel_st (bel_st (bel_st (bel_st (bel_al hB4) (by omega)) (by omega)) (by omega)) (by omega)) (by omega)) (by omega)) (by omega)) (by omega))) | (with_reducible exact SK.out (((((w4.setCell _ _).setCell _ _).setCell _ _).setCell _ _).alloc _) (bel_al (bel_st (bel_st (bel_st (bel_st hB4 (by omega)) (by omega)) (by omega)) (by omega)))) | (with_reducible exact SK.out (((((((((w4.setCell _ _).setCell _ _).setCell _ _).setCell _ _).alloc _).setCell _ _).setCell _ _).setCell _ _).setCell _ _) (bel_st (bel_st (bel_st (bel_st (bel_al (bel_st (bel_st (bel_st (bel_st hB4 (by omega)) (by omega)) (by omega)) (by omega))) (by omega)) (by omega)) (by omega)) (by omega))) | (with_reducible exact SK.out w1.drew hdw) | (with_reducible exact SK.out (w1.alloc _).drew hdA) | (with_reducible exact SK.out (w1.alloc _).drew hdB) | (with_reducible exact SK.out ((w1.alloc _).alloc _).drew hdAB) | (with_reducible exact SK.out ((w1.alloc _).alloc _).drew hdBA) | go_keep)
      (first
        | (go_at_call 7; refine (HQ.out _ (by repeat (first | (with_reducible exact hB4) | (with_reducible exact hB3) | (with_reducible exact Below.refl _ _) | (with_reducible exact hdw) | (with_reducible exact hdA) | (with_reducible exact hdB) | (with_reducible exact hdAB) | (with_reducible exact hdBA) | (with_reducible refine bel_al ?_) | (with_reducible refine bel_ch ?_ hb4) | (with_reducible refine bel_ch ?_ hb3) | (with_reducible refine bel_st ?_ ?_) | omega))).mono ?_; rintro e w4 ⟨ao, no, co, ag, ng, cg, rfl, rd, hb4, hB4⟩; (first | (with_reducible have qA := (Row.new _ 26 [.int .i64 0, .slice none 0 0, .slice none 0 0, .slice none 0 0]).below hb4) | (with_reducible have qA := (rowA (Row.new _ 26 [.int .i64 0, .slice none 0 0, .slice none 0 0, .slice none 0 0]) (.cells ([.int .i64 0, .int .i64 0, .slice none 0 0, .slice none 0 0] : List Value).toArray 29)).below hb4) | (with_reducible have qA := (Row.new _ 26 [.int .i64 0, .slice none 0 0, .slice none 0 0, .slice none 0 0]).drew.below hb4) | (with_reducible have qA := (rowA (Row.new _ 26 [.int .i64 0, .slice none 0 0, .slice none 0 0, .slice none 0 0]) (.cells ([.int .i64 0, .int .i64 0, .slice none 0 0, .slice none 0 0] : List Value).toArray 29)).drew.below hb4) | (with_reducible have qA := qA.below hb4) | (with_reducible have qA := (qA.below (below_alloc _ _)).below hb4) | skip); (first | (with_reducible rw [alloc_size] at qA) | skip); (first | (with_reducible rw [drew_size] at qA) | skip); (first | (with_reducible have qB := (Row.new _ 29 [.int .i64 0, .int .i64 0, .slice none 0 0, .slice none 0 0]).below hb4) | (with_reducible have qB := (rowA (Row.new _ 29 [.int .i64 0, .int .i64 0, .slice none 0 0, .slice none 0 0]) (.cells ([.int .i64 0, .slice none 0 0, .slice none 0 0, .slice none 0 0] : List Value).toArray 26)).below hb4) | (with_reducible have qB := (Row.new _ 29 [.int .i64 0, .int .i64 0, .slice none 0 0, .slice none 0 0]).drew.below hb4) | (with_reducible have qB := (rowA (Row.new _ 29 [.int .i64 0, .int .i64 0, .slice none 0 0, .slice none 0 0]) (.cells ([.int .i64 0, .slice none 0 0, .slice none 0 0, .slice none 0 0] : List Value).toArray 26)).drew.below hb4) | (with_reducible have qB := qB.below hb4) | (with_reducible have qB := (qB.below (below_alloc _ _)).below hb4) | skip); (first | (with_reducible rw [alloc_size] at qB) | skip); (first | (with_reducible rw [drew_size] at qB) | skip); (first | (have qa0 := qA.cell (j := 0) rfl; have qa1 := qA.cell (j := 1) rfl; have qa2 := qA.cell (j := 2) rfl; have qa3 := qA.cell (j := 3) rfl; have pa0 := qA.frozen 0; have pa1 := qA.frozen 1; have pa2 := qA.frozen 2; have pa3 := qA.frozen 3) | skip); (first | (have qb0 := qB.cell (j := 0) rfl; have qb1 := qB.cell (j := 1) rfl; have qb2 := qB.cell (j := 2) rfl; have qb3 := qB.cell (j := 3) rfl; have pb0 := qB.frozen 0; have pb1 := qB.frozen 1; have pb2 := qB.frozen 2; have pb3 := qB.frozen 3) | skip); have hB4s := hB4.size; (first | (have nA := Nat.ne_of_lt qA.lt; have QA := qA.below (below_alloc w4 (.cells ([.int .i64 0, .int .i64 0, .slice none 0 0, .slice none 0 0] : List Value).toArray 29)); have ra0 := QA.cell (j := 0) rfl; have ra1 := QA.cell (j := 1) rfl; have ra2 := QA.cell (j := 2) rfl; have ra3 := QA.cell (j := 3) rfl; have ua0 := QA.frozen 0; have ua1 := QA.frozen 1; have ua2 := QA.frozen 2; have ua3 := QA.frozen 3) | skip); (first | (have nB := Nat.ne_of_lt qB.lt; have QB := qB.below (below_alloc w4 (.cells ([.int .i64 0, .slice none 0 0, .slice none 0 0, .slice none 0 0] : List Value).toArray 26)); have rb0 := QB.cell (j := 0) rfl; have rb1 := QB.cell (j := 1) rfl; have rb2 := QB.cell (j := 2) rfl; have rb3 := QB.cell (j := 3) rfl; have ub0 := QB.frozen 0; have ub1 := QB.frozen 1; have ub2 := QB.frozen 2; have ub3 := QB.frozen 3) | skip); (first | (have nAB := Row.apart qA qB (by decide); have nBA := Ne.symm nAB; have QC := qB.grown (g4 (v0 := .int .i64 a.1) (v1 := .slice ae ne ce) (v2 := .slice al nl cl) (v3 := .slice an nn cn) w4 _) (ne_of nAB); have rc0 := QC.cell (j := 0) rfl; have rc1 := QC.cell (j := 1) rfl; have rc2 := QC.cell (j := 2) rfl; have rc3 := QC.cell (j := 3) rfl; have uc0 := QC.frozen 0; have uc1 := QC.frozen 1; have uc2 := QC.frozen 2; have uc3 := QC.frozen 3) | skip); (first | (have QD := qB.below (below_alloc w4 (.cells ([.int .i64 a.1, .slice ae ne ce, .slice al nl cl, .slice an nn cn] : List Value).toArray 26)); have rd0 := QD.cell (j := 0) rfl; have rd1 := QD.cell (j := 1) rfl; have rd2 := QD.cell (j := 2) rfl; have rd3 := QD.cell (j := 3) rfl; have ud0 := QD.frozen 0; have ud1 := QD.frozen 1; have ud2 := QD.frozen 2; have ud3 := QD.frozen 3) | skip))
        | (go_at_call 6; refine (HC.out _ (by repeat (first | (with_reducible exact hB4) | (with_reducible exact hB3) | (with_reducible exact Below.refl _ _) | (with_reducible exact hdw) | (with_reducible exact hdA) | (with_reducible exact hdB) | (with_reducible exact hdAB) | (with_reducible exact hdBA) | (with_reducible refine bel_al ?_) | (with_reducible refine bel_ch ?_ hb4) | (with_reducible refine bel_ch ?_ hb3) | (with_reducible refine bel_st ?_ ?_) | omega))).mono ?_; rintro e w3 ⟨ae, ne, ce, al, nl, cl, an, nn, cn, rfl, rc, hb3, hB3⟩; (first | (with_reducible have qA := (Row.new _ 26 [.int .i64 0, .slice none 0 0, .slice none 0 0, .slice none 0 0]).below hb3) | (with_reducible have qA := (rowA (Row.new _ 26 [.int .i64 0, .slice none 0 0, .slice none 0 0, .slice none 0 0]) (.cells ([.int .i64 0, .int .i64 0, .slice none 0 0, .slice none 0 0] : List Value).toArray 29)).below hb3) | (with_reducible have qA := (Row.new _ 26 [.int .i64 0, .slice none 0 0, .slice none 0 0, .slice none 0 0]).drew.below hb3) | (with_reducible have qA := (rowA (Row.new _ 26 [.int .i64 0, .slice none 0 0, .slice none 0 0, .slice none 0 0]) (.cells ([.int .i64 0, .int .i64 0, .slice none 0 0, .slice none 0 0] : List Value).toArray 29)).drew.below hb3) | (with_reducible have qA := qA.below hb3) | (with_reducible have qA := (qA.below (below_alloc _ _)).below hb3) | skip); (first | (with_reducible rw [alloc_size] at qA) | skip); (first | (with_reducible rw [drew_size] at qA) | skip); (first | (with_reducible have qB := (Row.new _ 29 [.int .i64 0, .int .i64 0, .slice none 0 0, .slice none 0 0]).below hb3) | (with_reducible have qB := (rowA (Row.new _ 29 [.int .i64 0, .int .i64 0, .slice none 0 0, .slice none 0 0]) (.cells ([.int .i64 0, .slice none 0 0, .slice none 0 0, .slice none 0 0] : List Value).toArray 26)).below hb3) | (with_reducible have qB := (Row.new _ 29 [.int .i64 0, .int .i64 0, .slice none 0 0, .slice none 0 0]).drew.below hb3) | (with_reducible have qB := (rowA (Row.new _ 29 [.int .i64 0, .int .i64 0, .slice none 0 0, .slice none 0 0]) (.cells ([.int .i64 0, .slice none 0 0, .slice none 0 0, .slice none 0 0] : List Value).toArray 26)).drew.below hb3) | (with_reducible have qB := qB.below hb3) | (with_reducible have qB := (qB.below (below_alloc _ _)).below hb3) | skip); (first | (with_reducible rw [alloc_size] at qB) | skip); (first | (with_reducible rw [drew_size] at qB) | skip); have hB3s := hB3.size))
    all_goals (
      first
        | (obtain ⟨Z, hZ, F⟩ := fin4_bb (v0 := .int .i64 a.1) (v1 := .slice ae ne ce) (v2 := .slice al nl cl) (v3 := .slice an nn cn) (c0 := .int .i64 x.1) (c1 := .int .i64 x.2.1) (c2 := .slice ao no co) (c3 := .slice ag ng cg) rfl rfl qA qB (Row.apart qA qB (by decide)); rw [← hZ]; clear hZ)
        | (obtain ⟨Z, hZ, F⟩ := fin4_bn (y0 := .int .i64 0) (y1 := .int .i64 0) (y2 := .slice none 0 0) (y3 := .slice none 0 0) (v0 := .int .i64 a.1) (v1 := .slice ae ne ce) (v2 := .slice al nl cl) (v3 := .slice an nn cn) (c0 := .int .i64 x.1) (c1 := .int .i64 x.2.1) (c2 := .slice ao no co) (c3 := .slice ag ng cg) rfl qA; rw [← hZ]; clear hZ)
        | (obtain ⟨Z, hZ, F⟩ := fin4_nb (v0 := .int .i64 a.1) (v1 := .slice ae ne ce) (v2 := .slice al nl cl) (v3 := .slice an nn cn) (c0 := .int .i64 x.1) (c1 := .int .i64 x.2.1) (c2 := .slice ao no co) (c3 := .slice ag ng cg) rfl qB; rw [← hZ]; clear hZ)
        | (obtain ⟨Z, hZ, F⟩ := fin4_nn (w5 := w4) (v0 := .int .i64 a.1) (v1 := .slice ae ne ce) (v2 := .slice al nl cl) (v3 := .slice an nn cn) (c0 := .int .i64 x.1) (c1 := .int .i64 x.2.1) (c2 := .slice ao no co) (c3 := .slice ag ng cg); rw [← hZ]; clear hZ)
        | (obtain ⟨Z, hZ, F⟩ := fin4_nn' (w5 := w4) (v0 := .int .i64 a.1) (v1 := .slice ae ne ce) (v2 := .slice al nl cl) (v3 := .slice an nn cn) (c0 := .int .i64 x.1) (c1 := .int .i64 x.2.1) (c2 := .slice ao no co) (c3 := .slice ag ng cg); rw [← hZ]; clear hZ)
      have y3 := hb3.size
      have y4 := hb4.size
      try simp at y3
      try simp at y4
      have b43 := hb4.block
      have RC := rc.out Z (by have := F.size; (try simp only [alloc_size, drew_size] at *); omega) (fun j h1 h2 => (F.block j (by (try simp at h1 h2); omega) (by (try simp at h1); omega) (by (try simp at h1); omega)).trans (by first | exact hb4.block j h2 | exact (hb4.block j (by simp; omega)).trans (by first | rfl | exact (below_alloc _ _).block j h2 | exact ((below_alloc _ _).block j (by simp; omega)).trans ((below_alloc _ _).block j h2))))
      have RD := rd.out Z F.size (fun j h1 h2 => F.block j h2 (by (try simp at h1); omega) (by (try simp at h1); omega))
      have hbZ := F.bel hB4 (Nat.le_refl _) (by omega) (by omega)
      have R1 := mov_app _ _ _ _ _ _ RC (Nat.le_refl _) (F.mv (N := w1.heap.size) (by (try simp only [alloc_size, drew_size]); omega))
      have R2 := mov_req _ _ _ _ _ _ RD (Nat.le_refl _) (F.mv (N := w1.heap.size) (by (try simp only [alloc_size, drew_size]); omega))
      go_wp2_with fail
      go_meet
      case rel => exact ⟨_, _, _, _, _, _, _, _, _, _, _, _, _, _, _, _, _, rfl, rfl, F.a, F.b, R1, R2, by omega, by omega, by omega, hbZ⟩)
  case rest =>
    clear HC HQ SK hdw hdA hdB hdAB hdBA H0 H1
    obtain ⟨wk, rfl⟩ : ∃ wk, wk = wc := ⟨_, rfl⟩
    obtain ⟨bA, bB, ae, ne, ce, al, nl, cl, an, nn, cn, ao, no, co, ag, ng, cg, rfl, rfl, yA, yB, RA, RQ, nAB, lA, lB, hbc⟩ := hcut
    have Bc := below_and B1 le hbc
    have RA := mov_app _ _ _ _ _ _ RA (Nat.le_refl _) Mv.any
    have RQ := mov_req _ _ _ _ _ _ RQ (Nat.le_refl _) Mv.any
    have xa := xa.below hbc
    have xq := xq.below hbc
    clear hbc nAB lA lB B1
    obtain ⟨D, hDD⟩ : ∃ D, D = applyA a x := ⟨_, rfl⟩
    have hD := apply_any wk _ a RA z0 _ x RQ z1
    rw [← hDD] at hD
    have HRD := (show Hid (∀ u, Below w.heap.size w u → Calls Tryz.prog 9 #[.agg #[.int .i64 a.1, ve, vl, vs], .agg #[.int .i64 x.1, .int .i64 x.2.1, vo, vg]] u (RapG Any u D)) from fun u hu => by
      rw [hDD]
      exact refApply_any u (fun _ _ => trivial) _ a (hall.below hu) _ x (mov_req _ _ _ _ _ _ hxall hu.size (Mv.below hu)) z1)
    have hEO := (show Hid (∀ u, Below w.heap.size w u → RApp Any u [.int .i64 a.1, ve, vl, vs] a ∧ RReq Any u [.int .i64 x.1, .int .i64 x.2.1, vo, vg] x ∧ RApp (fun k => k < w.heap.size) u [.int .i64 a.1, ve, vl, vs] a) from fun u hu => ⟨hall.below hu, mov_req _ _ _ _ _ _ hxall hu.size (Mv.below hu), mov_app _ _ _ _ _ _ hall hu.size (fun k _ hlt => ⟨hu.block k hlt, hlt⟩)⟩)
    have hOW := (show Hid (∀ u, Below wk.heap.size wk u → RApp Any u [.int .i64 a.1, .slice ae ne ce, .slice al nl cl, .slice an nn cn] a ∧ RReq Any u [.int .i64 x.1, .int .i64 x.2.1, .slice ao no co, .slice ag ng cg] x) from fun u hu => ⟨RA.below hu, mov_req _ _ _ _ _ _ RQ hu.size (Mv.below hu)⟩)
    clear RA RQ hDD hall hxall
    go_upto_region 5 with (first
      | (refine wl_load rfl _ _ rfl bA rfl _ _ yA _ Tryz.underlying26 rfl (by kernel_rfl) ?_)
      | (refine wl_load rfl _ _ rfl bB rfl _ _ yB _ Tryz.underlying29 rfl (by kernel_rfl) ?_)
      | (go_at_call 8; refine hD.mono ?_; rintro e w6 ⟨row6, vv6, rfl, hO6, ht6, hb6⟩; obtain ⟨ae6, ce6, al6, cl6, an6, cn6, rfl⟩ := hO6.app.forms; obtain ⟨ax6, cx6, rfl, hcx6⟩ := ht6.rt.form))
    obtain ⟨w7, hw7, F⟩ := fin_nn (w5 := w6) (v0 := .int .i64 D.1.1) (v1 := .slice ae6 D.1.2.1.length ce6) (v2 := .slice al6 D.1.2.2.1.length cl6) (v3 := .slice an6 D.1.2.2.2.length cn6) (c := .int .i64 D.2.1.1) (v := .slice ax6 D.2.1.2.length cx6)
    rw [← hw7]
    have hb7 : Below w6.heap.size w6 w7 := F.bel (Below.refl _ _) (Nat.le_refl _) (Nat.le_refl _) (Nat.le_succ _)
    have z7 := F.a
    have z8 := F.b
    have hc7 : Below wk.heap.size wk w7 := below_and hb6 (Nat.le_refl _) hb7
    have B7 := below_and Bc le hc7
    have xa7 := xa.below hc7
    have xq7 := xq.below hc7
    have hO7 := hO6.below hb7
    have ht7 := ht6.mv (Mv.belowG hb7)
    obtain ⟨b8, hb8⟩ : ∃ b8, b8 = w6.heap.size + 1 := ⟨_, rfl⟩
    rw [← hb8] at z8 ⊢
    obtain ⟨b7, hb7'⟩ : ∃ b7, b7 = w6.heap.size := ⟨_, rfl⟩
    rw [← hb7'] at z7 ⊢
    have hR := HRD.out w7 B7
    clear hw7 F hb6 hO6 ht6 hcx6 hb8 hb7' hb7 hD HRD
    go_upto_region 6 with (first
      | (refine wl_load rfl _ _ rfl w.heap.size rfl _ _ xa7 _ Tryz.underlying26 rfl (by kernel_rfl) ?_)
      | (refine wl_load rfl _ _ rfl (w.heap.size + 1) rfl _ _ xq7 _ Tryz.underlying29 rfl (by kernel_rfl) ?_)
      | (go_at_call 9; refine hR.mono ?_; rintro e w8 ⟨row8, vv8, rfl, hO8, ht8, hb8⟩; obtain ⟨ae8, ce8, al8, cl8, an8, cn8, rfl⟩ := hO8.forms; obtain ⟨ax8, cx8, rfl, hcx8⟩ := ht8.form))
    obtain ⟨w9, hw9, F⟩ := fin_nn (w5 := w8) (v0 := .int .i64 D.1.1) (v1 := .slice ae8 D.1.2.1.length ce8) (v2 := .slice al8 D.1.2.2.1.length cl8) (v3 := .slice an8 D.1.2.2.2.length cn8) (c := .int .i64 D.2.1.1) (v := .slice ax8 D.2.1.2.length cx8)
    rw [← hw9]
    have hb9 : Below w8.heap.size w8 w9 := F.bel (Below.refl _ _) (Nat.le_refl _) (Nat.le_refl _) (Nat.le_succ _)
    have z10 := F.a
    have z11 := F.b
    have hb79 : Below w7.heap.size w7 w9 := below_and hb8 (Nat.le_refl _) hb9
    have hc9 : Below wk.heap.size wk w9 := below_and hc7 (Nat.le_refl _) hb79
    have B9 := below_and Bc le hc9
    have z7 := z7.below hb79
    have z8 := z8.below hb79
    have hO9 := hO7.below hb79
    have ht9 := ht7.mv (Mv.belowG hb79)
    have hP9 := hO8.below hb9
    have hp9 := ht8.mv (Mv.belowG hb9)
    obtain ⟨b11, hb11⟩ : ∃ b11, b11 = w8.heap.size + 1 := ⟨_, rfl⟩
    rw [← hb11] at z11 ⊢
    obtain ⟨b10, hb10'⟩ : ∃ b10, b10 = w8.heap.size := ⟨_, rfl⟩
    rw [← hb10'] at z10 ⊢
    clear hw9 F hb8 hO8 ht8 hcx8 hb11 hb10' hb9 hb79 hR hO7 ht7 xa7 xq7 B7 hc7
    have hL := last_any w9 _ a (hOW.out w9 hc9).1 z0.2.2 x.1
    have HL2 := (show Hid (∀ u, Below w.heap.size w u → Calls Tryz.prog 11 #[.agg #[.int .i64 a.1, ve, vl, vs], .int .i64 x.1] u (RlG (fun k => k < w.heap.size) u (lasN a.2.2.2 x.1))) from fun u hu => refLast_any u _ a (hEO.out u hu).2.2 x.1 (fun k hk => by have := hu.size; omega))
    generalize lasN a.2.2.2 x.1 = LN at *
    have yA9 := yA.below hc9
    have e0 := (xq.below hc9).cell (j := 0) rfl
    go_upto_region 7 with (first
      | (refine wl_load rfl _ _ rfl bA rfl _ _ yA9 _ Tryz.underlying26 rfl (by kernel_rfl) ?_)
      | (go_at_call 10; refine hL.mono ?_; rintro e w12 ⟨vv12, rfl, ht12, hb12⟩; obtain ⟨ax12, cx12, rfl, hcx12⟩ := ht12.rt.form))
    obtain ⟨w13, hw13⟩ : ∃ w13, w13 = w12.alloc (.cells #[.int .i64 LN.2.1, .slice ax12 LN.2.2.length cx12] 34) := ⟨_, rfl⟩
    have z14 : Row w13 w12.heap.size 34 [.int .i64 LN.2.1, .slice ax12 LN.2.2.length cx12] := by rw [hw13]; exact Row.new w12 34 _
    have hb13 : Below w12.heap.size w12 w13 := by rw [hw13]; exact below_alloc _ _
    rw [← hw13]
    have hb93 : Below w9.heap.size w9 w13 := below_and hb12 (Nat.le_refl _) hb13
    have hc13 : Below wk.heap.size wk w13 := below_and hc9 (Nat.le_refl _) hb93
    have B13 := below_and Bc le hc13
    have ht13 := (ht12.rt.mv (Mv.belowG hb13)).1
    obtain ⟨b14, hb14⟩ : ∃ b14, b14 = w12.heap.size := ⟨_, rfl⟩
    rw [← hb14] at z14 ⊢
    have hL := HL2.out w13 B13
    clear hw13 hb13 hb12 hb14 HL2 ht12 hcx12 yA9 e0
    have xa13 := xa.below hc13
    have e0 := (xq.below hc13).cell (j := 0) rfl
    go_upto_region 8 with (first
      | (refine wl_load rfl _ _ rfl w.heap.size rfl _ _ xa13 _ Tryz.underlying26 rfl (by kernel_rfl) ?_)
      | (go_at_call 11; refine hL.mono ?_; rintro e w14 ⟨vv14, rfl, ht14, hb14⟩; obtain ⟨ax14, cx14, rfl, hcx14⟩ := ht14.form))
    obtain ⟨w15, hw15⟩ : ∃ w15, w15 = w14.alloc (.cells #[.int .i64 LN.2.1, .slice ax14 LN.2.2.length cx14] 34) := ⟨_, rfl⟩
    have z16 : Row w15 w14.heap.size 34 [.int .i64 LN.2.1, .slice ax14 LN.2.2.length cx14] := by rw [hw15]; exact Row.new w14 34 _
    have hb15 : Below w14.heap.size w14 w15 := by rw [hw15]; exact below_alloc _ _
    rw [← hw15]
    have hb35 : Below w13.heap.size w13 w15 := below_and hb14 (Nat.le_refl _) hb15
    have hb95 : Below w9.heap.size w9 w15 := below_and hb93 (Nat.le_refl _) hb35
    have hc15 : Below wk.heap.size wk w15 := below_and hc9 (Nat.le_refl _) hb95
    have B15 := below_and Bc le hc15
    have hu15 := (ht14.mv (Mv.belowG hb15)).1
    have ht15 := ht13.below hb35
    have z14 := z14.below hb35
    have z7 := z7.below hb95
    have z8 := z8.below hb95
    have z10 := z10.below hb95
    have z11 := z11.below hb95
    have zA := yA.below hc15
    have zx := xa.below hc15
    have hO15 := hO9.below hb95
    have hx15 := ht9.mv (Mv.belowG hb95)
    have hP15 := hP9.below hb95
    have hp15 := (hp9.mv (Mv.belowG hb95)).1
    obtain ⟨b16, hb16⟩ : ∃ b16, b16 = w14.heap.size := ⟨_, rfl⟩
    rw [← hb16] at z16 ⊢
    clear hw15 hb15 hb14 hb16 hb35 hb95 hb93 ht14 hcx14 hL e0 xa13 ht13 hO9 ht9 hP9 hp9 hc13 B13 hc9 B9
    have HR1 := (show Hid (∀ u, Below w15.heap.size w15 u → Calls Tryz.prog 12 #[.agg #[.int .i64 a.1, .slice ae ne ce, .slice al nl cl, .slice an nn cn]] u fun e w' => e = .returned (.bool (decide (rgtA a))) ∧ Below w15.heap.size w15 w') from fun u hu => (rightA_any u _ a (hOW.out u (below_and hc15 (Nat.le_refl _) hu)).1).mono fun e w' ⟨e1, e2⟩ => ⟨e1, below_and hu (Nat.le_refl _) e2⟩)
    have HR2 := (show Hid (∀ u, Below w15.heap.size w15 u → Calls Tryz.prog 13 #[.agg #[.int .i64 a.1, ve, vl, vs]] u fun e w' => e = .returned (.bool (decide (rgtA a))) ∧ Below w15.heap.size w15 w') from fun u hu => (refRightA_any u _ a (hEO.out u (below_and B15 le hu)).1).mono fun e w' ⟨e1, e2⟩ => ⟨e1, below_and hu (Nat.le_refl _) e2⟩)
    have HS1 := (show Hid (∀ u, Below w15.heap.size w15 u → Calls Tryz.prog 14 #[.agg #[.int .i64 D.1.1, .slice ae6 D.1.2.1.length ce6, .slice al6 D.1.2.2.1.length cl6, .slice an6 D.1.2.2.2.length cn6], .agg #[.int .i64 D.1.1, .slice ae8 D.1.2.1.length ce8, .slice al8 D.1.2.2.1.length cl8, .slice an8 D.1.2.2.2.length cn8]] u fun e w' => e = .returned (.bool true) ∧ Below w15.heap.size w15 w') from fun u hu => (sameA_eq u _ _ D.1 (hO15.app.below hu) (hP15.below hu)).mono fun e w' ⟨e1, e2⟩ => ⟨e1, below_and hu (Nat.le_refl _) e2⟩)
    have HS2 := (show Hid (∀ u, Below w15.heap.size w15 u → Calls Tryz.prog 15 #[.agg #[.int .i64 D.2.1.1, .slice ax6 D.2.1.2.length cx6], .agg #[.int .i64 D.2.1.1, .slice ax8 D.2.1.2.length cx8]] u fun e w' => e = .returned (.bool true) ∧ Below w15.heap.size w15 w') from fun u hu => (sameR_eq u _ _ _ _ (hx15.rt.1.below hu) (hp15.below hu)).mono fun e w' ⟨e1, e2⟩ => ⟨e1, below_and hu (Nat.le_refl _) e2⟩)
    have HS3 := (show Hid (∀ u, Below w15.heap.size w15 u → Calls Tryz.prog 15 #[.agg #[.int .i64 LN.2.1, .slice ax12 LN.2.2.length cx12], .agg #[.int .i64 LN.2.1, .slice ax14 LN.2.2.length cx14]] u fun e w' => e = .returned (.bool true) ∧ Below w15.heap.size w15 w') from fun u hu => (sameR_eq u _ _ _ _ (ht15.below hu) (hu15.below hu)).mono fun e w' ⟨e1, e2⟩ => ⟨e1, below_and hu (Nat.le_refl _) e2⟩)
    have hdd : ∀ x : Bool, (x != x) = false := fun x => by cases x <;> rfl
    generalize decide (rgtA a) = dr at *
    have hd1 := hdd dr
    have hd2 := hdd D.2.2
    have hd3 : (LN.1 != LN.1) = false := by simp
    clear hdd
    have SK := (show Hid (∀ u, Below w15.heap.size w15 u → (u.cell? ⟨bA, 0, none⟩ = some (.int .i64 a.1) ∧ u.cell? ⟨bA, 1, none⟩ = some (.slice ae ne ce) ∧ u.cell? ⟨bA, 2, none⟩ = some (.slice al nl cl) ∧ u.cell? ⟨bA, 3, none⟩ = some (.slice an nn cn)) ∧ (u.cell? ⟨w.heap.size, 0, none⟩ = some (.int .i64 a.1) ∧ u.cell? ⟨w.heap.size, 1, none⟩ = some (ve) ∧ u.cell? ⟨w.heap.size, 2, none⟩ = some (vl) ∧ u.cell? ⟨w.heap.size, 3, none⟩ = some (vs)) ∧ (u.cell? ⟨b7, 0, none⟩ = some (.int .i64 D.1.1) ∧ u.cell? ⟨b7, 1, none⟩ = some (.slice ae6 D.1.2.1.length ce6) ∧ u.cell? ⟨b7, 2, none⟩ = some (.slice al6 D.1.2.2.1.length cl6) ∧ u.cell? ⟨b7, 3, none⟩ = some (.slice an6 D.1.2.2.2.length cn6)) ∧ (u.cell? ⟨b10, 0, none⟩ = some (.int .i64 D.1.1) ∧ u.cell? ⟨b10, 1, none⟩ = some (.slice ae8 D.1.2.1.length ce8) ∧ u.cell? ⟨b10, 2, none⟩ = some (.slice al8 D.1.2.2.1.length cl8) ∧ u.cell? ⟨b10, 3, none⟩ = some (.slice an8 D.1.2.2.2.length cn8)) ∧ (u.cell? ⟨b8, 0, none⟩ = some (.int .i64 D.2.1.1) ∧ u.cell? ⟨b8, 1, none⟩ = some (.slice ax6 D.2.1.2.length cx6)) ∧ (u.cell? ⟨b11, 0, none⟩ = some (.int .i64 D.2.1.1) ∧ u.cell? ⟨b11, 1, none⟩ = some (.slice ax8 D.2.1.2.length cx8)) ∧ (u.cell? ⟨b14, 0, none⟩ = some (.int .i64 LN.2.1) ∧ u.cell? ⟨b14, 1, none⟩ = some (.slice ax12 LN.2.2.length cx12)) ∧ (u.cell? ⟨b16, 0, none⟩ = some (.int .i64 LN.2.1) ∧ u.cell? ⟨b16, 1, none⟩ = some (.slice ax14 LN.2.2.length cx14))) from fun u hu => ⟨⟨(zA.below hu).cell (j := 0) rfl, (zA.below hu).cell (j := 1) rfl, (zA.below hu).cell (j := 2) rfl, (zA.below hu).cell (j := 3) rfl⟩, ⟨(zx.below hu).cell (j := 0) rfl, (zx.below hu).cell (j := 1) rfl, (zx.below hu).cell (j := 2) rfl, (zx.below hu).cell (j := 3) rfl⟩, ⟨(z7.below hu).cell (j := 0) rfl, (z7.below hu).cell (j := 1) rfl, (z7.below hu).cell (j := 2) rfl, (z7.below hu).cell (j := 3) rfl⟩, ⟨(z10.below hu).cell (j := 0) rfl, (z10.below hu).cell (j := 1) rfl, (z10.below hu).cell (j := 2) rfl, (z10.below hu).cell (j := 3) rfl⟩, ⟨(z8.below hu).cell (j := 0) rfl, (z8.below hu).cell (j := 1) rfl⟩, ⟨(z11.below hu).cell (j := 0) rfl, (z11.below hu).cell (j := 1) rfl⟩, ⟨(z14.below hu).cell (j := 0) rfl, (z14.below hu).cell (j := 1) rfl⟩, ⟨(z16.below hu).cell (j := 0) rfl, (z16.below hu).cell (j := 1) rfl⟩⟩)
    have hdw : Below w15.heap.size w15 w15.drew := ⟨rfl, rfl, rfl, Nat.le_refl _, fun _ _ => rfl⟩
    have HO15 := (show Hid (OApp wk.heap.size w15 [.int .i64 D.1.1, .slice ae6 D.1.2.1.length ce6, .slice al6 D.1.2.2.1.length cl6, .slice an6 D.1.2.2.2.length cn6] D.1) from hO15)
    have HX15 := (show Hid (OT (From wk.heap.size) w15 (.slice ax6 D.2.1.2.length cx6) D.2.1.2) from hx15)
    have HP15 := (show Hid (Row w15 b7 26 [.int .i64 D.1.1, .slice ae6 D.1.2.1.length ce6, .slice al6 D.1.2.2.1.length cl6, .slice an6 D.1.2.2.2.length cn6] ∧ Row w15 b8 34 [.int .i64 D.2.1.1, .slice ax6 D.2.1.2.length cx6] ∧ Below wk.heap.size wk w15 ∧ Row wk bA 26 [.int .i64 a.1, .slice ae ne ce, .slice al nl cl, .slice an nn cn] ∧ Row wk bB 29 [.int .i64 x.1, .int .i64 x.2.1, .slice ao no co, .slice ag ng cg] ∧ Row wk w.heap.size 26 [.int .i64 a.1, ve, vl, vs] ∧ Row wk (w.heap.size + 1) 29 [.int .i64 x.1, .int .i64 x.2.1, vo, vg] ∧ Below w.heap.size w wk) from ⟨z7, z8, hc15, yA, yB, xa, xq, Bc⟩)
    clear z7 z8 z10 z11 z14 z16 zA zx yA yB xa xq Bc hO15 hx15 hP15 hp15 ht15 hu15 B15 hc15
    try go_simp
    go_cut [86] from 20 (fun s86 wx => s86 = .bool false ∧ Below w15.heap.size w15 wx)
    case first =>
      go_wp2_with fail
      go_region_held3 (fun u => (u.cell? ⟨bA, 0, none⟩ = some (.int .i64 a.1) ∧ u.cell? ⟨bA, 1, none⟩ = some (.slice ae ne ce) ∧ u.cell? ⟨bA, 2, none⟩ = some (.slice al nl cl) ∧ u.cell? ⟨bA, 3, none⟩ = some (.slice an nn cn)) ∧ (u.cell? ⟨w.heap.size, 0, none⟩ = some (.int .i64 a.1) ∧ u.cell? ⟨w.heap.size, 1, none⟩ = some (ve) ∧ u.cell? ⟨w.heap.size, 2, none⟩ = some (vl) ∧ u.cell? ⟨w.heap.size, 3, none⟩ = some (vs)) ∧ (u.cell? ⟨b7, 0, none⟩ = some (.int .i64 D.1.1) ∧ u.cell? ⟨b7, 1, none⟩ = some (.slice ae6 D.1.2.1.length ce6) ∧ u.cell? ⟨b7, 2, none⟩ = some (.slice al6 D.1.2.2.1.length cl6) ∧ u.cell? ⟨b7, 3, none⟩ = some (.slice an6 D.1.2.2.2.length cn6)) ∧ (u.cell? ⟨b10, 0, none⟩ = some (.int .i64 D.1.1) ∧ u.cell? ⟨b10, 1, none⟩ = some (.slice ae8 D.1.2.1.length ce8) ∧ u.cell? ⟨b10, 2, none⟩ = some (.slice al8 D.1.2.2.1.length cl8) ∧ u.cell? ⟨b10, 3, none⟩ = some (.slice an8 D.1.2.2.2.length cn8)) ∧ (u.cell? ⟨b8, 0, none⟩ = some (.int .i64 D.2.1.1) ∧ u.cell? ⟨b8, 1, none⟩ = some (.slice ax6 D.2.1.2.length cx6)) ∧ (u.cell? ⟨b11, 0, none⟩ = some (.int .i64 D.2.1.1) ∧ u.cell? ⟨b11, 1, none⟩ = some (.slice ax8 D.2.1.2.length cx8)) ∧ (u.cell? ⟨b14, 0, none⟩ = some (.int .i64 LN.2.1) ∧ u.cell? ⟨b14, 1, none⟩ = some (.slice ax12 LN.2.2.length cx12)) ∧ (u.cell? ⟨b16, 0, none⟩ = some (.int .i64 LN.2.1) ∧ u.cell? ⟨b16, 1, none⟩ = some (.slice ax14 LN.2.2.length cx14)))
        (first | (with_reducible exact SK.out w20 hB20) | (with_reducible exact SK.out w19 hB19) | (with_reducible exact SK.out w18 hB18) | (with_reducible exact SK.out w17 hB17) | (with_reducible exact SK.out w16 hB16) | (with_reducible exact SK.out w15 (Below.refl _ _)) | (with_reducible exact SK.out w15.drew hdw) | go_keep)
        (first
          | (go_at_call_has 15 (Value.agg #[.int .i64 LN.2.1, .slice ax12 LN.2.2.length cx12]); refine (HS3.out _ (by first | (with_reducible exact hB19) | (with_reducible exact hB19.drew))).mono ?_; rintro e w20 ⟨rfl, hB20⟩)
          | (go_at_call_has 15 (Value.agg #[.int .i64 D.2.1.1, .slice ax6 D.2.1.2.length cx6]); refine (HS2.out _ (by first | (with_reducible exact hB18) | (with_reducible exact hB18.drew))).mono ?_; rintro e w19 ⟨rfl, hB19⟩)
          | (go_at_call 14; refine (HS1.out _ (by first | (with_reducible exact hB17) | (with_reducible exact hB17.drew))).mono ?_; rintro e w18 ⟨rfl, hB18⟩)
          | (go_at_call 13; refine (HR2.out _ (by first | (with_reducible exact hB16) | (with_reducible exact hB16.drew))).mono ?_; rintro e w17 ⟨rfl, hB17⟩)
          | (go_at_call 12; refine (HR1.out _ (by first | (with_reducible exact Below.refl _ _) | (with_reducible exact hdw))).mono ?_; rintro e w16 ⟨rfl, hB16⟩))
      all_goals (
        go_wp2_with fail
        go_meet
        case rel => exact ⟨rfl, hB20⟩)
    case rest =>
      obtain ⟨rfl, hbz⟩ := hcut
      obtain ⟨wz, rfl⟩ : ∃ wz, wz = wc := ⟨_, rfl⟩
      obtain ⟨z7, z8, hc15, yA, yB, xa, xq, Bc⟩ := HP15.out
      have hcz := below_and hc15 (Nat.le_refl _) hbz
      have base : Zap wk.heap.size wk wz ([(b7, 26, [.int .i64 D.1.1, .slice ae6 D.1.2.1.length ce6, .slice al6 D.1.2.2.1.length cl6, .slice an6 D.1.2.2.2.length cn6]), (b8, 34, [.int .i64 D.2.1.1, .slice ax6 D.2.1.2.length cx6])] : List (Nat × TypeId × List Value)) ([(.slice ax6 D.2.1.2.length cx6, D.2.1.2.length)] : List (Value × Nat)) :=
        ⟨hcz, Nat.le_refl _, fun r hr => by
          simp only [List.mem_cons, List.not_mem_nil, or_false] at hr
          rcases hr with rfl | rfl
          · exact ⟨by show (26 : Nat) ≠ 5; decide, z7.below hbz⟩
          · exact ⟨by show (34 : Nat) ≠ 5; decide, z8.below hbz⟩, fun p hp => by
          simp only [List.mem_cons, List.not_mem_nil, or_false] at hp
          subst hp
          exact ⟨D.2.1.2, rfl, HX15.out.mv (Mv.belowG hbz)⟩⟩
      obtain ⟨ve6', vl6', vs6', hrow, _, _, L3⟩ := HO15.out.below hbz
      simp only [List.cons.injEq, and_true, true_and] at hrow
      obtain ⟨_, _, hvs⟩ := hrow
      rw [← hvs] at L3
      clear hvs
      obtain ⟨aS, capS, rs, ts, hv6, hcap1, hcap2, hZ, hAt⟩ := Zap.ofN L3 base
      injection hv6 with e1 e2 e3
      subst e1 e3
      clear e2
      have HAT := (show Hid (∀ i, i < D.1.2.2.2.length → ∃ g cur a mm, an6 = some ⟨g, 0, none⟩ ∧ (g, 43, cur) ∈ ([(b7, 26, [.int .i64 D.1.1, .slice ae6 D.1.2.1.length ce6, .slice al6 D.1.2.2.1.length cl6, .slice an6 D.1.2.2.2.length cn6]), (b8, 34, [.int .i64 D.2.1.1, .slice ax6 D.2.1.2.length cx6])] : List (Nat × TypeId × List Value)) ++ rs ∧ cur[i * 4 + 3]? = some a ∧ (a, mm) ∈ ([(.slice ax6 D.2.1.2.length cx6, D.2.1.2.length)] : List (Value × Nat)) ++ ts) from hAt)
      have HZ7 := (show Hid (∀ u, Zap wk.heap.size wk u (([(b7, 26, [.int .i64 D.1.1, .slice ae6 D.1.2.1.length ce6, .slice al6 D.1.2.2.1.length cl6, .slice an6 D.1.2.2.2.length cn6]), (b8, 34, [.int .i64 D.2.1.1, .slice ax6 D.2.1.2.length cx6])] : List (Nat × TypeId × List Value)) ++ rs) (([(.slice ax6 D.2.1.2.length cx6, D.2.1.2.length)] : List (Value × Nat)) ++ ts) → Row u b7 26 [.int .i64 D.1.1, .slice ae6 D.1.2.1.length ce6, .slice al6 D.1.2.2.1.length cl6, .slice an6 D.1.2.2.2.length cn6] ∧ Row u b8 34 [.int .i64 D.2.1.1, .slice ax6 D.2.1.2.length cx6]) from fun u hu => ⟨(hu.row (b7, 26, [.int .i64 D.1.1, .slice ae6 D.1.2.1.length ce6, .slice al6 D.1.2.2.1.length cl6, .slice an6 D.1.2.2.2.length cn6]) (by simp)).2, (hu.row (b8, 34, [.int .i64 D.2.1.1, .slice ax6 D.2.1.2.length cx6]) (by simp)).2⟩)
      have HMX := (show Hid ((Value.slice ax6 D.2.1.2.length cx6, D.2.1.2.length) ∈ ([(.slice ax6 D.2.1.2.length cx6, D.2.1.2.length)] : List (Value × Nat)) ++ ts) by show _ ∈ _; simp)
      have HZ := (show Hid (Zap wk.heap.size wk wz (([(b7, 26, [.int .i64 D.1.1, .slice ae6 D.1.2.1.length ce6, .slice al6 D.1.2.2.1.length cl6, .slice an6 D.1.2.2.2.length cn6]), (b8, 34, [.int .i64 D.2.1.1, .slice ax6 D.2.1.2.length cx6])] : List (Nat × TypeId × List Value)) ++ rs) (([(.slice ax6 D.2.1.2.length cx6, D.2.1.2.length)] : List (Value × Nat)) ++ ts)) from hZ)
      have hXcap : D.2.1.2.length ≤ cx6 ∧ cx6 ≤ maxLen := by
        obtain ⟨_, ab, cb, e, hcb, hcb2, _⟩ := HX15.out.rt.1
        injection e with e1 e2 e3
        subst e3
        rw [bc_len] at hcb
        exact ⟨hcb, hcb2⟩
      clear hAt hZ L3 base hcz hc15 hbz z7 z8 HO15 HX15 HP15 HR1 HR2 HS1 HS2 HS3 SK hdw hd1 hd2 hd3
      generalize hRS : ([(b7, 26, [.int .i64 D.1.1, .slice ae6 D.1.2.1.length ce6, .slice al6 D.1.2.2.1.length cl6, .slice an6 D.1.2.2.2.length cn6]), (b8, 34, [.int .i64 D.2.1.1, .slice ax6 D.2.1.2.length cx6])] : List (Nat × TypeId × List Value)) ++ rs = RS at *
      generalize hTS : ([(.slice ax6 D.2.1.2.length cx6, D.2.1.2.length)] : List (Value × Nat)) ++ ts = TS at *
      clear hRS hTS
      generalize D.1.2.2.2.length = N at *
      generalize D.2.1.2.length = M at *
      generalize D.1.2.2.1.length = N2 at *
      generalize D.1.2.1.length = N3 at *
      have hlm : (N : Int) ≤ 9223372036854775807 := by unfold maxLen at hcap2; omega
      have hlx : (M : Int) ≤ 9223372036854775807 := by obtain ⟨_, _⟩ := hXcap; unfold maxLen at *; omega
      have c7 := (HZ7.out _ HZ.out).1.cell (j := 3) rfl
      go_wp2_with fail
      go_loopw [90] (fun i wr => ∃ q : Nat, q ≤ N ∧ i = .int .i64 q ∧ Hid (Zap wk.heap.size wk wr RS TS)) (fun i _ => N - (intOf i).toNat)
      case atStart => exact ⟨0, Nat.zero_le _, rfl, HZ⟩
      case round =>
        clear HZ c7
        obtain ⟨q, hq, rfl, HZ⟩ := hrel
        by_cases hql : q < N
        · obtain ⟨g, cur, a', mm, rfl, hg, ha, hm⟩ := HAT.out q hql
          obtain ⟨l, hl, hot⟩ := HZ.out.txt _ hm
          obtain ⟨_, ab, cb, rfl, hcb, hcb2, _⟩ := hot.rt.1
          have hl' : l.length = mm := hl
          rw [bc_len, hl'] at hm ha hcb
          have c7 := (HZ7.out _ HZ.out).1.cell (j := 3) rfl
          have c1 := (HZ.out.row _ hg).2.cell ha
          have hcbm : (mm : Int) ≤ 9223372036854775807 := by unfold maxLen at hcb2; omega
          have HM := (show Hid ((Value.slice ab mm cb, mm) ∈ TS) from hm)
          have HG := (show Hid (∀ u, Zap wk.heap.size wk u RS TS → u.cell? ⟨g, q * 4 + 3, none⟩ = some (.slice ab mm cb)) from fun u hu => (hu.row _ hg).2.cell ha)
          clear hot hl ha hm hl' hg
          go_wp2_with fail
          go_loopw [101] (fun i wx => ∃ j : Nat, j ≤ mm ∧ i = .int .i64 j ∧ Hid (Zap wk.heap.size wk wx RS TS)) (fun i _ => mm - (intOf i).toNat)
          case atStart => exact ⟨0, Nat.zero_le _, rfl, HZ⟩
          case round =>
            clear HZ c1 c7
            obtain ⟨j, hj, rfl, HZ⟩ := hrel
            by_cases hjl : j < mm
            · have c7 := (HZ7.out _ HZ.out).1.cell (j := 3) rfl
              have c1 := HG.out _ HZ.out
              obtain ⟨k, kc, kur, y, e, k1', k2, k3, k4, k5, k6, y0, y1⟩ := HZ.out.at HM.out hjl
              injection e with e1 e2 e3
              subst e1 e3
              have c2 := k4.cell k6
              have hx := xor_rng ⟨y0, y1⟩
              go_wp2_with (refine wl_set rfl _ _ _ rfl k j _ rfl rfl _ _ k4 k5 (by kernel_rfl) rfl ?_; intro w16 hr16 hg16)
              go_roundw
              case rel => exact ⟨j + 1, by omega, by go_num, HZ.out.set k3 k4 hr16.out hg16 hx⟩
              case measure => simp [intOf]; omega
            · have hjd : decide ((j : Int) < mm) = false := by simp; omega
              go_wp2_with fail
              go_roundw
              case rel => exact ⟨q + 1, by omega, by go_num, HZ⟩
              case measure => simp [intOf]; omega
        · have hqd : decide ((q : Int) < N) = false := by simp; omega
          have c8 := (HZ7.out _ HZ.out).2.cell (j := 1) rfl
          go_wp2_with fail
          go_loopw [121] (fun i wx => ∃ j : Nat, j ≤ M ∧ i = .int .i64 j ∧ Hid (Zap wk.heap.size wk wx RS TS)) (fun i _ => M - (intOf i).toNat)
          case atStart => exact ⟨0, Nat.zero_le _, rfl, HZ⟩
          case round =>
            clear HZ c8
            obtain ⟨j, hj, rfl, HZ⟩ := hrel
            by_cases hjl : j < M
            · have c8 := (HZ7.out _ HZ.out).2.cell (j := 1) rfl
              obtain ⟨k, kc, kur, y, e, k1', k2, k3, k4, k5, k6, y0, y1⟩ := HZ.out.at HMX.out hjl
              injection e with e1 e2 e3
              subst e1 e3
              have c2 := k4.cell k6
              have hx := xor_rng ⟨y0, y1⟩
              go_wp2_with (refine wl_set rfl _ _ _ rfl k j _ rfl rfl _ _ k4 k5 (by kernel_rfl) rfl ?_; intro w16 hr16 hg16)
              go_roundw
              case rel => exact ⟨j + 1, by omega, by go_num, HZ.out.set k3 k4 hr16.out hg16 hx⟩
              case measure => simp [intOf]; omega
            · have hjd : decide ((j : Int) < M) = false := by simp; omega
              have hcb := HZ.out.bel
              have B20 := below_and Bc le hcb
              have yA20 := yA.below hcb
              have xa20 := xa.below hcb
              have HS4 := sameA_eq _ _ _ a (hOW.out _ hcb).1 (hEO.out _ B20).1
              have HS5 := (show Hid (∀ u, Below wk.heap.size wk u → Calls Tryz.prog 16 #[.agg #[.int .i64 x.1, .int .i64 x.2.1, .slice ao no co, .slice ag ng cg], .agg #[.int .i64 x.1, .int .i64 x.2.1, vo, vg]] u fun e w' => e = .returned (.bool true) ∧ Below u.heap.size u w') from fun u hu => (sameReq_any u _ _ x x (hOW.out u hu).2 (hEO.out u (below_and Bc le hu)).2.1).mono fun e w' ⟨e1, e2⟩ => ⟨by simpa using e1, e2⟩)
              go_wp2_with (first
                | (go_at_call 16; refine (HS5.out w22 hc22).mono ?_; rintro e w23 ⟨rfl, hb23⟩)
                | (go_at_call 14; refine HS4.mono ?_; rintro e w22 ⟨rfl, hb22⟩; have hc22 := below_and hcb (Nat.le_refl _) hb22; have y22 := yB.below hc22; have x22 := xq.below hc22)
                | (refine wl_load rfl _ _ rfl bA rfl _ _ yA20 _ Tryz.underlying26 rfl (by kernel_rfl) ?_)
                | (refine wl_load rfl _ _ rfl w.heap.size rfl _ _ xa20 _ Tryz.underlying26 rfl (by kernel_rfl) ?_)
                | (refine wl_load_w (by rfl) _ _ rfl bB rfl _ _ y22 _ Tryz.underlying29 rfl (by kernel_rfl) ?_)
                | (refine wl_load_w (by rfl) _ _ rfl (w.heap.size + 1) rfl _ _ x22 _ Tryz.underlying29 rfl (by kernel_rfl) ?_))
              go_ret
              exact ⟨rfl, below_and (below_and Bc le hc22) le hb23⟩
end Go.Proofs.YtejkkhlblnepeaaGreat
end
