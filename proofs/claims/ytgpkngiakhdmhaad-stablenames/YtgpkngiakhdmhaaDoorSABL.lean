/- slices' stable sort over votes: the memory; swapRange. -/
import Derived.Test.YtgpkngiakhdmhaaDoorSABJ
import Derived.Test.YtgpkngiakhdmhaaDoorSABA
set_option linter.unusedSimpArgs false
set_option linter.unusedVariables false
namespace Go.Proofs.YtgpkngiakhdmhaaDoor
open Go.RowKit Oct
/-- A vote's cells, with the vote that they are. -/
abbrev VC := Value × PVote
def vce (x : VC) : List Value := [.int .i64 x.2.1, x.1]
def vfl (l : List VC) : List Value := l.flatMap vce
/-- A slice. -/
def IsS (v : Value) : Prop := ∃ ao m c, v = .slice ao m c
theorem IsS.one {v : Value} (h : IsS v) : v.oneCell' = true := by obtain ⟨_, _, _, rfl⟩ := h; rfl
theorem vfl_len (l : List VC) : (vfl l).length = l.length * 2 := by
  induction l with
  | nil => rfl
  | cons a l ih => simp only [vfl, List.flatMap_cons, List.length_append, vce, List.length_cons, List.length_nil] at ih ⊢; omega
theorem vfl_app (a b : List VC) : vfl (a ++ b) = vfl a ++ vfl b := by simp [vfl]
theorem vfl_cons (x : VC) (l : List VC) : vfl (x :: l) = vce x ++ vfl l := by simp [vfl]
theorem vfl_at {X Z : List VC} {x : VC} {rest : List Value} {w : World} {g : Nat} (h : Row w g 28 (vfl (X ++ x :: Z) ++ rest)) : w.rangeAt g (X.length * 2) (vce x) := by
  intro j v hv
  refine h.cell ?_
  rw [vfl_app, vfl_cons, List.append_assoc, List.append_assoc, List.getElem?_append_right (by rw [vfl_len]; omega), vfl_len, Nat.add_sub_cancel_left, List.getElem?_append_left (List.getElem?_eq_some_iff.1 hv).1]
  exact hv
theorem vfl_put (X Z : List VC) (x y : VC) (rest : List Value) : splice (vfl (X ++ x :: Z) ++ rest) (X.length * 2) (vce y) = vfl (X ++ y :: Z) ++ rest := by
  unfold splice
  rw [vfl_app, vfl_app, vfl_cons, vfl_cons, List.append_assoc, List.append_assoc, List.take_left' (vfl_len X), show (vce y).length = 2 from rfl, List.drop_append, List.drop_eq_nil_of_le (by rw [vfl_len]; omega), vfl_len, Nat.add_sub_cancel_left]
  simp [vce]
section
variable {P : Program}
theorem row_two {w : World} {b o : Nat} {t : TypeId} {xs : List Value} {u v : Value} (h : Row w b t xs) (hf : o + [u, v].length ≤ xs.length) : Row ((w.setCell ⟨b, o, none⟩ u).setCell ⟨b, o + 1, none⟩ v) b t (splice xs o [u, v]) := by
  have h2 := (h.set o u).set (o + 1) v
  have e : (xs.set o u).set (o + 1) v = splice xs o [u, v] := by
    simp only [List.length_cons, List.length_nil] at hf
    unfold splice
    refine List.ext_getElem? fun i => ?_
    simp only [List.getElem?_set, List.length_set, List.getElem?_append, List.length_take, List.getElem?_take, List.getElem?_drop, List.length_cons, List.length_nil]
    rcases Nat.lt_trichotomy i o with h | h | h
    · rw [if_neg (by omega), if_neg (by omega), if_pos (by omega), if_pos (by omega)]
    · subst h
      rw [if_neg (by omega), if_pos (by omega), if_pos (by omega), if_neg (by omega), if_pos (by omega)]
      simp [Nat.min_eq_left (show i ≤ xs.length by omega)]
    · by_cases h1 : i = o + 1
      · subst h1
        rw [if_pos (by omega), if_pos (by omega), if_neg (by omega), if_pos (by omega)]
        simp [Nat.min_eq_left (show o ≤ xs.length by omega)]
      · rw [if_neg (by omega), if_neg (by omega), if_neg (by omega), if_neg (by omega)]
        congr 1
        omega
  rwa [e] at h2
theorem grown_two (w : World) (b o o' : Nat) (u v : Value) : w.grownBy ((w.setCell ⟨b, o, none⟩ u).setCell ⟨b, o', none⟩ v) (some b) := (grown_set w b o u).trans (grown_set _ b o' v)
end
set_option maxRecDepth 10000 in
set_option maxHeartbeats 2000000 in
theorem swapRange_any (w : World) (g n cap a b N : Nat) (f : Value) (P A M B S : List VC) (rest : List Value) (hA : A.length = N) (hB : B.length = N) (ha : P.length = a) (hb : a + N + M.length = b) (hR : Row w g 28 (vfl (P ++ A ++ M ++ B ++ S) ++ rest)) (hn : (P ++ A ++ M ++ B ++ S).length = n) (hc : n ≤ cap) (hm : cap ≤ maxLen)
    (hone : ∀ x ∈ P ++ A ++ M ++ B ++ S, IsS x.1) :
    Calls Tryd.prog 80 #[.slice (some ⟨g, 0, none⟩) n cap, .int .i64 a, .int .i64 b, .int .i64 N, f] w fun e w' => e = .returned (.tuple #[]) ∧ Row w' g 28 (vfl (P ++ B ++ M ++ A ++ S) ++ rest) ∧ w.grownBy w' (some g) := by
  have hlt : b + N ≤ n := by simp only [List.length_append] at hn; omega
  have hab : a + N ≤ b := by omega
  have hnm : (n : Int) ≤ 9223372036854775807 := by unfold maxLen at hm; omega
  have HX := (show Hid (A.length = N ∧ B.length = N ∧ P.length = a ∧ a + N + M.length = b) from ⟨hA, hB, ha, hb⟩)
  have HO := (show Hid (∀ x ∈ P ++ A ++ M ++ B ++ S, IsS x.1) from hone)
  have H0 := (show Hid (Row w g 28 (vfl (P ++ ([] ++ A) ++ M ++ ([] ++ B) ++ S) ++ rest)) from hR)
  have HN := (show Hid (P.length + A.length + M.length + B.length + S.length = n) by show _ = _; simp only [List.length_append] at hn; exact hn)
  clear hA hB ha hb hR hn hone
  go_enter Tryd.func80, Tryd.ntmps80
  go_wp2_with fail
  go_loopw [10] (fun i wr => ∃ q : Nat, q ≤ N ∧ i = .int .i64 q ∧ Hid (Row wr g 28 (vfl (P ++ (B.take q ++ A.drop q) ++ M ++ (A.take q ++ B.drop q) ++ S) ++ rest)) ∧ w.grownBy wr (some g)) (fun i _ => N - (intOf i).toNat)
  case atStart => exact ⟨0, by omega, rfl, H0, grown_refl _ _⟩
  case round =>
    clear H0
    obtain ⟨q, hq, rfl, hM, hG⟩ := hrel
    by_cases hql : q < N
    · obtain ⟨x, hx⟩ : ∃ x, A[q]? = some x := ⟨_, List.getElem?_eq_getElem (by have := HX.out; omega)⟩
      obtain ⟨y, hy⟩ : ∃ y, B[q]? = some y := ⟨_, List.getElem?_eq_getElem (by have := HX.out; omega)⟩
      have hox := HO.out x (by have := List.mem_of_getElem? hx; simp [this])
      have hoy := HO.out y (by have := List.mem_of_getElem? hy; simp [this])
      obtain ⟨x1, x2⟩ := x
      obtain ⟨y1, y2⟩ := y
      obtain ⟨ax, nx, cx, rfl⟩ : IsS x1 := hox
      obtain ⟨ay, ny, cy, rfl⟩ : IsS y1 := hoy
      obtain ⟨x, ex⟩ : ∃ x : VC, x = (.slice ax nx cx, x2) := ⟨_, rfl⟩
      obtain ⟨y, ey⟩ : ∃ y : VC, y = (.slice ay ny cy, y2) := ⟨_, rfl⟩
      rw [← ex] at hx
      rw [← ey] at hy
      have dA : A.drop q = x :: A.drop (q + 1) := by rw [List.drop_eq_getElem_cons (by have := HX.out; omega)]; rw [List.getElem?_eq_getElem (by have := HX.out; omega)] at hx; simp at hx; rw [hx]
      have dB : B.drop q = y :: B.drop (q + 1) := by rw [List.drop_eq_getElem_cons (by have := HX.out; omega)]; rw [List.getElem?_eq_getElem (by have := HX.out; omega)] at hy; simp at hy; rw [hy]
      have tA : A.take (q + 1) = A.take q ++ [x] := take_snoc' A q x hx
      have tB : B.take (q + 1) = B.take q ++ [y] := take_snoc' B q y hy
      have e1 : (P ++ B.take q).length = a + q := by have := HX.out; simp only [List.length_append, List.length_take]; omega
      have e2 : ∀ z : VC, (P ++ B.take q ++ z :: (A.drop (q + 1) ++ M ++ A.take q)).length = b + q := by intro z; have := HX.out; simp only [List.length_append, List.length_take, List.length_cons, List.length_drop]; omega
      have r1 := hM.out
      rw [dA, dB, show P ++ (B.take q ++ x :: A.drop (q + 1)) ++ M ++ (A.take q ++ y :: B.drop (q + 1)) ++ S = (P ++ B.take q) ++ x :: (A.drop (q + 1) ++ M ++ A.take q ++ y :: (B.drop (q + 1) ++ S)) by simp] at r1
      have r2 := r1
      rw [show (P ++ B.take q) ++ x :: (A.drop (q + 1) ++ M ++ A.take q ++ y :: (B.drop (q + 1) ++ S)) = (P ++ B.take q ++ x :: (A.drop (q + 1) ++ M ++ A.take q)) ++ y :: (B.drop (q + 1) ++ S) by simp] at r2
      have g1 := vfl_at (w := wr.drew) (g := g) r1
      rw [e1] at g1
      have g2 := vfl_at (w := wr.drew) (g := g) r2
      rw [e2] at g2
      obtain ⟨X, hX⟩ : ∃ X, X = a + q := ⟨_, rfl⟩
      obtain ⟨Y, hY⟩ : ∃ Y, Y = b + q := ⟨_, rfl⟩
      have hXn : X < n := by omega
      have hYn : Y < n := by omega
      have hXY : X < Y := by omega
      have wa : IntKind.i64.wrap ((a : Int) + q) = (X : Int) := by rw [IntWalk.i64_in ((a : Int) + q) (by omega)]; omega
      have wb : IntKind.i64.wrap ((b : Int) + q) = (Y : Int) := by rw [IntWalk.i64_in ((b : Int) + q) (by omega)]; omega
      rw [← hX] at e1 g1
      rw [← hY] at g2
      have e2 : ∀ z : VC, (P ++ B.take q ++ z :: (A.drop (q + 1) ++ M ++ A.take q)).length = Y := fun z => (e2 z).trans hY.symm
      clear hX hY
      have r1d : Row wr.drew g 28 (vfl ((P ++ B.take q) ++ x :: (A.drop (q + 1) ++ M ++ A.take q ++ y :: (B.drop (q + 1) ++ S))) ++ rest) := r1
      have put1 := vfl_put (P ++ B.take q) (A.drop (q + 1) ++ M ++ A.take q ++ y :: (B.drop (q + 1) ++ S)) x y rest
      rw [e1] at put1
      have put2 := vfl_put (P ++ B.take q ++ y :: (A.drop (q + 1) ++ M ++ A.take q)) (B.drop (q + 1) ++ S) y x rest
      rw [e2, show (P ++ B.take q ++ y :: (A.drop (q + 1) ++ M ++ A.take q)) ++ y :: (B.drop (q + 1) ++ S) = (P ++ B.take q) ++ y :: (A.drop (q + 1) ++ M ++ A.take q ++ y :: (B.drop (q + 1) ++ S)) by simp,
        show (P ++ B.take q ++ y :: (A.drop (q + 1) ++ M ++ A.take q)) ++ x :: (B.drop (q + 1) ++ S) = P ++ ((B.take q ++ [y]) ++ A.drop (q + 1)) ++ M ++ ((A.take q ++ [x]) ++ B.drop (q + 1)) ++ S by simp, ← tA, ← tB] at put2
      have LN := (show Hid (∀ z : VC, (P ++ B.take q ++ z :: (A.drop (q + 1) ++ M ++ A.take q ++ y :: (B.drop (q + 1) ++ S))).length = n) from fun z => by have := HX.out; have := HN.out; simp only [List.length_append, List.length_take, List.length_cons, List.length_drop] at *; omega)
      have f1 : X * 2 + (vce y).length ≤ (vfl ((P ++ B.take q) ++ x :: (A.drop (q + 1) ++ M ++ A.take q ++ y :: (B.drop (q + 1) ++ S))) ++ rest).length := by rw [List.length_append, vfl_len, LN.out, show (vce y).length = 2 from rfl]; omega
      have f2 : Y * 2 + (vce x).length ≤ (vfl ((P ++ B.take q) ++ y :: (A.drop (q + 1) ++ M ++ A.take q ++ y :: (B.drop (q + 1) ++ S))) ++ rest).length := by rw [List.length_append, vfl_len, LN.out, show (vce x).length = 2 from rfl]; omega
      obtain ⟨C2, hC2⟩ : ∃ C, C = vfl (P ++ (B.take (q + 1) ++ A.drop (q + 1)) ++ M ++ (A.take (q + 1) ++ B.drop (q + 1)) ++ S) ++ rest := ⟨_, rfl⟩
      obtain ⟨C1, hC1⟩ : ∃ C, C = vfl ((P ++ B.take q) ++ y :: (A.drop (q + 1) ++ M ++ A.take q ++ y :: (B.drop (q + 1) ++ S))) ++ rest := ⟨_, rfl⟩
      obtain ⟨C0, hC0⟩ : ∃ C, C = vfl ((P ++ B.take q) ++ x :: (A.drop (q + 1) ++ M ++ A.take q ++ y :: (B.drop (q + 1) ++ S))) ++ rest := ⟨_, rfl⟩
      have HC2 := (show Hid (C2 = vfl (P ++ (B.take (q + 1) ++ A.drop (q + 1)) ++ M ++ (A.take (q + 1) ++ B.drop (q + 1)) ++ S) ++ rest) from hC2)
      rw [← hC0] at r1d put1 f1
      rw [← hC1] at put1 put2 f2
      rw [← hC2] at put2
      have cx0 : wr.cell? ⟨g, X * 2, none⟩ = some (.int .i64 x2.1) := g1 0 _ (by rw [ex]; rfl)
      have cx1 : wr.cell? ⟨g, X * 2 + 1, none⟩ = some (.slice ax nx cx) := g1 1 _ (by rw [ex]; rfl)
      have cy0 : wr.cell? ⟨g, Y * 2, none⟩ = some (.int .i64 y2.1) := g2 0 _ (by rw [ey]; rfl)
      have cy1 : wr.cell? ⟨g, Y * 2 + 1, none⟩ = some (.slice ay ny cy) := g2 1 _ (by rw [ey]; rfl)
      have fz : ∀ j, wr.frozen? ⟨g, j, none⟩ = false := fun j => r1.frozen j
      have s1 : (wr.setCell ⟨g, X * 2, none⟩ (.int .i64 y2.1)).cell? ⟨g, X * 2 + 1, none⟩ = some (.slice ax nx cx) := cell_set_ne cx1 (by omega)
      have fz1 : ∀ j, (wr.setCell ⟨g, X * 2, none⟩ (.int .i64 y2.1)).frozen? ⟨g, j, none⟩ = false := fun j => (r1.set _ _).frozen j
      have vx : vce x = [.int .i64 x2.1, .slice ax nx cx] := by rw [ex]; rfl
      have vy : vce y = [.int .i64 y2.1, .slice ay ny cy] := by rw [ey]; rfl
      rw [vy] at put1 f1
      rw [vx] at put2 f2
      obtain ⟨u1, hu1⟩ : ∃ u, u = (wr.setCell ⟨g, X * 2, none⟩ (.int .i64 y2.1)).setCell ⟨g, X * 2 + 1, none⟩ (.slice ay ny cy) := ⟨_, rfl⟩
      have R1 : Row u1 g 28 C1 := by rw [hu1, ← put1]; exact row_two (show Row wr g 28 C0 from r1d) f1
      have K1 : wr.grownBy u1 (some g) := by rw [hu1]; exact grown_two _ _ _ _ _ _
      have dy0 : u1.cell? ⟨g, Y * 2, none⟩ = some (.int .i64 y2.1) := by rw [hu1]; exact cell_set_ne (cell_set_ne cy0 (by omega)) (by omega)
      have dy1 : u1.cell? ⟨g, Y * 2 + 1, none⟩ = some (.slice ay ny cy) := by rw [hu1]; exact cell_set_ne (cell_set_ne cy1 (by omega)) (by omega)
      have gz : ∀ j, u1.frozen? ⟨g, j, none⟩ = false := fun j => R1.frozen j
      have s2 : (u1.setCell ⟨g, Y * 2, none⟩ (.int .i64 x2.1)).cell? ⟨g, Y * 2 + 1, none⟩ = some (.slice ay ny cy) := cell_set_ne dy1 (by omega)
      have gz1 : ∀ j, (u1.setCell ⟨g, Y * 2, none⟩ (.int .i64 x2.1)).frozen? ⟨g, j, none⟩ = false := fun j => (R1.set _ _).frozen j
      obtain ⟨u2, hu2⟩ : ∃ u, u = (u1.setCell ⟨g, Y * 2, none⟩ (.int .i64 x2.1)).setCell ⟨g, Y * 2 + 1, none⟩ (.slice ax nx cx) := ⟨_, rfl⟩
      have R2 : Hid (Row u2 g 28 C2) := by show Row _ _ _ _; rw [hu2, ← put2]; exact row_two R1 f2
      have K2 : u1.grownBy u2 (some g) := by rw [hu2]; exact grown_two _ _ _ _ _ _
      have KG := (show Hid (w.grownBy u2 (some g)) from (hG.trans K1).trans K2)
      have HU1 := (show Hid ((wr.setCell ⟨g, X * 2, none⟩ (.int .i64 y2.1)).setCell ⟨g, X * 2 + 1, none⟩ (.slice ay ny cy) = u1) from hu1.symm)
      have HU2 := (show Hid ((u1.setCell ⟨g, Y * 2, none⟩ (.int .i64 x2.1)).setCell ⟨g, Y * 2 + 1, none⟩ (.slice ax nx cx) = u2) from hu2.symm)
      clear r1 r2 hx hy dA dB tA tB hM e1 e2 LN hC0 hC1 hC2 g1 g2 ex ey vx vy put1 put2 f1 f2 r1d R1 K1 K2 hG hu1 hu2
      go_upto_region 3 with fail
      refine wp_region_held_drew (S := fun _ => True) (by kernel_rfl) trivial (fun _ => ?_)
      refine wpAnyH_take (i := 0) (v := (.slice (some ⟨g, 0, none⟩) n cap)) rfl (by kernel_rfl) (by kernel_rfl) (by kernel_rfl) (fun _ _ _ h => h) (Or.inl ⟨by kernel_rfl, fun u hSu => by go_simp⟩) trivial ?_
      simp only [Act.put, List.setIfInBounds_toArray, List.set_cons_zero, List.set_cons_succ]
      refine wpAnyH_take (i := 1) (v := .int .i64 ((a : Nat) : Int)) rfl (by kernel_rfl) (by kernel_rfl) (by kernel_rfl) (fun _ _ _ h => h) (Or.inl ⟨by kernel_rfl, fun u hSu => by go_simp⟩) trivial ?_
      simp only [Act.put, List.setIfInBounds_toArray, List.set_cons_zero, List.set_cons_succ]
      refine wpAnyH_take (i := 2) (v := .int .i64 ((q : Nat) : Int)) rfl (by kernel_rfl) (by kernel_rfl) (by kernel_rfl) (fun _ _ _ h => h) (Or.inl ⟨by kernel_rfl, fun u hSu => by go_simp⟩) trivial ?_
      simp only [Act.put, List.setIfInBounds_toArray, List.set_cons_zero, List.set_cons_succ]
      refine wpAnyH_take (i := 3) (v := .int .i64 ((X : Nat) : Int)) rfl (by kernel_rfl) (by kernel_rfl) (by kernel_rfl) (fun _ _ _ h => h) (Or.inl ⟨by kernel_rfl, fun u hSu => by go_simp; try first | exact wa | exact wb⟩) trivial ?_
      simp only [Act.put, List.setIfInBounds_toArray, List.set_cons_zero, List.set_cons_succ]
      refine wpAnyH_take (i := 4) (v := (.slice (some ⟨g, 0, none⟩) n cap)) rfl (by kernel_rfl) (by kernel_rfl) (by kernel_rfl) (fun _ _ _ h => h) (Or.inl ⟨by kernel_rfl, fun u hSu => by go_simp⟩) trivial ?_
      simp only [Act.put, List.setIfInBounds_toArray, List.set_cons_zero, List.set_cons_succ]
      refine wpAnyH_take (i := 5) (v := .int .i64 ((b : Nat) : Int)) rfl (by kernel_rfl) (by kernel_rfl) (by kernel_rfl) (fun _ _ _ h => h) (Or.inl ⟨by kernel_rfl, fun u hSu => by go_simp⟩) trivial ?_
      simp only [Act.put, List.setIfInBounds_toArray, List.set_cons_zero, List.set_cons_succ]
      refine wpAnyH_take (i := 6) (v := .int .i64 ((q : Nat) : Int)) rfl (by kernel_rfl) (by kernel_rfl) (by kernel_rfl) (fun _ _ _ h => h) (Or.inl ⟨by kernel_rfl, fun u hSu => by go_simp⟩) trivial ?_
      simp only [Act.put, List.setIfInBounds_toArray, List.set_cons_zero, List.set_cons_succ]
      refine wpAnyH_take (i := 7) (v := .int .i64 ((Y : Nat) : Int)) rfl (by kernel_rfl) (by kernel_rfl) (by kernel_rfl) (fun _ _ _ h => h) (Or.inl ⟨by kernel_rfl, fun u hSu => by go_simp; try first | exact wa | exact wb⟩) trivial ?_
      simp only [Act.put, List.setIfInBounds_toArray, List.set_cons_zero, List.set_cons_succ]
      refine wpAnyH_take (i := 8) (v := (.slice (some ⟨g, 0, none⟩) n cap)) rfl (by kernel_rfl) (by kernel_rfl) (by kernel_rfl) (fun _ _ _ h => h) (Or.inl ⟨by kernel_rfl, fun u hSu => by go_simp⟩) trivial ?_
      simp only [Act.put, List.setIfInBounds_toArray, List.set_cons_zero, List.set_cons_succ]
      refine wpAnyH_take (i := 9) (v := .int .i64 ((b : Nat) : Int)) rfl (by kernel_rfl) (by kernel_rfl) (by kernel_rfl) (fun _ _ _ h => h) (Or.inl ⟨by kernel_rfl, fun u hSu => by go_simp⟩) trivial ?_
      simp only [Act.put, List.setIfInBounds_toArray, List.set_cons_zero, List.set_cons_succ]
      refine wpAnyH_take (i := 10) (v := .int .i64 ((q : Nat) : Int)) rfl (by kernel_rfl) (by kernel_rfl) (by kernel_rfl) (fun _ _ _ h => h) (Or.inl ⟨by kernel_rfl, fun u hSu => by go_simp⟩) trivial ?_
      simp only [Act.put, List.setIfInBounds_toArray, List.set_cons_zero, List.set_cons_succ]
      refine wpAnyH_take (i := 11) (v := .int .i64 ((Y : Nat) : Int)) rfl (by kernel_rfl) (by kernel_rfl) (by kernel_rfl) (fun _ _ _ h => h) (Or.inl ⟨by kernel_rfl, fun u hSu => by go_simp; try first | exact wa | exact wb⟩) trivial ?_
      simp only [Act.put, List.setIfInBounds_toArray, List.set_cons_zero, List.set_cons_succ]
      refine wpAnyH_take (i := 12) (v := .pointer (some ⟨g, Y * 2, none⟩)) rfl (by kernel_rfl) (by kernel_rfl) (by kernel_rfl) (fun _ _ _ h => h) (Or.inl ⟨by kernel_rfl, fun u hSu => by go_simp; try first | exact wa | exact wb⟩) trivial ?_
      simp only [Act.put, List.setIfInBounds_toArray, List.set_cons_zero, List.set_cons_succ]
      refine wpAnyH_take (i := 14) (v := (.slice (some ⟨g, 0, none⟩) n cap)) rfl (by kernel_rfl) (by kernel_rfl) (by kernel_rfl) (fun _ _ _ h => h) (Or.inl ⟨by kernel_rfl, fun u hSu => by go_simp⟩) trivial ?_
      simp only [Act.put, List.setIfInBounds_toArray, List.set_cons_zero, List.set_cons_succ]
      refine wpAnyH_take (i := 15) (v := .int .i64 ((a : Nat) : Int)) rfl (by kernel_rfl) (by kernel_rfl) (by kernel_rfl) (fun _ _ _ h => h) (Or.inl ⟨by kernel_rfl, fun u hSu => by go_simp⟩) trivial ?_
      simp only [Act.put, List.setIfInBounds_toArray, List.set_cons_zero, List.set_cons_succ]
      refine wpAnyH_take (i := 16) (v := .int .i64 ((q : Nat) : Int)) rfl (by kernel_rfl) (by kernel_rfl) (by kernel_rfl) (fun _ _ _ h => h) (Or.inl ⟨by kernel_rfl, fun u hSu => by go_simp⟩) trivial ?_
      simp only [Act.put, List.setIfInBounds_toArray, List.set_cons_zero, List.set_cons_succ]
      refine wpAnyH_take (i := 17) (v := .int .i64 ((X : Nat) : Int)) rfl (by kernel_rfl) (by kernel_rfl) (by kernel_rfl) (fun _ _ _ h => h) (Or.inl ⟨by kernel_rfl, fun u hSu => by go_simp; try first | exact wa | exact wb⟩) trivial ?_
      simp only [Act.put, List.setIfInBounds_toArray, List.set_cons_zero, List.set_cons_succ]
      refine wpAnyH_take (i := 18) (v := .pointer (some ⟨g, X * 2, none⟩)) rfl (by kernel_rfl) (by kernel_rfl) (by kernel_rfl) (fun _ _ _ h => h) (Or.inl ⟨by kernel_rfl, fun u hSu => by go_simp; try first | exact wa | exact wb⟩) trivial ?_
      simp only [Act.put, List.setIfInBounds_toArray, List.set_cons_zero, List.set_cons_succ]
      have HE : ∀ K : Prop, (K → K) := fun _ h => h
      clear HE
      refine wpAnyH_ready (rs := [13, 19]) (by kernel_rfl) (by simp) ?_
      refine AllReadyH.cons (o := _) rfl (fun K hK => ?_) ?_
      · go_simp
        refine hK.out _ _ trivial (fun _ => ?_)
        clear hK K
        refine wpAnyH_ready (rs := [19]) (by kernel_rfl) (by simp) ?_
        refine AllReadyH.cons (o := _) rfl (fun K hK => ?_) AllReadyH.nil
        go_simp
        refine hK.out _ _ trivial (fun _ => ?_)
        clear hK K
        refine wpAnyH_take (i := 20) (v := .pointer (some ⟨g, X * 2, none⟩)) rfl (by kernel_rfl) (by kernel_rfl) (by kernel_rfl) (fun _ _ _ h => h) (Or.inl ⟨by kernel_rfl, fun u hSu => by go_simp; try first | exact wa | exact wb⟩) trivial ?_
        simp only [Act.put, List.setIfInBounds_toArray, List.set_cons_zero, List.set_cons_succ]
        refine wpAnyH_ready (rs := [21]) (by kernel_rfl) (by simp) ?_
        refine AllReadyH.cons (o := _) rfl (fun K hK => ?_) AllReadyH.nil
        go_simp
        refine hK.out _ _ trivial (fun _ => ?_)
        clear hK K
        rw [HU1.out]
        refine wpAnyH_take (i := 22) (v := .pointer (some ⟨g, Y * 2, none⟩)) rfl (by kernel_rfl) (by kernel_rfl) (by kernel_rfl) (fun _ _ _ h => h) (Or.inl ⟨by kernel_rfl, fun u hSu => by go_simp; try first | exact wa | exact wb⟩) trivial ?_
        simp only [Act.put, List.setIfInBounds_toArray, List.set_cons_zero, List.set_cons_succ]
        refine wpAnyH_ready (rs := [23]) (by kernel_rfl) (by simp) ?_
        refine AllReadyH.cons (o := _) rfl (fun K hK => ?_) AllReadyH.nil
        go_simp
        refine hK.out _ _ trivial (fun _ => ?_)
        clear hK K
        rw [HU2.out]
        refine wpAnyH_done (by kernel_rfl) ?_ _
        go_wp2_with fail
        go_roundw
        case rel => exact ⟨q + 1, by omega, by go_num, HC2.out ▸ R2, grown_to_drew KG.out⟩
        case measure => simp [intOf]; omega
      refine AllReadyH.cons (o := _) rfl (fun K hK => ?_) AllReadyH.nil
      go_simp
      refine hK.out _ _ trivial (fun _ => ?_)
      clear hK K
      refine wpAnyH_ready (rs := [13]) (by kernel_rfl) (by simp) ?_
      refine AllReadyH.cons (o := _) rfl (fun K hK => ?_) AllReadyH.nil
      go_simp
      refine hK.out _ _ trivial (fun _ => ?_)
      clear hK K
      refine wpAnyH_take (i := 20) (v := .pointer (some ⟨g, X * 2, none⟩)) rfl (by kernel_rfl) (by kernel_rfl) (by kernel_rfl) (fun _ _ _ h => h) (Or.inl ⟨by kernel_rfl, fun u hSu => by go_simp; try first | exact wa | exact wb⟩) trivial ?_
      simp only [Act.put, List.setIfInBounds_toArray, List.set_cons_zero, List.set_cons_succ]
      refine wpAnyH_ready (rs := [21]) (by kernel_rfl) (by simp) ?_
      refine AllReadyH.cons (o := _) rfl (fun K hK => ?_) AllReadyH.nil
      go_simp
      refine hK.out _ _ trivial (fun _ => ?_)
      clear hK K
      rw [HU1.out]
      refine wpAnyH_take (i := 22) (v := .pointer (some ⟨g, Y * 2, none⟩)) rfl (by kernel_rfl) (by kernel_rfl) (by kernel_rfl) (fun _ _ _ h => h) (Or.inl ⟨by kernel_rfl, fun u hSu => by go_simp; try first | exact wa | exact wb⟩) trivial ?_
      simp only [Act.put, List.setIfInBounds_toArray, List.set_cons_zero, List.set_cons_succ]
      refine wpAnyH_ready (rs := [23]) (by kernel_rfl) (by simp) ?_
      refine AllReadyH.cons (o := _) rfl (fun K hK => ?_) AllReadyH.nil
      go_simp
      refine hK.out _ _ trivial (fun _ => ?_)
      clear hK K
      rw [HU2.out]
      refine wpAnyH_done (by kernel_rfl) ?_ _
      go_wp2_with fail
      go_roundw
      case rel => exact ⟨q + 1, by omega, by go_num, HC2.out ▸ R2, grown_to_drew KG.out⟩
      case measure => simp [intOf]; omega
    · obtain rfl : q = N := by omega
      have hM := hM.out
      rw [List.take_of_length_le (by have := HX.out; omega), List.take_of_length_le (by have := HX.out; omega), List.drop_eq_nil_of_le (by have := HX.out; omega), List.drop_eq_nil_of_le (by have := HX.out; omega), List.append_nil, List.append_nil] at hM
      go_wp2_with fail
      go_end0
      exact ⟨rfl, hM, hG⟩
end Go.Proofs.YtgpkngiakhdmhaaDoor
