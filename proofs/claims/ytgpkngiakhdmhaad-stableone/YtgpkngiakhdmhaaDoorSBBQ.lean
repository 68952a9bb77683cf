/- slices' stable sort over votes: symMerge where the right side is a single vote. Made by mk14s.py. -/
import Derived.Test.YtgpkngiakhdmhaaDoorSBBO
import Derived.Test.YtgpkngiakhdmhaaDoorSBBP
import Derived.Test.YtgpkngiakhdmhaaDoorSBAJ
set_option linter.unusedSimpArgs false
set_option linter.unusedVariables false
namespace Go.Proofs.YtgpkngiakhdmhaaDoor
section
open Go.RowKit Oct Stb
def kv (x : VC) : Int := x.2.1
set_option maxRecDepth 10000 in
set_option maxHeartbeats 4000000 in
theorem insSort_any (w : World) (g n cap a b : Nat) (P A S : List VC) (rest : List Value) (ha : P.length = a) (hb : a + A.length = b) (hR : Row w g 28 (vfl (P ++ A ++ S) ++ rest)) (hn : (P ++ A ++ S).length = n) (hc : n ≤ cap) (hm : cap ≤ maxLen) (hn48 : n ≤ 281474976710656) (hone : ∀ x ∈ P ++ A ++ S, IsS x.1) :
    Calls Tryd.prog 61 #[.slice (some ⟨g, 0, none⟩) n cap, .int .i64 a, .int .i64 b, .func (.func 33) #[] #[]] w fun e w' => e = .returned (.tuple #[]) ∧ (∃ A', Srt kv A' ∧ Sam kv A A' ∧ Row w' g 28 (vfl (P ++ A' ++ S) ++ rest)) ∧ w.grownBy w' (some g) := by
  have hbn : b ≤ n := by simp only [List.length_append] at hn; omega
  have hnm : (n : Int) ≤ 9223372036854775807 := by unfold maxLen at hm; omega
  have HO := (show Hid (∀ x ∈ P ++ A ++ S, IsS x.1) from hone)
  have HL := (show Hid (P.length = a ∧ a + A.length = b ∧ b + S.length = n) from ⟨ha, hb, by simp only [List.length_append] at hn; omega⟩)
  have ST := (show Hid (∃ A1, Srt kv A1 ∧ Sam kv (A.take 1) A1 ∧ Row w g 28 (vfl (P ++ A1 ++ A.drop 1 ++ S) ++ rest)) from ⟨A.take 1, by cases A <;> simp [Srt], Sam.refl _, by rw [List.append_assoc P, List.take_append_drop]; exact hR⟩)
  have hab : a ≤ b := by omega
  have hcmp := (show Hid (∀ u (x y : VC), Calls Tryd.prog 33 #[.agg #[.int .i64 x.2.1, x.1], .agg #[.int .i64 y.2.1, y.1]] u fun e w' => e = .returned (.int .i64 (cmpI x.2.1 y.2.1)) ∧ Below u.heap.size u w') from cmpV_any)
  clear ha hb hR hn hone
  go_enter Tryd.func61, Tryd.ntmps61
  go_wp2_with fail
  go_loopw [8] (fun i wr => ∃ I q : Nat, i = .int .i64 I ∧ I = a + q ∧ 1 ≤ q ∧ (I ≤ b ∨ I = a + 1) ∧ Hid (∃ A1, Srt kv A1 ∧ Sam kv (A.take q) A1 ∧ Row wr g 28 (vfl (P ++ A1 ++ A.drop q ++ S) ++ rest)) ∧ w.grownBy wr (some g)) (fun i _ => b + 1 - (intOf i).toNat)
  case atStart => exact ⟨a + 1, 1, by go_num, rfl, by omega, .inr rfl, ST, grown_refl _ _⟩
  case round =>
    clear ST
    obtain ⟨I, q, rfl, hIq, hq1, hIb, hS, hG⟩ := hrel
    have HQ := (show Hid (I = a + q) from hIq)
    clear hIq
    by_cases hlt : I < b
    · obtain ⟨x, hx⟩ : ∃ x, A[q]? = some x := ⟨_, List.getElem?_eq_getElem (by have := HL.out; have := HQ.out; omega)⟩
      have dA : A.drop q = x :: A.drop (q + 1) := by rw [List.drop_eq_getElem_cons (by have := HL.out; have := HQ.out; omega)]; rw [List.getElem?_eq_getElem (by have := HL.out; have := HQ.out; omega)] at hx; simp at hx; rw [hx]
      have tA : A.take (q + 1) = A.take q ++ [x] := take_snoc' A q x hx
      obtain ⟨A1, hs1, hm1, hr1⟩ := hS.out
      have hlA : A1.length = q := by rw [hm1.1, List.length_take]; have := HL.out; have := HQ.out; omega
      have hoA : ∀ z ∈ A1, IsS z.1 := fun z hz => HO.out z (by have := List.mem_of_mem_take (hm1.mem.1 hz); simp [this])
      have hox : IsS x.1 := HO.out x (by have := List.mem_of_getElem? hx; simp [this])
      have hln : ∀ C : List VC, C.length = q + 1 → (P ++ C ++ (A.drop (q + 1) ++ S)).length = n := fun C hC => by have := HL.out; have := HQ.out; simp only [List.length_append, List.length_drop]; omega
      rw [dA] at hr1
      have ST := (show Hid (∃ C B' : List VC, I = a + C.length ∧ A1 = C ++ B' ∧ (∀ y ∈ B', kv x < kv y) ∧ Row wr g 28 (vfl (P ++ C ++ x :: (B' ++ (A.drop (q + 1) ++ S))) ++ rest)) from ⟨A1, [], by rw [hlA]; exact HQ.out, by simp, (fun y hy => by cases hy), by simpa using hr1⟩)
      have HA1 := (show Hid (Srt kv A1 ∧ Sam kv (A.take q) A1 ∧ A1.length = q ∧ (∀ z ∈ A1, IsS z.1) ∧ A.take (q + 1) = A.take q ++ [x] ∧ (∀ C : List VC, C.length = q + 1 → (P ++ C ++ (A.drop (q + 1) ++ S)).length = n)) from ⟨hs1, hm1, hlA, hoA, tA, hln⟩)
      have FIN := (show Hid (∀ (C B' : List VC) (u : World), A1 = C ++ B' → (∀ y ∈ B', kv x < kv y) → (∀ y ∈ C, kv y ≤ kv x) → Row u g 28 (vfl (P ++ C ++ x :: (B' ++ (A.drop (q + 1) ++ S))) ++ rest) → ∃ A2, Srt kv A2 ∧ Sam kv (A.take (q + 1)) A2 ∧ Row u g 28 (vfl (P ++ A2 ++ A.drop (q + 1) ++ S) ++ rest)) from fun C B' u e h1 h2 hr => by
        subst e
        have hi := insStep hs1 h1 h2
        exact ⟨C ++ x :: B', hi.1, by rw [tA]; exact (hm1.app (Sam.refl [x])).trans hi.2, by simpa using hr⟩)
      clear hx dA tA hs1 hm1 hr1 hlA hoA hln hS
      have hIn : I < n := by omega
      go_wp2_with fail
      go_loopw [9] (fun j wr => ∃ J : Nat, j = .int .i64 J ∧ a ≤ J ∧ J ≤ I ∧ Hid (∃ C B' : List VC, J = a + C.length ∧ A1 = C ++ B' ∧ (∀ y ∈ B', kv x < kv y) ∧ Row wr g 28 (vfl (P ++ C ++ x :: (B' ++ (A.drop (q + 1) ++ S))) ++ rest)) ∧ w.grownBy wr (some g)) (fun j _ => (intOf j).toNat)
      case atStart => exact ⟨I, rfl, by have := HQ.out; omega, by omega, ST, hG⟩
      case round =>
        clear ST hG
        obtain ⟨J, rfl, haJ, hJI, hS, hG⟩ := hrel
        by_cases hj : a < J
        · obtain ⟨C', B', hJ, hA1, hB', hr⟩ := hS.out
          obtain ⟨C, y, hC⟩ : ∃ C y, C' = C ++ [y] := ⟨C'.dropLast, C'.getLast (fun e => by subst e; simp at hJ; omega), (List.dropLast_concat_getLast _).symm⟩
          subst hC
          have hoy : IsS y.1 := HA1.out.2.2.2.1 y (by rw [hA1]; simp)
          have hj' : ¬ J ≤ a := by omega
          obtain ⟨Z, hZ⟩ : ∃ Z, Z + 1 = J := ⟨J - 1, by omega⟩
          have wz : IntKind.i64.wrap ((J : Int) - 1) = (Z : Int) := by rw [IntWalk.i64_in _ (by omega)]; omega
          obtain ⟨x1, x2⟩ := x
          obtain ⟨y1, y2⟩ := y
          obtain ⟨ax, nx, cx, rfl⟩ : IsS x1 := hox
          obtain ⟨ay, ny, cy, rfl⟩ : IsS y1 := hoy
          have hlC : (P ++ C).length = Z := by have := HL.out; simp only [List.length_append, List.length_cons, List.length_nil] at hJ ⊢; omega
          have r1 : Row wr g 28 (vfl ((P ++ C) ++ (.slice ay ny cy, y2) :: ((.slice ax nx cx, x2) :: (B' ++ (A.drop (q + 1) ++ S)))) ++ rest) := by simpa using hr
          have r2 : Row wr g 28 (vfl ((P ++ C ++ [(.slice ay ny cy, y2)]) ++ (.slice ax nx cx, x2) :: (B' ++ (A.drop (q + 1) ++ S))) ++ rest) := by simpa using hr
          have g1 := vfl_at r1
          rw [hlC] at g1
          have g2 := vfl_at r2
          rw [show (P ++ C ++ [((.slice ay ny cy, y2) : VC)]).length = J by rw [List.length_append, hlC]; exact hZ] at g2
          have cy0 : wr.cell? ⟨g, Z * 2, none⟩ = some (.int .i64 y2.1) := g1 0 _ rfl
          have cy1 : wr.cell? ⟨g, Z * 2 + 1, none⟩ = some (.slice ay ny cy) := g1 1 _ rfl
          have cx0 : wr.cell? ⟨g, J * 2, none⟩ = some (.int .i64 x2.1) := g2 0 _ rfl
          have cx1 : wr.cell? ⟨g, J * 2 + 1, none⟩ = some (.slice ax nx cx) := g2 1 _ rfl
          have hgl := r1.lt
          have SK := (show Hid (∀ u, Below wr.heap.size wr u → u.cell? ⟨g, Z * 2, none⟩ = some (.int .i64 y2.1) ∧ u.cell? ⟨g, Z * 2 + 1, none⟩ = some (.slice ay ny cy) ∧ u.cell? ⟨g, J * 2, none⟩ = some (.int .i64 x2.1) ∧ u.cell? ⟨g, J * 2 + 1, none⟩ = some (.slice ax nx cx)) from fun u hu => ⟨keepC hu cy0, keepC hu cy1, keepC hu cx0, keepC hu cx1⟩)
          have hC1 := (show Hid (∀ u, Calls Tryd.prog 33 #[.agg #[.int .i64 x2.1, .slice ax nx cx], .agg #[.int .i64 y2.1, .slice ay ny cy]] u fun e w' => e = .returned (.int .i64 (cmpI x2.1 y2.1)) ∧ Below u.heap.size u w') from fun u => hcmp.out u (.slice ax nx cx, x2) (.slice ay ny cy, y2))
          have hdw : Below wr.heap.size wr wr.drew := ⟨rfl, rfl, rfl, Nat.le_refl _, fun _ _ => rfl⟩
          have hJn : J < n := by omega
          have hZn : Z < n := by omega
          have HZJ := (show Hid (Z + 1 = J ∧ J = a + (C ++ [((.slice ay ny cy, y2) : VC)]).length ∧ (P ++ C).length = Z) from ⟨hZ, hJ, hlC⟩)
          have hZJ : Z < J := by omega
          have haZ : a ≤ Z := by omega
          have hZI : Z ≤ I := by omega
          clear g1 g2 hJ hlC hZ
          go_wp2_with fail
          go_region_held3 (fun u => u.cell? ⟨g, Z * 2, none⟩ = some (.int .i64 y2.1) ∧ u.cell? ⟨g, Z * 2 + 1, none⟩ = some (.slice ay ny cy) ∧ u.cell? ⟨g, J * 2, none⟩ = some (.int .i64 x2.1) ∧ u.cell? ⟨g, J * 2 + 1, none⟩ = some (.slice ax nx cx))
            (first | exact SK.out _ (by assumption) | go_keep)
            (first | (go_at_call 33; refine (hC1.out _).mono ?_; rintro e w6 ⟨rfl, hb6⟩; have hb6' := below_and hdw (Nat.le_refl _) hb6))
          have R6 := r1.below hb6'
          have K6 := grown_trans hG (grown_of_below hb6' (some g)) (.inl rfl)
          by_cases hk : x2.1 < y2.1
          · have hd : decide (cmpI x2.1 y2.1 < 0) = true := decide_eq_true (cmpI_lt.2 hk)
            rw [hd]
            obtain ⟨cy0, cy1, cx0, cx1⟩ := SK.out w6 hb6'
            have fz : ∀ j, w6.frozen? ⟨g, j, none⟩ = false := fun j => R6.frozen j
            have s1 : (w6.setCell ⟨g, J * 2, none⟩ (.int .i64 y2.1)).cell? ⟨g, J * 2 + 1, none⟩ = some (.slice ax nx cx) := cell_set_ne cx1 (by omega)
            have fz1 : ∀ j, (w6.setCell ⟨g, J * 2, none⟩ (.int .i64 y2.1)).frozen? ⟨g, j, none⟩ = false := fun j => (R6.set _ _).frozen j
            obtain ⟨D, hD⟩ : ∃ D, D = B' ++ (A.drop (q + 1) ++ S) := ⟨_, rfl⟩
            rw [← hD] at R6
            have e2 : (P ++ C ++ [((.slice ay ny cy, y2) : VC)]).length = J := by rw [List.length_append, HZJ.out.2.2]; exact HZJ.out.1
            have put1 := vfl_put (P ++ C ++ [((.slice ay ny cy, y2) : VC)]) D (.slice ax nx cx, x2) (.slice ay ny cy, y2) rest
            have put2 := vfl_put (P ++ C) ((.slice ay ny cy, y2) :: D) (.slice ay ny cy, y2) (.slice ax nx cx, x2) rest
            rw [e2] at put1
            rw [HZJ.out.2.2] at put2
            have LN : (P ++ C).length + 2 ≤ n := by have := HZJ.out; have := hJn; omega
            obtain ⟨C0, hC0⟩ : ∃ L : List Value, L = vfl ((P ++ C) ++ (.slice ay ny cy, y2) :: ((.slice ax nx cx, x2) :: D)) ++ rest := ⟨_, rfl⟩
            obtain ⟨C1, hC1'⟩ : ∃ L : List Value, L = vfl ((P ++ C) ++ (.slice ay ny cy, y2) :: ((.slice ay ny cy, y2) :: D)) ++ rest := ⟨_, rfl⟩
            have f1 : J * 2 + [Value.int .i64 y2.1, .slice ay ny cy].length ≤ C0.length := by rw [hC0, List.length_append, vfl_len, List.length_append, HZJ.out.2.2]; simp only [List.length_cons, List.length_nil]; have := HZJ.out.1; omega
            have f2 : Z * 2 + [Value.int .i64 x2.1, .slice ax nx cx].length ≤ C1.length := by rw [hC1', List.length_append, vfl_len, List.length_append, HZJ.out.2.2]; simp only [List.length_cons, List.length_nil]; omega
            rw [show (P ++ C ++ [((.slice ay ny cy, y2) : VC)]) ++ (.slice ax nx cx, x2) :: D = (P ++ C) ++ (.slice ay ny cy, y2) :: ((.slice ax nx cx, x2) :: D) by simp, show (P ++ C ++ [((.slice ay ny cy, y2) : VC)]) ++ (.slice ay ny cy, y2) :: D = (P ++ C) ++ (.slice ay ny cy, y2) :: ((.slice ay ny cy, y2) :: D) by simp, ← hC0, ← hC1'] at put1
            rw [← hC1'] at put2
            rw [← hC0] at R6
            obtain ⟨u1, hu1⟩ : ∃ u, u = (w6.setCell ⟨g, J * 2, none⟩ (.int .i64 y2.1)).setCell ⟨g, J * 2 + 1, none⟩ (.slice ay ny cy) := ⟨_, rfl⟩
            have R1 : Row u1 g 28 C1 := by rw [hu1, ← put1]; exact row_two R6 f1
            have K1 : w6.grownBy u1 (some g) := by rw [hu1]; exact grown_two _ _ _ _ _ _
            have dy0 : u1.cell? ⟨g, Z * 2, none⟩ = some (.int .i64 y2.1) := by rw [hu1]; exact cell_set_ne (cell_set_ne cy0 (by omega)) (by omega)
            have dy1 : u1.cell? ⟨g, Z * 2 + 1, none⟩ = some (.slice ay ny cy) := by rw [hu1]; exact cell_set_ne (cell_set_ne cy1 (by omega)) (by omega)
            have gz : ∀ j, u1.frozen? ⟨g, j, none⟩ = false := fun j => R1.frozen j
            have s2 : (u1.setCell ⟨g, Z * 2, none⟩ (.int .i64 x2.1)).cell? ⟨g, Z * 2 + 1, none⟩ = some (.slice ay ny cy) := cell_set_ne dy1 (by omega)
            have gz1 : ∀ j, (u1.setCell ⟨g, Z * 2, none⟩ (.int .i64 x2.1)).frozen? ⟨g, j, none⟩ = false := fun j => (R1.set _ _).frozen j
            obtain ⟨u2, hu2⟩ : ∃ u, u = (u1.setCell ⟨g, Z * 2, none⟩ (.int .i64 x2.1)).setCell ⟨g, Z * 2 + 1, none⟩ (.slice ax nx cx) := ⟨_, rfl⟩
            have R2 : Row u2 g 28 (vfl ((P ++ C) ++ (.slice ax nx cx, x2) :: ((.slice ay ny cy, y2) :: D)) ++ rest) := by rw [hu2, ← put2]; exact row_two R1 f2
            have K2 : u1.grownBy u2 (some g) := by rw [hu2]; exact grown_two _ _ _ _ _ _
            have KG := (show Hid (w.grownBy u2 (some g)) from grown_trans (grown_trans K6 K1 (.inl rfl)) K2 (.inl rfl))
            have NX := (show Hid (∃ C B' : List VC, Z = a + C.length ∧ A1 = C ++ B' ∧ (∀ y ∈ B', kv (.slice ax nx cx, x2) < kv y) ∧ Row u2.drew g 28 (vfl (P ++ C ++ (.slice ax nx cx, x2) :: (B' ++ (A.drop (q + 1) ++ S))) ++ rest)) from ⟨C, (.slice ay ny cy, y2) :: B', by have := HZJ.out; have := HL.out; simp only [List.length_append] at *; omega, by rw [hA1]; simp, (fun z hz => by rcases List.mem_cons.1 hz with rfl | hz; exact hk; exact hB' z hz), by rw [hD] at R2; exact R2⟩)
            have HU1 := (show Hid ((w6.setCell ⟨g, J * 2, none⟩ (.int .i64 y2.1)).setCell ⟨g, J * 2 + 1, none⟩ (.slice ay ny cy) = u1) from hu1.symm)
            have HU2 := (show Hid ((u1.setCell ⟨g, Z * 2, none⟩ (.int .i64 x2.1)).setCell ⟨g, Z * 2 + 1, none⟩ (.slice ax nx cx) = u2) from hu2.symm)
            clear hr r1 r2 R6 put1 put2 f1 f2 hC0 hC1' hu1 hu2 R1 R2 K1 K2 K6 hG hS hD e2 LN hA1 hB' hd hb6 hb6' hdw
            go_upto_region 6 with fail
            refine wp_region_held_drew (S := fun _ => True) (by kernel_rfl) trivial (fun _ => ?_)
            refine wpAnyH_take (i := 0) (v := (.slice (some ⟨g, 0, none⟩) n cap)) rfl (by kernel_rfl) (by kernel_rfl) (by kernel_rfl) (fun _ _ _ h => h) (Or.inl ⟨by kernel_rfl, fun u hSu => by go_simp⟩) trivial ?_
            simp only [Act.put, List.setIfInBounds_toArray, List.set_cons_zero, List.set_cons_succ]
            refine wpAnyH_take (i := 1) (v := .int .i64 ((J : Nat) : Int)) rfl (by kernel_rfl) (by kernel_rfl) (by kernel_rfl) (fun _ _ _ h => h) (Or.inl ⟨by kernel_rfl, fun u hSu => by go_simp⟩) trivial ?_
            simp only [Act.put, List.setIfInBounds_toArray, List.set_cons_zero, List.set_cons_succ]
            refine wpAnyH_take (i := 2) (v := (.slice (some ⟨g, 0, none⟩) n cap)) rfl (by kernel_rfl) (by kernel_rfl) (by kernel_rfl) (fun _ _ _ h => h) (Or.inl ⟨by kernel_rfl, fun u hSu => by go_simp⟩) trivial ?_
            simp only [Act.put, List.setIfInBounds_toArray, List.set_cons_zero, List.set_cons_succ]
            refine wpAnyH_take (i := 3) (v := .int .i64 ((J : Nat) : Int)) rfl (by kernel_rfl) (by kernel_rfl) (by kernel_rfl) (fun _ _ _ h => h) (Or.inl ⟨by kernel_rfl, fun u hSu => by go_simp⟩) trivial ?_
            simp only [Act.put, List.setIfInBounds_toArray, List.set_cons_zero, List.set_cons_succ]
            refine wpAnyH_take (i := 4) (v := .int .i64 ((Z : Nat) : Int)) rfl (by kernel_rfl) (by kernel_rfl) (by kernel_rfl) (fun _ _ _ h => h) (Or.inl ⟨by kernel_rfl, fun u hSu => by go_simp; try first | exact wz⟩) trivial ?_
            simp only [Act.put, List.setIfInBounds_toArray, List.set_cons_zero, List.set_cons_succ]
            refine wpAnyH_take (i := 5) (v := (.slice (some ⟨g, 0, none⟩) n cap)) rfl (by kernel_rfl) (by kernel_rfl) (by kernel_rfl) (fun _ _ _ h => h) (Or.inl ⟨by kernel_rfl, fun u hSu => by go_simp⟩) trivial ?_
            simp only [Act.put, List.setIfInBounds_toArray, List.set_cons_zero, List.set_cons_succ]
            refine wpAnyH_take (i := 6) (v := .int .i64 ((J : Nat) : Int)) rfl (by kernel_rfl) (by kernel_rfl) (by kernel_rfl) (fun _ _ _ h => h) (Or.inl ⟨by kernel_rfl, fun u hSu => by go_simp⟩) trivial ?_
            simp only [Act.put, List.setIfInBounds_toArray, List.set_cons_zero, List.set_cons_succ]
            refine wpAnyH_take (i := 7) (v := .int .i64 ((Z : Nat) : Int)) rfl (by kernel_rfl) (by kernel_rfl) (by kernel_rfl) (fun _ _ _ h => h) (Or.inl ⟨by kernel_rfl, fun u hSu => by go_simp; try first | exact wz⟩) trivial ?_
            simp only [Act.put, List.setIfInBounds_toArray, List.set_cons_zero, List.set_cons_succ]
            refine wpAnyH_take (i := 8) (v := .pointer (some ⟨g, Z * 2, none⟩)) rfl (by kernel_rfl) (by kernel_rfl) (by kernel_rfl) (fun _ _ _ h => h) (Or.inl ⟨by kernel_rfl, fun u hSu => by go_simp; try first | exact wz⟩) trivial ?_
            simp only [Act.put, List.setIfInBounds_toArray, List.set_cons_zero, List.set_cons_succ]
            refine wpAnyH_take (i := 10) (v := (.slice (some ⟨g, 0, none⟩) n cap)) rfl (by kernel_rfl) (by kernel_rfl) (by kernel_rfl) (fun _ _ _ h => h) (Or.inl ⟨by kernel_rfl, fun u hSu => by go_simp⟩) trivial ?_
            simp only [Act.put, List.setIfInBounds_toArray, List.set_cons_zero, List.set_cons_succ]
            refine wpAnyH_take (i := 11) (v := .int .i64 ((J : Nat) : Int)) rfl (by kernel_rfl) (by kernel_rfl) (by kernel_rfl) (fun _ _ _ h => h) (Or.inl ⟨by kernel_rfl, fun u hSu => by go_simp⟩) trivial ?_
            simp only [Act.put, List.setIfInBounds_toArray, List.set_cons_zero, List.set_cons_succ]
            refine wpAnyH_take (i := 12) (v := .pointer (some ⟨g, J * 2, none⟩)) rfl (by kernel_rfl) (by kernel_rfl) (by kernel_rfl) (fun _ _ _ h => h) (Or.inl ⟨by kernel_rfl, fun u hSu => by go_simp; try first | exact wz⟩) trivial ?_
            simp only [Act.put, List.setIfInBounds_toArray, List.set_cons_zero, List.set_cons_succ]
            refine wpAnyH_ready (rs := [9, 13]) (by kernel_rfl) (by simp) ?_
            refine AllReadyH.cons (o := _) rfl (fun K hK => ?_) ?_
            · go_simp
              refine hK.out _ _ trivial (fun _ => ?_)
              clear hK K
              refine wpAnyH_ready (rs := [13]) (by kernel_rfl) (by simp) ?_
              refine AllReadyH.cons (o := _) rfl (fun K hK => ?_) AllReadyH.nil
              go_simp
              refine hK.out _ _ trivial (fun _ => ?_)
              clear hK K
              refine wpAnyH_take (i := 14) (v := .pointer (some ⟨g, J * 2, none⟩)) rfl (by kernel_rfl) (by kernel_rfl) (by kernel_rfl) (fun _ _ _ h => h) (Or.inl ⟨by kernel_rfl, fun u hSu => by go_simp; try first | exact wz⟩) trivial ?_
              simp only [Act.put, List.setIfInBounds_toArray, List.set_cons_zero, List.set_cons_succ]
              refine wpAnyH_ready (rs := [15]) (by kernel_rfl) (by simp) ?_
              refine AllReadyH.cons (o := _) rfl (fun K hK => ?_) AllReadyH.nil
              go_simp
              refine hK.out _ _ trivial (fun _ => ?_)
              clear hK K
              rw [HU1.out]
              refine wpAnyH_take (i := 16) (v := .pointer (some ⟨g, Z * 2, none⟩)) rfl (by kernel_rfl) (by kernel_rfl) (by kernel_rfl) (fun _ _ _ h => h) (Or.inl ⟨by kernel_rfl, fun u hSu => by go_simp; try first | exact wz⟩) trivial ?_
              simp only [Act.put, List.setIfInBounds_toArray, List.set_cons_zero, List.set_cons_succ]
              refine wpAnyH_ready (rs := [17]) (by kernel_rfl) (by simp) ?_
              refine AllReadyH.cons (o := _) rfl (fun K hK => ?_) AllReadyH.nil
              go_simp
              refine hK.out _ _ trivial (fun _ => ?_)
              clear hK K
              rw [HU2.out]
              refine wpAnyH_done (by kernel_rfl) ?_ _
              go_wp2_with fail
              go_roundw
              case rel => exact ⟨Z, by go_num, haZ, hZI, NX.out, grown_to_drew KG.out⟩
              case measure => simp [intOf]; omega
            refine AllReadyH.cons (o := _) rfl (fun K hK => ?_) AllReadyH.nil
            go_simp
            refine hK.out _ _ trivial (fun _ => ?_)
            clear hK K
            refine wpAnyH_ready (rs := [9]) (by kernel_rfl) (by simp) ?_
            refine AllReadyH.cons (o := _) rfl (fun K hK => ?_) AllReadyH.nil
            go_simp
            refine hK.out _ _ trivial (fun _ => ?_)
            clear hK K
            refine wpAnyH_take (i := 14) (v := .pointer (some ⟨g, J * 2, none⟩)) rfl (by kernel_rfl) (by kernel_rfl) (by kernel_rfl) (fun _ _ _ h => h) (Or.inl ⟨by kernel_rfl, fun u hSu => by go_simp; try first | exact wz⟩) trivial ?_
            simp only [Act.put, List.setIfInBounds_toArray, List.set_cons_zero, List.set_cons_succ]
            refine wpAnyH_ready (rs := [15]) (by kernel_rfl) (by simp) ?_
            refine AllReadyH.cons (o := _) rfl (fun K hK => ?_) AllReadyH.nil
            go_simp
            refine hK.out _ _ trivial (fun _ => ?_)
            clear hK K
            rw [HU1.out]
            refine wpAnyH_take (i := 16) (v := .pointer (some ⟨g, Z * 2, none⟩)) rfl (by kernel_rfl) (by kernel_rfl) (by kernel_rfl) (fun _ _ _ h => h) (Or.inl ⟨by kernel_rfl, fun u hSu => by go_simp; try first | exact wz⟩) trivial ?_
            simp only [Act.put, List.setIfInBounds_toArray, List.set_cons_zero, List.set_cons_succ]
            refine wpAnyH_ready (rs := [17]) (by kernel_rfl) (by simp) ?_
            refine AllReadyH.cons (o := _) rfl (fun K hK => ?_) AllReadyH.nil
            go_simp
            refine hK.out _ _ trivial (fun _ => ?_)
            clear hK K
            rw [HU2.out]
            refine wpAnyH_done (by kernel_rfl) ?_ _
            go_wp2_with fail
            go_roundw
            case rel => exact ⟨Z, by go_num, haZ, hZI, NX.out, grown_to_drew KG.out⟩
            case measure => simp [intOf]; omega
          · have hd : decide (cmpI x2.1 y2.1 < 0) = false := decide_eq_false fun h => hk (cmpI_lt.1 h)
            rw [hd]
            have FF := FIN.out (C ++ [(.slice ay ny cy, y2)]) B' w6 hA1 hB' (fun z hz => by
              have h1 := HA1.out.1
              rw [hA1] at h1
              have h2 : kv z ≤ y2.1 := by
                rcases List.mem_append.1 hz with hz | hz
                · exact h1.l.le z hz (.slice ay ny cy, y2) (by simp)
                · rw [List.mem_singleton.1 hz]; exact Int.le_refl _
              have h3 : y2.1 ≤ x2.1 := by omega
              exact Int.le_trans h2 h3) (by simpa using R6)
            have HFF := (show Hid (∃ A2, Srt kv A2 ∧ Sam kv (A.take (q + 1)) A2 ∧ Row w6 g 28 (vfl (P ++ A2 ++ A.drop (q + 1) ++ S) ++ rest)) from FF)
            clear hr r1 r2 R6 FF hS hG hA1 hB' hd hb6 hb6' hdw
            go_wp2_with fail
            go_roundw
            case rel => exact ⟨I + 1, q + 1, by go_num, by have := HQ.out; omega, by omega, .inl (by omega), HFF, K6⟩
            case measure => simp [intOf]; omega
        · obtain ⟨C, B', hJ, hA1, hB', hr⟩ := hS.out
          have hj' : J ≤ a := by omega
          have hj2 : ¬ ((a : Int) < J) := by omega
          obtain rfl : C = [] := List.eq_nil_of_length_eq_zero (by omega)
          have FF := FIN.out [] B' wr hA1 hB' (fun y hy => by cases hy) hr
          have HFF := (show Hid (∃ A2, Srt kv A2 ∧ Sam kv (A.take (q + 1)) A2 ∧ Row wr g 28 (vfl (P ++ A2 ++ A.drop (q + 1) ++ S) ++ rest)) from FF)
          clear hJ hA1 hB' hr FF hS
          go_wp2_with fail
          refine wp_region_held_drew (S := fun _ => True) (by kernel_rfl) trivial (fun _ => ?_)
          refine wpAnyH_take (i := 0) (v := .int .i64 ((J : Nat) : Int)) rfl (by kernel_rfl) (by kernel_rfl) (by kernel_rfl) (fun _ _ _ h => h) (Or.inl ⟨by kernel_rfl, fun u hSu => by go_simp⟩) trivial ?_
          simp only [Act.put, List.setIfInBounds_toArray, List.set_cons_zero, List.set_cons_succ]
          refine wpAnyH_take (i := 1) (v := .int .i64 ((a : Nat) : Int)) rfl (by kernel_rfl) (by kernel_rfl) (by kernel_rfl) (fun _ _ _ h => h) (Or.inl ⟨by kernel_rfl, fun u hSu => by go_simp⟩) trivial ?_
          simp only [Act.put, List.setIfInBounds_toArray, List.set_cons_zero, List.set_cons_succ]
          refine wpAnyH_take (i := 2) (v := .bool false) rfl (by kernel_rfl) (by kernel_rfl) (by kernel_rfl) (fun _ _ _ h => h) (Or.inl ⟨by kernel_rfl, fun u hSu => by go_simp⟩) trivial ?_
          simp only [Act.put, List.setIfInBounds_toArray, List.set_cons_zero, List.set_cons_succ]
          refine wpAnyH_take (i := 3) (v := .bool false) rfl (by kernel_rfl) (by kernel_rfl) (by kernel_rfl) (fun _ _ _ h => h) (Or.inl ⟨by kernel_rfl, fun u hSu => by go_simp⟩) trivial ?_
          simp only [Act.put, List.setIfInBounds_toArray, List.set_cons_zero, List.set_cons_succ]
          refine wpAnyH_take (i := 4) (v := undef) rfl (by kernel_rfl) (by kernel_rfl) (by kernel_rfl) (fun _ _ _ h => h) (Or.inr ⟨by kernel_rfl, rfl⟩) trivial ?_
          simp only [Act.put, List.setIfInBounds_toArray, List.set_cons_zero, List.set_cons_succ]
          refine wpAnyH_take (i := 5) (v := undef) rfl (by kernel_rfl) (by kernel_rfl) (by kernel_rfl) (fun _ _ _ h => h) (Or.inr ⟨by kernel_rfl, rfl⟩) trivial ?_
          simp only [Act.put, List.setIfInBounds_toArray, List.set_cons_zero, List.set_cons_succ]
          refine wpAnyH_take (i := 6) (v := undef) rfl (by kernel_rfl) (by kernel_rfl) (by kernel_rfl) (fun _ _ _ h => h) (Or.inr ⟨by kernel_rfl, rfl⟩) trivial ?_
          simp only [Act.put, List.setIfInBounds_toArray, List.set_cons_zero, List.set_cons_succ]
          refine wpAnyH_take (i := 7) (v := undef) rfl (by kernel_rfl) (by kernel_rfl) (by kernel_rfl) (fun _ _ _ h => h) (Or.inr ⟨by kernel_rfl, rfl⟩) trivial ?_
          simp only [Act.put, List.setIfInBounds_toArray, List.set_cons_zero, List.set_cons_succ]
          refine wpAnyH_take (i := 8) (v := undef) rfl (by kernel_rfl) (by kernel_rfl) (by kernel_rfl) (fun _ _ _ h => h) (Or.inr ⟨by kernel_rfl, rfl⟩) trivial ?_
          simp only [Act.put, List.setIfInBounds_toArray, List.set_cons_zero, List.set_cons_succ]
          refine wpAnyH_take (i := 9) (v := undef) rfl (by kernel_rfl) (by kernel_rfl) (by kernel_rfl) (fun _ _ _ h => h) (Or.inr ⟨by kernel_rfl, rfl⟩) trivial ?_
          simp only [Act.put, List.setIfInBounds_toArray, List.set_cons_zero, List.set_cons_succ]
          refine wpAnyH_take (i := 10) (v := undef) rfl (by kernel_rfl) (by kernel_rfl) (by kernel_rfl) (fun _ _ _ h => h) (Or.inr ⟨by kernel_rfl, rfl⟩) trivial ?_
          simp only [Act.put, List.setIfInBounds_toArray, List.set_cons_zero, List.set_cons_succ]
          refine wpAnyH_take (i := 11) (v := undef) rfl (by kernel_rfl) (by kernel_rfl) (by kernel_rfl) (fun _ _ _ h => h) (Or.inr ⟨by kernel_rfl, rfl⟩) trivial ?_
          simp only [Act.put, List.setIfInBounds_toArray, List.set_cons_zero, List.set_cons_succ]
          refine wpAnyH_take (i := 12) (v := undef) rfl (by kernel_rfl) (by kernel_rfl) (by kernel_rfl) (fun _ _ _ h => h) (Or.inr ⟨by kernel_rfl, rfl⟩) trivial ?_
          simp only [Act.put, List.setIfInBounds_toArray, List.set_cons_zero, List.set_cons_succ]
          refine wpAnyH_take (i := 13) (v := undef) rfl (by kernel_rfl) (by kernel_rfl) (by kernel_rfl) (fun _ _ _ h => h) (Or.inr ⟨by kernel_rfl, rfl⟩) trivial ?_
          simp only [Act.put, List.setIfInBounds_toArray, List.set_cons_zero, List.set_cons_succ]
          refine wpAnyH_take (i := 14) (v := undef) rfl (by kernel_rfl) (by kernel_rfl) (by kernel_rfl) (fun _ _ _ h => h) (Or.inr ⟨by kernel_rfl, rfl⟩) trivial ?_
          simp only [Act.put, List.setIfInBounds_toArray, List.set_cons_zero, List.set_cons_succ]
          refine wpAnyH_take (i := 15) (v := undef) rfl (by kernel_rfl) (by kernel_rfl) (by kernel_rfl) (fun _ _ _ h => h) (Or.inr ⟨by kernel_rfl, rfl⟩) trivial ?_
          simp only [Act.put, List.setIfInBounds_toArray, List.set_cons_zero, List.set_cons_succ]
          refine wpAnyH_ready (rs := [16]) (by kernel_rfl) (by simp) ?_
          refine AllReadyH.cons (o := _) rfl (fun K hK => ?_) AllReadyH.nil
          go_simp
          refine hK.out _ _ trivial (fun _ => ?_)
          clear hK K
          refine wpAnyH_done (by kernel_rfl) ?_ _
          go_wp2_with fail
          go_roundw
          case rel => exact ⟨I + 1, q + 1, by go_num, by have := HQ.out; omega, by omega, .inl (by omega), HFF, grown_to_drew hG⟩
          case measure => simp [intOf]; omega
    · obtain ⟨A1, h1, h2, h3⟩ := hS.out
      have hqA : A.length ≤ q := by have := HL.out; have := HQ.out; omega
      rw [List.take_of_length_le hqA] at h2
      rw [List.drop_eq_nil_of_le hqA, List.append_nil] at h3
      go_wp2_with fail
      go_end0
      exact ⟨rfl, ⟨A1, h1, h2, h3⟩, hG⟩
end
section
open Go.RowKit Oct Stb
theorem Stb.Srt.get {α : Type} {k : α → Int} {l : List α} (h : Srt k l) {i j : Nat} {u v : α} (hij : i ≤ j) (hu : l[i]? = some u) (hv : l[j]? = some v) : k u ≤ k v := by
  rcases Nat.lt_or_ge i j with hlt | hge
  · obtain ⟨hi, rfl⟩ := List.getElem?_eq_some_iff.1 hu
    obtain ⟨hj, rfl⟩ := List.getElem?_eq_some_iff.1 hv
    exact (List.pairwise_iff_getElem.1 h) i j hi hj hlt
  · obtain rfl : i = j := by omega
    rw [hu] at hv
    injection hv with e
    rw [e]
    exact Int.le_refl _
/-- Two votes of a row change their places: what the walk meets on its way. -/
theorem swp {w6 : World} {g J Z : Nat} {C0 C1 C2 : List Value} {x2 y2 : Int} {xs ys : Value} (hR : Row w6 g 28 C0) (h1 : splice C0 (J * 2) [.int .i64 y2, ys] = C1) (h2 : splice C1 (Z * 2) [.int .i64 x2, xs] = C2) (f1 : J * 2 + 2 ≤ C0.length) (f2 : Z * 2 + 2 ≤ C0.length)
    (cx1 : w6.cell? ⟨g, J * 2 + 1, none⟩ = some xs) (cy0 : w6.cell? ⟨g, Z * 2, none⟩ = some (.int .i64 y2)) (cy1 : w6.cell? ⟨g, Z * 2 + 1, none⟩ = some ys) (hne : J ≠ Z) :
    ∃ u1 u2 : World, (∀ j, w6.frozen? ⟨g, j, none⟩ = false) ∧ (w6.setCell ⟨g, J * 2, none⟩ (.int .i64 y2)).cell? ⟨g, J * 2 + 1, none⟩ = some xs ∧ (∀ j, (w6.setCell ⟨g, J * 2, none⟩ (.int .i64 y2)).frozen? ⟨g, j, none⟩ = false) ∧
      u1.cell? ⟨g, Z * 2, none⟩ = some (.int .i64 y2) ∧ u1.cell? ⟨g, Z * 2 + 1, none⟩ = some ys ∧ (∀ j, u1.frozen? ⟨g, j, none⟩ = false) ∧ (u1.setCell ⟨g, Z * 2, none⟩ (.int .i64 x2)).cell? ⟨g, Z * 2 + 1, none⟩ = some ys ∧ (∀ j, (u1.setCell ⟨g, Z * 2, none⟩ (.int .i64 x2)).frozen? ⟨g, j, none⟩ = false) ∧
      Hid ((w6.setCell ⟨g, J * 2, none⟩ (.int .i64 y2)).setCell ⟨g, J * 2 + 1, none⟩ ys = u1) ∧ Hid ((u1.setCell ⟨g, Z * 2, none⟩ (.int .i64 x2)).setCell ⟨g, Z * 2 + 1, none⟩ xs = u2) ∧ Hid (Row u2 g 28 C2) ∧ Hid (w6.grownBy u2 (some g)) := by
  obtain ⟨u1, hu1⟩ : ∃ u, u = (w6.setCell ⟨g, J * 2, none⟩ (.int .i64 y2)).setCell ⟨g, J * 2 + 1, none⟩ ys := ⟨_, rfl⟩
  obtain ⟨u2, hu2⟩ : ∃ u, u = (u1.setCell ⟨g, Z * 2, none⟩ (.int .i64 x2)).setCell ⟨g, Z * 2 + 1, none⟩ xs := ⟨_, rfl⟩
  have l1 : C1.length = C0.length := by rw [← h1]; exact length_splice _ _ _ (by simpa using f1)
  have R1 : Row u1 g 28 C1 := by rw [hu1, ← h1]; exact row_two hR (by simpa using f1)
  have R2 : Row u2 g 28 C2 := by rw [hu2, ← h2]; exact row_two R1 (by simp; omega)
  have dy0 : u1.cell? ⟨g, Z * 2, none⟩ = some (.int .i64 y2) := by rw [hu1]; exact cell_set_ne (cell_set_ne cy0 (by omega)) (by omega)
  have dy1 : u1.cell? ⟨g, Z * 2 + 1, none⟩ = some ys := by rw [hu1]; exact cell_set_ne (cell_set_ne cy1 (by omega)) (by omega)
  exact ⟨u1, u2, fun j => hR.frozen j, cell_set_ne cx1 (by omega), fun j => (hR.set _ _).frozen j, dy0, dy1, fun j => R1.frozen j, cell_set_ne dy1 (by omega), fun j => (R1.set _ _).frozen j, hu1.symm, hu2.symm, R2, by rw [hu2, hu1]; exact (grown_two _ _ _ _ _ _).trans (grown_two _ _ _ _ _ _)⟩
/-- The first of two neighbours is written over, then the second. -/
theorem put_up (X D : List VC) (x y : VC) (rest : List Value) : splice (vfl (X ++ x :: y :: D) ++ rest) (X.length * 2) (vce y) = vfl (X ++ y :: y :: D) ++ rest ∧ splice (vfl (X ++ y :: y :: D) ++ rest) ((X.length + 1) * 2) (vce x) = vfl (X ++ y :: x :: D) ++ rest := by
  refine ⟨vfl_put X (y :: D) x y rest, ?_⟩
  have := vfl_put (X ++ [y]) D y x rest
  rw [List.length_append] at this
  simpa using this
/-- The second of two neighbours is written over, then the first. -/
theorem put_dn (X D : List VC) (x y : VC) (rest : List Value) : splice (vfl (X ++ y :: x :: D) ++ rest) ((X.length + 1) * 2) (vce y) = vfl (X ++ y :: y :: D) ++ rest ∧ splice (vfl (X ++ y :: y :: D) ++ rest) (X.length * 2) (vce x) = vfl (X ++ x :: y :: D) ++ rest := by
  refine ⟨?_, vfl_put X (y :: D) y x rest⟩
  have := vfl_put (X ++ [y]) D x y rest
  rw [List.length_append] at this
  simpa using this
/-- What stands at a place, and where it lies. -/
theorem vfl_get {L : List VC} {t : Nat} {y : VC} {rest : List Value} {w : World} {g : Nat} (h : Row w g 28 (vfl L ++ rest)) (hy : L[t]? = some y) : w.cell? ⟨g, t * 2, none⟩ = some (.int .i64 y.2.1) ∧ w.cell? ⟨g, t * 2 + 1, none⟩ = some y.1 := by
  obtain ⟨ht, e⟩ := List.getElem?_eq_some_iff.1 hy
  have hl : L = L.take t ++ y :: L.drop (t + 1) := by
    rw [← e, ← List.drop_eq_getElem_cons ht, List.take_append_drop]
  rw [hl] at h
  have g1 := vfl_at h
  rw [List.length_take, Nat.min_eq_left (by omega)] at g1
  exact ⟨g1 0 _ rfl, g1 1 _ rfl⟩
set_option maxRecDepth 10000 in
set_option maxHeartbeats 4000000 in
theorem symL_any (w : World) (g n cap a m b : Nat) (x : VC) (P B S : List VC) (rest : List Value) (ha : P.length = a) (hm1 : a + 1 = m) (hb : m + B.length = b) (hsB : Srt kv B) (hR : Row w g 28 (vfl (P ++ x :: (B ++ S)) ++ rest)) (hn : (P ++ x :: (B ++ S)).length = n) (hc : n ≤ cap) (hm : cap ≤ maxLen) (hn48 : n ≤ 281474976710656) (hone : ∀ z ∈ P ++ x :: (B ++ S), IsS z.1) :
    Calls Tryd.prog 62 #[.slice (some ⟨g, 0, none⟩) n cap, .int .i64 a, .int .i64 m, .int .i64 b, .func (.func 33) #[] #[]] w fun e w' => e = .returned (.tuple #[]) ∧ (∃ C, Srt kv C ∧ Sam kv (x :: B) C ∧ Row w' g 28 (vfl (P ++ C ++ S) ++ rest)) ∧ w.grownBy w' (some g) := by
  have hLn : P.length + 1 + B.length + S.length = n := by rw [← hn]; simp only [List.length_append, List.length_cons]; omega
  have hbn : b ≤ n := by omega
  have han : a < n := by omega
  have hmn : m ≤ b := by omega
  have hcmp := (show Hid (∀ u (x y : VC), Calls Tryd.prog 33 #[.agg #[.int .i64 x.2.1, x.1], .agg #[.int .i64 y.2.1, y.1]] u fun e w' => e = .returned (.int .i64 (cmpI x.2.1 y.2.1)) ∧ Below u.heap.size u w') from cmpV_any)
  have HO := (show Hid (∀ z ∈ P ++ x :: (B ++ S), IsS z.1) from hone)
  have HL := (show Hid (P.length = a ∧ a + 1 = m ∧ m + B.length = b ∧ b + S.length = n) from ⟨ha, hm1, hb, by omega⟩)
  have HS := (show Hid (Srt kv B) from hsB)
  have ww : IntKind.i64.wrap ((m : Int) - a) = 1 := by rw [IntWalk.i64_in _ (by omega)]; omega
  have HR := (show Hid (Row w g 28 (vfl (P ++ x :: (B ++ S)) ++ rest)) from hR)
  obtain ⟨x1, x2⟩ := x
  obtain ⟨ax, nx, cx, rfl⟩ : IsS x1 := hone (x1, x2) (by simp)
  clear ha hm1 hb hsB hR hn hone hLn
  go_enter Tryd.func62, Tryd.ntmps62
  go_wp2_with fail
  go_loopw [10, 11] (fun i j wr => ∃ I J : Nat, i = .int .i64 I ∧ j = .int .i64 J ∧ m ≤ I ∧ I ≤ J ∧ J ≤ b ∧ Hid ((∀ t y, B[t]? = some y → m + t < I → kv y < kv (.slice ax nx cx, x2)) ∧ (∀ t y, B[t]? = some y → J ≤ m + t → kv (.slice ax nx cx, x2) ≤ kv y) ∧ Row wr g 28 (vfl (P ++ (.slice ax nx cx, x2) :: (B ++ S)) ++ rest)) ∧ w.grownBy wr (some g)) (fun i j _ => (intOf j).toNat - (intOf i).toNat)
  case atStart => exact ⟨m, b, rfl, rfl, Nat.le_refl _, hmn, Nat.le_refl _, ⟨fun t y _ h => by omega, fun t y hy h => by have := (List.getElem?_eq_some_iff.1 hy).1; have := HL.out; omega, HR.out⟩, grown_refl _ _⟩
  case round =>
    clear HR
    obtain ⟨I, J, rfl, rfl, hmI, hIJ, hJb, hS, hG⟩ := hrel
    by_cases hlt : I < J
    · obtain ⟨h, hh⟩ : ∃ h, h = (I + J) / 2 := ⟨_, rfl⟩
      have hhi : ((I : Int) + (J : Int)) / 2 = (h : Int) := by omega
      have hmh : m ≤ h := by omega
      have hhJ : h < J := by omega
      have hIh : I ≤ h := by omega
      obtain ⟨y, hy⟩ : ∃ y, B[h - m]? = some y := ⟨_, List.getElem?_eq_getElem (by have := HL.out; omega)⟩
      have HY := (show Hid (B[h - m]? = some y) from hy)
      obtain ⟨i1, i2, i3⟩ := hS.out
      have oy := HO.out y (by have := List.mem_of_getElem? hy; simp [this])
      obtain ⟨y1, y2⟩ := y
      obtain ⟨ay, ny, cy, rfl⟩ : IsS y1 := oy
      obtain ⟨cx0, cx1⟩ := vfl_get (t := a) (y := (.slice ax nx cx, x2)) i3 (by rw [List.getElem?_append_right (by have := HL.out; omega)]; have := HL.out; rw [show a - P.length = 0 by omega]; rfl)
      obtain ⟨cy0, cy1⟩ := vfl_get (t := h) (y := (.slice ay ny cy, y2)) i3 (by have := HL.out; rw [List.getElem?_append_right (by omega), show h - P.length = (h - m) + 1 by omega, List.getElem?_cons_succ, List.getElem?_append_left (List.getElem?_eq_some_iff.1 hy).1]; exact hy)
      simp only at cx0 cx1 cy0 cy1
      have SK := (show Hid (∀ u, Below wr.heap.size wr u → u.cell? ⟨g, h * 2, none⟩ = some (.int .i64 y2.1) ∧ u.cell? ⟨g, h * 2 + 1, none⟩ = some (.slice ay ny cy) ∧ u.cell? ⟨g, a * 2, none⟩ = some (.int .i64 x2.1) ∧ u.cell? ⟨g, a * 2 + 1, none⟩ = some (.slice ax nx cx)) from fun u hu => ⟨keepC hu cy0, keepC hu cy1, keepC hu cx0, keepC hu cx1⟩)
      have hC1 := (show Hid (∀ u, Calls Tryd.prog 33 #[.agg #[.int .i64 y2.1, .slice ay ny cy], .agg #[.int .i64 x2.1, .slice ax nx cx]] u fun e w' => e = .returned (.int .i64 (cmpI y2.1 x2.1)) ∧ Below u.heap.size u w') from fun u => hcmp.out u (.slice ay ny cy, y2) (.slice ax nx cx, x2))
      have hdw : Below wr.heap.size wr wr.drew := ⟨rfl, rfl, rfl, Nat.le_refl _, fun _ _ => rfl⟩
      have hhn : h < n := by omega
      have HI := (show Hid ((∀ t y, B[t]? = some y → m + t < I → kv y < kv (.slice ax nx cx, x2)) ∧ (∀ t y, B[t]? = some y → J ≤ m + t → kv (.slice ax nx cx, x2) ≤ kv y)) from ⟨i1, i2⟩)
      have HR := (show Hid (Row wr g 28 (vfl (P ++ (.slice ax nx cx, x2) :: (B ++ S)) ++ rest)) from i3)
      clear hy i1 i2 i3 hS hh
      go_wp2_with fail
      go_region_held3 (fun u => u.cell? ⟨g, h * 2, none⟩ = some (.int .i64 y2.1) ∧ u.cell? ⟨g, h * 2 + 1, none⟩ = some (.slice ay ny cy) ∧ u.cell? ⟨g, a * 2, none⟩ = some (.int .i64 x2.1) ∧ u.cell? ⟨g, a * 2 + 1, none⟩ = some (.slice ax nx cx))
        (first | exact SK.out _ (by assumption) | go_keep)
        (first | (go_at_call 33; refine (hC1.out _).mono ?_; rintro e w6 ⟨rfl, hb6⟩; have hb6' := below_and hdw (Nat.le_refl _) hb6))
      have K6 := grown_trans hG (grown_of_below hb6' (some g)) (.inl rfl)
      have HR6 := (show Hid (Row w6 g 28 (vfl (P ++ (.slice ax nx cx, x2) :: (B ++ S)) ++ rest)) from HR.out.below hb6')
      by_cases hk : y2.1 < x2.1
      · have hd : decide (cmpI y2.1 x2.1 < 0) = true := decide_eq_true (cmpI_lt.2 hk)
        rw [hd]
        clear hd hb6 hb6' hdw SK hC1 HR cx0 cx1 cy0 cy1
        go_wp2_with fail
        go_roundw
        case rel =>
          refine ⟨h + 1, J, by go_num, rfl, by omega, by omega, hJb, ⟨fun t z hz ht => ?_, HI.out.2, HR6.out⟩, K6⟩
          have := HS.out.get (i := t) (j := h - m) (by omega) hz HY.out
          exact Int.lt_of_le_of_lt this hk
        case measure => simp [intOf]; omega
      · have hd : decide (cmpI y2.1 x2.1 < 0) = false := decide_eq_false fun h => hk (cmpI_lt.1 h)
        rw [hd]
        clear hd hb6 hb6' hdw SK hC1 HR cx0 cx1 cy0 cy1
        go_wp2_with fail
        go_roundw
        case rel =>
          refine ⟨I, h, rfl, by go_num, hmI, hIh, by omega, ⟨HI.out.1, fun t z hz ht => ?_, HR6.out⟩, K6⟩
          have h1 := HS.out.get (i := h - m) (j := t) (by omega) HY.out hz
          have h2 : x2.1 ≤ y2.1 := by omega
          exact Int.le_trans h2 h1
        case measure => simp [intOf]; omega
    · obtain rfl : I = J := by omega
      obtain ⟨i1, i2, i3⟩ := hS.out
      obtain ⟨q, hq⟩ : ∃ q, m + q = I := ⟨I - m, by omega⟩
      have hqB : q ≤ B.length := by have := HL.out; omega
      have t1 : ∀ y ∈ B.take q, kv y < kv (.slice ax nx cx, x2) := fun y hy => by
        obtain ⟨t, ht⟩ := List.getElem?_of_mem hy
        rw [List.getElem?_take] at ht
        split at ht
        · exact i1 t y ht (by omega)
        · cases ht
      have t2 : ∀ y ∈ B.drop q, kv (.slice ax nx cx, x2) ≤ kv y := fun y hy => by
        obtain ⟨t, ht⟩ := List.getElem?_of_mem hy
        rw [List.getElem?_drop] at ht
        exact i2 (q + t) y ht (by omega)
      have HT := (show Hid ((∀ y ∈ B.take q, kv y < kv (.slice ax nx cx, x2)) ∧ (∀ y ∈ B.drop q, kv (.slice ax nx cx, x2) ≤ kv y)) from ⟨t1, t2⟩)
      clear t1 t2
      have ST := (show Hid (Row wr g 28 (vfl (P ++ B.take 0 ++ (.slice ax nx cx, x2) :: (B.drop 0 ++ S)) ++ rest)) by show Row _ _ _ _; simpa using i3)
      have HQ := (show Hid (m + q = I ∧ q ≤ B.length) from ⟨hq, hqB⟩)
      have wI : IntKind.i64.wrap ((I : Int) - 1) = (I : Int) - 1 := IntWalk.i64_in _ (by omega)
      have hIn : I ≤ n := by omega
      have hma : a < I := by have := HL.out; omega
      clear i1 i2 i3 hS hq hqB
      go_wp2_with fail
      go_loopw [13] (fun c wx => ∃ K d : Nat, c = .int .i64 K ∧ K + 1 ≤ I ∧ Hid (K = a + d ∧ Row wx g 28 (vfl (P ++ B.take d ++ (.slice ax nx cx, x2) :: (B.drop d ++ S)) ++ rest)) ∧ w.grownBy wx (some g)) (fun c _ => I - (intOf c).toNat)
      case atStart => exact ⟨a, 0, rfl, by omega, ⟨rfl, ST.out⟩, hG⟩
      case round =>
        clear ST hG
        obtain ⟨J, d, rfl, hKI, hS, hG⟩ := hrel
        by_cases hk : J + 1 < I
        · obtain ⟨hJd, hr⟩ := hS.out
          obtain ⟨Z, hZ⟩ : ∃ Z, Z = J + 1 := ⟨_, rfl⟩
          have hdl : d < B.length := by have := HL.out; have := HQ.out; omega
          obtain ⟨y, hy⟩ : ∃ y, B[d]? = some y := ⟨_, List.getElem?_eq_getElem hdl⟩
          have dB : B.drop d = y :: B.drop (d + 1) := by
            rw [List.drop_eq_getElem_cons hdl]
            obtain ⟨_, e⟩ := List.getElem?_eq_some_iff.1 hy
            rw [e]
          have tB : B.take (d + 1) = B.take d ++ [y] := take_snoc' B d y hy
          have oy := HO.out y (by have := List.mem_of_getElem? hy; simp [this])
          obtain ⟨y1, y2⟩ := y
          obtain ⟨ay, ny, cy, rfl⟩ : IsS y1 := oy
          have hX : (P ++ B.take d).length = J := by have := HL.out; rw [List.length_append, List.length_take]; omega
          rw [dB] at hr
          have R6 : Row wr g 28 (vfl ((P ++ B.take d) ++ (.slice ax nx cx, x2) :: (.slice ay ny cy, y2) :: (B.drop (d + 1) ++ S)) ++ rest) := hr
          have hlen : ((P ++ B.take d) ++ ((.slice ax nx cx, x2) : VC) :: (.slice ay ny cy, y2) :: (B.drop (d + 1) ++ S)).length = n := by have := HL.out; simp only [List.length_append, List.length_cons, List.length_take, List.length_drop]; omega
          obtain ⟨cx0, cx1⟩ := vfl_get (t := J) (y := (.slice ax nx cx, x2)) R6 (by rw [List.getElem?_append_right (by omega), hX, Nat.sub_self]; rfl)
          obtain ⟨cy0, cy1⟩ := vfl_get (t := Z) (y := (.slice ay ny cy, y2)) R6 (by rw [List.getElem?_append_right (by omega), hX, show Z - J = 1 by omega]; rfl)
          simp only at cx0 cx1 cy0 cy1
          obtain ⟨p1, p2⟩ := put_up (P ++ B.take d) (B.drop (d + 1) ++ S) (.slice ax nx cx, x2) (.slice ay ny cy, y2) rest
          rw [hX] at p1 p2
          rw [← hZ] at p2
          obtain ⟨u1, u2, fz, s1, fz1, dy0, dy1, gz, s2, gz1, HU1, HU2, HR2, HK2⟩ := swp R6 p1 p2 (by rw [List.length_append, vfl_len, hlen]; omega) (by rw [List.length_append, vfl_len, hlen]; omega) cx1 cy0 cy1 (by omega)
          have wz : IntKind.i64.wrap ((J : Int) + 1) = (Z : Int) := by rw [IntWalk.i64_in _ (by omega)]; omega
          have hJn : J < n := by omega
          have hZn : Z < n := by omega
          have hZI : Z + 1 ≤ I := by omega
          have hki : (J : Int) < (I : Int) - 1 := by omega
          have NX := (show Hid (Z = a + (d + 1) ∧ Row u2.drew g 28 (vfl (P ++ B.take (d + 1) ++ (.slice ax nx cx, x2) :: (B.drop (d + 1) ++ S)) ++ rest)) from ⟨by omega, by rw [tB]; have := HR2.out.drew; show Row _ _ _ _; simpa using this⟩)
          have KG := (show Hid (w.grownBy u2 (some g)) from grown_trans hG HK2.out (.inl rfl))
          have HZJ := (show Hid (Z = J + 1) from hZ)
          clear hZ hdl hy dB tB hX hr R6 hlen p1 p2 HR2 HK2 hS hG hJd
          go_upto_region 11 with fail
          refine wp_region_held_drew (S := fun _ => True) (by kernel_rfl) trivial (fun _ => ?_)
          refine wpAnyH_take (i := 0) (v := (.slice (some ⟨g, 0, none⟩) n cap)) rfl (by kernel_rfl) (by kernel_rfl) (by kernel_rfl) (fun _ _ _ h => h) (Or.inl ⟨by kernel_rfl, fun u hSu => by go_simp⟩) trivial ?_
          simp only [Act.put, List.setIfInBounds_toArray, List.set_cons_zero, List.set_cons_succ]
          refine wpAnyH_take (i := 1) (v := .int .i64 ((J : Nat) : Int)) rfl (by kernel_rfl) (by kernel_rfl) (by kernel_rfl) (fun _ _ _ h => h) (Or.inl ⟨by kernel_rfl, fun u hSu => by go_simp⟩) trivial ?_
          simp only [Act.put, List.setIfInBounds_toArray, List.set_cons_zero, List.set_cons_succ]
          refine wpAnyH_take (i := 2) (v := (.slice (some ⟨g, 0, none⟩) n cap)) rfl (by kernel_rfl) (by kernel_rfl) (by kernel_rfl) (fun _ _ _ h => h) (Or.inl ⟨by kernel_rfl, fun u hSu => by go_simp⟩) trivial ?_
          simp only [Act.put, List.setIfInBounds_toArray, List.set_cons_zero, List.set_cons_succ]
          refine wpAnyH_take (i := 3) (v := .int .i64 ((J : Nat) : Int)) rfl (by kernel_rfl) (by kernel_rfl) (by kernel_rfl) (fun _ _ _ h => h) (Or.inl ⟨by kernel_rfl, fun u hSu => by go_simp⟩) trivial ?_
          simp only [Act.put, List.setIfInBounds_toArray, List.set_cons_zero, List.set_cons_succ]
          refine wpAnyH_take (i := 4) (v := .int .i64 ((Z : Nat) : Int)) rfl (by kernel_rfl) (by kernel_rfl) (by kernel_rfl) (fun _ _ _ h => h) (Or.inl ⟨by kernel_rfl, fun u hSu => by go_simp; try first | exact wz⟩) trivial ?_
          simp only [Act.put, List.setIfInBounds_toArray, List.set_cons_zero, List.set_cons_succ]
          refine wpAnyH_take (i := 5) (v := (.slice (some ⟨g, 0, none⟩) n cap)) rfl (by kernel_rfl) (by kernel_rfl) (by kernel_rfl) (fun _ _ _ h => h) (Or.inl ⟨by kernel_rfl, fun u hSu => by go_simp⟩) trivial ?_
          simp only [Act.put, List.setIfInBounds_toArray, List.set_cons_zero, List.set_cons_succ]
          refine wpAnyH_take (i := 6) (v := .int .i64 ((J : Nat) : Int)) rfl (by kernel_rfl) (by kernel_rfl) (by kernel_rfl) (fun _ _ _ h => h) (Or.inl ⟨by kernel_rfl, fun u hSu => by go_simp⟩) trivial ?_
          simp only [Act.put, List.setIfInBounds_toArray, List.set_cons_zero, List.set_cons_succ]
          refine wpAnyH_take (i := 7) (v := .int .i64 ((Z : Nat) : Int)) rfl (by kernel_rfl) (by kernel_rfl) (by kernel_rfl) (fun _ _ _ h => h) (Or.inl ⟨by kernel_rfl, fun u hSu => by go_simp; try first | exact wz⟩) trivial ?_
          simp only [Act.put, List.setIfInBounds_toArray, List.set_cons_zero, List.set_cons_succ]
          refine wpAnyH_take (i := 8) (v := .pointer (some ⟨g, Z * 2, none⟩)) rfl (by kernel_rfl) (by kernel_rfl) (by kernel_rfl) (fun _ _ _ h => h) (Or.inl ⟨by kernel_rfl, fun u hSu => by go_simp; try first | exact wz⟩) trivial ?_
          simp only [Act.put, List.setIfInBounds_toArray, List.set_cons_zero, List.set_cons_succ]
          refine wpAnyH_take (i := 10) (v := (.slice (some ⟨g, 0, none⟩) n cap)) rfl (by kernel_rfl) (by kernel_rfl) (by kernel_rfl) (fun _ _ _ h => h) (Or.inl ⟨by kernel_rfl, fun u hSu => by go_simp⟩) trivial ?_
          simp only [Act.put, List.setIfInBounds_toArray, List.set_cons_zero, List.set_cons_succ]
          refine wpAnyH_take (i := 11) (v := .int .i64 ((J : Nat) : Int)) rfl (by kernel_rfl) (by kernel_rfl) (by kernel_rfl) (fun _ _ _ h => h) (Or.inl ⟨by kernel_rfl, fun u hSu => by go_simp⟩) trivial ?_
          simp only [Act.put, List.setIfInBounds_toArray, List.set_cons_zero, List.set_cons_succ]
          refine wpAnyH_take (i := 12) (v := .pointer (some ⟨g, J * 2, none⟩)) rfl (by kernel_rfl) (by kernel_rfl) (by kernel_rfl) (fun _ _ _ h => h) (Or.inl ⟨by kernel_rfl, fun u hSu => by go_simp; try first | exact wz⟩) trivial ?_
          simp only [Act.put, List.setIfInBounds_toArray, List.set_cons_zero, List.set_cons_succ]
          refine wpAnyH_ready (rs := [9, 13]) (by kernel_rfl) (by simp) ?_
          refine AllReadyH.cons (o := _) rfl (fun K hK => ?_) ?_
          · go_simp
            refine hK.out _ _ trivial (fun _ => ?_)
            clear hK K
            refine wpAnyH_ready (rs := [13]) (by kernel_rfl) (by simp) ?_
            refine AllReadyH.cons (o := _) rfl (fun K hK => ?_) AllReadyH.nil
            go_simp
            refine hK.out _ _ trivial (fun _ => ?_)
            clear hK K
            refine wpAnyH_take (i := 14) (v := .pointer (some ⟨g, J * 2, none⟩)) rfl (by kernel_rfl) (by kernel_rfl) (by kernel_rfl) (fun _ _ _ h => h) (Or.inl ⟨by kernel_rfl, fun u hSu => by go_simp; try first | exact wz⟩) trivial ?_
            simp only [Act.put, List.setIfInBounds_toArray, List.set_cons_zero, List.set_cons_succ]
            refine wpAnyH_ready (rs := [15]) (by kernel_rfl) (by simp) ?_
            refine AllReadyH.cons (o := _) rfl (fun K hK => ?_) AllReadyH.nil
            go_simp
            refine hK.out _ _ trivial (fun _ => ?_)
            clear hK K
            rw [HU1.out]
            refine wpAnyH_take (i := 16) (v := .pointer (some ⟨g, Z * 2, none⟩)) rfl (by kernel_rfl) (by kernel_rfl) (by kernel_rfl) (fun _ _ _ h => h) (Or.inl ⟨by kernel_rfl, fun u hSu => by go_simp; try first | exact wz⟩) trivial ?_
            simp only [Act.put, List.setIfInBounds_toArray, List.set_cons_zero, List.set_cons_succ]
            refine wpAnyH_ready (rs := [17]) (by kernel_rfl) (by simp) ?_
            refine AllReadyH.cons (o := _) rfl (fun K hK => ?_) AllReadyH.nil
            go_simp
            refine hK.out _ _ trivial (fun _ => ?_)
            clear hK K
            rw [HU2.out]
            refine wpAnyH_done (by kernel_rfl) ?_ _
            go_wp2_with fail
            go_roundw
            case rel => exact ⟨Z, d + 1, by go_num, hZI, NX.out, grown_to_drew KG.out⟩
            case measure => have := HZJ.out; simp [intOf]; omega
          refine AllReadyH.cons (o := _) rfl (fun K hK => ?_) AllReadyH.nil
          go_simp
          refine hK.out _ _ trivial (fun _ => ?_)
          clear hK K
          refine wpAnyH_ready (rs := [9]) (by kernel_rfl) (by simp) ?_
          refine AllReadyH.cons (o := _) rfl (fun K hK => ?_) AllReadyH.nil
          go_simp
          refine hK.out _ _ trivial (fun _ => ?_)
          clear hK K
          refine wpAnyH_take (i := 14) (v := .pointer (some ⟨g, J * 2, none⟩)) rfl (by kernel_rfl) (by kernel_rfl) (by kernel_rfl) (fun _ _ _ h => h) (Or.inl ⟨by kernel_rfl, fun u hSu => by go_simp; try first | exact wz⟩) trivial ?_
          simp only [Act.put, List.setIfInBounds_toArray, List.set_cons_zero, List.set_cons_succ]
          refine wpAnyH_ready (rs := [15]) (by kernel_rfl) (by simp) ?_
          refine AllReadyH.cons (o := _) rfl (fun K hK => ?_) AllReadyH.nil
          go_simp
          refine hK.out _ _ trivial (fun _ => ?_)
          clear hK K
          rw [HU1.out]
          refine wpAnyH_take (i := 16) (v := .pointer (some ⟨g, Z * 2, none⟩)) rfl (by kernel_rfl) (by kernel_rfl) (by kernel_rfl) (fun _ _ _ h => h) (Or.inl ⟨by kernel_rfl, fun u hSu => by go_simp; try first | exact wz⟩) trivial ?_
          simp only [Act.put, List.setIfInBounds_toArray, List.set_cons_zero, List.set_cons_succ]
          refine wpAnyH_ready (rs := [17]) (by kernel_rfl) (by simp) ?_
          refine AllReadyH.cons (o := _) rfl (fun K hK => ?_) AllReadyH.nil
          go_simp
          refine hK.out _ _ trivial (fun _ => ?_)
          clear hK K
          rw [HU2.out]
          refine wpAnyH_done (by kernel_rfl) ?_ _
          go_wp2_with fail
          go_roundw
          case rel => exact ⟨Z, d + 1, by go_num, hZI, NX.out, grown_to_drew KG.out⟩
          case measure => have := HZJ.out; simp [intOf]; omega
        · obtain ⟨hJd, hr⟩ := hS.out
          have hki : decide ((J : Int) < (I : Int) - 1) = false := by simp; omega
          have hdq : d = q := by have := HL.out; have := HQ.out; omega
          subst hdq
          have FIN : ∃ C, Srt kv C ∧ Sam kv ((.slice ax nx cx, x2) :: B) C ∧ Row wr g 28 (vfl (P ++ C ++ S) ++ rest) := by
            refine ⟨B.take d ++ (.slice ax nx cx, x2) :: B.drop d, ?_, ?_, by simpa using hr⟩
            · have hs := HS.out
              rw [← List.take_append_drop d B] at hs
              refine Srt.app hs.l (List.pairwise_cons.2 ⟨HT.out.2, hs.r⟩) fun u hu v hv => ?_
              rcases List.mem_cons.1 hv with rfl | hv
              · exact Int.le_of_lt (HT.out.1 u hu)
              · exact hs.le u hu v hv
            · have s := (Sam.swap (k := kv) (a := [(.slice ax nx cx, x2)]) (b := B.take d) fun u hu v hv => by rw [List.mem_singleton.1 hu]; exact HT.out.1 v hv).app (Sam.refl (k := kv) (B.drop d))
              have e : [((.slice ax nx cx, x2) : VC)] ++ B.take d ++ B.drop d = (.slice ax nx cx, x2) :: B := by simp
              rw [e] at s
              simpa using s
          clear hJd hr hS
          go_wp2_with fail
          refine bodyPost_ret (results_none rfl _ _ _) rfl ?_
          exact ⟨rfl, FIN, hG⟩
end
section
open Go.RowKit Oct Stb
set_option maxRecDepth 10000 in
set_option maxHeartbeats 4000000 in
theorem symR_any (w : World) (g n cap a m b : Nat) (x : VC) (P A S : List VC) (rest : List Value) (ha : P.length = a) (hma : a + A.length = m) (hA2 : 2 ≤ A.length) (hb : m + 1 = b) (hsA : Srt kv A) (hR : Row w g 28 (vfl (P ++ A ++ x :: S) ++ rest)) (hn : (P ++ A ++ x :: S).length = n) (hc : n ≤ cap) (hm : cap ≤ maxLen) (hn48 : n ≤ 281474976710656) (hone : ∀ z ∈ P ++ A ++ x :: S, IsS z.1) :
    Calls Tryd.prog 62 #[.slice (some ⟨g, 0, none⟩) n cap, .int .i64 a, .int .i64 m, .int .i64 b, .func (.func 33) #[] #[]] w fun e w' => e = .returned (.tuple #[]) ∧ (∃ C, Srt kv C ∧ Sam kv (A ++ [x]) C ∧ Row w' g 28 (vfl (P ++ C ++ S) ++ rest)) ∧ w.grownBy w' (some g) := by
  have hLn : P.length + A.length + 1 + S.length = n := by rw [← hn]; simp only [List.length_append, List.length_cons]; omega
  have hbn : b ≤ n := by omega
  have hmn : m < n := by omega
  have ham : a ≤ m := by omega
  have hcmp := (show Hid (∀ u (x y : VC), Calls Tryd.prog 33 #[.agg #[.int .i64 x.2.1, x.1], .agg #[.int .i64 y.2.1, y.1]] u fun e w' => e = .returned (.int .i64 (cmpI x.2.1 y.2.1)) ∧ Below u.heap.size u w') from cmpV_any)
  have HO := (show Hid (∀ z ∈ P ++ A ++ x :: S, IsS z.1) from hone)
  have HL := (show Hid (P.length = a ∧ a + A.length = m ∧ m + 1 = b ∧ b + S.length = n) from ⟨ha, hma, hb, by omega⟩)
  have HS := (show Hid (Srt kv A) from hsA)
  obtain ⟨D, hD⟩ : ∃ D, D = A.length := ⟨_, rfl⟩
  have ww : IntKind.i64.wrap ((m : Int) - a) = (D : Int) := by rw [IntWalk.i64_in _ (by omega)]; omega
  have hD1 : ((D : Int) == 1) = false := by simp; omega
  have hD2 : ¬ (D = 1) := by omega
  have wb : IntKind.i64.wrap ((b : Int) - m) = 1 := by rw [IntWalk.i64_in _ (by omega)]; omega
  have HR := (show Hid (Row w g 28 (vfl (P ++ A ++ x :: S) ++ rest)) from hR)
  obtain ⟨x1, x2⟩ := x
  obtain ⟨ax, nx, cx, rfl⟩ : IsS x1 := hone (x1, x2) (by simp)
  clear ha hma hb hsA hR hn hone hLn hD hA2
  go_enter Tryd.func62, Tryd.ntmps62
  go_wp2_with fail
  go_loopw [14, 15] (fun i j wr => ∃ I J : Nat, i = .int .i64 I ∧ j = .int .i64 J ∧ a ≤ I ∧ I ≤ J ∧ J ≤ m ∧ Hid ((∀ t y, A[t]? = some y → a + t < I → kv y ≤ kv (.slice ax nx cx, x2)) ∧ (∀ t y, A[t]? = some y → J ≤ a + t → kv (.slice ax nx cx, x2) < kv y) ∧ Row wr g 28 (vfl (P ++ A ++ (.slice ax nx cx, x2) :: S) ++ rest)) ∧ w.grownBy wr (some g)) (fun i j _ => (intOf j).toNat - (intOf i).toNat)
  case atStart => exact ⟨a, m, rfl, rfl, Nat.le_refl _, ham, Nat.le_refl _, ⟨fun t y _ h => by omega, fun t y hy h => by have := (List.getElem?_eq_some_iff.1 hy).1; have := HL.out; omega, HR.out⟩, grown_refl _ _⟩
  case round =>
    clear HR
    obtain ⟨I, J, rfl, rfl, haI, hIJ, hJm, hS, hG⟩ := hrel
    by_cases hlt : I < J
    · obtain ⟨h, hh⟩ : ∃ h, h = (I + J) / 2 := ⟨_, rfl⟩
      have hhi : ((I : Int) + (J : Int)) / 2 = (h : Int) := by omega
      have hah : a ≤ h := by omega
      have hhJ : h < J := by omega
      have hIh : I ≤ h := by omega
      obtain ⟨y, hy⟩ : ∃ y, A[h - a]? = some y := ⟨_, List.getElem?_eq_getElem (by have := HL.out; omega)⟩
      have HY := (show Hid (A[h - a]? = some y) from hy)
      obtain ⟨i1, i2, i3⟩ := hS.out
      have oy := HO.out y (by have := List.mem_of_getElem? hy; simp [this])
      obtain ⟨y1, y2⟩ := y
      obtain ⟨ay, ny, cy, rfl⟩ : IsS y1 := oy
      obtain ⟨cx0, cx1⟩ := vfl_get (t := m) (y := (.slice ax nx cx, x2)) i3 (by have := HL.out; rw [List.getElem?_append_right (by rw [List.length_append]; omega), List.length_append, show m - (P.length + A.length) = 0 by omega]; rfl)
      obtain ⟨cy0, cy1⟩ := vfl_get (t := h) (y := (.slice ay ny cy, y2)) i3 (by have := HL.out; rw [List.getElem?_append_left (by rw [List.length_append]; omega), List.getElem?_append_right (by omega), show h - P.length = h - a by omega]; exact hy)
      simp only at cx0 cx1 cy0 cy1
      have SK := (show Hid (∀ u, Below wr.heap.size wr u → u.cell? ⟨g, m * 2, none⟩ = some (.int .i64 x2.1) ∧ u.cell? ⟨g, m * 2 + 1, none⟩ = some (.slice ax nx cx) ∧ u.cell? ⟨g, h * 2, none⟩ = some (.int .i64 y2.1) ∧ u.cell? ⟨g, h * 2 + 1, none⟩ = some (.slice ay ny cy)) from fun u hu => ⟨keepC hu cx0, keepC hu cx1, keepC hu cy0, keepC hu cy1⟩)
      have hC1 := (show Hid (∀ u, Calls Tryd.prog 33 #[.agg #[.int .i64 x2.1, .slice ax nx cx], .agg #[.int .i64 y2.1, .slice ay ny cy]] u fun e w' => e = .returned (.int .i64 (cmpI x2.1 y2.1)) ∧ Below u.heap.size u w') from fun u => hcmp.out u (.slice ax nx cx, x2) (.slice ay ny cy, y2))
      have hdw : Below wr.heap.size wr wr.drew := ⟨rfl, rfl, rfl, Nat.le_refl _, fun _ _ => rfl⟩
      have hhn : h < n := by omega
      have HI := (show Hid ((∀ t y, A[t]? = some y → a + t < I → kv y ≤ kv (.slice ax nx cx, x2)) ∧ (∀ t y, A[t]? = some y → J ≤ a + t → kv (.slice ax nx cx, x2) < kv y)) from ⟨i1, i2⟩)
      have HR := (show Hid (Row wr g 28 (vfl (P ++ A ++ (.slice ax nx cx, x2) :: S) ++ rest)) from i3)
      clear hy i1 i2 i3 hS hh
      go_wp2_with fail
      go_region_held3 (fun u => u.cell? ⟨g, m * 2, none⟩ = some (.int .i64 x2.1) ∧ u.cell? ⟨g, m * 2 + 1, none⟩ = some (.slice ax nx cx) ∧ u.cell? ⟨g, h * 2, none⟩ = some (.int .i64 y2.1) ∧ u.cell? ⟨g, h * 2 + 1, none⟩ = some (.slice ay ny cy))
        (first | exact SK.out _ (by assumption) | go_keep)
        (first | (go_at_call 33; refine (hC1.out _).mono ?_; rintro e w6 ⟨rfl, hb6⟩; have hb6' := below_and hdw (Nat.le_refl _) hb6))
      have K6 := grown_trans hG (grown_of_below hb6' (some g)) (.inl rfl)
      have HR6 := (show Hid (Row w6 g 28 (vfl (P ++ A ++ (.slice ax nx cx, x2) :: S) ++ rest)) from HR.out.below hb6')
      by_cases hk : x2.1 < y2.1
      · have hd : decide (cmpI x2.1 y2.1 < 0) = true := decide_eq_true (cmpI_lt.2 hk)
        rw [hd]
        clear hd hb6 hb6' hdw SK hC1 HR cx0 cx1 cy0 cy1
        go_wp2_with fail
        go_roundw
        case rel =>
          refine ⟨I, h, rfl, by go_num, haI, hIh, by omega, ⟨HI.out.1, fun t z hz ht => ?_, HR6.out⟩, K6⟩
          have h1 := HS.out.get (i := h - a) (j := t) (by omega) HY.out hz
          exact Int.lt_of_lt_of_le hk h1
        case measure => simp [intOf]; omega
      · have hd : decide (cmpI x2.1 y2.1 < 0) = false := decide_eq_false fun h => hk (cmpI_lt.1 h)
        rw [hd]
        clear hd hb6 hb6' hdw SK hC1 HR cx0 cx1 cy0 cy1
        go_wp2_with fail
        go_roundw
        case rel =>
          refine ⟨h + 1, J, by go_num, rfl, by omega, by omega, hJm, ⟨fun t z hz ht => ?_, HI.out.2, HR6.out⟩, K6⟩
          have h1 := HS.out.get (i := t) (j := h - a) (by omega) hz HY.out
          have h2 : y2.1 ≤ x2.1 := by omega
          exact Int.le_trans h1 h2
        case measure => simp [intOf]; omega
    · obtain rfl : I = J := by omega
      obtain ⟨i1, i2, i3⟩ := hS.out
      obtain ⟨q, hq⟩ : ∃ q, a + q = I := ⟨I - a, by omega⟩
      have hqA : q ≤ A.length := by have := HL.out; omega
      have t1 : ∀ y ∈ A.take q, kv y ≤ kv (.slice ax nx cx, x2) := fun y hy => by
        obtain ⟨t, ht⟩ := List.getElem?_of_mem hy
        rw [List.getElem?_take] at ht
        split at ht
        · exact i1 t y ht (by omega)
        · cases ht
      have t2 : ∀ y ∈ A.drop q, kv (.slice ax nx cx, x2) < kv y := fun y hy => by
        obtain ⟨t, ht⟩ := List.getElem?_of_mem hy
        rw [List.getElem?_drop] at ht
        exact i2 (q + t) y ht (by omega)
      have HT := (show Hid ((∀ y ∈ A.take q, kv y ≤ kv (.slice ax nx cx, x2)) ∧ (∀ y ∈ A.drop q, kv (.slice ax nx cx, x2) < kv y)) from ⟨t1, t2⟩)
      have ST := (show Hid (Row wr g 28 (vfl (P ++ A.take A.length ++ (.slice ax nx cx, x2) :: (A.drop A.length ++ S)) ++ rest)) by show Row _ _ _ _; simpa using i3)
      have HQ := (show Hid (a + q = I ∧ q ≤ A.length) from ⟨hq, hqA⟩)
      have hIn : I ≤ n := by omega
      clear t1 t2 i1 i2 i3 hS hq hqA
      go_wp2_with fail
      go_loopw [17] (fun c wx => ∃ K d : Nat, c = .int .i64 K ∧ I ≤ K ∧ K ≤ m ∧ Hid (K = a + d ∧ Row wx g 28 (vfl (P ++ A.take d ++ (.slice ax nx cx, x2) :: (A.drop d ++ S)) ++ rest)) ∧ w.grownBy wx (some g)) (fun c _ => (intOf c).toNat)
      case atStart => exact ⟨m, A.length, rfl, hJm, Nat.le_refl _, ⟨by have := HL.out; omega, ST.out⟩, hG⟩
      case round =>
        clear ST hG
        obtain ⟨J, d', rfl, hIJ, hJm2, hS, hG⟩ := hrel
        by_cases hk : I < J
        · obtain ⟨hJd, hr⟩ := hS.out
          obtain ⟨d, rfl⟩ : ∃ d, d' = d + 1 := ⟨d' - 1, by omega⟩
          obtain ⟨Z, hZ⟩ : ∃ Z, J = Z + 1 := ⟨J - 1, by omega⟩
          have hdl : d < A.length := by have := HL.out; omega
          obtain ⟨y, hy⟩ : ∃ y, A[d]? = some y := ⟨_, List.getElem?_eq_getElem hdl⟩
          have dA : A.drop d = y :: A.drop (d + 1) := by
            rw [List.drop_eq_getElem_cons hdl]
            obtain ⟨_, e⟩ := List.getElem?_eq_some_iff.1 hy
            rw [e]
          have tA : A.take (d + 1) = A.take d ++ [y] := take_snoc' A d y hy
          have oy := HO.out y (by have := List.mem_of_getElem? hy; simp [this])
          obtain ⟨y1, y2⟩ := y
          obtain ⟨ay, ny, cy, rfl⟩ : IsS y1 := oy
          have hX : (P ++ A.take d).length = Z := by have := HL.out; rw [List.length_append, List.length_take]; omega
          rw [tA] at hr
          have R6 : Row wr g 28 (vfl ((P ++ A.take d) ++ (.slice ay ny cy, y2) :: (.slice ax nx cx, x2) :: (A.drop (d + 1) ++ S)) ++ rest) := by simpa using hr
          have hlen : ((P ++ A.take d) ++ ((.slice ay ny cy, y2) : VC) :: (.slice ax nx cx, x2) :: (A.drop (d + 1) ++ S)).length = n := by have := HL.out; simp only [List.length_append, List.length_cons, List.length_take, List.length_drop]; omega
          obtain ⟨cx0, cx1⟩ := vfl_get (t := J) (y := (.slice ax nx cx, x2)) R6 (by rw [List.getElem?_append_right (by omega), hX, show J - Z = 1 by omega]; rfl)
          obtain ⟨cy0, cy1⟩ := vfl_get (t := Z) (y := (.slice ay ny cy, y2)) R6 (by rw [List.getElem?_append_right (by omega), hX, Nat.sub_self]; rfl)
          simp only at cx0 cx1 cy0 cy1
          obtain ⟨p1, p2⟩ := put_dn (P ++ A.take d) (A.drop (d + 1) ++ S) (.slice ax nx cx, x2) (.slice ay ny cy, y2) rest
          rw [hX] at p1 p2
          rw [← hZ] at p1
          obtain ⟨u1, u2, fz, s1, fz1, dy0, dy1, gz, s2, gz1, HU1, HU2, HR2, HK2⟩ := swp R6 p1 p2 (by rw [List.length_append, vfl_len, hlen]; omega) (by rw [List.length_append, vfl_len, hlen]; omega) cx1 cy0 cy1 (by omega)
          have wz : IntKind.i64.wrap ((J : Int) - 1) = (Z : Int) := by rw [IntWalk.i64_in _ (by omega)]; omega
          have hJn : J < n := by omega
          have hZn : Z < n := by omega
          have hZI : I ≤ Z := by omega
          have hZm : Z ≤ m := by omega
          have hki : (I : Int) < (J : Int) := by omega
          have NX := (show Hid (Z = a + d ∧ Row u2.drew g 28 (vfl (P ++ A.take d ++ (.slice ax nx cx, x2) :: (A.drop d ++ S)) ++ rest)) from ⟨by omega, by rw [dA]; have := HR2.out.drew; show Row _ _ _ _; simpa using this⟩)
          have KG := (show Hid (w.grownBy u2 (some g)) from grown_trans hG HK2.out (.inl rfl))
          have HZJ := (show Hid (J = Z + 1) from hZ)
          clear hZ hdl hy dA tA hX hr R6 hlen p1 p2 HR2 HK2 hS hG hJd
          go_upto_region 23 with fail
          refine wp_region_held_drew (S := fun _ => True) (by kernel_rfl) trivial (fun _ => ?_)
          refine wpAnyH_take (i := 0) (v := (.slice (some ⟨g, 0, none⟩) n cap)) rfl (by kernel_rfl) (by kernel_rfl) (by kernel_rfl) (fun _ _ _ h => h) (Or.inl ⟨by kernel_rfl, fun u hSu => by go_simp⟩) trivial ?_
          simp only [Act.put, List.setIfInBounds_toArray, List.set_cons_zero, List.set_cons_succ]
          refine wpAnyH_take (i := 1) (v := .int .i64 ((J : Nat) : Int)) rfl (by kernel_rfl) (by kernel_rfl) (by kernel_rfl) (fun _ _ _ h => h) (Or.inl ⟨by kernel_rfl, fun u hSu => by go_simp⟩) trivial ?_
          simp only [Act.put, List.setIfInBounds_toArray, List.set_cons_zero, List.set_cons_succ]
          refine wpAnyH_take (i := 2) (v := (.slice (some ⟨g, 0, none⟩) n cap)) rfl (by kernel_rfl) (by kernel_rfl) (by kernel_rfl) (fun _ _ _ h => h) (Or.inl ⟨by kernel_rfl, fun u hSu => by go_simp⟩) trivial ?_
          simp only [Act.put, List.setIfInBounds_toArray, List.set_cons_zero, List.set_cons_succ]
          refine wpAnyH_take (i := 3) (v := .int .i64 ((J : Nat) : Int)) rfl (by kernel_rfl) (by kernel_rfl) (by kernel_rfl) (fun _ _ _ h => h) (Or.inl ⟨by kernel_rfl, fun u hSu => by go_simp⟩) trivial ?_
          simp only [Act.put, List.setIfInBounds_toArray, List.set_cons_zero, List.set_cons_succ]
          refine wpAnyH_take (i := 4) (v := .int .i64 ((Z : Nat) : Int)) rfl (by kernel_rfl) (by kernel_rfl) (by kernel_rfl) (fun _ _ _ h => h) (Or.inl ⟨by kernel_rfl, fun u hSu => by go_simp; try first | exact wz⟩) trivial ?_
          simp only [Act.put, List.setIfInBounds_toArray, List.set_cons_zero, List.set_cons_succ]
          refine wpAnyH_take (i := 5) (v := (.slice (some ⟨g, 0, none⟩) n cap)) rfl (by kernel_rfl) (by kernel_rfl) (by kernel_rfl) (fun _ _ _ h => h) (Or.inl ⟨by kernel_rfl, fun u hSu => by go_simp⟩) trivial ?_
          simp only [Act.put, List.setIfInBounds_toArray, List.set_cons_zero, List.set_cons_succ]
          refine wpAnyH_take (i := 6) (v := .int .i64 ((J : Nat) : Int)) rfl (by kernel_rfl) (by kernel_rfl) (by kernel_rfl) (fun _ _ _ h => h) (Or.inl ⟨by kernel_rfl, fun u hSu => by go_simp⟩) trivial ?_
          simp only [Act.put, List.setIfInBounds_toArray, List.set_cons_zero, List.set_cons_succ]
          refine wpAnyH_take (i := 7) (v := .int .i64 ((Z : Nat) : Int)) rfl (by kernel_rfl) (by kernel_rfl) (by kernel_rfl) (fun _ _ _ h => h) (Or.inl ⟨by kernel_rfl, fun u hSu => by go_simp; try first | exact wz⟩) trivial ?_
          simp only [Act.put, List.setIfInBounds_toArray, List.set_cons_zero, List.set_cons_succ]
          refine wpAnyH_take (i := 8) (v := .pointer (some ⟨g, Z * 2, none⟩)) rfl (by kernel_rfl) (by kernel_rfl) (by kernel_rfl) (fun _ _ _ h => h) (Or.inl ⟨by kernel_rfl, fun u hSu => by go_simp; try first | exact wz⟩) trivial ?_
          simp only [Act.put, List.setIfInBounds_toArray, List.set_cons_zero, List.set_cons_succ]
          refine wpAnyH_take (i := 10) (v := (.slice (some ⟨g, 0, none⟩) n cap)) rfl (by kernel_rfl) (by kernel_rfl) (by kernel_rfl) (fun _ _ _ h => h) (Or.inl ⟨by kernel_rfl, fun u hSu => by go_simp⟩) trivial ?_
          simp only [Act.put, List.setIfInBounds_toArray, List.set_cons_zero, List.set_cons_succ]
          refine wpAnyH_take (i := 11) (v := .int .i64 ((J : Nat) : Int)) rfl (by kernel_rfl) (by kernel_rfl) (by kernel_rfl) (fun _ _ _ h => h) (Or.inl ⟨by kernel_rfl, fun u hSu => by go_simp⟩) trivial ?_
          simp only [Act.put, List.setIfInBounds_toArray, List.set_cons_zero, List.set_cons_succ]
          refine wpAnyH_take (i := 12) (v := .pointer (some ⟨g, J * 2, none⟩)) rfl (by kernel_rfl) (by kernel_rfl) (by kernel_rfl) (fun _ _ _ h => h) (Or.inl ⟨by kernel_rfl, fun u hSu => by go_simp; try first | exact wz⟩) trivial ?_
          simp only [Act.put, List.setIfInBounds_toArray, List.set_cons_zero, List.set_cons_succ]
          refine wpAnyH_ready (rs := [9, 13]) (by kernel_rfl) (by simp) ?_
          refine AllReadyH.cons (o := _) rfl (fun K hK => ?_) ?_
          · go_simp
            refine hK.out _ _ trivial (fun _ => ?_)
            clear hK K
            refine wpAnyH_ready (rs := [13]) (by kernel_rfl) (by simp) ?_
            refine AllReadyH.cons (o := _) rfl (fun K hK => ?_) AllReadyH.nil
            go_simp
            refine hK.out _ _ trivial (fun _ => ?_)
            clear hK K
            refine wpAnyH_take (i := 14) (v := .pointer (some ⟨g, J * 2, none⟩)) rfl (by kernel_rfl) (by kernel_rfl) (by kernel_rfl) (fun _ _ _ h => h) (Or.inl ⟨by kernel_rfl, fun u hSu => by go_simp; try first | exact wz⟩) trivial ?_
            simp only [Act.put, List.setIfInBounds_toArray, List.set_cons_zero, List.set_cons_succ]
            refine wpAnyH_ready (rs := [15]) (by kernel_rfl) (by simp) ?_
            refine AllReadyH.cons (o := _) rfl (fun K hK => ?_) AllReadyH.nil
            go_simp
            refine hK.out _ _ trivial (fun _ => ?_)
            clear hK K
            rw [HU1.out]
            refine wpAnyH_take (i := 16) (v := .pointer (some ⟨g, Z * 2, none⟩)) rfl (by kernel_rfl) (by kernel_rfl) (by kernel_rfl) (fun _ _ _ h => h) (Or.inl ⟨by kernel_rfl, fun u hSu => by go_simp; try first | exact wz⟩) trivial ?_
            simp only [Act.put, List.setIfInBounds_toArray, List.set_cons_zero, List.set_cons_succ]
            refine wpAnyH_ready (rs := [17]) (by kernel_rfl) (by simp) ?_
            refine AllReadyH.cons (o := _) rfl (fun K hK => ?_) AllReadyH.nil
            go_simp
            refine hK.out _ _ trivial (fun _ => ?_)
            clear hK K
            rw [HU2.out]
            refine wpAnyH_done (by kernel_rfl) ?_ _
            go_wp2_with fail
            go_roundw
            case rel => exact ⟨Z, d, by go_num, hZI, hZm, NX.out, grown_to_drew KG.out⟩
            case measure => have := HZJ.out; simp [intOf]; omega
          refine AllReadyH.cons (o := _) rfl (fun K hK => ?_) AllReadyH.nil
          go_simp
          refine hK.out _ _ trivial (fun _ => ?_)
          clear hK K
          refine wpAnyH_ready (rs := [9]) (by kernel_rfl) (by simp) ?_
          refine AllReadyH.cons (o := _) rfl (fun K hK => ?_) AllReadyH.nil
          go_simp
          refine hK.out _ _ trivial (fun _ => ?_)
          clear hK K
          refine wpAnyH_take (i := 14) (v := .pointer (some ⟨g, J * 2, none⟩)) rfl (by kernel_rfl) (by kernel_rfl) (by kernel_rfl) (fun _ _ _ h => h) (Or.inl ⟨by kernel_rfl, fun u hSu => by go_simp; try first | exact wz⟩) trivial ?_
          simp only [Act.put, List.setIfInBounds_toArray, List.set_cons_zero, List.set_cons_succ]
          refine wpAnyH_ready (rs := [15]) (by kernel_rfl) (by simp) ?_
          refine AllReadyH.cons (o := _) rfl (fun K hK => ?_) AllReadyH.nil
          go_simp
          refine hK.out _ _ trivial (fun _ => ?_)
          clear hK K
          rw [HU1.out]
          refine wpAnyH_take (i := 16) (v := .pointer (some ⟨g, Z * 2, none⟩)) rfl (by kernel_rfl) (by kernel_rfl) (by kernel_rfl) (fun _ _ _ h => h) (Or.inl ⟨by kernel_rfl, fun u hSu => by go_simp; try first | exact wz⟩) trivial ?_
          simp only [Act.put, List.setIfInBounds_toArray, List.set_cons_zero, List.set_cons_succ]
          refine wpAnyH_ready (rs := [17]) (by kernel_rfl) (by simp) ?_
          refine AllReadyH.cons (o := _) rfl (fun K hK => ?_) AllReadyH.nil
          go_simp
          refine hK.out _ _ trivial (fun _ => ?_)
          clear hK K
          rw [HU2.out]
          refine wpAnyH_done (by kernel_rfl) ?_ _
          go_wp2_with fail
          go_roundw
          case rel => exact ⟨Z, d, by go_num, hZI, hZm, NX.out, grown_to_drew KG.out⟩
          case measure => have := HZJ.out; simp [intOf]; omega
        · obtain ⟨hJd, hr⟩ := hS.out
          have hki : decide ((I : Int) < (J : Int)) = false := by simp; omega
          have hdq : d' = q := by have := HL.out; have := HQ.out; omega
          subst hdq
          have FIN : ∃ C, Srt kv C ∧ Sam kv (A ++ [(.slice ax nx cx, x2)]) C ∧ Row wr g 28 (vfl (P ++ C ++ S) ++ rest) := by
            have hs := HS.out
            rw [← List.take_append_drop d' A] at hs
            have hi := insStep hs HT.out.2 HT.out.1
            rw [List.take_append_drop] at hi
            exact ⟨A.take d' ++ (.slice ax nx cx, x2) :: A.drop d', hi.1, hi.2, by simpa using hr⟩
          clear hJd hr hS
          go_wp2_with fail
          refine bodyPost_ret (results_none rfl _ _ _) rfl ?_
          exact ⟨rfl, FIN, hG⟩
end
end Go.Proofs.YtgpkngiakhdmhaaDoor
