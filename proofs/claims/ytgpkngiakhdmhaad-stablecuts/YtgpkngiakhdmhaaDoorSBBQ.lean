/- slices' stable sort over votes: insertionSort. Made by mk13z.py. -/
import Derived.Test.YtgpkngiakhdmhaaDoorSBBN
import Derived.Test.YtgpkngiakhdmhaaDoorSBBO
import Derived.Test.YtgpkngiakhdmhaaDoorSBAJ
set_option linter.unusedSimpArgs false
set_option linter.unusedVariables false
namespace Go.Proofs.YtgpkngiakhdmhaaDoor
open Go.RowKit Oct Stb
def kv (x : VC) : Int := x.2.1
set_option maxRecDepth 10000 in
set_option maxHeartbeats 4000000 in
theorem insSort_any (w : World) (g n cap a b : Nat) (P A S : List VC) (rest : List Value) (ha : P.length = a) (hb : a + A.length = b) (hR : Row w g 28 (vfl (P ++ A ++ S) ++ rest)) (hn : (P ++ A ++ S).length = n) (hc : n ≤ cap) (hm : cap ≤ maxLen) (hn48 : n ≤ 281474976710656) (hone : ∀ x ∈ P ++ A ++ S, IsS x.1) :
    Calls Tryd.prog 61 #[.slice (some ⟨g, 0, none⟩) n cap, .int .i64 a, .int .i64 b, .func (.func 33) #[] #[]] w fun e w' => e = .returned (.tuple #[]) ∧ (∃ A', Srt kv A' ∧ Sam kv A A' ∧ Row w' g 28 (vfl (P ++ A' ++ S) ++ rest)) ∧ w.grownBy w' (some g) := by
  have hbn : b ≤ n := by simp only [List.length_append] at hn; omega
  have hnm : (n : Int) ≤ 9223372036854775807 := by unfold maxLen at hm; omega
  have HO := (show Hid (∀ x ∈ P ++ A ++ S, IsS x.1) from hone)
  have HL := (show Hid (P.length = a ∧ a + A.length = b ∧ b + S.length = n) from ⟨ha, hb, by simp only [List.length_append] at hn; omega⟩)
  have ST := (show Hid (∃ A1, Srt kv A1 ∧ Sam kv (A.take 1) A1 ∧ Row w g 28 (vfl (P ++ A1 ++ A.drop 1 ++ S) ++ rest)) from ⟨A.take 1, by cases A <;> simp [Srt], Sam.refl _, by rw [List.append_assoc P, List.take_append_drop]; exact hR⟩)
  have hab : a ≤ b := by omega
  have hcmp := (show Hid (∀ u (x y : VC), Calls Tryd.prog 33 #[.agg #[.int .i64 x.2.1, x.1], .agg #[.int .i64 y.2.1, y.1]] u fun e w' => e = .returned (.int .i64 (cmpI x.2.1 y.2.1)) ∧ Below u.heap.size u w') from cmpV_any)
  clear ha hb hR hn hone
  go_enter Tryd.func61, Tryd.ntmps61
  go_wp2_with fail
  go_loopw [8] (fun i wr => ∃ I q : Nat, i = .int .i64 I ∧ I = a + q ∧ 1 ≤ q ∧ (I ≤ b ∨ I = a + 1) ∧ Hid (∃ A1, Srt kv A1 ∧ Sam kv (A.take q) A1 ∧ Row wr g 28 (vfl (P ++ A1 ++ A.drop q ++ S) ++ rest)) ∧ w.grownBy wr (some g)) (fun i _ => b + 1 - (intOf i).toNat)
  case atStart => exact ⟨a + 1, 1, by go_num, rfl, by omega, .inr rfl, ST, grown_refl _ _⟩
  case round =>
    clear ST
    obtain ⟨I, q, rfl, hIq, hq1, hIb, hS, hG⟩ := hrel
    have HQ := (show Hid (I = a + q) from hIq)
    clear hIq
    by_cases hlt : I < b
    · obtain ⟨x, hx⟩ : ∃ x, A[q]? = some x := ⟨_, List.getElem?_eq_getElem (by have := HL.out; have := HQ.out; omega)⟩
      have dA : A.drop q = x :: A.drop (q + 1) := by rw [List.drop_eq_getElem_cons (by have := HL.out; have := HQ.out; omega)]; rw [List.getElem?_eq_getElem (by have := HL.out; have := HQ.out; omega)] at hx; simp at hx; rw [hx]
      have tA : A.take (q + 1) = A.take q ++ [x] := take_snoc' A q x hx
      obtain ⟨A1, hs1, hm1, hr1⟩ := hS.out
      have hlA : A1.length = q := by rw [hm1.1, List.length_take]; have := HL.out; have := HQ.out; omega
      have hoA : ∀ z ∈ A1, IsS z.1 := fun z hz => HO.out z (by have := List.mem_of_mem_take (hm1.mem.1 hz); simp [this])
      have hox : IsS x.1 := HO.out x (by have := List.mem_of_getElem? hx; simp [this])
      have hln : ∀ C : List VC, C.length = q + 1 → (P ++ C ++ (A.drop (q + 1) ++ S)).length = n := fun C hC => by have := HL.out; have := HQ.out; simp only [List.length_append, List.length_drop]; omega
      rw [dA] at hr1
      have ST := (show Hid (∃ C B' : List VC, I = a + C.length ∧ A1 = C ++ B' ∧ (∀ y ∈ B', kv x < kv y) ∧ Row wr g 28 (vfl (P ++ C ++ x :: (B' ++ (A.drop (q + 1) ++ S))) ++ rest)) from ⟨A1, [], by rw [hlA]; exact HQ.out, by simp, (fun y hy => by cases hy), by simpa using hr1⟩)
      have HA1 := (show Hid (Srt kv A1 ∧ Sam kv (A.take q) A1 ∧ A1.length = q ∧ (∀ z ∈ A1, IsS z.1) ∧ A.take (q + 1) = A.take q ++ [x] ∧ (∀ C : List VC, C.length = q + 1 → (P ++ C ++ (A.drop (q + 1) ++ S)).length = n)) from ⟨hs1, hm1, hlA, hoA, tA, hln⟩)
      have FIN := (show Hid (∀ (C B' : List VC) (u : World), A1 = C ++ B' → (∀ y ∈ B', kv x < kv y) → (∀ y ∈ C, kv y ≤ kv x) → Row u g 28 (vfl (P ++ C ++ x :: (B' ++ (A.drop (q + 1) ++ S))) ++ rest) → ∃ A2, Srt kv A2 ∧ Sam kv (A.take (q + 1)) A2 ∧ Row u g 28 (vfl (P ++ A2 ++ A.drop (q + 1) ++ S) ++ rest)) from fun C B' u e h1 h2 hr => by
        subst e
        have hi := insStep hs1 h1 h2
        exact ⟨C ++ x :: B', hi.1, by rw [tA]; exact (hm1.app (Sam.refl [x])).trans hi.2, by simpa using hr⟩)
      clear hx dA tA hs1 hm1 hr1 hlA hoA hln hS
      have hIn : I < n := by omega
      go_wp2_with fail
      go_loopw [9] (fun j wr => ∃ J : Nat, j = .int .i64 J ∧ a ≤ J ∧ J ≤ I ∧ Hid (∃ C B' : List VC, J = a + C.length ∧ A1 = C ++ B' ∧ (∀ y ∈ B', kv x < kv y) ∧ Row wr g 28 (vfl (P ++ C ++ x :: (B' ++ (A.drop (q + 1) ++ S))) ++ rest)) ∧ w.grownBy wr (some g)) (fun j _ => (intOf j).toNat)
      case atStart => exact ⟨I, rfl, by have := HQ.out; omega, by omega, ST, hG⟩
      case round =>
        clear ST hG
        obtain ⟨J, rfl, haJ, hJI, hS, hG⟩ := hrel
        by_cases hj : a < J
        · obtain ⟨C', B', hJ, hA1, hB', hr⟩ := hS.out
          obtain ⟨C, y, hC⟩ : ∃ C y, C' = C ++ [y] := ⟨C'.dropLast, C'.getLast (fun e => by subst e; simp at hJ; omega), (List.dropLast_concat_getLast _).symm⟩
          subst hC
          have hoy : IsS y.1 := HA1.out.2.2.2.1 y (by rw [hA1]; simp)
          have hj' : ¬ J ≤ a := by omega
          obtain ⟨Z, hZ⟩ : ∃ Z, Z + 1 = J := ⟨J - 1, by omega⟩
          have wz : IntKind.i64.wrap ((J : Int) - 1) = (Z : Int) := by rw [IntWalk.i64_in _ (by omega)]; omega
          obtain ⟨x1, x2⟩ := x
          obtain ⟨y1, y2⟩ := y
          obtain ⟨ax, nx, cx, rfl⟩ : IsS x1 := hox
          obtain ⟨ay, ny, cy, rfl⟩ : IsS y1 := hoy
          have hlC : (P ++ C).length = Z := by have := HL.out; simp only [List.length_append, List.length_cons, List.length_nil] at hJ ⊢; omega
          have r1 : Row wr g 28 (vfl ((P ++ C) ++ (.slice ay ny cy, y2) :: ((.slice ax nx cx, x2) :: (B' ++ (A.drop (q + 1) ++ S)))) ++ rest) := by simpa using hr
          have r2 : Row wr g 28 (vfl ((P ++ C ++ [(.slice ay ny cy, y2)]) ++ (.slice ax nx cx, x2) :: (B' ++ (A.drop (q + 1) ++ S))) ++ rest) := by simpa using hr
          have g1 := vfl_at r1
          rw [hlC] at g1
          have g2 := vfl_at r2
          rw [show (P ++ C ++ [((.slice ay ny cy, y2) : VC)]).length = J by rw [List.length_append, hlC]; exact hZ] at g2
          have cy0 : wr.cell? ⟨g, Z * 2, none⟩ = some (.int .i64 y2.1) := g1 0 _ rfl
          have cy1 : wr.cell? ⟨g, Z * 2 + 1, none⟩ = some (.slice ay ny cy) := g1 1 _ rfl
          have cx0 : wr.cell? ⟨g, J * 2, none⟩ = some (.int .i64 x2.1) := g2 0 _ rfl
          have cx1 : wr.cell? ⟨g, J * 2 + 1, none⟩ = some (.slice ax nx cx) := g2 1 _ rfl
          have hgl := r1.lt
          have SK := (show Hid (∀ u, Below wr.heap.size wr u → u.cell? ⟨g, Z * 2, none⟩ = some (.int .i64 y2.1) ∧ u.cell? ⟨g, Z * 2 + 1, none⟩ = some (.slice ay ny cy) ∧ u.cell? ⟨g, J * 2, none⟩ = some (.int .i64 x2.1) ∧ u.cell? ⟨g, J * 2 + 1, none⟩ = some (.slice ax nx cx)) from fun u hu => ⟨keepC hu cy0, keepC hu cy1, keepC hu cx0, keepC hu cx1⟩)
          have hC1 := (show Hid (∀ u, Calls Tryd.prog 33 #[.agg #[.int .i64 x2.1, .slice ax nx cx], .agg #[.int .i64 y2.1, .slice ay ny cy]] u fun e w' => e = .returned (.int .i64 (cmpI x2.1 y2.1)) ∧ Below u.heap.size u w') from fun u => hcmp.out u (.slice ax nx cx, x2) (.slice ay ny cy, y2))
          have hdw : Below wr.heap.size wr wr.drew := ⟨rfl, rfl, rfl, Nat.le_refl _, fun _ _ => rfl⟩
          have hJn : J < n := by omega
          have hZn : Z < n := by omega
          have HZJ := (show Hid (Z + 1 = J ∧ J = a + (C ++ [((.slice ay ny cy, y2) : VC)]).length ∧ (P ++ C).length = Z) from ⟨hZ, hJ, hlC⟩)
          have hZJ : Z < J := by omega
          have haZ : a ≤ Z := by omega
          have hZI : Z ≤ I := by omega
          clear g1 g2 hJ hlC hZ
          go_wp2_with fail
          go_region_held3 (fun u => u.cell? ⟨g, Z * 2, none⟩ = some (.int .i64 y2.1) ∧ u.cell? ⟨g, Z * 2 + 1, none⟩ = some (.slice ay ny cy) ∧ u.cell? ⟨g, J * 2, none⟩ = some (.int .i64 x2.1) ∧ u.cell? ⟨g, J * 2 + 1, none⟩ = some (.slice ax nx cx))
            (first | exact SK.out _ (by assumption) | go_keep)
            (first | (go_at_call 33; refine (hC1.out _).mono ?_; rintro e w6 ⟨rfl, hb6⟩; have hb6' := below_and hdw (Nat.le_refl _) hb6))
          have R6 := r1.below hb6'
          have K6 := grown_trans hG (grown_of_below hb6' (some g)) (.inl rfl)
          by_cases hk : x2.1 < y2.1
          · have hd : decide (cmpI x2.1 y2.1 < 0) = true := decide_eq_true (cmpI_lt.2 hk)
            rw [hd]
            obtain ⟨cy0, cy1, cx0, cx1⟩ := SK.out w6 hb6'
            have fz : ∀ j, w6.frozen? ⟨g, j, none⟩ = false := fun j => R6.frozen j
            have s1 : (w6.setCell ⟨g, J * 2, none⟩ (.int .i64 y2.1)).cell? ⟨g, J * 2 + 1, none⟩ = some (.slice ax nx cx) := cell_set_ne cx1 (by omega)
            have fz1 : ∀ j, (w6.setCell ⟨g, J * 2, none⟩ (.int .i64 y2.1)).frozen? ⟨g, j, none⟩ = false := fun j => (R6.set _ _).frozen j
            obtain ⟨D, hD⟩ : ∃ D, D = B' ++ (A.drop (q + 1) ++ S) := ⟨_, rfl⟩
            rw [← hD] at R6
            have e2 : (P ++ C ++ [((.slice ay ny cy, y2) : VC)]).length = J := by rw [List.length_append, HZJ.out.2.2]; exact HZJ.out.1
            have put1 := vfl_put (P ++ C ++ [((.slice ay ny cy, y2) : VC)]) D (.slice ax nx cx, x2) (.slice ay ny cy, y2) rest
            have put2 := vfl_put (P ++ C) ((.slice ay ny cy, y2) :: D) (.slice ay ny cy, y2) (.slice ax nx cx, x2) rest
            rw [e2] at put1
            rw [HZJ.out.2.2] at put2
            have LN : (P ++ C).length + 2 ≤ n := by have := HZJ.out; have := hJn; omega
            obtain ⟨C0, hC0⟩ : ∃ L : List Value, L = vfl ((P ++ C) ++ (.slice ay ny cy, y2) :: ((.slice ax nx cx, x2) :: D)) ++ rest := ⟨_, rfl⟩
            obtain ⟨C1, hC1'⟩ : ∃ L : List Value, L = vfl ((P ++ C) ++ (.slice ay ny cy, y2) :: ((.slice ay ny cy, y2) :: D)) ++ rest := ⟨_, rfl⟩
            have f1 : J * 2 + [Value.int .i64 y2.1, .slice ay ny cy].length ≤ C0.length := by rw [hC0, List.length_append, vfl_len, List.length_append, HZJ.out.2.2]; simp only [List.length_cons, List.length_nil]; have := HZJ.out.1; omega
            have f2 : Z * 2 + [Value.int .i64 x2.1, .slice ax nx cx].length ≤ C1.length := by rw [hC1', List.length_append, vfl_len, List.length_append, HZJ.out.2.2]; simp only [List.length_cons, List.length_nil]; omega
            rw [show (P ++ C ++ [((.slice ay ny cy, y2) : VC)]) ++ (.slice ax nx cx, x2) :: D = (P ++ C) ++ (.slice ay ny cy, y2) :: ((.slice ax nx cx, x2) :: D) by simp, show (P ++ C ++ [((.slice ay ny cy, y2) : VC)]) ++ (.slice ay ny cy, y2) :: D = (P ++ C) ++ (.slice ay ny cy, y2) :: ((.slice ay ny cy, y2) :: D) by simp, ← hC0, ← hC1'] at put1
            rw [← hC1'] at put2
            rw [← hC0] at R6
            obtain ⟨u1, hu1⟩ : ∃ u, u = (w6.setCell ⟨g, J * 2, none⟩ (.int .i64 y2.1)).setCell ⟨g, J * 2 + 1, none⟩ (.slice ay ny cy) := ⟨_, rfl⟩
            have R1 : Row u1 g 28 C1 := by rw [hu1, ← put1]; exact row_two R6 f1
            have K1 : w6.grownBy u1 (some g) := by rw [hu1]; exact grown_two _ _ _ _ _ _
            have dy0 : u1.cell? ⟨g, Z * 2, none⟩ = some (.int .i64 y2.1) := by rw [hu1]; exact cell_set_ne (cell_set_ne cy0 (by omega)) (by omega)
            have dy1 : u1.cell? ⟨g, Z * 2 + 1, none⟩ = some (.slice ay ny cy) := by rw [hu1]; exact cell_set_ne (cell_set_ne cy1 (by omega)) (by omega)
            have gz : ∀ j, u1.frozen? ⟨g, j, none⟩ = false := fun j => R1.frozen j
            have s2 : (u1.setCell ⟨g, Z * 2, none⟩ (.int .i64 x2.1)).cell? ⟨g, Z * 2 + 1, none⟩ = some (.slice ay ny cy) := cell_set_ne dy1 (by omega)
            have gz1 : ∀ j, (u1.setCell ⟨g, Z * 2, none⟩ (.int .i64 x2.1)).frozen? ⟨g, j, none⟩ = false := fun j => (R1.set _ _).frozen j
            obtain ⟨u2, hu2⟩ : ∃ u, u = (u1.setCell ⟨g, Z * 2, none⟩ (.int .i64 x2.1)).setCell ⟨g, Z * 2 + 1, none⟩ (.slice ax nx cx) := ⟨_, rfl⟩
            have R2 : Row u2 g 28 (vfl ((P ++ C) ++ (.slice ax nx cx, x2) :: ((.slice ay ny cy, y2) :: D)) ++ rest) := by rw [hu2, ← put2]; exact row_two R1 f2
            have K2 : u1.grownBy u2 (some g) := by rw [hu2]; exact grown_two _ _ _ _ _ _
            have KG := (show Hid (w.grownBy u2 (some g)) from grown_trans (grown_trans K6 K1 (.inl rfl)) K2 (.inl rfl))
            have NX := (show Hid (∃ C B' : List VC, Z = a + C.length ∧ A1 = C ++ B' ∧ (∀ y ∈ B', kv (.slice ax nx cx, x2) < kv y) ∧ Row u2.drew g 28 (vfl (P ++ C ++ (.slice ax nx cx, x2) :: (B' ++ (A.drop (q + 1) ++ S))) ++ rest)) from ⟨C, (.slice ay ny cy, y2) :: B', by have := HZJ.out; have := HL.out; simp only [List.length_append] at *; omega, by rw [hA1]; simp, (fun z hz => by rcases List.mem_cons.1 hz with rfl | hz; exact hk; exact hB' z hz), by rw [hD] at R2; exact R2⟩)
            have HU1 := (show Hid ((w6.setCell ⟨g, J * 2, none⟩ (.int .i64 y2.1)).setCell ⟨g, J * 2 + 1, none⟩ (.slice ay ny cy) = u1) from hu1.symm)
            have HU2 := (show Hid ((u1.setCell ⟨g, Z * 2, none⟩ (.int .i64 x2.1)).setCell ⟨g, Z * 2 + 1, none⟩ (.slice ax nx cx) = u2) from hu2.symm)
            clear hr r1 r2 R6 put1 put2 f1 f2 hC0 hC1' hu1 hu2 R1 R2 K1 K2 K6 hG hS hD e2 LN hA1 hB' hd hb6 hb6' hdw
            go_upto_region 6 with fail
            refine wp_region_held_drew (S := fun _ => True) (by kernel_rfl) trivial (fun _ => ?_)
            refine wpAnyH_take (i := 0) (v := (.slice (some ⟨g, 0, none⟩) n cap)) rfl (by kernel_rfl) (by kernel_rfl) (by kernel_rfl) (fun _ _ _ h => h) (Or.inl ⟨by kernel_rfl, fun u hSu => by go_simp⟩) trivial ?_
            simp only [Act.put, List.setIfInBounds_toArray, List.set_cons_zero, List.set_cons_succ]
            refine wpAnyH_take (i := 1) (v := .int .i64 ((J : Nat) : Int)) rfl (by kernel_rfl) (by kernel_rfl) (by kernel_rfl) (fun _ _ _ h => h) (Or.inl ⟨by kernel_rfl, fun u hSu => by go_simp⟩) trivial ?_
            simp only [Act.put, List.setIfInBounds_toArray, List.set_cons_zero, List.set_cons_succ]
            refine wpAnyH_take (i := 2) (v := (.slice (some ⟨g, 0, none⟩) n cap)) rfl (by kernel_rfl) (by kernel_rfl) (by kernel_rfl) (fun _ _ _ h => h) (Or.inl ⟨by kernel_rfl, fun u hSu => by go_simp⟩) trivial ?_
            simp only [Act.put, List.setIfInBounds_toArray, List.set_cons_zero, List.set_cons_succ]
            refine wpAnyH_take (i := 3) (v := .int .i64 ((J : Nat) : Int)) rfl (by kernel_rfl) (by kernel_rfl) (by kernel_rfl) (fun _ _ _ h => h) (Or.inl ⟨by kernel_rfl, fun u hSu => by go_simp⟩) trivial ?_
            simp only [Act.put, List.setIfInBounds_toArray, List.set_cons_zero, List.set_cons_succ]
            refine wpAnyH_take (i := 4) (v := .int .i64 ((Z : Nat) : Int)) rfl (by kernel_rfl) (by kernel_rfl) (by kernel_rfl) (fun _ _ _ h => h) (Or.inl ⟨by kernel_rfl, fun u hSu => by go_simp; try first | exact wz⟩) trivial ?_
            simp only [Act.put, List.setIfInBounds_toArray, List.set_cons_zero, List.set_cons_succ]
            refine wpAnyH_take (i := 5) (v := (.slice (some ⟨g, 0, none⟩) n cap)) rfl (by kernel_rfl) (by kernel_rfl) (by kernel_rfl) (fun _ _ _ h => h) (Or.inl ⟨by kernel_rfl, fun u hSu => by go_simp⟩) trivial ?_
            simp only [Act.put, List.setIfInBounds_toArray, List.set_cons_zero, List.set_cons_succ]
            refine wpAnyH_take (i := 6) (v := .int .i64 ((J : Nat) : Int)) rfl (by kernel_rfl) (by kernel_rfl) (by kernel_rfl) (fun _ _ _ h => h) (Or.inl ⟨by kernel_rfl, fun u hSu => by go_simp⟩) trivial ?_
            simp only [Act.put, List.setIfInBounds_toArray, List.set_cons_zero, List.set_cons_succ]
            refine wpAnyH_take (i := 7) (v := .int .i64 ((Z : Nat) : Int)) rfl (by kernel_rfl) (by kernel_rfl) (by kernel_rfl) (fun _ _ _ h => h) (Or.inl ⟨by kernel_rfl, fun u hSu => by go_simp; try first | exact wz⟩) trivial ?_
            simp only [Act.put, List.setIfInBounds_toArray, List.set_cons_zero, List.set_cons_succ]
            refine wpAnyH_take (i := 8) (v := .pointer (some ⟨g, Z * 2, none⟩)) rfl (by kernel_rfl) (by kernel_rfl) (by kernel_rfl) (fun _ _ _ h => h) (Or.inl ⟨by kernel_rfl, fun u hSu => by go_simp; try first | exact wz⟩) trivial ?_
            simp only [Act.put, List.setIfInBounds_toArray, List.set_cons_zero, List.set_cons_succ]
            refine wpAnyH_take (i := 10) (v := (.slice (some ⟨g, 0, none⟩) n cap)) rfl (by kernel_rfl) (by kernel_rfl) (by kernel_rfl) (fun _ _ _ h => h) (Or.inl ⟨by kernel_rfl, fun u hSu => by go_simp⟩) trivial ?_
            simp only [Act.put, List.setIfInBounds_toArray, List.set_cons_zero, List.set_cons_succ]
            refine wpAnyH_take (i := 11) (v := .int .i64 ((J : Nat) : Int)) rfl (by kernel_rfl) (by kernel_rfl) (by kernel_rfl) (fun _ _ _ h => h) (Or.inl ⟨by kernel_rfl, fun u hSu => by go_simp⟩) trivial ?_
            simp only [Act.put, List.setIfInBounds_toArray, List.set_cons_zero, List.set_cons_succ]
            refine wpAnyH_take (i := 12) (v := .pointer (some ⟨g, J * 2, none⟩)) rfl (by kernel_rfl) (by kernel_rfl) (by kernel_rfl) (fun _ _ _ h => h) (Or.inl ⟨by kernel_rfl, fun u hSu => by go_simp; try first | exact wz⟩) trivial ?_
            simp only [Act.put, List.setIfInBounds_toArray, List.set_cons_zero, List.set_cons_succ]
            refine wpAnyH_ready (rs := [9, 13]) (by kernel_rfl) (by simp) ?_
            refine AllReadyH.cons (o := _) rfl (fun K hK => ?_) ?_
            · go_simp
              refine hK.out _ _ trivial (fun _ => ?_)
              clear hK K
              refine wpAnyH_ready (rs := [13]) (by kernel_rfl) (by simp) ?_
              refine AllReadyH.cons (o := _) rfl (fun K hK => ?_) AllReadyH.nil
              go_simp
              refine hK.out _ _ trivial (fun _ => ?_)
              clear hK K
              refine wpAnyH_take (i := 14) (v := .pointer (some ⟨g, J * 2, none⟩)) rfl (by kernel_rfl) (by kernel_rfl) (by kernel_rfl) (fun _ _ _ h => h) (Or.inl ⟨by kernel_rfl, fun u hSu => by go_simp; try first | exact wz⟩) trivial ?_
              simp only [Act.put, List.setIfInBounds_toArray, List.set_cons_zero, List.set_cons_succ]
              refine wpAnyH_ready (rs := [15]) (by kernel_rfl) (by simp) ?_
              refine AllReadyH.cons (o := _) rfl (fun K hK => ?_) AllReadyH.nil
              go_simp
              refine hK.out _ _ trivial (fun _ => ?_)
              clear hK K
              rw [HU1.out]
              refine wpAnyH_take (i := 16) (v := .pointer (some ⟨g, Z * 2, none⟩)) rfl (by kernel_rfl) (by kernel_rfl) (by kernel_rfl) (fun _ _ _ h => h) (Or.inl ⟨by kernel_rfl, fun u hSu => by go_simp; try first | exact wz⟩) trivial ?_
              simp only [Act.put, List.setIfInBounds_toArray, List.set_cons_zero, List.set_cons_succ]
              refine wpAnyH_ready (rs := [17]) (by kernel_rfl) (by simp) ?_
              refine AllReadyH.cons (o := _) rfl (fun K hK => ?_) AllReadyH.nil
              go_simp
              refine hK.out _ _ trivial (fun _ => ?_)
              clear hK K
              rw [HU2.out]
              refine wpAnyH_done (by kernel_rfl) ?_ _
              go_wp2_with fail
              go_roundw
              case rel => exact ⟨Z, by go_num, haZ, hZI, NX.out, grown_to_drew KG.out⟩
              case measure => simp [intOf]; omega
            refine AllReadyH.cons (o := _) rfl (fun K hK => ?_) AllReadyH.nil
            go_simp
            refine hK.out _ _ trivial (fun _ => ?_)
            clear hK K
            refine wpAnyH_ready (rs := [9]) (by kernel_rfl) (by simp) ?_
            refine AllReadyH.cons (o := _) rfl (fun K hK => ?_) AllReadyH.nil
            go_simp
            refine hK.out _ _ trivial (fun _ => ?_)
            clear hK K
            refine wpAnyH_take (i := 14) (v := .pointer (some ⟨g, J * 2, none⟩)) rfl (by kernel_rfl) (by kernel_rfl) (by kernel_rfl) (fun _ _ _ h => h) (Or.inl ⟨by kernel_rfl, fun u hSu => by go_simp; try first | exact wz⟩) trivial ?_
            simp only [Act.put, List.setIfInBounds_toArray, List.set_cons_zero, List.set_cons_succ]
            refine wpAnyH_ready (rs := [15]) (by kernel_rfl) (by simp) ?_
            refine AllReadyH.cons (o := _) rfl (fun K hK => ?_) AllReadyH.nil
            go_simp
            refine hK.out _ _ trivial (fun _ => ?_)
            clear hK K
            rw [HU1.out]
            refine wpAnyH_take (i := 16) (v := .pointer (some ⟨g, Z * 2, none⟩)) rfl (by kernel_rfl) (by kernel_rfl) (by kernel_rfl) (fun _ _ _ h => h) (Or.inl ⟨by kernel_rfl, fun u hSu => by go_simp; try first | exact wz⟩) trivial ?_
            simp only [Act.put, List.setIfInBounds_toArray, List.set_cons_zero, List.set_cons_succ]
            refine wpAnyH_ready (rs := [17]) (by kernel_rfl) (by simp) ?_
            refine AllReadyH.cons (o := _) rfl (fun K hK => ?_) AllReadyH.nil
            go_simp
            refine hK.out _ _ trivial (fun _ => ?_)
            clear hK K
            rw [HU2.out]
            refine wpAnyH_done (by kernel_rfl) ?_ _
            go_wp2_with fail
            go_roundw
            case rel => exact ⟨Z, by go_num, haZ, hZI, NX.out, grown_to_drew KG.out⟩
            case measure => simp [intOf]; omega
          · have hd : decide (cmpI x2.1 y2.1 < 0) = false := decide_eq_false fun h => hk (cmpI_lt.1 h)
            rw [hd]
            have FF := FIN.out (C ++ [(.slice ay ny cy, y2)]) B' w6 hA1 hB' (fun z hz => by
              have h1 := HA1.out.1
              rw [hA1] at h1
              have h2 : kv z ≤ y2.1 := by
                rcases List.mem_append.1 hz with hz | hz
                · exact h1.l.le z hz (.slice ay ny cy, y2) (by simp)
                · rw [List.mem_singleton.1 hz]; exact Int.le_refl _
              have h3 : y2.1 ≤ x2.1 := by omega
              exact Int.le_trans h2 h3) (by simpa using R6)
            have HFF := (show Hid (∃ A2, Srt kv A2 ∧ Sam kv (A.take (q + 1)) A2 ∧ Row w6 g 28 (vfl (P ++ A2 ++ A.drop (q + 1) ++ S) ++ rest)) from FF)
            clear hr r1 r2 R6 FF hS hG hA1 hB' hd hb6 hb6' hdw
            go_wp2_with fail
            go_roundw
            case rel => exact ⟨I + 1, q + 1, by go_num, by have := HQ.out; omega, by omega, .inl (by omega), HFF, K6⟩
            case measure => simp [intOf]; omega
        · obtain ⟨C, B', hJ, hA1, hB', hr⟩ := hS.out
          have hj' : J ≤ a := by omega
          have hj2 : ¬ ((a : Int) < J) := by omega
          obtain rfl : C = [] := List.eq_nil_of_length_eq_zero (by omega)
          have FF := FIN.out [] B' wr hA1 hB' (fun y hy => by cases hy) hr
          have HFF := (show Hid (∃ A2, Srt kv A2 ∧ Sam kv (A.take (q + 1)) A2 ∧ Row wr g 28 (vfl (P ++ A2 ++ A.drop (q + 1) ++ S) ++ rest)) from FF)
          clear hJ hA1 hB' hr FF hS
          go_wp2_with fail
          refine wp_region_held_drew (S := fun _ => True) (by kernel_rfl) trivial (fun _ => ?_)
          refine wpAnyH_take (i := 0) (v := .int .i64 ((J : Nat) : Int)) rfl (by kernel_rfl) (by kernel_rfl) (by kernel_rfl) (fun _ _ _ h => h) (Or.inl ⟨by kernel_rfl, fun u hSu => by go_simp⟩) trivial ?_
          simp only [Act.put, List.setIfInBounds_toArray, List.set_cons_zero, List.set_cons_succ]
          refine wpAnyH_take (i := 1) (v := .int .i64 ((a : Nat) : Int)) rfl (by kernel_rfl) (by kernel_rfl) (by kernel_rfl) (fun _ _ _ h => h) (Or.inl ⟨by kernel_rfl, fun u hSu => by go_simp⟩) trivial ?_
          simp only [Act.put, List.setIfInBounds_toArray, List.set_cons_zero, List.set_cons_succ]
          refine wpAnyH_take (i := 2) (v := .bool false) rfl (by kernel_rfl) (by kernel_rfl) (by kernel_rfl) (fun _ _ _ h => h) (Or.inl ⟨by kernel_rfl, fun u hSu => by go_simp⟩) trivial ?_
          simp only [Act.put, List.setIfInBounds_toArray, List.set_cons_zero, List.set_cons_succ]
          refine wpAnyH_take (i := 3) (v := .bool false) rfl (by kernel_rfl) (by kernel_rfl) (by kernel_rfl) (fun _ _ _ h => h) (Or.inl ⟨by kernel_rfl, fun u hSu => by go_simp⟩) trivial ?_
          simp only [Act.put, List.setIfInBounds_toArray, List.set_cons_zero, List.set_cons_succ]
          refine wpAnyH_take (i := 4) (v := undef) rfl (by kernel_rfl) (by kernel_rfl) (by kernel_rfl) (fun _ _ _ h => h) (Or.inr ⟨by kernel_rfl, rfl⟩) trivial ?_
          simp only [Act.put, List.setIfInBounds_toArray, List.set_cons_zero, List.set_cons_succ]
          refine wpAnyH_take (i := 5) (v := undef) rfl (by kernel_rfl) (by kernel_rfl) (by kernel_rfl) (fun _ _ _ h => h) (Or.inr ⟨by kernel_rfl, rfl⟩) trivial ?_
          simp only [Act.put, List.setIfInBounds_toArray, List.set_cons_zero, List.set_cons_succ]
          refine wpAnyH_take (i := 6) (v := undef) rfl (by kernel_rfl) (by kernel_rfl) (by kernel_rfl) (fun _ _ _ h => h) (Or.inr ⟨by kernel_rfl, rfl⟩) trivial ?_
          simp only [Act.put, List.setIfInBounds_toArray, List.set_cons_zero, List.set_cons_succ]
          refine wpAnyH_take (i := 7) (v := undef) rfl (by kernel_rfl) (by kernel_rfl) (by kernel_rfl) (fun _ _ _ h => h) (Or.inr ⟨by kernel_rfl, rfl⟩) trivial ?_
          simp only [Act.put, List.setIfInBounds_toArray, List.set_cons_zero, List.set_cons_succ]
          refine wpAnyH_take (i := 8) (v := undef) rfl (by kernel_rfl) (by kernel_rfl) (by kernel_rfl) (fun _ _ _ h => h) (Or.inr ⟨by kernel_rfl, rfl⟩) trivial ?_
          simp only [Act.put, List.setIfInBounds_toArray, List.set_cons_zero, List.set_cons_succ]
          refine wpAnyH_take (i := 9) (v := undef) rfl (by kernel_rfl) (by kernel_rfl) (by kernel_rfl) (fun _ _ _ h => h) (Or.inr ⟨by kernel_rfl, rfl⟩) trivial ?_
          simp only [Act.put, List.setIfInBounds_toArray, List.set_cons_zero, List.set_cons_succ]
          refine wpAnyH_take (i := 10) (v := undef) rfl (by kernel_rfl) (by kernel_rfl) (by kernel_rfl) (fun _ _ _ h => h) (Or.inr ⟨by kernel_rfl, rfl⟩) trivial ?_
          simp only [Act.put, List.setIfInBounds_toArray, List.set_cons_zero, List.set_cons_succ]
          refine wpAnyH_take (i := 11) (v := undef) rfl (by kernel_rfl) (by kernel_rfl) (by kernel_rfl) (fun _ _ _ h => h) (Or.inr ⟨by kernel_rfl, rfl⟩) trivial ?_
          simp only [Act.put, List.setIfInBounds_toArray, List.set_cons_zero, List.set_cons_succ]
          refine wpAnyH_take (i := 12) (v := undef) rfl (by kernel_rfl) (by kernel_rfl) (by kernel_rfl) (fun _ _ _ h => h) (Or.inr ⟨by kernel_rfl, rfl⟩) trivial ?_
          simp only [Act.put, List.setIfInBounds_toArray, List.set_cons_zero, List.set_cons_succ]
          refine wpAnyH_take (i := 13) (v := undef) rfl (by kernel_rfl) (by kernel_rfl) (by kernel_rfl) (fun _ _ _ h => h) (Or.inr ⟨by kernel_rfl, rfl⟩) trivial ?_
          simp only [Act.put, List.setIfInBounds_toArray, List.set_cons_zero, List.set_cons_succ]
          refine wpAnyH_take (i := 14) (v := undef) rfl (by kernel_rfl) (by kernel_rfl) (by kernel_rfl) (fun _ _ _ h => h) (Or.inr ⟨by kernel_rfl, rfl⟩) trivial ?_
          simp only [Act.put, List.setIfInBounds_toArray, List.set_cons_zero, List.set_cons_succ]
          refine wpAnyH_take (i := 15) (v := undef) rfl (by kernel_rfl) (by kernel_rfl) (by kernel_rfl) (fun _ _ _ h => h) (Or.inr ⟨by kernel_rfl, rfl⟩) trivial ?_
          simp only [Act.put, List.setIfInBounds_toArray, List.set_cons_zero, List.set_cons_succ]
          refine wpAnyH_ready (rs := [16]) (by kernel_rfl) (by simp) ?_
          refine AllReadyH.cons (o := _) rfl (fun K hK => ?_) AllReadyH.nil
          go_simp
          refine hK.out _ _ trivial (fun _ => ?_)
          clear hK K
          refine wpAnyH_done (by kernel_rfl) ?_ _
          go_wp2_with fail
          go_roundw
          case rel => exact ⟨I + 1, q + 1, by go_num, by have := HQ.out; omega, by omega, .inl (by omega), HFF, grown_to_drew hG⟩
          case measure => simp [intOf]; omega
    · obtain ⟨A1, h1, h2, h3⟩ := hS.out
      have hqA : A.length ≤ q := by have := HL.out; have := HQ.out; omega
      rw [List.take_of_length_le hqA] at h2
      rw [List.drop_eq_nil_of_le hqA, List.append_nil] at h3
      go_wp2_with fail
      go_end0
      exact ⟨rfl, ⟨A1, h1, h2, h3⟩, hG⟩
end Go.Proofs.YtgpkngiakhdmhaaDoor
