/- catenarylaw06.VoteUnlike: its walk. -/
import Derived.Test.YthnjeglfgfjpkaaDoorLVMakes
import Derived.Deep.RegionHeld3
set_option linter.unusedVariables false
namespace Go.Proofs.YthnjeglfgfjpkaaDoor
open Go.RowKit Oct Sha

/-- Two votes that sign the same are for the same. -/
theorem vtext_eq {k x y s i k' x' y' s' i' : Int} {l l' : List Int} (hi : 0 ≤ i ∧ i ≤ 15) (hi' : 0 ≤ i' ∧ i' ≤ 15) (hl : l.length ≤ 1048576) (hl' : l'.length ≤ 1048576) (h1 : ∀ z ∈ [k, x, y, s], i64s z) (h2 : ∀ z ∈ [k', x', y', s'], i64s z)
    (h : textL (repL i) (sL ⟨#[118, 111, 116, 101]⟩) [numsL [k, x, y, s], l] = textL (repL i') (sL ⟨#[118, 111, 116, 101]⟩) [numsL [k', x', y', s'], l']) : i = i' ∧ k = k' ∧ x = x' ∧ y = y' ∧ s = s' ∧ l = l' := by
  have e0 : repL i = i := if_pos hi
  have e0' : repL i' = i' := if_pos hi'
  rw [e0, e0', textL_yes _ _ (by omega) (by omega), textL_yes _ _ (by omega) (by omega)] at h
  have z4 : (sL ⟨#[118, 111, 116, 101]⟩).length = 4 := rfl
  have t0 := tot_three i (sL ⟨#[118, 111, 116, 101]⟩) [numsL [k, x, y, s], l]
  have t1 := tot_three i' (sL ⟨#[118, 111, 116, 101]⟩) [numsL [k', x', y', s'], l']
  simp only [tot, numsL_len, List.length_cons, List.length_nil, z4] at t0 t1
  have e := packL_inj (by simp only [tot, numsL_len, List.length_cons, List.length_nil, z4, List.cons_append, List.nil_append] at t0 ⊢; omega) (by simp only [tot, numsL_len, List.length_cons, List.length_nil, z4, List.cons_append, List.nil_append] at t1 ⊢; omega) h
  simp only [List.cons_append, List.nil_append, List.cons.injEq, true_and, and_true] at e
  obtain ⟨e1, e2, e3⟩ := e
  rw [enc_small _ (by omega), enc_small _ (by omega)] at e1
  have e4 := numsL_inj (a := [k, x, y, s]) (b := [k', x', y', s']) rfl h1 h2 e2
  simp only [List.cons.injEq, and_true] at e4 e1
  exact ⟨e1, e4.1, e4.2.1, e4.2.2.1, e4.2.2.2, e3⟩
/-- The arguments in their boxes. -/
structure Ub (w : World) (n m q : Nat) (k x y s : Int) (v : Value) (k' x' y' s' : Int) (v' : Value) (i i' : Int) : Prop where
  a : Row w n 27 [.int .i64 k, .int .i64 x, .int .i64 y, .int .i64 s, v]
  b : Row w m 27 [.int .i64 k', .int .i64 x', .int .i64 y', .int .i64 s', v']
  c : Row w q 41 [.int .i64 i, .int .i64 i']
theorem Ub.below {w w' : World} {n m q : Nat} {k x y s : Int} {v : Value} {k' x' y' s' : Int} {v' : Value} {i i' : Int} (h : Ub w n m q k x y s v k' x' y' s' v' i i') (hb : Below w.heap.size w w') : Ub w' n m q k x y s v k' x' y' s' v' i i' :=
  ⟨h.a.below hb, h.b.below hb, h.c.below hb⟩
theorem Ub.cells0 {w : World} {n m q : Nat} {k x y s : Int} {v : Value} {k' x' y' s' : Int} {v' : Value} {i i' : Int} (h : Ub w n m q k x y s v k' x' y' s' v' i i') :
    w.cell? ⟨n, 0, none⟩ = some (.int .i64 k) ∧ w.cell? ⟨n, 1, none⟩ = some (.int .i64 x) ∧ w.cell? ⟨n, 2, none⟩ = some (.int .i64 y) ∧ w.cell? ⟨n, 3, none⟩ = some (.int .i64 s) ∧ w.cell? ⟨n, 4, none⟩ = some v ∧ w.cell? ⟨q, 0, none⟩ = some (.int .i64 i) :=
  ⟨h.a.cell rfl, h.a.cell rfl, h.a.cell rfl, h.a.cell rfl, h.a.cell rfl, h.c.cell rfl⟩
theorem Ub.cells1 {w : World} {n m q : Nat} {k x y s : Int} {v : Value} {k' x' y' s' : Int} {v' : Value} {i i' : Int} (h : Ub w n m q k x y s v k' x' y' s' v' i i') :
    w.cell? ⟨m, 0, none⟩ = some (.int .i64 k') ∧ w.cell? ⟨m, 1, none⟩ = some (.int .i64 x') ∧ w.cell? ⟨m, 2, none⟩ = some (.int .i64 y') ∧ w.cell? ⟨m, 3, none⟩ = some (.int .i64 s') ∧ w.cell? ⟨m, 4, none⟩ = some v' ∧ w.cell? ⟨q, 1, none⟩ = some (.int .i64 i') :=
  ⟨h.b.cell rfl, h.b.cell rfl, h.b.cell rfl, h.b.cell rfl, h.b.cell rfl, h.c.cell rfl⟩

set_option maxRecDepth 100000 in
set_option maxHeartbeats 8000000 in
theorem vunlike_any (w : World) (k x y s : Int) (v : Value) (l : List Int) (k' x' y' s' : Int) (v' : Value) (l' : List Int) (i i' : Int) (hv : Rd w v l) (hv' : Rd w v' l') (hl : l.length ≤ 1048576) (hl' : l'.length ≤ 1048576)
    (h1 : ∀ z ∈ [k, x, y, s], i64s z) (h2 : ∀ z ∈ [k', x', y', s'], i64s z) (hT : Tab w) :
    Calls Tryd.prog 6 #[.agg #[.int .i64 k, .int .i64 x, .int .i64 y, .int .i64 s, v], .agg #[.int .i64 k', .int .i64 x', .int .i64 y', .int .i64 s', v'], .agg #[.int .i64 i, .int .i64 i']] w fun e w' => e = .returned (.bool true) ∧ Below w.heap.size w w' := by
  have le := Nat.le_refl w.heap.size
  obtain ⟨ao, cap, rfl, hcap⟩ := hv.form
  obtain ⟨ao', cap', rfl, hcap'⟩ := hv'.form
  have z4 : (⟨#[118, 111, 116, 101]⟩ : ByteArray).size = 4 := rfl
  have htb : Byt (textL (repL i) (sL ⟨#[118, 111, 116, 101]⟩) [numsL [k, x, y, s], l]) := textL_byt _ _ _ (fun t ht => by simp only [List.mem_cons, List.not_mem_nil, or_false] at ht; rcases ht with rfl | rfl; exact numsL_byt _; exact hv.1) (by simp only [tot, numsL_len, List.length_cons, List.length_nil]; omega)
  have htb' : Byt (textL (repL i') (sL ⟨#[118, 111, 116, 101]⟩) [numsL [k', x', y', s'], l']) := textL_byt _ _ _ (fun t ht => by simp only [List.mem_cons, List.not_mem_nil, or_false] at ht; rcases ht with rfl | rfl; exact numsL_byt _; exact hv'.1) (by simp only [tot, numsL_len, List.length_cons, List.length_nil]; omega)
  have HE := (show Hid (0 ≤ i ∧ i ≤ 15 → 0 ≤ i' ∧ i' ≤ 15 → _) from fun hi hi' => vtext_eq (l := l) (l' := l') hi hi' hl hl' h1 h2)
  clear h1 h2 z4
  obtain ⟨w0, hw0⟩ : ∃ w0, w0 = ((w.alloc (.cells #[.int .i64 k, .int .i64 x, .int .i64 y, .int .i64 s, .slice ao l.length cap] 27)).alloc (.cells #[.int .i64 k', .int .i64 x', .int .i64 y', .int .i64 s', .slice ao' l'.length cap'] 27)).alloc (.cells #[.int .i64 i, .int .i64 i'] 41) := ⟨_, rfl⟩
  have x0 : Ub w0 w.heap.size (w.heap.size + 1) (w.heap.size + 1 + 1) k x y s (.slice ao l.length cap) k' x' y' s' (.slice ao' l'.length cap') i i' := by
    rw [hw0]
    refine ⟨((Row.new w 27 _).below (below_alloc _ _)).below (below_alloc _ _), ?_, ?_⟩
    · rw [show w.heap.size + 1 = (w.alloc (.cells #[.int .i64 k, .int .i64 x, .int .i64 y, .int .i64 s, .slice ao l.length cap] 27)).heap.size by simp]
      exact (Row.new _ 27 _).below (below_alloc _ _)
    · rw [show w.heap.size + 1 + 1 = ((w.alloc (.cells #[.int .i64 k, .int .i64 x, .int .i64 y, .int .i64 s, .slice ao l.length cap] 27)).alloc (.cells #[.int .i64 k', .int .i64 x', .int .i64 y', .int .i64 s', .slice ao' l'.length cap'] 27)).heap.size by simp]
      exact Row.new _ 41 _
  have B0 : Below w.heap.size w w0 := by rw [hw0]; exact below_and (below_two w _ _) (Nat.le_refl _) (below_alloc _ _)
  go_enter Tryd.func6, Tryd.ntmps6
  go_wp2_with fail
  rw [← hw0]
  clear hw0
  refine (alive_any w0 (hT.below B0)).mono ?_
  rintro e w1 ⟨rfl, hb1⟩
  have B1 := below_and B0 le hb1
  have x1 := x0.below hb1
  have p1 := hv.below B1
  have p1' := hv'.below B1
  clear hb1 B0 x0 hv hv' hT
  generalize w.heap.size + 1 + 1 = N2 at x1 ⊢
  generalize w.heap.size + 1 = N1 at x1 ⊢
  obtain ⟨N0, hN0⟩ : ∃ N0, N0 = w.heap.size := ⟨_, rfl⟩
  have HN := (show Hid (N0 = w.heap.size) from hN0)
  rw [← hN0] at x1 ⊢
  clear hN0
  obtain ⟨c0, c1, c2, c3, c4, c5⟩ := x1.cells0
  have SK := (show Hid (∀ u, Below w1.heap.size w1 u → u.cell? ⟨N0, 0, none⟩ = some (.int .i64 k) ∧ u.cell? ⟨N0, 1, none⟩ = some (.int .i64 x) ∧ u.cell? ⟨N0, 2, none⟩ = some (.int .i64 y) ∧ u.cell? ⟨N0, 3, none⟩ = some (.int .i64 s) ∧ u.cell? ⟨N0, 4, none⟩ = some (.slice ao l.length cap) ∧ u.cell? ⟨N2, 0, none⟩ = some (.int .i64 i)) from fun u hu => (x1.below hu).cells0)
  have hal := below_alloc w1 (.cells #[] 5)
  go_wp2_with fail
  go_region_held3 (fun u => u.cell? ⟨N0, 0, none⟩ = some (.int .i64 k) ∧ u.cell? ⟨N0, 1, none⟩ = some (.int .i64 x) ∧ u.cell? ⟨N0, 2, none⟩ = some (.int .i64 y) ∧ u.cell? ⟨N0, 3, none⟩ = some (.int .i64 s) ∧ u.cell? ⟨N0, 4, none⟩ = some (.slice ao l.length cap) ∧ u.cell? ⟨N2, 0, none⟩ = some (.int .i64 i))
    (first | exact SK.out _ (by assumption) | go_keep)
    (first
      | (refine step_bytes (by rfl) _ _ (by rfl) (.slice (some ⟨w1.heap.size, 0, none⟩) 0 0) [] (by rfl) (own_zero w1 5).drew _ l (by rfl) (p1.below (below_alloc w1 _)).2.drew (by simp only [List.length_nil]; omega) ?_; intro o2 w2 happ2; have hb2 : Below w1.heap.size w1 w2 := ((below_alloc w1 _).drew).trans (happ2.below (fr_at _ _ _ _ (Nat.le_refl _)) (by simp)); have o2r : Rd w2 o2 l := happ2.own.rd p1.1)
      | (go_at_call 10; refine (vText_any w2 k x y s i _ l o2r (by omega)).mono ?_; rintro e w3 ⟨vx, rfl, hvx, hfx, hb3'⟩; have hb3 : Below w1.heap.size w1 w3 := below_and hb2 (Nat.le_refl _) hb3'))
  have x3 := x1.below hb3
  have p3 := p1.below hb3
  have p3' := p1'.below hb3
  have B3 := below_and B1 le hb3
  have rx3 := hvx.rd htb
  clear happ2 hb2 o2r hvx hfx hb3' hb3 x1 p1 p1' B1 c0 c1 c2 c3 c4 c5 SK hal
  obtain ⟨c0, c1, c2, c3, c4, c5⟩ := x3.cells1
  have SK := (show Hid (∀ u, Below w3.heap.size w3 u → u.cell? ⟨N1, 0, none⟩ = some (.int .i64 k') ∧ u.cell? ⟨N1, 1, none⟩ = some (.int .i64 x') ∧ u.cell? ⟨N1, 2, none⟩ = some (.int .i64 y') ∧ u.cell? ⟨N1, 3, none⟩ = some (.int .i64 s') ∧ u.cell? ⟨N1, 4, none⟩ = some (.slice ao' l'.length cap') ∧ u.cell? ⟨N2, 1, none⟩ = some (.int .i64 i')) from fun u hu => (x3.below hu).cells1)
  go_wp2_with fail
  go_region_held3 (fun u => u.cell? ⟨N1, 0, none⟩ = some (.int .i64 k') ∧ u.cell? ⟨N1, 1, none⟩ = some (.int .i64 x') ∧ u.cell? ⟨N1, 2, none⟩ = some (.int .i64 y') ∧ u.cell? ⟨N1, 3, none⟩ = some (.int .i64 s') ∧ u.cell? ⟨N1, 4, none⟩ = some (.slice ao' l'.length cap') ∧ u.cell? ⟨N2, 1, none⟩ = some (.int .i64 i'))
    (first | exact SK.out _ (by assumption) | go_keep)
    (first
      | (refine step_bytes (by rfl) _ _ (by rfl) (.slice (some ⟨w3.heap.size, 0, none⟩) 0 0) [] (by rfl) (own_zero w3 5).drew _ l' (by rfl) (p3'.below (below_alloc w3 _)).2.drew (by simp only [List.length_nil]; omega) ?_; intro o4 w4 happ4; have hb4 : Below w3.heap.size w3 w4 := ((below_alloc w3 _).drew).trans (happ4.below (fr_at _ _ _ _ (Nat.le_refl _)) (by simp)); have o4r : Rd w4 o4 l' := happ4.own.rd p3'.1)
      | (go_at_call 10; refine (vText_any w4 k' x' y' s' i' _ l' o4r (by omega)).mono ?_; rintro e w5 ⟨vy, rfl, hvy, hfy, hb5'⟩; have hb5 : Below w3.heap.size w3 w5 := below_and hb4 (Nat.le_refl _) hb5'))
  have x5 := x3.below hb5
  have p5 := p3.below hb5
  have p5' := p3'.below hb5
  have B5 := below_and B3 le hb5
  have rx5 := rx3.below hb5
  have ry5 := hvy.rd htb'
  clear happ4 hb4 o4r hvy hfy hb5' hb5 x3 p3 p3' B3 rx3 c0 c1 c2 c3 c4 c5 SK
  obtain ⟨c0, c1, c2, c3, c4, c5⟩ := x5.cells0
  obtain ⟨d0, d1, d2, d3, d4, d5⟩ := x5.cells1
  obtain ⟨ax, cx, rfl, hcx⟩ := rx5.form
  clear htb htb'
  have HX1 := (show Hid ((0 ≤ i ∧ i ≤ 15) → 0 < (textL (repL i) (sL ⟨#[118, 111, 116, 101]⟩) [numsL [k, x, y, s], l]).length) from fun hi => by
    rw [show repL i = i from if_pos hi, textL_yes _ _ (by omega) (by omega)]
    exact pack_pos _ _)
  have HX0 := (show Hid (¬ (0 ≤ i ∧ i ≤ 15) → (textL (repL i) (sL ⟨#[118, 111, 116, 101]⟩) [numsL [k, x, y, s], l]).length = 0) from fun hi => by
    rw [show repL i = -1 from if_neg hi, textL_no _ _ (.inl (by decide))]
    rfl)
  have HEr := (show Hid (i = i' → k = k' → x = x' → y = y' → s = s' → l = l' → textL (repL i) (sL ⟨#[118, 111, 116, 101]⟩) [numsL [k, x, y, s], l] = textL (repL i') (sL ⟨#[118, 111, 116, 101]⟩) [numsL [k', x', y', s'], l']) from fun h1 h2 h3 h4 h5 h6 => by rw [h1, h2, h3, h4, h5, h6])
  generalize textL (repL i) (sL ⟨#[118, 111, 116, 101]⟩) [numsL [k, x, y, s], l] = X at *
  generalize textL (repL i') (sL ⟨#[118, 111, 116, 101]⟩) [numsL [k', x', y', s'], l'] = Y at *
  have HL := (show Hid (Calls Tryd.prog 12 #[.slice ao l.length cap, .slice ao' l'.length cap'] w5 fun e w' => e = .returned (.bool (decide (l = l'))) ∧ w' = w5) from same_any w5 _ _ _ _ p5 p5')
  have HS := (show Hid (Calls Tryd.prog 12 #[.slice ax X.length cx, vy] w5 fun e w' => e = .returned (.bool (decide (X = Y))) ∧ w' = w5) from same_any w5 _ vy _ _ rx5 ry5)
  have ne : ∀ {a b : Int}, a ≠ b → (a == b) = false := fun h => by rw [beq_eq_false_iff_ne]; exact h
  have eq : ∀ {a b : Int}, a = b → (a == b) = true := fun h => by rw [h]; simp
  have HNE := (show Hid (∀ {a b : Int}, a ≠ b → (a == b) = false) from ne)
  have HEQ := (show Hid (∀ {a b : Int}, a = b → (a == b) = true) from eq)
  clear ne eq rx5 ry5 p5 p5' x5
  by_cases hi0 : i < 0
  · have hl0 := HX0.out (by omega)
    rw [hl0]
    clear HX0 HX1 hl0
    have hi3 : decide (0 ≤ i) = false := decide_eq_false (by omega)
    by_cases ek : k = k'
    rotate_left
    · have fk := HNE.out ek
      clear HE HEr HL HS ek
      go_wp2_with fail
      go_ret
      exact ⟨rfl, B5⟩
    by_cases ex : x = x'
    rotate_left
    · have fk := HEQ.out ek
      have fx := HNE.out ex
      clear HE HEr HL HS ek ex
      go_wp2_with fail
      go_ret
      exact ⟨rfl, B5⟩
    by_cases ey : y = y'
    rotate_left
    · have fk := HEQ.out ek
      have fx := HEQ.out ex
      have fy := HNE.out ey
      clear HE HEr HL HS ek ex ey
      go_wp2_with fail
      go_ret
      exact ⟨rfl, B5⟩
    by_cases es : s = s'
    rotate_left
    · have fk := HEQ.out ek
      have fx := HEQ.out ex
      have fy := HEQ.out ey
      have fs := HNE.out es
      clear HE HEr HL HS ek ex ey es
      go_wp2_with fail
      go_ret
      exact ⟨rfl, B5⟩
    by_cases el : l = l'
    rotate_left
    · have hL := HL.out
      rw [decide_eq_false el] at hL
      have HL2 := (show Hid (∀ _ : Unit, _) from fun _ => hL)
      have fk := HEQ.out ek
      have fx := HEQ.out ex
      have fy := HEQ.out ey
      have fs := HEQ.out es
      clear hL HE HEr HL HS ek ex ey es el
      go_wp2_with fail
      refine (HL2.out ()).mono ?_
      rintro e w7 ⟨rfl, rfl⟩
      go_wp2_with fail
      go_ret
      exact ⟨rfl, B5⟩
    by_cases ei : i = i'
    rotate_left
    · have hL := HL.out
      rw [decide_eq_true el] at hL
      have HL2 := (show Hid (∀ _ : Unit, _) from fun _ => hL)
      have fk := HEQ.out ek
      have fx := HEQ.out ex
      have fy := HEQ.out ey
      have fs := HEQ.out es
      have fi := HNE.out ei
      clear hL HE HEr HL HS ek ex ey es el ei
      go_wp2_with fail
      refine (HL2.out ()).mono ?_
      rintro e w7 ⟨rfl, rfl⟩
      go_wp2_with fail
      go_ret
      exact ⟨rfl, B5⟩
    have hL := HL.out
    rw [decide_eq_true el] at hL
    have HL2 := (show Hid (∀ _ : Unit, _) from fun _ => hL)
    have fk := HEQ.out ek
    have fx := HEQ.out ex
    have fy := HEQ.out ey
    have fs := HEQ.out es
    have fi := HEQ.out ei
    clear hL HE HEr HL HS ek ex ey es el ei
    go_wp2_with fail
    refine (HL2.out ()).mono ?_
    rintro e w7 ⟨rfl, rfl⟩
    go_wp2_with fail
    go_ret
    exact ⟨rfl, B5⟩
  by_cases hi1 : 15 < i
  · have hl0 := HX0.out (by omega)
    rw [hl0]
    clear HX0 HX1 hl0
    have hi3 : decide (i ≤ 15) = false := decide_eq_false (by omega)
    have hi4 : 0 ≤ i := by omega
    by_cases ek : k = k'
    rotate_left
    · have fk := HNE.out ek
      clear HE HEr HL HS ek
      go_wp2_with fail
      go_ret
      exact ⟨rfl, B5⟩
    by_cases ex : x = x'
    rotate_left
    · have fk := HEQ.out ek
      have fx := HNE.out ex
      clear HE HEr HL HS ek ex
      go_wp2_with fail
      go_ret
      exact ⟨rfl, B5⟩
    by_cases ey : y = y'
    rotate_left
    · have fk := HEQ.out ek
      have fx := HEQ.out ex
      have fy := HNE.out ey
      clear HE HEr HL HS ek ex ey
      go_wp2_with fail
      go_ret
      exact ⟨rfl, B5⟩
    by_cases es : s = s'
    rotate_left
    · have fk := HEQ.out ek
      have fx := HEQ.out ex
      have fy := HEQ.out ey
      have fs := HNE.out es
      clear HE HEr HL HS ek ex ey es
      go_wp2_with fail
      go_ret
      exact ⟨rfl, B5⟩
    by_cases el : l = l'
    rotate_left
    · have hL := HL.out
      rw [decide_eq_false el] at hL
      have HL2 := (show Hid (∀ _ : Unit, _) from fun _ => hL)
      have fk := HEQ.out ek
      have fx := HEQ.out ex
      have fy := HEQ.out ey
      have fs := HEQ.out es
      clear hL HE HEr HL HS ek ex ey es el
      go_wp2_with fail
      refine (HL2.out ()).mono ?_
      rintro e w7 ⟨rfl, rfl⟩
      go_wp2_with fail
      go_ret
      exact ⟨rfl, B5⟩
    by_cases ei : i = i'
    rotate_left
    · have hL := HL.out
      rw [decide_eq_true el] at hL
      have HL2 := (show Hid (∀ _ : Unit, _) from fun _ => hL)
      have fk := HEQ.out ek
      have fx := HEQ.out ex
      have fy := HEQ.out ey
      have fs := HEQ.out es
      have fi := HNE.out ei
      clear hL HE HEr HL HS ek ex ey es el ei
      go_wp2_with fail
      refine (HL2.out ()).mono ?_
      rintro e w7 ⟨rfl, rfl⟩
      go_wp2_with fail
      go_ret
      exact ⟨rfl, B5⟩
    have hL := HL.out
    rw [decide_eq_true el] at hL
    have HL2 := (show Hid (∀ _ : Unit, _) from fun _ => hL)
    have fk := HEQ.out ek
    have fx := HEQ.out ex
    have fy := HEQ.out ey
    have fs := HEQ.out es
    have fi := HEQ.out ei
    clear hL HE HEr HL HS ek ex ey es el ei
    go_wp2_with fail
    refine (HL2.out ()).mono ?_
    rintro e w7 ⟨rfl, rfl⟩
    go_wp2_with fail
    go_ret
    exact ⟨rfl, B5⟩
  have hp := HX1.out (by omega)
  clear HX0 HX1
  have hi0 : 0 ≤ i := by omega
  have hi1 : i ≤ 15 := by omega
  by_cases hj0 : i' < 0
  · skip
    by_cases ek : k = k'
    rotate_left
    · have fk := HNE.out ek
      clear HE HEr HL HS ek
      go_wp2_with fail
      go_ret
      exact ⟨rfl, B5⟩
    by_cases ex : x = x'
    rotate_left
    · have fk := HEQ.out ek
      have fx := HNE.out ex
      clear HE HEr HL HS ek ex
      go_wp2_with fail
      go_ret
      exact ⟨rfl, B5⟩
    by_cases ey : y = y'
    rotate_left
    · have fk := HEQ.out ek
      have fx := HEQ.out ex
      have fy := HNE.out ey
      clear HE HEr HL HS ek ex ey
      go_wp2_with fail
      go_ret
      exact ⟨rfl, B5⟩
    by_cases es : s = s'
    rotate_left
    · have fk := HEQ.out ek
      have fx := HEQ.out ex
      have fy := HEQ.out ey
      have fs := HNE.out es
      clear HE HEr HL HS ek ex ey es
      go_wp2_with fail
      go_ret
      exact ⟨rfl, B5⟩
    by_cases el : l = l'
    rotate_left
    · have hL := HL.out
      rw [decide_eq_false el] at hL
      have HL2 := (show Hid (∀ _ : Unit, _) from fun _ => hL)
      have fk := HEQ.out ek
      have fx := HEQ.out ex
      have fy := HEQ.out ey
      have fs := HEQ.out es
      clear hL HE HEr HL HS ek ex ey es el
      go_wp2_with fail
      refine (HL2.out ()).mono ?_
      rintro e w7 ⟨rfl, rfl⟩
      go_wp2_with fail
      go_ret
      exact ⟨rfl, B5⟩
    by_cases ei : i = i'
    rotate_left
    · have hL := HL.out
      rw [decide_eq_true el] at hL
      have HL2 := (show Hid (∀ _ : Unit, _) from fun _ => hL)
      have fk := HEQ.out ek
      have fx := HEQ.out ex
      have fy := HEQ.out ey
      have fs := HEQ.out es
      have fi := HNE.out ei
      clear hL HE HEr HL HS ek ex ey es el ei
      go_wp2_with fail
      refine (HL2.out ()).mono ?_
      rintro e w7 ⟨rfl, rfl⟩
      go_wp2_with fail
      go_ret
      exact ⟨rfl, B5⟩
    have hL := HL.out
    rw [decide_eq_true el] at hL
    have HL2 := (show Hid (∀ _ : Unit, _) from fun _ => hL)
    have fk := HEQ.out ek
    have fx := HEQ.out ex
    have fy := HEQ.out ey
    have fs := HEQ.out es
    have fi := HEQ.out ei
    clear hL HE HEr HL HS ek ex ey es el ei
    go_wp2_with fail
    refine (HL2.out ()).mono ?_
    rintro e w7 ⟨rfl, rfl⟩
    go_wp2_with fail
    go_ret
    exact ⟨rfl, B5⟩
  by_cases hj1 : 15 < i'
  · have hj3 : 0 ≤ i' := by omega
    by_cases ek : k = k'
    rotate_left
    · have fk := HNE.out ek
      clear HE HEr HL HS ek
      go_wp2_with fail
      go_ret
      exact ⟨rfl, B5⟩
    by_cases ex : x = x'
    rotate_left
    · have fk := HEQ.out ek
      have fx := HNE.out ex
      clear HE HEr HL HS ek ex
      go_wp2_with fail
      go_ret
      exact ⟨rfl, B5⟩
    by_cases ey : y = y'
    rotate_left
    · have fk := HEQ.out ek
      have fx := HEQ.out ex
      have fy := HNE.out ey
      clear HE HEr HL HS ek ex ey
      go_wp2_with fail
      go_ret
      exact ⟨rfl, B5⟩
    by_cases es : s = s'
    rotate_left
    · have fk := HEQ.out ek
      have fx := HEQ.out ex
      have fy := HEQ.out ey
      have fs := HNE.out es
      clear HE HEr HL HS ek ex ey es
      go_wp2_with fail
      go_ret
      exact ⟨rfl, B5⟩
    by_cases el : l = l'
    rotate_left
    · have hL := HL.out
      rw [decide_eq_false el] at hL
      have HL2 := (show Hid (∀ _ : Unit, _) from fun _ => hL)
      have fk := HEQ.out ek
      have fx := HEQ.out ex
      have fy := HEQ.out ey
      have fs := HEQ.out es
      clear hL HE HEr HL HS ek ex ey es el
      go_wp2_with fail
      refine (HL2.out ()).mono ?_
      rintro e w7 ⟨rfl, rfl⟩
      go_wp2_with fail
      go_ret
      exact ⟨rfl, B5⟩
    by_cases ei : i = i'
    rotate_left
    · have hL := HL.out
      rw [decide_eq_true el] at hL
      have HL2 := (show Hid (∀ _ : Unit, _) from fun _ => hL)
      have fk := HEQ.out ek
      have fx := HEQ.out ex
      have fy := HEQ.out ey
      have fs := HEQ.out es
      have fi := HNE.out ei
      clear hL HE HEr HL HS ek ex ey es el ei
      go_wp2_with fail
      refine (HL2.out ()).mono ?_
      rintro e w7 ⟨rfl, rfl⟩
      go_wp2_with fail
      go_ret
      exact ⟨rfl, B5⟩
    have hL := HL.out
    rw [decide_eq_true el] at hL
    have HL2 := (show Hid (∀ _ : Unit, _) from fun _ => hL)
    have fk := HEQ.out ek
    have fx := HEQ.out ex
    have fy := HEQ.out ey
    have fs := HEQ.out es
    have fi := HEQ.out ei
    clear hL HE HEr HL HS ek ex ey es el ei
    go_wp2_with fail
    refine (HL2.out ()).mono ?_
    rintro e w7 ⟨rfl, rfl⟩
    go_wp2_with fail
    go_ret
    exact ⟨rfl, B5⟩
  have hj0 : 0 ≤ i' := by omega
  have hj1 : i' ≤ 15 := by omega
  by_cases ek : k = k'
  rotate_left
  · have hS := HS.out
    rw [decide_eq_false (fun e => ek (HE.out ⟨hi0, hi1⟩ ⟨hj0, hj1⟩ e).2.1)] at hS
    have HS2 := (show Hid (∀ _ : Unit, _) from fun _ => hS)
    have fk := HNE.out ek
    clear hS HE HEr HL HS ek
    go_wp2_with fail
    refine (HS2.out ()).mono ?_
    rintro e w7 ⟨rfl, rfl⟩
    go_wp2_with fail
    go_ret
    exact ⟨rfl, B5⟩
  by_cases ex : x = x'
  rotate_left
  · have hS := HS.out
    rw [decide_eq_false (fun e => ex (HE.out ⟨hi0, hi1⟩ ⟨hj0, hj1⟩ e).2.2.1)] at hS
    have HS2 := (show Hid (∀ _ : Unit, _) from fun _ => hS)
    have fk := HEQ.out ek
    have fx := HNE.out ex
    clear hS HE HEr HL HS ek ex
    go_wp2_with fail
    refine (HS2.out ()).mono ?_
    rintro e w7 ⟨rfl, rfl⟩
    go_wp2_with fail
    go_ret
    exact ⟨rfl, B5⟩
  by_cases ey : y = y'
  rotate_left
  · have hS := HS.out
    rw [decide_eq_false (fun e => ey (HE.out ⟨hi0, hi1⟩ ⟨hj0, hj1⟩ e).2.2.2.1)] at hS
    have HS2 := (show Hid (∀ _ : Unit, _) from fun _ => hS)
    have fk := HEQ.out ek
    have fx := HEQ.out ex
    have fy := HNE.out ey
    clear hS HE HEr HL HS ek ex ey
    go_wp2_with fail
    refine (HS2.out ()).mono ?_
    rintro e w7 ⟨rfl, rfl⟩
    go_wp2_with fail
    go_ret
    exact ⟨rfl, B5⟩
  by_cases es : s = s'
  rotate_left
  · have hS := HS.out
    rw [decide_eq_false (fun e => es (HE.out ⟨hi0, hi1⟩ ⟨hj0, hj1⟩ e).2.2.2.2.1)] at hS
    have HS2 := (show Hid (∀ _ : Unit, _) from fun _ => hS)
    have fk := HEQ.out ek
    have fx := HEQ.out ex
    have fy := HEQ.out ey
    have fs := HNE.out es
    clear hS HE HEr HL HS ek ex ey es
    go_wp2_with fail
    refine (HS2.out ()).mono ?_
    rintro e w7 ⟨rfl, rfl⟩
    go_wp2_with fail
    go_ret
    exact ⟨rfl, B5⟩
  by_cases el : l = l'
  rotate_left
  · have hL := HL.out
    rw [decide_eq_false el] at hL
    have HL2 := (show Hid (∀ _ : Unit, _) from fun _ => hL)
    have hS := HS.out
    rw [decide_eq_false (fun e => el (HE.out ⟨hi0, hi1⟩ ⟨hj0, hj1⟩ e).2.2.2.2.2)] at hS
    have HS2 := (show Hid (∀ _ : Unit, _) from fun _ => hS)
    clear hS
    have fk := HEQ.out ek
    have fx := HEQ.out ex
    have fy := HEQ.out ey
    have fs := HEQ.out es
    clear hL HE HEr HL HS ek ex ey es el
    go_wp2_with fail
    refine (HL2.out ()).mono ?_
    rintro e w7 ⟨rfl, rfl⟩
    go_wp2_with fail
    refine (HS2.out ()).mono ?_
    rintro e w7 ⟨rfl, rfl⟩
    go_wp2_with fail
    go_ret
    exact ⟨rfl, B5⟩
  by_cases ei : i = i'
  rotate_left
  · have hL := HL.out
    rw [decide_eq_true el] at hL
    have HL2 := (show Hid (∀ _ : Unit, _) from fun _ => hL)
    have hS := HS.out
    rw [decide_eq_false (fun e => ei (HE.out ⟨hi0, hi1⟩ ⟨hj0, hj1⟩ e).1)] at hS
    have HS2 := (show Hid (∀ _ : Unit, _) from fun _ => hS)
    clear hS
    have fk := HEQ.out ek
    have fx := HEQ.out ex
    have fy := HEQ.out ey
    have fs := HEQ.out es
    have fi := HNE.out ei
    clear hL HE HEr HL HS ek ex ey es el ei
    go_wp2_with fail
    refine (HL2.out ()).mono ?_
    rintro e w7 ⟨rfl, rfl⟩
    go_wp2_with fail
    refine (HS2.out ()).mono ?_
    rintro e w7 ⟨rfl, rfl⟩
    go_wp2_with fail
    go_ret
    exact ⟨rfl, B5⟩
  have hL := HL.out
  rw [decide_eq_true el] at hL
  have HL2 := (show Hid (∀ _ : Unit, _) from fun _ => hL)
  have hS := HS.out
  rw [decide_eq_true (HEr.out ei ek ex ey es el)] at hS
  have HS2 := (show Hid (∀ _ : Unit, _) from fun _ => hS)
  clear hS
  have fk := HEQ.out ek
  have fx := HEQ.out ex
  have fy := HEQ.out ey
  have fs := HEQ.out es
  have fi := HEQ.out ei
  clear hL HE HEr HL HS ek ex ey es el ei
  go_wp2_with fail
  refine (HL2.out ()).mono ?_
  rintro e w7 ⟨rfl, rfl⟩
  go_wp2_with fail
  refine (HS2.out ()).mono ?_
  rintro e w7 ⟨rfl, rfl⟩
  go_wp2_with fail
  go_ret
  exact ⟨rfl, B5⟩
end Go.Proofs.YthnjeglfgfjpkaaDoor
