/- The walks over package kv: Read. -/
import Derived.Test.YtejkkhlblnepeaaGreatKr
set_option linter.unusedVariables false
set_option linter.unusedSimpArgs false
namespace Go.Proofs.YtejkkhlblnepeaaGreat
open Go.RowKit Oct Kvl

theorem results_ct {P : Program} {fn : Func} {p t : Tmp} {ty : TypeId} (h : fn.results = #[.cell p ty, .tmp t]) (tmps : Array Value) (w : World) (g : Nat) (tt : TypeId) (cs : Array Value) (fr : Nat × Nat) (d : TypeDesc)
    (hp : tmps.getD p undef = .pointer (some ⟨g, 0, none⟩)) (hg : w.heap[g]? = some (.cells cs tt fr))
    (hu : P.underlying ty = some d) (hd : (match d with | .struct _ | .array _ _ => true | _ => false) = true) (hi : (P.info? ty).map (·.size) = some cs.size) :
    (results fn tmps).run P w = .ok (.tuple #[.agg cs, tmps.getD t undef]) w := by
  have hp' : tmps[p]?.getD undef = .pointer (some ⟨g, 0, none⟩) := by simpa using hp
  simp [results, h, hp', asAddr, run_loadVar_row w g tt ty cs fr d hg hu hd hi]
theorem getI_err (l : List Int) (p : Int) : ∃ b : Bool, (getI l p).2.2 = if b = true then 11 else 0 := by
  unfold getI
  split
  · exact ⟨true, rfl⟩
  · split
    · exact ⟨true, rfl⟩
    · exact ⟨false, rfl⟩
theorem getB_err (l : List Int) (p m : Int) : ∃ b : Bool, (getB l p m).2.2 = if b = true then 11 else 0 := by
  unfold getB
  split
  · exact ⟨true, rfl⟩
  · exact ⟨false, rfl⟩
set_option maxRecDepth 100000 in
theorem neE (b0 b1 b2 b3 b4 : Bool) (u : World) : (binOp .neq 126 (.agg #[.int .i64 (if b0 = true then 11 else 0), .int .i64 (if b1 = true then 11 else 0), .int .i64 (if b2 = true then 11 else 0), .int .i64 (if b3 = true then 11 else 0), .int .i64 (if b4 = true then 11 else 0)]) (.agg #[.int .i64 0, .int .i64 0, .int .i64 0, .int .i64 0, .int .i64 0])).run Tryz.prog u = .ok (.bool (b0 || b1 || b2 || b3 || b4)) u := by
  cases b0 <;> cases b1 <;> cases b2 <;> cases b3 <;> cases b4 <;> kernel_rfl
def opR (l : List Int) : POp := match rdO l with | none => (0, [], [], [], 0) | some o => o
def errR (l : List Int) : Int := match rdO l with | none => 71 | some _ => 0
theorem one5z : ∀ y ∈ [Value.int .i64 0, .slice none 0 0, .slice none 0 0, .slice none 0 0, Value.int .i64 0], y.oneCell' = true := one5 rfl rfl rfl

set_option maxRecDepth 10000 in
set_option maxHeartbeats 8000000 in
/-- kv.Read. -/
theorem read_any (w : World) (bv : Value) (l : List Int) (hb : Rd w bv l) (hl : l.length ≤ 140737488355300) :
    Calls Tryz.prog 93 #[bv] w fun e w' => ∃ r', e = .returned (.tuple #[.agg r'.toArray, .int .i64 (errR l)]) ∧ ROp (From w.heap.size) w' r' (opR l) ∧ Below w.heap.size w w' := by
  have le := Nat.le_refl w.heap.size
  have hk := kvR_eq (m := 16) hb.1 (by decide) (by decide)
  obtain ⟨ao, cap, rfl, hcap⟩ := hb.form
  obtain ⟨w0, hw0⟩ : ∃ w0, w0 = ((w.alloc (.cells #[.int .i64 0, .slice none 0 0, .slice none 0 0, .slice none 0 0, .int .i64 0] 56)).alloc (.cells #[.int .i64 0, .slice none 0 0, .slice none 0 0, .slice none 0 0, .int .i64 0] 56)).alloc (.cells #[.int .i64 0, .int .i64 0, .int .i64 0, .int .i64 0, .int .i64 0] 126) := ⟨_, rfl⟩
  have r0 : Row w0 w.heap.size 56 [.int .i64 0, .slice none 0 0, .slice none 0 0, .slice none 0 0, .int .i64 0] := by rw [hw0]; exact rowA (rowA (Row.new w 56 _) _) _
  have o0 : Row w0 (w.heap.size + 1) 56 [.int .i64 0, .slice none 0 0, .slice none 0 0, .slice none 0 0, .int .i64 0] := by
    rw [hw0]
    have := rowA (Row.new (w.alloc (.cells #[.int .i64 0, .slice none 0 0, .slice none 0 0, .slice none 0 0, .int .i64 0] 56)) 56 [.int .i64 0, .slice none 0 0, .slice none 0 0, .slice none 0 0, .int .i64 0]) (.cells #[.int .i64 0, .int .i64 0, .int .i64 0, .int .i64 0, .int .i64 0] 126)
    simpa using this
  have e0 : Row w0 (w.heap.size + 2) 126 [.int .i64 0, .int .i64 0, .int .i64 0, .int .i64 0, .int .i64 0] := by
    rw [hw0]
    have := Row.new ((w.alloc (.cells #[.int .i64 0, .slice none 0 0, .slice none 0 0, .slice none 0 0, .int .i64 0] 56)).alloc (.cells #[.int .i64 0, .slice none 0 0, .slice none 0 0, .slice none 0 0, .int .i64 0] 56)) 126 [.int .i64 0, .int .i64 0, .int .i64 0, .int .i64 0, .int .i64 0]
    simpa using this
  have B0 : Below w.heap.size w w0 := by rw [hw0]; exact below_and (below_and (below_alloc _ _) le (below_alloc _ _)) le (below_alloc _ _)
  have hs0 : w0.heap.size = w.heap.size + 3 := by rw [hw0]; simp
  have G0 := getInt_any w0 _ l 0 (hb.below B0) (by omega)
  have b0 := getI_err l 0
  have b1 := getB_err l (getI l 0).2.1 16
  have b2 := getB_err l (getB l (getI l 0).2.1 16).2.1 64
  have b3 := getB_err l (getB l (getB l (getI l 0).2.1 16).2.1 64).2.1 64
  have b4 := getI_err l (getB l (getB l (getB l (getI l 0).2.1 16).2.1 64).2.1 64).2.1
  have y1 := getB_byt l (getI l 0).2.1 16 hb.1
  have y2 := getB_byt l (getB l (getI l 0).2.1 16).2.1 64 hb.1
  have y3 := getB_byt l (getB l (getB l (getI l 0).2.1 16).2.1 64).2.1 64 hb.1
  have C1 := (show Hid (∀ u, Below w.heap.size w u → ∀ p m : Int, Calls Tryz.prog 84 #[.slice ao l.length cap, .int .i64 p, .int .i64 m] u fun e w' => ∃ v', e = .returned (.tuple #[v', .int .i64 (getB l p m).2.1, .int .i64 (getB l p m).2.2]) ∧ Own w' 5 v' (bc (getB l p m).1) ∧ Fr u.heap.size v' ∧ Below u.heap.size u w') from fun u hu p m => getBytes_any u _ l p m (hb.below hu) hl)
  have C2 := (show Hid (∀ u, Below w.heap.size w u → ∀ p : Int, Calls Tryz.prog 81 #[.slice ao l.length cap, .int .i64 p] u fun e w' => e = .returned (.tuple #[.int .i64 (getI l p).1, .int .i64 (getI l p).2.1, .int .i64 (getI l p).2.2]) ∧ w' = u) from fun u hu p => getInt_any u _ l p (hb.below hu) (by omega))
  unfold kvR at hk
  simp only at hk
  obtain ⟨d0, b0⟩ := b0
  obtain ⟨d1, b1⟩ := b1
  obtain ⟨d2, b2⟩ := b2
  obtain ⟨d3, b3⟩ := b3
  obtain ⟨d4, b4⟩ := b4
  obtain ⟨D1, hD1⟩ : ∃ D, D = getB l (getI l 0).2.1 16 := ⟨_, rfl⟩
  rw [← hD1] at hk b1 b2 b3 b4 y1 y2 y3
  obtain ⟨D2, hD2⟩ : ∃ D, D = getB l D1.2.1 64 := ⟨_, rfl⟩
  rw [← hD2] at hk b2 b3 b4 y2 y3
  obtain ⟨D3, hD3⟩ : ∃ D, D = getB l D2.2.1 64 := ⟨_, rfl⟩
  rw [← hD3] at hk b3 b4 y3
  obtain ⟨D4, hD4⟩ : ∃ D, D = getI l D3.2.1 := ⟨_, rfl⟩
  rw [← hD4] at hk b4
  obtain ⟨D0, hD0⟩ : ∃ D, D = getI l 0 := ⟨_, rfl⟩
  rw [← hD0] at hk b0 G0 hD1
  have E1 := (show Hid (D1 = getB l D0.2.1 16) from hD1)
  have E2 := (show Hid (D2 = getB l D1.2.1 64) from hD2)
  have E3 := (show Hid (D3 = getB l D2.2.1 64) from hD3)
  have E4 := (show Hid (D4 = getI l D3.2.1) from hD4)
  have HK := (show Hid (_ = rdO l) from hk)
  have F0 := (show Hid (D0.2.2 = if d0 = true then 11 else 0) from b0)
  have F1 := (show Hid (D1.2.2 = if d1 = true then 11 else 0) from b1)
  have F2 := (show Hid (D2.2.2 = if d2 = true then 11 else 0) from b2)
  have F3 := (show Hid (D3.2.2 = if d3 = true then 11 else 0) from b3)
  have F4 := (show Hid (D4.2.2 = if d4 = true then 11 else 0) from b4)
  clear hD0 hD1 hD2 hD3 hD4 hk b0 b1 b2 b3 b4
  have HS0 := (show Hid (w0.heap.size = w.heap.size + 3) from hs0)
  clear hs0
  go_enter Tryz.func93, Tryz.ntmps93
  go_upto_region 4 with fail
  rw [← hw0]
  clear hw0
  go_upto_region 5 with (first
    | (go_at_call 81; refine G0.mono ?_; rintro e w0 ⟨rfl, rfl⟩)
    | (refine wl_set rfl _ _ _ rfl (w.heap.size + 1) 0 _ rfl rfl _ _ o0 (show 0 < 5 by decide) (by kernel_rfl) rfl ?_; intro w1 o1 g1; have e1 := e0.grown g1 (fun e => by injection e with e; omega))
    | (refine wl_set rfl _ _ _ rfl (w.heap.size + 2) 0 _ rfl rfl _ _ e1 (show 0 < 5 by decide) (by kernel_rfl) rfl ?_; intro w2 e2 g2))
  have o2 : Row w2 (w.heap.size + 1) 56 [.int .i64 D0.1, .slice none 0 0, .slice none 0 0, .slice none 0 0, .int .i64 0] := o1.out.grown g2 (fun e => by injection e with e; omega)
  have e2 : Row w2 (w.heap.size + 2) 126 [.int .i64 D0.2.2, .int .i64 0, .int .i64 0, .int .i64 0, .int .i64 0] := e2.out
  have r2 := (r0.grown g1 (fun e => by injection e with e; omega)).grown g2 (fun e => by injection e with e; omega)
  have hs2 : w.heap.size + 3 ≤ w2.heap.size := by have := HS0.out; have := g1.size; have := g2.size; omega
  have B1 := B0.trans (grown_below g1 B0.size (fun k hk => by cases hk; omega))
  have B2 := B1.trans (grown_below g2 B1.size (fun k hk => by cases hk; omega))
  clear G0 o0 e0 o1 e1 g1 g2 r0 B0 B1
  have C1' := C1.out w2 B2 D0.2.1 16
  rw [← E1.out] at C1'
  go_upto_region 6 with (first
    | (go_at_call 84; refine C1'.mono ?_; rintro e w3 ⟨v3, rfl, t3, f3, hb3⟩; have o3 := o2.below hb3; have e3 := e2.below hb3)
    | (refine wl_set rfl _ _ _ rfl (w.heap.size + 1) 1 _ rfl rfl _ _ o3 (show 1 < 5 by decide) (by kernel_rfl) (own1 t3) ?_; intro w4 o4 g4; have e4 := e3.grown g4 (fun e => by injection e with e; omega))
    | (refine wl_set rfl _ _ _ rfl (w.heap.size + 2) 1 _ rfl rfl _ _ e4 (show 1 < 5 by decide) (by kernel_rfl) rfl ?_; intro w5 e5 g5))
  have o5 : Row w5 (w.heap.size + 1) 56 [.int .i64 D0.1, v3, .slice none 0 0, .slice none 0 0, .int .i64 0] := o4.out.grown g5 (fun e => by injection e with e; omega)
  have e5 : Row w5 (w.heap.size + 2) 126 [.int .i64 D0.2.2, .int .i64 D1.2.2, .int .i64 0, .int .i64 0, .int .i64 0] := e5.out
  have r5 := ((r2.below hb3).grown g4 (fun e => by injection e with e; omega)).grown g5 (fun e => by injection e with e; omega)
  have hs5 : w.heap.size + 3 ≤ w5.heap.size := by have := hb3.size; have := g4.size; have := g5.size; omega
  have B3 := below_and B2 le hb3
  have B4 := B3.trans (grown_below g4 B3.size (fun k hk => by cases hk; omega))
  have B5 := B4.trans (grown_below g5 B4.size (fun k hk => by cases hk; omega))
  have q3 : RT (From (w.heap.size + 3)) w5 v3 D1.1 := (((RT.own t3 y1 f3).mv (Mv.weak (L := w.heap.size + 3) hs2)).mv (Mv.from (L := w.heap.size + 3) g4 (by omega) (Nat.le_refl _))).mv (Mv.from (L := w.heap.size + 3) g5 (by omega) (Nat.le_refl _))
  clear C1' o2 e2 o3 e3 o4 e4 g4 g5 r2 B2 B3 B4 t3 f3 hb3 hs2
  have C1' := C1.out w5 B5 D1.2.1 64
  rw [← E2.out] at C1'
  go_upto_region 7 with (first
    | (go_at_call 84; refine C1'.mono ?_; rintro e w6 ⟨v6, rfl, t6, f6, hb6⟩; have o6 := o5.below hb6; have e6 := e5.below hb6)
    | (refine wl_set rfl _ _ _ rfl (w.heap.size + 1) 2 _ rfl rfl _ _ o6 (show 2 < 5 by decide) (by kernel_rfl) (own1 t6) ?_; intro w7 o7 g7; have e7 := e6.grown g7 (fun e => by injection e with e; omega))
    | (refine wl_set rfl _ _ _ rfl (w.heap.size + 2) 2 _ rfl rfl _ _ e7 (show 2 < 5 by decide) (by kernel_rfl) rfl ?_; intro w8 e8 g8))
  have o8 : Row w8 (w.heap.size + 1) 56 [.int .i64 D0.1, v3, v6, .slice none 0 0, .int .i64 0] := o7.out.grown g8 (fun e => by injection e with e; omega)
  have e8 : Row w8 (w.heap.size + 2) 126 [.int .i64 D0.2.2, .int .i64 D1.2.2, .int .i64 D2.2.2, .int .i64 0, .int .i64 0] := e8.out
  have r8 := ((r5.below hb6).grown g7 (fun e => by injection e with e; omega)).grown g8 (fun e => by injection e with e; omega)
  have hs8 : w.heap.size + 3 ≤ w8.heap.size := by have := hb6.size; have := g7.size; have := g8.size; omega
  have B6 := below_and B5 le hb6
  have B7 := B6.trans (grown_below g7 B6.size (fun k hk => by cases hk; omega))
  have B8 := B7.trans (grown_below g8 B7.size (fun k hk => by cases hk; omega))
  have q6 : RT (From (w.heap.size + 3)) w8 v6 D2.1 := (((RT.own t6 y2 f6).mv (Mv.weak (L := w.heap.size + 3) hs5)).mv (Mv.from (L := w.heap.size + 3) g7 (by omega) (Nat.le_refl _))).mv (Mv.from (L := w.heap.size + 3) g8 (by omega) (Nat.le_refl _))
  have q3 := ((q3.mv (Mv.belowG hb6)).mv (Mv.from (L := w.heap.size + 3) g7 (by omega) (Nat.le_refl _))).mv (Mv.from (L := w.heap.size + 3) g8 (by omega) (Nat.le_refl _))
  clear C1' o5 e5 o6 e6 o7 e7 g7 g8 r5 B5 B6 B7 t6 f6 hb6 hs5
  have C1' := C1.out w8 B8 D2.2.1 64
  rw [← E3.out] at C1'
  go_upto_region 8 with (first
    | (go_at_call 84; refine C1'.mono ?_; rintro e w9 ⟨v9, rfl, t9, f9, hb9⟩; have o9 := o8.below hb9; have e9 := e8.below hb9)
    | (refine wl_set rfl _ _ _ rfl (w.heap.size + 1) 3 _ rfl rfl _ _ o9 (show 3 < 5 by decide) (by kernel_rfl) (own1 t9) ?_; intro w10 o10 g10; have e10 := e9.grown g10 (fun e => by injection e with e; omega))
    | (refine wl_set rfl _ _ _ rfl (w.heap.size + 2) 3 _ rfl rfl _ _ e10 (show 3 < 5 by decide) (by kernel_rfl) rfl ?_; intro w11 e11 g11))
  have o11 : Row w11 (w.heap.size + 1) 56 [.int .i64 D0.1, v3, v6, v9, .int .i64 0] := o10.out.grown g11 (fun e => by injection e with e; omega)
  have e11 : Row w11 (w.heap.size + 2) 126 [.int .i64 D0.2.2, .int .i64 D1.2.2, .int .i64 D2.2.2, .int .i64 D3.2.2, .int .i64 0] := e11.out
  have r11 := ((r8.below hb9).grown g10 (fun e => by injection e with e; omega)).grown g11 (fun e => by injection e with e; omega)
  have hs11 : w.heap.size + 3 ≤ w11.heap.size := by have := hb9.size; have := g10.size; have := g11.size; omega
  have B9 := below_and B8 le hb9
  have B10 := B9.trans (grown_below g10 B9.size (fun k hk => by cases hk; omega))
  have B11 := B10.trans (grown_below g11 B10.size (fun k hk => by cases hk; omega))
  have q9 : RT (From (w.heap.size + 3)) w11 v9 D3.1 := (((RT.own t9 y3 f9).mv (Mv.weak (L := w.heap.size + 3) hs8)).mv (Mv.from (L := w.heap.size + 3) g10 (by omega) (Nat.le_refl _))).mv (Mv.from (L := w.heap.size + 3) g11 (by omega) (Nat.le_refl _))
  have q3 := ((q3.mv (Mv.belowG hb9)).mv (Mv.from (L := w.heap.size + 3) g10 (by omega) (Nat.le_refl _))).mv (Mv.from (L := w.heap.size + 3) g11 (by omega) (Nat.le_refl _))
  have q6 := ((q6.mv (Mv.belowG hb9)).mv (Mv.from (L := w.heap.size + 3) g10 (by omega) (Nat.le_refl _))).mv (Mv.from (L := w.heap.size + 3) g11 (by omega) (Nat.le_refl _))
  clear C1' o8 e8 o9 e9 o10 e10 g10 g11 r8 B8 B9 B10 t9 f9 hb9 hs8
  have C2' := C2.out w11 B11 D3.2.1
  rw [← E4.out] at C2'
  go_upto_region 9 with (first
    | (go_at_call 81; refine C2'.mono ?_; rintro e w11 ⟨rfl, rfl⟩)
    | (refine wl_set rfl _ _ _ rfl (w.heap.size + 1) 4 _ rfl rfl _ _ o11 (show 4 < 5 by decide) (by kernel_rfl) rfl ?_; intro w12 o12 g12; have e12 := e11.grown g12 (fun e => by injection e with e; omega))
    | (refine wl_set rfl _ _ _ rfl (w.heap.size + 2) 4 _ rfl rfl _ _ e12 (show 4 < 5 by decide) (by kernel_rfl) rfl ?_; intro w13 e13 g13))
  have o13 : Row w13 (w.heap.size + 1) 56 [.int .i64 D0.1, v3, v6, v9, .int .i64 D4.1] := o12.out.grown g13 (fun e => by injection e with e; omega)
  have e13 : Row w13 (w.heap.size + 2) 126 [.int .i64 D0.2.2, .int .i64 D1.2.2, .int .i64 D2.2.2, .int .i64 D3.2.2, .int .i64 D4.2.2] := e13.out
  have r13 := (r11.grown g12 (fun e => by injection e with e; omega)).grown g13 (fun e => by injection e with e; omega)
  have hs13 : w.heap.size + 3 ≤ w13.heap.size := by have := g12.size; have := g13.size; omega
  have B12 := B11.trans (grown_below g12 B11.size (fun k hk => by cases hk; omega))
  have B13 := B12.trans (grown_below g13 B12.size (fun k hk => by cases hk; omega))
  have q3 := (q3.mv (Mv.from (L := w.heap.size + 3) g12 (by omega) (Nat.le_refl _))).mv (Mv.from (L := w.heap.size + 3) g13 (by omega) (Nat.le_refl _))
  have q6 := (q6.mv (Mv.from (L := w.heap.size + 3) g12 (by omega) (Nat.le_refl _))).mv (Mv.from (L := w.heap.size + 3) g13 (by omega) (Nat.le_refl _))
  have q9 := (q9.mv (Mv.from (L := w.heap.size + 3) g12 (by omega) (Nat.le_refl _))).mv (Mv.from (L := w.heap.size + 3) g13 (by omega) (Nat.le_refl _))
  clear C2' o11 e11 o12 e12 g12 g13 r11 B11 B12 hs11 C1 C2 E1 E2 E3 E4
  rw [F0.out, F1.out, F2.out, F3.out, F4.out] at e13
  have hne := neE d0 d1 d2 d3 d4
  obtain ⟨ES, hES⟩ : ∃ ES : List Value, ES = [.int .i64 (if d0 = true then 11 else 0), .int .i64 (if d1 = true then 11 else 0), .int .i64 (if d2 = true then 11 else 0), .int .i64 (if d3 = true then 11 else 0), .int .i64 (if d4 = true then 11 else 0)] := ⟨_, rfl⟩
  have hEL : ES.length = 5 := by rw [hES]; rfl
  have hne : ∀ u : World, (binOp .neq 126 (.agg ES.toArray) (.agg #[.int .i64 0, .int .i64 0, .int .i64 0, .int .i64 0, .int .i64 0])).run Tryz.prog u = .ok (.bool (d0 || d1 || d2 || d3 || d4)) u := by rw [hES]; exact hne
  rw [← hES] at e13
  clear hES
  have HEL := (show Hid (ES.length = 5) from hEL)
  clear hEL
  have HK : Hid ((if D0.2.2 = 0 ∧ D1.2.2 = 0 ∧ D2.2.2 = 0 ∧ D3.2.2 = 0 ∧ D4.2.2 = 0 ∧ D4.2.1 = (l.length : Int) ∧ wok (D0.1, D1.1, D2.1, D3.1, D4.1) then some (D0.1, D1.1, D2.1, D3.1, D4.1) else none) = rdO l) := HK
  have bad : ¬ (D0.2.2 = 0 ∧ D1.2.2 = 0 ∧ D2.2.2 = 0 ∧ D3.2.2 = 0 ∧ D4.2.2 = 0 ∧ D4.2.1 = (l.length : Int) ∧ wok (D0.1, D1.1, D2.1, D3.1, D4.1)) → rdO l = none := fun h => by rw [← HK.out, if_neg h]
  have fin : ∀ {w14 w15 : World}, rdO l = none → Below w13.heap.size w13 w14 → w14.grownBy w15 (some w.heap.size) → ∃ r' : List Value, (Ending.returned (.tuple #[.agg ([.int .i64 0, .slice none 0 0, .slice none 0 0, .slice none 0 0, .int .i64 0] : List Value).toArray, .int .i64 71])) = .returned (.tuple #[.agg r'.toArray, .int .i64 (errR l)]) ∧ ROp (From w.heap.size) w15 r' (opR l) ∧ Below w.heap.size w w15 := fun {w14 w15} h hb14 hg15 => by
    have b14 := below_and B13 le hb14
    refine ⟨[.int .i64 0, .slice none 0 0, .slice none 0 0, .slice none 0 0, .int .i64 0], by unfold errR; rw [h], ?_, b14.trans (grown_below hg15 b14.size (fun k hk => by cases hk; exact Nat.le_refl _))⟩
    unfold opR
    rw [h]
    exact ⟨_, _, _, rfl, RT.nil _ _, RT.nil _ _, RT.nil _ _⟩
  have BAD := (show Hid (¬ (D0.2.2 = 0 ∧ D1.2.2 = 0 ∧ D2.2.2 = 0 ∧ D3.2.2 = 0 ∧ D4.2.2 = 0 ∧ D4.2.1 = (l.length : Int) ∧ wok (D0.1, D1.1, D2.1, D3.1, D4.1)) → rdO l = none) from bad)
  clear bad
  cases hd : (d0 || d1 || d2 || d3 || d4) with
  | true =>
    rw [hd] at hne
    have hn : rdO l = none := BAD.out fun ⟨x0, x1, x2, x3, x4, _⟩ => by
      rw [F0.out] at x0
      rw [F1.out] at x1
      rw [F2.out] at x2
      rw [F3.out] at x3
      rw [F4.out] at x4
      revert hd x0 x1 x2 x3 x4
      cases d0 <;> cases d1 <;> cases d2 <;> cases d3 <;> cases d4 <;> simp
    have HN := (show Hid (rdO l = none) from hn)
    clear hn hd
    go_wp2_with (first
      | (refine wl_load rfl _ _ rfl (w.heap.size + 2) rfl _ _ e13 _ Tryz.underlying126 rfl (by rw [HEL.out]; kernel_rfl) ?_)
      | (refine wl_store rfl _ _ _ rfl w.heap.size [.int .i64 0, .slice none 0 0, .slice none 0 0, .slice none 0 0, .int .i64 0] rfl rfl _ _ r13 rfl (by kernel_rfl) one5z ?_; intro w15 hr15 hg15))
    refine bodyPost_ret (results_ct rfl _ _ w.heap.size _ _ (0, 0) _ (by rfl) hr15.out Tryz.underlying56 rfl (by kernel_rfl)) rfl ?_
    exact fin HN.out (Below.refl _ _) hg15
  | false =>
    rw [hd] at hne
    obtain ⟨rfl, rfl, rfl, rfl, rfl⟩ : d0 = false ∧ d1 = false ∧ d2 = false ∧ d3 = false ∧ d4 = false := by
      revert hd
      cases d0 <;> cases d1 <;> cases d2 <;> cases d3 <;> cases d4 <;> simp
    clear hd
    by_cases hp : D4.2.1 = (l.length : Int)
    rotate_left
    · have HN := (show Hid (rdO l = none) from BAD.out fun h => hp h.2.2.2.2.2.1)
      have hpn : (D4.2.1 != (l.length : Int)) = true := by simp [hp]
      clear hp
      go_wp2_with (first
        | (refine wl_load rfl _ _ rfl (w.heap.size + 2) rfl _ _ e13 _ Tryz.underlying126 rfl (by rw [HEL.out]; kernel_rfl) ?_)
        | (refine wl_store rfl _ _ _ rfl w.heap.size [.int .i64 0, .slice none 0 0, .slice none 0 0, .slice none 0 0, .int .i64 0] rfl rfl _ _ r13 rfl (by kernel_rfl) one5z ?_; intro w15 hr15 hg15))
      refine bodyPost_ret (results_ct rfl _ _ w.heap.size _ _ (0, 0) _ (by rfl) hr15.out Tryz.underlying56 rfl (by kernel_rfl)) rfl ?_
      exact fin HN.out (Below.refl _ _) hg15
    have hpn : (D4.2.1 != (l.length : Int)) = false := by simp [hp]
    have HP := (show Hid (D4.2.1 = (l.length : Int)) from hp)
    clear hp
    have hW := writable_any w13 [.int .i64 D0.1, v3, v6, v9, .int .i64 D4.1] (D0.1, D1.1, D2.1, D3.1, D4.1) ⟨_, _, _, rfl, q3.mv Mv.any, q6.mv Mv.any, q9.mv Mv.any⟩
    by_cases hw : wok (D0.1, D1.1, D2.1, D3.1, D4.1)
    rotate_left
    · rw [decide_eq_false hw] at hW
      have HN := (show Hid (rdO l = none) from BAD.out fun h => hw h.2.2.2.2.2.2)
      clear hw
      go_wp2_with (first
        | (refine wl_load rfl _ _ rfl (w.heap.size + 2) rfl _ _ e13 _ Tryz.underlying126 rfl (by rw [HEL.out]; kernel_rfl) ?_)
        | (refine wl_load_w rfl _ _ rfl (w.heap.size + 1) rfl _ _ o13 _ Tryz.underlying56 rfl (by kernel_rfl) ?_)
        | (go_at_call 52; refine hW.mono ?_; rintro e w14 ⟨rfl, hb14⟩; have r14 := r13.below hb14)
        | (refine wl_store rfl _ _ _ rfl w.heap.size [.int .i64 0, .slice none 0 0, .slice none 0 0, .slice none 0 0, .int .i64 0] rfl rfl _ _ r14 rfl (by kernel_rfl) one5z ?_; intro w15 hr15 hg15))
      refine bodyPost_ret (results_ct rfl _ _ w.heap.size _ _ (0, 0) _ (by rfl) hr15.out Tryz.underlying56 rfl (by kernel_rfl)) rfl ?_
      exact fin HN.out hb14 hg15
    rw [decide_eq_true hw] at hW
    have hs : rdO l = some (D0.1, D1.1, D2.1, D3.1, D4.1) := by
      rw [← HK.out, if_pos ⟨F0.out, F1.out, F2.out, F3.out, F4.out, HP.out, hw⟩]
    have HN := (show Hid (rdO l = some (D0.1, D1.1, D2.1, D3.1, D4.1)) from hs)
    clear hw hs
    go_wp2_with (first
      | (refine wl_load rfl _ _ rfl (w.heap.size + 2) rfl _ _ e13 _ Tryz.underlying126 rfl (by rw [HEL.out]; kernel_rfl) ?_)
      | (refine wl_load_w rfl _ _ rfl (w.heap.size + 1) rfl _ _ o13 _ Tryz.underlying56 rfl (by kernel_rfl) ?_)
      | (go_at_call 52; refine hW.mono ?_; rintro e w14 ⟨rfl, hb14⟩; have r14 := r13.below hb14; have o14 := o13.below hb14)
      | (refine wl_load rfl _ _ rfl (w.heap.size + 1) rfl _ _ o14 _ Tryz.underlying56 rfl (by kernel_rfl) ?_)
      | (refine wl_store rfl _ _ _ rfl w.heap.size [.int .i64 D0.1, v3, v6, v9, .int .i64 D4.1] rfl rfl _ _ r14 rfl (by kernel_rfl) (one5 q3.one q6.one q9.one) ?_; intro w15 hr15 hg15))
    refine bodyPost_ret (results_ct rfl _ _ w.heap.size _ _ (0, 0) _ (by rfl) hr15.out Tryz.underlying56 rfl (by kernel_rfl)) rfl ?_
    have b14 := below_and B13 le hb14
    refine ⟨[.int .i64 D0.1, v3, v6, v9, .int .i64 D4.1], by unfold errR; rw [HN.out]; rfl, ?_, b14.trans (grown_below hg15 b14.size (fun k hk => by cases hk; exact Nat.le_refl _))⟩
    unfold opR
    rw [HN.out]
    exact ⟨_, _, _, rfl, (q3.mv (Mv.belowG hb14)).mv (Mv.from (L := w.heap.size) hg15 (by omega) (by omega)), (q6.mv (Mv.belowG hb14)).mv (Mv.from (L := w.heap.size) hg15 (by omega) (by omega)), (q9.mv (Mv.belowG hb14)).mv (Mv.from (L := w.heap.size) hg15 (by omega) (by omega))⟩
end Go.Proofs.YtejkkhlblnepeaaGreat
