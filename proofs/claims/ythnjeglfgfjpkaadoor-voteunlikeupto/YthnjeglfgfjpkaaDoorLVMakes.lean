/- catenarylaw06.VoteMakes: its walk. -/
import Derived.Test.YthnjeglfgfjpkaaDoorTAlive
import Derived.Test.YthnjeglfgfjpkaaDoorT3
set_option linter.unusedVariables false
namespace Go.Proofs.YthnjeglfgfjpkaaDoor
open Go.RowKit Oct Sha

theorem same_yes (w : World) (u v : Value) (l : List Int) (ha : Rd w u l) (hb : Rd w v l) : Calls Tryd.prog 12 #[u, v] w fun e w' => e = .returned (.bool true) ∧ w' = w := by
  have := same_any w u v l l ha hb
  rwa [decide_eq_true rfl] at this

/-- What is voted for and a vote, in their boxes. -/
def Vb (w : World) (n m : Nat) (k x y s : Int) (v : Value) (j : Int) (gv : Value) : Prop := Row w n 27 [.int .i64 k, .int .i64 x, .int .i64 y, .int .i64 s, v] ∧ Row w m 29 [.int .i64 j, gv]
theorem Vb.below {w w' : World} {n m : Nat} {k x y s : Int} {v : Value} {j : Int} {gv : Value} (h : Vb w n m k x y s v j gv) (hb : Below w.heap.size w w') : Vb w' n m k x y s v j gv := ⟨h.1.below hb, h.2.below hb⟩
theorem Vb.cells {w : World} {n m : Nat} {k x y s : Int} {v : Value} {j : Int} {gv : Value} (h : Vb w n m k x y s v j gv) :
    w.cell? ⟨n, 0, none⟩ = some (.int .i64 k) ∧ w.cell? ⟨n, 1, none⟩ = some (.int .i64 x) ∧ w.cell? ⟨n, 2, none⟩ = some (.int .i64 y) ∧ w.cell? ⟨n, 3, none⟩ = some (.int .i64 s) ∧ w.cell? ⟨n, 4, none⟩ = some v ∧ w.cell? ⟨m, 0, none⟩ = some (.int .i64 j) ∧ w.cell? ⟨m, 1, none⟩ = some gv :=
  ⟨h.1.cell rfl, h.1.cell rfl, h.1.cell rfl, h.1.cell rfl, h.1.cell rfl, h.2.cell rfl, h.2.cell rfl⟩

set_option maxRecDepth 10000 in
set_option maxHeartbeats 4000000 in
theorem makes_any (w : World) (k x y s : Int) (v : Value) (l : List Int) (i j : Int) (gv : Value) (g : List Int) (hv : Rd w v l) (hg : Rd w gv g) (hl : l.length ≤ 1048576) (hT : Tab w) :
    Calls Tryd.prog 4 #[.agg #[.int .i64 k, .int .i64 x, .int .i64 y, .int .i64 s, v], .int .i64 i, .agg #[.int .i64 j, gv]] w fun e w' => e = .returned (.bool true) ∧ Below w.heap.size w w' := by
  have le := Nat.le_refl w.heap.size
  obtain ⟨ao, cap, rfl, hcap⟩ := hv.form
  obtain ⟨ag, gap, rfl, hgap⟩ := hg.form
  have hsb := signL_byt (repL i) (sL ⟨#[118, 111, 116, 101]⟩) [numsL [k, x, y, s], l]
  have htb : Byt (textL (repL i) (sL ⟨#[118, 111, 116, 101]⟩) [numsL [k, x, y, s], l]) := textL_byt _ _ _ (fun t ht => by simp only [List.mem_cons, List.not_mem_nil, or_false] at ht; rcases ht with rfl | rfl; exact numsL_byt _; exact hv.1) (by simp only [tot, numsL_len, List.length_cons, List.length_nil]; have : (⟨#[118, 111, 116, 101]⟩ : ByteArray).size = 4 := rfl; omega)
  obtain ⟨w0, hw0⟩ : ∃ w0, w0 = (w.alloc (.cells #[.int .i64 k, .int .i64 x, .int .i64 y, .int .i64 s, .slice ao l.length cap] 27)).alloc (.cells #[.int .i64 j, .slice ag g.length gap] 29) := ⟨_, rfl⟩
  have x0 : Vb w0 w.heap.size (w.heap.size + 1) k x y s (.slice ao l.length cap) j (.slice ag g.length gap) := by
    rw [hw0]
    refine ⟨(Row.new w 27 _).below (below_alloc _ _), ?_⟩
    rw [show w.heap.size + 1 = (w.alloc (.cells #[.int .i64 k, .int .i64 x, .int .i64 y, .int .i64 s, .slice ao l.length cap] 27)).heap.size by simp]
    exact Row.new _ 29 _
  have B0 : Below w.heap.size w w0 := by rw [hw0]; exact below_and (below_alloc _ _) (Nat.le_refl _) (below_alloc _ _)
  go_enter Tryd.func4, Tryd.ntmps4
  go_wp2_with fail
  rw [← hw0]
  clear hw0
  refine (alive_any w0 (hT.below B0)).mono ?_
  rintro e w1 ⟨rfl, hb1⟩
  have B1 := below_and B0 le hb1
  have x1 := x0.below hb1
  have p1 := hv.below B1
  clear hb1 B0 x0
  obtain ⟨c0, c1, c2, c3, c4, d0, d1⟩ := (x1.below (below_alloc w1 (.cells #[] 5))).cells
  go_wp2_with (at_builtin; refine app_copy rfl _ _ rfl rfl _ l rfl p1 (by omega) ?_; intro o2 w2 hown2 hfr2 hb2; have x2 := x1.below hb2; obtain ⟨c0', c1', c2', c3', c4', d0', d1'⟩ := x2.cells)
  have o2r := hown2.rd hv.1
  obtain ⟨ob, oc, rfl, hoc⟩ := o2r.form
  have B2 := below_and B1 le hb2
  clear hown2 hfr2 hb2 B1 p1 x1 c0 c1 c2 c3 c4 d0 d1 c0' c1' c2' c3' c4' d0' d1'
  refine (vMake_any w2 k x y s i _ l o2r (by omega) (hT.below B2)).mono ?_
  rintro e w3 ⟨m3, rfl, rm3, hb3⟩
  have B3 := below_and B2 le hb3
  have rm3 := rm3.1
  obtain ⟨am, cm, rfl, hcm⟩ := rm3.form
  have x3 := (x2.below hb3)
  have o3r := o2r.below hb3
  obtain ⟨w4, hw4⟩ : ∃ w4, w4 = w3.alloc (.cells #[.int .i64 i, .slice am (signL (repL i) (sL ⟨#[118, 111, 116, 101]⟩) [numsL [k, x, y, s], l]).length cm] 29) := ⟨_, rfl⟩
  have b4 : Below w3.heap.size w3 w4 := hw4 ▸ below_alloc _ _
  have rw4 : Row w4 w3.heap.size 29 [.int .i64 i, .slice am (signL (repL i) (sL ⟨#[118, 111, 116, 101]⟩) [numsL [k, x, y, s], l]).length cm] := by rw [hw4]; exact Row.new _ _ _
  have x4 := x3.below b4
  have o4r := o3r.below b4
  have rm4 := rm3.below b4
  have B4 := below_and B3 le b4
  obtain ⟨c0, c1, c2, c3, c4, d0, d1⟩ := x4.cells
  rw [hw4] at c0 c1 c2 c3 c4 d0 d1
  clear hb3 x3 o3r rm3 B3 b4 x2 o2r B2
  go_wp2_with fail
  rw [← hw4]
  clear hw4 c0 c1 c2 c3 c4 d0 d1
  have p4 := hv.below B4
  refine (refVMake_any w4 k x y s i _ l p4 (by omega)).mono ?_
  rintro e w5 ⟨m5, rfl, rm5, hb5⟩
  have rm5 := rm5.1
  obtain ⟨an, cn, rfl, hcn⟩ := rm5.form
  obtain ⟨w6, hw6⟩ : ∃ w6, w6 = w5.alloc (.cells #[.int .i64 i, .slice an (signL (repL i) (sL ⟨#[118, 111, 116, 101]⟩) [numsL [k, x, y, s], l]).length cn] 29) := ⟨_, rfl⟩
  have b6 : Below w5.heap.size w5 w6 := hw6 ▸ below_alloc _ _
  have rw6 : Row w6 w5.heap.size 29 [.int .i64 i, .slice an (signL (repL i) (sL ⟨#[118, 111, 116, 101]⟩) [numsL [k, x, y, s], l]).length cn] := by rw [hw6]; exact Row.new _ _ _
  have B46 := below_and hb5 (Nat.le_refl _) b6
  have x6 := x4.below B46
  have o6r := o4r.below B46
  have rv6 := rw4.below B46
  have rm6 := rm4.below B46
  have rn6 := rm5.below b6
  have B6 := below_and B4 le B46
  obtain ⟨c0, c1, c2, c3, c4, d0, d1⟩ := x6.cells
  rw [hw6] at c0 c1 c2 c3 c4 d0 d1
  clear hb5 b6 B46 x4 o4r rw4 rm4 rm5 B4 p4
  go_wp2_with fail
  rw [← hw6]
  clear hw6 c0 c1 c2 c3 c4 d0 d1
  refine (vText_any w6 k x y s i _ l o6r (by omega)).mono ?_
  rintro e w7 ⟨t7, rfl, ho7, hf7, hb7⟩
  have t7r := ho7.rd htb
  obtain ⟨at7, ct7, rfl, hct7⟩ := t7r.form
  have x7 := x6.below hb7
  have o7r := o6r.below hb7
  have rv7 := rv6.below hb7
  have rw7 := rw6.below hb7
  have rm7 := rm6.below hb7
  have rn7 := rn6.below hb7
  have B7 := below_and B6 le hb7
  obtain ⟨c0, c1, c2, c3, c4, d0, d1⟩ := x7.cells
  clear ho7 hf7 hb7 x6 o6r rv6 rw6 rm6 rn6 B6
  go_wp2_with fail
  have hV := vRight_any w7 k x y s j _ l o7r (by omega) _ g (hg.below B7) (hT.below B7)
  have hW := fun u hu => refVRight_any u k x y s j _ l (hv.below hu) (by omega) _ g (hg.below hu)
  generalize verL (repL j) g (sL ⟨#[118, 111, 116, 101]⟩) [numsL [k, x, y, s], l] = d at hV hW
  have HW := (show Hid (∀ u, Below w.heap.size w u → _) from hW)
  clear hW
  refine hV.mono ?_
  rintro e w8 ⟨rfl, hb8⟩
  clear hV c0 c1 c2 c3 c4 d0 d1
  have x8 := x7.below hb8
  have o8r := o7r.below hb8
  have rv8 := rv7.below hb8
  have rw8 := rw7.below hb8
  have rm8 := rm7.below hb8
  have rn8 := rn7.below hb8
  have t8r := t7r.below hb8
  have B8 := below_and B7 le hb8
  obtain ⟨c0, c1, c2, c3, c4, d0, d1⟩ := x8.cells
  have e0 := rv8.cell (j := 0) rfl
  have e1 := rv8.cell (j := 1) rfl
  have f0 := rw8.cell (j := 0) rfl
  have f1 := rw8.cell (j := 1) rfl
  have hii : (i == i) = true := by simp
  have hdd : (d == d) = true := by simp
  clear hb8 x7 o7r rv7 rw7 rm7 rn7 B7 t7r
  go_wp2_with fail
  refine (same_yes w8 _ _ _ rm8 rn8).mono ?_
  rintro e w' ⟨rfl, rfl⟩
  clear rm8 rn8 e0 e1 f0 f1 rv8 rw8
  go_wp2_with fail
  refine (refVText_any _ k x y s i _ l (hv.below B8) (by omega)).mono ?_
  rintro e w9 ⟨t9, rfl, ho9, hf9, hb9⟩
  have t9r := ho9.rd htb
  have q9r := t8r.below hb9
  have x9 := x8.below hb9
  have o9r := o8r.below hb9
  have B9 := below_and B8 le hb9
  clear ho9 hf9 hb9 x8 o8r t8r B8 c0 c1 c2 c3 c4 d0 d1
  obtain ⟨c0, c1, c2, c3, c4, d0, d1⟩ := x9.cells
  go_wp2_with fail
  refine (same_yes w9 _ _ _ q9r t9r).mono ?_
  rintro e w' ⟨rfl, rfl⟩
  clear q9r t9r
  go_wp2_with fail
  refine (HW.out _ B9).mono ?_
  rintro e w10 ⟨rfl, hb10⟩
  have x10 := x9.below hb10
  have o10r := o9r.below hb10
  have B10 := below_and B9 le hb10
  clear hb10 x9 o9r B9 c0 c1 c2 c3 c4 d0 d1 HW
  obtain ⟨c0, c1, c2, c3, c4, d0, d1⟩ := x10.cells
  go_wp2_with fail
  refine (same_yes w10 _ _ l o10r (hv.below B10)).mono ?_
  rintro e w' ⟨rfl, rfl⟩
  go_wp2_with fail
  go_ret
  exact ⟨rfl, B10⟩
end Go.Proofs.YthnjeglfgfjpkaaDoor
