/- snap.Encode. (Made by mk10.py.) -/
import Derived.Test.YteafgdidjdfiiaaGreatJ03
import Derived.Test.YteafgdidjdfiiaaGreatLc
import Derived.Test.YteafgdidjdfiiaaGreatU0
import Derived.Test.YteafgdidjdfiiaaGreatW3
import Derived.Deep.RegionLaw
section
set_option linter.unusedVariables false
set_option linter.unusedSimpArgs false
namespace Go.Proofs.YteafgdidjdfiiaaGreat
open Go.RowKit Oct Kvl

/-- A state that can be read. -/
def RApp (G : Nat → Prop) (w : World) (r : List Value) (a : PApp) : Prop := ∃ ve vl vs, r = [.int .i64 a.1, ve, vl, vs] ∧ RL REnt 2 G w ve a.2.1 ∧ RL RLea 3 G w vl a.2.2.1 ∧ RL RSes 4 G w vs a.2.2.2
/-- A state of the call's own, from block B on. -/
def OApp (B : Nat) (w : World) (r : List Value) (a : PApp) : Prop := ∃ ve vl vs, r = [.int .i64 a.1, ve, vl, vs] ∧ LB OEnt 73 2 B w ve a.2.1 ∧ LB OLea 75 3 B w vl a.2.2.1 ∧ LB OSes 77 4 B w vs a.2.2.2
theorem mov_app : Mov RApp := fun _ _ _ _ _ _ h hs hm => by
  obtain ⟨ve, vl, vs, e, h1, h2, h3⟩ := h
  exact ⟨ve, vl, vs, e, h1.mv mov_ent hs hm, h2.mv mov_lea hs hm, h3.mv mov_ses hs hm⟩
theorem RApp.below {w w' : World} {r : List Value} {a : PApp} (h : RApp Any w r a) (hb : Below w.heap.size w w') : RApp Any w' r a := mov_app _ _ _ _ _ _ h hb.size (Mv.below hb)
theorem OApp.below {B : Nat} {w w' : World} {r : List Value} {a : PApp} (h : OApp B w r a) (hb : Below w.heap.size w w') : OApp B w' r a := by
  obtain ⟨ve, vl, vs, e, h1, h2, h3⟩ := h
  exact ⟨ve, vl, vs, e, h1.below mov_oent hb, h2.below mov_olea hb, h3.below mov_oses hb⟩
theorem Rn.rl {B : Nat} {w : World} {v : Value} {ys : List PEnt} (h : LB OSes 77 4 B w v ys) : RL RSes 4 Any w v ys := (h.rl mov_oses).ses.mv mov_ses (Nat.le_refl _) Mv.any
theorem Re.rl {B : Nat} {w : World} {v : Value} {ys : List PEnt} (h : LB OEnt 73 2 B w v ys) : RL REnt 2 Any w v ys := (h.rl mov_oent).ent.mv mov_ent (Nat.le_refl _) Mv.any
theorem Rz.rl {B : Nat} {w : World} {v : Value} {ys : List PEnt} (h : LB OLea 75 3 B w v ys) : RL RLea 3 Any w v ys := (h.rl mov_olea).lea.mv mov_lea (Nat.le_refl _) Mv.any
theorem OApp.app {B : Nat} {w : World} {r : List Value} {a : PApp} (h : OApp B w r a) : RApp Any w r a := by
  obtain ⟨ve, vl, vs, e, h1, h2, h3⟩ := h
  exact ⟨ve, vl, vs, e, Re.rl h1, Rz.rl h2, Rn.rl h3⟩
theorem RApp.wf {G : Nat → Prop} {w : World} {r : List Value} {a : PApp} (h : RApp G w r a) : wfN a.2.2.2 := by
  obtain ⟨ve, vl, vs, e, h1, h2, h3⟩ := h
  exact h3.wf
def szA (a : PApp) : Prop := szL 48 szE a.2.1 ∧ szL 40 szS a.2.2.1 ∧ szL 48 szN a.2.2.2
theorem onA4 {n : Int} {a b c : Value} (ha : a.oneCell' = true) (hb : b.oneCell' = true) (hc : c.oneCell' = true) : ∀ x ∈ [Value.int .i64 n, a, b, c], x.oneCell' = true := by
  intro x hx
  simp only [List.mem_cons, List.not_mem_nil, or_false] at hx
  rcases hx with rfl | rfl | rfl | rfl <;> first | assumption | rfl
theorem RApp.one {G : Nat → Prop} {w : World} {r : List Value} {a : PApp} (h : RApp G w r a) : ∀ x ∈ r, x.oneCell' = true := by
  obtain ⟨ve, vl, vs, rfl, h1, h2, h3⟩ := h
  exact onA4 h1.one h2.one h3.one

set_option maxRecDepth 10000 in
/-- session.isNoRequest. -/
theorem isNo_any (w : World) (x : PReq) (ao ag : Option Addr) (co cg : Nat) : Calls Tryz.prog 47 #[.agg #[.int .i64 x.1, .int .i64 x.2.1, .slice ao x.2.2.1.length co, .slice ag x.2.2.2.length cg]] w fun e w' => e = .returned (.bool (decide (isZ x))) ∧ Below w.heap.size w w' := by
  obtain ⟨d, hd⟩ : ∃ d, d = decide (isZ x) := ⟨_, rfl⟩
  rw [← hd]
  obtain ⟨L1, h1⟩ : ∃ L, L = x.2.2.1.length := ⟨_, rfl⟩
  obtain ⟨L2, h2⟩ : ∃ L, L = x.2.2.2.length := ⟨_, rfl⟩
  obtain ⟨c, hc⟩ : ∃ c, c = x.1 := ⟨_, rfl⟩
  obtain ⟨s, hs⟩ : ∃ s, s = x.2.1 := ⟨_, rfl⟩
  have hd2 : d = decide (c = 0 ∧ s = 0 ∧ L1 = 0 ∧ L2 = 0) := by
    rw [hd, h1, h2, hc, hs]
    unfold isZ
    simp only [List.length_eq_zero_iff]
  rw [← h1, ← h2, ← hc, ← hs]
  clear h1 h2 hc hs hd
  have HD := (show Hid (d = decide (c = 0 ∧ s = 0 ∧ L1 = 0 ∧ L2 = 0)) from hd2)
  clear hd2
  have B0 := below_alloc w (.cells #[.int .i64 c, .int .i64 s, .slice ao L1 co, .slice ag L2 cg] 34)
  have r0 := Row.new w 34 [.int .i64 c, .int .i64 s, .slice ao L1 co, .slice ag L2 cg]
  have c0 := r0.cell (j := 0) rfl
  have c1 := r0.cell (j := 1) rfl
  have c2 := r0.cell (j := 2) rfl
  have c3 := r0.cell (j := 3) rfl
  clear r0
  by_cases g1 : c = 0
  rotate_left
  · have g1' : (c == 0) = false := by simp [g1]
    have HG := (show Hid (¬ c = 0) from g1)
    clear g1
    go_enter Tryz.func47, Tryz.ntmps47
    go_wp2_with fail
    go_ret
    refine ⟨ret_bool ?_, B0⟩
    rw [HD.out]
    exact (decide_eq_false fun h => HG.out h.1).symm
  have g1' : (c == 0) = true := by simp [g1]
  have HG1 := (show Hid (c = 0) from g1)
  clear g1
  by_cases g2 : s = 0
  rotate_left
  · have g2' : (s == 0) = false := by simp [g2]
    have HG := (show Hid (¬ s = 0) from g2)
    clear g2
    go_enter Tryz.func47, Tryz.ntmps47
    go_wp2_with fail
    go_ret
    refine ⟨ret_bool ?_, B0⟩
    rw [HD.out]
    exact (decide_eq_false fun h => HG.out h.2.1).symm
  have g2' : (s == 0) = true := by simp [g2]
  have HG2 := (show Hid (s = 0) from g2)
  clear g2
  by_cases g3 : L1 = 0
  rotate_left
  · have g3' : ((L1 : Int) == 0) = false := by simp; omega
    have HG := (show Hid (¬ L1 = 0) from g3)
    clear g3
    go_enter Tryz.func47, Tryz.ntmps47
    go_wp2_with fail
    go_ret
    refine ⟨ret_bool ?_, B0⟩
    rw [HD.out]
    exact (decide_eq_false fun h => HG.out h.2.2.1).symm
  have g3' : ((L1 : Int) == 0) = true := by simp [g3]
  have HG3 := (show Hid (L1 = 0) from g3)
  clear g3
  by_cases g4 : L2 = 0
  rotate_left
  · have g4' : ((L2 : Int) == 0) = false := by simp; omega
    have HG := (show Hid (¬ L2 = 0) from g4)
    clear g4
    go_enter Tryz.func47, Tryz.ntmps47
    go_wp2_with fail
    go_ret
    refine ⟨ret_bool ?_, B0⟩
    rw [HD.out]
    exact (decide_eq_false fun h => HG.out h.2.2.2).symm
  have g4' : ((L2 : Int) == 0) = true := by simp [g4]
  have HG4 := (show Hid (L2 = 0) from g4)
  clear g4
  go_enter Tryz.func47, Tryz.ntmps47
  go_wp2_with fail
  go_ret
  refine ⟨ret_bool ?_, B0⟩
  rw [HD.out]
  exact (decide_eq_true ⟨HG1.out, HG2.out, HG3.out, HG4.out⟩).symm

set_option maxRecDepth 10000 in
set_option maxHeartbeats 2000000 in
/-- session.Right. -/
theorem rightA_any (w : World) (r : List Value) (a : PApp) (h : RApp Any w r a) :
    Calls Tryz.prog 17 #[.agg r.toArray] w fun e w' => e = .returned (.bool (decide (rgtA a))) ∧ Below w.heap.size w w' := by
  obtain ⟨ve, vl, vs, rfl, h1, h2, h3⟩ := h
  obtain ⟨w0, hw0⟩ : ∃ w0, w0 = w.alloc (.cells #[.int .i64 a.1, ve, vl, vs] 27) := ⟨_, rfl⟩
  have B0 : Below w.heap.size w w0 := by rw [hw0]; exact below_alloc _ _
  have r0 : Row w0 w.heap.size 27 [.int .i64 a.1, ve, vl, vs] := by rw [hw0]; exact Row.new w 27 _
  have hW := withinN_any w0 a.1 0 1000000
  have HR1 := (show Hid (∀ u, Below w.heap.size w u → Calls Tryz.prog 44 #[ve] u fun e w' => e = .returned (.bool (decide (rgtL a.2.1))) ∧ Below u.heap.size u w') from fun u hu => right_any u _ _ (h1.mv mov_ent hu.size (Mv.below hu)))
  have HR2 := (show Hid (∀ u, Below w.heap.size w u → Calls Tryz.prog 45 #[vl] u fun e w' => e = .returned (.bool (decide (rgtS a.2.2.1))) ∧ Below u.heap.size u w') from fun u hu => rightS_any u _ _ (h2.mv mov_lea hu.size (Mv.below hu)))
  have HR3 := (show Hid (∀ u, Below w.heap.size w u → Calls Tryz.prog 46 #[vs] u fun e w' => e = .returned (.bool (decide (rgtN a.2.2.2))) ∧ Below u.heap.size u w') from fun u hu => rightSess_any u _ _ (h3.mv mov_ses hu.size (Mv.below hu)))
  have HD := (show Hid (decide (rgtA a) = (decide (0 ≤ a.1 ∧ a.1 ≤ 1000000) && (decide (rgtL a.2.1) && (decide (rgtS a.2.2.1) && decide (rgtN a.2.2.2))))) by
    show _ = _
    rw [Bool.eq_iff_iff]
    simp only [decide_eq_true_eq, Bool.and_eq_true]
    exact Iff.rfl)
  generalize decide (rgtA a) = d at *
  generalize decide (0 ≤ a.1 ∧ a.1 ≤ 1000000) = d0 at *
  generalize decide (rgtL a.2.1) = d1 at *
  generalize decide (rgtS a.2.2.1) = d2 at *
  generalize decide (rgtN a.2.2.2) = d3 at *
  clear h1 h2 h3
  have c0 := r0.cell (j := 0) rfl
  have c1 := r0.cell (j := 1) rfl
  cases d0 with
  | false =>
    go_enter Tryz.func17, Tryz.ntmps17
    go_upto_region 1 with fail
    rw [← hw0]
    clear hw0
    go_wp2_with (go_at_call 43; refine hW.mono ?_; rintro e w1 ⟨rfl, rfl⟩)
    go_ret
    exact ⟨ret_bool (by rw [HD.out]; rfl), B0⟩
  | true =>
    cases d1 with
    | false =>
      go_enter Tryz.func17, Tryz.ntmps17
      go_upto_region 1 with fail
      rw [← hw0]
      clear hw0
      go_wp2_with (first
        | (go_at_call 43; refine hW.mono ?_; rintro e w0 ⟨rfl, rfl⟩)
        | (go_at_call 44; refine (HR1.out _ B0).mono ?_; rintro e w1 ⟨rfl, hb1⟩))
      go_ret
      exact ⟨ret_bool (by rw [HD.out]; rfl), below_and B0 (Nat.le_refl _) hb1⟩
    | true =>
      cases d2 with
      | false =>
        go_enter Tryz.func17, Tryz.ntmps17
        go_upto_region 1 with fail
        rw [← hw0]
        clear hw0
        go_wp2_with (first
          | (go_at_call 43; refine hW.mono ?_; rintro e w0 ⟨rfl, rfl⟩)
          | (go_at_call 44; refine (HR1.out _ B0).mono ?_; rintro e w1 ⟨rfl, hb1⟩; have B1 := below_and B0 (Nat.le_refl _) hb1; have c2 := (r0.below hb1).cell (j := 2) rfl)
          | (go_at_call 45; refine (HR2.out _ B1).mono ?_; rintro e w2 ⟨rfl, hb2⟩))
        go_ret
        exact ⟨ret_bool (by rw [HD.out]; rfl), below_and B1 (Nat.le_refl _) hb2⟩
      | true =>
        go_enter Tryz.func17, Tryz.ntmps17
        go_upto_region 1 with fail
        rw [← hw0]
        clear hw0
        go_wp2_with (first
          | (go_at_call 43; refine hW.mono ?_; rintro e w0 ⟨rfl, rfl⟩)
          | (go_at_call 44; refine (HR1.out _ B0).mono ?_; rintro e w1 ⟨rfl, hb1⟩; have B1 := below_and B0 (Nat.le_refl _) hb1; have c2 := (r0.below hb1).cell (j := 2) rfl)
          | (go_at_call 45; refine (HR2.out _ B1).mono ?_; rintro e w2 ⟨rfl, hb2⟩; have B2 := below_and B1 (Nat.le_refl _) hb2; have c3 := ((r0.below hb1).below hb2).cell (j := 3) rfl)
          | (go_at_call 46; refine (HR3.out _ B2).mono ?_; rintro e w3 ⟨rfl, hb3⟩))
        go_ret
        exact ⟨ret_bool (by rw [HD.out]; rfl), below_and B2 (Nat.le_refl _) hb3⟩

set_option maxRecDepth 10000 in
set_option maxHeartbeats 2000000 in
/-- clone.App. -/
theorem cloneApp_any (w : World) (r : List Value) (a : PApp) (h : RApp Any w r a) (hz : szA a) :
    Calls Tryz.prog 16 #[.agg r.toArray] w fun e w' => ∃ r', e = .returned (.agg r'.toArray) ∧ OApp (w.heap.size + 2) w' r' a ∧ Below w.heap.size w w' := by
  obtain ⟨ve, vl, vs, rfl, h1, h2, h3⟩ := h
  obtain ⟨z1, z2, z3⟩ := hz
  obtain ⟨w2, hw2⟩ : ∃ w2, w2 = (w.alloc (.cells #[.int .i64 a.1, ve, vl, vs] 27)).alloc (.cells #[.int .i64 0, .slice none 0 0, .slice none 0 0, .slice none 0 0] 27) := ⟨_, rfl⟩
  have ra : Row w2 w.heap.size 27 [.int .i64 a.1, ve, vl, vs] := by rw [hw2]; exact rowA (Row.new w 27 _) _
  have rr : Row w2 (w.heap.size + 1) 27 [.int .i64 0, .slice none 0 0, .slice none 0 0, .slice none 0 0] := by
    rw [hw2]
    have := Row.new (w.alloc (.cells #[.int .i64 a.1, ve, vl, vs] 27)) 27 [.int .i64 0, .slice none 0 0, .slice none 0 0, .slice none 0 0]
    simpa using this
  have hB : Below w.heap.size w w2 := by rw [hw2]; exact ((Below.refl _ w).alloc (Nat.le_refl _) _).alloc (by simp) _
  have hsz : w2.heap.size = w.heap.size + 2 := by rw [hw2]; simp
  go_enter Tryz.func16, Tryz.ntmps16
  go_upto_region 1 with fail
  rw [← hw2]
  clear hw2
  have HS := (show Hid (w2.heap.size = w.heap.size + 2) from hsz)
  clear hsz
  have c2 := ra.cell (j := 1) rfl
  have hC1 := cloneEntries_any w2 ve _ (h1.mv mov_ent hB.size (Mv.below hB)) z1
  have HC2 := (show Hid (∀ u, Below w.heap.size w u → Calls Tryz.prog 40 #[vl] u fun e w' => ∃ v', e = .returned v' ∧ LB OLea 75 3 u.heap.size w' v' a.2.2.1 ∧ Below u.heap.size u w') from fun u hu => cloneLeases_any u _ _ (h2.mv mov_lea hu.size (Mv.below hu)) z2)
  have HC3 := (show Hid (∀ u, Below w.heap.size w u → Calls Tryz.prog 41 #[vs, .func (.func 42) #[] #[]] u fun e w' => ∃ v', e = .returned v' ∧ LB OSes 77 4 u.heap.size w' v' a.2.2.2 ∧ Below u.heap.size u w') from fun u hu => clistN_any u _ _ (h3.mv mov_ses hu.size (Mv.below hu)) z3)
  clear h1 h2 h3 z1 z2 z3
  go_upto_region 2 with (first
    | (go_at_call 39; refine hC1.mono ?_; rintro e w3 ⟨v3, rfl, f3, hb3⟩; have ra3 := ra.below hb3)
    | (refine wl_set rfl _ _ _ rfl w.heap.size 1 _ rfl rfl _ _ ra3 (show 1 < 4 by decide) (by kernel_rfl) f3.form ?_; intro w4 ra4 hg4))
  have ra4 : Row w4 w.heap.size 27 [.int .i64 a.1, v3, vl, vs] := ra4.out
  have hs2 := HS.out
  have hB3 := below_and hB (Nat.le_refl _) hb3
  have hB4 : Below w.heap.size w w4 := hB3.trans (grown_below hg4 hB3.size (fun k hk => by cases hk; exact Nat.le_refl _))
  have rr4 := (rr.below hb3).grown hg4 (fun e => by injection e with e; omega)
  have f4 : LB OEnt 73 2 (w.heap.size + 2) w4 v3 a.2.1 := (f3.weak mov_oent (by omega)).grown mov_oent hg4 (by omega)
  have hz4 : w.heap.size + 2 ≤ w4.heap.size := by have := hb3.size; have := hg4.size; omega
  have hC2 := HC2.out w4 hB4
  clear HC2 HS hs2 hC1 c2 ra3 f3 hb3 hg4 hB3 ra rr hB
  have c2 := ra4.cell (j := 2) rfl
  go_upto_region 3 with (first
    | (go_at_call 40; refine hC2.mono ?_; rintro e w5 ⟨v5, rfl, f5, hb5⟩; have ra5 := ra4.below hb5)
    | (refine wl_set rfl _ _ _ rfl w.heap.size 2 _ rfl rfl _ _ ra5 (show 2 < 4 by decide) (by kernel_rfl) f5.form ?_; intro w6 ra6 hg6))
  have ra6 : Row w6 w.heap.size 27 [.int .i64 a.1, v3, v5, vs] := ra6.out
  have hB5 := below_and hB4 (Nat.le_refl _) hb5
  have hB6 : Below w.heap.size w w6 := hB5.trans (grown_below hg6 hB5.size (fun k hk => by cases hk; exact Nat.le_refl _))
  have rr6 := (rr4.below hb5).grown hg6 (fun e => by injection e with e; omega)
  have f6 := (f4.below mov_oent hb5).grown mov_oent hg6 (by omega)
  have g6 : LB OLea 75 3 (w.heap.size + 2) w6 v5 a.2.2.1 := (f5.weak mov_olea (by omega)).grown mov_olea hg6 (by omega)
  have hz6 : w.heap.size + 2 ≤ w6.heap.size := by have := hb5.size; have := hg6.size; omega
  have hC3 := HC3.out w6 hB6
  clear HC3 hC2 c2 ra5 f5 hb5 hg6 hB5 ra4 rr4 hB4 f4 hz4
  have c2 := ra6.cell (j := 3) rfl
  go_upto_region 4 with (first
    | (go_at_call 41; refine hC3.mono ?_; rintro e w7 ⟨v7, rfl, f7, hb7⟩; have ra7 := ra6.below hb7)
    | (refine wl_set rfl _ _ _ rfl w.heap.size 3 _ rfl rfl _ _ ra7 (show 3 < 4 by decide) (by kernel_rfl) f7.form ?_; intro w8 ra8 hg8))
  have ra8 : Row w8 w.heap.size 27 [.int .i64 a.1, v3, v5, v7] := ra8.out
  have hB7 := below_and hB6 (Nat.le_refl _) hb7
  have hB8 : Below w.heap.size w w8 := hB7.trans (grown_below hg8 hB7.size (fun k hk => by cases hk; exact Nat.le_refl _))
  have rr8 := (rr6.below hb7).grown hg8 (fun e => by injection e with e; omega)
  have f8 := (f6.below mov_oent hb7).grown mov_oent hg8 (by omega)
  have g8 := (g6.below mov_olea hb7).grown mov_olea hg8 (by omega)
  have i8 : LB OSes 77 4 (w.heap.size + 2) w8 v7 a.2.2.2 := (f7.weak mov_oses (by omega)).grown mov_oses hg8 (by omega)
  clear hC3 c2 ra7 f7 hb7 hg8 hB7 ra6 rr6 hB6 f6 g6
  go_wp2_with (first
    | (refine wl_load rfl _ _ rfl w.heap.size rfl _ _ ra8 _ Tryz.underlying27 rfl (by kernel_rfl) ?_)
    | (refine wl_store rfl _ _ _ rfl (w.heap.size + 1) [.int .i64 a.1, v3, v5, v7] rfl rfl _ _ rr8 rfl (by kernel_rfl) (onA4 f8.form g8.form i8.form) ?_; intro w9 hr9 hg9))
  refine bodyPost_ret (v := .agg ([.int .i64 a.1, v3, v5, v7] : List Value).toArray) (results_cell_row rfl _ _ (w.heap.size + 1) _ _ (0, 0) _ (by rfl) hr9.out Tryz.underlying27 rfl (by kernel_rfl)) rfl ?_
  exact ⟨_, rfl, ⟨_, _, _, rfl, f8.grown mov_oent hg9 (by omega), g8.grown mov_olea hg9 (by omega), i8.grown mov_oses hg9 (by omega)⟩, hB8.trans (grown_below hg9 hB8.size (fun k hk => by cases hk; omega))⟩
end Go.Proofs.YteafgdidjdfiiaaGreat
end

section
set_option linter.unusedVariables false
set_option linter.unusedSimpArgs false
namespace Go.Proofs.YteafgdidjdfiiaaGreat
open Go.RowKit Oct Kvl

theorem own_row_nU {w : World} {b : Nat} {t : TypeId} {e : TypeId} {xs ys : List Value} {v : Value} (h : Row w b t xs) (ho : Own w e v ys) (ht : t ≠ e) : v.ownBlock ≠ some b := by
  intro hk
  rcases ho.2 with ⟨rfl, _⟩ | ⟨g, _, cur, rfl, _, hg, _⟩
  · simp [Value.ownBlock] at hk
  · simp [Value.ownBlock] at hk
    subst hk
    unfold Row at h
    rw [h] at hg
    simp at hg
    exact ht hg.2
theorem own_oneU {w : World} {e : TypeId} {v : Value} {xs : List Value} (h : Own w e v xs) : v.oneCell' = true := by
  obtain ⟨ao, cap, rfl, _⟩ := h.form; rfl
/-- Rows of other things than bytes stay, but for one. -/
def Kpt (b : Nat) (w w' : World) : Prop := ∀ k t xs, t ≠ 5 → k ≠ b → Row w k t xs → Row w' k t xs
theorem Kpt.refl (b : Nat) (w : World) : Kpt b w w := fun _ _ _ _ _ h => h
theorem Kpt.trans {b : Nat} {w w1 w2 : World} (h : Kpt b w w1) (h' : Kpt b w1 w2) : Kpt b w w2 := fun k t xs ht hk hr => h' k t xs ht hk (h k t xs ht hk hr)
theorem Kpt.below {b : Nat} {w w' : World} (h : Below w.heap.size w w') : Kpt b w w' := fun _ _ _ _ _ hr => hr.below h
theorem Kpt.set {b : Nat} {w w' : World} (h : w.grownBy w' (some b)) : Kpt b w w' := fun k t xs _ hk hr => hr.grown h (fun e => by injection e with e; exact hk e.symm)
theorem Kpt.app {b : Nat} {w w' : World} {v v' : Value} {xs ys : List Value} (ho : Own w 5 v xs) (h : App w 5 v w' v' ys) : Kpt b w w' := fun k t zs ht _ hr => hr.grown h.grown (own_row_nU hr ho ht)
/-- The text that is being written: it stands in box b, its bytes from block B on. -/
def OB (B b : Nat) (w : World) (l : List Int) : Prop := ∃ v, Row w b 28 [v] ∧ Own w 5 v (bc l) ∧ Fr B v ∧ B ≤ b ∧ B ≤ w.heap.size
theorem OB.below {B b : Nat} {w w' : World} {l : List Int} (h : OB B b w l) (hb : Below w.heap.size w w') : OB B b w' l := by
  obtain ⟨v, h1, h2, h3, h4, h5⟩ := h
  exact ⟨v, h1.below hb, h2.below hb, h3, h4, Nat.le_trans h5 hb.size⟩
/-- A row beside it is written. -/
theorem OB.grown {B b : Nat} {w w' : World} {l : List Int} (h : OB B b w l) {k : Nat} {t : TypeId} {xs : List Value} (hg : w.grownBy w' (some k)) (hr : Row w k t xs) (ht : t ≠ 5) (hk : k ≠ b) : OB B b w' l := by
  obtain ⟨v, h1, h2, h3, h4, h5⟩ := h
  exact ⟨v, h1.grown hg (fun e => by injection e with e; exact hk e), h2.grown hg (fun j hj => by cases hj; exact own_row_nU hr h2 ht), h3, h4, Nat.le_trans h5 hg.size⟩
theorem OB.put {B b : Nat} {w w1 w2 : World} {l m : List Int} {v v1 : Value} (h1 : Row w b 28 [v]) (h2 : Own w 5 v (bc l)) (h3 : Fr B v) (h4 : B ≤ b) (h5 : B ≤ w.heap.size) (ha : App w 5 v w1 v1 (bc m)) (hr2 : Row w2 b 28 [v1]) (hg2 : w1.grownBy w2 (some b)) :
    OB B b w2 m ∧ Below B w w2 ∧ Kpt b w w2 := by
  have hne := own_row_nU h1 h2 (by decide)
  have h11 := h1.grown ha.grown hne
  have hs := Nat.le_trans h5 ha.grown.size
  exact ⟨⟨v1, hr2, ha.own.grown hg2 (fun j hj => by cases hj; exact own_row_nU h11 ha.own (by decide)), ha.fr h3 h5, h4, Nat.le_trans hs hg2.size⟩, (ha.below h3 h5).trans (grown_below hg2 hs (fun k hk => by cases hk; exact h4)), (Kpt.app h2 ha).trans (Kpt.set hg2)⟩

set_option maxRecDepth 10000 in
set_option maxHeartbeats 800000 in
theorem encNum_any (B b : Nat) (w : World) (l : List Int) (n : Int) (h : OB B b w l) (hl : l.length ≤ 1000000) :
    Calls Tryz.prog 24 #[.int .i64 n, .pointer (some ⟨b, 0, none⟩)] w fun e w' => e = .returned (.tuple #[]) ∧ OB B b w' (l ++ outI n) ∧ Below B w w' ∧ Kpt b w w' := by
  obtain ⟨v, hr, hown, hfr, hb, hB⟩ := h
  have hone := own_oneU hown
  have hI := int_any w n
  have hle := outI_len n
  have HL := (show Hid (l.length + (outI n).length ≤ 140737488355328) by show _ ≤ _; omega)
  clear hle hl
  go_enter Tryz.func24, Tryz.ntmps24
  go_wp2_with (first
    | (go_at_call 25; refine hI.mono ?_; rintro e w1 ⟨v1, rfl, hown1, hfr1, hb1⟩; have hr1 := hr.below hb1; have ho1 := hown.below hb1; have c0 := hr1.cell (j := 0) rfl)
    | (at_builtin; refine app_bytes rfl _ _ rfl _ l rfl ho1 _ (outI n) rfl hown1.rdv HL.out ?_; intro v2 w2 happ; have hrw := hr1.grown happ.grown (own_row_nU hr1 ho1 (by decide)))
    | (refine wl_set rfl _ _ _ rfl b 0 _ rfl rfl _ _ hrw (show 0 < 1 by decide) (by kernel_rfl) (own_oneU happ.own) ?_; intro w3 hr3 hg3))
  go_end0
  obtain ⟨p1, p2, p3⟩ := OB.put hr1 ho1 hfr hb (Nat.le_trans hB hb1.size) happ hr3.out hg3
  exact ⟨rfl, p1, (hb1.mono hB).trans p2, (Kpt.below hb1).trans p3⟩

set_option maxRecDepth 10000 in
set_option maxHeartbeats 800000 in
theorem encText_any (B b : Nat) (w : World) (l : List Int) (p : Value) (t : List Int) (h : OB B b w l) (hp : Rd w p t) (hl : l.length ≤ 1000000) (ht : t.length ≤ 1000000) :
    Calls Tryz.prog 26 #[p, .pointer (some ⟨b, 0, none⟩)] w fun e w' => e = .returned (.tuple #[]) ∧ OB B b w' (l ++ (enc t.length ++ t)) ∧ Below B w w' ∧ Kpt b w w' := by
  obtain ⟨v, hr, hown, hfr, hb, hB⟩ := h
  obtain ⟨ap, cp, rfl, hcp⟩ := hp.2.form
  obtain ⟨av, cv, rfl, hcv⟩ := hown.form
  rw [bc_len] at hp
  have hdw : Below w.heap.size w w.drew := ⟨rfl, rfl, rfl, Nat.le_refl _, fun _ _ => rfl⟩
  have HI := (show Hid (∀ u, Below w.heap.size w u → Calls Tryz.prog 27 #[.slice ap t.length cp] u fun e w' => ∃ v', e = .returned v' ∧ Own w' 5 v' (bc (enc t.length ++ t)) ∧ Fr u.heap.size v' ∧ Below u.heap.size u w' ∧ Below w.heap.size w w') from fun u hu => (bytes_any u _ t (hp.below hu) (by omega)).mono fun e w' ⟨v', e1, e2, e3, e4⟩ => ⟨v', e1, e2, e3, e4, below_and hu (Nat.le_refl _) e4⟩)
  have SK := (show Hid (∀ u, Below w.heap.size w u → Row u b 28 [.slice av (bc l).length cv] ∧ Own u 5 (.slice av (bc l).length cv) (bc l)) from fun u hu => ⟨hr.below hu, hown.below hu⟩)
  have HL := (show Hid (l.length + (enc t.length ++ t).length ≤ 140737488355328) by show _ ≤ _; have := enc_len (t.length : Int); rw [List.length_append]; omega)
  have c00 := hr.cell (j := 0) rfl
  have c01 := (hr.below hdw).cell (j := 0) rfl
  rw [bc_len] at *
  clear hl ht
  go_enter Tryz.func26, Tryz.ntmps26
  go_wp2_with fail
  go_region_law (first
    | (refine step_bytes (by rfl) _ _ (by rfl) (.slice av l.length cv) l (by rfl) ho1 v1 (enc t.length ++ t) (by rfl) hown1.rdv HL.out ?_; intro v2 w2 happ; obtain ⟨a2, c2, e2, hc2⟩ := happ.own.form; subst e2; have hrw := hr1.grown happ.grown (own_row_nU hr1 ho1 (by decide)); have d0 := hrw.cell (j := 0) rfl; have z0 := hrw.frozen 0)
    | (go_simp; go_at_call 27; refine (HI.out _ (by first | (with_reducible exact hdw) | (with_reducible exact Below.refl _ _))).mono ?_; rintro e w1 ⟨v1, rfl, hown1, hfr1, hb1', hb1⟩; obtain ⟨hr1, ho1⟩ := SK.out w1 hb1; have c0 := hr1.cell (j := 0) rfl))
  all_goals (
    go_wp2_with fail
    go_end0
    obtain ⟨p1, p2, p3⟩ := OB.put hr1 ho1 hfr hb (Nat.le_trans hB hb1.size) happ (hrw.set 0 _) (grown_set _ b 0 _)
    exact ⟨rfl, p1, (hb1.mono hB).trans p2, (Kpt.below hb1).trans p3⟩)
end Go.Proofs.YteafgdidjdfiiaaGreat
end

section
set_option linter.unusedVariables false
set_option linter.unusedSimpArgs false
namespace Go.Proofs.YteafgdidjdfiiaaGreat
open Go.RowKit Oct Kvl

theorem RL.each {α : Type} {R : (Nat → Prop) → World → List Value → α → Prop} (hR : Mov R) {k : Nat} {w : World} {v : Value} {ys : List α} (h : RL R k Any w v ys) : ∀ (q : Nat) (y : α), ys[q]? = some y →
    ∃ bb off cap, v = .slice (some ⟨bb, off, none⟩) ys.length cap ∧ cap ≤ maxLen ∧ ys.length ≤ cap ∧ ∃ r, R Any w r y ∧ ∀ u, Below w.heap.size w u → u.rangeAt bb (off + q * k) r ∧ R Any u r y := fun q y hy => by
  have hl : 0 < ys.length := by have := (List.getElem?_eq_some_iff.1 hy).1; omega
  obtain ⟨bb, off, cap, e, hc, hm, _, hb, hx'⟩ := h.at hl
  obtain ⟨r, _, hr, hR'⟩ := hx' q y hy
  exact ⟨bb, off, cap, e, hm, hc, r, hR', fun u hu => ⟨rangeAt_block hr (hu.block bb hb), hR _ _ _ _ _ _ hR' hu.size (Mv.below hu)⟩⟩
theorem RApp.wfA {w : World} {G : Nat → Prop} {r : List Value} {a : PApp} (h : RApp G w r a) : Kvl.wfA a := by
  refine ⟨fun e he => ?_, h.wf⟩
  obtain ⟨_, _, _, _, _, h2, _⟩ := h
  obtain ⟨rows, _, hall⟩ := h2
  obtain ⟨i, hi, rfl⟩ := List.getElem_of_mem he
  have hl := hall.len
  obtain ⟨_, p, q, _, _, h3⟩ := hall.get (List.getElem?_eq_getElem (by omega : i < rows.length)) (List.getElem?_eq_getElem hi)
  exact ⟨p, q, h3⟩
theorem OB.ltB {B b : Nat} {w : World} {l : List Int} (h : OB B b w l) : b < w.heap.size := by
  obtain ⟨v, h1, _⟩ := h
  exact h1.lt
theorem OB.sizeB {B b : Nat} {w : World} {l : List Int} (h : OB B b w l) : B ≤ w.heap.size := by
  obtain ⟨v, _, _, _, _, h1⟩ := h
  exact h1
theorem Row.belB {w w' : World} {B k : Nat} {t : TypeId} {xs : List Value} (h : Row w k t xs) (hb : Below B w w') (hk : k < B) : Row w' k t xs := (hb.block k hk).trans h
theorem takeLen {α : Type} {l : List α} {q K N : Nat} {c : Cdc α} (L : List Int) (hL : L.length ≤ N) (hK : ∀ e ∈ l, (c.wr e).length ≤ K) (hl : l.length ≤ 64) (hN : N + 64 * K ≤ 900000) : (L ++ wrN c (l.take q)).length ≤ 900000 := by
  have h1 := wrN_len (l.take q) (fun e he => hK e (List.mem_of_mem_take he))
  have h2 : (l.take q).length ≤ 64 := by rw [List.length_take]; omega
  have h3 : (l.take q).length * K ≤ 64 * K := Nat.mul_le_mul_right _ h2
  rw [List.length_append]
  omega

set_option maxRecDepth 10000 in
set_option maxHeartbeats 8000000 in
/-- snap.Encode. -/
theorem snapEncode_any (w : World) (row : List Value) (a : PApp) (h : RApp Any w row a) :
    Calls Tryz.prog 9 #[.agg row.toArray] w fun e w' => ∃ v, e = .returned (.tuple #[v, .int .i64 (snE a)]) ∧ Own w' 5 v (bc (snB a)) ∧ Fr w.heap.size v ∧ Below w.heap.size w w' := by
  have le := Nat.le_refl w.heap.size
  have hall := h
  have hwf := h.wfA
  obtain ⟨ve, vl, vs, rfl, h1, h2, h3⟩ := h
  obtain ⟨ae, ce, rfl, hce⟩ := h1.form
  obtain ⟨al, cl, rfl, hcl⟩ := h2.form
  obtain ⟨an, cn, rfl, hcn⟩ := h3.form
  obtain ⟨w0, hw0⟩ : ∃ w0, w0 = w.alloc (.cells #[.int .i64 a.1, .slice ae a.2.1.length ce, .slice al a.2.2.1.length cl, .slice an a.2.2.2.length cn] 27) := ⟨_, rfl⟩
  have xa : Row w0 w.heap.size 27 [.int .i64 a.1, .slice ae a.2.1.length ce, .slice al a.2.2.1.length cl, .slice an a.2.2.2.length cn] := by rw [hw0]; exact Row.new w 27 _
  have B0 : Below w.heap.size w w0 := by rw [hw0]; exact below_alloc _ _
  have hR := rightA_any w0 _ a (hall.below B0)
  have hmf : ∀ (fn : Fn) (first cap : Array Value) (w : World), (Instr.makeFunc fn first cap).run Tryz.prog w = .ok (.func fn first cap) w := fun _ _ _ _ => rfl
  by_cases hg : rgtA a
  rotate_left
  · rw [show snE a = 101 from if_neg hg, show snB a = [] from if_neg hg]
    rw [decide_eq_false hg] at hR
    clear h1 h2 h3 hwf hg
    go_enter Tryz.func9, Tryz.ntmps9
    go_upto_region 1 with fail
    rw [← hw0]
    clear hw0
    go_wp2_with (first
      | (refine wl_load rfl _ _ rfl w.heap.size rfl _ _ xa _ Tryz.underlying27 rfl (by kernel_rfl) ?_)
      | (go_at_call 17; refine hR.mono ?_; rintro e w1 ⟨rfl, hb1⟩))
    go_ret2
    exact ⟨_, rfl, Own.nil _ _, Fr.nil _, below_and B0 le hb1⟩
  rw [show snE a = 0 from if_pos hg, show snB a = wrA a from if_pos hg]
  rw [decide_eq_true hg] at hR
  have HE := (show Hid (∀ (q : Nat) (y : PEnt), a.2.1[q]? = some y → ∃ bb off cap, Value.slice ae a.2.1.length ce = .slice (some ⟨bb, off, none⟩) a.2.1.length cap ∧ cap ≤ maxLen ∧ a.2.1.length ≤ cap ∧ ∃ r, REnt Any w r y ∧ ∀ u, Below w.heap.size w u → u.rangeAt bb (off + q * 2) r ∧ REnt Any u r y) from h1.each mov_ent)
  have HL := (show Hid (∀ (q : Nat) (y : PEnt), a.2.2.1[q]? = some y → ∃ bb off cap, Value.slice al a.2.2.1.length cl = .slice (some ⟨bb, off, none⟩) a.2.2.1.length cap ∧ cap ≤ maxLen ∧ a.2.2.1.length ≤ cap ∧ ∃ r, RLea Any w r y ∧ ∀ u, Below w.heap.size w u → u.rangeAt bb (off + q * 3) r ∧ RLea Any u r y) from h2.each mov_lea)
  have HN := (show Hid (∀ (q : Nat) (y : PEnt), a.2.2.2[q]? = some y → ∃ bb off cap, Value.slice an a.2.2.2.length cn = .slice (some ⟨bb, off, none⟩) a.2.2.2.length cap ∧ cap ≤ maxLen ∧ a.2.2.2.length ≤ cap ∧ ∃ r, RSes Any w r y ∧ ∀ u, Below w.heap.size w u → u.rangeAt bb (off + q * 4) r ∧ RSes Any u r y) from h3.each mov_ses)
  have HW := (show Hid (wrA a = outI a.1 ++ ((outI a.2.1.length ++ wrN (cEn 16 64) a.2.1) ++ ((outI a.2.2.1.length ++ wrN (cLe 16) a.2.2.1) ++ (outI a.2.2.2.length ++ wrN (cSe 64) a.2.2.2)))) from wrA_eq a)
  have HG := (show Hid (rgtA a) from hg)
  have HK1 := (show Hid (∀ e ∈ a.2.1, ((cEn 16 64).wr e).length ≤ 110) from fun e he => Nat.le_trans (wrE_len (hg.2.1.2.2 e he)) (by omega))
  have HK2 := (show Hid (∀ e ∈ a.2.2.1, ((cLe 16).wr e).length ≤ 110) from fun e he => Nat.le_trans (wrL_len (hg.2.2.1.2.2 e he)) (by omega))
  have HK3 := (show Hid (∀ e ∈ a.2.2.2, ((cSe 64).wr e).length ≤ 110) from fun e he => wrS_len (chk_all hg.2.2.2 e he))
  have HT1 := (show Hid (∀ e ∈ a.2.1, e.1.length ≤ 64 ∧ e.2.length ≤ 64) from fun e he => by obtain ⟨_, _, _⟩ := hg.2.1.2.2 e he; omega)
  have HT2 := (show Hid (∀ e ∈ a.2.2.1, e.1.length ≤ 64) from fun e he => by obtain ⟨⟨_, _⟩, _⟩ := hg.2.2.1.2.2 e he; omega)
  have HT3 := (show Hid (∀ e ∈ a.2.2.2, (sv e).length ≤ 64) from fun e he => by obtain ⟨_, _, _, _⟩ := chk_all hg.2.2.2 e he; omega)
  have n1 : a.2.1.length ≤ 64 := hg.2.1.1
  have n2 : a.2.2.1.length ≤ 64 := by have := hg.2.2.1.1; omega
  have n3 : a.2.2.2.length ≤ 64 := by have := rgn_len hg.2.2.2; omega
  generalize wrA a = WA at *
  obtain ⟨slot, es, ls, ss⟩ := a
  dsimp only at *
  obtain ⟨N1, hN1⟩ : ∃ N1, N1 = es.length := ⟨_, rfl⟩
  obtain ⟨N2, hN2⟩ : ∃ N2, N2 = ls.length := ⟨_, rfl⟩
  obtain ⟨N3, hN3⟩ : ∃ N3, N3 = ss.length := ⟨_, rfl⟩
  simp only [← hN1, ← hN2, ← hN3] at hw0 xa hR HE HL HN HW n1 n2 n3 ⊢
  have HN1 := (show Hid (N1 = es.length) from hN1)
  have HN2 := (show Hid (N2 = ls.length) from hN2)
  have HN3 := (show Hid (N3 = ss.length) from hN3)
  clear h1 h2 h3 hg hwf hall hN1 hN2 hN3 hce hcl hcn
  go_enter Tryz.func9, Tryz.ntmps9
  go_upto_region 1 with fail
  rw [← hw0]
  clear hw0
  go_upto_region 3 with (first
    | (refine wl_load rfl _ _ rfl w.heap.size rfl _ _ xa _ Tryz.underlying27 rfl (by kernel_rfl) ?_)
    | (go_at_call 17; refine hR.mono ?_; rintro e w1 ⟨rfl, hb1⟩))
  have xa := xa.below hb1
  have B1 := below_and B0 le hb1
  clear hb1 hR B0
  go_upto_region 4 with fail
  obtain ⟨w2, hw2⟩ : ∃ w2, w2 = w1.alloc (.cells #[.slice none 0 0] 28) := ⟨_, rfl⟩
  rw [← hw2]
  have hO : OB w1.heap.size w1.heap.size w2 [] := ⟨.slice none 0 0, by rw [hw2]; exact Row.new w1 28 [.slice none 0 0], Own.nil _ _, Fr.nil _, Nat.le_refl _, by rw [hw2]; simp⟩
  have hb2 : Below w1.heap.size w1 w2 := by rw [hw2]; exact below_alloc _ _
  have B2 := below_and B1 le hb2
  have hlt := xa.lt
  have xa := xa.below hb2
  have hBB : w.heap.size ≤ w1.heap.size := B1.size
  clear hw2 hb2 B1
  generalize w1.heap.size = B at hO hlt hBB ⊢
  have hO' : OB B B w2 [] := hO
  clear hO
  have HX := (show Hid (∀ u, Below B w2 u → Row u w.heap.size 27 [.int .i64 slot, .slice ae N1 ce, .slice al N2 cl, .slice an N3 cn] ∧ Below w.heap.size w u) from fun u hu => ⟨xa.belB hu hlt, B2.trans (hu.mono hBB)⟩)
  clear xa B2 hlt
  have c0 := (HX.out w2 (Below.refl _ _)).1.cell (j := 0) rfl
  have hC := encNum_any B B w2 [] slot hO' (by simp)
  go_upto_region 7 with (go_at_call 24; refine hC.mono ?_; rintro e w3 ⟨rfl, hO3, hb3, hk3⟩)
  rw [List.nil_append] at hO3
  have c1 := (HX.out w3 hb3).1.cell (j := 1) rfl
  have hC := encNum_any B B w3 _ (N1 : Int) hO3 (by have := outI_len slot; omega)
  clear c0 hO' hk3
  go_upto_region 8 with (go_at_call 24; refine hC.mono ?_; rintro e w4 ⟨rfl, hO4, hb4, hk4⟩)
  have hb24 : Below B w2 w4 := hb3.trans hb4
  obtain ⟨L1, hL1⟩ : ∃ L1, L1 = outI slot ++ outI (N1 : Int) := ⟨_, rfl⟩
  have HL1 := (show Hid (L1 = outI slot ++ outI (N1 : Int)) from hL1)
  have g1 : L1.length ≤ 20 := by have := outI_len slot; have := outI_len (N1 : Int); rw [hL1, List.length_append]; omega
  rw [← hL1] at hO4
  clear c1 hC hO3 hk4 hb3 hb4 hL1
  have c1 := (HX.out w4 hb24).1.cell (j := 1) rfl
  go_wp2_with fail
  go_loopw [30] (fun i wr => ∃ q : Nat, q ≤ N1 ∧ i = .int .i64 q ∧ OB B B wr (L1 ++ wrN (cEn 16 64) (es.take q)) ∧ Below B w2 wr) (fun i _ => N1 - (intOf i).toNat)
  case atStart => exact ⟨0, Nat.zero_le _, rfl, by simpa [wrN] using hO4, hb24⟩
  case round =>
    clear hO4 c1
    obtain ⟨q, hq, rfl, hO, hbr⟩ := hrel
    obtain ⟨xr, Br⟩ := HX.out wr hbr
    by_cases hql : q < N1
    · obtain ⟨y, hy⟩ : ∃ y, es[q]? = some y := ⟨_, List.getElem?_eq_getElem (by have := HN1.out; omega)⟩
      obtain ⟨bb, off, cap, e, hcm, hcn, rw0, HR0, HR⟩ := HE.out q y hy
      injection e with e1 e2 e3
      subst e1 e3
      clear e2
      have hym := List.mem_of_getElem? hy
      have HA := (show Hid (∀ X, X = (cEn 16 64).wr y → (L1 ++ wrN (cEn 16 64) (es.take q)) ++ X = L1 ++ wrN (cEn 16 64) (es.take (q + 1))) from fun X hX => by rw [wrN_take (cEn 16 64) hy, hX, List.append_assoc])
      have hlen : (L1 ++ wrN (cEn 16 64) (es.take q)).length ≤ 900000 := takeLen L1 g1 HK1.out (by have := HN1.out; omega) (by omega)
      obtain ⟨s, t, rfl, hs, ht⟩ := HR0
      have HRR := (show Hid (∀ u, Below w.heap.size w u → RT Any u s y.1 ∧ RT Any u t y.2) from fun u hu => by obtain ⟨_, s2, t2, e, p1, p2⟩ := HR u hu; injection e with e1 e; injection e with e2 _; subst e1 e2; exact ⟨p1, p2⟩)
      have hrng := (HR wr Br).1
      have hone : ∀ x ∈ ([s, t] : List Value), x.oneCell' = true := (by intro x hx; simp only [List.mem_cons, List.not_mem_nil, or_false] at hx; rcases hx with rfl | rfl; exact hs.one; exact ht.one)
      have hrow0 := Row.new wr 73 [.slice none 0 0, .slice none 0 0]
      have hqi : (q : Int) < (N1 : Int) := by omega
      have hltr := hO.ltB
      clear HR hy
      go_upto_region 11 with (first
        | (refine wpList_load_mid rfl _ _ rfl bb (off + q * 2) rfl [s, t] _ hrng Tryz.underlying73 rfl (by kernel_rfl) ?_)
        | (refine wl_store rfl _ _ _ rfl wr.heap.size [s, t] rfl rfl _ _ hrow0 rfl (by kernel_rfl) hone ?_; intro w5 hr5 hg5))
      have hr5 := hr5.out
      have hb5 : Below wr.heap.size wr w5 := (below_alloc wr (.cells ([.slice none 0 0, .slice none 0 0] : List Value).toArray 73)).trans (grown_below hg5 (by simp) (fun k hk => by cases hk; exact Nat.le_refl _))
      have hO5 := hO.below hb5
      have hB5 : Below B w2 w5 := hbr.trans (hb5.mono hO.sizeB)
      obtain ⟨gb, hgb⟩ : ∃ gb, gb = wr.heap.size := ⟨_, rfl⟩
      rw [← hgb] at hr5 hltr ⊢
      have hne : gb ≠ B := Nat.ne_of_gt hltr
      clear hrng hone hrow0 hg5 hgb hb5 hO hltr xr Br
      have c0' := hr5.cell (j := 0) rfl
      have hC := encText_any B B w5 _ s _ hO5 (HRR.out w5 (HX.out w5 hB5).2).1.1 (by simp only [List.length_append] at *; omega) (Nat.le_trans ((HT1.out y hym).1) (by omega))
      go_upto_region 12 with (go_at_call 26; refine hC.mono ?_; rintro e w6 ⟨rfl, hO6, hb6, hk6⟩)
      have hB6 := hB5.trans hb6
      have hr6 := hk6 _ _ _ (by decide) hne hr5
      clear c0' hC hO5 hb6 hk6 hr5
      have c1' := hr6.cell (j := 1) rfl
      have hC := encText_any B B w6 _ t _ hO6 (HRR.out w6 (HX.out w6 hB6).2).2.1 (by simp only [List.length_append] at *; have := enc_len ((y.1.length : Int)); have := (HT1.out y hym).1; omega) (Nat.le_trans ((HT1.out y hym).2) (by omega))
      go_upto_region 13 with (go_at_call 26; refine hC.mono ?_; rintro e w7 ⟨rfl, hO7, hb7, hk7⟩)
      have hB7 := hB6.trans hb7
      have hr7 := hk7 _ _ _ (by decide) hne hr6
      clear c1' hC hO6 hb7 hk7 hr6
      have hOz : OB B B w7 (L1 ++ wrN (cEn 16 64) (es.take (q + 1))) := by
        rw [← HA.out ((enc y.1.length ++ y.1) ++ (enc y.2.length ++ y.2)) rfl]
        simpa only [List.append_assoc] using hO7
      go_wp2_with fail
      go_roundw
      case rel => exact ⟨q + 1, by omega, by go_num, hOz, hB7⟩
      case measure => simp [intOf]; omega
    · have hqd : decide ((q : Int) < N1) = false := by simp; omega
      rw [List.take_of_length_le (by have := HN1.out; omega)] at hO
      have c2' := xr.cell (j := 2) rfl
      have hlen := takeLen (l := es) (q := es.length) (c := (cEn 16 64)) L1 g1 HK1.out (by have := HN1.out; omega) (by omega)
      rw [List.take_length] at hlen
      have hC := encNum_any B B wr _ (N2 : Int) hO (by omega)
      go_upto_region 15 with (go_at_call 24; refine hC.mono ?_; rintro e w14 ⟨rfl, hO4, hb4, hk4⟩)
      have hb24 := hbr.trans hb4
      obtain ⟨L2, hL1⟩ : ∃ L, L = (L1 ++ wrN (cEn 16 64) es) ++ outI (N2 : Int) := ⟨_, rfl⟩
      have HL2 := (show Hid (L2 = (L1 ++ wrN (cEn 16 64) es) ++ outI (N2 : Int)) from hL1)
      have g2 : L2.length ≤ 8000 := by
        have := outI_len (N2 : Int)
        have hw := wrN_len es HK1.out
        have := HN1.out
        have hm : es.length * 110 ≤ 64 * 110 := Nat.mul_le_mul_right _ (by omega)
        rw [hL1, List.length_append, List.length_append]
        omega
      rw [← hL1] at hO4
      clear c2' hC hO hk4 hb4 hL1 hlen xr Br hbr
      have c1 := (HX.out w14 hb24).1.cell (j := 2) rfl
      go_wp2_with fail
      go_loopw [51] (fun i wr => ∃ q : Nat, q ≤ N2 ∧ i = .int .i64 q ∧ OB B B wr (L2 ++ wrN (cLe 16) (ls.take q)) ∧ Below B w2 wr) (fun i _ => N2 - (intOf i).toNat)
      case atStart => exact ⟨0, Nat.zero_le _, rfl, by simpa [wrN] using hO4, hb24⟩
      case round =>
        clear hO4 c1
        obtain ⟨q, hq, rfl, hO, hbr⟩ := hrel
        obtain ⟨xr, Br⟩ := HX.out wr hbr
        by_cases hql : q < N2
        · obtain ⟨y, hy⟩ : ∃ y, ls[q]? = some y := ⟨_, List.getElem?_eq_getElem (by have := HN2.out; omega)⟩
          obtain ⟨bb, off, cap, e, hcm, hcn, rw0, HR0, HR⟩ := HL.out q y hy
          injection e with e1 e2 e3
          subst e1 e3
          clear e2
          have hym := List.mem_of_getElem? hy
          have HA := (show Hid (∀ X, X = (cLe 16).wr y → (L2 ++ wrN (cLe 16) (ls.take q)) ++ X = L2 ++ wrN (cLe 16) (ls.take (q + 1))) from fun X hX => by rw [wrN_take (cLe 16) hy, hX, List.append_assoc])
          have hlen : (L2 ++ wrN (cLe 16) (ls.take q)).length ≤ 900000 := takeLen L2 g2 HK2.out (by have := HN2.out; omega) (by omega)
          obtain ⟨s, p, q', rfl, hs, hpq⟩ := HR0
          have HRR := (show Hid (∀ u, Below w.heap.size w u → RT Any u s y.1) from fun u hu => by obtain ⟨_, s2, p2, q2, e, p1, _⟩ := HR u hu; injection e with e1 e; subst e1; exact p1)
          have hrng := (HR wr Br).1
          have hone : ∀ x ∈ ([s, .int .i64 p, .int .i64 q'] : List Value), x.oneCell' = true := (by intro x hx; simp only [List.mem_cons, List.not_mem_nil, or_false] at hx; rcases hx with rfl | rfl | rfl; exact hs.one; rfl; rfl)
          have hrow0 := Row.new wr 75 [.slice none 0 0, .int .i64 0, .int .i64 0]
          have hqi : (q : Int) < (N2 : Int) := by omega
          have hltr := hO.ltB
          clear HR hy
          go_upto_region 18 with (first
            | (refine wpList_load_mid rfl _ _ rfl bb (off + q * 3) rfl [s, .int .i64 p, .int .i64 q'] _ hrng Tryz.underlying75 rfl (by kernel_rfl) ?_)
            | (refine wl_store rfl _ _ _ rfl wr.heap.size [s, .int .i64 p, .int .i64 q'] rfl rfl _ _ hrow0 rfl (by kernel_rfl) hone ?_; intro w5 hr5 hg5))
          have hr5 := hr5.out
          have hb5 : Below wr.heap.size wr w5 := (below_alloc wr (.cells ([.slice none 0 0, .int .i64 0, .int .i64 0] : List Value).toArray 75)).trans (grown_below hg5 (by simp) (fun k hk => by cases hk; exact Nat.le_refl _))
          have hO5 := hO.below hb5
          have hB5 : Below B w2 w5 := hbr.trans (hb5.mono hO.sizeB)
          obtain ⟨gb, hgb⟩ : ∃ gb, gb = wr.heap.size := ⟨_, rfl⟩
          rw [← hgb] at hr5 hltr ⊢
          have hne : gb ≠ B := Nat.ne_of_gt hltr
          clear hrng hone hrow0 hg5 hgb hb5 hO hltr xr Br
          have c0' := hr5.cell (j := 0) rfl
          have hC := encText_any B B w5 _ s _ hO5 (HRR.out w5 (HX.out w5 hB5).2).1 (by simp only [List.length_append] at *; omega) (Nat.le_trans (HT2.out y hym) (by omega))
          go_upto_region 19 with (go_at_call 26; refine hC.mono ?_; rintro e w6 ⟨rfl, hO6, hb6, hk6⟩)
          have hB6 := hB5.trans hb6
          have hr6 := hk6 _ _ _ (by decide) hne hr5
          clear c0' hC hO5 hb6 hk6 hr5
          have c1' := hr6.cell (j := 1) rfl
          have hC := encNum_any B B w6 _ p hO6 (by simp only [List.length_append] at *; have := enc_len ((y.1.length : Int)); have := HT2.out y hym; omega)
          go_upto_region 20 with (go_at_call 24; refine hC.mono ?_; rintro e w7 ⟨rfl, hO7, hb7, hk7⟩)
          have hB7 := hB6.trans hb7
          have hr7 := hk7 _ _ _ (by decide) hne hr6
          clear c1' hC hO6 hb7 hk7 hr6
          have c2' := hr7.cell (j := 2) rfl
          have hC := encNum_any B B w7 _ q' hO7 (by simp only [List.length_append] at *; have := enc_len ((y.1.length : Int)); have := HT2.out y hym; have := outI_len p; omega)
          go_upto_region 21 with (go_at_call 24; refine hC.mono ?_; rintro e w8 ⟨rfl, hO8, hb8, hk8⟩)
          have hB8 := hB7.trans hb8
          have hr8 := hk8 _ _ _ (by decide) hne hr7
          clear c2' hC hO7 hb8 hk8 hr7
          have hOz : OB B B w8 (L2 ++ wrN (cLe 16) (ls.take (q + 1))) := by
            rw [← HA.out ((enc y.1.length ++ y.1) ++ (outI p ++ outI q')) (by rw [wrL_eq, hpq]; rfl)]
            simpa only [List.append_assoc] using hO8
          go_wp2_with fail
          go_roundw
          case rel => exact ⟨q + 1, by omega, by go_num, hOz, hB8⟩
          case measure => simp [intOf]; omega
        · have hqd : decide ((q : Int) < N2) = false := by simp; omega
          rw [List.take_of_length_le (by have := HN2.out; omega)] at hO
          have c2' := xr.cell (j := 3) rfl
          have hlen := takeLen (l := ls) (q := ls.length) (c := (cLe 16)) L2 g2 HK2.out (by have := HN2.out; omega) (by omega)
          rw [List.take_length] at hlen
          have hC := encNum_any B B wr _ (N3 : Int) hO (by omega)
          go_upto_region 23 with (go_at_call 24; refine hC.mono ?_; rintro e w24 ⟨rfl, hO4, hb4, hk4⟩)
          have hb24 := hbr.trans hb4
          obtain ⟨L3, hL1⟩ : ∃ L, L = (L2 ++ wrN (cLe 16) ls) ++ outI (N3 : Int) := ⟨_, rfl⟩
          have HL3 := (show Hid (L3 = (L2 ++ wrN (cLe 16) ls) ++ outI (N3 : Int)) from hL1)
          have g3 : L3.length ≤ 16000 := by
            have := outI_len (N3 : Int)
            have hw := wrN_len ls HK2.out
            have := HN2.out
            have hm : ls.length * 110 ≤ 64 * 110 := Nat.mul_le_mul_right _ (by omega)
            rw [hL1, List.length_append, List.length_append]
            omega
          rw [← hL1] at hO4
          clear c2' hC hO hk4 hb4 hL1 hlen xr Br hbr
          have c1 := (HX.out w24 hb24).1.cell (j := 3) rfl
          go_wp2_with fail
          go_loopw [76] (fun i wr => ∃ q : Nat, q ≤ N3 ∧ i = .int .i64 q ∧ OB B B wr (L3 ++ wrN (cSe 64) (ss.take q)) ∧ Below B w2 wr) (fun i _ => N3 - (intOf i).toNat)
          case atStart => exact ⟨0, Nat.zero_le _, rfl, by simpa [wrN] using hO4, hb24⟩
          case round =>
            clear hO4 c1
            obtain ⟨q, hq, rfl, hO, hbr⟩ := hrel
            obtain ⟨xr, Br⟩ := HX.out wr hbr
            by_cases hql : q < N3
            · obtain ⟨y, hy⟩ : ∃ y, ss[q]? = some y := ⟨_, List.getElem?_eq_getElem (by have := HN3.out; omega)⟩
              obtain ⟨bb, off, cap, e, hcm, hcn, rw0, HR0, HR⟩ := HN.out q y hy
              injection e with e1 e2 e3
              subst e1 e3
              clear e2
              have hym := List.mem_of_getElem? hy
              have HA := (show Hid (∀ X, X = (cSe 64).wr y → (L3 ++ wrN (cSe 64) (ss.take q)) ++ X = L3 ++ wrN (cSe 64) (ss.take (q + 1))) from fun X hX => by rw [wrN_take (cSe 64) hy, hX, List.append_assoc])
              have hlen : (L3 ++ wrN (cSe 64) (ss.take q)).length ≤ 900000 := takeLen L3 g3 HK3.out (by have := HN3.out; omega) (by omega)
              obtain ⟨c, d, k, s, t, rfl, hs, rfl⟩ := HR0
              have HRR := (show Hid (∀ u, Below w.heap.size w u → RT Any u s t) from fun u hu => by obtain ⟨_, c2, d2, k2, s2, t2, e, p1, e2⟩ := HR u hu; simp only [List.cons.injEq, and_true] at e; obtain ⟨_, _, _, e4⟩ := e; subst e4; simp only [Prod.mk.injEq, List.cons.injEq] at e2; obtain ⟨_, _, _, e5⟩ := e2; subst e5; exact p1)
              have hrng := (HR wr Br).1
              have hone : ∀ x ∈ ([.int .i64 c, .int .i64 d, .int .i64 k, s] : List Value), x.oneCell' = true := (by intro x hx; simp only [List.mem_cons, List.not_mem_nil, or_false] at hx; rcases hx with rfl | rfl | rfl | rfl; rfl; rfl; rfl; exact hs.one)
              have hrow0 := Row.new wr 77 [.int .i64 0, .int .i64 0, .int .i64 0, .slice none 0 0]
              have hqi : (q : Int) < (N3 : Int) := by omega
              have hltr := hO.ltB
              clear HR hy
              go_upto_region 26 with (first
                | (refine wpList_load_mid rfl _ _ rfl bb (off + q * 4) rfl [.int .i64 c, .int .i64 d, .int .i64 k, s] _ hrng Tryz.underlying77 rfl (by kernel_rfl) ?_)
                | (refine wl_store rfl _ _ _ rfl wr.heap.size [.int .i64 c, .int .i64 d, .int .i64 k, s] rfl rfl _ _ hrow0 rfl (by kernel_rfl) hone ?_; intro w5 hr5 hg5))
              have hr5 := hr5.out
              have hb5 : Below wr.heap.size wr w5 := (below_alloc wr (.cells ([.int .i64 0, .int .i64 0, .int .i64 0, .slice none 0 0] : List Value).toArray 77)).trans (grown_below hg5 (by simp) (fun k hk => by cases hk; exact Nat.le_refl _))
              have hO5 := hO.below hb5
              have hB5 : Below B w2 w5 := hbr.trans (hb5.mono hO.sizeB)
              obtain ⟨gb, hgb⟩ : ∃ gb, gb = wr.heap.size := ⟨_, rfl⟩
              rw [← hgb] at hr5 hltr ⊢
              have hne : gb ≠ B := Nat.ne_of_gt hltr
              clear hrng hone hrow0 hg5 hgb hb5 hO hltr xr Br
              have c0' := hr5.cell (j := 0) rfl
              have hC := encNum_any B B w5 _ c hO5 (by simp only [List.length_append] at *; omega)
              go_upto_region 27 with (go_at_call 24; refine hC.mono ?_; rintro e w6 ⟨rfl, hO6, hb6, hk6⟩)
              have hB6 := hB5.trans hb6
              have hr6 := hk6 _ _ _ (by decide) hne hr5
              clear c0' hC hO5 hb6 hk6 hr5
              have c1' := hr6.cell (j := 1) rfl
              have hC := encNum_any B B w6 _ d hO6 (by simp only [List.length_append] at *; have := outI_len c; omega)
              go_upto_region 28 with (go_at_call 24; refine hC.mono ?_; rintro e w7 ⟨rfl, hO7, hb7, hk7⟩)
              have hB7 := hB6.trans hb7
              have hr7 := hk7 _ _ _ (by decide) hne hr6
              clear c1' hC hO6 hb7 hk7 hr6
              have c2' := hr7.cell (j := 2) rfl
              have hC := encNum_any B B w7 _ k hO7 (by simp only [List.length_append] at *; have := outI_len c; have := outI_len d; omega)
              go_upto_region 29 with (go_at_call 24; refine hC.mono ?_; rintro e w8 ⟨rfl, hO8, hb8, hk8⟩)
              have hB8 := hB7.trans hb8
              have hr8 := hk8 _ _ _ (by decide) hne hr7
              clear c2' hC hO7 hb8 hk8 hr7
              have c3' := hr8.cell (j := 3) rfl
              have hC := encText_any B B w8 _ s _ hO8 (HRR.out w8 (HX.out w8 hB8).2).1 (by simp only [List.length_append] at *; have := outI_len c; have := outI_len d; have := outI_len k; omega) (Nat.le_trans (HT3.out _ hym) (by omega))
              go_upto_region 30 with (go_at_call 26; refine hC.mono ?_; rintro e w9 ⟨rfl, hO9, hb9, hk9⟩)
              have hB9 := hB8.trans hb9
              have hr9 := hk9 _ _ _ (by decide) hne hr8
              clear c3' hC hO8 hb9 hk9 hr8
              have hOz : OB B B w9 (L3 ++ wrN (cSe 64) (ss.take (q + 1))) := by
                rw [← HA.out (outI c ++ (outI d ++ (outI k ++ (enc t.length ++ t)))) rfl]
                simpa only [List.append_assoc] using hO9
              go_wp2_with fail
              go_roundw
              case rel => exact ⟨q + 1, by omega, by go_num, hOz, hB9⟩
              case measure => simp [intOf]; omega
            · have hqd : decide ((q : Int) < N3) = false := by simp; omega
              rw [List.take_of_length_le (by have := HN3.out; omega)] at hO
              obtain ⟨v, hv, hown, hfr, _, _⟩ := hO
              have cv := hv.cell (j := 0) rfl
              have hown' : Own wr 5 v (bc WA) := by
                rw [HW.out]
                rw [HL3.out, HL2.out, HL1.out] at hown
                simpa only [List.append_assoc] using hown
              clear hown
              go_wp2_with fail
              go_ret2
              exact ⟨_, rfl, hown', hfr.mono hBB, Br⟩
end Go.Proofs.YteafgdidjdfiiaaGreat
end
