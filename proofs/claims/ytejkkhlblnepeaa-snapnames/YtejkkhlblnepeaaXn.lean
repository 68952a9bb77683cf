/- States in memory; the walks over package session: isNoRequest, Right; over package clone: App. -/
import Derived.Test.YtejkkhlblnepeaaXq
import Derived.Test.YtejkkhlblnepeaaLc
set_option linter.unusedVariables false
set_option linter.unusedSimpArgs false
namespace Go.Proofs.Ytejkkhlblnepeaa
open Go.RowKit Oct Kvl

/-- A state that can be read. -/
def RApp (G : Nat → Prop) (w : World) (r : List Value) (a : PApp) : Prop := ∃ ve vl vs, r = [.int .i64 a.1, ve, vl, vs] ∧ RL REnt 2 G w ve a.2.1 ∧ RL RLea 3 G w vl a.2.2.1 ∧ RL RSes 4 G w vs a.2.2.2
/-- A state of the call's own, from block B on. -/
def OApp (B : Nat) (w : World) (r : List Value) (a : PApp) : Prop := ∃ ve vl vs, r = [.int .i64 a.1, ve, vl, vs] ∧ LB OEnt 54 2 B w ve a.2.1 ∧ LB OLea 56 3 B w vl a.2.2.1 ∧ LB OSes 48 4 B w vs a.2.2.2
theorem mov_app : Mov RApp := fun _ _ _ _ _ _ h hs hm => by
  obtain ⟨ve, vl, vs, e, h1, h2, h3⟩ := h
  exact ⟨ve, vl, vs, e, h1.mv mov_ent hs hm, h2.mv mov_lea hs hm, h3.mv mov_ses hs hm⟩
theorem RApp.below {w w' : World} {r : List Value} {a : PApp} (h : RApp Any w r a) (hb : Below w.heap.size w w') : RApp Any w' r a := mov_app _ _ _ _ _ _ h hb.size (Mv.below hb)
theorem OApp.below {B : Nat} {w w' : World} {r : List Value} {a : PApp} (h : OApp B w r a) (hb : Below w.heap.size w w') : OApp B w' r a := by
  obtain ⟨ve, vl, vs, e, h1, h2, h3⟩ := h
  exact ⟨ve, vl, vs, e, h1.below mov_oent hb, h2.below mov_olea hb, h3.below mov_oses hb⟩
theorem Rn.rl {B : Nat} {w : World} {v : Value} {ys : List PEnt} (h : LB OSes 48 4 B w v ys) : RL RSes 4 Any w v ys := (h.rl mov_oses).ses.mv mov_ses (Nat.le_refl _) Mv.any
theorem Re.rl {B : Nat} {w : World} {v : Value} {ys : List PEnt} (h : LB OEnt 54 2 B w v ys) : RL REnt 2 Any w v ys := (h.rl mov_oent).ent.mv mov_ent (Nat.le_refl _) Mv.any
theorem Rz.rl {B : Nat} {w : World} {v : Value} {ys : List PEnt} (h : LB OLea 56 3 B w v ys) : RL RLea 3 Any w v ys := (h.rl mov_olea).lea.mv mov_lea (Nat.le_refl _) Mv.any
theorem OApp.app {B : Nat} {w : World} {r : List Value} {a : PApp} (h : OApp B w r a) : RApp Any w r a := by
  obtain ⟨ve, vl, vs, e, h1, h2, h3⟩ := h
  exact ⟨ve, vl, vs, e, Re.rl h1, Rz.rl h2, Rn.rl h3⟩
theorem RApp.wf {G : Nat → Prop} {w : World} {r : List Value} {a : PApp} (h : RApp G w r a) : wfN a.2.2.2 := by
  obtain ⟨ve, vl, vs, e, h1, h2, h3⟩ := h
  exact h3.wf
def szA (a : PApp) : Prop := szL 48 szE a.2.1 ∧ szL 40 szS a.2.2.1 ∧ szL 48 szN a.2.2.2
theorem onA4 {n : Int} {a b c : Value} (ha : a.oneCell' = true) (hb : b.oneCell' = true) (hc : c.oneCell' = true) : ∀ x ∈ [Value.int .i64 n, a, b, c], x.oneCell' = true := by
  intro x hx
  simp only [List.mem_cons, List.not_mem_nil, or_false] at hx
  rcases hx with rfl | rfl | rfl | rfl <;> first | assumption | rfl
theorem RApp.one {G : Nat → Prop} {w : World} {r : List Value} {a : PApp} (h : RApp G w r a) : ∀ x ∈ r, x.oneCell' = true := by
  obtain ⟨ve, vl, vs, rfl, h1, h2, h3⟩ := h
  exact onA4 h1.one h2.one h3.one


set_option maxRecDepth 10000 in
set_option maxHeartbeats 2000000 in
/-- session.Right. -/
theorem rightA_any (w : World) (r : List Value) (a : PApp) (h : RApp Any w r a) :
    Calls Try.prog 16 #[.agg r.toArray] w fun e w' => e = .returned (.bool (decide (rgtA a))) ∧ Below w.heap.size w w' := by
  obtain ⟨ve, vl, vs, rfl, h1, h2, h3⟩ := h
  obtain ⟨w0, hw0⟩ : ∃ w0, w0 = w.alloc (.cells #[.int .i64 a.1, ve, vl, vs] 27) := ⟨_, rfl⟩
  have B0 : Below w.heap.size w w0 := by rw [hw0]; exact below_alloc _ _
  have r0 : Row w0 w.heap.size 27 [.int .i64 a.1, ve, vl, vs] := by rw [hw0]; exact Row.new w 27 _
  have hW := withinN_any w0 a.1 0 1000000
  have HR1 := (show Hid (∀ u, Below w.heap.size w u → Calls Try.prog 37 #[ve] u fun e w' => e = .returned (.bool (decide (rgtL a.2.1))) ∧ Below u.heap.size u w') from fun u hu => right_any u _ _ (h1.mv mov_ent hu.size (Mv.below hu)))
  have HR2 := (show Hid (∀ u, Below w.heap.size w u → Calls Try.prog 38 #[vl] u fun e w' => e = .returned (.bool (decide (rgtS a.2.2.1))) ∧ Below u.heap.size u w') from fun u hu => rightS_any u _ _ (h2.mv mov_lea hu.size (Mv.below hu)))
  have HR3 := (show Hid (∀ u, Below w.heap.size w u → Calls Try.prog 39 #[vs] u fun e w' => e = .returned (.bool (decide (rgtN a.2.2.2))) ∧ Below u.heap.size u w') from fun u hu => rightSess_any u _ _ (h3.mv mov_ses hu.size (Mv.below hu)))
  have HD := (show Hid (decide (rgtA a) = (decide (0 ≤ a.1 ∧ a.1 ≤ 1000000) && (decide (rgtL a.2.1) && (decide (rgtS a.2.2.1) && decide (rgtN a.2.2.2))))) by
    show _ = _
    rw [Bool.eq_iff_iff]
    simp only [decide_eq_true_eq, Bool.and_eq_true]
    exact Iff.rfl)
  generalize decide (rgtA a) = d at *
  generalize decide (0 ≤ a.1 ∧ a.1 ≤ 1000000) = d0 at *
  generalize decide (rgtL a.2.1) = d1 at *
  generalize decide (rgtS a.2.2.1) = d2 at *
  generalize decide (rgtN a.2.2.2) = d3 at *
  clear h1 h2 h3
  have c0 := r0.cell (j := 0) rfl
  have c1 := r0.cell (j := 1) rfl
  cases d0 with
  | false =>
    go_enter Try.func16, Try.ntmps16
    go_upto_region 1 with fail
    rw [← hw0]
    clear hw0
    go_wp2_with (go_at_call 36; refine hW.mono ?_; rintro e w1 ⟨rfl, rfl⟩)
    go_ret
    exact ⟨ret_bool (by rw [HD.out]; rfl), B0⟩
  | true =>
    cases d1 with
    | false =>
      go_enter Try.func16, Try.ntmps16
      go_upto_region 1 with fail
      rw [← hw0]
      clear hw0
      go_wp2_with (first
        | (go_at_call 36; refine hW.mono ?_; rintro e w0 ⟨rfl, rfl⟩)
        | (go_at_call 37; refine (HR1.out _ B0).mono ?_; rintro e w1 ⟨rfl, hb1⟩))
      go_ret
      exact ⟨ret_bool (by rw [HD.out]; rfl), below_and B0 (Nat.le_refl _) hb1⟩
    | true =>
      cases d2 with
      | false =>
        go_enter Try.func16, Try.ntmps16
        go_upto_region 1 with fail
        rw [← hw0]
        clear hw0
        go_wp2_with (first
          | (go_at_call 36; refine hW.mono ?_; rintro e w0 ⟨rfl, rfl⟩)
          | (go_at_call 37; refine (HR1.out _ B0).mono ?_; rintro e w1 ⟨rfl, hb1⟩; have B1 := below_and B0 (Nat.le_refl _) hb1; have c2 := (r0.below hb1).cell (j := 2) rfl)
          | (go_at_call 38; refine (HR2.out _ B1).mono ?_; rintro e w2 ⟨rfl, hb2⟩))
        go_ret
        exact ⟨ret_bool (by rw [HD.out]; rfl), below_and B1 (Nat.le_refl _) hb2⟩
      | true =>
        go_enter Try.func16, Try.ntmps16
        go_upto_region 1 with fail
        rw [← hw0]
        clear hw0
        go_wp2_with (first
          | (go_at_call 36; refine hW.mono ?_; rintro e w0 ⟨rfl, rfl⟩)
          | (go_at_call 37; refine (HR1.out _ B0).mono ?_; rintro e w1 ⟨rfl, hb1⟩; have B1 := below_and B0 (Nat.le_refl _) hb1; have c2 := (r0.below hb1).cell (j := 2) rfl)
          | (go_at_call 38; refine (HR2.out _ B1).mono ?_; rintro e w2 ⟨rfl, hb2⟩; have B2 := below_and B1 (Nat.le_refl _) hb2; have c3 := ((r0.below hb1).below hb2).cell (j := 3) rfl)
          | (go_at_call 39; refine (HR3.out _ B2).mono ?_; rintro e w3 ⟨rfl, hb3⟩))
        go_ret
        exact ⟨ret_bool (by rw [HD.out]; rfl), below_and B2 (Nat.le_refl _) hb3⟩

end Go.Proofs.Ytejkkhlblnepeaa
