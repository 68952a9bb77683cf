/- msg.Body. -/
import Derived.Test.YtajmgpgjkalfkaaDoorLc
import Derived.Test.YtajmgpgjkalfkaaDoorLb
import Derived.Deep.QuietTactic
import Derived.BigQuiet
import Derived.Test.YtajmgpgjkalfkaaDoorOne
import Derived.Test.YtajmgpgjkalfkaaDoorY1
section
namespace Go.Proofs.YtajmgpgjkalfkaaDoor
open Go.RowKit Oct

theorem Tryd.inf_votes : (Tryd.prog.info? 53).map (fun i => (i.zero, i.size, i.bytes)) = some (some (.agg #[.int .i64 0, .slice none 0 0]), 2, 32) := by kernel_rfl
theorem Tryd.inf_ints : (Tryd.prog.info? 3).map (fun i => (i.zero, i.size, i.bytes)) = some (some (.int .i64 0), 1, 8) := by kernel_rfl
theorem Tryd.inf_reqs : (Tryd.prog.info? 31).map (fun i => (i.zero, i.size, i.bytes)) = some (some (.agg #[.int .i64 0, .int .i64 0, .slice none 0 0, .slice none 0 0]), 4, 64) := by kernel_rfl
theorem Tryd.inf_preps : (Tryd.prog.info? 97).map (fun i => (i.zero, i.size, i.bytes)) = some (some (.agg #[.int .i64 0, .int .i64 0, .int .i64 0, .int .i64 0, .int .i64 0, .slice none 0 0, .slice none 0 0, .slice none 0 0]), 8, 112) := by kernel_rfl
theorem Tryd.inf_reps : (Tryd.prog.info? 81).map (fun i => (i.zero, i.size, i.bytes)) = some (some (.agg #[.int .i64 0, .int .i64 0, .int .i64 0, .int .i64 0, .slice none 0 0, .slice none 0 0, .slice none 0 0, .slice none 0 0]), 8, 128) := by kernel_rfl
theorem len_RVote {G : Nat → Prop} {w : World} {r : List Value} {x : PVote} (h : RVote G w r x) : r.length = 2 := by obtain ⟨s, rfl, _⟩ := h; rfl
theorem len_RReq {G : Nat → Prop} {w : World} {r : List Value} {x : PReq} (h : RReq G w r x) : r.length = 4 := by obtain ⟨o, g, rfl, _⟩ := h; rfl
theorem len_RPrep {G : Nat → Prop} {w : World} {r : List Value} {x : PPrep} (h : RPrep G w r x) : r.length = 8 := by obtain ⟨o, g, c, rfl, _⟩ := h; rfl
theorem len_RRep {G : Nat → Prop} {w : World} {r : List Value} {x : PRep} (h : RRep G w r x) : r.length = 8 := by obtain ⟨d, s, p, g, rfl, _⟩ := h; rfl
end Go.Proofs.YtajmgpgjkalfkaaDoor
end

section
set_option linter.unusedVariables false
set_option linter.unusedSimpArgs false
namespace Go.Proofs.YtajmgpgjkalfkaaDoor
open Go.RowKit Oct

theorem bel_dn {B : Nat} {a w : World} (h : Below B a w) (n : Nat) : Below B a (w.drewN n) := h.trans ⟨rfl, rfl, rfl, Nat.le_refl _, fun _ _ => rfl⟩
set_option maxHeartbeats 2000000 in
/-- SameVotes, of the same votes. -/
theorem sameVotes_eq (w : World) (u v : Value) (ys : List PVote) (h1 : RL RVote 2 Any w u ys) (h2 : RL RVote 2 Any w v ys) :
    Calls Tryd.prog 30 #[u, v] w fun e w' => e = .returned (.bool true) ∧ Below w.heap.size w w' := by
  by_cases hl : 0 < ys.length
  · obtain ⟨b1, o1, c1, rfl, hc1, hm1, _, hb1, hx1⟩ := h1.at hl
    obtain ⟨b2, o2, c2, rfl, hc2, hm2, _, hb2, hx2⟩ := h2.at hl
    have H1 := (show Hid (∀ (i : Nat) (a : PVote), ys[i]? = some a → ∃ r, r.length = 2 ∧ w.rangeAt b1 (o1 + i * 2) r ∧ RVote Any w r a) from hx1)
    have H2 := (show Hid (∀ (i : Nat) (a : PVote), ys[i]? = some a → ∃ r, r.length = 2 ∧ w.rangeAt b2 (o2 + i * 2) r ∧ RVote Any w r a) from hx2)
    have hlm : (ys.length : Int) ≤ 9223372036854775807 := by unfold maxLen at hm1; omega
    clear hx1 hx2 h1 h2
    go_enter Tryd.func30, Tryd.ntmps30
    go_wp2_with fail
    go_loopw [13] (fun i wr => ∃ q : Nat, q ≤ ys.length ∧ i = .int .i64 q ∧ Below w.heap.size w wr) (fun i _ => ys.length - (intOf i).toNat)
    case atStart => exact ⟨0, by omega, rfl, Below.refl _ _⟩
    case round =>
      obtain ⟨q, hq, rfl, hB⟩ := hrel
      by_cases hql : q < ys.length
      · obtain ⟨a, ha⟩ : ∃ a, ys[q]? = some a := ⟨_, List.getElem?_eq_getElem hql⟩
        obtain ⟨r1, _, g1, s1, rfl, t1⟩ := H1.out q a ha
        obtain ⟨r2, _, g2, s2, rfl, t2⟩ := H2.out q a ha
        have d0 := rangeAt_block g1 (hB.block b1 hb1) 0 _ rfl
        have d1 := rangeAt_block g1 (hB.block b1 hb1) 1 _ rfl
        have d2 := rangeAt_block g2 (hB.block b2 hb2) 0 _ rfl
        have d3 := rangeAt_block g2 (hB.block b2 hb2) 1 _ rfl
        simp only [Nat.add_zero] at d0 d2
        have hS := (show Hid (∀ u, Below w.heap.size w u → Calls Tryd.prog 28 #[s1, s2] u fun e w' => e = .returned (.bool true) ∧ w' = u) from fun u hu => by
          have := same_any u s1 s2 _ _ (t1.mv (Mv.below hu)).1 (t2.mv (Mv.below hu)).1
          rw [decide_eq_true rfl] at this
          exact this)
        have hn : (a.1 != a.1) = false := by simp
        clear g1 g2 t1 t2 ha
        go_wp2_with fail
        go_quiet ((go_at_call 28; exact quiet_as (hS.out _ (bel_dn hB _)) rfl))
        go_wp2_with fail
        go_roundw
        case rel => exact ⟨q + 1, by omega, by go_num, bel_dn hB _⟩
        case measure => simp [intOf]; omega
      · go_wp2_with fail
        go_ret
        exact ⟨rfl, hB⟩
  · obtain rfl : ys = [] := List.eq_nil_of_length_eq_zero (by omega)
    obtain ⟨ao, c1, rfl, _⟩ := h1.form
    obtain ⟨bo, c2, rfl, _⟩ := h2.form
    go_enter Tryd.func30, Tryd.ntmps30
    go_wp2_with fail
    refine wp_loop_rounds 1 ?_; rw [rounds_succ]
    go_wp2_with fail
    go_ret
    exact ⟨rfl, Below.refl _ _⟩
end Go.Proofs.YtajmgpgjkalfkaaDoor
end

section
set_option linter.unusedVariables false
set_option linter.unusedSimpArgs false
namespace Go.Proofs.YtajmgpgjkalfkaaDoor
open Go.RowKit Oct

theorem dec_req (x y : PReq) : decide (x = y) = (x.1 == y.1 && x.2.1 == y.2.1 && decide (x.2.2.1 = y.2.2.1) && decide (x.2.2.2 = y.2.2.2)) := by
  rw [Bool.eq_iff_iff]
  simp only [decide_eq_true_eq, Bool.and_eq_true, beq_iff_eq, Prod.ext_iff, and_assoc]

set_option maxHeartbeats 2000000 in
/-- SameReq. -/
theorem sameReq_any (w : World) (r1 r2 : List Value) (x y : PReq) (h1 : RReq Any w r1 x) (h2 : RReq Any w r2 y) :
    Calls Tryd.prog 19 #[.agg r1.toArray, .agg r2.toArray] w fun e w' => e = .returned (.bool (decide (x = y))) ∧ Below w.heap.size w w' := by
  obtain ⟨o1, g1, rfl, ho1, hg1⟩ := h1
  obtain ⟨o2, g2, rfl, ho2, hg2⟩ := h2
  obtain ⟨w2, hw2⟩ : ∃ w2, w2 = (w.alloc (.cells #[.int .i64 x.1, .int .i64 x.2.1, o1, g1] 31)).alloc (.cells #[.int .i64 y.1, .int .i64 y.2.1, o2, g2] 31) := ⟨_, rfl⟩
  have ra : Row w2 w.heap.size 31 [.int .i64 x.1, .int .i64 x.2.1, o1, g1] := by rw [hw2]; exact row_alloc (Row.new w 31 _) _
  have rb : Row w2 (w.heap.size + 1) 31 [.int .i64 y.1, .int .i64 y.2.1, o2, g2] := by
    rw [hw2]
    have := Row.new (w.alloc (.cells #[.int .i64 x.1, .int .i64 x.2.1, o1, g1] 31)) 31 [.int .i64 y.1, .int .i64 y.2.1, o2, g2]
    simpa using this
  have hB : Below w.heap.size w w2 := by rw [hw2]; exact ((Below.refl _ w).alloc (Nat.le_refl _) _).alloc (by simp) _
  have a0 := ra.cell (j := 0) rfl; have a1 := ra.cell (j := 1) rfl; have a2 := ra.cell (j := 2) rfl; have a3 := ra.cell (j := 3) rfl
  have b0 := rb.cell (j := 0) rfl; have b1 := rb.cell (j := 1) rfl; have b2 := rb.cell (j := 2) rfl; have b3 := rb.cell (j := 3) rfl
  have sO := same_any w2 o1 o2 _ _ (ho1.mv (Mv.below hB)).1 (ho2.mv (Mv.below hB)).1
  have sG := same_any w2 g1 g2 _ _ (hg1.mv (Mv.below hB)).1 (hg2.mv (Mv.below hB)).1
  rw [dec_req]
  clear ra rb ho1 hg1 ho2 hg2
  generalize x.1 = xa at *; generalize x.2.1 = xb at *; generalize y.1 = ya at *; generalize y.2.1 = yb at *
  generalize decide (x.2.2.1 = y.2.2.1) = dO at *
  generalize decide (x.2.2.2 = y.2.2.2) = dG at *
  go_enter Tryd.func19, Tryd.ntmps19
  go_upto_region 1 with fail
  rw [← hw2]
  clear hw2
  cases ha : (xa == ya)
  · go_wp2_with fail
    go_ret
    exact ⟨by rw [ha]; rfl, hB⟩
  cases hb : (xb == yb)
  · go_wp2_with fail
    go_ret
    exact ⟨by rw [ha, hb]; rfl, hB⟩
  cases dO with
  | false =>
    go_wp2_with (go_at_call 28; refine sO.mono ?_; rintro e w3 ⟨rfl, rfl⟩)
    go_ret
    exact ⟨by rw [ha, hb]; rfl, hB⟩
  | true =>
    go_wp2_with fail
    refine sO.mono ?_
    rintro e w3 ⟨rfl, rfl⟩
    go_wp2_with fail
    refine sG.mono ?_
    rintro e w3 ⟨rfl, rfl⟩
    go_wp2_with fail
    go_ret
    exact ⟨by rw [ha, hb]; cases dG <;> rfl, hB⟩

end Go.Proofs.YtajmgpgjkalfkaaDoor
end

section
set_option linter.unusedVariables false
namespace Go.Proofs.YtajmgpgjkalfkaaDoor
open Go.RowKit Oct

set_option maxRecDepth 10000 in
set_option maxHeartbeats 2000000 in
/-- msg.Body. -/
theorem body_any (w : World) (r : List Value) (x : PReq) (h : RReq Any w r x) (hz : tot [x.2.2.1, x.2.2.2] ≤ 10000000) :
    Calls Tryd.prog 21 #[.agg r.toArray] w fun e w' => ∃ v', e = .returned v' ∧ Own w' 5 v' (bc (body x)) ∧ Fr w.heap.size v' ∧ Below w.heap.size w w' := by
  obtain ⟨vo, vg, rfl, ho, hg⟩ := h
  obtain ⟨oo, oc, rfl, hoc⟩ := ho.form
  obtain ⟨go, gc, rfl, hgc⟩ := hg.form
  generalize hvo : Value.slice oo x.2.2.1.length oc = vo at *
  generalize hvg : Value.slice go x.2.2.2.length gc = vg at *
  obtain ⟨w2, hw2⟩ : ∃ w2, w2 = (w.alloc (.cells #[.int .i64 x.1, .int .i64 x.2.1, vo, vg] 31)) := ⟨_, rfl⟩
  have ra : Row w2 w.heap.size 31 [.int .i64 x.1, .int .i64 x.2.1, vo, vg] := by rw [hw2]; exact Row.new w 31 _
  have hB : Below w.heap.size w w2 := by rw [hw2]; exact ((Below.refl _ w).alloc (Nat.le_refl _) _)
  have a0 := ra.cell (j := 0) rfl
  go_enter Tryd.func21, Tryd.ntmps21
  go_upto_region 1 with fail
  rw [← hw2]
  clear hw2
  have a1 := ra.cell (j := 1) rfl
  have hdw : Below w2.heap.size w2 w2.drew := ⟨rfl, rfl, rfl, Nat.le_refl _, fun _ _ => rfl⟩
  have SK := (show Hid (∀ u, Below w2.heap.size w2 u → u.cell? ⟨w.heap.size, 0, none⟩ = some (.int .i64 x.1) ∧ u.cell? ⟨w.heap.size, 1, none⟩ = some (.int .i64 x.2.1)) from fun u hu => ⟨(hu.cell (p := ⟨w.heap.size, 0, none⟩) ra.lt).trans a0, (hu.cell (p := ⟨w.heap.size, 1, none⟩) ra.lt).trans a1⟩)
  have hA := appendWord_any w2.drew (.slice none 0 0) [] x.1 (Own.nil _ _) (by simp)
  rw [List.nil_append] at hA
  have HA := (show Hid (∀ _ : Unit, _) from fun _ => hA)
  clear hA
  go_wp2_with fail
  go_region_held3 (fun u => u.cell? ⟨w.heap.size, 0, none⟩ = some (.int .i64 x.1) ∧ u.cell? ⟨w.heap.size, 1, none⟩ = some (.int .i64 x.2.1))
    (first | exact SK.out _ (by assumption) | go_keep)
    (first
      | (go_at_call 36; refine (appendWord_any w3 v3 (le8 (u64 x.1)) x.2.1 happ3.own (by rw [le8_len]; decide)).mono ?_; rintro e w4 ⟨v4, rfl, happ4⟩; have hb4 : Below w2.heap.size w2 w4 := hb3.trans (happ4.below (happ3.fr (Fr.nil _) (Nat.le_refl _)) hb3.size))
      | (go_at_call 36; refine (HA.out ()).mono ?_; rintro e w3 ⟨v3, rfl, happ3⟩; have hb3 : Below w2.heap.size w2 w3 := hdw.trans (happ3.below (Fr.nil _) (Nat.le_refl _))))
  have ra4 := ra.below hb4
  have c2 := ra4.cell (j := 2) rfl
  have c3 := ra4.cell (j := 3) rfl
  have hB4 := below_and hB (Nat.le_refl _) hb4
  have ho4 := (ho.mv (Mv.below hB4)).1
  have hg4 := (hg.mv (Mv.below hB4)).1
  have hf3 := happ3.fr (Fr.nil w2.drew.heap.size) (Nat.le_refl _)
  have hf4 := happ4.fr hf3 hb3.size
  have hown4 := happ4.own
  have hl : Rdl (w4.alloc (.cells #[vo, vg] 29)) (.slice (some ⟨w4.heap.size, 0, none⟩) 2 2) [x.2.2.1, x.2.2.2] :=
    ⟨[vo, vg], Own.rdv (e := 29) (World.ownsRow_lit (base := 0) (size := 1) w4 #[vo, vg] 2 (Nat.zero_le _) (by decide) rfl), ho4.below (below_alloc _ _), hg4.below (below_alloc _ _), trivial⟩
  have hP := pack_any _ _ _ hl hz
  clear ra ra4 a0 a1 hdw SK HA happ3 happ4 hf3 hl ho4 hg4
  subst hvo hvg
  go_wp2_with fail
  refine hP.mono ?_
  rintro e w5 ⟨v5, rfl, hown5, hfr5, hb5⟩
  have hb45 : Below w4.heap.size w4 w5 := (below_alloc w4 _).trans (hb5.mono (by simp))
  have hB5 := below_and hB4 (Nat.le_refl _) hb45
  have hown4' := hown4.below hb45
  have hrd5 := hown5.rdv
  have hf4w : Fr w.heap.size v4 := hf4.mono hB.size
  have hpl := packL_len [x.2.2.1, x.2.2.2]
  have h16 : (le8 (u64 x.1) ++ le8 (u64 x.2.1)).length = 16 := rfl
  have HL := (show Hid ((le8 (u64 x.1) ++ le8 (u64 x.2.1)).length + (packL [x.2.2.1, x.2.2.2]).length ≤ 140737488355328) by show _ ≤ _; omega)
  clear hP hown4 hown5 hfr5 hb5 hb45 hf4 hb3 hpl h16 c2 c3 hb4
  go_wp2_with (at_builtin; refine app_bytes rfl _ _ rfl v4 _ rfl hown4' v5 _ rfl hrd5 HL.out ?_; intro v6 w6 happ6)
  go_ret
  exact ⟨_, rfl, happ6.own, happ6.fr hf4w hB5.size, hB5.trans (happ6.below hf4w hB5.size)⟩
end Go.Proofs.YtajmgpgjkalfkaaDoor
end
