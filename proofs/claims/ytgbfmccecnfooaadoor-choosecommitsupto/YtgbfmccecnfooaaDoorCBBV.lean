/- The laws of layer 18: the chapter's example. Written by mk19a.py. -/
import Derived.Test.YtgbfmccecnfooaaDoorCBBT
import Derived.Deep.RegionHeld3
import Derived.Deep.MidRow
set_option linter.unusedSimpArgs false
set_option linter.unusedVariables false
namespace Go.Proofs.YtgbfmccecnfooaaDoor
open Go.RowKit Oct Bal
theorem Row.rngC {w : World} {b : Nat} {t : TypeId} {xs : List Value} (h : Row w b t xs) : w.rangeAt b 0 xs := fun j v hj => by rw [Nat.zero_add]; exact h.cell hj
theorem RL.row {α : Type} {R : (Nat → Prop) → World → List Value → α → Prop} {k : Nat} {w : World} {b : Nat} {t : TypeId} {rows : List (List Value)} {ys : List α} (hr : Row w b t rows.flatten) (hk : ∀ r ∈ rows, r.length = k) (hn : 0 < rows.length) (hm : rows.length ≤ maxLen) (ha : All2 (R Any w) rows ys) : RL R k Any w (.slice (some ⟨b, 0, none⟩) rows.length rows.length) ys :=
  ⟨rows, ⟨hk, .inr ⟨b, 0, rows.length, rfl, Nat.le_refl _, hm, hn, trivial, hr.lt, fun i r hi j v hj => by
    rw [Nat.zero_add]
    exact hr.cell (flat_at hk hi hj)⟩⟩, ha⟩
def q12 : PReq := (1, 2, [], [])
def rz0 : PRep := ((0, 0), 0, 0, [], [], [], [])
def rz1 : PRep := ((0, 0), 0, 4, [], [], [(6, (0, 0), q12, [])], [])
theorem pk_alive : picksR [rz0, rz1] (cntR [rz0, rz1]) = [qz, q12] := by decide
theorem bld36 (w : World) : (Instr.build 36 #[(0, .int .i64 1), (1, .int .i64 2)]).run Tryd.prog w = .ok (.agg ([.int .i64 1, .int .i64 2, .slice none 0 0, .slice none 0 0] : List Value).toArray) w := by kernel_rfl
theorem bld30 (w : World) : (Instr.build 30 #[]).run Tryd.prog w = .ok (.agg ([.int .i64 0, .int .i64 0, .int .i64 0, .int .i64 0, .slice none 0 0, .slice none 0 0, .slice none 0 0, .slice none 0 0] : List Value).toArray) w := by kernel_rfl
theorem bld45 (w : World) : (Instr.build 38 #[(0, .int .i64 6), (2, .agg ([.int .i64 1, .int .i64 2, .slice none 0 0, .slice none 0 0] : List Value).toArray)]).run Tryd.prog w = .ok (.agg ([.int .i64 6, .int .i64 0, .int .i64 0, .int .i64 1, .int .i64 2, .slice none 0 0, .slice none 0 0, .slice none 0 0] : List Value).toArray) w := by kernel_rfl
theorem bld30b (g : Nat) (w : World) : (Instr.build 30 #[(2, .int .i64 4), (5, .slice (some ⟨g, 0, none⟩) 1 1)]).run Tryd.prog w = .ok (.agg ([.int .i64 0, .int .i64 0, .int .i64 0, .int .i64 4, .slice none 0 0, .slice none 0 0, .slice (some ⟨g, 0, none⟩) 1 1, .slice none 0 0] : List Value).toArray) w := by kernel_rfl
set_option maxRecDepth 10000 in
set_option maxHeartbeats 4000000 in
theorem chooseAlive_any (w : World) : Calls Tryd.prog 5 #[] w fun e w' => e = .returned (.bool true) ∧ Below w.heap.size w w' := by
  have h36 := bld36
  have h30 := bld30
  have h45 := bld45
  have h30b := bld30b
  have hrow1 := Row.new w 36 [.int .i64 0, .int .i64 0, .slice none 0 0, .slice none 0 0]
  go_enter Tryd.func5, Tryd.ntmps5
  go_upto_region 2 with (refine wl_store rfl _ _ _ rfl w.heap.size [.int .i64 1, .int .i64 2, .slice none 0 0, .slice none 0 0] rfl rfl _ _ hrow1 rfl (by kernel_rfl) (one4 rfl rfl) ?_; intro w1 r1 g1)
  have b1 : Below w.heap.size w w1 := (below_alloc w (.cells ([.int .i64 0, .int .i64 0, .slice none 0 0, .slice none 0 0] : List Value).toArray 36)).trans (grown_below g1 (by simp) (fun k hk => by cases hk; exact Nat.le_refl _))
  have r1 := r1.out
  clear hrow1 g1
  obtain ⟨w2, hw2⟩ : ∃ u, u = w1.alloc (.cells #[.int .i64 6, .int .i64 0, .int .i64 0, .int .i64 1, .int .i64 2, .slice none 0 0, .slice none 0 0, .slice none 0 0] 38) := ⟨_, rfl⟩
  obtain ⟨w3, hw3⟩ : ∃ u, u = w2.alloc (.cells #[.int .i64 0, .int .i64 0, .int .i64 0, .int .i64 0, .slice none 0 0, .slice none 0 0, .slice none 0 0, .slice none 0 0, .int .i64 0, .int .i64 0, .int .i64 0, .int .i64 4, .slice none 0 0, .slice none 0 0, .slice (some ⟨w1.heap.size, 0, none⟩) 1 1, .slice none 0 0] 30) := ⟨_, rfl⟩
  have e2 : w2.heap.size = w1.heap.size + 1 := by rw [hw2]; simp
  have b2 : Below w1.heap.size w1 w2 := by rw [hw2]; exact below_alloc _ _
  have b3 : Below w2.heap.size w2 w3 := by rw [hw3]; exact below_alloc _ _
  have p2 : Row w2 w1.heap.size 38 [.int .i64 6, .int .i64 0, .int .i64 0, .int .i64 1, .int .i64 2, .slice none 0 0, .slice none 0 0, .slice none 0 0] := by rw [hw2]; exact Row.new _ _ _
  have p3 : Row w3 w2.heap.size 30 (([.int .i64 0, .int .i64 0, .int .i64 0, .int .i64 0, .slice none 0 0, .slice none 0 0, .slice none 0 0, .slice none 0 0] : List Value) :: [[.int .i64 0, .int .i64 0, .int .i64 0, .int .i64 4, .slice none 0 0, .slice none 0 0, .slice (some ⟨w1.heap.size, 0, none⟩) 1 1, .slice none 0 0]]).flatten := by rw [hw3]; exact Row.new _ _ _
  have hP : RL RPrep 8 Any w3 (.slice (some ⟨w1.heap.size, 0, none⟩) 1 1) [(6, (0, 0), q12, [])] := RL.row (rows := [[.int .i64 6, .int .i64 0, .int .i64 0, .int .i64 1, .int .i64 2, .slice none 0 0, .slice none 0 0, .slice none 0 0]]) (t := 38) (p2.below b3) (by simp) (by decide) (by decide) ⟨⟨_, _, _, rfl, RT.nil _ _, RT.nil _ _, RL.nil _ _ _ _⟩, trivial⟩
  have hR : RL RRep 8 Any w3 (.slice (some ⟨w2.heap.size, 0, none⟩) 2 2) [rz0, rz1] := RL.row (rows := [[.int .i64 0, .int .i64 0, .int .i64 0, .int .i64 0, .slice none 0 0, .slice none 0 0, .slice none 0 0, .slice none 0 0], [.int .i64 0, .int .i64 0, .int .i64 0, .int .i64 4, .slice none 0 0, .slice none 0 0, .slice (some ⟨w1.heap.size, 0, none⟩) 1 1, .slice none 0 0]]) p3 (by simp) (by simp) (show 2 ≤ maxLen by decide) ⟨⟨_, _, _, _, rfl, RT.nil _ _, RL.nil _ _ _ _, RL.nil _ _ _ _, RT.nil _ _⟩, ⟨_, _, _, _, rfl, RT.nil _ _, RL.nil _ _ _ _, hP, RT.nil _ _⟩, trivial⟩
  have hPk := picksC_any w3 _ [rz0, rz1] hR (by
    intro r hr p hp
    simp only [List.mem_cons, List.not_mem_nil, or_false] at hr
    rcases hr with rfl | rfl
    · cases hp
    · simp only [rz1, List.mem_cons, List.not_mem_nil, or_false] at hp
      subst hp
      exact ⟨Nat.zero_le _, Nat.zero_le _⟩) (by
    intro r hr
    simp only [List.mem_cons, List.not_mem_nil, or_false] at hr
    rcases hr with rfl | rfl
    · exact ⟨⟨by decide, by decide⟩, fun p hp => by cases hp⟩
    · refine ⟨⟨by decide, by decide⟩, fun p hp => ?_⟩
      simp only [rz1, List.mem_cons, List.not_mem_nil, or_false] at hp
      subst hp
      exact ⟨by decide, by decide⟩)
  rw [pk_alive] at hPk
  have r3 := (r1.below b2).below b3
  have B3 := below_and (below_and b1 (Nat.le_refl _) b2) (Nat.le_refl _) b3
  have hww : w3 = (w1.alloc (.cells #[.int .i64 6, .int .i64 0, .int .i64 0, .int .i64 1, .int .i64 2, .slice none 0 0, .slice none 0 0, .slice none 0 0] 38)).alloc (.cells #[.int .i64 0, .int .i64 0, .int .i64 0, .int .i64 0, .slice none 0 0, .slice none 0 0, .slice none 0 0, .slice none 0 0, .int .i64 0, .int .i64 0, .int .i64 0, .int .i64 4, .slice none 0 0, .slice none 0 0, .slice (some ⟨w1.heap.size, 0, none⟩) 1 1, .slice none 0 0] 30) := by rw [hw3, hw2]
  rw [e2] at hPk
  clear hR hP p2 p3 b2 b3 hw2 hw3 b1 e2
  have HPK := (show Hid (Calls _ _ _ _ _) from hPk)
  clear hPk
  go_upto_region 3 with (first
    | (refine wl_load rfl _ _ rfl w.heap.size rfl _ _ r1 _ Tryd.underlying36 rfl (by kernel_rfl) ?_)
    | (go_at_call 13; rw [← hww]; refine HPK.out.mono ?_; rintro e w4 ⟨v4, rfl, hv4, b4⟩; obtain ⟨g3, off3, cap, hve, hca, hcm, _, hg3, hat⟩ := hv4.at (show 0 < [qz, q12].length by decide); have hve : v4 = .slice (some ⟨g3, off3, none⟩) 2 cap := hve; subst hve)
    | fail)
  have r4 := r3.below b4
  obtain ⟨ra, _, hra, oa, sa, rfl, ta1, ta2⟩ := hat 0 qz rfl
  obtain ⟨rb, _, hrb, ob, sb, rfl, tb1, tb2⟩ := hat 1 q12 rfl
  have HC0 := (show Hid (∀ u, Below w4.heap.size w4 u → u.cell? ⟨g3, off3, none⟩ = some (.int .i64 0)) from fun u hu => by have := rangeAt_block hra (hu.block g3 hg3) 0 _ rfl; simpa [qz] using this)
  have HC1 := (show Hid (∀ u, Below w4.heap.size w4 u → u.rangeAt g3 (off3 + 4) [.int .i64 1, .int .i64 2, ob, sb]) from fun u hu => by have := rangeAt_block hrb (hu.block g3 hg3); simpa [q12] using this)
  have HR := (show Hid (∀ u, Below w4.heap.size w4 u → Row u w.heap.size 36 [.int .i64 1, .int .i64 2, .slice none 0 0, .slice none 0 0]) from fun u hu => r4.below hu)
  have B4 := below_and B3 (Nat.le_refl _) b4
  have B0 : Below w4.heap.size w4 w4.drew := ⟨rfl, rfl, rfl, Nat.le_refl _, fun _ _ => rfl⟩
  have hSR := sameReq_any w4.drew [.int .i64 1, .int .i64 2, ob, sb] [.int .i64 1, .int .i64 2, .slice none 0 0, .slice none 0 0] q12 q12 ⟨_, _, rfl, (tb1.mv Mv.any).mv (Mv.below B0), (tb2.mv Mv.any).mv (Mv.below B0)⟩ ⟨_, _, rfl, RT.nil _ _, RT.nil _ _⟩
  rw [decide_eq_true rfl] at hSR
  have S0 : w4.drew.cell? ⟨g3, off3, none⟩ = some (.int .i64 0) ∧ w4.drew.rangeAt g3 (off3 + 4) [.int .i64 1, .int .i64 2, ob, sb] ∧ Row w4.drew w.heap.size 36 [.int .i64 1, .int .i64 2, .slice none 0 0, .slice none 0 0] := ⟨HC0.out _ B0, HC1.out _ B0, HR.out _ B0⟩
  clear hra hrb hat ta1 ta2 tb1 tb2 r3 r4 HPK hww h36 h30 h45 h30b hv4 hca hcm
  try go_simp
  refine wp_region_held_drew (S := fun u => u.cell? ⟨g3, off3, none⟩ = some (.int .i64 0) ∧ u.rangeAt g3 (off3 + 4) [.int .i64 1, .int .i64 2, ob, sb] ∧ Row u w.heap.size 36 [.int .i64 1, .int .i64 2, .slice none 0 0, .slice none 0 0]) (by kernel_rfl) S0 (fun hHeld => ?_)
  clear hHeld
  refine wpAnyH_take (i := 0) (v := .slice (some ⟨g3, off3, none⟩) 2 cap) rfl (by kernel_rfl) (by kernel_rfl) (by kernel_rfl) (fun _ _ _ h => h) (Or.inl ⟨by kernel_rfl, fun u hSu => by go_simp⟩) S0 ?_
  simp only [Act.put, List.setIfInBounds_toArray, List.set_cons_zero, List.set_cons_succ]
  refine wpAnyH_take (i := 1) (v := .int .i64 2) rfl (by kernel_rfl) (by kernel_rfl) (by kernel_rfl) (fun _ _ _ h => h) (Or.inl ⟨by kernel_rfl, fun u hSu => by go_simp⟩) S0 ?_
  simp only [Act.put, List.setIfInBounds_toArray, List.set_cons_zero, List.set_cons_succ]
  refine wpAnyH_take (i := 2) (v := .bool true) rfl (by kernel_rfl) (by kernel_rfl) (by kernel_rfl) (fun _ _ _ h => h) (Or.inl ⟨by kernel_rfl, fun u hSu => by go_simp⟩) S0 ?_
  simp only [Act.put, List.setIfInBounds_toArray, List.set_cons_zero, List.set_cons_succ]
  refine wpAnyH_take (i := 3) (v := .bool true) rfl (by kernel_rfl) (by kernel_rfl) (by kernel_rfl) (fun _ _ _ h => h) (Or.inl ⟨by kernel_rfl, fun u hSu => by go_simp⟩) S0 ?_
  simp only [Act.put, List.setIfInBounds_toArray, List.set_cons_zero, List.set_cons_succ]
  refine wpAnyH_take (i := 4) (v := .slice (some ⟨g3, off3, none⟩) 2 cap) rfl (by kernel_rfl) (by kernel_rfl) (by kernel_rfl) (fun _ _ _ h => h) (Or.inl ⟨by kernel_rfl, fun u hSu => by go_simp⟩) S0 ?_
  simp only [Act.put, List.setIfInBounds_toArray, List.set_cons_zero, List.set_cons_succ]
  refine wpAnyH_take (i := 5) (v := .pointer (some ⟨g3, off3, none⟩)) rfl (by kernel_rfl) (by kernel_rfl) (by kernel_rfl) (fun _ _ _ h => h) (Or.inl ⟨by kernel_rfl, fun u hSu => by go_simp⟩) S0 ?_
  simp only [Act.put, List.setIfInBounds_toArray, List.set_cons_zero, List.set_cons_succ]
  refine wpAnyH_take (i := 6) (v := .pointer (some ⟨g3, off3, none⟩)) rfl (by kernel_rfl) (by kernel_rfl) (by kernel_rfl) (fun _ _ _ h => h) (Or.inl ⟨by kernel_rfl, fun u hSu => by go_simp⟩) S0 ?_
  simp only [Act.put, List.setIfInBounds_toArray, List.set_cons_zero, List.set_cons_succ]
  refine wpAnyH_take (i := 7) (v := .int .i64 0) rfl (by kernel_rfl) (by kernel_rfl) (by kernel_rfl) (fun _ _ _ h => h) (Or.inl ⟨by kernel_rfl, fun u hSu => by have hck := hSu.1; go_simp⟩) S0 ?_
  simp only [Act.put, List.setIfInBounds_toArray, List.set_cons_zero, List.set_cons_succ]
  refine wpAnyH_take (i := 8) (v := .bool true) rfl (by kernel_rfl) (by kernel_rfl) (by kernel_rfl) (fun _ _ _ h => h) (Or.inl ⟨by kernel_rfl, fun u hSu => by go_simp⟩) S0 ?_
  simp only [Act.put, List.setIfInBounds_toArray, List.set_cons_zero, List.set_cons_succ]
  refine wpAnyH_take (i := 9) (v := .bool true) rfl (by kernel_rfl) (by kernel_rfl) (by kernel_rfl) (fun _ _ _ h => h) (Or.inl ⟨by kernel_rfl, fun u hSu => by go_simp⟩) S0 ?_
  simp only [Act.put, List.setIfInBounds_toArray, List.set_cons_zero, List.set_cons_succ]
  refine wpAnyH_take (i := 10) (v := .bool true) rfl (by kernel_rfl) (by kernel_rfl) (by kernel_rfl) (fun _ _ _ h => h) (Or.inl ⟨by kernel_rfl, fun u hSu => by go_simp⟩) S0 ?_
  simp only [Act.put, List.setIfInBounds_toArray, List.set_cons_zero, List.set_cons_succ]
  refine wpAnyH_take (i := 11) (v := .slice (some ⟨g3, off3, none⟩) 2 cap) rfl (by kernel_rfl) (by kernel_rfl) (by kernel_rfl) (fun _ _ _ h => h) (Or.inl ⟨by kernel_rfl, fun u hSu => by go_simp⟩) S0 ?_
  simp only [Act.put, List.setIfInBounds_toArray, List.set_cons_zero, List.set_cons_succ]
  refine wpAnyH_take (i := 12) (v := .pointer (some ⟨g3, off3 + 4, none⟩)) rfl (by kernel_rfl) (by kernel_rfl) (by kernel_rfl) (fun _ _ _ h => h) (Or.inl ⟨by kernel_rfl, fun u hSu => by go_simp⟩) S0 ?_
  simp only [Act.put, List.setIfInBounds_toArray, List.set_cons_zero, List.set_cons_succ]
  refine wpAnyH_take (i := 13) (v := .agg #[.int .i64 1, .int .i64 2, ob, sb]) rfl (by kernel_rfl) (by kernel_rfl) (by kernel_rfl) (fun _ _ _ h => h) (yieldsIf_load_mid (by kernel_rfl) _ _ rfl g3 (off3 + 4) (by go_simp) [.int .i64 1, .int .i64 2, ob, sb] _ (fun u hu => hu.2.1) Tryd.underlying36 rfl (by kernel_rfl)) S0 ?_
  simp only [Act.put, List.setIfInBounds_toArray, List.set_cons_zero, List.set_cons_succ]
  refine wpAnyH_take (i := 14) (v := .agg #[.int .i64 1, .int .i64 2, .slice none 0 0, .slice none 0 0]) rfl (by kernel_rfl) (by kernel_rfl) (by kernel_rfl) (fun _ _ _ h => h) (yieldsIf_load_mid (by kernel_rfl) _ _ rfl w.heap.size 0 (by go_simp) [.int .i64 1, .int .i64 2, .slice none 0 0, .slice none 0 0] _ (fun u hu => hu.2.2.rngC) Tryd.underlying36 rfl (by kernel_rfl)) S0 ?_
  simp only [Act.put, List.setIfInBounds_toArray, List.set_cons_zero, List.set_cons_succ]
  refine wpAnyH_ready (rs := [15]) (by kernel_rfl) (by simp) ?_
  refine AllReadyH.cons (o := _) rfl (fun K hK => ?_) AllReadyH.nil
  go_simp
  refine hSR.mono ?_
  rintro e w5 ⟨rfl, b5⟩
  have B5 := below_and B0 (Nat.le_refl _) b5
  have S1 : w5.cell? ⟨g3, off3, none⟩ = some (.int .i64 0) ∧ w5.rangeAt g3 (off3 + 4) [.int .i64 1, .int .i64 2, ob, sb] ∧ Row w5 w.heap.size 36 [.int .i64 1, .int .i64 2, .slice none 0 0, .slice none 0 0] := ⟨HC0.out _ B5, HC1.out _ B5, HR.out _ B5⟩
  try go_simp
  refine hK.out _ _ S1 (fun hHeld => ?_)
  clear hK K hHeld
  refine wpAnyH_ready (rs := [16]) (by kernel_rfl) (by simp) ?_
  refine AllReadyH.cons (o := _) rfl (fun K hK => ?_) AllReadyH.nil
  go_simp
  refine hK.out _ _ S1 (fun hHeld => ?_)
  clear hK K hHeld
  refine wpAnyH_ready (rs := [17]) (by kernel_rfl) (by simp) ?_
  refine AllReadyH.cons (o := _) rfl (fun K hK => ?_) AllReadyH.nil
  go_simp
  refine hK.out _ _ S1 (fun hHeld => ?_)
  clear hK K hHeld
  refine wpAnyH_done (by kernel_rfl) ?_ _
  go_wp2_with fail
  go_ret
  exact ⟨rfl, below_and B4 (Nat.le_refl _) B5⟩
end Go.Proofs.YtgbfmccecnfooaaDoor
