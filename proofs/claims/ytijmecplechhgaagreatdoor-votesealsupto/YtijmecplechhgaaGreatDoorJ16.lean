/- The document's Fields, kind by kind. -/
import Derived.Test.YtijmecplechhgaaGreatDoorJ15
import Derived.Test.YtijmecplechhgaaGreatDoorPm
import Derived.Test.YtijmecplechhgaaGreatDoorRw
import Derived.Test.YtijmecplechhgaaGreatDoorJ05
import Derived.Test.YtijmecplechhgaaGreatDoorE1
section
set_option linter.unusedVariables false
set_option linter.unusedSimpArgs false
namespace Go.Proofs.YtijmecplechhgaaGreatDoor
open Go.RowKit Oct

theorem cN_byt (n : Int) : Byt (cN.wr n) := outI_byt n
theorem wrN_byt {α : Type} {c : Cdc α} : ∀ {ys : List α}, (∀ y ∈ ys, Byt (c.wr y)) → Byt (wrN c ys)
  | [], _ => by simp only [wrN]; exact Byt.nil
  | y :: ys, h => by rw [wrN_cons]; exact (h y (by simp)).app (wrN_byt fun z hz => h z (by simp [hz]))
theorem cL_byt {α : Type} {c : Cdc α} {ys : List α} (h : ∀ y ∈ ys, Byt (c.wr y)) : Byt ((cL c).wr ys) := (outI_byt _).app (wrN_byt h)
theorem RL.each {α : Type} {R : (Nat → Prop) → World → List Value → α → Prop} {k : Nat} {G : Nat → Prop} {w : World} {v : Value} {ys : List α} (h : RL R k G w v ys) : ∀ y ∈ ys, ∃ r, R G w r y := by
  obtain ⟨rows, h1, h2⟩ := h
  intro y hy
  obtain ⟨i, hi, rfl⟩ := List.getElem_of_mem hy
  exact ⟨_, h2.get (List.getElem?_eq_getElem (by rw [h2.len]; exact hi)) (List.getElem?_eq_getElem hi)⟩
theorem vote_byt {G : Nat → Prop} {w : World} {r : List Value} {x : PVote} (h : RVote G w r x) (hz : bV x ≤ 2000000) : Byt (cVote.wr x) := by
  obtain ⟨s, _, h1⟩ := h
  exact (cN_byt _).app (cT_wr_byt h1.1.1 (by simp only [bV, bT] at hz; omega))
theorem votes_byt {G : Nat → Prop} {w : World} {v : Value} {ys : List PVote} (h : RL RVote 2 G w v ys) (hz : bL bV ys ≤ 2000000) : Byt ((cL cVote).wr ys) :=
  cL_byt fun y hy => by
    obtain ⟨r, hr⟩ := h.each y hy
    exact vote_byt hr (by have := bS_mem (f := bV) hy; simp only [bL] at hz; omega)
theorem req_byt {G : Nat → Prop} {w : World} {r : List Value} {x : PReq} (h : RReq G w r x) (hz : bQ x ≤ 2000000) : Byt (cReq.wr x) := by
  obtain ⟨o, g, _, h1, h2⟩ := h
  exact (cN_byt _).app ((cN_byt _).app ((cT_wr_byt h1.1.1 (by simp only [bQ, bT] at hz; omega)).app (cT_wr_byt h2.1.1 (by simp only [bQ, bT] at hz; omega))))
theorem prep_byt {G : Nat → Prop} {w : World} {r : List Value} {x : PPrep} (h : RPrep G w r x) (hz : bP x ≤ 2000000) : Byt (cPrep.wr x) := by
  obtain ⟨o, g, c, _, h1, h2, h3⟩ := h
  simp only [bP] at hz
  exact (cN_byt _).app (((cN_byt _).app (cN_byt _)).app ((req_byt (G := G) (w := w) (r := [.int .i64 x.2.2.1.1, .int .i64 x.2.2.1.2.1, o, g]) ⟨o, g, rfl, h1, h2⟩ (by omega)).app (votes_byt h3 (by omega))))
theorem rep_byt {G : Nat → Prop} {w : World} {r : List Value} {x : PRep} (h : RRep G w r x) (hz : bR x ≤ 2000000) : Byt (cRep.wr x) := by
  obtain ⟨d, s, p, g, _, h1, h2, h3, h4⟩ := h
  simp only [bR] at hz
  refine ((cN_byt _).app (cN_byt _)).app ((cN_byt _).app ((cN_byt _).app ((cT_wr_byt h1.1.1 ?_).app ((votes_byt h2 (by omega)).app ((cL_byt fun y hy => ?_).app (cT_wr_byt h4.1.1 ?_))))))
  · simp only [bT] at hz; omega
  · obtain ⟨r, hr⟩ := h3.each y hy
    exact prep_byt hr (by have := bS_mem (f := bP) hy; simp only [bL] at hz; omega)
  · simp only [bT] at hz; omega
theorem SOk.byt {G : Nat → Prop} {w : World} {m : PMsg} {s : SV} (h : SOk G w m s) (hz : bM m ≤ 1100000) {i : Nat} (hi : i < 15) : Byt (wrF m i) := by
  simp only [bM] at hz
  rcases lt15 hi with rfl | rfl | rfl | rfl | rfl | rfl | rfl | rfl | rfl | rfl | rfl | rfl | rfl | rfl | rfl
  · exact (cN_byt _).app (cN_byt _)
  · exact cN_byt _
  · exact cN_byt _
  · exact cN_byt _
  · exact cN_byt _
  · exact cN_byt _
  · exact req_byt (r := [.int .i64 m.req.1, .int .i64 m.req.2.1, s.o, s.g]) ⟨_, _, rfl, h.o, h.g⟩ (by omega)
  · exact req_byt (r := [.int .i64 m.oth.1, .int .i64 m.oth.2.1, s.o', s.g']) ⟨_, _, rfl, h.o', h.g'⟩ (by omega)
  · exact cT_wr_byt h.d.1.1 (by simp only [bT] at hz; omega)
  · exact cT_wr_byt h.s.1.1 (by simp only [bT] at hz; omega)
  · exact votes_byt h.c (by omega)
  · exact votes_byt h.v (by omega)
  · exact cL_byt fun y _ => cN_byt y
  · exact cL_byt fun y hy => by
      obtain ⟨r, hr⟩ := h.p.each y hy
      exact req_byt hr (by have := bS_mem (f := bQ) hy; simp only [bL] at hz; omega)
  · exact cL_byt fun y hy => by
      obtain ⟨r, hr⟩ := h.l.each y hy
      exact rep_byt hr (by have := bS_mem (f := bR) hy; simp only [bL] at hz; omega)
theorem wrFs_byt {G : Nat → Prop} {w : World} {m : PMsg} {s : SV} (h : SOk G w m s) (hz : bM m ≤ 1100000) : ∀ {fs : List Nat}, (∀ i ∈ fs, i < 15) → Byt (wrFs m fs)
  | [], _ => by simp only [wrFs]; exact Byt.nil
  | i :: fs, hf => by rw [wrFs_cons]; exact (h.byt hz (hf i (by simp))).app (wrFs_byt h hz fun j hj => hf j (by simp [hj]))
end Go.Proofs.YtijmecplechhgaaGreatDoor
end

section
set_option linter.unusedVariables false
namespace Go.Proofs.YtijmecplechhgaaGreatDoor
open Go.RowKit Oct

theorem fl_known (k : Int) : (1 ≤ k ∧ k ≤ 13) ∨ (20 ≤ k ∧ k ≤ 25) → fl k ≠ [] := by
  intro h e
  have hc : k = 1 ∨ k = 2 ∨ k = 3 ∨ k = 4 ∨ k = 5 ∨ k = 6 ∨ k = 7 ∨ k = 8 ∨ k = 9 ∨ k = 10 ∨ k = 11 ∨ k = 12 ∨ k = 13 ∨ k = 20 ∨ k = 21 ∨ k = 22 ∨ k = 23 ∨ k = 24 ∨ k = 25 := by omega
  rcases hc with rfl | rfl | rfl | rfl | rfl | rfl | rfl | rfl | rfl | rfl | rfl | rfl | rfl | rfl | rfl | rfl | rfl | rfl | rfl <;> exact absurd e (by decide)
theorem fl_unknown (k : Int) (h : ¬ ((1 ≤ k ∧ k ≤ 13) ∨ (20 ≤ k ∧ k ≤ 25))) : fl k = [] := by
  rcases fl_cases k with rfl | rfl | rfl | rfl | rfl | rfl | rfl | rfl | rfl | rfl | rfl | rfl | rfl | rfl | rfl | rfl | rfl | rfl | rfl | e
  all_goals first | exact e | (exfalso; omega)

/-- Known. -/
theorem refKnown_any (w : World) (k : Int) : Calls Tryz.prog 53 #[.int .i64 k] w fun e w' => e = .returned (.bool (!(fl k).isEmpty)) ∧ w' = w := by
  by_cases h1 : 1 ≤ k
  · by_cases h2 : k ≤ 13
    · have : (fl k).isEmpty = false := by simpa using fl_known k (.inl ⟨h1, h2⟩)
      rw [this]
      go_enter Tryz.func53, Tryz.ntmps53
      go_wp2_with fail
      go_ret
      exact ⟨rfl, rfl⟩
    · by_cases h3 : 20 ≤ k
      · by_cases h4 : k ≤ 25
        · have : (fl k).isEmpty = false := by simpa using fl_known k (.inr ⟨h3, h4⟩)
          rw [this]
          go_enter Tryz.func53, Tryz.ntmps53
          go_wp2_with fail
          go_ret
          exact ⟨rfl, rfl⟩
        · have : (fl k).isEmpty = true := by rw [fl_unknown k (by omega)]; rfl
          rw [this]
          go_enter Tryz.func53, Tryz.ntmps53
          go_wp2_with fail
          go_ret
          exact ⟨rfl, rfl⟩
      · have : (fl k).isEmpty = true := by rw [fl_unknown k (by omega)]; rfl
        rw [this]
        go_enter Tryz.func53, Tryz.ntmps53
        go_wp2_with fail
        go_ret
        exact ⟨rfl, rfl⟩
  · have : (fl k).isEmpty = true := by rw [fl_unknown k (by omega)]; rfl
    have h3 : ¬ 20 ≤ k := by omega
    rw [this]
    go_enter Tryz.func53, Tryz.ntmps53
    go_wp2_with fail
    go_ret
    exact ⟨rfl, rfl⟩
end Go.Proofs.YtijmecplechhgaaGreatDoor
end

section
set_option linter.unusedVariables false
namespace Go.Proofs.YtijmecplechhgaaGreatDoor
open Go.RowKit Oct

/-- The fields of a kind, az marks. -/
def marks (k : Int) : List Value := (List.range 15).map fun i => Value.bool ((fl k).contains i)
def no15 : List Value := [.bool false, .bool false, .bool false, .bool false, .bool false, .bool false, .bool false, .bool false, .bool false, .bool false, .bool false, .bool false, .bool false, .bool false, .bool false]
theorem one_no : ∀ x ∈ ([.bool false, .bool false, .bool false, .bool false, .bool false, .bool false, .bool false, .bool false, .bool false, .bool false, .bool false, .bool false, .bool false, .bool false, .bool false] : List Value), x.oneCell' = true := by decide
theorem one_1 : ∀ x ∈ ([.bool false, .bool false, .bool false, .bool false, .bool false, .bool false, .bool true, .bool false, .bool false, .bool false, .bool false, .bool false, .bool false, .bool false, .bool false] : List Value), x.oneCell' = true := by decide
theorem one_2 : ∀ x ∈ ([.bool true, .bool true, .bool false, .bool false, .bool false, .bool false, .bool true, .bool false, .bool false, .bool false, .bool false, .bool true, .bool false, .bool false, .bool false] : List Value), x.oneCell' = true := by decide
theorem one_3 : ∀ x ∈ ([.bool true, .bool true, .bool false, .bool false, .bool false, .bool false, .bool true, .bool false, .bool false, .bool false, .bool true, .bool true, .bool false, .bool false, .bool false] : List Value), x.oneCell' = true := by decide
theorem one_4 : ∀ x ∈ ([.bool true, .bool true, .bool false, .bool false, .bool false, .bool false, .bool true, .bool false, .bool false, .bool false, .bool false, .bool true, .bool false, .bool false, .bool false] : List Value), x.oneCell' = true := by decide
theorem one_5 : ∀ x ∈ ([.bool false, .bool false, .bool true, .bool true, .bool true, .bool false, .bool false, .bool false, .bool true, .bool true, .bool false, .bool false, .bool false, .bool false, .bool false] : List Value), x.oneCell' = true := by decide
theorem one_6 : ∀ x ∈ ([.bool true, .bool false, .bool true, .bool true, .bool false, .bool false, .bool false, .bool false, .bool false, .bool true, .bool false, .bool false, .bool false, .bool false, .bool false] : List Value), x.oneCell' = true := by decide
theorem one_7 : ∀ x ∈ ([.bool true, .bool false, .bool true, .bool true, .bool false, .bool false, .bool false, .bool false, .bool false, .bool true, .bool true, .bool false, .bool false, .bool false, .bool false] : List Value), x.oneCell' = true := by decide
theorem one_8 : ∀ x ∈ ([.bool false, .bool false, .bool false, .bool false, .bool false, .bool false, .bool false, .bool false, .bool false, .bool false, .bool false, .bool false, .bool false, .bool false, .bool true] : List Value), x.oneCell' = true := by decide
theorem one_9 : ∀ x ∈ ([.bool true, .bool false, .bool false, .bool false, .bool false, .bool false, .bool false, .bool false, .bool false, .bool true, .bool false, .bool false, .bool true, .bool false, .bool true] : List Value), x.oneCell' = true := by decide
theorem one_10 : ∀ x ∈ ([.bool false, .bool true, .bool false, .bool false, .bool false, .bool false, .bool false, .bool false, .bool true, .bool false, .bool false, .bool true, .bool false, .bool false, .bool false] : List Value), x.oneCell' = true := by decide
theorem one_11 : ∀ x ∈ ([.bool false, .bool true, .bool true, .bool false, .bool false, .bool false, .bool false, .bool false, .bool false, .bool false, .bool false, .bool false, .bool false, .bool false, .bool false] : List Value), x.oneCell' = true := by decide
theorem one_12 : ∀ x ∈ ([.bool false, .bool true, .bool true, .bool false, .bool true, .bool true, .bool false, .bool false, .bool true, .bool true, .bool false, .bool false, .bool false, .bool false, .bool false] : List Value), x.oneCell' = true := by decide
theorem one_13 : ∀ x ∈ ([.bool true, .bool true, .bool true, .bool false, .bool true, .bool false, .bool true, .bool true, .bool true, .bool true, .bool false, .bool false, .bool false, .bool false, .bool false] : List Value), x.oneCell' = true := by decide
theorem one_20 : ∀ x ∈ ([.bool true, .bool false, .bool false, .bool false, .bool false, .bool false, .bool false, .bool false, .bool false, .bool false, .bool false, .bool false, .bool false, .bool false, .bool false] : List Value), x.oneCell' = true := by decide
theorem one_21 : ∀ x ∈ ([.bool true, .bool true, .bool false, .bool false, .bool false, .bool false, .bool false, .bool false, .bool false, .bool false, .bool false, .bool false, .bool true, .bool true, .bool false] : List Value), x.oneCell' = true := by decide
theorem one_22 : ∀ x ∈ ([.bool true, .bool true, .bool false, .bool false, .bool false, .bool false, .bool true, .bool false, .bool false, .bool false, .bool false, .bool false, .bool false, .bool false, .bool false] : List Value), x.oneCell' = true := by decide
theorem one_23 : ∀ x ∈ ([.bool true, .bool true, .bool false, .bool false, .bool false, .bool false, .bool true, .bool false, .bool false, .bool false, .bool true, .bool false, .bool false, .bool false, .bool false] : List Value), x.oneCell' = true := by decide
theorem one_24 : ∀ x ∈ ([.bool true, .bool true, .bool false, .bool false, .bool false, .bool false, .bool true, .bool false, .bool false, .bool false, .bool false, .bool true, .bool false, .bool false, .bool false] : List Value), x.oneCell' = true := by decide
theorem one_25 : ∀ x ∈ ([.bool false, .bool true, .bool false, .bool false, .bool false, .bool false, .bool false, .bool false, .bool true, .bool false, .bool true, .bool false, .bool false, .bool false, .bool false] : List Value), x.oneCell' = true := by decide
set_option maxRecDepth 10000 in
set_option maxHeartbeats 4000000 in
theorem refFields_1 (w : World) : Calls Tryz.prog 54 #[.int .i64 1] w fun e w' => e = .returned (.agg (marks 1).toArray) ∧ Below w.heap.size w w' := by
  obtain ⟨w2, hw2⟩ : ∃ w2, w2 = w.alloc (.cells ([.bool false, .bool false, .bool false, .bool false, .bool false, .bool false, .bool false, .bool false, .bool false, .bool false, .bool false, .bool false, .bool false, .bool false, .bool false] : List Value).toArray 77) := ⟨_, rfl⟩
  have rr : Row w2 w.heap.size 77 [.bool false, .bool false, .bool false, .bool false, .bool false, .bool false, .bool false, .bool false, .bool false, .bool false, .bool false, .bool false, .bool false, .bool false, .bool false] := by rw [hw2]; exact Row.new w _ _
  have hB : Below w.heap.size w w2 := by rw [hw2]; exact below_alloc _ _
  have hrow := Row.new w2 77 [.bool false, .bool false, .bool false, .bool false, .bool false, .bool false, .bool false, .bool false, .bool false, .bool false, .bool false, .bool false, .bool false, .bool false, .bool false]
  have hlt : w.heap.size < w2.heap.size := rr.lt
  go_enter Tryz.func54, Tryz.ntmps54
  go_upto_region 1 with fail
  rw [← hw2]
  clear hw2
  go_wp2_with (refine wl_store rfl _ _ _ rfl w2.heap.size [.bool false, .bool false, .bool false, .bool false, .bool false, .bool false, .bool false, .bool false, .bool false, .bool false, .bool false, .bool false, .bool false, .bool false, .bool false] rfl rfl _ _ hrow rfl (by kernel_rfl) one_no ?_; intro w3 hr3 hg3)
  have ra3 : Row w3 w2.heap.size 77 [.bool false, .bool false, .bool false, .bool false, .bool false, .bool false, .bool false, .bool false, .bool false, .bool false, .bool false, .bool false, .bool false, .bool false, .bool false] := hr3.out
  have hb3 : Below w2.heap.size w2 w3 := (below_alloc w2 (.cells ([.bool false, .bool false, .bool false, .bool false, .bool false, .bool false, .bool false, .bool false, .bool false, .bool false, .bool false, .bool false, .bool false, .bool false, .bool false] : List Value).toArray 77)).trans (grown_below hg3 (by simp) (fun k hk => by cases hk; exact Nat.le_refl _))
  obtain ⟨w4, hw4⟩ : ∃ w4, w4 = (w3.alloc (.cells #[] 3)).alloc (.cells #[.int .i64 6] 3) := ⟨_, rfl⟩
  have ra4 : Row w4 w2.heap.size 77 [.bool false, .bool false, .bool false, .bool false, .bool false, .bool false, .bool false, .bool false, .bool false, .bool false, .bool false, .bool false, .bool false, .bool false, .bool false] := by rw [hw4]; exact row_alloc (row_alloc ra3 _) _
  have rr4 : Row w4 w.heap.size 77 [.bool false, .bool false, .bool false, .bool false, .bool false, .bool false, .bool false, .bool false, .bool false, .bool false, .bool false, .bool false, .bool false, .bool false, .bool false] := by rw [hw4]; exact row_alloc (row_alloc (rr.below hb3) _) _
  have lr4 : Row w4 (w3.heap.size + 1) 3 [.int .i64 6] := by
    rw [hw4]
    have := Row.new (w3.alloc (.cells #[] 3)) 3 [.int .i64 6]
    rw [show (w3.alloc (.cells #[] 3)).heap.size = w3.heap.size + 1 by simp] at this
    exact this
  have hB4 : Below w2.heap.size w2 w4 := by rw [hw4]; exact (hb3.alloc hb3.size _).alloc (Nat.le_trans hb3.size (by simp)) _
  have hlt3 : w2.heap.size < w3.heap.size := ra3.lt
  have c4 := lr4.cell (j := 0) rfl
  rw [← hw4]
  clear hw4 hr3 hg3 hrow rr hb3 ra3
  refine wp_loop_rounds 2 ?_
  rw [rounds_succ]
  go_wp2_with (refine wl_set rfl _ _ _ rfl w2.heap.size 6 _ rfl rfl _ _ ra4 (show 6 < 15 by decide) (by kernel_rfl) rfl ?_; intro w5 hr5 hg5; have ra5 : Row w5 w2.heap.size 77 [.bool false, .bool false, .bool false, .bool false, .bool false, .bool false, .bool true, .bool false, .bool false, .bool false, .bool false, .bool false, .bool false, .bool false, .bool false] := hr5.out; have rr5 := rr4.grown hg5 (fun e => by injection e; omega); have lr5 := lr4.grown hg5 (fun e => by injection e; omega); have hB5 := hB4.trans (grown_below hg5 hB4.size (fun k hk => by cases hk; exact Nat.le_refl _)); clear hr5 hg5 ra4 rr4 lr4 hB4 c4)
  rw [rounds_succ]
  go_wp2_with (first
    | (refine wl_load rfl _ _ rfl w2.heap.size rfl _ _ ra5 _ Tryz.underlying77 rfl (by kernel_rfl) ?_)
    | (refine wl_store rfl _ _ _ rfl w.heap.size [.bool false, .bool false, .bool false, .bool false, .bool false, .bool false, .bool true, .bool false, .bool false, .bool false, .bool false, .bool false, .bool false, .bool false, .bool false] rfl rfl _ _ rr5 rfl (by kernel_rfl) one_1 ?_; intro w20 hr20 hg20))
  have hr20 := hr20.out
  refine bodyPost_ret (v := .agg ([.bool false, .bool false, .bool false, .bool false, .bool false, .bool false, .bool true, .bool false, .bool false, .bool false, .bool false, .bool false, .bool false, .bool false, .bool false] : List Value).toArray) (results_cell_row rfl _ _ w.heap.size _ _ (0, 0) _ (by rfl) hr20 Tryz.underlying77 rfl (by kernel_rfl)) rfl ?_
  have hBz := below_and hB (Nat.le_refl _) hB5
  exact ⟨rfl, hBz.trans (grown_below hg20 hBz.size (fun k hk => by cases hk; exact Nat.le_refl _))⟩
set_option maxRecDepth 10000 in
set_option maxHeartbeats 4000000 in
theorem refFields_2 (w : World) : Calls Tryz.prog 54 #[.int .i64 2] w fun e w' => e = .returned (.agg (marks 2).toArray) ∧ Below w.heap.size w w' := by
  obtain ⟨w2, hw2⟩ : ∃ w2, w2 = w.alloc (.cells ([.bool false, .bool false, .bool false, .bool false, .bool false, .bool false, .bool false, .bool false, .bool false, .bool false, .bool false, .bool false, .bool false, .bool false, .bool false] : List Value).toArray 77) := ⟨_, rfl⟩
  have rr : Row w2 w.heap.size 77 [.bool false, .bool false, .bool false, .bool false, .bool false, .bool false, .bool false, .bool false, .bool false, .bool false, .bool false, .bool false, .bool false, .bool false, .bool false] := by rw [hw2]; exact Row.new w _ _
  have hB : Below w.heap.size w w2 := by rw [hw2]; exact below_alloc _ _
  have hrow := Row.new w2 77 [.bool false, .bool false, .bool false, .bool false, .bool false, .bool false, .bool false, .bool false, .bool false, .bool false, .bool false, .bool false, .bool false, .bool false, .bool false]
  have hlt : w.heap.size < w2.heap.size := rr.lt
  go_enter Tryz.func54, Tryz.ntmps54
  go_upto_region 1 with fail
  rw [← hw2]
  clear hw2
  go_wp2_with (refine wl_store rfl _ _ _ rfl w2.heap.size [.bool false, .bool false, .bool false, .bool false, .bool false, .bool false, .bool false, .bool false, .bool false, .bool false, .bool false, .bool false, .bool false, .bool false, .bool false] rfl rfl _ _ hrow rfl (by kernel_rfl) one_no ?_; intro w3 hr3 hg3)
  have ra3 : Row w3 w2.heap.size 77 [.bool false, .bool false, .bool false, .bool false, .bool false, .bool false, .bool false, .bool false, .bool false, .bool false, .bool false, .bool false, .bool false, .bool false, .bool false] := hr3.out
  have hb3 : Below w2.heap.size w2 w3 := (below_alloc w2 (.cells ([.bool false, .bool false, .bool false, .bool false, .bool false, .bool false, .bool false, .bool false, .bool false, .bool false, .bool false, .bool false, .bool false, .bool false, .bool false] : List Value).toArray 77)).trans (grown_below hg3 (by simp) (fun k hk => by cases hk; exact Nat.le_refl _))
  obtain ⟨w4, hw4⟩ : ∃ w4, w4 = (w3.alloc (.cells #[] 3)).alloc (.cells #[.int .i64 0, .int .i64 1, .int .i64 6, .int .i64 11] 3) := ⟨_, rfl⟩
  have ra4 : Row w4 w2.heap.size 77 [.bool false, .bool false, .bool false, .bool false, .bool false, .bool false, .bool false, .bool false, .bool false, .bool false, .bool false, .bool false, .bool false, .bool false, .bool false] := by rw [hw4]; exact row_alloc (row_alloc ra3 _) _
  have rr4 : Row w4 w.heap.size 77 [.bool false, .bool false, .bool false, .bool false, .bool false, .bool false, .bool false, .bool false, .bool false, .bool false, .bool false, .bool false, .bool false, .bool false, .bool false] := by rw [hw4]; exact row_alloc (row_alloc (rr.below hb3) _) _
  have lr4 : Row w4 (w3.heap.size + 1) 3 [.int .i64 0, .int .i64 1, .int .i64 6, .int .i64 11] := by
    rw [hw4]
    have := Row.new (w3.alloc (.cells #[] 3)) 3 [.int .i64 0, .int .i64 1, .int .i64 6, .int .i64 11]
    rw [show (w3.alloc (.cells #[] 3)).heap.size = w3.heap.size + 1 by simp] at this
    exact this
  have hB4 : Below w2.heap.size w2 w4 := by rw [hw4]; exact (hb3.alloc hb3.size _).alloc (Nat.le_trans hb3.size (by simp)) _
  have hlt3 : w2.heap.size < w3.heap.size := ra3.lt
  have c4 := lr4.cell (j := 0) rfl
  rw [← hw4]
  clear hw4 hr3 hg3 hrow rr hb3 ra3
  refine wp_loop_rounds 5 ?_
  rw [rounds_succ]
  go_wp2_with (refine wl_set rfl _ _ _ rfl w2.heap.size 0 _ rfl rfl _ _ ra4 (show 0 < 15 by decide) (by kernel_rfl) rfl ?_; intro w5 hr5 hg5; have ra5 : Row w5 w2.heap.size 77 [.bool true, .bool false, .bool false, .bool false, .bool false, .bool false, .bool false, .bool false, .bool false, .bool false, .bool false, .bool false, .bool false, .bool false, .bool false] := hr5.out; have rr5 := rr4.grown hg5 (fun e => by injection e; omega); have lr5 := lr4.grown hg5 (fun e => by injection e; omega); have hB5 := hB4.trans (grown_below hg5 hB4.size (fun k hk => by cases hk; exact Nat.le_refl _)); have c5 := lr5.cell (j := 1) rfl; clear hr5 hg5 ra4 rr4 lr4 hB4 c4)
  rw [rounds_succ]
  go_wp2_with (refine wl_set rfl _ _ _ rfl w2.heap.size 1 _ rfl rfl _ _ ra5 (show 1 < 15 by decide) (by kernel_rfl) rfl ?_; intro w6 hr6 hg6; have ra6 : Row w6 w2.heap.size 77 [.bool true, .bool true, .bool false, .bool false, .bool false, .bool false, .bool false, .bool false, .bool false, .bool false, .bool false, .bool false, .bool false, .bool false, .bool false] := hr6.out; have rr6 := rr5.grown hg6 (fun e => by injection e; omega); have lr6 := lr5.grown hg6 (fun e => by injection e; omega); have hB6 := hB5.trans (grown_below hg6 hB5.size (fun k hk => by cases hk; exact Nat.le_refl _)); have c6 := lr6.cell (j := 2) rfl; clear hr6 hg6 ra5 rr5 lr5 hB5 c5)
  rw [rounds_succ]
  go_wp2_with (refine wl_set rfl _ _ _ rfl w2.heap.size 6 _ rfl rfl _ _ ra6 (show 6 < 15 by decide) (by kernel_rfl) rfl ?_; intro w7 hr7 hg7; have ra7 : Row w7 w2.heap.size 77 [.bool true, .bool true, .bool false, .bool false, .bool false, .bool false, .bool true, .bool false, .bool false, .bool false, .bool false, .bool false, .bool false, .bool false, .bool false] := hr7.out; have rr7 := rr6.grown hg7 (fun e => by injection e; omega); have lr7 := lr6.grown hg7 (fun e => by injection e; omega); have hB7 := hB6.trans (grown_below hg7 hB6.size (fun k hk => by cases hk; exact Nat.le_refl _)); have c7 := lr7.cell (j := 3) rfl; clear hr7 hg7 ra6 rr6 lr6 hB6 c6)
  rw [rounds_succ]
  go_wp2_with (refine wl_set rfl _ _ _ rfl w2.heap.size 11 _ rfl rfl _ _ ra7 (show 11 < 15 by decide) (by kernel_rfl) rfl ?_; intro w8 hr8 hg8; have ra8 : Row w8 w2.heap.size 77 [.bool true, .bool true, .bool false, .bool false, .bool false, .bool false, .bool true, .bool false, .bool false, .bool false, .bool false, .bool true, .bool false, .bool false, .bool false] := hr8.out; have rr8 := rr7.grown hg8 (fun e => by injection e; omega); have lr8 := lr7.grown hg8 (fun e => by injection e; omega); have hB8 := hB7.trans (grown_below hg8 hB7.size (fun k hk => by cases hk; exact Nat.le_refl _)); clear hr8 hg8 ra7 rr7 lr7 hB7 c7)
  rw [rounds_succ]
  go_wp2_with (first
    | (refine wl_load rfl _ _ rfl w2.heap.size rfl _ _ ra8 _ Tryz.underlying77 rfl (by kernel_rfl) ?_)
    | (refine wl_store rfl _ _ _ rfl w.heap.size [.bool true, .bool true, .bool false, .bool false, .bool false, .bool false, .bool true, .bool false, .bool false, .bool false, .bool false, .bool true, .bool false, .bool false, .bool false] rfl rfl _ _ rr8 rfl (by kernel_rfl) one_2 ?_; intro w20 hr20 hg20))
  have hr20 := hr20.out
  refine bodyPost_ret (v := .agg ([.bool true, .bool true, .bool false, .bool false, .bool false, .bool false, .bool true, .bool false, .bool false, .bool false, .bool false, .bool true, .bool false, .bool false, .bool false] : List Value).toArray) (results_cell_row rfl _ _ w.heap.size _ _ (0, 0) _ (by rfl) hr20 Tryz.underlying77 rfl (by kernel_rfl)) rfl ?_
  have hBz := below_and hB (Nat.le_refl _) hB8
  exact ⟨rfl, hBz.trans (grown_below hg20 hBz.size (fun k hk => by cases hk; exact Nat.le_refl _))⟩
set_option maxRecDepth 10000 in
set_option maxHeartbeats 4000000 in
theorem refFields_3 (w : World) : Calls Tryz.prog 54 #[.int .i64 3] w fun e w' => e = .returned (.agg (marks 3).toArray) ∧ Below w.heap.size w w' := by
  obtain ⟨w2, hw2⟩ : ∃ w2, w2 = w.alloc (.cells ([.bool false, .bool false, .bool false, .bool false, .bool false, .bool false, .bool false, .bool false, .bool false, .bool false, .bool false, .bool false, .bool false, .bool false, .bool false] : List Value).toArray 77) := ⟨_, rfl⟩
  have rr : Row w2 w.heap.size 77 [.bool false, .bool false, .bool false, .bool false, .bool false, .bool false, .bool false, .bool false, .bool false, .bool false, .bool false, .bool false, .bool false, .bool false, .bool false] := by rw [hw2]; exact Row.new w _ _
  have hB : Below w.heap.size w w2 := by rw [hw2]; exact below_alloc _ _
  have hrow := Row.new w2 77 [.bool false, .bool false, .bool false, .bool false, .bool false, .bool false, .bool false, .bool false, .bool false, .bool false, .bool false, .bool false, .bool false, .bool false, .bool false]
  have hlt : w.heap.size < w2.heap.size := rr.lt
  go_enter Tryz.func54, Tryz.ntmps54
  go_upto_region 1 with fail
  rw [← hw2]
  clear hw2
  go_wp2_with (refine wl_store rfl _ _ _ rfl w2.heap.size [.bool false, .bool false, .bool false, .bool false, .bool false, .bool false, .bool false, .bool false, .bool false, .bool false, .bool false, .bool false, .bool false, .bool false, .bool false] rfl rfl _ _ hrow rfl (by kernel_rfl) one_no ?_; intro w3 hr3 hg3)
  have ra3 : Row w3 w2.heap.size 77 [.bool false, .bool false, .bool false, .bool false, .bool false, .bool false, .bool false, .bool false, .bool false, .bool false, .bool false, .bool false, .bool false, .bool false, .bool false] := hr3.out
  have hb3 : Below w2.heap.size w2 w3 := (below_alloc w2 (.cells ([.bool false, .bool false, .bool false, .bool false, .bool false, .bool false, .bool false, .bool false, .bool false, .bool false, .bool false, .bool false, .bool false, .bool false, .bool false] : List Value).toArray 77)).trans (grown_below hg3 (by simp) (fun k hk => by cases hk; exact Nat.le_refl _))
  obtain ⟨w4, hw4⟩ : ∃ w4, w4 = (w3.alloc (.cells #[] 3)).alloc (.cells #[.int .i64 0, .int .i64 1, .int .i64 6, .int .i64 10, .int .i64 11] 3) := ⟨_, rfl⟩
  have ra4 : Row w4 w2.heap.size 77 [.bool false, .bool false, .bool false, .bool false, .bool false, .bool false, .bool false, .bool false, .bool false, .bool false, .bool false, .bool false, .bool false, .bool false, .bool false] := by rw [hw4]; exact row_alloc (row_alloc ra3 _) _
  have rr4 : Row w4 w.heap.size 77 [.bool false, .bool false, .bool false, .bool false, .bool false, .bool false, .bool false, .bool false, .bool false, .bool false, .bool false, .bool false, .bool false, .bool false, .bool false] := by rw [hw4]; exact row_alloc (row_alloc (rr.below hb3) _) _
  have lr4 : Row w4 (w3.heap.size + 1) 3 [.int .i64 0, .int .i64 1, .int .i64 6, .int .i64 10, .int .i64 11] := by
    rw [hw4]
    have := Row.new (w3.alloc (.cells #[] 3)) 3 [.int .i64 0, .int .i64 1, .int .i64 6, .int .i64 10, .int .i64 11]
    rw [show (w3.alloc (.cells #[] 3)).heap.size = w3.heap.size + 1 by simp] at this
    exact this
  have hB4 : Below w2.heap.size w2 w4 := by rw [hw4]; exact (hb3.alloc hb3.size _).alloc (Nat.le_trans hb3.size (by simp)) _
  have hlt3 : w2.heap.size < w3.heap.size := ra3.lt
  have c4 := lr4.cell (j := 0) rfl
  rw [← hw4]
  clear hw4 hr3 hg3 hrow rr hb3 ra3
  refine wp_loop_rounds 6 ?_
  rw [rounds_succ]
  go_wp2_with (refine wl_set rfl _ _ _ rfl w2.heap.size 0 _ rfl rfl _ _ ra4 (show 0 < 15 by decide) (by kernel_rfl) rfl ?_; intro w5 hr5 hg5; have ra5 : Row w5 w2.heap.size 77 [.bool true, .bool false, .bool false, .bool false, .bool false, .bool false, .bool false, .bool false, .bool false, .bool false, .bool false, .bool false, .bool false, .bool false, .bool false] := hr5.out; have rr5 := rr4.grown hg5 (fun e => by injection e; omega); have lr5 := lr4.grown hg5 (fun e => by injection e; omega); have hB5 := hB4.trans (grown_below hg5 hB4.size (fun k hk => by cases hk; exact Nat.le_refl _)); have c5 := lr5.cell (j := 1) rfl; clear hr5 hg5 ra4 rr4 lr4 hB4 c4)
  rw [rounds_succ]
  go_wp2_with (refine wl_set rfl _ _ _ rfl w2.heap.size 1 _ rfl rfl _ _ ra5 (show 1 < 15 by decide) (by kernel_rfl) rfl ?_; intro w6 hr6 hg6; have ra6 : Row w6 w2.heap.size 77 [.bool true, .bool true, .bool false, .bool false, .bool false, .bool false, .bool false, .bool false, .bool false, .bool false, .bool false, .bool false, .bool false, .bool false, .bool false] := hr6.out; have rr6 := rr5.grown hg6 (fun e => by injection e; omega); have lr6 := lr5.grown hg6 (fun e => by injection e; omega); have hB6 := hB5.trans (grown_below hg6 hB5.size (fun k hk => by cases hk; exact Nat.le_refl _)); have c6 := lr6.cell (j := 2) rfl; clear hr6 hg6 ra5 rr5 lr5 hB5 c5)
  rw [rounds_succ]
  go_wp2_with (refine wl_set rfl _ _ _ rfl w2.heap.size 6 _ rfl rfl _ _ ra6 (show 6 < 15 by decide) (by kernel_rfl) rfl ?_; intro w7 hr7 hg7; have ra7 : Row w7 w2.heap.size 77 [.bool true, .bool true, .bool false, .bool false, .bool false, .bool false, .bool true, .bool false, .bool false, .bool false, .bool false, .bool false, .bool false, .bool false, .bool false] := hr7.out; have rr7 := rr6.grown hg7 (fun e => by injection e; omega); have lr7 := lr6.grown hg7 (fun e => by injection e; omega); have hB7 := hB6.trans (grown_below hg7 hB6.size (fun k hk => by cases hk; exact Nat.le_refl _)); have c7 := lr7.cell (j := 3) rfl; clear hr7 hg7 ra6 rr6 lr6 hB6 c6)
  rw [rounds_succ]
  go_wp2_with (refine wl_set rfl _ _ _ rfl w2.heap.size 10 _ rfl rfl _ _ ra7 (show 10 < 15 by decide) (by kernel_rfl) rfl ?_; intro w8 hr8 hg8; have ra8 : Row w8 w2.heap.size 77 [.bool true, .bool true, .bool false, .bool false, .bool false, .bool false, .bool true, .bool false, .bool false, .bool false, .bool true, .bool false, .bool false, .bool false, .bool false] := hr8.out; have rr8 := rr7.grown hg8 (fun e => by injection e; omega); have lr8 := lr7.grown hg8 (fun e => by injection e; omega); have hB8 := hB7.trans (grown_below hg8 hB7.size (fun k hk => by cases hk; exact Nat.le_refl _)); have c8 := lr8.cell (j := 4) rfl; clear hr8 hg8 ra7 rr7 lr7 hB7 c7)
  rw [rounds_succ]
  go_wp2_with (refine wl_set rfl _ _ _ rfl w2.heap.size 11 _ rfl rfl _ _ ra8 (show 11 < 15 by decide) (by kernel_rfl) rfl ?_; intro w9 hr9 hg9; have ra9 : Row w9 w2.heap.size 77 [.bool true, .bool true, .bool false, .bool false, .bool false, .bool false, .bool true, .bool false, .bool false, .bool false, .bool true, .bool true, .bool false, .bool false, .bool false] := hr9.out; have rr9 := rr8.grown hg9 (fun e => by injection e; omega); have lr9 := lr8.grown hg9 (fun e => by injection e; omega); have hB9 := hB8.trans (grown_below hg9 hB8.size (fun k hk => by cases hk; exact Nat.le_refl _)); clear hr9 hg9 ra8 rr8 lr8 hB8 c8)
  rw [rounds_succ]
  go_wp2_with (first
    | (refine wl_load rfl _ _ rfl w2.heap.size rfl _ _ ra9 _ Tryz.underlying77 rfl (by kernel_rfl) ?_)
    | (refine wl_store rfl _ _ _ rfl w.heap.size [.bool true, .bool true, .bool false, .bool false, .bool false, .bool false, .bool true, .bool false, .bool false, .bool false, .bool true, .bool true, .bool false, .bool false, .bool false] rfl rfl _ _ rr9 rfl (by kernel_rfl) one_3 ?_; intro w20 hr20 hg20))
  have hr20 := hr20.out
  refine bodyPost_ret (v := .agg ([.bool true, .bool true, .bool false, .bool false, .bool false, .bool false, .bool true, .bool false, .bool false, .bool false, .bool true, .bool true, .bool false, .bool false, .bool false] : List Value).toArray) (results_cell_row rfl _ _ w.heap.size _ _ (0, 0) _ (by rfl) hr20 Tryz.underlying77 rfl (by kernel_rfl)) rfl ?_
  have hBz := below_and hB (Nat.le_refl _) hB9
  exact ⟨rfl, hBz.trans (grown_below hg20 hBz.size (fun k hk => by cases hk; exact Nat.le_refl _))⟩
set_option maxRecDepth 10000 in
set_option maxHeartbeats 4000000 in
theorem refFields_4 (w : World) : Calls Tryz.prog 54 #[.int .i64 4] w fun e w' => e = .returned (.agg (marks 4).toArray) ∧ Below w.heap.size w w' := by
  obtain ⟨w2, hw2⟩ : ∃ w2, w2 = w.alloc (.cells ([.bool false, .bool false, .bool false, .bool false, .bool false, .bool false, .bool false, .bool false, .bool false, .bool false, .bool false, .bool false, .bool false, .bool false, .bool false] : List Value).toArray 77) := ⟨_, rfl⟩
  have rr : Row w2 w.heap.size 77 [.bool false, .bool false, .bool false, .bool false, .bool false, .bool false, .bool false, .bool false, .bool false, .bool false, .bool false, .bool false, .bool false, .bool false, .bool false] := by rw [hw2]; exact Row.new w _ _
  have hB : Below w.heap.size w w2 := by rw [hw2]; exact below_alloc _ _
  have hrow := Row.new w2 77 [.bool false, .bool false, .bool false, .bool false, .bool false, .bool false, .bool false, .bool false, .bool false, .bool false, .bool false, .bool false, .bool false, .bool false, .bool false]
  have hlt : w.heap.size < w2.heap.size := rr.lt
  go_enter Tryz.func54, Tryz.ntmps54
  go_upto_region 1 with fail
  rw [← hw2]
  clear hw2
  go_wp2_with (refine wl_store rfl _ _ _ rfl w2.heap.size [.bool false, .bool false, .bool false, .bool false, .bool false, .bool false, .bool false, .bool false, .bool false, .bool false, .bool false, .bool false, .bool false, .bool false, .bool false] rfl rfl _ _ hrow rfl (by kernel_rfl) one_no ?_; intro w3 hr3 hg3)
  have ra3 : Row w3 w2.heap.size 77 [.bool false, .bool false, .bool false, .bool false, .bool false, .bool false, .bool false, .bool false, .bool false, .bool false, .bool false, .bool false, .bool false, .bool false, .bool false] := hr3.out
  have hb3 : Below w2.heap.size w2 w3 := (below_alloc w2 (.cells ([.bool false, .bool false, .bool false, .bool false, .bool false, .bool false, .bool false, .bool false, .bool false, .bool false, .bool false, .bool false, .bool false, .bool false, .bool false] : List Value).toArray 77)).trans (grown_below hg3 (by simp) (fun k hk => by cases hk; exact Nat.le_refl _))
  obtain ⟨w4, hw4⟩ : ∃ w4, w4 = (w3.alloc (.cells #[] 3)).alloc (.cells #[.int .i64 0, .int .i64 1, .int .i64 6, .int .i64 11] 3) := ⟨_, rfl⟩
  have ra4 : Row w4 w2.heap.size 77 [.bool false, .bool false, .bool false, .bool false, .bool false, .bool false, .bool false, .bool false, .bool false, .bool false, .bool false, .bool false, .bool false, .bool false, .bool false] := by rw [hw4]; exact row_alloc (row_alloc ra3 _) _
  have rr4 : Row w4 w.heap.size 77 [.bool false, .bool false, .bool false, .bool false, .bool false, .bool false, .bool false, .bool false, .bool false, .bool false, .bool false, .bool false, .bool false, .bool false, .bool false] := by rw [hw4]; exact row_alloc (row_alloc (rr.below hb3) _) _
  have lr4 : Row w4 (w3.heap.size + 1) 3 [.int .i64 0, .int .i64 1, .int .i64 6, .int .i64 11] := by
    rw [hw4]
    have := Row.new (w3.alloc (.cells #[] 3)) 3 [.int .i64 0, .int .i64 1, .int .i64 6, .int .i64 11]
    rw [show (w3.alloc (.cells #[] 3)).heap.size = w3.heap.size + 1 by simp] at this
    exact this
  have hB4 : Below w2.heap.size w2 w4 := by rw [hw4]; exact (hb3.alloc hb3.size _).alloc (Nat.le_trans hb3.size (by simp)) _
  have hlt3 : w2.heap.size < w3.heap.size := ra3.lt
  have c4 := lr4.cell (j := 0) rfl
  rw [← hw4]
  clear hw4 hr3 hg3 hrow rr hb3 ra3
  refine wp_loop_rounds 5 ?_
  rw [rounds_succ]
  go_wp2_with (refine wl_set rfl _ _ _ rfl w2.heap.size 0 _ rfl rfl _ _ ra4 (show 0 < 15 by decide) (by kernel_rfl) rfl ?_; intro w5 hr5 hg5; have ra5 : Row w5 w2.heap.size 77 [.bool true, .bool false, .bool false, .bool false, .bool false, .bool false, .bool false, .bool false, .bool false, .bool false, .bool false, .bool false, .bool false, .bool false, .bool false] := hr5.out; have rr5 := rr4.grown hg5 (fun e => by injection e; omega); have lr5 := lr4.grown hg5 (fun e => by injection e; omega); have hB5 := hB4.trans (grown_below hg5 hB4.size (fun k hk => by cases hk; exact Nat.le_refl _)); have c5 := lr5.cell (j := 1) rfl; clear hr5 hg5 ra4 rr4 lr4 hB4 c4)
  rw [rounds_succ]
  go_wp2_with (refine wl_set rfl _ _ _ rfl w2.heap.size 1 _ rfl rfl _ _ ra5 (show 1 < 15 by decide) (by kernel_rfl) rfl ?_; intro w6 hr6 hg6; have ra6 : Row w6 w2.heap.size 77 [.bool true, .bool true, .bool false, .bool false, .bool false, .bool false, .bool false, .bool false, .bool false, .bool false, .bool false, .bool false, .bool false, .bool false, .bool false] := hr6.out; have rr6 := rr5.grown hg6 (fun e => by injection e; omega); have lr6 := lr5.grown hg6 (fun e => by injection e; omega); have hB6 := hB5.trans (grown_below hg6 hB5.size (fun k hk => by cases hk; exact Nat.le_refl _)); have c6 := lr6.cell (j := 2) rfl; clear hr6 hg6 ra5 rr5 lr5 hB5 c5)
  rw [rounds_succ]
  go_wp2_with (refine wl_set rfl _ _ _ rfl w2.heap.size 6 _ rfl rfl _ _ ra6 (show 6 < 15 by decide) (by kernel_rfl) rfl ?_; intro w7 hr7 hg7; have ra7 : Row w7 w2.heap.size 77 [.bool true, .bool true, .bool false, .bool false, .bool false, .bool false, .bool true, .bool false, .bool false, .bool false, .bool false, .bool false, .bool false, .bool false, .bool false] := hr7.out; have rr7 := rr6.grown hg7 (fun e => by injection e; omega); have lr7 := lr6.grown hg7 (fun e => by injection e; omega); have hB7 := hB6.trans (grown_below hg7 hB6.size (fun k hk => by cases hk; exact Nat.le_refl _)); have c7 := lr7.cell (j := 3) rfl; clear hr7 hg7 ra6 rr6 lr6 hB6 c6)
  rw [rounds_succ]
  go_wp2_with (refine wl_set rfl _ _ _ rfl w2.heap.size 11 _ rfl rfl _ _ ra7 (show 11 < 15 by decide) (by kernel_rfl) rfl ?_; intro w8 hr8 hg8; have ra8 : Row w8 w2.heap.size 77 [.bool true, .bool true, .bool false, .bool false, .bool false, .bool false, .bool true, .bool false, .bool false, .bool false, .bool false, .bool true, .bool false, .bool false, .bool false] := hr8.out; have rr8 := rr7.grown hg8 (fun e => by injection e; omega); have lr8 := lr7.grown hg8 (fun e => by injection e; omega); have hB8 := hB7.trans (grown_below hg8 hB7.size (fun k hk => by cases hk; exact Nat.le_refl _)); clear hr8 hg8 ra7 rr7 lr7 hB7 c7)
  rw [rounds_succ]
  go_wp2_with (first
    | (refine wl_load rfl _ _ rfl w2.heap.size rfl _ _ ra8 _ Tryz.underlying77 rfl (by kernel_rfl) ?_)
    | (refine wl_store rfl _ _ _ rfl w.heap.size [.bool true, .bool true, .bool false, .bool false, .bool false, .bool false, .bool true, .bool false, .bool false, .bool false, .bool false, .bool true, .bool false, .bool false, .bool false] rfl rfl _ _ rr8 rfl (by kernel_rfl) one_4 ?_; intro w20 hr20 hg20))
  have hr20 := hr20.out
  refine bodyPost_ret (v := .agg ([.bool true, .bool true, .bool false, .bool false, .bool false, .bool false, .bool true, .bool false, .bool false, .bool false, .bool false, .bool true, .bool false, .bool false, .bool false] : List Value).toArray) (results_cell_row rfl _ _ w.heap.size _ _ (0, 0) _ (by rfl) hr20 Tryz.underlying77 rfl (by kernel_rfl)) rfl ?_
  have hBz := below_and hB (Nat.le_refl _) hB8
  exact ⟨rfl, hBz.trans (grown_below hg20 hBz.size (fun k hk => by cases hk; exact Nat.le_refl _))⟩
set_option maxRecDepth 10000 in
set_option maxHeartbeats 4000000 in
theorem refFields_5 (w : World) : Calls Tryz.prog 54 #[.int .i64 5] w fun e w' => e = .returned (.agg (marks 5).toArray) ∧ Below w.heap.size w w' := by
  obtain ⟨w2, hw2⟩ : ∃ w2, w2 = w.alloc (.cells ([.bool false, .bool false, .bool false, .bool false, .bool false, .bool false, .bool false, .bool false, .bool false, .bool false, .bool false, .bool false, .bool false, .bool false, .bool false] : List Value).toArray 77) := ⟨_, rfl⟩
  have rr : Row w2 w.heap.size 77 [.bool false, .bool false, .bool false, .bool false, .bool false, .bool false, .bool false, .bool false, .bool false, .bool false, .bool false, .bool false, .bool false, .bool false, .bool false] := by rw [hw2]; exact Row.new w _ _
  have hB : Below w.heap.size w w2 := by rw [hw2]; exact below_alloc _ _
  have hrow := Row.new w2 77 [.bool false, .bool false, .bool false, .bool false, .bool false, .bool false, .bool false, .bool false, .bool false, .bool false, .bool false, .bool false, .bool false, .bool false, .bool false]
  have hlt : w.heap.size < w2.heap.size := rr.lt
  go_enter Tryz.func54, Tryz.ntmps54
  go_upto_region 1 with fail
  rw [← hw2]
  clear hw2
  go_wp2_with (refine wl_store rfl _ _ _ rfl w2.heap.size [.bool false, .bool false, .bool false, .bool false, .bool false, .bool false, .bool false, .bool false, .bool false, .bool false, .bool false, .bool false, .bool false, .bool false, .bool false] rfl rfl _ _ hrow rfl (by kernel_rfl) one_no ?_; intro w3 hr3 hg3)
  have ra3 : Row w3 w2.heap.size 77 [.bool false, .bool false, .bool false, .bool false, .bool false, .bool false, .bool false, .bool false, .bool false, .bool false, .bool false, .bool false, .bool false, .bool false, .bool false] := hr3.out
  have hb3 : Below w2.heap.size w2 w3 := (below_alloc w2 (.cells ([.bool false, .bool false, .bool false, .bool false, .bool false, .bool false, .bool false, .bool false, .bool false, .bool false, .bool false, .bool false, .bool false, .bool false, .bool false] : List Value).toArray 77)).trans (grown_below hg3 (by simp) (fun k hk => by cases hk; exact Nat.le_refl _))
  obtain ⟨w4, hw4⟩ : ∃ w4, w4 = (w3.alloc (.cells #[] 3)).alloc (.cells #[.int .i64 2, .int .i64 3, .int .i64 4, .int .i64 8, .int .i64 9] 3) := ⟨_, rfl⟩
  have ra4 : Row w4 w2.heap.size 77 [.bool false, .bool false, .bool false, .bool false, .bool false, .bool false, .bool false, .bool false, .bool false, .bool false, .bool false, .bool false, .bool false, .bool false, .bool false] := by rw [hw4]; exact row_alloc (row_alloc ra3 _) _
  have rr4 : Row w4 w.heap.size 77 [.bool false, .bool false, .bool false, .bool false, .bool false, .bool false, .bool false, .bool false, .bool false, .bool false, .bool false, .bool false, .bool false, .bool false, .bool false] := by rw [hw4]; exact row_alloc (row_alloc (rr.below hb3) _) _
  have lr4 : Row w4 (w3.heap.size + 1) 3 [.int .i64 2, .int .i64 3, .int .i64 4, .int .i64 8, .int .i64 9] := by
    rw [hw4]
    have := Row.new (w3.alloc (.cells #[] 3)) 3 [.int .i64 2, .int .i64 3, .int .i64 4, .int .i64 8, .int .i64 9]
    rw [show (w3.alloc (.cells #[] 3)).heap.size = w3.heap.size + 1 by simp] at this
    exact this
  have hB4 : Below w2.heap.size w2 w4 := by rw [hw4]; exact (hb3.alloc hb3.size _).alloc (Nat.le_trans hb3.size (by simp)) _
  have hlt3 : w2.heap.size < w3.heap.size := ra3.lt
  have c4 := lr4.cell (j := 0) rfl
  rw [← hw4]
  clear hw4 hr3 hg3 hrow rr hb3 ra3
  refine wp_loop_rounds 6 ?_
  rw [rounds_succ]
  go_wp2_with (refine wl_set rfl _ _ _ rfl w2.heap.size 2 _ rfl rfl _ _ ra4 (show 2 < 15 by decide) (by kernel_rfl) rfl ?_; intro w5 hr5 hg5; have ra5 : Row w5 w2.heap.size 77 [.bool false, .bool false, .bool true, .bool false, .bool false, .bool false, .bool false, .bool false, .bool false, .bool false, .bool false, .bool false, .bool false, .bool false, .bool false] := hr5.out; have rr5 := rr4.grown hg5 (fun e => by injection e; omega); have lr5 := lr4.grown hg5 (fun e => by injection e; omega); have hB5 := hB4.trans (grown_below hg5 hB4.size (fun k hk => by cases hk; exact Nat.le_refl _)); have c5 := lr5.cell (j := 1) rfl; clear hr5 hg5 ra4 rr4 lr4 hB4 c4)
  rw [rounds_succ]
  go_wp2_with (refine wl_set rfl _ _ _ rfl w2.heap.size 3 _ rfl rfl _ _ ra5 (show 3 < 15 by decide) (by kernel_rfl) rfl ?_; intro w6 hr6 hg6; have ra6 : Row w6 w2.heap.size 77 [.bool false, .bool false, .bool true, .bool true, .bool false, .bool false, .bool false, .bool false, .bool false, .bool false, .bool false, .bool false, .bool false, .bool false, .bool false] := hr6.out; have rr6 := rr5.grown hg6 (fun e => by injection e; omega); have lr6 := lr5.grown hg6 (fun e => by injection e; omega); have hB6 := hB5.trans (grown_below hg6 hB5.size (fun k hk => by cases hk; exact Nat.le_refl _)); have c6 := lr6.cell (j := 2) rfl; clear hr6 hg6 ra5 rr5 lr5 hB5 c5)
  rw [rounds_succ]
  go_wp2_with (refine wl_set rfl _ _ _ rfl w2.heap.size 4 _ rfl rfl _ _ ra6 (show 4 < 15 by decide) (by kernel_rfl) rfl ?_; intro w7 hr7 hg7; have ra7 : Row w7 w2.heap.size 77 [.bool false, .bool false, .bool true, .bool true, .bool true, .bool false, .bool false, .bool false, .bool false, .bool false, .bool false, .bool false, .bool false, .bool false, .bool false] := hr7.out; have rr7 := rr6.grown hg7 (fun e => by injection e; omega); have lr7 := lr6.grown hg7 (fun e => by injection e; omega); have hB7 := hB6.trans (grown_below hg7 hB6.size (fun k hk => by cases hk; exact Nat.le_refl _)); have c7 := lr7.cell (j := 3) rfl; clear hr7 hg7 ra6 rr6 lr6 hB6 c6)
  rw [rounds_succ]
  go_wp2_with (refine wl_set rfl _ _ _ rfl w2.heap.size 8 _ rfl rfl _ _ ra7 (show 8 < 15 by decide) (by kernel_rfl) rfl ?_; intro w8 hr8 hg8; have ra8 : Row w8 w2.heap.size 77 [.bool false, .bool false, .bool true, .bool true, .bool true, .bool false, .bool false, .bool false, .bool true, .bool false, .bool false, .bool false, .bool false, .bool false, .bool false] := hr8.out; have rr8 := rr7.grown hg8 (fun e => by injection e; omega); have lr8 := lr7.grown hg8 (fun e => by injection e; omega); have hB8 := hB7.trans (grown_below hg8 hB7.size (fun k hk => by cases hk; exact Nat.le_refl _)); have c8 := lr8.cell (j := 4) rfl; clear hr8 hg8 ra7 rr7 lr7 hB7 c7)
  rw [rounds_succ]
  go_wp2_with (refine wl_set rfl _ _ _ rfl w2.heap.size 9 _ rfl rfl _ _ ra8 (show 9 < 15 by decide) (by kernel_rfl) rfl ?_; intro w9 hr9 hg9; have ra9 : Row w9 w2.heap.size 77 [.bool false, .bool false, .bool true, .bool true, .bool true, .bool false, .bool false, .bool false, .bool true, .bool true, .bool false, .bool false, .bool false, .bool false, .bool false] := hr9.out; have rr9 := rr8.grown hg9 (fun e => by injection e; omega); have lr9 := lr8.grown hg9 (fun e => by injection e; omega); have hB9 := hB8.trans (grown_below hg9 hB8.size (fun k hk => by cases hk; exact Nat.le_refl _)); clear hr9 hg9 ra8 rr8 lr8 hB8 c8)
  rw [rounds_succ]
  go_wp2_with (first
    | (refine wl_load rfl _ _ rfl w2.heap.size rfl _ _ ra9 _ Tryz.underlying77 rfl (by kernel_rfl) ?_)
    | (refine wl_store rfl _ _ _ rfl w.heap.size [.bool false, .bool false, .bool true, .bool true, .bool true, .bool false, .bool false, .bool false, .bool true, .bool true, .bool false, .bool false, .bool false, .bool false, .bool false] rfl rfl _ _ rr9 rfl (by kernel_rfl) one_5 ?_; intro w20 hr20 hg20))
  have hr20 := hr20.out
  refine bodyPost_ret (v := .agg ([.bool false, .bool false, .bool true, .bool true, .bool true, .bool false, .bool false, .bool false, .bool true, .bool true, .bool false, .bool false, .bool false, .bool false, .bool false] : List Value).toArray) (results_cell_row rfl _ _ w.heap.size _ _ (0, 0) _ (by rfl) hr20 Tryz.underlying77 rfl (by kernel_rfl)) rfl ?_
  have hBz := below_and hB (Nat.le_refl _) hB9
  exact ⟨rfl, hBz.trans (grown_below hg20 hBz.size (fun k hk => by cases hk; exact Nat.le_refl _))⟩
set_option maxRecDepth 10000 in
set_option maxHeartbeats 4000000 in
theorem refFields_6 (w : World) : Calls Tryz.prog 54 #[.int .i64 6] w fun e w' => e = .returned (.agg (marks 6).toArray) ∧ Below w.heap.size w w' := by
  obtain ⟨w2, hw2⟩ : ∃ w2, w2 = w.alloc (.cells ([.bool false, .bool false, .bool false, .bool false, .bool false, .bool false, .bool false, .bool false, .bool false, .bool false, .bool false, .bool false, .bool false, .bool false, .bool false] : List Value).toArray 77) := ⟨_, rfl⟩
  have rr : Row w2 w.heap.size 77 [.bool false, .bool false, .bool false, .bool false, .bool false, .bool false, .bool false, .bool false, .bool false, .bool false, .bool false, .bool false, .bool false, .bool false, .bool false] := by rw [hw2]; exact Row.new w _ _
  have hB : Below w.heap.size w w2 := by rw [hw2]; exact below_alloc _ _
  have hrow := Row.new w2 77 [.bool false, .bool false, .bool false, .bool false, .bool false, .bool false, .bool false, .bool false, .bool false, .bool false, .bool false, .bool false, .bool false, .bool false, .bool false]
  have hlt : w.heap.size < w2.heap.size := rr.lt
  go_enter Tryz.func54, Tryz.ntmps54
  go_upto_region 1 with fail
  rw [← hw2]
  clear hw2
  go_wp2_with (refine wl_store rfl _ _ _ rfl w2.heap.size [.bool false, .bool false, .bool false, .bool false, .bool false, .bool false, .bool false, .bool false, .bool false, .bool false, .bool false, .bool false, .bool false, .bool false, .bool false] rfl rfl _ _ hrow rfl (by kernel_rfl) one_no ?_; intro w3 hr3 hg3)
  have ra3 : Row w3 w2.heap.size 77 [.bool false, .bool false, .bool false, .bool false, .bool false, .bool false, .bool false, .bool false, .bool false, .bool false, .bool false, .bool false, .bool false, .bool false, .bool false] := hr3.out
  have hb3 : Below w2.heap.size w2 w3 := (below_alloc w2 (.cells ([.bool false, .bool false, .bool false, .bool false, .bool false, .bool false, .bool false, .bool false, .bool false, .bool false, .bool false, .bool false, .bool false, .bool false, .bool false] : List Value).toArray 77)).trans (grown_below hg3 (by simp) (fun k hk => by cases hk; exact Nat.le_refl _))
  obtain ⟨w4, hw4⟩ : ∃ w4, w4 = (w3.alloc (.cells #[] 3)).alloc (.cells #[.int .i64 0, .int .i64 2, .int .i64 3, .int .i64 9] 3) := ⟨_, rfl⟩
  have ra4 : Row w4 w2.heap.size 77 [.bool false, .bool false, .bool false, .bool false, .bool false, .bool false, .bool false, .bool false, .bool false, .bool false, .bool false, .bool false, .bool false, .bool false, .bool false] := by rw [hw4]; exact row_alloc (row_alloc ra3 _) _
  have rr4 : Row w4 w.heap.size 77 [.bool false, .bool false, .bool false, .bool false, .bool false, .bool false, .bool false, .bool false, .bool false, .bool false, .bool false, .bool false, .bool false, .bool false, .bool false] := by rw [hw4]; exact row_alloc (row_alloc (rr.below hb3) _) _
  have lr4 : Row w4 (w3.heap.size + 1) 3 [.int .i64 0, .int .i64 2, .int .i64 3, .int .i64 9] := by
    rw [hw4]
    have := Row.new (w3.alloc (.cells #[] 3)) 3 [.int .i64 0, .int .i64 2, .int .i64 3, .int .i64 9]
    rw [show (w3.alloc (.cells #[] 3)).heap.size = w3.heap.size + 1 by simp] at this
    exact this
  have hB4 : Below w2.heap.size w2 w4 := by rw [hw4]; exact (hb3.alloc hb3.size _).alloc (Nat.le_trans hb3.size (by simp)) _
  have hlt3 : w2.heap.size < w3.heap.size := ra3.lt
  have c4 := lr4.cell (j := 0) rfl
  rw [← hw4]
  clear hw4 hr3 hg3 hrow rr hb3 ra3
  refine wp_loop_rounds 5 ?_
  rw [rounds_succ]
  go_wp2_with (refine wl_set rfl _ _ _ rfl w2.heap.size 0 _ rfl rfl _ _ ra4 (show 0 < 15 by decide) (by kernel_rfl) rfl ?_; intro w5 hr5 hg5; have ra5 : Row w5 w2.heap.size 77 [.bool true, .bool false, .bool false, .bool false, .bool false, .bool false, .bool false, .bool false, .bool false, .bool false, .bool false, .bool false, .bool false, .bool false, .bool false] := hr5.out; have rr5 := rr4.grown hg5 (fun e => by injection e; omega); have lr5 := lr4.grown hg5 (fun e => by injection e; omega); have hB5 := hB4.trans (grown_below hg5 hB4.size (fun k hk => by cases hk; exact Nat.le_refl _)); have c5 := lr5.cell (j := 1) rfl; clear hr5 hg5 ra4 rr4 lr4 hB4 c4)
  rw [rounds_succ]
  go_wp2_with (refine wl_set rfl _ _ _ rfl w2.heap.size 2 _ rfl rfl _ _ ra5 (show 2 < 15 by decide) (by kernel_rfl) rfl ?_; intro w6 hr6 hg6; have ra6 : Row w6 w2.heap.size 77 [.bool true, .bool false, .bool true, .bool false, .bool false, .bool false, .bool false, .bool false, .bool false, .bool false, .bool false, .bool false, .bool false, .bool false, .bool false] := hr6.out; have rr6 := rr5.grown hg6 (fun e => by injection e; omega); have lr6 := lr5.grown hg6 (fun e => by injection e; omega); have hB6 := hB5.trans (grown_below hg6 hB5.size (fun k hk => by cases hk; exact Nat.le_refl _)); have c6 := lr6.cell (j := 2) rfl; clear hr6 hg6 ra5 rr5 lr5 hB5 c5)
  rw [rounds_succ]
  go_wp2_with (refine wl_set rfl _ _ _ rfl w2.heap.size 3 _ rfl rfl _ _ ra6 (show 3 < 15 by decide) (by kernel_rfl) rfl ?_; intro w7 hr7 hg7; have ra7 : Row w7 w2.heap.size 77 [.bool true, .bool false, .bool true, .bool true, .bool false, .bool false, .bool false, .bool false, .bool false, .bool false, .bool false, .bool false, .bool false, .bool false, .bool false] := hr7.out; have rr7 := rr6.grown hg7 (fun e => by injection e; omega); have lr7 := lr6.grown hg7 (fun e => by injection e; omega); have hB7 := hB6.trans (grown_below hg7 hB6.size (fun k hk => by cases hk; exact Nat.le_refl _)); have c7 := lr7.cell (j := 3) rfl; clear hr7 hg7 ra6 rr6 lr6 hB6 c6)
  rw [rounds_succ]
  go_wp2_with (refine wl_set rfl _ _ _ rfl w2.heap.size 9 _ rfl rfl _ _ ra7 (show 9 < 15 by decide) (by kernel_rfl) rfl ?_; intro w8 hr8 hg8; have ra8 : Row w8 w2.heap.size 77 [.bool true, .bool false, .bool true, .bool true, .bool false, .bool false, .bool false, .bool false, .bool false, .bool true, .bool false, .bool false, .bool false, .bool false, .bool false] := hr8.out; have rr8 := rr7.grown hg8 (fun e => by injection e; omega); have lr8 := lr7.grown hg8 (fun e => by injection e; omega); have hB8 := hB7.trans (grown_below hg8 hB7.size (fun k hk => by cases hk; exact Nat.le_refl _)); clear hr8 hg8 ra7 rr7 lr7 hB7 c7)
  rw [rounds_succ]
  go_wp2_with (first
    | (refine wl_load rfl _ _ rfl w2.heap.size rfl _ _ ra8 _ Tryz.underlying77 rfl (by kernel_rfl) ?_)
    | (refine wl_store rfl _ _ _ rfl w.heap.size [.bool true, .bool false, .bool true, .bool true, .bool false, .bool false, .bool false, .bool false, .bool false, .bool true, .bool false, .bool false, .bool false, .bool false, .bool false] rfl rfl _ _ rr8 rfl (by kernel_rfl) one_6 ?_; intro w20 hr20 hg20))
  have hr20 := hr20.out
  refine bodyPost_ret (v := .agg ([.bool true, .bool false, .bool true, .bool true, .bool false, .bool false, .bool false, .bool false, .bool false, .bool true, .bool false, .bool false, .bool false, .bool false, .bool false] : List Value).toArray) (results_cell_row rfl _ _ w.heap.size _ _ (0, 0) _ (by rfl) hr20 Tryz.underlying77 rfl (by kernel_rfl)) rfl ?_
  have hBz := below_and hB (Nat.le_refl _) hB8
  exact ⟨rfl, hBz.trans (grown_below hg20 hBz.size (fun k hk => by cases hk; exact Nat.le_refl _))⟩
set_option maxRecDepth 10000 in
set_option maxHeartbeats 4000000 in
theorem refFields_7 (w : World) : Calls Tryz.prog 54 #[.int .i64 7] w fun e w' => e = .returned (.agg (marks 7).toArray) ∧ Below w.heap.size w w' := by
  obtain ⟨w2, hw2⟩ : ∃ w2, w2 = w.alloc (.cells ([.bool false, .bool false, .bool false, .bool false, .bool false, .bool false, .bool false, .bool false, .bool false, .bool false, .bool false, .bool false, .bool false, .bool false, .bool false] : List Value).toArray 77) := ⟨_, rfl⟩
  have rr : Row w2 w.heap.size 77 [.bool false, .bool false, .bool false, .bool false, .bool false, .bool false, .bool false, .bool false, .bool false, .bool false, .bool false, .bool false, .bool false, .bool false, .bool false] := by rw [hw2]; exact Row.new w _ _
  have hB : Below w.heap.size w w2 := by rw [hw2]; exact below_alloc _ _
  have hrow := Row.new w2 77 [.bool false, .bool false, .bool false, .bool false, .bool false, .bool false, .bool false, .bool false, .bool false, .bool false, .bool false, .bool false, .bool false, .bool false, .bool false]
  have hlt : w.heap.size < w2.heap.size := rr.lt
  go_enter Tryz.func54, Tryz.ntmps54
  go_upto_region 1 with fail
  rw [← hw2]
  clear hw2
  go_wp2_with (refine wl_store rfl _ _ _ rfl w2.heap.size [.bool false, .bool false, .bool false, .bool false, .bool false, .bool false, .bool false, .bool false, .bool false, .bool false, .bool false, .bool false, .bool false, .bool false, .bool false] rfl rfl _ _ hrow rfl (by kernel_rfl) one_no ?_; intro w3 hr3 hg3)
  have ra3 : Row w3 w2.heap.size 77 [.bool false, .bool false, .bool false, .bool false, .bool false, .bool false, .bool false, .bool false, .bool false, .bool false, .bool false, .bool false, .bool false, .bool false, .bool false] := hr3.out
  have hb3 : Below w2.heap.size w2 w3 := (below_alloc w2 (.cells ([.bool false, .bool false, .bool false, .bool false, .bool false, .bool false, .bool false, .bool false, .bool false, .bool false, .bool false, .bool false, .bool false, .bool false, .bool false] : List Value).toArray 77)).trans (grown_below hg3 (by simp) (fun k hk => by cases hk; exact Nat.le_refl _))
  obtain ⟨w4, hw4⟩ : ∃ w4, w4 = (w3.alloc (.cells #[] 3)).alloc (.cells #[.int .i64 0, .int .i64 2, .int .i64 3, .int .i64 9, .int .i64 10] 3) := ⟨_, rfl⟩
  have ra4 : Row w4 w2.heap.size 77 [.bool false, .bool false, .bool false, .bool false, .bool false, .bool false, .bool false, .bool false, .bool false, .bool false, .bool false, .bool false, .bool false, .bool false, .bool false] := by rw [hw4]; exact row_alloc (row_alloc ra3 _) _
  have rr4 : Row w4 w.heap.size 77 [.bool false, .bool false, .bool false, .bool false, .bool false, .bool false, .bool false, .bool false, .bool false, .bool false, .bool false, .bool false, .bool false, .bool false, .bool false] := by rw [hw4]; exact row_alloc (row_alloc (rr.below hb3) _) _
  have lr4 : Row w4 (w3.heap.size + 1) 3 [.int .i64 0, .int .i64 2, .int .i64 3, .int .i64 9, .int .i64 10] := by
    rw [hw4]
    have := Row.new (w3.alloc (.cells #[] 3)) 3 [.int .i64 0, .int .i64 2, .int .i64 3, .int .i64 9, .int .i64 10]
    rw [show (w3.alloc (.cells #[] 3)).heap.size = w3.heap.size + 1 by simp] at this
    exact this
  have hB4 : Below w2.heap.size w2 w4 := by rw [hw4]; exact (hb3.alloc hb3.size _).alloc (Nat.le_trans hb3.size (by simp)) _
  have hlt3 : w2.heap.size < w3.heap.size := ra3.lt
  have c4 := lr4.cell (j := 0) rfl
  rw [← hw4]
  clear hw4 hr3 hg3 hrow rr hb3 ra3
  refine wp_loop_rounds 6 ?_
  rw [rounds_succ]
  go_wp2_with (refine wl_set rfl _ _ _ rfl w2.heap.size 0 _ rfl rfl _ _ ra4 (show 0 < 15 by decide) (by kernel_rfl) rfl ?_; intro w5 hr5 hg5; have ra5 : Row w5 w2.heap.size 77 [.bool true, .bool false, .bool false, .bool false, .bool false, .bool false, .bool false, .bool false, .bool false, .bool false, .bool false, .bool false, .bool false, .bool false, .bool false] := hr5.out; have rr5 := rr4.grown hg5 (fun e => by injection e; omega); have lr5 := lr4.grown hg5 (fun e => by injection e; omega); have hB5 := hB4.trans (grown_below hg5 hB4.size (fun k hk => by cases hk; exact Nat.le_refl _)); have c5 := lr5.cell (j := 1) rfl; clear hr5 hg5 ra4 rr4 lr4 hB4 c4)
  rw [rounds_succ]
  go_wp2_with (refine wl_set rfl _ _ _ rfl w2.heap.size 2 _ rfl rfl _ _ ra5 (show 2 < 15 by decide) (by kernel_rfl) rfl ?_; intro w6 hr6 hg6; have ra6 : Row w6 w2.heap.size 77 [.bool true, .bool false, .bool true, .bool false, .bool false, .bool false, .bool false, .bool false, .bool false, .bool false, .bool false, .bool false, .bool false, .bool false, .bool false] := hr6.out; have rr6 := rr5.grown hg6 (fun e => by injection e; omega); have lr6 := lr5.grown hg6 (fun e => by injection e; omega); have hB6 := hB5.trans (grown_below hg6 hB5.size (fun k hk => by cases hk; exact Nat.le_refl _)); have c6 := lr6.cell (j := 2) rfl; clear hr6 hg6 ra5 rr5 lr5 hB5 c5)
  rw [rounds_succ]
  go_wp2_with (refine wl_set rfl _ _ _ rfl w2.heap.size 3 _ rfl rfl _ _ ra6 (show 3 < 15 by decide) (by kernel_rfl) rfl ?_; intro w7 hr7 hg7; have ra7 : Row w7 w2.heap.size 77 [.bool true, .bool false, .bool true, .bool true, .bool false, .bool false, .bool false, .bool false, .bool false, .bool false, .bool false, .bool false, .bool false, .bool false, .bool false] := hr7.out; have rr7 := rr6.grown hg7 (fun e => by injection e; omega); have lr7 := lr6.grown hg7 (fun e => by injection e; omega); have hB7 := hB6.trans (grown_below hg7 hB6.size (fun k hk => by cases hk; exact Nat.le_refl _)); have c7 := lr7.cell (j := 3) rfl; clear hr7 hg7 ra6 rr6 lr6 hB6 c6)
  rw [rounds_succ]
  go_wp2_with (refine wl_set rfl _ _ _ rfl w2.heap.size 9 _ rfl rfl _ _ ra7 (show 9 < 15 by decide) (by kernel_rfl) rfl ?_; intro w8 hr8 hg8; have ra8 : Row w8 w2.heap.size 77 [.bool true, .bool false, .bool true, .bool true, .bool false, .bool false, .bool false, .bool false, .bool false, .bool true, .bool false, .bool false, .bool false, .bool false, .bool false] := hr8.out; have rr8 := rr7.grown hg8 (fun e => by injection e; omega); have lr8 := lr7.grown hg8 (fun e => by injection e; omega); have hB8 := hB7.trans (grown_below hg8 hB7.size (fun k hk => by cases hk; exact Nat.le_refl _)); have c8 := lr8.cell (j := 4) rfl; clear hr8 hg8 ra7 rr7 lr7 hB7 c7)
  rw [rounds_succ]
  go_wp2_with (refine wl_set rfl _ _ _ rfl w2.heap.size 10 _ rfl rfl _ _ ra8 (show 10 < 15 by decide) (by kernel_rfl) rfl ?_; intro w9 hr9 hg9; have ra9 : Row w9 w2.heap.size 77 [.bool true, .bool false, .bool true, .bool true, .bool false, .bool false, .bool false, .bool false, .bool false, .bool true, .bool true, .bool false, .bool false, .bool false, .bool false] := hr9.out; have rr9 := rr8.grown hg9 (fun e => by injection e; omega); have lr9 := lr8.grown hg9 (fun e => by injection e; omega); have hB9 := hB8.trans (grown_below hg9 hB8.size (fun k hk => by cases hk; exact Nat.le_refl _)); clear hr9 hg9 ra8 rr8 lr8 hB8 c8)
  rw [rounds_succ]
  go_wp2_with (first
    | (refine wl_load rfl _ _ rfl w2.heap.size rfl _ _ ra9 _ Tryz.underlying77 rfl (by kernel_rfl) ?_)
    | (refine wl_store rfl _ _ _ rfl w.heap.size [.bool true, .bool false, .bool true, .bool true, .bool false, .bool false, .bool false, .bool false, .bool false, .bool true, .bool true, .bool false, .bool false, .bool false, .bool false] rfl rfl _ _ rr9 rfl (by kernel_rfl) one_7 ?_; intro w20 hr20 hg20))
  have hr20 := hr20.out
  refine bodyPost_ret (v := .agg ([.bool true, .bool false, .bool true, .bool true, .bool false, .bool false, .bool false, .bool false, .bool false, .bool true, .bool true, .bool false, .bool false, .bool false, .bool false] : List Value).toArray) (results_cell_row rfl _ _ w.heap.size _ _ (0, 0) _ (by rfl) hr20 Tryz.underlying77 rfl (by kernel_rfl)) rfl ?_
  have hBz := below_and hB (Nat.le_refl _) hB9
  exact ⟨rfl, hBz.trans (grown_below hg20 hBz.size (fun k hk => by cases hk; exact Nat.le_refl _))⟩
set_option maxRecDepth 10000 in
set_option maxHeartbeats 4000000 in
theorem refFields_8 (w : World) : Calls Tryz.prog 54 #[.int .i64 8] w fun e w' => e = .returned (.agg (marks 8).toArray) ∧ Below w.heap.size w w' := by
  obtain ⟨w2, hw2⟩ : ∃ w2, w2 = w.alloc (.cells ([.bool false, .bool false, .bool false, .bool false, .bool false, .bool false, .bool false, .bool false, .bool false, .bool false, .bool false, .bool false, .bool false, .bool false, .bool false] : List Value).toArray 77) := ⟨_, rfl⟩
  have rr : Row w2 w.heap.size 77 [.bool false, .bool false, .bool false, .bool false, .bool false, .bool false, .bool false, .bool false, .bool false, .bool false, .bool false, .bool false, .bool false, .bool false, .bool false] := by rw [hw2]; exact Row.new w _ _
  have hB : Below w.heap.size w w2 := by rw [hw2]; exact below_alloc _ _
  have hrow := Row.new w2 77 [.bool false, .bool false, .bool false, .bool false, .bool false, .bool false, .bool false, .bool false, .bool false, .bool false, .bool false, .bool false, .bool false, .bool false, .bool false]
  have hlt : w.heap.size < w2.heap.size := rr.lt
  go_enter Tryz.func54, Tryz.ntmps54
  go_upto_region 1 with fail
  rw [← hw2]
  clear hw2
  go_wp2_with (refine wl_store rfl _ _ _ rfl w2.heap.size [.bool false, .bool false, .bool false, .bool false, .bool false, .bool false, .bool false, .bool false, .bool false, .bool false, .bool false, .bool false, .bool false, .bool false, .bool false] rfl rfl _ _ hrow rfl (by kernel_rfl) one_no ?_; intro w3 hr3 hg3)
  have ra3 : Row w3 w2.heap.size 77 [.bool false, .bool false, .bool false, .bool false, .bool false, .bool false, .bool false, .bool false, .bool false, .bool false, .bool false, .bool false, .bool false, .bool false, .bool false] := hr3.out
  have hb3 : Below w2.heap.size w2 w3 := (below_alloc w2 (.cells ([.bool false, .bool false, .bool false, .bool false, .bool false, .bool false, .bool false, .bool false, .bool false, .bool false, .bool false, .bool false, .bool false, .bool false, .bool false] : List Value).toArray 77)).trans (grown_below hg3 (by simp) (fun k hk => by cases hk; exact Nat.le_refl _))
  obtain ⟨w4, hw4⟩ : ∃ w4, w4 = (w3.alloc (.cells #[] 3)).alloc (.cells #[.int .i64 14] 3) := ⟨_, rfl⟩
  have ra4 : Row w4 w2.heap.size 77 [.bool false, .bool false, .bool false, .bool false, .bool false, .bool false, .bool false, .bool false, .bool false, .bool false, .bool false, .bool false, .bool false, .bool false, .bool false] := by rw [hw4]; exact row_alloc (row_alloc ra3 _) _
  have rr4 : Row w4 w.heap.size 77 [.bool false, .bool false, .bool false, .bool false, .bool false, .bool false, .bool false, .bool false, .bool false, .bool false, .bool false, .bool false, .bool false, .bool false, .bool false] := by rw [hw4]; exact row_alloc (row_alloc (rr.below hb3) _) _
  have lr4 : Row w4 (w3.heap.size + 1) 3 [.int .i64 14] := by
    rw [hw4]
    have := Row.new (w3.alloc (.cells #[] 3)) 3 [.int .i64 14]
    rw [show (w3.alloc (.cells #[] 3)).heap.size = w3.heap.size + 1 by simp] at this
    exact this
  have hB4 : Below w2.heap.size w2 w4 := by rw [hw4]; exact (hb3.alloc hb3.size _).alloc (Nat.le_trans hb3.size (by simp)) _
  have hlt3 : w2.heap.size < w3.heap.size := ra3.lt
  have c4 := lr4.cell (j := 0) rfl
  rw [← hw4]
  clear hw4 hr3 hg3 hrow rr hb3 ra3
  refine wp_loop_rounds 2 ?_
  rw [rounds_succ]
  go_wp2_with (refine wl_set rfl _ _ _ rfl w2.heap.size 14 _ rfl rfl _ _ ra4 (show 14 < 15 by decide) (by kernel_rfl) rfl ?_; intro w5 hr5 hg5; have ra5 : Row w5 w2.heap.size 77 [.bool false, .bool false, .bool false, .bool false, .bool false, .bool false, .bool false, .bool false, .bool false, .bool false, .bool false, .bool false, .bool false, .bool false, .bool true] := hr5.out; have rr5 := rr4.grown hg5 (fun e => by injection e; omega); have lr5 := lr4.grown hg5 (fun e => by injection e; omega); have hB5 := hB4.trans (grown_below hg5 hB4.size (fun k hk => by cases hk; exact Nat.le_refl _)); clear hr5 hg5 ra4 rr4 lr4 hB4 c4)
  rw [rounds_succ]
  go_wp2_with (first
    | (refine wl_load rfl _ _ rfl w2.heap.size rfl _ _ ra5 _ Tryz.underlying77 rfl (by kernel_rfl) ?_)
    | (refine wl_store rfl _ _ _ rfl w.heap.size [.bool false, .bool false, .bool false, .bool false, .bool false, .bool false, .bool false, .bool false, .bool false, .bool false, .bool false, .bool false, .bool false, .bool false, .bool true] rfl rfl _ _ rr5 rfl (by kernel_rfl) one_8 ?_; intro w20 hr20 hg20))
  have hr20 := hr20.out
  refine bodyPost_ret (v := .agg ([.bool false, .bool false, .bool false, .bool false, .bool false, .bool false, .bool false, .bool false, .bool false, .bool false, .bool false, .bool false, .bool false, .bool false, .bool true] : List Value).toArray) (results_cell_row rfl _ _ w.heap.size _ _ (0, 0) _ (by rfl) hr20 Tryz.underlying77 rfl (by kernel_rfl)) rfl ?_
  have hBz := below_and hB (Nat.le_refl _) hB5
  exact ⟨rfl, hBz.trans (grown_below hg20 hBz.size (fun k hk => by cases hk; exact Nat.le_refl _))⟩
set_option maxRecDepth 10000 in
set_option maxHeartbeats 4000000 in
theorem refFields_9 (w : World) : Calls Tryz.prog 54 #[.int .i64 9] w fun e w' => e = .returned (.agg (marks 9).toArray) ∧ Below w.heap.size w w' := by
  obtain ⟨w2, hw2⟩ : ∃ w2, w2 = w.alloc (.cells ([.bool false, .bool false, .bool false, .bool false, .bool false, .bool false, .bool false, .bool false, .bool false, .bool false, .bool false, .bool false, .bool false, .bool false, .bool false] : List Value).toArray 77) := ⟨_, rfl⟩
  have rr : Row w2 w.heap.size 77 [.bool false, .bool false, .bool false, .bool false, .bool false, .bool false, .bool false, .bool false, .bool false, .bool false, .bool false, .bool false, .bool false, .bool false, .bool false] := by rw [hw2]; exact Row.new w _ _
  have hB : Below w.heap.size w w2 := by rw [hw2]; exact below_alloc _ _
  have hrow := Row.new w2 77 [.bool false, .bool false, .bool false, .bool false, .bool false, .bool false, .bool false, .bool false, .bool false, .bool false, .bool false, .bool false, .bool false, .bool false, .bool false]
  have hlt : w.heap.size < w2.heap.size := rr.lt
  go_enter Tryz.func54, Tryz.ntmps54
  go_upto_region 1 with fail
  rw [← hw2]
  clear hw2
  go_wp2_with (refine wl_store rfl _ _ _ rfl w2.heap.size [.bool false, .bool false, .bool false, .bool false, .bool false, .bool false, .bool false, .bool false, .bool false, .bool false, .bool false, .bool false, .bool false, .bool false, .bool false] rfl rfl _ _ hrow rfl (by kernel_rfl) one_no ?_; intro w3 hr3 hg3)
  have ra3 : Row w3 w2.heap.size 77 [.bool false, .bool false, .bool false, .bool false, .bool false, .bool false, .bool false, .bool false, .bool false, .bool false, .bool false, .bool false, .bool false, .bool false, .bool false] := hr3.out
  have hb3 : Below w2.heap.size w2 w3 := (below_alloc w2 (.cells ([.bool false, .bool false, .bool false, .bool false, .bool false, .bool false, .bool false, .bool false, .bool false, .bool false, .bool false, .bool false, .bool false, .bool false, .bool false] : List Value).toArray 77)).trans (grown_below hg3 (by simp) (fun k hk => by cases hk; exact Nat.le_refl _))
  obtain ⟨w4, hw4⟩ : ∃ w4, w4 = (w3.alloc (.cells #[] 3)).alloc (.cells #[.int .i64 0, .int .i64 9, .int .i64 12, .int .i64 14] 3) := ⟨_, rfl⟩
  have ra4 : Row w4 w2.heap.size 77 [.bool false, .bool false, .bool false, .bool false, .bool false, .bool false, .bool false, .bool false, .bool false, .bool false, .bool false, .bool false, .bool false, .bool false, .bool false] := by rw [hw4]; exact row_alloc (row_alloc ra3 _) _
  have rr4 : Row w4 w.heap.size 77 [.bool false, .bool false, .bool false, .bool false, .bool false, .bool false, .bool false, .bool false, .bool false, .bool false, .bool false, .bool false, .bool false, .bool false, .bool false] := by rw [hw4]; exact row_alloc (row_alloc (rr.below hb3) _) _
  have lr4 : Row w4 (w3.heap.size + 1) 3 [.int .i64 0, .int .i64 9, .int .i64 12, .int .i64 14] := by
    rw [hw4]
    have := Row.new (w3.alloc (.cells #[] 3)) 3 [.int .i64 0, .int .i64 9, .int .i64 12, .int .i64 14]
    rw [show (w3.alloc (.cells #[] 3)).heap.size = w3.heap.size + 1 by simp] at this
    exact this
  have hB4 : Below w2.heap.size w2 w4 := by rw [hw4]; exact (hb3.alloc hb3.size _).alloc (Nat.le_trans hb3.size (by simp)) _
  have hlt3 : w2.heap.size < w3.heap.size := ra3.lt
  have c4 := lr4.cell (j := 0) rfl
  rw [← hw4]
  clear hw4 hr3 hg3 hrow rr hb3 ra3
  refine wp_loop_rounds 5 ?_
  rw [rounds_succ]
  go_wp2_with (refine wl_set rfl _ _ _ rfl w2.heap.size 0 _ rfl rfl _ _ ra4 (show 0 < 15 by decide) (by kernel_rfl) rfl ?_; intro w5 hr5 hg5; have ra5 : Row w5 w2.heap.size 77 [.bool true, .bool false, .bool false, .bool false, .bool false, .bool false, .bool false, .bool false, .bool false, .bool false, .bool false, .bool false, .bool false, .bool false, .bool false] := hr5.out; have rr5 := rr4.grown hg5 (fun e => by injection e; omega); have lr5 := lr4.grown hg5 (fun e => by injection e; omega); have hB5 := hB4.trans (grown_below hg5 hB4.size (fun k hk => by cases hk; exact Nat.le_refl _)); have c5 := lr5.cell (j := 1) rfl; clear hr5 hg5 ra4 rr4 lr4 hB4 c4)
  rw [rounds_succ]
  go_wp2_with (refine wl_set rfl _ _ _ rfl w2.heap.size 9 _ rfl rfl _ _ ra5 (show 9 < 15 by decide) (by kernel_rfl) rfl ?_; intro w6 hr6 hg6; have ra6 : Row w6 w2.heap.size 77 [.bool true, .bool false, .bool false, .bool false, .bool false, .bool false, .bool false, .bool false, .bool false, .bool true, .bool false, .bool false, .bool false, .bool false, .bool false] := hr6.out; have rr6 := rr5.grown hg6 (fun e => by injection e; omega); have lr6 := lr5.grown hg6 (fun e => by injection e; omega); have hB6 := hB5.trans (grown_below hg6 hB5.size (fun k hk => by cases hk; exact Nat.le_refl _)); have c6 := lr6.cell (j := 2) rfl; clear hr6 hg6 ra5 rr5 lr5 hB5 c5)
  rw [rounds_succ]
  go_wp2_with (refine wl_set rfl _ _ _ rfl w2.heap.size 12 _ rfl rfl _ _ ra6 (show 12 < 15 by decide) (by kernel_rfl) rfl ?_; intro w7 hr7 hg7; have ra7 : Row w7 w2.heap.size 77 [.bool true, .bool false, .bool false, .bool false, .bool false, .bool false, .bool false, .bool false, .bool false, .bool true, .bool false, .bool false, .bool true, .bool false, .bool false] := hr7.out; have rr7 := rr6.grown hg7 (fun e => by injection e; omega); have lr7 := lr6.grown hg7 (fun e => by injection e; omega); have hB7 := hB6.trans (grown_below hg7 hB6.size (fun k hk => by cases hk; exact Nat.le_refl _)); have c7 := lr7.cell (j := 3) rfl; clear hr7 hg7 ra6 rr6 lr6 hB6 c6)
  rw [rounds_succ]
  go_wp2_with (refine wl_set rfl _ _ _ rfl w2.heap.size 14 _ rfl rfl _ _ ra7 (show 14 < 15 by decide) (by kernel_rfl) rfl ?_; intro w8 hr8 hg8; have ra8 : Row w8 w2.heap.size 77 [.bool true, .bool false, .bool false, .bool false, .bool false, .bool false, .bool false, .bool false, .bool false, .bool true, .bool false, .bool false, .bool true, .bool false, .bool true] := hr8.out; have rr8 := rr7.grown hg8 (fun e => by injection e; omega); have lr8 := lr7.grown hg8 (fun e => by injection e; omega); have hB8 := hB7.trans (grown_below hg8 hB7.size (fun k hk => by cases hk; exact Nat.le_refl _)); clear hr8 hg8 ra7 rr7 lr7 hB7 c7)
  rw [rounds_succ]
  go_wp2_with (first
    | (refine wl_load rfl _ _ rfl w2.heap.size rfl _ _ ra8 _ Tryz.underlying77 rfl (by kernel_rfl) ?_)
    | (refine wl_store rfl _ _ _ rfl w.heap.size [.bool true, .bool false, .bool false, .bool false, .bool false, .bool false, .bool false, .bool false, .bool false, .bool true, .bool false, .bool false, .bool true, .bool false, .bool true] rfl rfl _ _ rr8 rfl (by kernel_rfl) one_9 ?_; intro w20 hr20 hg20))
  have hr20 := hr20.out
  refine bodyPost_ret (v := .agg ([.bool true, .bool false, .bool false, .bool false, .bool false, .bool false, .bool false, .bool false, .bool false, .bool true, .bool false, .bool false, .bool true, .bool false, .bool true] : List Value).toArray) (results_cell_row rfl _ _ w.heap.size _ _ (0, 0) _ (by rfl) hr20 Tryz.underlying77 rfl (by kernel_rfl)) rfl ?_
  have hBz := below_and hB (Nat.le_refl _) hB8
  exact ⟨rfl, hBz.trans (grown_below hg20 hBz.size (fun k hk => by cases hk; exact Nat.le_refl _))⟩
set_option maxRecDepth 10000 in
set_option maxHeartbeats 4000000 in
theorem refFields_10 (w : World) : Calls Tryz.prog 54 #[.int .i64 10] w fun e w' => e = .returned (.agg (marks 10).toArray) ∧ Below w.heap.size w w' := by
  obtain ⟨w2, hw2⟩ : ∃ w2, w2 = w.alloc (.cells ([.bool false, .bool false, .bool false, .bool false, .bool false, .bool false, .bool false, .bool false, .bool false, .bool false, .bool false, .bool false, .bool false, .bool false, .bool false] : List Value).toArray 77) := ⟨_, rfl⟩
  have rr : Row w2 w.heap.size 77 [.bool false, .bool false, .bool false, .bool false, .bool false, .bool false, .bool false, .bool false, .bool false, .bool false, .bool false, .bool false, .bool false, .bool false, .bool false] := by rw [hw2]; exact Row.new w _ _
  have hB : Below w.heap.size w w2 := by rw [hw2]; exact below_alloc _ _
  have hrow := Row.new w2 77 [.bool false, .bool false, .bool false, .bool false, .bool false, .bool false, .bool false, .bool false, .bool false, .bool false, .bool false, .bool false, .bool false, .bool false, .bool false]
  have hlt : w.heap.size < w2.heap.size := rr.lt
  go_enter Tryz.func54, Tryz.ntmps54
  go_upto_region 1 with fail
  rw [← hw2]
  clear hw2
  go_wp2_with (refine wl_store rfl _ _ _ rfl w2.heap.size [.bool false, .bool false, .bool false, .bool false, .bool false, .bool false, .bool false, .bool false, .bool false, .bool false, .bool false, .bool false, .bool false, .bool false, .bool false] rfl rfl _ _ hrow rfl (by kernel_rfl) one_no ?_; intro w3 hr3 hg3)
  have ra3 : Row w3 w2.heap.size 77 [.bool false, .bool false, .bool false, .bool false, .bool false, .bool false, .bool false, .bool false, .bool false, .bool false, .bool false, .bool false, .bool false, .bool false, .bool false] := hr3.out
  have hb3 : Below w2.heap.size w2 w3 := (below_alloc w2 (.cells ([.bool false, .bool false, .bool false, .bool false, .bool false, .bool false, .bool false, .bool false, .bool false, .bool false, .bool false, .bool false, .bool false, .bool false, .bool false] : List Value).toArray 77)).trans (grown_below hg3 (by simp) (fun k hk => by cases hk; exact Nat.le_refl _))
  obtain ⟨w4, hw4⟩ : ∃ w4, w4 = (w3.alloc (.cells #[] 3)).alloc (.cells #[.int .i64 1, .int .i64 8, .int .i64 11] 3) := ⟨_, rfl⟩
  have ra4 : Row w4 w2.heap.size 77 [.bool false, .bool false, .bool false, .bool false, .bool false, .bool false, .bool false, .bool false, .bool false, .bool false, .bool false, .bool false, .bool false, .bool false, .bool false] := by rw [hw4]; exact row_alloc (row_alloc ra3 _) _
  have rr4 : Row w4 w.heap.size 77 [.bool false, .bool false, .bool false, .bool false, .bool false, .bool false, .bool false, .bool false, .bool false, .bool false, .bool false, .bool false, .bool false, .bool false, .bool false] := by rw [hw4]; exact row_alloc (row_alloc (rr.below hb3) _) _
  have lr4 : Row w4 (w3.heap.size + 1) 3 [.int .i64 1, .int .i64 8, .int .i64 11] := by
    rw [hw4]
    have := Row.new (w3.alloc (.cells #[] 3)) 3 [.int .i64 1, .int .i64 8, .int .i64 11]
    rw [show (w3.alloc (.cells #[] 3)).heap.size = w3.heap.size + 1 by simp] at this
    exact this
  have hB4 : Below w2.heap.size w2 w4 := by rw [hw4]; exact (hb3.alloc hb3.size _).alloc (Nat.le_trans hb3.size (by simp)) _
  have hlt3 : w2.heap.size < w3.heap.size := ra3.lt
  have c4 := lr4.cell (j := 0) rfl
  rw [← hw4]
  clear hw4 hr3 hg3 hrow rr hb3 ra3
  refine wp_loop_rounds 4 ?_
  rw [rounds_succ]
  go_wp2_with (refine wl_set rfl _ _ _ rfl w2.heap.size 1 _ rfl rfl _ _ ra4 (show 1 < 15 by decide) (by kernel_rfl) rfl ?_; intro w5 hr5 hg5; have ra5 : Row w5 w2.heap.size 77 [.bool false, .bool true, .bool false, .bool false, .bool false, .bool false, .bool false, .bool false, .bool false, .bool false, .bool false, .bool false, .bool false, .bool false, .bool false] := hr5.out; have rr5 := rr4.grown hg5 (fun e => by injection e; omega); have lr5 := lr4.grown hg5 (fun e => by injection e; omega); have hB5 := hB4.trans (grown_below hg5 hB4.size (fun k hk => by cases hk; exact Nat.le_refl _)); have c5 := lr5.cell (j := 1) rfl; clear hr5 hg5 ra4 rr4 lr4 hB4 c4)
  rw [rounds_succ]
  go_wp2_with (refine wl_set rfl _ _ _ rfl w2.heap.size 8 _ rfl rfl _ _ ra5 (show 8 < 15 by decide) (by kernel_rfl) rfl ?_; intro w6 hr6 hg6; have ra6 : Row w6 w2.heap.size 77 [.bool false, .bool true, .bool false, .bool false, .bool false, .bool false, .bool false, .bool false, .bool true, .bool false, .bool false, .bool false, .bool false, .bool false, .bool false] := hr6.out; have rr6 := rr5.grown hg6 (fun e => by injection e; omega); have lr6 := lr5.grown hg6 (fun e => by injection e; omega); have hB6 := hB5.trans (grown_below hg6 hB5.size (fun k hk => by cases hk; exact Nat.le_refl _)); have c6 := lr6.cell (j := 2) rfl; clear hr6 hg6 ra5 rr5 lr5 hB5 c5)
  rw [rounds_succ]
  go_wp2_with (refine wl_set rfl _ _ _ rfl w2.heap.size 11 _ rfl rfl _ _ ra6 (show 11 < 15 by decide) (by kernel_rfl) rfl ?_; intro w7 hr7 hg7; have ra7 : Row w7 w2.heap.size 77 [.bool false, .bool true, .bool false, .bool false, .bool false, .bool false, .bool false, .bool false, .bool true, .bool false, .bool false, .bool true, .bool false, .bool false, .bool false] := hr7.out; have rr7 := rr6.grown hg7 (fun e => by injection e; omega); have lr7 := lr6.grown hg7 (fun e => by injection e; omega); have hB7 := hB6.trans (grown_below hg7 hB6.size (fun k hk => by cases hk; exact Nat.le_refl _)); clear hr7 hg7 ra6 rr6 lr6 hB6 c6)
  rw [rounds_succ]
  go_wp2_with (first
    | (refine wl_load rfl _ _ rfl w2.heap.size rfl _ _ ra7 _ Tryz.underlying77 rfl (by kernel_rfl) ?_)
    | (refine wl_store rfl _ _ _ rfl w.heap.size [.bool false, .bool true, .bool false, .bool false, .bool false, .bool false, .bool false, .bool false, .bool true, .bool false, .bool false, .bool true, .bool false, .bool false, .bool false] rfl rfl _ _ rr7 rfl (by kernel_rfl) one_10 ?_; intro w20 hr20 hg20))
  have hr20 := hr20.out
  refine bodyPost_ret (v := .agg ([.bool false, .bool true, .bool false, .bool false, .bool false, .bool false, .bool false, .bool false, .bool true, .bool false, .bool false, .bool true, .bool false, .bool false, .bool false] : List Value).toArray) (results_cell_row rfl _ _ w.heap.size _ _ (0, 0) _ (by rfl) hr20 Tryz.underlying77 rfl (by kernel_rfl)) rfl ?_
  have hBz := below_and hB (Nat.le_refl _) hB7
  exact ⟨rfl, hBz.trans (grown_below hg20 hBz.size (fun k hk => by cases hk; exact Nat.le_refl _))⟩
set_option maxRecDepth 10000 in
set_option maxHeartbeats 4000000 in
theorem refFields_11 (w : World) : Calls Tryz.prog 54 #[.int .i64 11] w fun e w' => e = .returned (.agg (marks 11).toArray) ∧ Below w.heap.size w w' := by
  obtain ⟨w2, hw2⟩ : ∃ w2, w2 = w.alloc (.cells ([.bool false, .bool false, .bool false, .bool false, .bool false, .bool false, .bool false, .bool false, .bool false, .bool false, .bool false, .bool false, .bool false, .bool false, .bool false] : List Value).toArray 77) := ⟨_, rfl⟩
  have rr : Row w2 w.heap.size 77 [.bool false, .bool false, .bool false, .bool false, .bool false, .bool false, .bool false, .bool false, .bool false, .bool false, .bool false, .bool false, .bool false, .bool false, .bool false] := by rw [hw2]; exact Row.new w _ _
  have hB : Below w.heap.size w w2 := by rw [hw2]; exact below_alloc _ _
  have hrow := Row.new w2 77 [.bool false, .bool false, .bool false, .bool false, .bool false, .bool false, .bool false, .bool false, .bool false, .bool false, .bool false, .bool false, .bool false, .bool false, .bool false]
  have hlt : w.heap.size < w2.heap.size := rr.lt
  go_enter Tryz.func54, Tryz.ntmps54
  go_upto_region 1 with fail
  rw [← hw2]
  clear hw2
  go_wp2_with (refine wl_store rfl _ _ _ rfl w2.heap.size [.bool false, .bool false, .bool false, .bool false, .bool false, .bool false, .bool false, .bool false, .bool false, .bool false, .bool false, .bool false, .bool false, .bool false, .bool false] rfl rfl _ _ hrow rfl (by kernel_rfl) one_no ?_; intro w3 hr3 hg3)
  have ra3 : Row w3 w2.heap.size 77 [.bool false, .bool false, .bool false, .bool false, .bool false, .bool false, .bool false, .bool false, .bool false, .bool false, .bool false, .bool false, .bool false, .bool false, .bool false] := hr3.out
  have hb3 : Below w2.heap.size w2 w3 := (below_alloc w2 (.cells ([.bool false, .bool false, .bool false, .bool false, .bool false, .bool false, .bool false, .bool false, .bool false, .bool false, .bool false, .bool false, .bool false, .bool false, .bool false] : List Value).toArray 77)).trans (grown_below hg3 (by simp) (fun k hk => by cases hk; exact Nat.le_refl _))
  obtain ⟨w4, hw4⟩ : ∃ w4, w4 = (w3.alloc (.cells #[] 3)).alloc (.cells #[.int .i64 1, .int .i64 2] 3) := ⟨_, rfl⟩
  have ra4 : Row w4 w2.heap.size 77 [.bool false, .bool false, .bool false, .bool false, .bool false, .bool false, .bool false, .bool false, .bool false, .bool false, .bool false, .bool false, .bool false, .bool false, .bool false] := by rw [hw4]; exact row_alloc (row_alloc ra3 _) _
  have rr4 : Row w4 w.heap.size 77 [.bool false, .bool false, .bool false, .bool false, .bool false, .bool false, .bool false, .bool false, .bool false, .bool false, .bool false, .bool false, .bool false, .bool false, .bool false] := by rw [hw4]; exact row_alloc (row_alloc (rr.below hb3) _) _
  have lr4 : Row w4 (w3.heap.size + 1) 3 [.int .i64 1, .int .i64 2] := by
    rw [hw4]
    have := Row.new (w3.alloc (.cells #[] 3)) 3 [.int .i64 1, .int .i64 2]
    rw [show (w3.alloc (.cells #[] 3)).heap.size = w3.heap.size + 1 by simp] at this
    exact this
  have hB4 : Below w2.heap.size w2 w4 := by rw [hw4]; exact (hb3.alloc hb3.size _).alloc (Nat.le_trans hb3.size (by simp)) _
  have hlt3 : w2.heap.size < w3.heap.size := ra3.lt
  have c4 := lr4.cell (j := 0) rfl
  rw [← hw4]
  clear hw4 hr3 hg3 hrow rr hb3 ra3
  refine wp_loop_rounds 3 ?_
  rw [rounds_succ]
  go_wp2_with (refine wl_set rfl _ _ _ rfl w2.heap.size 1 _ rfl rfl _ _ ra4 (show 1 < 15 by decide) (by kernel_rfl) rfl ?_; intro w5 hr5 hg5; have ra5 : Row w5 w2.heap.size 77 [.bool false, .bool true, .bool false, .bool false, .bool false, .bool false, .bool false, .bool false, .bool false, .bool false, .bool false, .bool false, .bool false, .bool false, .bool false] := hr5.out; have rr5 := rr4.grown hg5 (fun e => by injection e; omega); have lr5 := lr4.grown hg5 (fun e => by injection e; omega); have hB5 := hB4.trans (grown_below hg5 hB4.size (fun k hk => by cases hk; exact Nat.le_refl _)); have c5 := lr5.cell (j := 1) rfl; clear hr5 hg5 ra4 rr4 lr4 hB4 c4)
  rw [rounds_succ]
  go_wp2_with (refine wl_set rfl _ _ _ rfl w2.heap.size 2 _ rfl rfl _ _ ra5 (show 2 < 15 by decide) (by kernel_rfl) rfl ?_; intro w6 hr6 hg6; have ra6 : Row w6 w2.heap.size 77 [.bool false, .bool true, .bool true, .bool false, .bool false, .bool false, .bool false, .bool false, .bool false, .bool false, .bool false, .bool false, .bool false, .bool false, .bool false] := hr6.out; have rr6 := rr5.grown hg6 (fun e => by injection e; omega); have lr6 := lr5.grown hg6 (fun e => by injection e; omega); have hB6 := hB5.trans (grown_below hg6 hB5.size (fun k hk => by cases hk; exact Nat.le_refl _)); clear hr6 hg6 ra5 rr5 lr5 hB5 c5)
  rw [rounds_succ]
  go_wp2_with (first
    | (refine wl_load rfl _ _ rfl w2.heap.size rfl _ _ ra6 _ Tryz.underlying77 rfl (by kernel_rfl) ?_)
    | (refine wl_store rfl _ _ _ rfl w.heap.size [.bool false, .bool true, .bool true, .bool false, .bool false, .bool false, .bool false, .bool false, .bool false, .bool false, .bool false, .bool false, .bool false, .bool false, .bool false] rfl rfl _ _ rr6 rfl (by kernel_rfl) one_11 ?_; intro w20 hr20 hg20))
  have hr20 := hr20.out
  refine bodyPost_ret (v := .agg ([.bool false, .bool true, .bool true, .bool false, .bool false, .bool false, .bool false, .bool false, .bool false, .bool false, .bool false, .bool false, .bool false, .bool false, .bool false] : List Value).toArray) (results_cell_row rfl _ _ w.heap.size _ _ (0, 0) _ (by rfl) hr20 Tryz.underlying77 rfl (by kernel_rfl)) rfl ?_
  have hBz := below_and hB (Nat.le_refl _) hB6
  exact ⟨rfl, hBz.trans (grown_below hg20 hBz.size (fun k hk => by cases hk; exact Nat.le_refl _))⟩
set_option maxRecDepth 10000 in
set_option maxHeartbeats 4000000 in
theorem refFields_12 (w : World) : Calls Tryz.prog 54 #[.int .i64 12] w fun e w' => e = .returned (.agg (marks 12).toArray) ∧ Below w.heap.size w w' := by
  obtain ⟨w2, hw2⟩ : ∃ w2, w2 = w.alloc (.cells ([.bool false, .bool false, .bool false, .bool false, .bool false, .bool false, .bool false, .bool false, .bool false, .bool false, .bool false, .bool false, .bool false, .bool false, .bool false] : List Value).toArray 77) := ⟨_, rfl⟩
  have rr : Row w2 w.heap.size 77 [.bool false, .bool false, .bool false, .bool false, .bool false, .bool false, .bool false, .bool false, .bool false, .bool false, .bool false, .bool false, .bool false, .bool false, .bool false] := by rw [hw2]; exact Row.new w _ _
  have hB : Below w.heap.size w w2 := by rw [hw2]; exact below_alloc _ _
  have hrow := Row.new w2 77 [.bool false, .bool false, .bool false, .bool false, .bool false, .bool false, .bool false, .bool false, .bool false, .bool false, .bool false, .bool false, .bool false, .bool false, .bool false]
  have hlt : w.heap.size < w2.heap.size := rr.lt
  go_enter Tryz.func54, Tryz.ntmps54
  go_upto_region 1 with fail
  rw [← hw2]
  clear hw2
  go_wp2_with (refine wl_store rfl _ _ _ rfl w2.heap.size [.bool false, .bool false, .bool false, .bool false, .bool false, .bool false, .bool false, .bool false, .bool false, .bool false, .bool false, .bool false, .bool false, .bool false, .bool false] rfl rfl _ _ hrow rfl (by kernel_rfl) one_no ?_; intro w3 hr3 hg3)
  have ra3 : Row w3 w2.heap.size 77 [.bool false, .bool false, .bool false, .bool false, .bool false, .bool false, .bool false, .bool false, .bool false, .bool false, .bool false, .bool false, .bool false, .bool false, .bool false] := hr3.out
  have hb3 : Below w2.heap.size w2 w3 := (below_alloc w2 (.cells ([.bool false, .bool false, .bool false, .bool false, .bool false, .bool false, .bool false, .bool false, .bool false, .bool false, .bool false, .bool false, .bool false, .bool false, .bool false] : List Value).toArray 77)).trans (grown_below hg3 (by simp) (fun k hk => by cases hk; exact Nat.le_refl _))
  obtain ⟨w4, hw4⟩ : ∃ w4, w4 = (w3.alloc (.cells #[] 3)).alloc (.cells #[.int .i64 1, .int .i64 2, .int .i64 4, .int .i64 5, .int .i64 8, .int .i64 9] 3) := ⟨_, rfl⟩
  have ra4 : Row w4 w2.heap.size 77 [.bool false, .bool false, .bool false, .bool false, .bool false, .bool false, .bool false, .bool false, .bool false, .bool false, .bool false, .bool false, .bool false, .bool false, .bool false] := by rw [hw4]; exact row_alloc (row_alloc ra3 _) _
  have rr4 : Row w4 w.heap.size 77 [.bool false, .bool false, .bool false, .bool false, .bool false, .bool false, .bool false, .bool false, .bool false, .bool false, .bool false, .bool false, .bool false, .bool false, .bool false] := by rw [hw4]; exact row_alloc (row_alloc (rr.below hb3) _) _
  have lr4 : Row w4 (w3.heap.size + 1) 3 [.int .i64 1, .int .i64 2, .int .i64 4, .int .i64 5, .int .i64 8, .int .i64 9] := by
    rw [hw4]
    have := Row.new (w3.alloc (.cells #[] 3)) 3 [.int .i64 1, .int .i64 2, .int .i64 4, .int .i64 5, .int .i64 8, .int .i64 9]
    rw [show (w3.alloc (.cells #[] 3)).heap.size = w3.heap.size + 1 by simp] at this
    exact this
  have hB4 : Below w2.heap.size w2 w4 := by rw [hw4]; exact (hb3.alloc hb3.size _).alloc (Nat.le_trans hb3.size (by simp)) _
  have hlt3 : w2.heap.size < w3.heap.size := ra3.lt
  have c4 := lr4.cell (j := 0) rfl
  rw [← hw4]
  clear hw4 hr3 hg3 hrow rr hb3 ra3
  refine wp_loop_rounds 7 ?_
  rw [rounds_succ]
  go_wp2_with (refine wl_set rfl _ _ _ rfl w2.heap.size 1 _ rfl rfl _ _ ra4 (show 1 < 15 by decide) (by kernel_rfl) rfl ?_; intro w5 hr5 hg5; have ra5 : Row w5 w2.heap.size 77 [.bool false, .bool true, .bool false, .bool false, .bool false, .bool false, .bool false, .bool false, .bool false, .bool false, .bool false, .bool false, .bool false, .bool false, .bool false] := hr5.out; have rr5 := rr4.grown hg5 (fun e => by injection e; omega); have lr5 := lr4.grown hg5 (fun e => by injection e; omega); have hB5 := hB4.trans (grown_below hg5 hB4.size (fun k hk => by cases hk; exact Nat.le_refl _)); have c5 := lr5.cell (j := 1) rfl; clear hr5 hg5 ra4 rr4 lr4 hB4 c4)
  rw [rounds_succ]
  go_wp2_with (refine wl_set rfl _ _ _ rfl w2.heap.size 2 _ rfl rfl _ _ ra5 (show 2 < 15 by decide) (by kernel_rfl) rfl ?_; intro w6 hr6 hg6; have ra6 : Row w6 w2.heap.size 77 [.bool false, .bool true, .bool true, .bool false, .bool false, .bool false, .bool false, .bool false, .bool false, .bool false, .bool false, .bool false, .bool false, .bool false, .bool false] := hr6.out; have rr6 := rr5.grown hg6 (fun e => by injection e; omega); have lr6 := lr5.grown hg6 (fun e => by injection e; omega); have hB6 := hB5.trans (grown_below hg6 hB5.size (fun k hk => by cases hk; exact Nat.le_refl _)); have c6 := lr6.cell (j := 2) rfl; clear hr6 hg6 ra5 rr5 lr5 hB5 c5)
  rw [rounds_succ]
  go_wp2_with (refine wl_set rfl _ _ _ rfl w2.heap.size 4 _ rfl rfl _ _ ra6 (show 4 < 15 by decide) (by kernel_rfl) rfl ?_; intro w7 hr7 hg7; have ra7 : Row w7 w2.heap.size 77 [.bool false, .bool true, .bool true, .bool false, .bool true, .bool false, .bool false, .bool false, .bool false, .bool false, .bool false, .bool false, .bool false, .bool false, .bool false] := hr7.out; have rr7 := rr6.grown hg7 (fun e => by injection e; omega); have lr7 := lr6.grown hg7 (fun e => by injection e; omega); have hB7 := hB6.trans (grown_below hg7 hB6.size (fun k hk => by cases hk; exact Nat.le_refl _)); have c7 := lr7.cell (j := 3) rfl; clear hr7 hg7 ra6 rr6 lr6 hB6 c6)
  rw [rounds_succ]
  go_wp2_with (refine wl_set rfl _ _ _ rfl w2.heap.size 5 _ rfl rfl _ _ ra7 (show 5 < 15 by decide) (by kernel_rfl) rfl ?_; intro w8 hr8 hg8; have ra8 : Row w8 w2.heap.size 77 [.bool false, .bool true, .bool true, .bool false, .bool true, .bool true, .bool false, .bool false, .bool false, .bool false, .bool false, .bool false, .bool false, .bool false, .bool false] := hr8.out; have rr8 := rr7.grown hg8 (fun e => by injection e; omega); have lr8 := lr7.grown hg8 (fun e => by injection e; omega); have hB8 := hB7.trans (grown_below hg8 hB7.size (fun k hk => by cases hk; exact Nat.le_refl _)); have c8 := lr8.cell (j := 4) rfl; clear hr8 hg8 ra7 rr7 lr7 hB7 c7)
  rw [rounds_succ]
  go_wp2_with (refine wl_set rfl _ _ _ rfl w2.heap.size 8 _ rfl rfl _ _ ra8 (show 8 < 15 by decide) (by kernel_rfl) rfl ?_; intro w9 hr9 hg9; have ra9 : Row w9 w2.heap.size 77 [.bool false, .bool true, .bool true, .bool false, .bool true, .bool true, .bool false, .bool false, .bool true, .bool false, .bool false, .bool false, .bool false, .bool false, .bool false] := hr9.out; have rr9 := rr8.grown hg9 (fun e => by injection e; omega); have lr9 := lr8.grown hg9 (fun e => by injection e; omega); have hB9 := hB8.trans (grown_below hg9 hB8.size (fun k hk => by cases hk; exact Nat.le_refl _)); have c9 := lr9.cell (j := 5) rfl; clear hr9 hg9 ra8 rr8 lr8 hB8 c8)
  rw [rounds_succ]
  go_wp2_with (refine wl_set rfl _ _ _ rfl w2.heap.size 9 _ rfl rfl _ _ ra9 (show 9 < 15 by decide) (by kernel_rfl) rfl ?_; intro w10 hr10 hg10; have ra10 : Row w10 w2.heap.size 77 [.bool false, .bool true, .bool true, .bool false, .bool true, .bool true, .bool false, .bool false, .bool true, .bool true, .bool false, .bool false, .bool false, .bool false, .bool false] := hr10.out; have rr10 := rr9.grown hg10 (fun e => by injection e; omega); have lr10 := lr9.grown hg10 (fun e => by injection e; omega); have hB10 := hB9.trans (grown_below hg10 hB9.size (fun k hk => by cases hk; exact Nat.le_refl _)); clear hr10 hg10 ra9 rr9 lr9 hB9 c9)
  rw [rounds_succ]
  go_wp2_with (first
    | (refine wl_load rfl _ _ rfl w2.heap.size rfl _ _ ra10 _ Tryz.underlying77 rfl (by kernel_rfl) ?_)
    | (refine wl_store rfl _ _ _ rfl w.heap.size [.bool false, .bool true, .bool true, .bool false, .bool true, .bool true, .bool false, .bool false, .bool true, .bool true, .bool false, .bool false, .bool false, .bool false, .bool false] rfl rfl _ _ rr10 rfl (by kernel_rfl) one_12 ?_; intro w20 hr20 hg20))
  have hr20 := hr20.out
  refine bodyPost_ret (v := .agg ([.bool false, .bool true, .bool true, .bool false, .bool true, .bool true, .bool false, .bool false, .bool true, .bool true, .bool false, .bool false, .bool false, .bool false, .bool false] : List Value).toArray) (results_cell_row rfl _ _ w.heap.size _ _ (0, 0) _ (by rfl) hr20 Tryz.underlying77 rfl (by kernel_rfl)) rfl ?_
  have hBz := below_and hB (Nat.le_refl _) hB10
  exact ⟨rfl, hBz.trans (grown_below hg20 hBz.size (fun k hk => by cases hk; exact Nat.le_refl _))⟩
set_option maxRecDepth 10000 in
set_option maxHeartbeats 4000000 in
theorem refFields_13 (w : World) : Calls Tryz.prog 54 #[.int .i64 13] w fun e w' => e = .returned (.agg (marks 13).toArray) ∧ Below w.heap.size w w' := by
  obtain ⟨w2, hw2⟩ : ∃ w2, w2 = w.alloc (.cells ([.bool false, .bool false, .bool false, .bool false, .bool false, .bool false, .bool false, .bool false, .bool false, .bool false, .bool false, .bool false, .bool false, .bool false, .bool false] : List Value).toArray 77) := ⟨_, rfl⟩
  have rr : Row w2 w.heap.size 77 [.bool false, .bool false, .bool false, .bool false, .bool false, .bool false, .bool false, .bool false, .bool false, .bool false, .bool false, .bool false, .bool false, .bool false, .bool false] := by rw [hw2]; exact Row.new w _ _
  have hB : Below w.heap.size w w2 := by rw [hw2]; exact below_alloc _ _
  have hrow := Row.new w2 77 [.bool false, .bool false, .bool false, .bool false, .bool false, .bool false, .bool false, .bool false, .bool false, .bool false, .bool false, .bool false, .bool false, .bool false, .bool false]
  have hlt : w.heap.size < w2.heap.size := rr.lt
  go_enter Tryz.func54, Tryz.ntmps54
  go_upto_region 1 with fail
  rw [← hw2]
  clear hw2
  go_wp2_with (refine wl_store rfl _ _ _ rfl w2.heap.size [.bool false, .bool false, .bool false, .bool false, .bool false, .bool false, .bool false, .bool false, .bool false, .bool false, .bool false, .bool false, .bool false, .bool false, .bool false] rfl rfl _ _ hrow rfl (by kernel_rfl) one_no ?_; intro w3 hr3 hg3)
  have ra3 : Row w3 w2.heap.size 77 [.bool false, .bool false, .bool false, .bool false, .bool false, .bool false, .bool false, .bool false, .bool false, .bool false, .bool false, .bool false, .bool false, .bool false, .bool false] := hr3.out
  have hb3 : Below w2.heap.size w2 w3 := (below_alloc w2 (.cells ([.bool false, .bool false, .bool false, .bool false, .bool false, .bool false, .bool false, .bool false, .bool false, .bool false, .bool false, .bool false, .bool false, .bool false, .bool false] : List Value).toArray 77)).trans (grown_below hg3 (by simp) (fun k hk => by cases hk; exact Nat.le_refl _))
  obtain ⟨w4, hw4⟩ : ∃ w4, w4 = (w3.alloc (.cells #[] 3)).alloc (.cells #[.int .i64 0, .int .i64 1, .int .i64 2, .int .i64 4, .int .i64 6, .int .i64 7, .int .i64 8, .int .i64 9] 3) := ⟨_, rfl⟩
  have ra4 : Row w4 w2.heap.size 77 [.bool false, .bool false, .bool false, .bool false, .bool false, .bool false, .bool false, .bool false, .bool false, .bool false, .bool false, .bool false, .bool false, .bool false, .bool false] := by rw [hw4]; exact row_alloc (row_alloc ra3 _) _
  have rr4 : Row w4 w.heap.size 77 [.bool false, .bool false, .bool false, .bool false, .bool false, .bool false, .bool false, .bool false, .bool false, .bool false, .bool false, .bool false, .bool false, .bool false, .bool false] := by rw [hw4]; exact row_alloc (row_alloc (rr.below hb3) _) _
  have lr4 : Row w4 (w3.heap.size + 1) 3 [.int .i64 0, .int .i64 1, .int .i64 2, .int .i64 4, .int .i64 6, .int .i64 7, .int .i64 8, .int .i64 9] := by
    rw [hw4]
    have := Row.new (w3.alloc (.cells #[] 3)) 3 [.int .i64 0, .int .i64 1, .int .i64 2, .int .i64 4, .int .i64 6, .int .i64 7, .int .i64 8, .int .i64 9]
    rw [show (w3.alloc (.cells #[] 3)).heap.size = w3.heap.size + 1 by simp] at this
    exact this
  have hB4 : Below w2.heap.size w2 w4 := by rw [hw4]; exact (hb3.alloc hb3.size _).alloc (Nat.le_trans hb3.size (by simp)) _
  have hlt3 : w2.heap.size < w3.heap.size := ra3.lt
  have c4 := lr4.cell (j := 0) rfl
  rw [← hw4]
  clear hw4 hr3 hg3 hrow rr hb3 ra3
  refine wp_loop_rounds 9 ?_
  rw [rounds_succ]
  go_wp2_with (refine wl_set rfl _ _ _ rfl w2.heap.size 0 _ rfl rfl _ _ ra4 (show 0 < 15 by decide) (by kernel_rfl) rfl ?_; intro w5 hr5 hg5; have ra5 : Row w5 w2.heap.size 77 [.bool true, .bool false, .bool false, .bool false, .bool false, .bool false, .bool false, .bool false, .bool false, .bool false, .bool false, .bool false, .bool false, .bool false, .bool false] := hr5.out; have rr5 := rr4.grown hg5 (fun e => by injection e; omega); have lr5 := lr4.grown hg5 (fun e => by injection e; omega); have hB5 := hB4.trans (grown_below hg5 hB4.size (fun k hk => by cases hk; exact Nat.le_refl _)); have c5 := lr5.cell (j := 1) rfl; clear hr5 hg5 ra4 rr4 lr4 hB4 c4)
  rw [rounds_succ]
  go_wp2_with (refine wl_set rfl _ _ _ rfl w2.heap.size 1 _ rfl rfl _ _ ra5 (show 1 < 15 by decide) (by kernel_rfl) rfl ?_; intro w6 hr6 hg6; have ra6 : Row w6 w2.heap.size 77 [.bool true, .bool true, .bool false, .bool false, .bool false, .bool false, .bool false, .bool false, .bool false, .bool false, .bool false, .bool false, .bool false, .bool false, .bool false] := hr6.out; have rr6 := rr5.grown hg6 (fun e => by injection e; omega); have lr6 := lr5.grown hg6 (fun e => by injection e; omega); have hB6 := hB5.trans (grown_below hg6 hB5.size (fun k hk => by cases hk; exact Nat.le_refl _)); have c6 := lr6.cell (j := 2) rfl; clear hr6 hg6 ra5 rr5 lr5 hB5 c5)
  rw [rounds_succ]
  go_wp2_with (refine wl_set rfl _ _ _ rfl w2.heap.size 2 _ rfl rfl _ _ ra6 (show 2 < 15 by decide) (by kernel_rfl) rfl ?_; intro w7 hr7 hg7; have ra7 : Row w7 w2.heap.size 77 [.bool true, .bool true, .bool true, .bool false, .bool false, .bool false, .bool false, .bool false, .bool false, .bool false, .bool false, .bool false, .bool false, .bool false, .bool false] := hr7.out; have rr7 := rr6.grown hg7 (fun e => by injection e; omega); have lr7 := lr6.grown hg7 (fun e => by injection e; omega); have hB7 := hB6.trans (grown_below hg7 hB6.size (fun k hk => by cases hk; exact Nat.le_refl _)); have c7 := lr7.cell (j := 3) rfl; clear hr7 hg7 ra6 rr6 lr6 hB6 c6)
  rw [rounds_succ]
  go_wp2_with (refine wl_set rfl _ _ _ rfl w2.heap.size 4 _ rfl rfl _ _ ra7 (show 4 < 15 by decide) (by kernel_rfl) rfl ?_; intro w8 hr8 hg8; have ra8 : Row w8 w2.heap.size 77 [.bool true, .bool true, .bool true, .bool false, .bool true, .bool false, .bool false, .bool false, .bool false, .bool false, .bool false, .bool false, .bool false, .bool false, .bool false] := hr8.out; have rr8 := rr7.grown hg8 (fun e => by injection e; omega); have lr8 := lr7.grown hg8 (fun e => by injection e; omega); have hB8 := hB7.trans (grown_below hg8 hB7.size (fun k hk => by cases hk; exact Nat.le_refl _)); have c8 := lr8.cell (j := 4) rfl; clear hr8 hg8 ra7 rr7 lr7 hB7 c7)
  rw [rounds_succ]
  go_wp2_with (refine wl_set rfl _ _ _ rfl w2.heap.size 6 _ rfl rfl _ _ ra8 (show 6 < 15 by decide) (by kernel_rfl) rfl ?_; intro w9 hr9 hg9; have ra9 : Row w9 w2.heap.size 77 [.bool true, .bool true, .bool true, .bool false, .bool true, .bool false, .bool true, .bool false, .bool false, .bool false, .bool false, .bool false, .bool false, .bool false, .bool false] := hr9.out; have rr9 := rr8.grown hg9 (fun e => by injection e; omega); have lr9 := lr8.grown hg9 (fun e => by injection e; omega); have hB9 := hB8.trans (grown_below hg9 hB8.size (fun k hk => by cases hk; exact Nat.le_refl _)); have c9 := lr9.cell (j := 5) rfl; clear hr9 hg9 ra8 rr8 lr8 hB8 c8)
  rw [rounds_succ]
  go_wp2_with (refine wl_set rfl _ _ _ rfl w2.heap.size 7 _ rfl rfl _ _ ra9 (show 7 < 15 by decide) (by kernel_rfl) rfl ?_; intro w10 hr10 hg10; have ra10 : Row w10 w2.heap.size 77 [.bool true, .bool true, .bool true, .bool false, .bool true, .bool false, .bool true, .bool true, .bool false, .bool false, .bool false, .bool false, .bool false, .bool false, .bool false] := hr10.out; have rr10 := rr9.grown hg10 (fun e => by injection e; omega); have lr10 := lr9.grown hg10 (fun e => by injection e; omega); have hB10 := hB9.trans (grown_below hg10 hB9.size (fun k hk => by cases hk; exact Nat.le_refl _)); have c10 := lr10.cell (j := 6) rfl; clear hr10 hg10 ra9 rr9 lr9 hB9 c9)
  rw [rounds_succ]
  go_wp2_with (refine wl_set rfl _ _ _ rfl w2.heap.size 8 _ rfl rfl _ _ ra10 (show 8 < 15 by decide) (by kernel_rfl) rfl ?_; intro w11 hr11 hg11; have ra11 : Row w11 w2.heap.size 77 [.bool true, .bool true, .bool true, .bool false, .bool true, .bool false, .bool true, .bool true, .bool true, .bool false, .bool false, .bool false, .bool false, .bool false, .bool false] := hr11.out; have rr11 := rr10.grown hg11 (fun e => by injection e; omega); have lr11 := lr10.grown hg11 (fun e => by injection e; omega); have hB11 := hB10.trans (grown_below hg11 hB10.size (fun k hk => by cases hk; exact Nat.le_refl _)); have c11 := lr11.cell (j := 7) rfl; clear hr11 hg11 ra10 rr10 lr10 hB10 c10)
  rw [rounds_succ]
  go_wp2_with (refine wl_set rfl _ _ _ rfl w2.heap.size 9 _ rfl rfl _ _ ra11 (show 9 < 15 by decide) (by kernel_rfl) rfl ?_; intro w12 hr12 hg12; have ra12 : Row w12 w2.heap.size 77 [.bool true, .bool true, .bool true, .bool false, .bool true, .bool false, .bool true, .bool true, .bool true, .bool true, .bool false, .bool false, .bool false, .bool false, .bool false] := hr12.out; have rr12 := rr11.grown hg12 (fun e => by injection e; omega); have lr12 := lr11.grown hg12 (fun e => by injection e; omega); have hB12 := hB11.trans (grown_below hg12 hB11.size (fun k hk => by cases hk; exact Nat.le_refl _)); clear hr12 hg12 ra11 rr11 lr11 hB11 c11)
  rw [rounds_succ]
  go_wp2_with (first
    | (refine wl_load rfl _ _ rfl w2.heap.size rfl _ _ ra12 _ Tryz.underlying77 rfl (by kernel_rfl) ?_)
    | (refine wl_store rfl _ _ _ rfl w.heap.size [.bool true, .bool true, .bool true, .bool false, .bool true, .bool false, .bool true, .bool true, .bool true, .bool true, .bool false, .bool false, .bool false, .bool false, .bool false] rfl rfl _ _ rr12 rfl (by kernel_rfl) one_13 ?_; intro w20 hr20 hg20))
  have hr20 := hr20.out
  refine bodyPost_ret (v := .agg ([.bool true, .bool true, .bool true, .bool false, .bool true, .bool false, .bool true, .bool true, .bool true, .bool true, .bool false, .bool false, .bool false, .bool false, .bool false] : List Value).toArray) (results_cell_row rfl _ _ w.heap.size _ _ (0, 0) _ (by rfl) hr20 Tryz.underlying77 rfl (by kernel_rfl)) rfl ?_
  have hBz := below_and hB (Nat.le_refl _) hB12
  exact ⟨rfl, hBz.trans (grown_below hg20 hBz.size (fun k hk => by cases hk; exact Nat.le_refl _))⟩
set_option maxRecDepth 10000 in
set_option maxHeartbeats 4000000 in
theorem refFields_20 (w : World) : Calls Tryz.prog 54 #[.int .i64 20] w fun e w' => e = .returned (.agg (marks 20).toArray) ∧ Below w.heap.size w w' := by
  obtain ⟨w2, hw2⟩ : ∃ w2, w2 = w.alloc (.cells ([.bool false, .bool false, .bool false, .bool false, .bool false, .bool false, .bool false, .bool false, .bool false, .bool false, .bool false, .bool false, .bool false, .bool false, .bool false] : List Value).toArray 77) := ⟨_, rfl⟩
  have rr : Row w2 w.heap.size 77 [.bool false, .bool false, .bool false, .bool false, .bool false, .bool false, .bool false, .bool false, .bool false, .bool false, .bool false, .bool false, .bool false, .bool false, .bool false] := by rw [hw2]; exact Row.new w _ _
  have hB : Below w.heap.size w w2 := by rw [hw2]; exact below_alloc _ _
  have hrow := Row.new w2 77 [.bool false, .bool false, .bool false, .bool false, .bool false, .bool false, .bool false, .bool false, .bool false, .bool false, .bool false, .bool false, .bool false, .bool false, .bool false]
  have hlt : w.heap.size < w2.heap.size := rr.lt
  go_enter Tryz.func54, Tryz.ntmps54
  go_upto_region 1 with fail
  rw [← hw2]
  clear hw2
  go_wp2_with (refine wl_store rfl _ _ _ rfl w2.heap.size [.bool false, .bool false, .bool false, .bool false, .bool false, .bool false, .bool false, .bool false, .bool false, .bool false, .bool false, .bool false, .bool false, .bool false, .bool false] rfl rfl _ _ hrow rfl (by kernel_rfl) one_no ?_; intro w3 hr3 hg3)
  have ra3 : Row w3 w2.heap.size 77 [.bool false, .bool false, .bool false, .bool false, .bool false, .bool false, .bool false, .bool false, .bool false, .bool false, .bool false, .bool false, .bool false, .bool false, .bool false] := hr3.out
  have hb3 : Below w2.heap.size w2 w3 := (below_alloc w2 (.cells ([.bool false, .bool false, .bool false, .bool false, .bool false, .bool false, .bool false, .bool false, .bool false, .bool false, .bool false, .bool false, .bool false, .bool false, .bool false] : List Value).toArray 77)).trans (grown_below hg3 (by simp) (fun k hk => by cases hk; exact Nat.le_refl _))
  obtain ⟨w4, hw4⟩ : ∃ w4, w4 = (w3.alloc (.cells #[] 3)).alloc (.cells #[.int .i64 0] 3) := ⟨_, rfl⟩
  have ra4 : Row w4 w2.heap.size 77 [.bool false, .bool false, .bool false, .bool false, .bool false, .bool false, .bool false, .bool false, .bool false, .bool false, .bool false, .bool false, .bool false, .bool false, .bool false] := by rw [hw4]; exact row_alloc (row_alloc ra3 _) _
  have rr4 : Row w4 w.heap.size 77 [.bool false, .bool false, .bool false, .bool false, .bool false, .bool false, .bool false, .bool false, .bool false, .bool false, .bool false, .bool false, .bool false, .bool false, .bool false] := by rw [hw4]; exact row_alloc (row_alloc (rr.below hb3) _) _
  have lr4 : Row w4 (w3.heap.size + 1) 3 [.int .i64 0] := by
    rw [hw4]
    have := Row.new (w3.alloc (.cells #[] 3)) 3 [.int .i64 0]
    rw [show (w3.alloc (.cells #[] 3)).heap.size = w3.heap.size + 1 by simp] at this
    exact this
  have hB4 : Below w2.heap.size w2 w4 := by rw [hw4]; exact (hb3.alloc hb3.size _).alloc (Nat.le_trans hb3.size (by simp)) _
  have hlt3 : w2.heap.size < w3.heap.size := ra3.lt
  have c4 := lr4.cell (j := 0) rfl
  rw [← hw4]
  clear hw4 hr3 hg3 hrow rr hb3 ra3
  refine wp_loop_rounds 2 ?_
  rw [rounds_succ]
  go_wp2_with (refine wl_set rfl _ _ _ rfl w2.heap.size 0 _ rfl rfl _ _ ra4 (show 0 < 15 by decide) (by kernel_rfl) rfl ?_; intro w5 hr5 hg5; have ra5 : Row w5 w2.heap.size 77 [.bool true, .bool false, .bool false, .bool false, .bool false, .bool false, .bool false, .bool false, .bool false, .bool false, .bool false, .bool false, .bool false, .bool false, .bool false] := hr5.out; have rr5 := rr4.grown hg5 (fun e => by injection e; omega); have lr5 := lr4.grown hg5 (fun e => by injection e; omega); have hB5 := hB4.trans (grown_below hg5 hB4.size (fun k hk => by cases hk; exact Nat.le_refl _)); clear hr5 hg5 ra4 rr4 lr4 hB4 c4)
  rw [rounds_succ]
  go_wp2_with (first
    | (refine wl_load rfl _ _ rfl w2.heap.size rfl _ _ ra5 _ Tryz.underlying77 rfl (by kernel_rfl) ?_)
    | (refine wl_store rfl _ _ _ rfl w.heap.size [.bool true, .bool false, .bool false, .bool false, .bool false, .bool false, .bool false, .bool false, .bool false, .bool false, .bool false, .bool false, .bool false, .bool false, .bool false] rfl rfl _ _ rr5 rfl (by kernel_rfl) one_20 ?_; intro w20 hr20 hg20))
  have hr20 := hr20.out
  refine bodyPost_ret (v := .agg ([.bool true, .bool false, .bool false, .bool false, .bool false, .bool false, .bool false, .bool false, .bool false, .bool false, .bool false, .bool false, .bool false, .bool false, .bool false] : List Value).toArray) (results_cell_row rfl _ _ w.heap.size _ _ (0, 0) _ (by rfl) hr20 Tryz.underlying77 rfl (by kernel_rfl)) rfl ?_
  have hBz := below_and hB (Nat.le_refl _) hB5
  exact ⟨rfl, hBz.trans (grown_below hg20 hBz.size (fun k hk => by cases hk; exact Nat.le_refl _))⟩
set_option maxRecDepth 10000 in
set_option maxHeartbeats 4000000 in
theorem refFields_21 (w : World) : Calls Tryz.prog 54 #[.int .i64 21] w fun e w' => e = .returned (.agg (marks 21).toArray) ∧ Below w.heap.size w w' := by
  obtain ⟨w2, hw2⟩ : ∃ w2, w2 = w.alloc (.cells ([.bool false, .bool false, .bool false, .bool false, .bool false, .bool false, .bool false, .bool false, .bool false, .bool false, .bool false, .bool false, .bool false, .bool false, .bool false] : List Value).toArray 77) := ⟨_, rfl⟩
  have rr : Row w2 w.heap.size 77 [.bool false, .bool false, .bool false, .bool false, .bool false, .bool false, .bool false, .bool false, .bool false, .bool false, .bool false, .bool false, .bool false, .bool false, .bool false] := by rw [hw2]; exact Row.new w _ _
  have hB : Below w.heap.size w w2 := by rw [hw2]; exact below_alloc _ _
  have hrow := Row.new w2 77 [.bool false, .bool false, .bool false, .bool false, .bool false, .bool false, .bool false, .bool false, .bool false, .bool false, .bool false, .bool false, .bool false, .bool false, .bool false]
  have hlt : w.heap.size < w2.heap.size := rr.lt
  go_enter Tryz.func54, Tryz.ntmps54
  go_upto_region 1 with fail
  rw [← hw2]
  clear hw2
  go_wp2_with (refine wl_store rfl _ _ _ rfl w2.heap.size [.bool false, .bool false, .bool false, .bool false, .bool false, .bool false, .bool false, .bool false, .bool false, .bool false, .bool false, .bool false, .bool false, .bool false, .bool false] rfl rfl _ _ hrow rfl (by kernel_rfl) one_no ?_; intro w3 hr3 hg3)
  have ra3 : Row w3 w2.heap.size 77 [.bool false, .bool false, .bool false, .bool false, .bool false, .bool false, .bool false, .bool false, .bool false, .bool false, .bool false, .bool false, .bool false, .bool false, .bool false] := hr3.out
  have hb3 : Below w2.heap.size w2 w3 := (below_alloc w2 (.cells ([.bool false, .bool false, .bool false, .bool false, .bool false, .bool false, .bool false, .bool false, .bool false, .bool false, .bool false, .bool false, .bool false, .bool false, .bool false] : List Value).toArray 77)).trans (grown_below hg3 (by simp) (fun k hk => by cases hk; exact Nat.le_refl _))
  obtain ⟨w4, hw4⟩ : ∃ w4, w4 = (w3.alloc (.cells #[] 3)).alloc (.cells #[.int .i64 0, .int .i64 1, .int .i64 12, .int .i64 13] 3) := ⟨_, rfl⟩
  have ra4 : Row w4 w2.heap.size 77 [.bool false, .bool false, .bool false, .bool false, .bool false, .bool false, .bool false, .bool false, .bool false, .bool false, .bool false, .bool false, .bool false, .bool false, .bool false] := by rw [hw4]; exact row_alloc (row_alloc ra3 _) _
  have rr4 : Row w4 w.heap.size 77 [.bool false, .bool false, .bool false, .bool false, .bool false, .bool false, .bool false, .bool false, .bool false, .bool false, .bool false, .bool false, .bool false, .bool false, .bool false] := by rw [hw4]; exact row_alloc (row_alloc (rr.below hb3) _) _
  have lr4 : Row w4 (w3.heap.size + 1) 3 [.int .i64 0, .int .i64 1, .int .i64 12, .int .i64 13] := by
    rw [hw4]
    have := Row.new (w3.alloc (.cells #[] 3)) 3 [.int .i64 0, .int .i64 1, .int .i64 12, .int .i64 13]
    rw [show (w3.alloc (.cells #[] 3)).heap.size = w3.heap.size + 1 by simp] at this
    exact this
  have hB4 : Below w2.heap.size w2 w4 := by rw [hw4]; exact (hb3.alloc hb3.size _).alloc (Nat.le_trans hb3.size (by simp)) _
  have hlt3 : w2.heap.size < w3.heap.size := ra3.lt
  have c4 := lr4.cell (j := 0) rfl
  rw [← hw4]
  clear hw4 hr3 hg3 hrow rr hb3 ra3
  refine wp_loop_rounds 5 ?_
  rw [rounds_succ]
  go_wp2_with (refine wl_set rfl _ _ _ rfl w2.heap.size 0 _ rfl rfl _ _ ra4 (show 0 < 15 by decide) (by kernel_rfl) rfl ?_; intro w5 hr5 hg5; have ra5 : Row w5 w2.heap.size 77 [.bool true, .bool false, .bool false, .bool false, .bool false, .bool false, .bool false, .bool false, .bool false, .bool false, .bool false, .bool false, .bool false, .bool false, .bool false] := hr5.out; have rr5 := rr4.grown hg5 (fun e => by injection e; omega); have lr5 := lr4.grown hg5 (fun e => by injection e; omega); have hB5 := hB4.trans (grown_below hg5 hB4.size (fun k hk => by cases hk; exact Nat.le_refl _)); have c5 := lr5.cell (j := 1) rfl; clear hr5 hg5 ra4 rr4 lr4 hB4 c4)
  rw [rounds_succ]
  go_wp2_with (refine wl_set rfl _ _ _ rfl w2.heap.size 1 _ rfl rfl _ _ ra5 (show 1 < 15 by decide) (by kernel_rfl) rfl ?_; intro w6 hr6 hg6; have ra6 : Row w6 w2.heap.size 77 [.bool true, .bool true, .bool false, .bool false, .bool false, .bool false, .bool false, .bool false, .bool false, .bool false, .bool false, .bool false, .bool false, .bool false, .bool false] := hr6.out; have rr6 := rr5.grown hg6 (fun e => by injection e; omega); have lr6 := lr5.grown hg6 (fun e => by injection e; omega); have hB6 := hB5.trans (grown_below hg6 hB5.size (fun k hk => by cases hk; exact Nat.le_refl _)); have c6 := lr6.cell (j := 2) rfl; clear hr6 hg6 ra5 rr5 lr5 hB5 c5)
  rw [rounds_succ]
  go_wp2_with (refine wl_set rfl _ _ _ rfl w2.heap.size 12 _ rfl rfl _ _ ra6 (show 12 < 15 by decide) (by kernel_rfl) rfl ?_; intro w7 hr7 hg7; have ra7 : Row w7 w2.heap.size 77 [.bool true, .bool true, .bool false, .bool false, .bool false, .bool false, .bool false, .bool false, .bool false, .bool false, .bool false, .bool false, .bool true, .bool false, .bool false] := hr7.out; have rr7 := rr6.grown hg7 (fun e => by injection e; omega); have lr7 := lr6.grown hg7 (fun e => by injection e; omega); have hB7 := hB6.trans (grown_below hg7 hB6.size (fun k hk => by cases hk; exact Nat.le_refl _)); have c7 := lr7.cell (j := 3) rfl; clear hr7 hg7 ra6 rr6 lr6 hB6 c6)
  rw [rounds_succ]
  go_wp2_with (refine wl_set rfl _ _ _ rfl w2.heap.size 13 _ rfl rfl _ _ ra7 (show 13 < 15 by decide) (by kernel_rfl) rfl ?_; intro w8 hr8 hg8; have ra8 : Row w8 w2.heap.size 77 [.bool true, .bool true, .bool false, .bool false, .bool false, .bool false, .bool false, .bool false, .bool false, .bool false, .bool false, .bool false, .bool true, .bool true, .bool false] := hr8.out; have rr8 := rr7.grown hg8 (fun e => by injection e; omega); have lr8 := lr7.grown hg8 (fun e => by injection e; omega); have hB8 := hB7.trans (grown_below hg8 hB7.size (fun k hk => by cases hk; exact Nat.le_refl _)); clear hr8 hg8 ra7 rr7 lr7 hB7 c7)
  rw [rounds_succ]
  go_wp2_with (first
    | (refine wl_load rfl _ _ rfl w2.heap.size rfl _ _ ra8 _ Tryz.underlying77 rfl (by kernel_rfl) ?_)
    | (refine wl_store rfl _ _ _ rfl w.heap.size [.bool true, .bool true, .bool false, .bool false, .bool false, .bool false, .bool false, .bool false, .bool false, .bool false, .bool false, .bool false, .bool true, .bool true, .bool false] rfl rfl _ _ rr8 rfl (by kernel_rfl) one_21 ?_; intro w20 hr20 hg20))
  have hr20 := hr20.out
  refine bodyPost_ret (v := .agg ([.bool true, .bool true, .bool false, .bool false, .bool false, .bool false, .bool false, .bool false, .bool false, .bool false, .bool false, .bool false, .bool true, .bool true, .bool false] : List Value).toArray) (results_cell_row rfl _ _ w.heap.size _ _ (0, 0) _ (by rfl) hr20 Tryz.underlying77 rfl (by kernel_rfl)) rfl ?_
  have hBz := below_and hB (Nat.le_refl _) hB8
  exact ⟨rfl, hBz.trans (grown_below hg20 hBz.size (fun k hk => by cases hk; exact Nat.le_refl _))⟩
set_option maxRecDepth 10000 in
set_option maxHeartbeats 4000000 in
theorem refFields_22 (w : World) : Calls Tryz.prog 54 #[.int .i64 22] w fun e w' => e = .returned (.agg (marks 22).toArray) ∧ Below w.heap.size w w' := by
  obtain ⟨w2, hw2⟩ : ∃ w2, w2 = w.alloc (.cells ([.bool false, .bool false, .bool false, .bool false, .bool false, .bool false, .bool false, .bool false, .bool false, .bool false, .bool false, .bool false, .bool false, .bool false, .bool false] : List Value).toArray 77) := ⟨_, rfl⟩
  have rr : Row w2 w.heap.size 77 [.bool false, .bool false, .bool false, .bool false, .bool false, .bool false, .bool false, .bool false, .bool false, .bool false, .bool false, .bool false, .bool false, .bool false, .bool false] := by rw [hw2]; exact Row.new w _ _
  have hB : Below w.heap.size w w2 := by rw [hw2]; exact below_alloc _ _
  have hrow := Row.new w2 77 [.bool false, .bool false, .bool false, .bool false, .bool false, .bool false, .bool false, .bool false, .bool false, .bool false, .bool false, .bool false, .bool false, .bool false, .bool false]
  have hlt : w.heap.size < w2.heap.size := rr.lt
  go_enter Tryz.func54, Tryz.ntmps54
  go_upto_region 1 with fail
  rw [← hw2]
  clear hw2
  go_wp2_with (refine wl_store rfl _ _ _ rfl w2.heap.size [.bool false, .bool false, .bool false, .bool false, .bool false, .bool false, .bool false, .bool false, .bool false, .bool false, .bool false, .bool false, .bool false, .bool false, .bool false] rfl rfl _ _ hrow rfl (by kernel_rfl) one_no ?_; intro w3 hr3 hg3)
  have ra3 : Row w3 w2.heap.size 77 [.bool false, .bool false, .bool false, .bool false, .bool false, .bool false, .bool false, .bool false, .bool false, .bool false, .bool false, .bool false, .bool false, .bool false, .bool false] := hr3.out
  have hb3 : Below w2.heap.size w2 w3 := (below_alloc w2 (.cells ([.bool false, .bool false, .bool false, .bool false, .bool false, .bool false, .bool false, .bool false, .bool false, .bool false, .bool false, .bool false, .bool false, .bool false, .bool false] : List Value).toArray 77)).trans (grown_below hg3 (by simp) (fun k hk => by cases hk; exact Nat.le_refl _))
  obtain ⟨w4, hw4⟩ : ∃ w4, w4 = (w3.alloc (.cells #[] 3)).alloc (.cells #[.int .i64 0, .int .i64 1, .int .i64 6] 3) := ⟨_, rfl⟩
  have ra4 : Row w4 w2.heap.size 77 [.bool false, .bool false, .bool false, .bool false, .bool false, .bool false, .bool false, .bool false, .bool false, .bool false, .bool false, .bool false, .bool false, .bool false, .bool false] := by rw [hw4]; exact row_alloc (row_alloc ra3 _) _
  have rr4 : Row w4 w.heap.size 77 [.bool false, .bool false, .bool false, .bool false, .bool false, .bool false, .bool false, .bool false, .bool false, .bool false, .bool false, .bool false, .bool false, .bool false, .bool false] := by rw [hw4]; exact row_alloc (row_alloc (rr.below hb3) _) _
  have lr4 : Row w4 (w3.heap.size + 1) 3 [.int .i64 0, .int .i64 1, .int .i64 6] := by
    rw [hw4]
    have := Row.new (w3.alloc (.cells #[] 3)) 3 [.int .i64 0, .int .i64 1, .int .i64 6]
    rw [show (w3.alloc (.cells #[] 3)).heap.size = w3.heap.size + 1 by simp] at this
    exact this
  have hB4 : Below w2.heap.size w2 w4 := by rw [hw4]; exact (hb3.alloc hb3.size _).alloc (Nat.le_trans hb3.size (by simp)) _
  have hlt3 : w2.heap.size < w3.heap.size := ra3.lt
  have c4 := lr4.cell (j := 0) rfl
  rw [← hw4]
  clear hw4 hr3 hg3 hrow rr hb3 ra3
  refine wp_loop_rounds 4 ?_
  rw [rounds_succ]
  go_wp2_with (refine wl_set rfl _ _ _ rfl w2.heap.size 0 _ rfl rfl _ _ ra4 (show 0 < 15 by decide) (by kernel_rfl) rfl ?_; intro w5 hr5 hg5; have ra5 : Row w5 w2.heap.size 77 [.bool true, .bool false, .bool false, .bool false, .bool false, .bool false, .bool false, .bool false, .bool false, .bool false, .bool false, .bool false, .bool false, .bool false, .bool false] := hr5.out; have rr5 := rr4.grown hg5 (fun e => by injection e; omega); have lr5 := lr4.grown hg5 (fun e => by injection e; omega); have hB5 := hB4.trans (grown_below hg5 hB4.size (fun k hk => by cases hk; exact Nat.le_refl _)); have c5 := lr5.cell (j := 1) rfl; clear hr5 hg5 ra4 rr4 lr4 hB4 c4)
  rw [rounds_succ]
  go_wp2_with (refine wl_set rfl _ _ _ rfl w2.heap.size 1 _ rfl rfl _ _ ra5 (show 1 < 15 by decide) (by kernel_rfl) rfl ?_; intro w6 hr6 hg6; have ra6 : Row w6 w2.heap.size 77 [.bool true, .bool true, .bool false, .bool false, .bool false, .bool false, .bool false, .bool false, .bool false, .bool false, .bool false, .bool false, .bool false, .bool false, .bool false] := hr6.out; have rr6 := rr5.grown hg6 (fun e => by injection e; omega); have lr6 := lr5.grown hg6 (fun e => by injection e; omega); have hB6 := hB5.trans (grown_below hg6 hB5.size (fun k hk => by cases hk; exact Nat.le_refl _)); have c6 := lr6.cell (j := 2) rfl; clear hr6 hg6 ra5 rr5 lr5 hB5 c5)
  rw [rounds_succ]
  go_wp2_with (refine wl_set rfl _ _ _ rfl w2.heap.size 6 _ rfl rfl _ _ ra6 (show 6 < 15 by decide) (by kernel_rfl) rfl ?_; intro w7 hr7 hg7; have ra7 : Row w7 w2.heap.size 77 [.bool true, .bool true, .bool false, .bool false, .bool false, .bool false, .bool true, .bool false, .bool false, .bool false, .bool false, .bool false, .bool false, .bool false, .bool false] := hr7.out; have rr7 := rr6.grown hg7 (fun e => by injection e; omega); have lr7 := lr6.grown hg7 (fun e => by injection e; omega); have hB7 := hB6.trans (grown_below hg7 hB6.size (fun k hk => by cases hk; exact Nat.le_refl _)); clear hr7 hg7 ra6 rr6 lr6 hB6 c6)
  rw [rounds_succ]
  go_wp2_with (first
    | (refine wl_load rfl _ _ rfl w2.heap.size rfl _ _ ra7 _ Tryz.underlying77 rfl (by kernel_rfl) ?_)
    | (refine wl_store rfl _ _ _ rfl w.heap.size [.bool true, .bool true, .bool false, .bool false, .bool false, .bool false, .bool true, .bool false, .bool false, .bool false, .bool false, .bool false, .bool false, .bool false, .bool false] rfl rfl _ _ rr7 rfl (by kernel_rfl) one_22 ?_; intro w20 hr20 hg20))
  have hr20 := hr20.out
  refine bodyPost_ret (v := .agg ([.bool true, .bool true, .bool false, .bool false, .bool false, .bool false, .bool true, .bool false, .bool false, .bool false, .bool false, .bool false, .bool false, .bool false, .bool false] : List Value).toArray) (results_cell_row rfl _ _ w.heap.size _ _ (0, 0) _ (by rfl) hr20 Tryz.underlying77 rfl (by kernel_rfl)) rfl ?_
  have hBz := below_and hB (Nat.le_refl _) hB7
  exact ⟨rfl, hBz.trans (grown_below hg20 hBz.size (fun k hk => by cases hk; exact Nat.le_refl _))⟩
set_option maxRecDepth 10000 in
set_option maxHeartbeats 4000000 in
theorem refFields_23 (w : World) : Calls Tryz.prog 54 #[.int .i64 23] w fun e w' => e = .returned (.agg (marks 23).toArray) ∧ Below w.heap.size w w' := by
  obtain ⟨w2, hw2⟩ : ∃ w2, w2 = w.alloc (.cells ([.bool false, .bool false, .bool false, .bool false, .bool false, .bool false, .bool false, .bool false, .bool false, .bool false, .bool false, .bool false, .bool false, .bool false, .bool false] : List Value).toArray 77) := ⟨_, rfl⟩
  have rr : Row w2 w.heap.size 77 [.bool false, .bool false, .bool false, .bool false, .bool false, .bool false, .bool false, .bool false, .bool false, .bool false, .bool false, .bool false, .bool false, .bool false, .bool false] := by rw [hw2]; exact Row.new w _ _
  have hB : Below w.heap.size w w2 := by rw [hw2]; exact below_alloc _ _
  have hrow := Row.new w2 77 [.bool false, .bool false, .bool false, .bool false, .bool false, .bool false, .bool false, .bool false, .bool false, .bool false, .bool false, .bool false, .bool false, .bool false, .bool false]
  have hlt : w.heap.size < w2.heap.size := rr.lt
  go_enter Tryz.func54, Tryz.ntmps54
  go_upto_region 1 with fail
  rw [← hw2]
  clear hw2
  go_wp2_with (refine wl_store rfl _ _ _ rfl w2.heap.size [.bool false, .bool false, .bool false, .bool false, .bool false, .bool false, .bool false, .bool false, .bool false, .bool false, .bool false, .bool false, .bool false, .bool false, .bool false] rfl rfl _ _ hrow rfl (by kernel_rfl) one_no ?_; intro w3 hr3 hg3)
  have ra3 : Row w3 w2.heap.size 77 [.bool false, .bool false, .bool false, .bool false, .bool false, .bool false, .bool false, .bool false, .bool false, .bool false, .bool false, .bool false, .bool false, .bool false, .bool false] := hr3.out
  have hb3 : Below w2.heap.size w2 w3 := (below_alloc w2 (.cells ([.bool false, .bool false, .bool false, .bool false, .bool false, .bool false, .bool false, .bool false, .bool false, .bool false, .bool false, .bool false, .bool false, .bool false, .bool false] : List Value).toArray 77)).trans (grown_below hg3 (by simp) (fun k hk => by cases hk; exact Nat.le_refl _))
  obtain ⟨w4, hw4⟩ : ∃ w4, w4 = (w3.alloc (.cells #[] 3)).alloc (.cells #[.int .i64 0, .int .i64 1, .int .i64 6, .int .i64 10] 3) := ⟨_, rfl⟩
  have ra4 : Row w4 w2.heap.size 77 [.bool false, .bool false, .bool false, .bool false, .bool false, .bool false, .bool false, .bool false, .bool false, .bool false, .bool false, .bool false, .bool false, .bool false, .bool false] := by rw [hw4]; exact row_alloc (row_alloc ra3 _) _
  have rr4 : Row w4 w.heap.size 77 [.bool false, .bool false, .bool false, .bool false, .bool false, .bool false, .bool false, .bool false, .bool false, .bool false, .bool false, .bool false, .bool false, .bool false, .bool false] := by rw [hw4]; exact row_alloc (row_alloc (rr.below hb3) _) _
  have lr4 : Row w4 (w3.heap.size + 1) 3 [.int .i64 0, .int .i64 1, .int .i64 6, .int .i64 10] := by
    rw [hw4]
    have := Row.new (w3.alloc (.cells #[] 3)) 3 [.int .i64 0, .int .i64 1, .int .i64 6, .int .i64 10]
    rw [show (w3.alloc (.cells #[] 3)).heap.size = w3.heap.size + 1 by simp] at this
    exact this
  have hB4 : Below w2.heap.size w2 w4 := by rw [hw4]; exact (hb3.alloc hb3.size _).alloc (Nat.le_trans hb3.size (by simp)) _
  have hlt3 : w2.heap.size < w3.heap.size := ra3.lt
  have c4 := lr4.cell (j := 0) rfl
  rw [← hw4]
  clear hw4 hr3 hg3 hrow rr hb3 ra3
  refine wp_loop_rounds 5 ?_
  rw [rounds_succ]
  go_wp2_with (refine wl_set rfl _ _ _ rfl w2.heap.size 0 _ rfl rfl _ _ ra4 (show 0 < 15 by decide) (by kernel_rfl) rfl ?_; intro w5 hr5 hg5; have ra5 : Row w5 w2.heap.size 77 [.bool true, .bool false, .bool false, .bool false, .bool false, .bool false, .bool false, .bool false, .bool false, .bool false, .bool false, .bool false, .bool false, .bool false, .bool false] := hr5.out; have rr5 := rr4.grown hg5 (fun e => by injection e; omega); have lr5 := lr4.grown hg5 (fun e => by injection e; omega); have hB5 := hB4.trans (grown_below hg5 hB4.size (fun k hk => by cases hk; exact Nat.le_refl _)); have c5 := lr5.cell (j := 1) rfl; clear hr5 hg5 ra4 rr4 lr4 hB4 c4)
  rw [rounds_succ]
  go_wp2_with (refine wl_set rfl _ _ _ rfl w2.heap.size 1 _ rfl rfl _ _ ra5 (show 1 < 15 by decide) (by kernel_rfl) rfl ?_; intro w6 hr6 hg6; have ra6 : Row w6 w2.heap.size 77 [.bool true, .bool true, .bool false, .bool false, .bool false, .bool false, .bool false, .bool false, .bool false, .bool false, .bool false, .bool false, .bool false, .bool false, .bool false] := hr6.out; have rr6 := rr5.grown hg6 (fun e => by injection e; omega); have lr6 := lr5.grown hg6 (fun e => by injection e; omega); have hB6 := hB5.trans (grown_below hg6 hB5.size (fun k hk => by cases hk; exact Nat.le_refl _)); have c6 := lr6.cell (j := 2) rfl; clear hr6 hg6 ra5 rr5 lr5 hB5 c5)
  rw [rounds_succ]
  go_wp2_with (refine wl_set rfl _ _ _ rfl w2.heap.size 6 _ rfl rfl _ _ ra6 (show 6 < 15 by decide) (by kernel_rfl) rfl ?_; intro w7 hr7 hg7; have ra7 : Row w7 w2.heap.size 77 [.bool true, .bool true, .bool false, .bool false, .bool false, .bool false, .bool true, .bool false, .bool false, .bool false, .bool false, .bool false, .bool false, .bool false, .bool false] := hr7.out; have rr7 := rr6.grown hg7 (fun e => by injection e; omega); have lr7 := lr6.grown hg7 (fun e => by injection e; omega); have hB7 := hB6.trans (grown_below hg7 hB6.size (fun k hk => by cases hk; exact Nat.le_refl _)); have c7 := lr7.cell (j := 3) rfl; clear hr7 hg7 ra6 rr6 lr6 hB6 c6)
  rw [rounds_succ]
  go_wp2_with (refine wl_set rfl _ _ _ rfl w2.heap.size 10 _ rfl rfl _ _ ra7 (show 10 < 15 by decide) (by kernel_rfl) rfl ?_; intro w8 hr8 hg8; have ra8 : Row w8 w2.heap.size 77 [.bool true, .bool true, .bool false, .bool false, .bool false, .bool false, .bool true, .bool false, .bool false, .bool false, .bool true, .bool false, .bool false, .bool false, .bool false] := hr8.out; have rr8 := rr7.grown hg8 (fun e => by injection e; omega); have lr8 := lr7.grown hg8 (fun e => by injection e; omega); have hB8 := hB7.trans (grown_below hg8 hB7.size (fun k hk => by cases hk; exact Nat.le_refl _)); clear hr8 hg8 ra7 rr7 lr7 hB7 c7)
  rw [rounds_succ]
  go_wp2_with (first
    | (refine wl_load rfl _ _ rfl w2.heap.size rfl _ _ ra8 _ Tryz.underlying77 rfl (by kernel_rfl) ?_)
    | (refine wl_store rfl _ _ _ rfl w.heap.size [.bool true, .bool true, .bool false, .bool false, .bool false, .bool false, .bool true, .bool false, .bool false, .bool false, .bool true, .bool false, .bool false, .bool false, .bool false] rfl rfl _ _ rr8 rfl (by kernel_rfl) one_23 ?_; intro w20 hr20 hg20))
  have hr20 := hr20.out
  refine bodyPost_ret (v := .agg ([.bool true, .bool true, .bool false, .bool false, .bool false, .bool false, .bool true, .bool false, .bool false, .bool false, .bool true, .bool false, .bool false, .bool false, .bool false] : List Value).toArray) (results_cell_row rfl _ _ w.heap.size _ _ (0, 0) _ (by rfl) hr20 Tryz.underlying77 rfl (by kernel_rfl)) rfl ?_
  have hBz := below_and hB (Nat.le_refl _) hB8
  exact ⟨rfl, hBz.trans (grown_below hg20 hBz.size (fun k hk => by cases hk; exact Nat.le_refl _))⟩
set_option maxRecDepth 10000 in
set_option maxHeartbeats 4000000 in
theorem refFields_24 (w : World) : Calls Tryz.prog 54 #[.int .i64 24] w fun e w' => e = .returned (.agg (marks 24).toArray) ∧ Below w.heap.size w w' := by
  obtain ⟨w2, hw2⟩ : ∃ w2, w2 = w.alloc (.cells ([.bool false, .bool false, .bool false, .bool false, .bool false, .bool false, .bool false, .bool false, .bool false, .bool false, .bool false, .bool false, .bool false, .bool false, .bool false] : List Value).toArray 77) := ⟨_, rfl⟩
  have rr : Row w2 w.heap.size 77 [.bool false, .bool false, .bool false, .bool false, .bool false, .bool false, .bool false, .bool false, .bool false, .bool false, .bool false, .bool false, .bool false, .bool false, .bool false] := by rw [hw2]; exact Row.new w _ _
  have hB : Below w.heap.size w w2 := by rw [hw2]; exact below_alloc _ _
  have hrow := Row.new w2 77 [.bool false, .bool false, .bool false, .bool false, .bool false, .bool false, .bool false, .bool false, .bool false, .bool false, .bool false, .bool false, .bool false, .bool false, .bool false]
  have hlt : w.heap.size < w2.heap.size := rr.lt
  go_enter Tryz.func54, Tryz.ntmps54
  go_upto_region 1 with fail
  rw [← hw2]
  clear hw2
  go_wp2_with (refine wl_store rfl _ _ _ rfl w2.heap.size [.bool false, .bool false, .bool false, .bool false, .bool false, .bool false, .bool false, .bool false, .bool false, .bool false, .bool false, .bool false, .bool false, .bool false, .bool false] rfl rfl _ _ hrow rfl (by kernel_rfl) one_no ?_; intro w3 hr3 hg3)
  have ra3 : Row w3 w2.heap.size 77 [.bool false, .bool false, .bool false, .bool false, .bool false, .bool false, .bool false, .bool false, .bool false, .bool false, .bool false, .bool false, .bool false, .bool false, .bool false] := hr3.out
  have hb3 : Below w2.heap.size w2 w3 := (below_alloc w2 (.cells ([.bool false, .bool false, .bool false, .bool false, .bool false, .bool false, .bool false, .bool false, .bool false, .bool false, .bool false, .bool false, .bool false, .bool false, .bool false] : List Value).toArray 77)).trans (grown_below hg3 (by simp) (fun k hk => by cases hk; exact Nat.le_refl _))
  obtain ⟨w4, hw4⟩ : ∃ w4, w4 = (w3.alloc (.cells #[] 3)).alloc (.cells #[.int .i64 0, .int .i64 1, .int .i64 6, .int .i64 11] 3) := ⟨_, rfl⟩
  have ra4 : Row w4 w2.heap.size 77 [.bool false, .bool false, .bool false, .bool false, .bool false, .bool false, .bool false, .bool false, .bool false, .bool false, .bool false, .bool false, .bool false, .bool false, .bool false] := by rw [hw4]; exact row_alloc (row_alloc ra3 _) _
  have rr4 : Row w4 w.heap.size 77 [.bool false, .bool false, .bool false, .bool false, .bool false, .bool false, .bool false, .bool false, .bool false, .bool false, .bool false, .bool false, .bool false, .bool false, .bool false] := by rw [hw4]; exact row_alloc (row_alloc (rr.below hb3) _) _
  have lr4 : Row w4 (w3.heap.size + 1) 3 [.int .i64 0, .int .i64 1, .int .i64 6, .int .i64 11] := by
    rw [hw4]
    have := Row.new (w3.alloc (.cells #[] 3)) 3 [.int .i64 0, .int .i64 1, .int .i64 6, .int .i64 11]
    rw [show (w3.alloc (.cells #[] 3)).heap.size = w3.heap.size + 1 by simp] at this
    exact this
  have hB4 : Below w2.heap.size w2 w4 := by rw [hw4]; exact (hb3.alloc hb3.size _).alloc (Nat.le_trans hb3.size (by simp)) _
  have hlt3 : w2.heap.size < w3.heap.size := ra3.lt
  have c4 := lr4.cell (j := 0) rfl
  rw [← hw4]
  clear hw4 hr3 hg3 hrow rr hb3 ra3
  refine wp_loop_rounds 5 ?_
  rw [rounds_succ]
  go_wp2_with (refine wl_set rfl _ _ _ rfl w2.heap.size 0 _ rfl rfl _ _ ra4 (show 0 < 15 by decide) (by kernel_rfl) rfl ?_; intro w5 hr5 hg5; have ra5 : Row w5 w2.heap.size 77 [.bool true, .bool false, .bool false, .bool false, .bool false, .bool false, .bool false, .bool false, .bool false, .bool false, .bool false, .bool false, .bool false, .bool false, .bool false] := hr5.out; have rr5 := rr4.grown hg5 (fun e => by injection e; omega); have lr5 := lr4.grown hg5 (fun e => by injection e; omega); have hB5 := hB4.trans (grown_below hg5 hB4.size (fun k hk => by cases hk; exact Nat.le_refl _)); have c5 := lr5.cell (j := 1) rfl; clear hr5 hg5 ra4 rr4 lr4 hB4 c4)
  rw [rounds_succ]
  go_wp2_with (refine wl_set rfl _ _ _ rfl w2.heap.size 1 _ rfl rfl _ _ ra5 (show 1 < 15 by decide) (by kernel_rfl) rfl ?_; intro w6 hr6 hg6; have ra6 : Row w6 w2.heap.size 77 [.bool true, .bool true, .bool false, .bool false, .bool false, .bool false, .bool false, .bool false, .bool false, .bool false, .bool false, .bool false, .bool false, .bool false, .bool false] := hr6.out; have rr6 := rr5.grown hg6 (fun e => by injection e; omega); have lr6 := lr5.grown hg6 (fun e => by injection e; omega); have hB6 := hB5.trans (grown_below hg6 hB5.size (fun k hk => by cases hk; exact Nat.le_refl _)); have c6 := lr6.cell (j := 2) rfl; clear hr6 hg6 ra5 rr5 lr5 hB5 c5)
  rw [rounds_succ]
  go_wp2_with (refine wl_set rfl _ _ _ rfl w2.heap.size 6 _ rfl rfl _ _ ra6 (show 6 < 15 by decide) (by kernel_rfl) rfl ?_; intro w7 hr7 hg7; have ra7 : Row w7 w2.heap.size 77 [.bool true, .bool true, .bool false, .bool false, .bool false, .bool false, .bool true, .bool false, .bool false, .bool false, .bool false, .bool false, .bool false, .bool false, .bool false] := hr7.out; have rr7 := rr6.grown hg7 (fun e => by injection e; omega); have lr7 := lr6.grown hg7 (fun e => by injection e; omega); have hB7 := hB6.trans (grown_below hg7 hB6.size (fun k hk => by cases hk; exact Nat.le_refl _)); have c7 := lr7.cell (j := 3) rfl; clear hr7 hg7 ra6 rr6 lr6 hB6 c6)
  rw [rounds_succ]
  go_wp2_with (refine wl_set rfl _ _ _ rfl w2.heap.size 11 _ rfl rfl _ _ ra7 (show 11 < 15 by decide) (by kernel_rfl) rfl ?_; intro w8 hr8 hg8; have ra8 : Row w8 w2.heap.size 77 [.bool true, .bool true, .bool false, .bool false, .bool false, .bool false, .bool true, .bool false, .bool false, .bool false, .bool false, .bool true, .bool false, .bool false, .bool false] := hr8.out; have rr8 := rr7.grown hg8 (fun e => by injection e; omega); have lr8 := lr7.grown hg8 (fun e => by injection e; omega); have hB8 := hB7.trans (grown_below hg8 hB7.size (fun k hk => by cases hk; exact Nat.le_refl _)); clear hr8 hg8 ra7 rr7 lr7 hB7 c7)
  rw [rounds_succ]
  go_wp2_with (first
    | (refine wl_load rfl _ _ rfl w2.heap.size rfl _ _ ra8 _ Tryz.underlying77 rfl (by kernel_rfl) ?_)
    | (refine wl_store rfl _ _ _ rfl w.heap.size [.bool true, .bool true, .bool false, .bool false, .bool false, .bool false, .bool true, .bool false, .bool false, .bool false, .bool false, .bool true, .bool false, .bool false, .bool false] rfl rfl _ _ rr8 rfl (by kernel_rfl) one_24 ?_; intro w20 hr20 hg20))
  have hr20 := hr20.out
  refine bodyPost_ret (v := .agg ([.bool true, .bool true, .bool false, .bool false, .bool false, .bool false, .bool true, .bool false, .bool false, .bool false, .bool false, .bool true, .bool false, .bool false, .bool false] : List Value).toArray) (results_cell_row rfl _ _ w.heap.size _ _ (0, 0) _ (by rfl) hr20 Tryz.underlying77 rfl (by kernel_rfl)) rfl ?_
  have hBz := below_and hB (Nat.le_refl _) hB8
  exact ⟨rfl, hBz.trans (grown_below hg20 hBz.size (fun k hk => by cases hk; exact Nat.le_refl _))⟩
set_option maxRecDepth 10000 in
set_option maxHeartbeats 4000000 in
theorem refFields_25 (w : World) : Calls Tryz.prog 54 #[.int .i64 25] w fun e w' => e = .returned (.agg (marks 25).toArray) ∧ Below w.heap.size w w' := by
  obtain ⟨w2, hw2⟩ : ∃ w2, w2 = w.alloc (.cells ([.bool false, .bool false, .bool false, .bool false, .bool false, .bool false, .bool false, .bool false, .bool false, .bool false, .bool false, .bool false, .bool false, .bool false, .bool false] : List Value).toArray 77) := ⟨_, rfl⟩
  have rr : Row w2 w.heap.size 77 [.bool false, .bool false, .bool false, .bool false, .bool false, .bool false, .bool false, .bool false, .bool false, .bool false, .bool false, .bool false, .bool false, .bool false, .bool false] := by rw [hw2]; exact Row.new w _ _
  have hB : Below w.heap.size w w2 := by rw [hw2]; exact below_alloc _ _
  have hrow := Row.new w2 77 [.bool false, .bool false, .bool false, .bool false, .bool false, .bool false, .bool false, .bool false, .bool false, .bool false, .bool false, .bool false, .bool false, .bool false, .bool false]
  have hlt : w.heap.size < w2.heap.size := rr.lt
  go_enter Tryz.func54, Tryz.ntmps54
  go_upto_region 1 with fail
  rw [← hw2]
  clear hw2
  go_wp2_with (refine wl_store rfl _ _ _ rfl w2.heap.size [.bool false, .bool false, .bool false, .bool false, .bool false, .bool false, .bool false, .bool false, .bool false, .bool false, .bool false, .bool false, .bool false, .bool false, .bool false] rfl rfl _ _ hrow rfl (by kernel_rfl) one_no ?_; intro w3 hr3 hg3)
  have ra3 : Row w3 w2.heap.size 77 [.bool false, .bool false, .bool false, .bool false, .bool false, .bool false, .bool false, .bool false, .bool false, .bool false, .bool false, .bool false, .bool false, .bool false, .bool false] := hr3.out
  have hb3 : Below w2.heap.size w2 w3 := (below_alloc w2 (.cells ([.bool false, .bool false, .bool false, .bool false, .bool false, .bool false, .bool false, .bool false, .bool false, .bool false, .bool false, .bool false, .bool false, .bool false, .bool false] : List Value).toArray 77)).trans (grown_below hg3 (by simp) (fun k hk => by cases hk; exact Nat.le_refl _))
  obtain ⟨w4, hw4⟩ : ∃ w4, w4 = (w3.alloc (.cells #[] 3)).alloc (.cells #[.int .i64 1, .int .i64 8, .int .i64 10] 3) := ⟨_, rfl⟩
  have ra4 : Row w4 w2.heap.size 77 [.bool false, .bool false, .bool false, .bool false, .bool false, .bool false, .bool false, .bool false, .bool false, .bool false, .bool false, .bool false, .bool false, .bool false, .bool false] := by rw [hw4]; exact row_alloc (row_alloc ra3 _) _
  have rr4 : Row w4 w.heap.size 77 [.bool false, .bool false, .bool false, .bool false, .bool false, .bool false, .bool false, .bool false, .bool false, .bool false, .bool false, .bool false, .bool false, .bool false, .bool false] := by rw [hw4]; exact row_alloc (row_alloc (rr.below hb3) _) _
  have lr4 : Row w4 (w3.heap.size + 1) 3 [.int .i64 1, .int .i64 8, .int .i64 10] := by
    rw [hw4]
    have := Row.new (w3.alloc (.cells #[] 3)) 3 [.int .i64 1, .int .i64 8, .int .i64 10]
    rw [show (w3.alloc (.cells #[] 3)).heap.size = w3.heap.size + 1 by simp] at this
    exact this
  have hB4 : Below w2.heap.size w2 w4 := by rw [hw4]; exact (hb3.alloc hb3.size _).alloc (Nat.le_trans hb3.size (by simp)) _
  have hlt3 : w2.heap.size < w3.heap.size := ra3.lt
  have c4 := lr4.cell (j := 0) rfl
  rw [← hw4]
  clear hw4 hr3 hg3 hrow rr hb3 ra3
  refine wp_loop_rounds 4 ?_
  rw [rounds_succ]
  go_wp2_with (refine wl_set rfl _ _ _ rfl w2.heap.size 1 _ rfl rfl _ _ ra4 (show 1 < 15 by decide) (by kernel_rfl) rfl ?_; intro w5 hr5 hg5; have ra5 : Row w5 w2.heap.size 77 [.bool false, .bool true, .bool false, .bool false, .bool false, .bool false, .bool false, .bool false, .bool false, .bool false, .bool false, .bool false, .bool false, .bool false, .bool false] := hr5.out; have rr5 := rr4.grown hg5 (fun e => by injection e; omega); have lr5 := lr4.grown hg5 (fun e => by injection e; omega); have hB5 := hB4.trans (grown_below hg5 hB4.size (fun k hk => by cases hk; exact Nat.le_refl _)); have c5 := lr5.cell (j := 1) rfl; clear hr5 hg5 ra4 rr4 lr4 hB4 c4)
  rw [rounds_succ]
  go_wp2_with (refine wl_set rfl _ _ _ rfl w2.heap.size 8 _ rfl rfl _ _ ra5 (show 8 < 15 by decide) (by kernel_rfl) rfl ?_; intro w6 hr6 hg6; have ra6 : Row w6 w2.heap.size 77 [.bool false, .bool true, .bool false, .bool false, .bool false, .bool false, .bool false, .bool false, .bool true, .bool false, .bool false, .bool false, .bool false, .bool false, .bool false] := hr6.out; have rr6 := rr5.grown hg6 (fun e => by injection e; omega); have lr6 := lr5.grown hg6 (fun e => by injection e; omega); have hB6 := hB5.trans (grown_below hg6 hB5.size (fun k hk => by cases hk; exact Nat.le_refl _)); have c6 := lr6.cell (j := 2) rfl; clear hr6 hg6 ra5 rr5 lr5 hB5 c5)
  rw [rounds_succ]
  go_wp2_with (refine wl_set rfl _ _ _ rfl w2.heap.size 10 _ rfl rfl _ _ ra6 (show 10 < 15 by decide) (by kernel_rfl) rfl ?_; intro w7 hr7 hg7; have ra7 : Row w7 w2.heap.size 77 [.bool false, .bool true, .bool false, .bool false, .bool false, .bool false, .bool false, .bool false, .bool true, .bool false, .bool true, .bool false, .bool false, .bool false, .bool false] := hr7.out; have rr7 := rr6.grown hg7 (fun e => by injection e; omega); have lr7 := lr6.grown hg7 (fun e => by injection e; omega); have hB7 := hB6.trans (grown_below hg7 hB6.size (fun k hk => by cases hk; exact Nat.le_refl _)); clear hr7 hg7 ra6 rr6 lr6 hB6 c6)
  rw [rounds_succ]
  go_wp2_with (first
    | (refine wl_load rfl _ _ rfl w2.heap.size rfl _ _ ra7 _ Tryz.underlying77 rfl (by kernel_rfl) ?_)
    | (refine wl_store rfl _ _ _ rfl w.heap.size [.bool false, .bool true, .bool false, .bool false, .bool false, .bool false, .bool false, .bool false, .bool true, .bool false, .bool true, .bool false, .bool false, .bool false, .bool false] rfl rfl _ _ rr7 rfl (by kernel_rfl) one_25 ?_; intro w20 hr20 hg20))
  have hr20 := hr20.out
  refine bodyPost_ret (v := .agg ([.bool false, .bool true, .bool false, .bool false, .bool false, .bool false, .bool false, .bool false, .bool true, .bool false, .bool true, .bool false, .bool false, .bool false, .bool false] : List Value).toArray) (results_cell_row rfl _ _ w.heap.size _ _ (0, 0) _ (by rfl) hr20 Tryz.underlying77 rfl (by kernel_rfl)) rfl ?_
  have hBz := below_and hB (Nat.le_refl _) hB7
  exact ⟨rfl, hBz.trans (grown_below hg20 hBz.size (fun k hk => by cases hk; exact Nat.le_refl _))⟩
/-- Fields, of a kind that there is. -/
theorem refFields_any (w : World) (k : Int) (h : fl k ≠ []) : Calls Tryz.prog 54 #[.int .i64 k] w fun e w' => e = .returned (.agg (marks k).toArray) ∧ Below w.heap.size w w' := by
  rcases fl_cases k with rfl | rfl | rfl | rfl | rfl | rfl | rfl | rfl | rfl | rfl | rfl | rfl | rfl | rfl | rfl | rfl | rfl | rfl | rfl | e
  · exact refFields_1 w
  · exact refFields_2 w
  · exact refFields_3 w
  · exact refFields_4 w
  · exact refFields_5 w
  · exact refFields_6 w
  · exact refFields_7 w
  · exact refFields_8 w
  · exact refFields_9 w
  · exact refFields_10 w
  · exact refFields_11 w
  · exact refFields_12 w
  · exact refFields_13 w
  · exact refFields_20 w
  · exact refFields_21 w
  · exact refFields_22 w
  · exact refFields_23 w
  · exact refFields_24 w
  · exact refFields_25 w
  · exact absurd e h
end Go.Proofs.YtijmecplechhgaaGreatDoor
end
