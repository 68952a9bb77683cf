/- The document's Fields. Written by mk17f.py. -/
import Derived.Test.YtgbfmccecnfooaaGreatDoorCLAZ
import Derived.Test.YtgbfmccecnfooaaGreatDoorCLAC
import Derived.Test.YtgbfmccecnfooaaGreatDoorCLAE
import Derived.Test.YtgbfmccecnfooaaGreatDoorCLAO
import Derived.Test.YtgbfmccecnfooaaGreatDoorCLAT
import Derived.Deep.CutBlock
set_option linter.unusedVariables false
namespace Go.Proofs.YtgbfmccecnfooaaGreatDoor
section
open Go.RowKit Oct Bal
theorem cmp2_posC {a b c d : Int} : 0 < cmp2 a b c d ↔ (c < a ∨ (a = c ∧ d < b)) := by
  unfold cmp2 cm
  repeat' split
  all_goals omega
/-- What is known of the best of some. -/
def Best (k : Int) (ps : List PPrep) (o : Option PPrep) : Prop := match o with
  | none => ∀ p ∈ ps, p.1 ≠ k
  | some b => b ∈ ps ∧ b.1 = k ∧ ∀ q ∈ ps, q.1 = k → ¬ 0 < cmp2 q.2.1.1 q.2.1.2 b.2.1.1 b.2.1.2
theorem Best.step {k : Int} {ps : List PPrep} {o : Option PPrep} (h : Best k ps o) (p : PPrep) : Best k (ps ++ [p]) (pkS k o p) := by
  have hm : ∀ q : PPrep, q ∈ ps ++ [p] ↔ q ∈ ps ∨ q = p := fun q => by simp
  unfold pkS
  by_cases hk : p.1 = k
  · cases o with
    | none =>
      have h : ∀ q ∈ ps, q.1 ≠ k := h
      have e : (decide (p.1 = k) && bea none p) = true := by simp [hk, bea]
      rw [if_pos e]
      refine ⟨(hm p).2 (.inr rfl), hk, fun q hq hqk => ?_⟩
      rcases (hm q).1 hq with hq | hq
      · exact absurd hqk (h q hq)
      · subst hq
        rw [cmp2_posC]
        omega
    | some b =>
      obtain ⟨h1, h2, h3⟩ : b ∈ ps ∧ b.1 = k ∧ ∀ q ∈ ps, q.1 = k → ¬ 0 < cmp2 q.2.1.1 q.2.1.2 b.2.1.1 b.2.1.2 := h
      by_cases hc : 0 < cmp2 p.2.1.1 p.2.1.2 b.2.1.1 b.2.1.2
      · have e : (decide (p.1 = k) && bea (some b) p) = true := by simp [hk, bea, hc]
        rw [if_pos e]
        refine ⟨(hm p).2 (.inr rfl), hk, fun q hq hqk => ?_⟩
        rcases (hm q).1 hq with hq | hq
        · have h4 := h3 q hq hqk
          rw [cmp2_posC] at h4 hc ⊢
          omega
        · subst hq
          rw [cmp2_posC]
          omega
      · have e : (decide (p.1 = k) && bea (some b) p) = false := by simp [hk, bea]; omega
        rw [if_neg (by rw [e]; decide)]
        refine ⟨(hm b).2 (.inl h1), h2, fun q hq hqk => ?_⟩
        rcases (hm q).1 hq with hq | hq
        · exact h3 q hq hqk
        · subst hq; exact hc
  · have e : (decide (p.1 = k) && bea o p) = false := by simp [hk]
    rw [if_neg (by rw [e]; decide)]
    cases o with
    | none =>
      have h : ∀ q ∈ ps, q.1 ≠ k := h
      intro q hq
      rcases (hm q).1 hq with hq | hq
      · exact h q hq
      · subst hq; exact hk
    | some b =>
      obtain ⟨h1, h2, h3⟩ : b ∈ ps ∧ b.1 = k ∧ ∀ q ∈ ps, q.1 = k → ¬ 0 < cmp2 q.2.1.1 q.2.1.2 b.2.1.1 b.2.1.2 := h
      refine ⟨(hm b).2 (.inl h1), h2, fun q hq hqk => ?_⟩
      rcases (hm q).1 hq with hq | hq
      · exact h3 q hq hqk
      · subst hq; exact absurd hqk hk
theorem Best.list {k : Int} : ∀ {ls ps : List PPrep} {o : Option PPrep}, Best k ps o → Best k (ps ++ ls) (pkL k o ls)
  | [], ps, o, h => by simpa [pkL] using h
  | p :: ls, ps, o, h => by
    have := Best.list (ls := ls) (h.step p)
    simpa [pkL] using this
end
section
open Go.RowKit Oct
theorem fl_known (k : Int) : (1 ≤ k ∧ k ≤ 13) ∨ (20 ≤ k ∧ k ≤ 25) → fl k ≠ [] := by
  intro h e
  have hc : k = 1 ∨ k = 2 ∨ k = 3 ∨ k = 4 ∨ k = 5 ∨ k = 6 ∨ k = 7 ∨ k = 8 ∨ k = 9 ∨ k = 10 ∨ k = 11 ∨ k = 12 ∨ k = 13 ∨ k = 20 ∨ k = 21 ∨ k = 22 ∨ k = 23 ∨ k = 24 ∨ k = 25 := by omega
  rcases hc with rfl | rfl | rfl | rfl | rfl | rfl | rfl | rfl | rfl | rfl | rfl | rfl | rfl | rfl | rfl | rfl | rfl | rfl | rfl <;> exact absurd e (by decide)
theorem fl_unknown (k : Int) (h : ¬ ((1 ≤ k ∧ k ≤ 13) ∨ (20 ≤ k ∧ k ≤ 25))) : fl k = [] := by
  rcases fl_cases k with rfl | rfl | rfl | rfl | rfl | rfl | rfl | rfl | rfl | rfl | rfl | rfl | rfl | rfl | rfl | rfl | rfl | rfl | rfl | e
  all_goals first | exact e | (exfalso; omega)
/-- Known. -/
theorem refKnown_any (w : World) (k : Int) : Calls Tryz.prog 129 #[.int .i64 k] w fun e w' => e = .returned (.bool (!(fl k).isEmpty)) ∧ w' = w := by
  by_cases h1 : 1 ≤ k
  · by_cases h2 : k ≤ 13
    · have : (fl k).isEmpty = false := by simpa using fl_known k (.inl ⟨h1, h2⟩)
      rw [this]
      go_enter Tryz.func129, Tryz.ntmps129
      go_wp2_with fail
      go_ret
      exact ⟨rfl, rfl⟩
    · by_cases h3 : 20 ≤ k
      · by_cases h4 : k ≤ 25
        · have : (fl k).isEmpty = false := by simpa using fl_known k (.inr ⟨h3, h4⟩)
          rw [this]
          go_enter Tryz.func129, Tryz.ntmps129
          go_wp2_with fail
          go_ret
          exact ⟨rfl, rfl⟩
        · have : (fl k).isEmpty = true := by rw [fl_unknown k (by omega)]; rfl
          rw [this]
          go_enter Tryz.func129, Tryz.ntmps129
          go_wp2_with fail
          go_ret
          exact ⟨rfl, rfl⟩
      · have : (fl k).isEmpty = true := by rw [fl_unknown k (by omega)]; rfl
        rw [this]
        go_enter Tryz.func129, Tryz.ntmps129
        go_wp2_with fail
        go_ret
        exact ⟨rfl, rfl⟩
  · have : (fl k).isEmpty = true := by rw [fl_unknown k (by omega)]; rfl
    have h3 : ¬ 20 ≤ k := by omega
    rw [this]
    go_enter Tryz.func129, Tryz.ntmps129
    go_wp2_with fail
    go_ret
    exact ⟨rfl, rfl⟩
end
section
open Go.RowKit Oct
/-- The fields of a kind, as marks. -/
def marks (k : Int) : List Value := (List.range 15).map fun i => Value.bool ((fl k).contains i)
def no15 : List Value := [.bool false, .bool false, .bool false, .bool false, .bool false, .bool false, .bool false, .bool false, .bool false, .bool false, .bool false, .bool false, .bool false, .bool false, .bool false]
def mks (l : List Nat) : List Value := (List.range 15).map fun i => Value.bool (l.contains i)
theorem mks_len (l : List Nat) : (mks l).length = 15 := by simp [mks]
theorem mks_set (l : List Nat) (i : Nat) : (mks l).set i (.bool true) = mks (l ++ [i]) := by
  unfold mks
  apply List.ext_getElem
  · simp
  · intro n h1 h2
    rw [List.getElem_set]
    simp only [List.getElem_map, List.getElem_range]
    by_cases h : i = n
    · rw [if_pos h]; simp [h]
    · rw [if_neg h]
      congr 1
      rw [Bool.eq_iff_iff]
      simp
      omega
theorem one_mks (l : List Nat) : ∀ x ∈ mks l, x.oneCell' = true := by
  intro x hx
  obtain ⟨i, _, rfl⟩ := List.mem_map.1 hx
  rfl
def il (l : List Nat) : List Value := l.map fun (i : Nat) => Value.int .i64 (i : Int)
theorem fl_len (k : Int) : (fl k).length ≤ 8 := by
  rcases fl_cases k with h | h | h | h | h | h | h | h | h | h | h | h | h | h | h | h | h | h | h | h
  all_goals first | (subst h; decide) | (rw [h]; decide)
theorem run_ix15 (b i : Nat) (hi : i < 15) (u : World) : (Instr.indexAt 154 (.pointer (some ⟨b, 0, none⟩)) (.int .i64 (i : Int))).run Tryz.prog u = .ok (.pointer (some ⟨b, i, none⟩)) u := by
  have ht : Tryz.prog.underlying 154 = some (.array (Tryz.prog.arrayLen 154) (Tryz.prog.elem 154)) := by kernel_rfl
  have hn : Tryz.prog.arrayLen 154 = 15 := by kernel_rfl
  have h1 : (Tryz.prog.info? (Tryz.prog.elem 154)).map (·.size) = some 1 := by kernel_rfl
  have hs : (sizeOf (Tryz.prog.elem 154)).run Tryz.prog u = .ok 1 u := by
    cases hq : Tryz.prog.info? (Tryz.prog.elem 154) with
    | none => rw [hq] at h1; cases h1
    | some i0 =>
      rw [hq] at h1
      have h2 : i0.size = 1 := by simpa using h1
      simp [sizeOf, typeInfo, hq, h2]
  rw [run_indexAt_array u 154 _ .i64 i ht, hn, if_pos (by omega), hs]
  simp only [Result.andThen, Addr.add_mid]
  simp
set_option maxRecDepth 10000 in
set_option maxHeartbeats 4000000 in
theorem refFields_any (w : World) (k : Int) (h : fl k ≠ []) : Calls Tryz.prog 130 #[.int .i64 k] w fun e w' => e = .returned (.agg (marks k).toArray) ∧ Below w.heap.size w w' := by
  obtain ⟨l, hL⟩ : ∃ l, l = fl k := ⟨_, rfl⟩
  have e : marks k = mks l := by rw [hL]; rfl
  rw [e]
  clear e
  obtain ⟨w2, hw2⟩ : ∃ w2, w2 = w.alloc (.cells ([.bool false, .bool false, .bool false, .bool false, .bool false, .bool false, .bool false, .bool false, .bool false, .bool false, .bool false, .bool false, .bool false, .bool false, .bool false] : List Value).toArray 154) := ⟨_, rfl⟩
  have rr : Row w2 w.heap.size 154 (mks []) := by rw [hw2]; exact Row.new w _ _
  have hB : Below w.heap.size w w2 := by rw [hw2]; exact below_alloc _ _
  have hrow := Row.new w2 154 [.bool false, .bool false, .bool false, .bool false, .bool false, .bool false, .bool false, .bool false, .bool false, .bool false, .bool false, .bool false, .bool false, .bool false, .bool false]
  go_enter Tryz.func130, Tryz.ntmps130
  go_upto_region 1 with fail
  rw [← hw2]
  clear hw2
  go_upto_region 2 with (refine wl_store rfl _ _ _ rfl w2.heap.size [.bool false, .bool false, .bool false, .bool false, .bool false, .bool false, .bool false, .bool false, .bool false, .bool false, .bool false, .bool false, .bool false, .bool false, .bool false] rfl rfl _ _ hrow rfl (by kernel_rfl) (by decide) ?_; intro w3 hr3 hg3)
  have ra3 : Row w3 w2.heap.size 154 (mks []) := hr3.out
  have hb3 : Below w2.heap.size w2 w3 := (below_alloc w2 (.cells ([.bool false, .bool false, .bool false, .bool false, .bool false, .bool false, .bool false, .bool false, .bool false, .bool false, .bool false, .bool false, .bool false, .bool false, .bool false] : List Value).toArray 154)).trans (grown_below hg3 (by simp) (fun k hk => by cases hk; exact Nat.le_refl _))
  clear hrow hr3 hg3
  obtain ⟨w4, hw4⟩ : ∃ w4, w4 = w3.alloc (.cells #[] 3) := ⟨_, rfl⟩
  have b4 : Below w3.heap.size w3 w4 := by rw [hw4]; exact below_alloc _ _
  go_upto_block 0 with fail
  rw [← hw4]
  clear hw4
  have hne : w.heap.size ≠ w2.heap.size := Nat.ne_of_lt rr.lt
  have ra4 := ra3.below b4
  have rr4 := (rr.below hb3).below b4
  have hB4 := below_and hb3 (Nat.le_refl _) b4
  obtain ⟨cH, hcH⟩ : ∃ c, c = w2.heap.size := ⟨_, rfl⟩
  rw [← hcH] at ra4 hne ⊢
  have hcw : w.heap.size ≤ cH := by rw [hcH]; exact hB.size
  clear ra3 rr b4 hb3 hcH
  go_cut [4] from 10 to 62 (fun s4 wx => ∃ g, s4 = .slice (some ⟨g, 0, none⟩) l.length l.length ∧ Row wx g 3 (il l) ∧ Below w4.heap.size w4 wx)
  case first =>
    rcases fl_cases k with rfl | rfl | rfl | rfl | rfl | rfl | rfl | rfl | rfl | rfl | rfl | rfl | rfl | rfl | rfl | rfl | rfl | rfl | rfl | e
    · subst hL
      clear h
      go_wp2_with fail
      go_meet
      exact ⟨_, rfl, Row.new w4 3 [.int .i64 6], below_alloc _ _⟩
    · subst hL
      clear h
      go_wp2_with fail
      go_meet
      exact ⟨_, rfl, Row.new w4 3 [.int .i64 0, .int .i64 1, .int .i64 6, .int .i64 11], below_alloc _ _⟩
    · subst hL
      clear h
      go_wp2_with fail
      go_meet
      exact ⟨_, rfl, Row.new w4 3 [.int .i64 0, .int .i64 1, .int .i64 6, .int .i64 10, .int .i64 11], below_alloc _ _⟩
    · subst hL
      clear h
      go_wp2_with fail
      go_meet
      exact ⟨_, rfl, Row.new w4 3 [.int .i64 0, .int .i64 1, .int .i64 6, .int .i64 11], below_alloc _ _⟩
    · subst hL
      clear h
      go_wp2_with fail
      go_meet
      exact ⟨_, rfl, Row.new w4 3 [.int .i64 2, .int .i64 3, .int .i64 4, .int .i64 8, .int .i64 9], below_alloc _ _⟩
    · subst hL
      clear h
      go_wp2_with fail
      go_meet
      exact ⟨_, rfl, Row.new w4 3 [.int .i64 0, .int .i64 2, .int .i64 3, .int .i64 9], below_alloc _ _⟩
    · subst hL
      clear h
      go_wp2_with fail
      go_meet
      exact ⟨_, rfl, Row.new w4 3 [.int .i64 0, .int .i64 2, .int .i64 3, .int .i64 9, .int .i64 10], below_alloc _ _⟩
    · subst hL
      clear h
      go_wp2_with fail
      go_meet
      exact ⟨_, rfl, Row.new w4 3 [.int .i64 14], below_alloc _ _⟩
    · subst hL
      clear h
      go_wp2_with fail
      go_meet
      exact ⟨_, rfl, Row.new w4 3 [.int .i64 0, .int .i64 9, .int .i64 12, .int .i64 14], below_alloc _ _⟩
    · subst hL
      clear h
      go_wp2_with fail
      go_meet
      exact ⟨_, rfl, Row.new w4 3 [.int .i64 1, .int .i64 8, .int .i64 11], below_alloc _ _⟩
    · subst hL
      clear h
      go_wp2_with fail
      go_meet
      exact ⟨_, rfl, Row.new w4 3 [.int .i64 1, .int .i64 2], below_alloc _ _⟩
    · subst hL
      clear h
      go_wp2_with fail
      go_meet
      exact ⟨_, rfl, Row.new w4 3 [.int .i64 1, .int .i64 2, .int .i64 4, .int .i64 5, .int .i64 8, .int .i64 9], below_alloc _ _⟩
    · subst hL
      clear h
      go_wp2_with fail
      go_meet
      exact ⟨_, rfl, Row.new w4 3 [.int .i64 0, .int .i64 1, .int .i64 2, .int .i64 4, .int .i64 6, .int .i64 7, .int .i64 8, .int .i64 9], below_alloc _ _⟩
    · subst hL
      clear h
      go_wp2_with fail
      go_meet
      exact ⟨_, rfl, Row.new w4 3 [.int .i64 0], below_alloc _ _⟩
    · subst hL
      clear h
      go_wp2_with fail
      go_meet
      exact ⟨_, rfl, Row.new w4 3 [.int .i64 0, .int .i64 1, .int .i64 12, .int .i64 13], below_alloc _ _⟩
    · subst hL
      clear h
      go_wp2_with fail
      go_meet
      exact ⟨_, rfl, Row.new w4 3 [.int .i64 0, .int .i64 1, .int .i64 6], below_alloc _ _⟩
    · subst hL
      clear h
      go_wp2_with fail
      go_meet
      exact ⟨_, rfl, Row.new w4 3 [.int .i64 0, .int .i64 1, .int .i64 6, .int .i64 10], below_alloc _ _⟩
    · subst hL
      clear h
      go_wp2_with fail
      go_meet
      exact ⟨_, rfl, Row.new w4 3 [.int .i64 0, .int .i64 1, .int .i64 6, .int .i64 11], below_alloc _ _⟩
    · subst hL
      clear h
      go_wp2_with fail
      go_meet
      exact ⟨_, rfl, Row.new w4 3 [.int .i64 1, .int .i64 8, .int .i64 10], below_alloc _ _⟩
    · exact absurd e h
  case rest =>
    obtain ⟨g, rfl, rg, hb5⟩ := hcut
    have hl15 := nice_lt (fl_nice k)
    have hl8 := fl_len k
    rw [← hL] at hl15 hl8
    have ra5 := ra4.below hb5
    have rr5 := rr4.below hb5
    have hB5 := below_and hB (Nat.le_refl _) (below_and hB4 (Nat.le_refl _) hb5)
    have hgc : (some cH : Option Nat) ≠ some g := fun e => Row.apart ra5 rg (by decide) (Option.some.inj e)
    have hwc : (some cH : Option Nat) ≠ some w.heap.size := fun e => hne (Option.some.inj e).symm
    have hwl := rr5.lt
    clear ra4 rr4 hb5 h hB hB4 hL
    go_wp2_with fail
    go_loopw [65] (fun i wr => ∃ q : Nat, q ≤ l.length ∧ i = .int .i64 q ∧ Hid (Row wr cH 154 (mks (l.take q))) ∧ wc.grownBy wr (some cH)) (fun i _ => l.length - (intOf i).toNat)
    case atStart => exact ⟨0, Nat.zero_le _, rfl, ra5, grown_of_below (Below.refl _ _) _⟩
    case round =>
      obtain ⟨q, hq, rfl, hrow, hg⟩ := hrel
      by_cases hql : q < l.length
      · have i1 : (q : Int) < (l.length : Int) := by omega
        obtain ⟨x, hx⟩ : ∃ x, l[q]? = some x := ⟨_, List.getElem?_eq_getElem hql⟩
        have hx15 := hl15 x (List.mem_of_getElem? hx)
        have cq : wr.cell? ⟨g, q, none⟩ = some (.int .i64 (x : Int)) := (rg.grown hg hgc).cell (j := q) (by simp [il, hx])
        have HX := (show Hid (mks (l.take q ++ [x]) = mks (l.take (q + 1))) by show _ = _; rw [List.take_add_one, hx]; rfl)
        have hix : ∀ u : World, (Instr.indexAt 154 (.pointer (some ⟨cH, 0, none⟩)) (.int .i64 (x : Int))).run Tryz.prog u = .ok (.pointer (some ⟨cH, x, none⟩)) u := fun u => run_ix15 cH x hx15 u
        have HJ := (show Hid (x < (mks (l.take q)).length) by show _ < _; rw [mks_len]; exact hx15)
        clear hx
        go_wp2_with (refine wl_set rfl 4 _ _ rfl cH x (.bool true) (by first | rfl | (simp [Act.eval]; done)) (by first | rfl | (simp [Act.eval]; done)) 154 (mks (l.take q)) hrow.out HJ.out (by kernel_rfl) rfl ?_; intro w6 hr6 hg6)
        have hr6' := hr6.out
        rw [mks_set, HX.out] at hr6'
        have hr7 := (show Hid (Row w6 cH 154 (mks (l.take (q + 1)))) from hr6')
        clear hr6 hr6' hix HJ HX cq
        go_wp2_with fail
        go_roundw
        case rel => exact ⟨q + 1, by omega, by go_num, hr7, grown_trans hg hg6 (.inl rfl)⟩
        case measure => simp [intOf]; omega
      · obtain rfl : q = l.length := by omega
        have i1 : ¬ (l.length : Int) < (l.length : Int) := by omega
        have ra6 := hrow.out
        rw [List.take_length] at ra6
        have rr6 := rr5.grown hg hwc
        have hB6 := hB5.trans (grown_below hg (Nat.le_of_lt hwl) (fun k hk => by cases hk; exact hcw))
        have HL := (show Hid ((mks []).length = (mks l).length) by show _ = _; rw [mks_len, mks_len])
        have HI := (show Hid ((Tryz.prog.info? 154).map (·.size) = some (mks l).length) by show _ = _; rw [mks_len]; kernel_rfl)
        have HO := (show Hid (∀ v ∈ mks l, v.oneCell' = true) from one_mks l)
        clear hrow hl15 hql hq
        go_wp2_with (first
          | (refine wl_load rfl _ _ rfl cH rfl _ _ ra6 _ Tryz.underlying154 rfl HI.out ?_)
          | (refine wl_store rfl _ _ _ rfl w.heap.size (mks l) rfl rfl _ _ rr6 HL.out HI.out HO.out ?_; intro w20 hr20 hg20))
        have hr20 := hr20.out
        refine bodyPost_ret (v := .agg (mks l).toArray) (results_cell_row rfl _ _ w.heap.size _ _ (0, 0) _ (by rfl) hr20 Tryz.underlying154 rfl (by rw [List.size_toArray]; exact HI.out)) rfl ?_
        exact ⟨rfl, hB6.trans (grown_below hg20 hB6.size (fun k hk => by cases hk; exact Nat.le_refl _))⟩
end
end Go.Proofs.YtgbfmccecnfooaaGreatDoor
