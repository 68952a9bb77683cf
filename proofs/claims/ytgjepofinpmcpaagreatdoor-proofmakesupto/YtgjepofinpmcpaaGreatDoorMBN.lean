/- The document's Fields. Written by mk17f.py. -/
import Derived.Test.YtgjepofinpmcpaaGreatDoorMBJ
import Derived.Test.YtgjepofinpmcpaaGreatDoorMAM
import Derived.Deep.CutBlock
set_option linter.unusedVariables false
namespace Go.Proofs.YtgjepofinpmcpaaGreatDoor
open Go.RowKit Oct
def zFn (k : Int) : List Value := (List.range 15).map fun i => Value.bool ((fl k).contains i)
def no15 : List Value := [.bool false, .bool false, .bool false, .bool false, .bool false, .bool false, .bool false, .bool false, .bool false, .bool false, .bool false, .bool false, .bool false, .bool false, .bool false]
def mks (l : List Nat) : List Value := (List.range 15).map fun i => Value.bool (l.contains i)
theorem zK2 (l : List Nat) : (mks l).length = 15 := by simp [mks]
theorem mks_set (l : List Nat) (i : Nat) : (mks l).set i (.bool true) = mks (l ++ [i]) := by
  unfold mks
  apply List.ext_getElem
  · simp
  · intro n h1 h2
    rw [List.getElem_set]
    simp only [List.getElem_map, List.getElem_range]
    by_cases h : i = n
    · rw [if_pos h]; simp [h]
    · rw [if_neg h]
      congr 1
      rw [Bool.eq_iff_iff]
      simp
      omega
theorem one_mks (l : List Nat) : ∀ x ∈ mks l, x.oneCell' = true := by
  intro x hx
  obtain ⟨i, _, rfl⟩ := List.mem_map.1 hx
  rfl
def il (l : List Nat) : List Value := l.map fun (i : Nat) => Value.int .i64 (i : Int)
theorem fl_len (k : Int) : (fl k).length ≤ 8 := by
  rcases zD7 k with h | h | h | h | h | h | h | h | h | h | h | h | h | h | h | h | h | h | h | h
  all_goals first | (subst h; decide) | (rw [h]; decide)
theorem run_ix15 (b i : Nat) (hi : i < 15) (u : World) : (Instr.indexAt 92 (.pointer (some ⟨b, 0, none⟩)) (.int .i64 (i : Int))).run Tryz.prog u = .ok (.pointer (some ⟨b, i, none⟩)) u := by
  have ht : Tryz.prog.underlying 92 = some (.array (Tryz.prog.arrayLen 92) (Tryz.prog.elem 92)) := by kernel_rfl
  have hn : Tryz.prog.arrayLen 92 = 15 := by kernel_rfl
  have h1 : (Tryz.prog.info? (Tryz.prog.elem 92)).map (·.size) = some 1 := by kernel_rfl
  have hs : (sizeOf (Tryz.prog.elem 92)).run Tryz.prog u = .ok 1 u := by
    cases hq : Tryz.prog.info? (Tryz.prog.elem 92) with
    | none => rw [hq] at h1; cases h1
    | some i0 =>
      rw [hq] at h1
      have h2 : i0.size = 1 := by simpa using h1
      simp [sizeOf, typeInfo, hq, h2]
  rw [run_indexAt_array u 92 _ .i64 i ht, hn, if_pos (by omega), hs]
  simp only [Result.andThen, Addr.add_mid]
  simp
set_option maxRecDepth 10000 in
set_option maxHeartbeats 4000000 in
theorem zFq (w : World) (k : Int) (h : fl k ≠ []) : Calls Tryz.prog 48 #[.int .i64 k] w fun e w' => e = .returned (.agg (zFn k).toArray) ∧ Below w.heap.size w w' := by
  obtain ⟨l, hL⟩ : ∃ l, l = fl k := ⟨_, rfl⟩
  have e : zFn k = mks l := by rw [hL]; rfl
  rw [e]
  clear e
  obtain ⟨w2, hw2⟩ : ∃ w2, w2 = w.alloc (.cells ([.bool false, .bool false, .bool false, .bool false, .bool false, .bool false, .bool false, .bool false, .bool false, .bool false, .bool false, .bool false, .bool false, .bool false, .bool false] : List Value).toArray 92) := ⟨_, rfl⟩
  have rr : Row w2 w.heap.size 92 (mks []) := by rw [hw2]; exact Row.new w _ _
  have hB : Below w.heap.size w w2 := by rw [hw2]; exact zA0 _ _
  have zB5 := Row.new w2 92 [.bool false, .bool false, .bool false, .bool false, .bool false, .bool false, .bool false, .bool false, .bool false, .bool false, .bool false, .bool false, .bool false, .bool false, .bool false]
  go_enter Tryz.func48, Tryz.ntmps48
  go_upto_region 1 with fail
  rw [← hw2]
  clear hw2
  go_upto_region 2 with (refine zA7 rfl _ _ _ rfl w2.heap.size [.bool false, .bool false, .bool false, .bool false, .bool false, .bool false, .bool false, .bool false, .bool false, .bool false, .bool false, .bool false, .bool false, .bool false, .bool false] rfl rfl _ _ zB5 rfl (by kernel_rfl) (by decide) ?_; intro w3 hr3 hg3)
  have ra3 : Row w3 w2.heap.size 92 (mks []) := hr3.out
  have hb3 : Below w2.heap.size w2 w3 := (zA0 w2 (.cells ([.bool false, .bool false, .bool false, .bool false, .bool false, .bool false, .bool false, .bool false, .bool false, .bool false, .bool false, .bool false, .bool false, .bool false, .bool false] : List Value).toArray 92)).trans (zA5 hg3 (by simp) (fun k hk => by cases hk; exact zN))
  clear zB5 hr3 hg3
  obtain ⟨w4, hw4⟩ : ∃ w4, w4 = w3.alloc (.cells #[] 3) := ⟨_, rfl⟩
  have b4 : Below w3.heap.size w3 w4 := by rw [hw4]; exact zA0 _ _
  go_upto_block 0 with fail
  rw [← hw4]
  clear hw4
  have hne : w.heap.size ≠ w2.heap.size := Nat.ne_of_lt rr.lt
  have ra4 := ra3.below b4
  have rr4 := (rr.below hb3).below b4
  have hB4 := zA1 hb3 zN b4
  obtain ⟨cH, hcH⟩ : ∃ c, c = w2.heap.size := ⟨_, rfl⟩
  rw [← hcH] at ra4 hne ⊢
  have hcw : w.heap.size ≤ cH := by rw [hcH]; exact hB.size
  clear ra3 rr b4 hb3 hcH
  go_cut [4] from 10 to 62 (fun s4 wx => ∃ g, s4 = .slice (some ⟨g, 0, none⟩) l.length l.length ∧ Row wx g 3 (il l) ∧ Below w4.heap.size w4 wx)
  case first =>
    rcases zD7 k with rfl | rfl | rfl | rfl | rfl | rfl | rfl | rfl | rfl | rfl | rfl | rfl | rfl | rfl | rfl | rfl | rfl | rfl | rfl | e
    · subst hL
      clear h
      go_wp2_with fail
      go_meet
      exact ⟨_, rfl, Row.new w4 3 [.int .i64 6], zA0 _ _⟩
    · subst hL
      clear h
      go_wp2_with fail
      go_meet
      exact ⟨_, rfl, Row.new w4 3 [.int .i64 0, .int .i64 1, .int .i64 6, .int .i64 11], zA0 _ _⟩
    · subst hL
      clear h
      go_wp2_with fail
      go_meet
      exact ⟨_, rfl, Row.new w4 3 [.int .i64 0, .int .i64 1, .int .i64 6, .int .i64 10, .int .i64 11], zA0 _ _⟩
    · subst hL
      clear h
      go_wp2_with fail
      go_meet
      exact ⟨_, rfl, Row.new w4 3 [.int .i64 0, .int .i64 1, .int .i64 6, .int .i64 11], zA0 _ _⟩
    · subst hL
      clear h
      go_wp2_with fail
      go_meet
      exact ⟨_, rfl, Row.new w4 3 [.int .i64 2, .int .i64 3, .int .i64 4, .int .i64 8, .int .i64 9], zA0 _ _⟩
    · subst hL
      clear h
      go_wp2_with fail
      go_meet
      exact ⟨_, rfl, Row.new w4 3 [.int .i64 0, .int .i64 2, .int .i64 3, .int .i64 9], zA0 _ _⟩
    · subst hL
      clear h
      go_wp2_with fail
      go_meet
      exact ⟨_, rfl, Row.new w4 3 [.int .i64 0, .int .i64 2, .int .i64 3, .int .i64 9, .int .i64 10], zA0 _ _⟩
    · subst hL
      clear h
      go_wp2_with fail
      go_meet
      exact ⟨_, rfl, Row.new w4 3 [.int .i64 14], zA0 _ _⟩
    · subst hL
      clear h
      go_wp2_with fail
      go_meet
      exact ⟨_, rfl, Row.new w4 3 [.int .i64 0, .int .i64 9, .int .i64 12, .int .i64 14], zA0 _ _⟩
    · subst hL
      clear h
      go_wp2_with fail
      go_meet
      exact ⟨_, rfl, Row.new w4 3 [.int .i64 1, .int .i64 8, .int .i64 11], zA0 _ _⟩
    · subst hL
      clear h
      go_wp2_with fail
      go_meet
      exact ⟨_, rfl, Row.new w4 3 [.int .i64 1, .int .i64 2], zA0 _ _⟩
    · subst hL
      clear h
      go_wp2_with fail
      go_meet
      exact ⟨_, rfl, Row.new w4 3 [.int .i64 1, .int .i64 2, .int .i64 4, .int .i64 5, .int .i64 8, .int .i64 9], zA0 _ _⟩
    · subst hL
      clear h
      go_wp2_with fail
      go_meet
      exact ⟨_, rfl, Row.new w4 3 [.int .i64 0, .int .i64 1, .int .i64 2, .int .i64 4, .int .i64 6, .int .i64 7, .int .i64 8, .int .i64 9], zA0 _ _⟩
    · subst hL
      clear h
      go_wp2_with fail
      go_meet
      exact ⟨_, rfl, Row.new w4 3 [.int .i64 0], zA0 _ _⟩
    · subst hL
      clear h
      go_wp2_with fail
      go_meet
      exact ⟨_, rfl, Row.new w4 3 [.int .i64 0, .int .i64 1, .int .i64 12, .int .i64 13], zA0 _ _⟩
    · subst hL
      clear h
      go_wp2_with fail
      go_meet
      exact ⟨_, rfl, Row.new w4 3 [.int .i64 0, .int .i64 1, .int .i64 6], zA0 _ _⟩
    · subst hL
      clear h
      go_wp2_with fail
      go_meet
      exact ⟨_, rfl, Row.new w4 3 [.int .i64 0, .int .i64 1, .int .i64 6, .int .i64 10], zA0 _ _⟩
    · subst hL
      clear h
      go_wp2_with fail
      go_meet
      exact ⟨_, rfl, Row.new w4 3 [.int .i64 0, .int .i64 1, .int .i64 6, .int .i64 11], zA0 _ _⟩
    · subst hL
      clear h
      go_wp2_with fail
      go_meet
      exact ⟨_, rfl, Row.new w4 3 [.int .i64 1, .int .i64 8, .int .i64 10], zA0 _ _⟩
    · exact absurd e h
  case rest =>
    obtain ⟨g, rfl, rg, hb5⟩ := hcut
    have hl15 := zFk (zEn k)
    have hl8 := fl_len k
    rw [← hL] at hl15 hl8
    have ra5 := ra4.below hb5
    have rr5 := rr4.below hb5
    have hB5 := zA1 hB zN (zA1 hB4 zN hb5)
    have hgc : (some cH : Option Nat) ≠ some g := fun e => Row.apart ra5 rg (by decide) (Option.some.inj e)
    have hwc : (some cH : Option Nat) ≠ some w.heap.size := fun e => hne (Option.some.inj e).symm
    have hwl := rr5.lt
    clear ra4 rr4 hb5 h hB hB4 hL
    go_wp2_with fail
    go_loopw [65] (fun i wr => ∃ q : Nat, q ≤ l.length ∧ i = .int .i64 q ∧ Hid (Row wr cH 92 (mks (l.take q))) ∧ wc.grownBy wr (some cH)) (fun i _ => l.length - (intOf i).toNat)
    case atStart => exact ⟨0, Nat.zero_le _, rfl, ra5, zA8 (Below.refl _ _) _⟩
    case round =>
      obtain ⟨q, hq, rfl, zB5, hg⟩ := hrel
      by_cases hql : q < l.length
      · have i1 : (q : Int) < (l.length : Int) := by omega
        obtain ⟨x, hx⟩ : ∃ x, l[q]? = some x := ⟨_, List.getElem?_eq_getElem hql⟩
        have hx15 := hl15 x (List.mem_of_getElem? hx)
        have cq : wr.cell? ⟨g, q, none⟩ = some (.int .i64 (x : Int)) := (rg.grown hg hgc).cell (j := q) (by simp [il, hx])
        have HX := (show Hid (mks (l.take q ++ [x]) = mks (l.take (q + 1))) by show _ = _; rw [List.take_add_one, hx]; rfl)
        have hix : ∀ u : World, (Instr.indexAt 92 (.pointer (some ⟨cH, 0, none⟩)) (.int .i64 (x : Int))).run Tryz.prog u = .ok (.pointer (some ⟨cH, x, none⟩)) u := fun u => run_ix15 cH x hx15 u
        have HJ := (show Hid (x < (mks (l.take q)).length) by show _ < _; rw [zK2]; exact hx15)
        clear hx
        go_wp2_with (refine zAb rfl 4 _ _ rfl cH x (.bool true) (by first | rfl | (simp [Act.eval]; done)) (by first | rfl | (simp [Act.eval]; done)) 92 (mks (l.take q)) zB5.out HJ.out (by kernel_rfl) rfl ?_; intro w6 hr6 hg6)
        have hr6' := hr6.out
        rw [mks_set, HX.out] at hr6'
        have hr7 := (show Hid (Row w6 cH 92 (mks (l.take (q + 1)))) from hr6')
        clear hr6 hr6' hix HJ HX cq
        go_wp2_with fail
        go_roundw
        case rel => exact ⟨q + 1, by omega, by go_num, hr7, zA2 hg hg6 (.inl rfl)⟩
        case measure => simp [intOf]; omega
      · obtain rfl : q = l.length := by omega
        have i1 : ¬ (l.length : Int) < (l.length : Int) := by omega
        have ra6 := zB5.out
        rw [List.take_length] at ra6
        have rr6 := rr5.grown hg hwc
        have hB6 := hB5.trans (zA5 hg (Nat.le_of_lt hwl) (fun k hk => by cases hk; exact hcw))
        have HL := (show Hid ((mks []).length = (mks l).length) by show _ = _; rw [zK2, zK2])
        have HI := (show Hid ((Tryz.prog.info? 92).map (·.size) = some (mks l).length) by show _ = _; rw [zK2]; kernel_rfl)
        have HO := (show Hid (∀ v ∈ mks l, v.oneCell' = true) from one_mks l)
        clear zB5 hl15 hql hq
        go_wp2_with (first
          | (refine zAa rfl _ _ rfl cH rfl _ _ ra6 _ Tryz.underlying92 rfl HI.out ?_)
          | (refine zA7 rfl _ _ _ rfl w.heap.size (mks l) rfl rfl _ _ rr6 HL.out HI.out HO.out ?_; intro w20 hr20 hg20))
        have hr20 := hr20.out
        refine bodyPost_ret (v := .agg (mks l).toArray) (results_cell_row rfl _ _ w.heap.size _ _ (0, 0) _ (by rfl) hr20 Tryz.underlying92 rfl (by rw [List.size_toArray]; exact HI.out)) rfl ?_
        exact ⟨rfl, hB6.trans (zA5 hg20 hB6.size (fun k hk => by cases hk; exact zN))⟩
end Go.Proofs.YtgjepofinpmcpaaGreatDoor
