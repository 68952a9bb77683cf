/- The document's disk: Room, New, Break, Mend. -/
import Derived.Test.YteafgdidjdfiiaaDa
import Derived.Test.YteafgdidjdfiiaaDq
import Derived.Deep.DeepAppendWide
set_option linter.unusedVariables false
set_option linter.unusedSimpArgs false
namespace Go.Proofs.Yteafgdidjdfiiaa
open Go.RowKit Oct

theorem dkc_one {v : Value} (h : v.oneCell' = true) (d : PDk) : ∀ u ∈ dkc v d, u.oneCell' = true := by
  intro x hx
  simp only [dkc, List.mem_cons, List.not_mem_nil, or_false] at hx
  rcases hx with rfl | rfl | rfl | rfl | rfl | rfl <;> first | rfl | assumption
theorem rd_oneD {w : World} {v : Value} {l : List Int} (h : Rd w v l) : v.oneCell' = true := by
  obtain ⟨ao, cap, rfl, _⟩ := h.2.form; rfl
theorem results_ctD {P : Program} {fn : Func} {p t : Tmp} {ty : TypeId} (h : fn.results = #[.cell p ty, .tmp t]) (tmps : Array Value) (w : World) (g : Nat) (tt : TypeId) (cs : Array Value) (fr : Nat × Nat) (d : TypeDesc)
    (hp : tmps.getD p undef = .pointer (some ⟨g, 0, none⟩)) (hg : w.heap[g]? = some (.cells cs tt fr))
    (hu : P.underlying ty = some d) (hd : (match d with | .struct _ | .array _ _ => true | _ => false) = true) (hi : (P.info? ty).map (·.size) = some cs.size) :
    (results fn tmps).run P w = .ok (.tuple #[.agg cs, tmps.getD t undef]) w := by
  have hp' : tmps[p]?.getD undef = .pointer (some ⟨g, 0, none⟩) := by simpa using hp
  simp [results, h, hp', asAddr, run_loadVar_row w g tt ty cs fr d hg hu hd hi]
/-- 'append(s, x...)', s the call's own, also past 2^47 bytes. -/
theorem app_great {w : World} {ops : Array Oper} {rest : List Oper} {o : Oper} {a : Act} {Q : Exit → Act → World → Prop} (hgd : o.guard = none) (s x : Operand)
    (ho : o.op = .call { callee := .builtin .append, args := #[s, x], argTypes := #[22, 22] })
    (v : Value) (l : List Int) (hs : a.eval s = v) (hown : Own w 5 v (bc l)) (sv : Value) (m : List Int) (hx : a.eval x = sv) (hsrc : Rd w sv m) (hl : l.length ≤ 4194304) (hm : m.length ≤ 140737488351232) (B : Nat) (hf : Fr B v) (hB : B ≤ w.heap.size)
    (h : ∀ v' w', Own w' 5 v' (bc (l ++ m)) → Fr B v' → w.grownBy w' v.ownBlock → wpList Try.prog ops Q rest (a.put o.dst v') w') : wpList Try.prog ops Q (o :: rest) a w := by
  by_cases hsm : l.length + m.length ≤ 140737488355328
  · refine app_bytes hgd s x ho v l hs hown sv m hx hsrc.2 hsm ?_
    intro v' w' happ
    exact h v' w' happ.own (happ.fr hf hB) happ.grown
  · obtain ⟨i0, hi, hz0, hz1, hz2⟩ := info_parts Try.info5
    refine wpList_wanted (wanted_none hgd) fun K hK => ?_
    obtain ⟨_, ao', cap', e, c1, c2, c3, c4⟩ := hsrc
    cases e
    cases ao' with
    | none =>
      exfalso
      have e2 := (c3 rfl).1
      have e3 := congrArg List.length e2
      rw [bc_len] at e3
      simp at e3
      rw [e3] at hsm
      simp at hsm
      omega
    | some ad =>
      have hown' : w.ownsRow B 5 1 v (bc l).length (bc l) := ⟨hown.1, by
        rcases hown.2 with h | ⟨g, cap, cur, h1, _, h2⟩
        · exact .inl h
        · exact .inr ⟨g, cap, cur, h1, hf g (by rw [h1]; rfl), h2⟩⟩
      obtain ⟨v', w', hr, o1, o2, _⟩ := run_append_own_wide (P := Try.prog) w B 22 o.type 5 i0 (.int .u8 0) 1 1 Try.underlying22 hi hz0 hz1 hz2 rfl (by decide) v (bc l).length (bc l) hown' ad (bc m).length cap' (bc m) (by omega) (c4 ad rfl) (bc_one _)
        (by rw [bc_len, bc_len]; unfold maxLen; omega) (by rw [bc_len, bc_len]; omega) hB
      unfold Oper.wp
      simp [execOp, ho, resolve, invoke, builtin, hs, hx, hr, Result.andThen]
      rw [← List.length_append, ← bc_app] at o1
      exact hK _ _ (h v' w' (owns_base o1) (fun k hk => (World.ownsRow.lt o1 k hk).1) o2)

theorem refRoom_any (w : World) (n : Int) : Calls Try.prog 27 #[.int .i64 n] w fun e w' => e = .returned (.int .i64 (wit n 4194304)) ∧ w' = w := by
  obtain ⟨q, hq⟩ : ∃ q, q = wit n 4194304 := ⟨_, rfl⟩
  rw [← hq]
  unfold wit at hq
  go_enter Try.func27, Try.ntmps27
  go_wp2_with fail
  all_goals (
    go_ret
    exact ⟨ret_int (by omega), rfl⟩)
set_option maxRecDepth 10000 in
theorem refNewD_any (w : World) (n : Int) : Calls Try.prog 14 #[.int .i64 n] w fun e w' => e = .returned (.agg (dkc (.slice none 0 0) (nwD n)).toArray) ∧ Below w.heap.size w w' := by
  have hB := below_alloc w (.cells (dkc (.slice none 0 0) ⟨[], 0, false, false, 0, 0⟩).toArray 35)
  have hrow := Row.new w 35 (dkc (.slice none 0 0) ⟨[], 0, false, false, 0, 0⟩)
  obtain ⟨w1, hw1⟩ : ∃ w1, w1 = w.alloc (.cells (dkc (.slice none 0 0) ⟨[], 0, false, false, 0, 0⟩).toArray 35) := ⟨_, rfl⟩
  rw [← hw1] at hB hrow
  go_enter Try.func14, Try.ntmps14
  go_upto_region 1 with fail
  have hw1' : w.alloc (.cells #[.slice none 0 0, .int .i64 0, .bool false, .bool false, .int .i64 0, .int .i64 0] 35) = w1 := hw1.symm
  rw [hw1']
  clear hw1 hw1'
  go_wp2_with (first
    | (go_at_call 27; refine (refRoom_any w1 n).mono ?_; rintro e w0 ⟨rfl, rfl⟩)
    | (refine wl_store rfl _ _ _ rfl w.heap.size (dkc (.slice none 0 0) (nwD n)) rfl rfl _ _ hrow rfl (by kernel_rfl) (dkc_one rfl _) ?_; intro w5 hr5 hg5))
  refine bodyPost_ret (v := .agg (dkc (.slice none 0 0) (nwD n)).toArray) (results_cell_row rfl _ _ w.heap.size _ _ (0, 0) _ (by rfl) hr5.out Try.underlying35 rfl (by kernel_rfl)) rfl ?_
  exact ⟨rfl, hB.trans (grown_below hg5 hB.size (fun k hk => by cases hk; exact Nat.le_refl _))⟩

/-- The two boxes that a function over disks begins with. -/
theorem two_boxes (w : World) (v : Value) (d : PDk) : ∃ w2, w2 = (w.alloc (.cells (dkc v d).toArray 35)).alloc (.cells #[.slice none 0 0, .int .i64 0, .bool false, .bool false, .int .i64 0, .int .i64 0] 35) ∧
    Row w2 w.heap.size 35 (dkc v d) ∧ Row w2 (w.heap.size + 1) 35 (dkc (.slice none 0 0) ⟨[], 0, false, false, 0, 0⟩) ∧ Below w.heap.size w w2 ∧ w2.heap.size = w.heap.size + 2 := by
  refine ⟨_, rfl, rowA (Row.new w 35 (dkc v d)) _, ?_, ((Below.refl _ w).alloc (Nat.le_refl _) _).alloc (by simp) _, by simp⟩
  have := Row.new (w.alloc (.cells (dkc v d).toArray 35)) 35 (dkc (.slice none 0 0) ⟨[], 0, false, false, 0, 0⟩)
  simpa [dkc] using this

set_option maxRecDepth 10000 in
set_option maxHeartbeats 1000000 in
theorem refMendD_any (w : World) (v : Value) (d : PDk) (hv : ∃ a n c, v = .slice a n c) : Calls Try.prog 25 #[.agg (dkc v d).toArray] w fun e w' => e = .returned (.agg (dkc v (meD d)).toArray) ∧ Below w.heap.size w w' := by
  obtain ⟨va, vn, vc, rfl⟩ := hv
  obtain ⟨w2, hw2, ra, rr, hB, hsz⟩ := two_boxes w (.slice va vn vc) d
  have c0 := ra.cell (j := 0) rfl
  have c1 := ra.cell (j := 1) rfl
  clear ra hsz
  obtain ⟨l, room, dead, due, wr, te⟩ := d
  go_enter Try.func25, Try.ntmps25
  go_upto_region 1 with fail
  rw [← hw2]
  clear hw2
  go_wp2_with (refine wl_store rfl _ _ _ rfl (w.heap.size + 1) (dkc (.slice va vn vc) (meD ⟨l, room, dead, due, wr, te⟩)) rfl rfl _ _ rr rfl (by kernel_rfl) (dkc_one rfl _) ?_; intro w5 hr5 hg5)
  refine bodyPost_ret (v := .agg (dkc (.slice va vn vc) (meD ⟨l, room, dead, due, wr, te⟩)).toArray) (results_cell_row rfl _ _ (w.heap.size + 1) _ _ (0, 0) _ (by rfl) hr5.out Try.underlying35 rfl (by kernel_rfl)) rfl ?_
  exact ⟨rfl, hB.trans (grown_below hg5 hB.size (fun k hk => by cases hk; omega))⟩

set_option maxRecDepth 10000 in
set_option maxHeartbeats 1000000 in
theorem refBreakD_any (w : World) (v : Value) (d : PDk) (a t : Int) (h1 : v.oneCell' = true) : Calls Try.prog 23 #[.agg (dkc v d).toArray, .int .i64 a, .int .i64 t] w fun e w' => e = .returned (.agg (dkc v (bkD d a t)).toArray) ∧ Below w.heap.size w w' := by
  obtain ⟨w2, hw2, ra, rr, hB, hsz⟩ := two_boxes w v d
  have hz := Nat.le_of_eq hsz.symm
  clear hsz
  obtain ⟨l, room, dead, due, wr, te⟩ := d
  obtain ⟨m, hm⟩ : ∃ m, m = max 0 a := ⟨_, rfl⟩
  have HM := (show Hid (bkD ⟨l, room, dead, due, wr, te⟩ a t = ⟨l, room, dead, true, m, t⟩) by show _ = _; rw [hm]; rfl)
  rw [HM.out]
  by_cases ha : a < 0
  · obtain rfl : m = 0 := by omega
    clear hm
    go_enter Try.func23, Try.ntmps23
    go_upto_region 1 with fail
    rw [← hw2]
    clear hw2
    go_wp2_with (first
      | (refine wl_store rfl _ _ _ rfl (w.heap.size + 1) (dkc v ⟨l, room, dead, true, 0, t⟩) rfl rfl _ _ rr6 rfl (by kernel_rfl) (dkc_one h1 _) ?_; intro w7 hr7 hg7)
      | (refine wl_load rfl _ _ rfl w.heap.size rfl _ _ ra6.out _ Try.underlying35 rfl (by kernel_rfl) ?_)
      | (refine wl_set rfl _ _ _ rfl w.heap.size 5 _ rfl rfl _ _ ra5.out (show 5 < 6 by decide) (by kernel_rfl) rfl ?_; intro w6 ra6 hg6; have rr6 := ((rr.grown hg4 (by simp)).grown hg5 (by simp)).grown hg6 (by simp))
      | (refine wl_set rfl _ _ _ rfl w.heap.size 4 _ rfl rfl _ _ ra4.out (show 4 < 6 by decide) (by kernel_rfl) rfl ?_; intro w5 ra5 hg5)
      | (refine wl_set rfl _ _ _ rfl w.heap.size 3 _ rfl rfl _ _ ra (show 3 < 6 by decide) (by kernel_rfl) rfl ?_; intro w4 ra4 hg4))
    have hg := grown_trans (grown_trans hg4 hg5 (.inl rfl)) hg6 (.inl rfl)
    have hB6 := hB.trans (grown_below hg hB.size (fun k hk => by cases hk; exact Nat.le_refl _))
    refine bodyPost_ret (v := .agg (dkc v ⟨l, room, dead, true, 0, t⟩).toArray) (results_cell_row rfl _ _ (w.heap.size + 1) _ _ (0, 0) _ (by rfl) hr7.out Try.underlying35 rfl (by kernel_rfl)) rfl ?_
    exact ⟨rfl, hB6.trans (grown_below hg7 hB6.size (fun k hk => by cases hk; omega))⟩
  · obtain rfl : m = a := by omega
    clear hm
    go_enter Try.func23, Try.ntmps23
    go_upto_region 1 with fail
    rw [← hw2]
    clear hw2
    go_wp2_with (first
      | (refine wl_store rfl _ _ _ rfl (w.heap.size + 1) (dkc v ⟨l, room, dead, true, m, t⟩) rfl rfl _ _ rr6 rfl (by kernel_rfl) (dkc_one h1 _) ?_; intro w7 hr7 hg7)
      | (refine wl_load rfl _ _ rfl w.heap.size rfl _ _ ra6.out _ Try.underlying35 rfl (by kernel_rfl) ?_)
      | (refine wl_set rfl _ _ _ rfl w.heap.size 5 _ rfl rfl _ _ ra5.out (show 5 < 6 by decide) (by kernel_rfl) rfl ?_; intro w6 ra6 hg6; have rr6 := ((rr.grown hg4 (by simp)).grown hg5 (by simp)).grown hg6 (by simp))
      | (refine wl_set rfl _ _ _ rfl w.heap.size 4 _ rfl rfl _ _ ra4.out (show 4 < 6 by decide) (by kernel_rfl) rfl ?_; intro w5 ra5 hg5)
      | (refine wl_set rfl _ _ _ rfl w.heap.size 3 _ rfl rfl _ _ ra (show 3 < 6 by decide) (by kernel_rfl) rfl ?_; intro w4 ra4 hg4))
    have hg := grown_trans (grown_trans hg4 hg5 (.inl rfl)) hg6 (.inl rfl)
    have hB6 := hB.trans (grown_below hg hB.size (fun k hk => by cases hk; exact Nat.le_refl _))
    refine bodyPost_ret (v := .agg (dkc v ⟨l, room, dead, true, m, t⟩).toArray) (results_cell_row rfl _ _ (w.heap.size + 1) _ _ (0, 0) _ (by rfl) hr7.out Try.underlying35 rfl (by kernel_rfl)) rfl ?_
    exact ⟨rfl, hB6.trans (grown_below hg7 hB6.size (fun k hk => by cases hk; omega))⟩
end Go.Proofs.Yteafgdidjdfiiaa
