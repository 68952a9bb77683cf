/- Sealed messages: what is sealed, in which domain; a message with another signature. -/
import Derived.Test.YtijmecplechhgaaGreatDoorLc
import Derived.Deep.MidRow
set_option linter.unusedVariables false
set_option linter.unusedSimpArgs false
namespace Go.Proofs.YtijmecplechhgaaGreatDoor
open Go.RowKit Oct

/-- Is it one report alone? -/
def oneM (m : PMsg) : Bool := (m.kind == 8) && (m.reps.length == 1)
def repSig (r : PRep) (g : List Int) : PRep := (r.1, r.2.1, r.2.2.1, r.2.2.2.1, r.2.2.2.2.1, r.2.2.2.2.2.1, g)
/-- The message with this signature. -/
def wsM (m : PMsg) (g : List Int) : PMsg := if oneM m = true then { m with reps := m.reps.map fun r => repSig r g } else { m with sig := g }
/-- The signature by which it is sealed. -/
def sgM (m : PMsg) : List Int := if oneM m = true then (match m.reps with | r :: _ => r.2.2.2.2.2.2 | [] => []) else m.sig
theorem oneM_yes {m : PMsg} (h : oneM m = true) : m.kind = 8 ∧ ∃ r, m.reps = [r] := by
  unfold oneM at h
  simp only [Bool.and_eq_true, beq_iff_eq] at h
  refine ⟨h.1, ?_⟩
  match hr : m.reps, h.2 with
  | [r], _ => exact ⟨r, rfl⟩
theorem ws_one (m : PMsg) (g : List Int) : oneM (wsM m g) = oneM m := by
  unfold wsM
  split
  · unfold oneM; simp
  · rfl
theorem ws_ws (m : PMsg) (g h : List Int) : wsM (wsM m g) h = wsM m h := by
  have e := ws_one m g
  unfold wsM at e ⊢
  split
  · rename_i h1
    rw [if_pos h1] at e
    rw [if_pos (by rw [e]; exact h1)]
    simp [repSig, Function.comp_def]
  · rename_i h1
    rw [if_neg h1] at e
    rw [if_neg (by rw [e]; exact h1)]
theorem ws_sg (m : PMsg) : wsM m (sgM m) = m := by
  unfold wsM sgM
  split
  · rename_i h
    obtain ⟨_, r, hr⟩ := oneM_yes h
    obtain ⟨a, b, c, d, e, f, g⟩ := r
    cases m
    simp only at hr
    subst hr
    rfl
  · rfl
theorem sg_ws (m : PMsg) (g : List Int) : sgM (wsM m g) = g := by
  have e := ws_one m g
  unfold wsM sgM at *
  by_cases h : oneM m = true
  · rw [if_pos h] at e ⊢
    rw [if_pos (by rw [e]; exact h)]
    obtain ⟨_, r, hr⟩ := oneM_yes h
    simp [hr, repSig]
  · rw [if_neg h] at e ⊢
    rw [if_neg (by rw [e]; exact h)]
theorem boxM (w : World) (m : PMsg) (s : SV) : ∃ w1, w1 = w.alloc (.cells (mc m s).toArray 32) ∧ Row w1 w.heap.size 32 (mc m s) ∧ Below w.heap.size w w1 := ⟨_, rfl, Row.new w _ _, below_alloc _ _⟩
set_option maxRecDepth 10000 in
set_option maxHeartbeats 1000000 in
theorem isReport_any (G : Nat → Prop) (w : World) (m : PMsg) (s : SV) (hs : SOk G w m s) : Calls Tryz.prog 41 #[.agg (mc m s).toArray] w fun e w' => e = .returned (.bool (oneM m)) ∧ Below w.heap.size w w' := by
  obtain ⟨w1, hw1, r1, B1⟩ := boxM w m s
  have c0 := r1.cell (j := 0) rfl
  have c22 := r1.cell (j := 22) rfl
  obtain ⟨al, cl, hl, hcl⟩ := hs.l.form
  rw [hl] at c22
  have hlen : (m.reps.length : Int) ≤ 9223372036854775807 := by
    rcases Nat.eq_zero_or_pos m.reps.length with h | h
    · omega
    · obtain ⟨_, _, cap, _, e, e1, _⟩ := hs.l.at h
      unfold maxLen at e1
      omega
  unfold oneM
  by_cases hk : m.kind = 8
  · have hk' : (m.kind == 8) = true := by simp [hk]
    obtain ⟨N, hN⟩ : ∃ N, N = m.reps.length := ⟨_, rfl⟩
    rw [← hN] at c22 hlen ⊢
    have hee : ((N : Int) == 1) = (N == 1) := by
      by_cases h : N = 1
      · subst h; rfl
      · have : (N : Int) ≠ 1 := by omega
        rw [beq_eq_false_iff_ne.2 this, beq_eq_false_iff_ne.2 h]
    rw [hk', Bool.true_and, ← hee]
    clear hee hN hl hs hk
    go_enter Tryz.func41, Tryz.ntmps41
    go_upto_region 1 with fail
    rw [← hw1]
    clear hw1
    go_wp2_with fail
    go_ret
    exact ⟨rfl, B1⟩
  · have hk' : (m.kind == 8) = false := by simp [hk]
    rw [hk', Bool.false_and]
    clear hl hs hk
    go_enter Tryz.func41, Tryz.ntmps41
    go_upto_region 1 with fail
    rw [← hw1]
    clear hw1
    go_wp2_with fail
    go_ret
    exact ⟨rfl, B1⟩
set_option maxRecDepth 10000 in
set_option maxHeartbeats 1000000 in
theorem refOne_any (G : Nat → Prop) (w : World) (m : PMsg) (s : SV) (hs : SOk G w m s) : Calls Tryz.prog 32 #[.agg (mc m s).toArray] w fun e w' => e = .returned (.bool (oneM m)) ∧ Below w.heap.size w w' := by
  obtain ⟨w1, hw1, r1, B1⟩ := boxM w m s
  have c0 := r1.cell (j := 0) rfl
  have c22 := r1.cell (j := 22) rfl
  obtain ⟨al, cl, hl, hcl⟩ := hs.l.form
  rw [hl] at c22
  have hlen : (m.reps.length : Int) ≤ 9223372036854775807 := by
    rcases Nat.eq_zero_or_pos m.reps.length with h | h
    · omega
    · obtain ⟨_, _, cap, _, e, e1, _⟩ := hs.l.at h
      unfold maxLen at e1
      omega
  unfold oneM
  by_cases hk : m.kind = 8
  · have hk' : (m.kind == 8) = true := by simp [hk]
    obtain ⟨N, hN⟩ : ∃ N, N = m.reps.length := ⟨_, rfl⟩
    rw [← hN] at c22 hlen ⊢
    have hee : ((N : Int) == 1) = (N == 1) := by
      by_cases h : N = 1
      · subst h; rfl
      · have : (N : Int) ≠ 1 := by omega
        rw [beq_eq_false_iff_ne.2 this, beq_eq_false_iff_ne.2 h]
    rw [hk', Bool.true_and, ← hee]
    clear hee hN hl hs hk
    go_enter Tryz.func32, Tryz.ntmps32
    go_upto_region 1 with fail
    rw [← hw1]
    clear hw1
    go_wp2_with fail
    go_ret
    exact ⟨rfl, B1⟩
  · have hk' : (m.kind == 8) = false := by simp [hk]
    rw [hk', Bool.false_and]
    clear hl hs hk
    go_enter Tryz.func32, Tryz.ntmps32
    go_upto_region 1 with fail
    rw [← hw1]
    clear hw1
    go_wp2_with fail
    go_ret
    exact ⟨rfl, B1⟩
/-- The domain in which it is signed. -/
def domS (m : PMsg) : ByteArray := if oneM m = true then ⟨#[114, 101, 112, 111, 114, 116]⟩ else ⟨#[109, 101, 115, 115, 97, 103, 101]⟩
set_option maxRecDepth 10000 in
theorem sealDomain_any (G : Nat → Prop) (w : World) (m : PMsg) (s : SV) (hs : SOk G w m s) : Calls Tryz.prog 22 #[.agg (mc m s).toArray] w fun e w' => e = .returned (.string (domS m)) ∧ Below w.heap.size w w' := by
  obtain ⟨w1, hw1, r1, B1⟩ := boxM w m s
  have hC := isReport_any G w1 m s (hs.mv B1.size (Mv.belowG B1))
  unfold domS
  cases ho : oneM m with
  | true =>
    rw [ho] at hC
    clear ho
    go_enter Tryz.func22, Tryz.ntmps22
    go_upto_region 1 with fail
    rw [← hw1]
    clear hw1
    go_wp2_with (first
      | (refine wl_load rfl _ _ rfl w.heap.size rfl _ _ r1 _ Tryz.underlying32 rfl (by kernel_rfl) ?_)
      | (go_at_call 41; refine hC.mono ?_; rintro e w2 ⟨rfl, hb2⟩))
    go_ret
    exact ⟨rfl, below_and B1 (Nat.le_refl _) hb2⟩
  | false =>
    rw [ho] at hC
    clear ho
    go_enter Tryz.func22, Tryz.ntmps22
    go_upto_region 1 with fail
    rw [← hw1]
    clear hw1
    go_wp2_with (first
      | (refine wl_load rfl _ _ rfl w.heap.size rfl _ _ r1 _ Tryz.underlying32 rfl (by kernel_rfl) ?_)
      | (go_at_call 41; refine hC.mono ?_; rintro e w2 ⟨rfl, hb2⟩))
    go_ret
    exact ⟨rfl, below_and B1 (Nat.le_refl _) hb2⟩
set_option maxRecDepth 10000 in
theorem refDomain_any (G : Nat → Prop) (w : World) (m : PMsg) (s : SV) (hs : SOk G w m s) : Calls Tryz.prog 36 #[.agg (mc m s).toArray] w fun e w' => e = .returned (.string (domS m)) ∧ Below w.heap.size w w' := by
  obtain ⟨w1, hw1, r1, B1⟩ := boxM w m s
  have hC := refOne_any G w1 m s (hs.mv B1.size (Mv.belowG B1))
  unfold domS
  cases ho : oneM m with
  | true =>
    rw [ho] at hC
    clear ho
    go_enter Tryz.func36, Tryz.ntmps36
    go_upto_region 1 with fail
    rw [← hw1]
    clear hw1
    go_wp2_with (first
      | (refine wl_load rfl _ _ rfl w.heap.size rfl _ _ r1 _ Tryz.underlying32 rfl (by kernel_rfl) ?_)
      | (go_at_call 32; refine hC.mono ?_; rintro e w2 ⟨rfl, hb2⟩))
    go_ret
    exact ⟨rfl, below_and B1 (Nat.le_refl _) hb2⟩
  | false =>
    rw [ho] at hC
    clear ho
    go_enter Tryz.func36, Tryz.ntmps36
    go_upto_region 1 with fail
    rw [← hw1]
    clear hw1
    go_wp2_with (first
      | (refine wl_load rfl _ _ rfl w.heap.size rfl _ _ r1 _ Tryz.underlying32 rfl (by kernel_rfl) ?_)
      | (go_at_call 32; refine hC.mono ?_; rintro e w2 ⟨rfl, hb2⟩))
    go_ret
    exact ⟨rfl, below_and B1 (Nat.le_refl _) hb2⟩
set_option maxRecDepth 10000 in
set_option maxHeartbeats 1000000 in
theorem sigOf_any (G : Nat → Prop) (w : World) (m : PMsg) (s : SV) (hs : SOk G w m s) : Calls Tryz.prog 27 #[.agg (mc m s).toArray] w fun e w' => ∃ v, e = .returned v ∧ RT G w' v (sgM m) ∧ Below w.heap.size w w' := by
  obtain ⟨w1, hw1, r1, B1⟩ := boxM w m s
  have hs1 := hs.mv B1.size (Mv.belowG B1)
  have hC := isReport_any G w1 m s hs1
  cases ho : oneM m with
  | true =>
    obtain ⟨hk, r, hr⟩ := oneM_yes ho
    have e : sgM m = r.2.2.2.2.2.2 := by unfold sgM; rw [if_pos ho, hr]
    rw [ho] at hC
    obtain ⟨b, off, cap, hl, hc1, hc2, hG, hb, hx⟩ := hs1.l.at (by rw [hr]; simp)
    obtain ⟨rr, _, hrg, vd, vs, vp, vg, rfl, t1, t2, t3, t4⟩ := hx 0 r (by rw [hr]; rfl)
    have HQ := (show Hid (∀ u, Below w1.heap.size w1 u → Row u w.heap.size 32 (mc m s) ∧ u.cell? ⟨b, off + 7, none⟩ = some vg ∧ RT G u vg r.2.2.2.2.2.2) from fun u hu => ⟨r1.below hu, by
      have := rangeAt_block hrg (hu.block b hb) 7 vg rfl
      simpa using this, t4.mv (Mv.belowG hu)⟩)
    rw [e]
    rw [hr] at hl
    have hl' : s.l = .slice (some ⟨b, off, none⟩) 1 cap := hl
    have hcap : 1 ≤ cap := by rw [hr] at hc1; exact hc1
    clear ho hx hrg t1 t2 t3 t4 hl hc1 e
    go_enter Tryz.func27, Tryz.ntmps27
    go_upto_region 1 with fail
    rw [← hw1]
    clear hw1
    go_upto_region 2 with (first
      | (refine wl_load rfl _ _ rfl w.heap.size rfl _ _ r1 _ Tryz.underlying32 rfl (by kernel_rfl) ?_)
      | (go_at_call 41; refine hC.mono ?_; rintro e w2 ⟨rfl, hb2⟩))
    obtain ⟨r2, cg, tg⟩ := HQ.out w2 hb2
    have c22 := r2.cell (j := 22) rfl
    rw [hl'] at c22
    go_wp2_with fail
    go_ret
    exact ⟨_, rfl, tg, below_and B1 (Nat.le_refl _) hb2⟩
  | false =>
    have e : sgM m = m.sig := by unfold sgM; rw [if_neg (by simp [ho])]
    rw [ho] at hC
    rw [e]
    clear e ho
    go_enter Tryz.func27, Tryz.ntmps27
    go_upto_region 1 with fail
    rw [← hw1]
    clear hw1
    go_upto_region 3 with (first
      | (refine wl_load rfl _ _ rfl w.heap.size rfl _ _ r1 _ Tryz.underlying32 rfl (by kernel_rfl) ?_)
      | (go_at_call 41; refine hC.mono ?_; rintro e w2 ⟨rfl, hb2⟩))
    have c17 := (r1.below hb2).cell (j := 17) rfl
    have tg := hs1.s.mv (Mv.belowG hb2)
    go_wp2_with fail
    go_ret
    exact ⟨_, rfl, tg, below_and B1 (Nat.le_refl _) hb2⟩
end Go.Proofs.YtijmecplechhgaaGreatDoor
