/- Sealed messages: vote.withSig. -/
import Derived.Test.YtgbfmccecnfooaaGreatDoorCRAH
import Derived.Deep.MidRow
set_option linter.unusedSimpArgs false
set_option linter.unusedVariables false
namespace Go.Proofs.YtgbfmccecnfooaaGreatDoor
section
open Go.RowKit Oct
/-- Is it one report alone? -/
def oneM (m : PMsg) : Bool := (m.kind == 8) && (m.reps.length == 1)
def repSig (r : PRep) (g : List Int) : PRep := (r.1, r.2.1, r.2.2.1, r.2.2.2.1, r.2.2.2.2.1, r.2.2.2.2.2.1, g)
/-- The message with this signature. -/
def wsM (m : PMsg) (g : List Int) : PMsg := if oneM m = true then { m with reps := m.reps.map fun r => repSig r g } else { m with sig := g }
/-- The signature by which it is sealed. -/
def sgM (m : PMsg) : List Int := if oneM m = true then (match m.reps with | r :: _ => r.2.2.2.2.2.2 | [] => []) else m.sig
theorem oneM_yes {m : PMsg} (h : oneM m = true) : m.kind = 8 ∧ ∃ r, m.reps = [r] := by
  unfold oneM at h
  simp only [Bool.and_eq_true, beq_iff_eq] at h
  refine ⟨h.1, ?_⟩
  match hr : m.reps, h.2 with
  | [r], _ => exact ⟨r, rfl⟩
theorem ws_sg (m : PMsg) : wsM m (sgM m) = m := by
  unfold wsM sgM
  split
  · rename_i h
    obtain ⟨_, r, hr⟩ := oneM_yes h
    obtain ⟨a, b, c, d, e, f, g⟩ := r
    cases m
    simp only at hr
    subst hr
    rfl
  · rfl
theorem boxM (w : World) (m : PMsg) (s : SV) : ∃ w1, w1 = w.alloc (.cells (mc m s).toArray 72) ∧ Row w1 w.heap.size 72 (mc m s) ∧ Below w.heap.size w w1 := ⟨_, rfl, Row.new w _ _, below_alloc _ _⟩
set_option maxRecDepth 10000 in
set_option maxHeartbeats 1000000 in
theorem isReport_any (G : Nat → Prop) (w : World) (m : PMsg) (s : SV) (hs : SOk G w m s) : Calls Tryz.prog 89 #[.agg (mc m s).toArray] w fun e w' => e = .returned (.bool (oneM m)) ∧ Below w.heap.size w w' := by
  obtain ⟨w1, hw1, r1, B1⟩ := boxM w m s
  have c0 := r1.cell (j := 0) rfl
  have c22 := r1.cell (j := 22) rfl
  obtain ⟨al, cl, hl, hcl⟩ := hs.l.form
  rw [hl] at c22
  have hlen : (m.reps.length : Int) ≤ 9223372036854775807 := by
    rcases Nat.eq_zero_or_pos m.reps.length with h | h
    · omega
    · obtain ⟨_, _, cap, _, e, e1, _⟩ := hs.l.at h
      unfold maxLen at e1
      omega
  unfold oneM
  by_cases hk : m.kind = 8
  · have hk' : (m.kind == 8) = true := by simp [hk]
    obtain ⟨N, hN⟩ : ∃ N, N = m.reps.length := ⟨_, rfl⟩
    rw [← hN] at c22 hlen ⊢
    have hee : ((N : Int) == 1) = (N == 1) := by
      by_cases h : N = 1
      · subst h; rfl
      · have : (N : Int) ≠ 1 := by omega
        rw [beq_eq_false_iff_ne.2 this, beq_eq_false_iff_ne.2 h]
    rw [hk', Bool.true_and, ← hee]
    clear hee hN hl hs hk
    go_enter Tryz.func89, Tryz.ntmps89
    go_upto_region 1 with fail
    rw [← hw1]
    clear hw1
    go_wp2_with fail
    go_ret
    exact ⟨rfl, B1⟩
  · have hk' : (m.kind == 8) = false := by simp [hk]
    rw [hk', Bool.false_and]
    clear hl hs hk
    go_enter Tryz.func89, Tryz.ntmps89
    go_upto_region 1 with fail
    rw [← hw1]
    clear hw1
    go_wp2_with fail
    go_ret
    exact ⟨rfl, B1⟩
set_option maxRecDepth 10000 in
set_option maxHeartbeats 1000000 in
theorem refOne_any (G : Nat → Prop) (w : World) (m : PMsg) (s : SV) (hs : SOk G w m s) : Calls Tryz.prog 97 #[.agg (mc m s).toArray] w fun e w' => e = .returned (.bool (oneM m)) ∧ Below w.heap.size w w' := by
  obtain ⟨w1, hw1, r1, B1⟩ := boxM w m s
  have c0 := r1.cell (j := 0) rfl
  have c22 := r1.cell (j := 22) rfl
  obtain ⟨al, cl, hl, hcl⟩ := hs.l.form
  rw [hl] at c22
  have hlen : (m.reps.length : Int) ≤ 9223372036854775807 := by
    rcases Nat.eq_zero_or_pos m.reps.length with h | h
    · omega
    · obtain ⟨_, _, cap, _, e, e1, _⟩ := hs.l.at h
      unfold maxLen at e1
      omega
  unfold oneM
  by_cases hk : m.kind = 8
  · have hk' : (m.kind == 8) = true := by simp [hk]
    obtain ⟨N, hN⟩ : ∃ N, N = m.reps.length := ⟨_, rfl⟩
    rw [← hN] at c22 hlen ⊢
    have hee : ((N : Int) == 1) = (N == 1) := by
      by_cases h : N = 1
      · subst h; rfl
      · have : (N : Int) ≠ 1 := by omega
        rw [beq_eq_false_iff_ne.2 this, beq_eq_false_iff_ne.2 h]
    rw [hk', Bool.true_and, ← hee]
    clear hee hN hl hs hk
    go_enter Tryz.func97, Tryz.ntmps97
    go_upto_region 1 with fail
    rw [← hw1]
    clear hw1
    go_wp2_with fail
    go_ret
    exact ⟨rfl, B1⟩
  · have hk' : (m.kind == 8) = false := by simp [hk]
    rw [hk', Bool.false_and]
    clear hl hs hk
    go_enter Tryz.func97, Tryz.ntmps97
    go_upto_region 1 with fail
    rw [← hw1]
    clear hw1
    go_wp2_with fail
    go_ret
    exact ⟨rfl, B1⟩
/-- The domain in which it is signed. -/
def domS (m : PMsg) : ByteArray := if oneM m = true then ⟨#[114, 101, 112, 111, 114, 116]⟩ else ⟨#[109, 101, 115, 115, 97, 103, 101]⟩
set_option maxRecDepth 10000 in
theorem sealDomain_any (G : Nat → Prop) (w : World) (m : PMsg) (s : SV) (hs : SOk G w m s) : Calls Tryz.prog 59 #[.agg (mc m s).toArray] w fun e w' => e = .returned (.string (domS m)) ∧ Below w.heap.size w w' := by
  obtain ⟨w1, hw1, r1, B1⟩ := boxM w m s
  have hC := isReport_any G w1 m s (hs.mv B1.size (Mv.belowG B1))
  unfold domS
  cases ho : oneM m with
  | true =>
    rw [ho] at hC
    clear ho
    go_enter Tryz.func59, Tryz.ntmps59
    go_upto_region 1 with fail
    rw [← hw1]
    clear hw1
    go_wp2_with (first
      | (refine wl_load rfl _ _ rfl w.heap.size rfl _ _ r1 _ Tryz.underlying72 rfl (by kernel_rfl) ?_)
      | (go_at_call 89; refine hC.mono ?_; rintro e w2 ⟨rfl, hb2⟩))
    go_ret
    exact ⟨rfl, below_and B1 (Nat.le_refl _) hb2⟩
  | false =>
    rw [ho] at hC
    clear ho
    go_enter Tryz.func59, Tryz.ntmps59
    go_upto_region 1 with fail
    rw [← hw1]
    clear hw1
    go_wp2_with (first
      | (refine wl_load rfl _ _ rfl w.heap.size rfl _ _ r1 _ Tryz.underlying72 rfl (by kernel_rfl) ?_)
      | (go_at_call 89; refine hC.mono ?_; rintro e w2 ⟨rfl, hb2⟩))
    go_ret
    exact ⟨rfl, below_and B1 (Nat.le_refl _) hb2⟩
set_option maxRecDepth 10000 in
theorem refDomain_any (G : Nat → Prop) (w : World) (m : PMsg) (s : SV) (hs : SOk G w m s) : Calls Tryz.prog 96 #[.agg (mc m s).toArray] w fun e w' => e = .returned (.string (domS m)) ∧ Below w.heap.size w w' := by
  obtain ⟨w1, hw1, r1, B1⟩ := boxM w m s
  have hC := refOne_any G w1 m s (hs.mv B1.size (Mv.belowG B1))
  unfold domS
  cases ho : oneM m with
  | true =>
    rw [ho] at hC
    clear ho
    go_enter Tryz.func96, Tryz.ntmps96
    go_upto_region 1 with fail
    rw [← hw1]
    clear hw1
    go_wp2_with (first
      | (refine wl_load rfl _ _ rfl w.heap.size rfl _ _ r1 _ Tryz.underlying72 rfl (by kernel_rfl) ?_)
      | (go_at_call 97; refine hC.mono ?_; rintro e w2 ⟨rfl, hb2⟩))
    go_ret
    exact ⟨rfl, below_and B1 (Nat.le_refl _) hb2⟩
  | false =>
    rw [ho] at hC
    clear ho
    go_enter Tryz.func96, Tryz.ntmps96
    go_upto_region 1 with fail
    rw [← hw1]
    clear hw1
    go_wp2_with (first
      | (refine wl_load rfl _ _ rfl w.heap.size rfl _ _ r1 _ Tryz.underlying72 rfl (by kernel_rfl) ?_)
      | (go_at_call 97; refine hC.mono ?_; rintro e w2 ⟨rfl, hb2⟩))
    go_ret
    exact ⟨rfl, below_and B1 (Nat.le_refl _) hb2⟩
set_option maxRecDepth 10000 in
set_option maxHeartbeats 1000000 in
theorem sigOf_any (G : Nat → Prop) (w : World) (m : PMsg) (s : SV) (hs : SOk G w m s) : Calls Tryz.prog 58 #[.agg (mc m s).toArray] w fun e w' => ∃ v, e = .returned v ∧ RT G w' v (sgM m) ∧ Below w.heap.size w w' := by
  obtain ⟨w1, hw1, r1, B1⟩ := boxM w m s
  have hs1 := hs.mv B1.size (Mv.belowG B1)
  have hC := isReport_any G w1 m s hs1
  cases ho : oneM m with
  | true =>
    obtain ⟨hk, r, hr⟩ := oneM_yes ho
    have e : sgM m = r.2.2.2.2.2.2 := by unfold sgM; rw [if_pos ho, hr]
    rw [ho] at hC
    obtain ⟨b, off, cap, hl, hc1, hc2, hG, hb, hx⟩ := hs1.l.at (by rw [hr]; simp)
    obtain ⟨rr, _, hrg, vd, vs, vp, vg, rfl, t1, t2, t3, t4⟩ := hx 0 r (by rw [hr]; rfl)
    have HQ := (show Hid (∀ u, Below w1.heap.size w1 u → Row u w.heap.size 72 (mc m s) ∧ u.cell? ⟨b, off + 7, none⟩ = some vg ∧ RT G u vg r.2.2.2.2.2.2) from fun u hu => ⟨r1.below hu, by
      have := rangeAt_block hrg (hu.block b hb) 7 vg rfl
      simpa using this, t4.mv (Mv.belowG hu)⟩)
    rw [e]
    rw [hr] at hl
    have hl' : s.l = .slice (some ⟨b, off, none⟩) 1 cap := hl
    have hcap : 1 ≤ cap := by rw [hr] at hc1; exact hc1
    clear ho hx hrg t1 t2 t3 t4 hl hc1 e
    go_enter Tryz.func58, Tryz.ntmps58
    go_upto_region 1 with fail
    rw [← hw1]
    clear hw1
    go_upto_region 2 with (first
      | (refine wl_load rfl _ _ rfl w.heap.size rfl _ _ r1 _ Tryz.underlying72 rfl (by kernel_rfl) ?_)
      | (go_at_call 89; refine hC.mono ?_; rintro e w2 ⟨rfl, hb2⟩))
    obtain ⟨r2, cg, tg⟩ := HQ.out w2 hb2
    have c22 := r2.cell (j := 22) rfl
    rw [hl'] at c22
    go_wp2_with fail
    go_ret
    exact ⟨_, rfl, tg, below_and B1 (Nat.le_refl _) hb2⟩
  | false =>
    have e : sgM m = m.sig := by unfold sgM; rw [if_neg (by simp [ho])]
    rw [ho] at hC
    rw [e]
    clear e ho
    go_enter Tryz.func58, Tryz.ntmps58
    go_upto_region 1 with fail
    rw [← hw1]
    clear hw1
    go_upto_region 3 with (first
      | (refine wl_load rfl _ _ rfl w.heap.size rfl _ _ r1 _ Tryz.underlying72 rfl (by kernel_rfl) ?_)
      | (go_at_call 89; refine hC.mono ?_; rintro e w2 ⟨rfl, hb2⟩))
    have c17 := (r1.below hb2).cell (j := 17) rfl
    have tg := hs1.s.mv (Mv.belowG hb2)
    go_wp2_with fail
    go_ret
    exact ⟨_, rfl, tg, below_and B1 (Nat.le_refl _) hb2⟩
end
section
open Go.RowKit Oct
/-- Blocks that were there and of which G holds, or new ones. -/
def GN (G : Nat → Prop) (w : World) : Nat → Prop := fun k => (G k ∧ k < w.heap.size) ∨ w.heap.size ≤ k
theorem RL.single {α : Type} {R : (Nat → Prop) → World → List Value → α → Prop} {k b : Nat} {G : Nat → Prop} {u : World} {t : TypeId} {r : List Value} {a : α} (h : Row u b t r) (hr : R G u r a) (hG : G b) (hl : r.length = k) : RL R k G u (.slice (some ⟨b, 0, none⟩) 1 1) [a] := by
  refine ⟨[r], ⟨fun x hx => by simp at hx; subst hx; exact hl, .inr ⟨b, 0, 1, rfl, Nat.le_refl _, by unfold maxLen; decide, by simp, hG, h.lt, fun i x hx => ?_⟩⟩, hr, trivial⟩
  cases i with
  | zero =>
    simp at hx
    subst hx
    intro j v hj
    have := h.cell hj
    simpa using this
  | succ i => simp at hx
theorem Mv.toN {G : Nat → Prop} {w u : World} (h : Below w.heap.size w u) : Mv G (GN G w) w u := fun k hk hlt => ⟨h.block k hlt, .inl ⟨hk, hlt⟩⟩
set_option maxRecDepth 10000 in
set_option maxHeartbeats 4000000 in
theorem withSig_any (G : Nat → Prop) (w : World) (m : PMsg) (s : SV) (v : Value) (g : List Int) (hs : SOk G w m s) (hv : RT G w v g) :
    Calls Tryz.prog 85 #[.agg (mc m s).toArray, v] w fun e w' => ∃ s', e = .returned (.agg (mc (wsM m g) s').toArray) ∧ SOk (GN G w) w' (wsM m g) s' ∧ Below w.heap.size w w' := by
  obtain ⟨w2, hw2⟩ : ∃ w2, w2 = (w.alloc (.cells (mc m s).toArray 72)).alloc (.cells #[.int .i64 0, .int .i64 0, .int .i64 0, .int .i64 0, .int .i64 0, .int .i64 0, .int .i64 0, .int .i64 0, .int .i64 0, .int .i64 0, .slice none 0 0, .slice none 0 0, .int .i64 0, .int .i64 0, .slice none 0 0, .slice none 0 0, .slice none 0 0, .slice none 0 0, .slice none 0 0, .slice none 0 0, .slice none 0 0, .slice none 0 0, .slice none 0 0] 72) := ⟨_, rfl⟩
  have ra : Row w2 w.heap.size 72 (mc m s) := by rw [hw2]; exact rowA (Row.new w _ _) _
  have rr : Row w2 (w.heap.size + 1) 72 (mc zeroM sv0) := by
    have h1 : (w.alloc (.cells (mc m s).toArray 72)).heap.size = w.heap.size + 1 := by simp
    rw [hw2, ← h1]
    exact Row.new (w.alloc (.cells (mc m s).toArray 72)) 72 (mc zeroM sv0)
  have B2 : Below w.heap.size w w2 := by rw [hw2]; exact ((Below.refl _ w).alloc (Nat.le_refl _) _).alloc (by simp) _
  have hz2 : w.heap.size + 2 ≤ w2.heap.size := by rw [hw2]; simp
  have hs2 := hs.mv B2.size (Mv.belowG B2)
  have hC := isReport_any G w2 m s hs2
  have hv1 := hv.one
  have HS := (show Hid (SOk G w m s) from hs)
  have HV := (show Hid (RT G w v g) from hv)
  clear hs hv
  cases ho : oneM m with
  | false =>
    have e : wsM m g = { m with sig := g } := by unfold wsM; rw [if_neg (by simp [ho])]
    rw [ho] at hC
    rw [e]
    have hone : ∀ x ∈ mc m { s with s := v }, x.oneCell' = true := by
      have := (SOk.one (G := G) (w := w) (m := { m with sig := g }) (s := { s with s := v }) ⟨HS.out.o, HS.out.g, HS.out.o', HS.out.g', HS.out.d, HV.out, HS.out.c, HS.out.v, HS.out.n, HS.out.p, HS.out.l⟩)
      exact this
    clear ho e hs2
    go_enter Tryz.func85, Tryz.ntmps85
    go_upto_region 1 with fail
    rw [← hw2]
    clear hw2
    go_wp2_with (first
      | (refine wl_store rfl _ _ _ rfl (w.heap.size + 1) (mc m { s with s := v }) rfl rfl _ _ rr4 rfl (by kernel_rfl) hone ?_; intro w5 rr5 hg5)
      | (refine wl_load rfl _ _ rfl w.heap.size rfl _ _ ra4' _ Tryz.underlying72 rfl (by kernel_rfl) ?_)
      | (refine wl_set rfl _ _ _ rfl w.heap.size 17 _ rfl rfl _ _ ra3 (show 17 < 23 by decide) (by kernel_rfl) hv1 ?_; intro w4 ra4 hg4; have ra4' : Row w4 w.heap.size 72 (mc m { s with s := v }) := ra4.out; have rr4 := rr3.grown hg4 (fun h => by injection h; omega))
      | (go_at_call 89; refine hC.mono ?_; rintro e w3 ⟨rfl, hb3⟩; have ra3 := ra.below hb3; have rr3 := rr.below hb3)
      | (refine wl_load rfl _ _ rfl w.heap.size rfl _ _ ra _ Tryz.underlying72 rfl (by kernel_rfl) ?_))
    have B3 := below_and B2 (Nat.le_refl _) hb3
    have B4 := B3.trans (grown_below hg4 B3.size (fun k hk => by cases hk; exact Nat.le_refl _))
    have B5 := B4.trans (grown_below hg5 B4.size (fun k hk => by cases hk; omega))
    refine bodyPost_ret (v := .agg (mc m { s with s := v }).toArray) (results_cell_row rfl _ _ (w.heap.size + 1) _ _ (0, 0) _ (by rfl) rr5.out Tryz.underlying72 rfl (by kernel_rfl)) rfl ?_
    have base := HS.out.mv B5.size (Mv.toN B5)
    exact ⟨{ s with s := v }, rfl, ⟨base.o, base.g, base.o', base.g', base.d, HV.out.mv (Mv.toN B5), base.c, base.v, base.n, base.p, base.l⟩, B5⟩
  | true =>
    obtain ⟨hk, r, hr⟩ := oneM_yes ho
    have e : wsM m g = { m with reps := [repSig r g] } := by unfold wsM; rw [if_pos ho, hr]; rfl
    rw [ho] at hC
    rw [e]
    obtain ⟨b, off, cap, hl, hc1, hc2, hG, hb, hx⟩ := hs2.l.at (by rw [hr]; simp)
    obtain ⟨rr0, _, hrg, vd, vs, vp, vg, rfl, t1, t2, t3, t4⟩ := hx 0 r (by rw [hr]; rfl)
    have k1 := t1.one; have k2 := t2.one; have k3 := t3.one; have k4 := t4.one
    have HRG := (show Hid (∀ u, Below w2.heap.size w2 u → u.rangeAt b off [.int .i64 r.1.1, .int .i64 r.1.2, .int .i64 r.2.1, .int .i64 r.2.2.1, vd, vs, vp, vg]) from fun u hu => by
      have := rangeAt_block hrg (hu.block b hb)
      simpa using this)
    have HOLD := (show Hid (∃ vd0, RRep G w [.int .i64 r.1.1, .int .i64 r.1.2, .int .i64 r.2.1, .int .i64 r.2.2.1, vd, vs, vp, vd0] r) by
      obtain ⟨b', off', cap', hl', _, _, _, hb', hx'⟩ := HS.out.l.at (by rw [hr]; simp)
      obtain ⟨rr1, _, hrg', vd', vs', vp', vg', rfl, u1, u2, u3, u4⟩ := hx' 0 r (by rw [hr]; rfl)
      rw [hl] at hl'
      injection hl' with e1 _ _
      injection e1 with e1
      injection e1 with e1 e2 _
      subst e1 e2
      have hq := rangeAt_block hrg' (B2.block b hb')
      have f4 := (hq 4 vd' rfl).symm.trans (hrg 4 vd rfl)
      have f5 := (hq 5 vs' rfl).symm.trans (hrg 5 vs rfl)
      have f6 := (hq 6 vp' rfl).symm.trans (hrg 6 vp rfl)
      injection f4 with f4; injection f5 with f5; injection f6 with f6
      subst f4 f5 f6
      exact ⟨vg', _, _, _, _, rfl, u1, u2, u3, u4⟩)
    have hl' : s.l = .slice (some ⟨b, off, none⟩) 1 cap := by rw [hr] at hl; exact hl
    have hcap : 1 ≤ cap := by rw [hr] at hc1; exact hc1
    have one8 : ∀ z : Value, z.oneCell' = true → ∀ x ∈ [Value.int .i64 r.1.1, .int .i64 r.1.2, .int .i64 r.2.1, .int .i64 r.2.2.1, vd, vs, vp, z], x.oneCell' = true := by
      intro z hz x hx
      simp only [List.mem_cons, List.not_mem_nil, or_false] at hx
      rcases hx with rfl | rfl | rfl | rfl | rfl | rfl | rfl | rfl <;> first | rfl | assumption
    have hA := one8 vg k4
    have HONE := (show Hid (∀ z : Value, z.oneCell' = true → ∀ x ∈ mc m { s with l := z }, x.oneCell' = true) from fun z hz x hx => by
      have h2 : x = z ∨ x ∈ mc m s := by
        simp only [mc, List.mem_cons, List.not_mem_nil, or_false] at hx ⊢
        grind
      rcases h2 with rfl | h2
      · exact hz
      · exact HS.out.one x h2)
    clear ho hx hrg t1 t2 t3 t4 hl hc1 e hs2 k1 k2 k3 k4 one8
    go_enter Tryz.func85, Tryz.ntmps85
    go_upto_region 1 with fail
    rw [← hw2]
    clear hw2
    go_upto_region 4 with (first
      | (go_at_call 89; refine hC.mono ?_; rintro e w3 ⟨rfl, hb3⟩)
      | (refine wl_load rfl _ _ rfl w.heap.size rfl _ _ ra _ Tryz.underlying72 rfl (by kernel_rfl) ?_))
    have ra3 := ra.below hb3
    have rr3 := rr.below hb3
    have c22 := ra3.cell (j := 22) rfl
    rw [hl'] at c22
    have hrng := HRG.out w3 hb3
    have n3 := Row.new w3 28 [.int .i64 0, .int .i64 0, .int .i64 0, .int .i64 0, .slice none 0 0, .slice none 0 0, .slice none 0 0, .slice none 0 0]
    have B3 := below_and B2 (Nat.le_refl _) hb3
    have hz3 := Nat.le_trans hz2 hb3.size
    go_upto_region 5 with (first
      | (refine wpList_load_mid rfl _ _ rfl b off rfl [.int .i64 r.1.1, .int .i64 r.1.2, .int .i64 r.2.1, .int .i64 r.2.2.1, vd, vs, vp, vg] _ hrng Tryz.underlying28 rfl (by kernel_rfl) ?_)
      | (refine wl_store rfl _ _ _ rfl w3.heap.size [.int .i64 r.1.1, .int .i64 r.1.2, .int .i64 r.2.1, .int .i64 r.2.2.1, vd, vs, vp, vg] rfl rfl _ _ n3 rfl (by kernel_rfl) hA ?_; intro w4 hr4 hg4))
    have q4 : Below w3.heap.size w3 w4 := (below_alloc w3 (.cells ([.int .i64 0, .int .i64 0, .int .i64 0, .int .i64 0, .slice none 0 0, .slice none 0 0, .slice none 0 0, .slice none 0 0] : List Value).toArray 28)).trans (grown_below hg4 (by simp) (fun k hk => by cases hk; exact Nat.le_refl _))
    have ra4 := ra3.below q4
    have rr4 := rr3.below q4
    have hr4 := hr4.out
    have B4 := below_and B3 (Nat.le_refl _) q4
    obtain ⟨bp, hbp⟩ : ∃ bp, bp = w3.heap.size := ⟨_, rfl⟩
    have hbp2 : w.heap.size + 2 ≤ bp := by omega
    rw [← hbp] at hr4 ⊢
    clear hbp hg4 n3 hrng q4 hC ra3 rr3 c22 ra rr hb3
    go_upto_region 6 with (refine wl_set rfl _ _ _ rfl bp 7 _ rfl rfl _ _ hr4 (show 7 < 8 by decide) (by kernel_rfl) hv1 ?_; intro w5 hr5 hg5)
    have hr5 : Row w5 bp 28 [.int .i64 r.1.1, .int .i64 r.1.2, .int .i64 r.2.1, .int .i64 r.2.2.1, vd, vs, vp, v] := hr5.out
    have ra5 := ra4.grown hg5 (fun h => by injection h; omega)
    have rr5 := rr4.grown hg5 (fun h => by injection h; omega)
    have B5 := B4.trans (grown_below hg5 B4.size (fun k hk => by cases hk; omega))
    have ra6 := rowA ra5 (.cells ([.int .i64 r.1.1, .int .i64 r.1.2, .int .i64 r.2.1, .int .i64 r.2.2.1, vd, vs, vp, v] : List Value).toArray 28)
    have rr6 := rowA rr5 (.cells ([.int .i64 r.1.1, .int .i64 r.1.2, .int .i64 r.2.1, .int .i64 r.2.2.1, vd, vs, vp, v] : List Value).toArray 28)
    have rn6 := Row.new w5 28 [.int .i64 r.1.1, .int .i64 r.1.2, .int .i64 r.2.1, .int .i64 r.2.2.1, vd, vs, vp, v]
    have hz5 : w.heap.size + 2 ≤ w5.heap.size := Nat.le_trans hbp2 (Nat.le_of_lt hr5.lt)
    have hon := HONE.out (.slice (some ⟨w5.heap.size, 0, none⟩) 1 1) rfl
    have B6 := B5.alloc B5.size (.cells ([.int .i64 r.1.1, .int .i64 r.1.2, .int .i64 r.2.1, .int .i64 r.2.2.1, vd, vs, vp, v] : List Value).toArray 28)
    clear ra4 rr4 hr4 B4 hg5 B5
    go_wp2_with (first
      | (refine wl_store rfl _ _ _ rfl (w.heap.size + 1) (mc m { s with l := .slice (some ⟨w5.heap.size, 0, none⟩) 1 1 }) rfl rfl _ _ rr7 rfl (by kernel_rfl) hon ?_; intro w8 rr8 hg8)
      | (refine wl_load rfl _ _ rfl w.heap.size rfl _ _ ra7' _ Tryz.underlying72 rfl (by kernel_rfl) ?_)
      | (refine wl_set rfl _ _ _ rfl w.heap.size 22 _ rfl rfl _ _ ra6 (show 22 < 23 by decide) (by kernel_rfl) rfl ?_; intro w7 ra7 hg7; have ra7' : Row w7 w.heap.size 72 (mc m { s with l := .slice (some ⟨w5.heap.size, 0, none⟩) 1 1 }) := ra7.out; have rr7 := rr6.grown hg7 (fun h => by injection h; omega))
      | (refine wl_load rfl _ _ rfl bp rfl _ _ hr5 _ Tryz.underlying28 rfl (by kernel_rfl) ?_))
    have B7 := B6.trans (grown_below hg7 B6.size (fun k hk => by cases hk; exact Nat.le_refl _))
    have B8 := B7.trans (grown_below hg8 B7.size (fun k hk => by cases hk; omega))
    have rn8 := (rn6.grown hg7 (fun h => by injection h; omega)).grown hg8 (fun h => by injection h; omega)
    refine bodyPost_ret (v := .agg (mc m { s with l := .slice (some ⟨w5.heap.size, 0, none⟩) 1 1 }).toArray) (results_cell_row rfl _ _ (w.heap.size + 1) _ _ (0, 0) _ (by rfl) rr8.out Tryz.underlying72 rfl (by kernel_rfl)) rfl ?_
    have base := HS.out.mv B8.size (Mv.toN B8)
    obtain ⟨vd0, hold⟩ := HOLD.out
    have hold8 := mov_rep _ _ _ _ _ _ hold B8.size (Mv.toN (G := G) B8)
    obtain ⟨x1, x2, x3, x4, hxe, u1, u2, u3, u4⟩ := hold8
    simp only [List.cons.injEq, and_true, true_and] at hxe
    obtain ⟨rfl, rfl, rfl, rfl⟩ := hxe
    have hnew : RRep (GN G w) w8 [.int .i64 r.1.1, .int .i64 r.1.2, .int .i64 r.2.1, .int .i64 r.2.2.1, vd, vs, vp, v] (repSig r g) := ⟨_, _, _, _, rfl, u1, u2, u3, HV.out.mv (Mv.toN B8)⟩
    exact ⟨{ s with l := .slice (some ⟨w5.heap.size, 0, none⟩) 1 1 }, rfl, ⟨base.o, base.g, base.o', base.g', base.d, base.s, base.c, base.v, base.n, base.p, RL.single rn8 hnew (.inr (by omega)) rfl⟩, B8⟩
end
end Go.Proofs.YtgbfmccecnfooaaGreatDoor
