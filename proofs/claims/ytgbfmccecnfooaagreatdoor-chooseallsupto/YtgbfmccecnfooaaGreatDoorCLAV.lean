/- catenaryref02: word, schedule, K. -/
import Derived.Test.YtgbfmccecnfooaaGreatDoorCLAO
import Derived.Test.YtgbfmccecnfooaaGreatDoorCLAG
set_option linter.unusedSimpArgs false
set_option linter.unusedVariables false
namespace Go.Proofs.YtgbfmccecnfooaaGreatDoor
section
open Go.RowKit Oct
/-- Blocks that were there and of which G holds, or new ones. -/
def GN (G : Nat → Prop) (w : World) : Nat → Prop := fun k => (G k ∧ k < w.heap.size) ∨ w.heap.size ≤ k
theorem RL.single {α : Type} {R : (Nat → Prop) → World → List Value → α → Prop} {k b : Nat} {G : Nat → Prop} {u : World} {t : TypeId} {r : List Value} {a : α} (h : Row u b t r) (hr : R G u r a) (hG : G b) (hl : r.length = k) : RL R k G u (.slice (some ⟨b, 0, none⟩) 1 1) [a] := by
  refine ⟨[r], ⟨fun x hx => by simp at hx; subst hx; exact hl, .inr ⟨b, 0, 1, rfl, Nat.le_refl _, by unfold maxLen; decide, by simp, hG, h.lt, fun i x hx => ?_⟩⟩, hr, trivial⟩
  cases i with
  | zero =>
    simp at hx
    subst hx
    intro j v hj
    have := h.cell hj
    simpa using this
  | succ i => simp at hx
theorem Mv.toN {G : Nat → Prop} {w u : World} (h : Below w.heap.size w u) : Mv G (GN G w) w u := fun k hk hlt => ⟨h.block k hlt, .inl ⟨hk, hlt⟩⟩
set_option maxRecDepth 10000 in
set_option maxHeartbeats 4000000 in
theorem withSig_any (G : Nat → Prop) (w : World) (m : PMsg) (s : SV) (v : Value) (g : List Int) (hs : SOk G w m s) (hv : RT G w v g) :
    Calls Tryz.prog 85 #[.agg (mc m s).toArray, v] w fun e w' => ∃ s', e = .returned (.agg (mc (wsM m g) s').toArray) ∧ SOk (GN G w) w' (wsM m g) s' ∧ Below w.heap.size w w' := by
  obtain ⟨w2, hw2⟩ : ∃ w2, w2 = (w.alloc (.cells (mc m s).toArray 72)).alloc (.cells #[.int .i64 0, .int .i64 0, .int .i64 0, .int .i64 0, .int .i64 0, .int .i64 0, .int .i64 0, .int .i64 0, .int .i64 0, .int .i64 0, .slice none 0 0, .slice none 0 0, .int .i64 0, .int .i64 0, .slice none 0 0, .slice none 0 0, .slice none 0 0, .slice none 0 0, .slice none 0 0, .slice none 0 0, .slice none 0 0, .slice none 0 0, .slice none 0 0] 72) := ⟨_, rfl⟩
  have ra : Row w2 w.heap.size 72 (mc m s) := by rw [hw2]; exact rowA (Row.new w _ _) _
  have rr : Row w2 (w.heap.size + 1) 72 (mc zeroM sv0) := by
    have h1 : (w.alloc (.cells (mc m s).toArray 72)).heap.size = w.heap.size + 1 := by simp
    rw [hw2, ← h1]
    exact Row.new (w.alloc (.cells (mc m s).toArray 72)) 72 (mc zeroM sv0)
  have B2 : Below w.heap.size w w2 := by rw [hw2]; exact ((Below.refl _ w).alloc (Nat.le_refl _) _).alloc (by simp) _
  have hz2 : w.heap.size + 2 ≤ w2.heap.size := by rw [hw2]; simp
  have hs2 := hs.mv B2.size (Mv.belowG B2)
  have hC := isReport_any G w2 m s hs2
  have hv1 := hv.one
  have HS := (show Hid (SOk G w m s) from hs)
  have HV := (show Hid (RT G w v g) from hv)
  clear hs hv
  cases ho : oneM m with
  | false =>
    have e : wsM m g = { m with sig := g } := by unfold wsM; rw [if_neg (by simp [ho])]
    rw [ho] at hC
    rw [e]
    have hone : ∀ x ∈ mc m { s with s := v }, x.oneCell' = true := by
      have := (SOk.one (G := G) (w := w) (m := { m with sig := g }) (s := { s with s := v }) ⟨HS.out.o, HS.out.g, HS.out.o', HS.out.g', HS.out.d, HV.out, HS.out.c, HS.out.v, HS.out.n, HS.out.p, HS.out.l⟩)
      exact this
    clear ho e hs2
    go_enter Tryz.func85, Tryz.ntmps85
    go_upto_region 1 with fail
    rw [← hw2]
    clear hw2
    go_wp2_with (first
      | (refine wl_store rfl _ _ _ rfl (w.heap.size + 1) (mc m { s with s := v }) rfl rfl _ _ rr4 rfl (by kernel_rfl) hone ?_; intro w5 rr5 hg5)
      | (refine wl_load rfl _ _ rfl w.heap.size rfl _ _ ra4' _ Tryz.underlying72 rfl (by kernel_rfl) ?_)
      | (refine wl_set rfl _ _ _ rfl w.heap.size 17 _ rfl rfl _ _ ra3 (show 17 < 23 by decide) (by kernel_rfl) hv1 ?_; intro w4 ra4 hg4; have ra4' : Row w4 w.heap.size 72 (mc m { s with s := v }) := ra4.out; have rr4 := rr3.grown hg4 (fun h => by injection h; omega))
      | (go_at_call 89; refine hC.mono ?_; rintro e w3 ⟨rfl, hb3⟩; have ra3 := ra.below hb3; have rr3 := rr.below hb3)
      | (refine wl_load rfl _ _ rfl w.heap.size rfl _ _ ra _ Tryz.underlying72 rfl (by kernel_rfl) ?_))
    have B3 := below_and B2 (Nat.le_refl _) hb3
    have B4 := B3.trans (grown_below hg4 B3.size (fun k hk => by cases hk; exact Nat.le_refl _))
    have B5 := B4.trans (grown_below hg5 B4.size (fun k hk => by cases hk; omega))
    refine bodyPost_ret (v := .agg (mc m { s with s := v }).toArray) (results_cell_row rfl _ _ (w.heap.size + 1) _ _ (0, 0) _ (by rfl) rr5.out Tryz.underlying72 rfl (by kernel_rfl)) rfl ?_
    have base := HS.out.mv B5.size (Mv.toN B5)
    exact ⟨{ s with s := v }, rfl, ⟨base.o, base.g, base.o', base.g', base.d, HV.out.mv (Mv.toN B5), base.c, base.v, base.n, base.p, base.l⟩, B5⟩
  | true =>
    obtain ⟨hk, r, hr⟩ := oneM_yes ho
    have e : wsM m g = { m with reps := [repSig r g] } := by unfold wsM; rw [if_pos ho, hr]; rfl
    rw [ho] at hC
    rw [e]
    obtain ⟨b, off, cap, hl, hc1, hc2, hG, hb, hx⟩ := hs2.l.at (by rw [hr]; simp)
    obtain ⟨rr0, _, hrg, vd, vs, vp, vg, rfl, t1, t2, t3, t4⟩ := hx 0 r (by rw [hr]; rfl)
    have k1 := t1.one; have k2 := t2.one; have k3 := t3.one; have k4 := t4.one
    have HRG := (show Hid (∀ u, Below w2.heap.size w2 u → u.rangeAt b off [.int .i64 r.1.1, .int .i64 r.1.2, .int .i64 r.2.1, .int .i64 r.2.2.1, vd, vs, vp, vg]) from fun u hu => by
      have := rangeAt_block hrg (hu.block b hb)
      simpa using this)
    have HOLD := (show Hid (∃ vd0, RRep G w [.int .i64 r.1.1, .int .i64 r.1.2, .int .i64 r.2.1, .int .i64 r.2.2.1, vd, vs, vp, vd0] r) by
      obtain ⟨b', off', cap', hl', _, _, _, hb', hx'⟩ := HS.out.l.at (by rw [hr]; simp)
      obtain ⟨rr1, _, hrg', vd', vs', vp', vg', rfl, u1, u2, u3, u4⟩ := hx' 0 r (by rw [hr]; rfl)
      rw [hl] at hl'
      injection hl' with e1 _ _
      injection e1 with e1
      injection e1 with e1 e2 _
      subst e1 e2
      have hq := rangeAt_block hrg' (B2.block b hb')
      have f4 := (hq 4 vd' rfl).symm.trans (hrg 4 vd rfl)
      have f5 := (hq 5 vs' rfl).symm.trans (hrg 5 vs rfl)
      have f6 := (hq 6 vp' rfl).symm.trans (hrg 6 vp rfl)
      injection f4 with f4; injection f5 with f5; injection f6 with f6
      subst f4 f5 f6
      exact ⟨vg', _, _, _, _, rfl, u1, u2, u3, u4⟩)
    have hl' : s.l = .slice (some ⟨b, off, none⟩) 1 cap := by rw [hr] at hl; exact hl
    have hcap : 1 ≤ cap := by rw [hr] at hc1; exact hc1
    have one8 : ∀ z : Value, z.oneCell' = true → ∀ x ∈ [Value.int .i64 r.1.1, .int .i64 r.1.2, .int .i64 r.2.1, .int .i64 r.2.2.1, vd, vs, vp, z], x.oneCell' = true := by
      intro z hz x hx
      simp only [List.mem_cons, List.not_mem_nil, or_false] at hx
      rcases hx with rfl | rfl | rfl | rfl | rfl | rfl | rfl | rfl <;> first | rfl | assumption
    have hA := one8 vg k4
    have HONE := (show Hid (∀ z : Value, z.oneCell' = true → ∀ x ∈ mc m { s with l := z }, x.oneCell' = true) from fun z hz x hx => by
      have h2 : x = z ∨ x ∈ mc m s := by
        simp only [mc, List.mem_cons, List.not_mem_nil, or_false] at hx ⊢
        grind
      rcases h2 with rfl | h2
      · exact hz
      · exact HS.out.one x h2)
    clear ho hx hrg t1 t2 t3 t4 hl hc1 e hs2 k1 k2 k3 k4 one8
    go_enter Tryz.func85, Tryz.ntmps85
    go_upto_region 1 with fail
    rw [← hw2]
    clear hw2
    go_upto_region 4 with (first
      | (go_at_call 89; refine hC.mono ?_; rintro e w3 ⟨rfl, hb3⟩)
      | (refine wl_load rfl _ _ rfl w.heap.size rfl _ _ ra _ Tryz.underlying72 rfl (by kernel_rfl) ?_))
    have ra3 := ra.below hb3
    have rr3 := rr.below hb3
    have c22 := ra3.cell (j := 22) rfl
    rw [hl'] at c22
    have hrng := HRG.out w3 hb3
    have n3 := Row.new w3 28 [.int .i64 0, .int .i64 0, .int .i64 0, .int .i64 0, .slice none 0 0, .slice none 0 0, .slice none 0 0, .slice none 0 0]
    have B3 := below_and B2 (Nat.le_refl _) hb3
    have hz3 := Nat.le_trans hz2 hb3.size
    go_upto_region 5 with (first
      | (refine wpList_load_mid rfl _ _ rfl b off rfl [.int .i64 r.1.1, .int .i64 r.1.2, .int .i64 r.2.1, .int .i64 r.2.2.1, vd, vs, vp, vg] _ hrng Tryz.underlying28 rfl (by kernel_rfl) ?_)
      | (refine wl_store rfl _ _ _ rfl w3.heap.size [.int .i64 r.1.1, .int .i64 r.1.2, .int .i64 r.2.1, .int .i64 r.2.2.1, vd, vs, vp, vg] rfl rfl _ _ n3 rfl (by kernel_rfl) hA ?_; intro w4 hr4 hg4))
    have q4 : Below w3.heap.size w3 w4 := (below_alloc w3 (.cells ([.int .i64 0, .int .i64 0, .int .i64 0, .int .i64 0, .slice none 0 0, .slice none 0 0, .slice none 0 0, .slice none 0 0] : List Value).toArray 28)).trans (grown_below hg4 (by simp) (fun k hk => by cases hk; exact Nat.le_refl _))
    have ra4 := ra3.below q4
    have rr4 := rr3.below q4
    have hr4 := hr4.out
    have B4 := below_and B3 (Nat.le_refl _) q4
    obtain ⟨bp, hbp⟩ : ∃ bp, bp = w3.heap.size := ⟨_, rfl⟩
    have hbp2 : w.heap.size + 2 ≤ bp := by omega
    rw [← hbp] at hr4 ⊢
    clear hbp hg4 n3 hrng q4 hC ra3 rr3 c22 ra rr hb3
    go_upto_region 6 with (refine wl_set rfl _ _ _ rfl bp 7 _ rfl rfl _ _ hr4 (show 7 < 8 by decide) (by kernel_rfl) hv1 ?_; intro w5 hr5 hg5)
    have hr5 : Row w5 bp 28 [.int .i64 r.1.1, .int .i64 r.1.2, .int .i64 r.2.1, .int .i64 r.2.2.1, vd, vs, vp, v] := hr5.out
    have ra5 := ra4.grown hg5 (fun h => by injection h; omega)
    have rr5 := rr4.grown hg5 (fun h => by injection h; omega)
    have B5 := B4.trans (grown_below hg5 B4.size (fun k hk => by cases hk; omega))
    have ra6 := rowA ra5 (.cells ([.int .i64 r.1.1, .int .i64 r.1.2, .int .i64 r.2.1, .int .i64 r.2.2.1, vd, vs, vp, v] : List Value).toArray 28)
    have rr6 := rowA rr5 (.cells ([.int .i64 r.1.1, .int .i64 r.1.2, .int .i64 r.2.1, .int .i64 r.2.2.1, vd, vs, vp, v] : List Value).toArray 28)
    have rn6 := Row.new w5 28 [.int .i64 r.1.1, .int .i64 r.1.2, .int .i64 r.2.1, .int .i64 r.2.2.1, vd, vs, vp, v]
    have hz5 : w.heap.size + 2 ≤ w5.heap.size := Nat.le_trans hbp2 (Nat.le_of_lt hr5.lt)
    have hon := HONE.out (.slice (some ⟨w5.heap.size, 0, none⟩) 1 1) rfl
    have B6 := B5.alloc B5.size (.cells ([.int .i64 r.1.1, .int .i64 r.1.2, .int .i64 r.2.1, .int .i64 r.2.2.1, vd, vs, vp, v] : List Value).toArray 28)
    clear ra4 rr4 hr4 B4 hg5 B5
    go_wp2_with (first
      | (refine wl_store rfl _ _ _ rfl (w.heap.size + 1) (mc m { s with l := .slice (some ⟨w5.heap.size, 0, none⟩) 1 1 }) rfl rfl _ _ rr7 rfl (by kernel_rfl) hon ?_; intro w8 rr8 hg8)
      | (refine wl_load rfl _ _ rfl w.heap.size rfl _ _ ra7' _ Tryz.underlying72 rfl (by kernel_rfl) ?_)
      | (refine wl_set rfl _ _ _ rfl w.heap.size 22 _ rfl rfl _ _ ra6 (show 22 < 23 by decide) (by kernel_rfl) rfl ?_; intro w7 ra7 hg7; have ra7' : Row w7 w.heap.size 72 (mc m { s with l := .slice (some ⟨w5.heap.size, 0, none⟩) 1 1 }) := ra7.out; have rr7 := rr6.grown hg7 (fun h => by injection h; omega))
      | (refine wl_load rfl _ _ rfl bp rfl _ _ hr5 _ Tryz.underlying28 rfl (by kernel_rfl) ?_))
    have B7 := B6.trans (grown_below hg7 B6.size (fun k hk => by cases hk; exact Nat.le_refl _))
    have B8 := B7.trans (grown_below hg8 B7.size (fun k hk => by cases hk; omega))
    have rn8 := (rn6.grown hg7 (fun h => by injection h; omega)).grown hg8 (fun h => by injection h; omega)
    refine bodyPost_ret (v := .agg (mc m { s with l := .slice (some ⟨w5.heap.size, 0, none⟩) 1 1 }).toArray) (results_cell_row rfl _ _ (w.heap.size + 1) _ _ (0, 0) _ (by rfl) rr8.out Tryz.underlying72 rfl (by kernel_rfl)) rfl ?_
    have base := HS.out.mv B8.size (Mv.toN B8)
    obtain ⟨vd0, hold⟩ := HOLD.out
    have hold8 := mov_rep _ _ _ _ _ _ hold B8.size (Mv.toN (G := G) B8)
    obtain ⟨x1, x2, x3, x4, hxe, u1, u2, u3, u4⟩ := hold8
    simp only [List.cons.injEq, and_true, true_and] at hxe
    obtain ⟨rfl, rfl, rfl, rfl⟩ := hxe
    have hnew : RRep (GN G w) w8 [.int .i64 r.1.1, .int .i64 r.1.2, .int .i64 r.2.1, .int .i64 r.2.2.1, vd, vs, vp, v] (repSig r g) := ⟨_, _, _, _, rfl, u1, u2, u3, HV.out.mv (Mv.toN B8)⟩
    exact ⟨{ s with l := .slice (some ⟨w5.heap.size, 0, none⟩) 1 1 }, rfl, ⟨base.o, base.g, base.o', base.g', base.d, base.s, base.c, base.v, base.n, base.p, RL.single rn8 hnew (.inr (by omega)) rfl⟩, B8⟩
end
section
open Go.RowKit Oct Sha
theorem turn_all (w : World) (x : BitVec 32) (z : Int) (hz : decide (1 ≤ z) && decide (z ≤ 31) = true) : Calls Tryz.prog 183 #[.int .u32 (wi x), .int .i64 z] w fun e w' => e = .returned (.int .u32 (wi (rotr x z.toNat))) ∧ w' = w := by
  have hz' : 1 ≤ z ∧ z ≤ 31 := by simpa using hz
  have := turn_any w x z.toNat (by omega) (by omega)
  rwa [Int.toNat_of_nonneg (by omega)] at this
theorem run_cut_at (pb off len cap n : Nat) (hn : n ≤ len) (hlt : n < cap) (u : World) : (Instr.slice 24 (.slice (some ⟨pb, off, none⟩) len cap) (some (.int .i64 (n : Int))) none none).run Tryz.prog u = .ok (.slice (some ⟨pb, off + n, none⟩) (len - n) (cap - n)) u := by
  have ht : Tryz.prog.underlying 24 = some (.slice (Tryz.prog.elem 24)) := by kernel_rfl
  have hs : (sizeOf (Tryz.prog.elem 24)).run Tryz.prog u = .ok 1 u := by
    rw [show Tryz.prog.elem 24 = 5 by kernel_rfl]
    obtain ⟨i0, hi, hz0, hz1, hz2⟩ := info_parts Tryz.info5
    simp [sizeOf, typeInfo, hi, hz1]
  rw [run_slice_l u 24 (some ⟨pb, off, none⟩) len cap ht .i64 n (by omega) (by omega), hs]
  simp only [Result.andThen, sliced, Int.toNat_natCast, Nat.mul_one, Option.map_some, Addr.add_mid]
  rw [if_neg (by omega)]
theorem k_any (w : World) : Calls Tryz.prog 182 #[] w fun e w' => e = .returned (.agg (kk.map wv).toArray) ∧ Below w.heap.size w w' := by
  go_enter Tryz.func182, Tryz.ntmps182
  go_wp2_with (first
    | (refine wpList_buildTo (by rfl) 205 _ (by rfl) _ (by rfl) (kk.map wv).toArray (by kernel_rfl) ?_)
    | (refine wl_store (by rfl) 205 _ _ (by rfl) w.heap.size (kk.map wv) (by rfl) (by rfl) 205 (wz 64) (heap_alloc_new w _) (by rfl) (by kernel_rfl) (wv_one _) ?_; intro w2 hR2 hg2))
  exact bodyPost_ret (v := .agg (kk.map wv).toArray) (results_cell_row rfl _ _ w.heap.size _ (kk.map wv).toArray (0, 0) _ (by rfl) hR2.out Tryz.und45 rfl (by kernel_rfl)) rfl ⟨rfl, (below_alloc w _).trans (grown_below hg2 (by simp) (fun k hk => by cases hk; exact Nat.le_refl _))⟩
theorem word_any (w : World) (b off c : Nat) (x0 x1 x2 x3 : Int) (n : Nat) (hn : 4 ≤ n) (y0 : 0 ≤ x0 ∧ x0 ≤ 255) (y1 : 0 ≤ x1 ∧ x1 ≤ 255) (y2 : 0 ≤ x2 ∧ x2 ≤ 255) (y3 : 0 ≤ x3 ∧ x3 ≤ 255)
    (c0 : w.cell? ⟨b, off, none⟩ = some (.int .u8 x0)) (c1 : w.cell? ⟨b, off + 1, none⟩ = some (.int .u8 x1)) (c2 : w.cell? ⟨b, off + 2, none⟩ = some (.int .u8 x2)) (c3 : w.cell? ⟨b, off + 3, none⟩ = some (.int .u8 x3)) :
    Calls Tryz.prog 191 #[.slice (some ⟨b, off, none⟩) n c] w fun e w' => e = .returned (.int .u32 (wi (BitVec.ofInt 32 (((x0 * 256 + x1) * 256 + x2) * 256 + x3)))) ∧ w' = w := by
  have hni : (4 : Int) ≤ (n : Int) := by omega
  rw [wi_ofInt _ (by omega) (by omega)]
  go_enter Tryz.func191, Tryz.ntmps191
  go_wp2_with fail
  refine wp_loop_rounds 5 ?_
  rw [rounds_succ]
  go_wp2_with fail
  rw [rounds_succ]
  go_wp2_with fail
  rw [rounds_succ]
  go_wp2_with fail
  rw [rounds_succ]
  go_wp2_with fail
  rw [rounds_succ]
  go_wp2_with fail
  go_ret
  exact ⟨ret_int (by omega), rfl⟩
set_option maxHeartbeats 1000000 in
theorem schedule_any (w : World) (v : Value) (p : List Int) (hrd : Rd w v p) (hp : p.length = 64) :
    Calls Tryz.prog 181 #[v] w fun e w' => e = .returned (.agg ((sch p 64).map wv).toArray) ∧ Below w.heap.size w w' := by
  have hb := hrd.1
  obtain ⟨b, o, cap, rfl, hc1, hc2, hlt, hcell⟩ := hrd.at (by omega)
  have hr : Bts w b o p := hcell
  rw [hp] at hc1 ⊢
  obtain ⟨X, hX⟩ : ∃ X, X = (sch p 64).map wv := ⟨_, rfl⟩
  rw [← hX]
  have HX := (show Hid (X = (sch p 64).map wv) from hX)
  clear hX hcell hrd
  go_enter Tryz.func181, Tryz.ntmps181
  go_wp2_with (first
    | (refine wpList_buildTo (by rfl) 205 _ (by rfl) _ (by rfl) (wz 64).toArray (by kernel_rfl) ?_)
    | (refine wl_store (by rfl) 205 _ _ (by rfl) (w.heap.size + 1) (wz 64) (by rfl) (by rfl) 205 (wz 64) (heap_alloc2_new w _ _) (by rfl) (by kernel_rfl) (wv_one (List.replicate 64 0)) ?_; intro w2 hR2 hg2))
  have hZ2 : Row w2 w.heap.size 205 (wz 64) := (show Row _ w.heap.size 205 (wz 64) from heap_alloc2_old w _ _).grown hg2 (by simp)
  have hbel2 : Below w.heap.size w w2 := ((below_alloc w _).trans ((Below.refl _ _).alloc (by simp) _)).trans (grown_below hg2 (by simp; omega) (fun k hk => by cases hk; exact Nat.le_succ _))
  clear hg2
  go_loopw [4] (fun i wr => ∃ k : Nat, k ≤ 16 ∧ i = .int .i64 k ∧ Row wr (w.heap.size + 1) 205 ((sch p k).map wv ++ wz (64 - k)) ∧ Row wr w.heap.size 205 (wz 64) ∧ Below w.heap.size w wr) (fun i _ => 16 - (intOf i).toNat)
  case atStart => exact ⟨0, by omega, rfl, hR2, hZ2, hbel2⟩
  case round =>
    clear hR2 hZ2 hbel2
    obtain ⟨k, hk, rfl, hR, hZ, hbel⟩ := hrel
    have hrr := hr.below hlt hbel
    by_cases hk16 : k < 16
    · obtain ⟨x0, hx0⟩ : ∃ x, x = p.getD (4 * k) 0 := ⟨_, rfl⟩
      obtain ⟨x1, hx1⟩ : ∃ x, x = p.getD (4 * k + 1) 0 := ⟨_, rfl⟩
      obtain ⟨x2, hx2⟩ : ∃ x, x = p.getD (4 * k + 2) 0 := ⟨_, rfl⟩
      obtain ⟨x3, hx3⟩ : ∃ x, x = p.getD (4 * k + 3) 0 := ⟨_, rfl⟩
      have y0 : 0 ≤ x0 ∧ x0 ≤ 255 := hx0 ▸ byt_at hb _
      have y1 : 0 ≤ x1 ∧ x1 ≤ 255 := hx1 ▸ byt_at hb _
      have y2 : 0 ≤ x2 ∧ x2 ≤ 255 := hx2 ▸ byt_at hb _
      have y3 : 0 ≤ x3 ∧ x3 ≤ 255 := hx3 ▸ byt_at hb _
      have c0 : wr.cell? ⟨b, o + 4 * k, none⟩ = some (.int .u8 x0) := hx0 ▸ hrr (4 * k) (by omega)
      have c1 : wr.cell? ⟨b, o + 4 * k + 1, none⟩ = some (.int .u8 x1) := hx1 ▸ hrr (4 * k + 1) (by omega)
      have c2 : wr.cell? ⟨b, o + 4 * k + 2, none⟩ = some (.int .u8 x2) := hx2 ▸ hrr (4 * k + 2) (by omega)
      have c3 : wr.cell? ⟨b, o + 4 * k + 3, none⟩ = some (.int .u8 x3) := hx3 ▸ hrr (4 * k + 3) (by omega)
      have HW := (show Hid (wrd p k = BitVec.ofInt 32 (((x0 * 256 + x1) * 256 + x2) * 256 + x3)) by rw [hx0, hx1, hx2, hx3]; rfl)
      clear hx0 hx1 hx2 hx3 hrr
      have hsl : ∀ u : World, (Instr.slice 24 (.slice (some ⟨b, o, none⟩) 64 cap) (some (.int .i64 (4 * (k : Int)))) none none).run Tryz.prog u = .ok (.slice (some ⟨b, o + 4 * k, none⟩) (64 - 4 * k) (cap - 4 * k)) u := run_cut_at b o 64 cap (4 * k) (by omega) (by omega)
      have hik : ∀ u : World, (Instr.indexAt 205 (.pointer (some ⟨w.heap.size + 1, 0, none⟩)) (.int .i64 (k : Int))).run Tryz.prog u = .ok (.pointer (some ⟨w.heap.size + 1, k, none⟩)) u := run_ix (w.heap.size + 1) k (by omega)
      go_wp2_with fail
      refine (word_any _ b (o + 4 * k) (cap - 4 * k) x0 x1 x2 x3 (64 - 4 * k) (by omega) y0 y1 y2 y3 c0 c1 c2 c3).mono ?_
      rintro e wq ⟨rfl, rfl⟩
      rw [← HW.out]
      have ck : wq.cell? ⟨w.heap.size + 1, k, none⟩ = some (.int .u32 0) := hR.cell (wz_at p k (by omega))
      have fk := hR.frozen k
      have HR' := (show Hid (∀ v, Row (wq.setCell ⟨w.heap.size + 1, k, none⟩ v) (w.heap.size + 1) 205 (((sch p k).map wv ++ wz (64 - k)).set k v)) from fun v => hR.set k v)
      clear c0 c1 c2 c3 y0 y1 y2 y3
      go_wp2_with fail
      go_roundw
      case rel =>
        rw [← nxt_lo p k hk16]
        exact ⟨k + 1, by omega, by go_num, sch_set p k (by omega) ▸ HR'.out _, hZ.grown (grown_set _ _ _ _) (by simp), below_set hbel (Nat.le_refl _) (Nat.le_succ _) _ _⟩
      case measure => simp [intOf]; omega
    · have hR16 : Row wr (w.heap.size + 1) 205 ((sch p 16).map wv ++ wz (64 - 16)) := (show k = 16 by omega) ▸ hR
      clear hr hlt hb hp hR hrr
      go_wp2_with fail
      go_loopw [5] (fun i wr => ∃ k : Nat, 16 ≤ k ∧ k ≤ 64 ∧ i = .int .i64 k ∧ Row wr (w.heap.size + 1) 205 ((sch p k).map wv ++ wz (64 - k)) ∧ Row wr w.heap.size 205 (wz 64) ∧ Below w.heap.size w wr) (fun i _ => 64 - (intOf i).toNat)
      case atStart => exact ⟨16, by omega, by omega, rfl, hR16, hZ, hbel⟩
      case round =>
        clear hR16 hZ hbel
        rename Nat => k0
        obtain ⟨k, hk, hk', rfl, hR, hZ, hbel⟩ := hrel
        by_cases hk64 : k < 64
        · obtain ⟨m2, hm2⟩ : ∃ m : Nat, (k : Int) - 2 = m := ⟨k - 2, by omega⟩
          obtain ⟨m7, hm7⟩ : ∃ m : Nat, (k : Int) - 7 = m := ⟨k - 7, by omega⟩
          obtain ⟨m15, hm15⟩ : ∃ m : Nat, (k : Int) - 15 = m := ⟨k - 15, by omega⟩
          obtain ⟨m16, hm16⟩ : ∃ m : Nat, (k : Int) - 16 = m := ⟨k - 16, by omega⟩
          obtain ⟨y2, hy2⟩ : ∃ y, y = (sch p k).getD (k - 2) 0 := ⟨_, rfl⟩
          obtain ⟨y7, hy7⟩ : ∃ y, y = (sch p k).getD (k - 7) 0 := ⟨_, rfl⟩
          obtain ⟨y15, hy15⟩ : ∃ y, y = (sch p k).getD (k - 15) 0 := ⟨_, rfl⟩
          obtain ⟨y16, hy16⟩ : ∃ y, y = (sch p k).getD (k - 16) 0 := ⟨_, rfl⟩
          have c2 : wr.cell? ⟨w.heap.size + 1, m2, none⟩ = some (.int .u32 (wi y2)) := by rw [hy2, show k - 2 = m2 by omega]; exact hR.cell (sch_at p k m2 (by omega))
          have c7 : wr.cell? ⟨w.heap.size + 1, m7, none⟩ = some (.int .u32 (wi y7)) := by rw [hy7, show k - 7 = m7 by omega]; exact hR.cell (sch_at p k m7 (by omega))
          have c15 : wr.cell? ⟨w.heap.size + 1, m15, none⟩ = some (.int .u32 (wi y15)) := by rw [hy15, show k - 15 = m15 by omega]; exact hR.cell (sch_at p k m15 (by omega))
          have c16 : wr.cell? ⟨w.heap.size + 1, m16, none⟩ = some (.int .u32 (wi y16)) := by rw [hy16, show k - 16 = m16 by omega]; exact hR.cell (sch_at p k m16 (by omega))
          have HN := (show Hid (nxt p (sch p k) = s1 y2 + y7 + s0 y15 + y16) by rw [hy2, hy7, hy15, hy16]; exact nxt_hi p k hk)
          clear hy2 hy7 hy15 hy16
          have ck : wr.cell? ⟨w.heap.size + 1, k, none⟩ = some (.int .u32 0) := hR.cell (wz_at p k (by omega))
          have fk := hR.frozen k
          have q2 : IntKind.i64.wrap (m2 : Int) = m2 := by rw [IntKind.wrap_i64]; omega
          have q7 : IntKind.i64.wrap (m7 : Int) = m7 := by rw [IntKind.wrap_i64]; omega
          have q15 : IntKind.i64.wrap (m15 : Int) = m15 := by rw [IntKind.wrap_i64]; omega
          have q16 : IntKind.i64.wrap (m16 : Int) = m16 := by rw [IntKind.wrap_i64]; omega
          have i2 : ∀ u : World, (Instr.indexAt 205 (.pointer (some ⟨w.heap.size + 1, 0, none⟩)) (.int .i64 (m2 : Int))).run Tryz.prog u = .ok (.pointer (some ⟨w.heap.size + 1, m2, none⟩)) u := run_ix (w.heap.size + 1) m2 (by omega)
          have i7 : ∀ u : World, (Instr.indexAt 205 (.pointer (some ⟨w.heap.size + 1, 0, none⟩)) (.int .i64 (m7 : Int))).run Tryz.prog u = .ok (.pointer (some ⟨w.heap.size + 1, m7, none⟩)) u := run_ix (w.heap.size + 1) m7 (by omega)
          have i15 : ∀ u : World, (Instr.indexAt 205 (.pointer (some ⟨w.heap.size + 1, 0, none⟩)) (.int .i64 (m15 : Int))).run Tryz.prog u = .ok (.pointer (some ⟨w.heap.size + 1, m15, none⟩)) u := run_ix (w.heap.size + 1) m15 (by omega)
          have i16 : ∀ u : World, (Instr.indexAt 205 (.pointer (some ⟨w.heap.size + 1, 0, none⟩)) (.int .i64 (m16 : Int))).run Tryz.prog u = .ok (.pointer (some ⟨w.heap.size + 1, m16, none⟩)) u := run_ix (w.heap.size + 1) m16 (by omega)
          have ik : ∀ u : World, (Instr.indexAt 205 (.pointer (some ⟨w.heap.size + 1, 0, none⟩)) (.int .i64 (k : Int))).run Tryz.prog u = .ok (.pointer (some ⟨w.heap.size + 1, k, none⟩)) u := run_ix (w.heap.size + 1) k (by omega)
          go_wp2_with fail
          go_quiet ((go_at_call 183; exact quiet_as (turn_all _ y15 _ (by decide)) rfl))
          go_wp2_with fail
          go_quiet ((go_at_call 183; exact quiet_as (turn_all _ y2 _ (by decide)) rfl))
          go_wp2_with fail
          go_region
          go_wp2_with fail
          go_roundw
          case rel =>
            have hset := sch_set p k (by omega)
            rw [HN.out] at hset
            rw [show (8 : Int) = 2 ^ 3 from rfl, show (1024 : Int) = 2 ^ 10 from rfl, shr_wi, shr_wi]
            simp only [bits_xor, mod_wi, ofInt_sum, ofInt_wi]
            refine ⟨k + 1, by omega, by omega, by go_num, ?_, (show Row (wr.drewN _) w.heap.size 205 (wz 64) from hZ).grown (grown_set _ _ _ _) (by simp), below_set (bel_drewN hbel _) (Nat.le_refl _) (Nat.le_succ _) _ _⟩
            rw [← hset]
            exact Row.set (w := wr.drewN _) hR k _
          case measure => simp [intOf]; omega
        · obtain rfl : k = 64 := by omega
          clear hk hk' hk64
          have hl : X.length = 64 := by rw [HX.out, List.length_map, sch_len]
          have hR' : Row wr (w.heap.size + 1) 205 X := by rw [HX.out]; simpa [wz] using hR
          have ho : ∀ v ∈ X, v.oneCell' = true := by rw [HX.out]; exact wv_one _
          clear hR
          have hs : (Tryz.prog.info? 205).map (·.size) = some X.length := by rw [hl]; exact Tryz.siz45
          have hle : (wz 64).length = X.length := by rw [hl]; rfl
          go_wp2_with (first
            | (refine wl_load (by rfl) 205 _ (by rfl) (w.heap.size + 1) (by rfl) _ X hR' _ Tryz.und45 rfl hs ?_)
            | (refine wl_store (by rfl) 205 _ _ (by rfl) w.heap.size X (by rfl) (by rfl) _ (wz 64) hZ hle hs ho ?_; intro w2 hR2 hg2))
          exact bodyPost_ret (v := .agg X.toArray) (results_cell_row rfl _ _ w.heap.size _ X.toArray (0, 0) _ (by rfl) hR2.out Tryz.und45 rfl (by simpa using hs)) rfl ⟨rfl, hbel.trans (grown_below hg2 hbel.size (fun k hk => by cases hk; exact Nat.le_refl _))⟩
end
end Go.Proofs.YtgbfmccecnfooaaGreatDoor
