/- Sessions and results in memory; the walks over package clone: a result, a session. -/
import Derived.Test.YteafgdidjdfiiaaGreatZc
import Derived.Test.YteafgdidjdfiiaaGreatXp
set_option linter.unusedVariables false
set_option linter.unusedSimpArgs false
namespace Go.Proofs.YteafgdidjdfiiaaGreat
open Go.RowKit Oct Kvl

def RSes (G : Nat → Prop) (w : World) (r : List Value) (x : PEnt) : Prop := ∃ c d k a l, r = [.int .i64 c, .int .i64 d, .int .i64 k, a] ∧ RT G w a l ∧ x = ([c], d :: k :: l)
theorem mov_ses : Mov RSes := fun _ _ _ _ _ _ h _ hm => by
  obtain ⟨c, d, k, a, l, e, h1, h2⟩ := h
  exact ⟨c, d, k, a, l, e, h1.mv hm, h2⟩
theorem onN4 {c d k : Int} {u : Value} (hu : u.oneCell' = true) : ∀ x ∈ [Value.int .i64 c, Value.int .i64 d, Value.int .i64 k, u], x.oneCell' = true := by
  intro x hx
  simp only [List.mem_cons, List.not_mem_nil, or_false] at hx
  rcases hx with rfl | rfl | rfl | rfl <;> first | assumption | rfl
theorem one_RN {G : Nat → Prop} {w : World} {r : List Value} {x : PEnt} (h : RSes G w r x) : ∀ v ∈ r, v.oneCell' = true := by
  obtain ⟨c, d, k, a, l, rfl, h1, h2⟩ := h
  exact onN4 h1.one
def OSes (G : Nat → Prop) (w : World) (r : List Value) (x : PEnt) : Prop := ∃ c d k a l, r = [.int .i64 c, .int .i64 d, .int .i64 k, a] ∧ OT G w a l ∧ x = ([c], d :: k :: l)
theorem mov_oses : Mov OSes := fun _ _ _ _ _ _ h _ hm => by
  obtain ⟨c, d, k, a, l, e, h1, h2⟩ := h
  exact ⟨c, d, k, a, l, e, h1.mv hm, h2⟩
theorem OSes.ses {G : Nat → Prop} {w : World} {r : List Value} {x : PEnt} (h : OSes G w r x) : RSes G w r x := by
  obtain ⟨c, d, k, a, l, e, h1, h2⟩ := h
  exact ⟨c, d, k, a, l, e, h1.rt, h2⟩
theorem RL.ses {G : Nat → Prop} {w : World} {v : Value} {ys : List PEnt} (h : RL OSes 4 G w v ys) : RL RSes 4 G w v ys := by
  obtain ⟨rows, h1, h2⟩ := h
  exact ⟨rows, h1, h2.mono fun _ _ h => h.ses⟩
theorem RL.wf {G : Nat → Prop} {w : World} {v : Value} {ys : List PEnt} (h : RL RSes 4 G w v ys) : wfN ys := fun e he => by
  obtain ⟨rows, h1, h2⟩ := h
  obtain ⟨i, hi, rfl⟩ := List.getElem_of_mem he
  obtain ⟨c, d, k, a, l, _, _, e2⟩ := h2.get (List.getElem?_eq_getElem (by rw [h2.len]; exact hi)) (List.getElem?_eq_getElem hi)
  exact ⟨c, d, k, l, e2⟩
def szN (x : PEnt) : Prop := szT (sv x)

theorem Tryz.infN : (Tryz.prog.info? 77).map (fun i => (i.zero, i.size, i.bytes)) = some (some (.agg #[.int .i64 0, .int .i64 0, .int .i64 0, .slice none 0 0]), 4, 48) := by kernel_rfl
theorem Tryz.sizN : (Tryz.prog.info? 77).map (·.size) = some 4 := by kernel_rfl
theorem on2 {k : Int} {u : Value} (hu : u.oneCell' = true) : ∀ x ∈ [Value.int .i64 k, u], x.oneCell' = true := by
  intro x hx
  simp only [List.mem_cons, List.not_mem_nil, or_false] at hx
  rcases hx with rfl | rfl <;> first | assumption | rfl

set_option maxRecDepth 10000 in
set_option maxHeartbeats 2000000 in
/-- clone.Result. -/
theorem cloneResult_any (w : World) (k : Int) (vo : Value) (l : List Int) (ho : Rd w vo l) (z1 : szT l) :
    Calls Tryz.prog 73 #[.agg #[.int .i64 k, vo]] w fun e w' => ∃ a', e = .returned (.agg #[.int .i64 k, a']) ∧ OT (From w.heap.size) w' a' l ∧ Below w.heap.size w w' := by
  obtain ⟨w2, hw2⟩ : ∃ w2, w2 = (w.alloc (.cells #[.int .i64 k, vo] 30)).alloc (.cells #[.int .i64 0, .slice none 0 0] 30) := ⟨_, rfl⟩
  have ra : Row w2 w.heap.size 30 [.int .i64 k, vo] := by rw [hw2]; exact rowA (Row.new w 30 _) _
  have rr : Row w2 (w.heap.size + 1) 30 [.int .i64 0, .slice none 0 0] := by
    rw [hw2]
    have := Row.new (w.alloc (.cells #[.int .i64 k, vo] 30)) 30 [.int .i64 0, .slice none 0 0]
    simpa using this
  have hB : Below w.heap.size w w2 := by rw [hw2]; exact ((Below.refl _ w).alloc (Nat.le_refl _) _).alloc (by simp) _
  have hsz : w2.heap.size = w.heap.size + 2 := by rw [hw2]; simp
  go_enter Tryz.func73, Tryz.ntmps73
  go_upto_region 1 with fail
  rw [← hw2]
  clear hw2
  have HS := (show Hid (w2.heap.size = w.heap.size + 2) from hsz)
  clear hsz
  have c2 := ra.cell (j := 1) rfl
  have ho2 := ho.below hB
  go_wp2_with (first
    | (go_at_call 54; refine (clone_own w2 _ l ho2 (Nat.le_trans z1 (by decide))).mono ?_; rintro e w3 ⟨v3, rfl, o3, f3, hb3⟩; have ra3 := ra.below hb3; have f3 := OT.own o3 ho2.1 f3; clear o3)
    | (refine wl_set rfl _ _ _ rfl w.heap.size 1 _ rfl rfl _ _ ra3 (show 1 < 2 by decide) (by kernel_rfl) f3.one ?_; intro w4 ra4 hg4; have ra4' : Row w4 w.heap.size 30 [.int .i64 k, v3] := ra4.out; have hB3 := below_and hB (Nat.le_refl _) hb3; have hB4 : Below w.heap.size w w4 := hB3.trans (grown_below hg4 hB3.size (fun k hk => by cases hk; exact Nat.le_refl _)); have rr4 := (rr.below hb3).grown hg4 (fun e => by injection e with e; omega))
    | (refine wl_load rfl _ _ rfl w.heap.size rfl _ _ ra4' _ Tryz.underlying30 rfl (by kernel_rfl) ?_)
    | (refine wl_store rfl _ _ _ rfl (w.heap.size + 1) [.int .i64 k, v3] rfl rfl _ _ rr4 rfl (by kernel_rfl) (on2 f3.one) ?_; intro w7 hr7 hg7))
  have hs2 := HS.out
  have f4 := f3.mv (Mv.from (L := w.heap.size + 2) hg4 (by omega) (by omega))
  have f7 := f4.mv (Mv.from (L := w.heap.size) hg7 (by omega) (by omega))
  have hB7 := hB4.trans (grown_below hg7 hB4.size (fun k hk => by cases hk; omega))
  have hr7 := hr7.out
  refine bodyPost_ret (v := .agg ([.int .i64 k, v3] : List Value).toArray) (results_cell_row rfl _ _ (w.heap.size + 1) _ _ (0, 0) _ (by rfl) hr7 Tryz.underlying30 rfl (by kernel_rfl)) rfl ?_
  exact ⟨_, rfl, f7, hB7⟩

set_option maxRecDepth 10000 in
set_option maxHeartbeats 2000000 in
/-- clone.Session. -/
theorem cloneSession_any (w : World) (r : List Value) (x : PEnt) (h : RSes Any w r x) (hz : szN x) :
    Calls Tryz.prog 42 #[.agg r.toArray] w fun e w' => ∃ r', e = .returned (.agg r'.toArray) ∧ OSes (From w.heap.size) w' r' x ∧ Below w.heap.size w w' := by
  obtain ⟨c, d, k, vo, l, rfl, ho, hx2⟩ := h
  have z1 : szT l := by have : szT (sv x) := hz; rw [hx2] at this; exact this
  obtain ⟨w2, hw2⟩ : ∃ w2, w2 = (w.alloc (.cells #[.int .i64 c, .int .i64 d, .int .i64 k, vo] 77)).alloc (.cells #[.int .i64 0, .int .i64 0, .int .i64 0, .slice none 0 0] 77) := ⟨_, rfl⟩
  have ra : Row w2 w.heap.size 77 [.int .i64 c, .int .i64 d, .int .i64 k, vo] := by rw [hw2]; exact rowA (Row.new w 77 _) _
  have rr : Row w2 (w.heap.size + 1) 77 [.int .i64 0, .int .i64 0, .int .i64 0, .slice none 0 0] := by
    rw [hw2]
    have := Row.new (w.alloc (.cells #[.int .i64 c, .int .i64 d, .int .i64 k, vo] 77)) 77 [.int .i64 0, .int .i64 0, .int .i64 0, .slice none 0 0]
    simpa using this
  have hB : Below w.heap.size w w2 := by rw [hw2]; exact ((Below.refl _ w).alloc (Nat.le_refl _) _).alloc (by simp) _
  have hsz : w2.heap.size = w.heap.size + 2 := by rw [hw2]; simp
  go_enter Tryz.func42, Tryz.ntmps42
  go_upto_region 1 with fail
  rw [← hw2]
  clear hw2
  have HS := (show Hid (w2.heap.size = w.heap.size + 2) from hsz)
  clear hsz
  have hrng : w2.rangeAt w.heap.size 2 [.int .i64 k, vo] := fun j v hj => ra.cell (by
    match j, hj with
    | 0, hj => exact hj
    | 1, hj => exact hj)
  have ho2 := (ho.mv (Mv.below hB)).1
  go_wp2_with (first
    | (refine wpList_load_mid rfl _ _ rfl w.heap.size 2 rfl [.int .i64 k, vo] _ hrng Tryz.underlying30 rfl (by kernel_rfl) ?_)
    | (go_at_call 73; refine (cloneResult_any w2 k _ l ho2 z1).mono ?_; rintro e w3 ⟨v3, rfl, f3, hb3⟩; have ra3 := ra.below hb3)
    | (refine wl_put rfl _ _ _ rfl w.heap.size 2 [.int .i64 k, v3] rfl rfl _ _ ra3 (by show 4 ≤ 4; decide) (by kernel_rfl) (on2 f3.one) ?_; intro w4 ra4 hg4; have ra4' : Row w4 w.heap.size 77 [.int .i64 c, .int .i64 d, .int .i64 k, v3] := ra4.out; have hB3 := below_and hB (Nat.le_refl _) hb3; have hB4 : Below w.heap.size w w4 := hB3.trans (grown_below hg4 hB3.size (fun k hk => by cases hk; exact Nat.le_refl _)); have rr4 := (rr.below hb3).grown hg4 (fun e => by injection e with e; omega))
    | (refine wl_load rfl _ _ rfl w.heap.size rfl _ _ ra4' _ Tryz.underlying77 rfl (by kernel_rfl) ?_)
    | (refine wl_store rfl _ _ _ rfl (w.heap.size + 1) [.int .i64 c, .int .i64 d, .int .i64 k, v3] rfl rfl _ _ rr4 rfl (by kernel_rfl) (onN4 f3.one) ?_; intro w7 hr7 hg7))
  have hs2 := HS.out
  have f4 := f3.mv (Mv.from (L := w.heap.size + 2) hg4 (by omega) (by omega))
  have f7 := f4.mv (Mv.from (L := w.heap.size) hg7 (by omega) (by omega))
  have hB7 := hB4.trans (grown_below hg7 hB4.size (fun k hk => by cases hk; omega))
  have hr7 := hr7.out
  refine bodyPost_ret (v := .agg ([.int .i64 c, .int .i64 d, .int .i64 k, v3] : List Value).toArray) (results_cell_row rfl _ _ (w.heap.size + 1) _ _ (0, 0) _ (by rfl) hr7 Tryz.underlying77 rfl (by kernel_rfl)) rfl ?_
  exact ⟨_, rfl, ⟨_, _, _, _, _, rfl, f7, hx2⟩, hB7⟩
end Go.Proofs.YteafgdidjdfiiaaGreat
