/- The document's reading: a field. Written by mk5h.py. -/
import Derived.Test.YtjoikkhmijalmaaGA
import Derived.Test.YtjoikkhmijalmaaGB
import Derived.Test.YtjoikkhmijalmaaGC
import Derived.Test.YtjoikkhmijalmaaD4
section
set_option linter.unusedVariables false
set_option linter.unusedSimpArgs false
namespace Go.Proofs.Ytjoikkhmijalmaa
open Go.RowKit Oct

set_option maxRecDepth 10000 in
set_option maxHeartbeats 4000000 in
theorem getField12_any (G : Nat → Prop) (w : World) (bv : Value) (l : List Int) (p : Nat) (bad : Bool) (m : PMsg) (s : SV) (hrd : Rd w bv l) (hp : p ≤ l.length) (hl : l.length ≤ 1048576) (hso : SOk G w m s) (hzr : Zr 12 s) :
    Calls Try.prog 18 #[.agg #[bv, .int .i64 (p : Int), .bool bad], .agg (mc m s).toArray, .int .i64 12] w (FPost G w bv l p bad m 12) := by
  obtain ⟨ab, cb, rfl, hcb⟩ := hrd.2.form
  obtain ⟨q0, bad0, hq0', hbad0⟩ : ∃ q0 bad0, q0 = p ∧ bad0 = bad := ⟨_, _, rfl, rfl⟩
  rw [← hq0', ← hbad0]
  have hq0 : q0 ≤ l.length := by omega
  clear hq0' hbad0 hp p bad
  have hone := (show Hid (∀ v ∈ mc m s, v.oneCell' = true) from hso.one)
  have HSO := (show Hid (SOk G w m s) from hso)
  have HZR := (show Hid (Zr 12 s) from hzr)
  clear hso hzr
  obtain ⟨w2, hw2⟩ : ∃ w2, w2 = (((w.alloc (.cells ([.slice ab (bc l).length cb, .int .i64 (q0 : Int), .bool bad0] : List Value).toArray 52)).alloc (.cells (mc m s).toArray 33)).alloc (.cells ([.slice none 0 0, .int .i64 0, .bool false] : List Value).toArray 52)).alloc (.cells (mc zeroM sv0).toArray 33) := ⟨_, rfl⟩
  have hs : Row w2 w.heap.size 52 [.slice ab (bc l).length cb, .int .i64 (q0 : Int), .bool bad0] := by rw [hw2]; exact row_alloc (row_alloc (row_alloc (Row.new w _ _) _) _) _
  have hv : Row w2 (w.heap.size + 1) 33 (mc m s) := by
    rw [hw2]; refine row_alloc (row_alloc ?_ _) _
    have := Row.new (w.alloc (.cells ([.slice ab (bc l).length cb, .int .i64 (q0 : Int), .bool bad0] : List Value).toArray 52)) 33 (mc m s)
    simpa using this
  have ho : Row w2 (w.heap.size + 1 + 1) 52 [.slice none 0 0, .int .i64 0, .bool false] := by
    rw [hw2]; refine row_alloc ?_ _
    have := Row.new ((w.alloc (.cells ([.slice ab (bc l).length cb, .int .i64 (q0 : Int), .bool bad0] : List Value).toArray 52)).alloc (.cells (mc m s).toArray 33)) 52 [.slice none 0 0, .int .i64 0, .bool false]
    simpa using this
  have hz : Row w2 (w.heap.size + 1 + 1 + 1) 33 (mc zeroM sv0) := by
    rw [hw2]
    have := Row.new (((w.alloc (.cells ([.slice ab (bc l).length cb, .int .i64 (q0 : Int), .bool bad0] : List Value).toArray 52)).alloc (.cells (mc m s).toArray 33)).alloc (.cells ([.slice none 0 0, .int .i64 0, .bool false] : List Value).toArray 52)) 33 (mc zeroM sv0)
    simpa using this
  have B : Below w.heap.size w w2 := by rw [hw2]; exact ((((Below.refl _ w).alloc (Nat.le_refl _) _).alloc (by simp) _).alloc (by simp; omega) _).alloc (by simp; omega) _
  have hC : w.heap.size + 4 ≤ w2.heap.size := by rw [hw2]; simp
  go_enter Try.func18, Try.ntmps18
  go_upto_region 1 with fail
  have hw2' : (((w.alloc (.cells ([.slice ab (bc l).length cb, .int .i64 (q0 : Int), .bool bad0] : List Value).toArray 52)).alloc (.cells (mc m s).toArray 33)).alloc (.cells #[.slice none 0 0, .int .i64 0, .bool false] 52)).alloc (.cells #[.int .i64 0, .int .i64 0, .int .i64 0, .int .i64 0, .int .i64 0, .int .i64 0, .int .i64 0, .int .i64 0, .int .i64 0, .int .i64 0, .slice none 0 0, .slice none 0 0, .int .i64 0, .int .i64 0, .slice none 0 0, .slice none 0 0, .slice none 0 0, .slice none 0 0, .slice none 0 0, .slice none 0 0, .slice none 0 0, .slice none 0 0, .slice none 0 0] 33) = w2 := hw2.symm
  rw [hw2']
  clear hw2 hw2'
  have hG := lists12_any w2 _ l q0 bad0 m s (hrd.below B) hq0 hl hone.out (HZR.out.1 (by decide))
  have hone2 := (show Hid (∀ vp : Value, vp.oneCell' = true → ∀ v ∈ mc m { s with n := vp }, v.oneCell' = true) from fun vp h1 v hv => by
    have h2 : v = vp ∨ v ∈ mc m s := by
      simp only [mc, List.mem_cons, List.not_mem_nil, or_false] at hv ⊢
      grind
    rcases h2 with rfl | h2
    · exact h1
    · exact hone.out v h2)
  go_wp2_with (first
    | (refine wl_load rfl _ _ rfl w.heap.size rfl _ _ hs _ Try.underlying52 rfl (by kernel_rfl) ?_)
    | (refine wl_load rfl _ _ rfl (w.heap.size + 1) rfl _ _ hv _ Try.underlying33 rfl (by kernel_rfl) ?_)
    | (go_at_call 40; refine hG.mono ?_; rintro e w3 ⟨ys, vp, q1, bad1, rfl, hq1, hb3, hrl, he⟩; have ho3 := ho.below hb3; have hz3 := hz.below hb3; have hon := hone2.out vp hrl.one)
    | (refine wl_store rfl _ _ _ rfl (w.heap.size + 1 + 1) [.slice ab (bc l).length cb, .int .i64 (q1 : Int), .bool bad1] rfl rfl _ _ ho3 rfl (by kernel_rfl) (one_in rfl) ?_; intro w4 ho4 hg4; have hz4 := hz3.grown hg4 (fun h => by injection h; omega))
    | (refine wl_store rfl _ _ _ rfl (w.heap.size + 1 + 1 + 1) (mc m { s with n := vp }) rfl rfl _ _ hz4 rfl (by kernel_rfl) hon ?_; intro w5 hz5 hg5))
  have B3 := below_and B (Nat.le_refl _) hb3
  have B4 := below_grown B3 hg4 (by omega) B3.size
  have B5 := below_grown B4 hg5 (by omega) B4.size
  have ho5 := ho4.out.grown hg5 (fun h => by injection h; omega)
  have base := HSO.out.mv B5.size (show Mv G (GB G w) w w5 from fun k hk hlt => ⟨B5.block k hlt, .inl ⟨hk, hlt⟩⟩)
  have hrl : RL RInt 1 (GB G w) w5 vp ys := (((hrl.mv mov_int (Nat.le_refl _) (Mv.weak hC)).mv mov_int hg4.size (Mv.from hg4 (by omega) (Nat.le_refl _))).mv mov_int hg5.size (Mv.from hg5 (by omega) (Nat.le_refl _))).mv mov_int (Nat.le_refl _) (fun k hk _ => ⟨rfl, .inr (Nat.le_trans (by omega) hk)⟩)
  refine bodyPost_ret (results_cc rfl _ _ (w.heap.size + 1 + 1) (w.heap.size + 1 + 1 + 1) _ _ _ _ (0, 0) (0, 0) _ _ (by rfl) (by rfl) ho5 hz5.out Try.underlying52 rfl (by kernel_rfl) Try.underlying33 rfl (by kernel_rfl)) rfl ?_
  exact ⟨{ m with order := ys }, { s with n := vp }, q1, bad1, rfl, hq1, B5, ⟨base.o, base.g, base.o', base.g', base.d, base.s, base.c, base.v, hrl, base.p, base.l⟩, ⟨fun h => absurd h (by decide), fun _ => HZR.out.2.1 (by decide), fun _ => HZR.out.2.2 (by decide)⟩, tag_read he⟩
set_option maxRecDepth 10000 in
set_option maxHeartbeats 4000000 in
theorem getField13_any (G : Nat → Prop) (w : World) (bv : Value) (l : List Int) (p : Nat) (bad : Bool) (m : PMsg) (s : SV) (hrd : Rd w bv l) (hp : p ≤ l.length) (hl : l.length ≤ 1048576) (hso : SOk G w m s) (hzr : Zr 13 s) :
    Calls Try.prog 18 #[.agg #[bv, .int .i64 (p : Int), .bool bad], .agg (mc m s).toArray, .int .i64 13] w (FPost G w bv l p bad m 13) := by
  obtain ⟨ab, cb, rfl, hcb⟩ := hrd.2.form
  obtain ⟨q0, bad0, hq0', hbad0⟩ : ∃ q0 bad0, q0 = p ∧ bad0 = bad := ⟨_, _, rfl, rfl⟩
  rw [← hq0', ← hbad0]
  have hq0 : q0 ≤ l.length := by omega
  clear hq0' hbad0 hp p bad
  have hone := (show Hid (∀ v ∈ mc m s, v.oneCell' = true) from hso.one)
  have HSO := (show Hid (SOk G w m s) from hso)
  have HZR := (show Hid (Zr 13 s) from hzr)
  clear hso hzr
  obtain ⟨w2, hw2⟩ : ∃ w2, w2 = (((w.alloc (.cells ([.slice ab (bc l).length cb, .int .i64 (q0 : Int), .bool bad0] : List Value).toArray 52)).alloc (.cells (mc m s).toArray 33)).alloc (.cells ([.slice none 0 0, .int .i64 0, .bool false] : List Value).toArray 52)).alloc (.cells (mc zeroM sv0).toArray 33) := ⟨_, rfl⟩
  have hs : Row w2 w.heap.size 52 [.slice ab (bc l).length cb, .int .i64 (q0 : Int), .bool bad0] := by rw [hw2]; exact row_alloc (row_alloc (row_alloc (Row.new w _ _) _) _) _
  have hv : Row w2 (w.heap.size + 1) 33 (mc m s) := by
    rw [hw2]; refine row_alloc (row_alloc ?_ _) _
    have := Row.new (w.alloc (.cells ([.slice ab (bc l).length cb, .int .i64 (q0 : Int), .bool bad0] : List Value).toArray 52)) 33 (mc m s)
    simpa using this
  have ho : Row w2 (w.heap.size + 1 + 1) 52 [.slice none 0 0, .int .i64 0, .bool false] := by
    rw [hw2]; refine row_alloc ?_ _
    have := Row.new ((w.alloc (.cells ([.slice ab (bc l).length cb, .int .i64 (q0 : Int), .bool bad0] : List Value).toArray 52)).alloc (.cells (mc m s).toArray 33)) 52 [.slice none 0 0, .int .i64 0, .bool false]
    simpa using this
  have hz : Row w2 (w.heap.size + 1 + 1 + 1) 33 (mc zeroM sv0) := by
    rw [hw2]
    have := Row.new (((w.alloc (.cells ([.slice ab (bc l).length cb, .int .i64 (q0 : Int), .bool bad0] : List Value).toArray 52)).alloc (.cells (mc m s).toArray 33)).alloc (.cells ([.slice none 0 0, .int .i64 0, .bool false] : List Value).toArray 52)) 33 (mc zeroM sv0)
    simpa using this
  have B : Below w.heap.size w w2 := by rw [hw2]; exact ((((Below.refl _ w).alloc (Nat.le_refl _) _).alloc (by simp) _).alloc (by simp; omega) _).alloc (by simp; omega) _
  have hC : w.heap.size + 4 ≤ w2.heap.size := by rw [hw2]; simp
  go_enter Try.func18, Try.ntmps18
  go_upto_region 1 with fail
  have hw2' : (((w.alloc (.cells ([.slice ab (bc l).length cb, .int .i64 (q0 : Int), .bool bad0] : List Value).toArray 52)).alloc (.cells (mc m s).toArray 33)).alloc (.cells #[.slice none 0 0, .int .i64 0, .bool false] 52)).alloc (.cells #[.int .i64 0, .int .i64 0, .int .i64 0, .int .i64 0, .int .i64 0, .int .i64 0, .int .i64 0, .int .i64 0, .int .i64 0, .int .i64 0, .slice none 0 0, .slice none 0 0, .int .i64 0, .int .i64 0, .slice none 0 0, .slice none 0 0, .slice none 0 0, .slice none 0 0, .slice none 0 0, .slice none 0 0, .slice none 0 0, .slice none 0 0, .slice none 0 0] 33) = w2 := hw2.symm
  rw [hw2']
  clear hw2 hw2'
  have hG := lists13_any w2 _ l q0 bad0 m s (hrd.below B) hq0 hl hone.out (HZR.out.2.1 (by decide))
  have hone2 := (show Hid (∀ vp : Value, vp.oneCell' = true → ∀ v ∈ mc m { s with p := vp }, v.oneCell' = true) from fun vp h1 v hv => by
    have h2 : v = vp ∨ v ∈ mc m s := by
      simp only [mc, List.mem_cons, List.not_mem_nil, or_false] at hv ⊢
      grind
    rcases h2 with rfl | h2
    · exact h1
    · exact hone.out v h2)
  go_wp2_with (first
    | (refine wl_load rfl _ _ rfl w.heap.size rfl _ _ hs _ Try.underlying52 rfl (by kernel_rfl) ?_)
    | (refine wl_load rfl _ _ rfl (w.heap.size + 1) rfl _ _ hv _ Try.underlying33 rfl (by kernel_rfl) ?_)
    | (go_at_call 40; refine hG.mono ?_; rintro e w3 ⟨ys, vp, q1, bad1, rfl, hq1, hb3, hrl, he⟩; have ho3 := ho.below hb3; have hz3 := hz.below hb3; have hon := hone2.out vp hrl.one)
    | (refine wl_store rfl _ _ _ rfl (w.heap.size + 1 + 1) [.slice ab (bc l).length cb, .int .i64 (q1 : Int), .bool bad1] rfl rfl _ _ ho3 rfl (by kernel_rfl) (one_in rfl) ?_; intro w4 ho4 hg4; have hz4 := hz3.grown hg4 (fun h => by injection h; omega))
    | (refine wl_store rfl _ _ _ rfl (w.heap.size + 1 + 1 + 1) (mc m { s with p := vp }) rfl rfl _ _ hz4 rfl (by kernel_rfl) hon ?_; intro w5 hz5 hg5))
  have B3 := below_and B (Nat.le_refl _) hb3
  have B4 := below_grown B3 hg4 (by omega) B3.size
  have B5 := below_grown B4 hg5 (by omega) B4.size
  have ho5 := ho4.out.grown hg5 (fun h => by injection h; omega)
  have base := HSO.out.mv B5.size (show Mv G (GB G w) w w5 from fun k hk hlt => ⟨B5.block k hlt, .inl ⟨hk, hlt⟩⟩)
  have hrl : RL RReq 4 (GB G w) w5 vp ys := (((hrl.mv mov_req (Nat.le_refl _) (Mv.weak hC)).mv mov_req hg4.size (Mv.from hg4 (by omega) (Nat.le_refl _))).mv mov_req hg5.size (Mv.from hg5 (by omega) (Nat.le_refl _))).mv mov_req (Nat.le_refl _) (fun k hk _ => ⟨rfl, .inr (Nat.le_trans (by omega) hk)⟩)
  refine bodyPost_ret (results_cc rfl _ _ (w.heap.size + 1 + 1) (w.heap.size + 1 + 1 + 1) _ _ _ _ (0, 0) (0, 0) _ _ (by rfl) (by rfl) ho5 hz5.out Try.underlying52 rfl (by kernel_rfl) Try.underlying33 rfl (by kernel_rfl)) rfl ?_
  exact ⟨{ m with picks := ys }, { s with p := vp }, q1, bad1, rfl, hq1, B5, ⟨base.o, base.g, base.o', base.g', base.d, base.s, base.c, base.v, base.n, hrl, base.l⟩, ⟨fun h => absurd h (by decide), fun h => absurd h (by decide), fun _ => HZR.out.2.2 (by decide)⟩, tag_read he⟩
set_option maxRecDepth 10000 in
set_option maxHeartbeats 4000000 in
theorem getField14_any (G : Nat → Prop) (w : World) (bv : Value) (l : List Int) (p : Nat) (bad : Bool) (m : PMsg) (s : SV) (hrd : Rd w bv l) (hp : p ≤ l.length) (hl : l.length ≤ 1048576) (hso : SOk G w m s) (hzr : Zr 14 s) :
    Calls Try.prog 18 #[.agg #[bv, .int .i64 (p : Int), .bool bad], .agg (mc m s).toArray, .int .i64 14] w (FPost G w bv l p bad m 14) := by
  obtain ⟨ab, cb, rfl, hcb⟩ := hrd.2.form
  obtain ⟨q0, bad0, hq0', hbad0⟩ : ∃ q0 bad0, q0 = p ∧ bad0 = bad := ⟨_, _, rfl, rfl⟩
  rw [← hq0', ← hbad0]
  have hq0 : q0 ≤ l.length := by omega
  clear hq0' hbad0 hp p bad
  have hone := (show Hid (∀ v ∈ mc m s, v.oneCell' = true) from hso.one)
  have HSO := (show Hid (SOk G w m s) from hso)
  have HZR := (show Hid (Zr 14 s) from hzr)
  clear hso hzr
  obtain ⟨w2, hw2⟩ : ∃ w2, w2 = (((w.alloc (.cells ([.slice ab (bc l).length cb, .int .i64 (q0 : Int), .bool bad0] : List Value).toArray 52)).alloc (.cells (mc m s).toArray 33)).alloc (.cells ([.slice none 0 0, .int .i64 0, .bool false] : List Value).toArray 52)).alloc (.cells (mc zeroM sv0).toArray 33) := ⟨_, rfl⟩
  have hs : Row w2 w.heap.size 52 [.slice ab (bc l).length cb, .int .i64 (q0 : Int), .bool bad0] := by rw [hw2]; exact row_alloc (row_alloc (row_alloc (Row.new w _ _) _) _) _
  have hv : Row w2 (w.heap.size + 1) 33 (mc m s) := by
    rw [hw2]; refine row_alloc (row_alloc ?_ _) _
    have := Row.new (w.alloc (.cells ([.slice ab (bc l).length cb, .int .i64 (q0 : Int), .bool bad0] : List Value).toArray 52)) 33 (mc m s)
    simpa using this
  have ho : Row w2 (w.heap.size + 1 + 1) 52 [.slice none 0 0, .int .i64 0, .bool false] := by
    rw [hw2]; refine row_alloc ?_ _
    have := Row.new ((w.alloc (.cells ([.slice ab (bc l).length cb, .int .i64 (q0 : Int), .bool bad0] : List Value).toArray 52)).alloc (.cells (mc m s).toArray 33)) 52 [.slice none 0 0, .int .i64 0, .bool false]
    simpa using this
  have hz : Row w2 (w.heap.size + 1 + 1 + 1) 33 (mc zeroM sv0) := by
    rw [hw2]
    have := Row.new (((w.alloc (.cells ([.slice ab (bc l).length cb, .int .i64 (q0 : Int), .bool bad0] : List Value).toArray 52)).alloc (.cells (mc m s).toArray 33)).alloc (.cells ([.slice none 0 0, .int .i64 0, .bool false] : List Value).toArray 52)) 33 (mc zeroM sv0)
    simpa using this
  have B : Below w.heap.size w w2 := by rw [hw2]; exact ((((Below.refl _ w).alloc (Nat.le_refl _) _).alloc (by simp) _).alloc (by simp; omega) _).alloc (by simp; omega) _
  have hC : w.heap.size + 4 ≤ w2.heap.size := by rw [hw2]; simp
  go_enter Try.func18, Try.ntmps18
  go_upto_region 1 with fail
  have hw2' : (((w.alloc (.cells ([.slice ab (bc l).length cb, .int .i64 (q0 : Int), .bool bad0] : List Value).toArray 52)).alloc (.cells (mc m s).toArray 33)).alloc (.cells #[.slice none 0 0, .int .i64 0, .bool false] 52)).alloc (.cells #[.int .i64 0, .int .i64 0, .int .i64 0, .int .i64 0, .int .i64 0, .int .i64 0, .int .i64 0, .int .i64 0, .int .i64 0, .int .i64 0, .slice none 0 0, .slice none 0 0, .int .i64 0, .int .i64 0, .slice none 0 0, .slice none 0 0, .slice none 0 0, .slice none 0 0, .slice none 0 0, .slice none 0 0, .slice none 0 0, .slice none 0 0, .slice none 0 0] 33) = w2 := hw2.symm
  rw [hw2']
  clear hw2 hw2'
  have hG := lists14_any w2 _ l q0 bad0 m s (hrd.below B) hq0 hl hone.out (HZR.out.2.2 (by decide))
  have hone2 := (show Hid (∀ vp : Value, vp.oneCell' = true → ∀ v ∈ mc m { s with l := vp }, v.oneCell' = true) from fun vp h1 v hv => by
    have h2 : v = vp ∨ v ∈ mc m s := by
      simp only [mc, List.mem_cons, List.not_mem_nil, or_false] at hv ⊢
      grind
    rcases h2 with rfl | h2
    · exact h1
    · exact hone.out v h2)
  go_wp2_with (first
    | (refine wl_load rfl _ _ rfl w.heap.size rfl _ _ hs _ Try.underlying52 rfl (by kernel_rfl) ?_)
    | (refine wl_load rfl _ _ rfl (w.heap.size + 1) rfl _ _ hv _ Try.underlying33 rfl (by kernel_rfl) ?_)
    | (go_at_call 40; refine hG.mono ?_; rintro e w3 ⟨ys, vp, q1, bad1, rfl, hq1, hb3, hrl, he⟩; have ho3 := ho.below hb3; have hz3 := hz.below hb3; have hon := hone2.out vp hrl.one)
    | (refine wl_store rfl _ _ _ rfl (w.heap.size + 1 + 1) [.slice ab (bc l).length cb, .int .i64 (q1 : Int), .bool bad1] rfl rfl _ _ ho3 rfl (by kernel_rfl) (one_in rfl) ?_; intro w4 ho4 hg4; have hz4 := hz3.grown hg4 (fun h => by injection h; omega))
    | (refine wl_store rfl _ _ _ rfl (w.heap.size + 1 + 1 + 1) (mc m { s with l := vp }) rfl rfl _ _ hz4 rfl (by kernel_rfl) hon ?_; intro w5 hz5 hg5))
  have B3 := below_and B (Nat.le_refl _) hb3
  have B4 := below_grown B3 hg4 (by omega) B3.size
  have B5 := below_grown B4 hg5 (by omega) B4.size
  have ho5 := ho4.out.grown hg5 (fun h => by injection h; omega)
  have base := HSO.out.mv B5.size (show Mv G (GB G w) w w5 from fun k hk hlt => ⟨B5.block k hlt, .inl ⟨hk, hlt⟩⟩)
  have hrl : RL RRep 8 (GB G w) w5 vp ys := (((hrl.mv mov_rep (Nat.le_refl _) (Mv.weak hC)).mv mov_rep hg4.size (Mv.from hg4 (by omega) (Nat.le_refl _))).mv mov_rep hg5.size (Mv.from hg5 (by omega) (Nat.le_refl _))).mv mov_rep (Nat.le_refl _) (fun k hk _ => ⟨rfl, .inr (Nat.le_trans (by omega) hk)⟩)
  refine bodyPost_ret (results_cc rfl _ _ (w.heap.size + 1 + 1) (w.heap.size + 1 + 1 + 1) _ _ _ _ (0, 0) (0, 0) _ _ (by rfl) (by rfl) ho5 hz5.out Try.underlying52 rfl (by kernel_rfl) Try.underlying33 rfl (by kernel_rfl)) rfl ?_
  exact ⟨{ m with reps := ys }, { s with l := vp }, q1, bad1, rfl, hq1, B5, ⟨base.o, base.g, base.o', base.g', base.d, base.s, base.c, base.v, base.n, base.p, hrl⟩, ⟨fun h => absurd h (by decide), fun h => absurd h (by decide), fun h => absurd h (by decide)⟩, tag_read he⟩
end Go.Proofs.Ytjoikkhmijalmaa
end
