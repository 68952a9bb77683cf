/- The document's Decode. -/
import Derived.Test.YtgjepofinpmcpaaGreatDoorCBJ
import Derived.Test.YtgjepofinpmcpaaGreatDoorCBR
import Derived.Test.YtgjepofinpmcpaaGreatDoorCBS
import Derived.Test.YtgjepofinpmcpaaGreatDoorCBE
import Derived.Test.YtgjepofinpmcpaaGreatDoorCBP
import Derived.Test.YtgjepofinpmcpaaGreatDoorCBQ
import Derived.Test.YtgjepofinpmcpaaGreatDoorCBC
import Derived.Test.YtgjepofinpmcpaaGreatDoorCBI
section
set_option linter.unusedVariables false
set_option linter.unusedSimpArgs false
namespace Go.Proofs.YtgjepofinpmcpaaGreatDoor
open Go.RowKit Oct

set_option maxRecDepth 10000 in
set_option maxHeartbeats 4000000 in
theorem getField12_any (G : Nat → Prop) (w : World) (bv : Value) (l : List Int) (p : Nat) (bad : Bool) (m : PMsg) (s : SV) (hrd : Rd w bv l) (hp : p ≤ l.length) (hl : l.length ≤ 1048576) (hso : SOk G w m s) (hzr : Zr 12 s) :
    Calls Tryz.prog 49 #[.agg #[bv, .int .i64 (p : Int), .bool bad], .agg (mc m s).toArray, .int .i64 12] w (FPost G w bv l p bad m 12) := by
  obtain ⟨ab, cb, rfl, hcb⟩ := hrd.2.form
  obtain ⟨q0, bad0, hq0', hbad0⟩ : ∃ q0 bad0, q0 = p ∧ bad0 = bad := ⟨_, _, rfl, rfl⟩
  rw [← hq0', ← hbad0]
  have hq0 : q0 ≤ l.length := by omega
  clear hq0' hbad0 hp p bad
  have hone := (show Hid (∀ v ∈ mc m s, v.oneCell' = true) from hso.one)
  have HSO := (show Hid (SOk G w m s) from hso)
  have HZR := (show Hid (Zr 12 s) from hzr)
  clear hso hzr
  obtain ⟨w2, hw2⟩ : ∃ w2, w2 = (((w.alloc (.cells ([.slice ab (bc l).length cb, .int .i64 (q0 : Int), .bool bad0] : List Value).toArray 89)).alloc (.cells (mc m s).toArray 40)).alloc (.cells ([.slice none 0 0, .int .i64 0, .bool false] : List Value).toArray 89)).alloc (.cells (mc zeroM sv0).toArray 40) := ⟨_, rfl⟩
  have hs : Row w2 w.heap.size 89 [.slice ab (bc l).length cb, .int .i64 (q0 : Int), .bool bad0] := by rw [hw2]; exact row_alloc (row_alloc (row_alloc (Row.new w _ _) _) _) _
  have hv : Row w2 (w.heap.size + 1) 40 (mc m s) := by
    rw [hw2]; refine row_alloc (row_alloc ?_ _) _
    have := Row.new (w.alloc (.cells ([.slice ab (bc l).length cb, .int .i64 (q0 : Int), .bool bad0] : List Value).toArray 89)) 40 (mc m s)
    simpa using this
  have ho : Row w2 (w.heap.size + 1 + 1) 89 [.slice none 0 0, .int .i64 0, .bool false] := by
    rw [hw2]; refine row_alloc ?_ _
    have := Row.new ((w.alloc (.cells ([.slice ab (bc l).length cb, .int .i64 (q0 : Int), .bool bad0] : List Value).toArray 89)).alloc (.cells (mc m s).toArray 40)) 89 [.slice none 0 0, .int .i64 0, .bool false]
    simpa using this
  have hz : Row w2 (w.heap.size + 1 + 1 + 1) 40 (mc zeroM sv0) := by
    rw [hw2]
    have := Row.new (((w.alloc (.cells ([.slice ab (bc l).length cb, .int .i64 (q0 : Int), .bool bad0] : List Value).toArray 89)).alloc (.cells (mc m s).toArray 40)).alloc (.cells ([.slice none 0 0, .int .i64 0, .bool false] : List Value).toArray 89)) 40 (mc zeroM sv0)
    simpa using this
  have B : Below w.heap.size w w2 := by rw [hw2]; exact ((((Below.refl _ w).alloc (Nat.le_refl _) _).alloc (by simp) _).alloc (by simp; omega) _).alloc (by simp; omega) _
  have hC : w.heap.size + 4 ≤ w2.heap.size := by rw [hw2]; simp
  go_enter Tryz.func49, Tryz.ntmps49
  go_upto_region 1 with fail
  have hw2' : (((w.alloc (.cells ([.slice ab (bc l).length cb, .int .i64 (q0 : Int), .bool bad0] : List Value).toArray 89)).alloc (.cells (mc m s).toArray 40)).alloc (.cells #[.slice none 0 0, .int .i64 0, .bool false] 89)).alloc (.cells #[.int .i64 0, .int .i64 0, .int .i64 0, .int .i64 0, .int .i64 0, .int .i64 0, .int .i64 0, .int .i64 0, .int .i64 0, .int .i64 0, .slice none 0 0, .slice none 0 0, .int .i64 0, .int .i64 0, .slice none 0 0, .slice none 0 0, .slice none 0 0, .slice none 0 0, .slice none 0 0, .slice none 0 0, .slice none 0 0, .slice none 0 0, .slice none 0 0] 40) = w2 := hw2.symm
  rw [hw2']
  clear hw2 hw2'
  have hG := lists12_any w2 _ l q0 bad0 m s (hrd.below B) hq0 hl hone.out (HZR.out.1 (by decide))
  have hone2 := (show Hid (∀ vp : Value, vp.oneCell' = true → ∀ v ∈ mc m { s with n := vp }, v.oneCell' = true) from fun vp h1 v hv => by
    have h2 : v = vp ∨ v ∈ mc m s := by
      simp only [mc, List.mem_cons, List.not_mem_nil, or_false] at hv ⊢
      grind
    rcases h2 with rfl | h2
    · exact h1
    · exact hone.out v h2)
  go_wp2_with (first
    | (refine wl_load rfl _ _ rfl w.heap.size rfl _ _ hs _ Tryz.underlying89 rfl (by kernel_rfl) ?_)
    | (refine wl_load rfl _ _ rfl (w.heap.size + 1) rfl _ _ hv _ Tryz.underlying40 rfl (by kernel_rfl) ?_)
    | (go_at_call 84; refine hG.mono ?_; rintro e w3 ⟨ys, vp, q1, bad1, rfl, hq1, hb3, hrl, he⟩; have ho3 := ho.below hb3; have hz3 := hz.below hb3; have hon := hone2.out vp hrl.one)
    | (refine wl_store rfl _ _ _ rfl (w.heap.size + 1 + 1) [.slice ab (bc l).length cb, .int .i64 (q1 : Int), .bool bad1] rfl rfl _ _ ho3 rfl (by kernel_rfl) (one_in rfl) ?_; intro w4 ho4 hg4; have hz4 := hz3.grown hg4 (fun h => by injection h; omega))
    | (refine wl_store rfl _ _ _ rfl (w.heap.size + 1 + 1 + 1) (mc m { s with n := vp }) rfl rfl _ _ hz4 rfl (by kernel_rfl) hon ?_; intro w5 hz5 hg5))
  have B3 := below_and B (Nat.le_refl _) hb3
  have B4 := below_grown B3 hg4 (by omega) B3.size
  have B5 := below_grown B4 hg5 (by omega) B4.size
  have ho5 := ho4.out.grown hg5 (fun h => by injection h; omega)
  have base := HSO.out.mv B5.size (show Mv G (GB G w) w w5 from fun k hk hlt => ⟨B5.block k hlt, .inl ⟨hk, hlt⟩⟩)
  have hrl : RL RInt 1 (GB G w) w5 vp ys := (((hrl.mv mov_int (Nat.le_refl _) (Mv.weak hC)).mv mov_int hg4.size (Mv.from hg4 (by omega) (Nat.le_refl _))).mv mov_int hg5.size (Mv.from hg5 (by omega) (Nat.le_refl _))).mv mov_int (Nat.le_refl _) (fun k hk _ => ⟨rfl, .inr (Nat.le_trans (by omega) hk)⟩)
  refine bodyPost_ret (results_cc rfl _ _ (w.heap.size + 1 + 1) (w.heap.size + 1 + 1 + 1) _ _ _ _ (0, 0) (0, 0) _ _ (by rfl) (by rfl) ho5 hz5.out Tryz.underlying89 rfl (by kernel_rfl) Tryz.underlying40 rfl (by kernel_rfl)) rfl ?_
  exact ⟨{ m with order := ys }, { s with n := vp }, q1, bad1, rfl, hq1, B5, ⟨base.o, base.g, base.o', base.g', base.d, base.s, base.c, base.v, hrl, base.p, base.l⟩, ⟨fun h => absurd h (by decide), fun _ => HZR.out.2.1 (by decide), fun _ => HZR.out.2.2 (by decide)⟩, tag_read he⟩
set_option maxRecDepth 10000 in
set_option maxHeartbeats 4000000 in
theorem getField13_any (G : Nat → Prop) (w : World) (bv : Value) (l : List Int) (p : Nat) (bad : Bool) (m : PMsg) (s : SV) (hrd : Rd w bv l) (hp : p ≤ l.length) (hl : l.length ≤ 1048576) (hso : SOk G w m s) (hzr : Zr 13 s) :
    Calls Tryz.prog 49 #[.agg #[bv, .int .i64 (p : Int), .bool bad], .agg (mc m s).toArray, .int .i64 13] w (FPost G w bv l p bad m 13) := by
  obtain ⟨ab, cb, rfl, hcb⟩ := hrd.2.form
  obtain ⟨q0, bad0, hq0', hbad0⟩ : ∃ q0 bad0, q0 = p ∧ bad0 = bad := ⟨_, _, rfl, rfl⟩
  rw [← hq0', ← hbad0]
  have hq0 : q0 ≤ l.length := by omega
  clear hq0' hbad0 hp p bad
  have hone := (show Hid (∀ v ∈ mc m s, v.oneCell' = true) from hso.one)
  have HSO := (show Hid (SOk G w m s) from hso)
  have HZR := (show Hid (Zr 13 s) from hzr)
  clear hso hzr
  obtain ⟨w2, hw2⟩ : ∃ w2, w2 = (((w.alloc (.cells ([.slice ab (bc l).length cb, .int .i64 (q0 : Int), .bool bad0] : List Value).toArray 89)).alloc (.cells (mc m s).toArray 40)).alloc (.cells ([.slice none 0 0, .int .i64 0, .bool false] : List Value).toArray 89)).alloc (.cells (mc zeroM sv0).toArray 40) := ⟨_, rfl⟩
  have hs : Row w2 w.heap.size 89 [.slice ab (bc l).length cb, .int .i64 (q0 : Int), .bool bad0] := by rw [hw2]; exact row_alloc (row_alloc (row_alloc (Row.new w _ _) _) _) _
  have hv : Row w2 (w.heap.size + 1) 40 (mc m s) := by
    rw [hw2]; refine row_alloc (row_alloc ?_ _) _
    have := Row.new (w.alloc (.cells ([.slice ab (bc l).length cb, .int .i64 (q0 : Int), .bool bad0] : List Value).toArray 89)) 40 (mc m s)
    simpa using this
  have ho : Row w2 (w.heap.size + 1 + 1) 89 [.slice none 0 0, .int .i64 0, .bool false] := by
    rw [hw2]; refine row_alloc ?_ _
    have := Row.new ((w.alloc (.cells ([.slice ab (bc l).length cb, .int .i64 (q0 : Int), .bool bad0] : List Value).toArray 89)).alloc (.cells (mc m s).toArray 40)) 89 [.slice none 0 0, .int .i64 0, .bool false]
    simpa using this
  have hz : Row w2 (w.heap.size + 1 + 1 + 1) 40 (mc zeroM sv0) := by
    rw [hw2]
    have := Row.new (((w.alloc (.cells ([.slice ab (bc l).length cb, .int .i64 (q0 : Int), .bool bad0] : List Value).toArray 89)).alloc (.cells (mc m s).toArray 40)).alloc (.cells ([.slice none 0 0, .int .i64 0, .bool false] : List Value).toArray 89)) 40 (mc zeroM sv0)
    simpa using this
  have B : Below w.heap.size w w2 := by rw [hw2]; exact ((((Below.refl _ w).alloc (Nat.le_refl _) _).alloc (by simp) _).alloc (by simp; omega) _).alloc (by simp; omega) _
  have hC : w.heap.size + 4 ≤ w2.heap.size := by rw [hw2]; simp
  go_enter Tryz.func49, Tryz.ntmps49
  go_upto_region 1 with fail
  have hw2' : (((w.alloc (.cells ([.slice ab (bc l).length cb, .int .i64 (q0 : Int), .bool bad0] : List Value).toArray 89)).alloc (.cells (mc m s).toArray 40)).alloc (.cells #[.slice none 0 0, .int .i64 0, .bool false] 89)).alloc (.cells #[.int .i64 0, .int .i64 0, .int .i64 0, .int .i64 0, .int .i64 0, .int .i64 0, .int .i64 0, .int .i64 0, .int .i64 0, .int .i64 0, .slice none 0 0, .slice none 0 0, .int .i64 0, .int .i64 0, .slice none 0 0, .slice none 0 0, .slice none 0 0, .slice none 0 0, .slice none 0 0, .slice none 0 0, .slice none 0 0, .slice none 0 0, .slice none 0 0] 40) = w2 := hw2.symm
  rw [hw2']
  clear hw2 hw2'
  have hG := lists13_any w2 _ l q0 bad0 m s (hrd.below B) hq0 hl hone.out (HZR.out.2.1 (by decide))
  have hone2 := (show Hid (∀ vp : Value, vp.oneCell' = true → ∀ v ∈ mc m { s with p := vp }, v.oneCell' = true) from fun vp h1 v hv => by
    have h2 : v = vp ∨ v ∈ mc m s := by
      simp only [mc, List.mem_cons, List.not_mem_nil, or_false] at hv ⊢
      grind
    rcases h2 with rfl | h2
    · exact h1
    · exact hone.out v h2)
  go_wp2_with (first
    | (refine wl_load rfl _ _ rfl w.heap.size rfl _ _ hs _ Tryz.underlying89 rfl (by kernel_rfl) ?_)
    | (refine wl_load rfl _ _ rfl (w.heap.size + 1) rfl _ _ hv _ Tryz.underlying40 rfl (by kernel_rfl) ?_)
    | (go_at_call 84; refine hG.mono ?_; rintro e w3 ⟨ys, vp, q1, bad1, rfl, hq1, hb3, hrl, he⟩; have ho3 := ho.below hb3; have hz3 := hz.below hb3; have hon := hone2.out vp hrl.one)
    | (refine wl_store rfl _ _ _ rfl (w.heap.size + 1 + 1) [.slice ab (bc l).length cb, .int .i64 (q1 : Int), .bool bad1] rfl rfl _ _ ho3 rfl (by kernel_rfl) (one_in rfl) ?_; intro w4 ho4 hg4; have hz4 := hz3.grown hg4 (fun h => by injection h; omega))
    | (refine wl_store rfl _ _ _ rfl (w.heap.size + 1 + 1 + 1) (mc m { s with p := vp }) rfl rfl _ _ hz4 rfl (by kernel_rfl) hon ?_; intro w5 hz5 hg5))
  have B3 := below_and B (Nat.le_refl _) hb3
  have B4 := below_grown B3 hg4 (by omega) B3.size
  have B5 := below_grown B4 hg5 (by omega) B4.size
  have ho5 := ho4.out.grown hg5 (fun h => by injection h; omega)
  have base := HSO.out.mv B5.size (show Mv G (GB G w) w w5 from fun k hk hlt => ⟨B5.block k hlt, .inl ⟨hk, hlt⟩⟩)
  have hrl : RL RReq 4 (GB G w) w5 vp ys := (((hrl.mv mov_req (Nat.le_refl _) (Mv.weak hC)).mv mov_req hg4.size (Mv.from hg4 (by omega) (Nat.le_refl _))).mv mov_req hg5.size (Mv.from hg5 (by omega) (Nat.le_refl _))).mv mov_req (Nat.le_refl _) (fun k hk _ => ⟨rfl, .inr (Nat.le_trans (by omega) hk)⟩)
  refine bodyPost_ret (results_cc rfl _ _ (w.heap.size + 1 + 1) (w.heap.size + 1 + 1 + 1) _ _ _ _ (0, 0) (0, 0) _ _ (by rfl) (by rfl) ho5 hz5.out Tryz.underlying89 rfl (by kernel_rfl) Tryz.underlying40 rfl (by kernel_rfl)) rfl ?_
  exact ⟨{ m with picks := ys }, { s with p := vp }, q1, bad1, rfl, hq1, B5, ⟨base.o, base.g, base.o', base.g', base.d, base.s, base.c, base.v, base.n, hrl, base.l⟩, ⟨fun h => absurd h (by decide), fun h => absurd h (by decide), fun _ => HZR.out.2.2 (by decide)⟩, tag_read he⟩
set_option maxRecDepth 10000 in
set_option maxHeartbeats 4000000 in
theorem getField14_any (G : Nat → Prop) (w : World) (bv : Value) (l : List Int) (p : Nat) (bad : Bool) (m : PMsg) (s : SV) (hrd : Rd w bv l) (hp : p ≤ l.length) (hl : l.length ≤ 1048576) (hso : SOk G w m s) (hzr : Zr 14 s) :
    Calls Tryz.prog 49 #[.agg #[bv, .int .i64 (p : Int), .bool bad], .agg (mc m s).toArray, .int .i64 14] w (FPost G w bv l p bad m 14) := by
  obtain ⟨ab, cb, rfl, hcb⟩ := hrd.2.form
  obtain ⟨q0, bad0, hq0', hbad0⟩ : ∃ q0 bad0, q0 = p ∧ bad0 = bad := ⟨_, _, rfl, rfl⟩
  rw [← hq0', ← hbad0]
  have hq0 : q0 ≤ l.length := by omega
  clear hq0' hbad0 hp p bad
  have hone := (show Hid (∀ v ∈ mc m s, v.oneCell' = true) from hso.one)
  have HSO := (show Hid (SOk G w m s) from hso)
  have HZR := (show Hid (Zr 14 s) from hzr)
  clear hso hzr
  obtain ⟨w2, hw2⟩ : ∃ w2, w2 = (((w.alloc (.cells ([.slice ab (bc l).length cb, .int .i64 (q0 : Int), .bool bad0] : List Value).toArray 89)).alloc (.cells (mc m s).toArray 40)).alloc (.cells ([.slice none 0 0, .int .i64 0, .bool false] : List Value).toArray 89)).alloc (.cells (mc zeroM sv0).toArray 40) := ⟨_, rfl⟩
  have hs : Row w2 w.heap.size 89 [.slice ab (bc l).length cb, .int .i64 (q0 : Int), .bool bad0] := by rw [hw2]; exact row_alloc (row_alloc (row_alloc (Row.new w _ _) _) _) _
  have hv : Row w2 (w.heap.size + 1) 40 (mc m s) := by
    rw [hw2]; refine row_alloc (row_alloc ?_ _) _
    have := Row.new (w.alloc (.cells ([.slice ab (bc l).length cb, .int .i64 (q0 : Int), .bool bad0] : List Value).toArray 89)) 40 (mc m s)
    simpa using this
  have ho : Row w2 (w.heap.size + 1 + 1) 89 [.slice none 0 0, .int .i64 0, .bool false] := by
    rw [hw2]; refine row_alloc ?_ _
    have := Row.new ((w.alloc (.cells ([.slice ab (bc l).length cb, .int .i64 (q0 : Int), .bool bad0] : List Value).toArray 89)).alloc (.cells (mc m s).toArray 40)) 89 [.slice none 0 0, .int .i64 0, .bool false]
    simpa using this
  have hz : Row w2 (w.heap.size + 1 + 1 + 1) 40 (mc zeroM sv0) := by
    rw [hw2]
    have := Row.new (((w.alloc (.cells ([.slice ab (bc l).length cb, .int .i64 (q0 : Int), .bool bad0] : List Value).toArray 89)).alloc (.cells (mc m s).toArray 40)).alloc (.cells ([.slice none 0 0, .int .i64 0, .bool false] : List Value).toArray 89)) 40 (mc zeroM sv0)
    simpa using this
  have B : Below w.heap.size w w2 := by rw [hw2]; exact ((((Below.refl _ w).alloc (Nat.le_refl _) _).alloc (by simp) _).alloc (by simp; omega) _).alloc (by simp; omega) _
  have hC : w.heap.size + 4 ≤ w2.heap.size := by rw [hw2]; simp
  go_enter Tryz.func49, Tryz.ntmps49
  go_upto_region 1 with fail
  have hw2' : (((w.alloc (.cells ([.slice ab (bc l).length cb, .int .i64 (q0 : Int), .bool bad0] : List Value).toArray 89)).alloc (.cells (mc m s).toArray 40)).alloc (.cells #[.slice none 0 0, .int .i64 0, .bool false] 89)).alloc (.cells #[.int .i64 0, .int .i64 0, .int .i64 0, .int .i64 0, .int .i64 0, .int .i64 0, .int .i64 0, .int .i64 0, .int .i64 0, .int .i64 0, .slice none 0 0, .slice none 0 0, .int .i64 0, .int .i64 0, .slice none 0 0, .slice none 0 0, .slice none 0 0, .slice none 0 0, .slice none 0 0, .slice none 0 0, .slice none 0 0, .slice none 0 0, .slice none 0 0] 40) = w2 := hw2.symm
  rw [hw2']
  clear hw2 hw2'
  have hG := lists14_any w2 _ l q0 bad0 m s (hrd.below B) hq0 hl hone.out (HZR.out.2.2 (by decide))
  have hone2 := (show Hid (∀ vp : Value, vp.oneCell' = true → ∀ v ∈ mc m { s with l := vp }, v.oneCell' = true) from fun vp h1 v hv => by
    have h2 : v = vp ∨ v ∈ mc m s := by
      simp only [mc, List.mem_cons, List.not_mem_nil, or_false] at hv ⊢
      grind
    rcases h2 with rfl | h2
    · exact h1
    · exact hone.out v h2)
  go_wp2_with (first
    | (refine wl_load rfl _ _ rfl w.heap.size rfl _ _ hs _ Tryz.underlying89 rfl (by kernel_rfl) ?_)
    | (refine wl_load rfl _ _ rfl (w.heap.size + 1) rfl _ _ hv _ Tryz.underlying40 rfl (by kernel_rfl) ?_)
    | (go_at_call 84; refine hG.mono ?_; rintro e w3 ⟨ys, vp, q1, bad1, rfl, hq1, hb3, hrl, he⟩; have ho3 := ho.below hb3; have hz3 := hz.below hb3; have hon := hone2.out vp hrl.one)
    | (refine wl_store rfl _ _ _ rfl (w.heap.size + 1 + 1) [.slice ab (bc l).length cb, .int .i64 (q1 : Int), .bool bad1] rfl rfl _ _ ho3 rfl (by kernel_rfl) (one_in rfl) ?_; intro w4 ho4 hg4; have hz4 := hz3.grown hg4 (fun h => by injection h; omega))
    | (refine wl_store rfl _ _ _ rfl (w.heap.size + 1 + 1 + 1) (mc m { s with l := vp }) rfl rfl _ _ hz4 rfl (by kernel_rfl) hon ?_; intro w5 hz5 hg5))
  have B3 := below_and B (Nat.le_refl _) hb3
  have B4 := below_grown B3 hg4 (by omega) B3.size
  have B5 := below_grown B4 hg5 (by omega) B4.size
  have ho5 := ho4.out.grown hg5 (fun h => by injection h; omega)
  have base := HSO.out.mv B5.size (show Mv G (GB G w) w w5 from fun k hk hlt => ⟨B5.block k hlt, .inl ⟨hk, hlt⟩⟩)
  have hrl : RL RRep 8 (GB G w) w5 vp ys := (((hrl.mv mov_rep (Nat.le_refl _) (Mv.weak hC)).mv mov_rep hg4.size (Mv.from hg4 (by omega) (Nat.le_refl _))).mv mov_rep hg5.size (Mv.from hg5 (by omega) (Nat.le_refl _))).mv mov_rep (Nat.le_refl _) (fun k hk _ => ⟨rfl, .inr (Nat.le_trans (by omega) hk)⟩)
  refine bodyPost_ret (results_cc rfl _ _ (w.heap.size + 1 + 1) (w.heap.size + 1 + 1 + 1) _ _ _ _ (0, 0) (0, 0) _ _ (by rfl) (by rfl) ho5 hz5.out Tryz.underlying89 rfl (by kernel_rfl) Tryz.underlying40 rfl (by kernel_rfl)) rfl ?_
  exact ⟨{ m with reps := ys }, { s with l := vp }, q1, bad1, rfl, hq1, B5, ⟨base.o, base.g, base.o', base.g', base.d, base.s, base.c, base.v, base.n, base.p, hrl⟩, ⟨fun h => absurd h (by decide), fun h => absurd h (by decide), fun h => absurd h (by decide)⟩, tag_read he⟩
end Go.Proofs.YtgjepofinpmcpaaGreatDoor
end

section
set_option linter.unusedVariables false
set_option linter.unusedSimpArgs false
namespace Go.Proofs.YtgjepofinpmcpaaGreatDoor
open Go.RowKit Oct

theorem getField_any (G : Nat → Prop) (w : World) (bv : Value) (l : List Int) (p : Nat) (bad : Bool) (m : PMsg) (s : SV) (i : Nat) (hi : i < 15) (hrd : Rd w bv l) (hp : p ≤ l.length) (hl : l.length ≤ 1048576) (hso : SOk G w m s) (hzr : Zr i s) :
    Calls Tryz.prog 49 #[.agg #[bv, .int .i64 (p : Int), .bool bad], .agg (mc m s).toArray, .int .i64 (i : Int)] w (FPost G w bv l p bad m i) := by
  rcases lt15 hi with rfl | rfl | rfl | rfl | rfl | rfl | rfl | rfl | rfl | rfl | rfl | rfl | rfl | rfl | rfl
  · exact getField0_any G w bv l p bad m s hrd hp hl hso hzr
  · exact getField1_any G w bv l p bad m s hrd hp hl hso hzr
  · exact getField2_any G w bv l p bad m s hrd hp hl hso hzr
  · exact getField3_any G w bv l p bad m s hrd hp hl hso hzr
  · exact getField4_any G w bv l p bad m s hrd hp hl hso hzr
  · exact getField5_any G w bv l p bad m s hrd hp hl hso hzr
  · exact getField6_any G w bv l p bad m s hrd hp hl hso hzr
  · exact getField7_any G w bv l p bad m s hrd hp hl hso hzr
  · exact getField8_any G w bv l p bad m s hrd hp hl hso hzr
  · exact getField9_any G w bv l p bad m s hrd hp hl hso hzr
  · exact getField10_any G w bv l p bad m s hrd hp hl hso hzr
  · exact getField11_any G w bv l p bad m s hrd hp hl hso hzr
  · exact getField12_any G w bv l p bad m s hrd hp hl hso hzr
  · exact getField13_any G w bv l p bad m s hrd hp hl hso hzr
  · exact getField14_any G w bv l p bad m s hrd hp hl hso hzr
/-- The fields below q. -/
def fsq (k : Int) (q : Nat) : List Nat := (List.range q).filter fun i => (fl k).contains i
theorem fsq_yes {k : Int} {q : Nat} (h : (fl k).contains q = true) : fsq k (q + 1) = fsq k q ++ [q] := by
  unfold fsq
  rw [List.range_succ, List.filter_append]
  simp only [List.filter_cons, h, if_true, List.filter_nil]
theorem fsq_no {k : Int} {q : Nat} (h : (fl k).contains q = false) : fsq k (q + 1) = fsq k q := by
  unfold fsq
  rw [List.range_succ, List.filter_append]
  simp only [List.filter_cons, h, List.filter_nil, Bool.false_eq_true, if_false, List.append_nil]
theorem fsq_all (k : Int) : fsq k 15 = fl k := by
  rcases fl_cases k with rfl | rfl | rfl | rfl | rfl | rfl | rfl | rfl | rfl | rfl | rfl | rfl | rfl | rfl | rfl | rfl | rfl | rfl | rfl | e
  all_goals first | decide | skip
  unfold fsq
  rw [e]
  simp
theorem field_step {l : List Int} {p pq pr : Nat} {b bq br : Bool} {fs : List Nat} {m0 mq mr : PMsg} {i : Nat} (h : (stL l p b).bind (rdFs fs m0) = (stL l pq bq).map fun r => (mq, r)) (h2 : (stL l pq bq).bind (fun r => ((cF i).rd r).map fun x => (set mq i x.1, x.2)) = (stL l pr br).map fun r => (mr, r)) :
    (stL l p b).bind (rdFs (fs ++ [i]) m0) = (stL l pr br).map fun r => (mr, r) := by
  have e : rdFs (fs ++ [i]) m0 = fun l => (rdFs fs m0 l).bind fun x => rdFs [i] x.1 x.2 := funext fun l => rdFs_app fs [i] m0 l
  rw [e, ← Option.bind_assoc, h, ← h2]
  cases stL l pq bq with
  | none => rfl
  | some t =>
    simp only [Option.map_some, Option.bind_some, rdFs]
    cases (cF i).rd t <;> rfl
theorem marksD_at {k : Int} {q : Nat} (h : q < 15) : (marks k)[q]? = some (.bool ((fl k).contains q)) := by
  simp [marks, h]
theorem marksD_len (k : Int) : (marks k).length = 15 := by simp [marks]
theorem marksD_one (k : Int) : ∀ v ∈ marks k, v.oneCell' = true := by
  intro v hv
  unfold marks at hv
  obtain ⟨i, _, rfl⟩ := List.mem_map.1 hv
  rfl
/-- What the document's Decode ends in. -/
def RDec (l : List Int) (w : World) (e : Ending) (w' : World) : Prop := ∃ s', e = .returned (.tuple #[.agg (mc (decM l) s').toArray, .int .i64 (decE l)]) ∧ SOk Any w' (decM l) s' ∧ Below w.heap.size w w'
theorem rdec_none {l : List Int} (hl : l.length ≤ 1048576) (h : rdM l = none) : decM l = zeroM ∧ decE l = 51 := by
  unfold decM decE
  rw [if_neg (by omega), if_neg (by omega), h]
  exact ⟨rfl, rfl⟩
theorem rdec_some {l : List Int} {m : PMsg} (hl : l.length ≤ 1048576) (h : rdM l = some m) : decM l = m ∧ decE l = 0 := by
  unfold decM decE
  rw [if_neg (by omega), if_neg (by omega), h]
  exact ⟨rfl, rfl⟩
theorem rdM_n1 {l : List Int} (h : cN.rd l = none) : rdM l = none := by unfold rdM rdG; rw [h]; rfl
theorem rdM_n2 {l r : List Int} {k : Int} (h : cN.rd l = some (k, r)) (he : (fl k).isEmpty = true) : rdM l = none := by
  unfold rdM rdG
  rw [h]
  simp only [Option.bind_some, he, if_true, Option.bind_none]
theorem rdM_end {l r : List Int} {k : Int} (h : cN.rd l = some (k, r)) (he : (fl k).isEmpty = false) : rdM l = (rdFs (fl k) { zeroM with kind := k } r).bind fun y => if y.2.isEmpty = true then some y.1 else none := by
  unfold rdM rdG
  rw [h]
  simp only [Option.bind_some, he, Bool.false_eq_true, if_false]
theorem st_zero {l : List Int} : stL l 0 false = some l := by unfold stL; simp
set_option maxRecDepth 10000 in
set_option maxHeartbeats 4000000 in
theorem refDecode_any (w : World) (bv : Value) (l : List Int) (hrd : Rd w bv l) : Calls Tryz.prog 24 #[bv] w (RDec l w) := by
  obtain ⟨ab, cb, rfl, hcb⟩ := hrd.2.form
  obtain ⟨w1, hw1⟩ : ∃ w1, w1 = w.alloc (.cells (mc zeroM sv0).toArray 40) := ⟨_, rfl⟩
  have r1 : Row w1 w.heap.size 40 (mc zeroM sv0) := by rw [hw1]; exact Row.new w _ _
  have B1 : Below w.heap.size w w1 := by rw [hw1]; exact below_alloc _ _
  have hz1 : w1.heap.size = w.heap.size + 1 := by rw [hw1]; simp
  have hlen := hrd.len
  obtain ⟨N, hN⟩ : ∃ N, N = l.length := ⟨_, rfl⟩
  have hone0 : ∀ v ∈ mc zeroM sv0, v.oneCell' = true := (SOk.zero Any w 0).one
  have hbm := build_msg
  have HN := (show Hid (l.length = N) from hN.symm)
  have ebl : (bc l).length = N := by rw [bc_len]; exact HN.out
  rw [ebl] at hrd ⊢
  have hNm : (N : Int) ≤ 9223372036854775807 := by omega
  clear hN hlen ebl
  have wz : (w.alloc (.cells #[.int .i64 0, .int .i64 0, .int .i64 0, .int .i64 0, .int .i64 0, .int .i64 0, .int .i64 0, .int .i64 0, .int .i64 0, .int .i64 0, .slice none 0 0, .slice none 0 0, .int .i64 0, .int .i64 0, .slice none 0 0, .slice none 0 0, .slice none 0 0, .slice none 0 0, .slice none 0 0, .slice none 0 0, .slice none 0 0, .slice none 0 0, .slice none 0 0] 40)) = w1 := hw1.symm
  clear hw1
  by_cases hmany : (1048576 : Int) < N
  · have e1 : decM l = zeroM ∧ decE l = 53 := by
      unfold decM decE
      have := HN.out
      rw [if_pos (by omega), if_pos (by omega)]
      exact ⟨rfl, rfl⟩
    have HE := (show Hid (decM l = zeroM ∧ decE l = 53) from e1)
    clear e1
    go_enter Tryz.func24, Tryz.ntmps24
    go_upto_region 1 with fail
    try rw [wz]
    clear wz
    go_wp2_with (refine wl_store rfl _ _ _ rfl w.heap.size (mc zeroM sv0) rfl rfl _ _ r1 rfl (by kernel_rfl) hone0 ?_; intro w5 hr5 hg5)
    refine bodyPost_ret (results_ct rfl _ _ w.heap.size _ _ (0, 0) _ (by rfl) hr5.out Tryz.underlying40 rfl (by kernel_rfl)) rfl ?_
    refine ⟨sv0, by rw [HE.out.1, HE.out.2]; rfl, by rw [HE.out.1]; exact SOk.zero Any w5 0, below_grown B1 hg5 (Nat.le_refl _) (by omega)⟩
  have hl : l.length ≤ 1048576 := by have := HN.out; omega
  have HL := (show Hid (l.length ≤ 1048576) from hl)
  have hmany' : decide ((1048576 : Int) < N) = false := decide_eq_false hmany
  have n1 := Row.new w1 40 (mc zeroM sv0)
  obtain ⟨bm, hbm'⟩ : ∃ bm, bm = w1.heap.size := ⟨_, rfl⟩
  have hbmw : w.heap.size + 1 ≤ bm := by omega
  clear hz1
  go_enter Tryz.func24, Tryz.ntmps24
  go_upto_region 1 with fail
  try rw [wz]
  clear wz
  go_upto_region 4 with (refine wl_store rfl _ _ _ rfl w1.heap.size (mc zeroM sv0) rfl rfl _ _ n1 rfl (by kernel_rfl) hone0 ?_; intro w2 hm2 hg2)
  have hb12 : Below w1.heap.size w1 w2 := (below_alloc w1 (.cells (mc zeroM sv0).toArray 40)).trans (grown_below hg2 (by simp) (fun k hk => by cases hk; exact Nat.le_refl _))
  have B2 := below_and B1 (Nat.le_refl _) hb12
  have r2 := r1.below hb12
  have m2 := hm2.out
  rw [← hbm'] at m2 ⊢
  have hz2 : bm + 1 ≤ w2.heap.size := m2.lt
  clear hbm' hm2 hg2 hb12 n1 r1 B1
  have hG : Calls Tryz.prog 46 #[.agg #[.slice ab N cb, .int .i64 0, .bool false]] w2 (GPost cN VN w2 (.slice ab N cb) l 0 false) := getNum_any w2 _ l 0 false (hrd.below B2) (Nat.zero_le _) hl
  go_upto_region 5 with (first
    | (go_at_call 46; refine hG.mono ?_; rintro e wa ⟨kd, vk, p1, b1, rfl, hp1, hba, rfl, he⟩; have hn1 := Row.new wa 89 [.slice none 0 0, .int .i64 0, .bool false])
    | (refine wl_store rfl _ _ _ rfl wa.heap.size [.slice ab N cb, .int .i64 (p1 : Int), .bool b1] rfl rfl _ _ hn1 rfl (by kernel_rfl) (one_in rfl) ?_; intro w4 hs4 hg4))
  have hb4 : Below wa.heap.size wa w4 := (below_alloc wa (.cells ([.slice none 0 0, .int .i64 0, .bool false] : List Value).toArray 89)).trans (grown_below hg4 (by simp) (fun k hk => by cases hk; exact Nat.le_refl _))
  have hb24 := below_and hba (Nat.le_refl _) hb4
  have B4 := below_and B2 (Nat.le_refl _) hb24
  have hs4 := hs4.out
  have m4 := m2.below hb24
  have r4 := r2.below hb24
  obtain ⟨bs, hbs⟩ : ∃ bs, bs = wa.heap.size := ⟨_, rfl⟩
  have hbs2 : bm + 1 ≤ bs := by rw [hbs]; exact Nat.le_trans hz2 hba.size
  have hbs4 : bs < w4.heap.size := by rw [hbs]; exact hs4.lt
  rw [← hbs] at hs4 ⊢
  have HE0 := (show Hid (cN.rd l = (stL l p1 b1).map fun r => (kd, r)) by show _ = _; rw [← he, st_zero]; rfl)
  clear hbs he hg4 hb4 hb24 hba hn1 m2 r2 B2 hG
  go_upto_region 6 with (refine wl_set rfl _ _ _ rfl bm 0 _ rfl rfl _ _ m4 (show 0 < 23 by decide) (by kernel_rfl) rfl ?_; intro w5 m5 hg5)
  have m5 : Row w5 bm 40 (mc { zeroM with kind := kd } sv0) := m5.out
  have hs5 := hs4.grown hg5 (fun h => by injection h; omega)
  have r5 := r4.grown hg5 (fun h => by injection h; omega)
  have B5 := below_grown B4 hg5 (by omega) B4.size
  have hbs5 : bs < w5.heap.size := Nat.lt_of_lt_of_le hbs4 hg5.size
  have c2 := hs5.cell (j := 2) rfl
  clear hs4 r4 B4 m4 hg5 hbs4
  cases b1 with
  | true =>
    have HE := (show Hid (decM l = zeroM ∧ decE l = 51) from rdec_none HL.out (rdM_n1 HE0.out))
    go_wp2_with (first
      | (refine wl_store rfl _ _ _ rfl w.heap.size (mc zeroM sv0) rfl rfl _ _ r5 rfl (by kernel_rfl) hone0 ?_; intro w9 hr9 hg9))
    refine bodyPost_ret (results_ct rfl _ _ w.heap.size _ _ (0, 0) _ (by rfl) hr9.out Tryz.underlying40 rfl (by kernel_rfl)) rfl ?_
    exact ⟨sv0, by rw [HE.out.1, HE.out.2]; rfl, by rw [HE.out.1]; exact SOk.zero Any w9 0, below_grown B5 hg9 (Nat.le_refl _) B5.size⟩
  | false =>
    have HE1 := (show Hid (cN.rd l = some (kd, l.drop p1)) from HE0.out)
    have hK := refKnown_any w5 kd
    cases hem : (fl kd).isEmpty with
    | true =>
      have HE := (show Hid (decM l = zeroM ∧ decE l = 51) from rdec_none HL.out (rdM_n2 HE1.out hem))
      rw [hem] at hK
      clear hem
      go_wp2_with (first
        | (refine wl_store rfl _ _ _ rfl w.heap.size (mc zeroM sv0) rfl rfl _ _ r5 rfl (by kernel_rfl) hone0 ?_; intro w9 hr9 hg9)
              | (go_at_call 47; refine hK.mono ?_; rintro e w5 ⟨rfl, rfl⟩))
      refine bodyPost_ret (results_ct rfl _ _ w.heap.size _ _ (0, 0) _ (by rfl) hr9.out Tryz.underlying40 rfl (by kernel_rfl)) rfl ?_
      exact ⟨sv0, by rw [HE.out.1, HE.out.2]; rfl, by rw [HE.out.1]; exact SOk.zero Any w9 0, below_grown B5 hg9 (Nat.le_refl _) B5.size⟩
    | false =>
      rw [hem] at hK
      have HEND := (show Hid (rdM l = (rdFs (fl kd) { zeroM with kind := kd } (l.drop p1)).bind fun y => if y.2.isEmpty = true then some y.1 else none) from rdM_end HE1.out hem)
      have hne : fl kd ≠ [] := by intro e; rw [e] at hem; cases hem
      have HF := refFields_any w5 kd hne
      obtain ⟨mk, hmk⟩ : ∃ mk, mk = marks kd := ⟨_, rfl⟩
      have hml : mk.length = 15 := by rw [hmk]; exact marksD_len _
      have hmo : ∀ v ∈ mk, v.oneCell' = true := by rw [hmk]; exact marksD_one _
      have HMK := (show Hid (∀ q, q < 15 → mk[q]? = some (.bool ((fl kd).contains q))) from fun q hq => by rw [hmk]; exact marksD_at hq)
      rw [← hmk] at HF
      clear hmk hem hne
      go_upto_region 8 with (go_at_call 47; refine hK.mono ?_; rintro e w5 ⟨rfl, rfl⟩)
      go_upto_region 9 with (first
        | (go_at_call 48; refine HF.mono ?_; rintro e w6 ⟨rfl, hb6⟩; have n6 := Row.new w6 92 no15)
        | (refine wl_store rfl _ _ _ rfl w6.heap.size mk rfl rfl _ _ n6 (by rw [hml]; rfl) (by rw [hml]; kernel_rfl) hmo ?_; intro w7 hr7 hg7))
      have q7 : Below w6.heap.size w6 w7 := (below_alloc w6 (.cells no15.toArray 92)).trans (grown_below hg7 (by simp) (fun k hk => by cases hk; exact Nat.le_refl _))
      have q57 := below_and hb6 (Nat.le_refl _) q7
      have B7 := below_and B5 (Nat.le_refl _) q57
      have m7 := m5.below q57
      have s7 := hs5.below q57
      have r7 := r5.below q57
      have h7 := hr7.out
      obtain ⟨bh, hbh⟩ : ∃ bh, bh = w6.heap.size := ⟨_, rfl⟩
      have hbhs : bs < bh := by rw [hbh]; exact Nat.lt_of_lt_of_le hbs5 hb6.size
      rw [← hbh] at h7 ⊢
      have hD7 : bh + 1 ≤ w7.heap.size := h7.lt
      clear hbh hr7 hg7 n6 hb6 q7 q57 hK HF m5 hs5 r5 B5 c2 hml hmo
      go_wp2_with fail
      go_loopw [8] (fun i wr => ∃ (q pq : Nat) (bq : Bool) (mq : PMsg) (sq : SV), q ≤ 15 ∧ i = .int .i64 q ∧ pq ≤ l.length ∧ Hid ((stL l p1 false).bind (rdFs (fsq kd q) { zeroM with kind := kd }) = (stL l pq bq).map fun r => (mq, r)) ∧ SOk (From (bh + 1)) wr mq sq ∧ Zr q sq ∧ Row wr bs 89 [.slice ab N cb, .int .i64 (pq : Int), .bool bq] ∧ Row wr bm 40 (mc mq sq) ∧ Row wr w.heap.size 40 (mc zeroM sv0) ∧ Row wr bh 92 mk ∧ Below w.heap.size w wr ∧ bh + 1 ≤ wr.heap.size) (fun i _ => 15 - (intOf i).toNat)
      case atStart => exact ⟨0, p1, false, _, sv0, by omega, rfl, hp1, (by show Hid _; exact rfl), SOk.zero _ _ _, ⟨fun _ => rfl, fun _ => rfl, fun _ => rfl⟩, s7, m7, r7, h7, B7, hD7⟩
      case round =>
        clear s7 m7 r7 h7 B7 hD7
        obtain ⟨q, pq, bq, mq, sq, hq, rfl, hpq, HQ, hso, hzr, hs, hm, hr, hh, B, hD⟩ := hrel
        by_cases hql : q < 15
        · have ch := hh.cell (HMK.out q hql)
          have hq15 : (q : Int) < 15 := by omega
          cases hc : (fl kd).contains q with
          | true =>
            rw [hc] at ch
            have hG := getField_any (From (bh + 1)) wr _ l pq bq mq sq q hql (hrd.below B) hpq HL.out hso hzr
            have HQQ := (show Hid (fsq kd (q + 1) = fsq kd q ++ [q]) from fsq_yes hc)
            clear hc
            go_wp2_with (first
              | (refine wl_load rfl _ _ rfl bs rfl _ _ hs _ Tryz.underlying89 rfl (by kernel_rfl) ?_)
              | (refine wl_load rfl _ _ rfl bm rfl _ _ hm _ Tryz.underlying40 rfl (by kernel_rfl) ?_)
              | (go_at_call 49; refine hG.mono ?_; rintro e w8 ⟨m8, s8, q8, b8, rfl, hq8, hb8, hso8, hzr8, he8⟩; have hs8 := hs.below hb8; have hm8 := hm.below hb8; have hon8 := hso8.one)
              | (refine wl_store rfl _ _ _ rfl bs [.slice ab N cb, .int .i64 (q8 : Int), .bool b8] rfl rfl _ _ hs8 rfl (by kernel_rfl) (one_in rfl) ?_; intro w9 hs9 hg9; have hm9 := hm8.grown hg9 (fun h => by injection h; omega))
              | (refine wl_store rfl _ _ _ rfl bm (mc m8 s8) rfl rfl _ _ hm9 rfl (by kernel_rfl) hon8 ?_; intro w10 hm10 hg10))
            have B8 := below_and B (Nat.le_refl _) hb8
            have B9 := below_grown B8 hg9 (by omega) B8.size
            have B10 := below_grown B9 hg10 (by omega) B9.size
            have hs10 := hs9.out.grown hg10 (fun h => by injection h; omega)
            have hr10 := ((hr.below hb8).grown hg9 (fun h => by injection h; omega)).grown hg10 (fun h => by injection h; omega)
            have hh10 := ((hh.below hb8).grown hg9 (fun h => by injection h; omega)).grown hg10 (fun h => by injection h; omega)
            have hD10 : bh + 1 ≤ w10.heap.size := Nat.le_trans (Nat.le_trans hD hb8.size) (Nat.le_trans hg9.size hg10.size)
            have hsoF : SOk (From (bh + 1)) w8 m8 s8 := hso8.mv (Nat.le_refl _) (fun k hk _ => ⟨rfl, by rcases hk with h | h; exact h.1; exact Nat.le_trans hD h⟩)
            have hso10 := (hsoF.mv hg9.size (Mv.from hg9 (by omega) (Nat.le_refl _))).mv hg10.size (Mv.from hg10 (by omega) (Nat.le_refl _))
            have HQ8 := (show Hid ((stL l p1 false).bind (rdFs (fsq kd (q + 1)) { zeroM with kind := kd }) = (stL l q8 b8).map fun r => (m8, r)) by show _ = _; rw [HQQ.out]; exact field_step HQ.out he8)
            go_roundw
            case rel => exact ⟨q + 1, q8, b8, m8, s8, by omega, by go_num, hq8, HQ8, hso10, hzr8, hs10, hm10.out, hr10, hh10, B10, hD10⟩
            case measure => simp [intOf]; omega
          | false =>
            rw [hc] at ch
            have HQ8 := (show Hid ((stL l p1 false).bind (rdFs (fsq kd (q + 1)) { zeroM with kind := kd }) = (stL l pq bq).map fun r => (mq, r)) by show _ = _; rw [fsq_no hc]; exact HQ.out)
            have hzr1 : Zr (q + 1) sq := ⟨fun h => hzr.1 (by omega), fun h => hzr.2.1 (by omega), fun h => hzr.2.2 (by omega)⟩
            clear hc
            go_wp2_with fail
            go_roundw
            case rel => exact ⟨q + 1, pq, bq, mq, sq, by omega, by go_num, hpq, HQ8, hso, hzr1, hs, hm, hr, hh, B, hD⟩
            case measure => simp [intOf]; omega
        · have hq15 : decide ((q : Int) < 15) = false := by simp; omega
          obtain rfl : q = 15 := by omega
          have HQ15 := (show Hid ((stL l p1 false).bind (rdFs (fl kd) { zeroM with kind := kd }) = (stL l pq bq).map fun r => (mq, r)) by show _ = _; rw [← fsq_all kd]; exact HQ.out)
          have HQ16 := (show Hid (rdFs (fl kd) { zeroM with kind := kd } (l.drop p1) = (stL l pq bq).map fun r => (mq, r)) from HQ15.out)
          have d1 := hs.cell (j := 1) rfl
          have d2 := hs.cell (j := 2) rfl
          clear HQ HQ15 hq
          cases bq with
          | true =>
            have HE := (show Hid (decM l = zeroM ∧ decE l = 51) from rdec_none HL.out (by rw [HEND.out, HQ16.out]; rfl))
            go_wp2_with (first
              | (refine wl_store rfl _ _ _ rfl w.heap.size (mc zeroM sv0) rfl rfl _ _ hr rfl (by kernel_rfl) hone0 ?_; intro w9 hr9 hg9))
            refine bodyPost_ret (results_ct rfl _ _ w.heap.size _ _ (0, 0) _ (by rfl) hr9.out Tryz.underlying40 rfl (by kernel_rfl)) rfl ?_
            exact ⟨sv0, by rw [HE.out.1, HE.out.2]; rfl, by rw [HE.out.1]; exact SOk.zero Any w9 0, below_grown B hg9 (Nat.le_refl _) B.size⟩
          | false =>
            by_cases hend : pq = N
            · have HE := (show Hid (decM l = mq ∧ decE l = 0) from rdec_some HL.out (by
                rw [HEND.out, HQ16.out]
                show (if (l.drop pq).isEmpty = true then some mq else none) = some mq
                rw [if_pos (by rw [List.isEmpty_iff]; exact List.drop_of_length_le (by have := HN.out; omega))]))
              have hpe : ((pq : Int) != (N : Int)) = false := by simp [hend]
              have hon := hso.one
              clear hend
              go_wp2_with (first
                | (refine wl_load rfl _ _ rfl bm rfl _ _ hm _ Tryz.underlying40 rfl (by kernel_rfl) ?_)
                | (refine wl_store rfl _ _ _ rfl w.heap.size (mc mq sq) rfl rfl _ _ hr rfl (by kernel_rfl) hon ?_; intro w9 hr9 hg9))
              refine bodyPost_ret (results_ct rfl _ _ w.heap.size _ _ (0, 0) _ (by rfl) hr9.out Tryz.underlying40 rfl (by kernel_rfl)) rfl ?_
              exact ⟨sq, by rw [HE.out.1, HE.out.2]; rfl, by rw [HE.out.1]; exact (hso.mv hg9.size (Mv.from hg9 (by omega) (Nat.le_refl _))).mv (Nat.le_refl _) Mv.any, below_grown B hg9 (Nat.le_refl _) B.size⟩
            · have HE := (show Hid (decM l = zeroM ∧ decE l = 51) from rdec_none HL.out (by
                rw [HEND.out, HQ16.out]
                show (if (l.drop pq).isEmpty = true then some mq else none) = none
                rw [if_neg (by rw [List.isEmpty_iff, List.drop_eq_nil_iff]; have := HN.out; omega)]))
              have hpe : ((pq : Int) != (N : Int)) = true := by simp; omega
              clear hend
              go_wp2_with (first
                | (refine wl_store rfl _ _ _ rfl w.heap.size (mc zeroM sv0) rfl rfl _ _ hr rfl (by kernel_rfl) hone0 ?_; intro w9 hr9 hg9))
              refine bodyPost_ret (results_ct rfl _ _ w.heap.size _ _ (0, 0) _ (by rfl) hr9.out Tryz.underlying40 rfl (by kernel_rfl)) rfl ?_
              exact ⟨sv0, by rw [HE.out.1, HE.out.2]; rfl, by rw [HE.out.1]; exact SOk.zero Any w9 0, below_grown B hg9 (Nat.le_refl _) B.size⟩
end Go.Proofs.YtgjepofinpmcpaaGreatDoor
end
