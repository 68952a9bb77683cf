/- The document's reading: a field. Written by mk5h.py. -/
import Derived.Test.YtgjepofinpmcpaaGreatDoorMAV
import Derived.Test.YtgjepofinpmcpaaGreatDoorMAR
set_option linter.unusedSimpArgs false
set_option linter.unusedVariables false
namespace Go.Proofs.YtgjepofinpmcpaaGreatDoor
open Go.RowKit Oct
set_option maxRecDepth 10000 in
set_option maxHeartbeats 4000000 in
theorem zKr (G : Nat → Prop) (w : World) (bv : Value) (l : List Int) (p : Nat) (bad : Bool) (m : PMsg) (s : SV) (hrd : Rd w bv l) (hp : p ≤ l.length) (hl : l.length ≤ 1048576) (hso : SOk G w m s) (hzr : Zr 4 s) :
    Calls Tryz.prog 49 #[.agg #[bv, .int .i64 (p : Int), .bool bad], .agg (mc m s).toArray, .int .i64 4] w (zF6 G w bv l p bad m 4) := by
  obtain ⟨ab, cb, rfl, hcb⟩ := hrd.2.form
  obtain ⟨q0, bad0, hq0', hbad0⟩ : ∃ q0 bad0, q0 = p ∧ bad0 = bad := ⟨_, _, rfl, rfl⟩
  rw [← hq0', ← hbad0]
  have hq0 : q0 ≤ l.length := by omega
  clear hq0' hbad0 hp p bad
  have hone := (show Hid (∀ v ∈ mc m s, v.oneCell' = true) from hso.one)
  have HSO := (show Hid (SOk G w m s) from hso)
  have HZR := (show Hid (Zr 4 s) from hzr)
  clear hso hzr
  obtain ⟨w2, hw2⟩ : ∃ w2, w2 = (((w.alloc (.cells ([.slice ab (bc l).length cb, .int .i64 (q0 : Int), .bool bad0] : List Value).toArray 89)).alloc (.cells (mc m s).toArray 40)).alloc (.cells ([.slice none 0 0, .int .i64 0, .bool false] : List Value).toArray 89)).alloc (.cells (mc zAc sv0).toArray 40) := ⟨_, rfl⟩
  have hs : Row w2 w.heap.size 89 [.slice ab (bc l).length cb, .int .i64 (q0 : Int), .bool bad0] := by rw [hw2]; exact zA4 (zA4 (zA4 (Row.new w _ _) _) _) _
  have hv : Row w2 (w.heap.size + 1) 40 (mc m s) := by
    rw [hw2]; refine zA4 (zA4 ?_ _) _
    have := Row.new (w.alloc (.cells ([.slice ab (bc l).length cb, .int .i64 (q0 : Int), .bool bad0] : List Value).toArray 89)) 40 (mc m s)
    simpa using this
  have ho : Row w2 (w.heap.size + 1 + 1) 89 [.slice none 0 0, .int .i64 0, .bool false] := by
    rw [hw2]; refine zA4 ?_ _
    have := Row.new ((w.alloc (.cells ([.slice ab (bc l).length cb, .int .i64 (q0 : Int), .bool bad0] : List Value).toArray 89)).alloc (.cells (mc m s).toArray 40)) 89 [.slice none 0 0, .int .i64 0, .bool false]
    simpa using this
  have hz : Row w2 (w.heap.size + 1 + 1 + 1) 40 (mc zAc sv0) := by
    rw [hw2]
    have := Row.new (((w.alloc (.cells ([.slice ab (bc l).length cb, .int .i64 (q0 : Int), .bool bad0] : List Value).toArray 89)).alloc (.cells (mc m s).toArray 40)).alloc (.cells ([.slice none 0 0, .int .i64 0, .bool false] : List Value).toArray 89)) 40 (mc zAc sv0)
    simpa using this
  have B : Below w.heap.size w w2 := by rw [hw2]; exact ((((Below.refl _ w).alloc zN _).alloc (by simp) _).alloc (by simp; omega) _).alloc (by simp; omega) _
  have hC : w.heap.size + 4 ≤ w2.heap.size := by rw [hw2]; simp
  go_enter Tryz.func49, Tryz.ntmps49
  go_upto_region 1 with fail
  have hw2' : (((w.alloc (.cells ([.slice ab (bc l).length cb, .int .i64 (q0 : Int), .bool bad0] : List Value).toArray 89)).alloc (.cells (mc m s).toArray 40)).alloc (.cells #[.slice none 0 0, .int .i64 0, .bool false] 89)).alloc (.cells #[.int .i64 0, .int .i64 0, .int .i64 0, .int .i64 0, .int .i64 0, .int .i64 0, .int .i64 0, .int .i64 0, .int .i64 0, .int .i64 0, .slice none 0 0, .slice none 0 0, .int .i64 0, .int .i64 0, .slice none 0 0, .slice none 0 0, .slice none 0 0, .slice none 0 0, .slice none 0 0, .slice none 0 0, .slice none 0 0, .slice none 0 0, .slice none 0 0] 40) = w2 := hw2.symm
  rw [hw2']
  clear hw2 hw2'
  go_upto_region 13 with fail
  have hG := zAr _ _ l q0 bad0 (hrd.below B) hq0 hl
  go_upto_region 28 with (first
    | (refine zAa rfl _ _ rfl (w.heap.size) rfl _ _ hs _ Tryz.underlying89 rfl (by kernel_rfl) ?_)
    | (go_at_call 46; refine hG.mono ?_; rintro e wa0 ⟨a0, v0, q1, bad1, rfl, hq1, hb0, rfl, he0⟩; have hsa := hs.below hb0; have hva := hv.below hb0)
    | (refine zA7 rfl _ _ _ rfl (w.heap.size) [.slice ab (bc l).length cb, .int .i64 (q1 : Int), .bool bad1] rfl rfl _ _ hsa rfl (by kernel_rfl) (zAf rfl) ?_; intro wb0 hsb hgb0; have hvb := hva.grown hgb0 (fun h => by injection h; omega))
    | (refine zAb rfl _ _ _ rfl (w.heap.size + 1) 6 _ rfl rfl _ _ hvb (show 6 < 23 by decide) (by kernel_rfl) rfl ?_; intro wc0 hvc hgc0))
  have hs := hsb.out.grown hgc0 (fun h => by injection h; omega)
  have hv : Row wc0 (w.heap.size + 1) 40 [.int .i64 m.kind, .int .i64 m.bal.1, .int .i64 m.bal.2, .int .i64 m.slot, .int .i64 m.frm, .int .i64 m.to, .int .i64 a0, .int .i64 m.cnt, .int .i64 m.req.1, .int .i64 m.req.2.1, s.o, s.g, .int .i64 m.oth.1, .int .i64 m.oth.2.1, s.o', s.g', s.d, s.s, s.c, s.v, s.n, s.p, s.l] := hvc.out
  have ho := ((ho.below hb0).grown hgb0 (fun h => by injection h; omega)).grown hgc0 (fun h => by injection h; omega)
  have hz := ((hz.below hb0).grown hgb0 (fun h => by injection h; omega)).grown hgc0 (fun h => by injection h; omega)
  have he0 := (show Hid _ from he0)
  have B := zA3 (zA3 (zA1 B zN hb0) hgb0 (by omega) (Nat.le_trans (by omega) (Nat.le_trans hC hb0.size))) hgc0 (by omega) (Nat.le_trans (by omega) (Nat.le_trans hC (Nat.le_trans hb0.size hgb0.size)))
  have hC := Nat.le_trans hC (Nat.le_trans hb0.size (Nat.le_trans hgb0.size hgc0.size))
  clear hG hsa hva hsb hvb hvc hgb0 hgc0 hb0
  have hon : ∀ v ∈ [.int .i64 m.kind, .int .i64 m.bal.1, .int .i64 m.bal.2, .int .i64 m.slot, .int .i64 m.frm, .int .i64 m.to, .int .i64 a0, .int .i64 m.cnt, .int .i64 m.req.1, .int .i64 m.req.2.1, s.o, s.g, .int .i64 m.oth.1, .int .i64 m.oth.2.1, s.o', s.g', s.d, s.s, s.c, s.v, s.n, s.p, s.l], v.oneCell' = true := by
    intro v hv2
    have hB := HSO.out
    have t1 := hB.o.one; have t2 := hB.g.one; have t3 := hB.o'.one; have t4 := hB.g'.one; have t5 := hB.d.one; have t6 := hB.s.one; have t7 := hB.c.one; have t8 := hB.v.one; have t9 := hB.n.one; have t10 := hB.p.one; have t11 := hB.l.one
    clear hB HSO hs hv ho hz B hC
    simp only [List.mem_cons, List.not_mem_nil, or_false] at hv2
    rcases hv2 with rfl | rfl | rfl | rfl | rfl | rfl | rfl | rfl | rfl | rfl | rfl | rfl | rfl | rfl | rfl | rfl | rfl | rfl | rfl | rfl | rfl | rfl | rfl <;> first | rfl | assumption
  refine zBz (by kernel_rfl) (by rfl) (by kernel_rfl) (by kernel_rfl) (by kernel_rfl) (by kernel_rfl) (by kernel_rfl) (by kernel_rfl) (by kernel_rfl) rfl rfl rfl rfl rfl rfl rfl rfl _ _ _ _ _ _ _ _ rfl rfl rfl rfl w.heap.size (w.heap.size + 1) (w.heap.size + 1 + 1) (w.heap.size + 1 + 1 + 1) _ _ _ _ _ _ _ _ hs hv ho hz rfl rfl _ _ Tryz.underlying89 rfl Tryz.underlying40 rfl (by kernel_rfl) (by kernel_rfl) (zAf rfl) hon (by omega) (by omega) _ rfl rfl rfl rfl rfl rfl rfl rfl rfl rfl rfl rfl rfl rfl rfl ?_
  intro u w' g1 g2 rA rB
  have B1 := zA3 B g1 (by omega) (by omega)
  have B2 := zA3 B1 g2 (by omega) B1.size
  have base := HSO.out.mv B2.size (show Mv G (GB G w) w w' from fun k hk hlt => ⟨B2.block k hlt, .inl ⟨hk, hlt⟩⟩)
  have mw : Mv (zB0 (w.heap.size + 4)) (GB G w) w' w' := fun k hk _ => ⟨rfl, .inr (Nat.le_trans (by omega) hk)⟩
  go_wp2_with fail
  refine bodyPost_ret (zAk rfl _ _ (w.heap.size + 1 + 1) (w.heap.size + 1 + 1 + 1) _ _ _ _ (0, 0) (0, 0) _ _ (by rfl) (by rfl) rA rB Tryz.underlying89 rfl (by kernel_rfl) Tryz.underlying40 rfl (by kernel_rfl)) rfl ?_
  exact ⟨{ m with idx := a0 }, s, q1, bad1, rfl, hq1, B2, ⟨base.o, base.g, base.o', base.g', base.d, base.s, base.c, base.v, base.n, base.p, base.l⟩, ⟨fun _ => HZR.out.1 (by decide), fun _ => HZR.out.2.1 (by decide), fun _ => HZR.out.2.2 (by decide)⟩, zBo (he0.out)⟩
set_option maxRecDepth 10000 in
set_option maxHeartbeats 4000000 in
theorem zKl (G : Nat → Prop) (w : World) (bv : Value) (l : List Int) (p : Nat) (bad : Bool) (m : PMsg) (s : SV) (hrd : Rd w bv l) (hp : p ≤ l.length) (hl : l.length ≤ 1048576) (hso : SOk G w m s) (hzr : Zr 5 s) :
    Calls Tryz.prog 49 #[.agg #[bv, .int .i64 (p : Int), .bool bad], .agg (mc m s).toArray, .int .i64 5] w (zF6 G w bv l p bad m 5) := by
  obtain ⟨ab, cb, rfl, hcb⟩ := hrd.2.form
  obtain ⟨q0, bad0, hq0', hbad0⟩ : ∃ q0 bad0, q0 = p ∧ bad0 = bad := ⟨_, _, rfl, rfl⟩
  rw [← hq0', ← hbad0]
  have hq0 : q0 ≤ l.length := by omega
  clear hq0' hbad0 hp p bad
  have hone := (show Hid (∀ v ∈ mc m s, v.oneCell' = true) from hso.one)
  have HSO := (show Hid (SOk G w m s) from hso)
  have HZR := (show Hid (Zr 5 s) from hzr)
  clear hso hzr
  obtain ⟨w2, hw2⟩ : ∃ w2, w2 = (((w.alloc (.cells ([.slice ab (bc l).length cb, .int .i64 (q0 : Int), .bool bad0] : List Value).toArray 89)).alloc (.cells (mc m s).toArray 40)).alloc (.cells ([.slice none 0 0, .int .i64 0, .bool false] : List Value).toArray 89)).alloc (.cells (mc zAc sv0).toArray 40) := ⟨_, rfl⟩
  have hs : Row w2 w.heap.size 89 [.slice ab (bc l).length cb, .int .i64 (q0 : Int), .bool bad0] := by rw [hw2]; exact zA4 (zA4 (zA4 (Row.new w _ _) _) _) _
  have hv : Row w2 (w.heap.size + 1) 40 (mc m s) := by
    rw [hw2]; refine zA4 (zA4 ?_ _) _
    have := Row.new (w.alloc (.cells ([.slice ab (bc l).length cb, .int .i64 (q0 : Int), .bool bad0] : List Value).toArray 89)) 40 (mc m s)
    simpa using this
  have ho : Row w2 (w.heap.size + 1 + 1) 89 [.slice none 0 0, .int .i64 0, .bool false] := by
    rw [hw2]; refine zA4 ?_ _
    have := Row.new ((w.alloc (.cells ([.slice ab (bc l).length cb, .int .i64 (q0 : Int), .bool bad0] : List Value).toArray 89)).alloc (.cells (mc m s).toArray 40)) 89 [.slice none 0 0, .int .i64 0, .bool false]
    simpa using this
  have hz : Row w2 (w.heap.size + 1 + 1 + 1) 40 (mc zAc sv0) := by
    rw [hw2]
    have := Row.new (((w.alloc (.cells ([.slice ab (bc l).length cb, .int .i64 (q0 : Int), .bool bad0] : List Value).toArray 89)).alloc (.cells (mc m s).toArray 40)).alloc (.cells ([.slice none 0 0, .int .i64 0, .bool false] : List Value).toArray 89)) 40 (mc zAc sv0)
    simpa using this
  have B : Below w.heap.size w w2 := by rw [hw2]; exact ((((Below.refl _ w).alloc zN _).alloc (by simp) _).alloc (by simp; omega) _).alloc (by simp; omega) _
  have hC : w.heap.size + 4 ≤ w2.heap.size := by rw [hw2]; simp
  go_enter Tryz.func49, Tryz.ntmps49
  go_upto_region 1 with fail
  have hw2' : (((w.alloc (.cells ([.slice ab (bc l).length cb, .int .i64 (q0 : Int), .bool bad0] : List Value).toArray 89)).alloc (.cells (mc m s).toArray 40)).alloc (.cells #[.slice none 0 0, .int .i64 0, .bool false] 89)).alloc (.cells #[.int .i64 0, .int .i64 0, .int .i64 0, .int .i64 0, .int .i64 0, .int .i64 0, .int .i64 0, .int .i64 0, .int .i64 0, .int .i64 0, .slice none 0 0, .slice none 0 0, .int .i64 0, .int .i64 0, .slice none 0 0, .slice none 0 0, .slice none 0 0, .slice none 0 0, .slice none 0 0, .slice none 0 0, .slice none 0 0, .slice none 0 0, .slice none 0 0] 40) = w2 := hw2.symm
  rw [hw2']
  clear hw2 hw2'
  go_upto_region 15 with fail
  have hG := zAr _ _ l q0 bad0 (hrd.below B) hq0 hl
  go_upto_region 28 with (first
    | (refine zAa rfl _ _ rfl (w.heap.size) rfl _ _ hs _ Tryz.underlying89 rfl (by kernel_rfl) ?_)
    | (go_at_call 46; refine hG.mono ?_; rintro e wa0 ⟨a0, v0, q1, bad1, rfl, hq1, hb0, rfl, he0⟩; have hsa := hs.below hb0; have hva := hv.below hb0)
    | (refine zA7 rfl _ _ _ rfl (w.heap.size) [.slice ab (bc l).length cb, .int .i64 (q1 : Int), .bool bad1] rfl rfl _ _ hsa rfl (by kernel_rfl) (zAf rfl) ?_; intro wb0 hsb hgb0; have hvb := hva.grown hgb0 (fun h => by injection h; omega))
    | (refine zAb rfl _ _ _ rfl (w.heap.size + 1) 7 _ rfl rfl _ _ hvb (show 7 < 23 by decide) (by kernel_rfl) rfl ?_; intro wc0 hvc hgc0))
  have hs := hsb.out.grown hgc0 (fun h => by injection h; omega)
  have hv : Row wc0 (w.heap.size + 1) 40 [.int .i64 m.kind, .int .i64 m.bal.1, .int .i64 m.bal.2, .int .i64 m.slot, .int .i64 m.frm, .int .i64 m.to, .int .i64 m.idx, .int .i64 a0, .int .i64 m.req.1, .int .i64 m.req.2.1, s.o, s.g, .int .i64 m.oth.1, .int .i64 m.oth.2.1, s.o', s.g', s.d, s.s, s.c, s.v, s.n, s.p, s.l] := hvc.out
  have ho := ((ho.below hb0).grown hgb0 (fun h => by injection h; omega)).grown hgc0 (fun h => by injection h; omega)
  have hz := ((hz.below hb0).grown hgb0 (fun h => by injection h; omega)).grown hgc0 (fun h => by injection h; omega)
  have he0 := (show Hid _ from he0)
  have B := zA3 (zA3 (zA1 B zN hb0) hgb0 (by omega) (Nat.le_trans (by omega) (Nat.le_trans hC hb0.size))) hgc0 (by omega) (Nat.le_trans (by omega) (Nat.le_trans hC (Nat.le_trans hb0.size hgb0.size)))
  have hC := Nat.le_trans hC (Nat.le_trans hb0.size (Nat.le_trans hgb0.size hgc0.size))
  clear hG hsa hva hsb hvb hvc hgb0 hgc0 hb0
  have hon : ∀ v ∈ [.int .i64 m.kind, .int .i64 m.bal.1, .int .i64 m.bal.2, .int .i64 m.slot, .int .i64 m.frm, .int .i64 m.to, .int .i64 m.idx, .int .i64 a0, .int .i64 m.req.1, .int .i64 m.req.2.1, s.o, s.g, .int .i64 m.oth.1, .int .i64 m.oth.2.1, s.o', s.g', s.d, s.s, s.c, s.v, s.n, s.p, s.l], v.oneCell' = true := by
    intro v hv2
    have hB := HSO.out
    have t1 := hB.o.one; have t2 := hB.g.one; have t3 := hB.o'.one; have t4 := hB.g'.one; have t5 := hB.d.one; have t6 := hB.s.one; have t7 := hB.c.one; have t8 := hB.v.one; have t9 := hB.n.one; have t10 := hB.p.one; have t11 := hB.l.one
    clear hB HSO hs hv ho hz B hC
    simp only [List.mem_cons, List.not_mem_nil, or_false] at hv2
    rcases hv2 with rfl | rfl | rfl | rfl | rfl | rfl | rfl | rfl | rfl | rfl | rfl | rfl | rfl | rfl | rfl | rfl | rfl | rfl | rfl | rfl | rfl | rfl | rfl <;> first | rfl | assumption
  refine zBz (by kernel_rfl) (by rfl) (by kernel_rfl) (by kernel_rfl) (by kernel_rfl) (by kernel_rfl) (by kernel_rfl) (by kernel_rfl) (by kernel_rfl) rfl rfl rfl rfl rfl rfl rfl rfl _ _ _ _ _ _ _ _ rfl rfl rfl rfl w.heap.size (w.heap.size + 1) (w.heap.size + 1 + 1) (w.heap.size + 1 + 1 + 1) _ _ _ _ _ _ _ _ hs hv ho hz rfl rfl _ _ Tryz.underlying89 rfl Tryz.underlying40 rfl (by kernel_rfl) (by kernel_rfl) (zAf rfl) hon (by omega) (by omega) _ rfl rfl rfl rfl rfl rfl rfl rfl rfl rfl rfl rfl rfl rfl rfl ?_
  intro u w' g1 g2 rA rB
  have B1 := zA3 B g1 (by omega) (by omega)
  have B2 := zA3 B1 g2 (by omega) B1.size
  have base := HSO.out.mv B2.size (show Mv G (GB G w) w w' from fun k hk hlt => ⟨B2.block k hlt, .inl ⟨hk, hlt⟩⟩)
  have mw : Mv (zB0 (w.heap.size + 4)) (GB G w) w' w' := fun k hk _ => ⟨rfl, .inr (Nat.le_trans (by omega) hk)⟩
  go_wp2_with fail
  refine bodyPost_ret (zAk rfl _ _ (w.heap.size + 1 + 1) (w.heap.size + 1 + 1 + 1) _ _ _ _ (0, 0) (0, 0) _ _ (by rfl) (by rfl) rA rB Tryz.underlying89 rfl (by kernel_rfl) Tryz.underlying40 rfl (by kernel_rfl)) rfl ?_
  exact ⟨{ m with cnt := a0 }, s, q1, bad1, rfl, hq1, B2, ⟨base.o, base.g, base.o', base.g', base.d, base.s, base.c, base.v, base.n, base.p, base.l⟩, ⟨fun _ => HZR.out.1 (by decide), fun _ => HZR.out.2.1 (by decide), fun _ => HZR.out.2.2 (by decide)⟩, zBo (he0.out)⟩
set_option maxRecDepth 10000 in
set_option maxHeartbeats 4000000 in
theorem zLa (G : Nat → Prop) (w : World) (bv : Value) (l : List Int) (p : Nat) (bad : Bool) (m : PMsg) (s : SV) (hrd : Rd w bv l) (hp : p ≤ l.length) (hl : l.length ≤ 1048576) (hso : SOk G w m s) (hzr : Zr 6 s) :
    Calls Tryz.prog 49 #[.agg #[bv, .int .i64 (p : Int), .bool bad], .agg (mc m s).toArray, .int .i64 6] w (zF6 G w bv l p bad m 6) := by
  obtain ⟨ab, cb, rfl, hcb⟩ := hrd.2.form
  obtain ⟨q0, bad0, hq0', hbad0⟩ : ∃ q0 bad0, q0 = p ∧ bad0 = bad := ⟨_, _, rfl, rfl⟩
  rw [← hq0', ← hbad0]
  have hq0 : q0 ≤ l.length := by omega
  clear hq0' hbad0 hp p bad
  have hone := (show Hid (∀ v ∈ mc m s, v.oneCell' = true) from hso.one)
  have HSO := (show Hid (SOk G w m s) from hso)
  have HZR := (show Hid (Zr 6 s) from hzr)
  clear hso hzr
  obtain ⟨w2, hw2⟩ : ∃ w2, w2 = (((w.alloc (.cells ([.slice ab (bc l).length cb, .int .i64 (q0 : Int), .bool bad0] : List Value).toArray 89)).alloc (.cells (mc m s).toArray 40)).alloc (.cells ([.slice none 0 0, .int .i64 0, .bool false] : List Value).toArray 89)).alloc (.cells (mc zAc sv0).toArray 40) := ⟨_, rfl⟩
  have hs : Row w2 w.heap.size 89 [.slice ab (bc l).length cb, .int .i64 (q0 : Int), .bool bad0] := by rw [hw2]; exact zA4 (zA4 (zA4 (Row.new w _ _) _) _) _
  have hv : Row w2 (w.heap.size + 1) 40 (mc m s) := by
    rw [hw2]; refine zA4 (zA4 ?_ _) _
    have := Row.new (w.alloc (.cells ([.slice ab (bc l).length cb, .int .i64 (q0 : Int), .bool bad0] : List Value).toArray 89)) 40 (mc m s)
    simpa using this
  have ho : Row w2 (w.heap.size + 1 + 1) 89 [.slice none 0 0, .int .i64 0, .bool false] := by
    rw [hw2]; refine zA4 ?_ _
    have := Row.new ((w.alloc (.cells ([.slice ab (bc l).length cb, .int .i64 (q0 : Int), .bool bad0] : List Value).toArray 89)).alloc (.cells (mc m s).toArray 40)) 89 [.slice none 0 0, .int .i64 0, .bool false]
    simpa using this
  have hz : Row w2 (w.heap.size + 1 + 1 + 1) 40 (mc zAc sv0) := by
    rw [hw2]
    have := Row.new (((w.alloc (.cells ([.slice ab (bc l).length cb, .int .i64 (q0 : Int), .bool bad0] : List Value).toArray 89)).alloc (.cells (mc m s).toArray 40)).alloc (.cells ([.slice none 0 0, .int .i64 0, .bool false] : List Value).toArray 89)) 40 (mc zAc sv0)
    simpa using this
  have B : Below w.heap.size w w2 := by rw [hw2]; exact ((((Below.refl _ w).alloc zN _).alloc (by simp) _).alloc (by simp; omega) _).alloc (by simp; omega) _
  have hC : w.heap.size + 4 ≤ w2.heap.size := by rw [hw2]; simp
  go_enter Tryz.func49, Tryz.ntmps49
  go_upto_region 1 with fail
  have hw2' : (((w.alloc (.cells ([.slice ab (bc l).length cb, .int .i64 (q0 : Int), .bool bad0] : List Value).toArray 89)).alloc (.cells (mc m s).toArray 40)).alloc (.cells #[.slice none 0 0, .int .i64 0, .bool false] 89)).alloc (.cells #[.int .i64 0, .int .i64 0, .int .i64 0, .int .i64 0, .int .i64 0, .int .i64 0, .int .i64 0, .int .i64 0, .int .i64 0, .int .i64 0, .slice none 0 0, .slice none 0 0, .int .i64 0, .int .i64 0, .slice none 0 0, .slice none 0 0, .slice none 0 0, .slice none 0 0, .slice none 0 0, .slice none 0 0, .slice none 0 0, .slice none 0 0, .slice none 0 0] 40) = w2 := hw2.symm
  rw [hw2']
  clear hw2 hw2'
  go_upto_region 17 with fail
  have hG := zEw _ _ l q0 bad0 (hrd.below B) hq0 hl
  go_upto_region 28 with (first
    | (refine zAa rfl _ _ rfl (w.heap.size) rfl _ _ hs _ Tryz.underlying89 rfl (by kernel_rfl) ?_)
    | (go_at_call 81; refine hG.mono ?_; rintro e wa0 ⟨a0, v0, q1, bad1, rfl, hq1, hb0, ⟨rq0, rfl, vo0, vg0, rfl, fo0, fg0⟩, he0⟩; have hsa := hs.below hb0; have hva := hv.below hb0)
    | (refine zA7 rfl _ _ _ rfl (w.heap.size) [.slice ab (bc l).length cb, .int .i64 (q1 : Int), .bool bad1] rfl rfl _ _ hsa rfl (by kernel_rfl) (zAf rfl) ?_; intro wb0 hsb hgb0; have hvb := hva.grown hgb0 (fun h => by injection h; omega))
    | (refine zCd rfl _ _ _ rfl (w.heap.size + 1) 8 [.int .i64 a0.1, .int .i64 a0.2.1, vo0, vg0] rfl rfl _ _ hvb (show 12 ≤ 23 by decide) (by kernel_rfl) (one4 fo0.one fg0.one) ?_; intro wc0 hvc hgc0))
  have hs := hsb.out.grown hgc0 (fun h => by injection h; omega)
  have hv : Row wc0 (w.heap.size + 1) 40 [.int .i64 m.kind, .int .i64 m.bal.1, .int .i64 m.bal.2, .int .i64 m.slot, .int .i64 m.frm, .int .i64 m.to, .int .i64 m.idx, .int .i64 m.cnt, .int .i64 a0.1, .int .i64 a0.2.1, vo0, vg0, .int .i64 m.oth.1, .int .i64 m.oth.2.1, s.o', s.g', s.d, s.s, s.c, s.v, s.n, s.p, s.l] := hvc.out
  have ho := ((ho.below hb0).grown hgb0 (fun h => by injection h; omega)).grown hgc0 (fun h => by injection h; omega)
  have hz := ((hz.below hb0).grown hgb0 (fun h => by injection h; omega)).grown hgc0 (fun h => by injection h; omega)
  have he0 := (show Hid _ from he0)
  have fo0 := (((fo0.mv (Mv.weak (L := w.heap.size + 4) hC)).mv (Mv.from hgb0 (by omega) zN)).mv (Mv.from hgc0 (by omega) zN))
  have fg0 := (((fg0.mv (Mv.weak (L := w.heap.size + 4) hC)).mv (Mv.from hgb0 (by omega) zN)).mv (Mv.from hgc0 (by omega) zN))
  have B := zA3 (zA3 (zA1 B zN hb0) hgb0 (by omega) (Nat.le_trans (by omega) (Nat.le_trans hC hb0.size))) hgc0 (by omega) (Nat.le_trans (by omega) (Nat.le_trans hC (Nat.le_trans hb0.size hgb0.size)))
  have hC := Nat.le_trans hC (Nat.le_trans hb0.size (Nat.le_trans hgb0.size hgc0.size))
  clear hG hsa hva hsb hvb hvc hgb0 hgc0 hb0
  have hon : ∀ v ∈ [.int .i64 m.kind, .int .i64 m.bal.1, .int .i64 m.bal.2, .int .i64 m.slot, .int .i64 m.frm, .int .i64 m.to, .int .i64 m.idx, .int .i64 m.cnt, .int .i64 a0.1, .int .i64 a0.2.1, vo0, vg0, .int .i64 m.oth.1, .int .i64 m.oth.2.1, s.o', s.g', s.d, s.s, s.c, s.v, s.n, s.p, s.l], v.oneCell' = true := by
    intro v hv2
    have hB := HSO.out
    have t1 := hB.o.one; have t2 := hB.g.one; have t3 := hB.o'.one; have t4 := hB.g'.one; have t5 := hB.d.one; have t6 := hB.s.one; have t7 := hB.c.one; have t8 := hB.v.one; have t9 := hB.n.one; have t10 := hB.p.one; have t11 := hB.l.one
    have k_fo0 := fo0.one
    have k_fg0 := fg0.one
    clear hB HSO hs hv ho hz B hC
    simp only [List.mem_cons, List.not_mem_nil, or_false] at hv2
    rcases hv2 with rfl | rfl | rfl | rfl | rfl | rfl | rfl | rfl | rfl | rfl | rfl | rfl | rfl | rfl | rfl | rfl | rfl | rfl | rfl | rfl | rfl | rfl | rfl <;> first | rfl | assumption
  refine zBz (by kernel_rfl) (by rfl) (by kernel_rfl) (by kernel_rfl) (by kernel_rfl) (by kernel_rfl) (by kernel_rfl) (by kernel_rfl) (by kernel_rfl) rfl rfl rfl rfl rfl rfl rfl rfl _ _ _ _ _ _ _ _ rfl rfl rfl rfl w.heap.size (w.heap.size + 1) (w.heap.size + 1 + 1) (w.heap.size + 1 + 1 + 1) _ _ _ _ _ _ _ _ hs hv ho hz rfl rfl _ _ Tryz.underlying89 rfl Tryz.underlying40 rfl (by kernel_rfl) (by kernel_rfl) (zAf rfl) hon (by omega) (by omega) _ rfl rfl rfl rfl rfl rfl rfl rfl rfl rfl rfl rfl rfl rfl rfl ?_
  intro u w' g1 g2 rA rB
  have B1 := zA3 B g1 (by omega) (by omega)
  have B2 := zA3 B1 g2 (by omega) B1.size
  have base := HSO.out.mv B2.size (show Mv G (GB G w) w w' from fun k hk hlt => ⟨B2.block k hlt, .inl ⟨hk, hlt⟩⟩)
  have mw : Mv (zB0 (w.heap.size + 4)) (GB G w) w' w' := fun k hk _ => ⟨rfl, .inr (Nat.le_trans (by omega) hk)⟩
  have fo0 := (((fo0.mv (Mv.from g1 (by omega) zN)).mv (Mv.from g2 (by omega) zN)).mv mw)
  have fg0 := (((fg0.mv (Mv.from g1 (by omega) zN)).mv (Mv.from g2 (by omega) zN)).mv mw)
  go_wp2_with fail
  refine bodyPost_ret (zAk rfl _ _ (w.heap.size + 1 + 1) (w.heap.size + 1 + 1 + 1) _ _ _ _ (0, 0) (0, 0) _ _ (by rfl) (by rfl) rA rB Tryz.underlying89 rfl (by kernel_rfl) Tryz.underlying40 rfl (by kernel_rfl)) rfl ?_
  exact ⟨{ m with req := a0 }, { s with o := vo0, g := vg0 }, q1, bad1, rfl, hq1, B2, ⟨fo0, fg0, base.o', base.g', base.d, base.s, base.c, base.v, base.n, base.p, base.l⟩, ⟨fun _ => HZR.out.1 (by decide), fun _ => HZR.out.2.1 (by decide), fun _ => HZR.out.2.2 (by decide)⟩, zBo (he0.out)⟩
set_option maxRecDepth 10000 in
set_option maxHeartbeats 4000000 in
theorem zJw (G : Nat → Prop) (w : World) (bv : Value) (l : List Int) (p : Nat) (bad : Bool) (m : PMsg) (s : SV) (hrd : Rd w bv l) (hp : p ≤ l.length) (hl : l.length ≤ 1048576) (hso : SOk G w m s) (hzr : Zr 7 s) :
    Calls Tryz.prog 49 #[.agg #[bv, .int .i64 (p : Int), .bool bad], .agg (mc m s).toArray, .int .i64 7] w (zF6 G w bv l p bad m 7) := by
  obtain ⟨ab, cb, rfl, hcb⟩ := hrd.2.form
  obtain ⟨q0, bad0, hq0', hbad0⟩ : ∃ q0 bad0, q0 = p ∧ bad0 = bad := ⟨_, _, rfl, rfl⟩
  rw [← hq0', ← hbad0]
  have hq0 : q0 ≤ l.length := by omega
  clear hq0' hbad0 hp p bad
  have hone := (show Hid (∀ v ∈ mc m s, v.oneCell' = true) from hso.one)
  have HSO := (show Hid (SOk G w m s) from hso)
  have HZR := (show Hid (Zr 7 s) from hzr)
  clear hso hzr
  obtain ⟨w2, hw2⟩ : ∃ w2, w2 = (((w.alloc (.cells ([.slice ab (bc l).length cb, .int .i64 (q0 : Int), .bool bad0] : List Value).toArray 89)).alloc (.cells (mc m s).toArray 40)).alloc (.cells ([.slice none 0 0, .int .i64 0, .bool false] : List Value).toArray 89)).alloc (.cells (mc zAc sv0).toArray 40) := ⟨_, rfl⟩
  have hs : Row w2 w.heap.size 89 [.slice ab (bc l).length cb, .int .i64 (q0 : Int), .bool bad0] := by rw [hw2]; exact zA4 (zA4 (zA4 (Row.new w _ _) _) _) _
  have hv : Row w2 (w.heap.size + 1) 40 (mc m s) := by
    rw [hw2]; refine zA4 (zA4 ?_ _) _
    have := Row.new (w.alloc (.cells ([.slice ab (bc l).length cb, .int .i64 (q0 : Int), .bool bad0] : List Value).toArray 89)) 40 (mc m s)
    simpa using this
  have ho : Row w2 (w.heap.size + 1 + 1) 89 [.slice none 0 0, .int .i64 0, .bool false] := by
    rw [hw2]; refine zA4 ?_ _
    have := Row.new ((w.alloc (.cells ([.slice ab (bc l).length cb, .int .i64 (q0 : Int), .bool bad0] : List Value).toArray 89)).alloc (.cells (mc m s).toArray 40)) 89 [.slice none 0 0, .int .i64 0, .bool false]
    simpa using this
  have hz : Row w2 (w.heap.size + 1 + 1 + 1) 40 (mc zAc sv0) := by
    rw [hw2]
    have := Row.new (((w.alloc (.cells ([.slice ab (bc l).length cb, .int .i64 (q0 : Int), .bool bad0] : List Value).toArray 89)).alloc (.cells (mc m s).toArray 40)).alloc (.cells ([.slice none 0 0, .int .i64 0, .bool false] : List Value).toArray 89)) 40 (mc zAc sv0)
    simpa using this
  have B : Below w.heap.size w w2 := by rw [hw2]; exact ((((Below.refl _ w).alloc zN _).alloc (by simp) _).alloc (by simp; omega) _).alloc (by simp; omega) _
  have hC : w.heap.size + 4 ≤ w2.heap.size := by rw [hw2]; simp
  go_enter Tryz.func49, Tryz.ntmps49
  go_upto_region 1 with fail
  have hw2' : (((w.alloc (.cells ([.slice ab (bc l).length cb, .int .i64 (q0 : Int), .bool bad0] : List Value).toArray 89)).alloc (.cells (mc m s).toArray 40)).alloc (.cells #[.slice none 0 0, .int .i64 0, .bool false] 89)).alloc (.cells #[.int .i64 0, .int .i64 0, .int .i64 0, .int .i64 0, .int .i64 0, .int .i64 0, .int .i64 0, .int .i64 0, .int .i64 0, .int .i64 0, .slice none 0 0, .slice none 0 0, .int .i64 0, .int .i64 0, .slice none 0 0, .slice none 0 0, .slice none 0 0, .slice none 0 0, .slice none 0 0, .slice none 0 0, .slice none 0 0, .slice none 0 0, .slice none 0 0] 40) = w2 := hw2.symm
  rw [hw2']
  clear hw2 hw2'
  go_upto_region 19 with fail
  have hG := zEw _ _ l q0 bad0 (hrd.below B) hq0 hl
  go_upto_region 28 with (first
    | (refine zAa rfl _ _ rfl (w.heap.size) rfl _ _ hs _ Tryz.underlying89 rfl (by kernel_rfl) ?_)
    | (go_at_call 81; refine hG.mono ?_; rintro e wa0 ⟨a0, v0, q1, bad1, rfl, hq1, hb0, ⟨rq0, rfl, vo0, vg0, rfl, fo0, fg0⟩, he0⟩; have hsa := hs.below hb0; have hva := hv.below hb0)
    | (refine zA7 rfl _ _ _ rfl (w.heap.size) [.slice ab (bc l).length cb, .int .i64 (q1 : Int), .bool bad1] rfl rfl _ _ hsa rfl (by kernel_rfl) (zAf rfl) ?_; intro wb0 hsb hgb0; have hvb := hva.grown hgb0 (fun h => by injection h; omega))
    | (refine zCd rfl _ _ _ rfl (w.heap.size + 1) 12 [.int .i64 a0.1, .int .i64 a0.2.1, vo0, vg0] rfl rfl _ _ hvb (show 16 ≤ 23 by decide) (by kernel_rfl) (one4 fo0.one fg0.one) ?_; intro wc0 hvc hgc0))
  have hs := hsb.out.grown hgc0 (fun h => by injection h; omega)
  have hv : Row wc0 (w.heap.size + 1) 40 [.int .i64 m.kind, .int .i64 m.bal.1, .int .i64 m.bal.2, .int .i64 m.slot, .int .i64 m.frm, .int .i64 m.to, .int .i64 m.idx, .int .i64 m.cnt, .int .i64 m.req.1, .int .i64 m.req.2.1, s.o, s.g, .int .i64 a0.1, .int .i64 a0.2.1, vo0, vg0, s.d, s.s, s.c, s.v, s.n, s.p, s.l] := hvc.out
  have ho := ((ho.below hb0).grown hgb0 (fun h => by injection h; omega)).grown hgc0 (fun h => by injection h; omega)
  have hz := ((hz.below hb0).grown hgb0 (fun h => by injection h; omega)).grown hgc0 (fun h => by injection h; omega)
  have he0 := (show Hid _ from he0)
  have fo0 := (((fo0.mv (Mv.weak (L := w.heap.size + 4) hC)).mv (Mv.from hgb0 (by omega) zN)).mv (Mv.from hgc0 (by omega) zN))
  have fg0 := (((fg0.mv (Mv.weak (L := w.heap.size + 4) hC)).mv (Mv.from hgb0 (by omega) zN)).mv (Mv.from hgc0 (by omega) zN))
  have B := zA3 (zA3 (zA1 B zN hb0) hgb0 (by omega) (Nat.le_trans (by omega) (Nat.le_trans hC hb0.size))) hgc0 (by omega) (Nat.le_trans (by omega) (Nat.le_trans hC (Nat.le_trans hb0.size hgb0.size)))
  have hC := Nat.le_trans hC (Nat.le_trans hb0.size (Nat.le_trans hgb0.size hgc0.size))
  clear hG hsa hva hsb hvb hvc hgb0 hgc0 hb0
  have hon : ∀ v ∈ [.int .i64 m.kind, .int .i64 m.bal.1, .int .i64 m.bal.2, .int .i64 m.slot, .int .i64 m.frm, .int .i64 m.to, .int .i64 m.idx, .int .i64 m.cnt, .int .i64 m.req.1, .int .i64 m.req.2.1, s.o, s.g, .int .i64 a0.1, .int .i64 a0.2.1, vo0, vg0, s.d, s.s, s.c, s.v, s.n, s.p, s.l], v.oneCell' = true := by
    intro v hv2
    have hB := HSO.out
    have t1 := hB.o.one; have t2 := hB.g.one; have t3 := hB.o'.one; have t4 := hB.g'.one; have t5 := hB.d.one; have t6 := hB.s.one; have t7 := hB.c.one; have t8 := hB.v.one; have t9 := hB.n.one; have t10 := hB.p.one; have t11 := hB.l.one
    have k_fo0 := fo0.one
    have k_fg0 := fg0.one
    clear hB HSO hs hv ho hz B hC
    simp only [List.mem_cons, List.not_mem_nil, or_false] at hv2
    rcases hv2 with rfl | rfl | rfl | rfl | rfl | rfl | rfl | rfl | rfl | rfl | rfl | rfl | rfl | rfl | rfl | rfl | rfl | rfl | rfl | rfl | rfl | rfl | rfl <;> first | rfl | assumption
  refine zBz (by kernel_rfl) (by rfl) (by kernel_rfl) (by kernel_rfl) (by kernel_rfl) (by kernel_rfl) (by kernel_rfl) (by kernel_rfl) (by kernel_rfl) rfl rfl rfl rfl rfl rfl rfl rfl _ _ _ _ _ _ _ _ rfl rfl rfl rfl w.heap.size (w.heap.size + 1) (w.heap.size + 1 + 1) (w.heap.size + 1 + 1 + 1) _ _ _ _ _ _ _ _ hs hv ho hz rfl rfl _ _ Tryz.underlying89 rfl Tryz.underlying40 rfl (by kernel_rfl) (by kernel_rfl) (zAf rfl) hon (by omega) (by omega) _ rfl rfl rfl rfl rfl rfl rfl rfl rfl rfl rfl rfl rfl rfl rfl ?_
  intro u w' g1 g2 rA rB
  have B1 := zA3 B g1 (by omega) (by omega)
  have B2 := zA3 B1 g2 (by omega) B1.size
  have base := HSO.out.mv B2.size (show Mv G (GB G w) w w' from fun k hk hlt => ⟨B2.block k hlt, .inl ⟨hk, hlt⟩⟩)
  have mw : Mv (zB0 (w.heap.size + 4)) (GB G w) w' w' := fun k hk _ => ⟨rfl, .inr (Nat.le_trans (by omega) hk)⟩
  have fo0 := (((fo0.mv (Mv.from g1 (by omega) zN)).mv (Mv.from g2 (by omega) zN)).mv mw)
  have fg0 := (((fg0.mv (Mv.from g1 (by omega) zN)).mv (Mv.from g2 (by omega) zN)).mv mw)
  go_wp2_with fail
  refine bodyPost_ret (zAk rfl _ _ (w.heap.size + 1 + 1) (w.heap.size + 1 + 1 + 1) _ _ _ _ (0, 0) (0, 0) _ _ (by rfl) (by rfl) rA rB Tryz.underlying89 rfl (by kernel_rfl) Tryz.underlying40 rfl (by kernel_rfl)) rfl ?_
  exact ⟨{ m with oth := a0 }, { s with o' := vo0, g' := vg0 }, q1, bad1, rfl, hq1, B2, ⟨base.o, base.g, fo0, fg0, base.d, base.s, base.c, base.v, base.n, base.p, base.l⟩, ⟨fun _ => HZR.out.1 (by decide), fun _ => HZR.out.2.1 (by decide), fun _ => HZR.out.2.2 (by decide)⟩, zBo (he0.out)⟩
end Go.Proofs.YtgjepofinpmcpaaGreatDoor
