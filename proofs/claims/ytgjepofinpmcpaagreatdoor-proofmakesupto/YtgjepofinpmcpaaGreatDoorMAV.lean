/- The document's reading: a field. Written by mk5h.py. -/
import Derived.Test.YtgjepofinpmcpaaGreatDoorMAS
import Derived.Test.YtgjepofinpmcpaaGreatDoorMAR
set_option linter.unusedSimpArgs false
set_option linter.unusedVariables false
namespace Go.Proofs.YtgjepofinpmcpaaGreatDoor
open Go.RowKit Oct
def Zr (i : Nat) (s : SV) : Prop := (i ≤ 12 → s.n = .slice none 0 0) ∧ (i ≤ 13 → s.p = .slice none 0 0) ∧ (i ≤ 14 → s.l = .slice none 0 0)
def GB (G : Nat → Prop) (w : World) : Nat → Prop := fun k => (G k ∧ k < w.heap.size) ∨ w.heap.size ≤ k
def zF6 (G : Nat → Prop) (w : World) (bv : Value) (l : List Int) (p : Nat) (bad : Bool) (m : PMsg) (i : Nat) (e : Ending) (w' : World) : Prop :=
  ∃ (m' : PMsg) (s' : SV) (q : Nat) (bad' : Bool), e = .returned (.tuple #[.agg #[bv, .int .i64 (q : Int), .bool bad'], .agg (mc m' s').toArray]) ∧ q ≤ l.length ∧ Below w.heap.size w w' ∧ SOk (GB G w) w' m' s' ∧ Zr (i + 1) s' ∧
    (stL l p bad).bind (fun r => ((cF i).rd r).map fun x => (set m i x.1, x.2)) = (stL l q bad').map fun r => (m', r)
theorem zBo {α : Type} {c : Cdc α} {mk : α → FV} {un : FV → Option α} {g : FV → PMsg} {l : List Int} {p q : Nat} {b b' : Bool} {a : α} (h : (stL l p b).bind c.rd = (stL l q b').map fun r => (a, r)) :
    (stL l p b).bind (fun r => ((tag c mk un).rd r).map fun x => (g x.1, x.2)) = (stL l q b').map fun r => (g (mk a), r) := by
  show (stL l p b).bind (fun r => ((c.rd r).map fun x => (mk x.1, x.2)).map fun x => (g x.1, x.2)) = _
  cases hp : stL l p b with
  | none =>
    rw [hp] at h
    cases hq : stL l q b' with
    | none => rfl
    | some t => rw [hq] at h; cases h
  | some t =>
    rw [hp] at h
    have h' : c.rd t = (stL l q b').map fun r => (a, r) := h
    simp only [Option.bind_some, h']
    cases stL l q b' <;> rfl
set_option maxRecDepth 10000 in
set_option maxHeartbeats 4000000 in
theorem zK6 (G : Nat → Prop) (w : World) (bv : Value) (l : List Int) (p : Nat) (bad : Bool) (m : PMsg) (s : SV) (hrd : Rd w bv l) (hp : p ≤ l.length) (hl : l.length ≤ 1048576) (hso : SOk G w m s) (hzr : Zr 0 s) :
    Calls Tryz.prog 49 #[.agg #[bv, .int .i64 (p : Int), .bool bad], .agg (mc m s).toArray, .int .i64 0] w (zF6 G w bv l p bad m 0) := by
  obtain ⟨ab, cb, rfl, hcb⟩ := hrd.2.form
  obtain ⟨q0, bad0, hq0', hbad0⟩ : ∃ q0 bad0, q0 = p ∧ bad0 = bad := ⟨_, _, rfl, rfl⟩
  rw [← hq0', ← hbad0]
  have hq0 : q0 ≤ l.length := by omega
  clear hq0' hbad0 hp p bad
  have hone := (show Hid (∀ v ∈ mc m s, v.oneCell' = true) from hso.one)
  have HSO := (show Hid (SOk G w m s) from hso)
  have HZR := (show Hid (Zr 0 s) from hzr)
  clear hso hzr
  obtain ⟨w2, hw2⟩ : ∃ w2, w2 = (((w.alloc (.cells ([.slice ab (bc l).length cb, .int .i64 (q0 : Int), .bool bad0] : List Value).toArray 89)).alloc (.cells (mc m s).toArray 40)).alloc (.cells ([.slice none 0 0, .int .i64 0, .bool false] : List Value).toArray 89)).alloc (.cells (mc zAc sv0).toArray 40) := ⟨_, rfl⟩
  have hs : Row w2 w.heap.size 89 [.slice ab (bc l).length cb, .int .i64 (q0 : Int), .bool bad0] := by rw [hw2]; exact zA4 (zA4 (zA4 (Row.new w _ _) _) _) _
  have hv : Row w2 (w.heap.size + 1) 40 (mc m s) := by
    rw [hw2]; refine zA4 (zA4 ?_ _) _
    have := Row.new (w.alloc (.cells ([.slice ab (bc l).length cb, .int .i64 (q0 : Int), .bool bad0] : List Value).toArray 89)) 40 (mc m s)
    simpa using this
  have ho : Row w2 (w.heap.size + 1 + 1) 89 [.slice none 0 0, .int .i64 0, .bool false] := by
    rw [hw2]; refine zA4 ?_ _
    have := Row.new ((w.alloc (.cells ([.slice ab (bc l).length cb, .int .i64 (q0 : Int), .bool bad0] : List Value).toArray 89)).alloc (.cells (mc m s).toArray 40)) 89 [.slice none 0 0, .int .i64 0, .bool false]
    simpa using this
  have hz : Row w2 (w.heap.size + 1 + 1 + 1) 40 (mc zAc sv0) := by
    rw [hw2]
    have := Row.new (((w.alloc (.cells ([.slice ab (bc l).length cb, .int .i64 (q0 : Int), .bool bad0] : List Value).toArray 89)).alloc (.cells (mc m s).toArray 40)).alloc (.cells ([.slice none 0 0, .int .i64 0, .bool false] : List Value).toArray 89)) 40 (mc zAc sv0)
    simpa using this
  have B : Below w.heap.size w w2 := by rw [hw2]; exact ((((Below.refl _ w).alloc zN _).alloc (by simp) _).alloc (by simp; omega) _).alloc (by simp; omega) _
  have hC : w.heap.size + 4 ≤ w2.heap.size := by rw [hw2]; simp
  go_enter Tryz.func49, Tryz.ntmps49
  go_upto_region 1 with fail
  have hw2' : (((w.alloc (.cells ([.slice ab (bc l).length cb, .int .i64 (q0 : Int), .bool bad0] : List Value).toArray 89)).alloc (.cells (mc m s).toArray 40)).alloc (.cells #[.slice none 0 0, .int .i64 0, .bool false] 89)).alloc (.cells #[.int .i64 0, .int .i64 0, .int .i64 0, .int .i64 0, .int .i64 0, .int .i64 0, .int .i64 0, .int .i64 0, .int .i64 0, .int .i64 0, .slice none 0 0, .slice none 0 0, .int .i64 0, .int .i64 0, .slice none 0 0, .slice none 0 0, .slice none 0 0, .slice none 0 0, .slice none 0 0, .slice none 0 0, .slice none 0 0, .slice none 0 0, .slice none 0 0] 40) = w2 := hw2.symm
  rw [hw2']
  clear hw2 hw2'
  go_upto_region 4 with fail
  have hG := zAr _ _ l q0 bad0 (hrd.below B) hq0 hl
  go_upto_region 5 with (first
    | (refine zAa rfl _ _ rfl (w.heap.size) rfl _ _ hs _ Tryz.underlying89 rfl (by kernel_rfl) ?_)
    | (go_at_call 46; refine hG.mono ?_; rintro e wa0 ⟨a0, v0, q1, bad1, rfl, hq1, hb0, rfl, he0⟩; have hsa := hs.below hb0; have hva := hv.below hb0)
    | (refine zA7 rfl _ _ _ rfl (w.heap.size) [.slice ab (bc l).length cb, .int .i64 (q1 : Int), .bool bad1] rfl rfl _ _ hsa rfl (by kernel_rfl) (zAf rfl) ?_; intro wb0 hsb hgb0; have hvb := hva.grown hgb0 (fun h => by injection h; omega))
    | (refine zAb rfl _ _ _ rfl (w.heap.size + 1) 1 _ rfl rfl _ _ hvb (show 1 < 23 by decide) (by kernel_rfl) rfl ?_; intro wc0 hvc hgc0))
  have hs := hsb.out.grown hgc0 (fun h => by injection h; omega)
  have hv : Row wc0 (w.heap.size + 1) 40 [.int .i64 m.kind, .int .i64 a0, .int .i64 m.bal.2, .int .i64 m.slot, .int .i64 m.frm, .int .i64 m.to, .int .i64 m.idx, .int .i64 m.cnt, .int .i64 m.req.1, .int .i64 m.req.2.1, s.o, s.g, .int .i64 m.oth.1, .int .i64 m.oth.2.1, s.o', s.g', s.d, s.s, s.c, s.v, s.n, s.p, s.l] := hvc.out
  have ho := ((ho.below hb0).grown hgb0 (fun h => by injection h; omega)).grown hgc0 (fun h => by injection h; omega)
  have hz := ((hz.below hb0).grown hgb0 (fun h => by injection h; omega)).grown hgc0 (fun h => by injection h; omega)
  have he0 := (show Hid _ from he0)
  have B := zA3 (zA3 (zA1 B zN hb0) hgb0 (by omega) (Nat.le_trans (by omega) (Nat.le_trans hC hb0.size))) hgc0 (by omega) (Nat.le_trans (by omega) (Nat.le_trans hC (Nat.le_trans hb0.size hgb0.size)))
  have hC := Nat.le_trans hC (Nat.le_trans hb0.size (Nat.le_trans hgb0.size hgc0.size))
  clear hG hsa hva hsb hvb hvc hgb0 hgc0 hb0
  have hG := zAr _ _ l q1 bad1 (hrd.below B) hq1 hl
  go_upto_region 28 with (first
    | (refine zAa rfl _ _ rfl (w.heap.size) rfl _ _ hs _ Tryz.underlying89 rfl (by kernel_rfl) ?_)
    | (go_at_call 46; refine hG.mono ?_; rintro e wa1 ⟨a1, v1, q2, bad2, rfl, hq2, hb1, rfl, he1⟩; have hsa := hs.below hb1; have hva := hv.below hb1)
    | (refine zA7 rfl _ _ _ rfl (w.heap.size) [.slice ab (bc l).length cb, .int .i64 (q2 : Int), .bool bad2] rfl rfl _ _ hsa rfl (by kernel_rfl) (zAf rfl) ?_; intro wb1 hsb hgb1; have hvb := hva.grown hgb1 (fun h => by injection h; omega))
    | (refine zAb rfl _ _ _ rfl (w.heap.size + 1) 2 _ rfl rfl _ _ hvb (show 2 < 23 by decide) (by kernel_rfl) rfl ?_; intro wc1 hvc hgc1))
  have hs := hsb.out.grown hgc1 (fun h => by injection h; omega)
  have hv : Row wc1 (w.heap.size + 1) 40 [.int .i64 m.kind, .int .i64 a0, .int .i64 a1, .int .i64 m.slot, .int .i64 m.frm, .int .i64 m.to, .int .i64 m.idx, .int .i64 m.cnt, .int .i64 m.req.1, .int .i64 m.req.2.1, s.o, s.g, .int .i64 m.oth.1, .int .i64 m.oth.2.1, s.o', s.g', s.d, s.s, s.c, s.v, s.n, s.p, s.l] := hvc.out
  have ho := ((ho.below hb1).grown hgb1 (fun h => by injection h; omega)).grown hgc1 (fun h => by injection h; omega)
  have hz := ((hz.below hb1).grown hgb1 (fun h => by injection h; omega)).grown hgc1 (fun h => by injection h; omega)
  have he1 := (show Hid _ from he1)
  have B := zA3 (zA3 (zA1 B zN hb1) hgb1 (by omega) (Nat.le_trans (by omega) (Nat.le_trans hC hb1.size))) hgc1 (by omega) (Nat.le_trans (by omega) (Nat.le_trans hC (Nat.le_trans hb1.size hgb1.size)))
  have hC := Nat.le_trans hC (Nat.le_trans hb1.size (Nat.le_trans hgb1.size hgc1.size))
  clear hG hsa hva hsb hvb hvc hgb1 hgc1 hb1
  have hon : ∀ v ∈ [.int .i64 m.kind, .int .i64 a0, .int .i64 a1, .int .i64 m.slot, .int .i64 m.frm, .int .i64 m.to, .int .i64 m.idx, .int .i64 m.cnt, .int .i64 m.req.1, .int .i64 m.req.2.1, s.o, s.g, .int .i64 m.oth.1, .int .i64 m.oth.2.1, s.o', s.g', s.d, s.s, s.c, s.v, s.n, s.p, s.l], v.oneCell' = true := by
    intro v hv2
    have hB := HSO.out
    have t1 := hB.o.one; have t2 := hB.g.one; have t3 := hB.o'.one; have t4 := hB.g'.one; have t5 := hB.d.one; have t6 := hB.s.one; have t7 := hB.c.one; have t8 := hB.v.one; have t9 := hB.n.one; have t10 := hB.p.one; have t11 := hB.l.one
    clear hB HSO hs hv ho hz B hC
    simp only [List.mem_cons, List.not_mem_nil, or_false] at hv2
    rcases hv2 with rfl | rfl | rfl | rfl | rfl | rfl | rfl | rfl | rfl | rfl | rfl | rfl | rfl | rfl | rfl | rfl | rfl | rfl | rfl | rfl | rfl | rfl | rfl <;> first | rfl | assumption
  refine zBz (by kernel_rfl) (by rfl) (by kernel_rfl) (by kernel_rfl) (by kernel_rfl) (by kernel_rfl) (by kernel_rfl) (by kernel_rfl) (by kernel_rfl) rfl rfl rfl rfl rfl rfl rfl rfl _ _ _ _ _ _ _ _ rfl rfl rfl rfl w.heap.size (w.heap.size + 1) (w.heap.size + 1 + 1) (w.heap.size + 1 + 1 + 1) _ _ _ _ _ _ _ _ hs hv ho hz rfl rfl _ _ Tryz.underlying89 rfl Tryz.underlying40 rfl (by kernel_rfl) (by kernel_rfl) (zAf rfl) hon (by omega) (by omega) _ rfl rfl rfl rfl rfl rfl rfl rfl rfl rfl rfl rfl rfl rfl rfl ?_
  intro u w' g1 g2 rA rB
  have B1 := zA3 B g1 (by omega) (by omega)
  have B2 := zA3 B1 g2 (by omega) B1.size
  have base := HSO.out.mv B2.size (show Mv G (GB G w) w w' from fun k hk hlt => ⟨B2.block k hlt, .inl ⟨hk, hlt⟩⟩)
  have mw : Mv (zB0 (w.heap.size + 4)) (GB G w) w' w' := fun k hk _ => ⟨rfl, .inr (Nat.le_trans (by omega) hk)⟩
  go_wp2_with fail
  refine bodyPost_ret (zAk rfl _ _ (w.heap.size + 1 + 1) (w.heap.size + 1 + 1 + 1) _ _ _ _ (0, 0) (0, 0) _ _ (by rfl) (by rfl) rA rB Tryz.underlying89 rfl (by kernel_rfl) Tryz.underlying40 rfl (by kernel_rfl)) rfl ?_
  exact ⟨{ m with bal := (a0, a1) }, s, q2, bad2, rfl, hq2, B2, ⟨base.o, base.g, base.o', base.g', base.d, base.s, base.c, base.v, base.n, base.p, base.l⟩, ⟨fun _ => HZR.out.1 (by decide), fun _ => HZR.out.2.1 (by decide), fun _ => HZR.out.2.2 (by decide)⟩, zBo (zAs he0.out he1.out)⟩
set_option maxRecDepth 10000 in
set_option maxHeartbeats 4000000 in
theorem zL7 (G : Nat → Prop) (w : World) (bv : Value) (l : List Int) (p : Nat) (bad : Bool) (m : PMsg) (s : SV) (hrd : Rd w bv l) (hp : p ≤ l.length) (hl : l.length ≤ 1048576) (hso : SOk G w m s) (hzr : Zr 1 s) :
    Calls Tryz.prog 49 #[.agg #[bv, .int .i64 (p : Int), .bool bad], .agg (mc m s).toArray, .int .i64 1] w (zF6 G w bv l p bad m 1) := by
  obtain ⟨ab, cb, rfl, hcb⟩ := hrd.2.form
  obtain ⟨q0, bad0, hq0', hbad0⟩ : ∃ q0 bad0, q0 = p ∧ bad0 = bad := ⟨_, _, rfl, rfl⟩
  rw [← hq0', ← hbad0]
  have hq0 : q0 ≤ l.length := by omega
  clear hq0' hbad0 hp p bad
  have hone := (show Hid (∀ v ∈ mc m s, v.oneCell' = true) from hso.one)
  have HSO := (show Hid (SOk G w m s) from hso)
  have HZR := (show Hid (Zr 1 s) from hzr)
  clear hso hzr
  obtain ⟨w2, hw2⟩ : ∃ w2, w2 = (((w.alloc (.cells ([.slice ab (bc l).length cb, .int .i64 (q0 : Int), .bool bad0] : List Value).toArray 89)).alloc (.cells (mc m s).toArray 40)).alloc (.cells ([.slice none 0 0, .int .i64 0, .bool false] : List Value).toArray 89)).alloc (.cells (mc zAc sv0).toArray 40) := ⟨_, rfl⟩
  have hs : Row w2 w.heap.size 89 [.slice ab (bc l).length cb, .int .i64 (q0 : Int), .bool bad0] := by rw [hw2]; exact zA4 (zA4 (zA4 (Row.new w _ _) _) _) _
  have hv : Row w2 (w.heap.size + 1) 40 (mc m s) := by
    rw [hw2]; refine zA4 (zA4 ?_ _) _
    have := Row.new (w.alloc (.cells ([.slice ab (bc l).length cb, .int .i64 (q0 : Int), .bool bad0] : List Value).toArray 89)) 40 (mc m s)
    simpa using this
  have ho : Row w2 (w.heap.size + 1 + 1) 89 [.slice none 0 0, .int .i64 0, .bool false] := by
    rw [hw2]; refine zA4 ?_ _
    have := Row.new ((w.alloc (.cells ([.slice ab (bc l).length cb, .int .i64 (q0 : Int), .bool bad0] : List Value).toArray 89)).alloc (.cells (mc m s).toArray 40)) 89 [.slice none 0 0, .int .i64 0, .bool false]
    simpa using this
  have hz : Row w2 (w.heap.size + 1 + 1 + 1) 40 (mc zAc sv0) := by
    rw [hw2]
    have := Row.new (((w.alloc (.cells ([.slice ab (bc l).length cb, .int .i64 (q0 : Int), .bool bad0] : List Value).toArray 89)).alloc (.cells (mc m s).toArray 40)).alloc (.cells ([.slice none 0 0, .int .i64 0, .bool false] : List Value).toArray 89)) 40 (mc zAc sv0)
    simpa using this
  have B : Below w.heap.size w w2 := by rw [hw2]; exact ((((Below.refl _ w).alloc zN _).alloc (by simp) _).alloc (by simp; omega) _).alloc (by simp; omega) _
  have hC : w.heap.size + 4 ≤ w2.heap.size := by rw [hw2]; simp
  go_enter Tryz.func49, Tryz.ntmps49
  go_upto_region 1 with fail
  have hw2' : (((w.alloc (.cells ([.slice ab (bc l).length cb, .int .i64 (q0 : Int), .bool bad0] : List Value).toArray 89)).alloc (.cells (mc m s).toArray 40)).alloc (.cells #[.slice none 0 0, .int .i64 0, .bool false] 89)).alloc (.cells #[.int .i64 0, .int .i64 0, .int .i64 0, .int .i64 0, .int .i64 0, .int .i64 0, .int .i64 0, .int .i64 0, .int .i64 0, .int .i64 0, .slice none 0 0, .slice none 0 0, .int .i64 0, .int .i64 0, .slice none 0 0, .slice none 0 0, .slice none 0 0, .slice none 0 0, .slice none 0 0, .slice none 0 0, .slice none 0 0, .slice none 0 0, .slice none 0 0] 40) = w2 := hw2.symm
  rw [hw2']
  clear hw2 hw2'
  go_upto_region 7 with fail
  have hG := zAr _ _ l q0 bad0 (hrd.below B) hq0 hl
  go_upto_region 28 with (first
    | (refine zAa rfl _ _ rfl (w.heap.size) rfl _ _ hs _ Tryz.underlying89 rfl (by kernel_rfl) ?_)
    | (go_at_call 46; refine hG.mono ?_; rintro e wa0 ⟨a0, v0, q1, bad1, rfl, hq1, hb0, rfl, he0⟩; have hsa := hs.below hb0; have hva := hv.below hb0)
    | (refine zA7 rfl _ _ _ rfl (w.heap.size) [.slice ab (bc l).length cb, .int .i64 (q1 : Int), .bool bad1] rfl rfl _ _ hsa rfl (by kernel_rfl) (zAf rfl) ?_; intro wb0 hsb hgb0; have hvb := hva.grown hgb0 (fun h => by injection h; omega))
    | (refine zAb rfl _ _ _ rfl (w.heap.size + 1) 3 _ rfl rfl _ _ hvb (show 3 < 23 by decide) (by kernel_rfl) rfl ?_; intro wc0 hvc hgc0))
  have hs := hsb.out.grown hgc0 (fun h => by injection h; omega)
  have hv : Row wc0 (w.heap.size + 1) 40 [.int .i64 m.kind, .int .i64 m.bal.1, .int .i64 m.bal.2, .int .i64 a0, .int .i64 m.frm, .int .i64 m.to, .int .i64 m.idx, .int .i64 m.cnt, .int .i64 m.req.1, .int .i64 m.req.2.1, s.o, s.g, .int .i64 m.oth.1, .int .i64 m.oth.2.1, s.o', s.g', s.d, s.s, s.c, s.v, s.n, s.p, s.l] := hvc.out
  have ho := ((ho.below hb0).grown hgb0 (fun h => by injection h; omega)).grown hgc0 (fun h => by injection h; omega)
  have hz := ((hz.below hb0).grown hgb0 (fun h => by injection h; omega)).grown hgc0 (fun h => by injection h; omega)
  have he0 := (show Hid _ from he0)
  have B := zA3 (zA3 (zA1 B zN hb0) hgb0 (by omega) (Nat.le_trans (by omega) (Nat.le_trans hC hb0.size))) hgc0 (by omega) (Nat.le_trans (by omega) (Nat.le_trans hC (Nat.le_trans hb0.size hgb0.size)))
  have hC := Nat.le_trans hC (Nat.le_trans hb0.size (Nat.le_trans hgb0.size hgc0.size))
  clear hG hsa hva hsb hvb hvc hgb0 hgc0 hb0
  have hon : ∀ v ∈ [.int .i64 m.kind, .int .i64 m.bal.1, .int .i64 m.bal.2, .int .i64 a0, .int .i64 m.frm, .int .i64 m.to, .int .i64 m.idx, .int .i64 m.cnt, .int .i64 m.req.1, .int .i64 m.req.2.1, s.o, s.g, .int .i64 m.oth.1, .int .i64 m.oth.2.1, s.o', s.g', s.d, s.s, s.c, s.v, s.n, s.p, s.l], v.oneCell' = true := by
    intro v hv2
    have hB := HSO.out
    have t1 := hB.o.one; have t2 := hB.g.one; have t3 := hB.o'.one; have t4 := hB.g'.one; have t5 := hB.d.one; have t6 := hB.s.one; have t7 := hB.c.one; have t8 := hB.v.one; have t9 := hB.n.one; have t10 := hB.p.one; have t11 := hB.l.one
    clear hB HSO hs hv ho hz B hC
    simp only [List.mem_cons, List.not_mem_nil, or_false] at hv2
    rcases hv2 with rfl | rfl | rfl | rfl | rfl | rfl | rfl | rfl | rfl | rfl | rfl | rfl | rfl | rfl | rfl | rfl | rfl | rfl | rfl | rfl | rfl | rfl | rfl <;> first | rfl | assumption
  refine zBz (by kernel_rfl) (by rfl) (by kernel_rfl) (by kernel_rfl) (by kernel_rfl) (by kernel_rfl) (by kernel_rfl) (by kernel_rfl) (by kernel_rfl) rfl rfl rfl rfl rfl rfl rfl rfl _ _ _ _ _ _ _ _ rfl rfl rfl rfl w.heap.size (w.heap.size + 1) (w.heap.size + 1 + 1) (w.heap.size + 1 + 1 + 1) _ _ _ _ _ _ _ _ hs hv ho hz rfl rfl _ _ Tryz.underlying89 rfl Tryz.underlying40 rfl (by kernel_rfl) (by kernel_rfl) (zAf rfl) hon (by omega) (by omega) _ rfl rfl rfl rfl rfl rfl rfl rfl rfl rfl rfl rfl rfl rfl rfl ?_
  intro u w' g1 g2 rA rB
  have B1 := zA3 B g1 (by omega) (by omega)
  have B2 := zA3 B1 g2 (by omega) B1.size
  have base := HSO.out.mv B2.size (show Mv G (GB G w) w w' from fun k hk hlt => ⟨B2.block k hlt, .inl ⟨hk, hlt⟩⟩)
  have mw : Mv (zB0 (w.heap.size + 4)) (GB G w) w' w' := fun k hk _ => ⟨rfl, .inr (Nat.le_trans (by omega) hk)⟩
  go_wp2_with fail
  refine bodyPost_ret (zAk rfl _ _ (w.heap.size + 1 + 1) (w.heap.size + 1 + 1 + 1) _ _ _ _ (0, 0) (0, 0) _ _ (by rfl) (by rfl) rA rB Tryz.underlying89 rfl (by kernel_rfl) Tryz.underlying40 rfl (by kernel_rfl)) rfl ?_
  exact ⟨{ m with slot := a0 }, s, q1, bad1, rfl, hq1, B2, ⟨base.o, base.g, base.o', base.g', base.d, base.s, base.c, base.v, base.n, base.p, base.l⟩, ⟨fun _ => HZR.out.1 (by decide), fun _ => HZR.out.2.1 (by decide), fun _ => HZR.out.2.2 (by decide)⟩, zBo (he0.out)⟩
set_option maxRecDepth 10000 in
set_option maxHeartbeats 4000000 in
theorem zKh (G : Nat → Prop) (w : World) (bv : Value) (l : List Int) (p : Nat) (bad : Bool) (m : PMsg) (s : SV) (hrd : Rd w bv l) (hp : p ≤ l.length) (hl : l.length ≤ 1048576) (hso : SOk G w m s) (hzr : Zr 2 s) :
    Calls Tryz.prog 49 #[.agg #[bv, .int .i64 (p : Int), .bool bad], .agg (mc m s).toArray, .int .i64 2] w (zF6 G w bv l p bad m 2) := by
  obtain ⟨ab, cb, rfl, hcb⟩ := hrd.2.form
  obtain ⟨q0, bad0, hq0', hbad0⟩ : ∃ q0 bad0, q0 = p ∧ bad0 = bad := ⟨_, _, rfl, rfl⟩
  rw [← hq0', ← hbad0]
  have hq0 : q0 ≤ l.length := by omega
  clear hq0' hbad0 hp p bad
  have hone := (show Hid (∀ v ∈ mc m s, v.oneCell' = true) from hso.one)
  have HSO := (show Hid (SOk G w m s) from hso)
  have HZR := (show Hid (Zr 2 s) from hzr)
  clear hso hzr
  obtain ⟨w2, hw2⟩ : ∃ w2, w2 = (((w.alloc (.cells ([.slice ab (bc l).length cb, .int .i64 (q0 : Int), .bool bad0] : List Value).toArray 89)).alloc (.cells (mc m s).toArray 40)).alloc (.cells ([.slice none 0 0, .int .i64 0, .bool false] : List Value).toArray 89)).alloc (.cells (mc zAc sv0).toArray 40) := ⟨_, rfl⟩
  have hs : Row w2 w.heap.size 89 [.slice ab (bc l).length cb, .int .i64 (q0 : Int), .bool bad0] := by rw [hw2]; exact zA4 (zA4 (zA4 (Row.new w _ _) _) _) _
  have hv : Row w2 (w.heap.size + 1) 40 (mc m s) := by
    rw [hw2]; refine zA4 (zA4 ?_ _) _
    have := Row.new (w.alloc (.cells ([.slice ab (bc l).length cb, .int .i64 (q0 : Int), .bool bad0] : List Value).toArray 89)) 40 (mc m s)
    simpa using this
  have ho : Row w2 (w.heap.size + 1 + 1) 89 [.slice none 0 0, .int .i64 0, .bool false] := by
    rw [hw2]; refine zA4 ?_ _
    have := Row.new ((w.alloc (.cells ([.slice ab (bc l).length cb, .int .i64 (q0 : Int), .bool bad0] : List Value).toArray 89)).alloc (.cells (mc m s).toArray 40)) 89 [.slice none 0 0, .int .i64 0, .bool false]
    simpa using this
  have hz : Row w2 (w.heap.size + 1 + 1 + 1) 40 (mc zAc sv0) := by
    rw [hw2]
    have := Row.new (((w.alloc (.cells ([.slice ab (bc l).length cb, .int .i64 (q0 : Int), .bool bad0] : List Value).toArray 89)).alloc (.cells (mc m s).toArray 40)).alloc (.cells ([.slice none 0 0, .int .i64 0, .bool false] : List Value).toArray 89)) 40 (mc zAc sv0)
    simpa using this
  have B : Below w.heap.size w w2 := by rw [hw2]; exact ((((Below.refl _ w).alloc zN _).alloc (by simp) _).alloc (by simp; omega) _).alloc (by simp; omega) _
  have hC : w.heap.size + 4 ≤ w2.heap.size := by rw [hw2]; simp
  go_enter Tryz.func49, Tryz.ntmps49
  go_upto_region 1 with fail
  have hw2' : (((w.alloc (.cells ([.slice ab (bc l).length cb, .int .i64 (q0 : Int), .bool bad0] : List Value).toArray 89)).alloc (.cells (mc m s).toArray 40)).alloc (.cells #[.slice none 0 0, .int .i64 0, .bool false] 89)).alloc (.cells #[.int .i64 0, .int .i64 0, .int .i64 0, .int .i64 0, .int .i64 0, .int .i64 0, .int .i64 0, .int .i64 0, .int .i64 0, .int .i64 0, .slice none 0 0, .slice none 0 0, .int .i64 0, .int .i64 0, .slice none 0 0, .slice none 0 0, .slice none 0 0, .slice none 0 0, .slice none 0 0, .slice none 0 0, .slice none 0 0, .slice none 0 0, .slice none 0 0] 40) = w2 := hw2.symm
  rw [hw2']
  clear hw2 hw2'
  go_upto_region 9 with fail
  have hG := zAr _ _ l q0 bad0 (hrd.below B) hq0 hl
  go_upto_region 28 with (first
    | (refine zAa rfl _ _ rfl (w.heap.size) rfl _ _ hs _ Tryz.underlying89 rfl (by kernel_rfl) ?_)
    | (go_at_call 46; refine hG.mono ?_; rintro e wa0 ⟨a0, v0, q1, bad1, rfl, hq1, hb0, rfl, he0⟩; have hsa := hs.below hb0; have hva := hv.below hb0)
    | (refine zA7 rfl _ _ _ rfl (w.heap.size) [.slice ab (bc l).length cb, .int .i64 (q1 : Int), .bool bad1] rfl rfl _ _ hsa rfl (by kernel_rfl) (zAf rfl) ?_; intro wb0 hsb hgb0; have hvb := hva.grown hgb0 (fun h => by injection h; omega))
    | (refine zAb rfl _ _ _ rfl (w.heap.size + 1) 4 _ rfl rfl _ _ hvb (show 4 < 23 by decide) (by kernel_rfl) rfl ?_; intro wc0 hvc hgc0))
  have hs := hsb.out.grown hgc0 (fun h => by injection h; omega)
  have hv : Row wc0 (w.heap.size + 1) 40 [.int .i64 m.kind, .int .i64 m.bal.1, .int .i64 m.bal.2, .int .i64 m.slot, .int .i64 a0, .int .i64 m.to, .int .i64 m.idx, .int .i64 m.cnt, .int .i64 m.req.1, .int .i64 m.req.2.1, s.o, s.g, .int .i64 m.oth.1, .int .i64 m.oth.2.1, s.o', s.g', s.d, s.s, s.c, s.v, s.n, s.p, s.l] := hvc.out
  have ho := ((ho.below hb0).grown hgb0 (fun h => by injection h; omega)).grown hgc0 (fun h => by injection h; omega)
  have hz := ((hz.below hb0).grown hgb0 (fun h => by injection h; omega)).grown hgc0 (fun h => by injection h; omega)
  have he0 := (show Hid _ from he0)
  have B := zA3 (zA3 (zA1 B zN hb0) hgb0 (by omega) (Nat.le_trans (by omega) (Nat.le_trans hC hb0.size))) hgc0 (by omega) (Nat.le_trans (by omega) (Nat.le_trans hC (Nat.le_trans hb0.size hgb0.size)))
  have hC := Nat.le_trans hC (Nat.le_trans hb0.size (Nat.le_trans hgb0.size hgc0.size))
  clear hG hsa hva hsb hvb hvc hgb0 hgc0 hb0
  have hon : ∀ v ∈ [.int .i64 m.kind, .int .i64 m.bal.1, .int .i64 m.bal.2, .int .i64 m.slot, .int .i64 a0, .int .i64 m.to, .int .i64 m.idx, .int .i64 m.cnt, .int .i64 m.req.1, .int .i64 m.req.2.1, s.o, s.g, .int .i64 m.oth.1, .int .i64 m.oth.2.1, s.o', s.g', s.d, s.s, s.c, s.v, s.n, s.p, s.l], v.oneCell' = true := by
    intro v hv2
    have hB := HSO.out
    have t1 := hB.o.one; have t2 := hB.g.one; have t3 := hB.o'.one; have t4 := hB.g'.one; have t5 := hB.d.one; have t6 := hB.s.one; have t7 := hB.c.one; have t8 := hB.v.one; have t9 := hB.n.one; have t10 := hB.p.one; have t11 := hB.l.one
    clear hB HSO hs hv ho hz B hC
    simp only [List.mem_cons, List.not_mem_nil, or_false] at hv2
    rcases hv2 with rfl | rfl | rfl | rfl | rfl | rfl | rfl | rfl | rfl | rfl | rfl | rfl | rfl | rfl | rfl | rfl | rfl | rfl | rfl | rfl | rfl | rfl | rfl <;> first | rfl | assumption
  refine zBz (by kernel_rfl) (by rfl) (by kernel_rfl) (by kernel_rfl) (by kernel_rfl) (by kernel_rfl) (by kernel_rfl) (by kernel_rfl) (by kernel_rfl) rfl rfl rfl rfl rfl rfl rfl rfl _ _ _ _ _ _ _ _ rfl rfl rfl rfl w.heap.size (w.heap.size + 1) (w.heap.size + 1 + 1) (w.heap.size + 1 + 1 + 1) _ _ _ _ _ _ _ _ hs hv ho hz rfl rfl _ _ Tryz.underlying89 rfl Tryz.underlying40 rfl (by kernel_rfl) (by kernel_rfl) (zAf rfl) hon (by omega) (by omega) _ rfl rfl rfl rfl rfl rfl rfl rfl rfl rfl rfl rfl rfl rfl rfl ?_
  intro u w' g1 g2 rA rB
  have B1 := zA3 B g1 (by omega) (by omega)
  have B2 := zA3 B1 g2 (by omega) B1.size
  have base := HSO.out.mv B2.size (show Mv G (GB G w) w w' from fun k hk hlt => ⟨B2.block k hlt, .inl ⟨hk, hlt⟩⟩)
  have mw : Mv (zB0 (w.heap.size + 4)) (GB G w) w' w' := fun k hk _ => ⟨rfl, .inr (Nat.le_trans (by omega) hk)⟩
  go_wp2_with fail
  refine bodyPost_ret (zAk rfl _ _ (w.heap.size + 1 + 1) (w.heap.size + 1 + 1 + 1) _ _ _ _ (0, 0) (0, 0) _ _ (by rfl) (by rfl) rA rB Tryz.underlying89 rfl (by kernel_rfl) Tryz.underlying40 rfl (by kernel_rfl)) rfl ?_
  exact ⟨{ m with frm := a0 }, s, q1, bad1, rfl, hq1, B2, ⟨base.o, base.g, base.o', base.g', base.d, base.s, base.c, base.v, base.n, base.p, base.l⟩, ⟨fun _ => HZR.out.1 (by decide), fun _ => HZR.out.2.1 (by decide), fun _ => HZR.out.2.2 (by decide)⟩, zBo (he0.out)⟩
set_option maxRecDepth 10000 in
set_option maxHeartbeats 4000000 in
theorem zKa (G : Nat → Prop) (w : World) (bv : Value) (l : List Int) (p : Nat) (bad : Bool) (m : PMsg) (s : SV) (hrd : Rd w bv l) (hp : p ≤ l.length) (hl : l.length ≤ 1048576) (hso : SOk G w m s) (hzr : Zr 3 s) :
    Calls Tryz.prog 49 #[.agg #[bv, .int .i64 (p : Int), .bool bad], .agg (mc m s).toArray, .int .i64 3] w (zF6 G w bv l p bad m 3) := by
  obtain ⟨ab, cb, rfl, hcb⟩ := hrd.2.form
  obtain ⟨q0, bad0, hq0', hbad0⟩ : ∃ q0 bad0, q0 = p ∧ bad0 = bad := ⟨_, _, rfl, rfl⟩
  rw [← hq0', ← hbad0]
  have hq0 : q0 ≤ l.length := by omega
  clear hq0' hbad0 hp p bad
  have hone := (show Hid (∀ v ∈ mc m s, v.oneCell' = true) from hso.one)
  have HSO := (show Hid (SOk G w m s) from hso)
  have HZR := (show Hid (Zr 3 s) from hzr)
  clear hso hzr
  obtain ⟨w2, hw2⟩ : ∃ w2, w2 = (((w.alloc (.cells ([.slice ab (bc l).length cb, .int .i64 (q0 : Int), .bool bad0] : List Value).toArray 89)).alloc (.cells (mc m s).toArray 40)).alloc (.cells ([.slice none 0 0, .int .i64 0, .bool false] : List Value).toArray 89)).alloc (.cells (mc zAc sv0).toArray 40) := ⟨_, rfl⟩
  have hs : Row w2 w.heap.size 89 [.slice ab (bc l).length cb, .int .i64 (q0 : Int), .bool bad0] := by rw [hw2]; exact zA4 (zA4 (zA4 (Row.new w _ _) _) _) _
  have hv : Row w2 (w.heap.size + 1) 40 (mc m s) := by
    rw [hw2]; refine zA4 (zA4 ?_ _) _
    have := Row.new (w.alloc (.cells ([.slice ab (bc l).length cb, .int .i64 (q0 : Int), .bool bad0] : List Value).toArray 89)) 40 (mc m s)
    simpa using this
  have ho : Row w2 (w.heap.size + 1 + 1) 89 [.slice none 0 0, .int .i64 0, .bool false] := by
    rw [hw2]; refine zA4 ?_ _
    have := Row.new ((w.alloc (.cells ([.slice ab (bc l).length cb, .int .i64 (q0 : Int), .bool bad0] : List Value).toArray 89)).alloc (.cells (mc m s).toArray 40)) 89 [.slice none 0 0, .int .i64 0, .bool false]
    simpa using this
  have hz : Row w2 (w.heap.size + 1 + 1 + 1) 40 (mc zAc sv0) := by
    rw [hw2]
    have := Row.new (((w.alloc (.cells ([.slice ab (bc l).length cb, .int .i64 (q0 : Int), .bool bad0] : List Value).toArray 89)).alloc (.cells (mc m s).toArray 40)).alloc (.cells ([.slice none 0 0, .int .i64 0, .bool false] : List Value).toArray 89)) 40 (mc zAc sv0)
    simpa using this
  have B : Below w.heap.size w w2 := by rw [hw2]; exact ((((Below.refl _ w).alloc zN _).alloc (by simp) _).alloc (by simp; omega) _).alloc (by simp; omega) _
  have hC : w.heap.size + 4 ≤ w2.heap.size := by rw [hw2]; simp
  go_enter Tryz.func49, Tryz.ntmps49
  go_upto_region 1 with fail
  have hw2' : (((w.alloc (.cells ([.slice ab (bc l).length cb, .int .i64 (q0 : Int), .bool bad0] : List Value).toArray 89)).alloc (.cells (mc m s).toArray 40)).alloc (.cells #[.slice none 0 0, .int .i64 0, .bool false] 89)).alloc (.cells #[.int .i64 0, .int .i64 0, .int .i64 0, .int .i64 0, .int .i64 0, .int .i64 0, .int .i64 0, .int .i64 0, .int .i64 0, .int .i64 0, .slice none 0 0, .slice none 0 0, .int .i64 0, .int .i64 0, .slice none 0 0, .slice none 0 0, .slice none 0 0, .slice none 0 0, .slice none 0 0, .slice none 0 0, .slice none 0 0, .slice none 0 0, .slice none 0 0] 40) = w2 := hw2.symm
  rw [hw2']
  clear hw2 hw2'
  go_upto_region 11 with fail
  have hG := zAr _ _ l q0 bad0 (hrd.below B) hq0 hl
  go_upto_region 28 with (first
    | (refine zAa rfl _ _ rfl (w.heap.size) rfl _ _ hs _ Tryz.underlying89 rfl (by kernel_rfl) ?_)
    | (go_at_call 46; refine hG.mono ?_; rintro e wa0 ⟨a0, v0, q1, bad1, rfl, hq1, hb0, rfl, he0⟩; have hsa := hs.below hb0; have hva := hv.below hb0)
    | (refine zA7 rfl _ _ _ rfl (w.heap.size) [.slice ab (bc l).length cb, .int .i64 (q1 : Int), .bool bad1] rfl rfl _ _ hsa rfl (by kernel_rfl) (zAf rfl) ?_; intro wb0 hsb hgb0; have hvb := hva.grown hgb0 (fun h => by injection h; omega))
    | (refine zAb rfl _ _ _ rfl (w.heap.size + 1) 5 _ rfl rfl _ _ hvb (show 5 < 23 by decide) (by kernel_rfl) rfl ?_; intro wc0 hvc hgc0))
  have hs := hsb.out.grown hgc0 (fun h => by injection h; omega)
  have hv : Row wc0 (w.heap.size + 1) 40 [.int .i64 m.kind, .int .i64 m.bal.1, .int .i64 m.bal.2, .int .i64 m.slot, .int .i64 m.frm, .int .i64 a0, .int .i64 m.idx, .int .i64 m.cnt, .int .i64 m.req.1, .int .i64 m.req.2.1, s.o, s.g, .int .i64 m.oth.1, .int .i64 m.oth.2.1, s.o', s.g', s.d, s.s, s.c, s.v, s.n, s.p, s.l] := hvc.out
  have ho := ((ho.below hb0).grown hgb0 (fun h => by injection h; omega)).grown hgc0 (fun h => by injection h; omega)
  have hz := ((hz.below hb0).grown hgb0 (fun h => by injection h; omega)).grown hgc0 (fun h => by injection h; omega)
  have he0 := (show Hid _ from he0)
  have B := zA3 (zA3 (zA1 B zN hb0) hgb0 (by omega) (Nat.le_trans (by omega) (Nat.le_trans hC hb0.size))) hgc0 (by omega) (Nat.le_trans (by omega) (Nat.le_trans hC (Nat.le_trans hb0.size hgb0.size)))
  have hC := Nat.le_trans hC (Nat.le_trans hb0.size (Nat.le_trans hgb0.size hgc0.size))
  clear hG hsa hva hsb hvb hvc hgb0 hgc0 hb0
  have hon : ∀ v ∈ [.int .i64 m.kind, .int .i64 m.bal.1, .int .i64 m.bal.2, .int .i64 m.slot, .int .i64 m.frm, .int .i64 a0, .int .i64 m.idx, .int .i64 m.cnt, .int .i64 m.req.1, .int .i64 m.req.2.1, s.o, s.g, .int .i64 m.oth.1, .int .i64 m.oth.2.1, s.o', s.g', s.d, s.s, s.c, s.v, s.n, s.p, s.l], v.oneCell' = true := by
    intro v hv2
    have hB := HSO.out
    have t1 := hB.o.one; have t2 := hB.g.one; have t3 := hB.o'.one; have t4 := hB.g'.one; have t5 := hB.d.one; have t6 := hB.s.one; have t7 := hB.c.one; have t8 := hB.v.one; have t9 := hB.n.one; have t10 := hB.p.one; have t11 := hB.l.one
    clear hB HSO hs hv ho hz B hC
    simp only [List.mem_cons, List.not_mem_nil, or_false] at hv2
    rcases hv2 with rfl | rfl | rfl | rfl | rfl | rfl | rfl | rfl | rfl | rfl | rfl | rfl | rfl | rfl | rfl | rfl | rfl | rfl | rfl | rfl | rfl | rfl | rfl <;> first | rfl | assumption
  refine zBz (by kernel_rfl) (by rfl) (by kernel_rfl) (by kernel_rfl) (by kernel_rfl) (by kernel_rfl) (by kernel_rfl) (by kernel_rfl) (by kernel_rfl) rfl rfl rfl rfl rfl rfl rfl rfl _ _ _ _ _ _ _ _ rfl rfl rfl rfl w.heap.size (w.heap.size + 1) (w.heap.size + 1 + 1) (w.heap.size + 1 + 1 + 1) _ _ _ _ _ _ _ _ hs hv ho hz rfl rfl _ _ Tryz.underlying89 rfl Tryz.underlying40 rfl (by kernel_rfl) (by kernel_rfl) (zAf rfl) hon (by omega) (by omega) _ rfl rfl rfl rfl rfl rfl rfl rfl rfl rfl rfl rfl rfl rfl rfl ?_
  intro u w' g1 g2 rA rB
  have B1 := zA3 B g1 (by omega) (by omega)
  have B2 := zA3 B1 g2 (by omega) B1.size
  have base := HSO.out.mv B2.size (show Mv G (GB G w) w w' from fun k hk hlt => ⟨B2.block k hlt, .inl ⟨hk, hlt⟩⟩)
  have mw : Mv (zB0 (w.heap.size + 4)) (GB G w) w' w' := fun k hk _ => ⟨rfl, .inr (Nat.le_trans (by omega) hk)⟩
  go_wp2_with fail
  refine bodyPost_ret (zAk rfl _ _ (w.heap.size + 1 + 1) (w.heap.size + 1 + 1 + 1) _ _ _ _ (0, 0) (0, 0) _ _ (by rfl) (by rfl) rA rB Tryz.underlying89 rfl (by kernel_rfl) Tryz.underlying40 rfl (by kernel_rfl)) rfl ?_
  exact ⟨{ m with to := a0 }, s, q1, bad1, rfl, hq1, B2, ⟨base.o, base.g, base.o', base.g', base.d, base.s, base.c, base.v, base.n, base.p, base.l⟩, ⟨fun _ => HZR.out.1 (by decide), fun _ => HZR.out.2.1 (by decide), fun _ => HZR.out.2.2 (by decide)⟩, zBo (he0.out)⟩
end Go.Proofs.YtgjepofinpmcpaaGreatDoor
