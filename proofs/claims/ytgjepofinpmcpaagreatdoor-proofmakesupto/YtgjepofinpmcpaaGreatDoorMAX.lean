/- The document's reading: reports. Written by mk5h.py. -/
import Derived.Test.YtgjepofinpmcpaaGreatDoorMAS
import Derived.Test.YtgjepofinpmcpaaGreatDoorMAR
set_option linter.unusedSimpArgs false
set_option linter.unusedVariables false
namespace Go.Proofs.YtgjepofinpmcpaaGreatDoor
open Go.RowKit Oct
def Btw (lo hi : Nat) : Nat → Prop := fun k => lo ≤ k ∧ k < hi
set_option maxRecDepth 10000 in
set_option maxHeartbeats 8000000 in
theorem zKi (w : World) (bv : Value) (l : List Int) (p : Nat) (bad : Bool) (hrd : Rd w bv l) (hp : p ≤ l.length) (hl : l.length ≤ 1048576) :
    Calls Tryz.prog 122 #[.agg #[bv, .int .i64 (p : Int), .bool bad]] w (zH4 zBr (VA zDo) w bv l p bad) := by
  obtain ⟨ab, cb, rfl, hcb⟩ := hrd.2.form
  obtain ⟨q0, bad0, hq0', hbad0⟩ : ∃ q0 bad0, q0 = p ∧ bad0 = bad := ⟨_, _, rfl, rfl⟩
  rw [← hq0', ← hbad0]
  have hq0 : q0 ≤ l.length := by omega
  clear hq0' hbad0 hp p bad
  obtain ⟨w2, hw2⟩ : ∃ w2, w2 = (((w.alloc (.cells ([.slice ab (bc l).length cb, .int .i64 (q0 : Int), .bool bad0] : List Value).toArray 89)).alloc (.cells ([.slice none 0 0, .int .i64 0, .bool false] : List Value).toArray 89)).alloc (.cells ([.int .i64 0, .int .i64 0, .int .i64 0, .int .i64 0, .slice none 0 0, .slice none 0 0, .slice none 0 0, .slice none 0 0] : List Value).toArray 68)).alloc (.cells ([.int .i64 0, .int .i64 0, .int .i64 0, .int .i64 0, .slice none 0 0, .slice none 0 0, .slice none 0 0, .slice none 0 0] : List Value).toArray 68) := ⟨_, rfl⟩
  have hs : Row w2 w.heap.size 89 [.slice ab (bc l).length cb, .int .i64 (q0 : Int), .bool bad0] := by rw [hw2]; exact zA4 (zA4 (zA4 (Row.new w _ _) _) _) _
  have ho : Row w2 (w.heap.size + 1) 89 [.slice none 0 0, .int .i64 0, .bool false] := by
    rw [hw2]; refine zA4 (zA4 ?_ _) _
    have := Row.new (w.alloc (.cells ([.slice ab (bc l).length cb, .int .i64 (q0 : Int), .bool bad0] : List Value).toArray 89)) 89 [.slice none 0 0, .int .i64 0, .bool false]
    simpa using this
  have hz : Row w2 (w.heap.size + 1 + 1) 68 [.int .i64 0, .int .i64 0, .int .i64 0, .int .i64 0, .slice none 0 0, .slice none 0 0, .slice none 0 0, .slice none 0 0] := by
    rw [hw2]; refine zA4 ?_ _
    have := Row.new ((w.alloc (.cells ([.slice ab (bc l).length cb, .int .i64 (q0 : Int), .bool bad0] : List Value).toArray 89)).alloc (.cells ([.slice none 0 0, .int .i64 0, .bool false] : List Value).toArray 89)) 68 [.int .i64 0, .int .i64 0, .int .i64 0, .int .i64 0, .slice none 0 0, .slice none 0 0, .slice none 0 0, .slice none 0 0]
    simpa using this
  have hv : Row w2 (w.heap.size + 1 + 1 + 1) 68 [.int .i64 0, .int .i64 0, .int .i64 0, .int .i64 0, .slice none 0 0, .slice none 0 0, .slice none 0 0, .slice none 0 0] := by
    rw [hw2]
    have := Row.new (((w.alloc (.cells ([.slice ab (bc l).length cb, .int .i64 (q0 : Int), .bool bad0] : List Value).toArray 89)).alloc (.cells ([.slice none 0 0, .int .i64 0, .bool false] : List Value).toArray 89)).alloc (.cells ([.int .i64 0, .int .i64 0, .int .i64 0, .int .i64 0, .slice none 0 0, .slice none 0 0, .slice none 0 0, .slice none 0 0] : List Value).toArray 68)) 68 [.int .i64 0, .int .i64 0, .int .i64 0, .int .i64 0, .slice none 0 0, .slice none 0 0, .slice none 0 0, .slice none 0 0]
    simpa using this
  have B : Below w.heap.size w w2 := by rw [hw2]; exact ((((Below.refl _ w).alloc zN _).alloc (by simp) _).alloc (by simp; omega) _).alloc (by simp; omega) _
  have hC : w.heap.size + 4 ≤ w2.heap.size := by rw [hw2]; simp
  go_enter Tryz.func122, Tryz.ntmps122
  go_upto_region 2 with fail
  rw [← hw2]
  clear hw2
  have hG := zAr _ _ l q0 bad0 (hrd.below B) hq0 hl
  go_upto_region 3 with (first
    | (refine zAa rfl _ _ rfl (w.heap.size) rfl _ _ hs _ Tryz.underlying89 rfl (by kernel_rfl) ?_)
    | (go_at_call 46; refine hG.mono ?_; rintro e wa0 ⟨a0, v0, q1, bad1, rfl, hq1, hb0, rfl, he0⟩; have hsa := hs.below hb0; have hva := hv.below hb0)
    | (refine zA7 rfl _ _ _ rfl (w.heap.size) [.slice ab (bc l).length cb, .int .i64 (q1 : Int), .bool bad1] rfl rfl _ _ hsa rfl (by kernel_rfl) (zAf rfl) ?_; intro wb0 hsb hgb0; have hvb := hva.grown hgb0 (fun h => by injection h; omega))
    | (refine zAb rfl _ _ _ rfl (w.heap.size + 1 + 1 + 1) 0 _ rfl rfl _ _ hvb (show 0 < 8 by decide) (by kernel_rfl) rfl ?_; intro wc0 hvc hgc0))
  have hs := hsb.out.grown hgc0 (fun h => by injection h; omega)
  have hv : Row wc0 (w.heap.size + 1 + 1 + 1) 68 [.int .i64 a0, .int .i64 0, .int .i64 0, .int .i64 0, .slice none 0 0, .slice none 0 0, .slice none 0 0, .slice none 0 0] := hvc.out
  have ho := ((ho.below hb0).grown hgb0 (fun h => by injection h; omega)).grown hgc0 (fun h => by injection h; omega)
  have hz := ((hz.below hb0).grown hgb0 (fun h => by injection h; omega)).grown hgc0 (fun h => by injection h; omega)
  have he0 := (show Hid _ from he0)
  have B := zA3 (zA3 (zA1 B zN hb0) hgb0 (by omega) (Nat.le_trans (by omega) (Nat.le_trans hC hb0.size))) hgc0 (by omega) (Nat.le_trans (by omega) (Nat.le_trans hC (Nat.le_trans hb0.size hgb0.size)))
  have hC := Nat.le_trans hC (Nat.le_trans hb0.size (Nat.le_trans hgb0.size hgc0.size))
  clear hG hsa hva hsb hvb hvc hgb0 hgc0 hb0
  have hG := zAr _ _ l q1 bad1 (hrd.below B) hq1 hl
  go_upto_region 4 with (first
    | (refine zAa rfl _ _ rfl (w.heap.size) rfl _ _ hs _ Tryz.underlying89 rfl (by kernel_rfl) ?_)
    | (go_at_call 46; refine hG.mono ?_; rintro e wa1 ⟨a1, v1, q2, bad2, rfl, hq2, hb1, rfl, he1⟩; have hsa := hs.below hb1; have hva := hv.below hb1)
    | (refine zA7 rfl _ _ _ rfl (w.heap.size) [.slice ab (bc l).length cb, .int .i64 (q2 : Int), .bool bad2] rfl rfl _ _ hsa rfl (by kernel_rfl) (zAf rfl) ?_; intro wb1 hsb hgb1; have hvb := hva.grown hgb1 (fun h => by injection h; omega))
    | (refine zAb rfl _ _ _ rfl (w.heap.size + 1 + 1 + 1) 1 _ rfl rfl _ _ hvb (show 1 < 8 by decide) (by kernel_rfl) rfl ?_; intro wc1 hvc hgc1))
  have hs := hsb.out.grown hgc1 (fun h => by injection h; omega)
  have hv : Row wc1 (w.heap.size + 1 + 1 + 1) 68 [.int .i64 a0, .int .i64 a1, .int .i64 0, .int .i64 0, .slice none 0 0, .slice none 0 0, .slice none 0 0, .slice none 0 0] := hvc.out
  have ho := ((ho.below hb1).grown hgb1 (fun h => by injection h; omega)).grown hgc1 (fun h => by injection h; omega)
  have hz := ((hz.below hb1).grown hgb1 (fun h => by injection h; omega)).grown hgc1 (fun h => by injection h; omega)
  have he1 := (show Hid _ from he1)
  have B := zA3 (zA3 (zA1 B zN hb1) hgb1 (by omega) (Nat.le_trans (by omega) (Nat.le_trans hC hb1.size))) hgc1 (by omega) (Nat.le_trans (by omega) (Nat.le_trans hC (Nat.le_trans hb1.size hgb1.size)))
  have hC := Nat.le_trans hC (Nat.le_trans hb1.size (Nat.le_trans hgb1.size hgc1.size))
  clear hG hsa hva hsb hvb hvc hgb1 hgc1 hb1
  have hG := zAr _ _ l q2 bad2 (hrd.below B) hq2 hl
  go_upto_region 5 with (first
    | (refine zAa rfl _ _ rfl (w.heap.size) rfl _ _ hs _ Tryz.underlying89 rfl (by kernel_rfl) ?_)
    | (go_at_call 46; refine hG.mono ?_; rintro e wa2 ⟨a2, v2, q3, bad3, rfl, hq3, hb2, rfl, he2⟩; have hsa := hs.below hb2; have hva := hv.below hb2)
    | (refine zA7 rfl _ _ _ rfl (w.heap.size) [.slice ab (bc l).length cb, .int .i64 (q3 : Int), .bool bad3] rfl rfl _ _ hsa rfl (by kernel_rfl) (zAf rfl) ?_; intro wb2 hsb hgb2; have hvb := hva.grown hgb2 (fun h => by injection h; omega))
    | (refine zAb rfl _ _ _ rfl (w.heap.size + 1 + 1 + 1) 2 _ rfl rfl _ _ hvb (show 2 < 8 by decide) (by kernel_rfl) rfl ?_; intro wc2 hvc hgc2))
  have hs := hsb.out.grown hgc2 (fun h => by injection h; omega)
  have hv : Row wc2 (w.heap.size + 1 + 1 + 1) 68 [.int .i64 a0, .int .i64 a1, .int .i64 a2, .int .i64 0, .slice none 0 0, .slice none 0 0, .slice none 0 0, .slice none 0 0] := hvc.out
  have ho := ((ho.below hb2).grown hgb2 (fun h => by injection h; omega)).grown hgc2 (fun h => by injection h; omega)
  have hz := ((hz.below hb2).grown hgb2 (fun h => by injection h; omega)).grown hgc2 (fun h => by injection h; omega)
  have he2 := (show Hid _ from he2)
  have B := zA3 (zA3 (zA1 B zN hb2) hgb2 (by omega) (Nat.le_trans (by omega) (Nat.le_trans hC hb2.size))) hgc2 (by omega) (Nat.le_trans (by omega) (Nat.le_trans hC (Nat.le_trans hb2.size hgb2.size)))
  have hC := Nat.le_trans hC (Nat.le_trans hb2.size (Nat.le_trans hgb2.size hgc2.size))
  clear hG hsa hva hsb hvb hvc hgb2 hgc2 hb2
  have hG := zAr _ _ l q3 bad3 (hrd.below B) hq3 hl
  go_upto_region 6 with (first
    | (refine zAa rfl _ _ rfl (w.heap.size) rfl _ _ hs _ Tryz.underlying89 rfl (by kernel_rfl) ?_)
    | (go_at_call 46; refine hG.mono ?_; rintro e wa3 ⟨a3, v3, q4, bad4, rfl, hq4, hb3, rfl, he3⟩; have hsa := hs.below hb3; have hva := hv.below hb3)
    | (refine zA7 rfl _ _ _ rfl (w.heap.size) [.slice ab (bc l).length cb, .int .i64 (q4 : Int), .bool bad4] rfl rfl _ _ hsa rfl (by kernel_rfl) (zAf rfl) ?_; intro wb3 hsb hgb3; have hvb := hva.grown hgb3 (fun h => by injection h; omega))
    | (refine zAb rfl _ _ _ rfl (w.heap.size + 1 + 1 + 1) 3 _ rfl rfl _ _ hvb (show 3 < 8 by decide) (by kernel_rfl) rfl ?_; intro wc3 hvc hgc3))
  have hs := hsb.out.grown hgc3 (fun h => by injection h; omega)
  have hv : Row wc3 (w.heap.size + 1 + 1 + 1) 68 [.int .i64 a0, .int .i64 a1, .int .i64 a2, .int .i64 a3, .slice none 0 0, .slice none 0 0, .slice none 0 0, .slice none 0 0] := hvc.out
  have ho := ((ho.below hb3).grown hgb3 (fun h => by injection h; omega)).grown hgc3 (fun h => by injection h; omega)
  have hz := ((hz.below hb3).grown hgb3 (fun h => by injection h; omega)).grown hgc3 (fun h => by injection h; omega)
  have he3 := (show Hid _ from he3)
  have B := zA3 (zA3 (zA1 B zN hb3) hgb3 (by omega) (Nat.le_trans (by omega) (Nat.le_trans hC hb3.size))) hgc3 (by omega) (Nat.le_trans (by omega) (Nat.le_trans hC (Nat.le_trans hb3.size hgb3.size)))
  have hC := Nat.le_trans hC (Nat.le_trans hb3.size (Nat.le_trans hgb3.size hgc3.size))
  clear hG hsa hva hsb hvb hvc hgb3 hgc3 hb3
  have hG := zC2 _ _ l q4 bad4 (hrd.below B) hq4 hl
  go_upto_region 7 with (first
    | (refine zAa rfl _ _ rfl (w.heap.size) rfl _ _ hs _ Tryz.underlying89 rfl (by kernel_rfl) ?_)
    | (go_at_call 82; refine hG.mono ?_; rintro e wa4 ⟨a4, v4, q5, bad5, rfl, hq5, hb4, f4, he4⟩; have hsa := hs.below hb4; have hva := hv.below hb4)
    | (refine zA7 rfl _ _ _ rfl (w.heap.size) [.slice ab (bc l).length cb, .int .i64 (q5 : Int), .bool bad5] rfl rfl _ _ hsa rfl (by kernel_rfl) (zAf rfl) ?_; intro wb4 hsb hgb4; have hvb := hva.grown hgb4 (fun h => by injection h; omega))
    | (refine zAb rfl _ _ _ rfl (w.heap.size + 1 + 1 + 1) 4 _ rfl rfl _ _ hvb (show 4 < 8 by decide) (by kernel_rfl) f4.one ?_; intro wc4 hvc hgc4))
  have hs := hsb.out.grown hgc4 (fun h => by injection h; omega)
  have hv : Row wc4 (w.heap.size + 1 + 1 + 1) 68 [.int .i64 a0, .int .i64 a1, .int .i64 a2, .int .i64 a3, v4, .slice none 0 0, .slice none 0 0, .slice none 0 0] := hvc.out
  have ho := ((ho.below hb4).grown hgb4 (fun h => by injection h; omega)).grown hgc4 (fun h => by injection h; omega)
  have hz := ((hz.below hb4).grown hgb4 (fun h => by injection h; omega)).grown hgc4 (fun h => by injection h; omega)
  have he4 := (show Hid _ from he4)
  have f4 := (((f4.mv (Mv.weak (L := w.heap.size + 4) hC)).mv (Mv.from hgb4 (by omega) zN)).mv (Mv.from hgc4 (by omega) zN))
  have B := zA3 (zA3 (zA1 B zN hb4) hgb4 (by omega) (Nat.le_trans (by omega) (Nat.le_trans hC hb4.size))) hgc4 (by omega) (Nat.le_trans (by omega) (Nat.le_trans hC (Nat.le_trans hb4.size hgb4.size)))
  have hC := Nat.le_trans hC (Nat.le_trans hb4.size (Nat.le_trans hgb4.size hgc4.size))
  clear hG hsa hva hsb hvb hvc hgb4 hgc4 hb4
  have hG := zDb _ _ l q5 bad5 (hrd.below B) hq5 hl
  go_upto_region 8 with (first
    | (refine zAa rfl _ _ rfl (w.heap.size) rfl _ _ hs _ Tryz.underlying89 rfl (by kernel_rfl) ?_)
    | (go_at_call 83; refine hG.mono ?_; rintro e wa5 ⟨a5, v5, q6, bad6, rfl, hq6, hb5, f5, he5⟩; have hsa := hs.below hb5; have hva := hv.below hb5)
    | (refine zA7 rfl _ _ _ rfl (w.heap.size) [.slice ab (bc l).length cb, .int .i64 (q6 : Int), .bool bad6] rfl rfl _ _ hsa rfl (by kernel_rfl) (zAf rfl) ?_; intro wb5 hsb hgb5; have hvb := hva.grown hgb5 (fun h => by injection h; omega))
    | (refine zAb rfl _ _ _ rfl (w.heap.size + 1 + 1 + 1) 5 _ rfl rfl _ _ hvb (show 5 < 8 by decide) (by kernel_rfl) f5.one ?_; intro wc5 hvc hgc5))
  have hs := hsb.out.grown hgc5 (fun h => by injection h; omega)
  have hv : Row wc5 (w.heap.size + 1 + 1 + 1) 68 [.int .i64 a0, .int .i64 a1, .int .i64 a2, .int .i64 a3, v4, v5, .slice none 0 0, .slice none 0 0] := hvc.out
  have ho := ((ho.below hb5).grown hgb5 (fun h => by injection h; omega)).grown hgc5 (fun h => by injection h; omega)
  have hz := ((hz.below hb5).grown hgb5 (fun h => by injection h; omega)).grown hgc5 (fun h => by injection h; omega)
  have he5 := (show Hid _ from he5)
  have f4 := (((f4.mv (Mv.belowF hb5 zN)).mv (Mv.from hgb5 (by omega) zN)).mv (Mv.from hgc5 (by omega) zN))
  have f5 := (((f5.mv zA9 zN (Mv.weak (L := w.heap.size + 4) hC)).mv zA9 hgb5.size (Mv.from hgb5 (by omega) zN)).mv zA9 hgc5.size (Mv.from hgc5 (by omega) zN))
  have B := zA3 (zA3 (zA1 B zN hb5) hgb5 (by omega) (Nat.le_trans (by omega) (Nat.le_trans hC hb5.size))) hgc5 (by omega) (Nat.le_trans (by omega) (Nat.le_trans hC (Nat.le_trans hb5.size hgb5.size)))
  have hC := Nat.le_trans hC (Nat.le_trans hb5.size (Nat.le_trans hgb5.size hgc5.size))
  clear hG hsa hva hsb hvb hvc hgb5 hgc5 hb5
  have hG := zD4 _ _ l q6 bad6 (hrd.below B) hq6 hl
  go_upto_region 9 with (first
    | (refine zAa rfl _ _ rfl w.heap.size rfl _ _ hs _ Tryz.underlying89 rfl (by kernel_rfl) ?_)
    | (go_at_call 121; refine hG.mono ?_; rintro e w3 ⟨n, v6, p1, b1, rfl, hp1, hb3, rfl, he⟩; have hs3 := hs.below hb3)
    | (refine zA7 rfl _ _ _ rfl w.heap.size [.slice ab (bc l).length cb, .int .i64 (p1 : Int), .bool b1] rfl rfl _ _ hs3 rfl (by kernel_rfl) (zAf rfl) ?_; intro w4 hs4 hg4))
  have hs := hs4.out
  have ho := (ho.below hb3).grown hg4 (fun h => by injection h; omega)
  have hz := (hz.below hb3).grown hg4 (fun h => by injection h; omega)
  have hv := (hv.below hb3).grown hg4 (fun h => by injection h; omega)
  have f4 := (f4.mv (Mv.belowF hb3 zN)).mv (Mv.from hg4 (by omega) zN)
  have f5 := (f5.mv zA9 hb3.size (Mv.belowF hb3 zN)).mv zA9 hg4.size (Mv.from hg4 (by omega) zN)
  have B := zA3 (zA1 B zN hb3) hg4 zN (Nat.le_trans (by omega) (Nat.le_trans hC hb3.size))
  have hC := Nat.le_trans hC (Nat.le_trans hb3.size hg4.size)
  have HE := (show Hid ((stL l q6 bad6).bind cM.rd = (stL l p1 b1).map fun t => (n, t)) from he)
  obtain ⟨M, hM⟩ : ∃ M, M = w4.heap.size := ⟨_, rfl⟩
  have g4 : RT (Btw (w.heap.size + 4) M) w4 v4 a4 := f4.mv (fun k hk hlt => ⟨rfl, hk, by omega⟩)
  have g5 : RL zAz 2 (Btw (w.heap.size + 4) M) w4 v5 a5 := f5.mv zA9 zN (fun k hk hlt => ⟨rfl, hk, by omega⟩)
  have hMC : w.heap.size + 4 ≤ M := by omega
  have hMw : M ≤ w4.heap.size := by omega
  clear he hG hs3 hs4 hb3 hg4 f4 f5 hM hC
  go_wp2_with fail
  go_loopw [6] (fun i wr => ∃ (q pq : Nat) (bq : Bool) (ys : List zCo) (vp : Value), q ≤ n.toNat ∧ i = .int .i64 q ∧ ys.length = q ∧ Hid ((stL l p1 b1).bind (rdN zAo q) = (stL l pq bq).map fun t => (ys, t)) ∧ pq ≤ l.length ∧ LB zBy 107 8 M wr vp ys ∧ RT (Btw (w.heap.size + 4) M) wr v4 a4 ∧ RL zAz 2 (Btw (w.heap.size + 4) M) wr v5 a5 ∧ Row wr w.heap.size 89 [.slice ab (bc l).length cb, .int .i64 (pq : Int), .bool bq] ∧ Row wr (w.heap.size + 1) 89 [.slice none 0 0, .int .i64 0, .bool false] ∧ Row wr (w.heap.size + 1 + 1) 68 [.int .i64 0, .int .i64 0, .int .i64 0, .int .i64 0, .slice none 0 0, .slice none 0 0, .slice none 0 0, .slice none 0 0] ∧ Row wr (w.heap.size + 1 + 1 + 1) 68 [.int .i64 a0, .int .i64 a1, .int .i64 a2, .int .i64 a3, v4, v5, vp, .slice none 0 0] ∧ Below w.heap.size w wr ∧ M ≤ wr.heap.size) (fun i _ => n.toNat - (intOf i).toNat)
  case atStart => exact ⟨0, p1, b1, [], _, by omega, rfl, rfl, zEa, hp1, LB.nil _ _ _ _ _, g4, g5, hs, ho, hz, hv, B, hMw⟩
  case round =>
  clear hs ho hz hv B hMw g4 g5
  obtain ⟨q, q0', bad0', ys, vp, hqn, rfl, hyl, hrdq, hq0', hLB, g4, g5, hs, ho, hz, hr, B, hCr⟩ := hrel
  have i2 := hs.cell (j := 2) rfl
  by_cases hend : (q : Int) < n ∧ bad0' = false
  rotate_left
  · have HF := (show Hid ((stL l q6 bad6).bind (cL zAo).rd = (stL l q0' bad0').map fun t => (ys, t)) from zG1 HE.out hrdq.out (by
      by_cases h1 : (q : Int) < n
      · right; refine ⟨hqn, ?_⟩; cases bad0'
        · exact absurd ⟨h1, rfl⟩ hend
        · rfl
      · left; omega))
    have hrl : RL zBy 8 (zB0 (w.heap.size + 4)) wr vp ys := (hLB.rl zAh).mv zAh zN (Mv.weak hMC)
    have f4 : RT (zB0 (w.heap.size + 4)) wr v4 a4 := g4.mv (fun k hk _ => ⟨rfl, hk.1⟩)
    have f5 : RL zAz 2 (zB0 (w.heap.size + 4)) wr v5 a5 := g5.mv zA9 zN (fun k hk _ => ⟨rfl, hk.1⟩)
    have hG := zC2 _ _ l q0' bad0' (hrd.below B) hq0' hl
    have hCC : w.heap.size + 4 ≤ wr.heap.size := by omega
    clear hrdq hLB g4 g5 hyl
    by_cases h1 : (q : Int) < n
    · obtain rfl : bad0' = true := by cases bad0' <;> simp_all
      clear hend
      go_upto_region 20 with (first
      | (refine zAa rfl _ _ rfl w.heap.size rfl _ _ hs _ Tryz.underlying89 rfl (by kernel_rfl) ?_)
      | (go_at_call 82; refine hG.mono ?_; rintro e wa ⟨a7, v7, q8, bad8, rfl, hq8, hb, f7, he7⟩; have hsa := hs.below hb; have hra := hr.below hb)
      | (refine zA7 rfl _ _ _ rfl w.heap.size [.slice ab (bc l).length cb, .int .i64 (q8 : Int), .bool bad8] rfl rfl _ _ hsa rfl (by kernel_rfl) (zAf rfl) ?_; intro wb hsb hgb; have hvb := hra.grown hgb (fun h => by injection h; omega))
      | (refine zAb rfl _ _ _ rfl (w.heap.size + 1 + 1 + 1) 7 _ rfl rfl _ _ hvb (show 7 < 8 by decide) (by kernel_rfl) f7.one ?_; intro wc hvc hgc))
      clear hsa hra hvb
      have hs := hsb.out.grown hgc (fun h => by injection h; omega)
      have hr : Row wc (w.heap.size + 1 + 1 + 1) 68 [.int .i64 a0, .int .i64 a1, .int .i64 a2, .int .i64 a3, v4, v5, vp, v7] := hvc.out
      have ho := ((ho.below hb).grown hgb (fun h => by injection h; omega)).grown hgc (fun h => by injection h; omega)
      have hz := ((hz.below hb).grown hgb (fun h => by injection h; omega)).grown hgc (fun h => by injection h; omega)
      have f4 := ((f4.mv (Mv.belowF hb zN)).mv (Mv.from hgb (by omega) zN)).mv (Mv.from hgc (by omega) zN)
      have f5 := ((f5.mv zA9 hb.size (Mv.belowF hb zN)).mv zA9 hgb.size (Mv.from hgb (by omega) zN)).mv zA9 hgc.size (Mv.from hgc (by omega) zN)
      have f6 := ((hrl.mv zAh hb.size (Mv.belowF hb zN)).mv zAh hgb.size (Mv.from hgb (by omega) zN)).mv zAh hgc.size (Mv.from hgc (by omega) zN)
      have f7 := ((f7.mv (Mv.weak (L := w.heap.size + 4) hCC)).mv (Mv.from hgb (by omega) zN)).mv (Mv.from hgc (by omega) zN)
      have B := zA3 (zA3 (zA1 B zN hb) hgb zN (Nat.le_trans (by omega) (Nat.le_trans hCC hb.size))) hgc (by omega) (Nat.le_trans (by omega) (Nat.le_trans hCC (Nat.le_trans hb.size hgb.size)))
      have hC := Nat.le_trans hCC (Nat.le_trans hb.size (Nat.le_trans hgb.size hgc.size))
      have HH := (show Hid ((stL l q0 bad0).bind zBr.rd = (stL l q8 bad8).map fun t => (((a0, a1), a2, a3, a4, a5, ys, a7), t)) from zAs (zAs he0.out he1.out) (zAs he2.out (zAs he3.out (zAs he4.out (zAs he5.out (zAs HF.out he7))))))
      have hone : ∀ v ∈ [Value.int .i64 a0, .int .i64 a1, .int .i64 a2, .int .i64 a3, v4, v5, vp, v7], v.oneCell' = true := by
        intro x hx
        have k1 := f4.one; have k2 := f5.one; have k3 := f6.one; have k4 := f7.one
        simp only [List.mem_cons, List.not_mem_nil, or_false] at hx
        rcases hx with rfl | rfl | rfl | rfl | rfl | rfl | rfl | rfl <;> first | rfl | assumption
      clear hsb hvc hgb hgc hb hG he7 hrl
      refine zBz (by kernel_rfl) (by rfl) (by kernel_rfl) (by kernel_rfl) (by kernel_rfl) (by kernel_rfl) (by kernel_rfl) (by kernel_rfl) (by kernel_rfl) rfl rfl rfl rfl rfl rfl rfl rfl _ _ _ _ _ _ _ _ rfl rfl rfl rfl w.heap.size (w.heap.size + 1 + 1 + 1) (w.heap.size + 1) (w.heap.size + 1 + 1) _ _ _ _ _ _ _ _ hs hr ho hz rfl rfl _ _ Tryz.underlying89 rfl Tryz.underlying68 rfl (by kernel_rfl) (by kernel_rfl) (zAf rfl) hone (by omega) (by omega) _ rfl rfl rfl rfl rfl rfl rfl rfl rfl rfl rfl rfl rfl rfl rfl ?_
      intro u w' g1 g2 rA rB
      have k1 : w.heap.size ≤ w.heap.size + 1 ∧ w.heap.size + 1 < w.heap.size + 4 ∧ w.heap.size ≤ w.heap.size + 1 + 1 ∧ w.heap.size + 1 + 1 < w.heap.size + 4 := by omega
      have FF : zH4 zBr (VA zDo) w (.slice ab (bc l).length cb) l q0 bad0 (.returned (.tuple #[.agg ([.slice ab (bc l).length cb, .int .i64 (q8 : Int), .bool bad8] : List Value).toArray, .agg ([.int .i64 a0, .int .i64 a1, .int .i64 a2, .int .i64 a3, v4, v5, vp, v7] : List Value).toArray])) w' :=
        ⟨((a0, a1), a2, a3, a4, a5, ys, a7), _, q8, bad8, rfl, hq8, zA3 (zA3 B g1 k1.1 (by omega)) g2 k1.2.2.1 (Nat.le_trans (by omega) g1.size),
          ⟨_, rfl, _, _, _, _, rfl, ((f4.mv (Mv.from g1 k1.2.1 zN)).mv (Mv.from g2 k1.2.2.2 zN)).mv (Mv.weak (by omega)),
            (((f5.mv zA9 g1.size (Mv.from g1 k1.2.1 zN)).mv zA9 g2.size (Mv.from g2 k1.2.2.2 zN)).mv zA9 zN (Mv.weak (by omega))),
            (((f6.mv zAh g1.size (Mv.from g1 k1.2.1 zN)).mv zAh g2.size (Mv.from g2 k1.2.2.2 zN)).mv zAh zN (Mv.weak (by omega))),
            ((f7.mv (Mv.from g1 k1.2.1 zN)).mv (Mv.from g2 k1.2.2.2 zN)).mv (Mv.weak (by omega))⟩, HH.out⟩
      go_wp2_with fail
      refine bodyPost_ret (zAk rfl _ _ (w.heap.size + 1) (w.heap.size + 1 + 1) _ _ _ _ (0, 0) (0, 0) _ _ (by rfl) (by rfl) rA rB Tryz.underlying89 rfl (by kernel_rfl) Tryz.underlying68 rfl (by kernel_rfl)) rfl ?_
      exact FF
    · have h1' : decide ((q : Int) < n) = false := decide_eq_false h1
      clear hend
      go_upto_region 20 with (first
      | (refine zAa rfl _ _ rfl w.heap.size rfl _ _ hs _ Tryz.underlying89 rfl (by kernel_rfl) ?_)
      | (go_at_call 82; refine hG.mono ?_; rintro e wa ⟨a7, v7, q8, bad8, rfl, hq8, hb, f7, he7⟩; have hsa := hs.below hb; have hra := hr.below hb)
      | (refine zA7 rfl _ _ _ rfl w.heap.size [.slice ab (bc l).length cb, .int .i64 (q8 : Int), .bool bad8] rfl rfl _ _ hsa rfl (by kernel_rfl) (zAf rfl) ?_; intro wb hsb hgb; have hvb := hra.grown hgb (fun h => by injection h; omega))
      | (refine zAb rfl _ _ _ rfl (w.heap.size + 1 + 1 + 1) 7 _ rfl rfl _ _ hvb (show 7 < 8 by decide) (by kernel_rfl) f7.one ?_; intro wc hvc hgc))
      clear hsa hra hvb
      have hs := hsb.out.grown hgc (fun h => by injection h; omega)
      have hr : Row wc (w.heap.size + 1 + 1 + 1) 68 [.int .i64 a0, .int .i64 a1, .int .i64 a2, .int .i64 a3, v4, v5, vp, v7] := hvc.out
      have ho := ((ho.below hb).grown hgb (fun h => by injection h; omega)).grown hgc (fun h => by injection h; omega)
      have hz := ((hz.below hb).grown hgb (fun h => by injection h; omega)).grown hgc (fun h => by injection h; omega)
      have f4 := ((f4.mv (Mv.belowF hb zN)).mv (Mv.from hgb (by omega) zN)).mv (Mv.from hgc (by omega) zN)
      have f5 := ((f5.mv zA9 hb.size (Mv.belowF hb zN)).mv zA9 hgb.size (Mv.from hgb (by omega) zN)).mv zA9 hgc.size (Mv.from hgc (by omega) zN)
      have f6 := ((hrl.mv zAh hb.size (Mv.belowF hb zN)).mv zAh hgb.size (Mv.from hgb (by omega) zN)).mv zAh hgc.size (Mv.from hgc (by omega) zN)
      have f7 := ((f7.mv (Mv.weak (L := w.heap.size + 4) hCC)).mv (Mv.from hgb (by omega) zN)).mv (Mv.from hgc (by omega) zN)
      have B := zA3 (zA3 (zA1 B zN hb) hgb zN (Nat.le_trans (by omega) (Nat.le_trans hCC hb.size))) hgc (by omega) (Nat.le_trans (by omega) (Nat.le_trans hCC (Nat.le_trans hb.size hgb.size)))
      have hC := Nat.le_trans hCC (Nat.le_trans hb.size (Nat.le_trans hgb.size hgc.size))
      have HH := (show Hid ((stL l q0 bad0).bind zBr.rd = (stL l q8 bad8).map fun t => (((a0, a1), a2, a3, a4, a5, ys, a7), t)) from zAs (zAs he0.out he1.out) (zAs he2.out (zAs he3.out (zAs he4.out (zAs he5.out (zAs HF.out he7))))))
      have hone : ∀ v ∈ [Value.int .i64 a0, .int .i64 a1, .int .i64 a2, .int .i64 a3, v4, v5, vp, v7], v.oneCell' = true := by
        intro x hx
        have k1 := f4.one; have k2 := f5.one; have k3 := f6.one; have k4 := f7.one
        simp only [List.mem_cons, List.not_mem_nil, or_false] at hx
        rcases hx with rfl | rfl | rfl | rfl | rfl | rfl | rfl | rfl <;> first | rfl | assumption
      clear hsb hvc hgb hgc hb hG he7 hrl
      refine zBz (by kernel_rfl) (by rfl) (by kernel_rfl) (by kernel_rfl) (by kernel_rfl) (by kernel_rfl) (by kernel_rfl) (by kernel_rfl) (by kernel_rfl) rfl rfl rfl rfl rfl rfl rfl rfl _ _ _ _ _ _ _ _ rfl rfl rfl rfl w.heap.size (w.heap.size + 1 + 1 + 1) (w.heap.size + 1) (w.heap.size + 1 + 1) _ _ _ _ _ _ _ _ hs hr ho hz rfl rfl _ _ Tryz.underlying89 rfl Tryz.underlying68 rfl (by kernel_rfl) (by kernel_rfl) (zAf rfl) hone (by omega) (by omega) _ rfl rfl rfl rfl rfl rfl rfl rfl rfl rfl rfl rfl rfl rfl rfl ?_
      intro u w' g1 g2 rA rB
      have k1 : w.heap.size ≤ w.heap.size + 1 ∧ w.heap.size + 1 < w.heap.size + 4 ∧ w.heap.size ≤ w.heap.size + 1 + 1 ∧ w.heap.size + 1 + 1 < w.heap.size + 4 := by omega
      have FF : zH4 zBr (VA zDo) w (.slice ab (bc l).length cb) l q0 bad0 (.returned (.tuple #[.agg ([.slice ab (bc l).length cb, .int .i64 (q8 : Int), .bool bad8] : List Value).toArray, .agg ([.int .i64 a0, .int .i64 a1, .int .i64 a2, .int .i64 a3, v4, v5, vp, v7] : List Value).toArray])) w' :=
        ⟨((a0, a1), a2, a3, a4, a5, ys, a7), _, q8, bad8, rfl, hq8, zA3 (zA3 B g1 k1.1 (by omega)) g2 k1.2.2.1 (Nat.le_trans (by omega) g1.size),
          ⟨_, rfl, _, _, _, _, rfl, ((f4.mv (Mv.from g1 k1.2.1 zN)).mv (Mv.from g2 k1.2.2.2 zN)).mv (Mv.weak (by omega)),
            (((f5.mv zA9 g1.size (Mv.from g1 k1.2.1 zN)).mv zA9 g2.size (Mv.from g2 k1.2.2.2 zN)).mv zA9 zN (Mv.weak (by omega))),
            (((f6.mv zAh g1.size (Mv.from g1 k1.2.1 zN)).mv zAh g2.size (Mv.from g2 k1.2.2.2 zN)).mv zAh zN (Mv.weak (by omega))),
            ((f7.mv (Mv.from g1 k1.2.1 zN)).mv (Mv.from g2 k1.2.2.2 zN)).mv (Mv.weak (by omega))⟩, HH.out⟩
      go_wp2_with fail
      refine bodyPost_ret (zAk rfl _ _ (w.heap.size + 1) (w.heap.size + 1 + 1) _ _ _ _ (0, 0) (0, 0) _ _ (by rfl) (by rfl) rA rB Tryz.underlying89 rfl (by kernel_rfl) Tryz.underlying68 rfl (by kernel_rfl)) rfl ?_
      exact FF
  obtain ⟨hqn2, rfl⟩ := hend
  have hn64 : n ≤ 64 := by have := HE.out; rw [zIt hrdq.out] at this; exact zT8 this
  obtain ⟨q10, hq10⟩ : ∃ x, x = q0' := ⟨_, rfl⟩
  obtain ⟨bad10, hbad10⟩ : ∃ b, b = false := ⟨_, rfl⟩
  obtain ⟨w5, hw5⟩ : ∃ w5, w5 = wr.alloc (.cells ([.int .i64 0, .int .i64 0, .int .i64 0, .int .i64 0, .int .i64 0, .slice none 0 0, .slice none 0 0, .slice none 0 0] : List Value).toArray 107) := ⟨_, rfl⟩
  have hv : Row w5 wr.heap.size 107 [.int .i64 0, .int .i64 0, .int .i64 0, .int .i64 0, .int .i64 0, .slice none 0 0, .slice none 0 0, .slice none 0 0] := by rw [hw5]; exact Row.new wr 107 _
  have hb5 : Below wr.heap.size wr w5 := by rw [hw5]; exact zA0 _ _
  have hC : wr.heap.size + 1 ≤ w5.heap.size := by rw [hw5]; simp
  go_upto_region 13 with fail
  rw [← hw5]
  clear hw5 i2
  have hs := hs.below hb5
  have ho := ho.below hb5
  have hz := hz.below hb5
  have hr := hr.below hb5
  have B := zA1 B zN hb5
  have hT := zA8 hb5 (some w.heap.size)
  clear hb5
  rw [← hbad10, ← hq10] at hs hrdq
  rw [← hq10] at hq0'
  have hqX := hq0'
  clear hbad10 hq10 hq0'
  have hq10 := hqX
  clear hqX
  have hG := zAr _ _ l q10 bad10 (hrd.below B) hq10 hl
  go_upto_region 14 with (first
    | (refine zAa rfl _ _ rfl (w.heap.size) rfl _ _ hs _ Tryz.underlying89 rfl (by kernel_rfl) ?_)
    | (go_at_call 46; refine hG.mono ?_; rintro e wa10 ⟨a10, v10, q11, bad11, rfl, hq11, hb10, rfl, he10⟩; have hsa := hs.below hb10; have hva := hv.below hb10)
    | (refine zA7 rfl _ _ _ rfl (w.heap.size) [.slice ab (bc l).length cb, .int .i64 (q11 : Int), .bool bad11] rfl rfl _ _ hsa rfl (by kernel_rfl) (zAf rfl) ?_; intro wb10 hsb hgb10; have hvb := hva.grown hgb10 (fun h => by injection h; omega))
    | (refine zAb rfl _ _ _ rfl (wr.heap.size) 0 _ rfl rfl _ _ hvb (show 0 < 8 by decide) (by kernel_rfl) rfl ?_; intro wc10 hvc hgc10))
  have hs := hsb.out.grown hgc10 (fun h => by injection h; omega)
  have hv : Row wc10 (wr.heap.size) 107 [.int .i64 a10, .int .i64 0, .int .i64 0, .int .i64 0, .int .i64 0, .slice none 0 0, .slice none 0 0, .slice none 0 0] := hvc.out
  have ho := ((ho.below hb10).grown hgb10 (fun h => by injection h; omega)).grown hgc10 (fun h => by injection h; omega)
  have hz := ((hz.below hb10).grown hgb10 (fun h => by injection h; omega)).grown hgc10 (fun h => by injection h; omega)
  have hr := ((hr.below hb10).grown hgb10 (fun h => by injection h; omega)).grown hgc10 (fun h => by injection h; omega)
  have he10 := (show Hid _ from he10)
  have B := zA3 (zA3 (zA1 B zN hb10) hgb10 (by omega) (Nat.le_trans (by omega) (Nat.le_trans hC hb10.size))) hgc10 (by omega) (Nat.le_trans (by omega) (Nat.le_trans hC (Nat.le_trans hb10.size hgb10.size)))
  have hC := Nat.le_trans hC (Nat.le_trans hb10.size (Nat.le_trans hgb10.size hgc10.size))
  have hT := zA2 (zA2 (zA2 hT (zA8 hb10 _) (.inl rfl)) hgb10 (.inl rfl)) hgc10 (.inr fun k hk => by cases hk; exact zN)
  clear hG hsa hva hsb hvb hvc hgb10 hgc10 hb10
  have hG := zAr _ _ l q11 bad11 (hrd.below B) hq11 hl
  go_upto_region 15 with (first
    | (refine zAa rfl _ _ rfl (w.heap.size) rfl _ _ hs _ Tryz.underlying89 rfl (by kernel_rfl) ?_)
    | (go_at_call 46; refine hG.mono ?_; rintro e wa11 ⟨a11, v11, q12, bad12, rfl, hq12, hb11, rfl, he11⟩; have hsa := hs.below hb11; have hva := hv.below hb11)
    | (refine zA7 rfl _ _ _ rfl (w.heap.size) [.slice ab (bc l).length cb, .int .i64 (q12 : Int), .bool bad12] rfl rfl _ _ hsa rfl (by kernel_rfl) (zAf rfl) ?_; intro wb11 hsb hgb11; have hvb := hva.grown hgb11 (fun h => by injection h; omega))
    | (refine zAb rfl _ _ _ rfl (wr.heap.size) 1 _ rfl rfl _ _ hvb (show 1 < 8 by decide) (by kernel_rfl) rfl ?_; intro wc11 hvc hgc11))
  have hs := hsb.out.grown hgc11 (fun h => by injection h; omega)
  have hv : Row wc11 (wr.heap.size) 107 [.int .i64 a10, .int .i64 a11, .int .i64 0, .int .i64 0, .int .i64 0, .slice none 0 0, .slice none 0 0, .slice none 0 0] := hvc.out
  have ho := ((ho.below hb11).grown hgb11 (fun h => by injection h; omega)).grown hgc11 (fun h => by injection h; omega)
  have hz := ((hz.below hb11).grown hgb11 (fun h => by injection h; omega)).grown hgc11 (fun h => by injection h; omega)
  have hr := ((hr.below hb11).grown hgb11 (fun h => by injection h; omega)).grown hgc11 (fun h => by injection h; omega)
  have he11 := (show Hid _ from he11)
  have B := zA3 (zA3 (zA1 B zN hb11) hgb11 (by omega) (Nat.le_trans (by omega) (Nat.le_trans hC hb11.size))) hgc11 (by omega) (Nat.le_trans (by omega) (Nat.le_trans hC (Nat.le_trans hb11.size hgb11.size)))
  have hC := Nat.le_trans hC (Nat.le_trans hb11.size (Nat.le_trans hgb11.size hgc11.size))
  have hT := zA2 (zA2 (zA2 hT (zA8 hb11 _) (.inl rfl)) hgb11 (.inl rfl)) hgc11 (.inr fun k hk => by cases hk; exact zN)
  clear hG hsa hva hsb hvb hvc hgb11 hgc11 hb11
  have hG := zAr _ _ l q12 bad12 (hrd.below B) hq12 hl
  go_upto_region 16 with (first
    | (refine zAa rfl _ _ rfl (w.heap.size) rfl _ _ hs _ Tryz.underlying89 rfl (by kernel_rfl) ?_)
    | (go_at_call 46; refine hG.mono ?_; rintro e wa12 ⟨a12, v12, q13, bad13, rfl, hq13, hb12, rfl, he12⟩; have hsa := hs.below hb12; have hva := hv.below hb12)
    | (refine zA7 rfl _ _ _ rfl (w.heap.size) [.slice ab (bc l).length cb, .int .i64 (q13 : Int), .bool bad13] rfl rfl _ _ hsa rfl (by kernel_rfl) (zAf rfl) ?_; intro wb12 hsb hgb12; have hvb := hva.grown hgb12 (fun h => by injection h; omega))
    | (refine zAb rfl _ _ _ rfl (wr.heap.size) 2 _ rfl rfl _ _ hvb (show 2 < 8 by decide) (by kernel_rfl) rfl ?_; intro wc12 hvc hgc12))
  have hs := hsb.out.grown hgc12 (fun h => by injection h; omega)
  have hv : Row wc12 (wr.heap.size) 107 [.int .i64 a10, .int .i64 a11, .int .i64 a12, .int .i64 0, .int .i64 0, .slice none 0 0, .slice none 0 0, .slice none 0 0] := hvc.out
  have ho := ((ho.below hb12).grown hgb12 (fun h => by injection h; omega)).grown hgc12 (fun h => by injection h; omega)
  have hz := ((hz.below hb12).grown hgb12 (fun h => by injection h; omega)).grown hgc12 (fun h => by injection h; omega)
  have hr := ((hr.below hb12).grown hgb12 (fun h => by injection h; omega)).grown hgc12 (fun h => by injection h; omega)
  have he12 := (show Hid _ from he12)
  have B := zA3 (zA3 (zA1 B zN hb12) hgb12 (by omega) (Nat.le_trans (by omega) (Nat.le_trans hC hb12.size))) hgc12 (by omega) (Nat.le_trans (by omega) (Nat.le_trans hC (Nat.le_trans hb12.size hgb12.size)))
  have hC := Nat.le_trans hC (Nat.le_trans hb12.size (Nat.le_trans hgb12.size hgc12.size))
  have hT := zA2 (zA2 (zA2 hT (zA8 hb12 _) (.inl rfl)) hgb12 (.inl rfl)) hgc12 (.inr fun k hk => by cases hk; exact zN)
  clear hG hsa hva hsb hvb hvc hgb12 hgc12 hb12
  have hG := zEw _ _ l q13 bad13 (hrd.below B) hq13 hl
  go_upto_region 17 with (first
    | (refine zAa rfl _ _ rfl (w.heap.size) rfl _ _ hs _ Tryz.underlying89 rfl (by kernel_rfl) ?_)
    | (go_at_call 81; refine hG.mono ?_; rintro e wa13 ⟨a13, v13, q14, bad14, rfl, hq14, hb13, ⟨rq13, rfl, vo13, vg13, rfl, fo13, fg13⟩, he13⟩; have hsa := hs.below hb13; have hva := hv.below hb13)
    | (refine zA7 rfl _ _ _ rfl (w.heap.size) [.slice ab (bc l).length cb, .int .i64 (q14 : Int), .bool bad14] rfl rfl _ _ hsa rfl (by kernel_rfl) (zAf rfl) ?_; intro wb13 hsb hgb13; have hvb := hva.grown hgb13 (fun h => by injection h; omega))
    | (refine zCd rfl _ _ _ rfl (wr.heap.size) 3 [.int .i64 a13.1, .int .i64 a13.2.1, vo13, vg13] rfl rfl _ _ hvb (show 7 ≤ 8 by decide) (by kernel_rfl) (one4 fo13.one fg13.one) ?_; intro wc13 hvc hgc13))
  have hs := hsb.out.grown hgc13 (fun h => by injection h; omega)
  have hv : Row wc13 (wr.heap.size) 107 [.int .i64 a10, .int .i64 a11, .int .i64 a12, .int .i64 a13.1, .int .i64 a13.2.1, vo13, vg13, .slice none 0 0] := hvc.out
  have ho := ((ho.below hb13).grown hgb13 (fun h => by injection h; omega)).grown hgc13 (fun h => by injection h; omega)
  have hz := ((hz.below hb13).grown hgb13 (fun h => by injection h; omega)).grown hgc13 (fun h => by injection h; omega)
  have hr := ((hr.below hb13).grown hgb13 (fun h => by injection h; omega)).grown hgc13 (fun h => by injection h; omega)
  have he13 := (show Hid _ from he13)
  have fo13 := (((fo13.mv (Mv.weak (L := wr.heap.size + 1) hC)).mv (Mv.from hgb13 (by omega) zN)).mv (Mv.from hgc13 (by omega) zN))
  have fg13 := (((fg13.mv (Mv.weak (L := wr.heap.size + 1) hC)).mv (Mv.from hgb13 (by omega) zN)).mv (Mv.from hgc13 (by omega) zN))
  have B := zA3 (zA3 (zA1 B zN hb13) hgb13 (by omega) (Nat.le_trans (by omega) (Nat.le_trans hC hb13.size))) hgc13 (by omega) (Nat.le_trans (by omega) (Nat.le_trans hC (Nat.le_trans hb13.size hgb13.size)))
  have hC := Nat.le_trans hC (Nat.le_trans hb13.size (Nat.le_trans hgb13.size hgc13.size))
  have hT := zA2 (zA2 (zA2 hT (zA8 hb13 _) (.inl rfl)) hgb13 (.inl rfl)) hgc13 (.inr fun k hk => by cases hk; exact zN)
  clear hG hsa hva hsb hvb hvc hgb13 hgc13 hb13
  have hG := zDb _ _ l q14 bad14 (hrd.below B) hq14 hl
  go_upto_region 18 with (first
    | (refine zAa rfl _ _ rfl (w.heap.size) rfl _ _ hs _ Tryz.underlying89 rfl (by kernel_rfl) ?_)
    | (go_at_call 83; refine hG.mono ?_; rintro e wa14 ⟨a14, v14, q15, bad15, rfl, hq15, hb14, f14, he14⟩; have hsa := hs.below hb14; have hva := hv.below hb14)
    | (refine zA7 rfl _ _ _ rfl (w.heap.size) [.slice ab (bc l).length cb, .int .i64 (q15 : Int), .bool bad15] rfl rfl _ _ hsa rfl (by kernel_rfl) (zAf rfl) ?_; intro wb14 hsb hgb14; have hvb := hva.grown hgb14 (fun h => by injection h; omega))
    | (refine zAb rfl _ _ _ rfl (wr.heap.size) 7 _ rfl rfl _ _ hvb (show 7 < 8 by decide) (by kernel_rfl) f14.one ?_; intro wc14 hvc hgc14))
  have hs := hsb.out.grown hgc14 (fun h => by injection h; omega)
  have hv : Row wc14 (wr.heap.size) 107 [.int .i64 a10, .int .i64 a11, .int .i64 a12, .int .i64 a13.1, .int .i64 a13.2.1, vo13, vg13, v14] := hvc.out
  have ho := ((ho.below hb14).grown hgb14 (fun h => by injection h; omega)).grown hgc14 (fun h => by injection h; omega)
  have hz := ((hz.below hb14).grown hgb14 (fun h => by injection h; omega)).grown hgc14 (fun h => by injection h; omega)
  have hr := ((hr.below hb14).grown hgb14 (fun h => by injection h; omega)).grown hgc14 (fun h => by injection h; omega)
  have he14 := (show Hid _ from he14)
  have fo13 := (((fo13.mv (Mv.belowF hb14 zN)).mv (Mv.from hgb14 (by omega) zN)).mv (Mv.from hgc14 (by omega) zN))
  have fg13 := (((fg13.mv (Mv.belowF hb14 zN)).mv (Mv.from hgb14 (by omega) zN)).mv (Mv.from hgc14 (by omega) zN))
  have f14 := (((f14.mv zA9 zN (Mv.weak (L := wr.heap.size + 1) hC)).mv zA9 hgb14.size (Mv.from hgb14 (by omega) zN)).mv zA9 hgc14.size (Mv.from hgc14 (by omega) zN))
  have B := zA3 (zA3 (zA1 B zN hb14) hgb14 (by omega) (Nat.le_trans (by omega) (Nat.le_trans hC hb14.size))) hgc14 (by omega) (Nat.le_trans (by omega) (Nat.le_trans hC (Nat.le_trans hb14.size hgb14.size)))
  have hC := Nat.le_trans hC (Nat.le_trans hb14.size (Nat.le_trans hgb14.size hgc14.size))
  have hT := zA2 (zA2 (zA2 hT (zA8 hb14 _) (.inl rfl)) hgb14 (.inl rfl)) hgc14 (.inr fun k hk => by cases hk; exact zN)
  clear hG hsa hva hsb hvb hvc hgb14 hgc14 hb14
  have hLB1 := hLB.grown zAh hT (by omega)
  have g4 := g4.mv (show Mv (Btw (w.heap.size + 4) M) (Btw (w.heap.size + 4) M) wr wc14 from fun k hk hlt => ⟨hT.block k hlt (fun e => by injection e with e; have := hk.1; omega), hk⟩)
  have g5 := g5.mv zA9 hT.size (show Mv (Btw (w.heap.size + 4) M) (Btw (w.heap.size + 4) M) wr wc14 from fun k hk hlt => ⟨hT.block k hlt (fun e => by injection e with e; have := hk.1; omega), hk⟩)
  have hRc : zBy (zB0 wr.heap.size) wc14 [.int .i64 a10, .int .i64 a11, .int .i64 a12, .int .i64 a13.1, .int .i64 a13.2.1, vo13, vg13, v14] (a10, (a11, a12), a13, a14) := ⟨_, _, _, rfl, fo13.mv (Mv.weak (by omega)), fg13.mv (Mv.weak (by omega)), f14.mv zA9 zN (Mv.weak (by omega))⟩
  have hc1 := zC8 hRc
  have HR3 := (show Hid ((stL l p1 b1).bind (rdN zAo (q + 1)) = (stL l q15 bad15).map fun t => (ys ++ [(a10, (a11, a12), a13, a14)], t)) from zEb hrdq.out (zAs he10.out (zAs (zAs he11.out he12.out) (zAs he13.out he14.out))))
  have hlt := hLB.lt
  have hfr := hLB.fr
  have c6 := hr.cell (j := 6) rfl
  go_wp2_with (first
    | (refine zAa rfl _ _ rfl wr.heap.size rfl _ _ hv _ Tryz.underlying107 rfl (by kernel_rfl) ?_)
    | (at_builtin; refine zCq zAh rfl _ _ _ rfl 107 8 112 _ Tryz.underlying66 Tryz.inf_preps rfl (by decide) M vp ys rfl hLB1 [.int .i64 a10, .int .i64 a11, .int .i64 a12, .int .i64 a13.1, .int .i64 a13.2.1, vo13, vg13, v14] (a10, (a11, a12), a13, a14) wr.heap.size hRc rfl hc1 hCr hlt rfl (by omega) (by omega) (by decide) ?_; intro vq w6 hLB6 hg6; have hr6 := hr.grown hg6 (fun h => by have := hfr _ h; omega))
    | (refine zAb rfl _ _ _ rfl (w.heap.size + 1 + 1 + 1) 6 _ rfl rfl _ _ hr6 (show 6 < 8 by decide) (by kernel_rfl) hLB6.form ?_; intro w7 hr7 hg7))
  have hs := (hs.grown hg6 (fun h => by have := hfr _ h; omega)).grown hg7 (fun h => by injection h; omega)
  have ho := (ho.grown hg6 (fun h => by have := hfr _ h; omega)).grown hg7 (fun h => by injection h; omega)
  have hz := (hz.grown hg6 (fun h => by have := hfr _ h; omega)).grown hg7 (fun h => by injection h; omega)
  have hLB7 := hLB6.grown zAh hg7 (by omega)
  have mv6 : Mv (Btw (w.heap.size + 4) M) (Btw (w.heap.size + 4) M) wc14 w6 := fun k hk hlt => ⟨hg6.block k hlt (fun e => by have := hfr k e.symm; have := hk.2; omega), hk⟩
  have mv7 : Mv (Btw (w.heap.size + 4) M) (Btw (w.heap.size + 4) M) w6 w7 := fun k hk hlt => ⟨hg7.block k hlt (fun e => by injection e with e; have := hk.1; omega), hk⟩
  have g4 := (g4.mv mv6).mv mv7
  have g5 := (g5.mv zA9 hg6.size mv6).mv zA9 hg7.size mv7
  have B6 : Below w.heap.size w w6 := B.trans (zA5 hg6 (Nat.le_trans (by omega) hC) (fun k hk => by have := hfr k hk; omega))
  have B7 := zA3 B6 hg7 (by omega) B6.size
  have hC7 : M ≤ w7.heap.size := Nat.le_trans (Nat.le_trans (by omega) hC) (Nat.le_trans hg6.size hg7.size)
  go_roundw
  case rel => exact ⟨q + 1, q15, bad15, ys ++ [(a10, (a11, a12), a13, a14)], vq, by omega, by go_num, by simp [hyl], HR3, hq15, hLB7, g4, g5, hs, ho, hz, hr7.out, B7, hC7⟩
  case measure => simp [intOf]; omega
end Go.Proofs.YtgjepofinpmcpaaGreatDoor
