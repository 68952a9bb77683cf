/- The document's Check of proofs. Written by mk17.py. -/
import Derived.Test.YtgjepofinpmcpaaGreatDoorMAX
import Derived.Test.YtgjepofinpmcpaaGreatDoorMAW
import Derived.Test.YtgjepofinpmcpaaGreatDoorMAR
import Derived.Test.YtgjepofinpmcpaaGreatDoorMAV
import Derived.Test.YtgjepofinpmcpaaGreatDoorMBB
import Derived.Test.YtgjepofinpmcpaaGreatDoorMBC
import Derived.Test.YtgjepofinpmcpaaGreatDoorMBN
import Derived.Test.YtgjepofinpmcpaaGreatDoorMAT
import Derived.Test.YtgjepofinpmcpaaGreatDoorMBL
import Derived.Test.YtgjepofinpmcpaaGreatDoorMBQ
import Derived.Test.YtgjepofinpmcpaaGreatDoorMBI
import Derived.Test.YtgjepofinpmcpaaGreatDoorMBO
import Derived.Test.YtgjepofinpmcpaaGreatDoorMAE
set_option linter.unusedSimpArgs false
set_option linter.unusedVariables false
namespace Go.Proofs.YtgjepofinpmcpaaGreatDoor
section
open Go.RowKit Oct
set_option maxRecDepth 10000 in
set_option maxHeartbeats 8000000 in
theorem zN3 (w : World) (bv : Value) (l : List Int) (p : Nat) (bad : Bool) (m : PMsg) (s : SV) (hrd : Rd w bv l) (hp : p ≤ l.length) (hl : l.length ≤ 1048576) (hone : ∀ v ∈ mc m s, v.oneCell' = true) (hnil : s.l = .slice none 0 0) :
    Calls Tryz.prog 84 #[.agg #[bv, .int .i64 (p : Int), .bool bad], .agg (mc m s).toArray, .int .i64 14] w fun e w' => ∃ (ys : List zF8) (vp : Value) (q : Nat) (bad' : Bool), e = .returned (.tuple #[.agg #[bv, .int .i64 (q : Int), .bool bad'], .agg (mc m { s with l := vp }).toArray]) ∧ q ≤ l.length ∧ Below w.heap.size w w' ∧ RL zDo 8 (zB0 w.heap.size) w' vp ys ∧ (stL l p bad).bind (cL zBr).rd = (stL l q bad').map fun r => (ys, r) := by
  obtain ⟨ab, cb, rfl, hcb⟩ := hrd.2.form
  have hone2 := (show Hid (∀ vp : Value, vp.oneCell' = true → ∀ v ∈ mc m { s with l := vp }, v.oneCell' = true) from fun vp h1 v hv => by
    have h2 : v = vp ∨ v ∈ mc m s := by
      simp only [mc, List.mem_cons, List.not_mem_nil, or_false] at hv ⊢
      grind
    rcases h2 with rfl | h2
    · exact h1
    · exact hone v h2)
  obtain ⟨w2, hw2⟩ : ∃ w2, w2 = (((w.alloc (.cells ([.slice ab (bc l).length cb, .int .i64 (p : Int), .bool bad] : List Value).toArray 89)).alloc (.cells (mc m s).toArray 40)).alloc (.cells ([.slice none 0 0, .int .i64 0, .bool false] : List Value).toArray 89)).alloc (.cells (mc zAc sv0).toArray 40) := ⟨_, rfl⟩
  have hs : Row w2 w.heap.size 89 [.slice ab (bc l).length cb, .int .i64 (p : Int), .bool bad] := by rw [hw2]; exact zA4 (zA4 (zA4 (Row.new w _ _) _) _) _
  have hm0 : Row w2 (w.heap.size + 1) 40 (mc m s) := by
    rw [hw2]; refine zA4 (zA4 ?_ _) _
    have := Row.new (w.alloc (.cells ([.slice ab (bc l).length cb, .int .i64 (p : Int), .bool bad] : List Value).toArray 89)) 40 (mc m s)
    simpa using this
  have ho : Row w2 (w.heap.size + 1 + 1) 89 [.slice none 0 0, .int .i64 0, .bool false] := by
    rw [hw2]; refine zA4 ?_ _
    have := Row.new ((w.alloc (.cells ([.slice ab (bc l).length cb, .int .i64 (p : Int), .bool bad] : List Value).toArray 89)).alloc (.cells (mc m s).toArray 40)) 89 [.slice none 0 0, .int .i64 0, .bool false]
    simpa using this
  have hz : Row w2 (w.heap.size + 1 + 1 + 1) 40 (mc zAc sv0) := by
    rw [hw2]
    have := Row.new (((w.alloc (.cells ([.slice ab (bc l).length cb, .int .i64 (p : Int), .bool bad] : List Value).toArray 89)).alloc (.cells (mc m s).toArray 40)).alloc (.cells ([.slice none 0 0, .int .i64 0, .bool false] : List Value).toArray 89)) 40 (mc zAc sv0)
    simpa using this
  have hm : Row w2 (w.heap.size + 1) 40 (mc m { s with l := .slice none 0 0 }) := by
    have e : ({ s with l := .slice none 0 0 } : SV) = s := by rw [← hnil]
    rw [e]; exact hm0
  have B : Below w.heap.size w w2 := by rw [hw2]; exact ((((Below.refl _ w).alloc zN _).alloc (by simp) _).alloc (by simp; omega) _).alloc (by simp; omega) _
  have hC : w.heap.size + 4 ≤ w2.heap.size := by rw [hw2]; simp
  have hG := zD4 _ _ l p bad (hrd.below B) hp hl
  go_enter Tryz.func84, Tryz.ntmps84
  go_upto_region 1 with fail
  have hw2' : (((w.alloc (.cells ([.slice ab (bc l).length cb, .int .i64 (p : Int), .bool bad] : List Value).toArray 89)).alloc (.cells (mc m s).toArray 40)).alloc (.cells #[.slice none 0 0, .int .i64 0, .bool false] 89)).alloc (.cells #[.int .i64 0, .int .i64 0, .int .i64 0, .int .i64 0, .int .i64 0, .int .i64 0, .int .i64 0, .int .i64 0, .int .i64 0, .int .i64 0, .slice none 0 0, .slice none 0 0, .int .i64 0, .int .i64 0, .slice none 0 0, .slice none 0 0, .slice none 0 0, .slice none 0 0, .slice none 0 0, .slice none 0 0, .slice none 0 0, .slice none 0 0, .slice none 0 0] 40) = w2 := hw2.symm
  rw [hw2']
  clear hw2 hw2' hm0 hone hnil
  go_upto_region 2 with (first
    | (refine zAa rfl _ _ rfl w.heap.size rfl _ _ hs _ Tryz.underlying89 rfl (by kernel_rfl) ?_)
    | (go_at_call 121; refine hG.mono ?_; rintro e w3 ⟨n, v6, p1, b1, rfl, hp1, hb3, rfl, he⟩; have hs3 := hs.below hb3)
    | (refine zA7 rfl _ _ _ rfl w.heap.size [.slice ab (bc l).length cb, .int .i64 (p1 : Int), .bool b1] rfl rfl _ _ hs3 rfl (by kernel_rfl) (zAf rfl) ?_; intro w4 hs4 hg4))
  have hs := hs4.out
  have ho := (ho.below hb3).grown hg4 (fun h => by injection h; omega)
  have hz := (hz.below hb3).grown hg4 (fun h => by injection h; omega)
  have hm := (hm.below hb3).grown hg4 (fun h => by injection h; omega)
  have B := zA3 (zA1 B zN hb3) hg4 zN (Nat.le_trans (by omega) (Nat.le_trans hC hb3.size))
  have hC := Nat.le_trans hC (Nat.le_trans hb3.size hg4.size)
  have HE := (show Hid ((stL l p bad).bind cM.rd = (stL l p1 b1).map fun t => (n, t)) from he)
  clear he hG hs3 hs4 hb3 hg4
  go_wp2_with fail
  go_loopw [9] (fun i wr => ∃ (q pq : Nat) (bq : Bool) (ys : List zF8) (vp : Value), q ≤ n.toNat ∧ i = .int .i64 q ∧ ys.length = q ∧ Hid ((stL l p1 b1).bind (rdN zBr q) = (stL l pq bq).map fun t => (ys, t)) ∧ pq ≤ l.length ∧ LB zDo 68 8 (w.heap.size + 4) wr vp ys ∧ Row wr w.heap.size 89 [.slice ab (bc l).length cb, .int .i64 (pq : Int), .bool bq] ∧ Row wr (w.heap.size + 1) 40 (mc m { s with l := vp }) ∧ Row wr (w.heap.size + 1 + 1) 89 [.slice none 0 0, .int .i64 0, .bool false] ∧ Row wr (w.heap.size + 1 + 1 + 1) 40 (mc zAc sv0) ∧ Below w.heap.size w wr ∧ w.heap.size + 4 ≤ wr.heap.size) (fun i _ => n.toNat - (intOf i).toNat)
  case atStart => exact ⟨0, p1, b1, [], _, by omega, rfl, rfl, zEa, hp1, LB.nil _ _ _ _ _, hs, hm, ho, hz, B, hC⟩
  case round =>
  clear hs ho hz hm B hC
  obtain ⟨q, q0, bad0, ys, vp, hqn, rfl, hyl, hrdq, hq0, hLB, hs, hm, ho, hz, B, hCr⟩ := hrel
  have i2 := hs.cell (j := 2) rfl
  by_cases hend : (q : Int) < n ∧ bad0 = false
  rotate_left
  · have HF := (show Hid ((stL l p bad).bind (cL zBr).rd = (stL l q0 bad0).map fun t => (ys, t)) from zG1 HE.out hrdq.out (by
      by_cases h1 : (q : Int) < n
      · right; refine ⟨hqn, ?_⟩; cases bad0
        · exact absurd ⟨h1, rfl⟩ hend
        · rfl
      · left; omega))
    have hrl := hLB.rl zAm
    have hon := hone2.out vp hLB.form
    clear hrdq hLB hyl
    by_cases h1 : (q : Int) < n
    · obtain rfl : bad0 = true := by cases bad0 <;> simp_all
      clear hend
      go_wp2_with fail
      refine zBz (by kernel_rfl) (by rfl) (by kernel_rfl) (by kernel_rfl) (by kernel_rfl) (by kernel_rfl) (by kernel_rfl) (by kernel_rfl) (by kernel_rfl) rfl rfl rfl rfl rfl rfl rfl rfl _ _ _ _ _ _ _ _ rfl rfl rfl rfl w.heap.size (w.heap.size + 1) (w.heap.size + 1 + 1) (w.heap.size + 1 + 1 + 1) _ _ _ _ _ _ _ _ hs hm ho hz rfl rfl _ _ Tryz.underlying89 rfl Tryz.underlying40 rfl (by kernel_rfl) (by kernel_rfl) (zAf rfl) hon (by omega) (by omega) _ rfl rfl rfl rfl rfl rfl rfl rfl rfl rfl rfl rfl rfl rfl rfl ?_
      intro u w' g1 g2 rA rB
      have B1 := zA3 B g1 (by omega) (by omega)
      have B2 := zA3 B1 g2 (by omega) B1.size
      have hrl2 := ((hrl.mv zAm g1.size (Mv.from g1 (by omega) zN)).mv zAm g2.size (Mv.from g2 (by omega) zN)).mv zAm zN (Mv.weak (L := w.heap.size) (by omega))
      go_wp2_with fail
      refine bodyPost_ret (zAk rfl _ _ (w.heap.size + 1 + 1) (w.heap.size + 1 + 1 + 1) _ _ _ _ (0, 0) (0, 0) _ _ (by rfl) (by rfl) rA rB Tryz.underlying89 rfl (by kernel_rfl) Tryz.underlying40 rfl (by kernel_rfl)) rfl ?_
      exact ⟨ys, vp, q0, _, rfl, hq0, B2, hrl2, HF.out⟩
    · have h1' : decide ((q : Int) < n) = false := decide_eq_false h1
      clear hend
      go_wp2_with fail
      refine zBz (by kernel_rfl) (by rfl) (by kernel_rfl) (by kernel_rfl) (by kernel_rfl) (by kernel_rfl) (by kernel_rfl) (by kernel_rfl) (by kernel_rfl) rfl rfl rfl rfl rfl rfl rfl rfl _ _ _ _ _ _ _ _ rfl rfl rfl rfl w.heap.size (w.heap.size + 1) (w.heap.size + 1 + 1) (w.heap.size + 1 + 1 + 1) _ _ _ _ _ _ _ _ hs hm ho hz rfl rfl _ _ Tryz.underlying89 rfl Tryz.underlying40 rfl (by kernel_rfl) (by kernel_rfl) (zAf rfl) hon (by omega) (by omega) _ rfl rfl rfl rfl rfl rfl rfl rfl rfl rfl rfl rfl rfl rfl rfl ?_
      intro u w' g1 g2 rA rB
      have B1 := zA3 B g1 (by omega) (by omega)
      have B2 := zA3 B1 g2 (by omega) B1.size
      have hrl2 := ((hrl.mv zAm g1.size (Mv.from g1 (by omega) zN)).mv zAm g2.size (Mv.from g2 (by omega) zN)).mv zAm zN (Mv.weak (L := w.heap.size) (by omega))
      go_wp2_with fail
      refine bodyPost_ret (zAk rfl _ _ (w.heap.size + 1 + 1) (w.heap.size + 1 + 1 + 1) _ _ _ _ (0, 0) (0, 0) _ _ (by rfl) (by rfl) rA rB Tryz.underlying89 rfl (by kernel_rfl) Tryz.underlying40 rfl (by kernel_rfl)) rfl ?_
      exact ⟨ys, vp, q0, _, rfl, hq0, B2, hrl2, HF.out⟩
  obtain ⟨hqn2, rfl⟩ := hend
  have hn64 : n ≤ 64 := by have := HE.out; rw [zIt hrdq.out] at this; exact zT8 this
  obtain ⟨bad0, hbad0⟩ : ∃ b, b = false := ⟨_, rfl⟩
  have hCw : wr.heap.size ≤ wr.heap.size := zN
  go_upto_region 6 with fail
  rw [← hbad0] at hs hrdq
  clear hbad0 i2
  have hG := zKi _ _ l q0 bad0 (hrd.below B) hq0 hl
  go_upto_region 7 with (first
    | (refine zAa rfl _ _ rfl w.heap.size rfl _ _ hs _ Tryz.underlying89 rfl (by kernel_rfl) ?_)
    | (go_at_call 122; refine hG.mono ?_; rintro e wa ⟨y, vy, q1, bad1, rfl, hq1, hb, ⟨ry, rfl, hRy⟩, he⟩; have hn1 := zA4 (Row.new wa 89 [.slice none 0 0, .int .i64 0, .bool false]) (.cells ([.int .i64 0, .int .i64 0, .int .i64 0, .int .i64 0, .slice none 0 0, .slice none 0 0, .slice none 0 0, .slice none 0 0] : List Value).toArray 68); have hn2 : Row ((wa.alloc (.cells ([.slice none 0 0, .int .i64 0, .bool false] : List Value).toArray 89)).alloc (.cells ([.int .i64 0, .int .i64 0, .int .i64 0, .int .i64 0, .slice none 0 0, .slice none 0 0, .slice none 0 0, .slice none 0 0] : List Value).toArray 68)) (wa.heap.size + 1) 68 [.int .i64 0, .int .i64 0, .int .i64 0, .int .i64 0, .slice none 0 0, .slice none 0 0, .slice none 0 0, .slice none 0 0] := (by have := Row.new (wa.alloc (.cells ([.slice none 0 0, .int .i64 0, .bool false] : List Value).toArray 89)) 68 [.int .i64 0, .int .i64 0, .int .i64 0, .int .i64 0, .slice none 0 0, .slice none 0 0, .slice none 0 0, .slice none 0 0]; simpa using this); have hly : ry.length = 8 := zKz hRy; have hoy := zCk hRy; have hRy2 := hRy; obtain ⟨yd, ys1, yp, yg, rfl, ho1, ho2, ho3, ho4⟩ := hRy2; clear ho1 ho2 ho3 ho4)
    | (refine zA7 rfl _ _ _ rfl wa.heap.size [.slice ab (bc l).length cb, .int .i64 (q1 : Int), .bool bad1] rfl rfl _ _ hn1 rfl (by kernel_rfl) (zAf rfl) ?_; intro wb0 hnb hgb0; have hn2b := hn2.grown hgb0 (fun h => by injection h; omega))
    | (refine zA7 rfl _ _ _ rfl (wa.heap.size + 1) [.int .i64 y.1.1, .int .i64 y.1.2, .int .i64 y.2.1, .int .i64 y.2.2.1, yd, ys1, yp, yg] rfl rfl _ _ hn2b rfl (by kernel_rfl) hoy ?_; intro wb hnr hgb))
  have hbb : Below wa.heap.size wa wb := by
    have t0 : Below wa.heap.size wa ((wa.alloc (.cells ([.slice none 0 0, .int .i64 0, .bool false] : List Value).toArray 89)).alloc (.cells ([.int .i64 0, .int .i64 0, .int .i64 0, .int .i64 0, .slice none 0 0, .slice none 0 0, .slice none 0 0, .slice none 0 0] : List Value).toArray 68)) := ((Below.refl _ wa).alloc zN _).alloc (by simp) _
    exact zA3 (zA3 t0 hgb0 zN (by simp; omega)) hgb (by omega) (Nat.le_trans (by simp; omega) hgb0.size)
  have hnb := hnb.out.grown hgb (fun h => by injection h; omega)
  have hnr := hnr.out
  have hRb : zDo (zB0 wr.heap.size) wb [.int .i64 y.1.1, .int .i64 y.1.2, .int .i64 y.2.1, .int .i64 y.2.2.1, yd, ys1, yp, yg] y := zAm _ _ _ _ _ _ hRy hbb.size (Mv.belowG hbb)
  clear hn2b hgb0
  have hb2 := zA1 hb zN hbb
  have hwa := hb.size
  have hs := hs.below hb2
  have hm := hm.below hb2
  have ho := ho.below hb2
  have hz := hz.below hb2
  have B := zA1 B zN hb2
  have he := (show Hid _ from he)
  go_upto_region 8 with (first
    | (refine zAa rfl _ _ rfl wa.heap.size rfl _ _ hnb _ Tryz.underlying89 rfl (by kernel_rfl) ?_)
    | (refine zA7 rfl _ _ _ rfl w.heap.size [.slice ab (bc l).length cb, .int .i64 (q1 : Int), .bool bad1] rfl rfl _ _ hs rfl (by kernel_rfl) (zAf rfl) ?_; intro wc hsc hgc))
  have hs := hsc.out
  have hm := hm.grown hgc (fun h => by injection h; omega)
  have ho := ho.grown hgc (fun h => by injection h; omega)
  have hz := hz.grown hgc (fun h => by injection h; omega)
  have hRc : zDo (zB0 wr.heap.size) wc [.int .i64 y.1.1, .int .i64 y.1.2, .int .i64 y.2.1, .int .i64 y.2.2.1, yd, ys1, yp, yg] y := zAm _ _ _ _ _ _ hRb hgc.size (Mv.from hgc (by omega) zN)
  have hnr := hnr.grown hgc (fun h => by injection h; omega)
  have hc1 := (zCk hRc)
  have B := zA3 B hgc zN (Nat.le_trans (by omega) hb2.size)
  have hLB1 := (hLB.below zAm hb2).grown zAm hgc (by omega)
  have hsz : wr.heap.size ≤ wc.heap.size := Nat.le_trans hb2.size hgc.size
  have HR3 := (show Hid ((stL l p1 b1).bind (rdN zBr (q + 1)) = (stL l q1 bad1).map fun t => (ys ++ [y], t)) from zEb hrdq.out he.out)
  have hlt := hLB.lt
  have hfr := hLB.fr
  have cf := hm.cell (j := 22) rfl
  clear hgb hb hbb hb2 hgc hsc hnb hG hRb
  go_wp2_with (first
    | (refine zAa rfl _ _ rfl (wa.heap.size + 1) rfl _ _ hnr _ Tryz.underlying68 rfl (by kernel_rfl) ?_)
    | (at_builtin; refine zCq zAm rfl _ _ _ rfl 68 8 128 _ Tryz.underlying38 Tryz.inf_reps rfl (by decide) (w.heap.size + 4) vp ys rfl hLB1 [.int .i64 y.1.1, .int .i64 y.1.2, .int .i64 y.2.1, .int .i64 y.2.2.1, yd, ys1, yp, yg] y wr.heap.size hRc rfl hc1 hCr hlt rfl (by omega) (by omega) (by decide) ?_; intro vq w6 hLB6 hg6; have hm6 := hm.grown hg6 (fun h => by have := hfr _ h; omega))
    | (refine zAb rfl _ _ _ rfl (w.heap.size + 1) 22 _ rfl rfl _ _ hm6 (show 22 < 23 by decide) (by kernel_rfl) hLB6.form ?_; intro w7 hm7 hg7))
  have hs := (hs.grown hg6 (fun h => by have := hfr _ h; omega)).grown hg7 (fun h => by injection h; omega)
  have ho := (ho.grown hg6 (fun h => by have := hfr _ h; omega)).grown hg7 (fun h => by injection h; omega)
  have hz := (hz.grown hg6 (fun h => by have := hfr _ h; omega)).grown hg7 (fun h => by injection h; omega)
  have hLB7 := hLB6.grown zAm hg7 (by omega)
  have B6 : Below w.heap.size w w6 := B.trans (zA5 hg6 (Nat.le_trans (by omega) hsz) (fun k hk => by have := hfr k hk; omega))
  have B7 := zA3 B6 hg7 (by omega) B6.size
  have hC7 : w.heap.size + 4 ≤ w7.heap.size := Nat.le_trans (Nat.le_trans hCr hsz) (Nat.le_trans hg6.size hg7.size)
  go_roundw
  case rel => exact ⟨q + 1, q1, bad1, ys ++ [y], vq, by omega, by go_num, by simp [hyl], HR3, hq1, hLB7, hs, hm7.out, ho, hz, B7, hC7⟩
  case measure => simp [intOf]; omega
end
section
open Go.RowKit Oct
set_option maxRecDepth 10000 in
set_option maxHeartbeats 4000000 in
theorem zJd (G : Nat → Prop) (w : World) (bv : Value) (l : List Int) (p : Nat) (bad : Bool) (m : PMsg) (s : SV) (hrd : Rd w bv l) (hp : p ≤ l.length) (hl : l.length ≤ 1048576) (hso : SOk G w m s) (hzr : Zr 12 s) :
    Calls Tryz.prog 49 #[.agg #[bv, .int .i64 (p : Int), .bool bad], .agg (mc m s).toArray, .int .i64 12] w (zF6 G w bv l p bad m 12) := by
  obtain ⟨ab, cb, rfl, hcb⟩ := hrd.2.form
  obtain ⟨q0, bad0, hq0', hbad0⟩ : ∃ q0 bad0, q0 = p ∧ bad0 = bad := ⟨_, _, rfl, rfl⟩
  rw [← hq0', ← hbad0]
  have hq0 : q0 ≤ l.length := by omega
  clear hq0' hbad0 hp p bad
  have hone := (show Hid (∀ v ∈ mc m s, v.oneCell' = true) from hso.one)
  have HSO := (show Hid (SOk G w m s) from hso)
  have HZR := (show Hid (Zr 12 s) from hzr)
  clear hso hzr
  obtain ⟨w2, hw2⟩ : ∃ w2, w2 = (((w.alloc (.cells ([.slice ab (bc l).length cb, .int .i64 (q0 : Int), .bool bad0] : List Value).toArray 89)).alloc (.cells (mc m s).toArray 40)).alloc (.cells ([.slice none 0 0, .int .i64 0, .bool false] : List Value).toArray 89)).alloc (.cells (mc zAc sv0).toArray 40) := ⟨_, rfl⟩
  have hs : Row w2 w.heap.size 89 [.slice ab (bc l).length cb, .int .i64 (q0 : Int), .bool bad0] := by rw [hw2]; exact zA4 (zA4 (zA4 (Row.new w _ _) _) _) _
  have hv : Row w2 (w.heap.size + 1) 40 (mc m s) := by
    rw [hw2]; refine zA4 (zA4 ?_ _) _
    have := Row.new (w.alloc (.cells ([.slice ab (bc l).length cb, .int .i64 (q0 : Int), .bool bad0] : List Value).toArray 89)) 40 (mc m s)
    simpa using this
  have ho : Row w2 (w.heap.size + 1 + 1) 89 [.slice none 0 0, .int .i64 0, .bool false] := by
    rw [hw2]; refine zA4 ?_ _
    have := Row.new ((w.alloc (.cells ([.slice ab (bc l).length cb, .int .i64 (q0 : Int), .bool bad0] : List Value).toArray 89)).alloc (.cells (mc m s).toArray 40)) 89 [.slice none 0 0, .int .i64 0, .bool false]
    simpa using this
  have hz : Row w2 (w.heap.size + 1 + 1 + 1) 40 (mc zAc sv0) := by
    rw [hw2]
    have := Row.new (((w.alloc (.cells ([.slice ab (bc l).length cb, .int .i64 (q0 : Int), .bool bad0] : List Value).toArray 89)).alloc (.cells (mc m s).toArray 40)).alloc (.cells ([.slice none 0 0, .int .i64 0, .bool false] : List Value).toArray 89)) 40 (mc zAc sv0)
    simpa using this
  have B : Below w.heap.size w w2 := by rw [hw2]; exact ((((Below.refl _ w).alloc zN _).alloc (by simp) _).alloc (by simp; omega) _).alloc (by simp; omega) _
  have hC : w.heap.size + 4 ≤ w2.heap.size := by rw [hw2]; simp
  go_enter Tryz.func49, Tryz.ntmps49
  go_upto_region 1 with fail
  have hw2' : (((w.alloc (.cells ([.slice ab (bc l).length cb, .int .i64 (q0 : Int), .bool bad0] : List Value).toArray 89)).alloc (.cells (mc m s).toArray 40)).alloc (.cells #[.slice none 0 0, .int .i64 0, .bool false] 89)).alloc (.cells #[.int .i64 0, .int .i64 0, .int .i64 0, .int .i64 0, .int .i64 0, .int .i64 0, .int .i64 0, .int .i64 0, .int .i64 0, .int .i64 0, .slice none 0 0, .slice none 0 0, .int .i64 0, .int .i64 0, .slice none 0 0, .slice none 0 0, .slice none 0 0, .slice none 0 0, .slice none 0 0, .slice none 0 0, .slice none 0 0, .slice none 0 0, .slice none 0 0] 40) = w2 := hw2.symm
  rw [hw2']
  clear hw2 hw2'
  have hG := zO3 w2 _ l q0 bad0 m s (hrd.below B) hq0 hl hone.out (HZR.out.1 (by decide))
  have hone2 := (show Hid (∀ vp : Value, vp.oneCell' = true → ∀ v ∈ mc m { s with n := vp }, v.oneCell' = true) from fun vp h1 v hv => by
    have h2 : v = vp ∨ v ∈ mc m s := by
      simp only [mc, List.mem_cons, List.not_mem_nil, or_false] at hv ⊢
      grind
    rcases h2 with rfl | h2
    · exact h1
    · exact hone.out v h2)
  go_wp2_with (first
    | (refine zAa rfl _ _ rfl w.heap.size rfl _ _ hs _ Tryz.underlying89 rfl (by kernel_rfl) ?_)
    | (refine zAa rfl _ _ rfl (w.heap.size + 1) rfl _ _ hv _ Tryz.underlying40 rfl (by kernel_rfl) ?_)
    | (go_at_call 84; refine hG.mono ?_; rintro e w3 ⟨ys, vp, q1, bad1, rfl, hq1, hb3, hrl, he⟩; have ho3 := ho.below hb3; have hz3 := hz.below hb3; have hon := hone2.out vp hrl.one)
    | (refine zA7 rfl _ _ _ rfl (w.heap.size + 1 + 1) [.slice ab (bc l).length cb, .int .i64 (q1 : Int), .bool bad1] rfl rfl _ _ ho3 rfl (by kernel_rfl) (zAf rfl) ?_; intro w4 ho4 hg4; have hz4 := hz3.grown hg4 (fun h => by injection h; omega))
    | (refine zA7 rfl _ _ _ rfl (w.heap.size + 1 + 1 + 1) (mc m { s with n := vp }) rfl rfl _ _ hz4 rfl (by kernel_rfl) hon ?_; intro w5 hz5 hg5))
  have B3 := zA1 B zN hb3
  have B4 := zA3 B3 hg4 (by omega) B3.size
  have B5 := zA3 B4 hg5 (by omega) B4.size
  have ho5 := ho4.out.grown hg5 (fun h => by injection h; omega)
  have base := HSO.out.mv B5.size (show Mv G (GB G w) w w5 from fun k hk hlt => ⟨B5.block k hlt, .inl ⟨hk, hlt⟩⟩)
  have hrl : RL zG2 1 (GB G w) w5 vp ys := (((hrl.mv zAl zN (Mv.weak hC)).mv zAl hg4.size (Mv.from hg4 (by omega) zN)).mv zAl hg5.size (Mv.from hg5 (by omega) zN)).mv zAl zN (fun k hk _ => ⟨rfl, .inr (Nat.le_trans (by omega) hk)⟩)
  refine bodyPost_ret (zAk rfl _ _ (w.heap.size + 1 + 1) (w.heap.size + 1 + 1 + 1) _ _ _ _ (0, 0) (0, 0) _ _ (by rfl) (by rfl) ho5 hz5.out Tryz.underlying89 rfl (by kernel_rfl) Tryz.underlying40 rfl (by kernel_rfl)) rfl ?_
  exact ⟨{ m with order := ys }, { s with n := vp }, q1, bad1, rfl, hq1, B5, ⟨base.o, base.g, base.o', base.g', base.d, base.s, base.c, base.v, hrl, base.p, base.l⟩, ⟨fun h => absurd h (by decide), fun _ => HZR.out.2.1 (by decide), fun _ => HZR.out.2.2 (by decide)⟩, zBo he⟩
set_option maxRecDepth 10000 in
set_option maxHeartbeats 4000000 in
theorem zJ9 (G : Nat → Prop) (w : World) (bv : Value) (l : List Int) (p : Nat) (bad : Bool) (m : PMsg) (s : SV) (hrd : Rd w bv l) (hp : p ≤ l.length) (hl : l.length ≤ 1048576) (hso : SOk G w m s) (hzr : Zr 13 s) :
    Calls Tryz.prog 49 #[.agg #[bv, .int .i64 (p : Int), .bool bad], .agg (mc m s).toArray, .int .i64 13] w (zF6 G w bv l p bad m 13) := by
  obtain ⟨ab, cb, rfl, hcb⟩ := hrd.2.form
  obtain ⟨q0, bad0, hq0', hbad0⟩ : ∃ q0 bad0, q0 = p ∧ bad0 = bad := ⟨_, _, rfl, rfl⟩
  rw [← hq0', ← hbad0]
  have hq0 : q0 ≤ l.length := by omega
  clear hq0' hbad0 hp p bad
  have hone := (show Hid (∀ v ∈ mc m s, v.oneCell' = true) from hso.one)
  have HSO := (show Hid (SOk G w m s) from hso)
  have HZR := (show Hid (Zr 13 s) from hzr)
  clear hso hzr
  obtain ⟨w2, hw2⟩ : ∃ w2, w2 = (((w.alloc (.cells ([.slice ab (bc l).length cb, .int .i64 (q0 : Int), .bool bad0] : List Value).toArray 89)).alloc (.cells (mc m s).toArray 40)).alloc (.cells ([.slice none 0 0, .int .i64 0, .bool false] : List Value).toArray 89)).alloc (.cells (mc zAc sv0).toArray 40) := ⟨_, rfl⟩
  have hs : Row w2 w.heap.size 89 [.slice ab (bc l).length cb, .int .i64 (q0 : Int), .bool bad0] := by rw [hw2]; exact zA4 (zA4 (zA4 (Row.new w _ _) _) _) _
  have hv : Row w2 (w.heap.size + 1) 40 (mc m s) := by
    rw [hw2]; refine zA4 (zA4 ?_ _) _
    have := Row.new (w.alloc (.cells ([.slice ab (bc l).length cb, .int .i64 (q0 : Int), .bool bad0] : List Value).toArray 89)) 40 (mc m s)
    simpa using this
  have ho : Row w2 (w.heap.size + 1 + 1) 89 [.slice none 0 0, .int .i64 0, .bool false] := by
    rw [hw2]; refine zA4 ?_ _
    have := Row.new ((w.alloc (.cells ([.slice ab (bc l).length cb, .int .i64 (q0 : Int), .bool bad0] : List Value).toArray 89)).alloc (.cells (mc m s).toArray 40)) 89 [.slice none 0 0, .int .i64 0, .bool false]
    simpa using this
  have hz : Row w2 (w.heap.size + 1 + 1 + 1) 40 (mc zAc sv0) := by
    rw [hw2]
    have := Row.new (((w.alloc (.cells ([.slice ab (bc l).length cb, .int .i64 (q0 : Int), .bool bad0] : List Value).toArray 89)).alloc (.cells (mc m s).toArray 40)).alloc (.cells ([.slice none 0 0, .int .i64 0, .bool false] : List Value).toArray 89)) 40 (mc zAc sv0)
    simpa using this
  have B : Below w.heap.size w w2 := by rw [hw2]; exact ((((Below.refl _ w).alloc zN _).alloc (by simp) _).alloc (by simp; omega) _).alloc (by simp; omega) _
  have hC : w.heap.size + 4 ≤ w2.heap.size := by rw [hw2]; simp
  go_enter Tryz.func49, Tryz.ntmps49
  go_upto_region 1 with fail
  have hw2' : (((w.alloc (.cells ([.slice ab (bc l).length cb, .int .i64 (q0 : Int), .bool bad0] : List Value).toArray 89)).alloc (.cells (mc m s).toArray 40)).alloc (.cells #[.slice none 0 0, .int .i64 0, .bool false] 89)).alloc (.cells #[.int .i64 0, .int .i64 0, .int .i64 0, .int .i64 0, .int .i64 0, .int .i64 0, .int .i64 0, .int .i64 0, .int .i64 0, .int .i64 0, .slice none 0 0, .slice none 0 0, .int .i64 0, .int .i64 0, .slice none 0 0, .slice none 0 0, .slice none 0 0, .slice none 0 0, .slice none 0 0, .slice none 0 0, .slice none 0 0, .slice none 0 0, .slice none 0 0] 40) = w2 := hw2.symm
  rw [hw2']
  clear hw2 hw2'
  have hG := zOa w2 _ l q0 bad0 m s (hrd.below B) hq0 hl hone.out (HZR.out.2.1 (by decide))
  have hone2 := (show Hid (∀ vp : Value, vp.oneCell' = true → ∀ v ∈ mc m { s with p := vp }, v.oneCell' = true) from fun vp h1 v hv => by
    have h2 : v = vp ∨ v ∈ mc m s := by
      simp only [mc, List.mem_cons, List.not_mem_nil, or_false] at hv ⊢
      grind
    rcases h2 with rfl | h2
    · exact h1
    · exact hone.out v h2)
  go_wp2_with (first
    | (refine zAa rfl _ _ rfl w.heap.size rfl _ _ hs _ Tryz.underlying89 rfl (by kernel_rfl) ?_)
    | (refine zAa rfl _ _ rfl (w.heap.size + 1) rfl _ _ hv _ Tryz.underlying40 rfl (by kernel_rfl) ?_)
    | (go_at_call 84; refine hG.mono ?_; rintro e w3 ⟨ys, vp, q1, bad1, rfl, hq1, hb3, hrl, he⟩; have ho3 := ho.below hb3; have hz3 := hz.below hb3; have hon := hone2.out vp hrl.one)
    | (refine zA7 rfl _ _ _ rfl (w.heap.size + 1 + 1) [.slice ab (bc l).length cb, .int .i64 (q1 : Int), .bool bad1] rfl rfl _ _ ho3 rfl (by kernel_rfl) (zAf rfl) ?_; intro w4 ho4 hg4; have hz4 := hz3.grown hg4 (fun h => by injection h; omega))
    | (refine zA7 rfl _ _ _ rfl (w.heap.size + 1 + 1 + 1) (mc m { s with p := vp }) rfl rfl _ _ hz4 rfl (by kernel_rfl) hon ?_; intro w5 hz5 hg5))
  have B3 := zA1 B zN hb3
  have B4 := zA3 B3 hg4 (by omega) B3.size
  have B5 := zA3 B4 hg5 (by omega) B4.size
  have ho5 := ho4.out.grown hg5 (fun h => by injection h; omega)
  have base := HSO.out.mv B5.size (show Mv G (GB G w) w w5 from fun k hk hlt => ⟨B5.block k hlt, .inl ⟨hk, hlt⟩⟩)
  have hrl : RL zCs 4 (GB G w) w5 vp ys := (((hrl.mv zAj zN (Mv.weak hC)).mv zAj hg4.size (Mv.from hg4 (by omega) zN)).mv zAj hg5.size (Mv.from hg5 (by omega) zN)).mv zAj zN (fun k hk _ => ⟨rfl, .inr (Nat.le_trans (by omega) hk)⟩)
  refine bodyPost_ret (zAk rfl _ _ (w.heap.size + 1 + 1) (w.heap.size + 1 + 1 + 1) _ _ _ _ (0, 0) (0, 0) _ _ (by rfl) (by rfl) ho5 hz5.out Tryz.underlying89 rfl (by kernel_rfl) Tryz.underlying40 rfl (by kernel_rfl)) rfl ?_
  exact ⟨{ m with picks := ys }, { s with p := vp }, q1, bad1, rfl, hq1, B5, ⟨base.o, base.g, base.o', base.g', base.d, base.s, base.c, base.v, base.n, hrl, base.l⟩, ⟨fun h => absurd h (by decide), fun h => absurd h (by decide), fun _ => HZR.out.2.2 (by decide)⟩, zBo he⟩
set_option maxRecDepth 10000 in
set_option maxHeartbeats 4000000 in
theorem zJh (G : Nat → Prop) (w : World) (bv : Value) (l : List Int) (p : Nat) (bad : Bool) (m : PMsg) (s : SV) (hrd : Rd w bv l) (hp : p ≤ l.length) (hl : l.length ≤ 1048576) (hso : SOk G w m s) (hzr : Zr 14 s) :
    Calls Tryz.prog 49 #[.agg #[bv, .int .i64 (p : Int), .bool bad], .agg (mc m s).toArray, .int .i64 14] w (zF6 G w bv l p bad m 14) := by
  obtain ⟨ab, cb, rfl, hcb⟩ := hrd.2.form
  obtain ⟨q0, bad0, hq0', hbad0⟩ : ∃ q0 bad0, q0 = p ∧ bad0 = bad := ⟨_, _, rfl, rfl⟩
  rw [← hq0', ← hbad0]
  have hq0 : q0 ≤ l.length := by omega
  clear hq0' hbad0 hp p bad
  have hone := (show Hid (∀ v ∈ mc m s, v.oneCell' = true) from hso.one)
  have HSO := (show Hid (SOk G w m s) from hso)
  have HZR := (show Hid (Zr 14 s) from hzr)
  clear hso hzr
  obtain ⟨w2, hw2⟩ : ∃ w2, w2 = (((w.alloc (.cells ([.slice ab (bc l).length cb, .int .i64 (q0 : Int), .bool bad0] : List Value).toArray 89)).alloc (.cells (mc m s).toArray 40)).alloc (.cells ([.slice none 0 0, .int .i64 0, .bool false] : List Value).toArray 89)).alloc (.cells (mc zAc sv0).toArray 40) := ⟨_, rfl⟩
  have hs : Row w2 w.heap.size 89 [.slice ab (bc l).length cb, .int .i64 (q0 : Int), .bool bad0] := by rw [hw2]; exact zA4 (zA4 (zA4 (Row.new w _ _) _) _) _
  have hv : Row w2 (w.heap.size + 1) 40 (mc m s) := by
    rw [hw2]; refine zA4 (zA4 ?_ _) _
    have := Row.new (w.alloc (.cells ([.slice ab (bc l).length cb, .int .i64 (q0 : Int), .bool bad0] : List Value).toArray 89)) 40 (mc m s)
    simpa using this
  have ho : Row w2 (w.heap.size + 1 + 1) 89 [.slice none 0 0, .int .i64 0, .bool false] := by
    rw [hw2]; refine zA4 ?_ _
    have := Row.new ((w.alloc (.cells ([.slice ab (bc l).length cb, .int .i64 (q0 : Int), .bool bad0] : List Value).toArray 89)).alloc (.cells (mc m s).toArray 40)) 89 [.slice none 0 0, .int .i64 0, .bool false]
    simpa using this
  have hz : Row w2 (w.heap.size + 1 + 1 + 1) 40 (mc zAc sv0) := by
    rw [hw2]
    have := Row.new (((w.alloc (.cells ([.slice ab (bc l).length cb, .int .i64 (q0 : Int), .bool bad0] : List Value).toArray 89)).alloc (.cells (mc m s).toArray 40)).alloc (.cells ([.slice none 0 0, .int .i64 0, .bool false] : List Value).toArray 89)) 40 (mc zAc sv0)
    simpa using this
  have B : Below w.heap.size w w2 := by rw [hw2]; exact ((((Below.refl _ w).alloc zN _).alloc (by simp) _).alloc (by simp; omega) _).alloc (by simp; omega) _
  have hC : w.heap.size + 4 ≤ w2.heap.size := by rw [hw2]; simp
  go_enter Tryz.func49, Tryz.ntmps49
  go_upto_region 1 with fail
  have hw2' : (((w.alloc (.cells ([.slice ab (bc l).length cb, .int .i64 (q0 : Int), .bool bad0] : List Value).toArray 89)).alloc (.cells (mc m s).toArray 40)).alloc (.cells #[.slice none 0 0, .int .i64 0, .bool false] 89)).alloc (.cells #[.int .i64 0, .int .i64 0, .int .i64 0, .int .i64 0, .int .i64 0, .int .i64 0, .int .i64 0, .int .i64 0, .int .i64 0, .int .i64 0, .slice none 0 0, .slice none 0 0, .int .i64 0, .int .i64 0, .slice none 0 0, .slice none 0 0, .slice none 0 0, .slice none 0 0, .slice none 0 0, .slice none 0 0, .slice none 0 0, .slice none 0 0, .slice none 0 0] 40) = w2 := hw2.symm
  rw [hw2']
  clear hw2 hw2'
  have hG := zN3 w2 _ l q0 bad0 m s (hrd.below B) hq0 hl hone.out (HZR.out.2.2 (by decide))
  have hone2 := (show Hid (∀ vp : Value, vp.oneCell' = true → ∀ v ∈ mc m { s with l := vp }, v.oneCell' = true) from fun vp h1 v hv => by
    have h2 : v = vp ∨ v ∈ mc m s := by
      simp only [mc, List.mem_cons, List.not_mem_nil, or_false] at hv ⊢
      grind
    rcases h2 with rfl | h2
    · exact h1
    · exact hone.out v h2)
  go_wp2_with (first
    | (refine zAa rfl _ _ rfl w.heap.size rfl _ _ hs _ Tryz.underlying89 rfl (by kernel_rfl) ?_)
    | (refine zAa rfl _ _ rfl (w.heap.size + 1) rfl _ _ hv _ Tryz.underlying40 rfl (by kernel_rfl) ?_)
    | (go_at_call 84; refine hG.mono ?_; rintro e w3 ⟨ys, vp, q1, bad1, rfl, hq1, hb3, hrl, he⟩; have ho3 := ho.below hb3; have hz3 := hz.below hb3; have hon := hone2.out vp hrl.one)
    | (refine zA7 rfl _ _ _ rfl (w.heap.size + 1 + 1) [.slice ab (bc l).length cb, .int .i64 (q1 : Int), .bool bad1] rfl rfl _ _ ho3 rfl (by kernel_rfl) (zAf rfl) ?_; intro w4 ho4 hg4; have hz4 := hz3.grown hg4 (fun h => by injection h; omega))
    | (refine zA7 rfl _ _ _ rfl (w.heap.size + 1 + 1 + 1) (mc m { s with l := vp }) rfl rfl _ _ hz4 rfl (by kernel_rfl) hon ?_; intro w5 hz5 hg5))
  have B3 := zA1 B zN hb3
  have B4 := zA3 B3 hg4 (by omega) B3.size
  have B5 := zA3 B4 hg5 (by omega) B4.size
  have ho5 := ho4.out.grown hg5 (fun h => by injection h; omega)
  have base := HSO.out.mv B5.size (show Mv G (GB G w) w w5 from fun k hk hlt => ⟨B5.block k hlt, .inl ⟨hk, hlt⟩⟩)
  have hrl : RL zDo 8 (GB G w) w5 vp ys := (((hrl.mv zAm zN (Mv.weak hC)).mv zAm hg4.size (Mv.from hg4 (by omega) zN)).mv zAm hg5.size (Mv.from hg5 (by omega) zN)).mv zAm zN (fun k hk _ => ⟨rfl, .inr (Nat.le_trans (by omega) hk)⟩)
  refine bodyPost_ret (zAk rfl _ _ (w.heap.size + 1 + 1) (w.heap.size + 1 + 1 + 1) _ _ _ _ (0, 0) (0, 0) _ _ (by rfl) (by rfl) ho5 hz5.out Tryz.underlying89 rfl (by kernel_rfl) Tryz.underlying40 rfl (by kernel_rfl)) rfl ?_
  exact ⟨{ m with reps := ys }, { s with l := vp }, q1, bad1, rfl, hq1, B5, ⟨base.o, base.g, base.o', base.g', base.d, base.s, base.c, base.v, base.n, base.p, hrl⟩, ⟨fun h => absurd h (by decide), fun h => absurd h (by decide), fun h => absurd h (by decide)⟩, zBo he⟩
end
section
open Go.RowKit Oct
theorem zM2 (G : Nat → Prop) (w : World) (bv : Value) (l : List Int) (p : Nat) (bad : Bool) (m : PMsg) (s : SV) (i : Nat) (hi : i < 15) (hrd : Rd w bv l) (hp : p ≤ l.length) (hl : l.length ≤ 1048576) (hso : SOk G w m s) (hzr : Zr i s) :
    Calls Tryz.prog 49 #[.agg #[bv, .int .i64 (p : Int), .bool bad], .agg (mc m s).toArray, .int .i64 (i : Int)] w (zF6 G w bv l p bad m i) := by
  rcases zI6 hi with rfl | rfl | rfl | rfl | rfl | rfl | rfl | rfl | rfl | rfl | rfl | rfl | rfl | rfl | rfl
  · exact zK6 G w bv l p bad m s hrd hp hl hso hzr
  · exact zL7 G w bv l p bad m s hrd hp hl hso hzr
  · exact zKh G w bv l p bad m s hrd hp hl hso hzr
  · exact zKa G w bv l p bad m s hrd hp hl hso hzr
  · exact zKr G w bv l p bad m s hrd hp hl hso hzr
  · exact zKl G w bv l p bad m s hrd hp hl hso hzr
  · exact zLa G w bv l p bad m s hrd hp hl hso hzr
  · exact zJw G w bv l p bad m s hrd hp hl hso hzr
  · exact zJy G w bv l p bad m s hrd hp hl hso hzr
  · exact zL6 G w bv l p bad m s hrd hp hl hso hzr
  · exact zJg G w bv l p bad m s hrd hp hl hso hzr
  · exact zJ1 G w bv l p bad m s hrd hp hl hso hzr
  · exact zJd G w bv l p bad m s hrd hp hl hso hzr
  · exact zJ9 G w bv l p bad m s hrd hp hl hso hzr
  · exact zJh G w bv l p bad m s hrd hp hl hso hzr
def fsq (k : Int) (q : Nat) : List Nat := (List.range q).filter fun i => (fl k).contains i
theorem fsq_yes {k : Int} {q : Nat} (h : (fl k).contains q = true) : fsq k (q + 1) = fsq k q ++ [q] := by
  unfold fsq
  rw [List.range_succ, List.filter_append]
  simp only [List.filter_cons, h, if_true, List.filter_nil]
theorem fsq_no {k : Int} {q : Nat} (h : (fl k).contains q = false) : fsq k (q + 1) = fsq k q := by
  unfold fsq
  rw [List.range_succ, List.filter_append]
  simp only [List.filter_cons, h, List.filter_nil, Bool.false_eq_true, if_false, List.append_nil]
theorem fsq_all (k : Int) : fsq k 15 = fl k := by
  rcases zD7 k with rfl | rfl | rfl | rfl | rfl | rfl | rfl | rfl | rfl | rfl | rfl | rfl | rfl | rfl | rfl | rfl | rfl | rfl | rfl | e
  all_goals first | decide | skip
  unfold fsq
  rw [e]
  simp
theorem zQo {l : List Int} {p pq pr : Nat} {b bq br : Bool} {fs : List Nat} {m0 mq mr : PMsg} {i : Nat} (h : (stL l p b).bind (zE8 fs m0) = (stL l pq bq).map fun r => (mq, r)) (h2 : (stL l pq bq).bind (fun r => ((cF i).rd r).map fun x => (set mq i x.1, x.2)) = (stL l pr br).map fun r => (mr, r)) :
    (stL l p b).bind (zE8 (fs ++ [i]) m0) = (stL l pr br).map fun r => (mr, r) := by
  have e : zE8 (fs ++ [i]) m0 = fun l => (zE8 fs m0 l).bind fun x => zE8 [i] x.1 x.2 := funext fun l => zFz fs [i] m0 l
  rw [e, ← Option.bind_assoc, h, ← h2]
  cases stL l pq bq with
  | none => rfl
  | some t =>
    simp only [Option.map_some, Option.bind_some, zE8]
    cases (cF i).rd t <;> rfl
theorem zTv {k : Int} {q : Nat} (h : q < 15) : (zFn k)[q]? = some (.bool ((fl k).contains q)) := by
  simp [zFn, h]
theorem zRk (k : Int) : (zFn k).length = 15 := by simp [zFn]
theorem zPv (k : Int) : ∀ v ∈ zFn k, v.oneCell' = true := by
  intro v hv
  unfold zFn at hv
  obtain ⟨i, _, rfl⟩ := List.mem_map.1 hv
  rfl
def RDec (l : List Int) (w : World) (e : Ending) (w' : World) : Prop := ∃ s', e = .returned (.tuple #[.agg (mc (zC6 l) s').toArray, .int .i64 (zE5 l)]) ∧ SOk Any w' (zC6 l) s' ∧ Below w.heap.size w w'
theorem zFu {l : List Int} (hl : l.length ≤ 1048576) (h : rdM l = none) : zC6 l = zAc ∧ zE5 l = 51 := by
  unfold zC6 zE5
  rw [if_neg (by omega), if_neg (by omega), h]
  exact ⟨rfl, rfl⟩
theorem zRy {l : List Int} {m : PMsg} (hl : l.length ≤ 1048576) (h : rdM l = some m) : zC6 l = m ∧ zE5 l = 0 := by
  unfold zC6 zE5
  rw [if_neg (by omega), if_neg (by omega), h]
  exact ⟨rfl, rfl⟩
theorem rdM_n1 {l : List Int} (h : cN.rd l = none) : rdM l = none := by unfold rdM rdG; rw [h]; rfl
theorem rdM_n2 {l r : List Int} {k : Int} (h : cN.rd l = some (k, r)) (he : (fl k).isEmpty = true) : rdM l = none := by
  unfold rdM rdG
  rw [h]
  simp only [Option.bind_some, he, if_true, Option.bind_none]
theorem rdM_end {l r : List Int} {k : Int} (h : cN.rd l = some (k, r)) (he : (fl k).isEmpty = false) : rdM l = (zE8 (fl k) { zAc with kind := k } r).bind fun y => if y.2.isEmpty = true then some y.1 else none := by
  unfold rdM rdG
  rw [h]
  simp only [Option.bind_some, he, Bool.false_eq_true, if_false]
theorem st_zero {l : List Int} : stL l 0 false = some l := by unfold stL; simp
set_option maxRecDepth 10000 in
set_option maxHeartbeats 4000000 in
theorem zKf (w : World) (bv : Value) (l : List Int) (hrd : Rd w bv l) : Calls Tryz.prog 24 #[bv] w (RDec l w) := by
  obtain ⟨ab, cb, rfl, hcb⟩ := hrd.2.form
  obtain ⟨w1, hw1⟩ : ∃ w1, w1 = w.alloc (.cells (mc zAc sv0).toArray 40) := ⟨_, rfl⟩
  have r1 : Row w1 w.heap.size 40 (mc zAc sv0) := by rw [hw1]; exact Row.new w _ _
  have B1 : Below w.heap.size w w1 := by rw [hw1]; exact zA0 _ _
  have hz1 : w1.heap.size = w.heap.size + 1 := by rw [hw1]; simp
  have hlen := hrd.len
  obtain ⟨N, hN⟩ : ∃ N, N = l.length := ⟨_, rfl⟩
  have hone0 : ∀ v ∈ mc zAc sv0, v.oneCell' = true := (SOk.zero Any w 0).one
  have hbm := zHm
  have HN := (show Hid (l.length = N) from hN.symm)
  have ebl : (bc l).length = N := by rw [zAn]; exact HN.out
  rw [ebl] at hrd ⊢
  have hNm : (N : Int) ≤ 9223372036854775807 := by omega
  clear hN hlen ebl
  have wz : (w.alloc (.cells #[.int .i64 0, .int .i64 0, .int .i64 0, .int .i64 0, .int .i64 0, .int .i64 0, .int .i64 0, .int .i64 0, .int .i64 0, .int .i64 0, .slice none 0 0, .slice none 0 0, .int .i64 0, .int .i64 0, .slice none 0 0, .slice none 0 0, .slice none 0 0, .slice none 0 0, .slice none 0 0, .slice none 0 0, .slice none 0 0, .slice none 0 0, .slice none 0 0] 40)) = w1 := hw1.symm
  clear hw1
  by_cases hmany : (1048576 : Int) < N
  · have e1 : zC6 l = zAc ∧ zE5 l = 53 := by
      unfold zC6 zE5
      have := HN.out
      rw [if_pos (by omega), if_pos (by omega)]
      exact ⟨rfl, rfl⟩
    have HE := (show Hid (zC6 l = zAc ∧ zE5 l = 53) from e1)
    clear e1
    go_enter Tryz.func24, Tryz.ntmps24
    go_upto_region 1 with fail
    try rw [wz]
    clear wz
    go_wp2_with (refine zA7 rfl _ _ _ rfl w.heap.size (mc zAc sv0) rfl rfl _ _ r1 rfl (by kernel_rfl) hone0 ?_; intro w5 hr5 hg5)
    refine bodyPost_ret (zB2 rfl _ _ w.heap.size _ _ (0, 0) _ (by rfl) hr5.out Tryz.underlying40 rfl (by kernel_rfl)) rfl ?_
    refine ⟨sv0, by rw [HE.out.1, HE.out.2]; rfl, by rw [HE.out.1]; exact SOk.zero Any w5 0, zA3 B1 hg5 zN (by omega)⟩
  have hl : l.length ≤ 1048576 := by have := HN.out; omega
  have HL := (show Hid (l.length ≤ 1048576) from hl)
  have hmany' : decide ((1048576 : Int) < N) = false := decide_eq_false hmany
  have n1 := Row.new w1 40 (mc zAc sv0)
  obtain ⟨bm, hbm'⟩ : ∃ bm, bm = w1.heap.size := ⟨_, rfl⟩
  have hbmw : w.heap.size + 1 ≤ bm := by omega
  clear hz1
  go_enter Tryz.func24, Tryz.ntmps24
  go_upto_region 1 with fail
  try rw [wz]
  clear wz
  go_upto_region 4 with (refine zA7 rfl _ _ _ rfl w1.heap.size (mc zAc sv0) rfl rfl _ _ n1 rfl (by kernel_rfl) hone0 ?_; intro w2 hm2 hg2)
  have hb12 : Below w1.heap.size w1 w2 := (zA0 w1 (.cells (mc zAc sv0).toArray 40)).trans (zA5 hg2 (by simp) (fun k hk => by cases hk; exact zN))
  have B2 := zA1 B1 zN hb12
  have r2 := r1.below hb12
  have m2 := hm2.out
  rw [← hbm'] at m2 ⊢
  have hz2 : bm + 1 ≤ w2.heap.size := m2.lt
  clear hbm' hm2 hg2 hb12 n1 r1 B1
  have hG : Calls Tryz.prog 46 #[.agg #[.slice ab N cb, .int .i64 0, .bool false]] w2 (zH4 cN VN w2 (.slice ab N cb) l 0 false) := zAr w2 _ l 0 false (hrd.below B2) (Nat.zero_le _) hl
  go_upto_region 5 with (first
    | (go_at_call 46; refine hG.mono ?_; rintro e wa ⟨kd, vk, p1, b1, rfl, hp1, hba, rfl, he⟩; have hn1 := Row.new wa 89 [.slice none 0 0, .int .i64 0, .bool false])
    | (refine zA7 rfl _ _ _ rfl wa.heap.size [.slice ab N cb, .int .i64 (p1 : Int), .bool b1] rfl rfl _ _ hn1 rfl (by kernel_rfl) (zAf rfl) ?_; intro w4 hs4 hg4))
  have hb4 : Below wa.heap.size wa w4 := (zA0 wa (.cells ([.slice none 0 0, .int .i64 0, .bool false] : List Value).toArray 89)).trans (zA5 hg4 (by simp) (fun k hk => by cases hk; exact zN))
  have hb24 := zA1 hba zN hb4
  have B4 := zA1 B2 zN hb24
  have hs4 := hs4.out
  have m4 := m2.below hb24
  have r4 := r2.below hb24
  obtain ⟨bs, hbs⟩ : ∃ bs, bs = wa.heap.size := ⟨_, rfl⟩
  have hbs2 : bm + 1 ≤ bs := by rw [hbs]; exact Nat.le_trans hz2 hba.size
  have hbs4 : bs < w4.heap.size := by rw [hbs]; exact hs4.lt
  rw [← hbs] at hs4 ⊢
  have HE0 := (show Hid (cN.rd l = (stL l p1 b1).map fun r => (kd, r)) by show _ = _; rw [← he, st_zero]; rfl)
  clear hbs he hg4 hb4 hb24 hba hn1 m2 r2 B2 hG
  go_upto_region 6 with (refine zAb rfl _ _ _ rfl bm 0 _ rfl rfl _ _ m4 (show 0 < 23 by decide) (by kernel_rfl) rfl ?_; intro w5 m5 hg5)
  have m5 : Row w5 bm 40 (mc { zAc with kind := kd } sv0) := m5.out
  have hs5 := hs4.grown hg5 (fun h => by injection h; omega)
  have r5 := r4.grown hg5 (fun h => by injection h; omega)
  have B5 := zA3 B4 hg5 (by omega) B4.size
  have hbs5 : bs < w5.heap.size := Nat.lt_of_lt_of_le hbs4 hg5.size
  have c2 := hs5.cell (j := 2) rfl
  clear hs4 r4 B4 m4 hg5 hbs4
  cases b1 with
  | true =>
    have HE := (show Hid (zC6 l = zAc ∧ zE5 l = 51) from zFu HL.out (rdM_n1 HE0.out))
    go_wp2_with (first
      | (refine zA7 rfl _ _ _ rfl w.heap.size (mc zAc sv0) rfl rfl _ _ r5 rfl (by kernel_rfl) hone0 ?_; intro w9 hr9 hg9))
    refine bodyPost_ret (zB2 rfl _ _ w.heap.size _ _ (0, 0) _ (by rfl) hr9.out Tryz.underlying40 rfl (by kernel_rfl)) rfl ?_
    exact ⟨sv0, by rw [HE.out.1, HE.out.2]; rfl, by rw [HE.out.1]; exact SOk.zero Any w9 0, zA3 B5 hg9 zN B5.size⟩
  | false =>
    have HE1 := (show Hid (cN.rd l = some (kd, l.drop p1)) from HE0.out)
    have hK := zGy w5 kd
    cases hem : (fl kd).isEmpty with
    | true =>
      have HE := (show Hid (zC6 l = zAc ∧ zE5 l = 51) from zFu HL.out (rdM_n2 HE1.out hem))
      rw [hem] at hK
      clear hem
      go_wp2_with (first
        | (refine zA7 rfl _ _ _ rfl w.heap.size (mc zAc sv0) rfl rfl _ _ r5 rfl (by kernel_rfl) hone0 ?_; intro w9 hr9 hg9)
              | (go_at_call 47; refine hK.mono ?_; rintro e w5 ⟨rfl, rfl⟩))
      refine bodyPost_ret (zB2 rfl _ _ w.heap.size _ _ (0, 0) _ (by rfl) hr9.out Tryz.underlying40 rfl (by kernel_rfl)) rfl ?_
      exact ⟨sv0, by rw [HE.out.1, HE.out.2]; rfl, by rw [HE.out.1]; exact SOk.zero Any w9 0, zA3 B5 hg9 zN B5.size⟩
    | false =>
      rw [hem] at hK
      have HEND := (show Hid (rdM l = (zE8 (fl kd) { zAc with kind := kd } (l.drop p1)).bind fun y => if y.2.isEmpty = true then some y.1 else none) from rdM_end HE1.out hem)
      have hne : fl kd ≠ [] := by intro e; rw [e] at hem; cases hem
      have HF := zFq w5 kd hne
      obtain ⟨mk, hmk⟩ : ∃ mk, mk = zFn kd := ⟨_, rfl⟩
      have hml : mk.length = 15 := by rw [hmk]; exact zRk _
      have hmo : ∀ v ∈ mk, v.oneCell' = true := by rw [hmk]; exact zPv _
      have HMK := (show Hid (∀ q, q < 15 → mk[q]? = some (.bool ((fl kd).contains q))) from fun q hq => by rw [hmk]; exact zTv hq)
      rw [← hmk] at HF
      clear hmk hem hne
      go_upto_region 8 with (go_at_call 47; refine hK.mono ?_; rintro e w5 ⟨rfl, rfl⟩)
      go_upto_region 9 with (first
        | (go_at_call 48; refine HF.mono ?_; rintro e w6 ⟨rfl, hb6⟩; have n6 := Row.new w6 92 no15)
        | (refine zA7 rfl _ _ _ rfl w6.heap.size mk rfl rfl _ _ n6 (by rw [hml]; rfl) (by rw [hml]; kernel_rfl) hmo ?_; intro w7 hr7 hg7))
      have q7 : Below w6.heap.size w6 w7 := (zA0 w6 (.cells no15.toArray 92)).trans (zA5 hg7 (by simp) (fun k hk => by cases hk; exact zN))
      have q57 := zA1 hb6 zN q7
      have B7 := zA1 B5 zN q57
      have m7 := m5.below q57
      have s7 := hs5.below q57
      have r7 := r5.below q57
      have h7 := hr7.out
      obtain ⟨bh, hbh⟩ : ∃ bh, bh = w6.heap.size := ⟨_, rfl⟩
      have hbhs : bs < bh := by rw [hbh]; exact Nat.lt_of_lt_of_le hbs5 hb6.size
      rw [← hbh] at h7 ⊢
      have hD7 : bh + 1 ≤ w7.heap.size := h7.lt
      clear hbh hr7 hg7 n6 hb6 q7 q57 hK HF m5 hs5 r5 B5 c2 hml hmo
      go_wp2_with fail
      go_loopw [8] (fun i wr => ∃ (q pq : Nat) (bq : Bool) (mq : PMsg) (sq : SV), q ≤ 15 ∧ i = .int .i64 q ∧ pq ≤ l.length ∧ Hid ((stL l p1 false).bind (zE8 (fsq kd q) { zAc with kind := kd }) = (stL l pq bq).map fun r => (mq, r)) ∧ SOk (zB0 (bh + 1)) wr mq sq ∧ Zr q sq ∧ Row wr bs 89 [.slice ab N cb, .int .i64 (pq : Int), .bool bq] ∧ Row wr bm 40 (mc mq sq) ∧ Row wr w.heap.size 40 (mc zAc sv0) ∧ Row wr bh 92 mk ∧ Below w.heap.size w wr ∧ bh + 1 ≤ wr.heap.size) (fun i _ => 15 - (intOf i).toNat)
      case atStart => exact ⟨0, p1, false, _, sv0, by omega, rfl, hp1, (by show Hid _; exact rfl), SOk.zero _ _ _, ⟨fun _ => rfl, fun _ => rfl, fun _ => rfl⟩, s7, m7, r7, h7, B7, hD7⟩
      case round =>
        clear s7 m7 r7 h7 B7 hD7
        obtain ⟨q, pq, bq, mq, sq, hq, rfl, hpq, HQ, hso, hzr, hs, hm, hr, hh, B, hD⟩ := hrel
        by_cases hql : q < 15
        · have ch := hh.cell (HMK.out q hql)
          have hq15 : (q : Int) < 15 := by omega
          cases hc : (fl kd).contains q with
          | true =>
            rw [hc] at ch
            have hG := zM2 (zB0 (bh + 1)) wr _ l pq bq mq sq q hql (hrd.below B) hpq HL.out hso hzr
            have HQQ := (show Hid (fsq kd (q + 1) = fsq kd q ++ [q]) from fsq_yes hc)
            clear hc
            go_wp2_with (first
              | (refine zAa rfl _ _ rfl bs rfl _ _ hs _ Tryz.underlying89 rfl (by kernel_rfl) ?_)
              | (refine zAa rfl _ _ rfl bm rfl _ _ hm _ Tryz.underlying40 rfl (by kernel_rfl) ?_)
              | (go_at_call 49; refine hG.mono ?_; rintro e w8 ⟨m8, s8, q8, b8, rfl, hq8, hb8, hso8, hzr8, he8⟩; have hs8 := hs.below hb8; have hm8 := hm.below hb8; have hon8 := hso8.one)
              | (refine zA7 rfl _ _ _ rfl bs [.slice ab N cb, .int .i64 (q8 : Int), .bool b8] rfl rfl _ _ hs8 rfl (by kernel_rfl) (zAf rfl) ?_; intro w9 hs9 hg9; have hm9 := hm8.grown hg9 (fun h => by injection h; omega))
              | (refine zA7 rfl _ _ _ rfl bm (mc m8 s8) rfl rfl _ _ hm9 rfl (by kernel_rfl) hon8 ?_; intro w10 hm10 hg10))
            have B8 := zA1 B zN hb8
            have B9 := zA3 B8 hg9 (by omega) B8.size
            have B10 := zA3 B9 hg10 (by omega) B9.size
            have hs10 := hs9.out.grown hg10 (fun h => by injection h; omega)
            have hr10 := ((hr.below hb8).grown hg9 (fun h => by injection h; omega)).grown hg10 (fun h => by injection h; omega)
            have hh10 := ((hh.below hb8).grown hg9 (fun h => by injection h; omega)).grown hg10 (fun h => by injection h; omega)
            have hD10 : bh + 1 ≤ w10.heap.size := Nat.le_trans (Nat.le_trans hD hb8.size) (Nat.le_trans hg9.size hg10.size)
            have hsoF : SOk (zB0 (bh + 1)) w8 m8 s8 := hso8.mv zN (fun k hk _ => ⟨rfl, by rcases hk with h | h; exact h.1; exact Nat.le_trans hD h⟩)
            have hso10 := (hsoF.mv hg9.size (Mv.from hg9 (by omega) zN)).mv hg10.size (Mv.from hg10 (by omega) zN)
            have HQ8 := (show Hid ((stL l p1 false).bind (zE8 (fsq kd (q + 1)) { zAc with kind := kd }) = (stL l q8 b8).map fun r => (m8, r)) by show _ = _; rw [HQQ.out]; exact zQo HQ.out he8)
            go_roundw
            case rel => exact ⟨q + 1, q8, b8, m8, s8, by omega, by go_num, hq8, HQ8, hso10, hzr8, hs10, hm10.out, hr10, hh10, B10, hD10⟩
            case measure => simp [intOf]; omega
          | false =>
            rw [hc] at ch
            have HQ8 := (show Hid ((stL l p1 false).bind (zE8 (fsq kd (q + 1)) { zAc with kind := kd }) = (stL l pq bq).map fun r => (mq, r)) by show _ = _; rw [fsq_no hc]; exact HQ.out)
            have hzr1 : Zr (q + 1) sq := ⟨fun h => hzr.1 (by omega), fun h => hzr.2.1 (by omega), fun h => hzr.2.2 (by omega)⟩
            clear hc
            go_wp2_with fail
            go_roundw
            case rel => exact ⟨q + 1, pq, bq, mq, sq, by omega, by go_num, hpq, HQ8, hso, hzr1, hs, hm, hr, hh, B, hD⟩
            case measure => simp [intOf]; omega
        · have hq15 : decide ((q : Int) < 15) = false := by simp; omega
          obtain rfl : q = 15 := by omega
          have HQ15 := (show Hid ((stL l p1 false).bind (zE8 (fl kd) { zAc with kind := kd }) = (stL l pq bq).map fun r => (mq, r)) by show _ = _; rw [← fsq_all kd]; exact HQ.out)
          have HQ16 := (show Hid (zE8 (fl kd) { zAc with kind := kd } (l.drop p1) = (stL l pq bq).map fun r => (mq, r)) from HQ15.out)
          have d1 := hs.cell (j := 1) rfl
          have d2 := hs.cell (j := 2) rfl
          clear HQ HQ15 hq
          cases bq with
          | true =>
            have HE := (show Hid (zC6 l = zAc ∧ zE5 l = 51) from zFu HL.out (by rw [HEND.out, HQ16.out]; rfl))
            go_wp2_with (first
              | (refine zA7 rfl _ _ _ rfl w.heap.size (mc zAc sv0) rfl rfl _ _ hr rfl (by kernel_rfl) hone0 ?_; intro w9 hr9 hg9))
            refine bodyPost_ret (zB2 rfl _ _ w.heap.size _ _ (0, 0) _ (by rfl) hr9.out Tryz.underlying40 rfl (by kernel_rfl)) rfl ?_
            exact ⟨sv0, by rw [HE.out.1, HE.out.2]; rfl, by rw [HE.out.1]; exact SOk.zero Any w9 0, zA3 B hg9 zN B.size⟩
          | false =>
            by_cases hend : pq = N
            · have HE := (show Hid (zC6 l = mq ∧ zE5 l = 0) from zRy HL.out (by
                rw [HEND.out, HQ16.out]
                show (if (l.drop pq).isEmpty = true then some mq else none) = some mq
                rw [if_pos (by rw [List.isEmpty_iff]; exact List.drop_of_length_le (by have := HN.out; omega))]))
              have hpe : ((pq : Int) != (N : Int)) = false := by simp [hend]
              have hon := hso.one
              clear hend
              go_wp2_with (first
                | (refine zAa rfl _ _ rfl bm rfl _ _ hm _ Tryz.underlying40 rfl (by kernel_rfl) ?_)
                | (refine zA7 rfl _ _ _ rfl w.heap.size (mc mq sq) rfl rfl _ _ hr rfl (by kernel_rfl) hon ?_; intro w9 hr9 hg9))
              refine bodyPost_ret (zB2 rfl _ _ w.heap.size _ _ (0, 0) _ (by rfl) hr9.out Tryz.underlying40 rfl (by kernel_rfl)) rfl ?_
              exact ⟨sq, by rw [HE.out.1, HE.out.2]; rfl, by rw [HE.out.1]; exact (hso.mv hg9.size (Mv.from hg9 (by omega) zN)).mv zN Mv.any, zA3 B hg9 zN B.size⟩
            · have HE := (show Hid (zC6 l = zAc ∧ zE5 l = 51) from zFu HL.out (by
                rw [HEND.out, HQ16.out]
                show (if (l.drop pq).isEmpty = true then some mq else none) = none
                rw [if_neg (by rw [List.isEmpty_iff, List.drop_eq_nil_iff]; have := HN.out; omega)]))
              have hpe : ((pq : Int) != (N : Int)) = true := by simp; omega
              clear hend
              go_wp2_with (first
                | (refine zA7 rfl _ _ _ rfl w.heap.size (mc zAc sv0) rfl rfl _ _ hr rfl (by kernel_rfl) hone0 ?_; intro w9 hr9 hg9))
              refine bodyPost_ret (zB2 rfl _ _ w.heap.size _ _ (0, 0) _ (by rfl) hr9.out Tryz.underlying40 rfl (by kernel_rfl)) rfl ?_
              exact ⟨sv0, by rw [HE.out.1, HE.out.2]; rfl, by rw [HE.out.1]; exact SOk.zero Any w9 0, zA3 B hg9 zN B.size⟩
end
section
open Go.RowKit Oct Kvl
theorem zOr {a b : List Int} (ha : Byt a) (hb : Byt b) : Op.bytesLess (strOfNums a).toList (strOfNums b).toList = decide (zD8 a b < 0) := by
  have e : ∀ l : List Int, (strOfNums l).toList = l.map fun n => UInt8.ofNat n.toNat := fun l => by rw [ByteArray.toList_eq]; rfl
  rw [e, e, zPf ha hb]
set_option maxRecDepth 10000 in
set_option maxHeartbeats 4000000 in
theorem zLx (w : World) (bv : Value) (l : List Int) (hb : RT Any w bv l) (n : Int) : Calls Tryz.prog 10 #[bv, .int .i64 n] w (CkP l n w) := by
  have hby := hb.1.1
  have HZ := (show Hid (zE5 l = 0 → tot [(zC6 l).req.2.2.1, (zC6 l).req.2.2.2] ≤ 2000000 ∧ tot [(zC6 l).oth.2.2.1, (zC6 l).oth.2.2.2] ≤ 2000000) from zLl hby)
  replace HL := (show Hid (zF5 l n = (decide (zE5 l = 0) && may (zC6 l) n && shw (zC6 l))) from rfl)
  have HD := zKf w bv l hb.1
  have HNO := (show Hid (zF5 l n = false → ∀ w', Below w.heap.size w w' → CkP l n w (.returned (.tuple #[.int .i64 0, .int .i64 161])) w') from fun h w' hb => ⟨by rw [(zFa h).1, (zFa h).2], hb⟩)
  have HYS := (show Hid (zF5 l n = true → ∀ w', Below w.heap.size w w' → CkP l n w (.returned (.tuple #[.int .i64 (zC6 l).frm, .int .i64 0])) w') from fun h w' hb => ⟨by rw [(zGs h).1, (zGs h).2], hb⟩)
  go_enter Tryz.func10, Tryz.ntmps10
  go_upto_region 2 with (first
    | (go_at_call 24; refine HD.mono ?_; rintro e w1 ⟨s1, rfl, hs1, b1⟩; have hone := hs1.one; have zB5 := Row.new w1 40 (mc zAc sv0))
    | (refine zA7 rfl _ _ _ rfl w1.heap.size (mc (zC6 l) s1) rfl rfl _ _ zB5 rfl (by kernel_rfl) hone ?_; intro w2 r2 g2))
  have b2 : Below w1.heap.size w1 w2 := (zA0 w1 (.cells (mc zAc sv0).toArray 40)).trans (zA5 g2 (by simp) (fun k hk => by cases hk; exact zN))
  have B2 := zA1 b1 zN b2
  have hs2 := hs1.below b2
  have r2 := r2.out
  obtain ⟨cM, hcM⟩ : ∃ c, c = w1.heap.size := ⟨_, rfl⟩
  rw [← hcM] at r2 ⊢
  clear HD hb hby zB5 hone hs1 b2 g2 b1 hcM
  by_cases h0 : zE5 l = 0
  case neg =>
    have hN : zF5 l n = false := by rw [HL.out, decide_eq_false h0]; rfl
    have h0' : (zE5 l != 0) = true := by simpa using h0
    generalize zE5 l = E at *
    clear HL HZ HYS
    go_wp2_with fail
    go_ret2
    exact HNO.out hN _ B2
  have hz := HZ.out h0
  rw [decide_eq_true h0, Bool.true_and] at HL
  rw [h0]
  clear HZ h0
  generalize zC6 l = m at *
  obtain ⟨o, g, o', g', d, sg, c, v, nn, p, ls⟩ := s1
  have t5 : RT Any w2 d m.data := hs2.d
  have t6 : RT Any w2 sg m.sig := hs2.s
  obtain ⟨ad, cd, rfl, _⟩ := t5.form
  obtain ⟨ag, cg, rfl, _⟩ := t6.form
  have HM := (show Hid (may m n = (decide (m.kind = 13) && Bal.rgt n && decide (0 ≤ m.frm) && decide (m.frm < n) && (decide (m.idx = 2) || decide (m.idx = 3)))) from rfl)
  have HSH := (show Hid (shw m = (decide (zD8 (zB6 m.req) (zB6 m.oth) < 0) && vtd m m.req m.sig && vtd m m.oth m.data)) from rfl)
  have HB1 := (show Hid (∀ u, Below w2.heap.size w2 u → Calls Tryz.prog 26 #[.agg #[.int .i64 m.req.1, .int .i64 m.req.2.1, o, g]] u fun e w' => ∃ v', e = .returned v' ∧ Own w' 5 v' (bc (zB6 m.req)) ∧ Fr u.heap.size v' ∧ Below u.heap.size u w') from
    fun u hu => zHn u [.int .i64 m.req.1, .int .i64 m.req.2.1, o, g] m.req ⟨_, _, rfl, (hs2.below hu).o, (hs2.below hu).g⟩ (Nat.le_trans hz.1 (by decide)))
  have HB2 := (show Hid (∀ u, Below w2.heap.size w2 u → Calls Tryz.prog 26 #[.agg #[.int .i64 m.oth.1, .int .i64 m.oth.2.1, o', g']] u fun e w' => ∃ v', e = .returned v' ∧ Own w' 5 v' (bc (zB6 m.oth)) ∧ Fr u.heap.size v' ∧ Below u.heap.size u w') from
    fun u hu => zHn u [.int .i64 m.oth.1, .int .i64 m.oth.2.1, o', g'] m.oth ⟨_, _, rfl, (hs2.below hu).o', (hs2.below hu).g'⟩ (Nat.le_trans hz.2 (by decide)))
  have HV1 := (show Hid (∀ u x, Below w2.heap.size w2 u → Rd u x (zB6 m.req) → Calls Tryz.prog 27 #[.int .i64 m.idx, .agg #[.int .i64 m.bal.1, .int .i64 m.bal.2], .int .i64 m.slot, x, .agg #[.int .i64 m.frm, .slice ag m.sig.length cg]] u fun e w' => e = .returned (.bool (vtd m m.req m.sig)) ∧ Below u.heap.size u w') from
    fun u x hu hx => zG9 u m.idx m.bal.1 m.bal.2 m.slot m.frm x (zB6 m.req) hx (zDw hz.1) _ m.sig (t6.1.below hu))
  have HV2 := (show Hid (∀ u x, Below w2.heap.size w2 u → Rd u x (zB6 m.oth) → Calls Tryz.prog 27 #[.int .i64 m.idx, .agg #[.int .i64 m.bal.1, .int .i64 m.bal.2], .int .i64 m.slot, x, .agg #[.int .i64 m.frm, .slice ad m.data.length cd]] u fun e w' => e = .returned (.bool (vtd m m.oth m.data)) ∧ Below u.heap.size u w') from
    fun u x hu hx => zG9 u m.idx m.bal.1 m.bal.2 m.slot m.frm x (zB6 m.oth) hx (zDw hz.2) _ m.data (t5.1.below hu))
  have y1 : Byt (zB6 m.req) := zCw hs2.o.1.1 hs2.g.1.1 hz.1
  have y2 : Byt (zB6 m.oth) := zCw hs2.o'.1.1 hs2.g'.1.1 hz.2
  have SK := (show Hid (∀ u, Below w2.heap.size w2 u → u.cell? ⟨cM, 8, none⟩ = some (.int .i64 m.req.1) ∧ u.cell? ⟨cM, 9, none⟩ = some (.int .i64 m.req.2.1) ∧ u.cell? ⟨cM, 10, none⟩ = some o ∧ u.cell? ⟨cM, 11, none⟩ = some g ∧ u.cell? ⟨cM, 12, none⟩ = some (.int .i64 m.oth.1) ∧ u.cell? ⟨cM, 13, none⟩ = some (.int .i64 m.oth.2.1) ∧ u.cell? ⟨cM, 14, none⟩ = some o' ∧ u.cell? ⟨cM, 15, none⟩ = some g') from
    fun u hu => ⟨(r2.below hu).cell (j := 8) rfl, (r2.below hu).cell (j := 9) rfl, (r2.below hu).cell (j := 10) rfl, (r2.below hu).cell (j := 11) rfl, (r2.below hu).cell (j := 12) rfl, (r2.below hu).cell (j := 13) rfl, (r2.below hu).cell (j := 14) rfl, (r2.below hu).cell (j := 15) rfl⟩)
  have SV := (show Hid (∀ u, Below w2.heap.size w2 u → u.cell? ⟨cM, 1, none⟩ = some (.int .i64 m.bal.1) ∧ u.cell? ⟨cM, 2, none⟩ = some (.int .i64 m.bal.2) ∧ u.cell? ⟨cM, 3, none⟩ = some (.int .i64 m.slot) ∧ u.cell? ⟨cM, 4, none⟩ = some (.int .i64 m.frm) ∧ u.cell? ⟨cM, 6, none⟩ = some (.int .i64 m.idx) ∧ u.cell? ⟨cM, 16, none⟩ = some (.slice ad m.data.length cd) ∧ u.cell? ⟨cM, 17, none⟩ = some (.slice ag m.sig.length cg)) from
    fun u hu => ⟨(r2.below hu).cell (j := 1) rfl, (r2.below hu).cell (j := 2) rfl, (r2.below hu).cell (j := 3) rfl, (r2.below hu).cell (j := 4) rfl, (r2.below hu).cell (j := 6) rfl, (r2.below hu).cell (j := 16) rfl, (r2.below hu).cell (j := 17) rfl⟩)
  have c0 := r2.cell (j := 0) rfl
  have c4 := r2.cell (j := 4) rfl
  have c6 := r2.cell (j := 6) rfl
  have HR := Bb.refRight_any w2 n
  obtain ⟨R, hR⟩ : ∃ R, R = Bal.rgt n := ⟨_, rfl⟩
  rw [← hR] at HR HM
  clear hR
  obtain ⟨K, hK⟩ : ∃ K, K = m.kind := ⟨_, rfl⟩
  obtain ⟨F, hF⟩ : ∃ F, F = m.frm := ⟨_, rfl⟩
  obtain ⟨I, hI⟩ : ∃ I, I = m.idx := ⟨_, rfl⟩
  rw [← hK] at c0 HM
  rw [← hF] at c4 HM HV1 HV2 SV HYS
  rw [← hI] at c6 HM HV1 HV2 SV
  clear hK hF hI hs2 hz t5 t6
  by_cases hk : K = 13
  case neg =>
    have hN : zF5 l n = false := by rw [HL.out, HM.out]; simp [hk]
    clear HL HM HYS HB1 HB2 HV1 HV2 SK
    go_wp2_with fail
    go_ret2
    exact HNO.out hN _ B2
  subst hk
  cases R with
  | false =>
    have hN : zF5 l n = false := by rw [HL.out, HM.out]; simp
    clear HL HM HYS HB1 HB2 HV1 HV2 SK
    go_wp2_with (go_at_call 25; refine HR.mono ?_; rintro e w3 ⟨rfl, h3⟩; have h3 := h3.symm; subst h3)
    go_ret2
    exact HNO.out hN _ B2
  | true =>
    by_cases h0 : 0 ≤ F
    case neg =>
      have hN : zF5 l n = false := by rw [HL.out, HM.out]; simp [h0]
      clear HL HM HYS HB1 HB2 HV1 HV2 SK
      go_wp2_with (go_at_call 25; refine HR.mono ?_; rintro e w3 ⟨rfl, h3⟩; have h3 := h3.symm; subst h3)
      go_ret2
      exact HNO.out hN _ B2
    by_cases h1 : F < n
    case neg =>
      have hN : zF5 l n = false := by rw [HL.out, HM.out]; simp [h1]
      clear HL HM HYS HB1 HB2 HV1 HV2 SK
      go_wp2_with (go_at_call 25; refine HR.mono ?_; rintro e w3 ⟨rfl, h3⟩; have h3 := h3.symm; subst h3)
      go_ret2
      exact HNO.out hN _ B2
    by_cases hI : I = 2 ∨ I = 3
    case neg =>
      have h2 : ¬ I = 2 := fun e => hI (.inl e)
      have h3 : ¬ I = 3 := fun e => hI (.inr e)
      have h2' : (I != 2) = true := by simpa using h2
      have h3' : (I != 3) = true := by simpa using h3
      have hN : zF5 l n = false := by rw [HL.out, HM.out]; simp [h2, h3]
      clear HL HM HYS HB1 HB2 HV1 HV2 SK
      go_wp2_with (go_at_call 25; refine HR.mono ?_; rintro e w3 ⟨rfl, h3⟩; have h3 := h3.symm; subst h3)
      go_ret2
      exact HNO.out hN _ B2
    replace HL : zF5 l n = (decide (zD8 (zB6 m.req) (zB6 m.oth) < 0) && vtd m m.req m.sig && vtd m m.oth m.data) := by
      rw [HL.out, HM.out, HSH.out]
      rcases hI with h | h <;> simp [h, h0, h1]
    clear HM HSH
    obtain ⟨q0, q1, q2, q3, q4, q5, q6, q7⟩ := SK.out w2 (Below.refl _ _)
    have hdw : Below w2.heap.size w2 w2.drew := ⟨rfl, rfl, rfl, zN, fun _ _ => rfl⟩
    have HL := (show Hid (zF5 l n = (decide (zD8 (zB6 m.req) (zB6 m.oth) < 0) && vtd m m.req m.sig && vtd m m.oth m.data)) from HL)
    rcases hI with rfl | rfl
    · go_upto_region 4 with (go_at_call 25; refine HR.mono ?_; rintro e w3 ⟨rfl, h3⟩; have h3 := h3.symm; subst h3)
      clear HR c0 c4 c6 h0 h1
      go_wp2_with fail
      go_region_held3 (fun u => u.cell? ⟨cM, 8, none⟩ = some (.int .i64 m.req.1) ∧ u.cell? ⟨cM, 9, none⟩ = some (.int .i64 m.req.2.1) ∧ u.cell? ⟨cM, 10, none⟩ = some o ∧ u.cell? ⟨cM, 11, none⟩ = some g ∧ u.cell? ⟨cM, 12, none⟩ = some (.int .i64 m.oth.1) ∧ u.cell? ⟨cM, 13, none⟩ = some (.int .i64 m.oth.2.1) ∧ u.cell? ⟨cM, 14, none⟩ = some o' ∧ u.cell? ⟨cM, 15, none⟩ = some g')
        (first | exact SK.out _ B4 | exact SK.out _ B3 | exact SK.out _ hdw | go_keep)
        (first
          | (go_at_call 26; refine (HB2.out w3 B3).mono ?_; rintro e w4 ⟨v4, rfl, o4, f4, b4⟩; have B4 : Below w2.heap.size w2 w4 := zA1 B3 zN b4)
          | (go_at_call 26; refine (HB1.out w2.drew hdw).mono ?_; rintro e w3 ⟨v3, rfl, o3, f3, b3⟩; have B3 : Below w2.heap.size w2 w3 := zA1 hdw zN b3))
      have R1 := (o3.rd y1).below b4
      have R2 := o4.rd y2
      have HLS := (show Hid (Op.bytesLess (strOfNums (zB6 m.req)).toList (strOfNums (zB6 m.oth)).toList = decide (zD8 (zB6 m.req) (zB6 m.oth) < 0)) from zOr y1 y2)
      have HX1 := HV1.out w4 v3 B4 R1
      have HX2 := (show Hid (∀ u, Below w4.heap.size w4 u → Calls Tryz.prog 27 #[.int .i64 2, .agg #[.int .i64 m.bal.1, .int .i64 m.bal.2], .int .i64 m.slot, v4, .agg #[.int .i64 F, .slice ad m.data.length cd]] u fun e w' => e = .returned (.bool (vtd m m.oth m.data)) ∧ Below u.heap.size u w') from fun u hu => HV2.out u v4 (zA1 B4 zN hu) (R2.below hu))
      obtain ⟨z1, z2, z3, z4, z6, z16, z17⟩ := SV.out w4 B4
      have SV4 := (show Hid (∀ u, Below w4.heap.size w4 u → u.cell? ⟨cM, 1, none⟩ = some (.int .i64 m.bal.1) ∧ u.cell? ⟨cM, 2, none⟩ = some (.int .i64 m.bal.2) ∧ u.cell? ⟨cM, 3, none⟩ = some (.int .i64 m.slot) ∧ u.cell? ⟨cM, 4, none⟩ = some (.int .i64 F) ∧ u.cell? ⟨cM, 6, none⟩ = some (.int .i64 2) ∧ u.cell? ⟨cM, 16, none⟩ = some (.slice ad m.data.length cd) ∧ u.cell? ⟨cM, 17, none⟩ = some (.slice ag m.sig.length cg)) from fun u hu => SV.out u (zA1 B4 zN hu))
      have BB := zA1 B2 zN B4
      have E1 := zEg R1
      have E2 := zEg R2
      have HL := HL.out
      have HLS := HLS.out
      clear HB1 HB2 HV1 HV2 SK SV q0 q1 q2 q3 q4 q5 q6 q7 R1 R2 o3 o4 f3 f4 b3 b4 B3 B4 hdw y1 y2
      generalize strOfNums (zB6 m.req) = X1 at *
      generalize strOfNums (zB6 m.oth) = X2 at *
      generalize zD8 (zB6 m.req) (zB6 m.oth) = C at *
      generalize vtd m m.req m.sig = V1 at *
      generalize vtd m m.oth m.data = V2 at *
      by_cases hc : C < 0
      case neg =>
        rw [decide_eq_false hc] at HL HLS
        rw [Bool.false_and, Bool.false_and] at HL
        have hN := (show Hid (zF5 l n = false) from HL)
        clear HL HX1 HX2 HYS
        go_wp2_with fail
        go_ret2
        exact HNO.out hN.out _ BB
      rw [decide_eq_true hc] at HL HLS
      rw [Bool.true_and] at HL
      clear hc
      cases V1 with
      | false =>
        rw [Bool.false_and] at HL
        have hN := (show Hid (zF5 l n = false) from HL)
        clear HL HX2 HYS
        go_wp2_with (go_at_call 27; refine HX1.mono ?_; rintro e w5 ⟨rfl, b5⟩)
        go_ret2
        exact HNO.out hN.out _ (zA1 BB zN b5)
      | true =>
        rw [Bool.true_and] at HL
        cases V2 with
        | false =>
          have hN := (show Hid (zF5 l n = false) from HL)
          clear HL HYS
          go_wp2_with (first
            | (go_at_call 27; refine (HX2.out w5 b5).mono ?_; rintro e w6 ⟨rfl, b6⟩)
            | (go_at_call 27; refine HX1.mono ?_; rintro e w5 ⟨rfl, b5⟩; obtain ⟨x1, x2, x3, x4, x6, x16, x17⟩ := SV4.out w5 b5))
          go_ret2
          exact HNO.out hN.out _ (zA1 (zA1 BB zN b5) zN b6)
        | true =>
          have hN := (show Hid (zF5 l n = true) from HL)
          clear HL HNO
          go_wp2_with (first
            | (go_at_call 27; refine (HX2.out w5 b5).mono ?_; rintro e w6 ⟨rfl, b6⟩; obtain ⟨x1, x2, x3, x4, x6, x16, x17⟩ := SV4.out w6 (zA1 b5 zN b6))
            | (go_at_call 27; refine HX1.mono ?_; rintro e w5 ⟨rfl, b5⟩; obtain ⟨x1, x2, x3, x4, x6, x16, x17⟩ := SV4.out w5 b5))
          go_ret2
          exact HYS.out hN.out _ (zA1 (zA1 BB zN b5) zN b6)
    · go_upto_region 4 with (go_at_call 25; refine HR.mono ?_; rintro e w3 ⟨rfl, h3⟩; have h3 := h3.symm; subst h3)
      clear HR c0 c4 c6 h0 h1
      go_wp2_with fail
      go_region_held3 (fun u => u.cell? ⟨cM, 8, none⟩ = some (.int .i64 m.req.1) ∧ u.cell? ⟨cM, 9, none⟩ = some (.int .i64 m.req.2.1) ∧ u.cell? ⟨cM, 10, none⟩ = some o ∧ u.cell? ⟨cM, 11, none⟩ = some g ∧ u.cell? ⟨cM, 12, none⟩ = some (.int .i64 m.oth.1) ∧ u.cell? ⟨cM, 13, none⟩ = some (.int .i64 m.oth.2.1) ∧ u.cell? ⟨cM, 14, none⟩ = some o' ∧ u.cell? ⟨cM, 15, none⟩ = some g')
        (first | exact SK.out _ B4 | exact SK.out _ B3 | exact SK.out _ hdw | go_keep)
        (first
          | (go_at_call 26; refine (HB2.out w3 B3).mono ?_; rintro e w4 ⟨v4, rfl, o4, f4, b4⟩; have B4 : Below w2.heap.size w2 w4 := zA1 B3 zN b4)
          | (go_at_call 26; refine (HB1.out w2.drew hdw).mono ?_; rintro e w3 ⟨v3, rfl, o3, f3, b3⟩; have B3 : Below w2.heap.size w2 w3 := zA1 hdw zN b3))
      have R1 := (o3.rd y1).below b4
      have R2 := o4.rd y2
      have HLS := (show Hid (Op.bytesLess (strOfNums (zB6 m.req)).toList (strOfNums (zB6 m.oth)).toList = decide (zD8 (zB6 m.req) (zB6 m.oth) < 0)) from zOr y1 y2)
      have HX1 := HV1.out w4 v3 B4 R1
      have HX2 := (show Hid (∀ u, Below w4.heap.size w4 u → Calls Tryz.prog 27 #[.int .i64 3, .agg #[.int .i64 m.bal.1, .int .i64 m.bal.2], .int .i64 m.slot, v4, .agg #[.int .i64 F, .slice ad m.data.length cd]] u fun e w' => e = .returned (.bool (vtd m m.oth m.data)) ∧ Below u.heap.size u w') from fun u hu => HV2.out u v4 (zA1 B4 zN hu) (R2.below hu))
      obtain ⟨z1, z2, z3, z4, z6, z16, z17⟩ := SV.out w4 B4
      have SV4 := (show Hid (∀ u, Below w4.heap.size w4 u → u.cell? ⟨cM, 1, none⟩ = some (.int .i64 m.bal.1) ∧ u.cell? ⟨cM, 2, none⟩ = some (.int .i64 m.bal.2) ∧ u.cell? ⟨cM, 3, none⟩ = some (.int .i64 m.slot) ∧ u.cell? ⟨cM, 4, none⟩ = some (.int .i64 F) ∧ u.cell? ⟨cM, 6, none⟩ = some (.int .i64 3) ∧ u.cell? ⟨cM, 16, none⟩ = some (.slice ad m.data.length cd) ∧ u.cell? ⟨cM, 17, none⟩ = some (.slice ag m.sig.length cg)) from fun u hu => SV.out u (zA1 B4 zN hu))
      have BB := zA1 B2 zN B4
      have E1 := zEg R1
      have E2 := zEg R2
      have HL := HL.out
      have HLS := HLS.out
      clear HB1 HB2 HV1 HV2 SK SV q0 q1 q2 q3 q4 q5 q6 q7 R1 R2 o3 o4 f3 f4 b3 b4 B3 B4 hdw y1 y2
      generalize strOfNums (zB6 m.req) = X1 at *
      generalize strOfNums (zB6 m.oth) = X2 at *
      generalize zD8 (zB6 m.req) (zB6 m.oth) = C at *
      generalize vtd m m.req m.sig = V1 at *
      generalize vtd m m.oth m.data = V2 at *
      by_cases hc : C < 0
      case neg =>
        rw [decide_eq_false hc] at HL HLS
        rw [Bool.false_and, Bool.false_and] at HL
        have hN := (show Hid (zF5 l n = false) from HL)
        clear HL HX1 HX2 HYS
        go_wp2_with fail
        go_ret2
        exact HNO.out hN.out _ BB
      rw [decide_eq_true hc] at HL HLS
      rw [Bool.true_and] at HL
      clear hc
      cases V1 with
      | false =>
        rw [Bool.false_and] at HL
        have hN := (show Hid (zF5 l n = false) from HL)
        clear HL HX2 HYS
        go_wp2_with (go_at_call 27; refine HX1.mono ?_; rintro e w5 ⟨rfl, b5⟩)
        go_ret2
        exact HNO.out hN.out _ (zA1 BB zN b5)
      | true =>
        rw [Bool.true_and] at HL
        cases V2 with
        | false =>
          have hN := (show Hid (zF5 l n = false) from HL)
          clear HL HYS
          go_wp2_with (first
            | (go_at_call 27; refine (HX2.out w5 b5).mono ?_; rintro e w6 ⟨rfl, b6⟩)
            | (go_at_call 27; refine HX1.mono ?_; rintro e w5 ⟨rfl, b5⟩; obtain ⟨x1, x2, x3, x4, x6, x16, x17⟩ := SV4.out w5 b5))
          go_ret2
          exact HNO.out hN.out _ (zA1 (zA1 BB zN b5) zN b6)
        | true =>
          have hN := (show Hid (zF5 l n = true) from HL)
          clear HL HNO
          go_wp2_with (first
            | (go_at_call 27; refine (HX2.out w5 b5).mono ?_; rintro e w6 ⟨rfl, b6⟩; obtain ⟨x1, x2, x3, x4, x6, x16, x17⟩ := SV4.out w6 (zA1 b5 zN b6))
            | (go_at_call 27; refine HX1.mono ?_; rintro e w5 ⟨rfl, b5⟩; obtain ⟨x1, x2, x3, x4, x6, x16, x17⟩ := SV4.out w5 b5))
          go_ret2
          exact HYS.out hN.out _ (zA1 (zA1 BB zN b5) zN b6)
end
end Go.Proofs.YtgjepofinpmcpaaGreatDoor
