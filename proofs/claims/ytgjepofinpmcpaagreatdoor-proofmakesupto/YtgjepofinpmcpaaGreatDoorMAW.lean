/- The document's reading: the last three fields. Written by mk5h.py. -/
import Derived.Test.YtgjepofinpmcpaaGreatDoorMAS
import Derived.Test.YtgjepofinpmcpaaGreatDoorMAR
set_option linter.unusedSimpArgs false
set_option linter.unusedVariables false
namespace Go.Proofs.YtgjepofinpmcpaaGreatDoor
section
open Go.RowKit Oct
set_option maxRecDepth 10000 in
set_option maxHeartbeats 8000000 in
theorem zO3 (w : World) (bv : Value) (l : List Int) (p : Nat) (bad : Bool) (m : PMsg) (s : SV) (hrd : Rd w bv l) (hp : p ≤ l.length) (hl : l.length ≤ 1048576) (hone : ∀ v ∈ mc m s, v.oneCell' = true) (hnil : s.n = .slice none 0 0) :
    Calls Tryz.prog 84 #[.agg #[bv, .int .i64 (p : Int), .bool bad], .agg (mc m s).toArray, .int .i64 12] w fun e w' => ∃ (ys : List Int) (vp : Value) (q : Nat) (bad' : Bool), e = .returned (.tuple #[.agg #[bv, .int .i64 (q : Int), .bool bad'], .agg (mc m { s with n := vp }).toArray]) ∧ q ≤ l.length ∧ Below w.heap.size w w' ∧ RL zG2 1 (zB0 w.heap.size) w' vp ys ∧ (stL l p bad).bind (cL cN).rd = (stL l q bad').map fun r => (ys, r) := by
  obtain ⟨ab, cb, rfl, hcb⟩ := hrd.2.form
  have hone2 := (show Hid (∀ vp : Value, vp.oneCell' = true → ∀ v ∈ mc m { s with n := vp }, v.oneCell' = true) from fun vp h1 v hv => by
    have h2 : v = vp ∨ v ∈ mc m s := by
      simp only [mc, List.mem_cons, List.not_mem_nil, or_false] at hv ⊢
      grind
    rcases h2 with rfl | h2
    · exact h1
    · exact hone v h2)
  obtain ⟨w2, hw2⟩ : ∃ w2, w2 = (((w.alloc (.cells ([.slice ab (bc l).length cb, .int .i64 (p : Int), .bool bad] : List Value).toArray 89)).alloc (.cells (mc m s).toArray 40)).alloc (.cells ([.slice none 0 0, .int .i64 0, .bool false] : List Value).toArray 89)).alloc (.cells (mc zAc sv0).toArray 40) := ⟨_, rfl⟩
  have hs : Row w2 w.heap.size 89 [.slice ab (bc l).length cb, .int .i64 (p : Int), .bool bad] := by rw [hw2]; exact zA4 (zA4 (zA4 (Row.new w _ _) _) _) _
  have hm0 : Row w2 (w.heap.size + 1) 40 (mc m s) := by
    rw [hw2]; refine zA4 (zA4 ?_ _) _
    have := Row.new (w.alloc (.cells ([.slice ab (bc l).length cb, .int .i64 (p : Int), .bool bad] : List Value).toArray 89)) 40 (mc m s)
    simpa using this
  have ho : Row w2 (w.heap.size + 1 + 1) 89 [.slice none 0 0, .int .i64 0, .bool false] := by
    rw [hw2]; refine zA4 ?_ _
    have := Row.new ((w.alloc (.cells ([.slice ab (bc l).length cb, .int .i64 (p : Int), .bool bad] : List Value).toArray 89)).alloc (.cells (mc m s).toArray 40)) 89 [.slice none 0 0, .int .i64 0, .bool false]
    simpa using this
  have hz : Row w2 (w.heap.size + 1 + 1 + 1) 40 (mc zAc sv0) := by
    rw [hw2]
    have := Row.new (((w.alloc (.cells ([.slice ab (bc l).length cb, .int .i64 (p : Int), .bool bad] : List Value).toArray 89)).alloc (.cells (mc m s).toArray 40)).alloc (.cells ([.slice none 0 0, .int .i64 0, .bool false] : List Value).toArray 89)) 40 (mc zAc sv0)
    simpa using this
  have hm : Row w2 (w.heap.size + 1) 40 (mc m { s with n := .slice none 0 0 }) := by
    have e : ({ s with n := .slice none 0 0 } : SV) = s := by rw [← hnil]
    rw [e]; exact hm0
  have B : Below w.heap.size w w2 := by rw [hw2]; exact ((((Below.refl _ w).alloc zN _).alloc (by simp) _).alloc (by simp; omega) _).alloc (by simp; omega) _
  have hC : w.heap.size + 4 ≤ w2.heap.size := by rw [hw2]; simp
  have hG := zD4 _ _ l p bad (hrd.below B) hp hl
  go_enter Tryz.func84, Tryz.ntmps84
  go_upto_region 1 with fail
  have hw2' : (((w.alloc (.cells ([.slice ab (bc l).length cb, .int .i64 (p : Int), .bool bad] : List Value).toArray 89)).alloc (.cells (mc m s).toArray 40)).alloc (.cells #[.slice none 0 0, .int .i64 0, .bool false] 89)).alloc (.cells #[.int .i64 0, .int .i64 0, .int .i64 0, .int .i64 0, .int .i64 0, .int .i64 0, .int .i64 0, .int .i64 0, .int .i64 0, .int .i64 0, .slice none 0 0, .slice none 0 0, .int .i64 0, .int .i64 0, .slice none 0 0, .slice none 0 0, .slice none 0 0, .slice none 0 0, .slice none 0 0, .slice none 0 0, .slice none 0 0, .slice none 0 0, .slice none 0 0] 40) = w2 := hw2.symm
  rw [hw2']
  clear hw2 hw2' hm0 hone hnil
  go_upto_region 2 with (first
    | (refine zAa rfl _ _ rfl w.heap.size rfl _ _ hs _ Tryz.underlying89 rfl (by kernel_rfl) ?_)
    | (go_at_call 121; refine hG.mono ?_; rintro e w3 ⟨n, v6, p1, b1, rfl, hp1, hb3, rfl, he⟩; have hs3 := hs.below hb3)
    | (refine zA7 rfl _ _ _ rfl w.heap.size [.slice ab (bc l).length cb, .int .i64 (p1 : Int), .bool b1] rfl rfl _ _ hs3 rfl (by kernel_rfl) (zAf rfl) ?_; intro w4 hs4 hg4))
  have hs := hs4.out
  have ho := (ho.below hb3).grown hg4 (fun h => by injection h; omega)
  have hz := (hz.below hb3).grown hg4 (fun h => by injection h; omega)
  have hm := (hm.below hb3).grown hg4 (fun h => by injection h; omega)
  have B := zA3 (zA1 B zN hb3) hg4 zN (Nat.le_trans (by omega) (Nat.le_trans hC hb3.size))
  have hC := Nat.le_trans hC (Nat.le_trans hb3.size hg4.size)
  have HE := (show Hid ((stL l p bad).bind cM.rd = (stL l p1 b1).map fun t => (n, t)) from he)
  clear he hG hs3 hs4 hb3 hg4
  go_wp2_with fail
  go_loopw [9] (fun i wr => ∃ (q pq : Nat) (bq : Bool) (ys : List Int) (vp : Value), q ≤ n.toNat ∧ i = .int .i64 q ∧ ys.length = q ∧ Hid ((stL l p1 b1).bind (rdN cN q) = (stL l pq bq).map fun t => (ys, t)) ∧ pq ≤ l.length ∧ LB zG2 3 1 (w.heap.size + 4) wr vp ys ∧ Row wr w.heap.size 89 [.slice ab (bc l).length cb, .int .i64 (pq : Int), .bool bq] ∧ Row wr (w.heap.size + 1) 40 (mc m { s with n := vp }) ∧ Row wr (w.heap.size + 1 + 1) 89 [.slice none 0 0, .int .i64 0, .bool false] ∧ Row wr (w.heap.size + 1 + 1 + 1) 40 (mc zAc sv0) ∧ Below w.heap.size w wr ∧ w.heap.size + 4 ≤ wr.heap.size) (fun i _ => n.toNat - (intOf i).toNat)
  case atStart => exact ⟨0, p1, b1, [], _, by omega, rfl, rfl, zEa, hp1, LB.nil _ _ _ _ _, hs, hm, ho, hz, B, hC⟩
  case round =>
  clear hs ho hz hm B hC
  obtain ⟨q, q0, bad0, ys, vp, hqn, rfl, hyl, hrdq, hq0, hLB, hs, hm, ho, hz, B, hCr⟩ := hrel
  have i2 := hs.cell (j := 2) rfl
  by_cases hend : (q : Int) < n ∧ bad0 = false
  rotate_left
  · have HF := (show Hid ((stL l p bad).bind (cL cN).rd = (stL l q0 bad0).map fun t => (ys, t)) from zG1 HE.out hrdq.out (by
      by_cases h1 : (q : Int) < n
      · right; refine ⟨hqn, ?_⟩; cases bad0
        · exact absurd ⟨h1, rfl⟩ hend
        · rfl
      · left; omega))
    have hrl := hLB.rl zAl
    have hon := hone2.out vp hLB.form
    clear hrdq hLB hyl
    by_cases h1 : (q : Int) < n
    · obtain rfl : bad0 = true := by cases bad0 <;> simp_all
      clear hend
      go_wp2_with fail
      refine zBz (by kernel_rfl) (by rfl) (by kernel_rfl) (by kernel_rfl) (by kernel_rfl) (by kernel_rfl) (by kernel_rfl) (by kernel_rfl) (by kernel_rfl) rfl rfl rfl rfl rfl rfl rfl rfl _ _ _ _ _ _ _ _ rfl rfl rfl rfl w.heap.size (w.heap.size + 1) (w.heap.size + 1 + 1) (w.heap.size + 1 + 1 + 1) _ _ _ _ _ _ _ _ hs hm ho hz rfl rfl _ _ Tryz.underlying89 rfl Tryz.underlying40 rfl (by kernel_rfl) (by kernel_rfl) (zAf rfl) hon (by omega) (by omega) _ rfl rfl rfl rfl rfl rfl rfl rfl rfl rfl rfl rfl rfl rfl rfl ?_
      intro u w' g1 g2 rA rB
      have B1 := zA3 B g1 (by omega) (by omega)
      have B2 := zA3 B1 g2 (by omega) B1.size
      have hrl2 := ((hrl.mv zAl g1.size (Mv.from g1 (by omega) zN)).mv zAl g2.size (Mv.from g2 (by omega) zN)).mv zAl zN (Mv.weak (L := w.heap.size) (by omega))
      go_wp2_with fail
      refine bodyPost_ret (zAk rfl _ _ (w.heap.size + 1 + 1) (w.heap.size + 1 + 1 + 1) _ _ _ _ (0, 0) (0, 0) _ _ (by rfl) (by rfl) rA rB Tryz.underlying89 rfl (by kernel_rfl) Tryz.underlying40 rfl (by kernel_rfl)) rfl ?_
      exact ⟨ys, vp, q0, _, rfl, hq0, B2, hrl2, HF.out⟩
    · have h1' : decide ((q : Int) < n) = false := decide_eq_false h1
      clear hend
      go_wp2_with fail
      refine zBz (by kernel_rfl) (by rfl) (by kernel_rfl) (by kernel_rfl) (by kernel_rfl) (by kernel_rfl) (by kernel_rfl) (by kernel_rfl) (by kernel_rfl) rfl rfl rfl rfl rfl rfl rfl rfl _ _ _ _ _ _ _ _ rfl rfl rfl rfl w.heap.size (w.heap.size + 1) (w.heap.size + 1 + 1) (w.heap.size + 1 + 1 + 1) _ _ _ _ _ _ _ _ hs hm ho hz rfl rfl _ _ Tryz.underlying89 rfl Tryz.underlying40 rfl (by kernel_rfl) (by kernel_rfl) (zAf rfl) hon (by omega) (by omega) _ rfl rfl rfl rfl rfl rfl rfl rfl rfl rfl rfl rfl rfl rfl rfl ?_
      intro u w' g1 g2 rA rB
      have B1 := zA3 B g1 (by omega) (by omega)
      have B2 := zA3 B1 g2 (by omega) B1.size
      have hrl2 := ((hrl.mv zAl g1.size (Mv.from g1 (by omega) zN)).mv zAl g2.size (Mv.from g2 (by omega) zN)).mv zAl zN (Mv.weak (L := w.heap.size) (by omega))
      go_wp2_with fail
      refine bodyPost_ret (zAk rfl _ _ (w.heap.size + 1 + 1) (w.heap.size + 1 + 1 + 1) _ _ _ _ (0, 0) (0, 0) _ _ (by rfl) (by rfl) rA rB Tryz.underlying89 rfl (by kernel_rfl) Tryz.underlying40 rfl (by kernel_rfl)) rfl ?_
      exact ⟨ys, vp, q0, _, rfl, hq0, B2, hrl2, HF.out⟩
  obtain ⟨hqn2, rfl⟩ := hend
  have hn64 : n ≤ 64 := by have := HE.out; rw [zIt hrdq.out] at this; exact zT8 this
  obtain ⟨bad0, hbad0⟩ : ∃ b, b = false := ⟨_, rfl⟩
  have hCw : wr.heap.size ≤ wr.heap.size := zN
  go_upto_region 10 with fail
  rw [← hbad0] at hs hrdq
  clear hbad0 i2
  have hG := zAr _ _ l q0 bad0 (hrd.below B) hq0 hl
  go_upto_region 11 with (first
    | (refine zAa rfl _ _ rfl w.heap.size rfl _ _ hs _ Tryz.underlying89 rfl (by kernel_rfl) ?_)
    | (go_at_call 46; refine hG.mono ?_; rintro e wa ⟨y, vy, q1, bad1, rfl, hq1, hb, rfl, he⟩; have hn1 := Row.new wa 89 [.slice none 0 0, .int .i64 0, .bool false])
    | (refine zA7 rfl _ _ _ rfl wa.heap.size [.slice ab (bc l).length cb, .int .i64 (q1 : Int), .bool bad1] rfl rfl _ _ hn1 rfl (by kernel_rfl) (zAf rfl) ?_; intro wb hnb hgb))
  have hbb : Below wa.heap.size wa wb := (zA0 wa (.cells ([.slice none 0 0, .int .i64 0, .bool false] : List Value).toArray 89)).trans (zA5 hgb (by simp) (fun k hk => by cases hk; exact zN))
  have hnb := hnb.out
  have hRb : zG2 (zB0 wr.heap.size) wb [.int .i64 y] y := rfl
  have hb2 := zA1 hb zN hbb
  have hwa := hb.size
  have hs := hs.below hb2
  have hm := hm.below hb2
  have ho := ho.below hb2
  have hz := hz.below hb2
  have B := zA1 B zN hb2
  have he := (show Hid _ from he)
  go_upto_region 12 with (first
    | (refine zAa rfl _ _ rfl wa.heap.size rfl _ _ hnb _ Tryz.underlying89 rfl (by kernel_rfl) ?_)
    | (refine zA7 rfl _ _ _ rfl w.heap.size [.slice ab (bc l).length cb, .int .i64 (q1 : Int), .bool bad1] rfl rfl _ _ hs rfl (by kernel_rfl) (zAf rfl) ?_; intro wc hsc hgc))
  have hs := hsc.out
  have hm := hm.grown hgc (fun h => by injection h; omega)
  have ho := ho.grown hgc (fun h => by injection h; omega)
  have hz := hz.grown hgc (fun h => by injection h; omega)
  have hRc : zG2 (zB0 wr.heap.size) wc [.int .i64 y] y := zAl _ _ _ _ _ _ hRb hgc.size (Mv.from hgc (by omega) zN)
  have hc1 : ∀ v ∈ [Value.int .i64 y], v.oneCell' = true := (fun v hv => by simp at hv; subst hv; rfl)
  have B := zA3 B hgc zN (Nat.le_trans (by omega) hb2.size)
  have hLB1 := (hLB.below zAl hb2).grown zAl hgc (by omega)
  have hsz : wr.heap.size ≤ wc.heap.size := Nat.le_trans hb2.size hgc.size
  have HR3 := (show Hid ((stL l p1 b1).bind (rdN cN (q + 1)) = (stL l q1 bad1).map fun t => (ys ++ [y], t)) from zEb hrdq.out he.out)
  have hlt := hLB.lt
  have hfr := hLB.fr
  have cf := hm.cell (j := 20) rfl
  clear hgb hb hbb hb2 hgc hsc hnb hG hRb
  go_wp2_with (first
    | (at_builtin; refine zCq zAl rfl _ _ _ rfl 3 1 8 _ Tryz.underlying36 Tryz.inf_ints rfl (by decide) (w.heap.size + 4) vp ys rfl hLB1 [.int .i64 y] y wr.heap.size hRc rfl hc1 hCr hlt rfl (by omega) (by omega) (by decide) ?_; intro vq w6 hLB6 hg6; have hm6 := hm.grown hg6 (fun h => by have := hfr _ h; omega))
    | (refine zAb rfl _ _ _ rfl (w.heap.size + 1) 20 _ rfl rfl _ _ hm6 (show 20 < 23 by decide) (by kernel_rfl) hLB6.form ?_; intro w7 hm7 hg7))
  have hs := (hs.grown hg6 (fun h => by have := hfr _ h; omega)).grown hg7 (fun h => by injection h; omega)
  have ho := (ho.grown hg6 (fun h => by have := hfr _ h; omega)).grown hg7 (fun h => by injection h; omega)
  have hz := (hz.grown hg6 (fun h => by have := hfr _ h; omega)).grown hg7 (fun h => by injection h; omega)
  have hLB7 := hLB6.grown zAl hg7 (by omega)
  have B6 : Below w.heap.size w w6 := B.trans (zA5 hg6 (Nat.le_trans (by omega) hsz) (fun k hk => by have := hfr k hk; omega))
  have B7 := zA3 B6 hg7 (by omega) B6.size
  have hC7 : w.heap.size + 4 ≤ w7.heap.size := Nat.le_trans (Nat.le_trans hCr hsz) (Nat.le_trans hg6.size hg7.size)
  go_roundw
  case rel => exact ⟨q + 1, q1, bad1, ys ++ [y], vq, by omega, by go_num, by simp [hyl], HR3, hq1, hLB7, hs, hm7.out, ho, hz, B7, hC7⟩
  case measure => simp [intOf]; omega
end
section
open Go.RowKit Oct
set_option maxRecDepth 10000 in
set_option maxHeartbeats 8000000 in
theorem zOa (w : World) (bv : Value) (l : List Int) (p : Nat) (bad : Bool) (m : PMsg) (s : SV) (hrd : Rd w bv l) (hp : p ≤ l.length) (hl : l.length ≤ 1048576) (hone : ∀ v ∈ mc m s, v.oneCell' = true) (hnil : s.p = .slice none 0 0) :
    Calls Tryz.prog 84 #[.agg #[bv, .int .i64 (p : Int), .bool bad], .agg (mc m s).toArray, .int .i64 13] w fun e w' => ∃ (ys : List zB3) (vp : Value) (q : Nat) (bad' : Bool), e = .returned (.tuple #[.agg #[bv, .int .i64 (q : Int), .bool bad'], .agg (mc m { s with p := vp }).toArray]) ∧ q ≤ l.length ∧ Below w.heap.size w w' ∧ RL zCs 4 (zB0 w.heap.size) w' vp ys ∧ (stL l p bad).bind (cL zBc).rd = (stL l q bad').map fun r => (ys, r) := by
  obtain ⟨ab, cb, rfl, hcb⟩ := hrd.2.form
  have hone2 := (show Hid (∀ vp : Value, vp.oneCell' = true → ∀ v ∈ mc m { s with p := vp }, v.oneCell' = true) from fun vp h1 v hv => by
    have h2 : v = vp ∨ v ∈ mc m s := by
      simp only [mc, List.mem_cons, List.not_mem_nil, or_false] at hv ⊢
      grind
    rcases h2 with rfl | h2
    · exact h1
    · exact hone v h2)
  obtain ⟨w2, hw2⟩ : ∃ w2, w2 = (((w.alloc (.cells ([.slice ab (bc l).length cb, .int .i64 (p : Int), .bool bad] : List Value).toArray 89)).alloc (.cells (mc m s).toArray 40)).alloc (.cells ([.slice none 0 0, .int .i64 0, .bool false] : List Value).toArray 89)).alloc (.cells (mc zAc sv0).toArray 40) := ⟨_, rfl⟩
  have hs : Row w2 w.heap.size 89 [.slice ab (bc l).length cb, .int .i64 (p : Int), .bool bad] := by rw [hw2]; exact zA4 (zA4 (zA4 (Row.new w _ _) _) _) _
  have hm0 : Row w2 (w.heap.size + 1) 40 (mc m s) := by
    rw [hw2]; refine zA4 (zA4 ?_ _) _
    have := Row.new (w.alloc (.cells ([.slice ab (bc l).length cb, .int .i64 (p : Int), .bool bad] : List Value).toArray 89)) 40 (mc m s)
    simpa using this
  have ho : Row w2 (w.heap.size + 1 + 1) 89 [.slice none 0 0, .int .i64 0, .bool false] := by
    rw [hw2]; refine zA4 ?_ _
    have := Row.new ((w.alloc (.cells ([.slice ab (bc l).length cb, .int .i64 (p : Int), .bool bad] : List Value).toArray 89)).alloc (.cells (mc m s).toArray 40)) 89 [.slice none 0 0, .int .i64 0, .bool false]
    simpa using this
  have hz : Row w2 (w.heap.size + 1 + 1 + 1) 40 (mc zAc sv0) := by
    rw [hw2]
    have := Row.new (((w.alloc (.cells ([.slice ab (bc l).length cb, .int .i64 (p : Int), .bool bad] : List Value).toArray 89)).alloc (.cells (mc m s).toArray 40)).alloc (.cells ([.slice none 0 0, .int .i64 0, .bool false] : List Value).toArray 89)) 40 (mc zAc sv0)
    simpa using this
  have hm : Row w2 (w.heap.size + 1) 40 (mc m { s with p := .slice none 0 0 }) := by
    have e : ({ s with p := .slice none 0 0 } : SV) = s := by rw [← hnil]
    rw [e]; exact hm0
  have B : Below w.heap.size w w2 := by rw [hw2]; exact ((((Below.refl _ w).alloc zN _).alloc (by simp) _).alloc (by simp; omega) _).alloc (by simp; omega) _
  have hC : w.heap.size + 4 ≤ w2.heap.size := by rw [hw2]; simp
  have hG := zD4 _ _ l p bad (hrd.below B) hp hl
  go_enter Tryz.func84, Tryz.ntmps84
  go_upto_region 1 with fail
  have hw2' : (((w.alloc (.cells ([.slice ab (bc l).length cb, .int .i64 (p : Int), .bool bad] : List Value).toArray 89)).alloc (.cells (mc m s).toArray 40)).alloc (.cells #[.slice none 0 0, .int .i64 0, .bool false] 89)).alloc (.cells #[.int .i64 0, .int .i64 0, .int .i64 0, .int .i64 0, .int .i64 0, .int .i64 0, .int .i64 0, .int .i64 0, .int .i64 0, .int .i64 0, .slice none 0 0, .slice none 0 0, .int .i64 0, .int .i64 0, .slice none 0 0, .slice none 0 0, .slice none 0 0, .slice none 0 0, .slice none 0 0, .slice none 0 0, .slice none 0 0, .slice none 0 0, .slice none 0 0] 40) = w2 := hw2.symm
  rw [hw2']
  clear hw2 hw2' hm0 hone hnil
  go_upto_region 2 with (first
    | (refine zAa rfl _ _ rfl w.heap.size rfl _ _ hs _ Tryz.underlying89 rfl (by kernel_rfl) ?_)
    | (go_at_call 121; refine hG.mono ?_; rintro e w3 ⟨n, v6, p1, b1, rfl, hp1, hb3, rfl, he⟩; have hs3 := hs.below hb3)
    | (refine zA7 rfl _ _ _ rfl w.heap.size [.slice ab (bc l).length cb, .int .i64 (p1 : Int), .bool b1] rfl rfl _ _ hs3 rfl (by kernel_rfl) (zAf rfl) ?_; intro w4 hs4 hg4))
  have hs := hs4.out
  have ho := (ho.below hb3).grown hg4 (fun h => by injection h; omega)
  have hz := (hz.below hb3).grown hg4 (fun h => by injection h; omega)
  have hm := (hm.below hb3).grown hg4 (fun h => by injection h; omega)
  have B := zA3 (zA1 B zN hb3) hg4 zN (Nat.le_trans (by omega) (Nat.le_trans hC hb3.size))
  have hC := Nat.le_trans hC (Nat.le_trans hb3.size hg4.size)
  have HE := (show Hid ((stL l p bad).bind cM.rd = (stL l p1 b1).map fun t => (n, t)) from he)
  clear he hG hs3 hs4 hb3 hg4
  go_wp2_with fail
  go_loopw [9] (fun i wr => ∃ (q pq : Nat) (bq : Bool) (ys : List zB3) (vp : Value), q ≤ n.toNat ∧ i = .int .i64 q ∧ ys.length = q ∧ Hid ((stL l p1 b1).bind (rdN zBc q) = (stL l pq bq).map fun t => (ys, t)) ∧ pq ≤ l.length ∧ LB zCs 34 4 (w.heap.size + 4) wr vp ys ∧ Row wr w.heap.size 89 [.slice ab (bc l).length cb, .int .i64 (pq : Int), .bool bq] ∧ Row wr (w.heap.size + 1) 40 (mc m { s with p := vp }) ∧ Row wr (w.heap.size + 1 + 1) 89 [.slice none 0 0, .int .i64 0, .bool false] ∧ Row wr (w.heap.size + 1 + 1 + 1) 40 (mc zAc sv0) ∧ Below w.heap.size w wr ∧ w.heap.size + 4 ≤ wr.heap.size) (fun i _ => n.toNat - (intOf i).toNat)
  case atStart => exact ⟨0, p1, b1, [], _, by omega, rfl, rfl, zEa, hp1, LB.nil _ _ _ _ _, hs, hm, ho, hz, B, hC⟩
  case round =>
  clear hs ho hz hm B hC
  obtain ⟨q, q0, bad0, ys, vp, hqn, rfl, hyl, hrdq, hq0, hLB, hs, hm, ho, hz, B, hCr⟩ := hrel
  have i2 := hs.cell (j := 2) rfl
  by_cases hend : (q : Int) < n ∧ bad0 = false
  rotate_left
  · have HF := (show Hid ((stL l p bad).bind (cL zBc).rd = (stL l q0 bad0).map fun t => (ys, t)) from zG1 HE.out hrdq.out (by
      by_cases h1 : (q : Int) < n
      · right; refine ⟨hqn, ?_⟩; cases bad0
        · exact absurd ⟨h1, rfl⟩ hend
        · rfl
      · left; omega))
    have hrl := hLB.rl zAj
    have hon := hone2.out vp hLB.form
    clear hrdq hLB hyl
    by_cases h1 : (q : Int) < n
    · obtain rfl : bad0 = true := by cases bad0 <;> simp_all
      clear hend
      go_wp2_with fail
      refine zBz (by kernel_rfl) (by rfl) (by kernel_rfl) (by kernel_rfl) (by kernel_rfl) (by kernel_rfl) (by kernel_rfl) (by kernel_rfl) (by kernel_rfl) rfl rfl rfl rfl rfl rfl rfl rfl _ _ _ _ _ _ _ _ rfl rfl rfl rfl w.heap.size (w.heap.size + 1) (w.heap.size + 1 + 1) (w.heap.size + 1 + 1 + 1) _ _ _ _ _ _ _ _ hs hm ho hz rfl rfl _ _ Tryz.underlying89 rfl Tryz.underlying40 rfl (by kernel_rfl) (by kernel_rfl) (zAf rfl) hon (by omega) (by omega) _ rfl rfl rfl rfl rfl rfl rfl rfl rfl rfl rfl rfl rfl rfl rfl ?_
      intro u w' g1 g2 rA rB
      have B1 := zA3 B g1 (by omega) (by omega)
      have B2 := zA3 B1 g2 (by omega) B1.size
      have hrl2 := ((hrl.mv zAj g1.size (Mv.from g1 (by omega) zN)).mv zAj g2.size (Mv.from g2 (by omega) zN)).mv zAj zN (Mv.weak (L := w.heap.size) (by omega))
      go_wp2_with fail
      refine bodyPost_ret (zAk rfl _ _ (w.heap.size + 1 + 1) (w.heap.size + 1 + 1 + 1) _ _ _ _ (0, 0) (0, 0) _ _ (by rfl) (by rfl) rA rB Tryz.underlying89 rfl (by kernel_rfl) Tryz.underlying40 rfl (by kernel_rfl)) rfl ?_
      exact ⟨ys, vp, q0, _, rfl, hq0, B2, hrl2, HF.out⟩
    · have h1' : decide ((q : Int) < n) = false := decide_eq_false h1
      clear hend
      go_wp2_with fail
      refine zBz (by kernel_rfl) (by rfl) (by kernel_rfl) (by kernel_rfl) (by kernel_rfl) (by kernel_rfl) (by kernel_rfl) (by kernel_rfl) (by kernel_rfl) rfl rfl rfl rfl rfl rfl rfl rfl _ _ _ _ _ _ _ _ rfl rfl rfl rfl w.heap.size (w.heap.size + 1) (w.heap.size + 1 + 1) (w.heap.size + 1 + 1 + 1) _ _ _ _ _ _ _ _ hs hm ho hz rfl rfl _ _ Tryz.underlying89 rfl Tryz.underlying40 rfl (by kernel_rfl) (by kernel_rfl) (zAf rfl) hon (by omega) (by omega) _ rfl rfl rfl rfl rfl rfl rfl rfl rfl rfl rfl rfl rfl rfl rfl ?_
      intro u w' g1 g2 rA rB
      have B1 := zA3 B g1 (by omega) (by omega)
      have B2 := zA3 B1 g2 (by omega) B1.size
      have hrl2 := ((hrl.mv zAj g1.size (Mv.from g1 (by omega) zN)).mv zAj g2.size (Mv.from g2 (by omega) zN)).mv zAj zN (Mv.weak (L := w.heap.size) (by omega))
      go_wp2_with fail
      refine bodyPost_ret (zAk rfl _ _ (w.heap.size + 1 + 1) (w.heap.size + 1 + 1 + 1) _ _ _ _ (0, 0) (0, 0) _ _ (by rfl) (by rfl) rA rB Tryz.underlying89 rfl (by kernel_rfl) Tryz.underlying40 rfl (by kernel_rfl)) rfl ?_
      exact ⟨ys, vp, q0, _, rfl, hq0, B2, hrl2, HF.out⟩
  obtain ⟨hqn2, rfl⟩ := hend
  have hn64 : n ≤ 64 := by have := HE.out; rw [zIt hrdq.out] at this; exact zT8 this
  obtain ⟨bad0, hbad0⟩ : ∃ b, b = false := ⟨_, rfl⟩
  have hCw : wr.heap.size ≤ wr.heap.size := zN
  go_upto_region 14 with fail
  rw [← hbad0] at hs hrdq
  clear hbad0 i2
  have hG := zEw _ _ l q0 bad0 (hrd.below B) hq0 hl
  go_upto_region 15 with (first
    | (refine zAa rfl _ _ rfl w.heap.size rfl _ _ hs _ Tryz.underlying89 rfl (by kernel_rfl) ?_)
    | (go_at_call 81; refine hG.mono ?_; rintro e wa ⟨y, vy, q1, bad1, rfl, hq1, hb, ⟨ry, rfl, hRy⟩, he⟩; have hn1 := zA4 (Row.new wa 89 [.slice none 0 0, .int .i64 0, .bool false]) (.cells ([.int .i64 0, .int .i64 0, .slice none 0 0, .slice none 0 0] : List Value).toArray 34); have hn2 : Row ((wa.alloc (.cells ([.slice none 0 0, .int .i64 0, .bool false] : List Value).toArray 89)).alloc (.cells ([.int .i64 0, .int .i64 0, .slice none 0 0, .slice none 0 0] : List Value).toArray 34)) (wa.heap.size + 1) 34 [.int .i64 0, .int .i64 0, .slice none 0 0, .slice none 0 0] := (by have := Row.new (wa.alloc (.cells ([.slice none 0 0, .int .i64 0, .bool false] : List Value).toArray 89)) 34 [.int .i64 0, .int .i64 0, .slice none 0 0, .slice none 0 0]; simpa using this); have hly : ry.length = 4 := zKu hRy; have hoy := zBq hRy; have hRy2 := hRy; obtain ⟨yo, yg, rfl, ho1, ho2⟩ := hRy2; clear ho1 ho2)
    | (refine zA7 rfl _ _ _ rfl wa.heap.size [.slice ab (bc l).length cb, .int .i64 (q1 : Int), .bool bad1] rfl rfl _ _ hn1 rfl (by kernel_rfl) (zAf rfl) ?_; intro wb0 hnb hgb0; have hn2b := hn2.grown hgb0 (fun h => by injection h; omega))
    | (refine zA7 rfl _ _ _ rfl (wa.heap.size + 1) [.int .i64 y.1, .int .i64 y.2.1, yo, yg] rfl rfl _ _ hn2b rfl (by kernel_rfl) hoy ?_; intro wb hnr hgb))
  have hbb : Below wa.heap.size wa wb := by
    have t0 : Below wa.heap.size wa ((wa.alloc (.cells ([.slice none 0 0, .int .i64 0, .bool false] : List Value).toArray 89)).alloc (.cells ([.int .i64 0, .int .i64 0, .slice none 0 0, .slice none 0 0] : List Value).toArray 34)) := ((Below.refl _ wa).alloc zN _).alloc (by simp) _
    exact zA3 (zA3 t0 hgb0 zN (by simp; omega)) hgb (by omega) (Nat.le_trans (by simp; omega) hgb0.size)
  have hnb := hnb.out.grown hgb (fun h => by injection h; omega)
  have hnr := hnr.out
  have hRb : zCs (zB0 wr.heap.size) wb [.int .i64 y.1, .int .i64 y.2.1, yo, yg] y := zAj _ _ _ _ _ _ hRy hbb.size (Mv.belowG hbb)
  clear hn2b hgb0
  have hb2 := zA1 hb zN hbb
  have hwa := hb.size
  have hs := hs.below hb2
  have hm := hm.below hb2
  have ho := ho.below hb2
  have hz := hz.below hb2
  have B := zA1 B zN hb2
  have he := (show Hid _ from he)
  go_upto_region 16 with (first
    | (refine zAa rfl _ _ rfl wa.heap.size rfl _ _ hnb _ Tryz.underlying89 rfl (by kernel_rfl) ?_)
    | (refine zA7 rfl _ _ _ rfl w.heap.size [.slice ab (bc l).length cb, .int .i64 (q1 : Int), .bool bad1] rfl rfl _ _ hs rfl (by kernel_rfl) (zAf rfl) ?_; intro wc hsc hgc))
  have hs := hsc.out
  have hm := hm.grown hgc (fun h => by injection h; omega)
  have ho := ho.grown hgc (fun h => by injection h; omega)
  have hz := hz.grown hgc (fun h => by injection h; omega)
  have hRc : zCs (zB0 wr.heap.size) wc [.int .i64 y.1, .int .i64 y.2.1, yo, yg] y := zAj _ _ _ _ _ _ hRb hgc.size (Mv.from hgc (by omega) zN)
  have hnr := hnr.grown hgc (fun h => by injection h; omega)
  have hc1 := (zBq hRc)
  have B := zA3 B hgc zN (Nat.le_trans (by omega) hb2.size)
  have hLB1 := (hLB.below zAj hb2).grown zAj hgc (by omega)
  have hsz : wr.heap.size ≤ wc.heap.size := Nat.le_trans hb2.size hgc.size
  have HR3 := (show Hid ((stL l p1 b1).bind (rdN zBc (q + 1)) = (stL l q1 bad1).map fun t => (ys ++ [y], t)) from zEb hrdq.out he.out)
  have hlt := hLB.lt
  have hfr := hLB.fr
  have cf := hm.cell (j := 21) rfl
  clear hgb hb hbb hb2 hgc hsc hnb hG hRb
  go_wp2_with (first
    | (refine zAa rfl _ _ rfl (wa.heap.size + 1) rfl _ _ hnr _ Tryz.underlying34 rfl (by kernel_rfl) ?_)
    | (at_builtin; refine zCq zAj rfl _ _ _ rfl 34 4 64 _ Tryz.underlying37 Tryz.inf_reqs rfl (by decide) (w.heap.size + 4) vp ys rfl hLB1 [.int .i64 y.1, .int .i64 y.2.1, yo, yg] y wr.heap.size hRc rfl hc1 hCr hlt rfl (by omega) (by omega) (by decide) ?_; intro vq w6 hLB6 hg6; have hm6 := hm.grown hg6 (fun h => by have := hfr _ h; omega))
    | (refine zAb rfl _ _ _ rfl (w.heap.size + 1) 21 _ rfl rfl _ _ hm6 (show 21 < 23 by decide) (by kernel_rfl) hLB6.form ?_; intro w7 hm7 hg7))
  have hs := (hs.grown hg6 (fun h => by have := hfr _ h; omega)).grown hg7 (fun h => by injection h; omega)
  have ho := (ho.grown hg6 (fun h => by have := hfr _ h; omega)).grown hg7 (fun h => by injection h; omega)
  have hz := (hz.grown hg6 (fun h => by have := hfr _ h; omega)).grown hg7 (fun h => by injection h; omega)
  have hLB7 := hLB6.grown zAj hg7 (by omega)
  have B6 : Below w.heap.size w w6 := B.trans (zA5 hg6 (Nat.le_trans (by omega) hsz) (fun k hk => by have := hfr k hk; omega))
  have B7 := zA3 B6 hg7 (by omega) B6.size
  have hC7 : w.heap.size + 4 ≤ w7.heap.size := Nat.le_trans (Nat.le_trans hCr hsz) (Nat.le_trans hg6.size hg7.size)
  go_roundw
  case rel => exact ⟨q + 1, q1, bad1, ys ++ [y], vq, by omega, by go_num, by simp [hyl], HR3, hq1, hLB7, hs, hm7.out, ho, hz, B7, hC7⟩
  case measure => simp [intOf]; omega
end
end Go.Proofs.YtgjepofinpmcpaaGreatDoor
