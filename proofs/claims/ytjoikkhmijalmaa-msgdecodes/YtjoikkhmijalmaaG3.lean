/- The document's reading: requests. Written by mk5g.py. -/
import Derived.Test.YtjoikkhmijalmaaG2
import Derived.Test.YtjoikkhmijalmaaD2
set_option linter.unusedVariables false
set_option linter.unusedSimpArgs false
namespace Go.Proofs.Ytjoikkhmijalmaa
open Go.RowKit Oct

theorem pair_read {α β : Type} {c : Cdc α} {d : Cdc β} {l : List Int} {p q r : Nat} {b0 b1 b2 : Bool} {x : α} {y : β} (h1 : (stL l p b0).bind c.rd = (stL l q b1).map fun r => (x, r)) (h2 : (stL l q b1).bind d.rd = (stL l r b2).map fun r => (y, r)) :
    (stL l p b0).bind (cP c d).rd = (stL l r b2).map fun r => ((x, y), r) := by
  show (stL l p b0).bind (fun l => (c.rd l).bind fun x => (d.rd x.2).map fun y => ((x.1, y.1), y.2)) = _
  rw [← Option.bind_assoc, h1]
  cases hq : stL l q b1 with
  | none =>
    rw [hq] at h2
    cases hr : stL l r b2 with
    | none => rfl
    | some s => rw [hr] at h2; cases h2
  | some s =>
    rw [hq] at h2
    have h2' : d.rd s = (stL l r b2).map fun r => (y, r) := h2
    simp only [Option.map_some, Option.bind_some, h2']
    cases stL l r b2 <;> rfl
theorem grown3 (w : World) (b : Nat) (v0 v1 v2 : Value) : w.grownBy (((w.setCell ⟨b, 0, none⟩ v0).setCell ⟨b, 1, none⟩ v1).setCell ⟨b, 2, none⟩ v2) (some b) :=
  grown_trans (grown_trans (grown_set w b 0 v0) (grown_set _ b 1 v1) (.inl rfl)) (grown_set _ b 2 v2) (.inl rfl)
theorem grown4 (w : World) (b : Nat) (v0 v1 v2 v3 : Value) : w.grownBy ((((w.setCell ⟨b, 0, none⟩ v0).setCell ⟨b, 1, none⟩ v1).setCell ⟨b, 2, none⟩ v2).setCell ⟨b, 3, none⟩ v3) (some b) :=
  grown_trans (grown3 w b v0 v1 v2) (grown_set _ b 3 v3) (.inl rfl)
theorem row3 {w : World} {b : Nat} {t : TypeId} {x0 x1 x2 : Value} (h : Row w b t [x0, x1, x2]) (v0 v1 v2 : Value) : Row (((w.setCell ⟨b, 0, none⟩ v0).setCell ⟨b, 1, none⟩ v1).setCell ⟨b, 2, none⟩ v2) b t [v0, v1, v2] := ((h.set 0 v0).set 1 v1).set 2 v2
theorem row4 {w : World} {b : Nat} {t : TypeId} {x0 x1 x2 x3 : Value} (h : Row w b t [x0, x1, x2, x3]) (v0 v1 v2 v3 : Value) : Row ((((w.setCell ⟨b, 0, none⟩ v0).setCell ⟨b, 1, none⟩ v1).setCell ⟨b, 2, none⟩ v2).setCell ⟨b, 3, none⟩ v3).drew b t [v0, v1, v2, v3] := (((h.set 0 v0).set 1 v1).set 2 v2).set 3 v3
theorem two_rows {w : World} {b c : Nat} {t u : TypeId} {x0 x1 x2 y0 y1 y2 y3 : Value} (h : Row w b t [x0, x1, x2]) (k : Row w c u [y0, y1, y2, y3]) (hn : b ≠ c) (v0 v1 v2 u0 u1 u2 u3 : Value) :
    ∃ w1, w.grownBy w1 (some b) ∧ w1.grownBy ((((((((w.setCell ⟨b, 0, none⟩ v0).setCell ⟨b, 1, none⟩ v1).setCell ⟨b, 2, none⟩ v2).setCell ⟨c, 0, none⟩ u0).setCell ⟨c, 1, none⟩ u1).setCell ⟨c, 2, none⟩ u2).setCell ⟨c, 3, none⟩ u3).drew) (some c) ∧
      Row (((((((w.setCell ⟨b, 0, none⟩ v0).setCell ⟨b, 1, none⟩ v1).setCell ⟨b, 2, none⟩ v2).setCell ⟨c, 0, none⟩ u0).setCell ⟨c, 1, none⟩ u1).setCell ⟨c, 2, none⟩ u2).setCell ⟨c, 3, none⟩ u3).drew b t [v0, v1, v2] ∧
      Row (((((((w.setCell ⟨b, 0, none⟩ v0).setCell ⟨b, 1, none⟩ v1).setCell ⟨b, 2, none⟩ v2).setCell ⟨c, 0, none⟩ u0).setCell ⟨c, 1, none⟩ u1).setCell ⟨c, 2, none⟩ u2).setCell ⟨c, 3, none⟩ u3).drew c u [u0, u1, u2, u3] := by
  have r1 := row3 h v0 v1 v2
  have g1 := grown3 w b v0 v1 v2
  have k1 := k.grown g1 (fun e => hn (by injection e))
  generalize ((w.setCell ⟨b, 0, none⟩ v0).setCell ⟨b, 1, none⟩ v1).setCell ⟨b, 2, none⟩ v2 = w1 at *
  have g2 := grown_to_drew (grown4 w1 c u0 u1 u2 u3)
  exact ⟨w1, g1, g2, r1.grown g2 (fun e => hn (by injection e with e; exact e.symm)), row4 k1 u0 u1 u2 u3⟩
theorem results_cc {P : Program} {fn : Func} {p t : Tmp} {ty uy : TypeId} (h : fn.results = #[.cell p ty, .cell t uy]) (tmps : Array Value) (w : World) (g g2 : Nat) (tt t2 : TypeId) (cs c2 : Array Value) (fr f2 : Nat × Nat) (d d2 : TypeDesc)
    (hp : tmps.getD p undef = .pointer (some ⟨g, 0, none⟩)) (hp2 : tmps.getD t undef = .pointer (some ⟨g2, 0, none⟩)) (hg : w.heap[g]? = some (.cells cs tt fr)) (hg2 : w.heap[g2]? = some (.cells c2 t2 f2))
    (hu : P.underlying ty = some d) (hd : (match d with | .struct _ | .array _ _ => true | _ => false) = true) (hi : (P.info? ty).map (·.size) = some cs.size)
    (hu2 : P.underlying uy = some d2) (hd2 : (match d2 with | .struct _ | .array _ _ => true | _ => false) = true) (hi2 : (P.info? uy).map (·.size) = some c2.size) :
    (results fn tmps).run P w = .ok (.tuple #[.agg cs, .agg c2]) w := by
  have hp' : tmps[p]?.getD undef = .pointer (some ⟨g, 0, none⟩) := by simpa using hp
  have hp2' : tmps[t]?.getD undef = .pointer (some ⟨g2, 0, none⟩) := by simpa using hp2
  simp [results, h, hp', hp2', asAddr, run_loadVar_row w g tt ty cs fr d hg hu hd hi, run_loadVar_row w g2 t2 uy c2 f2 d2 hg2 hu2 hd2 hi2]

set_option maxRecDepth 10000 in
set_option maxHeartbeats 4000000 in
theorem getReq_any (w : World) (bv : Value) (l : List Int) (p : Nat) (bad : Bool) (hrd : Rd w bv l) (hp : p ≤ l.length) (hl : l.length ≤ 1048576) :
    Calls Try.prog 37 #[.agg #[bv, .int .i64 (p : Int), .bool bad]] w (GPost cReq (VA RReq) w bv l p bad) := by
  obtain ⟨ab, cb, rfl, hcb⟩ := hrd.2.form
  obtain ⟨q0, bad0, hq0', hbad0⟩ : ∃ q0 bad0, q0 = p ∧ bad0 = bad := ⟨_, _, rfl, rfl⟩
  rw [← hq0', ← hbad0]
  have hq0 : q0 ≤ l.length := by omega
  clear hq0' hbad0 hp p bad
  obtain ⟨w2, hw2⟩ : ∃ w2, w2 = (((w.alloc (.cells ([.slice ab (bc l).length cb, .int .i64 (q0 : Int), .bool bad0] : List Value).toArray 52)).alloc (.cells ([.slice none 0 0, .int .i64 0, .bool false] : List Value).toArray 52)).alloc (.cells ([.int .i64 0, .int .i64 0, .slice none 0 0, .slice none 0 0] : List Value).toArray 27)).alloc (.cells ([.int .i64 0, .int .i64 0, .slice none 0 0, .slice none 0 0] : List Value).toArray 27) := ⟨_, rfl⟩
  have hs : Row w2 w.heap.size 52 [.slice ab (bc l).length cb, .int .i64 (q0 : Int), .bool bad0] := by rw [hw2]; exact row_alloc (row_alloc (row_alloc (Row.new w _ _) _) _) _
  have ho : Row w2 (w.heap.size + 1) 52 [.slice none 0 0, .int .i64 0, .bool false] := by
    rw [hw2]; refine row_alloc (row_alloc ?_ _) _
    have := Row.new (w.alloc (.cells ([.slice ab (bc l).length cb, .int .i64 (q0 : Int), .bool bad0] : List Value).toArray 52)) 52 [.slice none 0 0, .int .i64 0, .bool false]
    simpa using this
  have hz : Row w2 (w.heap.size + 1 + 1) 27 [.int .i64 0, .int .i64 0, .slice none 0 0, .slice none 0 0] := by
    rw [hw2]; refine row_alloc ?_ _
    have := Row.new ((w.alloc (.cells ([.slice ab (bc l).length cb, .int .i64 (q0 : Int), .bool bad0] : List Value).toArray 52)).alloc (.cells ([.slice none 0 0, .int .i64 0, .bool false] : List Value).toArray 52)) 27 [.int .i64 0, .int .i64 0, .slice none 0 0, .slice none 0 0]
    simpa using this
  have hv : Row w2 (w.heap.size + 1 + 1 + 1) 27 [.int .i64 0, .int .i64 0, .slice none 0 0, .slice none 0 0] := by
    rw [hw2]
    have := Row.new (((w.alloc (.cells ([.slice ab (bc l).length cb, .int .i64 (q0 : Int), .bool bad0] : List Value).toArray 52)).alloc (.cells ([.slice none 0 0, .int .i64 0, .bool false] : List Value).toArray 52)).alloc (.cells ([.int .i64 0, .int .i64 0, .slice none 0 0, .slice none 0 0] : List Value).toArray 27)) 27 [.int .i64 0, .int .i64 0, .slice none 0 0, .slice none 0 0]
    simpa using this
  have B : Below w.heap.size w w2 := by rw [hw2]; exact ((((Below.refl _ w).alloc (Nat.le_refl _) _).alloc (by simp) _).alloc (by simp; omega) _).alloc (by simp; omega) _
  have hC : w.heap.size + 4 ≤ w2.heap.size := by rw [hw2]; simp
  go_enter Try.func37, Try.ntmps37
  go_upto_region 2 with fail
  rw [← hw2]
  clear hw2
  have hG := getNum_any _ _ l q0 bad0 (hrd.below B) hq0 hl
  go_upto_region 3 with (first
    | (refine wl_load rfl _ _ rfl w.heap.size rfl _ _ hs _ Try.underlying52 rfl (by kernel_rfl) ?_)
    | (go_at_call 15; refine hG.mono ?_; rintro e wa0 ⟨a0, v0, q1, bad1, rfl, hq1, hb0, rfl, he0⟩; have hsa := hs.below hb0; have hva := hv.below hb0)
    | (refine wl_store rfl _ _ _ rfl w.heap.size [.slice ab (bc l).length cb, .int .i64 (q1 : Int), .bool bad1] rfl rfl _ _ hsa rfl (by kernel_rfl) (one_in rfl) ?_; intro wb0 hsb hgb0; have hvb := hva.grown hgb0 (fun h => by injection h; omega))
    | (refine wl_set rfl _ _ _ rfl (w.heap.size + 1 + 1 + 1) 0 _ rfl rfl _ _ hvb (show 0 < 4 by decide) (by kernel_rfl) rfl ?_; intro wc0 hvc hgc0))
  have hs := hsb.out.grown hgc0 (fun h => by injection h; omega)
  have hv : Row wc0 (w.heap.size + 1 + 1 + 1) 27 [.int .i64 a0, .int .i64 0, .slice none 0 0, .slice none 0 0] := hvc.out
  have ho := ((ho.below hb0).grown hgb0 (fun h => by injection h; omega)).grown hgc0 (fun h => by injection h; omega)
  have hz := ((hz.below hb0).grown hgb0 (fun h => by injection h; omega)).grown hgc0 (fun h => by injection h; omega)
  have he0 := (show Hid _ from he0)
  have B := below_grown (below_grown (below_and B (Nat.le_refl _) hb0) hgb0 (Nat.le_refl _) (Nat.le_trans (by omega) (Nat.le_trans hC hb0.size))) hgc0 (by omega) (Nat.le_trans (by omega) (Nat.le_trans hC (Nat.le_trans hb0.size hgb0.size)))
  have hC := Nat.le_trans hC (Nat.le_trans hb0.size (Nat.le_trans hgb0.size hgc0.size))
  clear hG hsa hva hsb hvb hvc hgb0 hgc0 hb0
  have hG := getNum_any _ _ l q1 bad1 (hrd.below B) hq1 hl
  go_upto_region 4 with (first
    | (refine wl_load rfl _ _ rfl w.heap.size rfl _ _ hs _ Try.underlying52 rfl (by kernel_rfl) ?_)
    | (go_at_call 15; refine hG.mono ?_; rintro e wa1 ⟨a1, v1, q2, bad2, rfl, hq2, hb1, rfl, he1⟩; have hsa := hs.below hb1; have hva := hv.below hb1)
    | (refine wl_store rfl _ _ _ rfl w.heap.size [.slice ab (bc l).length cb, .int .i64 (q2 : Int), .bool bad2] rfl rfl _ _ hsa rfl (by kernel_rfl) (one_in rfl) ?_; intro wb1 hsb hgb1; have hvb := hva.grown hgb1 (fun h => by injection h; omega))
    | (refine wl_set rfl _ _ _ rfl (w.heap.size + 1 + 1 + 1) 1 _ rfl rfl _ _ hvb (show 1 < 4 by decide) (by kernel_rfl) rfl ?_; intro wc1 hvc hgc1))
  have hs := hsb.out.grown hgc1 (fun h => by injection h; omega)
  have hv : Row wc1 (w.heap.size + 1 + 1 + 1) 27 [.int .i64 a0, .int .i64 a1, .slice none 0 0, .slice none 0 0] := hvc.out
  have ho := ((ho.below hb1).grown hgb1 (fun h => by injection h; omega)).grown hgc1 (fun h => by injection h; omega)
  have hz := ((hz.below hb1).grown hgb1 (fun h => by injection h; omega)).grown hgc1 (fun h => by injection h; omega)
  have he1 := (show Hid _ from he1)
  have B := below_grown (below_grown (below_and B (Nat.le_refl _) hb1) hgb1 (Nat.le_refl _) (Nat.le_trans (by omega) (Nat.le_trans hC hb1.size))) hgc1 (by omega) (Nat.le_trans (by omega) (Nat.le_trans hC (Nat.le_trans hb1.size hgb1.size)))
  have hC := Nat.le_trans hC (Nat.le_trans hb1.size (Nat.le_trans hgb1.size hgc1.size))
  clear hG hsa hva hsb hvb hvc hgb1 hgc1 hb1
  have hG := getText_any _ _ l q2 bad2 (hrd.below B) hq2 hl
  go_upto_region 5 with (first
    | (refine wl_load rfl _ _ rfl w.heap.size rfl _ _ hs _ Try.underlying52 rfl (by kernel_rfl) ?_)
    | (go_at_call 38; refine hG.mono ?_; rintro e wa2 ⟨a2, v2, q3, bad3, rfl, hq3, hb2, f2, he2⟩; have hsa := hs.below hb2; have hva := hv.below hb2)
    | (refine wl_store rfl _ _ _ rfl w.heap.size [.slice ab (bc l).length cb, .int .i64 (q3 : Int), .bool bad3] rfl rfl _ _ hsa rfl (by kernel_rfl) (one_in rfl) ?_; intro wb2 hsb hgb2; have hvb := hva.grown hgb2 (fun h => by injection h; omega))
    | (refine wl_set rfl _ _ _ rfl (w.heap.size + 1 + 1 + 1) 2 _ rfl rfl _ _ hvb (show 2 < 4 by decide) (by kernel_rfl) f2.one ?_; intro wc2 hvc hgc2))
  have hs := hsb.out.grown hgc2 (fun h => by injection h; omega)
  have hv : Row wc2 (w.heap.size + 1 + 1 + 1) 27 [.int .i64 a0, .int .i64 a1, v2, .slice none 0 0] := hvc.out
  have ho := ((ho.below hb2).grown hgb2 (fun h => by injection h; omega)).grown hgc2 (fun h => by injection h; omega)
  have hz := ((hz.below hb2).grown hgb2 (fun h => by injection h; omega)).grown hgc2 (fun h => by injection h; omega)
  have he2 := (show Hid _ from he2)
  have f2 := ((f2.mv (Mv.weak (L := w.heap.size + 4) hC)).mv (Mv.from hgb2 (by omega) (Nat.le_refl _))).mv (Mv.from hgc2 (by omega) (Nat.le_refl _))
  have B := below_grown (below_grown (below_and B (Nat.le_refl _) hb2) hgb2 (Nat.le_refl _) (Nat.le_trans (by omega) (Nat.le_trans hC hb2.size))) hgc2 (by omega) (Nat.le_trans (by omega) (Nat.le_trans hC (Nat.le_trans hb2.size hgb2.size)))
  have hC := Nat.le_trans hC (Nat.le_trans hb2.size (Nat.le_trans hgb2.size hgc2.size))
  clear hG hsa hva hsb hvb hvc hgb2 hgc2 hb2
  have hG := getText_any _ _ l q3 bad3 (hrd.below B) hq3 hl
  go_upto_region 6 with (first
    | (refine wl_load rfl _ _ rfl w.heap.size rfl _ _ hs _ Try.underlying52 rfl (by kernel_rfl) ?_)
    | (go_at_call 38; refine hG.mono ?_; rintro e wa3 ⟨a3, v3, q4, bad4, rfl, hq4, hb3, f3, he3⟩; have hsa := hs.below hb3; have hva := hv.below hb3)
    | (refine wl_store rfl _ _ _ rfl w.heap.size [.slice ab (bc l).length cb, .int .i64 (q4 : Int), .bool bad4] rfl rfl _ _ hsa rfl (by kernel_rfl) (one_in rfl) ?_; intro wb3 hsb hgb3; have hvb := hva.grown hgb3 (fun h => by injection h; omega))
    | (refine wl_set rfl _ _ _ rfl (w.heap.size + 1 + 1 + 1) 3 _ rfl rfl _ _ hvb (show 3 < 4 by decide) (by kernel_rfl) f3.one ?_; intro wc3 hvc hgc3))
  have hs := hsb.out.grown hgc3 (fun h => by injection h; omega)
  have hv : Row wc3 (w.heap.size + 1 + 1 + 1) 27 [.int .i64 a0, .int .i64 a1, v2, v3] := hvc.out
  have ho := ((ho.below hb3).grown hgb3 (fun h => by injection h; omega)).grown hgc3 (fun h => by injection h; omega)
  have hz := ((hz.below hb3).grown hgb3 (fun h => by injection h; omega)).grown hgc3 (fun h => by injection h; omega)
  have he3 := (show Hid _ from he3)
  have f2 := ((f2.mv (Mv.belowF hb3 (Nat.le_refl _))).mv (Mv.from hgb3 (by omega) (Nat.le_refl _))).mv (Mv.from hgc3 (by omega) (Nat.le_refl _))
  have f3 := ((f3.mv (Mv.weak (L := w.heap.size + 4) hC)).mv (Mv.from hgb3 (by omega) (Nat.le_refl _))).mv (Mv.from hgc3 (by omega) (Nat.le_refl _))
  have B := below_grown (below_grown (below_and B (Nat.le_refl _) hb3) hgb3 (Nat.le_refl _) (Nat.le_trans (by omega) (Nat.le_trans hC hb3.size))) hgc3 (by omega) (Nat.le_trans (by omega) (Nat.le_trans hC (Nat.le_trans hb3.size hgb3.size)))
  have hC := Nat.le_trans hC (Nat.le_trans hb3.size (Nat.le_trans hgb3.size hgc3.size))
  clear hG hsa hva hsb hvb hvc hgb3 hgc3 hb3
  obtain ⟨ao2, cc2, rfl, hcc2⟩ := f2.form
  obtain ⟨ao3, cc3, rfl, hcc3⟩ := f3.form
  have i0 := hs.cell (j := 0) rfl
  have i1 := hs.cell (j := 1) rfl
  have i2 := hs.cell (j := 2) rfl
  have j0 := hv.cell (j := 0) rfl
  have j1 := hv.cell (j := 1) rfl
  have j2 := hv.cell (j := 2) rfl
  have j3 := hv.cell (j := 3) rfl
  have m0 := ho.cell (j := 0) rfl
  have m1 := ho.cell (j := 1) rfl
  have m2 := ho.cell (j := 2) rfl
  have n0 := hz.cell (j := 0) rfl
  have n1 := hz.cell (j := 1) rfl
  have n2 := hz.cell (j := 2) rfl
  have n3 := hz.cell (j := 3) rfl
  have x0 := ho.frozen 0
  have x1 := ho.frozen 1
  have x2 := ho.frozen 2
  have y0 := hz.frozen 0
  have y1 := hz.frozen 1
  have y2 := hz.frozen 2
  have y3 := hz.frozen 3
  have FINQ := (show Hid (∀ (u1 u2 : World) (b1 b2 : Nat), wc3.grownBy u1 (some b1) → u1.grownBy u2 (some b2) → w.heap.size ≤ b1 → b1 < w.heap.size + 4 → w.heap.size ≤ b2 → b2 < w.heap.size + 4 →
      GPost cReq (VA RReq) w (.slice ab (bc l).length cb) l q0 bad0 (.returned (.tuple #[.agg ([.slice ab (bc l).length cb, .int .i64 (q4 : Int), .bool bad4] : List Value).toArray, .agg ([.int .i64 a0, .int .i64 a1, .slice ao2 a2.length cc2, .slice ao3 a3.length cc3] : List Value).toArray])) u2) from fun u1 u2 b1 b2 g1 g2 k1 k2 k3 k4 =>
    ⟨(a0, a1, a2, a3), _, q4, bad4, rfl, hq4, below_grown (below_grown B g1 k1 (Nat.le_trans (by omega) hC)) g2 k3 (Nat.le_trans (Nat.le_trans (by omega) hC) g1.size),
      ⟨_, rfl, _, _, rfl, ((f2.mv (Mv.from g1 k2 (Nat.le_refl _))).mv (Mv.from g2 k4 (Nat.le_refl _))).mv (Mv.weak (by omega)), ((f3.mv (Mv.from g1 k2 (Nat.le_refl _))).mv (Mv.from g2 k4 (Nat.le_refl _))).mv (Mv.weak (by omega))⟩,
      pair_read he0.out (pair_read he1.out (pair_read he2.out he3.out))⟩)
  have ROWS := (show Hid (Row wc3 (w.heap.size + 1) 52 [.slice none 0 0, .int .i64 0, .bool false] ∧ Row wc3 (w.heap.size + 1 + 1) 27 [.int .i64 0, .int .i64 0, .slice none 0 0, .slice none 0 0]) from ⟨ho, hz⟩)
  clear hs ho hz hv f2 f3 he0 he1 he2 he3 B hC hrd hl
  go_region
  all_goals (
    obtain ⟨u1, gA, gB, rA, rB⟩ := two_rows ROWS.out.1 ROWS.out.2 (by omega) (.slice ab (bc l).length cb) (.int .i64 (q4 : Int)) (.bool bad4) (.int .i64 a0) (.int .i64 a1) (.slice ao2 a2.length cc2) (.slice ao3 a3.length cc3)
    clear ROWS i0 i1 i2 j0 j1 j2 j3 m0 m1 m2 n0 n1 n2 n3 x0 x1 x2 y0 y1 y2 y3
    generalize (((((((wc3.setCell ⟨w.heap.size + 1, 0, none⟩ (.slice ab (bc l).length cb)).setCell ⟨w.heap.size + 1, 1, none⟩ (.int .i64 (q4 : Int))).setCell ⟨w.heap.size + 1, 2, none⟩ (.bool bad4)).setCell ⟨w.heap.size + 1 + 1, 0, none⟩ (.int .i64 a0)).setCell ⟨w.heap.size + 1 + 1, 1, none⟩ (.int .i64 a1)).setCell ⟨w.heap.size + 1 + 1, 2, none⟩ (.slice ao2 a2.length cc2)).setCell ⟨w.heap.size + 1 + 1, 3, none⟩ (.slice ao3 a3.length cc3)).drew = z at *
    have FF := FINQ.out _ _ _ _ gA gB (by omega) (by omega) (by omega) (by omega)
    go_wp2_with fail
    refine bodyPost_ret (results_cc rfl _ _ (w.heap.size + 1) (w.heap.size + 1 + 1) _ _ _ _ (0, 0) (0, 0) _ _ (by rfl) (by rfl) rA rB Try.underlying52 rfl (by kernel_rfl) Try.underlying27 rfl (by kernel_rfl)) rfl ?_
    exact FF)
end Go.Proofs.Ytjoikkhmijalmaa
