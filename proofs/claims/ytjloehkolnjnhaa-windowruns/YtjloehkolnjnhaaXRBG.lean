/- The document's windows: Prep. Written by mk18e.py. -/
import Derived.Test.YtjloehkolnjnhaaXRBE
set_option linter.unusedSimpArgs false
set_option linter.unusedVariables false
namespace Go.Proofs.Ytjloehkolnjnhaa
open Go.RowKit Oct Kvl Bal
/-- What comes of it, by the document. -/
def dP (low : Int) (sls : List PSl) (b : PBal) (k : Int) (x : PReq) (ct : List PVote) : List PSl × Int := if inW low k then (match prepS (atD low sls k) b x ct with | none => (sls, 171) | some s => (setD low sls k s, 0)) else (sls, 171)
set_option maxRecDepth 20000 in
set_option maxHeartbeats 8000000 in
theorem refPrepW_out {G : Nat → Prop} (w : World) (cs : List Value) (low : Int) (sls : List PSl) (h : RDw G w cs low sls) (bl : PBal) (k : Int) (xo xg : Value) (x : PReq) (hxo : RT G w xo x.2.2.1) (hxg : RT G w xg x.2.2.2) (xc : Value) (ct : List PVote) (hxc : RL RVote 2 G w xc ct) (hk : -9223372036854775808 ≤ k ∧ k ≤ 9223372036854775807) (hin : inW low k = false) :
    Calls Try.prog 27 #[.agg cs.toArray, .agg #[.int .i64 k, .int .i64 bl.1, .int .i64 bl.2, .int .i64 x.1, .int .i64 x.2.1, xo, xg, xc]] w fun e w' => ∃ cs', e = .returned (.tuple #[.agg cs'.toArray, .int .i64 (dP low sls bl k x ct).2]) ∧ RDw G w cs' low (dP low sls bl k x ct).1 ∧ Below w.heap.size w w' := by
  obtain ⟨zc, hzl, hzv⟩ := zW_ex
  obtain ⟨w1, hw1⟩ : ∃ w1, w1 = w.alloc (.cells cs.toArray 36) := ⟨_, rfl⟩
  have e1 : w1.heap.size = w.heap.size + 1 := by rw [hw1]; simp
  have B1 : Below w.heap.size w w1 := by rw [hw1]; exact below_alloc _ _
  have R1 : Row w1 w.heap.size 36 cs := by rw [hw1]; exact Row.new _ _ _
  obtain ⟨w2, hw2⟩ : ∃ u, u = w1.alloc (.cells #[.int .i64 k, .int .i64 bl.1, .int .i64 bl.2, .int .i64 x.1, .int .i64 x.2.1, xo, xg, xc] 39) := ⟨_, rfl⟩
  have e2 : w2.heap.size = w.heap.size + 2 := by rw [hw2]; simp [e1]
  have B2 : Below w1.heap.size w1 w2 := by rw [hw2]; exact below_alloc _ _
  have R2 : Row w2 (w.heap.size + 1) 39 [.int .i64 k, .int .i64 bl.1, .int .i64 bl.2, .int .i64 x.1, .int .i64 x.2.1, xo, xg, xc] := by rw [hw2, ← e1]; exact Row.new _ _ _
  obtain ⟨w3, hw3⟩ : ∃ u, u = w2.alloc (.cells zc.toArray 36) := ⟨_, rfl⟩
  have B3 : Below w2.heap.size w2 w3 := by rw [hw3]; exact below_alloc _ _
  have RR : Row w3 (w.heap.size + 2) 36 zc := by rw [hw3, ← e2]; exact Row.new _ _ _
  have R1 := (R1.below B2).below B3
  have R2 := R2.below B3
  have B := below_and (below_and (B1) (Nat.le_refl _) B2) (Nat.le_refl _) B3
  have hw : w3 = ((w.alloc (.cells cs.toArray 36)).alloc (.cells #[.int .i64 k, .int .i64 bl.1, .int .i64 bl.2, .int .i64 x.1, .int .i64 x.2.1, xo, xg, xc] 39)).alloc (.cells zc.toArray 36) := by rw [hw3, hw2, hw1]
  have hN2 : w.heap.size + 2 < w3.heap.size := RR.lt
  clear hw1 hw2 hw3 e1 e2 B1 B2 B3
  have hlen := h.len
  have hone := h.one
  have hinf : (Try.prog.info? 36).map (·.size) = some cs.length := by rw [hlen]; exact Try.inf36
  have hzc : zc.length = cs.length := by rw [hzl, hlen]
  have hA := refAtW_any w3 cs low sls (h.mv B.size (Mv.belowG B)) k hk
  have X1 := (hxo.mv Mv.any).mv (Mv.below B); have X2 := (hxg.mv Mv.any).mv (Mv.below B)
  have HH := (show Hid (RDw G w cs low sls) from h)
  clear h
  have kk := R2.cell (j := 0) rfl
  go_enter Try.func27, Try.ntmps27
  go_upto_region 1 with fail
  rw [← hw]
  clear hw
  go_upto_region 2 with (first
    | (refine wl_load rfl _ _ rfl w.heap.size rfl _ _ R1 _ Try.underlying36 rfl hinf ?_)
    | (go_at_call 13; refine hA.mono ?_; rintro e w6 ⟨r0, rfl, hr0, b6⟩; generalize hs : atD low sls k = s at hr0; obtain ⟨o1, g1, o2, g2, cc, o3, g3, v1, rfl, T1, T2, T3, T4, T5, T6, T7, T8⟩ := hr0 G w HH.out; have hs1 := one_RSl (G := G) (w := w) (x := s) ⟨o1, g1, o2, g2, cc, o3, g3, v1, rfl, T1, T2, T3, T4, T5, T6, T7, T8⟩; have Rz := Row.new w6 33 [.int .i64 0, .int .i64 0, .int .i64 0, .int .i64 0, .slice none 0 0, .slice none 0 0, .int .i64 0, .int .i64 0, .int .i64 0, .int .i64 0, .slice none 0 0, .slice none 0 0, .slice none 0 0, .int .i64 0, .int .i64 0, .slice none 0 0, .slice none 0 0, .int .i64 0, .int .i64 0, .slice none 0 0, .bool false, .bool false, .bool false]; have Bz := below_alloc w6 (.cells #[.int .i64 0, .int .i64 0, .int .i64 0, .int .i64 0, .slice none 0 0, .slice none 0 0, .int .i64 0, .int .i64 0, .int .i64 0, .int .i64 0, .slice none 0 0, .slice none 0 0, .slice none 0 0, .int .i64 0, .int .i64 0, .slice none 0 0, .slice none 0 0, .int .i64 0, .int .i64 0, .slice none 0 0, .bool false, .bool false, .bool false] 33); replace hs := (show Hid _ from hs))
    | (refine wl_store rfl _ _ _ rfl w6.heap.size [.int .i64 s.voted.1, .int .i64 s.voted.2, .int .i64 s.vote.1, .int .i64 s.vote.2.1, o1, g1, .int .i64 s.pred.1, .int .i64 s.pred.2, .int .i64 s.prep.1, .int .i64 s.prep.2.1, o2, g2, cc, .int .i64 s.done.1, .int .i64 s.done.2.1, o3, g3, .int .i64 s.bal.1, .int .i64 s.bal.2, v1, .bool s.hv, .bool s.hp, .bool s.hd] rfl rfl _ _ Rz rfl (by kernel_rfl) hs1 ?_; intro w7 R7 g7))
  have RS := R7.out
  have b7 : Below w6.heap.size w6 w7 := Bz.trans (grown_below g7 Bz.size (fun k hk => by cases hk; exact Nat.le_refl _))
  have b67 := below_and b6 (Nat.le_refl _) b7
  have BB := below_and B (Nat.le_refl _) b67
  have hs6 := b6.size
  clear R7 Rz Bz g7 hs1 hA hr0
  have R1 := R1.below b67
  have R2 := R2.below b67
  have RR := RR.below b67
  have t1 := (T1.mv Mv.any).mv (Mv.below BB)
  have t2 := (T2.mv Mv.any).mv (Mv.below BB)
  have t3 := (T3.mv Mv.any).mv (Mv.below BB)
  have t4 := (T4.mv Mv.any).mv (Mv.below BB)
  have t6 := (T6.mv Mv.any).mv (Mv.below BB)
  have t7 := (T7.mv Mv.any).mv (Mv.below BB)
  have X1 := X1.mv (Mv.below b67); have X2 := X2.mv (Mv.below b67)
  have hI := refInW_any w7 cs low sls (HH.out.mv BB.size (Mv.belowG BB)) k hk
  have kk := R2.cell (j := 0) rfl
  have HST := (show Hid (dP low sls bl k x ct = (sls, 171)) from by
    unfold dP
    rw [hin]
    rfl)
  rw [hin] at hI
  go_upto_region 3 with (first
    | (with_reducible show wpList _ _ _ ({ dst := _, op := Op.load _ _, type := _, pos := _, after := _, guard := none } :: _) _ w7; refine wl_load rfl _ _ rfl w.heap.size rfl _ _ R1 _ Try.underlying36 rfl hinf ?_)
    | (go_at_call 15; refine hI.mono ?_; rintro e w8 ⟨rfl, b8⟩; have RS8 := RS.below b8; have f6 := RS8.cell (j := 6) rfl; have f7 := RS8.cell (j := 7) rfl; have f8 := RS8.cell (j := 8) rfl; have f9 := RS8.cell (j := 9) rfl; have f10 := RS8.cell (j := 10) rfl; have f11 := RS8.cell (j := 11) rfl; have f21 := RS8.cell (j := 21) rfl; have Rp8 := R2.below b8; have n0 := Rp8.cell (j := 0) rfl; have n1 := Rp8.cell (j := 1) rfl; have n2 := Rp8.cell (j := 2) rfl; have n3 := Rp8.cell (j := 3) rfl; have n4 := Rp8.cell (j := 4) rfl; have n5 := Rp8.cell (j := 5) rfl; have n6 := Rp8.cell (j := 6) rfl; have n7 := Rp8.cell (j := 7) rfl; have RC9 := R1.below b8; have RR9 := RR.below b8))
  skip
  go_wp2_with (first
    | (refine wl_load rfl _ _ rfl w.heap.size rfl _ _ RC9 _ Try.underlying36 rfl hinf ?_)
    | (refine wl_store rfl _ _ _ rfl (w.heap.size + 2) cs rfl rfl _ _ RR9 hzc hinf hone ?_; intro w9 R9 g9))
  refine bodyPost_ret (results_ctW rfl _ _ (w.heap.size + 2) _ _ (0, 0) _ (by rfl) R9.out Try.underlying36 rfl (by rw [List.size_toArray]; exact hinf)) rfl ?_
  have BBx := below_and BB (Nat.le_refl _) b8
  exact ⟨cs, by rw [HST.out]; rfl, by rw [HST.out]; exact HH.out, BBx.trans (grown_below g9 BBx.size (fun k hk => by cases hk; omega))⟩
set_option maxRecDepth 20000 in
set_option maxHeartbeats 8000000 in
theorem refPrepW_new {G : Nat → Prop} (w : World) (cs : List Value) (low : Int) (sls : List PSl) (h : RDw G w cs low sls) (bl : PBal) (k : Int) (xo xg : Value) (x : PReq) (hxo : RT G w xo x.2.2.1) (hxg : RT G w xg x.2.2.2) (xc : Value) (ct : List PVote) (hxc : RL RVote 2 G w xc ct) (hk : -9223372036854775808 ≤ k ∧ k ≤ 9223372036854775807) (hin : inW low k = true) (hh0 : (atD low sls k).hp = false) :
    Calls Try.prog 27 #[.agg cs.toArray, .agg #[.int .i64 k, .int .i64 bl.1, .int .i64 bl.2, .int .i64 x.1, .int .i64 x.2.1, xo, xg, xc]] w fun e w' => ∃ cs', e = .returned (.tuple #[.agg cs'.toArray, .int .i64 (dP low sls bl k x ct).2]) ∧ RDw G w cs' low (dP low sls bl k x ct).1 ∧ Below w.heap.size w w' := by
  obtain ⟨zc, hzl, hzv⟩ := zW_ex
  obtain ⟨w1, hw1⟩ : ∃ w1, w1 = w.alloc (.cells cs.toArray 36) := ⟨_, rfl⟩
  have e1 : w1.heap.size = w.heap.size + 1 := by rw [hw1]; simp
  have B1 : Below w.heap.size w w1 := by rw [hw1]; exact below_alloc _ _
  have R1 : Row w1 w.heap.size 36 cs := by rw [hw1]; exact Row.new _ _ _
  obtain ⟨w2, hw2⟩ : ∃ u, u = w1.alloc (.cells #[.int .i64 k, .int .i64 bl.1, .int .i64 bl.2, .int .i64 x.1, .int .i64 x.2.1, xo, xg, xc] 39) := ⟨_, rfl⟩
  have e2 : w2.heap.size = w.heap.size + 2 := by rw [hw2]; simp [e1]
  have B2 : Below w1.heap.size w1 w2 := by rw [hw2]; exact below_alloc _ _
  have R2 : Row w2 (w.heap.size + 1) 39 [.int .i64 k, .int .i64 bl.1, .int .i64 bl.2, .int .i64 x.1, .int .i64 x.2.1, xo, xg, xc] := by rw [hw2, ← e1]; exact Row.new _ _ _
  obtain ⟨w3, hw3⟩ : ∃ u, u = w2.alloc (.cells zc.toArray 36) := ⟨_, rfl⟩
  have B3 : Below w2.heap.size w2 w3 := by rw [hw3]; exact below_alloc _ _
  have RR : Row w3 (w.heap.size + 2) 36 zc := by rw [hw3, ← e2]; exact Row.new _ _ _
  have R1 := (R1.below B2).below B3
  have R2 := R2.below B3
  have B := below_and (below_and (B1) (Nat.le_refl _) B2) (Nat.le_refl _) B3
  have hw : w3 = ((w.alloc (.cells cs.toArray 36)).alloc (.cells #[.int .i64 k, .int .i64 bl.1, .int .i64 bl.2, .int .i64 x.1, .int .i64 x.2.1, xo, xg, xc] 39)).alloc (.cells zc.toArray 36) := by rw [hw3, hw2, hw1]
  have hN2 : w.heap.size + 2 < w3.heap.size := RR.lt
  clear hw1 hw2 hw3 e1 e2 B1 B2 B3
  have hlen := h.len
  have hone := h.one
  have hinf : (Try.prog.info? 36).map (·.size) = some cs.length := by rw [hlen]; exact Try.inf36
  have hzc : zc.length = cs.length := by rw [hzl, hlen]
  have hA := refAtW_any w3 cs low sls (h.mv B.size (Mv.belowG B)) k hk
  have X1 := (hxo.mv Mv.any).mv (Mv.below B); have X2 := (hxg.mv Mv.any).mv (Mv.below B)
  have HH := (show Hid (RDw G w cs low sls) from h)
  clear h
  have kk := R2.cell (j := 0) rfl
  go_enter Try.func27, Try.ntmps27
  go_upto_region 1 with fail
  rw [← hw]
  clear hw
  go_upto_region 2 with (first
    | (refine wl_load rfl _ _ rfl w.heap.size rfl _ _ R1 _ Try.underlying36 rfl hinf ?_)
    | (go_at_call 13; refine hA.mono ?_; rintro e w6 ⟨r0, rfl, hr0, b6⟩; generalize hs : atD low sls k = s at hr0; obtain ⟨o1, g1, o2, g2, cc, o3, g3, v1, rfl, T1, T2, T3, T4, T5, T6, T7, T8⟩ := hr0 G w HH.out; have hs1 := one_RSl (G := G) (w := w) (x := s) ⟨o1, g1, o2, g2, cc, o3, g3, v1, rfl, T1, T2, T3, T4, T5, T6, T7, T8⟩; have Rz := Row.new w6 33 [.int .i64 0, .int .i64 0, .int .i64 0, .int .i64 0, .slice none 0 0, .slice none 0 0, .int .i64 0, .int .i64 0, .int .i64 0, .int .i64 0, .slice none 0 0, .slice none 0 0, .slice none 0 0, .int .i64 0, .int .i64 0, .slice none 0 0, .slice none 0 0, .int .i64 0, .int .i64 0, .slice none 0 0, .bool false, .bool false, .bool false]; have Bz := below_alloc w6 (.cells #[.int .i64 0, .int .i64 0, .int .i64 0, .int .i64 0, .slice none 0 0, .slice none 0 0, .int .i64 0, .int .i64 0, .int .i64 0, .int .i64 0, .slice none 0 0, .slice none 0 0, .slice none 0 0, .int .i64 0, .int .i64 0, .slice none 0 0, .slice none 0 0, .int .i64 0, .int .i64 0, .slice none 0 0, .bool false, .bool false, .bool false] 33); replace hs := (show Hid _ from hs))
    | (refine wl_store rfl _ _ _ rfl w6.heap.size [.int .i64 s.voted.1, .int .i64 s.voted.2, .int .i64 s.vote.1, .int .i64 s.vote.2.1, o1, g1, .int .i64 s.pred.1, .int .i64 s.pred.2, .int .i64 s.prep.1, .int .i64 s.prep.2.1, o2, g2, cc, .int .i64 s.done.1, .int .i64 s.done.2.1, o3, g3, .int .i64 s.bal.1, .int .i64 s.bal.2, v1, .bool s.hv, .bool s.hp, .bool s.hd] rfl rfl _ _ Rz rfl (by kernel_rfl) hs1 ?_; intro w7 R7 g7))
  have RS := R7.out
  have b7 : Below w6.heap.size w6 w7 := Bz.trans (grown_below g7 Bz.size (fun k hk => by cases hk; exact Nat.le_refl _))
  have b67 := below_and b6 (Nat.le_refl _) b7
  have BB := below_and B (Nat.le_refl _) b67
  have hs6 := b6.size
  clear R7 Rz Bz g7 hs1 hA hr0
  have R1 := R1.below b67
  have R2 := R2.below b67
  have RR := RR.below b67
  have t1 := (T1.mv Mv.any).mv (Mv.below BB)
  have t2 := (T2.mv Mv.any).mv (Mv.below BB)
  have t3 := (T3.mv Mv.any).mv (Mv.below BB)
  have t4 := (T4.mv Mv.any).mv (Mv.below BB)
  have t6 := (T6.mv Mv.any).mv (Mv.below BB)
  have t7 := (T7.mv Mv.any).mv (Mv.below BB)
  have X1 := X1.mv (Mv.below b67); have X2 := X2.mv (Mv.below b67)
  have hI := refInW_any w7 cs low sls (HH.out.mv BB.size (Mv.belowG BB)) k hk
  have kk := R2.cell (j := 0) rfl
  have hh : s.hp = false := by rw [← hs.out]; exact hh0
  rw [hin] at hI
  have HST := (show Hid (dP low sls bl k x ct = (setD low sls k { s with hp := true, pred := bl, prep := x, cert := ct }, 0)) from by
    unfold dP prepS
    rw [hin, hs.out, hh]
    rfl)
  have hoB : ∀ v ∈ [Value.int .i64 bl.1, Value.int .i64 bl.2], v.oneCell' = true := by
    intro v hv
    simp only [List.mem_cons, List.not_mem_nil, or_false] at hv
    rcases hv with rfl | rfl <;> rfl
  go_upto_region 4 with (first
    | (with_reducible show wpList _ _ _ ({ dst := _, op := Op.load _ _, type := _, pos := _, after := _, guard := none } :: _) _ w7; refine wl_load rfl _ _ rfl w.heap.size rfl _ _ R1 _ Try.underlying36 rfl hinf ?_)
    | (go_at_call 15; refine hI.mono ?_; rintro e w8 ⟨rfl, b8⟩; have RS8 := RS.below b8; have f6 := RS8.cell (j := 6) rfl; have f7 := RS8.cell (j := 7) rfl; have f8 := RS8.cell (j := 8) rfl; have f9 := RS8.cell (j := 9) rfl; have f10 := RS8.cell (j := 10) rfl; have f11 := RS8.cell (j := 11) rfl; have f21 := RS8.cell (j := 21) rfl; have Rp8 := R2.below b8; have n0 := Rp8.cell (j := 0) rfl; have n1 := Rp8.cell (j := 1) rfl; have n2 := Rp8.cell (j := 2) rfl; have n3 := Rp8.cell (j := 3) rfl; have n4 := Rp8.cell (j := 4) rfl; have n5 := Rp8.cell (j := 5) rfl; have n6 := Rp8.cell (j := 6) rfl; have n7 := Rp8.cell (j := 7) rfl; rw [hh] at f21))
  skip
  have B9 := below_and BB (Nat.le_refl _) b8
  have hs9 := b8.size
  have C1 := R1.below b8
  have C2 := R2.below b8
  have CR := RR.below b8
  have CS := RS.below b8
  have hs7 := RS.lt
  go_upto_region 5 with (refine wl_set rfl _ _ _ rfl w6.heap.size 21 (.bool true) rfl rfl _ _ CS (show 21 < 23 by decide) (by kernel_rfl) rfl ?_; intro u0 D0 G0)
  have CS : Row u0 w6.heap.size 33 [.int .i64 s.voted.1, .int .i64 s.voted.2, .int .i64 s.vote.1, .int .i64 s.vote.2.1, o1, g1, .int .i64 s.pred.1, .int .i64 s.pred.2, .int .i64 s.prep.1, .int .i64 s.prep.2.1, o2, g2, cc, .int .i64 s.done.1, .int .i64 s.done.2.1, o3, g3, .int .i64 s.bal.1, .int .i64 s.bal.2, v1, .bool s.hv, .bool true, .bool s.hd] := D0.out
  have s0 := G0.size
  have C1 := C1.grown G0 (fun e => by have := Option.some.inj e; omega)
  have C2 := C2.grown G0 (fun e => by have := Option.some.inj e; omega)
  have CR := CR.grown G0 (fun e => by have := Option.some.inj e; omega)
  have B9 := B9.trans (grown_below G0 B9.size (fun k hk => by cases hk; omega))
  clear D0
  go_upto_region 6 with (first
    | (refine wl_part rfl _ _ rfl (w.heap.size + 1) 1 rfl _ _ C2 [.int .i64 bl.1, .int .i64 bl.2] rfl _ Try.underlying27 rfl (by kernel_rfl) ?_)
    | (refine wl_put rfl _ _ _ rfl w6.heap.size 6 [.int .i64 bl.1, .int .i64 bl.2] rfl rfl _ _ CS (show 8 ≤ 23 by decide) (by kernel_rfl) hoB ?_; intro u1 D1 G1))
  have CS : Row u1 w6.heap.size 33 [.int .i64 s.voted.1, .int .i64 s.voted.2, .int .i64 s.vote.1, .int .i64 s.vote.2.1, o1, g1, .int .i64 bl.1, .int .i64 bl.2, .int .i64 s.prep.1, .int .i64 s.prep.2.1, o2, g2, cc, .int .i64 s.done.1, .int .i64 s.done.2.1, o3, g3, .int .i64 s.bal.1, .int .i64 s.bal.2, v1, .bool s.hv, .bool true, .bool s.hd] := D1.out
  have s1 := G1.size
  have C1 := C1.grown G1 (fun e => by have := Option.some.inj e; omega)
  have C2 := C2.grown G1 (fun e => by have := Option.some.inj e; omega)
  have CR := CR.grown G1 (fun e => by have := Option.some.inj e; omega)
  have B9 := B9.trans (grown_below G1 B9.size (fun k hk => by cases hk; omega))
  clear D1
  go_upto_region 7 with (first
    | (refine wl_part rfl _ _ rfl (w.heap.size + 1) 3 rfl _ _ C2 [.int .i64 x.1, .int .i64 x.2.1, xo, xg] rfl _ Try.underlying30 rfl (by kernel_rfl) ?_)
    | (refine wl_put rfl _ _ _ rfl w6.heap.size 8 [.int .i64 x.1, .int .i64 x.2.1, xo, xg] rfl rfl _ _ CS (show 12 ≤ 23 by decide) (by kernel_rfl) (one4 X1.one X2.one) ?_; intro u2 D2 G2))
  have CS : Row u2 w6.heap.size 33 [.int .i64 s.voted.1, .int .i64 s.voted.2, .int .i64 s.vote.1, .int .i64 s.vote.2.1, o1, g1, .int .i64 bl.1, .int .i64 bl.2, .int .i64 x.1, .int .i64 x.2.1, xo, xg, cc, .int .i64 s.done.1, .int .i64 s.done.2.1, o3, g3, .int .i64 s.bal.1, .int .i64 s.bal.2, v1, .bool s.hv, .bool true, .bool s.hd] := D2.out
  have s2 := G2.size
  have C1 := C1.grown G2 (fun e => by have := Option.some.inj e; omega)
  have C2 := C2.grown G2 (fun e => by have := Option.some.inj e; omega)
  have CR := CR.grown G2 (fun e => by have := Option.some.inj e; omega)
  have B9 := B9.trans (grown_below G2 B9.size (fun k hk => by cases hk; omega))
  clear D2
  have c7 := C2.cell (j := 7) rfl
  go_upto_region 8 with (refine wl_set rfl _ _ _ rfl w6.heap.size 12 xc rfl rfl _ _ CS (show 12 < 23 by decide) (by kernel_rfl) hxc.one ?_; intro u3 D3 G3)
  have CS : Row u3 w6.heap.size 33 [.int .i64 s.voted.1, .int .i64 s.voted.2, .int .i64 s.vote.1, .int .i64 s.vote.2.1, o1, g1, .int .i64 bl.1, .int .i64 bl.2, .int .i64 x.1, .int .i64 x.2.1, xo, xg, xc, .int .i64 s.done.1, .int .i64 s.done.2.1, o3, g3, .int .i64 s.bal.1, .int .i64 s.bal.2, v1, .bool s.hv, .bool true, .bool s.hd] := D3.out
  have s3 := G3.size
  have C1 := C1.grown G3 (fun e => by have := Option.some.inj e; omega)
  have C2 := C2.grown G3 (fun e => by have := Option.some.inj e; omega)
  have CR := CR.grown G3 (fun e => by have := Option.some.inj e; omega)
  have B9 := B9.trans (grown_below G3 B9.size (fun k hk => by cases hk; omega))
  clear D3
  have hnew : RSl G w [.int .i64 s.voted.1, .int .i64 s.voted.2, .int .i64 s.vote.1, .int .i64 s.vote.2.1, o1, g1, .int .i64 bl.1, .int .i64 bl.2, .int .i64 x.1, .int .i64 x.2.1, xo, xg, xc, .int .i64 s.done.1, .int .i64 s.done.2.1, o3, g3, .int .i64 s.bal.1, .int .i64 s.bal.2, v1, .bool s.hv, .bool true, .bool s.hd] { s with hp := true, pred := bl, prep := x, cert := ct } := ⟨_, _, _, _, _, _, _, _, rfl, T1, T2, hxo, hxg, hxc, T6, T7, T8⟩
  have hWi := refWithW_any u3 cs low sls (HH.out.mv B9.size (Mv.belowG B9)) k hin [.int .i64 s.voted.1, .int .i64 s.voted.2, .int .i64 s.vote.1, .int .i64 s.vote.2.1, o1, g1, .int .i64 bl.1, .int .i64 bl.2, .int .i64 x.1, .int .i64 x.2.1, xo, xg, xc, .int .i64 s.done.1, .int .i64 s.done.2.1, o3, g3, .int .i64 s.bal.1, .int .i64 s.bal.2, v1, .bool s.hv, .bool true, .bool s.hd] { s with hp := true, pred := bl, prep := x, cert := ct } (mov_sl _ _ _ _ _ _ hnew B9.size (Mv.belowG B9))
  have kk := C2.cell (j := 0) rfl
  go_wp2_with (first
    | (refine wl_load rfl _ _ rfl w.heap.size rfl _ _ C1 _ Try.underlying36 rfl hinf ?_)
    | (refine wl_load rfl _ _ rfl w6.heap.size rfl _ _ CS _ Try.underlying33 rfl (by kernel_rfl) ?_)
    | (go_at_call 44; refine hWi.mono ?_; rintro e wv ⟨cs2, rfl, hD3, bv⟩; have hD2 := hD3 G w HH.out hnew; have CV := CR.below bv; have hl2 := hD2.len; have ho2 := hD2.one; have hinf2 : (Try.prog.info? 36).map (·.size) = some cs2.length := by rw [hl2]; exact Try.inf36)
    | (refine wl_store rfl _ _ _ rfl (w.heap.size + 2) cs2 rfl rfl _ _ CV (by rw [hzl, hl2]) hinf2 ho2 ?_; intro w9 R9 g9))
  refine bodyPost_ret (results_ctW rfl _ _ (w.heap.size + 2) _ _ (0, 0) _ (by rfl) R9.out Try.underlying36 rfl (by rw [List.size_toArray]; exact hinf2)) rfl ?_
  have BBx := below_and B9 (Nat.le_refl _) bv
  exact ⟨cs2, by rw [HST.out]; rfl, by rw [HST.out]; exact hD2, BBx.trans (grown_below g9 BBx.size (fun k hk => by cases hk; omega))⟩
set_option maxRecDepth 20000 in
set_option maxHeartbeats 8000000 in
theorem refPrepW_old {G : Nat → Prop} (w : World) (cs : List Value) (low : Int) (sls : List PSl) (h : RDw G w cs low sls) (bl : PBal) (k : Int) (xo xg : Value) (x : PReq) (hxo : RT G w xo x.2.2.1) (hxg : RT G w xg x.2.2.2) (xc : Value) (ct : List PVote) (hxc : RL RVote 2 G w xc ct) (hk : -9223372036854775808 ≤ k ∧ k ≤ 9223372036854775807) (hin : inW low k = true) (hh0 : (atD low sls k).hp = true) :
    Calls Try.prog 27 #[.agg cs.toArray, .agg #[.int .i64 k, .int .i64 bl.1, .int .i64 bl.2, .int .i64 x.1, .int .i64 x.2.1, xo, xg, xc]] w fun e w' => ∃ cs', e = .returned (.tuple #[.agg cs'.toArray, .int .i64 (dP low sls bl k x ct).2]) ∧ RDw G w cs' low (dP low sls bl k x ct).1 ∧ Below w.heap.size w w' := by
  obtain ⟨zc, hzl, hzv⟩ := zW_ex
  obtain ⟨w1, hw1⟩ : ∃ w1, w1 = w.alloc (.cells cs.toArray 36) := ⟨_, rfl⟩
  have e1 : w1.heap.size = w.heap.size + 1 := by rw [hw1]; simp
  have B1 : Below w.heap.size w w1 := by rw [hw1]; exact below_alloc _ _
  have R1 : Row w1 w.heap.size 36 cs := by rw [hw1]; exact Row.new _ _ _
  obtain ⟨w2, hw2⟩ : ∃ u, u = w1.alloc (.cells #[.int .i64 k, .int .i64 bl.1, .int .i64 bl.2, .int .i64 x.1, .int .i64 x.2.1, xo, xg, xc] 39) := ⟨_, rfl⟩
  have e2 : w2.heap.size = w.heap.size + 2 := by rw [hw2]; simp [e1]
  have B2 : Below w1.heap.size w1 w2 := by rw [hw2]; exact below_alloc _ _
  have R2 : Row w2 (w.heap.size + 1) 39 [.int .i64 k, .int .i64 bl.1, .int .i64 bl.2, .int .i64 x.1, .int .i64 x.2.1, xo, xg, xc] := by rw [hw2, ← e1]; exact Row.new _ _ _
  obtain ⟨w3, hw3⟩ : ∃ u, u = w2.alloc (.cells zc.toArray 36) := ⟨_, rfl⟩
  have B3 : Below w2.heap.size w2 w3 := by rw [hw3]; exact below_alloc _ _
  have RR : Row w3 (w.heap.size + 2) 36 zc := by rw [hw3, ← e2]; exact Row.new _ _ _
  have R1 := (R1.below B2).below B3
  have R2 := R2.below B3
  have B := below_and (below_and (B1) (Nat.le_refl _) B2) (Nat.le_refl _) B3
  have hw : w3 = ((w.alloc (.cells cs.toArray 36)).alloc (.cells #[.int .i64 k, .int .i64 bl.1, .int .i64 bl.2, .int .i64 x.1, .int .i64 x.2.1, xo, xg, xc] 39)).alloc (.cells zc.toArray 36) := by rw [hw3, hw2, hw1]
  have hN2 : w.heap.size + 2 < w3.heap.size := RR.lt
  clear hw1 hw2 hw3 e1 e2 B1 B2 B3
  have hlen := h.len
  have hone := h.one
  have hinf : (Try.prog.info? 36).map (·.size) = some cs.length := by rw [hlen]; exact Try.inf36
  have hzc : zc.length = cs.length := by rw [hzl, hlen]
  have hA := refAtW_any w3 cs low sls (h.mv B.size (Mv.belowG B)) k hk
  have X1 := (hxo.mv Mv.any).mv (Mv.below B); have X2 := (hxg.mv Mv.any).mv (Mv.below B)
  have HH := (show Hid (RDw G w cs low sls) from h)
  clear h
  have kk := R2.cell (j := 0) rfl
  go_enter Try.func27, Try.ntmps27
  go_upto_region 1 with fail
  rw [← hw]
  clear hw
  go_upto_region 2 with (first
    | (refine wl_load rfl _ _ rfl w.heap.size rfl _ _ R1 _ Try.underlying36 rfl hinf ?_)
    | (go_at_call 13; refine hA.mono ?_; rintro e w6 ⟨r0, rfl, hr0, b6⟩; generalize hs : atD low sls k = s at hr0; obtain ⟨o1, g1, o2, g2, cc, o3, g3, v1, rfl, T1, T2, T3, T4, T5, T6, T7, T8⟩ := hr0 G w HH.out; have hs1 := one_RSl (G := G) (w := w) (x := s) ⟨o1, g1, o2, g2, cc, o3, g3, v1, rfl, T1, T2, T3, T4, T5, T6, T7, T8⟩; have Rz := Row.new w6 33 [.int .i64 0, .int .i64 0, .int .i64 0, .int .i64 0, .slice none 0 0, .slice none 0 0, .int .i64 0, .int .i64 0, .int .i64 0, .int .i64 0, .slice none 0 0, .slice none 0 0, .slice none 0 0, .int .i64 0, .int .i64 0, .slice none 0 0, .slice none 0 0, .int .i64 0, .int .i64 0, .slice none 0 0, .bool false, .bool false, .bool false]; have Bz := below_alloc w6 (.cells #[.int .i64 0, .int .i64 0, .int .i64 0, .int .i64 0, .slice none 0 0, .slice none 0 0, .int .i64 0, .int .i64 0, .int .i64 0, .int .i64 0, .slice none 0 0, .slice none 0 0, .slice none 0 0, .int .i64 0, .int .i64 0, .slice none 0 0, .slice none 0 0, .int .i64 0, .int .i64 0, .slice none 0 0, .bool false, .bool false, .bool false] 33); replace hs := (show Hid _ from hs))
    | (refine wl_store rfl _ _ _ rfl w6.heap.size [.int .i64 s.voted.1, .int .i64 s.voted.2, .int .i64 s.vote.1, .int .i64 s.vote.2.1, o1, g1, .int .i64 s.pred.1, .int .i64 s.pred.2, .int .i64 s.prep.1, .int .i64 s.prep.2.1, o2, g2, cc, .int .i64 s.done.1, .int .i64 s.done.2.1, o3, g3, .int .i64 s.bal.1, .int .i64 s.bal.2, v1, .bool s.hv, .bool s.hp, .bool s.hd] rfl rfl _ _ Rz rfl (by kernel_rfl) hs1 ?_; intro w7 R7 g7))
  have RS := R7.out
  have b7 : Below w6.heap.size w6 w7 := Bz.trans (grown_below g7 Bz.size (fun k hk => by cases hk; exact Nat.le_refl _))
  have b67 := below_and b6 (Nat.le_refl _) b7
  have BB := below_and B (Nat.le_refl _) b67
  have hs6 := b6.size
  clear R7 Rz Bz g7 hs1 hA hr0
  have R1 := R1.below b67
  have R2 := R2.below b67
  have RR := RR.below b67
  have t1 := (T1.mv Mv.any).mv (Mv.below BB)
  have t2 := (T2.mv Mv.any).mv (Mv.below BB)
  have t3 := (T3.mv Mv.any).mv (Mv.below BB)
  have t4 := (T4.mv Mv.any).mv (Mv.below BB)
  have t6 := (T6.mv Mv.any).mv (Mv.below BB)
  have t7 := (T7.mv Mv.any).mv (Mv.below BB)
  have X1 := X1.mv (Mv.below b67); have X2 := X2.mv (Mv.below b67)
  have hI := refInW_any w7 cs low sls (HH.out.mv BB.size (Mv.belowG BB)) k hk
  have kk := R2.cell (j := 0) rfl
  have hh : s.hp = true := by rw [← hs.out]; exact hh0
  rw [hin] at hI
  have hoB : ∀ v ∈ [Value.int .i64 bl.1, Value.int .i64 bl.2], v.oneCell' = true := by
    intro v hv
    simp only [List.mem_cons, List.not_mem_nil, or_false] at hv
    rcases hv with rfl | rfl <;> rfl
  cases hff : fitL s.pred bl s.prep x with
  | false =>
    have HF := (show Hid (∀ u, Below w7.heap.size w7 u → Calls Try.prog 43 #[bal s.pred.1 s.pred.2, bal bl.1 bl.2, .agg #[.int .i64 s.prep.1, .int .i64 s.prep.2.1, o2, g2], .agg #[.int .i64 x.1, .int .i64 x.2.1, xo, xg]] u fun e w' => e = .returned (.bool false) ∧ Below u.heap.size u w') from fun u hu => by
      rw [← hff]
      exact refFits_any u s.pred bl [.int .i64 s.prep.1, .int .i64 s.prep.2.1, o2, g2] [.int .i64 x.1, .int .i64 x.2.1, xo, xg] s.prep x ⟨_, _, rfl, t3.mv (Mv.below hu), t4.mv (Mv.below hu)⟩ ⟨_, _, rfl, X1.mv (Mv.below hu), X2.mv (Mv.below hu)⟩)
    have HST := (show Hid (dP low sls bl k x ct = (sls, 171)) from by
      unfold dP prepS
      rw [hin, hs.out, hh, hff]
      rfl)
    go_upto_region 3 with (first
      | (with_reducible show wpList _ _ _ ({ dst := _, op := Op.load _ _, type := _, pos := _, after := _, guard := none } :: _) _ w7; refine wl_load rfl _ _ rfl w.heap.size rfl _ _ R1 _ Try.underlying36 rfl hinf ?_)
      | (go_at_call 15; refine hI.mono ?_; rintro e w8 ⟨rfl, b8⟩; have RS8 := RS.below b8; have f6 := RS8.cell (j := 6) rfl; have f7 := RS8.cell (j := 7) rfl; have f8 := RS8.cell (j := 8) rfl; have f9 := RS8.cell (j := 9) rfl; have f10 := RS8.cell (j := 10) rfl; have f11 := RS8.cell (j := 11) rfl; have f21 := RS8.cell (j := 21) rfl; have Rp8 := R2.below b8; have n0 := Rp8.cell (j := 0) rfl; have n1 := Rp8.cell (j := 1) rfl; have n2 := Rp8.cell (j := 2) rfl; have n3 := Rp8.cell (j := 3) rfl; have n4 := Rp8.cell (j := 4) rfl; have n5 := Rp8.cell (j := 5) rfl; have n6 := Rp8.cell (j := 6) rfl; have n7 := Rp8.cell (j := 7) rfl; rw [hh] at f21)
      | (go_at_call 43; refine (HF.out _ b8).mono ?_; rintro e w9 ⟨rfl, b89⟩; have b9 := below_and b8 (Nat.le_refl _) b89; have RC9 := R1.below b9; have RR9 := RR.below b9))
    skip
    go_wp2_with (first
      | (refine wl_load rfl _ _ rfl w.heap.size rfl _ _ RC9 _ Try.underlying36 rfl hinf ?_)
      | (refine wl_store rfl _ _ _ rfl (w.heap.size + 2) cs rfl rfl _ _ RR9 hzc hinf hone ?_; intro w10 R9 g9))
    refine bodyPost_ret (results_ctW rfl _ _ (w.heap.size + 2) _ _ (0, 0) _ (by rfl) R9.out Try.underlying36 rfl (by rw [List.size_toArray]; exact hinf)) rfl ?_
    have BBx := below_and BB (Nat.le_refl _) b9
    exact ⟨cs, by rw [HST.out]; rfl, by rw [HST.out]; exact HH.out, BBx.trans (grown_below g9 BBx.size (fun k hk => by cases hk; omega))⟩
  | true =>
    have HF := (show Hid (∀ u, Below w7.heap.size w7 u → Calls Try.prog 43 #[bal s.pred.1 s.pred.2, bal bl.1 bl.2, .agg #[.int .i64 s.prep.1, .int .i64 s.prep.2.1, o2, g2], .agg #[.int .i64 x.1, .int .i64 x.2.1, xo, xg]] u fun e w' => e = .returned (.bool true) ∧ Below u.heap.size u w') from fun u hu => by
      rw [← hff]
      exact refFits_any u s.pred bl [.int .i64 s.prep.1, .int .i64 s.prep.2.1, o2, g2] [.int .i64 x.1, .int .i64 x.2.1, xo, xg] s.prep x ⟨_, _, rfl, t3.mv (Mv.below hu), t4.mv (Mv.below hu)⟩ ⟨_, _, rfl, X1.mv (Mv.below hu), X2.mv (Mv.below hu)⟩)
    have HST := (show Hid (dP low sls bl k x ct = (setD low sls k { s with hp := true, pred := bl, prep := x, cert := ct }, 0)) from by
      unfold dP prepS
      rw [hin, hs.out, hh, hff]
      rfl)
    go_upto_region 4 with (first
      | (with_reducible show wpList _ _ _ ({ dst := _, op := Op.load _ _, type := _, pos := _, after := _, guard := none } :: _) _ w7; refine wl_load rfl _ _ rfl w.heap.size rfl _ _ R1 _ Try.underlying36 rfl hinf ?_)
      | (go_at_call 15; refine hI.mono ?_; rintro e w8 ⟨rfl, b8⟩; have RS8 := RS.below b8; have f6 := RS8.cell (j := 6) rfl; have f7 := RS8.cell (j := 7) rfl; have f8 := RS8.cell (j := 8) rfl; have f9 := RS8.cell (j := 9) rfl; have f10 := RS8.cell (j := 10) rfl; have f11 := RS8.cell (j := 11) rfl; have f21 := RS8.cell (j := 21) rfl; have Rp8 := R2.below b8; have n0 := Rp8.cell (j := 0) rfl; have n1 := Rp8.cell (j := 1) rfl; have n2 := Rp8.cell (j := 2) rfl; have n3 := Rp8.cell (j := 3) rfl; have n4 := Rp8.cell (j := 4) rfl; have n5 := Rp8.cell (j := 5) rfl; have n6 := Rp8.cell (j := 6) rfl; have n7 := Rp8.cell (j := 7) rfl; rw [hh] at f21)
      | (go_at_call 43; refine (HF.out _ b8).mono ?_; rintro e w9 ⟨rfl, b89⟩; have b9 := below_and b8 (Nat.le_refl _) b89))
    skip
    have B9 := below_and BB (Nat.le_refl _) b9
    have hs9 := b9.size
    have C1 := R1.below b9
    have C2 := R2.below b9
    have CR := RR.below b9
    have CS := RS.below b9
    have hs7 := RS.lt
    go_upto_region 5 with (refine wl_set rfl _ _ _ rfl w6.heap.size 21 (.bool true) rfl rfl _ _ CS (show 21 < 23 by decide) (by kernel_rfl) rfl ?_; intro u0 D0 G0)
    have CS : Row u0 w6.heap.size 33 [.int .i64 s.voted.1, .int .i64 s.voted.2, .int .i64 s.vote.1, .int .i64 s.vote.2.1, o1, g1, .int .i64 s.pred.1, .int .i64 s.pred.2, .int .i64 s.prep.1, .int .i64 s.prep.2.1, o2, g2, cc, .int .i64 s.done.1, .int .i64 s.done.2.1, o3, g3, .int .i64 s.bal.1, .int .i64 s.bal.2, v1, .bool s.hv, .bool true, .bool s.hd] := D0.out
    have s0 := G0.size
    have C1 := C1.grown G0 (fun e => by have := Option.some.inj e; omega)
    have C2 := C2.grown G0 (fun e => by have := Option.some.inj e; omega)
    have CR := CR.grown G0 (fun e => by have := Option.some.inj e; omega)
    have B9 := B9.trans (grown_below G0 B9.size (fun k hk => by cases hk; omega))
    clear D0
    go_upto_region 6 with (first
      | (refine wl_part rfl _ _ rfl (w.heap.size + 1) 1 rfl _ _ C2 [.int .i64 bl.1, .int .i64 bl.2] rfl _ Try.underlying27 rfl (by kernel_rfl) ?_)
      | (refine wl_put rfl _ _ _ rfl w6.heap.size 6 [.int .i64 bl.1, .int .i64 bl.2] rfl rfl _ _ CS (show 8 ≤ 23 by decide) (by kernel_rfl) hoB ?_; intro u1 D1 G1))
    have CS : Row u1 w6.heap.size 33 [.int .i64 s.voted.1, .int .i64 s.voted.2, .int .i64 s.vote.1, .int .i64 s.vote.2.1, o1, g1, .int .i64 bl.1, .int .i64 bl.2, .int .i64 s.prep.1, .int .i64 s.prep.2.1, o2, g2, cc, .int .i64 s.done.1, .int .i64 s.done.2.1, o3, g3, .int .i64 s.bal.1, .int .i64 s.bal.2, v1, .bool s.hv, .bool true, .bool s.hd] := D1.out
    have s1 := G1.size
    have C1 := C1.grown G1 (fun e => by have := Option.some.inj e; omega)
    have C2 := C2.grown G1 (fun e => by have := Option.some.inj e; omega)
    have CR := CR.grown G1 (fun e => by have := Option.some.inj e; omega)
    have B9 := B9.trans (grown_below G1 B9.size (fun k hk => by cases hk; omega))
    clear D1
    go_upto_region 7 with (first
      | (refine wl_part rfl _ _ rfl (w.heap.size + 1) 3 rfl _ _ C2 [.int .i64 x.1, .int .i64 x.2.1, xo, xg] rfl _ Try.underlying30 rfl (by kernel_rfl) ?_)
      | (refine wl_put rfl _ _ _ rfl w6.heap.size 8 [.int .i64 x.1, .int .i64 x.2.1, xo, xg] rfl rfl _ _ CS (show 12 ≤ 23 by decide) (by kernel_rfl) (one4 X1.one X2.one) ?_; intro u2 D2 G2))
    have CS : Row u2 w6.heap.size 33 [.int .i64 s.voted.1, .int .i64 s.voted.2, .int .i64 s.vote.1, .int .i64 s.vote.2.1, o1, g1, .int .i64 bl.1, .int .i64 bl.2, .int .i64 x.1, .int .i64 x.2.1, xo, xg, cc, .int .i64 s.done.1, .int .i64 s.done.2.1, o3, g3, .int .i64 s.bal.1, .int .i64 s.bal.2, v1, .bool s.hv, .bool true, .bool s.hd] := D2.out
    have s2 := G2.size
    have C1 := C1.grown G2 (fun e => by have := Option.some.inj e; omega)
    have C2 := C2.grown G2 (fun e => by have := Option.some.inj e; omega)
    have CR := CR.grown G2 (fun e => by have := Option.some.inj e; omega)
    have B9 := B9.trans (grown_below G2 B9.size (fun k hk => by cases hk; omega))
    clear D2
    have c7 := C2.cell (j := 7) rfl
    go_upto_region 8 with (refine wl_set rfl _ _ _ rfl w6.heap.size 12 xc rfl rfl _ _ CS (show 12 < 23 by decide) (by kernel_rfl) hxc.one ?_; intro u3 D3 G3)
    have CS : Row u3 w6.heap.size 33 [.int .i64 s.voted.1, .int .i64 s.voted.2, .int .i64 s.vote.1, .int .i64 s.vote.2.1, o1, g1, .int .i64 bl.1, .int .i64 bl.2, .int .i64 x.1, .int .i64 x.2.1, xo, xg, xc, .int .i64 s.done.1, .int .i64 s.done.2.1, o3, g3, .int .i64 s.bal.1, .int .i64 s.bal.2, v1, .bool s.hv, .bool true, .bool s.hd] := D3.out
    have s3 := G3.size
    have C1 := C1.grown G3 (fun e => by have := Option.some.inj e; omega)
    have C2 := C2.grown G3 (fun e => by have := Option.some.inj e; omega)
    have CR := CR.grown G3 (fun e => by have := Option.some.inj e; omega)
    have B9 := B9.trans (grown_below G3 B9.size (fun k hk => by cases hk; omega))
    clear D3
    have hnew : RSl G w [.int .i64 s.voted.1, .int .i64 s.voted.2, .int .i64 s.vote.1, .int .i64 s.vote.2.1, o1, g1, .int .i64 bl.1, .int .i64 bl.2, .int .i64 x.1, .int .i64 x.2.1, xo, xg, xc, .int .i64 s.done.1, .int .i64 s.done.2.1, o3, g3, .int .i64 s.bal.1, .int .i64 s.bal.2, v1, .bool s.hv, .bool true, .bool s.hd] { s with hp := true, pred := bl, prep := x, cert := ct } := ⟨_, _, _, _, _, _, _, _, rfl, T1, T2, hxo, hxg, hxc, T6, T7, T8⟩
    have hWi := refWithW_any u3 cs low sls (HH.out.mv B9.size (Mv.belowG B9)) k hin [.int .i64 s.voted.1, .int .i64 s.voted.2, .int .i64 s.vote.1, .int .i64 s.vote.2.1, o1, g1, .int .i64 bl.1, .int .i64 bl.2, .int .i64 x.1, .int .i64 x.2.1, xo, xg, xc, .int .i64 s.done.1, .int .i64 s.done.2.1, o3, g3, .int .i64 s.bal.1, .int .i64 s.bal.2, v1, .bool s.hv, .bool true, .bool s.hd] { s with hp := true, pred := bl, prep := x, cert := ct } (mov_sl _ _ _ _ _ _ hnew B9.size (Mv.belowG B9))
    have kk := C2.cell (j := 0) rfl
    go_wp2_with (first
      | (refine wl_load rfl _ _ rfl w.heap.size rfl _ _ C1 _ Try.underlying36 rfl hinf ?_)
      | (refine wl_load rfl _ _ rfl w6.heap.size rfl _ _ CS _ Try.underlying33 rfl (by kernel_rfl) ?_)
      | (go_at_call 44; refine hWi.mono ?_; rintro e wv ⟨cs2, rfl, hD3, bv⟩; have hD2 := hD3 G w HH.out hnew; have CV := CR.below bv; have hl2 := hD2.len; have ho2 := hD2.one; have hinf2 : (Try.prog.info? 36).map (·.size) = some cs2.length := by rw [hl2]; exact Try.inf36)
      | (refine wl_store rfl _ _ _ rfl (w.heap.size + 2) cs2 rfl rfl _ _ CV (by rw [hzl, hl2]) hinf2 ho2 ?_; intro w9 R9 g9))
    refine bodyPost_ret (results_ctW rfl _ _ (w.heap.size + 2) _ _ (0, 0) _ (by rfl) R9.out Try.underlying36 rfl (by rw [List.size_toArray]; exact hinf2)) rfl ?_
    have BBx := below_and B9 (Nat.le_refl _) bv
    exact ⟨cs2, by rw [HST.out]; rfl, by rw [HST.out]; exact hD2, BBx.trans (grown_below g9 BBx.size (fun k hk => by cases hk; omega))⟩
theorem refPrepW_any {G : Nat → Prop} (w : World) (cs : List Value) (low : Int) (sls : List PSl) (h : RDw G w cs low sls) (bl : PBal) (k : Int) (xo xg : Value) (x : PReq) (hxo : RT G w xo x.2.2.1) (hxg : RT G w xg x.2.2.2) (xc : Value) (ct : List PVote) (hxc : RL RVote 2 G w xc ct) (hk : -9223372036854775808 ≤ k ∧ k ≤ 9223372036854775807) :
    Calls Try.prog 27 #[.agg cs.toArray, .agg #[.int .i64 k, .int .i64 bl.1, .int .i64 bl.2, .int .i64 x.1, .int .i64 x.2.1, xo, xg, xc]] w fun e w' => ∃ cs', e = .returned (.tuple #[.agg cs'.toArray, .int .i64 (dP low sls bl k x ct).2]) ∧ RDw G w cs' low (dP low sls bl k x ct).1 ∧ Below w.heap.size w w' := by
  cases hin : inW low k with
  | false => exact refPrepW_out w cs low sls h bl k xo xg x hxo hxg xc ct hxc hk hin
  | true =>
    cases hh : (atD low sls k).hp with
    | false => exact refPrepW_new w cs low sls h bl k xo xg x hxo hxg xc ct hxc hk hin hh
    | true => exact refPrepW_old w cs low sls h bl k xo xg x hxo hxg xc ct hxc hk hin hh
end Go.Proofs.Ytjloehkolnjnhaa
