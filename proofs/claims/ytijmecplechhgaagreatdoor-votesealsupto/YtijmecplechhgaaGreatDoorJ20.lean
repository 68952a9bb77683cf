/- Sealed messages: the document's Sealed. Made by mk13v.py. -/
import Derived.Test.YtijmecplechhgaaGreatDoorJ06
import Derived.Test.YtijmecplechhgaaGreatDoorSs1
import Derived.Test.YtijmecplechhgaaGreatDoorJ19
section
set_option linter.unusedVariables false
set_option linter.unusedSimpArgs false
namespace Go.Proofs.YtijmecplechhgaaGreatDoor
open Go.RowKit Oct

set_option maxRecDepth 10000 in
set_option maxHeartbeats 4000000 in
/-- SameReport, of reports with unlike signatures. -/
theorem sameReport_ne (w : World) (r1 r2 : List Value) (x : PRep) (g : List Int) (hne : x.2.2.2.2.2.2 ≠ g) (h1 : RRep Any w r1 x) (h2 : RRep Any w r2 (repSig x g)) :
    Calls Tryz.prog 30 #[.agg r1.toArray, .agg r2.toArray] w fun e w' => e = .returned (.bool false) ∧ Below w.heap.size w w' := by
  obtain ⟨d1, s1, p1, g1, rfl, hd1, hs1, hp1, hg1⟩ := h1
  obtain ⟨d2, s2, p2, g2, e2', hd2', hs2', hp2', hg2'⟩ := h2
  have e2 : r2 = [.int .i64 x.1.1, .int .i64 x.1.2, .int .i64 x.2.1, .int .i64 x.2.2.1, d2, s2, p2, g2] := e2'
  have hd2 : RT Any w d2 x.2.2.2.1 := hd2'
  have hs2 : RL RVote 2 Any w s2 x.2.2.2.2.1 := hs2'
  have hp2 : RL RPrep 8 Any w p2 x.2.2.2.2.2.1 := hp2'
  have hg2 : RT Any w g2 g := hg2'
  clear e2' hd2' hs2' hp2' hg2'
  subst e2
  obtain ⟨ao1, ca1, rfl, hm1⟩ := hp1.form
  obtain ⟨ao2, ca2, rfl, hm2⟩ := hp2.form
  obtain ⟨w2, hw2⟩ : ∃ w2, w2 = (w.alloc (.cells #[.int .i64 x.1.1, .int .i64 x.1.2, .int .i64 x.2.1, .int .i64 x.2.2.1, d1, s1, .slice ao1 x.2.2.2.2.2.1.length ca1, g1] 48)).alloc (.cells #[.int .i64 x.1.1, .int .i64 x.1.2, .int .i64 x.2.1, .int .i64 x.2.2.1, d2, s2, .slice ao2 x.2.2.2.2.2.1.length ca2, g2] 48) := ⟨_, rfl⟩
  have ra : Row w2 w.heap.size 48 [.int .i64 x.1.1, .int .i64 x.1.2, .int .i64 x.2.1, .int .i64 x.2.2.1, d1, s1, .slice ao1 x.2.2.2.2.2.1.length ca1, g1] := by rw [hw2]; exact row_alloc (Row.new w 48 _) _
  have rb : Row w2 (w.heap.size + 1) 48 [.int .i64 x.1.1, .int .i64 x.1.2, .int .i64 x.2.1, .int .i64 x.2.2.1, d2, s2, .slice ao2 x.2.2.2.2.2.1.length ca2, g2] := by
    rw [hw2]
    have := Row.new (w.alloc (.cells #[.int .i64 x.1.1, .int .i64 x.1.2, .int .i64 x.2.1, .int .i64 x.2.2.1, d1, s1, .slice ao1 x.2.2.2.2.2.1.length ca1, g1] 48)) 48 [.int .i64 x.1.1, .int .i64 x.1.2, .int .i64 x.2.1, .int .i64 x.2.2.1, d2, s2, .slice ao2 x.2.2.2.2.2.1.length ca2, g2]
    simpa using this
  have hB : Below w.heap.size w w2 := by rw [hw2]; exact ((Below.refl _ w).alloc (Nat.le_refl _) _).alloc (by simp) _
  have sD := same_eq_any w2 d1 d2 _ (hd1.mv (Mv.below hB)).1 (hd2.mv (Mv.below hB)).1
  have sS := sameVotes_eq w2 s1 s2 _ (hs1.mv mov_vote hB.size (Mv.below hB)) (hs2.mv mov_vote hB.size (Mv.below hB))
  have hbn := balNe_eq x.1.1 x.1.2
  have hn1 : (x.2.1 != x.2.1) = false := by simp
  have hn2 : (x.2.2.1 != x.2.2.1) = false := by simp
  have hn3 : ((x.2.2.2.2.2.1.length : Int) != (x.2.2.2.2.2.1.length : Int)) = false := by simp
  go_enter Tryz.func30, Tryz.ntmps30
  go_upto_region 1 with fail
  rw [← hw2]
  clear hw2
  have a2 := ra.cell (j := 2) rfl; have a3 := ra.cell (j := 3) rfl; have a4 := ra.cell (j := 4) rfl; have a5 := ra.cell (j := 5) rfl
  have b2 := rb.cell (j := 2) rfl; have b3 := rb.cell (j := 3) rfl; have b4 := rb.cell (j := 4) rfl; have b5 := rb.cell (j := 5) rfl
  go_wp2_with (first
    | (refine wl_part rfl _ _ rfl w.heap.size 0 rfl _ _ ra [.int .i64 x.1.1, .int .i64 x.1.2] rfl _ Tryz.underlying23 rfl (by kernel_rfl) ?_)
    | (refine wl_part rfl _ _ rfl (w.heap.size + 1) 0 rfl _ _ rb [.int .i64 x.1.1, .int .i64 x.1.2] rfl _ Tryz.underlying23 rfl (by kernel_rfl) ?_))
  refine sD.mono ?_
  rintro e w3 ⟨rfl, rfl⟩
  clear sD
  go_wp2_with fail
  refine sS.mono ?_
  rintro e w4 ⟨rfl, hb4⟩
  have ra4 := ra.below hb4
  have rb4 := rb.below hb4
  have hB4 := below_and hB (Nat.le_refl _) hb4
  have a6 := ra4.cell (j := 6) rfl; have a7 := ra4.cell (j := 7) rfl
  have b6 := rb4.cell (j := 6) rfl; have b7 := rb4.cell (j := 7) rfl
  have sG := same_any w4 g1 g2 _ _ (hg1.mv (Mv.below hB4)).1 (hg2.mv (Mv.below hB4)).1
  rw [decide_eq_false hne] at sG
  clear sS a2 a3 a4 a5 b2 b3 b4 b5 ra rb hB hb4
  go_wp2_with fail
  refine sG.mono ?_
  rintro e w5 ⟨rfl, rfl⟩
  go_wp2_with fail
  go_ret
  exact ⟨rfl, hB4⟩
set_option maxRecDepth 20000 in
set_option maxHeartbeats 8000000 in
/-- Same, of messages whose own signatures are unlike. -/
theorem sameMsg_ns (w : World) (m : PMsg) (s t : SV) (g : List Int) (hne : m.sig ≠ g) (hs : SOk Any w m s) (ht : SOk Any w { m with sig := g } t) :
    Calls Tryz.prog 9 #[.agg (mc m s).toArray, .agg (mc m t).toArray] w fun e w' => e = .returned (.bool false) ∧ Below w.heap.size w w' := by
  obtain ⟨w2, hw2⟩ : ∃ w2, w2 = (w.alloc (.cells (mc m s).toArray 32)).alloc (.cells (mc m t).toArray 32) := ⟨_, rfl⟩
  have ra : Row w2 w.heap.size 32 (mc m s) := by rw [hw2]; exact row_alloc (Row.new w 32 _) _
  have rb : Row w2 (w.heap.size + 1) 32 (mc m t) := by
    rw [hw2]
    have := Row.new (w.alloc (.cells (mc m s).toArray 32)) 32 (mc m t)
    simpa using this
  have hB : Below w.heap.size w w2 := by rw [hw2]; exact ((Below.refl _ w).alloc (Nat.le_refl _) _).alloc (by simp) _
  have hbn := balNe_eq m.bal.1 m.bal.2
  have hnkind : (m.kind != m.kind) = false := by simp
  have hnslot : (m.slot != m.slot) = false := by simp
  have hnfrm : (m.frm != m.frm) = false := by simp
  have hnto : (m.to != m.to) = false := by simp
  have hnidx : (m.idx != m.idx) = false := by simp
  have hncnt : (m.cnt != m.cnt) = false := by simp
  go_enter Tryz.func9, Tryz.ntmps9
  go_upto_region 1 with fail
  rw [← hw2]
  clear hw2
  generalize hN0 : w.heap.size = N0 at ra rb ⊢
  generalize hN1 : N0 + 1 = N1 at rb ⊢
  have a0 := ra.cell (j := 0) rfl; have b0 := rb.cell (j := 0) rfl
  have a3 := ra.cell (j := 3) rfl; have b3 := rb.cell (j := 3) rfl
  have a4 := ra.cell (j := 4) rfl; have b4 := rb.cell (j := 4) rfl
  have a5 := ra.cell (j := 5) rfl; have b5 := rb.cell (j := 5) rfl
  have a6 := ra.cell (j := 6) rfl; have b6 := rb.cell (j := 6) rfl
  have a7 := ra.cell (j := 7) rfl; have b7 := rb.cell (j := 7) rfl
  go_wp2_with (first
    | (refine wl_part_w (by rfl) _ _ rfl N0 1 rfl _ _ ra [.int .i64 m.bal.1, .int .i64 m.bal.2] rfl _ Tryz.underlying23 rfl (by kernel_rfl) ?_)
    | (refine wl_part_w (by rfl) _ _ rfl N1 1 rfl _ _ rb [.int .i64 m.bal.1, .int .i64 m.bal.2] rfl _ Tryz.underlying23 rfl (by kernel_rfl) ?_)
    | (refine wl_part rfl _ _ rfl N0 8 rfl _ _ ra [.int .i64 m.req.1, .int .i64 m.req.2.1, s.o, s.g] rfl _ Tryz.underlying26 rfl (by kernel_rfl) ?_)
    | (refine wl_part rfl _ _ rfl N1 8 rfl _ _ rb [.int .i64 m.req.1, .int .i64 m.req.2.1, t.o, t.g] rfl _ Tryz.underlying26 rfl (by kernel_rfl) ?_))
  clear a0 a3 a4 a5 a6 a7 b0 b3 b4 b5 b6 b7 hbn hnkind hnslot hnfrm hnto hnidx hncnt
  refine (sameReq_eq w2 [.int .i64 m.req.1, .int .i64 m.req.2.1, s.o, s.g] [.int .i64 m.req.1, .int .i64 m.req.2.1, t.o, t.g] m.req ⟨_, _, rfl, hs.o.mv (Mv.below hB), hs.g.mv (Mv.below hB)⟩ ⟨_, _, rfl, ht.o.mv (Mv.below hB), ht.g.mv (Mv.below hB)⟩).mono ?_
  rintro e w3 ⟨rfl, hb3⟩
  have ra := ra.below hb3
  have rb := rb.below hb3
  have hB := below_and hB (Nat.le_refl _) hb3
  clear hb3
  go_wp2_with (first
    | (refine wl_part_w (by rfl) _ _ rfl N0 12 rfl _ _ ra [.int .i64 m.oth.1, .int .i64 m.oth.2.1, s.o', s.g'] rfl _ Tryz.underlying26 rfl (by kernel_rfl) ?_)
    | (refine wl_part_w (by rfl) _ _ rfl N1 12 rfl _ _ rb [.int .i64 m.oth.1, .int .i64 m.oth.2.1, t.o', t.g'] rfl _ Tryz.underlying26 rfl (by kernel_rfl) ?_))
  refine (sameReq_eq w3 [.int .i64 m.oth.1, .int .i64 m.oth.2.1, s.o', s.g'] [.int .i64 m.oth.1, .int .i64 m.oth.2.1, t.o', t.g'] m.oth ⟨_, _, rfl, hs.o'.mv (Mv.below hB), hs.g'.mv (Mv.below hB)⟩ ⟨_, _, rfl, ht.o'.mv (Mv.below hB), ht.g'.mv (Mv.below hB)⟩).mono ?_
  rintro e w4 ⟨rfl, hb4⟩
  have ra := ra.below hb4
  have rb := rb.below hb4
  have hB := below_and hB (Nat.le_refl _) hb4
  clear hb4
  have a16 := ra.cell (j := 16) rfl; have b16 := rb.cell (j := 16) rfl; have a17 := ra.cell (j := 17) rfl; have b17 := rb.cell (j := 17) rfl; have a18 := ra.cell (j := 18) rfl; have b18 := rb.cell (j := 18) rfl
  go_wp2_with fail
  refine (same_eq_any w4 s.d t.d _ (hs.d.mv (Mv.below hB)).1 (ht.d.mv (Mv.below hB)).1).mono ?_
  rintro e w5 ⟨rfl, rfl⟩
  go_wp2_with fail
  have sG := same_any w5 s.s t.s m.sig g (hs.s.mv (Mv.below hB)).1 (ht.s.mv (Mv.below hB)).1
  rw [decide_eq_false hne] at sG
  refine sG.mono ?_
  rintro e w5 ⟨rfl, rfl⟩
  go_wp2_with fail
  go_ret
  exact ⟨rfl, hB⟩
set_option maxRecDepth 20000 in
set_option maxHeartbeats 8000000 in
/-- Same, of messages whose one reports' signatures are unlike. -/
theorem sameMsg_nr (w : World) (m : PMsg) (s t : SV) (r : PRep) (g : List Int) (hr : m.reps = [r]) (hne : r.2.2.2.2.2.2 ≠ g) (hs : SOk Any w m s) (ht : SOk Any w { m with reps := [repSig r g] } t) :
    Calls Tryz.prog 9 #[.agg (mc m s).toArray, .agg (mc m t).toArray] w fun e w' => e = .returned (.bool false) ∧ Below w.heap.size w w' := by
  obtain ⟨w2, hw2⟩ : ∃ w2, w2 = (w.alloc (.cells (mc m s).toArray 32)).alloc (.cells (mc m t).toArray 32) := ⟨_, rfl⟩
  have ra : Row w2 w.heap.size 32 (mc m s) := by rw [hw2]; exact row_alloc (Row.new w 32 _) _
  have rb : Row w2 (w.heap.size + 1) 32 (mc m t) := by
    rw [hw2]
    have := Row.new (w.alloc (.cells (mc m s).toArray 32)) 32 (mc m t)
    simpa using this
  have hB : Below w.heap.size w w2 := by rw [hw2]; exact ((Below.refl _ w).alloc (Nat.le_refl _) _).alloc (by simp) _
  have htn : RL RInt 1 Any w t.n m.order := ht.n
  have htp : RL RReq 4 Any w t.p m.picks := ht.p
  have hbn := balNe_eq m.bal.1 m.bal.2
  have hnkind : (m.kind != m.kind) = false := by simp
  have hnslot : (m.slot != m.slot) = false := by simp
  have hnfrm : (m.frm != m.frm) = false := by simp
  have hnto : (m.to != m.to) = false := by simp
  have hnidx : (m.idx != m.idx) = false := by simp
  have hncnt : (m.cnt != m.cnt) = false := by simp
  go_enter Tryz.func9, Tryz.ntmps9
  go_upto_region 1 with fail
  rw [← hw2]
  clear hw2
  generalize hN0 : w.heap.size = N0 at ra rb ⊢
  generalize hN1 : N0 + 1 = N1 at rb ⊢
  have a0 := ra.cell (j := 0) rfl; have b0 := rb.cell (j := 0) rfl
  have a3 := ra.cell (j := 3) rfl; have b3 := rb.cell (j := 3) rfl
  have a4 := ra.cell (j := 4) rfl; have b4 := rb.cell (j := 4) rfl
  have a5 := ra.cell (j := 5) rfl; have b5 := rb.cell (j := 5) rfl
  have a6 := ra.cell (j := 6) rfl; have b6 := rb.cell (j := 6) rfl
  have a7 := ra.cell (j := 7) rfl; have b7 := rb.cell (j := 7) rfl
  go_wp2_with (first
    | (refine wl_part_w (by rfl) _ _ rfl N0 1 rfl _ _ ra [.int .i64 m.bal.1, .int .i64 m.bal.2] rfl _ Tryz.underlying23 rfl (by kernel_rfl) ?_)
    | (refine wl_part_w (by rfl) _ _ rfl N1 1 rfl _ _ rb [.int .i64 m.bal.1, .int .i64 m.bal.2] rfl _ Tryz.underlying23 rfl (by kernel_rfl) ?_)
    | (refine wl_part rfl _ _ rfl N0 8 rfl _ _ ra [.int .i64 m.req.1, .int .i64 m.req.2.1, s.o, s.g] rfl _ Tryz.underlying26 rfl (by kernel_rfl) ?_)
    | (refine wl_part rfl _ _ rfl N1 8 rfl _ _ rb [.int .i64 m.req.1, .int .i64 m.req.2.1, t.o, t.g] rfl _ Tryz.underlying26 rfl (by kernel_rfl) ?_))
  clear a0 a3 a4 a5 a6 a7 b0 b3 b4 b5 b6 b7 hbn hnkind hnslot hnfrm hnto hnidx hncnt
  refine (sameReq_eq w2 [.int .i64 m.req.1, .int .i64 m.req.2.1, s.o, s.g] [.int .i64 m.req.1, .int .i64 m.req.2.1, t.o, t.g] m.req ⟨_, _, rfl, hs.o.mv (Mv.below hB), hs.g.mv (Mv.below hB)⟩ ⟨_, _, rfl, ht.o.mv (Mv.below hB), ht.g.mv (Mv.below hB)⟩).mono ?_
  rintro e w3 ⟨rfl, hb3⟩
  have ra := ra.below hb3
  have rb := rb.below hb3
  have hB := below_and hB (Nat.le_refl _) hb3
  clear hb3
  go_wp2_with (first
    | (refine wl_part_w (by rfl) _ _ rfl N0 12 rfl _ _ ra [.int .i64 m.oth.1, .int .i64 m.oth.2.1, s.o', s.g'] rfl _ Tryz.underlying26 rfl (by kernel_rfl) ?_)
    | (refine wl_part_w (by rfl) _ _ rfl N1 12 rfl _ _ rb [.int .i64 m.oth.1, .int .i64 m.oth.2.1, t.o', t.g'] rfl _ Tryz.underlying26 rfl (by kernel_rfl) ?_))
  refine (sameReq_eq w3 [.int .i64 m.oth.1, .int .i64 m.oth.2.1, s.o', s.g'] [.int .i64 m.oth.1, .int .i64 m.oth.2.1, t.o', t.g'] m.oth ⟨_, _, rfl, hs.o'.mv (Mv.below hB), hs.g'.mv (Mv.below hB)⟩ ⟨_, _, rfl, ht.o'.mv (Mv.below hB), ht.g'.mv (Mv.below hB)⟩).mono ?_
  rintro e w4 ⟨rfl, hb4⟩
  have ra := ra.below hb4
  have rb := rb.below hb4
  have hB := below_and hB (Nat.le_refl _) hb4
  clear hb4
  have a16 := ra.cell (j := 16) rfl; have b16 := rb.cell (j := 16) rfl; have a17 := ra.cell (j := 17) rfl; have b17 := rb.cell (j := 17) rfl; have a18 := ra.cell (j := 18) rfl; have b18 := rb.cell (j := 18) rfl
  go_wp2_with fail
  refine (same_eq_any w4 s.d t.d _ (hs.d.mv (Mv.below hB)).1 (ht.d.mv (Mv.below hB)).1).mono ?_
  rintro e w5 ⟨rfl, rfl⟩
  go_wp2_with fail
  refine (same_eq_any _ s.s t.s _ (hs.s.mv (Mv.below hB)).1 (ht.s.mv (Mv.below hB)).1).mono ?_
  rintro e w5 ⟨rfl, rfl⟩
  go_wp2_with fail
  refine (sameVotes_eq _ s.c t.c _ (hs.c.mv mov_vote hB.size (Mv.below hB)) (ht.c.mv mov_vote hB.size (Mv.below hB))).mono ?_
  rintro e w6 ⟨rfl, hb6⟩
  have ra := ra.below hb6
  have rb := rb.below hb6
  have hB := below_and hB (Nat.le_refl _) hb6
  clear hb6 a16 b16 a17 b17 a18 b18
  have a19 := ra.cell (j := 19) rfl; have b19 := rb.cell (j := 19) rfl
  go_wp2_with fail
  refine (sameVotes_eq _ s.v t.v _ (hs.v.mv mov_vote hB.size (Mv.below hB)) (ht.v.mv mov_vote hB.size (Mv.below hB))).mono ?_
  rintro e w7 ⟨rfl, hb7⟩
  have ra := ra.below hb7
  have rb := rb.below hb7
  have hB := below_and hB (Nat.le_refl _) hb7
  clear hb7 a19 b19
  have a20 := ra.cell (j := 20) rfl; have b20 := rb.cell (j := 20) rfl; have a21 := ra.cell (j := 21) rfl; have b21 := rb.cell (j := 21) rfl; have a22 := ra.cell (j := 22) rfl; have b22 := rb.cell (j := 22) rfl
  obtain ⟨xn, cn, hvn, _⟩ := hs.n.form
  obtain ⟨yn, dn, hun, _⟩ := htn.form
  rw [hvn] at a20
  rw [hun] at b20
  have hnn : ((m.order.length : Int) != (m.order.length : Int)) = false := by simp
  have hlmn : (m.order.length : Int) ≤ 9223372036854775807 := rl_len hs.n
  obtain ⟨xp, cp, hvp, _⟩ := hs.p.form
  obtain ⟨yp, dp, hup, _⟩ := htp.form
  rw [hvp] at a21
  rw [hup] at b21
  have hnp : ((m.picks.length : Int) != (m.picks.length : Int)) = false := by simp
  have hlmp : (m.picks.length : Int) ≤ 9223372036854775807 := rl_len hs.p
  obtain ⟨xl, cl, hvl, _⟩ := hs.l.form
  obtain ⟨yl, dl, hul, _⟩ := ht.l.form
  have hlen1 : m.reps.length = 1 := by rw [hr]; rfl
  have hul : t.l = .slice yl m.reps.length dl := by rw [hlen1]; exact hul
  have HL1 := (show Hid (m.reps.length = 1) from hlen1)
  clear hlen1
  rw [hvl] at a22
  rw [hul] at b22
  have hnl : ((m.reps.length : Int) != (m.reps.length : Int)) = false := by simp
  have hlml : (m.reps.length : Int) ≤ 9223372036854775807 := rl_len hs.l
  have HA := (show Hid (Row w7 N0 32 (mc m s)) from ra)
  have HB := (show Hid (Row w7 N1 32 (mc m t)) from rb)
  have HVN := (show Hid _ from hvn); have HUN := (show Hid _ from hun); have HVP := (show Hid _ from hvp); have HUP := (show Hid _ from hup); have HVL := (show Hid _ from hvl); have HUL := (show Hid _ from hul)
  have h0w := ra.lt
  have h1w := rb.lt
  have HRR := (show Hid (m.reps = [r]) from hr)
  clear ra rb hvn hun hvp hup hvl hul hr
  go_wp2_with fail
  go_loopw [129] (fun i wr => ∃ q : Nat, q ≤ m.order.length ∧ i = .int .i64 q ∧ Below w7.heap.size w7 wr) (fun i _ => m.order.length - (intOf i).toNat)
  case atStart => exact ⟨0, by omega, rfl, Below.refl _ _⟩
  case round =>
    obtain ⟨q, hq, rfl, hbr⟩ := hrel
    have hBr := below_and hB (Nat.le_refl _) hbr
    by_cases hql : q < m.order.length
    · obtain ⟨a, ha⟩ : ∃ a, m.order[q]? = some a := ⟨_, List.getElem?_eq_getElem hql⟩
      obtain ⟨b1, o1, c1, hw1, _, _, _, hb1, hx1⟩ := hs.n.at (by omega)
      obtain ⟨b2, o2, c2, hw2, _, _, _, hb2, hx2⟩ := htn.at (by omega)
      rw [HVN.out] at hw1
      rw [HUN.out] at hw2
      injection hw1 with e1 e2 e3
      injection hw2 with f1 f2 f3
      subst e1 e3 f1 f3
      obtain ⟨r1, _, y1, hr1⟩ := hx1 q a ha
      obtain ⟨r2, _, y2, hr2⟩ := hx2 q a ha
      have hr1 : r1 = [.int .i64 a] := hr1
      have hr2 : r2 = [.int .i64 a] := hr2
      subst hr1 hr2
      have d0 := rangeAt_block y1 (hBr.block b1 hb1) 0 _ rfl
      have d1 := rangeAt_block y2 (hBr.block b2 hb2) 0 _ rfl
      simp only [Nat.mul_one, Nat.add_zero] at d0 d1
      have e20 := (hbr.cell (p := ⟨N0, 20, none⟩) h0w).trans a20
      have f20 := (hbr.cell (p := ⟨N1, 20, none⟩) h1w).trans b20
      have hna : (a != a) = false := by simp
      clear hx1 hx2 y1 y2 ha
      go_wp2_with fail
      go_quiet (fail)
      go_wp2_with fail
      go_roundw
      case rel => exact ⟨q + 1, by omega, by go_num, bel_dn hbr _⟩
      case measure => simp [intOf]; omega
    · have e21 := (hbr.cell (p := ⟨N0, 21, none⟩) h0w).trans a21
      go_wp2_with fail
      go_loopw [147] (fun i wr => ∃ q : Nat, q ≤ m.picks.length ∧ i = .int .i64 q ∧ Below w7.heap.size w7 wr) (fun i _ => m.picks.length - (intOf i).toNat)
      case atStart => exact ⟨0, by omega, rfl, hbr⟩
      case round =>
        clear hbr hBr e21 hql hq
        obtain ⟨q, hq, rfl, hbr⟩ := hrel
        have hBr := below_and hB (Nat.le_refl _) hbr
        by_cases hql : q < m.picks.length
        · obtain ⟨a, ha⟩ : ∃ a, m.picks[q]? = some a := ⟨_, List.getElem?_eq_getElem hql⟩
          obtain ⟨b1, o1, c1, hw1, _, _, _, hb1, hx1⟩ := hs.p.at (by omega)
          obtain ⟨b2, o2, c2, hw2, _, _, _, hb2, hx2⟩ := htp.at (by omega)
          rw [HVP.out] at hw1
          rw [HUP.out] at hw2
          injection hw1 with e1 e2 e3
          injection hw2 with f1 f2 f3
          subst e1 e3 f1 f3
          obtain ⟨r1, _, y1, hr1⟩ := hx1 q a ha
          obtain ⟨r2, _, y2, hr2⟩ := hx2 q a ha
          have hK := (show Hid (∀ u, Below w7.heap.size w7 u → Calls Tryz.prog 28 #[.agg r1.toArray, .agg r2.toArray] u fun e w' => e = .returned (.bool true) ∧ Below u.heap.size u w') from fun u hu => by
            have hbu := below_and hB (Nat.le_refl _) hu
            exact sameReq_eq u r1 r2 a (mov_req _ _ _ _ _ _ hr1 hbu.size (Mv.below hbu)) (mov_req _ _ _ _ _ _ hr2 hbu.size (Mv.below hbu)))
          obtain ⟨vo1, vg1, rfl, _, _⟩ := hr1
          obtain ⟨vo2, vg2, rfl, _, _⟩ := hr2
          have y1 := rangeAt_block y1 (hBr.block b1 hb1)
          have y2 := rangeAt_block y2 (hBr.block b2 hb2)
          have e21 := (hbr.cell (p := ⟨N0, 21, none⟩) h0w).trans a21
          have f21 := (hbr.cell (p := ⟨N1, 21, none⟩) h1w).trans b21
          have p0 := y1 0 _ rfl; have q0 := y2 0 _ rfl
          have p1 := y1 1 _ rfl; have q1 := y2 1 _ rfl
          have p2 := y1 2 _ rfl; have q2 := y2 2 _ rfl
          have p3 := y1 3 _ rfl; have q3 := y2 3 _ rfl
          simp only [Nat.add_zero] at p0 q0
          have hdr : Below w7.heap.size w7 wr.drew := hbr.trans ⟨rfl, rfl, rfl, Nat.le_refl _, fun _ _ => rfl⟩
          clear hx1 hx2 y1 y2 ha
          go_wp2_with fail
          have SK := (show Hid (∀ u, Below wr.heap.size wr u → u.cell? ⟨N0, 21, none⟩ = some (.slice (some ⟨b1, o1, none⟩) m.picks.length cp) ∧ u.cell? ⟨N1, 21, none⟩ = some (.slice (some ⟨b2, o2, none⟩) m.picks.length dp) ∧ u.cell? ⟨b1, o1 + q * 4, none⟩ = some (Value.int .i64 a.1) ∧ u.cell? ⟨b2, o2 + q * 4, none⟩ = some (Value.int .i64 a.1) ∧ u.cell? ⟨b1, o1 + q * 4 + 1, none⟩ = some (Value.int .i64 a.2.1) ∧ u.cell? ⟨b2, o2 + q * 4 + 1, none⟩ = some (Value.int .i64 a.2.1) ∧ u.cell? ⟨b1, o1 + q * 4 + 2, none⟩ = some (vo1) ∧ u.cell? ⟨b2, o2 + q * 4 + 2, none⟩ = some (vo2) ∧ u.cell? ⟨b1, o1 + q * 4 + 3, none⟩ = some (vg1) ∧ u.cell? ⟨b2, o2 + q * 4 + 3, none⟩ = some (vg2)) from fun u hu => ⟨keep_cell hu e21, keep_cell hu f21, keep_cell hu p0, keep_cell hu q0, keep_cell hu p1, keep_cell hu q1, keep_cell hu p2, keep_cell hu q2, keep_cell hu p3, keep_cell hu q3⟩)
          have hdw : Below wr.heap.size wr wr.drew := ⟨rfl, rfl, rfl, Nat.le_refl _, fun _ _ => rfl⟩
          go_region_held3 (fun u => u.cell? ⟨N0, 21, none⟩ = some (.slice (some ⟨b1, o1, none⟩) m.picks.length cp) ∧ u.cell? ⟨N1, 21, none⟩ = some (.slice (some ⟨b2, o2, none⟩) m.picks.length dp) ∧ u.cell? ⟨b1, o1 + q * 4, none⟩ = some (Value.int .i64 a.1) ∧ u.cell? ⟨b2, o2 + q * 4, none⟩ = some (Value.int .i64 a.1) ∧ u.cell? ⟨b1, o1 + q * 4 + 1, none⟩ = some (Value.int .i64 a.2.1) ∧ u.cell? ⟨b2, o2 + q * 4 + 1, none⟩ = some (Value.int .i64 a.2.1) ∧ u.cell? ⟨b1, o1 + q * 4 + 2, none⟩ = some (vo1) ∧ u.cell? ⟨b2, o2 + q * 4 + 2, none⟩ = some (vo2) ∧ u.cell? ⟨b1, o1 + q * 4 + 3, none⟩ = some (vg1) ∧ u.cell? ⟨b2, o2 + q * 4 + 3, none⟩ = some (vg2))
            (first | exact SK.out _ (by assumption) | go_keep)
            (first | (go_at_call 28; refine (hK.out _ hdr).mono ?_; rintro e w8 ⟨rfl, hb8⟩; have hb8w : Below wr.heap.size wr w8 := hdw.trans hb8))
          go_wp2_with fail
          go_roundw
          case rel => exact ⟨q + 1, by omega, by go_num, below_and hdr (Nat.le_refl _) hb8⟩
          case measure => simp [intOf]; omega
        · have e22 := (hbr.cell (p := ⟨N0, 22, none⟩) h0w).trans a22
          go_wp2_with fail
          go_loopw [166] (fun i wr => ∃ q : Nat, q ≤ 0 ∧ i = .int .i64 q ∧ Below w7.heap.size w7 wr) (fun i _ => m.reps.length - (intOf i).toNat)
          case atStart => exact ⟨0, by omega, rfl, hbr⟩
          case round =>
            clear hbr hBr e22 hql hq
            obtain ⟨q, hq, rfl, hbr⟩ := hrel
            have hBr := below_and hB (Nat.le_refl _) hbr
            by_cases hql : q < m.reps.length
            · obtain ⟨a, rfl⟩ : ∃ a, a = r := ⟨_, rfl⟩
              have hq0 : q = 0 := by have := HL1.out; omega
              have ha : m.reps[q]? = some a := by rw [HRR.out, hq0]; rfl
              have ha2 : ([repSig a g] : List PRep)[q]? = some (repSig a g) := by rw [hq0]; rfl
              clear hq0
              obtain ⟨b1, o1, c1, hw1, _, _, _, hb1, hx1⟩ := hs.l.at (by omega)
              obtain ⟨b2, o2, c2, hw2, _, _, _, hb2, hx2⟩ := ht.l.at (by simp)
              rw [HVL.out] at hw1
              have hw2 : t.l = .slice (some ⟨b2, o2, none⟩) m.reps.length c2 := by rw [HL1.out]; exact hw2
              rw [HUL.out] at hw2
              injection hw1 with e1 e2 e3
              injection hw2 with f1 f2 f3
              subst e1 e3 f1 f3
              obtain ⟨r1, _, y1, hr1⟩ := hx1 q a ha
              obtain ⟨r2, _, y2, hr2⟩ := hx2 q _ ha2
              have hK := (show Hid (∀ u, Below w7.heap.size w7 u → Calls Tryz.prog 30 #[.agg r1.toArray, .agg r2.toArray] u fun e w' => e = .returned (.bool false) ∧ Below u.heap.size u w') from fun u hu => by
                have hbu := below_and hB (Nat.le_refl _) hu
                exact sameReport_ne u r1 r2 a g hne (mov_rep _ _ _ _ _ _ hr1 hbu.size (Mv.below hbu)) (mov_rep _ _ _ _ _ _ hr2 hbu.size (Mv.below hbu)))
              obtain ⟨vd1, vs1, vp1, vg1, rfl, _, _, _, _⟩ := hr1
              obtain ⟨vd2, vs2, vp2, vg2, er2', _, _, _, _⟩ := hr2
              have er2 : r2 = [.int .i64 a.1.1, .int .i64 a.1.2, .int .i64 a.2.1, .int .i64 a.2.2.1, vd2, vs2, vp2, vg2] := er2'
              clear er2'
              subst er2
              have y1 := rangeAt_block y1 (hBr.block b1 hb1)
              have y2 := rangeAt_block y2 (hBr.block b2 hb2)
              have e22 := (hbr.cell (p := ⟨N0, 22, none⟩) h0w).trans a22
              have f22 := (hbr.cell (p := ⟨N1, 22, none⟩) h1w).trans b22
              have p0 := y1 0 _ rfl; have q0 := y2 0 _ rfl
              have p1 := y1 1 _ rfl; have q1 := y2 1 _ rfl
              have p2 := y1 2 _ rfl; have q2 := y2 2 _ rfl
              have p3 := y1 3 _ rfl; have q3 := y2 3 _ rfl
              have p4 := y1 4 _ rfl; have q4 := y2 4 _ rfl
              have p5 := y1 5 _ rfl; have q5 := y2 5 _ rfl
              have p6 := y1 6 _ rfl; have q6 := y2 6 _ rfl
              have p7 := y1 7 _ rfl; have q7 := y2 7 _ rfl
              simp only [Nat.add_zero] at p0 q0
              have hdr : Below w7.heap.size w7 wr.drew := hbr.trans ⟨rfl, rfl, rfl, Nat.le_refl _, fun _ _ => rfl⟩
              clear hx1 hx2 y1 y2 ha ha2
              go_wp2_with fail
              have SK := (show Hid (∀ u, Below wr.heap.size wr u → u.cell? ⟨N0, 22, none⟩ = some (.slice (some ⟨b1, o1, none⟩) m.reps.length cl) ∧ u.cell? ⟨N1, 22, none⟩ = some (.slice (some ⟨b2, o2, none⟩) m.reps.length dl) ∧ u.cell? ⟨b1, o1 + q * 8, none⟩ = some (Value.int .i64 a.1.1) ∧ u.cell? ⟨b2, o2 + q * 8, none⟩ = some (Value.int .i64 a.1.1) ∧ u.cell? ⟨b1, o1 + q * 8 + 1, none⟩ = some (Value.int .i64 a.1.2) ∧ u.cell? ⟨b2, o2 + q * 8 + 1, none⟩ = some (Value.int .i64 a.1.2) ∧ u.cell? ⟨b1, o1 + q * 8 + 2, none⟩ = some (Value.int .i64 a.2.1) ∧ u.cell? ⟨b2, o2 + q * 8 + 2, none⟩ = some (Value.int .i64 a.2.1) ∧ u.cell? ⟨b1, o1 + q * 8 + 3, none⟩ = some (Value.int .i64 a.2.2.1) ∧ u.cell? ⟨b2, o2 + q * 8 + 3, none⟩ = some (Value.int .i64 a.2.2.1) ∧ u.cell? ⟨b1, o1 + q * 8 + 4, none⟩ = some (vd1) ∧ u.cell? ⟨b2, o2 + q * 8 + 4, none⟩ = some (vd2) ∧ u.cell? ⟨b1, o1 + q * 8 + 5, none⟩ = some (vs1) ∧ u.cell? ⟨b2, o2 + q * 8 + 5, none⟩ = some (vs2) ∧ u.cell? ⟨b1, o1 + q * 8 + 6, none⟩ = some (vp1) ∧ u.cell? ⟨b2, o2 + q * 8 + 6, none⟩ = some (vp2) ∧ u.cell? ⟨b1, o1 + q * 8 + 7, none⟩ = some (vg1) ∧ u.cell? ⟨b2, o2 + q * 8 + 7, none⟩ = some (vg2)) from fun u hu => ⟨keep_cell hu e22, keep_cell hu f22, keep_cell hu p0, keep_cell hu q0, keep_cell hu p1, keep_cell hu q1, keep_cell hu p2, keep_cell hu q2, keep_cell hu p3, keep_cell hu q3, keep_cell hu p4, keep_cell hu q4, keep_cell hu p5, keep_cell hu q5, keep_cell hu p6, keep_cell hu q6, keep_cell hu p7, keep_cell hu q7⟩)
              have hdw : Below wr.heap.size wr wr.drew := ⟨rfl, rfl, rfl, Nat.le_refl _, fun _ _ => rfl⟩
              go_region_held3 (fun u => u.cell? ⟨N0, 22, none⟩ = some (.slice (some ⟨b1, o1, none⟩) m.reps.length cl) ∧ u.cell? ⟨N1, 22, none⟩ = some (.slice (some ⟨b2, o2, none⟩) m.reps.length dl) ∧ u.cell? ⟨b1, o1 + q * 8, none⟩ = some (Value.int .i64 a.1.1) ∧ u.cell? ⟨b2, o2 + q * 8, none⟩ = some (Value.int .i64 a.1.1) ∧ u.cell? ⟨b1, o1 + q * 8 + 1, none⟩ = some (Value.int .i64 a.1.2) ∧ u.cell? ⟨b2, o2 + q * 8 + 1, none⟩ = some (Value.int .i64 a.1.2) ∧ u.cell? ⟨b1, o1 + q * 8 + 2, none⟩ = some (Value.int .i64 a.2.1) ∧ u.cell? ⟨b2, o2 + q * 8 + 2, none⟩ = some (Value.int .i64 a.2.1) ∧ u.cell? ⟨b1, o1 + q * 8 + 3, none⟩ = some (Value.int .i64 a.2.2.1) ∧ u.cell? ⟨b2, o2 + q * 8 + 3, none⟩ = some (Value.int .i64 a.2.2.1) ∧ u.cell? ⟨b1, o1 + q * 8 + 4, none⟩ = some (vd1) ∧ u.cell? ⟨b2, o2 + q * 8 + 4, none⟩ = some (vd2) ∧ u.cell? ⟨b1, o1 + q * 8 + 5, none⟩ = some (vs1) ∧ u.cell? ⟨b2, o2 + q * 8 + 5, none⟩ = some (vs2) ∧ u.cell? ⟨b1, o1 + q * 8 + 6, none⟩ = some (vp1) ∧ u.cell? ⟨b2, o2 + q * 8 + 6, none⟩ = some (vp2) ∧ u.cell? ⟨b1, o1 + q * 8 + 7, none⟩ = some (vg1) ∧ u.cell? ⟨b2, o2 + q * 8 + 7, none⟩ = some (vg2))
                (first | exact SK.out _ (by assumption) | go_keep)
                (first | (go_at_call 30; refine (hK.out _ hdr).mono ?_; rintro e w8 ⟨rfl, hb8⟩; have hb8w : Below wr.heap.size wr w8 := hdw.trans hb8))
              go_wp2_with fail
              go_ret
              exact ⟨rfl, below_and hB (Nat.le_refl _) (below_and hdr (Nat.le_refl _) hb8)⟩
            · exfalso
              have := HL1.out
              omega
end Go.Proofs.YtijmecplechhgaaGreatDoor
end

section
set_option linter.unusedVariables false
set_option linter.unusedSimpArgs false
namespace Go.Proofs.YtijmecplechhgaaGreatDoor
open Go.RowKit Oct

theorem sameWs_any (w : World) (m : PMsg) (s t : SV) (g : List Int) (hs : SOk Any w m s) (ht : SOk Any w (wsM m g) t) :
    Calls Tryz.prog 9 #[.agg (mc m s).toArray, .agg (mc (wsM m g) t).toArray] w fun e w' => e = .returned (.bool (decide (sgM m = g))) ∧ Below w.heap.size w w' := by
  by_cases h : sgM m = g
  · rw [decide_eq_true h]
    have e : wsM m g = m := by rw [← h]; exact ws_sg m
    rw [e] at ht ⊢
    exact sameMsg_eq w m s t hs ht
  · rw [decide_eq_false h]
    cases ho : oneM m with
    | false =>
      have e : wsM m g = { m with sig := g } := by unfold wsM; rw [if_neg (by simp [ho])]
      rw [e] at ht ⊢
      have hne : m.sig ≠ g := by unfold sgM at h; rw [if_neg (by simp [ho])] at h; exact h
      exact sameMsg_ns w m s t g hne hs ht
    | true =>
      obtain ⟨_, r, hr⟩ := oneM_yes ho
      have e : wsM m g = { m with reps := [repSig r g] } := by unfold wsM; rw [if_pos ho, hr]; rfl
      rw [e] at ht ⊢
      have hne : r.2.2.2.2.2.2 ≠ g := by unfold sgM at h; rw [if_pos ho, hr] at h; exact h
      exact sameMsg_nr w m s t r g hr hne hs ht
theorem sea_pos (m : PMsg) (i : Int) : 0 < (seaT m i).length ↔ seaE m = 0 ∧ 0 ≤ repL i ∧ repL i ≤ 127 := by
  unfold seaT
  by_cases h : seaE m = 0
  · rw [if_pos h]
    unfold textL
    by_cases hk : 0 ≤ repL i ∧ repL i ≤ 127
    · rw [if_pos hk]
      exact ⟨fun _ => ⟨h, hk⟩, fun _ => pack_pos _ _⟩
    · rw [if_neg hk]
      simp only [List.length_nil, Nat.lt_irrefl, false_iff]
      exact fun h2 => hk h2.2
  · rw [if_neg h]
    simp only [List.length_nil, Nat.lt_irrefl, false_iff]
    exact fun h2 => h h2.1
theorem seaQ_eq (m : PMsg) (i : Int) : seaQ m i = (decide (0 < (seaT m i).length) && decide (sgM m = seaS m i)) := by
  by_cases hp : 0 < (seaT m i).length
  · obtain ⟨h, hk⟩ := (sea_pos m i).1 hp
    rw [decide_eq_true hp, Bool.true_and]
    unfold seaQ seaS
    rw [if_pos h, if_pos h]
    unfold verL
    rw [if_pos hk]
  · rw [decide_eq_false hp, Bool.false_and]
    unfold seaQ
    by_cases h : seaE m = 0
    · rw [if_pos h]
      unfold verL
      rw [if_neg (fun hk => hp ((sea_pos m i).2 ⟨h, hk⟩))]
    · rw [if_neg h]
/-- A sealed message is sealed, if it signs anything. -/
theorem seaQ_ws (m : PMsg) (i : Int) : seaQ (wsM m (seaS m i)) i = decide (0 < (seaT m i).length) := by
  have hE : seaE (wsM m (seaS m i)) = seaE m := by unfold seaE; rw [ws_ws]
  have hB : seaB (wsM m (seaS m i)) = seaB m := by unfold seaB; rw [ws_ws]
  have hD : domS (wsM m (seaS m i)) = domS m := by unfold domS; rw [ws_one]
  have hT : seaT (wsM m (seaS m i)) i = seaT m i := by unfold seaT; rw [hE, hB, hD]
  have hS : seaS (wsM m (seaS m i)) i = seaS m i := by
    show (if seaE (wsM m (seaS m i)) = 0 then signL (repL i) (sL (domS (wsM m (seaS m i)))) [seaB (wsM m (seaS m i))] else []) = _
    rw [hE, hB, hD]
    rfl
  rw [seaQ_eq, hT, hS, sg_ws, decide_eq_true rfl, Bool.and_true]
set_option maxRecDepth 10000 in
set_option maxHeartbeats 8000000 in
theorem refSealed_any (w : World) (m : PMsg) (s : SV) (i : Int) (hs : SOk Any w m s) (hz : szM m) (hb : bM m ≤ 1048576) : Calls Tryz.prog 13 #[.agg (mc m s).toArray, .int .i64 i] w fun e w' => e = .returned (.bool (seaQ m i)) ∧ Below w.heap.size w w' := by
  rw [seaQ_eq]
  obtain ⟨w1, hw1, r1, B1⟩ := boxM w m s
  have hs1 := hs.below B1
  have hdw : Below w1.heap.size w1 w1.drew := ⟨rfl, rfl, rfl, Nat.le_refl _, fun _ _ => rfl⟩
  have HST := (show Hid (∀ u, Below w1.heap.size w1 u → Calls Tryz.prog 12 #[.agg (mc m s).toArray, .int .i64 i] u fun e w' => ∃ a c, e = .returned (.slice a (seaT m i).length c) ∧ Below u.heap.size u w') from fun u hu => (refSealText_any u m s i (hs1.below hu) hz hb).mono fun e w' ⟨v, e1, e2, _, e4⟩ => by
    obtain ⟨a, c, rfl, _⟩ := e2.form
    rw [bc_len] at e1
    exact ⟨a, c, e1, e4⟩)
  have HSE := (show Hid (∀ u, Below w1.heap.size w1 u → Calls Tryz.prog 10 #[.agg (mc m s).toArray, .int .i64 i] u fun e w' => ∃ t, e = .returned (.agg (mc (wsM m (seaS m i)) t).toArray) ∧ SOk Any w' (wsM m (seaS m i)) t ∧ Below u.heap.size u w') from fun u hu => refSeal_any u m s i (hs1.below hu) hz hb)
  have HSA := (show Hid (∀ u t, Below w1.heap.size w1 u → SOk Any u (wsM m (seaS m i)) t → Calls Tryz.prog 9 #[.agg (mc m s).toArray, .agg (mc (wsM m (seaS m i)) t).toArray] u fun e w' => e = .returned (.bool (decide (sgM m = seaS m i))) ∧ Below u.heap.size u w') from fun u t hu ht => sameWs_any u m s t _ (hs1.below hu) ht)
  have HG := (show Hid (∀ u, Below w1.heap.size w1 u → u.rangeAt w.heap.size 0 (mc m s)) from fun u hu j x hx => by rw [Nat.zero_add]; exact (r1.below hu).cell hx)
  obtain ⟨bb, hbb⟩ : ∃ bb, bb = decide (sgM m = seaS m i) := ⟨_, rfl⟩
  rw [← hbb] at HSA ⊢
  obtain ⟨N, hN⟩ : ∃ N, N = (seaT m i).length := ⟨_, rfl⟩
  rw [← hN] at HST ⊢
  have HWS := (show Hid (∀ t, (mc (wsM m (seaS m i)) t).length = 23) from fun t => rfl)
  clear hbb hN hs1 hs hz hb r1
  by_cases hp : 0 < N
  · rw [decide_eq_true hp, Bool.true_and]
    have hp' : (0 : Int) < (N : Int) := by omega
    go_enter Tryz.func13, Tryz.ntmps13
    go_upto_region 1 with fail
    rw [← hw1]
    clear hw1
    refine wp_region_held_drew (S := fun u => Below w1.heap.size w1 u) (by kernel_rfl) hdw (fun hHeld => ?_)
    clear hHeld
    refine wpAnyH_take (i := 0) (v := .agg (mc m s).toArray) rfl (by kernel_rfl) (by kernel_rfl) (by kernel_rfl) (fun _ _ _ h => h) (yieldsIf_load_mid (by kernel_rfl) _ _ rfl w.heap.size 0 rfl (mc m s) _ HG.out Tryz.underlying32 rfl (by kernel_rfl)) hdw ?_
    simp only [Act.put, List.setIfInBounds_toArray, List.set_cons_zero, List.set_cons_succ]
    refine wpAnyH_take (i := 1) (v := .int .i64 i) rfl (by kernel_rfl) (by kernel_rfl) (by kernel_rfl) (fun _ _ _ h => h) (Or.inl ⟨by kernel_rfl, fun u hSu => by go_simp⟩) hdw ?_
    simp only [Act.put, List.setIfInBounds_toArray, List.set_cons_zero, List.set_cons_succ]
    refine wpAnyH_ready (rs := [2]) (by kernel_rfl) (by simp) ?_
    refine AllReadyH.cons (o := _) rfl (fun K hK => ?_) AllReadyH.nil
    go_simp
    refine (HST.out w1.drew hdw).mono ?_
    rintro e u1 ⟨a1, c1, rfl, y1⟩
    have b1 := below_and hdw (Nat.le_refl _) y1
    try go_simp
    refine hK.out _ _ b1 (fun hHeld => ?_)
    clear hK K hHeld
    refine wpAnyH_ready (rs := [3]) (by kernel_rfl) (by simp) ?_
    refine AllReadyH.cons (o := _) rfl (fun K hK => ?_) AllReadyH.nil
    go_simp
    refine hK.out _ _ b1 (fun hHeld => ?_)
    clear hK K hHeld
    refine wpAnyH_ready (rs := [4]) (by kernel_rfl) (by simp) ?_
    refine AllReadyH.cons (o := _) rfl (fun K hK => ?_) AllReadyH.nil
    go_simp
    refine hK.out _ _ b1 (fun hHeld => ?_)
    clear hK K hHeld
    refine wpAnyH_ready (rs := [5]) (by kernel_rfl) (by simp) ?_
    refine AllReadyH.cons (o := _) rfl (fun K hK => ?_) AllReadyH.nil
    go_simp
    refine hK.out _ _ b1 (fun hHeld => ?_)
    clear hK K hHeld
    refine wpAnyH_take (i := 6) (v := .agg (mc m s).toArray) rfl (by kernel_rfl) (by kernel_rfl) (by kernel_rfl) (fun _ _ _ h => h) (yieldsIf_load_mid (by kernel_rfl) _ _ rfl w.heap.size 0 rfl (mc m s) _ HG.out Tryz.underlying32 rfl (by kernel_rfl)) b1 ?_
    simp only [Act.put, List.setIfInBounds_toArray, List.set_cons_zero, List.set_cons_succ]
    refine wpAnyH_take (i := 7) (v := .agg (mc m s).toArray) rfl (by kernel_rfl) (by kernel_rfl) (by kernel_rfl) (fun _ _ _ h => h) (yieldsIf_load_mid (by kernel_rfl) _ _ rfl w.heap.size 0 rfl (mc m s) _ HG.out Tryz.underlying32 rfl (by kernel_rfl)) b1 ?_
    simp only [Act.put, List.setIfInBounds_toArray, List.set_cons_zero, List.set_cons_succ]
    refine wpAnyH_take (i := 8) (v := .int .i64 i) rfl (by kernel_rfl) (by kernel_rfl) (by kernel_rfl) (fun _ _ _ h => h) (Or.inl ⟨by kernel_rfl, fun u hSu => by go_simp⟩) b1 ?_
    simp only [Act.put, List.setIfInBounds_toArray, List.set_cons_zero, List.set_cons_succ]
    refine wpAnyH_ready (rs := [9]) (by kernel_rfl) (by simp) ?_
    refine AllReadyH.cons (o := _) rfl (fun K hK => ?_) AllReadyH.nil
    go_simp
    refine (HSE.out u1 b1).mono ?_
    rintro e u2 ⟨t2, rfl, ht2, y2⟩
    have b2 := below_and b1 (Nat.le_refl _) y2
    try go_simp
    refine hK.out _ _ b2 (fun hHeld => ?_)
    clear hK K hHeld
    refine wpAnyH_ready (rs := [10]) (by kernel_rfl) (by simp) ?_
    refine AllReadyH.cons (o := _) rfl (fun K hK => ?_) AllReadyH.nil
    go_simp
    refine (HSA.out u2 t2 b2 ht2).mono ?_
    rintro e u3 ⟨rfl, y3⟩
    have b3 := below_and b2 (Nat.le_refl _) y3
    try go_simp
    refine hK.out _ _ b3 (fun hHeld => ?_)
    clear hK K hHeld
    refine wpAnyH_ready (rs := [11]) (by kernel_rfl) (by simp) ?_
    refine AllReadyH.cons (o := _) rfl (fun K hK => ?_) AllReadyH.nil
    go_simp
    refine hK.out _ _ b3 (fun hHeld => ?_)
    clear hK K hHeld
    refine wpAnyH_ready (rs := [12]) (by kernel_rfl) (by simp) ?_
    refine AllReadyH.cons (o := _) rfl (fun K hK => ?_) AllReadyH.nil
    go_simp
    refine hK.out _ _ b3 (fun hHeld => ?_)
    clear hK K hHeld
    refine wpAnyH_done (by kernel_rfl) ?_ _
    go_wp2_with fail
    go_ret
    exact ⟨rfl, below_and B1 (Nat.le_refl _) b3⟩
  · have hp0 : N = 0 := by omega
    subst hp0
    rw [show decide (0 < 0) = false from rfl, Bool.false_and]
    clear hp
    go_enter Tryz.func13, Tryz.ntmps13
    go_upto_region 1 with fail
    rw [← hw1]
    clear hw1
    refine wp_region_held_drew (S := fun u => Below w1.heap.size w1 u) (by kernel_rfl) hdw (fun hHeld => ?_)
    clear hHeld
    refine wpAnyH_take (i := 0) (v := .agg (mc m s).toArray) rfl (by kernel_rfl) (by kernel_rfl) (by kernel_rfl) (fun _ _ _ h => h) (yieldsIf_load_mid (by kernel_rfl) _ _ rfl w.heap.size 0 rfl (mc m s) _ HG.out Tryz.underlying32 rfl (by kernel_rfl)) hdw ?_
    simp only [Act.put, List.setIfInBounds_toArray, List.set_cons_zero, List.set_cons_succ]
    refine wpAnyH_take (i := 1) (v := .int .i64 i) rfl (by kernel_rfl) (by kernel_rfl) (by kernel_rfl) (fun _ _ _ h => h) (Or.inl ⟨by kernel_rfl, fun u hSu => by go_simp⟩) hdw ?_
    simp only [Act.put, List.setIfInBounds_toArray, List.set_cons_zero, List.set_cons_succ]
    refine wpAnyH_ready (rs := [2]) (by kernel_rfl) (by simp) ?_
    refine AllReadyH.cons (o := _) rfl (fun K hK => ?_) AllReadyH.nil
    go_simp
    refine (HST.out w1.drew hdw).mono ?_
    rintro e u1 ⟨a1, c1, rfl, y1⟩
    have b1 := below_and hdw (Nat.le_refl _) y1
    try go_simp
    refine hK.out _ _ b1 (fun hHeld => ?_)
    clear hK K hHeld
    refine wpAnyH_ready (rs := [3]) (by kernel_rfl) (by simp) ?_
    refine AllReadyH.cons (o := _) rfl (fun K hK => ?_) AllReadyH.nil
    go_simp
    refine hK.out _ _ b1 (fun hHeld => ?_)
    clear hK K hHeld
    refine wpAnyH_ready (rs := [4]) (by kernel_rfl) (by simp) ?_
    refine AllReadyH.cons (o := _) rfl (fun K hK => ?_) AllReadyH.nil
    go_simp
    refine hK.out _ _ b1 (fun hHeld => ?_)
    clear hK K hHeld
    refine wpAnyH_ready (rs := [5]) (by kernel_rfl) (by simp) ?_
    refine AllReadyH.cons (o := _) rfl (fun K hK => ?_) AllReadyH.nil
    go_simp
    refine hK.out _ _ b1 (fun hHeld => ?_)
    clear hK K hHeld
    refine wpAnyH_take (i := 6) (v := undef) rfl (by kernel_rfl) (by kernel_rfl) (by kernel_rfl) (fun _ _ _ h => h) (Or.inr ⟨by kernel_rfl, rfl⟩) b1 ?_
    simp only [Act.put, List.setIfInBounds_toArray, List.set_cons_zero, List.set_cons_succ]
    refine wpAnyH_take (i := 7) (v := undef) rfl (by kernel_rfl) (by kernel_rfl) (by kernel_rfl) (fun _ _ _ h => h) (Or.inr ⟨by kernel_rfl, rfl⟩) b1 ?_
    simp only [Act.put, List.setIfInBounds_toArray, List.set_cons_zero, List.set_cons_succ]
    refine wpAnyH_take (i := 8) (v := undef) rfl (by kernel_rfl) (by kernel_rfl) (by kernel_rfl) (fun _ _ _ h => h) (Or.inr ⟨by kernel_rfl, rfl⟩) b1 ?_
    simp only [Act.put, List.setIfInBounds_toArray, List.set_cons_zero, List.set_cons_succ]
    refine wpAnyH_take (i := 9) (v := undef) rfl (by kernel_rfl) (by kernel_rfl) (by kernel_rfl) (fun _ _ _ h => h) (Or.inr ⟨by kernel_rfl, rfl⟩) b1 ?_
    simp only [Act.put, List.setIfInBounds_toArray, List.set_cons_zero, List.set_cons_succ]
    refine wpAnyH_take (i := 10) (v := undef) rfl (by kernel_rfl) (by kernel_rfl) (by kernel_rfl) (fun _ _ _ h => h) (Or.inr ⟨by kernel_rfl, rfl⟩) b1 ?_
    simp only [Act.put, List.setIfInBounds_toArray, List.set_cons_zero, List.set_cons_succ]
    refine wpAnyH_ready (rs := [11]) (by kernel_rfl) (by simp) ?_
    refine AllReadyH.cons (o := _) rfl (fun K hK => ?_) AllReadyH.nil
    go_simp
    refine hK.out _ _ b1 (fun hHeld => ?_)
    clear hK K hHeld
    refine wpAnyH_ready (rs := [12]) (by kernel_rfl) (by simp) ?_
    refine AllReadyH.cons (o := _) rfl (fun K hK => ?_) AllReadyH.nil
    go_simp
    refine hK.out _ _ b1 (fun hHeld => ?_)
    clear hK K hHeld
    refine wpAnyH_done (by kernel_rfl) ?_ _
    go_wp2_with fail
    go_ret
    exact ⟨rfl, below_and B1 (Nat.le_refl _) b1⟩
end Go.Proofs.YtijmecplechhgaaGreatDoor
end
