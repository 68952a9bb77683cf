/- The walks over the document's comparisons: messages. (Laid by mk5s.py.) -/
import Derived.Test.YtajmgpgjkalfkaaDoorJA
section
set_option linter.unusedVariables false
set_option linter.unusedSimpArgs false
namespace Go.Proofs.YtajmgpgjkalfkaaDoor
open Go.RowKit Oct

section
variable {P : Program}
/-- A part of a row is loaded, where a guard says yes. -/
theorem wl_part_w {ops : Array Oper} {rest : List Oper} {o : Oper} {a : Act} {w : World} {Q : Exit → Act → World → Prop} (hgd : Region.wanted o (yielded ops a.tmps) = true) (ty : TypeId) (x : Operand) (ho : o.op = .load ty x)
    (b off : Nat) (hx : a.eval x = .pointer (some ⟨b, off, none⟩)) (t : TypeId) (xs : List Value) (h : Row w b t xs) (cs : List Value) (hcs : (xs.drop off).take cs.length = cs) (d : TypeDesc) (hu : P.underlying ty = some d) (hd : d.isRow = true)
    (hi : (P.info? ty).map (·.size) = some cs.length) (k : wpList P ops Q rest (a.put o.dst (.agg cs.toArray)) w) : wpList P ops Q (o :: rest) a w :=
  wpList_wanted hgd fun _ hK => wp_load_mid ty x ho b off hx cs d (fun j v hj => by
    have := h.src off cs.length j v (by rw [hcs]; exact hj)
    rw [Addr.add_mid] at this
    exact this) hu hd hi (hK _ _ k)
end
theorem balNe_eq (a b : Int) (w : World) : (binOp .neq 28 (.agg #[.int .i64 a, .int .i64 b]) (.agg #[.int .i64 a, .int .i64 b])).run Tryd.prog w = .ok (.bool false) w := by
  rw [balNe]; simp

theorem same_eq_any (w : World) (u v : Value) (l : List Int) (ha : Rd w u l) (hb : Rd w v l) : Calls Tryd.prog 28 #[u, v] w fun e w' => e = .returned (.bool true) ∧ w' = w := by
  have := same_any w u v l l ha hb
  rw [decide_eq_true rfl] at this
  exact this
theorem sameReq_eq (w : World) (r1 r2 : List Value) (x : PReq) (h1 : RReq Any w r1 x) (h2 : RReq Any w r2 x) :
    Calls Tryd.prog 19 #[.agg r1.toArray, .agg r2.toArray] w fun e w' => e = .returned (.bool true) ∧ Below w.heap.size w w' := by
  have := sameReq_any w r1 r2 x x h1 h2
  rw [decide_eq_true rfl] at this
  exact this

set_option maxRecDepth 10000 in
set_option maxHeartbeats 4000000 in
/-- SameReport, of the same report. -/
theorem sameReport_eq (w : World) (r1 r2 : List Value) (x : PRep) (h1 : RRep Any w r1 x) (h2 : RRep Any w r2 x) :
    Calls Tryd.prog 31 #[.agg r1.toArray, .agg r2.toArray] w fun e w' => e = .returned (.bool true) ∧ Below w.heap.size w w' := by
  obtain ⟨d1, s1, p1, g1, rfl, hd1, hs1, hp1, hg1⟩ := h1
  obtain ⟨d2, s2, p2, g2, rfl, hd2, hs2, hp2, hg2⟩ := h2
  obtain ⟨ao1, ca1, rfl, hm1⟩ := hp1.form
  obtain ⟨ao2, ca2, rfl, hm2⟩ := hp2.form
  obtain ⟨w2, hw2⟩ : ∃ w2, w2 = (w.alloc (.cells #[.int .i64 x.1.1, .int .i64 x.1.2, .int .i64 x.2.1, .int .i64 x.2.2.1, d1, s1, .slice ao1 x.2.2.2.2.2.1.length ca1, g1] 81)).alloc (.cells #[.int .i64 x.1.1, .int .i64 x.1.2, .int .i64 x.2.1, .int .i64 x.2.2.1, d2, s2, .slice ao2 x.2.2.2.2.2.1.length ca2, g2] 81) := ⟨_, rfl⟩
  have ra : Row w2 w.heap.size 81 [.int .i64 x.1.1, .int .i64 x.1.2, .int .i64 x.2.1, .int .i64 x.2.2.1, d1, s1, .slice ao1 x.2.2.2.2.2.1.length ca1, g1] := by rw [hw2]; exact row_alloc (Row.new w 81 _) _
  have rb : Row w2 (w.heap.size + 1) 81 [.int .i64 x.1.1, .int .i64 x.1.2, .int .i64 x.2.1, .int .i64 x.2.2.1, d2, s2, .slice ao2 x.2.2.2.2.2.1.length ca2, g2] := by
    rw [hw2]
    have := Row.new (w.alloc (.cells #[.int .i64 x.1.1, .int .i64 x.1.2, .int .i64 x.2.1, .int .i64 x.2.2.1, d1, s1, .slice ao1 x.2.2.2.2.2.1.length ca1, g1] 81)) 81 [.int .i64 x.1.1, .int .i64 x.1.2, .int .i64 x.2.1, .int .i64 x.2.2.1, d2, s2, .slice ao2 x.2.2.2.2.2.1.length ca2, g2]
    simpa using this
  have hB : Below w.heap.size w w2 := by rw [hw2]; exact ((Below.refl _ w).alloc (Nat.le_refl _) _).alloc (by simp) _
  have sD := same_eq_any w2 d1 d2 _ (hd1.mv (Mv.below hB)).1 (hd2.mv (Mv.below hB)).1
  have sS := sameVotes_eq w2 s1 s2 _ (hs1.mv mov_vote hB.size (Mv.below hB)) (hs2.mv mov_vote hB.size (Mv.below hB))
  have hbn := balNe_eq x.1.1 x.1.2
  have hn1 : (x.2.1 != x.2.1) = false := by simp
  have hn2 : (x.2.2.1 != x.2.2.1) = false := by simp
  have hn3 : ((x.2.2.2.2.2.1.length : Int) != (x.2.2.2.2.2.1.length : Int)) = false := by simp
  go_enter Tryd.func31, Tryd.ntmps31
  go_upto_region 1 with fail
  rw [← hw2]
  clear hw2
  have a2 := ra.cell (j := 2) rfl; have a3 := ra.cell (j := 3) rfl; have a4 := ra.cell (j := 4) rfl; have a5 := ra.cell (j := 5) rfl
  have b2 := rb.cell (j := 2) rfl; have b3 := rb.cell (j := 3) rfl; have b4 := rb.cell (j := 4) rfl; have b5 := rb.cell (j := 5) rfl
  go_wp2_with (first
    | (refine wl_part rfl _ _ rfl w.heap.size 0 rfl _ _ ra [.int .i64 x.1.1, .int .i64 x.1.2] rfl _ Tryd.underlying28 rfl (by kernel_rfl) ?_)
    | (refine wl_part rfl _ _ rfl (w.heap.size + 1) 0 rfl _ _ rb [.int .i64 x.1.1, .int .i64 x.1.2] rfl _ Tryd.underlying28 rfl (by kernel_rfl) ?_))
  refine sD.mono ?_
  rintro e w3 ⟨rfl, rfl⟩
  clear sD
  go_wp2_with fail
  refine sS.mono ?_
  rintro e w4 ⟨rfl, hb4⟩
  have ra4 := ra.below hb4
  have rb4 := rb.below hb4
  have hB4 := below_and hB (Nat.le_refl _) hb4
  have a6 := ra4.cell (j := 6) rfl; have a7 := ra4.cell (j := 7) rfl
  have b6 := rb4.cell (j := 6) rfl; have b7 := rb4.cell (j := 7) rfl
  have sG := same_eq_any w4 g1 g2 _ (hg1.mv (Mv.below hB4)).1 (hg2.mv (Mv.below hB4)).1
  clear sS a2 a3 a4 a5 b2 b3 b4 b5 ra rb hB hb4
  go_wp2_with fail
  refine sG.mono ?_
  rintro e w5 ⟨rfl, rfl⟩
  clear sG
  have hlm : (x.2.2.2.2.2.1.length : Int) ≤ 9223372036854775807 := by
    obtain ⟨_, _, h, hm⟩ := hp1.form
    rcases Nat.eq_zero_or_pos x.2.2.2.2.2.1.length with h0 | h0
    · omega
    · obtain ⟨_, _, c, e, h1, h2, _⟩ := hp1.at h0
      unfold maxLen at h2
      omega
  clear hd1 hs1 hg1 hd2 hs2 hg2 a6 a7 b6 b7
  have ra := ra4
  have rb := rb4
  have hBB := hB4
  clear ra4 rb4 hB4
  generalize hys : x.2.2.2.2.2.1 = ys at *
  generalize x.1.1 = xv at *; generalize x.1.2 = xt at *; generalize x.2.1 = xr at *; generalize x.2.2.1 = xl at *
  have a6 := ra.cell (j := 6) rfl
  go_wp2_with fail
  go_loopw [63] (fun i wr => ∃ q : Nat, q ≤ ys.length ∧ i = .int .i64 q ∧ Below w.heap.size w wr ∧ Row wr (w.heap.size + 1) 81 [.int .i64 xv, .int .i64 xt, .int .i64 xr, .int .i64 xl, d2, s2, .slice ao2 ys.length ca2, g2]) (fun i _ => ys.length - (intOf i).toNat)
  case atStart => exact ⟨0, by omega, rfl, hBB, rb⟩
  case round =>
    obtain ⟨q, hq, rfl, hB, hrb⟩ := hrel
    by_cases hql : q < ys.length
    · obtain ⟨a, ha⟩ : ∃ a, ys[q]? = some a := ⟨_, List.getElem?_eq_getElem hql⟩
      obtain ⟨b1, o1, c1, hw1, _, _, _, hb1, hx1⟩ := hp1.at (by omega)
      obtain ⟨b2, o2, c2, hw2, _, _, _, hb2, hx2⟩ := hp2.at (by omega)
      injection hw1 with e1 e2 e3
      injection hw2 with f1 f2 f3
      subst e1 e3 f1 f3
      obtain ⟨r1, _, y1, vo1, vg1, vc1, rfl, t1, t2, t3⟩ := hx1 q a ha
      obtain ⟨r2, _, y2, vo2, vg2, vc2, rfl, t4, t5, t6⟩ := hx2 q a ha
      have y1 := rangeAt_block y1 (hB.block b1 hb1)
      have k1 := one_RPrep (G := Any) (w := w) (x := a) ⟨vo1, vg1, vc1, rfl, t1, t2, t3⟩
      have k2 := one_RPrep (G := Any) (w := w) (x := a) ⟨vo2, vg2, vc2, rfl, t4, t5, t6⟩
      have z1 := Row.new wr 97 [.int .i64 0, .int .i64 0, .int .i64 0, .int .i64 0, .int .i64 0, .slice none 0 0, .slice none 0 0, .slice none 0 0]
      have hbp := balNe_eq a.2.1.1 a.2.1.2
      have hnp : (a.1 != a.1) = false := by simp
      clear hx1 hx2 hp1 hp2 ra rb a6 hbn hn1 hn2
      go_wp2_with (first
        | (refine wpList_load_mid rfl _ _ rfl b1 (o1 + q * 8) rfl [.int .i64 a.1, .int .i64 a.2.1.1, .int .i64 a.2.1.2, .int .i64 a.2.2.1.1, .int .i64 a.2.2.1.2.1, vo1, vg1, vc1] _ y1 Tryd.underlying97 rfl (by kernel_rfl) ?_)
        | (refine wl_store rfl _ _ _ rfl wr.heap.size [.int .i64 a.1, .int .i64 a.2.1.1, .int .i64 a.2.1.2, .int .i64 a.2.2.1.1, .int .i64 a.2.2.1.2.1, vo1, vg1, vc1] rfl rfl _ _ z1 rfl (by kernel_rfl) k1 ?_; intro w6 hr6 hg6; have hb6 : Below wr.heap.size wr w6 := (below_alloc wr (.cells ([.int .i64 0, .int .i64 0, .int .i64 0, .int .i64 0, .int .i64 0, .slice none 0 0, .slice none 0 0, .slice none 0 0] : List Value).toArray 97)).trans (grown_below hg6 (by simp) (fun k hk => by cases hk; exact Nat.le_refl _)); have hrb6 := hrb.below hb6; have c6 := hrb6.cell (j := 6) rfl; have hB6 := below_and hB (Nat.le_refl _) hb6; have y2' := rangeAt_block y2 (hB6.block b2 hb2); have z2 := Row.new w6 97 [.int .i64 0, .int .i64 0, .int .i64 0, .int .i64 0, .int .i64 0, .slice none 0 0, .slice none 0 0, .slice none 0 0])
        | (refine wpList_load_mid rfl _ _ rfl b2 (o2 + q * 8) rfl [.int .i64 a.1, .int .i64 a.2.1.1, .int .i64 a.2.1.2, .int .i64 a.2.2.1.1, .int .i64 a.2.2.1.2.1, vo2, vg2, vc2] _ y2' Tryd.underlying97 rfl (by kernel_rfl) ?_)
        | (refine wl_store rfl _ _ _ rfl w6.heap.size [.int .i64 a.1, .int .i64 a.2.1.1, .int .i64 a.2.1.2, .int .i64 a.2.2.1.1, .int .i64 a.2.2.1.2.1, vo2, vg2, vc2] rfl rfl _ _ z2 rfl (by kernel_rfl) k2 ?_; intro w7 hr7 hg7; have hb7 : Below w6.heap.size w6 w7 := (below_alloc w6 (.cells ([.int .i64 0, .int .i64 0, .int .i64 0, .int .i64 0, .int .i64 0, .slice none 0 0, .slice none 0 0, .slice none 0 0] : List Value).toArray 97)).trans (grown_below hg7 (by simp) (fun k hk => by cases hk; exact Nat.le_refl _)); have r6 := hr6.out.below hb7; have r7 := hr7.out; have m0 := r6.cell (j := 0) rfl; have n0 := r7.cell (j := 0) rfl)
        | (refine wl_part_w (by rfl) _ _ rfl wr.heap.size 1 rfl _ _ r6 [.int .i64 a.2.1.1, .int .i64 a.2.1.2] rfl _ Tryd.underlying28 rfl (by kernel_rfl) ?_)
        | (refine wl_part_w (by rfl) _ _ rfl w6.heap.size 1 rfl _ _ r7 [.int .i64 a.2.1.1, .int .i64 a.2.1.2] rfl _ Tryd.underlying28 rfl (by kernel_rfl) ?_)
        | (refine wl_part_w (by rfl) _ _ rfl wr.heap.size 3 rfl _ _ r6 [.int .i64 a.2.2.1.1, .int .i64 a.2.2.1.2.1, vo1, vg1] rfl _ Tryd.underlying31 rfl (by kernel_rfl) ?_)
        | (refine wl_part_w (by rfl) _ _ rfl w6.heap.size 3 rfl _ _ r7 [.int .i64 a.2.2.1.1, .int .i64 a.2.2.1.2.1, vo2, vg2] rfl _ Tryd.underlying31 rfl (by kernel_rfl) ?_))
      have hB7 := below_and hB6 (Nat.le_refl _) hb7
      refine (sameReq_eq w7 [.int .i64 a.2.2.1.1, .int .i64 a.2.2.1.2.1, vo1, vg1] [.int .i64 a.2.2.1.1, .int .i64 a.2.2.1.2.1, vo2, vg2] a.2.2.1 ⟨_, _, rfl, t1.mv (Mv.below hB7), t2.mv (Mv.below hB7)⟩ ⟨_, _, rfl, t4.mv (Mv.below hB7), t5.mv (Mv.below hB7)⟩).mono ?_
      rintro e w8 ⟨rfl, hb8⟩
      have hB8 := below_and hB7 (Nat.le_refl _) hb8
      have m7 := (r6.below hb8).cell (j := 7) rfl
      have n7 := (r7.below hb8).cell (j := 7) rfl
      have hrb8 := (hrb6.below hb7).below hb8
      clear hr6 hg6 hr7 hg7 r6 r7 m0 n0 z1 z2 y1 y2 y2' c6
      go_wp2_with fail
      refine (sameVotes_eq w8 vc1 vc2 _ (t3.mv mov_vote hB8.size (Mv.below hB8)) (t6.mv mov_vote hB8.size (Mv.below hB8))).mono ?_
      rintro e w9 ⟨rfl, hb9⟩
      go_wp2_with fail
      go_roundw
      case rel => exact ⟨q + 1, by omega, by go_num, below_and hB8 (Nat.le_refl _) hb9, hrb8.below hb9⟩
      case measure => simp [intOf]; omega
    · go_wp2_with fail
      go_ret
      exact ⟨rfl, hB⟩
end Go.Proofs.YtajmgpgjkalfkaaDoor
end

section
set_option linter.unusedVariables false
set_option linter.unusedSimpArgs false
namespace Go.Proofs.YtajmgpgjkalfkaaDoor
open Go.RowKit Oct

theorem keep_cell {w u : World} (hu : Below w.heap.size w u) {a : Addr} {v : Value} (h : w.cell? a = some v) : u.cell? a = some v := (hu.cell (World.block_lt_of_cell? w a h)).trans h
theorem rl_len {α : Type} {R : (Nat → Prop) → World → List Value → α → Prop} {k : Nat} {G : Nat → Prop} {w : World} {v : Value} {ys : List α} (h : RL R k G w v ys) : (ys.length : Int) ≤ 9223372036854775807 := by
  rcases Nat.eq_zero_or_pos ys.length with h0 | h0
  · omega
  · obtain ⟨_, _, c, e, h1, h2, _⟩ := h.at h0
    unfold maxLen at h2
    omega
set_option maxRecDepth 20000 in
set_option maxHeartbeats 8000000 in
/-- Same, of the same message. -/
theorem sameMsg_eq (w : World) (m : PMsg) (s t : SV) (hs : SOk Any w m s) (ht : SOk Any w m t) :
    Calls Tryd.prog 16 #[.agg (mc m s).toArray, .agg (mc m t).toArray] w fun e w' => e = .returned (.bool true) ∧ Below w.heap.size w w' := by
  obtain ⟨w2, hw2⟩ : ∃ w2, w2 = (w.alloc (.cells (mc m s).toArray 48)).alloc (.cells (mc m t).toArray 48) := ⟨_, rfl⟩
  have ra : Row w2 w.heap.size 48 (mc m s) := by rw [hw2]; exact row_alloc (Row.new w 48 _) _
  have rb : Row w2 (w.heap.size + 1) 48 (mc m t) := by
    rw [hw2]
    have := Row.new (w.alloc (.cells (mc m s).toArray 48)) 48 (mc m t)
    simpa using this
  have hB : Below w.heap.size w w2 := by rw [hw2]; exact ((Below.refl _ w).alloc (Nat.le_refl _) _).alloc (by simp) _
  have hbn := balNe_eq m.bal.1 m.bal.2
  have hnkind : (m.kind != m.kind) = false := by simp
  have hnslot : (m.slot != m.slot) = false := by simp
  have hnfrm : (m.frm != m.frm) = false := by simp
  have hnto : (m.to != m.to) = false := by simp
  have hnidx : (m.idx != m.idx) = false := by simp
  have hncnt : (m.cnt != m.cnt) = false := by simp
  go_enter Tryd.func16, Tryd.ntmps16
  go_upto_region 1 with fail
  rw [← hw2]
  clear hw2
  generalize hN0 : w.heap.size = N0 at ra rb ⊢
  generalize hN1 : N0 + 1 = N1 at rb ⊢
  have a0 := ra.cell (j := 0) rfl; have b0 := rb.cell (j := 0) rfl
  have a3 := ra.cell (j := 3) rfl; have b3 := rb.cell (j := 3) rfl
  have a4 := ra.cell (j := 4) rfl; have b4 := rb.cell (j := 4) rfl
  have a5 := ra.cell (j := 5) rfl; have b5 := rb.cell (j := 5) rfl
  have a6 := ra.cell (j := 6) rfl; have b6 := rb.cell (j := 6) rfl
  have a7 := ra.cell (j := 7) rfl; have b7 := rb.cell (j := 7) rfl
  go_wp2_with (first
    | (refine wl_part_w (by rfl) _ _ rfl N0 1 rfl _ _ ra [.int .i64 m.bal.1, .int .i64 m.bal.2] rfl _ Tryd.underlying28 rfl (by kernel_rfl) ?_)
    | (refine wl_part_w (by rfl) _ _ rfl N1 1 rfl _ _ rb [.int .i64 m.bal.1, .int .i64 m.bal.2] rfl _ Tryd.underlying28 rfl (by kernel_rfl) ?_)
    | (refine wl_part rfl _ _ rfl N0 8 rfl _ _ ra [.int .i64 m.req.1, .int .i64 m.req.2.1, s.o, s.g] rfl _ Tryd.underlying31 rfl (by kernel_rfl) ?_)
    | (refine wl_part rfl _ _ rfl N1 8 rfl _ _ rb [.int .i64 m.req.1, .int .i64 m.req.2.1, t.o, t.g] rfl _ Tryd.underlying31 rfl (by kernel_rfl) ?_))
  clear a0 a3 a4 a5 a6 a7 b0 b3 b4 b5 b6 b7 hbn hnkind hnslot hnfrm hnto hnidx hncnt
  refine (sameReq_eq w2 [.int .i64 m.req.1, .int .i64 m.req.2.1, s.o, s.g] [.int .i64 m.req.1, .int .i64 m.req.2.1, t.o, t.g] m.req ⟨_, _, rfl, hs.o.mv (Mv.below hB), hs.g.mv (Mv.below hB)⟩ ⟨_, _, rfl, ht.o.mv (Mv.below hB), ht.g.mv (Mv.below hB)⟩).mono ?_
  rintro e w3 ⟨rfl, hb3⟩
  have ra := ra.below hb3
  have rb := rb.below hb3
  have hB := below_and hB (Nat.le_refl _) hb3
  clear hb3
  go_wp2_with (first
    | (refine wl_part_w (by rfl) _ _ rfl N0 12 rfl _ _ ra [.int .i64 m.oth.1, .int .i64 m.oth.2.1, s.o', s.g'] rfl _ Tryd.underlying31 rfl (by kernel_rfl) ?_)
    | (refine wl_part_w (by rfl) _ _ rfl N1 12 rfl _ _ rb [.int .i64 m.oth.1, .int .i64 m.oth.2.1, t.o', t.g'] rfl _ Tryd.underlying31 rfl (by kernel_rfl) ?_))
  refine (sameReq_eq w3 [.int .i64 m.oth.1, .int .i64 m.oth.2.1, s.o', s.g'] [.int .i64 m.oth.1, .int .i64 m.oth.2.1, t.o', t.g'] m.oth ⟨_, _, rfl, hs.o'.mv (Mv.below hB), hs.g'.mv (Mv.below hB)⟩ ⟨_, _, rfl, ht.o'.mv (Mv.below hB), ht.g'.mv (Mv.below hB)⟩).mono ?_
  rintro e w4 ⟨rfl, hb4⟩
  have ra := ra.below hb4
  have rb := rb.below hb4
  have hB := below_and hB (Nat.le_refl _) hb4
  clear hb4
  have a16 := ra.cell (j := 16) rfl; have b16 := rb.cell (j := 16) rfl; have a17 := ra.cell (j := 17) rfl; have b17 := rb.cell (j := 17) rfl; have a18 := ra.cell (j := 18) rfl; have b18 := rb.cell (j := 18) rfl
  go_wp2_with fail
  refine (same_eq_any w4 s.d t.d _ (hs.d.mv (Mv.below hB)).1 (ht.d.mv (Mv.below hB)).1).mono ?_
  rintro e w5 ⟨rfl, rfl⟩
  go_wp2_with fail
  refine (same_eq_any _ s.s t.s _ (hs.s.mv (Mv.below hB)).1 (ht.s.mv (Mv.below hB)).1).mono ?_
  rintro e w5 ⟨rfl, rfl⟩
  go_wp2_with fail
  refine (sameVotes_eq _ s.c t.c _ (hs.c.mv mov_vote hB.size (Mv.below hB)) (ht.c.mv mov_vote hB.size (Mv.below hB))).mono ?_
  rintro e w6 ⟨rfl, hb6⟩
  have ra := ra.below hb6
  have rb := rb.below hb6
  have hB := below_and hB (Nat.le_refl _) hb6
  clear hb6 a16 b16 a17 b17 a18 b18
  have a19 := ra.cell (j := 19) rfl; have b19 := rb.cell (j := 19) rfl
  go_wp2_with fail
  refine (sameVotes_eq _ s.v t.v _ (hs.v.mv mov_vote hB.size (Mv.below hB)) (ht.v.mv mov_vote hB.size (Mv.below hB))).mono ?_
  rintro e w7 ⟨rfl, hb7⟩
  have ra := ra.below hb7
  have rb := rb.below hb7
  have hB := below_and hB (Nat.le_refl _) hb7
  clear hb7 a19 b19
  have a20 := ra.cell (j := 20) rfl; have b20 := rb.cell (j := 20) rfl; have a21 := ra.cell (j := 21) rfl; have b21 := rb.cell (j := 21) rfl; have a22 := ra.cell (j := 22) rfl; have b22 := rb.cell (j := 22) rfl
  obtain ⟨xn, cn, hvn, _⟩ := hs.n.form
  obtain ⟨yn, dn, hun, _⟩ := ht.n.form
  rw [hvn] at a20
  rw [hun] at b20
  have hnn : ((m.order.length : Int) != (m.order.length : Int)) = false := by simp
  have hlmn : (m.order.length : Int) ≤ 9223372036854775807 := rl_len hs.n
  obtain ⟨xp, cp, hvp, _⟩ := hs.p.form
  obtain ⟨yp, dp, hup, _⟩ := ht.p.form
  rw [hvp] at a21
  rw [hup] at b21
  have hnp : ((m.picks.length : Int) != (m.picks.length : Int)) = false := by simp
  have hlmp : (m.picks.length : Int) ≤ 9223372036854775807 := rl_len hs.p
  obtain ⟨xl, cl, hvl, _⟩ := hs.l.form
  obtain ⟨yl, dl, hul, _⟩ := ht.l.form
  rw [hvl] at a22
  rw [hul] at b22
  have hnl : ((m.reps.length : Int) != (m.reps.length : Int)) = false := by simp
  have hlml : (m.reps.length : Int) ≤ 9223372036854775807 := rl_len hs.l
  have HA := (show Hid (Row w7 N0 48 (mc m s)) from ra)
  have HB := (show Hid (Row w7 N1 48 (mc m t)) from rb)
  have HVN := (show Hid _ from hvn); have HUN := (show Hid _ from hun); have HVP := (show Hid _ from hvp); have HUP := (show Hid _ from hup); have HVL := (show Hid _ from hvl); have HUL := (show Hid _ from hul)
  have h0w := ra.lt
  have h1w := rb.lt
  clear ra rb hvn hun hvp hup hvl hul
  go_wp2_with fail
  go_loopw [129] (fun i wr => ∃ q : Nat, q ≤ m.order.length ∧ i = .int .i64 q ∧ Below w7.heap.size w7 wr) (fun i _ => m.order.length - (intOf i).toNat)
  case atStart => exact ⟨0, by omega, rfl, Below.refl _ _⟩
  case round =>
    obtain ⟨q, hq, rfl, hbr⟩ := hrel
    have hBr := below_and hB (Nat.le_refl _) hbr
    by_cases hql : q < m.order.length
    · obtain ⟨a, ha⟩ : ∃ a, m.order[q]? = some a := ⟨_, List.getElem?_eq_getElem hql⟩
      obtain ⟨b1, o1, c1, hw1, _, _, _, hb1, hx1⟩ := hs.n.at (by omega)
      obtain ⟨b2, o2, c2, hw2, _, _, _, hb2, hx2⟩ := ht.n.at (by omega)
      rw [HVN.out] at hw1
      rw [HUN.out] at hw2
      injection hw1 with e1 e2 e3
      injection hw2 with f1 f2 f3
      subst e1 e3 f1 f3
      obtain ⟨r1, _, y1, hr1⟩ := hx1 q a ha
      obtain ⟨r2, _, y2, hr2⟩ := hx2 q a ha
      have hr1 : r1 = [.int .i64 a] := hr1
      have hr2 : r2 = [.int .i64 a] := hr2
      subst hr1 hr2
      have d0 := rangeAt_block y1 (hBr.block b1 hb1) 0 _ rfl
      have d1 := rangeAt_block y2 (hBr.block b2 hb2) 0 _ rfl
      simp only [Nat.mul_one, Nat.add_zero] at d0 d1
      have e20 := (hbr.cell (p := ⟨N0, 20, none⟩) h0w).trans a20
      have f20 := (hbr.cell (p := ⟨N1, 20, none⟩) h1w).trans b20
      have hna : (a != a) = false := by simp
      clear hx1 hx2 y1 y2 ha
      go_wp2_with fail
      go_quiet (fail)
      go_wp2_with fail
      go_roundw
      case rel => exact ⟨q + 1, by omega, by go_num, bel_dn hbr _⟩
      case measure => simp [intOf]; omega
    · have e21 := (hbr.cell (p := ⟨N0, 21, none⟩) h0w).trans a21
      go_wp2_with fail
      go_loopw [147] (fun i wr => ∃ q : Nat, q ≤ m.picks.length ∧ i = .int .i64 q ∧ Below w7.heap.size w7 wr) (fun i _ => m.picks.length - (intOf i).toNat)
      case atStart => exact ⟨0, by omega, rfl, hbr⟩
      case round =>
        clear hbr hBr e21 hql hq
        obtain ⟨q, hq, rfl, hbr⟩ := hrel
        have hBr := below_and hB (Nat.le_refl _) hbr
        by_cases hql : q < m.picks.length
        · obtain ⟨a, ha⟩ : ∃ a, m.picks[q]? = some a := ⟨_, List.getElem?_eq_getElem hql⟩
          obtain ⟨b1, o1, c1, hw1, _, _, _, hb1, hx1⟩ := hs.p.at (by omega)
          obtain ⟨b2, o2, c2, hw2, _, _, _, hb2, hx2⟩ := ht.p.at (by omega)
          rw [HVP.out] at hw1
          rw [HUP.out] at hw2
          injection hw1 with e1 e2 e3
          injection hw2 with f1 f2 f3
          subst e1 e3 f1 f3
          obtain ⟨r1, _, y1, hr1⟩ := hx1 q a ha
          obtain ⟨r2, _, y2, hr2⟩ := hx2 q a ha
          have hK := (show Hid (∀ u, Below w7.heap.size w7 u → Calls Tryd.prog 19 #[.agg r1.toArray, .agg r2.toArray] u fun e w' => e = .returned (.bool true) ∧ Below u.heap.size u w') from fun u hu => by
            have hbu := below_and hB (Nat.le_refl _) hu
            exact sameReq_eq u r1 r2 a (mov_req _ _ _ _ _ _ hr1 hbu.size (Mv.below hbu)) (mov_req _ _ _ _ _ _ hr2 hbu.size (Mv.below hbu)))
          obtain ⟨vo1, vg1, rfl, _, _⟩ := hr1
          obtain ⟨vo2, vg2, rfl, _, _⟩ := hr2
          have y1 := rangeAt_block y1 (hBr.block b1 hb1)
          have y2 := rangeAt_block y2 (hBr.block b2 hb2)
          have e21 := (hbr.cell (p := ⟨N0, 21, none⟩) h0w).trans a21
          have f21 := (hbr.cell (p := ⟨N1, 21, none⟩) h1w).trans b21
          have p0 := y1 0 _ rfl; have q0 := y2 0 _ rfl
          have p1 := y1 1 _ rfl; have q1 := y2 1 _ rfl
          have p2 := y1 2 _ rfl; have q2 := y2 2 _ rfl
          have p3 := y1 3 _ rfl; have q3 := y2 3 _ rfl
          simp only [Nat.add_zero] at p0 q0
          have hdr : Below w7.heap.size w7 wr.drew := hbr.trans ⟨rfl, rfl, rfl, Nat.le_refl _, fun _ _ => rfl⟩
          clear hx1 hx2 y1 y2 ha
          go_wp2_with fail
          have SK := (show Hid (∀ u, Below wr.heap.size wr u → u.cell? ⟨N0, 21, none⟩ = some (.slice (some ⟨b1, o1, none⟩) m.picks.length cp) ∧ u.cell? ⟨N1, 21, none⟩ = some (.slice (some ⟨b2, o2, none⟩) m.picks.length dp) ∧ u.cell? ⟨b1, o1 + q * 4, none⟩ = some (Value.int .i64 a.1) ∧ u.cell? ⟨b2, o2 + q * 4, none⟩ = some (Value.int .i64 a.1) ∧ u.cell? ⟨b1, o1 + q * 4 + 1, none⟩ = some (Value.int .i64 a.2.1) ∧ u.cell? ⟨b2, o2 + q * 4 + 1, none⟩ = some (Value.int .i64 a.2.1) ∧ u.cell? ⟨b1, o1 + q * 4 + 2, none⟩ = some (vo1) ∧ u.cell? ⟨b2, o2 + q * 4 + 2, none⟩ = some (vo2) ∧ u.cell? ⟨b1, o1 + q * 4 + 3, none⟩ = some (vg1) ∧ u.cell? ⟨b2, o2 + q * 4 + 3, none⟩ = some (vg2)) from fun u hu => ⟨keep_cell hu e21, keep_cell hu f21, keep_cell hu p0, keep_cell hu q0, keep_cell hu p1, keep_cell hu q1, keep_cell hu p2, keep_cell hu q2, keep_cell hu p3, keep_cell hu q3⟩)
          have hdw : Below wr.heap.size wr wr.drew := ⟨rfl, rfl, rfl, Nat.le_refl _, fun _ _ => rfl⟩
          go_region_held3 (fun u => u.cell? ⟨N0, 21, none⟩ = some (.slice (some ⟨b1, o1, none⟩) m.picks.length cp) ∧ u.cell? ⟨N1, 21, none⟩ = some (.slice (some ⟨b2, o2, none⟩) m.picks.length dp) ∧ u.cell? ⟨b1, o1 + q * 4, none⟩ = some (Value.int .i64 a.1) ∧ u.cell? ⟨b2, o2 + q * 4, none⟩ = some (Value.int .i64 a.1) ∧ u.cell? ⟨b1, o1 + q * 4 + 1, none⟩ = some (Value.int .i64 a.2.1) ∧ u.cell? ⟨b2, o2 + q * 4 + 1, none⟩ = some (Value.int .i64 a.2.1) ∧ u.cell? ⟨b1, o1 + q * 4 + 2, none⟩ = some (vo1) ∧ u.cell? ⟨b2, o2 + q * 4 + 2, none⟩ = some (vo2) ∧ u.cell? ⟨b1, o1 + q * 4 + 3, none⟩ = some (vg1) ∧ u.cell? ⟨b2, o2 + q * 4 + 3, none⟩ = some (vg2))
            (first | exact SK.out _ (by assumption) | go_keep)
            (first | (go_at_call 19; refine (hK.out _ hdr).mono ?_; rintro e w8 ⟨rfl, hb8⟩; have hb8w : Below wr.heap.size wr w8 := hdw.trans hb8))
          go_wp2_with fail
          go_roundw
          case rel => exact ⟨q + 1, by omega, by go_num, below_and hdr (Nat.le_refl _) hb8⟩
          case measure => simp [intOf]; omega
        · have e22 := (hbr.cell (p := ⟨N0, 22, none⟩) h0w).trans a22
          go_wp2_with fail
          go_loopw [166] (fun i wr => ∃ q : Nat, q ≤ m.reps.length ∧ i = .int .i64 q ∧ Below w7.heap.size w7 wr) (fun i _ => m.reps.length - (intOf i).toNat)
          case atStart => exact ⟨0, by omega, rfl, hbr⟩
          case round =>
            clear hbr hBr e22 hql hq
            obtain ⟨q, hq, rfl, hbr⟩ := hrel
            have hBr := below_and hB (Nat.le_refl _) hbr
            by_cases hql : q < m.reps.length
            · obtain ⟨a, ha⟩ : ∃ a, m.reps[q]? = some a := ⟨_, List.getElem?_eq_getElem hql⟩
              obtain ⟨b1, o1, c1, hw1, _, _, _, hb1, hx1⟩ := hs.l.at (by omega)
              obtain ⟨b2, o2, c2, hw2, _, _, _, hb2, hx2⟩ := ht.l.at (by omega)
              rw [HVL.out] at hw1
              rw [HUL.out] at hw2
              injection hw1 with e1 e2 e3
              injection hw2 with f1 f2 f3
              subst e1 e3 f1 f3
              obtain ⟨r1, _, y1, hr1⟩ := hx1 q a ha
              obtain ⟨r2, _, y2, hr2⟩ := hx2 q a ha
              have hK := (show Hid (∀ u, Below w7.heap.size w7 u → Calls Tryd.prog 31 #[.agg r1.toArray, .agg r2.toArray] u fun e w' => e = .returned (.bool true) ∧ Below u.heap.size u w') from fun u hu => by
                have hbu := below_and hB (Nat.le_refl _) hu
                exact sameReport_eq u r1 r2 a (mov_rep _ _ _ _ _ _ hr1 hbu.size (Mv.below hbu)) (mov_rep _ _ _ _ _ _ hr2 hbu.size (Mv.below hbu)))
              obtain ⟨vd1, vs1, vp1, vg1, rfl, _, _, _, _⟩ := hr1
              obtain ⟨vd2, vs2, vp2, vg2, rfl, _, _, _, _⟩ := hr2
              have y1 := rangeAt_block y1 (hBr.block b1 hb1)
              have y2 := rangeAt_block y2 (hBr.block b2 hb2)
              have e22 := (hbr.cell (p := ⟨N0, 22, none⟩) h0w).trans a22
              have f22 := (hbr.cell (p := ⟨N1, 22, none⟩) h1w).trans b22
              have p0 := y1 0 _ rfl; have q0 := y2 0 _ rfl
              have p1 := y1 1 _ rfl; have q1 := y2 1 _ rfl
              have p2 := y1 2 _ rfl; have q2 := y2 2 _ rfl
              have p3 := y1 3 _ rfl; have q3 := y2 3 _ rfl
              have p4 := y1 4 _ rfl; have q4 := y2 4 _ rfl
              have p5 := y1 5 _ rfl; have q5 := y2 5 _ rfl
              have p6 := y1 6 _ rfl; have q6 := y2 6 _ rfl
              have p7 := y1 7 _ rfl; have q7 := y2 7 _ rfl
              simp only [Nat.add_zero] at p0 q0
              have hdr : Below w7.heap.size w7 wr.drew := hbr.trans ⟨rfl, rfl, rfl, Nat.le_refl _, fun _ _ => rfl⟩
              clear hx1 hx2 y1 y2 ha
              go_wp2_with fail
              have SK := (show Hid (∀ u, Below wr.heap.size wr u → u.cell? ⟨N0, 22, none⟩ = some (.slice (some ⟨b1, o1, none⟩) m.reps.length cl) ∧ u.cell? ⟨N1, 22, none⟩ = some (.slice (some ⟨b2, o2, none⟩) m.reps.length dl) ∧ u.cell? ⟨b1, o1 + q * 8, none⟩ = some (Value.int .i64 a.1.1) ∧ u.cell? ⟨b2, o2 + q * 8, none⟩ = some (Value.int .i64 a.1.1) ∧ u.cell? ⟨b1, o1 + q * 8 + 1, none⟩ = some (Value.int .i64 a.1.2) ∧ u.cell? ⟨b2, o2 + q * 8 + 1, none⟩ = some (Value.int .i64 a.1.2) ∧ u.cell? ⟨b1, o1 + q * 8 + 2, none⟩ = some (Value.int .i64 a.2.1) ∧ u.cell? ⟨b2, o2 + q * 8 + 2, none⟩ = some (Value.int .i64 a.2.1) ∧ u.cell? ⟨b1, o1 + q * 8 + 3, none⟩ = some (Value.int .i64 a.2.2.1) ∧ u.cell? ⟨b2, o2 + q * 8 + 3, none⟩ = some (Value.int .i64 a.2.2.1) ∧ u.cell? ⟨b1, o1 + q * 8 + 4, none⟩ = some (vd1) ∧ u.cell? ⟨b2, o2 + q * 8 + 4, none⟩ = some (vd2) ∧ u.cell? ⟨b1, o1 + q * 8 + 5, none⟩ = some (vs1) ∧ u.cell? ⟨b2, o2 + q * 8 + 5, none⟩ = some (vs2) ∧ u.cell? ⟨b1, o1 + q * 8 + 6, none⟩ = some (vp1) ∧ u.cell? ⟨b2, o2 + q * 8 + 6, none⟩ = some (vp2) ∧ u.cell? ⟨b1, o1 + q * 8 + 7, none⟩ = some (vg1) ∧ u.cell? ⟨b2, o2 + q * 8 + 7, none⟩ = some (vg2)) from fun u hu => ⟨keep_cell hu e22, keep_cell hu f22, keep_cell hu p0, keep_cell hu q0, keep_cell hu p1, keep_cell hu q1, keep_cell hu p2, keep_cell hu q2, keep_cell hu p3, keep_cell hu q3, keep_cell hu p4, keep_cell hu q4, keep_cell hu p5, keep_cell hu q5, keep_cell hu p6, keep_cell hu q6, keep_cell hu p7, keep_cell hu q7⟩)
              have hdw : Below wr.heap.size wr wr.drew := ⟨rfl, rfl, rfl, Nat.le_refl _, fun _ _ => rfl⟩
              go_region_held3 (fun u => u.cell? ⟨N0, 22, none⟩ = some (.slice (some ⟨b1, o1, none⟩) m.reps.length cl) ∧ u.cell? ⟨N1, 22, none⟩ = some (.slice (some ⟨b2, o2, none⟩) m.reps.length dl) ∧ u.cell? ⟨b1, o1 + q * 8, none⟩ = some (Value.int .i64 a.1.1) ∧ u.cell? ⟨b2, o2 + q * 8, none⟩ = some (Value.int .i64 a.1.1) ∧ u.cell? ⟨b1, o1 + q * 8 + 1, none⟩ = some (Value.int .i64 a.1.2) ∧ u.cell? ⟨b2, o2 + q * 8 + 1, none⟩ = some (Value.int .i64 a.1.2) ∧ u.cell? ⟨b1, o1 + q * 8 + 2, none⟩ = some (Value.int .i64 a.2.1) ∧ u.cell? ⟨b2, o2 + q * 8 + 2, none⟩ = some (Value.int .i64 a.2.1) ∧ u.cell? ⟨b1, o1 + q * 8 + 3, none⟩ = some (Value.int .i64 a.2.2.1) ∧ u.cell? ⟨b2, o2 + q * 8 + 3, none⟩ = some (Value.int .i64 a.2.2.1) ∧ u.cell? ⟨b1, o1 + q * 8 + 4, none⟩ = some (vd1) ∧ u.cell? ⟨b2, o2 + q * 8 + 4, none⟩ = some (vd2) ∧ u.cell? ⟨b1, o1 + q * 8 + 5, none⟩ = some (vs1) ∧ u.cell? ⟨b2, o2 + q * 8 + 5, none⟩ = some (vs2) ∧ u.cell? ⟨b1, o1 + q * 8 + 6, none⟩ = some (vp1) ∧ u.cell? ⟨b2, o2 + q * 8 + 6, none⟩ = some (vp2) ∧ u.cell? ⟨b1, o1 + q * 8 + 7, none⟩ = some (vg1) ∧ u.cell? ⟨b2, o2 + q * 8 + 7, none⟩ = some (vg2))
                (first | exact SK.out _ (by assumption) | go_keep)
                (first | (go_at_call 31; refine (hK.out _ hdr).mono ?_; rintro e w8 ⟨rfl, hb8⟩; have hb8w : Below wr.heap.size wr w8 := hdw.trans hb8))
              go_wp2_with fail
              go_roundw
              case rel => exact ⟨q + 1, by omega, by go_num, below_and hdr (Nat.le_refl _) hb8⟩
              case measure => simp [intOf]; omega
            · go_wp2_with fail
              go_ret
              exact ⟨rfl, hBr⟩
end Go.Proofs.YtajmgpgjkalfkaaDoor
end
