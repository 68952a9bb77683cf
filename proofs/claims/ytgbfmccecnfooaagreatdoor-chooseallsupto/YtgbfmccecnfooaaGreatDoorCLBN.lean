/- Sealed messages: the document's bare. -/
import Derived.Test.YtgbfmccecnfooaaGreatDoorCLBG
import Derived.Test.YtgbfmccecnfooaaGreatDoorCLAY
set_option linter.unusedSimpArgs false
set_option linter.unusedVariables false
namespace Go.Proofs.YtgbfmccecnfooaaGreatDoor
section
open Go.RowKit Oct
def Btw (B C : Nat) : Nat → Prop := fun k => B ≤ k ∧ k < C
/-- A message of the call's own: all but its reports below C, the reports in a row that may be written, from C on. -/
structure SOkL (B C : Nat) (w : World) (m : PMsg) (q : SV) : Prop where
  o : RT (Btw B C) w q.o m.req.2.2.1
  g : RT (Btw B C) w q.g m.req.2.2.2
  o' : RT (Btw B C) w q.o' m.oth.2.2.1
  g' : RT (Btw B C) w q.g' m.oth.2.2.2
  d : RT (Btw B C) w q.d m.data
  s : RT (Btw B C) w q.s m.sig
  c : RL RVote 2 (Btw B C) w q.c m.cert
  v : RL RVote 2 (Btw B C) w q.v m.votes
  n : RL RInt 1 (Btw B C) w q.n m.order
  p : RL RReq 4 (Btw B C) w q.p m.picks
  l : LB RRep 28 8 C w q.l m.reps
  le : B ≤ C
  lt : C ≤ w.heap.size
theorem SOkL.ok {B C : Nat} {w : World} {m : PMsg} {q : SV} (h : SOkL B C w m q) : SOk (From B) w m q := by
  have M : Mv (Btw B C) (From B) w w := fun k hk _ => ⟨rfl, hk.1⟩
  have hl := h.l.rl mov_rep
  exact ⟨h.o.mv M, h.g.mv M, h.o'.mv M, h.g'.mv M, h.d.mv M, h.s.mv M, h.c.mv mov_vote (Nat.le_refl _) M, h.v.mv mov_vote (Nat.le_refl _) M, h.n.mv mov_int (Nat.le_refl _) M, h.p.mv mov_req (Nat.le_refl _) M, hl.mv mov_rep (Nat.le_refl _) (Mv.weak h.le)⟩
theorem SOkL.any {B C : Nat} {w : World} {m : PMsg} {q : SV} (h : SOkL B C w m q) : SOk Any w m q := h.ok.mv (Nat.le_refl _) Mv.any
theorem SOkL.move {B C : Nat} {w w' : World} {m : PMsg} {q : SV} (h : SOkL B C w m q) (hs : w.heap.size ≤ w'.heap.size) (hm : ∀ k, Btw B C k → k < w.heap.size → w'.heap[k]? = w.heap[k]?) (hl : LB RRep 28 8 C w' q.l m.reps) : SOkL B C w' m q := by
  have M : Mv (Btw B C) (Btw B C) w w' := fun k hk hlt => ⟨hm k hk hlt, hk⟩
  exact ⟨h.o.mv M, h.g.mv M, h.o'.mv M, h.g'.mv M, h.d.mv M, h.s.mv M, h.c.mv mov_vote hs M, h.v.mv mov_vote hs M, h.n.mv mov_int hs M, h.p.mv mov_req hs M, hl, h.le, Nat.le_trans h.lt hs⟩
theorem SOkL.below {B C : Nat} {w w' : World} {m : PMsg} {q : SV} (h : SOkL B C w m q) (hb : Below w.heap.size w w') : SOkL B C w' m q := h.move hb.size (fun k _ hlt => hb.block k hlt) (h.l.below mov_rep hb)
/-- A block below all of it is written. -/
theorem SOkL.grown {B C b : Nat} {w w' : World} {m : PMsg} {q : SV} (h : SOkL B C w m q) (hg : w.grownBy w' (some b)) (hb : b < B) : SOkL B C w' m q := h.move hg.size (fun k hk hlt => hg.block k hlt (fun e => by injection e with e; have := hk.1; omega)) (h.l.grown mov_rep hg (Nat.lt_of_lt_of_le hb h.le))
theorem SOkL.weak {B B' C : Nat} {w : World} {m : PMsg} {q : SV} (h : SOkL B C w m q) (hB : B' ≤ B) : SOkL B' C w m q := by
  have M : Mv (Btw B C) (Btw B' C) w w := fun k hk _ => ⟨rfl, Nat.le_trans hB hk.1, hk.2⟩
  exact ⟨h.o.mv M, h.g.mv M, h.o'.mv M, h.g'.mv M, h.d.mv M, h.s.mv M, h.c.mv mov_vote (Nat.le_refl _) M, h.v.mv mov_vote (Nat.le_refl _) M, h.n.mv mov_int (Nat.le_refl _) M, h.p.mv mov_req (Nat.le_refl _) M, h.l, Nat.le_trans hB h.le, h.lt⟩
set_option maxRecDepth 20000 in
set_option maxHeartbeats 8000000 in
/-- Copy. -/
theorem copyMsgL_any (w : World) (m : PMsg) (s : SV) (hs : SOk Any w m s) (hz : szM m) :
    Calls Tryz.prog 133 #[.agg (mc m s).toArray] w fun e w' => ∃ s' C, e = .returned (.agg (mc m s').toArray) ∧ SOkL w.heap.size C w' m s' ∧ Below w.heap.size w w' := by
  obtain ⟨w2, hw2⟩ : ∃ w2, w2 = (w.alloc (.cells (mc m s).toArray 72)).alloc (.cells (mc zeroM sv0).toArray 72) := ⟨_, rfl⟩
  have ra : Row w2 w.heap.size 72 (mc m s) := by rw [hw2]; exact row_alloc (Row.new w 72 _) _
  have rr : Row w2 (w.heap.size + 1) 72 (mc zeroM sv0) := by
    rw [hw2]
    have := Row.new (w.alloc (.cells (mc m s).toArray 72)) 72 (mc zeroM sv0)
    simpa using this
  have hB2 : Below w.heap.size w w2 := by rw [hw2]; exact ((Below.refl _ w).alloc (Nat.le_refl _) _).alloc (by simp) _
  have h2 : w.heap.size + 2 ≤ w2.heap.size := by rw [hw2]; simp
  have hzr : ∀ v ∈ mc zeroM sv0, v.oneCell' = true := (SOk.zero Any w 0).one
  go_enter Tryz.func133, Tryz.ntmps133
  go_upto_region 1 with fail
  rw [show (Obj.cells #[Value.int .i64 0, .int .i64 0, .int .i64 0, .int .i64 0, .int .i64 0, .int .i64 0, .int .i64 0, .int .i64 0, .int .i64 0, .int .i64 0, .slice none 0 0, .slice none 0 0, .int .i64 0, .int .i64 0, .slice none 0 0, .slice none 0 0, .slice none 0 0, .slice none 0 0, .slice none 0 0, .slice none 0 0, .slice none 0 0, .slice none 0 0, .slice none 0 0] 72) = .cells (mc zeroM sv0).toArray 72 from rfl, ← hw2]
  clear hw2
  go_wp2_with (refine wl_part rfl _ _ rfl w.heap.size 8 rfl _ _ ra [.int .i64 m.req.1, .int .i64 m.req.2.1, s.o, s.g] rfl _ Tryz.underlying62 rfl (by kernel_rfl) ?_)
  refine (copyReq_any w2 [.int .i64 m.req.1, .int .i64 m.req.2.1, s.o, s.g] m.req ⟨_, _, rfl, hs.o.mv (Mv.below hB2), hs.g.mv (Mv.below hB2)⟩ hz.req).mono ?_
  rintro e w3 ⟨r3, rfl, hR3, hb3⟩
  obtain ⟨vo, vg, rfl, fo, fg⟩ := hR3
  have fo := fo.mv (Mv.weak (L := w.heap.size + 2) h2)
  have fg := fg.mv (Mv.weak (L := w.heap.size + 2) h2)
  have ra3 := ra.below hb3
  have rr3 := rr.below hb3
  have hB3 := below_and hB2 (Nat.le_refl _) hb3
  have h3 := Nat.le_trans h2 hb3.size
  clear ra rr
  go_wp2_with (first
    | (refine wl_put rfl _ _ _ rfl w.heap.size 8 [.int .i64 m.req.1, .int .i64 m.req.2.1, vo, vg] rfl rfl _ _ ra3 (show 12 ≤ 23 by decide) (by kernel_rfl) (one_RReq (G := From (w.heap.size + 2)) (w := w3) (x := m.req) ⟨_, _, rfl, fo, fg⟩) ?_; intro w4 hr4 hg4; have ra4 : Row w4 w.heap.size 72 (mc m { s with o := vo, g := vg }) := hr4.out)
    | (refine wl_part rfl _ _ rfl w.heap.size 12 rfl _ _ ra4 [.int .i64 m.oth.1, .int .i64 m.oth.2.1, s.o', s.g'] rfl _ Tryz.underlying62 rfl (by kernel_rfl) ?_))
  have rr4 := rr3.grown hg4 (fun e => by injection e with e; omega)
  have hB4 : Below w.heap.size w w4 := hB3.trans (grown_below hg4 hB3.size (fun k hk => by cases hk; exact Nat.le_refl _))
  have h4 := Nat.le_trans h3 hg4.size
  have fo := fo.mv (Mv.from (L := w.heap.size + 2) hg4 (by omega) (Nat.le_refl _))
  have fg := fg.mv (Mv.from (L := w.heap.size + 2) hg4 (by omega) (Nat.le_refl _))
  refine (copyReq_any w4 [.int .i64 m.oth.1, .int .i64 m.oth.2.1, s.o', s.g'] m.oth ⟨_, _, rfl, hs.o'.mv (Mv.below hB4), hs.g'.mv (Mv.below hB4)⟩ hz.oth).mono ?_
  rintro e w5 ⟨r5, rfl, hR5, hb5⟩
  obtain ⟨vo5, vg5, rfl, fo5, fg5⟩ := hR5
  have fo := fo.mv (Mv.belowG hb5)
  have fg := fg.mv (Mv.belowG hb5)
  have fo5 := fo5.mv (Mv.weak (L := w.heap.size + 2) h4)
  have fg5 := fg5.mv (Mv.weak (L := w.heap.size + 2) h4)
  have ra5 := ra4.below hb5
  have rr5 := rr4.below hb5
  have hB5 := below_and hB4 (Nat.le_refl _) hb5
  have h5 := Nat.le_trans h4 hb5.size
  clear ra4 rr4 ra3 rr3 hr4 hg4
  go_wp2_with (first
    | (refine wl_put rfl _ _ _ rfl w.heap.size 12 [.int .i64 m.oth.1, .int .i64 m.oth.2.1, vo5, vg5] rfl rfl _ _ ra5 (show 16 ≤ 23 by decide) (by kernel_rfl) (one_RReq (G := From (w.heap.size + 2)) (w := w5) (x := m.oth) ⟨_, _, rfl, fo5, fg5⟩) ?_; intro w6 hr6 hg6; have ra6 : Row w6 w.heap.size 72 (mc m { s with o := vo, g := vg, o' := vo5, g' := vg5 }) := hr6.out; have c6 := (row_alloc ra6 (.cells #[] 5)).cell (j := 16) rfl; have hB6 : Below w.heap.size w w6 := hB5.trans (grown_below hg6 hB5.size (fun k hk => by cases hk; exact Nat.le_refl _)); have hd6 := (hs.d.mv (Mv.below hB6)).1)
    | (at_builtin; refine app_copy rfl _ _ rfl rfl _ m.data rfl hd6 (Nat.le_trans hz.data (by decide)) ?_; intro v7 w7 hown7 hfr7 hb7; have ra7 := ra6.below hb7)
    | (refine wl_set rfl _ _ _ rfl w.heap.size 16 _ rfl rfl _ _ ra7 (show 16 < 23 by decide) (by kernel_rfl) (own_one' hown7) ?_; intro w8 hr8 hg8; have ra8 : Row w8 w.heap.size 72 (mc m { s with o := vo, g := vg, o' := vo5, g' := vg5, d := v7 }) := hr8.out; have c8 := (row_alloc ra8 (.cells #[] 5)).cell (j := 17) rfl; have hB7 := below_and hB6 (Nat.le_refl _) hb7; have hB8 : Below w.heap.size w w8 := hB7.trans (grown_below hg8 hB7.size (fun k hk => by cases hk; exact Nat.le_refl _)); have hd8 := (hs.s.mv (Mv.below hB8)).1)
    | (at_builtin; refine app_copy rfl _ _ rfl rfl _ m.sig rfl hd8 (Nat.le_trans hz.sig (by decide)) ?_; intro v9 w9 hown9 hfr9 hb9; have ra9 := ra8.below hb9)
    | (refine wl_set rfl _ _ _ rfl w.heap.size 17 _ rfl rfl _ _ ra9 (show 17 < 23 by decide) (by kernel_rfl) (own_one' hown9) ?_; intro w10 hr10 hg10; have ra10 : Row w10 w.heap.size 72 (mc m { s with o := vo, g := vg, o' := vo5, g' := vg5, d := v7, s := v9 }) := hr10.out; have c10 := ra10.cell (j := 18) rfl))
  have h6 := Nat.le_trans h5 hg6.size
  have h7 := Nat.le_trans h6 hb7.size
  have h8 := Nat.le_trans h7 hg8.size
  have h9 := Nat.le_trans h8 hb9.size
  have h10 := Nat.le_trans h9 hg10.size
  have fo := fo.mv (Mv.from (L := w.heap.size + 2) hg6 (by omega) (Nat.le_refl _))
  have fg := fg.mv (Mv.from (L := w.heap.size + 2) hg6 (by omega) (Nat.le_refl _))
  have fo5 := fo5.mv (Mv.from (L := w.heap.size + 2) hg6 (by omega) (Nat.le_refl _))
  have fg5 := fg5.mv (Mv.from (L := w.heap.size + 2) hg6 (by omega) (Nat.le_refl _))
  have fo := fo.mv (Mv.belowG hb7)
  have fg := fg.mv (Mv.belowG hb7)
  have fo5 := fo5.mv (Mv.belowG hb7)
  have fg5 := fg5.mv (Mv.belowG hb7)
  have fd : RT (From w6.heap.size) w7 v7 m.data := RT.own hown7 hd6.1 hfr7
  have fd := fd.mv (Mv.weak (L := w.heap.size + 2) h6)
  have fo := fo.mv (Mv.from (L := w.heap.size + 2) hg8 (by omega) (Nat.le_refl _))
  have fg := fg.mv (Mv.from (L := w.heap.size + 2) hg8 (by omega) (Nat.le_refl _))
  have fo5 := fo5.mv (Mv.from (L := w.heap.size + 2) hg8 (by omega) (Nat.le_refl _))
  have fg5 := fg5.mv (Mv.from (L := w.heap.size + 2) hg8 (by omega) (Nat.le_refl _))
  have fd := fd.mv (Mv.from (L := w.heap.size + 2) hg8 (by omega) (Nat.le_refl _))
  have fo := fo.mv (Mv.belowG hb9)
  have fg := fg.mv (Mv.belowG hb9)
  have fo5 := fo5.mv (Mv.belowG hb9)
  have fg5 := fg5.mv (Mv.belowG hb9)
  have fd := fd.mv (Mv.belowG hb9)
  have fs : RT (From w8.heap.size) w9 v9 m.sig := RT.own hown9 hd8.1 hfr9
  have fs := fs.mv (Mv.weak (L := w.heap.size + 2) h8)
  have fo := fo.mv (Mv.from (L := w.heap.size + 2) hg10 (by omega) (Nat.le_refl _))
  have fg := fg.mv (Mv.from (L := w.heap.size + 2) hg10 (by omega) (Nat.le_refl _))
  have fo5 := fo5.mv (Mv.from (L := w.heap.size + 2) hg10 (by omega) (Nat.le_refl _))
  have fg5 := fg5.mv (Mv.from (L := w.heap.size + 2) hg10 (by omega) (Nat.le_refl _))
  have fd := fd.mv (Mv.from (L := w.heap.size + 2) hg10 (by omega) (Nat.le_refl _))
  have fs := fs.mv (Mv.from (L := w.heap.size + 2) hg10 (by omega) (Nat.le_refl _))
  have rr10 := ((((rr5.grown hg6 (fun e => by injection e with e; omega)).below hb7).grown hg8 (fun e => by injection e with e; omega)).below hb9).grown hg10 (fun e => by injection e with e; omega)
  have hB9 := below_and hB8 (Nat.le_refl _) hb9
  have hB10 : Below w.heap.size w w10 := hB9.trans (grown_below hg10 hB9.size (fun k hk => by cases hk; exact Nat.le_refl _))
  clear rr5 ra5 ra6 ra7 ra8 ra9 hr6 hr8 hr10 hg6 hg8 hg10 hown7 hown9 hfr7 hfr9 hb7 hb9 c6 c8 hd6 hd8 hB5 hB6 hB7 hB8 hB9
  refine (copyVotes_any w10 s.c _ (hs.c.mv mov_vote hB10.size (Mv.below hB10)) hz.cert).mono ?_
  rintro e w11 ⟨v11, rfl, fc, hb11⟩
  have fc := fc.mv mov_vote (Nat.le_refl _) (Mv.weak (L := w.heap.size + 2) h10)
  have fo := fo.mv (Mv.belowG hb11)
  have fg := fg.mv (Mv.belowG hb11)
  have fo5 := fo5.mv (Mv.belowG hb11)
  have fg5 := fg5.mv (Mv.belowG hb11)
  have fd := fd.mv (Mv.belowG hb11)
  have fs := fs.mv (Mv.belowG hb11)
  have ra11 := ra10.below hb11
  have rr11 := rr10.below hb11
  have hB11 := below_and hB10 (Nat.le_refl _) hb11
  have h11 := Nat.le_trans h10 hb11.size
  have oc := fc.one
  clear ra10 rr10 c10
  go_wp2_with (refine wl_set rfl _ _ _ rfl w.heap.size 18 _ rfl rfl _ _ ra11 (show 18 < 23 by decide) (by kernel_rfl) oc ?_; intro w12 hr12 hg12; have ra12 : Row w12 w.heap.size 72 (mc m { s with o := vo, g := vg, o' := vo5, g' := vg5, d := v7, s := v9, c := v11 }) := hr12.out; have c12 := ra12.cell (j := 19) rfl)
  have rr12 := rr11.grown hg12 (fun e => by injection e with e; omega)
  have hB12 : Below w.heap.size w w12 := hB11.trans (grown_below hg12 hB11.size (fun k hk => by cases hk; exact Nat.le_refl _))
  have h12 := Nat.le_trans h11 hg12.size
  have fo := fo.mv (Mv.from (L := w.heap.size + 2) hg12 (by omega) (Nat.le_refl _))
  have fg := fg.mv (Mv.from (L := w.heap.size + 2) hg12 (by omega) (Nat.le_refl _))
  have fo5 := fo5.mv (Mv.from (L := w.heap.size + 2) hg12 (by omega) (Nat.le_refl _))
  have fg5 := fg5.mv (Mv.from (L := w.heap.size + 2) hg12 (by omega) (Nat.le_refl _))
  have fd := fd.mv (Mv.from (L := w.heap.size + 2) hg12 (by omega) (Nat.le_refl _))
  have fs := fs.mv (Mv.from (L := w.heap.size + 2) hg12 (by omega) (Nat.le_refl _))
  have fc := fc.mv mov_vote hg12.size (Mv.from (L := w.heap.size + 2) hg12 (by omega) (Nat.le_refl _))
  refine (copyVotes_any w12 s.v _ (hs.v.mv mov_vote hB12.size (Mv.below hB12)) hz.votes).mono ?_
  rintro e w13 ⟨v13, rfl, fv, hb13⟩
  have fv := fv.mv mov_vote (Nat.le_refl _) (Mv.weak (L := w.heap.size + 2) h12)
  have fo := fo.mv (Mv.belowG hb13)
  have fg := fg.mv (Mv.belowG hb13)
  have fo5 := fo5.mv (Mv.belowG hb13)
  have fg5 := fg5.mv (Mv.belowG hb13)
  have fd := fd.mv (Mv.belowG hb13)
  have fs := fs.mv (Mv.belowG hb13)
  have fc := fc.mv mov_vote hb13.size (Mv.belowG hb13)
  have ra13 := ra12.below hb13
  have rr13 := rr12.below hb13
  have hB13 := below_and hB12 (Nat.le_refl _) hb13
  have h13 := Nat.le_trans h12 hb13.size
  have ov := fv.one
  obtain ⟨xp, cp, hvp, _⟩ := hs.p.form
  clear ra11 rr11 ra12 rr12 hr12 hg12 c12 hB11 hB12
  go_wp2_with (first
    | (refine wl_set rfl _ _ _ rfl w.heap.size 19 _ rfl rfl _ _ ra13 (show 19 < 23 by decide) (by kernel_rfl) ov ?_; intro w14 hr14 hg14; have ra14 : Row w14 w.heap.size 72 (mc m { s with o := vo, g := vg, o' := vo5, g' := vg5, d := v7, s := v9, c := v11, v := v13 }) := hr14.out; have c14 := (row_alloc ra14 (.cells #[] 3)).cell (j := 20) rfl; have hB14 : Below w.heap.size w w14 := hB13.trans (grown_below hg14 hB13.size (fun k hk => by cases hk; exact Nat.le_refl _)); have hn14 := hs.n.mv mov_int hB14.size (Mv.below hB14))
    | (at_builtin; refine app_ints_copy rfl _ _ rfl rfl _ m.order rfl hn14 hz.order.1 ?_; intro v15 w15 hown15 hfr15 hb15; have ra15 := ra14.below hb15)
    | (refine wl_set rfl _ _ _ rfl w.heap.size 20 _ rfl rfl _ _ ra15 (show 20 < 23 by decide) (by kernel_rfl) (own_one' hown15) ?_; intro w16 hr16 hg16; have ra16 : Row w16 w.heap.size 72 (mc m { s with o := vo, g := vg, o' := vo5, g' := vg5, d := v7, s := v9, c := v11, v := v13, n := v15 }) := hr16.out; have c16 : (w16.alloc (.cells #[] 62)).cell? ⟨w.heap.size, 21, none⟩ = some (.slice xp m.picks.length cp) := by rw [← hvp]; exact (row_alloc ra16 (.cells #[] 62)).cell (j := 21) rfl))
  have h14 := Nat.le_trans h13 hg14.size
  have h15 := Nat.le_trans h14 hb15.size
  have h16 := Nat.le_trans h15 hg16.size
  have fo := fo.mv (Mv.from (L := w.heap.size + 2) hg14 (by omega) (Nat.le_refl _))
  have fg := fg.mv (Mv.from (L := w.heap.size + 2) hg14 (by omega) (Nat.le_refl _))
  have fo5 := fo5.mv (Mv.from (L := w.heap.size + 2) hg14 (by omega) (Nat.le_refl _))
  have fg5 := fg5.mv (Mv.from (L := w.heap.size + 2) hg14 (by omega) (Nat.le_refl _))
  have fd := fd.mv (Mv.from (L := w.heap.size + 2) hg14 (by omega) (Nat.le_refl _))
  have fs := fs.mv (Mv.from (L := w.heap.size + 2) hg14 (by omega) (Nat.le_refl _))
  have fc := fc.mv mov_vote hg14.size (Mv.from (L := w.heap.size + 2) hg14 (by omega) (Nat.le_refl _))
  have fv := fv.mv mov_vote hg14.size (Mv.from (L := w.heap.size + 2) hg14 (by omega) (Nat.le_refl _))
  have fo := fo.mv (Mv.belowG hb15)
  have fg := fg.mv (Mv.belowG hb15)
  have fo5 := fo5.mv (Mv.belowG hb15)
  have fg5 := fg5.mv (Mv.belowG hb15)
  have fd := fd.mv (Mv.belowG hb15)
  have fs := fs.mv (Mv.belowG hb15)
  have fc := fc.mv mov_vote hb15.size (Mv.belowG hb15)
  have fv := fv.mv mov_vote hb15.size (Mv.belowG hb15)
  have fn : RL RInt 1 (From w14.heap.size) w15 v15 m.order := ints_rl hown15 hfr15
  have fn := fn.mv mov_int (Nat.le_refl _) (Mv.weak (L := w.heap.size + 2) h14)
  have fo := fo.mv (Mv.from (L := w.heap.size + 2) hg16 (by omega) (Nat.le_refl _))
  have fg := fg.mv (Mv.from (L := w.heap.size + 2) hg16 (by omega) (Nat.le_refl _))
  have fo5 := fo5.mv (Mv.from (L := w.heap.size + 2) hg16 (by omega) (Nat.le_refl _))
  have fg5 := fg5.mv (Mv.from (L := w.heap.size + 2) hg16 (by omega) (Nat.le_refl _))
  have fd := fd.mv (Mv.from (L := w.heap.size + 2) hg16 (by omega) (Nat.le_refl _))
  have fs := fs.mv (Mv.from (L := w.heap.size + 2) hg16 (by omega) (Nat.le_refl _))
  have fc := fc.mv mov_vote hg16.size (Mv.from (L := w.heap.size + 2) hg16 (by omega) (Nat.le_refl _))
  have fv := fv.mv mov_vote hg16.size (Mv.from (L := w.heap.size + 2) hg16 (by omega) (Nat.le_refl _))
  have fn := fn.mv mov_int hg16.size (Mv.from (L := w.heap.size + 2) hg16 (by omega) (Nat.le_refl _))
  have rr16 := ((rr13.grown hg14 (fun e => by injection e with e; omega)).below hb15).grown hg16 (fun e => by injection e with e; omega)
  have hB15 := below_and hB14 (Nat.le_refl _) hb15
  have hB16 : Below w.heap.size w w16 := hB15.trans (grown_below hg16 hB15.size (fun k hk => by cases hk; exact Nat.le_refl _))
  have hlmp : (m.picks.length : Int) ≤ 9223372036854775807 := rl_len hs.p
  have hlml : (m.reps.length : Int) ≤ 9223372036854775807 := rl_len hs.l
  have HVP := (show Hid _ from hvp)
  clear rr13 ra13 ra14 ra15 hr14 hr16 hg14 hg16 hown15 hfr15 hb15 c14 c16 hn14 hB13 hB14 hB15 hvp oc ov h3 h4 h5 h6 h7 h8 h9 h10 h11 h12 h13 h14 h15 hB2 hB3 hB4 hB10
  go_loopw [3, 44] (fun v i wr => ∃ q : Nat, q ≤ m.picks.length ∧ i = .int .i64 q ∧ LB RReq 62 4 w16.heap.size wr v (m.picks.take q) ∧ Below w16.heap.size w16 wr) (fun _ i _ => m.picks.length - (intOf i).toNat)
  case atStart => exact ⟨0, by omega, rfl, LB.fresh _ _ _ _ _ (Nat.le_refl _), below_alloc w16 _⟩
  case round =>
    obtain ⟨q, hq, rfl, hLB, hbr⟩ := hrel
    have hBr := below_and hB16 (Nat.le_refl _) hbr
    by_cases hql : q < m.picks.length
    · obtain ⟨a, ha⟩ : ∃ a, m.picks[q]? = some a := ⟨_, List.getElem?_eq_getElem hql⟩
      obtain ⟨bb, off, cap, hw1, _, _, _, hbb, hx1⟩ := hs.p.at (by omega)
      rw [HVP.out] at hw1
      injection hw1 with e1 e2 e3
      clear e2
      subst e1 e3
      obtain ⟨r1, hrl1, y1, hr1⟩ := hx1 q a ha
      have hza := hz.picks.2 a (List.mem_of_getElem? ha)
      have hrng := rangeAt_block y1 (hBr.block bb hbb)
      have HA := (show Hid (m.picks.take (q + 1) = m.picks.take q ++ [a]) from take_snoc' _ q a ha)
      have HTL := (show Hid ((m.picks.take q).length = q) from take_len (by omega))
      have k1 := one_RReq hr1
      have HR := (show Hid (RReq Any w r1 a) from hr1)
      obtain ⟨vo1, vg1, rfl, _, _⟩ := hr1
      have hrow0 := Row.new wr 62 [.int .i64 0, .int .i64 0, .slice none 0 0, .slice none 0 0]
      clear ha hx1 y1 hrl1
      go_wp2_with (first
        | (refine wpList_load_mid rfl _ _ rfl bb (off + q * 4) rfl [.int .i64 a.1, .int .i64 a.2.1, vo1, vg1] _ hrng Tryz.underlying62 rfl (by kernel_rfl) ?_)
        | (refine wl_store rfl _ _ _ rfl wr.heap.size [.int .i64 a.1, .int .i64 a.2.1, vo1, vg1] rfl rfl _ _ hrow0 rfl (by kernel_rfl) k1 ?_; intro w21 hr21 hg21)
        | (refine wl_load rfl _ _ rfl wr.heap.size rfl _ _ hr21.out _ Tryz.underlying62 rfl (by kernel_rfl) ?_))
      have hb21 : Below wr.heap.size wr w21 := (below_alloc wr (.cells ([.int .i64 0, .int .i64 0, .slice none 0 0, .slice none 0 0] : List Value).toArray 62)).trans (grown_below hg21 (by simp) (fun k hk => by cases hk; exact Nat.le_refl _))
      have hB21 := below_and hBr (Nat.le_refl _) hb21
      refine (copyReq_any w21 [.int .i64 a.1, .int .i64 a.2.1, vo1, vg1] a (mov_req _ _ _ _ _ _ HR.out hB21.size (Mv.below hB21)) hza).mono ?_
      rintro e w22 ⟨r22, rfl, hR22, hb22⟩
      have k22 := one_RReq hR22
      have l22 : r22.length = 4 := len_RReq hR22
      have hR22' := hR22
      obtain ⟨q1, q2, rfl, _, _⟩ := hR22'
      have hb1 := below_and (below_and hbr (Nat.le_refl _) hb21) (Nat.le_refl _) hb22
      have hLB22 := (hLB.below mov_req hb21).below mov_req hb22
      have hlt21 := (hLB.below mov_req hb21).lt
      have hws : w16.heap.size ≤ w21.heap.size := Nat.le_trans hbr.size hb21.size
      clear hrng hrow0 hr21 hg21
      go_wp2_with (at_builtin; refine wl_push mov_req rfl _ _ _ rfl 62 4 64 _ Tryz.underlying63 Tryz.inf_reqs rfl (by decide) w16.heap.size u3 (m.picks.take q) rfl hLB22 [.int .i64 a.1, .int .i64 a.2.1, q1, q2] a w21.heap.size hR22 l22 k22 hws hlt21 rfl (Nat.le_trans hws hb22.size) (by rw [HTL.out]; have := hz.picks.1; omega) (by decide) ?_; intro v23 w23 hLB23 hg23)
      rw [← HA.out] at hLB23
      have hb23 := hb1.trans (grown_below hg23 hb1.size (fun k hk => hLB.fr k hk))
      go_roundw
      case rel => exact ⟨q + 1, by omega, by go_num, hLB23, hb23⟩
      case measure => simp [intOf]; omega
    · obtain rfl : q = m.picks.length := by omega
      rw [List.take_length] at hLB
      have fp := hLB.rl mov_req
      have fp := fp.mv mov_req (Nat.le_refl _) (Mv.weak (L := w.heap.size + 2) h16)
      have op := hLB.form
      have ra17 := ra16.below hbr
      have rr17 := rr16.below hbr
      have h17 := Nat.le_trans h16 hbr.size
      have fo := fo.mv (Mv.belowG hbr)
      have fg := fg.mv (Mv.belowG hbr)
      have fo5 := fo5.mv (Mv.belowG hbr)
      have fg5 := fg5.mv (Mv.belowG hbr)
      have fd := fd.mv (Mv.belowG hbr)
      have fs := fs.mv (Mv.belowG hbr)
      have fc := fc.mv mov_vote hbr.size (Mv.belowG hbr)
      have fv := fv.mv mov_vote hbr.size (Mv.belowG hbr)
      have fn := fn.mv mov_int hbr.size (Mv.belowG hbr)
      obtain ⟨xl, cl, hvl, _⟩ := hs.l.form
      clear ra16 rr16 hLB hql hq
      go_wp2_with (refine wl_set rfl _ _ _ rfl w.heap.size 21 _ rfl rfl _ _ ra17 (show 21 < 23 by decide) (by kernel_rfl) op ?_; intro w18 hr18 hg18; have ra18 : Row w18 w.heap.size 72 (mc m { s with o := vo, g := vg, o' := vo5, g' := vg5, d := v7, s := v9, c := v11, v := v13, n := v15, p := u3 }) := hr18.out; have c18 : (w18.alloc (.cells #[] 28)).cell? ⟨w.heap.size, 22, none⟩ = some (.slice xl m.reps.length cl) := by rw [← hvl]; exact (row_alloc ra18 (.cells #[] 28)).cell (j := 22) rfl)
      have rr18 := rr17.grown hg18 (fun e => by injection e with e; omega)
      have hB18 : Below w.heap.size w w18 := hBr.trans (grown_below hg18 hBr.size (fun k hk => by cases hk; exact Nat.le_refl _))
      have h18 := Nat.le_trans h17 hg18.size
      have fo := fo.mv (Mv.from (L := w.heap.size + 2) hg18 (by omega) (Nat.le_refl _))
      have fg := fg.mv (Mv.from (L := w.heap.size + 2) hg18 (by omega) (Nat.le_refl _))
      have fo5 := fo5.mv (Mv.from (L := w.heap.size + 2) hg18 (by omega) (Nat.le_refl _))
      have fg5 := fg5.mv (Mv.from (L := w.heap.size + 2) hg18 (by omega) (Nat.le_refl _))
      have fd := fd.mv (Mv.from (L := w.heap.size + 2) hg18 (by omega) (Nat.le_refl _))
      have fs := fs.mv (Mv.from (L := w.heap.size + 2) hg18 (by omega) (Nat.le_refl _))
      have fc := fc.mv mov_vote hg18.size (Mv.from (L := w.heap.size + 2) hg18 (by omega) (Nat.le_refl _))
      have fv := fv.mv mov_vote hg18.size (Mv.from (L := w.heap.size + 2) hg18 (by omega) (Nat.le_refl _))
      have fn := fn.mv mov_int hg18.size (Mv.from (L := w.heap.size + 2) hg18 (by omega) (Nat.le_refl _))
      have fp := fp.mv mov_req hg18.size (Mv.from (L := w.heap.size + 2) hg18 (by omega) (Nat.le_refl _))
      have HVL := (show Hid _ from hvl)
      clear ra17 rr17 hr18 hg18 c18 hvl hBr hbr h16 h17 hB16 op
      go_loopw [6, 60] (fun v i wr => ∃ q : Nat, q ≤ m.reps.length ∧ i = .int .i64 q ∧ LB RRep 28 8 w18.heap.size wr v (m.reps.take q) ∧ Below w18.heap.size w18 wr) (fun _ i _ => m.reps.length - (intOf i).toNat)
      case atStart => exact ⟨0, by omega, rfl, LB.fresh _ _ _ _ _ (Nat.le_refl _), below_alloc w18 _⟩
      case round =>
        obtain ⟨q, hq, rfl, hLB, hbr⟩ := hrel
        have hBr := below_and hB18 (Nat.le_refl _) hbr
        by_cases hql : q < m.reps.length
        · obtain ⟨a, ha⟩ : ∃ a, m.reps[q]? = some a := ⟨_, List.getElem?_eq_getElem hql⟩
          obtain ⟨bb, off, cap, hw1, _, _, _, hbb, hx1⟩ := hs.l.at (by omega)
          rw [HVL.out] at hw1
          injection hw1 with e1 e2 e3
          clear e2
          subst e1 e3
          obtain ⟨r1, hrl1, y1, hr1⟩ := hx1 q a ha
          have hza := hz.reps.2 a (List.mem_of_getElem? ha)
          have hrng := rangeAt_block y1 (hBr.block bb hbb)
          have HA := (show Hid (m.reps.take (q + 1) = m.reps.take q ++ [a]) from take_snoc' _ q a ha)
          have HTL := (show Hid ((m.reps.take q).length = q) from take_len (by omega))
          have k1 := one_RRep hr1
          have HR := (show Hid (RRep Any w r1 a) from hr1)
          obtain ⟨vd1, vs1, vp1, vg1, rfl, _, _, _, _⟩ := hr1
          have hrow0 := Row.new wr 28 [.int .i64 0, .int .i64 0, .int .i64 0, .int .i64 0, .slice none 0 0, .slice none 0 0, .slice none 0 0, .slice none 0 0]
          clear ha hx1 y1 hrl1
          go_wp2_with (first
            | (refine wpList_load_mid rfl _ _ rfl bb (off + q * 8) rfl [.int .i64 a.1.1, .int .i64 a.1.2, .int .i64 a.2.1, .int .i64 a.2.2.1, vd1, vs1, vp1, vg1] _ hrng Tryz.underlying28 rfl (by kernel_rfl) ?_)
            | (refine wl_store rfl _ _ _ rfl wr.heap.size [.int .i64 a.1.1, .int .i64 a.1.2, .int .i64 a.2.1, .int .i64 a.2.2.1, vd1, vs1, vp1, vg1] rfl rfl _ _ hrow0 rfl (by kernel_rfl) k1 ?_; intro w21 hr21 hg21)
            | (refine wl_load rfl _ _ rfl wr.heap.size rfl _ _ hr21.out _ Tryz.underlying28 rfl (by kernel_rfl) ?_))
          have hb21 : Below wr.heap.size wr w21 := (below_alloc wr (.cells ([.int .i64 0, .int .i64 0, .int .i64 0, .int .i64 0, .slice none 0 0, .slice none 0 0, .slice none 0 0, .slice none 0 0] : List Value).toArray 28)).trans (grown_below hg21 (by simp) (fun k hk => by cases hk; exact Nat.le_refl _))
          have hB21 := below_and hBr (Nat.le_refl _) hb21
          refine (copyReport_any w21 [.int .i64 a.1.1, .int .i64 a.1.2, .int .i64 a.2.1, .int .i64 a.2.2.1, vd1, vs1, vp1, vg1] a (mov_rep _ _ _ _ _ _ HR.out hB21.size (Mv.below hB21)) hza).mono ?_
          rintro e w22 ⟨r22, rfl, hR22, hb22⟩
          have k22 := one_RRep hR22
          have l22 : r22.length = 8 := len_RRep hR22
          have hR22' := hR22
          obtain ⟨q1, q2, q3, q4, rfl, _, _, _, _⟩ := hR22'
          have hb1 := below_and (below_and hbr (Nat.le_refl _) hb21) (Nat.le_refl _) hb22
          have hLB22 := (hLB.below mov_rep hb21).below mov_rep hb22
          have hlt21 := (hLB.below mov_rep hb21).lt
          have hws : w18.heap.size ≤ w21.heap.size := Nat.le_trans hbr.size hb21.size
          clear hrng hrow0 hr21 hg21
          go_wp2_with (at_builtin; refine wl_push mov_rep rfl _ _ _ rfl 28 8 128 _ Tryz.underlying33 Tryz.inf_reps rfl (by decide) w18.heap.size u6 (m.reps.take q) rfl hLB22 [.int .i64 a.1.1, .int .i64 a.1.2, .int .i64 a.2.1, .int .i64 a.2.2.1, q1, q2, q3, q4] a w21.heap.size hR22 l22 k22 hws hlt21 rfl (Nat.le_trans hws hb22.size) (by rw [HTL.out]; have := hz.reps.1; omega) (by decide) ?_; intro v23 w23 hLB23 hg23)
          rw [← HA.out] at hLB23
          have hb23 := hb1.trans (grown_below hg23 hb1.size (fun k hk => hLB.fr k hk))
          go_roundw
          case rel => exact ⟨q + 1, by omega, by go_num, hLB23, hb23⟩
          case measure => simp [intOf]; omega
        · obtain rfl : q = m.reps.length := by omega
          rw [List.take_length] at hLB
          have hLBk := hLB
          have MC : Mv (From (w.heap.size + 2)) (Btw (w.heap.size + 2) w18.heap.size) w18 wr := fun k hk hlt => ⟨hbr.block k hlt, hk, hlt⟩
          have fl' := hLB.rl mov_rep
          have fl' := fl'.mv mov_rep (Nat.le_refl _) (Mv.weak (L := w.heap.size + 2) h18)
          have ol := hLB.form
          have ra19 := ra18.below hbr
          have rr19 := rr18.below hbr
          have h19 := Nat.le_trans h18 hbr.size
          have xfo := fo.mv MC
          have fo := fo.mv (Mv.belowG hbr)
          have xfg := fg.mv MC
          have fg := fg.mv (Mv.belowG hbr)
          have xfo5 := fo5.mv MC
          have fo5 := fo5.mv (Mv.belowG hbr)
          have xfg5 := fg5.mv MC
          have fg5 := fg5.mv (Mv.belowG hbr)
          have xfd := fd.mv MC
          have fd := fd.mv (Mv.belowG hbr)
          have xfs := fs.mv MC
          have fs := fs.mv (Mv.belowG hbr)
          have xfc := fc.mv mov_vote hbr.size MC
          have fc := fc.mv mov_vote hbr.size (Mv.belowG hbr)
          have xfv := fv.mv mov_vote hbr.size MC
          have fv := fv.mv mov_vote hbr.size (Mv.belowG hbr)
          have xfn := fn.mv mov_int hbr.size MC
          have fn := fn.mv mov_int hbr.size (Mv.belowG hbr)
          have xfp := fp.mv mov_req hbr.size MC
          have fp := fp.mv mov_req hbr.size (Mv.belowG hbr)
          have hso : SOk (From (w.heap.size + 2)) wr m { s with o := vo, g := vg, o' := vo5, g' := vg5, d := v7, s := v9, c := v11, v := v13, n := v15, p := u3, l := u6 } := ⟨fo, fg, fo5, fg5, fd, fs, fc, fv, fn, fp, fl'⟩
          have hone := hso.one
          go_wp2_with (first
            | (refine wl_set rfl _ _ _ rfl w.heap.size 22 _ rfl rfl _ _ ra19 (show 22 < 23 by decide) (by kernel_rfl) ol ?_; intro wx hrx hgx; have rax : Row wx w.heap.size 72 (mc m { s with o := vo, g := vg, o' := vo5, g' := vg5, d := v7, s := v9, c := v11, v := v13, n := v15, p := u3, l := u6 }) := hrx.out; have rrx := rr19.grown hgx (fun e => by injection e with e; omega))
            | (refine wl_load rfl _ _ rfl w.heap.size rfl _ _ rax _ Tryz.underlying72 rfl (by kernel_rfl) ?_)
            | (refine wl_store rfl _ _ _ rfl (w.heap.size + 1) (mc m { s with o := vo, g := vg, o' := vo5, g' := vg5, d := v7, s := v9, c := v11, v := v13, n := v15, p := u3, l := u6 }) rfl rfl _ _ rrx rfl (by kernel_rfl) hone ?_; intro wy hry hgy))
          have hry := hry.out
          have hsx := hso.mv hgx.size (Mv.from (L := w.heap.size + 2) hgx (by omega) (Nat.le_refl _))
          have hsy := hsx.mv hgy.size (Mv.from (L := w.heap.size) hgy (by omega) (by omega))
          have hBx := hBr.trans (grown_below hgx hBr.size (fun k hk => by cases hk; exact Nat.le_refl _))
          have hBy := hBx.trans (grown_below hgy hBx.size (fun k hk => by cases hk; omega))
          refine bodyPost_ret (v := .agg (mc m { s with o := vo, g := vg, o' := vo5, g' := vg5, d := v7, s := v9, c := v11, v := v13, n := v15, p := u3, l := u6 }).toArray) (results_cell_row rfl _ _ (w.heap.size + 1) _ _ (0, 0) _ (by rfl) hry Tryz.underlying72 rfl (by kernel_rfl)) rfl ?_
          have MX : Mv (Btw (w.heap.size + 2) w18.heap.size) (Btw (w.heap.size + 2) w18.heap.size) wr wx := fun k hk hlt => ⟨hgx.block k hlt (fun e => by injection e with e; have := hk.1; omega), hk⟩
          have MY : Mv (Btw (w.heap.size + 2) w18.heap.size) (Btw w.heap.size w18.heap.size) wx wy := fun k hk hlt => ⟨hgy.block k hlt (fun e => by injection e with e; have := hk.1; omega), by have := hk.1; omega, hk.2⟩
          have hLx := hLBk.grown mov_rep hgx (by omega)
          have hLy := hLx.grown mov_rep hgy (by omega)
          exact ⟨_, w18.heap.size, rfl, ⟨(xfo.mv MX).mv MY, (xfg.mv MX).mv MY, (xfo5.mv MX).mv MY, (xfg5.mv MX).mv MY, (xfd.mv MX).mv MY, (xfs.mv MX).mv MY, (xfc.mv mov_vote hgx.size MX).mv mov_vote hgy.size MY, (xfv.mv mov_vote hgx.size MX).mv mov_vote hgy.size MY, (xfn.mv mov_int hgx.size MX).mv mov_int hgy.size MY, (xfp.mv mov_req hgx.size MX).mv mov_req hgy.size MY, hLy, by omega, Nat.le_trans hbr.size (Nat.le_trans hgx.size hgy.size)⟩, hBy⟩
end
section
open Go.RowKit Oct
/-- A list of one report, in a row of the call's own: its signature may be written. -/
theorem lb_sig {C : Nat} {w : World} {v : Value} {r : PRep} (h : LB RRep 28 8 C w v [r]) : ∃ bl cap cur, v = .slice (some ⟨bl, 0, none⟩) 1 cap ∧ 1 ≤ cap ∧ cap ≤ maxLen ∧ C ≤ bl ∧ Row w bl 28 cur ∧ 7 < cur.length ∧
    ∀ (w' : World) (z : Value) (g : List Int), Row w' bl 28 (cur.set 7 z) → w.grownBy w' (some bl) → RT (fun b => C ≤ b ∧ b ≠ bl) w' z g → LB RRep 28 8 C w' v [repSig r g] := by
  obtain ⟨rows, h0, ⟨h1, h2⟩, h3, h4⟩ := h
  match rows, h4 with
  | [row], h4 =>
    have hl := h0 row (by simp)
    rcases h2 with ⟨_, h2⟩ | ⟨bl, cap, cur, rfl, _, hg, n1, n2, n3, n4⟩
    · simp at h2
    · have hbl : C ≤ bl := h3 bl rfl
      simp only [List.length_singleton, Nat.one_mul, List.flatten_cons, List.flatten_nil, List.append_nil] at n1 n3 n4
      have hcl : cur.toList.length = cap * 8 := by simpa using n3
      refine ⟨bl, cap, cur.toList, rfl, n1, n2, hbl, by unfold Row; simpa using hg, by omega, fun w' z g hr hgr hz => ?_⟩
      obtain ⟨⟨vd, vs, vp, vg, rfl, t1, t2, t3, t4⟩, _⟩ := h4
      refine ⟨[[.int .i64 r.1.1, .int .i64 r.1.2, .int .i64 r.2.1, .int .i64 r.2.2.1, vd, vs, vp, z]], fun q hq => by simp at hq; subst hq; rfl, ⟨by simp, .inr ⟨bl, cap, (cur.toList.set 7 z).toArray, rfl, Nat.zero_le _, hr, n1, n2, by simpa using n3, ?_⟩⟩, h3, ?_⟩
      · simp only [List.length_singleton, Nat.one_mul, List.flatten_cons, List.flatten_nil, List.append_nil]
        rw [List.take_set, n4]
        rfl
      · have M : Mv (fun b => C ≤ b ∧ (Value.slice (some ⟨bl, 0, none⟩) 1 cap).ownBlock ≠ some b) (fun b => C ≤ b ∧ (Value.slice (some ⟨bl, 0, none⟩) 1 cap).ownBlock ≠ some b) w w' := fun k hk hlt => ⟨hgr.block k hlt (fun e => hk.2 (by rw [e]; rfl)), hk⟩
        exact ⟨⟨vd, vs, vp, z, rfl, t1.mv M, t2.mv mov_vote hgr.size M, t3.mv mov_prep hgr.size M, hz.mv (fun k hk _ => ⟨rfl, hk.1, fun e => hk.2 (by simp [Value.ownBlock] at e; exact e.symm)⟩)⟩, trivial⟩
/-- Of the call's own but for the report's signature. -/
theorem SOkL.rep {B C bl : Nat} {w w' : World} {m : PMsg} {q : SV} {r : PRep} {g : List Int} (h : SOkL B C w m q) (hg : w.grownBy w' (some bl)) (hbl : C ≤ bl) (hl : LB RRep 28 8 C w' q.l [repSig r g]) : SOkL B C w' { m with reps := [repSig r g] } q := by
  have M : Mv (Btw B C) (Btw B C) w w' := fun k hk hlt => ⟨hg.block k hlt (fun e => by injection e with e; have := hk.2; omega), hk⟩
  have hs := hg.size
  exact ⟨h.o.mv M, h.g.mv M, h.o'.mv M, h.g'.mv M, h.d.mv M, h.s.mv M, h.c.mv mov_vote hs M, h.v.mv mov_vote hs M, h.n.mv mov_int hs M, h.p.mv mov_req hs M, hl, h.le, Nat.le_trans h.lt hs⟩
theorem SOkL.sig {B C : Nat} {w : World} {m : PMsg} {q : SV} {v : Value} {g : List Int} (h : SOkL B C w m q) (hv : RT (Btw B C) w v g) : SOkL B C w { m with sig := g } { q with s := v } := ⟨h.o, h.g, h.o', h.g', h.d, hv, h.c, h.v, h.n, h.p, h.l, h.le, h.lt⟩
set_option maxRecDepth 10000 in
set_option maxHeartbeats 4000000 in
theorem refBare_any (w : World) (m : PMsg) (s : SV) (hs : SOk Any w m s) (hz : szM m) :
    Calls Tryz.prog 94 #[.agg (mc m s).toArray] w fun e w' => ∃ s' C, e = .returned (.agg (mc (wsM m []) s').toArray) ∧ SOkL w.heap.size C w' (wsM m []) s' ∧ Below w.heap.size w w' := by
  obtain ⟨w2, hw2⟩ : ∃ w2, w2 = (w.alloc (.cells (mc m s).toArray 72)).alloc (.cells #[.int .i64 0, .int .i64 0, .int .i64 0, .int .i64 0, .int .i64 0, .int .i64 0, .int .i64 0, .int .i64 0, .int .i64 0, .int .i64 0, .slice none 0 0, .slice none 0 0, .int .i64 0, .int .i64 0, .slice none 0 0, .slice none 0 0, .slice none 0 0, .slice none 0 0, .slice none 0 0, .slice none 0 0, .slice none 0 0, .slice none 0 0, .slice none 0 0] 72) := ⟨_, rfl⟩
  have ra : Row w2 w.heap.size 72 (mc m s) := by rw [hw2]; exact rowA (Row.new w _ _) _
  have rr : Row w2 (w.heap.size + 1) 72 (mc zeroM sv0) := by
    have h1 : (w.alloc (.cells (mc m s).toArray 72)).heap.size = w.heap.size + 1 := by simp
    rw [hw2, ← h1]
    exact Row.new (w.alloc (.cells (mc m s).toArray 72)) 72 (mc zeroM sv0)
  have B2 : Below w.heap.size w w2 := by rw [hw2]; exact ((Below.refl _ w).alloc (Nat.le_refl _) _).alloc (by simp) _
  have hz2 : w.heap.size + 2 ≤ w2.heap.size := by rw [hw2]; simp
  have hCp := copyMsgL_any w2 m s (hs.below B2) hz
  have HCp := (show Hid (∀ _ : Unit, _) from fun _ => hCp)
  clear hs hCp
  go_enter Tryz.func94, Tryz.ntmps94
  go_upto_region 1 with fail
  rw [← hw2]
  clear hw2
  go_upto_region 2 with (first
    | (refine wl_load rfl _ _ rfl w.heap.size rfl _ _ ra _ Tryz.underlying72 rfl (by kernel_rfl) ?_)
    | (go_at_call 133; refine (HCp.out ()).mono ?_; rintro e w3 ⟨s3, C, rfl, hs3, hb3⟩; have ra3 := ra.below hb3; have hone3 := hs3.any.one)
    | (refine wl_store rfl _ _ _ rfl w.heap.size (mc m s3) rfl rfl _ _ ra3 rfl (by kernel_rfl) hone3 ?_; intro w4 ra4 hg4))
  have ra4 := ra4.out
  have B3 := below_and B2 (Nat.le_refl _) hb3
  have B4 : Below w.heap.size w w4 := B3.trans (grown_below hg4 B3.size (fun k hk => by cases hk; exact Nat.le_refl _))
  have rr4 := (rr.below hb3).grown hg4 (fun e => by injection e with e; omega)
  have hs4 := hs3.grown hg4 (by omega)
  have hC := hs4.le
  have hO := refOne_any Any w4 m s3 hs4.any
  have HO := (show Hid (∀ _ : Unit, _) from fun _ => hO)
  clear ra rr ra3 hs3 hb3 hg4 hone3 HCp B2 B3 hO
  cases ho : oneM m with
  | false =>
    have e : wsM m [] = { m with sig := [] } := by unfold wsM; rw [if_neg (by simp [ho])]
    have HE := (show Hid _ from e)
    rw [ho] at HO
    have hon : ∀ x ∈ mc { m with sig := [] } { s3 with s := .slice none 0 0 }, x.oneCell' = true := ((hs4.sig (RT.nil _ _)).any).one
    clear ho e
    go_wp2_with (first
      | (refine wl_store rfl _ _ _ rfl (w.heap.size + 1) (mc { m with sig := [] } { s3 with s := .slice none 0 0 }) rfl rfl _ _ rr6 rfl (by kernel_rfl) hon ?_; intro w7 rr7 hg7)
      | (refine wl_load rfl _ _ rfl w.heap.size rfl _ _ ra6' _ Tryz.underlying72 rfl (by kernel_rfl) ?_)
      | (refine wl_set rfl _ _ _ rfl w.heap.size 17 _ rfl rfl _ _ ra5 (show 17 < 23 by decide) (by kernel_rfl) rfl ?_; intro w6 ra6 hg6; have ra6' : Row w6 w.heap.size 72 (mc { m with sig := [] } { s3 with s := .slice none 0 0 }) := ra6.out; have rr6 := rr5.grown hg6 (fun h => by injection h; omega))
      | (go_at_call 97; refine (HO.out ()).mono ?_; rintro e w5 ⟨rfl, hb5⟩; have ra5 := ra4.below hb5; have rr5 := rr4.below hb5)
      | (refine wl_load rfl _ _ rfl w.heap.size rfl _ _ ra4 _ Tryz.underlying72 rfl (by kernel_rfl) ?_))
    have B5 := below_and B4 (Nat.le_refl _) hb5
    have B6 := B5.trans (grown_below hg6 B5.size (fun k hk => by cases hk; exact Nat.le_refl _))
    have B7 := B6.trans (grown_below hg7 B6.size (fun k hk => by cases hk; omega))
    have hs7 := (((hs4.below hb5).grown hg6 (by omega)).grown hg7 (by omega)).sig (RT.nil _ _)
    refine bodyPost_ret (v := .agg (mc { m with sig := [] } { s3 with s := .slice none 0 0 }).toArray) (results_cell_row rfl _ _ (w.heap.size + 1) _ _ (0, 0) _ (by rfl) rr7.out Tryz.underlying72 rfl (by kernel_rfl)) rfl ?_
    rw [HE.out]
    exact ⟨_, C, rfl, hs7.weak (by omega), B7⟩
  | true =>
    obtain ⟨hk, r, hr⟩ := oneM_yes ho
    have e : wsM m [] = { m with reps := [repSig r []] } := by unfold wsM; rw [if_pos ho, hr]; rfl
    have HE := (show Hid _ from e)
    rw [ho] at HO
    have hl4 := hs4.l
    rw [hr] at hl4
    have hone4 := hs4.any.one
    clear ho e
    go_upto_region 3 with (first
      | (go_at_call 97; refine (HO.out ()).mono ?_; rintro e w5 ⟨rfl, hb5⟩)
      | (refine wl_load rfl _ _ rfl w.heap.size rfl _ _ ra4 _ Tryz.underlying72 rfl (by kernel_rfl) ?_))
    have ra5 := ra4.below hb5
    have rr5 := rr4.below hb5
    have B5 := below_and B4 (Nat.le_refl _) hb5
    have hs5 := hs4.below hb5
    obtain ⟨bl, cap, cur, ev, hc1, hc2, hbl, rl5, hcl, hset⟩ := lb_sig (hl4.below mov_rep hb5)
    have c22 := ra5.cell (j := 22) rfl
    rw [ev] at c22
    clear hl4 hs4 ra4 rr4 B4 HO hb5
    go_wp2_with (first
      | (refine wl_store rfl _ _ _ rfl (w.heap.size + 1) (mc m s3) rfl rfl _ _ rr6 rfl (by kernel_rfl) hone4 ?_; intro w7 rr7 hg7)
      | (refine wl_load rfl _ _ rfl w.heap.size rfl _ _ ra6 _ Tryz.underlying72 rfl (by kernel_rfl) ?_)
      | (refine wl_set rfl _ _ _ rfl bl 7 _ rfl rfl _ _ rl5 hcl (by kernel_rfl) rfl ?_; intro w6 rl6 hg6; have ra6 := ra5.grown hg6 (fun h => by injection h; omega); have rr6 := rr5.grown hg6 (fun h => by injection h; omega)))
    have B6 := B5.trans (grown_below hg6 B5.size (fun k hk => by cases hk; omega))
    have B7 := B6.trans (grown_below hg7 B6.size (fun k hk => by cases hk; omega))
    have hl6 := hset w6 (.slice none 0 0) [] rl6.out hg6 (RT.nil _ _)
    have hs6 := hs5.rep hg6 hbl hl6
    have hs7 := hs6.grown hg7 (by omega)
    refine bodyPost_ret (v := .agg (mc m s3).toArray) (results_cell_row rfl _ _ (w.heap.size + 1) _ _ (0, 0) _ (by rfl) rr7.out Tryz.underlying72 rfl (by kernel_rfl)) rfl ?_
    rw [HE.out]
    exact ⟨s3, C, rfl, hs7.weak (by omega), B7⟩
end
end Go.Proofs.YtgbfmccecnfooaaGreatDoor
