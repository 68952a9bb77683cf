/- The walks over package msg: a field read into a message. (Laid by mk5d.py.) -/
import Derived.Test.YtjoikkhmijalmaaD4
import Derived.Test.YtjoikkhmijalmaaF1
set_option linter.unusedVariables false
namespace Go.Proofs.Ytjoikkhmijalmaa
open Go.RowKit Oct

/-- From block L on, the iterator's aside. -/
def GL (L it : Nat) : Nat → Prop := fun k => L ≤ k ∧ k ≠ it
theorem Mv.gl {L it : Nat} {w w' : World} {b : Nat} (hg : w.grownBy w' (some b)) (hb : b < L) : Mv (GL L it) (GL L it) w w' := fun k hk hlt => ⟨hg.block k hlt (fun e => by injection e with e; have := hk.1; omega), hk⟩
theorem Mv.toGl {L it B : Nat} {w : World} (hL : L ≤ B) (hi : it < B) : Mv (From B) (GL L it) w w := fun k hk _ => ⟨rfl, by unfold From at hk; unfold GL; omega⟩
/-- How decoding stands: w00 is the world ahead of it, r the reader's block, pm the message's, it the iterator's. -/
structure DS (w00 : World) (L it : Nat) (w : World) (r pm : Nat) (bv : Value) (l : List Int) (p : Nat) (m : PMsg) : Prop where
  bel : Below w00.heap.size w00 w
  bytes : RT Any w00 bv l
  rlo : w00.heap.size ≤ r
  plo : w00.heap.size ≤ pm
  rL : r < L
  pL : pm < L
  ne : r ≠ pm
  hL : L ≤ w.heap.size
  row : Row w r 46 [bv, .int .i64 (p : Int)]
  mrow : ∃ s, Row w pm 33 (mc m s) ∧ SOk (GL L it) w m s
  hp : p ≤ l.length
  hl : l.length ≤ 1048576
  itw : it < w.heap.size
theorem DS.rs {w00 : World} {L it : Nat} {w : World} {r pm : Nat} {bv : Value} {l : List Int} {p : Nat} {m : PMsg} (h : DS w00 L it w r pm bv l p m) : RS L w r bv l p :=
  ⟨h.row, h.bytes.mv fun k _ hk => ⟨h.bel.block k hk, by have := h.rlo; have := h.rL; omega⟩, h.hp, h.hL, h.rL, h.hl⟩
/-- What a call that reads a field comes to. -/
def DPost (i : Nat) (w00 : World) (L it : Nat) (w : World) (r pm : Nat) (bv : Value) (l : List Int) (p : Nat) (m : PMsg) (e : Ending) (w' : World) : Prop :=
  Two r pm w w' ∧ (((cF i).rd (l.drop p) = none ∧ e = .panicked [{ v := .iface 34 (.int .i64 51), recovered := false }] ∧ w.grownBy w' (some r)) ∨
    ∃ v p', (cF i).rd (l.drop p) = some (v, l.drop p') ∧ e = .returned (.tuple #[]) ∧ DS w00 L it w' r pm bv l p' (set m i v))
theorem DPost.no {i : Nat} {w00 : World} {L it : Nat} {w : World} {r pm : Nat} {bv : Value} {l : List Int} {p : Nat} {m : PMsg} {w' : World} (hg : w.grownBy w' (some r)) (hn : (cF i).rd (l.drop p) = none) :
    DPost i w00 L it w r pm bv l p m (.panicked [{ v := .iface 34 (.int .i64 51), recovered := false }]) w' := ⟨Two.of hg (grown_refl _ _), .inl ⟨hn, rfl, hg⟩⟩
theorem DPost.yes {i : Nat} {w00 : World} {L it : Nat} {w : World} {r pm : Nat} {bv : Value} {l : List Int} {p : Nat} {m : PMsg} {w1 w2 : World} {v : FV} {p' : Nat} (hD : DS w00 L it w r pm bv l p m) (hg1 : w.grownBy w1 (some r)) (hg2 : w1.grownBy w2 (some pm))
    (hS : RS L w1 r bv l p') (hrd : (cF i).rd (l.drop p) = some (v, l.drop p')) {s : SV} (hm : Row w2 pm 33 (mc (set m i v) s)) (hs : SOk (GL L it) w2 (set m i v) s) : DPost i w00 L it w r pm bv l p m (.returned (.tuple #[])) w2 := by
  refine ⟨Two.of hg1 hg2, .inr ⟨v, p', hrd, rfl, ?_⟩⟩
  have hb1 := hD.bel.trans (grown_below hg1 hD.bel.size (fun k hk => by cases hk; exact hD.rlo))
  exact ⟨hb1.trans (grown_below hg2 hb1.size (fun k hk => by cases hk; exact hD.plo)), hD.bytes, hD.rlo, hD.plo, hD.rL, hD.pL, hD.ne, Nat.le_trans hD.hL (Nat.le_trans hg1.size hg2.size), hS.row.grown hg2 (fun e => hD.ne (by injection e with e; exact e.symm)), ⟨s, hm, hs⟩, hS.hp, hD.hl, Nat.lt_of_lt_of_le hD.itw (Nat.le_trans hg1.size hg2.size)⟩

set_option maxHeartbeats 1000000 in
theorem rfield_0 (w00 : World) (L it : Nat) (w : World) (r pm : Nat) (bv : Value) (l : List Int) (p : Nat) (m : PMsg) (hD : DS w00 L it w r pm bv l p m) :
    Calls Try.prog 13 #[.pointer (some ⟨r, 0, none⟩), .pointer (some ⟨pm, 0, none⟩), .int .i32 66] w (DPost 0 w00 L it w r pm bv l p m) := by
  have hK := rballot_any L w r bv l p hD.rs
  obtain ⟨s, hm, hs⟩ := hD.mrow
  have hLw := hD.hL
  go_enter Try.func13, Try.ntmps13
  go_wp2_with fail
  refine hK.mono ?_
  rintro e w1 ⟨hg1, ⟨hn, rfl⟩ | ⟨v, a, p', hrd, rfl, hR, hS1⟩⟩
  · have HN := (show Hid ((cF 0).rd (l.drop p) = none) from (by show Option.map _ (cBal.rd (l.drop p)) = none; rw [hn]; rfl))
    clear hn
    go_wp2_with fail
    exact ⟨rfl, DPost.no hg1 HN.out⟩
  have HR := (show Hid ((cF 0).rd (l.drop p) = some (fbal a, l.drop p')) from (by show Option.map _ (cBal.rd (l.drop p)) = _; rw [hrd]; rfl))
  clear hrd
  have hm1 := hm.grown hg1 (fun e => hD.ne (by injection e))
  have hs1 := hs.mv hg1.size (Mv.gl hg1 hD.rL)
  have hpL := hD.pL
  obtain ⟨cs, rfl, hcs⟩ := hR
  have hcs : cs = [.int .i64 a.1, .int .i64 a.2] := hcs
  subst hcs
  go_wp2_with (refine wl_put rfl _ _ _ rfl pm 1 [.int .i64 a.1, .int .i64 a.2] rfl rfl _ _ hm1 (show 3 ≤ 23 by decide) (by kernel_rfl) one_bal ?_; intro w2 hr2 hg2)
  go_end0
  have hm2 : Row w2 pm 33 (mc (set m 0 (fbal a)) s) := hr2.out
  have hs2 := hs1.mv hg2.size (Mv.gl hg2 hpL)
  exact DPost.yes hD hg1 hg2 hS1 HR.out hm2 ⟨hs2.o, hs2.g, hs2.o', hs2.g', hs2.d, hs2.s, hs2.c, hs2.v, hs2.n, hs2.p, hs2.l⟩
set_option maxHeartbeats 1000000 in
theorem rfield_1 (w00 : World) (L it : Nat) (w : World) (r pm : Nat) (bv : Value) (l : List Int) (p : Nat) (m : PMsg) (hD : DS w00 L it w r pm bv l p m) :
    Calls Try.prog 13 #[.pointer (some ⟨r, 0, none⟩), .pointer (some ⟨pm, 0, none⟩), .int .i32 83] w (DPost 1 w00 L it w r pm bv l p m) := by
  have hK := rnum_any L w r bv l p hD.rs
  obtain ⟨s, hm, hs⟩ := hD.mrow
  have hLw := hD.hL
  go_enter Try.func13, Try.ntmps13
  go_wp2_with fail
  refine hK.mono ?_
  rintro e w1 ⟨hg1, ⟨hn, rfl⟩ | ⟨v, a, p', hrd, rfl, hR, hS1⟩⟩
  · have HN := (show Hid ((cF 1).rd (l.drop p) = none) from (by show Option.map _ (cN.rd (l.drop p)) = none; rw [hn]; rfl))
    clear hn
    go_wp2_with fail
    exact ⟨rfl, DPost.no hg1 HN.out⟩
  have HR := (show Hid ((cF 1).rd (l.drop p) = some (fnum a, l.drop p')) from (by show Option.map _ (cN.rd (l.drop p)) = _; rw [hrd]; rfl))
  clear hrd
  have hm1 := hm.grown hg1 (fun e => hD.ne (by injection e))
  have hs1 := hs.mv hg1.size (Mv.gl hg1 hD.rL)
  have hpL := hD.pL
  have hR : v = .int .i64 a := hR
  subst hR
  go_wp2_with (refine wl_set rfl _ _ _ rfl pm 3 _ rfl rfl _ _ hm1 (show 3 < 23 by decide) (by kernel_rfl) rfl ?_; intro w2 hr2 hg2)
  go_end0
  have hm2 : Row w2 pm 33 (mc (set m 1 (fnum a)) s) := hr2.out
  have hs2 := hs1.mv hg2.size (Mv.gl hg2 hpL)
  exact DPost.yes hD hg1 hg2 hS1 HR.out hm2 ⟨hs2.o, hs2.g, hs2.o', hs2.g', hs2.d, hs2.s, hs2.c, hs2.v, hs2.n, hs2.p, hs2.l⟩
set_option maxHeartbeats 1000000 in
theorem rfield_2 (w00 : World) (L it : Nat) (w : World) (r pm : Nat) (bv : Value) (l : List Int) (p : Nat) (m : PMsg) (hD : DS w00 L it w r pm bv l p m) :
    Calls Try.prog 13 #[.pointer (some ⟨r, 0, none⟩), .pointer (some ⟨pm, 0, none⟩), .int .i32 70] w (DPost 2 w00 L it w r pm bv l p m) := by
  have hK := rnum_any L w r bv l p hD.rs
  obtain ⟨s, hm, hs⟩ := hD.mrow
  have hLw := hD.hL
  go_enter Try.func13, Try.ntmps13
  go_wp2_with fail
  refine hK.mono ?_
  rintro e w1 ⟨hg1, ⟨hn, rfl⟩ | ⟨v, a, p', hrd, rfl, hR, hS1⟩⟩
  · have HN := (show Hid ((cF 2).rd (l.drop p) = none) from (by show Option.map _ (cN.rd (l.drop p)) = none; rw [hn]; rfl))
    clear hn
    go_wp2_with fail
    exact ⟨rfl, DPost.no hg1 HN.out⟩
  have HR := (show Hid ((cF 2).rd (l.drop p) = some (fnum a, l.drop p')) from (by show Option.map _ (cN.rd (l.drop p)) = _; rw [hrd]; rfl))
  clear hrd
  have hm1 := hm.grown hg1 (fun e => hD.ne (by injection e))
  have hs1 := hs.mv hg1.size (Mv.gl hg1 hD.rL)
  have hpL := hD.pL
  have hR : v = .int .i64 a := hR
  subst hR
  go_wp2_with (refine wl_set rfl _ _ _ rfl pm 4 _ rfl rfl _ _ hm1 (show 4 < 23 by decide) (by kernel_rfl) rfl ?_; intro w2 hr2 hg2)
  go_end0
  have hm2 : Row w2 pm 33 (mc (set m 2 (fnum a)) s) := hr2.out
  have hs2 := hs1.mv hg2.size (Mv.gl hg2 hpL)
  exact DPost.yes hD hg1 hg2 hS1 HR.out hm2 ⟨hs2.o, hs2.g, hs2.o', hs2.g', hs2.d, hs2.s, hs2.c, hs2.v, hs2.n, hs2.p, hs2.l⟩
set_option maxHeartbeats 1000000 in
theorem rfield_3 (w00 : World) (L it : Nat) (w : World) (r pm : Nat) (bv : Value) (l : List Int) (p : Nat) (m : PMsg) (hD : DS w00 L it w r pm bv l p m) :
    Calls Try.prog 13 #[.pointer (some ⟨r, 0, none⟩), .pointer (some ⟨pm, 0, none⟩), .int .i32 84] w (DPost 3 w00 L it w r pm bv l p m) := by
  have hK := rnum_any L w r bv l p hD.rs
  obtain ⟨s, hm, hs⟩ := hD.mrow
  have hLw := hD.hL
  go_enter Try.func13, Try.ntmps13
  go_wp2_with fail
  refine hK.mono ?_
  rintro e w1 ⟨hg1, ⟨hn, rfl⟩ | ⟨v, a, p', hrd, rfl, hR, hS1⟩⟩
  · have HN := (show Hid ((cF 3).rd (l.drop p) = none) from (by show Option.map _ (cN.rd (l.drop p)) = none; rw [hn]; rfl))
    clear hn
    go_wp2_with fail
    exact ⟨rfl, DPost.no hg1 HN.out⟩
  have HR := (show Hid ((cF 3).rd (l.drop p) = some (fnum a, l.drop p')) from (by show Option.map _ (cN.rd (l.drop p)) = _; rw [hrd]; rfl))
  clear hrd
  have hm1 := hm.grown hg1 (fun e => hD.ne (by injection e))
  have hs1 := hs.mv hg1.size (Mv.gl hg1 hD.rL)
  have hpL := hD.pL
  have hR : v = .int .i64 a := hR
  subst hR
  go_wp2_with (refine wl_set rfl _ _ _ rfl pm 5 _ rfl rfl _ _ hm1 (show 5 < 23 by decide) (by kernel_rfl) rfl ?_; intro w2 hr2 hg2)
  go_end0
  have hm2 : Row w2 pm 33 (mc (set m 3 (fnum a)) s) := hr2.out
  have hs2 := hs1.mv hg2.size (Mv.gl hg2 hpL)
  exact DPost.yes hD hg1 hg2 hS1 HR.out hm2 ⟨hs2.o, hs2.g, hs2.o', hs2.g', hs2.d, hs2.s, hs2.c, hs2.v, hs2.n, hs2.p, hs2.l⟩
set_option maxHeartbeats 1000000 in
theorem rfield_4 (w00 : World) (L it : Nat) (w : World) (r pm : Nat) (bv : Value) (l : List Int) (p : Nat) (m : PMsg) (hD : DS w00 L it w r pm bv l p m) :
    Calls Try.prog 13 #[.pointer (some ⟨r, 0, none⟩), .pointer (some ⟨pm, 0, none⟩), .int .i32 73] w (DPost 4 w00 L it w r pm bv l p m) := by
  have hK := rnum_any L w r bv l p hD.rs
  obtain ⟨s, hm, hs⟩ := hD.mrow
  have hLw := hD.hL
  go_enter Try.func13, Try.ntmps13
  go_wp2_with fail
  refine hK.mono ?_
  rintro e w1 ⟨hg1, ⟨hn, rfl⟩ | ⟨v, a, p', hrd, rfl, hR, hS1⟩⟩
  · have HN := (show Hid ((cF 4).rd (l.drop p) = none) from (by show Option.map _ (cN.rd (l.drop p)) = none; rw [hn]; rfl))
    clear hn
    go_wp2_with fail
    exact ⟨rfl, DPost.no hg1 HN.out⟩
  have HR := (show Hid ((cF 4).rd (l.drop p) = some (fnum a, l.drop p')) from (by show Option.map _ (cN.rd (l.drop p)) = _; rw [hrd]; rfl))
  clear hrd
  have hm1 := hm.grown hg1 (fun e => hD.ne (by injection e))
  have hs1 := hs.mv hg1.size (Mv.gl hg1 hD.rL)
  have hpL := hD.pL
  have hR : v = .int .i64 a := hR
  subst hR
  go_wp2_with (refine wl_set rfl _ _ _ rfl pm 6 _ rfl rfl _ _ hm1 (show 6 < 23 by decide) (by kernel_rfl) rfl ?_; intro w2 hr2 hg2)
  go_end0
  have hm2 : Row w2 pm 33 (mc (set m 4 (fnum a)) s) := hr2.out
  have hs2 := hs1.mv hg2.size (Mv.gl hg2 hpL)
  exact DPost.yes hD hg1 hg2 hS1 HR.out hm2 ⟨hs2.o, hs2.g, hs2.o', hs2.g', hs2.d, hs2.s, hs2.c, hs2.v, hs2.n, hs2.p, hs2.l⟩
set_option maxHeartbeats 1000000 in
theorem rfield_5 (w00 : World) (L it : Nat) (w : World) (r pm : Nat) (bv : Value) (l : List Int) (p : Nat) (m : PMsg) (hD : DS w00 L it w r pm bv l p m) :
    Calls Try.prog 13 #[.pointer (some ⟨r, 0, none⟩), .pointer (some ⟨pm, 0, none⟩), .int .i32 67] w (DPost 5 w00 L it w r pm bv l p m) := by
  have hK := rnum_any L w r bv l p hD.rs
  obtain ⟨s, hm, hs⟩ := hD.mrow
  have hLw := hD.hL
  go_enter Try.func13, Try.ntmps13
  go_wp2_with fail
  refine hK.mono ?_
  rintro e w1 ⟨hg1, ⟨hn, rfl⟩ | ⟨v, a, p', hrd, rfl, hR, hS1⟩⟩
  · have HN := (show Hid ((cF 5).rd (l.drop p) = none) from (by show Option.map _ (cN.rd (l.drop p)) = none; rw [hn]; rfl))
    clear hn
    go_wp2_with fail
    exact ⟨rfl, DPost.no hg1 HN.out⟩
  have HR := (show Hid ((cF 5).rd (l.drop p) = some (fnum a, l.drop p')) from (by show Option.map _ (cN.rd (l.drop p)) = _; rw [hrd]; rfl))
  clear hrd
  have hm1 := hm.grown hg1 (fun e => hD.ne (by injection e))
  have hs1 := hs.mv hg1.size (Mv.gl hg1 hD.rL)
  have hpL := hD.pL
  have hR : v = .int .i64 a := hR
  subst hR
  go_wp2_with (refine wl_set rfl _ _ _ rfl pm 7 _ rfl rfl _ _ hm1 (show 7 < 23 by decide) (by kernel_rfl) rfl ?_; intro w2 hr2 hg2)
  go_end0
  have hm2 : Row w2 pm 33 (mc (set m 5 (fnum a)) s) := hr2.out
  have hs2 := hs1.mv hg2.size (Mv.gl hg2 hpL)
  exact DPost.yes hD hg1 hg2 hS1 HR.out hm2 ⟨hs2.o, hs2.g, hs2.o', hs2.g', hs2.d, hs2.s, hs2.c, hs2.v, hs2.n, hs2.p, hs2.l⟩
set_option maxHeartbeats 1000000 in
theorem rfield_6 (w00 : World) (L it : Nat) (w : World) (r pm : Nat) (bv : Value) (l : List Int) (p : Nat) (m : PMsg) (hD : DS w00 L it w r pm bv l p m) :
    Calls Try.prog 13 #[.pointer (some ⟨r, 0, none⟩), .pointer (some ⟨pm, 0, none⟩), .int .i32 82] w (DPost 6 w00 L it w r pm bv l p m) := by
  have hK := rrequest_any L w r bv l p hD.rs
  obtain ⟨s, hm, hs⟩ := hD.mrow
  have hLw := hD.hL
  go_enter Try.func13, Try.ntmps13
  go_wp2_with fail
  refine hK.mono ?_
  rintro e w1 ⟨hg1, ⟨hn, rfl⟩ | ⟨v, a, p', hrd, rfl, hR, hS1⟩⟩
  · have HN := (show Hid ((cF 6).rd (l.drop p) = none) from (by show Option.map _ (cReq.rd (l.drop p)) = none; rw [hn]; rfl))
    clear hn
    go_wp2_with fail
    exact ⟨rfl, DPost.no hg1 HN.out⟩
  have HR := (show Hid ((cF 6).rd (l.drop p) = some (freq a, l.drop p')) from (by show Option.map _ (cReq.rd (l.drop p)) = _; rw [hrd]; rfl))
  clear hrd
  have hm1 := hm.grown hg1 (fun e => hD.ne (by injection e))
  have hs1 := hs.mv hg1.size (Mv.gl hg1 hD.rL)
  have hpL := hD.pL
  obtain ⟨cs, rfl, vo, vg, hcs, fo, fg⟩ := hR
  subst hcs
  have fo := fo.mv (Mv.toGl (it := it) hLw hD.itw)
  have fg := fg.mv (Mv.toGl (it := it) hLw hD.itw)
  go_wp2_with (refine wl_put rfl _ _ _ rfl pm 8 [.int .i64 a.1, .int .i64 a.2.1, vo, vg] rfl rfl _ _ hm1 (show 12 ≤ 23 by decide) (by kernel_rfl) (one_RReq (G := GL L it) (w := w1) (x := a) ⟨_, _, rfl, fo, fg⟩) ?_; intro w2 hr2 hg2)
  go_end0
  have hm2 : Row w2 pm 33 (mc (set m 6 (freq a)) { s with o := vo, g := vg }) := hr2.out
  have hs2 := hs1.mv hg2.size (Mv.gl hg2 hpL)
  have fo := fo.mv (Mv.gl hg2 hpL)
  have fg := fg.mv (Mv.gl hg2 hpL)
  exact DPost.yes hD hg1 hg2 hS1 HR.out hm2 ⟨fo, fg, hs2.o', hs2.g', hs2.d, hs2.s, hs2.c, hs2.v, hs2.n, hs2.p, hs2.l⟩
set_option maxHeartbeats 1000000 in
theorem rfield_7 (w00 : World) (L it : Nat) (w : World) (r pm : Nat) (bv : Value) (l : List Int) (p : Nat) (m : PMsg) (hD : DS w00 L it w r pm bv l p m) :
    Calls Try.prog 13 #[.pointer (some ⟨r, 0, none⟩), .pointer (some ⟨pm, 0, none⟩), .int .i32 79] w (DPost 7 w00 L it w r pm bv l p m) := by
  have hK := rrequest_any L w r bv l p hD.rs
  obtain ⟨s, hm, hs⟩ := hD.mrow
  have hLw := hD.hL
  go_enter Try.func13, Try.ntmps13
  go_wp2_with fail
  refine hK.mono ?_
  rintro e w1 ⟨hg1, ⟨hn, rfl⟩ | ⟨v, a, p', hrd, rfl, hR, hS1⟩⟩
  · have HN := (show Hid ((cF 7).rd (l.drop p) = none) from (by show Option.map _ (cReq.rd (l.drop p)) = none; rw [hn]; rfl))
    clear hn
    go_wp2_with fail
    exact ⟨rfl, DPost.no hg1 HN.out⟩
  have HR := (show Hid ((cF 7).rd (l.drop p) = some (freq a, l.drop p')) from (by show Option.map _ (cReq.rd (l.drop p)) = _; rw [hrd]; rfl))
  clear hrd
  have hm1 := hm.grown hg1 (fun e => hD.ne (by injection e))
  have hs1 := hs.mv hg1.size (Mv.gl hg1 hD.rL)
  have hpL := hD.pL
  obtain ⟨cs, rfl, vo, vg, hcs, fo, fg⟩ := hR
  subst hcs
  have fo := fo.mv (Mv.toGl (it := it) hLw hD.itw)
  have fg := fg.mv (Mv.toGl (it := it) hLw hD.itw)
  go_wp2_with (refine wl_put rfl _ _ _ rfl pm 12 [.int .i64 a.1, .int .i64 a.2.1, vo, vg] rfl rfl _ _ hm1 (show 16 ≤ 23 by decide) (by kernel_rfl) (one_RReq (G := GL L it) (w := w1) (x := a) ⟨_, _, rfl, fo, fg⟩) ?_; intro w2 hr2 hg2)
  go_end0
  have hm2 : Row w2 pm 33 (mc (set m 7 (freq a)) { s with o' := vo, g' := vg }) := hr2.out
  have hs2 := hs1.mv hg2.size (Mv.gl hg2 hpL)
  have fo := fo.mv (Mv.gl hg2 hpL)
  have fg := fg.mv (Mv.gl hg2 hpL)
  exact DPost.yes hD hg1 hg2 hS1 HR.out hm2 ⟨hs2.o, hs2.g, fo, fg, hs2.d, hs2.s, hs2.c, hs2.v, hs2.n, hs2.p, hs2.l⟩
set_option maxHeartbeats 1000000 in
theorem rfield_8 (w00 : World) (L it : Nat) (w : World) (r pm : Nat) (bv : Value) (l : List Int) (p : Nat) (m : PMsg) (hD : DS w00 L it w r pm bv l p m) :
    Calls Try.prog 13 #[.pointer (some ⟨r, 0, none⟩), .pointer (some ⟨pm, 0, none⟩), .int .i32 68] w (DPost 8 w00 L it w r pm bv l p m) := by
  have hK := rtext_any L w r bv l p hD.rs
  obtain ⟨s, hm, hs⟩ := hD.mrow
  have hLw := hD.hL
  go_enter Try.func13, Try.ntmps13
  go_wp2_with fail
  refine hK.mono ?_
  rintro e w1 ⟨hg1, ⟨hn, rfl⟩ | ⟨v, a, p', hrd, rfl, hR, hS1⟩⟩
  · have HN := (show Hid ((cF 8).rd (l.drop p) = none) from (by show Option.map _ (cT.rd (l.drop p)) = none; rw [hn]; rfl))
    clear hn
    go_wp2_with fail
    exact ⟨rfl, DPost.no hg1 HN.out⟩
  have HR := (show Hid ((cF 8).rd (l.drop p) = some (ftxt a, l.drop p')) from (by show Option.map _ (cT.rd (l.drop p)) = _; rw [hrd]; rfl))
  clear hrd
  have hm1 := hm.grown hg1 (fun e => hD.ne (by injection e))
  have hs1 := hs.mv hg1.size (Mv.gl hg1 hD.rL)
  have hpL := hD.pL
  have fv := hR.mv (Mv.toGl (it := it) hLw hD.itw)
  go_wp2_with (refine wl_set rfl _ _ _ rfl pm 16 _ rfl rfl _ _ hm1 (show 16 < 23 by decide) (by kernel_rfl) fv.one ?_; intro w2 hr2 hg2)
  go_end0
  have hm2 : Row w2 pm 33 (mc (set m 8 (ftxt a)) { s with d := v }) := hr2.out
  have hs2 := hs1.mv hg2.size (Mv.gl hg2 hpL)
  have fv := fv.mv (Mv.gl hg2 hpL)
  exact DPost.yes hD hg1 hg2 hS1 HR.out hm2 ⟨hs2.o, hs2.g, hs2.o', hs2.g', fv, hs2.s, hs2.c, hs2.v, hs2.n, hs2.p, hs2.l⟩
set_option maxHeartbeats 1000000 in
theorem rfield_9 (w00 : World) (L it : Nat) (w : World) (r pm : Nat) (bv : Value) (l : List Int) (p : Nat) (m : PMsg) (hD : DS w00 L it w r pm bv l p m) :
    Calls Try.prog 13 #[.pointer (some ⟨r, 0, none⟩), .pointer (some ⟨pm, 0, none⟩), .int .i32 71] w (DPost 9 w00 L it w r pm bv l p m) := by
  have hK := rtext_any L w r bv l p hD.rs
  obtain ⟨s, hm, hs⟩ := hD.mrow
  have hLw := hD.hL
  go_enter Try.func13, Try.ntmps13
  go_wp2_with fail
  refine hK.mono ?_
  rintro e w1 ⟨hg1, ⟨hn, rfl⟩ | ⟨v, a, p', hrd, rfl, hR, hS1⟩⟩
  · have HN := (show Hid ((cF 9).rd (l.drop p) = none) from (by show Option.map _ (cT.rd (l.drop p)) = none; rw [hn]; rfl))
    clear hn
    go_wp2_with fail
    exact ⟨rfl, DPost.no hg1 HN.out⟩
  have HR := (show Hid ((cF 9).rd (l.drop p) = some (ftxt a, l.drop p')) from (by show Option.map _ (cT.rd (l.drop p)) = _; rw [hrd]; rfl))
  clear hrd
  have hm1 := hm.grown hg1 (fun e => hD.ne (by injection e))
  have hs1 := hs.mv hg1.size (Mv.gl hg1 hD.rL)
  have hpL := hD.pL
  have fv := hR.mv (Mv.toGl (it := it) hLw hD.itw)
  go_wp2_with (refine wl_set rfl _ _ _ rfl pm 17 _ rfl rfl _ _ hm1 (show 17 < 23 by decide) (by kernel_rfl) fv.one ?_; intro w2 hr2 hg2)
  go_end0
  have hm2 : Row w2 pm 33 (mc (set m 9 (ftxt a)) { s with s := v }) := hr2.out
  have hs2 := hs1.mv hg2.size (Mv.gl hg2 hpL)
  have fv := fv.mv (Mv.gl hg2 hpL)
  exact DPost.yes hD hg1 hg2 hS1 HR.out hm2 ⟨hs2.o, hs2.g, hs2.o', hs2.g', hs2.d, fv, hs2.c, hs2.v, hs2.n, hs2.p, hs2.l⟩
set_option maxHeartbeats 1000000 in
theorem rfield_10 (w00 : World) (L it : Nat) (w : World) (r pm : Nat) (bv : Value) (l : List Int) (p : Nat) (m : PMsg) (hD : DS w00 L it w r pm bv l p m) :
    Calls Try.prog 13 #[.pointer (some ⟨r, 0, none⟩), .pointer (some ⟨pm, 0, none⟩), .int .i32 69] w (DPost 10 w00 L it w r pm bv l p m) := by
  have hK := rvotes_any L w r bv l p hD.rs
  obtain ⟨s, hm, hs⟩ := hD.mrow
  have hLw := hD.hL
  go_enter Try.func13, Try.ntmps13
  go_wp2_with fail
  refine hK.mono ?_
  rintro e w1 ⟨hg1, ⟨hn, rfl⟩ | ⟨v, a, p', hrd, rfl, hR, hS1⟩⟩
  · have HN := (show Hid ((cF 10).rd (l.drop p) = none) from (by show Option.map _ ((cL cVote).rd (l.drop p)) = none; rw [hn]; rfl))
    clear hn
    go_wp2_with fail
    exact ⟨rfl, DPost.no hg1 HN.out⟩
  have HR := (show Hid ((cF 10).rd (l.drop p) = some (fvotes a, l.drop p')) from (by show Option.map _ ((cL cVote).rd (l.drop p)) = _; rw [hrd]; rfl))
  clear hrd
  have hm1 := hm.grown hg1 (fun e => hD.ne (by injection e))
  have hs1 := hs.mv hg1.size (Mv.gl hg1 hD.rL)
  have hpL := hD.pL
  have fv := hR.mv mov_vote (Nat.le_refl _) (Mv.toGl (it := it) hLw hD.itw)
  go_wp2_with (refine wl_set rfl _ _ _ rfl pm 18 _ rfl rfl _ _ hm1 (show 18 < 23 by decide) (by kernel_rfl) fv.one ?_; intro w2 hr2 hg2)
  go_end0
  have hm2 : Row w2 pm 33 (mc (set m 10 (fvotes a)) { s with c := v }) := hr2.out
  have hs2 := hs1.mv hg2.size (Mv.gl hg2 hpL)
  have fv := fv.mv mov_vote hg2.size (Mv.gl hg2 hpL)
  exact DPost.yes hD hg1 hg2 hS1 HR.out hm2 ⟨hs2.o, hs2.g, hs2.o', hs2.g', hs2.d, hs2.s, fv, hs2.v, hs2.n, hs2.p, hs2.l⟩
set_option maxHeartbeats 1000000 in
theorem rfield_11 (w00 : World) (L it : Nat) (w : World) (r pm : Nat) (bv : Value) (l : List Int) (p : Nat) (m : PMsg) (hD : DS w00 L it w r pm bv l p m) :
    Calls Try.prog 13 #[.pointer (some ⟨r, 0, none⟩), .pointer (some ⟨pm, 0, none⟩), .int .i32 86] w (DPost 11 w00 L it w r pm bv l p m) := by
  have hK := rvotes_any L w r bv l p hD.rs
  obtain ⟨s, hm, hs⟩ := hD.mrow
  have hLw := hD.hL
  go_enter Try.func13, Try.ntmps13
  go_wp2_with fail
  refine hK.mono ?_
  rintro e w1 ⟨hg1, ⟨hn, rfl⟩ | ⟨v, a, p', hrd, rfl, hR, hS1⟩⟩
  · have HN := (show Hid ((cF 11).rd (l.drop p) = none) from (by show Option.map _ ((cL cVote).rd (l.drop p)) = none; rw [hn]; rfl))
    clear hn
    go_wp2_with fail
    exact ⟨rfl, DPost.no hg1 HN.out⟩
  have HR := (show Hid ((cF 11).rd (l.drop p) = some (fvotes a, l.drop p')) from (by show Option.map _ ((cL cVote).rd (l.drop p)) = _; rw [hrd]; rfl))
  clear hrd
  have hm1 := hm.grown hg1 (fun e => hD.ne (by injection e))
  have hs1 := hs.mv hg1.size (Mv.gl hg1 hD.rL)
  have hpL := hD.pL
  have fv := hR.mv mov_vote (Nat.le_refl _) (Mv.toGl (it := it) hLw hD.itw)
  go_wp2_with (refine wl_set rfl _ _ _ rfl pm 19 _ rfl rfl _ _ hm1 (show 19 < 23 by decide) (by kernel_rfl) fv.one ?_; intro w2 hr2 hg2)
  go_end0
  have hm2 : Row w2 pm 33 (mc (set m 11 (fvotes a)) { s with v := v }) := hr2.out
  have hs2 := hs1.mv hg2.size (Mv.gl hg2 hpL)
  have fv := fv.mv mov_vote hg2.size (Mv.gl hg2 hpL)
  exact DPost.yes hD hg1 hg2 hS1 HR.out hm2 ⟨hs2.o, hs2.g, hs2.o', hs2.g', hs2.d, hs2.s, hs2.c, fv, hs2.n, hs2.p, hs2.l⟩
set_option maxHeartbeats 1000000 in
theorem rfield_12 (w00 : World) (L it : Nat) (w : World) (r pm : Nat) (bv : Value) (l : List Int) (p : Nat) (m : PMsg) (hD : DS w00 L it w r pm bv l p m) :
    Calls Try.prog 13 #[.pointer (some ⟨r, 0, none⟩), .pointer (some ⟨pm, 0, none⟩), .int .i32 78] w (DPost 12 w00 L it w r pm bv l p m) := by
  have hK := rints_any L w r bv l p hD.rs
  obtain ⟨s, hm, hs⟩ := hD.mrow
  have hLw := hD.hL
  go_enter Try.func13, Try.ntmps13
  go_wp2_with fail
  refine hK.mono ?_
  rintro e w1 ⟨hg1, ⟨hn, rfl⟩ | ⟨v, a, p', hrd, rfl, hR, hS1⟩⟩
  · have HN := (show Hid ((cF 12).rd (l.drop p) = none) from (by show Option.map _ ((cL cN).rd (l.drop p)) = none; rw [hn]; rfl))
    clear hn
    go_wp2_with fail
    exact ⟨rfl, DPost.no hg1 HN.out⟩
  have HR := (show Hid ((cF 12).rd (l.drop p) = some (fints a, l.drop p')) from (by show Option.map _ ((cL cN).rd (l.drop p)) = _; rw [hrd]; rfl))
  clear hrd
  have hm1 := hm.grown hg1 (fun e => hD.ne (by injection e))
  have hs1 := hs.mv hg1.size (Mv.gl hg1 hD.rL)
  have hpL := hD.pL
  have fv := hR.mv mov_int (Nat.le_refl _) (Mv.toGl (it := it) hLw hD.itw)
  go_wp2_with (refine wl_set rfl _ _ _ rfl pm 20 _ rfl rfl _ _ hm1 (show 20 < 23 by decide) (by kernel_rfl) fv.one ?_; intro w2 hr2 hg2)
  go_end0
  have hm2 : Row w2 pm 33 (mc (set m 12 (fints a)) { s with n := v }) := hr2.out
  have hs2 := hs1.mv hg2.size (Mv.gl hg2 hpL)
  have fv := fv.mv mov_int hg2.size (Mv.gl hg2 hpL)
  exact DPost.yes hD hg1 hg2 hS1 HR.out hm2 ⟨hs2.o, hs2.g, hs2.o', hs2.g', hs2.d, hs2.s, hs2.c, hs2.v, fv, hs2.p, hs2.l⟩
set_option maxHeartbeats 1000000 in
theorem rfield_13 (w00 : World) (L it : Nat) (w : World) (r pm : Nat) (bv : Value) (l : List Int) (p : Nat) (m : PMsg) (hD : DS w00 L it w r pm bv l p m) :
    Calls Try.prog 13 #[.pointer (some ⟨r, 0, none⟩), .pointer (some ⟨pm, 0, none⟩), .int .i32 80] w (DPost 13 w00 L it w r pm bv l p m) := by
  have hK := rreqs_any L w r bv l p hD.rs
  obtain ⟨s, hm, hs⟩ := hD.mrow
  have hLw := hD.hL
  go_enter Try.func13, Try.ntmps13
  go_wp2_with fail
  refine hK.mono ?_
  rintro e w1 ⟨hg1, ⟨hn, rfl⟩ | ⟨v, a, p', hrd, rfl, hR, hS1⟩⟩
  · have HN := (show Hid ((cF 13).rd (l.drop p) = none) from (by show Option.map _ ((cL cReq).rd (l.drop p)) = none; rw [hn]; rfl))
    clear hn
    go_wp2_with fail
    exact ⟨rfl, DPost.no hg1 HN.out⟩
  have HR := (show Hid ((cF 13).rd (l.drop p) = some (freqs a, l.drop p')) from (by show Option.map _ ((cL cReq).rd (l.drop p)) = _; rw [hrd]; rfl))
  clear hrd
  have hm1 := hm.grown hg1 (fun e => hD.ne (by injection e))
  have hs1 := hs.mv hg1.size (Mv.gl hg1 hD.rL)
  have hpL := hD.pL
  have fv := hR.mv mov_req (Nat.le_refl _) (Mv.toGl (it := it) hLw hD.itw)
  go_wp2_with (refine wl_set rfl _ _ _ rfl pm 21 _ rfl rfl _ _ hm1 (show 21 < 23 by decide) (by kernel_rfl) fv.one ?_; intro w2 hr2 hg2)
  go_end0
  have hm2 : Row w2 pm 33 (mc (set m 13 (freqs a)) { s with p := v }) := hr2.out
  have hs2 := hs1.mv hg2.size (Mv.gl hg2 hpL)
  have fv := fv.mv mov_req hg2.size (Mv.gl hg2 hpL)
  exact DPost.yes hD hg1 hg2 hS1 HR.out hm2 ⟨hs2.o, hs2.g, hs2.o', hs2.g', hs2.d, hs2.s, hs2.c, hs2.v, hs2.n, fv, hs2.l⟩
set_option maxHeartbeats 1000000 in
theorem rfield_14 (w00 : World) (L it : Nat) (w : World) (r pm : Nat) (bv : Value) (l : List Int) (p : Nat) (m : PMsg) (hD : DS w00 L it w r pm bv l p m) :
    Calls Try.prog 13 #[.pointer (some ⟨r, 0, none⟩), .pointer (some ⟨pm, 0, none⟩), .int .i32 76] w (DPost 14 w00 L it w r pm bv l p m) := by
  have hK := rreps_any L w r bv l p hD.rs
  obtain ⟨s, hm, hs⟩ := hD.mrow
  have hLw := hD.hL
  go_enter Try.func13, Try.ntmps13
  go_wp2_with fail
  refine hK.mono ?_
  rintro e w1 ⟨hg1, ⟨hn, rfl⟩ | ⟨v, a, p', hrd, rfl, hR, hS1⟩⟩
  · have HN := (show Hid ((cF 14).rd (l.drop p) = none) from (by show Option.map _ ((cL cRep).rd (l.drop p)) = none; rw [hn]; rfl))
    clear hn
    go_wp2_with fail
    exact ⟨rfl, DPost.no hg1 HN.out⟩
  have HR := (show Hid ((cF 14).rd (l.drop p) = some (freps a, l.drop p')) from (by show Option.map _ ((cL cRep).rd (l.drop p)) = _; rw [hrd]; rfl))
  clear hrd
  have hm1 := hm.grown hg1 (fun e => hD.ne (by injection e))
  have hs1 := hs.mv hg1.size (Mv.gl hg1 hD.rL)
  have hpL := hD.pL
  have fv := hR.mv mov_rep (Nat.le_refl _) (Mv.toGl (it := it) hLw hD.itw)
  go_wp2_with (refine wl_set rfl _ _ _ rfl pm 22 _ rfl rfl _ _ hm1 (show 22 < 23 by decide) (by kernel_rfl) fv.one ?_; intro w2 hr2 hg2)
  go_end0
  have hm2 : Row w2 pm 33 (mc (set m 14 (freps a)) { s with l := v }) := hr2.out
  have hs2 := hs1.mv hg2.size (Mv.gl hg2 hpL)
  have fv := fv.mv mov_rep hg2.size (Mv.gl hg2 hpL)
  exact DPost.yes hD hg1 hg2 hS1 HR.out hm2 ⟨hs2.o, hs2.g, hs2.o', hs2.g', hs2.d, hs2.s, hs2.c, hs2.v, hs2.n, hs2.p, fv⟩
/-- field. -/
theorem rfield_any (w00 : World) (L it : Nat) (w : World) (r pm : Nat) (bv : Value) (l : List Int) (p : Nat) (m : PMsg) (hD : DS w00 L it w r pm bv l p m) {i : Nat} (h : i < 15) :
    Calls Try.prog 13 #[.pointer (some ⟨r, 0, none⟩), .pointer (some ⟨pm, 0, none⟩), .int .i32 (lt i)] w (DPost i w00 L it w r pm bv l p m) := by
  rcases lt15 h with rfl | rfl | rfl | rfl | rfl | rfl | rfl | rfl | rfl | rfl | rfl | rfl | rfl | rfl | rfl
  · exact rfield_0 w00 L it w r pm bv l p m hD
  · exact rfield_1 w00 L it w r pm bv l p m hD
  · exact rfield_2 w00 L it w r pm bv l p m hD
  · exact rfield_3 w00 L it w r pm bv l p m hD
  · exact rfield_4 w00 L it w r pm bv l p m hD
  · exact rfield_5 w00 L it w r pm bv l p m hD
  · exact rfield_6 w00 L it w r pm bv l p m hD
  · exact rfield_7 w00 L it w r pm bv l p m hD
  · exact rfield_8 w00 L it w r pm bv l p m hD
  · exact rfield_9 w00 L it w r pm bv l p m hD
  · exact rfield_10 w00 L it w r pm bv l p m hD
  · exact rfield_11 w00 L it w r pm bv l p m hD
  · exact rfield_12 w00 L it w r pm bv l p m hD
  · exact rfield_13 w00 L it w r pm bv l p m hD
  · exact rfield_14 w00 L it w r pm bv l p m hD
end Go.Proofs.Ytjoikkhmijalmaa
