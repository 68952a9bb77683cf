/- msg.Body. -/
import Derived.Test.YtgjepofinpmcpaaGreatDoorCBE
import Derived.Test.YtgjepofinpmcpaaGreatDoorCAM
import Derived.Test.YtgjepofinpmcpaaGreatDoorCAV
import Derived.Test.YtgjepofinpmcpaaGreatDoorCAN
import Derived.Test.YtgjepofinpmcpaaGreatDoorCAY
import Derived.Deep.QuietTactic
import Derived.BigQuiet
import Derived.Test.YtgjepofinpmcpaaGreatDoorCAL
import Derived.Test.YtgjepofinpmcpaaGreatDoorCAT
import Derived.Test.YtgjepofinpmcpaaGreatDoorCAW
import Derived.Test.YtgjepofinpmcpaaGreatDoorCAJ
section
set_option linter.unusedVariables false
namespace Go.Proofs.YtgjepofinpmcpaaGreatDoor
open Go.RowKit Oct

/-- From block L on, the iterator's aside. -/
def GL (L it : Nat) : Nat → Prop := fun k => L ≤ k ∧ k ≠ it
theorem Mv.gl {L it : Nat} {w w' : World} {b : Nat} (hg : w.grownBy w' (some b)) (hb : b < L) : Mv (GL L it) (GL L it) w w' := fun k hk hlt => ⟨hg.block k hlt (fun e => by injection e with e; have := hk.1; omega), hk⟩
theorem Mv.toGl {L it B : Nat} {w : World} (hL : L ≤ B) (hi : it < B) : Mv (From B) (GL L it) w w := fun k hk _ => ⟨rfl, by unfold From at hk; unfold GL; omega⟩
/-- How decoding stands: w00 is the world ahead of it, r the reader's block, pm the message's, it the iterator's. -/
structure DS (w00 : World) (L it : Nat) (w : World) (r pm : Nat) (bv : Value) (l : List Int) (p : Nat) (m : PMsg) : Prop where
  bel : Below w00.heap.size w00 w
  bytes : RT Any w00 bv l
  rlo : w00.heap.size ≤ r
  plo : w00.heap.size ≤ pm
  rL : r < L
  pL : pm < L
  ne : r ≠ pm
  hL : L ≤ w.heap.size
  row : Row w r 75 [bv, .int .i64 (p : Int)]
  mrow : ∃ s, Row w pm 40 (mc m s) ∧ SOk (GL L it) w m s
  hp : p ≤ l.length
  hl : l.length ≤ 1048576
  itw : it < w.heap.size
theorem DS.rs {w00 : World} {L it : Nat} {w : World} {r pm : Nat} {bv : Value} {l : List Int} {p : Nat} {m : PMsg} (h : DS w00 L it w r pm bv l p m) : RS L w r bv l p :=
  ⟨h.row, h.bytes.mv fun k _ hk => ⟨h.bel.block k hk, by have := h.rlo; have := h.rL; omega⟩, h.hp, h.hL, h.rL, h.hl⟩
/-- What a call that reads a field comes to. -/
def DPost (i : Nat) (w00 : World) (L it : Nat) (w : World) (r pm : Nat) (bv : Value) (l : List Int) (p : Nat) (m : PMsg) (e : Ending) (w' : World) : Prop :=
  Two r pm w w' ∧ (((cF i).rd (l.drop p) = none ∧ e = .panicked [{ v := .iface 24 (.int .i64 51), recovered := false }] ∧ w.grownBy w' (some r)) ∨
    ∃ v p', (cF i).rd (l.drop p) = some (v, l.drop p') ∧ e = .returned (.tuple #[]) ∧ DS w00 L it w' r pm bv l p' (set m i v))
theorem DPost.no {i : Nat} {w00 : World} {L it : Nat} {w : World} {r pm : Nat} {bv : Value} {l : List Int} {p : Nat} {m : PMsg} {w' : World} (hg : w.grownBy w' (some r)) (hn : (cF i).rd (l.drop p) = none) :
    DPost i w00 L it w r pm bv l p m (.panicked [{ v := .iface 24 (.int .i64 51), recovered := false }]) w' := ⟨Two.of hg (grown_refl _ _), .inl ⟨hn, rfl, hg⟩⟩
theorem DPost.yes {i : Nat} {w00 : World} {L it : Nat} {w : World} {r pm : Nat} {bv : Value} {l : List Int} {p : Nat} {m : PMsg} {w1 w2 : World} {v : FV} {p' : Nat} (hD : DS w00 L it w r pm bv l p m) (hg1 : w.grownBy w1 (some r)) (hg2 : w1.grownBy w2 (some pm))
    (hS : RS L w1 r bv l p') (hrd : (cF i).rd (l.drop p) = some (v, l.drop p')) {s : SV} (hm : Row w2 pm 40 (mc (set m i v) s)) (hs : SOk (GL L it) w2 (set m i v) s) : DPost i w00 L it w r pm bv l p m (.returned (.tuple #[])) w2 := by
  refine ⟨Two.of hg1 hg2, .inr ⟨v, p', hrd, rfl, ?_⟩⟩
  have hb1 := hD.bel.trans (grown_below hg1 hD.bel.size (fun k hk => by cases hk; exact hD.rlo))
  exact ⟨hb1.trans (grown_below hg2 hb1.size (fun k hk => by cases hk; exact hD.plo)), hD.bytes, hD.rlo, hD.plo, hD.rL, hD.pL, hD.ne, Nat.le_trans hD.hL (Nat.le_trans hg1.size hg2.size), hS.row.grown hg2 (fun e => hD.ne (by injection e with e; exact e.symm)), ⟨s, hm, hs⟩, hS.hp, hD.hl, Nat.lt_of_lt_of_le hD.itw (Nat.le_trans hg1.size hg2.size)⟩

set_option maxHeartbeats 1000000 in
theorem rfield_0 (w00 : World) (L it : Nat) (w : World) (r pm : Nat) (bv : Value) (l : List Int) (p : Nat) (m : PMsg) (hD : DS w00 L it w r pm bv l p m) :
    Calls Tryz.prog 37 #[.pointer (some ⟨r, 0, none⟩), .pointer (some ⟨pm, 0, none⟩), .int .i32 66] w (DPost 0 w00 L it w r pm bv l p m) := by
  have hK := rballot_any L w r bv l p hD.rs
  obtain ⟨s, hm, hs⟩ := hD.mrow
  have hLw := hD.hL
  go_enter Tryz.func37, Tryz.ntmps37
  go_wp2_with fail
  refine hK.mono ?_
  rintro e w1 ⟨hg1, ⟨hn, rfl⟩ | ⟨v, a, p', hrd, rfl, hR, hS1⟩⟩
  · have HN := (show Hid ((cF 0).rd (l.drop p) = none) from (by show Option.map _ (cBal.rd (l.drop p)) = none; rw [hn]; rfl))
    clear hn
    go_wp2_with fail
    exact ⟨rfl, DPost.no hg1 HN.out⟩
  have HR := (show Hid ((cF 0).rd (l.drop p) = some (fbal a, l.drop p')) from (by show Option.map _ (cBal.rd (l.drop p)) = _; rw [hrd]; rfl))
  clear hrd
  have hm1 := hm.grown hg1 (fun e => hD.ne (by injection e))
  have hs1 := hs.mv hg1.size (Mv.gl hg1 hD.rL)
  have hpL := hD.pL
  obtain ⟨cs, rfl, hcs⟩ := hR
  have hcs : cs = [.int .i64 a.1, .int .i64 a.2] := hcs
  subst hcs
  go_wp2_with (refine wl_put rfl _ _ _ rfl pm 1 [.int .i64 a.1, .int .i64 a.2] rfl rfl _ _ hm1 (show 3 ≤ 23 by decide) (by kernel_rfl) one_bal ?_; intro w2 hr2 hg2)
  go_end0
  have hm2 : Row w2 pm 40 (mc (set m 0 (fbal a)) s) := hr2.out
  have hs2 := hs1.mv hg2.size (Mv.gl hg2 hpL)
  exact DPost.yes hD hg1 hg2 hS1 HR.out hm2 ⟨hs2.o, hs2.g, hs2.o', hs2.g', hs2.d, hs2.s, hs2.c, hs2.v, hs2.n, hs2.p, hs2.l⟩
set_option maxHeartbeats 1000000 in
theorem rfield_1 (w00 : World) (L it : Nat) (w : World) (r pm : Nat) (bv : Value) (l : List Int) (p : Nat) (m : PMsg) (hD : DS w00 L it w r pm bv l p m) :
    Calls Tryz.prog 37 #[.pointer (some ⟨r, 0, none⟩), .pointer (some ⟨pm, 0, none⟩), .int .i32 83] w (DPost 1 w00 L it w r pm bv l p m) := by
  have hK := rnum_any L w r bv l p hD.rs
  obtain ⟨s, hm, hs⟩ := hD.mrow
  have hLw := hD.hL
  go_enter Tryz.func37, Tryz.ntmps37
  go_wp2_with fail
  refine hK.mono ?_
  rintro e w1 ⟨hg1, ⟨hn, rfl⟩ | ⟨v, a, p', hrd, rfl, hR, hS1⟩⟩
  · have HN := (show Hid ((cF 1).rd (l.drop p) = none) from (by show Option.map _ (cN.rd (l.drop p)) = none; rw [hn]; rfl))
    clear hn
    go_wp2_with fail
    exact ⟨rfl, DPost.no hg1 HN.out⟩
  have HR := (show Hid ((cF 1).rd (l.drop p) = some (fnum a, l.drop p')) from (by show Option.map _ (cN.rd (l.drop p)) = _; rw [hrd]; rfl))
  clear hrd
  have hm1 := hm.grown hg1 (fun e => hD.ne (by injection e))
  have hs1 := hs.mv hg1.size (Mv.gl hg1 hD.rL)
  have hpL := hD.pL
  have hR : v = .int .i64 a := hR
  subst hR
  go_wp2_with (refine wl_set rfl _ _ _ rfl pm 3 _ rfl rfl _ _ hm1 (show 3 < 23 by decide) (by kernel_rfl) rfl ?_; intro w2 hr2 hg2)
  go_end0
  have hm2 : Row w2 pm 40 (mc (set m 1 (fnum a)) s) := hr2.out
  have hs2 := hs1.mv hg2.size (Mv.gl hg2 hpL)
  exact DPost.yes hD hg1 hg2 hS1 HR.out hm2 ⟨hs2.o, hs2.g, hs2.o', hs2.g', hs2.d, hs2.s, hs2.c, hs2.v, hs2.n, hs2.p, hs2.l⟩
set_option maxHeartbeats 1000000 in
theorem rfield_2 (w00 : World) (L it : Nat) (w : World) (r pm : Nat) (bv : Value) (l : List Int) (p : Nat) (m : PMsg) (hD : DS w00 L it w r pm bv l p m) :
    Calls Tryz.prog 37 #[.pointer (some ⟨r, 0, none⟩), .pointer (some ⟨pm, 0, none⟩), .int .i32 70] w (DPost 2 w00 L it w r pm bv l p m) := by
  have hK := rnum_any L w r bv l p hD.rs
  obtain ⟨s, hm, hs⟩ := hD.mrow
  have hLw := hD.hL
  go_enter Tryz.func37, Tryz.ntmps37
  go_wp2_with fail
  refine hK.mono ?_
  rintro e w1 ⟨hg1, ⟨hn, rfl⟩ | ⟨v, a, p', hrd, rfl, hR, hS1⟩⟩
  · have HN := (show Hid ((cF 2).rd (l.drop p) = none) from (by show Option.map _ (cN.rd (l.drop p)) = none; rw [hn]; rfl))
    clear hn
    go_wp2_with fail
    exact ⟨rfl, DPost.no hg1 HN.out⟩
  have HR := (show Hid ((cF 2).rd (l.drop p) = some (fnum a, l.drop p')) from (by show Option.map _ (cN.rd (l.drop p)) = _; rw [hrd]; rfl))
  clear hrd
  have hm1 := hm.grown hg1 (fun e => hD.ne (by injection e))
  have hs1 := hs.mv hg1.size (Mv.gl hg1 hD.rL)
  have hpL := hD.pL
  have hR : v = .int .i64 a := hR
  subst hR
  go_wp2_with (refine wl_set rfl _ _ _ rfl pm 4 _ rfl rfl _ _ hm1 (show 4 < 23 by decide) (by kernel_rfl) rfl ?_; intro w2 hr2 hg2)
  go_end0
  have hm2 : Row w2 pm 40 (mc (set m 2 (fnum a)) s) := hr2.out
  have hs2 := hs1.mv hg2.size (Mv.gl hg2 hpL)
  exact DPost.yes hD hg1 hg2 hS1 HR.out hm2 ⟨hs2.o, hs2.g, hs2.o', hs2.g', hs2.d, hs2.s, hs2.c, hs2.v, hs2.n, hs2.p, hs2.l⟩
set_option maxHeartbeats 1000000 in
theorem rfield_3 (w00 : World) (L it : Nat) (w : World) (r pm : Nat) (bv : Value) (l : List Int) (p : Nat) (m : PMsg) (hD : DS w00 L it w r pm bv l p m) :
    Calls Tryz.prog 37 #[.pointer (some ⟨r, 0, none⟩), .pointer (some ⟨pm, 0, none⟩), .int .i32 84] w (DPost 3 w00 L it w r pm bv l p m) := by
  have hK := rnum_any L w r bv l p hD.rs
  obtain ⟨s, hm, hs⟩ := hD.mrow
  have hLw := hD.hL
  go_enter Tryz.func37, Tryz.ntmps37
  go_wp2_with fail
  refine hK.mono ?_
  rintro e w1 ⟨hg1, ⟨hn, rfl⟩ | ⟨v, a, p', hrd, rfl, hR, hS1⟩⟩
  · have HN := (show Hid ((cF 3).rd (l.drop p) = none) from (by show Option.map _ (cN.rd (l.drop p)) = none; rw [hn]; rfl))
    clear hn
    go_wp2_with fail
    exact ⟨rfl, DPost.no hg1 HN.out⟩
  have HR := (show Hid ((cF 3).rd (l.drop p) = some (fnum a, l.drop p')) from (by show Option.map _ (cN.rd (l.drop p)) = _; rw [hrd]; rfl))
  clear hrd
  have hm1 := hm.grown hg1 (fun e => hD.ne (by injection e))
  have hs1 := hs.mv hg1.size (Mv.gl hg1 hD.rL)
  have hpL := hD.pL
  have hR : v = .int .i64 a := hR
  subst hR
  go_wp2_with (refine wl_set rfl _ _ _ rfl pm 5 _ rfl rfl _ _ hm1 (show 5 < 23 by decide) (by kernel_rfl) rfl ?_; intro w2 hr2 hg2)
  go_end0
  have hm2 : Row w2 pm 40 (mc (set m 3 (fnum a)) s) := hr2.out
  have hs2 := hs1.mv hg2.size (Mv.gl hg2 hpL)
  exact DPost.yes hD hg1 hg2 hS1 HR.out hm2 ⟨hs2.o, hs2.g, hs2.o', hs2.g', hs2.d, hs2.s, hs2.c, hs2.v, hs2.n, hs2.p, hs2.l⟩
set_option maxHeartbeats 1000000 in
theorem rfield_4 (w00 : World) (L it : Nat) (w : World) (r pm : Nat) (bv : Value) (l : List Int) (p : Nat) (m : PMsg) (hD : DS w00 L it w r pm bv l p m) :
    Calls Tryz.prog 37 #[.pointer (some ⟨r, 0, none⟩), .pointer (some ⟨pm, 0, none⟩), .int .i32 73] w (DPost 4 w00 L it w r pm bv l p m) := by
  have hK := rnum_any L w r bv l p hD.rs
  obtain ⟨s, hm, hs⟩ := hD.mrow
  have hLw := hD.hL
  go_enter Tryz.func37, Tryz.ntmps37
  go_wp2_with fail
  refine hK.mono ?_
  rintro e w1 ⟨hg1, ⟨hn, rfl⟩ | ⟨v, a, p', hrd, rfl, hR, hS1⟩⟩
  · have HN := (show Hid ((cF 4).rd (l.drop p) = none) from (by show Option.map _ (cN.rd (l.drop p)) = none; rw [hn]; rfl))
    clear hn
    go_wp2_with fail
    exact ⟨rfl, DPost.no hg1 HN.out⟩
  have HR := (show Hid ((cF 4).rd (l.drop p) = some (fnum a, l.drop p')) from (by show Option.map _ (cN.rd (l.drop p)) = _; rw [hrd]; rfl))
  clear hrd
  have hm1 := hm.grown hg1 (fun e => hD.ne (by injection e))
  have hs1 := hs.mv hg1.size (Mv.gl hg1 hD.rL)
  have hpL := hD.pL
  have hR : v = .int .i64 a := hR
  subst hR
  go_wp2_with (refine wl_set rfl _ _ _ rfl pm 6 _ rfl rfl _ _ hm1 (show 6 < 23 by decide) (by kernel_rfl) rfl ?_; intro w2 hr2 hg2)
  go_end0
  have hm2 : Row w2 pm 40 (mc (set m 4 (fnum a)) s) := hr2.out
  have hs2 := hs1.mv hg2.size (Mv.gl hg2 hpL)
  exact DPost.yes hD hg1 hg2 hS1 HR.out hm2 ⟨hs2.o, hs2.g, hs2.o', hs2.g', hs2.d, hs2.s, hs2.c, hs2.v, hs2.n, hs2.p, hs2.l⟩
set_option maxHeartbeats 1000000 in
theorem rfield_5 (w00 : World) (L it : Nat) (w : World) (r pm : Nat) (bv : Value) (l : List Int) (p : Nat) (m : PMsg) (hD : DS w00 L it w r pm bv l p m) :
    Calls Tryz.prog 37 #[.pointer (some ⟨r, 0, none⟩), .pointer (some ⟨pm, 0, none⟩), .int .i32 67] w (DPost 5 w00 L it w r pm bv l p m) := by
  have hK := rnum_any L w r bv l p hD.rs
  obtain ⟨s, hm, hs⟩ := hD.mrow
  have hLw := hD.hL
  go_enter Tryz.func37, Tryz.ntmps37
  go_wp2_with fail
  refine hK.mono ?_
  rintro e w1 ⟨hg1, ⟨hn, rfl⟩ | ⟨v, a, p', hrd, rfl, hR, hS1⟩⟩
  · have HN := (show Hid ((cF 5).rd (l.drop p) = none) from (by show Option.map _ (cN.rd (l.drop p)) = none; rw [hn]; rfl))
    clear hn
    go_wp2_with fail
    exact ⟨rfl, DPost.no hg1 HN.out⟩
  have HR := (show Hid ((cF 5).rd (l.drop p) = some (fnum a, l.drop p')) from (by show Option.map _ (cN.rd (l.drop p)) = _; rw [hrd]; rfl))
  clear hrd
  have hm1 := hm.grown hg1 (fun e => hD.ne (by injection e))
  have hs1 := hs.mv hg1.size (Mv.gl hg1 hD.rL)
  have hpL := hD.pL
  have hR : v = .int .i64 a := hR
  subst hR
  go_wp2_with (refine wl_set rfl _ _ _ rfl pm 7 _ rfl rfl _ _ hm1 (show 7 < 23 by decide) (by kernel_rfl) rfl ?_; intro w2 hr2 hg2)
  go_end0
  have hm2 : Row w2 pm 40 (mc (set m 5 (fnum a)) s) := hr2.out
  have hs2 := hs1.mv hg2.size (Mv.gl hg2 hpL)
  exact DPost.yes hD hg1 hg2 hS1 HR.out hm2 ⟨hs2.o, hs2.g, hs2.o', hs2.g', hs2.d, hs2.s, hs2.c, hs2.v, hs2.n, hs2.p, hs2.l⟩
set_option maxHeartbeats 1000000 in
theorem rfield_6 (w00 : World) (L it : Nat) (w : World) (r pm : Nat) (bv : Value) (l : List Int) (p : Nat) (m : PMsg) (hD : DS w00 L it w r pm bv l p m) :
    Calls Tryz.prog 37 #[.pointer (some ⟨r, 0, none⟩), .pointer (some ⟨pm, 0, none⟩), .int .i32 82] w (DPost 6 w00 L it w r pm bv l p m) := by
  have hK := rrequest_any L w r bv l p hD.rs
  obtain ⟨s, hm, hs⟩ := hD.mrow
  have hLw := hD.hL
  go_enter Tryz.func37, Tryz.ntmps37
  go_wp2_with fail
  refine hK.mono ?_
  rintro e w1 ⟨hg1, ⟨hn, rfl⟩ | ⟨v, a, p', hrd, rfl, hR, hS1⟩⟩
  · have HN := (show Hid ((cF 6).rd (l.drop p) = none) from (by show Option.map _ (cReq.rd (l.drop p)) = none; rw [hn]; rfl))
    clear hn
    go_wp2_with fail
    exact ⟨rfl, DPost.no hg1 HN.out⟩
  have HR := (show Hid ((cF 6).rd (l.drop p) = some (freq a, l.drop p')) from (by show Option.map _ (cReq.rd (l.drop p)) = _; rw [hrd]; rfl))
  clear hrd
  have hm1 := hm.grown hg1 (fun e => hD.ne (by injection e))
  have hs1 := hs.mv hg1.size (Mv.gl hg1 hD.rL)
  have hpL := hD.pL
  obtain ⟨cs, rfl, vo, vg, hcs, fo, fg⟩ := hR
  subst hcs
  have fo := fo.mv (Mv.toGl (it := it) hLw hD.itw)
  have fg := fg.mv (Mv.toGl (it := it) hLw hD.itw)
  go_wp2_with (refine wl_put rfl _ _ _ rfl pm 8 [.int .i64 a.1, .int .i64 a.2.1, vo, vg] rfl rfl _ _ hm1 (show 12 ≤ 23 by decide) (by kernel_rfl) (one_RReq (G := GL L it) (w := w1) (x := a) ⟨_, _, rfl, fo, fg⟩) ?_; intro w2 hr2 hg2)
  go_end0
  have hm2 : Row w2 pm 40 (mc (set m 6 (freq a)) { s with o := vo, g := vg }) := hr2.out
  have hs2 := hs1.mv hg2.size (Mv.gl hg2 hpL)
  have fo := fo.mv (Mv.gl hg2 hpL)
  have fg := fg.mv (Mv.gl hg2 hpL)
  exact DPost.yes hD hg1 hg2 hS1 HR.out hm2 ⟨fo, fg, hs2.o', hs2.g', hs2.d, hs2.s, hs2.c, hs2.v, hs2.n, hs2.p, hs2.l⟩
set_option maxHeartbeats 1000000 in
theorem rfield_7 (w00 : World) (L it : Nat) (w : World) (r pm : Nat) (bv : Value) (l : List Int) (p : Nat) (m : PMsg) (hD : DS w00 L it w r pm bv l p m) :
    Calls Tryz.prog 37 #[.pointer (some ⟨r, 0, none⟩), .pointer (some ⟨pm, 0, none⟩), .int .i32 79] w (DPost 7 w00 L it w r pm bv l p m) := by
  have hK := rrequest_any L w r bv l p hD.rs
  obtain ⟨s, hm, hs⟩ := hD.mrow
  have hLw := hD.hL
  go_enter Tryz.func37, Tryz.ntmps37
  go_wp2_with fail
  refine hK.mono ?_
  rintro e w1 ⟨hg1, ⟨hn, rfl⟩ | ⟨v, a, p', hrd, rfl, hR, hS1⟩⟩
  · have HN := (show Hid ((cF 7).rd (l.drop p) = none) from (by show Option.map _ (cReq.rd (l.drop p)) = none; rw [hn]; rfl))
    clear hn
    go_wp2_with fail
    exact ⟨rfl, DPost.no hg1 HN.out⟩
  have HR := (show Hid ((cF 7).rd (l.drop p) = some (freq a, l.drop p')) from (by show Option.map _ (cReq.rd (l.drop p)) = _; rw [hrd]; rfl))
  clear hrd
  have hm1 := hm.grown hg1 (fun e => hD.ne (by injection e))
  have hs1 := hs.mv hg1.size (Mv.gl hg1 hD.rL)
  have hpL := hD.pL
  obtain ⟨cs, rfl, vo, vg, hcs, fo, fg⟩ := hR
  subst hcs
  have fo := fo.mv (Mv.toGl (it := it) hLw hD.itw)
  have fg := fg.mv (Mv.toGl (it := it) hLw hD.itw)
  go_wp2_with (refine wl_put rfl _ _ _ rfl pm 12 [.int .i64 a.1, .int .i64 a.2.1, vo, vg] rfl rfl _ _ hm1 (show 16 ≤ 23 by decide) (by kernel_rfl) (one_RReq (G := GL L it) (w := w1) (x := a) ⟨_, _, rfl, fo, fg⟩) ?_; intro w2 hr2 hg2)
  go_end0
  have hm2 : Row w2 pm 40 (mc (set m 7 (freq a)) { s with o' := vo, g' := vg }) := hr2.out
  have hs2 := hs1.mv hg2.size (Mv.gl hg2 hpL)
  have fo := fo.mv (Mv.gl hg2 hpL)
  have fg := fg.mv (Mv.gl hg2 hpL)
  exact DPost.yes hD hg1 hg2 hS1 HR.out hm2 ⟨hs2.o, hs2.g, fo, fg, hs2.d, hs2.s, hs2.c, hs2.v, hs2.n, hs2.p, hs2.l⟩
set_option maxHeartbeats 1000000 in
theorem rfield_8 (w00 : World) (L it : Nat) (w : World) (r pm : Nat) (bv : Value) (l : List Int) (p : Nat) (m : PMsg) (hD : DS w00 L it w r pm bv l p m) :
    Calls Tryz.prog 37 #[.pointer (some ⟨r, 0, none⟩), .pointer (some ⟨pm, 0, none⟩), .int .i32 68] w (DPost 8 w00 L it w r pm bv l p m) := by
  have hK := rtext_any L w r bv l p hD.rs
  obtain ⟨s, hm, hs⟩ := hD.mrow
  have hLw := hD.hL
  go_enter Tryz.func37, Tryz.ntmps37
  go_wp2_with fail
  refine hK.mono ?_
  rintro e w1 ⟨hg1, ⟨hn, rfl⟩ | ⟨v, a, p', hrd, rfl, hR, hS1⟩⟩
  · have HN := (show Hid ((cF 8).rd (l.drop p) = none) from (by show Option.map _ (cT.rd (l.drop p)) = none; rw [hn]; rfl))
    clear hn
    go_wp2_with fail
    exact ⟨rfl, DPost.no hg1 HN.out⟩
  have HR := (show Hid ((cF 8).rd (l.drop p) = some (ftxt a, l.drop p')) from (by show Option.map _ (cT.rd (l.drop p)) = _; rw [hrd]; rfl))
  clear hrd
  have hm1 := hm.grown hg1 (fun e => hD.ne (by injection e))
  have hs1 := hs.mv hg1.size (Mv.gl hg1 hD.rL)
  have hpL := hD.pL
  have fv := hR.mv (Mv.toGl (it := it) hLw hD.itw)
  go_wp2_with (refine wl_set rfl _ _ _ rfl pm 16 _ rfl rfl _ _ hm1 (show 16 < 23 by decide) (by kernel_rfl) fv.one ?_; intro w2 hr2 hg2)
  go_end0
  have hm2 : Row w2 pm 40 (mc (set m 8 (ftxt a)) { s with d := v }) := hr2.out
  have hs2 := hs1.mv hg2.size (Mv.gl hg2 hpL)
  have fv := fv.mv (Mv.gl hg2 hpL)
  exact DPost.yes hD hg1 hg2 hS1 HR.out hm2 ⟨hs2.o, hs2.g, hs2.o', hs2.g', fv, hs2.s, hs2.c, hs2.v, hs2.n, hs2.p, hs2.l⟩
set_option maxHeartbeats 1000000 in
theorem rfield_9 (w00 : World) (L it : Nat) (w : World) (r pm : Nat) (bv : Value) (l : List Int) (p : Nat) (m : PMsg) (hD : DS w00 L it w r pm bv l p m) :
    Calls Tryz.prog 37 #[.pointer (some ⟨r, 0, none⟩), .pointer (some ⟨pm, 0, none⟩), .int .i32 71] w (DPost 9 w00 L it w r pm bv l p m) := by
  have hK := rtext_any L w r bv l p hD.rs
  obtain ⟨s, hm, hs⟩ := hD.mrow
  have hLw := hD.hL
  go_enter Tryz.func37, Tryz.ntmps37
  go_wp2_with fail
  refine hK.mono ?_
  rintro e w1 ⟨hg1, ⟨hn, rfl⟩ | ⟨v, a, p', hrd, rfl, hR, hS1⟩⟩
  · have HN := (show Hid ((cF 9).rd (l.drop p) = none) from (by show Option.map _ (cT.rd (l.drop p)) = none; rw [hn]; rfl))
    clear hn
    go_wp2_with fail
    exact ⟨rfl, DPost.no hg1 HN.out⟩
  have HR := (show Hid ((cF 9).rd (l.drop p) = some (ftxt a, l.drop p')) from (by show Option.map _ (cT.rd (l.drop p)) = _; rw [hrd]; rfl))
  clear hrd
  have hm1 := hm.grown hg1 (fun e => hD.ne (by injection e))
  have hs1 := hs.mv hg1.size (Mv.gl hg1 hD.rL)
  have hpL := hD.pL
  have fv := hR.mv (Mv.toGl (it := it) hLw hD.itw)
  go_wp2_with (refine wl_set rfl _ _ _ rfl pm 17 _ rfl rfl _ _ hm1 (show 17 < 23 by decide) (by kernel_rfl) fv.one ?_; intro w2 hr2 hg2)
  go_end0
  have hm2 : Row w2 pm 40 (mc (set m 9 (ftxt a)) { s with s := v }) := hr2.out
  have hs2 := hs1.mv hg2.size (Mv.gl hg2 hpL)
  have fv := fv.mv (Mv.gl hg2 hpL)
  exact DPost.yes hD hg1 hg2 hS1 HR.out hm2 ⟨hs2.o, hs2.g, hs2.o', hs2.g', hs2.d, fv, hs2.c, hs2.v, hs2.n, hs2.p, hs2.l⟩
set_option maxHeartbeats 1000000 in
theorem rfield_10 (w00 : World) (L it : Nat) (w : World) (r pm : Nat) (bv : Value) (l : List Int) (p : Nat) (m : PMsg) (hD : DS w00 L it w r pm bv l p m) :
    Calls Tryz.prog 37 #[.pointer (some ⟨r, 0, none⟩), .pointer (some ⟨pm, 0, none⟩), .int .i32 69] w (DPost 10 w00 L it w r pm bv l p m) := by
  have hK := rvotes_any L w r bv l p hD.rs
  obtain ⟨s, hm, hs⟩ := hD.mrow
  have hLw := hD.hL
  go_enter Tryz.func37, Tryz.ntmps37
  go_wp2_with fail
  refine hK.mono ?_
  rintro e w1 ⟨hg1, ⟨hn, rfl⟩ | ⟨v, a, p', hrd, rfl, hR, hS1⟩⟩
  · have HN := (show Hid ((cF 10).rd (l.drop p) = none) from (by show Option.map _ ((cL cVote).rd (l.drop p)) = none; rw [hn]; rfl))
    clear hn
    go_wp2_with fail
    exact ⟨rfl, DPost.no hg1 HN.out⟩
  have HR := (show Hid ((cF 10).rd (l.drop p) = some (fvotes a, l.drop p')) from (by show Option.map _ ((cL cVote).rd (l.drop p)) = _; rw [hrd]; rfl))
  clear hrd
  have hm1 := hm.grown hg1 (fun e => hD.ne (by injection e))
  have hs1 := hs.mv hg1.size (Mv.gl hg1 hD.rL)
  have hpL := hD.pL
  have fv := hR.mv mov_vote (Nat.le_refl _) (Mv.toGl (it := it) hLw hD.itw)
  go_wp2_with (refine wl_set rfl _ _ _ rfl pm 18 _ rfl rfl _ _ hm1 (show 18 < 23 by decide) (by kernel_rfl) fv.one ?_; intro w2 hr2 hg2)
  go_end0
  have hm2 : Row w2 pm 40 (mc (set m 10 (fvotes a)) { s with c := v }) := hr2.out
  have hs2 := hs1.mv hg2.size (Mv.gl hg2 hpL)
  have fv := fv.mv mov_vote hg2.size (Mv.gl hg2 hpL)
  exact DPost.yes hD hg1 hg2 hS1 HR.out hm2 ⟨hs2.o, hs2.g, hs2.o', hs2.g', hs2.d, hs2.s, fv, hs2.v, hs2.n, hs2.p, hs2.l⟩
set_option maxHeartbeats 1000000 in
theorem rfield_11 (w00 : World) (L it : Nat) (w : World) (r pm : Nat) (bv : Value) (l : List Int) (p : Nat) (m : PMsg) (hD : DS w00 L it w r pm bv l p m) :
    Calls Tryz.prog 37 #[.pointer (some ⟨r, 0, none⟩), .pointer (some ⟨pm, 0, none⟩), .int .i32 86] w (DPost 11 w00 L it w r pm bv l p m) := by
  have hK := rvotes_any L w r bv l p hD.rs
  obtain ⟨s, hm, hs⟩ := hD.mrow
  have hLw := hD.hL
  go_enter Tryz.func37, Tryz.ntmps37
  go_wp2_with fail
  refine hK.mono ?_
  rintro e w1 ⟨hg1, ⟨hn, rfl⟩ | ⟨v, a, p', hrd, rfl, hR, hS1⟩⟩
  · have HN := (show Hid ((cF 11).rd (l.drop p) = none) from (by show Option.map _ ((cL cVote).rd (l.drop p)) = none; rw [hn]; rfl))
    clear hn
    go_wp2_with fail
    exact ⟨rfl, DPost.no hg1 HN.out⟩
  have HR := (show Hid ((cF 11).rd (l.drop p) = some (fvotes a, l.drop p')) from (by show Option.map _ ((cL cVote).rd (l.drop p)) = _; rw [hrd]; rfl))
  clear hrd
  have hm1 := hm.grown hg1 (fun e => hD.ne (by injection e))
  have hs1 := hs.mv hg1.size (Mv.gl hg1 hD.rL)
  have hpL := hD.pL
  have fv := hR.mv mov_vote (Nat.le_refl _) (Mv.toGl (it := it) hLw hD.itw)
  go_wp2_with (refine wl_set rfl _ _ _ rfl pm 19 _ rfl rfl _ _ hm1 (show 19 < 23 by decide) (by kernel_rfl) fv.one ?_; intro w2 hr2 hg2)
  go_end0
  have hm2 : Row w2 pm 40 (mc (set m 11 (fvotes a)) { s with v := v }) := hr2.out
  have hs2 := hs1.mv hg2.size (Mv.gl hg2 hpL)
  have fv := fv.mv mov_vote hg2.size (Mv.gl hg2 hpL)
  exact DPost.yes hD hg1 hg2 hS1 HR.out hm2 ⟨hs2.o, hs2.g, hs2.o', hs2.g', hs2.d, hs2.s, hs2.c, fv, hs2.n, hs2.p, hs2.l⟩
set_option maxHeartbeats 1000000 in
theorem rfield_12 (w00 : World) (L it : Nat) (w : World) (r pm : Nat) (bv : Value) (l : List Int) (p : Nat) (m : PMsg) (hD : DS w00 L it w r pm bv l p m) :
    Calls Tryz.prog 37 #[.pointer (some ⟨r, 0, none⟩), .pointer (some ⟨pm, 0, none⟩), .int .i32 78] w (DPost 12 w00 L it w r pm bv l p m) := by
  have hK := rints_any L w r bv l p hD.rs
  obtain ⟨s, hm, hs⟩ := hD.mrow
  have hLw := hD.hL
  go_enter Tryz.func37, Tryz.ntmps37
  go_wp2_with fail
  refine hK.mono ?_
  rintro e w1 ⟨hg1, ⟨hn, rfl⟩ | ⟨v, a, p', hrd, rfl, hR, hS1⟩⟩
  · have HN := (show Hid ((cF 12).rd (l.drop p) = none) from (by show Option.map _ ((cL cN).rd (l.drop p)) = none; rw [hn]; rfl))
    clear hn
    go_wp2_with fail
    exact ⟨rfl, DPost.no hg1 HN.out⟩
  have HR := (show Hid ((cF 12).rd (l.drop p) = some (fints a, l.drop p')) from (by show Option.map _ ((cL cN).rd (l.drop p)) = _; rw [hrd]; rfl))
  clear hrd
  have hm1 := hm.grown hg1 (fun e => hD.ne (by injection e))
  have hs1 := hs.mv hg1.size (Mv.gl hg1 hD.rL)
  have hpL := hD.pL
  have fv := hR.mv mov_int (Nat.le_refl _) (Mv.toGl (it := it) hLw hD.itw)
  go_wp2_with (refine wl_set rfl _ _ _ rfl pm 20 _ rfl rfl _ _ hm1 (show 20 < 23 by decide) (by kernel_rfl) fv.one ?_; intro w2 hr2 hg2)
  go_end0
  have hm2 : Row w2 pm 40 (mc (set m 12 (fints a)) { s with n := v }) := hr2.out
  have hs2 := hs1.mv hg2.size (Mv.gl hg2 hpL)
  have fv := fv.mv mov_int hg2.size (Mv.gl hg2 hpL)
  exact DPost.yes hD hg1 hg2 hS1 HR.out hm2 ⟨hs2.o, hs2.g, hs2.o', hs2.g', hs2.d, hs2.s, hs2.c, hs2.v, fv, hs2.p, hs2.l⟩
set_option maxHeartbeats 1000000 in
theorem rfield_13 (w00 : World) (L it : Nat) (w : World) (r pm : Nat) (bv : Value) (l : List Int) (p : Nat) (m : PMsg) (hD : DS w00 L it w r pm bv l p m) :
    Calls Tryz.prog 37 #[.pointer (some ⟨r, 0, none⟩), .pointer (some ⟨pm, 0, none⟩), .int .i32 80] w (DPost 13 w00 L it w r pm bv l p m) := by
  have hK := rreqs_any L w r bv l p hD.rs
  obtain ⟨s, hm, hs⟩ := hD.mrow
  have hLw := hD.hL
  go_enter Tryz.func37, Tryz.ntmps37
  go_wp2_with fail
  refine hK.mono ?_
  rintro e w1 ⟨hg1, ⟨hn, rfl⟩ | ⟨v, a, p', hrd, rfl, hR, hS1⟩⟩
  · have HN := (show Hid ((cF 13).rd (l.drop p) = none) from (by show Option.map _ ((cL cReq).rd (l.drop p)) = none; rw [hn]; rfl))
    clear hn
    go_wp2_with fail
    exact ⟨rfl, DPost.no hg1 HN.out⟩
  have HR := (show Hid ((cF 13).rd (l.drop p) = some (freqs a, l.drop p')) from (by show Option.map _ ((cL cReq).rd (l.drop p)) = _; rw [hrd]; rfl))
  clear hrd
  have hm1 := hm.grown hg1 (fun e => hD.ne (by injection e))
  have hs1 := hs.mv hg1.size (Mv.gl hg1 hD.rL)
  have hpL := hD.pL
  have fv := hR.mv mov_req (Nat.le_refl _) (Mv.toGl (it := it) hLw hD.itw)
  go_wp2_with (refine wl_set rfl _ _ _ rfl pm 21 _ rfl rfl _ _ hm1 (show 21 < 23 by decide) (by kernel_rfl) fv.one ?_; intro w2 hr2 hg2)
  go_end0
  have hm2 : Row w2 pm 40 (mc (set m 13 (freqs a)) { s with p := v }) := hr2.out
  have hs2 := hs1.mv hg2.size (Mv.gl hg2 hpL)
  have fv := fv.mv mov_req hg2.size (Mv.gl hg2 hpL)
  exact DPost.yes hD hg1 hg2 hS1 HR.out hm2 ⟨hs2.o, hs2.g, hs2.o', hs2.g', hs2.d, hs2.s, hs2.c, hs2.v, hs2.n, fv, hs2.l⟩
set_option maxHeartbeats 1000000 in
theorem rfield_14 (w00 : World) (L it : Nat) (w : World) (r pm : Nat) (bv : Value) (l : List Int) (p : Nat) (m : PMsg) (hD : DS w00 L it w r pm bv l p m) :
    Calls Tryz.prog 37 #[.pointer (some ⟨r, 0, none⟩), .pointer (some ⟨pm, 0, none⟩), .int .i32 76] w (DPost 14 w00 L it w r pm bv l p m) := by
  have hK := rreps_any L w r bv l p hD.rs
  obtain ⟨s, hm, hs⟩ := hD.mrow
  have hLw := hD.hL
  go_enter Tryz.func37, Tryz.ntmps37
  go_wp2_with fail
  refine hK.mono ?_
  rintro e w1 ⟨hg1, ⟨hn, rfl⟩ | ⟨v, a, p', hrd, rfl, hR, hS1⟩⟩
  · have HN := (show Hid ((cF 14).rd (l.drop p) = none) from (by show Option.map _ ((cL cRep).rd (l.drop p)) = none; rw [hn]; rfl))
    clear hn
    go_wp2_with fail
    exact ⟨rfl, DPost.no hg1 HN.out⟩
  have HR := (show Hid ((cF 14).rd (l.drop p) = some (freps a, l.drop p')) from (by show Option.map _ ((cL cRep).rd (l.drop p)) = _; rw [hrd]; rfl))
  clear hrd
  have hm1 := hm.grown hg1 (fun e => hD.ne (by injection e))
  have hs1 := hs.mv hg1.size (Mv.gl hg1 hD.rL)
  have hpL := hD.pL
  have fv := hR.mv mov_rep (Nat.le_refl _) (Mv.toGl (it := it) hLw hD.itw)
  go_wp2_with (refine wl_set rfl _ _ _ rfl pm 22 _ rfl rfl _ _ hm1 (show 22 < 23 by decide) (by kernel_rfl) fv.one ?_; intro w2 hr2 hg2)
  go_end0
  have hm2 : Row w2 pm 40 (mc (set m 14 (freps a)) { s with l := v }) := hr2.out
  have hs2 := hs1.mv hg2.size (Mv.gl hg2 hpL)
  have fv := fv.mv mov_rep hg2.size (Mv.gl hg2 hpL)
  exact DPost.yes hD hg1 hg2 hS1 HR.out hm2 ⟨hs2.o, hs2.g, hs2.o', hs2.g', hs2.d, hs2.s, hs2.c, hs2.v, hs2.n, hs2.p, fv⟩
/-- field. -/
theorem rfield_any (w00 : World) (L it : Nat) (w : World) (r pm : Nat) (bv : Value) (l : List Int) (p : Nat) (m : PMsg) (hD : DS w00 L it w r pm bv l p m) {i : Nat} (h : i < 15) :
    Calls Tryz.prog 37 #[.pointer (some ⟨r, 0, none⟩), .pointer (some ⟨pm, 0, none⟩), .int .i32 (lt i)] w (DPost i w00 L it w r pm bv l p m) := by
  rcases lt15 h with rfl | rfl | rfl | rfl | rfl | rfl | rfl | rfl | rfl | rfl | rfl | rfl | rfl | rfl | rfl
  · exact rfield_0 w00 L it w r pm bv l p m hD
  · exact rfield_1 w00 L it w r pm bv l p m hD
  · exact rfield_2 w00 L it w r pm bv l p m hD
  · exact rfield_3 w00 L it w r pm bv l p m hD
  · exact rfield_4 w00 L it w r pm bv l p m hD
  · exact rfield_5 w00 L it w r pm bv l p m hD
  · exact rfield_6 w00 L it w r pm bv l p m hD
  · exact rfield_7 w00 L it w r pm bv l p m hD
  · exact rfield_8 w00 L it w r pm bv l p m hD
  · exact rfield_9 w00 L it w r pm bv l p m hD
  · exact rfield_10 w00 L it w r pm bv l p m hD
  · exact rfield_11 w00 L it w r pm bv l p m hD
  · exact rfield_12 w00 L it w r pm bv l p m hD
  · exact rfield_13 w00 L it w r pm bv l p m hD
  · exact rfield_14 w00 L it w r pm bv l p m hD
end Go.Proofs.YtgjepofinpmcpaaGreatDoor
end

section
set_option linter.unusedVariables false
namespace Go.Proofs.YtgjepofinpmcpaaGreatDoor
open Go.RowKit Oct

theorem rdFs_app : ∀ (fs gs : List Nat) (m : PMsg) (l : List Int), rdFs (fs ++ gs) m l = (rdFs fs m l).bind fun x => rdFs gs x.1 x.2
  | [], gs, m, l => rfl
  | i :: fs, gs, m, l => by
    simp only [List.cons_append, rdFs]
    cases (cF i).rd l with
    | none => rfl
    | some x => simp only [Option.bind_some]; exact rdFs_app fs gs _ _
theorem rdFs_take {fs : List Nat} {q i : Nat} (hi : fs[q]? = some i) {m m1 : PMsg} {l l1 : List Int} (h : rdFs (fs.take q) m l = some (m1, l1)) {v : FV} {l2 : List Int} (hv : (cF i).rd l1 = some (v, l2)) : rdFs (fs.take (q + 1)) m l = some (set m1 i v, l2) := by
  rw [take_snoc' fs q i hi, rdFs_app, h]
  simp [rdFs, hv]
theorem rdFs_gone {fs : List Nat} {q i : Nat} (hi : fs[q]? = some i) {m m1 : PMsg} {l l1 : List Int} (h : rdFs (fs.take q) m l = some (m1, l1)) (hv : (cF i).rd l1 = none) : rdFs fs m l = none := by
  have e : fs = fs.take (q + 1) ++ fs.drop (q + 1) := (List.take_append_drop _ _).symm
  rw [e, rdFs_app, take_snoc' fs q i hi, rdFs_app, h]
  simp [rdFs, hv]

set_option maxHeartbeats 400000 in
/-- end. -/
theorem rend_any (L : Nat) (w : World) (r : Nat) (bv : Value) (l : List Int) (p : Nat) (hS : RS L w r bv l p) :
    Calls Tryz.prog 38 #[.pointer (some ⟨r, 0, none⟩)] w fun e w' => w.grownBy w' none ∧ ((p = l.length ∧ e = .returned (.tuple #[])) ∨ (p ≠ l.length ∧ e = .panicked [{ v := .iface 24 (.int .i64 51), recovered := false }])) := by
  have c0 := hS.row.cell (j := 0) rfl
  have c1 := hS.row.cell (j := 1) rfl
  obtain ⟨ao, cap, rfl, hc⟩ := hS.rd.form
  have hp := hS.hp
  by_cases h : p = l.length
  · have hq : ((p : Int) != (l.length : Int)) = false := by simp [h]
    go_enter Tryz.func38, Tryz.ntmps38
    go_wp2_with fail
    go_quiet (fail)
    go_wp2_with fail
    go_end0
    exact ⟨⟨rfl, rfl, rfl, Nat.le_refl _, fun _ _ _ => rfl⟩, .inl ⟨h, rfl⟩⟩
  · have hq : ((p : Int) != (l.length : Int)) = true := by simp; omega
    go_enter Tryz.func38, Tryz.ntmps38
    go_wp2_with fail
    go_quiet (fail)
    go_wp2_with fail
    exact ⟨rfl, ⟨rfl, rfl, rfl, Nat.le_refl _, fun _ _ _ => rfl⟩, .inr ⟨h, rfl⟩⟩

/-- What Decode hands back. -/
def DecPost (l : List Int) (w : World) (e : Ending) (w' : World) : Prop :=
  ∃ s, e = .returned (.tuple #[.agg (mc (decM l) s).toArray, .int .i64 (decE l)]) ∧ SOk (From w.heap.size) w' (decM l) s ∧ Below w.heap.size w w'
theorem dec_results (w : World) (tmps : Array Value) (pm pe : Nat) (vm : List Value) (hvl : vm.length = 23) (ve : Value) (hm : Row w pm 40 vm) (he : Row w pe 24 [ve])
    (h2 : tmps.getD 2 undef = .pointer (some ⟨pm, 0, none⟩)) (h3 : tmps.getD 3 undef = .pointer (some ⟨pe, 0, none⟩)) : (results Tryz.f19 tmps).run Tryz.prog w = .ok (.tuple #[.agg vm.toArray, ve]) w := by
  have c1 := he.cell (j := 0) rfl
  have hi : (Tryz.prog.info? 40).map (·.size) = some vm.toArray.size := by rw [List.size_toArray, hvl]; kernel_rfl
  have hld := run_loadVar_row (P := Tryz.prog) w pm 40 40 vm.toArray (0, 0) _ hm Tryz.underlying40 rfl hi
  simp only [Array.getD_eq_getD_getElem?] at h2 h3
  have hle : (loadVar 24 ⟨pe, 0, none⟩).run Tryz.prog w = .ok ve w := by simp [go_sem, c1]
  simp [results, Tryz.results19, asAddr, h2, h3, hld, hle]
theorem decE_bad {l : List Int} (hl : ¬ 1048576 < l.length) (h : rdM l = none) : decE l = 51 ∧ decM l = zeroM := by
  unfold decE decM
  rw [if_neg hl, if_neg hl, h]
  exact ⟨rfl, rfl⟩
theorem decE_many {l : List Int} (hl : 1048576 < l.length) : decE l = 53 ∧ decM l = zeroM := by
  unfold decE decM
  rw [if_pos hl, if_pos hl]
  exact ⟨rfl, rfl⟩
theorem decE_ok {l : List Int} (hl : ¬ 1048576 < l.length) {m : PMsg} (h : rdM l = some m) : decE l = 0 ∧ decM l = m := by
  unfold decE decM
  rw [if_neg hl, if_neg hl, h]
  exact ⟨rfl, rfl⟩
theorem dec_gave (w w1 : World) (l : List Int) (pm pe : Nat) (m : PMsg) (s : SV) (ve : Value) (hm : Row w1 pm 40 (mc m s)) (he : Row w1 pe 24 [ve]) (hne : pm ≠ pe) (hB : Below w.heap.size w w1) (hpm : w.heap.size ≤ pm) (hpe : w.heap.size ≤ pe)
    (hl : ¬ 1048576 < l.length) (hr : rdM l = none) (tmps : Array Value) (h2 : tmps.getD 2 undef = .pointer (some ⟨pm, 0, none⟩)) (h3 : tmps.getD 3 undef = .pointer (some ⟨pe, 0, none⟩)) :
    bodyPostD Tryz.prog Tryz.f19 (DecPost l w) (.panic [{ v := .iface 24 (.int .i64 51), recovered := false }])
      { tmps := tmps, defers := [{ target := .fn (.func 34) #[.pointer (some ⟨pm, 0, none⟩), .pointer (some ⟨pe, 0, none⟩)], args := #[] }] } w1 := by
  refine leaves_cons (f := 34) (args := #[.pointer (some ⟨pm, 0, none⟩), .pointer (some ⟨pe, 0, none⟩)]) (by simp) (by simp [go_sem]) ?_
  refine (decCatch pm pe 51 m s ve w1 hm he hne).mono ?_
  rintro e u' w2 ⟨rfl, rfl, hr1, hr2, two⟩
  obtain ⟨e1, e2⟩ := decE_bad hl hr
  exact ⟨_, dec_results w2 tmps pm pe _ rfl _ hr1 hr2 h2 h3, sv0, by rw [e1, e2], by rw [e2]; exact SOk.zero _ _ 0, Two.below hB two (Nat.le_refl _) hpm hpe⟩
theorem dec_back (w w1 : World) (l : List Int) (pm pe : Nat) (m : PMsg) (s : SV) (hm : Row w1 pm 40 (mc m s)) (he : Row w1 pe 24 [.int .i64 0]) (hB : Below w.heap.size w w1)
    (hl : ¬ 1048576 < l.length) (hr : rdM l = some m) (hs : SOk (From w.heap.size) w1 m s) (tmps : Array Value) (h2 : tmps.getD 2 undef = .pointer (some ⟨pm, 0, none⟩)) (h3 : tmps.getD 3 undef = .pointer (some ⟨pe, 0, none⟩)) :
    bodyPostD Tryz.prog Tryz.f19 (DecPost l w) .ret
      { tmps := tmps, defers := [{ target := .fn (.func 34) #[.pointer (some ⟨pm, 0, none⟩), .pointer (some ⟨pe, 0, none⟩)], args := #[] }] } w1 := by
  refine leaves_cons (f := 34) (args := #[.pointer (some ⟨pm, 0, none⟩), .pointer (some ⟨pe, 0, none⟩)]) (by simp) (by simp [go_sem]) ?_
  refine (decIdle pm pe w1).mono ?_
  rintro e u' w2 ⟨rfl, rfl, rfl⟩
  obtain ⟨e1, e2⟩ := decE_ok hl hr
  exact ⟨_, dec_results _ tmps pm pe _ rfl _ hm he h2 h3, s, by rw [e1, e2], by rw [e2]; exact hs, hB⟩

theorem DS.below {w00 : World} {L it : Nat} {w w' : World} {r pm : Nat} {bv : Value} {l : List Int} {p : Nat} {m : PMsg} (h : DS w00 L it w r pm bv l p m) (hb : Below w.heap.size w w') : DS w00 L it w' r pm bv l p m := by
  obtain ⟨s, hm, hs⟩ := h.mrow
  exact ⟨below_and h.bel (Nat.le_refl _) hb, h.bytes, h.rlo, h.plo, h.rL, h.pL, h.ne, Nat.le_trans h.hL hb.size, h.row.below hb, ⟨s, hm.below hb, hs.mv hb.size (Mv.belowG hb)⟩, h.hp, h.hl, Nat.lt_of_lt_of_le h.itw hb.size⟩
/-- The iterator is laid. -/
theorem DS.turn {w00 : World} {L it it' : Nat} {w : World} {r pm : Nat} {bv : Value} {l : List Int} {p : Nat} {m : PMsg} (h : DS w00 L it w r pm bv l p m) (s : ByteArray) (hit : it' = w.heap.size) : DS w00 L it' (w.iter s 0) r pm bv l p m := by
  subst hit
  have hb : Below w.heap.size w (w.iter s 0) := (Below.refl _ w).alloc (Nat.le_refl _) _
  obtain ⟨sv, hm, hs⟩ := h.mrow
  refine ⟨below_and h.bel (Nat.le_refl _) hb, h.bytes, h.rlo, h.plo, h.rL, h.pL, h.ne, Nat.le_trans h.hL hb.size, h.row.below hb, ⟨sv, hm.below hb, hs.mv hb.size fun k hk hlt => ⟨hb.block k hlt, hk.1, by omega⟩⟩, h.hp, h.hl, ?_⟩
  simp [World.iter]
theorem DS.iter {w00 : World} {L it : Nat} {w : World} {r pm : Nat} {bv : Value} {l : List Int} {p : Nat} {m : PMsg} (h : DS w00 L it w r pm bv l p m) {s : ByteArray} {q : Nat} (hk : w.heap[it]? = some (.stringIter s q)) (h0 : w00.heap.size ≤ it) (q' : Nat) : DS w00 L it (w.iterAt it s q') r pm bv l p m := by
  have hne : ∀ k t xs, Row w k t xs → k ≠ it := fun k t xs h e => by unfold Row at h; rw [e, hk] at h; cases h
  obtain ⟨sv, hm, hs⟩ := h.mrow
  exact ⟨Lib.below_iterAt h.bel h0 s q', h.bytes, h.rlo, h.plo, h.rL, h.pL, h.ne, by rw [Lib.iterAt_size]; exact h.hL, iter_low h.row (hne _ _ _ h.row), ⟨sv, iter_low hm (hne _ _ _ hm), hs.mv (by rw [Lib.iterAt_size]; exact Nat.le_refl _) fun k hk _ => ⟨Lib.iterAt_other w it k s q' hk.2, hk⟩⟩, h.hp, h.hl, by rw [Lib.iterAt_size]; exact h.itw⟩
theorem two_iter {a b : Nat} {w w' : World} {k : Nat} {s : ByteArray} {p : Nat} (h : Two a b w w') (hk : w.heap[k]? = some (.stringIter s p)) (ha : k ≠ a) (hb : k ≠ b) : w'.heap[k]? = some (.stringIter s p) := by
  rw [h.block k (Array.getElem?_eq_some_iff.1 hk).1 ha hb]
  exact hk
theorem Row.two {a b k : Nat} {w w' : World} {t : TypeId} {xs : List Value} (h : Row w k t xs) (ht : Two a b w w') (ha : k ≠ a) (hb : k ≠ b) : Row w' k t xs := (ht.block k h.lt ha hb).trans h

theorem rdM_kind {l : List Int} (h : cN.rd l = none) : rdM l = none := by simp [rdM, rdG, h]
theorem rdM_fl {l l1 : List Int} {k : Int} (h : cN.rd l = some (k, l1)) (hf : fl k = []) : rdM l = none := by simp [rdM, rdG, h, hf]
theorem rdM_fs {l l1 : List Int} {k : Int} (h : cN.rd l = some (k, l1)) (hr : rdFs (fl k) { zeroM with kind := k } l1 = none) : rdM l = none := by
  simp only [rdM, rdG, h, Option.bind_some]
  split
  · rfl
  · rw [hr]; rfl
theorem rdM_trail {l l1 l2 : List Int} {k : Int} {m : PMsg} (h : cN.rd l = some (k, l1)) (hr : rdFs (fl k) { zeroM with kind := k } l1 = some (m, l2)) (h2 : l2 ≠ []) : rdM l = none := by
  simp only [rdM, rdG, h, Option.bind_some]
  split
  · rfl
  · rw [hr]; simp [h2]
theorem rdM_whole {l l1 : List Int} {k : Int} {m : PMsg} (h : cN.rd l = some (k, l1)) (hf : fl k ≠ []) (hr : rdFs (fl k) { zeroM with kind := k } l1 = some (m, [])) : rdM l = some m := by
  simp only [rdM, rdG, h, Option.bind_some]
  rw [if_neg (by simpa using hf), hr]
  rfl
end Go.Proofs.YtgjepofinpmcpaaGreatDoor
end

section
set_option linter.unusedVariables false
set_option linter.unusedSimpArgs false
namespace Go.Proofs.YtgjepofinpmcpaaGreatDoor
open Go.RowKit Oct

theorem dec_req (x y : PReq) : decide (x = y) = (x.1 == y.1 && x.2.1 == y.2.1 && decide (x.2.2.1 = y.2.2.1) && decide (x.2.2.2 = y.2.2.2)) := by
  rw [Bool.eq_iff_iff]
  simp only [decide_eq_true_eq, Bool.and_eq_true, beq_iff_eq, Prod.ext_iff, and_assoc]

set_option maxHeartbeats 2000000 in
/-- SameReq. -/
theorem sameReq_any (w : World) (r1 r2 : List Value) (x y : PReq) (h1 : RReq Any w r1 x) (h2 : RReq Any w r2 y) :
    Calls Tryz.prog 17 #[.agg r1.toArray, .agg r2.toArray] w fun e w' => e = .returned (.bool (decide (x = y))) ∧ Below w.heap.size w w' := by
  obtain ⟨o1, g1, rfl, ho1, hg1⟩ := h1
  obtain ⟨o2, g2, rfl, ho2, hg2⟩ := h2
  obtain ⟨w2, hw2⟩ : ∃ w2, w2 = (w.alloc (.cells #[.int .i64 x.1, .int .i64 x.2.1, o1, g1] 34)).alloc (.cells #[.int .i64 y.1, .int .i64 y.2.1, o2, g2] 34) := ⟨_, rfl⟩
  have ra : Row w2 w.heap.size 34 [.int .i64 x.1, .int .i64 x.2.1, o1, g1] := by rw [hw2]; exact row_alloc (Row.new w 34 _) _
  have rb : Row w2 (w.heap.size + 1) 34 [.int .i64 y.1, .int .i64 y.2.1, o2, g2] := by
    rw [hw2]
    have := Row.new (w.alloc (.cells #[.int .i64 x.1, .int .i64 x.2.1, o1, g1] 34)) 34 [.int .i64 y.1, .int .i64 y.2.1, o2, g2]
    simpa using this
  have hB : Below w.heap.size w w2 := by rw [hw2]; exact ((Below.refl _ w).alloc (Nat.le_refl _) _).alloc (by simp) _
  have a0 := ra.cell (j := 0) rfl; have a1 := ra.cell (j := 1) rfl; have a2 := ra.cell (j := 2) rfl; have a3 := ra.cell (j := 3) rfl
  have b0 := rb.cell (j := 0) rfl; have b1 := rb.cell (j := 1) rfl; have b2 := rb.cell (j := 2) rfl; have b3 := rb.cell (j := 3) rfl
  have sO := same_any w2 o1 o2 _ _ (ho1.mv (Mv.below hB)).1 (ho2.mv (Mv.below hB)).1
  have sG := same_any w2 g1 g2 _ _ (hg1.mv (Mv.below hB)).1 (hg2.mv (Mv.below hB)).1
  rw [dec_req]
  clear ra rb ho1 hg1 ho2 hg2
  generalize x.1 = xa at *; generalize x.2.1 = xb at *; generalize y.1 = ya at *; generalize y.2.1 = yb at *
  generalize decide (x.2.2.1 = y.2.2.1) = dO at *
  generalize decide (x.2.2.2 = y.2.2.2) = dG at *
  go_enter Tryz.func17, Tryz.ntmps17
  go_upto_region 1 with fail
  rw [← hw2]
  clear hw2
  cases ha : (xa == ya)
  · go_wp2_with fail
    go_ret
    exact ⟨by rw [ha]; rfl, hB⟩
  cases hb : (xb == yb)
  · go_wp2_with fail
    go_ret
    exact ⟨by rw [ha, hb]; rfl, hB⟩
  cases dO with
  | false =>
    go_wp2_with (go_at_call 11; refine sO.mono ?_; rintro e w3 ⟨rfl, rfl⟩)
    go_ret
    exact ⟨by rw [ha, hb]; rfl, hB⟩
  | true =>
    go_wp2_with fail
    refine sO.mono ?_
    rintro e w3 ⟨rfl, rfl⟩
    go_wp2_with fail
    refine sG.mono ?_
    rintro e w3 ⟨rfl, rfl⟩
    go_wp2_with fail
    go_ret
    exact ⟨by rw [ha, hb]; cases dG <;> rfl, hB⟩

end Go.Proofs.YtgjepofinpmcpaaGreatDoor
end

section
set_option linter.unusedVariables false
namespace Go.Proofs.YtgjepofinpmcpaaGreatDoor
open Go.RowKit Oct

set_option maxRecDepth 10000 in
set_option maxHeartbeats 2000000 in
/-- msg.Body. -/
theorem body_any (w : World) (r : List Value) (x : PReq) (h : RReq Any w r x) (hz : tot [x.2.2.1, x.2.2.2] ≤ 10000000) :
    Calls Tryz.prog 21 #[.agg r.toArray] w fun e w' => ∃ v', e = .returned v' ∧ Own w' 5 v' (bc (body x)) ∧ Fr w.heap.size v' ∧ Below w.heap.size w w' := by
  obtain ⟨vo, vg, rfl, ho, hg⟩ := h
  obtain ⟨oo, oc, rfl, hoc⟩ := ho.form
  obtain ⟨go, gc, rfl, hgc⟩ := hg.form
  generalize hvo : Value.slice oo x.2.2.1.length oc = vo at *
  generalize hvg : Value.slice go x.2.2.2.length gc = vg at *
  obtain ⟨w2, hw2⟩ : ∃ w2, w2 = (w.alloc (.cells #[.int .i64 x.1, .int .i64 x.2.1, vo, vg] 34)) := ⟨_, rfl⟩
  have ra : Row w2 w.heap.size 34 [.int .i64 x.1, .int .i64 x.2.1, vo, vg] := by rw [hw2]; exact Row.new w 34 _
  have hB : Below w.heap.size w w2 := by rw [hw2]; exact ((Below.refl _ w).alloc (Nat.le_refl _) _)
  have a0 := ra.cell (j := 0) rfl
  go_enter Tryz.func21, Tryz.ntmps21
  go_upto_region 1 with fail
  rw [← hw2]
  clear hw2
  have a1 := ra.cell (j := 1) rfl
  have hdw : Below w2.heap.size w2 w2.drew := ⟨rfl, rfl, rfl, Nat.le_refl _, fun _ _ => rfl⟩
  have SK := (show Hid (∀ u, Below w2.heap.size w2 u → u.cell? ⟨w.heap.size, 0, none⟩ = some (.int .i64 x.1) ∧ u.cell? ⟨w.heap.size, 1, none⟩ = some (.int .i64 x.2.1)) from fun u hu => ⟨(hu.cell (p := ⟨w.heap.size, 0, none⟩) ra.lt).trans a0, (hu.cell (p := ⟨w.heap.size, 1, none⟩) ra.lt).trans a1⟩)
  have hA := appendWord_any w2.drew (.slice none 0 0) [] x.1 (Own.nil _ _) (by simp)
  rw [List.nil_append] at hA
  have HA := (show Hid (∀ _ : Unit, _) from fun _ => hA)
  clear hA
  go_wp2_with fail
  go_region_held3 (fun u => u.cell? ⟨w.heap.size, 0, none⟩ = some (.int .i64 x.1) ∧ u.cell? ⟨w.heap.size, 1, none⟩ = some (.int .i64 x.2.1))
    (first | exact SK.out _ (by assumption) | go_keep)
    (first
      | (go_at_call 42; refine (appendWord_any w3 v3 (le8 (u64 x.1)) x.2.1 happ3.own (by rw [le8_len]; decide)).mono ?_; rintro e w4 ⟨v4, rfl, happ4⟩; have hb4 : Below w2.heap.size w2 w4 := hb3.trans (happ4.below (happ3.fr (Fr.nil _) (Nat.le_refl _)) hb3.size))
      | (go_at_call 42; refine (HA.out ()).mono ?_; rintro e w3 ⟨v3, rfl, happ3⟩; have hb3 : Below w2.heap.size w2 w3 := hdw.trans (happ3.below (Fr.nil _) (Nat.le_refl _))))
  have ra4 := ra.below hb4
  have c2 := ra4.cell (j := 2) rfl
  have c3 := ra4.cell (j := 3) rfl
  have hB4 := below_and hB (Nat.le_refl _) hb4
  have ho4 := (ho.mv (Mv.below hB4)).1
  have hg4 := (hg.mv (Mv.below hB4)).1
  have hf3 := happ3.fr (Fr.nil w2.drew.heap.size) (Nat.le_refl _)
  have hf4 := happ4.fr hf3 hb3.size
  have hown4 := happ4.own
  have hl : Rdl (w4.alloc (.cells #[vo, vg] 23)) (.slice (some ⟨w4.heap.size, 0, none⟩) 2 2) [x.2.2.1, x.2.2.2] :=
    ⟨[vo, vg], Own.rdv (e := 23) (World.ownsRow_lit (base := 0) (size := 1) w4 #[vo, vg] 2 (Nat.zero_le _) (by decide) rfl), ho4.below (below_alloc _ _), hg4.below (below_alloc _ _), trivial⟩
  have hP := pack_any _ _ _ hl hz
  clear ra ra4 a0 a1 hdw SK HA happ3 happ4 hf3 hl ho4 hg4
  subst hvo hvg
  go_wp2_with fail
  refine hP.mono ?_
  rintro e w5 ⟨v5, rfl, hown5, hfr5, hb5⟩
  have hb45 : Below w4.heap.size w4 w5 := (below_alloc w4 _).trans (hb5.mono (by simp))
  have hB5 := below_and hB4 (Nat.le_refl _) hb45
  have hown4' := hown4.below hb45
  have hrd5 := hown5.rdv
  have hf4w : Fr w.heap.size v4 := hf4.mono hB.size
  have hpl := packL_len [x.2.2.1, x.2.2.2]
  have h16 : (le8 (u64 x.1) ++ le8 (u64 x.2.1)).length = 16 := rfl
  have HL := (show Hid ((le8 (u64 x.1) ++ le8 (u64 x.2.1)).length + (packL [x.2.2.1, x.2.2.2]).length ≤ 140737488355328) by show _ ≤ _; omega)
  clear hP hown4 hown5 hfr5 hb5 hb45 hf4 hb3 hpl h16 c2 c3 hb4
  go_wp2_with (at_builtin; refine app_bytes rfl _ _ rfl v4 _ rfl hown4' v5 _ rfl hrd5 HL.out ?_; intro v6 w6 happ6)
  go_ret
  exact ⟨_, rfl, happ6.own, happ6.fr hf4w hB5.size, hB5.trans (happ6.below hf4w hB5.size)⟩
end Go.Proofs.YtgjepofinpmcpaaGreatDoor
end
