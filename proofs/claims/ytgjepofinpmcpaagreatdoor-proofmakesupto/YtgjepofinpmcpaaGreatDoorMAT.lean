/- The walks over the document's comparisons: requests, votes. -/
import Derived.Test.YtgjepofinpmcpaaGreatDoorMAR
import Derived.Test.YtgjepofinpmcpaaGreatDoorMAG
import Derived.Test.YtgjepofinpmcpaaGreatDoorMAO
import Derived.Test.YtgjepofinpmcpaaGreatDoorMAH
import Derived.Deep.QuietTactic
import Derived.BigQuiet
import Derived.Test.YtgjepofinpmcpaaGreatDoorMAF
import Derived.Test.YtgjepofinpmcpaaGreatDoorMAM
import Derived.Test.YtgjepofinpmcpaaGreatDoorMAQ
import Derived.Test.YtgjepofinpmcpaaGreatDoorMAE
set_option linter.unusedSimpArgs false
set_option linter.unusedVariables false
namespace Go.Proofs.YtgjepofinpmcpaaGreatDoor
section
open Go.RowKit Oct
def GL (L it : Nat) : Nat → Prop := fun k => L ≤ k ∧ k ≠ it
theorem Mv.gl {L it : Nat} {w w' : World} {b : Nat} (hg : w.grownBy w' (some b)) (hb : b < L) : Mv (GL L it) (GL L it) w w' := fun k hk hlt => ⟨hg.block k hlt (fun e => by injection e with e; have := hk.1; omega), hk⟩
theorem Mv.toGl {L it B : Nat} {w : World} (hL : L ≤ B) (hi : it < B) : Mv (zB0 B) (GL L it) w w := fun k hk _ => ⟨rfl, by unfold zB0 at hk; unfold GL; omega⟩
structure DS (w00 : World) (L it : Nat) (w : World) (r pm : Nat) (bv : Value) (l : List Int) (p : Nat) (m : PMsg) : Prop where
  bel : Below w00.heap.size w00 w
  bytes : RT Any w00 bv l
  rlo : w00.heap.size ≤ r
  plo : w00.heap.size ≤ pm
  rL : r < L
  pL : pm < L
  ne : r ≠ pm
  hL : L ≤ w.heap.size
  row : Row w r 75 [bv, .int .i64 (p : Int)]
  mrow : ∃ s, Row w pm 40 (mc m s) ∧ SOk (GL L it) w m s
  hp : p ≤ l.length
  hl : l.length ≤ 1048576
  itw : it < w.heap.size
theorem DS.rs {w00 : World} {L it : Nat} {w : World} {r pm : Nat} {bv : Value} {l : List Int} {p : Nat} {m : PMsg} (h : DS w00 L it w r pm bv l p m) : RS L w r bv l p :=
  ⟨h.row, h.bytes.mv fun k _ hk => ⟨h.bel.block k hk, by have := h.rlo; have := h.rL; omega⟩, h.hp, h.hL, h.rL, h.hl⟩
def zBe (i : Nat) (w00 : World) (L it : Nat) (w : World) (r pm : Nat) (bv : Value) (l : List Int) (p : Nat) (m : PMsg) (e : Ending) (w' : World) : Prop :=
  Two r pm w w' ∧ (((cF i).rd (l.drop p) = none ∧ e = .panicked [{ v := .iface 24 (.int .i64 51), recovered := false }] ∧ w.grownBy w' (some r)) ∨
    ∃ v p', (cF i).rd (l.drop p) = some (v, l.drop p') ∧ e = .returned (.tuple #[]) ∧ DS w00 L it w' r pm bv l p' (set m i v))
theorem zBe.no {i : Nat} {w00 : World} {L it : Nat} {w : World} {r pm : Nat} {bv : Value} {l : List Int} {p : Nat} {m : PMsg} {w' : World} (hg : w.grownBy w' (some r)) (hn : (cF i).rd (l.drop p) = none) :
    zBe i w00 L it w r pm bv l p m (.panicked [{ v := .iface 24 (.int .i64 51), recovered := false }]) w' := ⟨Two.of hg (zBi _ _), .inl ⟨hn, rfl, hg⟩⟩
theorem zBe.yes {i : Nat} {w00 : World} {L it : Nat} {w : World} {r pm : Nat} {bv : Value} {l : List Int} {p : Nat} {m : PMsg} {w1 w2 : World} {v : FV} {p' : Nat} (hD : DS w00 L it w r pm bv l p m) (hg1 : w.grownBy w1 (some r)) (hg2 : w1.grownBy w2 (some pm))
    (hS : RS L w1 r bv l p') (hrd : (cF i).rd (l.drop p) = some (v, l.drop p')) {s : SV} (hm : Row w2 pm 40 (mc (set m i v) s)) (hs : SOk (GL L it) w2 (set m i v) s) : zBe i w00 L it w r pm bv l p m (.returned (.tuple #[])) w2 := by
  refine ⟨Two.of hg1 hg2, .inr ⟨v, p', hrd, rfl, ?_⟩⟩
  have hb1 := hD.bel.trans (zA5 hg1 hD.bel.size (fun k hk => by cases hk; exact hD.rlo))
  exact ⟨hb1.trans (zA5 hg2 hb1.size (fun k hk => by cases hk; exact hD.plo)), hD.bytes, hD.rlo, hD.plo, hD.rL, hD.pL, hD.ne, Nat.le_trans hD.hL (Nat.le_trans hg1.size hg2.size), hS.row.grown hg2 (fun e => hD.ne (by injection e with e; exact e.symm)), ⟨s, hm, hs⟩, hS.hp, hD.hl, Nat.lt_of_lt_of_le hD.itw (Nat.le_trans hg1.size hg2.size)⟩
set_option maxHeartbeats 1000000 in
theorem rfield_0 (w00 : World) (L it : Nat) (w : World) (r pm : Nat) (bv : Value) (l : List Int) (p : Nat) (m : PMsg) (hD : DS w00 L it w r pm bv l p m) :
    Calls Tryz.prog 37 #[.pointer (some ⟨r, 0, none⟩), .pointer (some ⟨pm, 0, none⟩), .int .i32 66] w (zBe 0 w00 L it w r pm bv l p m) := by
  have hK := zFo L w r bv l p hD.rs
  obtain ⟨s, hm, hs⟩ := hD.mrow
  have hLw := hD.hL
  go_enter Tryz.func37, Tryz.ntmps37
  go_wp2_with fail
  refine hK.mono ?_
  rintro e w1 ⟨hg1, ⟨hn, rfl⟩ | ⟨v, a, p', hrd, rfl, hR, hS1⟩⟩
  · have HN := (show Hid ((cF 0).rd (l.drop p) = none) from (by show Option.map _ (zI1.rd (l.drop p)) = none; rw [hn]; rfl))
    clear hn
    go_wp2_with fail
    exact ⟨rfl, zBe.no hg1 HN.out⟩
  have HR := (show Hid ((cF 0).rd (l.drop p) = some (fbal a, l.drop p')) from (by show Option.map _ (zI1.rd (l.drop p)) = _; rw [hrd]; rfl))
  clear hrd
  have hm1 := hm.grown hg1 (fun e => hD.ne (by injection e))
  have hs1 := hs.mv hg1.size (Mv.gl hg1 hD.rL)
  have hpL := hD.pL
  obtain ⟨cs, rfl, hcs⟩ := hR
  have hcs : cs = [.int .i64 a.1, .int .i64 a.2] := hcs
  subst hcs
  go_wp2_with (refine zCd rfl _ _ _ rfl pm 1 [.int .i64 a.1, .int .i64 a.2] rfl rfl _ _ hm1 (show 3 ≤ 23 by decide) (by kernel_rfl) zNk ?_; intro w2 hr2 hg2)
  go_end0
  have hm2 : Row w2 pm 40 (mc (set m 0 (fbal a)) s) := hr2.out
  have hs2 := hs1.mv hg2.size (Mv.gl hg2 hpL)
  exact zBe.yes hD hg1 hg2 hS1 HR.out hm2 ⟨hs2.o, hs2.g, hs2.o', hs2.g', hs2.d, hs2.s, hs2.c, hs2.v, hs2.n, hs2.p, hs2.l⟩
set_option maxHeartbeats 1000000 in
theorem rfield_1 (w00 : World) (L it : Nat) (w : World) (r pm : Nat) (bv : Value) (l : List Int) (p : Nat) (m : PMsg) (hD : DS w00 L it w r pm bv l p m) :
    Calls Tryz.prog 37 #[.pointer (some ⟨r, 0, none⟩), .pointer (some ⟨pm, 0, none⟩), .int .i32 83] w (zBe 1 w00 L it w r pm bv l p m) := by
  have hK := zB9 L w r bv l p hD.rs
  obtain ⟨s, hm, hs⟩ := hD.mrow
  have hLw := hD.hL
  go_enter Tryz.func37, Tryz.ntmps37
  go_wp2_with fail
  refine hK.mono ?_
  rintro e w1 ⟨hg1, ⟨hn, rfl⟩ | ⟨v, a, p', hrd, rfl, hR, hS1⟩⟩
  · have HN := (show Hid ((cF 1).rd (l.drop p) = none) from (by show Option.map _ (cN.rd (l.drop p)) = none; rw [hn]; rfl))
    clear hn
    go_wp2_with fail
    exact ⟨rfl, zBe.no hg1 HN.out⟩
  have HR := (show Hid ((cF 1).rd (l.drop p) = some (zIz a, l.drop p')) from (by show Option.map _ (cN.rd (l.drop p)) = _; rw [hrd]; rfl))
  clear hrd
  have hm1 := hm.grown hg1 (fun e => hD.ne (by injection e))
  have hs1 := hs.mv hg1.size (Mv.gl hg1 hD.rL)
  have hpL := hD.pL
  have hR : v = .int .i64 a := hR
  subst hR
  go_wp2_with (refine zAb rfl _ _ _ rfl pm 3 _ rfl rfl _ _ hm1 (show 3 < 23 by decide) (by kernel_rfl) rfl ?_; intro w2 hr2 hg2)
  go_end0
  have hm2 : Row w2 pm 40 (mc (set m 1 (zIz a)) s) := hr2.out
  have hs2 := hs1.mv hg2.size (Mv.gl hg2 hpL)
  exact zBe.yes hD hg1 hg2 hS1 HR.out hm2 ⟨hs2.o, hs2.g, hs2.o', hs2.g', hs2.d, hs2.s, hs2.c, hs2.v, hs2.n, hs2.p, hs2.l⟩
set_option maxHeartbeats 1000000 in
theorem rfield_2 (w00 : World) (L it : Nat) (w : World) (r pm : Nat) (bv : Value) (l : List Int) (p : Nat) (m : PMsg) (hD : DS w00 L it w r pm bv l p m) :
    Calls Tryz.prog 37 #[.pointer (some ⟨r, 0, none⟩), .pointer (some ⟨pm, 0, none⟩), .int .i32 70] w (zBe 2 w00 L it w r pm bv l p m) := by
  have hK := zB9 L w r bv l p hD.rs
  obtain ⟨s, hm, hs⟩ := hD.mrow
  have hLw := hD.hL
  go_enter Tryz.func37, Tryz.ntmps37
  go_wp2_with fail
  refine hK.mono ?_
  rintro e w1 ⟨hg1, ⟨hn, rfl⟩ | ⟨v, a, p', hrd, rfl, hR, hS1⟩⟩
  · have HN := (show Hid ((cF 2).rd (l.drop p) = none) from (by show Option.map _ (cN.rd (l.drop p)) = none; rw [hn]; rfl))
    clear hn
    go_wp2_with fail
    exact ⟨rfl, zBe.no hg1 HN.out⟩
  have HR := (show Hid ((cF 2).rd (l.drop p) = some (zIz a, l.drop p')) from (by show Option.map _ (cN.rd (l.drop p)) = _; rw [hrd]; rfl))
  clear hrd
  have hm1 := hm.grown hg1 (fun e => hD.ne (by injection e))
  have hs1 := hs.mv hg1.size (Mv.gl hg1 hD.rL)
  have hpL := hD.pL
  have hR : v = .int .i64 a := hR
  subst hR
  go_wp2_with (refine zAb rfl _ _ _ rfl pm 4 _ rfl rfl _ _ hm1 (show 4 < 23 by decide) (by kernel_rfl) rfl ?_; intro w2 hr2 hg2)
  go_end0
  have hm2 : Row w2 pm 40 (mc (set m 2 (zIz a)) s) := hr2.out
  have hs2 := hs1.mv hg2.size (Mv.gl hg2 hpL)
  exact zBe.yes hD hg1 hg2 hS1 HR.out hm2 ⟨hs2.o, hs2.g, hs2.o', hs2.g', hs2.d, hs2.s, hs2.c, hs2.v, hs2.n, hs2.p, hs2.l⟩
set_option maxHeartbeats 1000000 in
theorem rfield_3 (w00 : World) (L it : Nat) (w : World) (r pm : Nat) (bv : Value) (l : List Int) (p : Nat) (m : PMsg) (hD : DS w00 L it w r pm bv l p m) :
    Calls Tryz.prog 37 #[.pointer (some ⟨r, 0, none⟩), .pointer (some ⟨pm, 0, none⟩), .int .i32 84] w (zBe 3 w00 L it w r pm bv l p m) := by
  have hK := zB9 L w r bv l p hD.rs
  obtain ⟨s, hm, hs⟩ := hD.mrow
  have hLw := hD.hL
  go_enter Tryz.func37, Tryz.ntmps37
  go_wp2_with fail
  refine hK.mono ?_
  rintro e w1 ⟨hg1, ⟨hn, rfl⟩ | ⟨v, a, p', hrd, rfl, hR, hS1⟩⟩
  · have HN := (show Hid ((cF 3).rd (l.drop p) = none) from (by show Option.map _ (cN.rd (l.drop p)) = none; rw [hn]; rfl))
    clear hn
    go_wp2_with fail
    exact ⟨rfl, zBe.no hg1 HN.out⟩
  have HR := (show Hid ((cF 3).rd (l.drop p) = some (zIz a, l.drop p')) from (by show Option.map _ (cN.rd (l.drop p)) = _; rw [hrd]; rfl))
  clear hrd
  have hm1 := hm.grown hg1 (fun e => hD.ne (by injection e))
  have hs1 := hs.mv hg1.size (Mv.gl hg1 hD.rL)
  have hpL := hD.pL
  have hR : v = .int .i64 a := hR
  subst hR
  go_wp2_with (refine zAb rfl _ _ _ rfl pm 5 _ rfl rfl _ _ hm1 (show 5 < 23 by decide) (by kernel_rfl) rfl ?_; intro w2 hr2 hg2)
  go_end0
  have hm2 : Row w2 pm 40 (mc (set m 3 (zIz a)) s) := hr2.out
  have hs2 := hs1.mv hg2.size (Mv.gl hg2 hpL)
  exact zBe.yes hD hg1 hg2 hS1 HR.out hm2 ⟨hs2.o, hs2.g, hs2.o', hs2.g', hs2.d, hs2.s, hs2.c, hs2.v, hs2.n, hs2.p, hs2.l⟩
set_option maxHeartbeats 1000000 in
theorem rfield_4 (w00 : World) (L it : Nat) (w : World) (r pm : Nat) (bv : Value) (l : List Int) (p : Nat) (m : PMsg) (hD : DS w00 L it w r pm bv l p m) :
    Calls Tryz.prog 37 #[.pointer (some ⟨r, 0, none⟩), .pointer (some ⟨pm, 0, none⟩), .int .i32 73] w (zBe 4 w00 L it w r pm bv l p m) := by
  have hK := zB9 L w r bv l p hD.rs
  obtain ⟨s, hm, hs⟩ := hD.mrow
  have hLw := hD.hL
  go_enter Tryz.func37, Tryz.ntmps37
  go_wp2_with fail
  refine hK.mono ?_
  rintro e w1 ⟨hg1, ⟨hn, rfl⟩ | ⟨v, a, p', hrd, rfl, hR, hS1⟩⟩
  · have HN := (show Hid ((cF 4).rd (l.drop p) = none) from (by show Option.map _ (cN.rd (l.drop p)) = none; rw [hn]; rfl))
    clear hn
    go_wp2_with fail
    exact ⟨rfl, zBe.no hg1 HN.out⟩
  have HR := (show Hid ((cF 4).rd (l.drop p) = some (zIz a, l.drop p')) from (by show Option.map _ (cN.rd (l.drop p)) = _; rw [hrd]; rfl))
  clear hrd
  have hm1 := hm.grown hg1 (fun e => hD.ne (by injection e))
  have hs1 := hs.mv hg1.size (Mv.gl hg1 hD.rL)
  have hpL := hD.pL
  have hR : v = .int .i64 a := hR
  subst hR
  go_wp2_with (refine zAb rfl _ _ _ rfl pm 6 _ rfl rfl _ _ hm1 (show 6 < 23 by decide) (by kernel_rfl) rfl ?_; intro w2 hr2 hg2)
  go_end0
  have hm2 : Row w2 pm 40 (mc (set m 4 (zIz a)) s) := hr2.out
  have hs2 := hs1.mv hg2.size (Mv.gl hg2 hpL)
  exact zBe.yes hD hg1 hg2 hS1 HR.out hm2 ⟨hs2.o, hs2.g, hs2.o', hs2.g', hs2.d, hs2.s, hs2.c, hs2.v, hs2.n, hs2.p, hs2.l⟩
set_option maxHeartbeats 1000000 in
theorem rfield_5 (w00 : World) (L it : Nat) (w : World) (r pm : Nat) (bv : Value) (l : List Int) (p : Nat) (m : PMsg) (hD : DS w00 L it w r pm bv l p m) :
    Calls Tryz.prog 37 #[.pointer (some ⟨r, 0, none⟩), .pointer (some ⟨pm, 0, none⟩), .int .i32 67] w (zBe 5 w00 L it w r pm bv l p m) := by
  have hK := zB9 L w r bv l p hD.rs
  obtain ⟨s, hm, hs⟩ := hD.mrow
  have hLw := hD.hL
  go_enter Tryz.func37, Tryz.ntmps37
  go_wp2_with fail
  refine hK.mono ?_
  rintro e w1 ⟨hg1, ⟨hn, rfl⟩ | ⟨v, a, p', hrd, rfl, hR, hS1⟩⟩
  · have HN := (show Hid ((cF 5).rd (l.drop p) = none) from (by show Option.map _ (cN.rd (l.drop p)) = none; rw [hn]; rfl))
    clear hn
    go_wp2_with fail
    exact ⟨rfl, zBe.no hg1 HN.out⟩
  have HR := (show Hid ((cF 5).rd (l.drop p) = some (zIz a, l.drop p')) from (by show Option.map _ (cN.rd (l.drop p)) = _; rw [hrd]; rfl))
  clear hrd
  have hm1 := hm.grown hg1 (fun e => hD.ne (by injection e))
  have hs1 := hs.mv hg1.size (Mv.gl hg1 hD.rL)
  have hpL := hD.pL
  have hR : v = .int .i64 a := hR
  subst hR
  go_wp2_with (refine zAb rfl _ _ _ rfl pm 7 _ rfl rfl _ _ hm1 (show 7 < 23 by decide) (by kernel_rfl) rfl ?_; intro w2 hr2 hg2)
  go_end0
  have hm2 : Row w2 pm 40 (mc (set m 5 (zIz a)) s) := hr2.out
  have hs2 := hs1.mv hg2.size (Mv.gl hg2 hpL)
  exact zBe.yes hD hg1 hg2 hS1 HR.out hm2 ⟨hs2.o, hs2.g, hs2.o', hs2.g', hs2.d, hs2.s, hs2.c, hs2.v, hs2.n, hs2.p, hs2.l⟩
set_option maxHeartbeats 1000000 in
theorem rfield_6 (w00 : World) (L it : Nat) (w : World) (r pm : Nat) (bv : Value) (l : List Int) (p : Nat) (m : PMsg) (hD : DS w00 L it w r pm bv l p m) :
    Calls Tryz.prog 37 #[.pointer (some ⟨r, 0, none⟩), .pointer (some ⟨pm, 0, none⟩), .int .i32 82] w (zBe 6 w00 L it w r pm bv l p m) := by
  have hK := zDd L w r bv l p hD.rs
  obtain ⟨s, hm, hs⟩ := hD.mrow
  have hLw := hD.hL
  go_enter Tryz.func37, Tryz.ntmps37
  go_wp2_with fail
  refine hK.mono ?_
  rintro e w1 ⟨hg1, ⟨hn, rfl⟩ | ⟨v, a, p', hrd, rfl, hR, hS1⟩⟩
  · have HN := (show Hid ((cF 6).rd (l.drop p) = none) from (by show Option.map _ (zBc.rd (l.drop p)) = none; rw [hn]; rfl))
    clear hn
    go_wp2_with fail
    exact ⟨rfl, zBe.no hg1 HN.out⟩
  have HR := (show Hid ((cF 6).rd (l.drop p) = some (zLi a, l.drop p')) from (by show Option.map _ (zBc.rd (l.drop p)) = _; rw [hrd]; rfl))
  clear hrd
  have hm1 := hm.grown hg1 (fun e => hD.ne (by injection e))
  have hs1 := hs.mv hg1.size (Mv.gl hg1 hD.rL)
  have hpL := hD.pL
  obtain ⟨cs, rfl, vo, vg, hcs, fo, fg⟩ := hR
  subst hcs
  have fo := fo.mv (Mv.toGl (it := it) hLw hD.itw)
  have fg := fg.mv (Mv.toGl (it := it) hLw hD.itw)
  go_wp2_with (refine zCd rfl _ _ _ rfl pm 8 [.int .i64 a.1, .int .i64 a.2.1, vo, vg] rfl rfl _ _ hm1 (show 12 ≤ 23 by decide) (by kernel_rfl) (zBq (G := GL L it) (w := w1) (x := a) ⟨_, _, rfl, fo, fg⟩) ?_; intro w2 hr2 hg2)
  go_end0
  have hm2 : Row w2 pm 40 (mc (set m 6 (zLi a)) { s with o := vo, g := vg }) := hr2.out
  have hs2 := hs1.mv hg2.size (Mv.gl hg2 hpL)
  have fo := fo.mv (Mv.gl hg2 hpL)
  have fg := fg.mv (Mv.gl hg2 hpL)
  exact zBe.yes hD hg1 hg2 hS1 HR.out hm2 ⟨fo, fg, hs2.o', hs2.g', hs2.d, hs2.s, hs2.c, hs2.v, hs2.n, hs2.p, hs2.l⟩
set_option maxHeartbeats 1000000 in
theorem rfield_7 (w00 : World) (L it : Nat) (w : World) (r pm : Nat) (bv : Value) (l : List Int) (p : Nat) (m : PMsg) (hD : DS w00 L it w r pm bv l p m) :
    Calls Tryz.prog 37 #[.pointer (some ⟨r, 0, none⟩), .pointer (some ⟨pm, 0, none⟩), .int .i32 79] w (zBe 7 w00 L it w r pm bv l p m) := by
  have hK := zDd L w r bv l p hD.rs
  obtain ⟨s, hm, hs⟩ := hD.mrow
  have hLw := hD.hL
  go_enter Tryz.func37, Tryz.ntmps37
  go_wp2_with fail
  refine hK.mono ?_
  rintro e w1 ⟨hg1, ⟨hn, rfl⟩ | ⟨v, a, p', hrd, rfl, hR, hS1⟩⟩
  · have HN := (show Hid ((cF 7).rd (l.drop p) = none) from (by show Option.map _ (zBc.rd (l.drop p)) = none; rw [hn]; rfl))
    clear hn
    go_wp2_with fail
    exact ⟨rfl, zBe.no hg1 HN.out⟩
  have HR := (show Hid ((cF 7).rd (l.drop p) = some (zLi a, l.drop p')) from (by show Option.map _ (zBc.rd (l.drop p)) = _; rw [hrd]; rfl))
  clear hrd
  have hm1 := hm.grown hg1 (fun e => hD.ne (by injection e))
  have hs1 := hs.mv hg1.size (Mv.gl hg1 hD.rL)
  have hpL := hD.pL
  obtain ⟨cs, rfl, vo, vg, hcs, fo, fg⟩ := hR
  subst hcs
  have fo := fo.mv (Mv.toGl (it := it) hLw hD.itw)
  have fg := fg.mv (Mv.toGl (it := it) hLw hD.itw)
  go_wp2_with (refine zCd rfl _ _ _ rfl pm 12 [.int .i64 a.1, .int .i64 a.2.1, vo, vg] rfl rfl _ _ hm1 (show 16 ≤ 23 by decide) (by kernel_rfl) (zBq (G := GL L it) (w := w1) (x := a) ⟨_, _, rfl, fo, fg⟩) ?_; intro w2 hr2 hg2)
  go_end0
  have hm2 : Row w2 pm 40 (mc (set m 7 (zLi a)) { s with o' := vo, g' := vg }) := hr2.out
  have hs2 := hs1.mv hg2.size (Mv.gl hg2 hpL)
  have fo := fo.mv (Mv.gl hg2 hpL)
  have fg := fg.mv (Mv.gl hg2 hpL)
  exact zBe.yes hD hg1 hg2 hS1 HR.out hm2 ⟨hs2.o, hs2.g, fo, fg, hs2.d, hs2.s, hs2.c, hs2.v, hs2.n, hs2.p, hs2.l⟩
set_option maxHeartbeats 1000000 in
theorem rfield_8 (w00 : World) (L it : Nat) (w : World) (r pm : Nat) (bv : Value) (l : List Int) (p : Nat) (m : PMsg) (hD : DS w00 L it w r pm bv l p m) :
    Calls Tryz.prog 37 #[.pointer (some ⟨r, 0, none⟩), .pointer (some ⟨pm, 0, none⟩), .int .i32 68] w (zBe 8 w00 L it w r pm bv l p m) := by
  have hK := zD0 L w r bv l p hD.rs
  obtain ⟨s, hm, hs⟩ := hD.mrow
  have hLw := hD.hL
  go_enter Tryz.func37, Tryz.ntmps37
  go_wp2_with fail
  refine hK.mono ?_
  rintro e w1 ⟨hg1, ⟨hn, rfl⟩ | ⟨v, a, p', hrd, rfl, hR, hS1⟩⟩
  · have HN := (show Hid ((cF 8).rd (l.drop p) = none) from (by show Option.map _ (cT.rd (l.drop p)) = none; rw [hn]; rfl))
    clear hn
    go_wp2_with fail
    exact ⟨rfl, zBe.no hg1 HN.out⟩
  have HR := (show Hid ((cF 8).rd (l.drop p) = some (zOv a, l.drop p')) from (by show Option.map _ (cT.rd (l.drop p)) = _; rw [hrd]; rfl))
  clear hrd
  have hm1 := hm.grown hg1 (fun e => hD.ne (by injection e))
  have hs1 := hs.mv hg1.size (Mv.gl hg1 hD.rL)
  have hpL := hD.pL
  have fv := hR.mv (Mv.toGl (it := it) hLw hD.itw)
  go_wp2_with (refine zAb rfl _ _ _ rfl pm 16 _ rfl rfl _ _ hm1 (show 16 < 23 by decide) (by kernel_rfl) fv.one ?_; intro w2 hr2 hg2)
  go_end0
  have hm2 : Row w2 pm 40 (mc (set m 8 (zOv a)) { s with d := v }) := hr2.out
  have hs2 := hs1.mv hg2.size (Mv.gl hg2 hpL)
  have fv := fv.mv (Mv.gl hg2 hpL)
  exact zBe.yes hD hg1 hg2 hS1 HR.out hm2 ⟨hs2.o, hs2.g, hs2.o', hs2.g', fv, hs2.s, hs2.c, hs2.v, hs2.n, hs2.p, hs2.l⟩
set_option maxHeartbeats 1000000 in
theorem rfield_9 (w00 : World) (L it : Nat) (w : World) (r pm : Nat) (bv : Value) (l : List Int) (p : Nat) (m : PMsg) (hD : DS w00 L it w r pm bv l p m) :
    Calls Tryz.prog 37 #[.pointer (some ⟨r, 0, none⟩), .pointer (some ⟨pm, 0, none⟩), .int .i32 71] w (zBe 9 w00 L it w r pm bv l p m) := by
  have hK := zD0 L w r bv l p hD.rs
  obtain ⟨s, hm, hs⟩ := hD.mrow
  have hLw := hD.hL
  go_enter Tryz.func37, Tryz.ntmps37
  go_wp2_with fail
  refine hK.mono ?_
  rintro e w1 ⟨hg1, ⟨hn, rfl⟩ | ⟨v, a, p', hrd, rfl, hR, hS1⟩⟩
  · have HN := (show Hid ((cF 9).rd (l.drop p) = none) from (by show Option.map _ (cT.rd (l.drop p)) = none; rw [hn]; rfl))
    clear hn
    go_wp2_with fail
    exact ⟨rfl, zBe.no hg1 HN.out⟩
  have HR := (show Hid ((cF 9).rd (l.drop p) = some (zOv a, l.drop p')) from (by show Option.map _ (cT.rd (l.drop p)) = _; rw [hrd]; rfl))
  clear hrd
  have hm1 := hm.grown hg1 (fun e => hD.ne (by injection e))
  have hs1 := hs.mv hg1.size (Mv.gl hg1 hD.rL)
  have hpL := hD.pL
  have fv := hR.mv (Mv.toGl (it := it) hLw hD.itw)
  go_wp2_with (refine zAb rfl _ _ _ rfl pm 17 _ rfl rfl _ _ hm1 (show 17 < 23 by decide) (by kernel_rfl) fv.one ?_; intro w2 hr2 hg2)
  go_end0
  have hm2 : Row w2 pm 40 (mc (set m 9 (zOv a)) { s with s := v }) := hr2.out
  have hs2 := hs1.mv hg2.size (Mv.gl hg2 hpL)
  have fv := fv.mv (Mv.gl hg2 hpL)
  exact zBe.yes hD hg1 hg2 hS1 HR.out hm2 ⟨hs2.o, hs2.g, hs2.o', hs2.g', hs2.d, fv, hs2.c, hs2.v, hs2.n, hs2.p, hs2.l⟩
set_option maxHeartbeats 1000000 in
theorem zU5 (w00 : World) (L it : Nat) (w : World) (r pm : Nat) (bv : Value) (l : List Int) (p : Nat) (m : PMsg) (hD : DS w00 L it w r pm bv l p m) :
    Calls Tryz.prog 37 #[.pointer (some ⟨r, 0, none⟩), .pointer (some ⟨pm, 0, none⟩), .int .i32 69] w (zBe 10 w00 L it w r pm bv l p m) := by
  have hK := zEt L w r bv l p hD.rs
  obtain ⟨s, hm, hs⟩ := hD.mrow
  have hLw := hD.hL
  go_enter Tryz.func37, Tryz.ntmps37
  go_wp2_with fail
  refine hK.mono ?_
  rintro e w1 ⟨hg1, ⟨hn, rfl⟩ | ⟨v, a, p', hrd, rfl, hR, hS1⟩⟩
  · have HN := (show Hid ((cF 10).rd (l.drop p) = none) from (by show Option.map _ ((cL zAi).rd (l.drop p)) = none; rw [hn]; rfl))
    clear hn
    go_wp2_with fail
    exact ⟨rfl, zBe.no hg1 HN.out⟩
  have HR := (show Hid ((cF 10).rd (l.drop p) = some (zFc a, l.drop p')) from (by show Option.map _ ((cL zAi).rd (l.drop p)) = _; rw [hrd]; rfl))
  clear hrd
  have hm1 := hm.grown hg1 (fun e => hD.ne (by injection e))
  have hs1 := hs.mv hg1.size (Mv.gl hg1 hD.rL)
  have hpL := hD.pL
  have fv := hR.mv zA9 zN (Mv.toGl (it := it) hLw hD.itw)
  go_wp2_with (refine zAb rfl _ _ _ rfl pm 18 _ rfl rfl _ _ hm1 (show 18 < 23 by decide) (by kernel_rfl) fv.one ?_; intro w2 hr2 hg2)
  go_end0
  have hm2 : Row w2 pm 40 (mc (set m 10 (zFc a)) { s with c := v }) := hr2.out
  have hs2 := hs1.mv hg2.size (Mv.gl hg2 hpL)
  have fv := fv.mv zA9 hg2.size (Mv.gl hg2 hpL)
  exact zBe.yes hD hg1 hg2 hS1 HR.out hm2 ⟨hs2.o, hs2.g, hs2.o', hs2.g', hs2.d, hs2.s, fv, hs2.v, hs2.n, hs2.p, hs2.l⟩
set_option maxHeartbeats 1000000 in
theorem zUs (w00 : World) (L it : Nat) (w : World) (r pm : Nat) (bv : Value) (l : List Int) (p : Nat) (m : PMsg) (hD : DS w00 L it w r pm bv l p m) :
    Calls Tryz.prog 37 #[.pointer (some ⟨r, 0, none⟩), .pointer (some ⟨pm, 0, none⟩), .int .i32 86] w (zBe 11 w00 L it w r pm bv l p m) := by
  have hK := zEt L w r bv l p hD.rs
  obtain ⟨s, hm, hs⟩ := hD.mrow
  have hLw := hD.hL
  go_enter Tryz.func37, Tryz.ntmps37
  go_wp2_with fail
  refine hK.mono ?_
  rintro e w1 ⟨hg1, ⟨hn, rfl⟩ | ⟨v, a, p', hrd, rfl, hR, hS1⟩⟩
  · have HN := (show Hid ((cF 11).rd (l.drop p) = none) from (by show Option.map _ ((cL zAi).rd (l.drop p)) = none; rw [hn]; rfl))
    clear hn
    go_wp2_with fail
    exact ⟨rfl, zBe.no hg1 HN.out⟩
  have HR := (show Hid ((cF 11).rd (l.drop p) = some (zFc a, l.drop p')) from (by show Option.map _ ((cL zAi).rd (l.drop p)) = _; rw [hrd]; rfl))
  clear hrd
  have hm1 := hm.grown hg1 (fun e => hD.ne (by injection e))
  have hs1 := hs.mv hg1.size (Mv.gl hg1 hD.rL)
  have hpL := hD.pL
  have fv := hR.mv zA9 zN (Mv.toGl (it := it) hLw hD.itw)
  go_wp2_with (refine zAb rfl _ _ _ rfl pm 19 _ rfl rfl _ _ hm1 (show 19 < 23 by decide) (by kernel_rfl) fv.one ?_; intro w2 hr2 hg2)
  go_end0
  have hm2 : Row w2 pm 40 (mc (set m 11 (zFc a)) { s with v := v }) := hr2.out
  have hs2 := hs1.mv hg2.size (Mv.gl hg2 hpL)
  have fv := fv.mv zA9 hg2.size (Mv.gl hg2 hpL)
  exact zBe.yes hD hg1 hg2 hS1 HR.out hm2 ⟨hs2.o, hs2.g, hs2.o', hs2.g', hs2.d, hs2.s, hs2.c, fv, hs2.n, hs2.p, hs2.l⟩
set_option maxHeartbeats 1000000 in
theorem zU6 (w00 : World) (L it : Nat) (w : World) (r pm : Nat) (bv : Value) (l : List Int) (p : Nat) (m : PMsg) (hD : DS w00 L it w r pm bv l p m) :
    Calls Tryz.prog 37 #[.pointer (some ⟨r, 0, none⟩), .pointer (some ⟨pm, 0, none⟩), .int .i32 78] w (zBe 12 w00 L it w r pm bv l p m) := by
  have hK := zSw L w r bv l p hD.rs
  obtain ⟨s, hm, hs⟩ := hD.mrow
  have hLw := hD.hL
  go_enter Tryz.func37, Tryz.ntmps37
  go_wp2_with fail
  refine hK.mono ?_
  rintro e w1 ⟨hg1, ⟨hn, rfl⟩ | ⟨v, a, p', hrd, rfl, hR, hS1⟩⟩
  · have HN := (show Hid ((cF 12).rd (l.drop p) = none) from (by show Option.map _ ((cL cN).rd (l.drop p)) = none; rw [hn]; rfl))
    clear hn
    go_wp2_with fail
    exact ⟨rfl, zBe.no hg1 HN.out⟩
  have HR := (show Hid ((cF 12).rd (l.drop p) = some (zRc a, l.drop p')) from (by show Option.map _ ((cL cN).rd (l.drop p)) = _; rw [hrd]; rfl))
  clear hrd
  have hm1 := hm.grown hg1 (fun e => hD.ne (by injection e))
  have hs1 := hs.mv hg1.size (Mv.gl hg1 hD.rL)
  have hpL := hD.pL
  have fv := hR.mv zAl zN (Mv.toGl (it := it) hLw hD.itw)
  go_wp2_with (refine zAb rfl _ _ _ rfl pm 20 _ rfl rfl _ _ hm1 (show 20 < 23 by decide) (by kernel_rfl) fv.one ?_; intro w2 hr2 hg2)
  go_end0
  have hm2 : Row w2 pm 40 (mc (set m 12 (zRc a)) { s with n := v }) := hr2.out
  have hs2 := hs1.mv hg2.size (Mv.gl hg2 hpL)
  have fv := fv.mv zAl hg2.size (Mv.gl hg2 hpL)
  exact zBe.yes hD hg1 hg2 hS1 HR.out hm2 ⟨hs2.o, hs2.g, hs2.o', hs2.g', hs2.d, hs2.s, hs2.c, hs2.v, fv, hs2.p, hs2.l⟩
set_option maxHeartbeats 1000000 in
theorem zT2 (w00 : World) (L it : Nat) (w : World) (r pm : Nat) (bv : Value) (l : List Int) (p : Nat) (m : PMsg) (hD : DS w00 L it w r pm bv l p m) :
    Calls Tryz.prog 37 #[.pointer (some ⟨r, 0, none⟩), .pointer (some ⟨pm, 0, none⟩), .int .i32 80] w (zBe 13 w00 L it w r pm bv l p m) := by
  have hK := zUw L w r bv l p hD.rs
  obtain ⟨s, hm, hs⟩ := hD.mrow
  have hLw := hD.hL
  go_enter Tryz.func37, Tryz.ntmps37
  go_wp2_with fail
  refine hK.mono ?_
  rintro e w1 ⟨hg1, ⟨hn, rfl⟩ | ⟨v, a, p', hrd, rfl, hR, hS1⟩⟩
  · have HN := (show Hid ((cF 13).rd (l.drop p) = none) from (by show Option.map _ ((cL zBc).rd (l.drop p)) = none; rw [hn]; rfl))
    clear hn
    go_wp2_with fail
    exact ⟨rfl, zBe.no hg1 HN.out⟩
  have HR := (show Hid ((cF 13).rd (l.drop p) = some (zQf a, l.drop p')) from (by show Option.map _ ((cL zBc).rd (l.drop p)) = _; rw [hrd]; rfl))
  clear hrd
  have hm1 := hm.grown hg1 (fun e => hD.ne (by injection e))
  have hs1 := hs.mv hg1.size (Mv.gl hg1 hD.rL)
  have hpL := hD.pL
  have fv := hR.mv zAj zN (Mv.toGl (it := it) hLw hD.itw)
  go_wp2_with (refine zAb rfl _ _ _ rfl pm 21 _ rfl rfl _ _ hm1 (show 21 < 23 by decide) (by kernel_rfl) fv.one ?_; intro w2 hr2 hg2)
  go_end0
  have hm2 : Row w2 pm 40 (mc (set m 13 (zQf a)) { s with p := v }) := hr2.out
  have hs2 := hs1.mv hg2.size (Mv.gl hg2 hpL)
  have fv := fv.mv zAj hg2.size (Mv.gl hg2 hpL)
  exact zBe.yes hD hg1 hg2 hS1 HR.out hm2 ⟨hs2.o, hs2.g, hs2.o', hs2.g', hs2.d, hs2.s, hs2.c, hs2.v, hs2.n, fv, hs2.l⟩
set_option maxHeartbeats 1000000 in
theorem zTc (w00 : World) (L it : Nat) (w : World) (r pm : Nat) (bv : Value) (l : List Int) (p : Nat) (m : PMsg) (hD : DS w00 L it w r pm bv l p m) :
    Calls Tryz.prog 37 #[.pointer (some ⟨r, 0, none⟩), .pointer (some ⟨pm, 0, none⟩), .int .i32 76] w (zBe 14 w00 L it w r pm bv l p m) := by
  have hK := zU3 L w r bv l p hD.rs
  obtain ⟨s, hm, hs⟩ := hD.mrow
  have hLw := hD.hL
  go_enter Tryz.func37, Tryz.ntmps37
  go_wp2_with fail
  refine hK.mono ?_
  rintro e w1 ⟨hg1, ⟨hn, rfl⟩ | ⟨v, a, p', hrd, rfl, hR, hS1⟩⟩
  · have HN := (show Hid ((cF 14).rd (l.drop p) = none) from (by show Option.map _ ((cL zBr).rd (l.drop p)) = none; rw [hn]; rfl))
    clear hn
    go_wp2_with fail
    exact ⟨rfl, zBe.no hg1 HN.out⟩
  have HR := (show Hid ((cF 14).rd (l.drop p) = some (zQ8 a, l.drop p')) from (by show Option.map _ ((cL zBr).rd (l.drop p)) = _; rw [hrd]; rfl))
  clear hrd
  have hm1 := hm.grown hg1 (fun e => hD.ne (by injection e))
  have hs1 := hs.mv hg1.size (Mv.gl hg1 hD.rL)
  have hpL := hD.pL
  have fv := hR.mv zAm zN (Mv.toGl (it := it) hLw hD.itw)
  go_wp2_with (refine zAb rfl _ _ _ rfl pm 22 _ rfl rfl _ _ hm1 (show 22 < 23 by decide) (by kernel_rfl) fv.one ?_; intro w2 hr2 hg2)
  go_end0
  have hm2 : Row w2 pm 40 (mc (set m 14 (zQ8 a)) { s with l := v }) := hr2.out
  have hs2 := hs1.mv hg2.size (Mv.gl hg2 hpL)
  have fv := fv.mv zAm hg2.size (Mv.gl hg2 hpL)
  exact zBe.yes hD hg1 hg2 hS1 HR.out hm2 ⟨hs2.o, hs2.g, hs2.o', hs2.g', hs2.d, hs2.s, hs2.c, hs2.v, hs2.n, hs2.p, fv⟩
theorem zQs (w00 : World) (L it : Nat) (w : World) (r pm : Nat) (bv : Value) (l : List Int) (p : Nat) (m : PMsg) (hD : DS w00 L it w r pm bv l p m) {i : Nat} (h : i < 15) :
    Calls Tryz.prog 37 #[.pointer (some ⟨r, 0, none⟩), .pointer (some ⟨pm, 0, none⟩), .int .i32 (lt i)] w (zBe i w00 L it w r pm bv l p m) := by
  rcases zI6 h with rfl | rfl | rfl | rfl | rfl | rfl | rfl | rfl | rfl | rfl | rfl | rfl | rfl | rfl | rfl
  · exact rfield_0 w00 L it w r pm bv l p m hD
  · exact rfield_1 w00 L it w r pm bv l p m hD
  · exact rfield_2 w00 L it w r pm bv l p m hD
  · exact rfield_3 w00 L it w r pm bv l p m hD
  · exact rfield_4 w00 L it w r pm bv l p m hD
  · exact rfield_5 w00 L it w r pm bv l p m hD
  · exact rfield_6 w00 L it w r pm bv l p m hD
  · exact rfield_7 w00 L it w r pm bv l p m hD
  · exact rfield_8 w00 L it w r pm bv l p m hD
  · exact rfield_9 w00 L it w r pm bv l p m hD
  · exact zU5 w00 L it w r pm bv l p m hD
  · exact zUs w00 L it w r pm bv l p m hD
  · exact zU6 w00 L it w r pm bv l p m hD
  · exact zT2 w00 L it w r pm bv l p m hD
  · exact zTc w00 L it w r pm bv l p m hD
end
section
open Go.RowKit Oct
theorem zFz : ∀ (fs gs : List Nat) (m : PMsg) (l : List Int), zE8 (fs ++ gs) m l = (zE8 fs m l).bind fun x => zE8 gs x.1 x.2
  | [], gs, m, l => rfl
  | i :: fs, gs, m, l => by
    simp only [List.cons_append, zE8]
    cases (cF i).rd l with
    | none => rfl
    | some x => simp only [Option.bind_some]; exact zFz fs gs _ _
theorem zUo {fs : List Nat} {q i : Nat} (hi : fs[q]? = some i) {m m1 : PMsg} {l l1 : List Int} (h : zE8 (fs.take q) m l = some (m1, l1)) {v : FV} {l2 : List Int} (hv : (cF i).rd l1 = some (v, l2)) : zE8 (fs.take (q + 1)) m l = some (set m1 i v, l2) := by
  rw [zBa fs q i hi, zFz, h]
  simp [zE8, hv]
theorem zSd {fs : List Nat} {q i : Nat} (hi : fs[q]? = some i) {m m1 : PMsg} {l l1 : List Int} (h : zE8 (fs.take q) m l = some (m1, l1)) (hv : (cF i).rd l1 = none) : zE8 fs m l = none := by
  have e : fs = fs.take (q + 1) ++ fs.drop (q + 1) := (List.take_append_drop _ _).symm
  rw [e, zFz, zBa fs q i hi, zFz, h]
  simp [zE8, hv]
set_option maxHeartbeats 400000 in
theorem rend_any (L : Nat) (w : World) (r : Nat) (bv : Value) (l : List Int) (p : Nat) (hS : RS L w r bv l p) :
    Calls Tryz.prog 38 #[.pointer (some ⟨r, 0, none⟩)] w fun e w' => w.grownBy w' none ∧ ((p = l.length ∧ e = .returned (.tuple #[])) ∨ (p ≠ l.length ∧ e = .panicked [{ v := .iface 24 (.int .i64 51), recovered := false }])) := by
  have c0 := hS.row.cell (j := 0) rfl
  have c1 := hS.row.cell (j := 1) rfl
  obtain ⟨ao, cap, rfl, hc⟩ := hS.rd.form
  have hp := hS.hp
  by_cases h : p = l.length
  · have hq : ((p : Int) != (l.length : Int)) = false := by simp [h]
    go_enter Tryz.func38, Tryz.ntmps38
    go_wp2_with fail
    go_quiet (fail)
    go_wp2_with fail
    go_end0
    exact ⟨⟨rfl, rfl, rfl, zN, fun _ _ _ => rfl⟩, .inl ⟨h, rfl⟩⟩
  · have hq : ((p : Int) != (l.length : Int)) = true := by simp; omega
    go_enter Tryz.func38, Tryz.ntmps38
    go_wp2_with fail
    go_quiet (fail)
    go_wp2_with fail
    exact ⟨rfl, ⟨rfl, rfl, rfl, zN, fun _ _ _ => rfl⟩, .inr ⟨h, rfl⟩⟩
def zIe (l : List Int) (w : World) (e : Ending) (w' : World) : Prop :=
  ∃ s, e = .returned (.tuple #[.agg (mc (zC6 l) s).toArray, .int .i64 (zE5 l)]) ∧ SOk (zB0 w.heap.size) w' (zC6 l) s ∧ Below w.heap.size w w'
theorem zFj (w : World) (tmps : Array Value) (pm pe : Nat) (vm : List Value) (hvl : vm.length = 23) (ve : Value) (hm : Row w pm 40 vm) (he : Row w pe 24 [ve])
    (h2 : tmps.getD 2 undef = .pointer (some ⟨pm, 0, none⟩)) (h3 : tmps.getD 3 undef = .pointer (some ⟨pe, 0, none⟩)) : (results Tryz.f19 tmps).run Tryz.prog w = .ok (.tuple #[.agg vm.toArray, ve]) w := by
  have c1 := he.cell (j := 0) rfl
  have hi : (Tryz.prog.info? 40).map (·.size) = some vm.toArray.size := by rw [List.size_toArray, hvl]; kernel_rfl
  have hld := run_loadVar_row (P := Tryz.prog) w pm 40 40 vm.toArray (0, 0) _ hm Tryz.underlying40 rfl hi
  simp only [Array.getD_eq_getD_getElem?] at h2 h3
  have hle : (loadVar 24 ⟨pe, 0, none⟩).run Tryz.prog w = .ok ve w := by simp [go_sem, c1]
  simp [results, Tryz.results19, asAddr, h2, h3, hld, hle]
theorem decE_bad {l : List Int} (hl : ¬ 1048576 < l.length) (h : rdM l = none) : zE5 l = 51 ∧ zC6 l = zAc := by
  unfold zE5 zC6
  rw [if_neg hl, if_neg hl, h]
  exact ⟨rfl, rfl⟩
theorem zSl {l : List Int} (hl : 1048576 < l.length) : zE5 l = 53 ∧ zC6 l = zAc := by
  unfold zE5 zC6
  rw [if_pos hl, if_pos hl]
  exact ⟨rfl, rfl⟩
theorem decE_ok {l : List Int} (hl : ¬ 1048576 < l.length) {m : PMsg} (h : rdM l = some m) : zE5 l = 0 ∧ zC6 l = m := by
  unfold zE5 zC6
  rw [if_neg hl, if_neg hl, h]
  exact ⟨rfl, rfl⟩
theorem zHe (w w1 : World) (l : List Int) (pm pe : Nat) (m : PMsg) (s : SV) (ve : Value) (hm : Row w1 pm 40 (mc m s)) (he : Row w1 pe 24 [ve]) (hne : pm ≠ pe) (hB : Below w.heap.size w w1) (hpm : w.heap.size ≤ pm) (hpe : w.heap.size ≤ pe)
    (hl : ¬ 1048576 < l.length) (hr : rdM l = none) (tmps : Array Value) (h2 : tmps.getD 2 undef = .pointer (some ⟨pm, 0, none⟩)) (h3 : tmps.getD 3 undef = .pointer (some ⟨pe, 0, none⟩)) :
    bodyPostD Tryz.prog Tryz.f19 (zIe l w) (.panic [{ v := .iface 24 (.int .i64 51), recovered := false }])
      { tmps := tmps, defers := [{ target := .fn (.func 34) #[.pointer (some ⟨pm, 0, none⟩), .pointer (some ⟨pe, 0, none⟩)], args := #[] }] } w1 := by
  refine leaves_cons (f := 34) (args := #[.pointer (some ⟨pm, 0, none⟩), .pointer (some ⟨pe, 0, none⟩)]) (by simp) (by simp [go_sem]) ?_
  refine (decCatch pm pe 51 m s ve w1 hm he hne).mono ?_
  rintro e u' w2 ⟨rfl, rfl, hr1, hr2, two⟩
  obtain ⟨e1, e2⟩ := decE_bad hl hr
  exact ⟨_, zFj w2 tmps pm pe _ rfl _ hr1 hr2 h2 h3, sv0, by rw [e1, e2], by rw [e2]; exact SOk.zero _ _ 0, Two.below hB two zN hpm hpe⟩
theorem dec_back (w w1 : World) (l : List Int) (pm pe : Nat) (m : PMsg) (s : SV) (hm : Row w1 pm 40 (mc m s)) (he : Row w1 pe 24 [.int .i64 0]) (hB : Below w.heap.size w w1)
    (hl : ¬ 1048576 < l.length) (hr : rdM l = some m) (hs : SOk (zB0 w.heap.size) w1 m s) (tmps : Array Value) (h2 : tmps.getD 2 undef = .pointer (some ⟨pm, 0, none⟩)) (h3 : tmps.getD 3 undef = .pointer (some ⟨pe, 0, none⟩)) :
    bodyPostD Tryz.prog Tryz.f19 (zIe l w) .ret
      { tmps := tmps, defers := [{ target := .fn (.func 34) #[.pointer (some ⟨pm, 0, none⟩), .pointer (some ⟨pe, 0, none⟩)], args := #[] }] } w1 := by
  refine leaves_cons (f := 34) (args := #[.pointer (some ⟨pm, 0, none⟩), .pointer (some ⟨pe, 0, none⟩)]) (by simp) (by simp [go_sem]) ?_
  refine (decIdle pm pe w1).mono ?_
  rintro e u' w2 ⟨rfl, rfl, rfl⟩
  obtain ⟨e1, e2⟩ := decE_ok hl hr
  exact ⟨_, zFj _ tmps pm pe _ rfl _ hm he h2 h3, s, by rw [e1, e2], by rw [e2]; exact hs, hB⟩
theorem DS.below {w00 : World} {L it : Nat} {w w' : World} {r pm : Nat} {bv : Value} {l : List Int} {p : Nat} {m : PMsg} (h : DS w00 L it w r pm bv l p m) (hb : Below w.heap.size w w') : DS w00 L it w' r pm bv l p m := by
  obtain ⟨s, hm, hs⟩ := h.mrow
  exact ⟨zA1 h.bel zN hb, h.bytes, h.rlo, h.plo, h.rL, h.pL, h.ne, Nat.le_trans h.hL hb.size, h.row.below hb, ⟨s, hm.below hb, hs.mv hb.size (Mv.belowG hb)⟩, h.hp, h.hl, Nat.lt_of_lt_of_le h.itw hb.size⟩
theorem DS.turn {w00 : World} {L it it' : Nat} {w : World} {r pm : Nat} {bv : Value} {l : List Int} {p : Nat} {m : PMsg} (h : DS w00 L it w r pm bv l p m) (s : ByteArray) (hit : it' = w.heap.size) : DS w00 L it' (w.iter s 0) r pm bv l p m := by
  subst hit
  have hb : Below w.heap.size w (w.iter s 0) := (Below.refl _ w).alloc zN _
  obtain ⟨sv, hm, hs⟩ := h.mrow
  refine ⟨zA1 h.bel zN hb, h.bytes, h.rlo, h.plo, h.rL, h.pL, h.ne, Nat.le_trans h.hL hb.size, h.row.below hb, ⟨sv, hm.below hb, hs.mv hb.size fun k hk hlt => ⟨hb.block k hlt, hk.1, by omega⟩⟩, h.hp, h.hl, ?_⟩
  simp [World.iter]
theorem DS.iter {w00 : World} {L it : Nat} {w : World} {r pm : Nat} {bv : Value} {l : List Int} {p : Nat} {m : PMsg} (h : DS w00 L it w r pm bv l p m) {s : ByteArray} {q : Nat} (hk : w.heap[it]? = some (.stringIter s q)) (h0 : w00.heap.size ≤ it) (q' : Nat) : DS w00 L it (w.iterAt it s q') r pm bv l p m := by
  have hne : ∀ k t xs, Row w k t xs → k ≠ it := fun k t xs h e => by unfold Row at h; rw [e, hk] at h; cases h
  obtain ⟨sv, hm, hs⟩ := h.mrow
  exact ⟨Lib.below_iterAt h.bel h0 s q', h.bytes, h.rlo, h.plo, h.rL, h.pL, h.ne, by rw [Lib.iterAt_size]; exact h.hL, zDc h.row (hne _ _ _ h.row), ⟨sv, zDc hm (hne _ _ _ hm), hs.mv (by rw [Lib.iterAt_size]; exact zN) fun k hk _ => ⟨Lib.iterAt_other w it k s q' hk.2, hk⟩⟩, h.hp, h.hl, by rw [Lib.iterAt_size]; exact h.itw⟩
theorem two_iter {a b : Nat} {w w' : World} {k : Nat} {s : ByteArray} {p : Nat} (h : Two a b w w') (hk : w.heap[k]? = some (.stringIter s p)) (ha : k ≠ a) (hb : k ≠ b) : w'.heap[k]? = some (.stringIter s p) := by
  rw [h.block k (Array.getElem?_eq_some_iff.1 hk).1 ha hb]
  exact hk
theorem Row.two {a b k : Nat} {w w' : World} {t : TypeId} {xs : List Value} (h : Row w k t xs) (ht : Two a b w w') (ha : k ≠ a) (hb : k ≠ b) : Row w' k t xs := (ht.block k h.lt ha hb).trans h
theorem rdM_kind {l : List Int} (h : cN.rd l = none) : rdM l = none := by simp [rdM, rdG, h]
theorem rdM_fl {l l1 : List Int} {k : Int} (h : cN.rd l = some (k, l1)) (hf : fl k = []) : rdM l = none := by simp [rdM, rdG, h, hf]
theorem rdM_fs {l l1 : List Int} {k : Int} (h : cN.rd l = some (k, l1)) (hr : zE8 (fl k) { zAc with kind := k } l1 = none) : rdM l = none := by
  simp only [rdM, rdG, h, Option.bind_some]
  split
  · rfl
  · rw [hr]; rfl
theorem zUn {l l1 l2 : List Int} {k : Int} {m : PMsg} (h : cN.rd l = some (k, l1)) (hr : zE8 (fl k) { zAc with kind := k } l1 = some (m, l2)) (h2 : l2 ≠ []) : rdM l = none := by
  simp only [rdM, rdG, h, Option.bind_some]
  split
  · rfl
  · rw [hr]; simp [h2]
theorem zT5 {l l1 : List Int} {k : Int} {m : PMsg} (h : cN.rd l = some (k, l1)) (hf : fl k ≠ []) (hr : zE8 (fl k) { zAc with kind := k } l1 = some (m, [])) : rdM l = some m := by
  simp only [rdM, rdG, h, Option.bind_some]
  rw [if_neg (by simpa using hf), hr]
  rfl
end
section
open Go.RowKit Oct
end
end Go.Proofs.YtgjepofinpmcpaaGreatDoor
