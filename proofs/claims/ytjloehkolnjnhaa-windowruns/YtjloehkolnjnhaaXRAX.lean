/- Windows in memory: Vote, Prep, Done. Written by mk18v.py. -/
import Derived.Test.YtjloehkolnjnhaaXRAU
import Derived.Deep.RegionLaw
import Derived.Deep.Cut
set_option linter.unusedSimpArgs false
set_option linter.unusedVariables false
namespace Go.Proofs.Ytjloehkolnjnhaa
open Go.RowKit Oct Kvl Bal
/-- What a window's slices may lie in: neither of its blocks, and all that is made behind N. -/
structure Gd (G : Nat → Prop) (b m N : Nat) : Prop where
  nb : ∀ j, G j → NB b m j
  fr : ∀ j, N ≤ j → G j
theorem Gd.nbs {b m N : Nat} (hb : b < N) (hm : m < N) : Gd (NB b m) b m N := ⟨fun _ h => h, fun j hj => ⟨by omega, by omega⟩⟩
theorem Gd.up {G : Nat → Prop} {b m N N' : Nat} (h : Gd G b m N) (hN : N ≤ N') : Gd G b m N' := ⟨h.nb, fun j hj => h.fr j (by omega)⟩
theorem Mv.nb {G : Nat → Prop} {b m : Nat} {w w' : World} (hn : ∀ j, G j → NB b m j) (hg : w.grownBy w' (some m)) : Mv G G w w' := fun k hk hlt => ⟨hg.block k hlt (fun e => (hn k hk).2 (by injection e)), hk⟩
theorem Mv.fresh {G : Nat → Prop} {N : Nat} {w : World} (hf : ∀ j, N ≤ j → G j) : Mv (From N) G w w := fun k hk _ => ⟨rfl, hf k hk⟩
theorem Row.rng {w : World} {b : Nat} {t : TypeId} {xs : List Value} (h : Row w b t xs) : w.rangeAt b 0 xs := fun j v hj => by rw [Nat.zero_add]; exact h.cell hj
theorem grown_drew2 {w w' : World} {r : Option Nat} (h : w.grownBy w' r) : w.drew.grownBy w' r := ⟨h.os, h.tape, h.output, h.size, fun i h1 h2 => h.block i h1 h2⟩
/-- Neither block, and of those that were there ahead of N. -/
def GL (G : Nat → Prop) (N : Nat) : Nat → Prop := fun j => G j ∧ j < N
theorem Mv.gl {G : Nat → Prop} {N q : Nat} {w w' : World} (hg : w.grownBy w' (some q)) (hq : N ≤ q) : Mv (GL G N) (GL G N) w w' := fun k hk hlt => ⟨hg.block k hlt (fun e => by have := Option.some.inj e; have := hk.2; omega), hk⟩
theorem Mv.ungl {G : Nat → Prop} {N : Nat} {w : World} : Mv (GL G N) G w w := fun k hk _ => ⟨rfl, hk.1⟩
theorem Wnd.ungl {G : Nat → Prop} {w : World} {b m N : Nat} {low : Int} {kn : List (Int × PSl)} (h : Wnd (GL G N) w b m low kn) : Wnd G w b m low kn := h.mv (Nat.le_refl _) rfl rfl Mv.ungl
/-- 'w.known[slot] = s'. -/
theorem Wnd.put {G : Nat → Prop} {w : World} {b m : Nat} {low : Int} {kn : List (Int × PSl)} (h : Wnd G w b m low kn) (hn : ∀ j, G j → NB b m j) (k : Int) (r : List Value) (s : PSl) (hr : RSl G w r s) (hk : inW low k = true) (hs : known s = true) (hz : szSl s) :
    ∃ w', (Instr.mapUpdate 67 (.map (some m)) (.int .i64 k) (.agg r.toArray)).run Try.prog w.drew = .ok () w' ∧ Wnd G w' b m low (putL kn k s) ∧ w.grownBy w' (some m) := by
  obtain ⟨l, h1, h2⟩ := h.map
  have hky := keys_ofW h2
  have h1' : Mp w.drew m l := h1
  have hd : ∀ w', w.drew.grownBy w' (some m) → w.grownBy w' (some m) := fun w' hg => grown_drew hg
  cases hf : fnd k (keysW kn) with
  | none =>
    obtain ⟨w', hp, hm, hg⟩ := h1'.put_new (q := k) (by rw [hky]; exact hf) (.agg r.toArray)
    have hg := hd w' hg
    refine ⟨w', hp, ⟨h.row.grown hg (fun e => h.ne (Option.some.inj e).symm), h.ok.put hk hs hz, _, hm, ?_⟩, hg⟩
    rw [put_none hf]
    exact All2.app (h2.mono fun z y hzy => hzy.mv hg.size (Mv.nb hn hg)) ⟨⟨rfl, r, rfl, mov_sl _ _ _ _ _ _ hr hg.size (Mv.nb hn hg)⟩, trivial⟩
  | some j =>
    have hj := at_some hf
    obtain ⟨⟨z1, z2⟩, hzj⟩ : ∃ z, l[j]? = some z := ⟨_, List.getElem?_eq_getElem (by rw [h2.len]; exact (List.getElem?_eq_some_iff.1 hj).1)⟩
    obtain ⟨e1, _⟩ := h2.get hzj hj
    simp only at e1
    subst e1
    obtain ⟨w', hp, hm, hg⟩ := h1'.put_old (q := z1) (by rw [hky]; exact hf) hzj (.agg r.toArray)
    have hg := hd w' hg
    refine ⟨w', hp, ⟨h.row.grown hg (fun e => h.ne (Option.some.inj e).symm), h.ok.put hk hs hz, _, hm, ?_⟩, hg⟩
    rw [put_some hf]
    exact All2.setW (h2.mono fun z y hzy => hzy.mv hg.size (Mv.nb hn hg)) ⟨rfl, r, rfl, mov_sl _ _ _ _ _ _ hr hg.size (Mv.nb hn hg)⟩
set_option maxRecDepth 10000 in
set_option maxHeartbeats 8000000 in
/-- window.Vote. -/
theorem voteW_out {G : Nat → Prop} {b m : Nat} {low : Int} {kn : List (Int × PSl)} (w : World) (h : Wnd G w b m low kn) (hg0 : Gd G b m w.heap.size) (bl : PBal) (k : Int) (rr : List Value) (x : PReq) (hx : RReq Any w rr x) (hzx : szQ x) (hin : inW low k = false) :
    Calls Try.prog 24 #[.pointer (some ⟨b, 0, none⟩), bal bl.1 bl.2, .int .i64 k, .agg rr.toArray] w fun e w' => e = .returned (.int .i64 (stV low kn bl k x).2) ∧ Wnd G w' b m low (stV low kn bl k x).1 ∧ w.grownBy w' (some m) := by
  obtain ⟨xo, xg, rfl, ho, hg⟩ := hx
  obtain ⟨w1, hw1⟩ : ∃ w1, w1 = w.alloc (.cells #[.int .i64 bl.1, .int .i64 bl.2] 27) := ⟨_, rfl⟩
  obtain ⟨w2, hw2⟩ : ∃ w2, w2 = w1.alloc (.cells #[.int .i64 x.1, .int .i64 x.2.1, xo, xg] 30) := ⟨_, rfl⟩
  have e1 : w1.heap.size = w.heap.size + 1 := by rw [hw1]; simp
  have e2 : w2.heap.size = w.heap.size + 2 := by rw [hw2]; simp [e1]
  have B1 : Below w.heap.size w w1 := by rw [hw1]; exact below_alloc _ _
  have B2 : Below w1.heap.size w1 w2 := by rw [hw2]; exact below_alloc _ _
  have R1 : Row w1 w.heap.size 27 [.int .i64 bl.1, .int .i64 bl.2] := by rw [hw1]; exact Row.new _ _ _
  have R2 : Row w2 (w.heap.size + 1) 30 [.int .i64 x.1, .int .i64 x.2.1, xo, xg] := by rw [hw2, ← e1]; exact Row.new _ _ _
  have R1 := R1.below B2
  have B : Below w.heap.size w w2 := below_and B1 (Nat.le_refl _) B2
  have hw : w2 = (w.alloc (.cells #[.int .i64 bl.1, .int .i64 bl.2] 27)).alloc (.cells #[.int .i64 x.1, .int .i64 x.2.1, xo, xg] 30) := by rw [hw2, hw1]
  have hN2 : w.heap.size + 2 ≤ w2.heap.size := Nat.le_of_eq e2.symm
  clear hw1 hw2 e1 e2 B1 B2
  have hlt := h.lt
  have h0 := h.mv (G' := GL G w.heap.size) (Nat.le_refl _) rfl rfl (fun j hj hlt => ⟨rfl, hj, hlt⟩)
  have h2 := h0.below B
  have c1 := h2.row.cell (j := 1) rfl
  obtain ⟨r0, hr0, hlk⟩ := h2.look k
  have hlk := hlk w2 rfl
  have hzs := h.ok.at k
  obtain ⟨s, hs⟩ : ∃ s, s = atL kn k := ⟨_, rfl⟩
  rw [← hs] at hr0 hzs
  have HSE := (show Hid (s = atL kn k) from hs)
  clear hs
  obtain ⟨o1, g1, o2, g2, cc, o3, g3, v1, rfl, t1, t2, t3, t4, t5, t6, t7, t8⟩ := hr0
  have hone := one_RSl (G := GL G w.heap.size) (w := w2) (x := s) ⟨o1, g1, o2, g2, cc, o3, g3, v1, rfl, t1, t2, t3, t4, t5, t6, t7, t8⟩
  have Rz := Row.new w2 33 [.int .i64 0, .int .i64 0, .int .i64 0, .int .i64 0, .slice none 0 0, .slice none 0 0, .int .i64 0, .int .i64 0, .int .i64 0, .int .i64 0, .slice none 0 0, .slice none 0 0, .slice none 0 0, .int .i64 0, .int .i64 0, .slice none 0 0, .slice none 0 0, .int .i64 0, .int .i64 0, .slice none 0 0, .bool false, .bool false, .bool false]
  have Bz := below_alloc w2 (.cells #[.int .i64 0, .int .i64 0, .int .i64 0, .int .i64 0, .slice none 0 0, .slice none 0 0, .int .i64 0, .int .i64 0, .int .i64 0, .int .i64 0, .slice none 0 0, .slice none 0 0, .slice none 0 0, .int .i64 0, .int .i64 0, .slice none 0 0, .slice none 0 0, .int .i64 0, .int .i64 0, .slice none 0 0, .bool false, .bool false, .bool false] 33)
  go_enter Try.func24, Try.ntmps24
  go_upto_region 1 with fail
  rw [← hw]
  clear hw
  go_upto_region 2 with (refine wl_store rfl _ _ _ rfl w2.heap.size [.int .i64 s.voted.1, .int .i64 s.voted.2, .int .i64 s.vote.1, .int .i64 s.vote.2.1, o1, g1, .int .i64 s.pred.1, .int .i64 s.pred.2, .int .i64 s.prep.1, .int .i64 s.prep.2.1, o2, g2, cc, .int .i64 s.done.1, .int .i64 s.done.2.1, o3, g3, .int .i64 s.bal.1, .int .i64 s.bal.2, v1, .bool s.hv, .bool s.hp, .bool s.hd] rfl rfl _ _ Rz rfl (by kernel_rfl) hone ?_; intro w3 R3 g3)
  have R3 := R3.out
  have B3 : Below w2.heap.size w2 w3 := Bz.trans (grown_below g3 Bz.size (fun k hk => by cases hk; exact Nat.le_refl _))
  have s3 : w2.heap.size < w3.heap.size := R3.lt
  clear Rz Bz g3 hlk c1 hone
  have h3 := h2.below B3
  have BB := below_and B (Nat.le_refl _) B3
  have R1 := R1.below B3
  have R2 := R2.below B3
  have hI := inW_any w3 h3 k
  have fh := R3.cell (j := 20) rfl
  have T1 := t1.mv (Mv.belowG B3); have T2 := t2.mv (Mv.belowG B3); have T3 := t3.mv (Mv.belowG B3); have T4 := t4.mv (Mv.belowG B3); have T5 := t5.mv mov_vote B3.size (Mv.belowG B3); have T6 := t6.mv (Mv.belowG B3); have T7 := t7.mv (Mv.belowG B3); have T8 := t8.mv mov_vote B3.size (Mv.belowG B3)
  have X1 := (ho.mv (Mv.below BB)); have X2 := (hg.mv (Mv.below BB))
  clear t1 t2 t3 t4 t5 t6 t7 t8 h2 ho hg
  rw [hin] at hI
  have hst : stV low kn bl k x = (kn, 171) := by unfold stV; rw [hin]; rfl
  have HST := (show Hid (stV low kn bl k x = (kn, 171)) from hst)
  clear hst
  go_wp2_with (go_at_call 14; refine hI.mono ?_; rintro e w3 ⟨rfl, rfl⟩)
  go_ret
  exact ⟨by rw [HST.out]; rfl, by rw [HST.out]; exact h3.ungl, grown_of_below BB _⟩
set_option maxRecDepth 10000 in
set_option maxHeartbeats 8000000 in
/-- window.Vote. -/
theorem voteW_new {G : Nat → Prop} {b m : Nat} {low : Int} {kn : List (Int × PSl)} (w : World) (h : Wnd G w b m low kn) (hg0 : Gd G b m w.heap.size) (bl : PBal) (k : Int) (rr : List Value) (x : PReq) (hx : RReq Any w rr x) (hzx : szQ x) (hin : inW low k = true) (hh0 : (atL kn k).hv = false) :
    Calls Try.prog 24 #[.pointer (some ⟨b, 0, none⟩), bal bl.1 bl.2, .int .i64 k, .agg rr.toArray] w fun e w' => e = .returned (.int .i64 (stV low kn bl k x).2) ∧ Wnd G w' b m low (stV low kn bl k x).1 ∧ w.grownBy w' (some m) := by
  obtain ⟨xo, xg, rfl, ho, hg⟩ := hx
  obtain ⟨w1, hw1⟩ : ∃ w1, w1 = w.alloc (.cells #[.int .i64 bl.1, .int .i64 bl.2] 27) := ⟨_, rfl⟩
  obtain ⟨w2, hw2⟩ : ∃ w2, w2 = w1.alloc (.cells #[.int .i64 x.1, .int .i64 x.2.1, xo, xg] 30) := ⟨_, rfl⟩
  have e1 : w1.heap.size = w.heap.size + 1 := by rw [hw1]; simp
  have e2 : w2.heap.size = w.heap.size + 2 := by rw [hw2]; simp [e1]
  have B1 : Below w.heap.size w w1 := by rw [hw1]; exact below_alloc _ _
  have B2 : Below w1.heap.size w1 w2 := by rw [hw2]; exact below_alloc _ _
  have R1 : Row w1 w.heap.size 27 [.int .i64 bl.1, .int .i64 bl.2] := by rw [hw1]; exact Row.new _ _ _
  have R2 : Row w2 (w.heap.size + 1) 30 [.int .i64 x.1, .int .i64 x.2.1, xo, xg] := by rw [hw2, ← e1]; exact Row.new _ _ _
  have R1 := R1.below B2
  have B : Below w.heap.size w w2 := below_and B1 (Nat.le_refl _) B2
  have hw : w2 = (w.alloc (.cells #[.int .i64 bl.1, .int .i64 bl.2] 27)).alloc (.cells #[.int .i64 x.1, .int .i64 x.2.1, xo, xg] 30) := by rw [hw2, hw1]
  have hN2 : w.heap.size + 2 ≤ w2.heap.size := Nat.le_of_eq e2.symm
  clear hw1 hw2 e1 e2 B1 B2
  have hlt := h.lt
  have h0 := h.mv (G' := GL G w.heap.size) (Nat.le_refl _) rfl rfl (fun j hj hlt => ⟨rfl, hj, hlt⟩)
  have h2 := h0.below B
  have c1 := h2.row.cell (j := 1) rfl
  obtain ⟨r0, hr0, hlk⟩ := h2.look k
  have hlk := hlk w2 rfl
  have hzs := h.ok.at k
  obtain ⟨s, hs⟩ : ∃ s, s = atL kn k := ⟨_, rfl⟩
  rw [← hs] at hr0 hzs
  have HSE := (show Hid (s = atL kn k) from hs)
  clear hs
  obtain ⟨o1, g1, o2, g2, cc, o3, g3, v1, rfl, t1, t2, t3, t4, t5, t6, t7, t8⟩ := hr0
  have hone := one_RSl (G := GL G w.heap.size) (w := w2) (x := s) ⟨o1, g1, o2, g2, cc, o3, g3, v1, rfl, t1, t2, t3, t4, t5, t6, t7, t8⟩
  have Rz := Row.new w2 33 [.int .i64 0, .int .i64 0, .int .i64 0, .int .i64 0, .slice none 0 0, .slice none 0 0, .int .i64 0, .int .i64 0, .int .i64 0, .int .i64 0, .slice none 0 0, .slice none 0 0, .slice none 0 0, .int .i64 0, .int .i64 0, .slice none 0 0, .slice none 0 0, .int .i64 0, .int .i64 0, .slice none 0 0, .bool false, .bool false, .bool false]
  have Bz := below_alloc w2 (.cells #[.int .i64 0, .int .i64 0, .int .i64 0, .int .i64 0, .slice none 0 0, .slice none 0 0, .int .i64 0, .int .i64 0, .int .i64 0, .int .i64 0, .slice none 0 0, .slice none 0 0, .slice none 0 0, .int .i64 0, .int .i64 0, .slice none 0 0, .slice none 0 0, .int .i64 0, .int .i64 0, .slice none 0 0, .bool false, .bool false, .bool false] 33)
  go_enter Try.func24, Try.ntmps24
  go_upto_region 1 with fail
  rw [← hw]
  clear hw
  go_upto_region 2 with (refine wl_store rfl _ _ _ rfl w2.heap.size [.int .i64 s.voted.1, .int .i64 s.voted.2, .int .i64 s.vote.1, .int .i64 s.vote.2.1, o1, g1, .int .i64 s.pred.1, .int .i64 s.pred.2, .int .i64 s.prep.1, .int .i64 s.prep.2.1, o2, g2, cc, .int .i64 s.done.1, .int .i64 s.done.2.1, o3, g3, .int .i64 s.bal.1, .int .i64 s.bal.2, v1, .bool s.hv, .bool s.hp, .bool s.hd] rfl rfl _ _ Rz rfl (by kernel_rfl) hone ?_; intro w3 R3 g3)
  have R3 := R3.out
  have B3 : Below w2.heap.size w2 w3 := Bz.trans (grown_below g3 Bz.size (fun k hk => by cases hk; exact Nat.le_refl _))
  have s3 : w2.heap.size < w3.heap.size := R3.lt
  clear Rz Bz g3 hlk c1 hone
  have h3 := h2.below B3
  have BB := below_and B (Nat.le_refl _) B3
  have R1 := R1.below B3
  have R2 := R2.below B3
  have hI := inW_any w3 h3 k
  have fh := R3.cell (j := 20) rfl
  have T1 := t1.mv (Mv.belowG B3); have T2 := t2.mv (Mv.belowG B3); have T3 := t3.mv (Mv.belowG B3); have T4 := t4.mv (Mv.belowG B3); have T5 := t5.mv mov_vote B3.size (Mv.belowG B3); have T6 := t6.mv (Mv.belowG B3); have T7 := t7.mv (Mv.belowG B3); have T8 := t8.mv mov_vote B3.size (Mv.belowG B3)
  have X1 := (ho.mv (Mv.below BB)); have X2 := (hg.mv (Mv.below BB))
  clear t1 t2 t3 t4 t5 t6 t7 t8 h2 ho hg
  rw [hin] at hI
  have hF := follow_any w3 s.voted bl [.int .i64 s.vote.1, .int .i64 s.vote.2.1, o1, g1] [.int .i64 x.1, .int .i64 x.2.1, xo, xg] s.vote x ⟨_, _, rfl, (T1.mv (Mv.any)), (T2.mv (Mv.any))⟩ ⟨_, _, rfl, X1, X2⟩
  have HSTEP := show Hid (∀ hh ff, s.hv = hh → fitL s.voted bl s.vote x = ff → stV low kn bl k x = if hh && !ff then (kn, 171) else (putL kn k { s with hv := true, voted := bl, vote := x }, 0)) from fun hh ff e1 e2 => by
    unfold stV voteS
    rw [hin, ← HSE.out, e1, e2]
    cases hh <;> cases ff <;> rfl
  have hh : s.hv = false := by rw [HSE.out]; exact hh0
  rw [hh] at fh
  go_upto_region 4 with (go_at_call 14; refine hI.mono ?_; rintro e w3 ⟨rfl, rfl⟩)
  have HST := (show Hid (stV low kn bl k x = (putL kn k { s with hv := true, voted := bl, vote := x }, 0)) from by
    rw [HSTEP.out _ _ hh rfl]
    rfl)
  clear hF hI fh
  have bS := Below.refl w3.heap.size w3
  have hs5 := bS.size
  have hsB := BB.size
  have h5 := h3.below bS
  have B5 := below_and BB (Nat.le_refl _) bS
  have Rb := R1.below bS
  have Rr := R2.below bS
  have Rs := R3.below bS
  have X5 : RReq Any w3 [.int .i64 x.1, .int .i64 x.2.1, xo, xg] x := ⟨_, _, rfl, X1.mv (Mv.below bS), X2.mv (Mv.below bS)⟩
  have HQ := (show Hid (∀ u, Below w3.heap.size w3 u → Calls Try.prog 42 #[.agg #[.int .i64 x.1, .int .i64 x.2.1, xo, xg]] u fun e w' => ∃ ao co ag cg, e = .returned (.agg #[.int .i64 x.1, .int .i64 x.2.1, .slice ao x.2.2.1.length co, .slice ag x.2.2.2.length cg]) ∧ RT (From w3.heap.size) w' (.slice ao x.2.2.1.length co) x.2.2.1 ∧ RT (From w3.heap.size) w' (.slice ag x.2.2.2.length cg) x.2.2.2 ∧ Below u.heap.size u w' ∧ Below w3.heap.size w3 w') from fun u hu => (cloneReqS_any u [.int .i64 x.1, .int .i64 x.2.1, xo, xg] x (mov_req _ _ _ _ _ _ X5 hu.size (Mv.below hu)) hzx).mono fun e w' ⟨r', e1, e2, e3⟩ => by
    obtain ⟨yo, yg, rfl, q1, q2⟩ := e2
    obtain ⟨ao, co, rfl, _⟩ := q1.form
    obtain ⟨ag, cg, rfl, _⟩ := q2.form
    exact ⟨ao, co, ag, cg, e1, q1.mv (Mv.weak hu.size), q2.mv (Mv.weak hu.size), e3, below_and hu (Nat.le_refl _) e3⟩)
  have RB := (show Hid (∀ u, Below w3.heap.size w3 u → Row u w.heap.size 27 [.int .i64 bl.1, .int .i64 bl.2]) from fun u hu => Rb.below hu)
  have RQ := (show Hid (∀ u, Below w3.heap.size w3 u → Row u (w.heap.size + 1) 30 [.int .i64 x.1, .int .i64 x.2.1, xo, xg]) from fun u hu => Rr.below hu)
  have RS := (show Hid (∀ u, Below w3.heap.size w3 u → Row u w2.heap.size 33 [.int .i64 s.voted.1, .int .i64 s.voted.2, .int .i64 s.vote.1, .int .i64 s.vote.2.1, o1, g1, .int .i64 s.pred.1, .int .i64 s.pred.2, .int .i64 s.prep.1, .int .i64 s.prep.2.1, o2, g2, cc, .int .i64 s.done.1, .int .i64 s.done.2.1, o3, g3, .int .i64 s.bal.1, .int .i64 s.bal.2, v1, .bool s.hv, .bool s.hp, .bool s.hd]) from fun u hu => Rs.below hu)
  have hdw : Below w3.heap.size w3 w3.drew := ⟨rfl, rfl, rfl, Nat.le_refl _, fun _ _ => rfl⟩
  have b0 := Rb.cell (j := 0) rfl; have b1 := Rb.cell (j := 1) rfl; have q0 := Rr.cell (j := 0) rfl; have q1 := Rr.cell (j := 1) rfl; have q2 := Rr.cell (j := 2) rfl; have q3 := Rr.cell (j := 3) rfl
  clear Rb Rr Rs X5
  try go_simp
  go_cut [] from 34 (fun wx => ∃ yo yg, Row wx w2.heap.size 33 [.int .i64 bl.1, .int .i64 bl.2, .int .i64 x.1, .int .i64 x.2.1, yo, yg, .int .i64 s.pred.1, .int .i64 s.pred.2, .int .i64 s.prep.1, .int .i64 s.prep.2.1, o2, g2, cc, .int .i64 s.done.1, .int .i64 s.done.2.1, o3, g3, .int .i64 s.bal.1, .int .i64 s.bal.2, v1, .bool true, .bool s.hp, .bool s.hd] ∧ RT (From w3.heap.size) wx yo x.2.2.1 ∧ RT (From w3.heap.size) wx yg x.2.2.2 ∧ w3.grownBy wx (some w2.heap.size))
  case first =>
    go_region_law (go_simp; go_at_call 42; refine (HQ.out _ (by first | (with_reducible exact Below.refl _ _) | (with_reducible exact hdw))).mono ?_; rintro e w7 ⟨ao, co, ag, cg, rfl, y1, y2, _, b7⟩; have r7 := RS.out _ b7; have f20 := r7.cell (j := 20) rfl; have z20 := r7.frozen 20; have f0 := r7.cell (j := 0) rfl; have z0 := r7.frozen 0; have f1 := r7.cell (j := 1) rfl; have z1 := r7.frozen 1; have f2 := r7.cell (j := 2) rfl; have z2 := r7.frozen 2; have f3 := r7.cell (j := 3) rfl; have z3 := r7.frozen 3; have f4 := r7.cell (j := 4) rfl; have z4 := r7.frozen 4; have f5 := r7.cell (j := 5) rfl; have z5 := r7.frozen 5; have rb7 := RB.out _ b7; have rq7 := RQ.out _ b7; have b0 := rb7.cell (j := 0) rfl; have b1 := rb7.cell (j := 1) rfl; have q0 := rq7.cell (j := 0) rfl; have q1 := rq7.cell (j := 1) rfl; have q2 := rq7.cell (j := 2) rfl; have q3 := rq7.cell (j := 3) rfl)
    all_goals (
      go_wp2_with fail
      go_meet
      case rel =>
        have hgr := grown_trans (grown_trans (grown_trans (grown_trans (grown_trans (grown_trans (grown_set w7 w2.heap.size 20 (.bool true)) (grown_set _ w2.heap.size 0 (.int .i64 bl.1)) (.inl rfl)) (grown_set _ w2.heap.size 1 (.int .i64 bl.2)) (.inl rfl)) (grown_set _ w2.heap.size 2 (.int .i64 x.1)) (.inl rfl)) (grown_set _ w2.heap.size 3 (.int .i64 x.2.1)) (.inl rfl)) (grown_set _ w2.heap.size 4 (.slice ao x.2.2.1.length co)) (.inl rfl)) (grown_set _ w2.heap.size 5 (.slice ag x.2.2.2.length cg)) (.inl rfl)
        exact ⟨_, _, (((((((r7.set 20 (.bool true)).set 0 (.int .i64 bl.1)).set 1 (.int .i64 bl.2)).set 2 (.int .i64 x.1)).set 3 (.int .i64 x.2.1)).set 4 (.slice ao x.2.2.1.length co)).set 5 (.slice ag x.2.2.2.length cg)), y1.mv (Mv.from (B := w3.heap.size) hgr (by omega) (Nat.le_refl _)), y2.mv (Mv.from (B := w3.heap.size) hgr (by omega) (Nat.le_refl _)), grown_trans (grown_of_below b7 _) hgr (.inl rfl)⟩)
  case rest =>
  obtain ⟨yo, yg, R6, y1, y2, g6⟩ := hcut
  clear b0 b1 q0 q1 q2 q3 HQ RB RQ RS hdw
  rename World => w6
  have hN : w.heap.size ≤ w2.heap.size := by omega
  have h6 := h5.mv g6.size (g6.block b h5.lt.1 (fun e => by have := Option.some.inj e; omega)) (g6.block m h5.lt.2 (fun e => by have := Option.some.inj e; omega)) (Mv.gl g6 hN)
  have T3 := ((T3.mv (Mv.belowG bS)).mv (Mv.gl g6 hN)).mv Mv.ungl
  have T4 := ((T4.mv (Mv.belowG bS)).mv (Mv.gl g6 hN)).mv Mv.ungl
  have T5 := ((T5.mv mov_vote bS.size (Mv.belowG bS)).mv mov_vote g6.size (Mv.gl g6 hN)).mv mov_vote (Nat.le_refl _) Mv.ungl
  have T6 := ((T6.mv (Mv.belowG bS)).mv (Mv.gl g6 hN)).mv Mv.ungl
  have T7 := ((T7.mv (Mv.belowG bS)).mv (Mv.gl g6 hN)).mv Mv.ungl
  have T8 := ((T8.mv mov_vote bS.size (Mv.belowG bS)).mv mov_vote g6.size (Mv.gl g6 hN)).mv mov_vote (Nat.le_refl _) Mv.ungl
  have hlt5 := h5.lt
  have hnew : RSl G w6 [.int .i64 bl.1, .int .i64 bl.2, .int .i64 x.1, .int .i64 x.2.1, yo, yg, .int .i64 s.pred.1, .int .i64 s.pred.2, .int .i64 s.prep.1, .int .i64 s.prep.2.1, o2, g2, cc, .int .i64 s.done.1, .int .i64 s.done.2.1, o3, g3, .int .i64 s.bal.1, .int .i64 s.bal.2, v1, .bool true, .bool s.hp, .bool s.hd] { s with hv := true, voted := bl, vote := x } := ⟨_, _, _, _, _, _, _, _, rfl, y1.mv (Mv.fresh (fun j hj => hg0.fr j (by omega))), y2.mv (Mv.fresh (fun j hj => hg0.fr j (by omega))), T3, T4, T5, T6, T7, T8⟩
  obtain ⟨w8, hput, h8, g8⟩ := h6.ungl.put hg0.nb k [.int .i64 bl.1, .int .i64 bl.2, .int .i64 x.1, .int .i64 x.2.1, yo, yg, .int .i64 s.pred.1, .int .i64 s.pred.2, .int .i64 s.prep.1, .int .i64 s.prep.2.1, o2, g2, cc, .int .i64 s.done.1, .int .i64 s.done.2.1, o3, g3, .int .i64 s.bal.1, .int .i64 s.bal.2, v1, .bool true, .bool s.hp, .bool s.hd] _ hnew hin (by simp [known]) (show szSl { s with hv := true, voted := bl, vote := x } from ⟨hzx, hzs.2⟩)
  have c1 := h6.row.cell (j := 1) rfl
  obtain ⟨ys, hys⟩ : ∃ ys : List Value, ys = [.int .i64 bl.1, .int .i64 bl.2, .int .i64 x.1, .int .i64 x.2.1, yo, yg, .int .i64 s.pred.1, .int .i64 s.pred.2, .int .i64 s.prep.1, .int .i64 s.prep.2.1, o2, g2, cc, .int .i64 s.done.1, .int .i64 s.done.2.1, o3, g3, .int .i64 s.bal.1, .int .i64 s.bal.2, v1, .bool true, .bool s.hp, .bool s.hd] := ⟨_, rfl⟩
  rw [← hys] at R6 hput
  have R6d : Row w6.drew w2.heap.size 33 ys := R6
  have hinf : (Try.prog.info? 33).map (·.size) = some ys.length := by rw [hys]; kernel_rfl
  clear hnew hys R6
  go_upto_region 5 with fail
  try go_simp
  refine wp_region_held_drew (S := fun u => Row u w2.heap.size 33 ys ∧ u.cell? ⟨b, 1, none⟩ = some (.map (some m))) (by kernel_rfl) ⟨R6d, c1⟩ (fun hS6 => ?_)
  refine wpAnyH_take (i := 0) (v := .pointer (some ⟨b, 0, none⟩)) rfl (by kernel_rfl) (by kernel_rfl) (by kernel_rfl) (fun _ _ _ h => h) (Or.inl ⟨by kernel_rfl, fun u hSu => by have q1 := hSu.2; go_simp⟩) hS6 ?_
  simp only [Act.put, List.setIfInBounds_toArray, List.set_cons_zero, List.set_cons_succ]
  refine wpAnyH_take (i := 1) (v := .pointer (some ⟨b, 0, none⟩)) rfl (by kernel_rfl) (by kernel_rfl) (by kernel_rfl) (fun _ _ _ h => h) (Or.inl ⟨by kernel_rfl, fun u hSu => by have q1 := hSu.2; go_simp⟩) hS6 ?_
  simp only [Act.put, List.setIfInBounds_toArray, List.set_cons_zero, List.set_cons_succ]
  refine wpAnyH_take (i := 2) (v := .pointer (some ⟨b, 1, none⟩)) rfl (by kernel_rfl) (by kernel_rfl) (by kernel_rfl) (fun _ _ _ h => h) (Or.inl ⟨by kernel_rfl, fun u hSu => by have q1 := hSu.2; go_simp⟩) hS6 ?_
  simp only [Act.put, List.setIfInBounds_toArray, List.set_cons_zero, List.set_cons_succ]
  refine wpAnyH_take (i := 3) (v := .map (some m)) rfl (by kernel_rfl) (by kernel_rfl) (by kernel_rfl) (fun _ _ _ h => h) (Or.inl ⟨by kernel_rfl, fun u hSu => by have q1 := hSu.2; go_simp⟩) hS6 ?_
  simp only [Act.put, List.setIfInBounds_toArray, List.set_cons_zero, List.set_cons_succ]
  refine wpAnyH_take (i := 4) (v := .int .i64 k) rfl (by kernel_rfl) (by kernel_rfl) (by kernel_rfl) (fun _ _ _ h => h) (Or.inl ⟨by kernel_rfl, fun u hSu => by have q1 := hSu.2; go_simp⟩) hS6 ?_
  simp only [Act.put, List.setIfInBounds_toArray, List.set_cons_zero, List.set_cons_succ]
  refine wpAnyH_take (i := 5) (v := .agg ys.toArray) rfl (by kernel_rfl) (by kernel_rfl) (by kernel_rfl) (fun _ _ _ h => h) (yieldsIf_load_mid (by kernel_rfl) _ _ rfl w2.heap.size 0 rfl ys _ (fun u hu => hu.1.rng) Try.underlying33 rfl hinf) hS6 ?_
  simp only [Act.put, List.setIfInBounds_toArray, List.set_cons_zero, List.set_cons_succ]
  refine wpAnyH_ready (rs := [6]) (by kernel_rfl) (by simp) ?_
  refine AllReadyH.cons (o := _) rfl (fun K hK => ?_) AllReadyH.nil
  go_simp
  refine hK.out _ _ ⟨R6d.grown (grown_drew2 g8) (fun e => by have := Option.some.inj e; omega), h8.row.cell (j := 1) rfl⟩ (fun _ => ?_)
  clear hK K
  refine wpAnyH_done (by kernel_rfl) ?_ _
  go_wp2_with fail
  go_ret
  exact ⟨by rw [HST.out]; rfl, by rw [HST.out]; exact h8, grown_trans (grown_trans (grown_of_below B5 _) g6 (.inr fun k hk => by have := Option.some.inj hk; omega)) g8 (.inl rfl)⟩
set_option maxRecDepth 10000 in
set_option maxHeartbeats 8000000 in
/-- window.Vote. -/
theorem voteW_old {G : Nat → Prop} {b m : Nat} {low : Int} {kn : List (Int × PSl)} (w : World) (h : Wnd G w b m low kn) (hg0 : Gd G b m w.heap.size) (bl : PBal) (k : Int) (rr : List Value) (x : PReq) (hx : RReq Any w rr x) (hzx : szQ x) (hin : inW low k = true) (hh0 : (atL kn k).hv = true) :
    Calls Try.prog 24 #[.pointer (some ⟨b, 0, none⟩), bal bl.1 bl.2, .int .i64 k, .agg rr.toArray] w fun e w' => e = .returned (.int .i64 (stV low kn bl k x).2) ∧ Wnd G w' b m low (stV low kn bl k x).1 ∧ w.grownBy w' (some m) := by
  obtain ⟨xo, xg, rfl, ho, hg⟩ := hx
  obtain ⟨w1, hw1⟩ : ∃ w1, w1 = w.alloc (.cells #[.int .i64 bl.1, .int .i64 bl.2] 27) := ⟨_, rfl⟩
  obtain ⟨w2, hw2⟩ : ∃ w2, w2 = w1.alloc (.cells #[.int .i64 x.1, .int .i64 x.2.1, xo, xg] 30) := ⟨_, rfl⟩
  have e1 : w1.heap.size = w.heap.size + 1 := by rw [hw1]; simp
  have e2 : w2.heap.size = w.heap.size + 2 := by rw [hw2]; simp [e1]
  have B1 : Below w.heap.size w w1 := by rw [hw1]; exact below_alloc _ _
  have B2 : Below w1.heap.size w1 w2 := by rw [hw2]; exact below_alloc _ _
  have R1 : Row w1 w.heap.size 27 [.int .i64 bl.1, .int .i64 bl.2] := by rw [hw1]; exact Row.new _ _ _
  have R2 : Row w2 (w.heap.size + 1) 30 [.int .i64 x.1, .int .i64 x.2.1, xo, xg] := by rw [hw2, ← e1]; exact Row.new _ _ _
  have R1 := R1.below B2
  have B : Below w.heap.size w w2 := below_and B1 (Nat.le_refl _) B2
  have hw : w2 = (w.alloc (.cells #[.int .i64 bl.1, .int .i64 bl.2] 27)).alloc (.cells #[.int .i64 x.1, .int .i64 x.2.1, xo, xg] 30) := by rw [hw2, hw1]
  have hN2 : w.heap.size + 2 ≤ w2.heap.size := Nat.le_of_eq e2.symm
  clear hw1 hw2 e1 e2 B1 B2
  have hlt := h.lt
  have h0 := h.mv (G' := GL G w.heap.size) (Nat.le_refl _) rfl rfl (fun j hj hlt => ⟨rfl, hj, hlt⟩)
  have h2 := h0.below B
  have c1 := h2.row.cell (j := 1) rfl
  obtain ⟨r0, hr0, hlk⟩ := h2.look k
  have hlk := hlk w2 rfl
  have hzs := h.ok.at k
  obtain ⟨s, hs⟩ : ∃ s, s = atL kn k := ⟨_, rfl⟩
  rw [← hs] at hr0 hzs
  have HSE := (show Hid (s = atL kn k) from hs)
  clear hs
  obtain ⟨o1, g1, o2, g2, cc, o3, g3, v1, rfl, t1, t2, t3, t4, t5, t6, t7, t8⟩ := hr0
  have hone := one_RSl (G := GL G w.heap.size) (w := w2) (x := s) ⟨o1, g1, o2, g2, cc, o3, g3, v1, rfl, t1, t2, t3, t4, t5, t6, t7, t8⟩
  have Rz := Row.new w2 33 [.int .i64 0, .int .i64 0, .int .i64 0, .int .i64 0, .slice none 0 0, .slice none 0 0, .int .i64 0, .int .i64 0, .int .i64 0, .int .i64 0, .slice none 0 0, .slice none 0 0, .slice none 0 0, .int .i64 0, .int .i64 0, .slice none 0 0, .slice none 0 0, .int .i64 0, .int .i64 0, .slice none 0 0, .bool false, .bool false, .bool false]
  have Bz := below_alloc w2 (.cells #[.int .i64 0, .int .i64 0, .int .i64 0, .int .i64 0, .slice none 0 0, .slice none 0 0, .int .i64 0, .int .i64 0, .int .i64 0, .int .i64 0, .slice none 0 0, .slice none 0 0, .slice none 0 0, .int .i64 0, .int .i64 0, .slice none 0 0, .slice none 0 0, .int .i64 0, .int .i64 0, .slice none 0 0, .bool false, .bool false, .bool false] 33)
  go_enter Try.func24, Try.ntmps24
  go_upto_region 1 with fail
  rw [← hw]
  clear hw
  go_upto_region 2 with (refine wl_store rfl _ _ _ rfl w2.heap.size [.int .i64 s.voted.1, .int .i64 s.voted.2, .int .i64 s.vote.1, .int .i64 s.vote.2.1, o1, g1, .int .i64 s.pred.1, .int .i64 s.pred.2, .int .i64 s.prep.1, .int .i64 s.prep.2.1, o2, g2, cc, .int .i64 s.done.1, .int .i64 s.done.2.1, o3, g3, .int .i64 s.bal.1, .int .i64 s.bal.2, v1, .bool s.hv, .bool s.hp, .bool s.hd] rfl rfl _ _ Rz rfl (by kernel_rfl) hone ?_; intro w3 R3 g3)
  have R3 := R3.out
  have B3 : Below w2.heap.size w2 w3 := Bz.trans (grown_below g3 Bz.size (fun k hk => by cases hk; exact Nat.le_refl _))
  have s3 : w2.heap.size < w3.heap.size := R3.lt
  clear Rz Bz g3 hlk c1 hone
  have h3 := h2.below B3
  have BB := below_and B (Nat.le_refl _) B3
  have R1 := R1.below B3
  have R2 := R2.below B3
  have hI := inW_any w3 h3 k
  have fh := R3.cell (j := 20) rfl
  have T1 := t1.mv (Mv.belowG B3); have T2 := t2.mv (Mv.belowG B3); have T3 := t3.mv (Mv.belowG B3); have T4 := t4.mv (Mv.belowG B3); have T5 := t5.mv mov_vote B3.size (Mv.belowG B3); have T6 := t6.mv (Mv.belowG B3); have T7 := t7.mv (Mv.belowG B3); have T8 := t8.mv mov_vote B3.size (Mv.belowG B3)
  have X1 := (ho.mv (Mv.below BB)); have X2 := (hg.mv (Mv.below BB))
  clear t1 t2 t3 t4 t5 t6 t7 t8 h2 ho hg
  rw [hin] at hI
  have hF := follow_any w3 s.voted bl [.int .i64 s.vote.1, .int .i64 s.vote.2.1, o1, g1] [.int .i64 x.1, .int .i64 x.2.1, xo, xg] s.vote x ⟨_, _, rfl, (T1.mv (Mv.any)), (T2.mv (Mv.any))⟩ ⟨_, _, rfl, X1, X2⟩
  have HSTEP := show Hid (∀ hh ff, s.hv = hh → fitL s.voted bl s.vote x = ff → stV low kn bl k x = if hh && !ff then (kn, 171) else (putL kn k { s with hv := true, voted := bl, vote := x }, 0)) from fun hh ff e1 e2 => by
    unfold stV voteS
    rw [hin, ← HSE.out, e1, e2]
    cases hh <;> cases ff <;> rfl
  have hh : s.hv = true := by rw [HSE.out]; exact hh0
  rw [hh] at fh
  have m0 := R1.cell (j := 0) rfl; have m1 := R1.cell (j := 1) rfl; have n0 := R2.cell (j := 0) rfl; have n1 := R2.cell (j := 1) rfl; have n2 := R2.cell (j := 2) rfl; have n3 := R2.cell (j := 3) rfl
  have k0 := R3.cell (j := 0) rfl; have k1 := R3.cell (j := 1) rfl; have k2 := R3.cell (j := 2) rfl; have k3 := R3.cell (j := 3) rfl; have k4 := R3.cell (j := 4) rfl; have k5 := R3.cell (j := 5) rfl
  cases hf : fitL s.voted bl s.vote x with
  | false =>
    rw [hf] at hF
    have HST := (show Hid (stV low kn bl k x = (kn, 171)) from HSTEP.out _ _ hh hf)
    go_wp2_with (first
  | (go_at_call 14; refine hI.mono ?_; rintro e w3 ⟨rfl, rfl⟩)
      | (go_at_call 41; refine hF.mono ?_; rintro e w5 ⟨rfl, b5⟩))
    go_ret
    exact ⟨by rw [HST.out]; rfl, by rw [HST.out]; exact (h3.below b5).ungl, grown_of_below (below_and BB (Nat.le_refl _) b5) _⟩
  | true =>
    rw [hf] at hF
    have HST := (show Hid (stV low kn bl k x = (putL kn k { s with hv := true, voted := bl, vote := x }, 0)) from HSTEP.out _ _ hh hf)
    go_upto_region 4 with (first
  | (go_at_call 14; refine hI.mono ?_; rintro e w3 ⟨rfl, rfl⟩)
      | (go_at_call 41; refine hF.mono ?_; rintro e w5 ⟨rfl, b5⟩))
    clear hF hI fh m0 m1 n0 n1 n2 n3 k0 k1 k2 k3 k4 k5
    have hs5 := b5.size
    have hsB := BB.size
    have h5 := h3.below b5
    have B5 := below_and BB (Nat.le_refl _) b5
    have Rb := R1.below b5
    have Rr := R2.below b5
    have Rs := R3.below b5
    have X5 : RReq Any w5 [.int .i64 x.1, .int .i64 x.2.1, xo, xg] x := ⟨_, _, rfl, X1.mv (Mv.below b5), X2.mv (Mv.below b5)⟩
    have HQ := (show Hid (∀ u, Below w5.heap.size w5 u → Calls Try.prog 42 #[.agg #[.int .i64 x.1, .int .i64 x.2.1, xo, xg]] u fun e w' => ∃ ao co ag cg, e = .returned (.agg #[.int .i64 x.1, .int .i64 x.2.1, .slice ao x.2.2.1.length co, .slice ag x.2.2.2.length cg]) ∧ RT (From w5.heap.size) w' (.slice ao x.2.2.1.length co) x.2.2.1 ∧ RT (From w5.heap.size) w' (.slice ag x.2.2.2.length cg) x.2.2.2 ∧ Below u.heap.size u w' ∧ Below w5.heap.size w5 w') from fun u hu => (cloneReqS_any u [.int .i64 x.1, .int .i64 x.2.1, xo, xg] x (mov_req _ _ _ _ _ _ X5 hu.size (Mv.below hu)) hzx).mono fun e w' ⟨r', e1, e2, e3⟩ => by
      obtain ⟨yo, yg, rfl, q1, q2⟩ := e2
      obtain ⟨ao, co, rfl, _⟩ := q1.form
      obtain ⟨ag, cg, rfl, _⟩ := q2.form
      exact ⟨ao, co, ag, cg, e1, q1.mv (Mv.weak hu.size), q2.mv (Mv.weak hu.size), e3, below_and hu (Nat.le_refl _) e3⟩)
    have RB := (show Hid (∀ u, Below w5.heap.size w5 u → Row u w.heap.size 27 [.int .i64 bl.1, .int .i64 bl.2]) from fun u hu => Rb.below hu)
    have RQ := (show Hid (∀ u, Below w5.heap.size w5 u → Row u (w.heap.size + 1) 30 [.int .i64 x.1, .int .i64 x.2.1, xo, xg]) from fun u hu => Rr.below hu)
    have RS := (show Hid (∀ u, Below w5.heap.size w5 u → Row u w2.heap.size 33 [.int .i64 s.voted.1, .int .i64 s.voted.2, .int .i64 s.vote.1, .int .i64 s.vote.2.1, o1, g1, .int .i64 s.pred.1, .int .i64 s.pred.2, .int .i64 s.prep.1, .int .i64 s.prep.2.1, o2, g2, cc, .int .i64 s.done.1, .int .i64 s.done.2.1, o3, g3, .int .i64 s.bal.1, .int .i64 s.bal.2, v1, .bool s.hv, .bool s.hp, .bool s.hd]) from fun u hu => Rs.below hu)
    have hdw : Below w5.heap.size w5 w5.drew := ⟨rfl, rfl, rfl, Nat.le_refl _, fun _ _ => rfl⟩
    have b0 := Rb.cell (j := 0) rfl; have b1 := Rb.cell (j := 1) rfl; have q0 := Rr.cell (j := 0) rfl; have q1 := Rr.cell (j := 1) rfl; have q2 := Rr.cell (j := 2) rfl; have q3 := Rr.cell (j := 3) rfl
    clear Rb Rr Rs X5
    try go_simp
    go_cut [] from 34 (fun wx => ∃ yo yg, Row wx w2.heap.size 33 [.int .i64 bl.1, .int .i64 bl.2, .int .i64 x.1, .int .i64 x.2.1, yo, yg, .int .i64 s.pred.1, .int .i64 s.pred.2, .int .i64 s.prep.1, .int .i64 s.prep.2.1, o2, g2, cc, .int .i64 s.done.1, .int .i64 s.done.2.1, o3, g3, .int .i64 s.bal.1, .int .i64 s.bal.2, v1, .bool true, .bool s.hp, .bool s.hd] ∧ RT (From w5.heap.size) wx yo x.2.2.1 ∧ RT (From w5.heap.size) wx yg x.2.2.2 ∧ w5.grownBy wx (some w2.heap.size))
    case first =>
      go_region_law (go_simp; go_at_call 42; refine (HQ.out _ (by first | (with_reducible exact Below.refl _ _) | (with_reducible exact hdw))).mono ?_; rintro e w7 ⟨ao, co, ag, cg, rfl, y1, y2, _, b7⟩; have r7 := RS.out _ b7; have f20 := r7.cell (j := 20) rfl; have z20 := r7.frozen 20; have f0 := r7.cell (j := 0) rfl; have z0 := r7.frozen 0; have f1 := r7.cell (j := 1) rfl; have z1 := r7.frozen 1; have f2 := r7.cell (j := 2) rfl; have z2 := r7.frozen 2; have f3 := r7.cell (j := 3) rfl; have z3 := r7.frozen 3; have f4 := r7.cell (j := 4) rfl; have z4 := r7.frozen 4; have f5 := r7.cell (j := 5) rfl; have z5 := r7.frozen 5; have rb7 := RB.out _ b7; have rq7 := RQ.out _ b7; have b0 := rb7.cell (j := 0) rfl; have b1 := rb7.cell (j := 1) rfl; have q0 := rq7.cell (j := 0) rfl; have q1 := rq7.cell (j := 1) rfl; have q2 := rq7.cell (j := 2) rfl; have q3 := rq7.cell (j := 3) rfl)
      all_goals (
        go_wp2_with fail
        go_meet
        case rel =>
          have hgr := grown_trans (grown_trans (grown_trans (grown_trans (grown_trans (grown_trans (grown_set w7 w2.heap.size 20 (.bool true)) (grown_set _ w2.heap.size 0 (.int .i64 bl.1)) (.inl rfl)) (grown_set _ w2.heap.size 1 (.int .i64 bl.2)) (.inl rfl)) (grown_set _ w2.heap.size 2 (.int .i64 x.1)) (.inl rfl)) (grown_set _ w2.heap.size 3 (.int .i64 x.2.1)) (.inl rfl)) (grown_set _ w2.heap.size 4 (.slice ao x.2.2.1.length co)) (.inl rfl)) (grown_set _ w2.heap.size 5 (.slice ag x.2.2.2.length cg)) (.inl rfl)
          exact ⟨_, _, (((((((r7.set 20 (.bool true)).set 0 (.int .i64 bl.1)).set 1 (.int .i64 bl.2)).set 2 (.int .i64 x.1)).set 3 (.int .i64 x.2.1)).set 4 (.slice ao x.2.2.1.length co)).set 5 (.slice ag x.2.2.2.length cg)), y1.mv (Mv.from (B := w5.heap.size) hgr (by omega) (Nat.le_refl _)), y2.mv (Mv.from (B := w5.heap.size) hgr (by omega) (Nat.le_refl _)), grown_trans (grown_of_below b7 _) hgr (.inl rfl)⟩)
    case rest =>
    obtain ⟨yo, yg, R6, y1, y2, g6⟩ := hcut
    clear b0 b1 q0 q1 q2 q3 HQ RB RQ RS hdw
    rename World => w6
    have hN : w.heap.size ≤ w2.heap.size := by omega
    have h6 := h5.mv g6.size (g6.block b h5.lt.1 (fun e => by have := Option.some.inj e; omega)) (g6.block m h5.lt.2 (fun e => by have := Option.some.inj e; omega)) (Mv.gl g6 hN)
    have T3 := ((T3.mv (Mv.belowG b5)).mv (Mv.gl g6 hN)).mv Mv.ungl
    have T4 := ((T4.mv (Mv.belowG b5)).mv (Mv.gl g6 hN)).mv Mv.ungl
    have T5 := ((T5.mv mov_vote b5.size (Mv.belowG b5)).mv mov_vote g6.size (Mv.gl g6 hN)).mv mov_vote (Nat.le_refl _) Mv.ungl
    have T6 := ((T6.mv (Mv.belowG b5)).mv (Mv.gl g6 hN)).mv Mv.ungl
    have T7 := ((T7.mv (Mv.belowG b5)).mv (Mv.gl g6 hN)).mv Mv.ungl
    have T8 := ((T8.mv mov_vote b5.size (Mv.belowG b5)).mv mov_vote g6.size (Mv.gl g6 hN)).mv mov_vote (Nat.le_refl _) Mv.ungl
    have hlt5 := h5.lt
    have hnew : RSl G w6 [.int .i64 bl.1, .int .i64 bl.2, .int .i64 x.1, .int .i64 x.2.1, yo, yg, .int .i64 s.pred.1, .int .i64 s.pred.2, .int .i64 s.prep.1, .int .i64 s.prep.2.1, o2, g2, cc, .int .i64 s.done.1, .int .i64 s.done.2.1, o3, g3, .int .i64 s.bal.1, .int .i64 s.bal.2, v1, .bool true, .bool s.hp, .bool s.hd] { s with hv := true, voted := bl, vote := x } := ⟨_, _, _, _, _, _, _, _, rfl, y1.mv (Mv.fresh (fun j hj => hg0.fr j (by omega))), y2.mv (Mv.fresh (fun j hj => hg0.fr j (by omega))), T3, T4, T5, T6, T7, T8⟩
    obtain ⟨w8, hput, h8, g8⟩ := h6.ungl.put hg0.nb k [.int .i64 bl.1, .int .i64 bl.2, .int .i64 x.1, .int .i64 x.2.1, yo, yg, .int .i64 s.pred.1, .int .i64 s.pred.2, .int .i64 s.prep.1, .int .i64 s.prep.2.1, o2, g2, cc, .int .i64 s.done.1, .int .i64 s.done.2.1, o3, g3, .int .i64 s.bal.1, .int .i64 s.bal.2, v1, .bool true, .bool s.hp, .bool s.hd] _ hnew hin (by simp [known]) (show szSl { s with hv := true, voted := bl, vote := x } from ⟨hzx, hzs.2⟩)
    have c1 := h6.row.cell (j := 1) rfl
    obtain ⟨ys, hys⟩ : ∃ ys : List Value, ys = [.int .i64 bl.1, .int .i64 bl.2, .int .i64 x.1, .int .i64 x.2.1, yo, yg, .int .i64 s.pred.1, .int .i64 s.pred.2, .int .i64 s.prep.1, .int .i64 s.prep.2.1, o2, g2, cc, .int .i64 s.done.1, .int .i64 s.done.2.1, o3, g3, .int .i64 s.bal.1, .int .i64 s.bal.2, v1, .bool true, .bool s.hp, .bool s.hd] := ⟨_, rfl⟩
    rw [← hys] at R6 hput
    have R6d : Row w6.drew w2.heap.size 33 ys := R6
    have hinf : (Try.prog.info? 33).map (·.size) = some ys.length := by rw [hys]; kernel_rfl
    clear hnew hys R6
    go_upto_region 5 with fail
    try go_simp
    refine wp_region_held_drew (S := fun u => Row u w2.heap.size 33 ys ∧ u.cell? ⟨b, 1, none⟩ = some (.map (some m))) (by kernel_rfl) ⟨R6d, c1⟩ (fun hS6 => ?_)
    refine wpAnyH_take (i := 0) (v := .pointer (some ⟨b, 0, none⟩)) rfl (by kernel_rfl) (by kernel_rfl) (by kernel_rfl) (fun _ _ _ h => h) (Or.inl ⟨by kernel_rfl, fun u hSu => by have q1 := hSu.2; go_simp⟩) hS6 ?_
    simp only [Act.put, List.setIfInBounds_toArray, List.set_cons_zero, List.set_cons_succ]
    refine wpAnyH_take (i := 1) (v := .pointer (some ⟨b, 0, none⟩)) rfl (by kernel_rfl) (by kernel_rfl) (by kernel_rfl) (fun _ _ _ h => h) (Or.inl ⟨by kernel_rfl, fun u hSu => by have q1 := hSu.2; go_simp⟩) hS6 ?_
    simp only [Act.put, List.setIfInBounds_toArray, List.set_cons_zero, List.set_cons_succ]
    refine wpAnyH_take (i := 2) (v := .pointer (some ⟨b, 1, none⟩)) rfl (by kernel_rfl) (by kernel_rfl) (by kernel_rfl) (fun _ _ _ h => h) (Or.inl ⟨by kernel_rfl, fun u hSu => by have q1 := hSu.2; go_simp⟩) hS6 ?_
    simp only [Act.put, List.setIfInBounds_toArray, List.set_cons_zero, List.set_cons_succ]
    refine wpAnyH_take (i := 3) (v := .map (some m)) rfl (by kernel_rfl) (by kernel_rfl) (by kernel_rfl) (fun _ _ _ h => h) (Or.inl ⟨by kernel_rfl, fun u hSu => by have q1 := hSu.2; go_simp⟩) hS6 ?_
    simp only [Act.put, List.setIfInBounds_toArray, List.set_cons_zero, List.set_cons_succ]
    refine wpAnyH_take (i := 4) (v := .int .i64 k) rfl (by kernel_rfl) (by kernel_rfl) (by kernel_rfl) (fun _ _ _ h => h) (Or.inl ⟨by kernel_rfl, fun u hSu => by have q1 := hSu.2; go_simp⟩) hS6 ?_
    simp only [Act.put, List.setIfInBounds_toArray, List.set_cons_zero, List.set_cons_succ]
    refine wpAnyH_take (i := 5) (v := .agg ys.toArray) rfl (by kernel_rfl) (by kernel_rfl) (by kernel_rfl) (fun _ _ _ h => h) (yieldsIf_load_mid (by kernel_rfl) _ _ rfl w2.heap.size 0 rfl ys _ (fun u hu => hu.1.rng) Try.underlying33 rfl hinf) hS6 ?_
    simp only [Act.put, List.setIfInBounds_toArray, List.set_cons_zero, List.set_cons_succ]
    refine wpAnyH_ready (rs := [6]) (by kernel_rfl) (by simp) ?_
    refine AllReadyH.cons (o := _) rfl (fun K hK => ?_) AllReadyH.nil
    go_simp
    refine hK.out _ _ ⟨R6d.grown (grown_drew2 g8) (fun e => by have := Option.some.inj e; omega), h8.row.cell (j := 1) rfl⟩ (fun _ => ?_)
    clear hK K
    refine wpAnyH_done (by kernel_rfl) ?_ _
    go_wp2_with fail
    go_ret
    exact ⟨by rw [HST.out]; rfl, by rw [HST.out]; exact h8, grown_trans (grown_trans (grown_of_below B5 _) g6 (.inr fun k hk => by have := Option.some.inj hk; omega)) g8 (.inl rfl)⟩
theorem voteW_any {G : Nat → Prop} {b m : Nat} {low : Int} {kn : List (Int × PSl)} (w : World) (h : Wnd G w b m low kn) (hg0 : Gd G b m w.heap.size) (bl : PBal) (k : Int) (rr : List Value) (x : PReq) (hx : RReq Any w rr x) (hzx : szQ x) :
    Calls Try.prog 24 #[.pointer (some ⟨b, 0, none⟩), bal bl.1 bl.2, .int .i64 k, .agg rr.toArray] w fun e w' => e = .returned (.int .i64 (stV low kn bl k x).2) ∧ Wnd G w' b m low (stV low kn bl k x).1 ∧ w.grownBy w' (some m) := by
  cases hin : inW low k with
  | false => exact voteW_out w h hg0 bl k rr x hx hzx hin
  | true =>
    cases hh : (atL kn k).hv with
    | false => exact voteW_new w h hg0 bl k rr x hx hzx hin hh
    | true => exact voteW_old w h hg0 bl k rr x hx hzx hin hh
end Go.Proofs.Ytjloehkolnjnhaa
