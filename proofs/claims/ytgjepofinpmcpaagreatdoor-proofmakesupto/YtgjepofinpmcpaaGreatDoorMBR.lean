/- The walks over the document's comparisons: messages. (Laid by mk5s.py.) -/
import Derived.Test.YtgjepofinpmcpaaGreatDoorMBM
import Derived.Test.YtgjepofinpmcpaaGreatDoorMBQ
import Derived.Test.YtgjepofinpmcpaaGreatDoorMBF
import Derived.Test.YtgjepofinpmcpaaGreatDoorMAT
set_option linter.unusedSimpArgs false
set_option linter.unusedVariables false
namespace Go.Proofs.YtgjepofinpmcpaaGreatDoor
section
open Go.RowKit Oct Kvl
theorem zHj {G : Nat → Prop} (w : World) (b m : Nat) (ls : List PSn) (h : Lg G w b m ls) (hG : ∀ k, G k → k ≠ m) (k x y sl i : Int) (v : Value) (r : zB3) (g : List Int) (hv : RCh G w v r g false) (hr : tot [r.2.2.1, r.2.2.2] ≤ 2000000) (hg : szT g) :
    Calls Tryz.prog 63 #[.pointer (some ⟨b, 0, none⟩), kv (k, x, y, sl, i), v] w fun e w' => MtP G w b m ls (k, x, y, sl, i) r g e w' := by
  cases hf : fnd (k, x, y, sl, i) (zDi ls) with
  | none => exact zRi w b m ls h hG k x y sl i hf v r g hv hr hg
  | some j =>
    obtain ⟨⟨zk, zr, zs, zt⟩, hz, hk⟩ := fnd_at hf
    simp only at hk
    subst hk
    exact zRm w b m ls h hG k x y sl i j zr zs zt hf hz v r g hv hr hg
def RMs (G : Nat → Prop) (w : World) (r : List Value) (M : PMsg) : Prop := ∃ s, r = mc M s ∧ SOk G w M s
theorem zIb : Mov RMs := fun _ _ _ _ _ _ h hs hm => by
  obtain ⟨s, e, h1⟩ := h
  exact ⟨s, e, h1.mv hs hm⟩
theorem Tryz.inf_msg : (Tryz.prog.info? 40).map (fun i => (i.zero, i.size, i.bytes)) = some (some (.agg z23.toArray), 23, 360) := by kernel_rfl
theorem LB.nrow {α : Type} {R : (Nat → Prop) → World → List Value → α → Prop} {t : TypeId} {k B : Nat} {w : World} {v : Value} {ys : List α} (h : LB R t k B w v ys) {b : Nat} {t' : TypeId} {xs : List Value} (hr : Row w b t' xs) (he : t ≠ t') : v.ownBlock ≠ some b := by
  intro hk
  obtain ⟨rows, _, h1, _, _⟩ := h
  rcases h1.2 with ⟨rfl, _⟩ | ⟨g, _, cur, rfl, _, hg, _⟩
  · simp [Value.ownBlock] at hk
  · simp [Value.ownBlock] at hk
    subst hk
    unfold Row at hr
    rw [hg] at hr
    simp at hr
    exact he hr.2
def GE (m : Nat) (ev : Value) : Nat → Prop := fun k => k ≠ m ∧ ev.ownBlock ≠ some k
theorem ge_ne {m : Nat} {ev : Value} : ∀ k, GE m ev k → k ≠ m := fun _ h => h.1
theorem toGE {m B : Nat} {ev : Value} {w : World} (hm : m < B) (hv : ∀ g, ev.ownBlock = some g → g < B) : Mv (zB0 B) (GE m ev) w w := fun k hk _ => ⟨rfl, by unfold zB0 at hk; omega, fun e => by have := hv k e; unfold zB0 at hk; omega⟩
theorem mv_ev {m : Nat} {ev ev' : Value} {w w' : World} (hg : w.grownBy w' ev.ownBlock) (hs : Spt w ev ev') : Mv (GE m ev) (GE m ev') w w' := fun k hk hlt => by
  refine ⟨hg.block k hlt (fun e => hk.2 e.symm), hk.1, fun e => ?_⟩
  rcases hs with h | h
  · exact hk.2 (h.symm.trans e)
  · have := h k e; omega
theorem Lg.ev {m b : Nat} {ev ev' : Value} {w w' : World} {ls : List PSn} (h : Lg (GE m ev) w b m ls) (hg : w.grownBy w' ev.ownBlock) (hs : Spt w ev ev') (hb : ev.ownBlock ≠ some b) (hm : ev.ownBlock ≠ some m) : Lg (GE m ev') w' b m ls :=
  h.mv (hg.block b h.lt.1 (fun e => hb e.symm)) (hg.block m h.lt.2 (fun e => hm e.symm)) (mv_ev hg hs)
theorem Lg.ntab {G : Nat → Prop} {w : World} {b m : Nat} {ls : List PSn} (h : Lg G w b m ls) (hT : Tab w) : (some m : Option Nat) ≠ some 1 := by
  intro e
  have e := Option.some.inj e
  obtain ⟨l, h1, _⟩ := h.map
  have h2 := hT 0 (by decide)
  rw [← e, h1.nocell 0] at h2
  cases h2
theorem Lg.nrow {G : Nat → Prop} {w : World} {b m : Nat} {ls : List PSn} (h : Lg G w b m ls) {c : Nat} {t : TypeId} {x : Value} {xs : List Value} (hr : Row w c t (x :: xs)) : (some m : Option Nat) ≠ some c := fun e => by
  have e := Option.some.inj e
  obtain ⟨l, h1, _⟩ := h.map
  have h2 := hr.cell (j := 0) rfl
  rw [← e, h1.nocell 0] at h2
  cases h2
def MdP (m : Nat) (ev : Value) (w : World) (b : Nat) (ls : List PSn) (q : PK) (r : zB3) (g : List Int) (cB : Nat) (t : Bool) (cs : List Value) (w' : World) : Prop :=
  Row w' cB 40 cs ∧ (((zBw ls q r g).2 = [] ∧ t = false) ∨ ∃ M s, (zBw ls q r g).2 = [M] ∧ t = true ∧ cs = mc M s ∧ SOk (zB0 w.heap.size) w' M s) ∧ Lg (GE m ev) w' b m (zBw ls q r g).1 ∧ w.grownBy w' (some m)
theorem MtP.uni {G : Nat → Prop} {w : World} {b m : Nat} {ls : List PSn} {q : PK} {r : zB3} {g : List Int} {e : Ending} {w' : World} (h : MtP G w b m ls q r g e w') :
    ∃ (cs : List Value) (t : Bool), e = .returned (.tuple #[.agg cs.toArray, .bool t]) ∧ cs.length = 23 ∧ (∀ v ∈ cs, v.oneCell' = true) ∧ (((zBw ls q r g).2 = [] ∧ t = false) ∨ ∃ M s, (zBw ls q r g).2 = [M] ∧ t = true ∧ cs = mc M s ∧ SOk (zB0 w.heap.size) w' M s) ∧
      Lg G w' b m (zBw ls q r g).1 ∧ w.grownBy w' (some m) := by
  obtain ⟨h1, h2, h3⟩ := h
  rcases h1 with ⟨a1, a2⟩ | ⟨M, s, a1, a2, a3⟩
  · exact ⟨z23, false, a2, rfl, zNt, .inl ⟨a1, rfl⟩, h2, h3⟩
  · exact ⟨mc M s, true, a2, rfl, a3.one, .inr ⟨M, s, a1, rfl, rfl, a3⟩, h2, h3⟩
theorem Lg.box {G G' : Nat → Prop} {w w' : World} {b m c : Nat} {ls : List PSn} (h : Lg G' w b m ls) (hg : w.grownBy w' (some c)) (hb : b ≠ c) (hm : m ≠ c) (hG : ∀ k, k < w.heap.size → G' k → k ≠ c ∧ G k) : Lg G w' b m ls :=
  h.mv (hg.block b h.lt.1 (fun e => hb (Option.some.inj e))) (hg.block m h.lt.2 (fun e => hm (Option.some.inj e))) (fun k hk hlt => ⟨hg.block k hlt (fun e => (hG k hlt hk).1 (Option.some.inj e)), (hG k hlt hk).2⟩)
theorem zTk {L : List PMsg} {t : Bool} {cs : List Value} {B B' : Nat} {w w' : World} (hm : Mv (zB0 B) (zB0 B') w w') (hs : w.heap.size ≤ w'.heap.size) (h : (L = [] ∧ t = false) ∨ ∃ M s, L = [M] ∧ t = true ∧ cs = mc M s ∧ SOk (zB0 B) w M s) :
    (L = [] ∧ t = false) ∨ ∃ M s, L = [M] ∧ t = true ∧ cs = mc M s ∧ SOk (zB0 B') w' M s := by
  rcases h with h | ⟨M, s, h1, h2, h3, h4⟩
  · exact .inl h
  · exact .inr ⟨M, s, h1, h2, h3, h4.mv hs hm⟩
theorem zTr {B B' c : Nat} {w w' : World} (hg : w.grownBy w' (some c)) (hc : c < B ∨ w.heap.size ≤ c) (hB : B' ≤ B) : Mv (zB0 B) (zB0 B') w w' := fun k hk hlt => by
  unfold zB0 at hk
  exact ⟨hg.block k hlt (fun e => by have := Option.some.inj e; omega), Nat.le_trans hB hk⟩
structure NI (w : World) (b m c5 : Nat) (ls : List PSn) (k x y s : Int) (r : zB3) (vs : List zAy) (vb vv o4 p4 : Value) (j : Nat) (ev : Value) (wr : World) : Prop where
  lg : Lg (GE m ev) wr b m (noteV ls k x y s r (vs.take j)).1
  lb : LB RMs 40 23 w.heap.size wr ev (noteV ls k x y s r (vs.take j)).2
  own : Row wr c5 34 [.int .i64 r.1, .int .i64 r.2.1, o4, p4]
  bal : Row wr w.heap.size 32 [.int .i64 x, .int .i64 y]
  o : RT (GE m ev) wr o4 r.2.2.1
  p : RT (GE m ev) wr p4 r.2.2.2
  bd : RT (GE m ev) wr vb (zB6 r)
  vt : RL zAz 2 (GE m ev) wr vv vs
  gr : w.grownBy wr (some m)
  tab : Tab wr
section
variable {w : World} {b m c5 : Nat} {ls : List PSn} {k x y s : Int} {r : zB3} {vs : List zAy} {vb vv o4 p4 : Value} {j : Nat} {ev : Value} {wr wx : World}
theorem NI.below (h : NI w b m c5 ls k x y s r vs vb vv o4 p4 j ev wr) (hb : Below wr.heap.size wr wx) : NI w b m c5 ls k x y s r vs vb vv o4 p4 j ev wx :=
  ⟨h.lg.below hb, h.lb.below zIb hb, h.own.below hb, h.bal.below hb, h.o.mv (Mv.belowG hb), h.p.mv (Mv.belowG hb), h.bd.mv (Mv.belowG hb), h.vt.mv zA9 hb.size (Mv.belowG hb), zA2 h.gr (zA8 hb _) (.inl rfl), h.tab.below hb⟩
theorem NI.skip (h : NI w b m c5 ls k x y s r vs vb vv o4 p4 j ev wr) {V : zAy} (hV : vs[j]? = some V) (hn : zMn k x y s r V = false) : NI w b m c5 ls k x y s r vs vb vv o4 p4 (j + 1) ev wr := by
  have e : noteV ls k x y s r (vs.take (j + 1)) = noteV ls k x y s r (vs.take j) := by rw [zGr hV, stp_no hn]
  exact ⟨by rw [e]; exact h.lg, by rw [e]; exact h.lb, h.own, h.bal, h.o, h.p, h.bd, h.vt, h.gr, h.tab⟩
theorem NI.met (h : NI w b m c5 ls k x y s r vs vb vv o4 p4 j ev wr) (hm : m < w.heap.size) (hg : wr.grownBy wx (some m)) : (LB RMs 40 23 w.heap.size wx ev (noteV ls k x y s r (vs.take j)).2 ∧ Row wx c5 34 [.int .i64 r.1, .int .i64 r.2.1, o4, p4] ∧
    Row wx w.heap.size 32 [.int .i64 x, .int .i64 y] ∧ RT (GE m ev) wx o4 r.2.2.1 ∧ RT (GE m ev) wx p4 r.2.2.2 ∧ RT (GE m ev) wx vb (zB6 r) ∧ RL zAz 2 (GE m ev) wx vv vs ∧ w.grownBy wx (some m) ∧ Tab wx) := by
  have hmv : Mv (GE m ev) (GE m ev) wr wx := Mv.nm ge_ne hg
  have hc : (some m : Option Nat) ≠ some c5 := fun e => by
    have e := Option.some.inj e
    obtain ⟨l, h1, _⟩ := h.lg.map
    have h2 := h.own.cell (j := 0) rfl
    rw [← e, h1.nocell 0] at h2
    cases h2
  exact ⟨h.lb.grown zIb hg hm, h.own.grown hg hc, h.bal.grown hg (zCe hm 0), h.o.mv hmv, h.p.mv hmv, h.bd.mv hmv, h.vt.mv zA9 hg.size hmv, zA2 h.gr hg (.inl rfl), h.tab.grown hg (h.lg.ntab h.tab)⟩
theorem NI.meet0 (h : NI w b m c5 ls k x y s r vs vb vv o4 p4 j ev wr) (hm : m < w.heap.size) {V : zAy} (hV : vs[j]? = some V) (hy : zMn k x y s r V = true) (h0 : (zBw (noteV ls k x y s r (vs.take j)).1 (k, x, y, s, V.1) r V.2).2 = [])
    (hg : wr.grownBy wx (some m)) (hl : Lg (GE m ev) wx b m (zBw (noteV ls k x y s r (vs.take j)).1 (k, x, y, s, V.1) r V.2).1) : NI w b m c5 ls k x y s r vs vb vv o4 p4 (j + 1) ev wx := by
  have e : noteV ls k x y s r (vs.take (j + 1)) = ((zBw (noteV ls k x y s r (vs.take j)).1 (k, x, y, s, V.1) r V.2).1, (noteV ls k x y s r (vs.take j)).2) := by rw [zGr hV, zV2 hy, h0, List.append_nil]
  obtain ⟨a1, a2, a3, a4, a5, a6, a7, a8, a9⟩ := h.met hm hg
  exact ⟨by rw [e]; exact hl, by rw [e]; exact a1, a2, a3, a4, a5, a6, a7, a8, a9⟩
theorem NI.meet1 {ev' : Value} {wy : World} (h : NI w b m c5 ls k x y s r vs vb vv o4 p4 j ev wr) (hp : 1 < w.heap.size) (hm : m < w.heap.size) (hb : b < w.heap.size) {V : zAy} (hV : vs[j]? = some V) (hy : zMn k x y s r V = true) {M : PMsg} (h1 : (zBw (noteV ls k x y s r (vs.take j)).1 (k, x, y, s, V.1) r V.2).2 = [M])
    (hg : wr.grownBy wx (some m)) (hl : Lg (GE m ev) wx b m (zBw (noteV ls k x y s r (vs.take j)).1 (k, x, y, s, V.1) r V.2).1)
    (hL : LB RMs 40 23 w.heap.size wy ev' ((noteV ls k x y s r (vs.take j)).2 ++ [M])) (hg2 : wx.grownBy wy ev.ownBlock) (hs : Spt wx ev ev') : NI w b m c5 ls k x y s r vs vb vv o4 p4 (j + 1) ev' wy := by
  have e : noteV ls k x y s r (vs.take (j + 1)) = ((zBw (noteV ls k x y s r (vs.take j)).1 (k, x, y, s, V.1) r V.2).1, (noteV ls k x y s r (vs.take j)).2 ++ [M]) := by rw [zGr hV, zV2 hy, h1]
  obtain ⟨a1, a2, a3, a4, a5, a6, a7, a8, a9⟩ := h.met hm hg
  have hmv : Mv (GE m ev) (GE m ev') wx wy := mv_ev hg2 hs
  have hfr := a1.fr
  have hn : ∀ q, q < w.heap.size → ev.ownBlock ≠ some q := fun q hq e => by have := hfr q e; omega
  refine ⟨by rw [e]; exact hl.ev hg2 hs (hn b hb) (hn m hm), by rw [e]; exact hL, a2.grown hg2 (a1.nrow a2 (by decide)), a3.grown hg2 (a1.nrow a3 (by decide)), a4.mv hmv, a5.mv hmv, a6.mv hmv, a7.mv zA9 hg2.size hmv,
    zA2 a8 hg2 (.inr fun q hq => hfr q hq), a9.grown hg2 (hn _ hp)⟩
end
section
variable {P : Program}
theorem zFp {ops : Array Oper} {o : Oper} {a : Act} {w : World} {K : Act → World → Prop} {Q : Exit → Act → World → Prop} {E : Prop} (hgd : o.guard = none) (ty : TypeId) (x y : Operand) (ho : o.op = .store ty x y)
    (b : Nat) (ys : List Value) (hx : a.eval x = .pointer (some ⟨b, 0, none⟩)) (hy : a.eval y = .agg ys.toArray) (t : TypeId) (xs : List Value) (h : Row w b t xs) (hl : xs.length = ys.length)
    (hs : (P.info? ty).map (·.size) = some ys.length) (h1 : ∀ v ∈ ys, v.oneCell' = true) (k : ∀ w', Row w' b t ys → w.grownBy w' (some b) → K (a.put o.dst undef) w') :
    if Region.wanted o (yielded ops a.tmps) = true then Oper.wp P o a w K Q else E := by
  have hw : Region.wanted o (yielded ops a.tmps) = true := by simp [Region.wanted, hgd]
  rw [if_pos hw]
  unfold Oper.wp execOp
  simp only [ho, hx, hy, Sem.run_bind, Sem.run_pure, Result.andThen_ok, h.store ty ys hl hs h1]
  exact k _ (h.setRow ys) (zBn _ _ _)
end
end
section
open Go.RowKit Oct Kvl
def sgn (k x y s : Int) (r : zB3) (i : Int) : List Int := zGk (zHb i) (sL ⟨#[118, 111, 116, 101]⟩) [zBp [k, x, y, s], zB6 r]
end
section
open Go.RowKit Oct Sha
theorem zPp (l : List Int) : (zNv l).length = 32 := zL0 _
theorem zLt {k : Int} (d : List Int) (ll : List (List Int)) (h0 : 0 ≤ k) (h1 : k ≤ 127) : (zGk k d ll).length = 32 := by rw [zIr _ _ h0 h1, zPp]
theorem zSq {k : Int} (d : List Int) (ll : List (List Int)) (h0 : 0 ≤ k) (h1 : k ≤ 127) : zPz k (zGk k d ll) d ll = true := by rw [zPz, if_pos ⟨h0, h1⟩, decide_eq_true rfl]
end
section
open Go.RowKit Oct
section
variable {P : Program}
end
end
section
open Go.RowKit Oct
theorem zBf {w u : World} (hu : Below w.heap.size w u) {a : Addr} {v : Value} (h : w.cell? a = some v) : u.cell? a = some v := (hu.cell (World.block_lt_of_cell? w a h)).trans h
theorem zUl {α : Type} {R : (Nat → Prop) → World → List Value → α → Prop} {k : Nat} {G : Nat → Prop} {w : World} {v : Value} {ys : List α} (h : RL R k G w v ys) : (ys.length : Int) ≤ 9223372036854775807 := by
  rcases Nat.eq_zero_or_pos ys.length with h0 | h0
  · omega
  · obtain ⟨_, _, c, e, h1, h2, _⟩ := h.at h0
    unfold maxLen at h2
    omega
end
end Go.Proofs.YtgjepofinpmcpaaGreatDoor
