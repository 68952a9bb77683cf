/- WindowOnce: a window, and two lists of what it took. -/
import Derived.Test.YtjloehkolnjnhaaXOBW
import Derived.Test.YtjloehkolnjnhaaXOBH
import Derived.Test.YtjloehkolnjnhaaXOAV
import Derived.Test.YtjloehkolnjnhaaXOAK
set_option linter.unusedSimpArgs false
set_option linter.unusedVariables false
namespace Go.Proofs.Ytjloehkolnjnhaa
open Go.RowKit Oct Kvl Bal
theorem tk_act {low : Int} {kn : List (Int × PSl)} {p : PPrep} (h : tkOk low kn p) (a : PWAct) : tkOk (stA low kn a).1.1 (stA low kn a).1.2 p := by
  unfold stA
  split
  · exact (tk_vote h _ _ _).1
  split
  · exact tk_prep h _ _ _ _
  split
  · exact tk_done h _ _ _ _
  split
  · exact tk_cut h _
  · exact h
theorem dn_act {low : Int} {kn : List (Int × PSl)} {p : PPrep} (h : dnOk low kn p) (a : PWAct) : dnOk (stA low kn a).1.1 (stA low kn a).1.2 p := by
  unfold stA
  split
  · exact dn_vote h _ _ _
  split
  · exact dn_prep h _ _ _ _
  split
  · exact (dn_done h _ _ _ _).1
  split
  · exact dn_cut h _
  · exact h
/-- A vote that is taken: what the law asks of each that was. -/
theorem act_vote {low : Int} {kn : List (Int × PSl)} {a : PWAct} (k0 : a.1 = 0) (he : (stA low kn a).2 = 0) : tkOk (stA low kn a).1.1 (stA low kn a).1.2 a.2 ∧ ∀ p, tkOk low kn p → p.1 = a.2.1 → notUp p.2.1 a.2.2.1 p.2.2.1 a.2.2.2.1 := by
  obtain ⟨kd, k, b, x, c⟩ := a
  simp only at k0
  subst k0
  have e : stA low kn (0, k, b, x, c) = ((low, (stV low kn b k x).1), (stV low kn b k x).2) := by unfold stA; rw [if_pos rfl]
  rw [e] at he ⊢
  exact ⟨tk_new he, fun p hp hk => (tk_vote hp b k x).2 he hk⟩
theorem act_done {low : Int} {kn : List (Int × PSl)} {a : PWAct} (k2 : a.1 = 2) (he : (stA low kn a).2 = 0) : dnOk (stA low kn a).1.1 (stA low kn a).1.2 a.2 ∧ ∀ p, dnOk low kn p → p.1 = a.2.1 → p.2.2.1 = a.2.2.2.1 := by
  obtain ⟨kd, k, b, x, c⟩ := a
  simp only at k2
  subst k2
  have e : stA low kn (2, k, b, x, c) = ((low, (stD low kn b k x c).1), (stD low kn b k x c).2) := by unfold stA; rw [if_neg (by simp), if_neg (by simp), if_pos rfl]
  rw [e] at he ⊢
  exact ⟨dn_new he, fun p hp hk => (dn_done hp b k x c).2 he hk⟩
theorem LB.gw {α : Type} {R : (Nat → Prop) → World → List Value → α → Prop} (hR : Mov R) {t : TypeId} {k B b m : Nat} {w w' : World} {v : Value} {ys : List α} (h : LB R t k B w v ys) (hc : Gw w w' b m) (h3 : b < B) (h4 : m < B) : LB R t k B w' v ys := by
  obtain ⟨rows, h0, h1, h2, hall⟩ := h
  refine ⟨rows, h0, ?_, h2, hall.mono fun r a h => hR _ _ w w' r a h hc.size fun j hj hlt => ⟨hc.block j hlt (by have := hj.1; omega) (by have := hj.1; omega), hj⟩⟩
  refine ⟨h1.1, ?_⟩
  rcases h1.2 with hn | ⟨g, cap, cur, e, g1, g2, g3⟩
  · exact .inl hn
  · have hg := h2 g (by rw [e]; rfl)
    refine .inr ⟨g, cap, cur, e, g1, ?_, g3⟩
    have hlt := (World.ownsRow.lt h1 g (by rw [e]; rfl)).2
    rw [hc.block g hlt (by omega) (by omega)]
    exact g2
theorem Try.infPrepW : (Try.prog.info? 39).map (fun i => (i.zero, i.size, i.bytes)) = some (some (.agg #[.int .i64 0, .int .i64 0, .int .i64 0, .int .i64 0, .int .i64 0, .slice none 0 0, .slice none 0 0, .slice none 0 0]), 8, 112) := by kernel_rfl
/-- What was prepared, its texts in an elder world. -/
def RPc (W : World) : (Nat → Prop) → World → List Value → PPrep → Prop := fun _ _ r x => RPrep Any W r x
theorem mov_pc (W : World) : Mov (RPc W) := fun _ _ _ _ _ _ h _ _ => h
theorem LB.fromV {α : Type} {R : (Nat → Prop) → World → List Value → α → Prop} {t : TypeId} {k B : Nat} {w w' : World} {v u : Value} {ys : List α} (h : LB R t k B w v ys) (hg : w.grownBy w' u.ownBlock) (hn : ∀ g, u.ownBlock = some g → v.ownBlock ≠ some g) (hM : ∀ r y, R (fun b => B ≤ b ∧ v.ownBlock ≠ some b) w r y → R (fun b => B ≤ b ∧ v.ownBlock ≠ some b) w' r y) : LB R t k B w' v ys := by
  obtain ⟨rows, h0, h1, h2, h3⟩ := h
  refine ⟨rows, h0, World.ownsRow.kept (row := u.ownBlock) h1 hg ?_, h2, h3.mono fun r y hr => hM r y hr⟩
  cases hu : u.ownBlock with
  | none => cases hv : v.ownBlock <;> simp
  | some g =>
    have := hn g hu
    cases hv : v.ownBlock with
    | none => simp
    | some q => rw [hv] at this; simpa using fun e => this (by rw [e])
theorem RT.lowW {w : World} {v : Value} {l : List Int} (h : RT Any w v l) : RT (fun k => k < w.heap.size) w v l := ⟨h.1, fun hx k hk => h.1.lt hx k hk⟩
theorem RL.lowW {w : World} {v : Value} {ys : List PVote} (h : RL RVote 2 Any w v ys) : RL RVote 2 (fun k => k < w.heap.size) w v ys := by
  obtain ⟨rows, ⟨h1, h2⟩, h3⟩ := h
  refine ⟨rows, ⟨h1, ?_⟩, h3.mono fun r a hr => ?_⟩
  · rcases h2 with h2 | ⟨b, off, cap, e1, e2, e3, e4, _, e5, e6⟩
    · exact .inl h2
    · exact .inr ⟨b, off, cap, e1, e2, e3, e4, e5, e5, e6⟩
  · obtain ⟨s, e, t⟩ := hr
    exact ⟨s, e, t.lowW⟩
/-- A window, and what it took. -/
structure OnW (W : World) (b m B : Nat) (wr : World) (tv dv : Value) (low : Int) (kn : List (Int × PSl)) (tk dn : List PPrep) : Prop where
  wd : ∃ G, Gd G b m wr.heap.size ∧ Wnd G wr b m low kn ∧ (∀ g, tv.ownBlock = some g → ¬ G g) ∧ (∀ g, dv.ownBlock = some g → ¬ G g)
  tl : LB (RPc W) 39 8 B wr tv tk
  dl : LB (RPc W) 39 8 B wr dv dn
  ne : ∀ g, tv.ownBlock = some g → dv.ownBlock ≠ some g
  bel : Below W.heap.size W wr
  hb : W.heap.size ≤ b ∧ W.heap.size ≤ m ∧ b < B ∧ m < B
  tf : ∀ p ∈ tk, tkOk low kn p
  df : ∀ p ∈ dn, dnOk low kn p
  sz : B ≤ wr.heap.size
section
variable {W : World} {b m B : Nat} {wr wx : World} {tv dv : Value} {low : Int} {kn : List (Int × PSl)} {tk dn : List PPrep}
theorem OnW.below (h : OnW W b m B wr tv dv low kn tk dn) (hb : Below wr.heap.size wr wx) : OnW W b m B wx tv dv low kn tk dn := by
  obtain ⟨G, h1, h2, h3, h4⟩ := h.wd
  exact ⟨⟨G, h1.up hb.size, h2.below hb, h3, h4⟩, h.tl.below (mov_pc W) hb, h.dl.below (mov_pc W) hb, h.ne, below_and h.bel (Nat.le_refl _) hb, h.hb, h.tf, h.df, Nat.le_trans h.sz hb.size⟩
theorem OnW.act (h : OnW W b m B wr tv dv low kn tk dn) {G : Nat → Prop} (h1 : Gd G b m wx.heap.size) (h3 : ∀ g, tv.ownBlock = some g → ¬ G g) (h4 : ∀ g, dv.ownBlock = some g → ¬ G g) (a : PWAct) (hW : Wnd G wx b m (stA low kn a).1.1 (stA low kn a).1.2) (hg : Gw wr wx b m) : OnW W b m B wx tv dv (stA low kn a).1.1 (stA low kn a).1.2 tk dn :=
  ⟨⟨G, h1, hW, h3, h4⟩, h.tl.gw (mov_pc W) hg h.hb.2.2.1 h.hb.2.2.2, h.dl.gw (mov_pc W) hg h.hb.2.2.1 h.hb.2.2.2, h.ne, h.bel.trans (hg.below h.bel.size h.hb.1 h.hb.2.1), h.hb, fun p hp => tk_act (h.tf p hp) a, fun p hp => dn_act (h.df p hp) a, Nat.le_trans h.sz hg.size⟩
theorem OnW.wdG (h : OnW W b m B wr tv dv low kn tk dn) {u u' v : Value} (hu : (∀ g, u.ownBlock = some g → B ≤ g ∧ g < wr.heap.size) ∧ ((∀ g, u.ownBlock = some g → tv.ownBlock = some g) ∨ (∀ g, u.ownBlock = some g → dv.ownBlock = some g))) (hg : wr.grownBy wx u.ownBlock) (hs : Spt wr u u') (hl : ∀ g, u'.ownBlock = some g → g < wx.heap.size)
    (hv : ∀ g, v.ownBlock = some g → tv.ownBlock = some g ∨ dv.ownBlock = some g) :
    ∃ G, Gd G b m wx.heap.size ∧ Wnd G wx b m low kn ∧ (∀ g, u'.ownBlock = some g → ¬ G g) ∧ (∀ g, v.ownBlock = some g → ¬ G g) := by
  obtain ⟨G, h1, h2, h3, h4⟩ := h.wd
  have hb := h.hb
  have hne : ∀ k, G k → u.ownBlock ≠ some k := fun k hk e => by
    rcases hu.2 with q | q
    · exact h3 k (q k e) hk
    · exact h4 k (q k e) hk
  refine ⟨fun j => G j ∧ u'.ownBlock ≠ some j, ⟨fun j hj => h1.nb j hj.1, fun j hj => ⟨h1.fr j (by have := hg.size; omega), fun e => by have := hl j e; omega⟩⟩, ?_, fun g e hh => hh.2 e, fun g e hh => ?_⟩
  · refine h2.mv hg.size (hg.block b h2.lt.1 (fun e => ?_)) (hg.block m h2.lt.2 (fun e => ?_)) (fun k hk hlt => ⟨hg.block k hlt (fun e => hne k hk e.symm), hk, fun e => ?_⟩)
    · have := (hu.1 b e.symm).1; omega
    · have := (hu.1 m e.symm).1; omega
    · rcases hs with hs | hs
      · exact hne k hk (hs ▸ e)
      · have := hs k e; omega
  · rcases hv g e with q | q
    · exact h3 g q hh.1
    · exact h4 g q hh.1
theorem OnW.pushT (h : OnW W b m B wr tv dv low kn tk dn) {tv' : Value} {p : PPrep} (hL : LB (RPc W) 39 8 B wx tv' (tk ++ [p])) (hg : wr.grownBy wx tv.ownBlock) (hs : Spt wr tv tv') (hp : tkOk low kn p) : OnW W b m B wx tv' dv low kn (tk ++ [p]) dn := by
  have hBW := h.bel.size
  refine ⟨h.wdG ⟨fun g e => ⟨h.tl.fr g e, h.tl.lt g e⟩, .inl fun g e => e⟩ hg hs hL.lt (fun g e => .inr e), hL, h.dl.fromV hg h.ne (fun _ _ hr => hr), fun g e e' => ?_, h.bel.trans (grown_below hg hBW (fun k hk => ?_)), h.hb, fun q hq => ?_, h.df, Nat.le_trans h.sz hg.size⟩
  · rcases hs with hs | hs
    · exact h.ne g (hs ▸ e) e'
    · have h1 := hs g e; have h2 := h.dl.lt g e'; omega
  · have h1 := h.tl.fr k hk; have := h.hb; omega
  · rcases List.mem_append.1 hq with hq | hq
    · exact h.tf q hq
    · simp at hq; subst hq; exact hp
theorem OnW.pushD (h : OnW W b m B wr tv dv low kn tk dn) {dv' : Value} {p : PPrep} (hL : LB (RPc W) 39 8 B wx dv' (dn ++ [p])) (hg : wr.grownBy wx dv.ownBlock) (hs : Spt wr dv dv') (hp : dnOk low kn p) : OnW W b m B wx tv dv' low kn tk (dn ++ [p]) := by
  have hBW := h.bel.size
  have hwd := h.wdG (v := tv) ⟨fun g e => ⟨h.dl.fr g e, h.dl.lt g e⟩, .inr fun g e => e⟩ hg hs hL.lt (fun g e => .inl e)
  refine ⟨?_, h.tl.fromV hg (fun g e e' => h.ne g e' e) (fun _ _ hr => hr), hL, fun g e e' => ?_, h.bel.trans (grown_below hg hBW (fun k hk => ?_)), h.hb, h.tf, fun q hq => ?_, Nat.le_trans h.sz hg.size⟩
  · obtain ⟨G, h1, h2, h3, h4⟩ := hwd
    exact ⟨G, h1, h2, h4, h3⟩
  · rcases hs with hs | hs
    · exact h.ne g e (hs ▸ e')
    · have h1 := hs g e'; have h2 := h.tl.lt g e; omega
  · have h1 := h.dl.fr k hk; have := h.hb; omega
  · rcases List.mem_append.1 hq with hq | hq
    · exact h.df q hq
    · simp at hq; subst hq; exact hp
/-- A thing that was taken, at its place. -/
theorem LB.atPc {v : Value} {ps : List PPrep} (h : LB (RPc W) 39 8 B wr v ps) {i : Nat} {p : PPrep} (hi : ps[i]? = some p) :
    ∃ g off cap o s c, v = .slice (some ⟨g, off, none⟩) ps.length cap ∧ ps.length ≤ cap ∧ cap ≤ maxLen ∧ g < wr.heap.size ∧ wr.rangeAt g (off + i * 8) [.int .i64 p.1, .int .i64 p.2.1.1, .int .i64 p.2.1.2, .int .i64 p.2.2.1.1, .int .i64 p.2.2.1.2.1, o, s, c] ∧ RT Any W o p.2.2.1.2.2.1 ∧ RT Any W s p.2.2.1.2.2.2 ∧ RL RVote 2 Any W c p.2.2.2 := by
  have hlt : i < ps.length := (List.getElem?_eq_some_iff.1 hi).1
  obtain ⟨g, off, cap, e, h1, h2, h3, h4, h5⟩ := (h.rl (mov_pc W)).at (by omega)
  obtain ⟨r, hr, hrg, o, s, c, rfl, t1, t2, t3⟩ := h5 i p hi
  exact ⟨g, off, cap, o, s, c, e, h1, h2, h4, hrg, t1, t2, t3⟩
end
end Go.Proofs.Ytjloehkolnjnhaa
