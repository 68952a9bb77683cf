/- WindowOnce: a window, and two lists of what it took. -/
import Derived.Test.YtjloehkolnjnhaaXUBN
import Derived.Test.YtjloehkolnjnhaaXUBF
import Derived.Test.YtjloehkolnjnhaaXUAS
import Derived.Test.YtjloehkolnjnhaaXUAI
set_option linter.unusedSimpArgs false
set_option linter.unusedVariables false
namespace Go.Proofs.Ytjloehkolnjnhaa
section
open Go.RowKit Oct Kvl Bal
def dnOk (low : Int) (kn : List (Int × PSl)) (p : PPrep) : Prop := p.1 ≤ low + 16 ∧ (inW low p.1 = true → (atL kn p.1).hd = true ∧ (atL kn p.1).done = p.2.2.1)
theorem dn_put {low : Int} {kn : List (Int × PSl)} {p : PPrep} (h : dnOk low kn p) {k : Int} {s : PSl} (hs : k = p.1 → s.hd = true ∧ s.done = p.2.2.1) : dnOk low (putL kn k s) p := by
  refine ⟨h.1, fun hi => ?_⟩
  rw [at_put]
  split
  · rename_i e
    exact hs e.symm
  · exact h.2 hi
theorem dn_vote {low : Int} {kn : List (Int × PSl)} {p : PPrep} (h : dnOk low kn p) (b : PBal) (k : Int) (x : PReq) : dnOk low (stV low kn b k x).1 p := by
  unfold stV
  split
  · rename_i hk
    cases hv : voteS (atL kn k) b x with
    | none => exact h
    | some s =>
      refine dn_put h (fun e => ?_)
      obtain ⟨h1, h2⟩ := h.2 (e ▸ hk)
      rw [← e] at h1 h2
      unfold voteS at hv
      split at hv
      · cases hv
      · cases hv; exact ⟨h1, h2⟩
  · exact h
theorem dn_prep {low : Int} {kn : List (Int × PSl)} {p : PPrep} (h : dnOk low kn p) (b : PBal) (k : Int) (x : PReq) (c : List PVote) : dnOk low (stP low kn b k x c).1 p := by
  unfold stP
  split
  · rename_i hk
    cases hv : prepS (atL kn k) b x c with
    | none => exact h
    | some s =>
      refine dn_put h (fun e => ?_)
      obtain ⟨h1, h2⟩ := h.2 (e ▸ hk)
      rw [← e] at h1 h2
      unfold prepS at hv
      split at hv
      · cases hv
      · cases hv; exact ⟨h1, h2⟩
  · exact h
theorem dn_done {low : Int} {kn : List (Int × PSl)} {p : PPrep} (h : dnOk low kn p) (b : PBal) (k : Int) (x : PReq) (c : List PVote) : dnOk low (stD low kn b k x c).1 p ∧ ((stD low kn b k x c).2 = 0 → p.1 = k → p.2.2.1 = x) := by
  unfold stD
  split
  · rename_i hk
    cases hv : doneS (atL kn k) b x c with
    | none => exact ⟨h, fun e => by simp at e⟩
    | some s =>
      have key : k = p.1 → (s.hd = true ∧ s.done = p.2.2.1) ∧ p.2.2.1 = x := fun e => by
        obtain ⟨h1, h2⟩ := h.2 (e ▸ hk)
        rw [← e] at h1 h2
        unfold doneS at hv
        rw [h1] at hv
        split at hv
        · cases hv
        · rename_i hf
          simp only [if_true] at hv
          cases hv
          refine ⟨⟨h1, h2⟩, ?_⟩
          rw [h2] at hf
          simpa using hf
      exact ⟨dn_put h (fun e => (key e).1), fun _ e => (key e.symm).2⟩
  · exact ⟨h, fun e => by simp at e⟩
theorem dn_cut {low : Int} {kn : List (Int × PSl)} {p : PPrep} (h : dnOk low kn p) (l2 : Int) : dnOk (stC low kn l2).1 (stC low kn l2).2 p := by
  unfold stC
  split
  · exact h
  · rename_i hn
    refine ⟨by have := h.1; simp only; omega, fun hi => ?_⟩
    have hi := inW_iff.1 hi
    have h1 := h.1
    simp only at hi ⊢
    rw [at_cut, if_pos hi.1]
    exact h.2 (inW_iff.2 ⟨by omega, h1⟩)
end
section
open Go.RowKit Oct Kvl Bal
theorem tk_act {low : Int} {kn : List (Int × PSl)} {p : PPrep} (h : tkOk low kn p) (a : PWAct) : tkOk (stA low kn a).1.1 (stA low kn a).1.2 p := by
  unfold stA
  split
  · exact (tk_vote h _ _ _).1
  split
  · exact tk_prep h _ _ _ _
  split
  · exact tk_done h _ _ _ _
  split
  · exact tk_cut h _
  · exact h
theorem dn_act {low : Int} {kn : List (Int × PSl)} {p : PPrep} (h : dnOk low kn p) (a : PWAct) : dnOk (stA low kn a).1.1 (stA low kn a).1.2 p := by
  unfold stA
  split
  · exact dn_vote h _ _ _
  split
  · exact dn_prep h _ _ _ _
  split
  · exact (dn_done h _ _ _ _).1
  split
  · exact dn_cut h _
  · exact h
theorem LB.gw {α : Type} {R : (Nat → Prop) → World → List Value → α → Prop} (hR : Mov R) {t : TypeId} {k B b m : Nat} {w w' : World} {v : Value} {ys : List α} (h : LB R t k B w v ys) (hc : Gw w w' b m) (h3 : b < B) (h4 : m < B) : LB R t k B w' v ys := by
  obtain ⟨rows, h0, h1, h2, hall⟩ := h
  refine ⟨rows, h0, ?_, h2, hall.mono fun r a h => hR _ _ w w' r a h hc.size fun j hj hlt => ⟨hc.block j hlt (by have := hj.1; omega) (by have := hj.1; omega), hj⟩⟩
  refine ⟨h1.1, ?_⟩
  rcases h1.2 with hn | ⟨g, cap, cur, e, g1, g2, g3⟩
  · exact .inl hn
  · have hg := h2 g (by rw [e]; rfl)
    refine .inr ⟨g, cap, cur, e, g1, ?_, g3⟩
    have hlt := (World.ownsRow.lt h1 g (by rw [e]; rfl)).2
    rw [hc.block g hlt (by omega) (by omega)]
    exact g2
/-- What was prepared, its texts in an elder world. -/
def RPc (W : World) : (Nat → Prop) → World → List Value → PPrep → Prop := fun _ _ r x => RPrep Any W r x
theorem mov_pc (W : World) : Mov (RPc W) := fun _ _ _ _ _ _ h _ _ => h
theorem RT.lowW {w : World} {v : Value} {l : List Int} (h : RT Any w v l) : RT (fun k => k < w.heap.size) w v l := ⟨h.1, fun hx k hk => h.1.lt hx k hk⟩
theorem RL.lowW {w : World} {v : Value} {ys : List PVote} (h : RL RVote 2 Any w v ys) : RL RVote 2 (fun k => k < w.heap.size) w v ys := by
  obtain ⟨rows, ⟨h1, h2⟩, h3⟩ := h
  refine ⟨rows, ⟨h1, ?_⟩, h3.mono fun r a hr => ?_⟩
  · rcases h2 with h2 | ⟨b, off, cap, e1, e2, e3, e4, _, e5, e6⟩
    · exact .inl h2
    · exact .inr ⟨b, off, cap, e1, e2, e3, e4, e5, e5, e6⟩
  · obtain ⟨s, e, t⟩ := hr
    exact ⟨s, e, t.lowW⟩
/-- A window, and what it took. -/
structure OnW (W : World) (b m B : Nat) (wr : World) (tv dv : Value) (low : Int) (kn : List (Int × PSl)) (tk dn : List PPrep) : Prop where
  wd : ∃ G, Gd G b m wr.heap.size ∧ Wnd G wr b m low kn ∧ (∀ g, tv.ownBlock = some g → ¬ G g) ∧ (∀ g, dv.ownBlock = some g → ¬ G g)
  tl : LB (RPc W) 39 8 B wr tv tk
  dl : LB (RPc W) 39 8 B wr dv dn
  ne : ∀ g, tv.ownBlock = some g → dv.ownBlock ≠ some g
  bel : Below W.heap.size W wr
  hb : W.heap.size ≤ b ∧ W.heap.size ≤ m ∧ b < B ∧ m < B
  tf : ∀ p ∈ tk, tkOk low kn p
  df : ∀ p ∈ dn, dnOk low kn p
  sz : B ≤ wr.heap.size
section
variable {W : World} {b m B : Nat} {wr wx : World} {tv dv : Value} {low : Int} {kn : List (Int × PSl)} {tk dn : List PPrep}
theorem OnW.below (h : OnW W b m B wr tv dv low kn tk dn) (hb : Below wr.heap.size wr wx) : OnW W b m B wx tv dv low kn tk dn := by
  obtain ⟨G, h1, h2, h3, h4⟩ := h.wd
  exact ⟨⟨G, h1.up hb.size, h2.below hb, h3, h4⟩, h.tl.below (mov_pc W) hb, h.dl.below (mov_pc W) hb, h.ne, below_and h.bel (Nat.le_refl _) hb, h.hb, h.tf, h.df, Nat.le_trans h.sz hb.size⟩
theorem OnW.act (h : OnW W b m B wr tv dv low kn tk dn) {G : Nat → Prop} (h1 : Gd G b m wx.heap.size) (h3 : ∀ g, tv.ownBlock = some g → ¬ G g) (h4 : ∀ g, dv.ownBlock = some g → ¬ G g) (a : PWAct) (hW : Wnd G wx b m (stA low kn a).1.1 (stA low kn a).1.2) (hg : Gw wr wx b m) : OnW W b m B wx tv dv (stA low kn a).1.1 (stA low kn a).1.2 tk dn :=
  ⟨⟨G, h1, hW, h3, h4⟩, h.tl.gw (mov_pc W) hg h.hb.2.2.1 h.hb.2.2.2, h.dl.gw (mov_pc W) hg h.hb.2.2.1 h.hb.2.2.2, h.ne, h.bel.trans (hg.below h.bel.size h.hb.1 h.hb.2.1), h.hb, fun p hp => tk_act (h.tf p hp) a, fun p hp => dn_act (h.df p hp) a, Nat.le_trans h.sz hg.size⟩
end
end
end Go.Proofs.Ytjloehkolnjnhaa
