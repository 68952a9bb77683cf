/- What is written of a message that reads well is bytes. -/
import Derived.Test.YtcjflljckoliaaaN9
set_option linter.unusedVariables false
set_option linter.unusedSimpArgs false
namespace Go.Proofs.Ytcjflljckoliaaa
open Go.RowKit Oct

theorem cN_byt (n : Int) : Byt (cN.wr n) := outI_byt n
theorem wrN_byt {α : Type} {c : Cdc α} : ∀ {ys : List α}, (∀ y ∈ ys, Byt (c.wr y)) → Byt (wrN c ys)
  | [], _ => by simp only [wrN]; exact Byt.nil
  | y :: ys, h => by rw [wrN_cons]; exact (h y (by simp)).app (wrN_byt fun z hz => h z (by simp [hz]))
theorem cL_byt {α : Type} {c : Cdc α} {ys : List α} (h : ∀ y ∈ ys, Byt (c.wr y)) : Byt ((cL c).wr ys) := (outI_byt _).app (wrN_byt h)
theorem RL.each {α : Type} {R : (Nat → Prop) → World → List Value → α → Prop} {k : Nat} {G : Nat → Prop} {w : World} {v : Value} {ys : List α} (h : RL R k G w v ys) : ∀ y ∈ ys, ∃ r, R G w r y := by
  obtain ⟨rows, h1, h2⟩ := h
  intro y hy
  obtain ⟨i, hi, rfl⟩ := List.getElem_of_mem hy
  exact ⟨_, h2.get (List.getElem?_eq_getElem (by rw [h2.len]; exact hi)) (List.getElem?_eq_getElem hi)⟩
theorem vote_byt {G : Nat → Prop} {w : World} {r : List Value} {x : PVote} (h : RVote G w r x) (hz : bV x ≤ 2000000) : Byt (cVote.wr x) := by
  obtain ⟨s, _, h1⟩ := h
  exact (cN_byt _).app (cT_wr_byt h1.1.1 (by simp only [bV, bT] at hz; omega))
theorem votes_byt {G : Nat → Prop} {w : World} {v : Value} {ys : List PVote} (h : RL RVote 2 G w v ys) (hz : bL bV ys ≤ 2000000) : Byt ((cL cVote).wr ys) :=
  cL_byt fun y hy => by
    obtain ⟨r, hr⟩ := h.each y hy
    exact vote_byt hr (by have := bS_mem (f := bV) hy; simp only [bL] at hz; omega)
theorem req_byt {G : Nat → Prop} {w : World} {r : List Value} {x : PReq} (h : RReq G w r x) (hz : bQ x ≤ 2000000) : Byt (cReq.wr x) := by
  obtain ⟨o, g, _, h1, h2⟩ := h
  exact (cN_byt _).app ((cN_byt _).app ((cT_wr_byt h1.1.1 (by simp only [bQ, bT] at hz; omega)).app (cT_wr_byt h2.1.1 (by simp only [bQ, bT] at hz; omega))))
theorem prep_byt {G : Nat → Prop} {w : World} {r : List Value} {x : PPrep} (h : RPrep G w r x) (hz : bP x ≤ 2000000) : Byt (cPrep.wr x) := by
  obtain ⟨o, g, c, _, h1, h2, h3⟩ := h
  simp only [bP] at hz
  exact (cN_byt _).app (((cN_byt _).app (cN_byt _)).app ((req_byt (G := G) (w := w) (r := [.int .i64 x.2.2.1.1, .int .i64 x.2.2.1.2.1, o, g]) ⟨o, g, rfl, h1, h2⟩ (by omega)).app (votes_byt h3 (by omega))))
theorem rep_byt {G : Nat → Prop} {w : World} {r : List Value} {x : PRep} (h : RRep G w r x) (hz : bR x ≤ 2000000) : Byt (cRep.wr x) := by
  obtain ⟨d, s, p, g, _, h1, h2, h3, h4⟩ := h
  simp only [bR] at hz
  refine ((cN_byt _).app (cN_byt _)).app ((cN_byt _).app ((cN_byt _).app ((cT_wr_byt h1.1.1 ?_).app ((votes_byt h2 (by omega)).app ((cL_byt fun y hy => ?_).app (cT_wr_byt h4.1.1 ?_))))))
  · simp only [bT] at hz; omega
  · obtain ⟨r, hr⟩ := h3.each y hy
    exact prep_byt hr (by have := bS_mem (f := bP) hy; simp only [bL] at hz; omega)
  · simp only [bT] at hz; omega
theorem SOk.byt {G : Nat → Prop} {w : World} {m : PMsg} {s : SV} (h : SOk G w m s) (hz : bM m ≤ 1100000) {i : Nat} (hi : i < 15) : Byt (wrF m i) := by
  simp only [bM] at hz
  rcases lt15 hi with rfl | rfl | rfl | rfl | rfl | rfl | rfl | rfl | rfl | rfl | rfl | rfl | rfl | rfl | rfl
  · exact (cN_byt _).app (cN_byt _)
  · exact cN_byt _
  · exact cN_byt _
  · exact cN_byt _
  · exact cN_byt _
  · exact cN_byt _
  · exact req_byt (r := [.int .i64 m.req.1, .int .i64 m.req.2.1, s.o, s.g]) ⟨_, _, rfl, h.o, h.g⟩ (by omega)
  · exact req_byt (r := [.int .i64 m.oth.1, .int .i64 m.oth.2.1, s.o', s.g']) ⟨_, _, rfl, h.o', h.g'⟩ (by omega)
  · exact cT_wr_byt h.d.1.1 (by simp only [bT] at hz; omega)
  · exact cT_wr_byt h.s.1.1 (by simp only [bT] at hz; omega)
  · exact votes_byt h.c (by omega)
  · exact votes_byt h.v (by omega)
  · exact cL_byt fun y _ => cN_byt y
  · exact cL_byt fun y hy => by
      obtain ⟨r, hr⟩ := h.p.each y hy
      exact req_byt hr (by have := bS_mem (f := bQ) hy; simp only [bL] at hz; omega)
  · exact cL_byt fun y hy => by
      obtain ⟨r, hr⟩ := h.l.each y hy
      exact rep_byt hr (by have := bS_mem (f := bR) hy; simp only [bL] at hz; omega)
theorem wrFs_byt {G : Nat → Prop} {w : World} {m : PMsg} {s : SV} (h : SOk G w m s) (hz : bM m ≤ 1100000) : ∀ {fs : List Nat}, (∀ i ∈ fs, i < 15) → Byt (wrFs m fs)
  | [], _ => by simp only [wrFs]; exact Byt.nil
  | i :: fs, hf => by rw [wrFs_cons]; exact (h.byt hz (hf i (by simp))).app (wrFs_byt h hz fun j hj => hf j (by simp [hj]))
end Go.Proofs.Ytcjflljckoliaaa
