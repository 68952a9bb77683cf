/- What is written of a message that reads well is bytes. -/
import Derived.Test.YtgjepofinpmcpaaGreatDoorMBT
import Derived.Test.YtgjepofinpmcpaaGreatDoorMBR
import Derived.Test.YtgjepofinpmcpaaGreatDoorMBP
set_option linter.unusedSimpArgs false
set_option linter.unusedVariables false
namespace Go.Proofs.YtgjepofinpmcpaaGreatDoor
section
open Go.RowKit Oct Kvl
theorem sgn_sz (k x y s : Int) (r : zB3) (i : Int) : szT (sgn k x y s r i) := by
  unfold szT sgn
  by_cases h : 0 ≤ zHb i ∧ zHb i ≤ 127
  · rw [zLt _ _ h.1 h.2]; decide
  · rw [zKe _ _ (by omega)]; decide
theorem zOt {i : Int} (h0 : 0 ≤ i) (h1 : i ≤ 15) : zHb i = i := by unfold zHb; rw [if_pos ⟨h0, h1⟩]
theorem zKk (k x y s : Int) (r : zB3) {i : Int} (h0 : 0 ≤ i) (h1 : i ≤ 15) : zMn k x y s r (i, sgn k x y s r i) = true := by
  unfold zMn sgn
  exact zSq _ _ (by rw [zOt h0 h1]; omega) (by rw [zOt h0 h1]; omega)
theorem zPk {ls : List PSn} {k x y s : Int} {r : zB3} {v : zAy} (hk : k = 2 ∨ k = 3) (hv : zMn k x y s r v = true) : zH5 ls k x y s r [v] = zBw ls (k, x, y, s, v.1) r v.2 := by
  unfold zH5 noteV
  rw [if_pos hk]
  simp [zPg, hv]
theorem rl_onev {G : Nat → Prop} {w : World} {i : Int} {v : Value} {g : List Int} (h : RT G w v g) (hG : G w.heap.size) : RL zAz 2 G (w.alloc (.cells #[.int .i64 i, v] 58)) (.slice (some ⟨w.heap.size, 0, none⟩) 1 1) [(i, g)] := by
  refine ⟨[[.int .i64 i, v]], ⟨by simp, .inr ⟨w.heap.size, 0, 1, rfl, by simp, by unfold maxLen; decide, by simp, hG, by simp, ?_⟩⟩, ⟨⟨v, rfl, h.mv (Mv.belowG (zA0 _ _))⟩, trivial⟩⟩
  intro q r hq
  have hR := Row.new w 58 [.int .i64 i, v]
  cases q with
  | zero =>
    simp at hq
    subst hq
    intro j u hj
    simpa using hR.cell hj
  | succ q => simp at hq
theorem zM9 (w : World) (b m : Nat) (ls : List PSn) (h : Lg (NM m) w b m ls) (k x y s i : Int) (rc : List Value) (r : zB3) (hrq : zCs (NM m) w rc r) (hr : tot [r.2.2.1, r.2.2.2] ≤ 2000000) (v : Value) (g : List Int) (hv : RT (NM m) w v g) (hg : szT g) (hT : Tab w) :
    Calls Tryz.prog 33 #[.pointer (some ⟨b, 0, none⟩), .int .i64 k, .agg #[.int .i64 x, .int .i64 y], .int .i64 s, .agg rc.toArray, .slice (some ⟨w.heap.size, 0, none⟩) 1 1] (w.alloc (.cells #[.int .i64 i, v] 58)) fun e w' => NtP w b m (zH5 ls k x y s r [(i, g)]) e w' := by
  have B := zA0 w (.cells #[.int .i64 i, v] 58)
  refine (zV0 _ b m ls (h.below B) k x y s rc r (zAj _ _ _ _ _ _ hrq B.size (Mv.belowG B)) hr _ [(i, g)] (rl_onev hv (fun e => by have := h.lt.2; omega)) (by simpa using hg) (by simp) (hT.below B)).mono ?_
  rintro e w' ⟨v', e1, e2, e3, e4⟩
  exact ⟨v', e1, e2.mv zIb zN (Mv.weak B.size), e3, zA2 (zA8 B _) e4 (.inl rfl)⟩
def r00 : zB3 := (0, 0, [], [])
def r11 : zB3 := (1, 1, [], [])
def q13 : PK := (2, 0, 0, 1, 3)
theorem r_ne : ¬ (zB6 r00 = zB6 r11) := by decide
theorem toNM {m B : Nat} {w : World} (hm : m < B) : Mv (zB0 B) (NM m) w w := fun k hk _ => ⟨rfl, fun e => by unfold zB0 at hk; omega⟩
end
section
open Go.RowKit Oct
theorem zCc (n : Int) : Byt (cN.wr n) := zHg n
theorem zSk {α : Type} {c : Cdc α} : ∀ {ys : List α}, (∀ y ∈ ys, Byt (c.wr y)) → Byt (wrN c ys)
  | [], _ => by simp only [wrN]; exact Byt.nil
  | y :: ys, h => by rw [zHh]; exact (h y (by simp)).app (zSk fun z hz => h z (by simp [hz]))
theorem zMb {α : Type} {c : Cdc α} {ys : List α} (h : ∀ y ∈ ys, Byt (c.wr y)) : Byt ((cL c).wr ys) := (zHg _).app (zSk h)
theorem RL.each {α : Type} {R : (Nat → Prop) → World → List Value → α → Prop} {k : Nat} {G : Nat → Prop} {w : World} {v : Value} {ys : List α} (h : RL R k G w v ys) : ∀ y ∈ ys, ∃ r, R G w r y := by
  obtain ⟨rows, h1, h2⟩ := h
  intro y hy
  obtain ⟨i, hi, rfl⟩ := List.getElem_of_mem hy
  exact ⟨_, h2.get (List.getElem?_eq_getElem (by rw [h2.len]; exact hi)) (List.getElem?_eq_getElem hi)⟩
theorem vote_byt {G : Nat → Prop} {w : World} {r : List Value} {x : zAy} (h : zAz G w r x) (hz : bV x ≤ 2000000) : Byt (zAi.wr x) := by
  obtain ⟨s, _, h1⟩ := h
  exact (zCc _).app (zCl h1.1.1 (by simp only [bV, bT] at hz; omega))
theorem zFs {G : Nat → Prop} {w : World} {v : Value} {ys : List zAy} (h : RL zAz 2 G w v ys) (hz : bL bV ys ≤ 2000000) : Byt ((cL zAi).wr ys) :=
  zMb fun y hy => by
    obtain ⟨r, hr⟩ := h.each y hy
    exact vote_byt hr (by have := zE4 (f := bV) hy; simp only [bL] at hz; omega)
theorem zKj {G : Nat → Prop} {w : World} {r : List Value} {x : zB3} (h : zCs G w r x) (hz : bQ x ≤ 2000000) : Byt (zBc.wr x) := by
  obtain ⟨o, g, _, h1, h2⟩ := h
  exact (zCc _).app ((zCc _).app ((zCl h1.1.1 (by simp only [bQ, bT] at hz; omega)).app (zCl h2.1.1 (by simp only [bQ, bT] at hz; omega))))
theorem prep_byt {G : Nat → Prop} {w : World} {r : List Value} {x : zCo} (h : zBy G w r x) (hz : bP x ≤ 2000000) : Byt (zAo.wr x) := by
  obtain ⟨o, g, c, _, h1, h2, h3⟩ := h
  simp only [bP] at hz
  exact (zCc _).app (((zCc _).app (zCc _)).app ((zKj (G := G) (w := w) (r := [.int .i64 x.2.2.1.1, .int .i64 x.2.2.1.2.1, o, g]) ⟨o, g, rfl, h1, h2⟩ (by omega)).app (zFs h3 (by omega))))
theorem rep_byt {G : Nat → Prop} {w : World} {r : List Value} {x : zF8} (h : zDo G w r x) (hz : bR x ≤ 2000000) : Byt (zBr.wr x) := by
  obtain ⟨d, s, p, g, _, h1, h2, h3, h4⟩ := h
  simp only [bR] at hz
  refine ((zCc _).app (zCc _)).app ((zCc _).app ((zCc _).app ((zCl h1.1.1 ?_).app ((zFs h2 (by omega)).app ((zMb fun y hy => ?_).app (zCl h4.1.1 ?_))))))
  · simp only [bT] at hz; omega
  · obtain ⟨r, hr⟩ := h3.each y hy
    exact prep_byt hr (by have := zE4 (f := bP) hy; simp only [bL] at hz; omega)
  · simp only [bT] at hz; omega
theorem SOk.byt {G : Nat → Prop} {w : World} {m : PMsg} {s : SV} (h : SOk G w m s) (hz : bM m ≤ 1100000) {i : Nat} (hi : i < 15) : Byt (wrF m i) := by
  simp only [bM] at hz
  rcases zI6 hi with rfl | rfl | rfl | rfl | rfl | rfl | rfl | rfl | rfl | rfl | rfl | rfl | rfl | rfl | rfl
  · exact (zCc _).app (zCc _)
  · exact zCc _
  · exact zCc _
  · exact zCc _
  · exact zCc _
  · exact zCc _
  · exact zKj (r := [.int .i64 m.req.1, .int .i64 m.req.2.1, s.o, s.g]) ⟨_, _, rfl, h.o, h.g⟩ (by omega)
  · exact zKj (r := [.int .i64 m.oth.1, .int .i64 m.oth.2.1, s.o', s.g']) ⟨_, _, rfl, h.o', h.g'⟩ (by omega)
  · exact zCl h.d.1.1 (by simp only [bT] at hz; omega)
  · exact zCl h.s.1.1 (by simp only [bT] at hz; omega)
  · exact zFs h.c (by omega)
  · exact zFs h.v (by omega)
  · exact zMb fun y _ => zCc y
  · exact zMb fun y hy => by
      obtain ⟨r, hr⟩ := h.p.each y hy
      exact zKj hr (by have := zE4 (f := bQ) hy; simp only [bL] at hz; omega)
  · exact zMb fun y hy => by
      obtain ⟨r, hr⟩ := h.l.each y hy
      exact rep_byt hr (by have := zE4 (f := bR) hy; simp only [bL] at hz; omega)
theorem zPs {G : Nat → Prop} {w : World} {m : PMsg} {s : SV} (h : SOk G w m s) (hz : bM m ≤ 1100000) : ∀ {fs : List Nat}, (∀ i ∈ fs, i < 15) → Byt (zI8 m fs)
  | [], _ => by simp only [zI8]; exact Byt.nil
  | i :: fs, hf => by rw [zG6]; exact (h.byt hz (hf i (by simp))).app (zPs h hz fun j hj => hf j (by simp [hj]))
end
end Go.Proofs.YtgjepofinpmcpaaGreatDoor
