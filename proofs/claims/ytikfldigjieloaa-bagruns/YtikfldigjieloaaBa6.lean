/- A bag and the document's list side by side, with blocks that neither of them lies in. -/
import Derived.Test.YtikfldigjieloaaBa5
import Derived.Test.YtikfldigjieloaaOpenG
import Derived.Laws.BitsAllLaws
set_option linter.unusedVariables false
set_option linter.unusedSimpArgs false
namespace Go.Proofs.Ytikfldigjieloaa
open Go.RowKit Oct Kvl

structure BW (w : World) (AV : Nat → Prop) (wx : World) (b : Nat) (vb vw : Value) (ys zs : List PPk) : Prop where
  bg : Bg (fun k => ¬ AV k) wx b vb ys
  bel : Below w.heap.size w wx
  fr : Fr w.heap.size vb
  hb : w.heap.size ≤ b
  nb : ¬ AV b
  nv : ∀ k, vb.ownBlock = some k → ¬ AV k
  nn : NN vw
  wt : LPe w (fun k => k ≠ b ∧ vb.ownBlock ≠ some k ∧ ¬ AV k) wx vw zs
  lo : ∀ k, AV k → w.heap.size ≤ k
  hi : ∀ k, AV k → k < wx.heap.size
theorem BW.below {w wx wx' : World} {AV : Nat → Prop} {b : Nat} {vb vw : Value} {ys zs : List PPk} (h : BW w AV wx b vb vw ys zs) (hb : Below wx.heap.size wx wx') : BW w AV wx' b vb vw ys zs :=
  ⟨h.bg.below hb, below_and h.bel (Nat.le_refl _) hb, h.fr, h.hb, h.nb, h.nv, h.nn, h.wt.below hb, h.lo, fun k hk => Nat.lt_of_lt_of_le (h.hi k hk) hb.size⟩
/-- A store into a block beside. -/
theorem BW.set {w wx wx' : World} {AV : Nat → Prop} {b k : Nat} {vb vw : Value} {ys zs : List PPk} (h : BW w AV wx b vb vw ys zs) (hg : wx.grownBy wx' (some k)) (hk : AV k) : BW w AV wx' b vb vw ys zs :=
  ⟨h.bg.beside hg (fun e => h.nb (e ▸ hk)) (fun e => h.nv k e hk) (fun e => e hk), h.bel.trans (grown_below hg h.bel.size (fun j hj => by cases hj; exact h.lo k hk)), h.fr, h.hb, h.nb, h.nv, h.nn,
    h.wt.mv hg.size fun j hj hl => ⟨hg.block j hl (fun e => by injection e with e; exact hj.2.2 (e ▸ hk)), hj⟩, h.lo, fun j hj => Nat.lt_of_lt_of_le (h.hi j hj) hg.size⟩
/-- New blocks come beside. -/
theorem BW.more {w wx wx' : World} {AV AV' : Nat → Prop} {b : Nat} {vb vw : Value} {ys zs : List PPk} (h : BW w AV wx b vb vw ys zs) (hb : Below wx.heap.size wx wx') (hA : ∀ k, AV' k → AV k ∨ (wx.heap.size ≤ k ∧ k < wx'.heap.size)) : BW w AV' wx' b vb vw ys zs := by
  have hw := h.bel.size
  refine ⟨(h.bg.weak (GG' := fun k => ¬ AV' k) fun k hk hl hA' => ?_).below hb, below_and h.bel (Nat.le_refl _) hb, h.fr, h.hb, fun e => ?_, fun k hk e => ?_, h.nn, h.wt.mv hb.size fun k hk hl => ⟨hb.block k hl, hk.1, hk.2.1, fun e => ?_⟩, fun k hk => ?_, fun k hk => ?_⟩
  · rcases hA k hA' with h1 | h1
    · exact hk h1
    · omega
  · rcases hA b e with h1 | h1
    · exact h.nb h1
    · have := h.bg.lt; omega
  · rcases hA k e with h1 | h1
    · exact h.nv k hk h1
    · have := h.bg.lst.lt k hk; omega
  · rcases hA k e with h1 | h1
    · exact hk.2.2 h1
    · omega
  · rcases hA k hk with h1 | h1
    · exact h.lo k h1
    · omega
  · rcases hA k hk with h1 | h1
    · exact Nat.lt_of_lt_of_le (h.hi k h1) hb.size
    · exact h1.2
/-- Something is done with the bag. -/
theorem BW.op {w wx wx' : World} {AV : Nat → Prop} {b : Nat} {vb vb' vw : Value} {ys ys' zs : List PPk} (h : BW w AV wx b vb vw ys zs) (hb : Bg (fun k => ¬ AV k) wx' b vb' ys') (hg : Gr2 wx wx' b vb) (hs : Spt wx vb vb') : BW w AV wx' b vb' vw ys' zs := by
  refine ⟨hb, h.bel.trans (hg.below h.bel.size h.hb h.fr), by rcases hs with e | e; exact fun k hk => h.fr k (e ▸ hk); exact e.mono h.bel.size, h.hb, h.nb, fun k hk => ?_, h.nn, h.wt.mv hg.size fun k hk hl => ⟨hg.block k hl hk.1 hk.2.1, hk.1, fun e => ?_, hk.2.2⟩, h.lo, fun k hk => Nat.lt_of_lt_of_le (h.hi k hk) hg.size⟩
  · rcases hs with e | e
    · exact h.nv k (e ▸ hk)
    · intro hA
      have := e k hk
      have := h.hi k hA
      omega
  · rcases hs with e2 | e2
    · exact hk.2.1 (e2 ▸ e)
    · have := e2 k e
      omega
theorem BW.row {w wx wx' : World} {AV : Nat → Prop} {b k : Nat} {vb vw : Value} {ys zs : List PPk} {t : TypeId} {xs : List Value} (h : BW w AV wx b vb vw ys zs) (hg : Gr2 wx wx' b vb) (hr : Row wx k t xs) (hk : AV k) : Row wx' k t xs := hg.row hr (fun e => h.nb (e ▸ hk)) (fun e => h.nv k e hk)
theorem OT.rowP {G : Nat → Prop} {w : World} {v : Value} {l : List Int} (h : OT G w v l) {k : Nat} (hk : v.ownBlock = some k) : ∃ cur, Row w k 5 cur := by
  rcases h.1.2 with ⟨rfl, _⟩ | ⟨g, cap, cur, rfl, _, hg, _⟩
  · simp [Value.ownBlock] at hk
  · simp [Value.ownBlock] at hk
    subst hk
    exact ⟨cur.toList, by unfold Row; simpa using hg⟩
/-- A packet is taken: its bytes lie beside. -/
theorem BW.tak {w wx wx' : World} {AV : Nat → Prop} {b : Nat} {vb vb' vw s : Value} {ys ys' zs : List PPk} {l : List Int} (h : BW w AV wx b vb vw ys zs) (hb : Bg (fun k => ¬ AV k ∧ k < wx.heap.size) wx' b vb' ys') (hg : Gr2 wx wx' b vb) (hs : Spt wx vb vb') (ho : OT (From wx.heap.size) wx' s l) :
    BW w (fun k => AV k ∨ s.ownBlock = some k) wx' b vb' vw ys' zs := by
  have h1 := h.op (hb.weak fun k hk _ => hk.1) hg hs
  have hsz := h.bel.size
  refine ⟨hb.weak fun k hk _ e => ?_, h1.bel, h1.fr, h1.hb, fun e => ?_, fun k hk e => ?_, h1.nn, h.wt.mv hg.size fun k hk hl => ⟨hg.block k hl hk.1 hk.2.1, hk.1, fun e => ?_, fun e => ?_⟩, fun k hk => ?_, fun k hk => ?_⟩
  · rcases e with e | e
    · exact hk.1 e
    · have : wx.heap.size ≤ k := ho.2.2 k e
      omega
  · rcases e with e | e
    · exact h.nb e
    · have : wx.heap.size ≤ b := ho.2.2 b e
      have := h.bg.lt
      omega
  · rcases e with e | e
    · exact h1.nv k hk e
    · obtain ⟨cur, hr⟩ := ho.rowP e
      exact hb.lst.ne hr (by decide) hk
  · rcases hs with e2 | e2
    · exact hk.2.1 (e2 ▸ e)
    · have := e2 k e
      omega
  · rcases e with e | e
    · exact hk.2.2 e
    · have : wx.heap.size ≤ k := ho.2.2 k e
      omega
  · rcases hk with hk | hk
    · exact h.lo k hk
    · exact Nat.le_trans hsz (ho.2.2 k hk)
  · rcases hk with hk | hk
    · exact h1.hi k hk
    · exact ho.1.lt k hk
/-- The document's list is another one. -/
theorem BW.want {w wx wx' : World} {AV : Nat → Prop} {b : Nat} {vb vw vw' : Value} {ys zs zs' : List PPk} (h : BW w AV wx b vb vw ys zs) (hb : Below wx.heap.size wx wx') (hn : NN vw') (hl : LPe w (From wx.heap.size) wx' vw' zs') : BW w AV wx' b vb vw' ys zs' := by
  have h1 := h.below hb
  refine ⟨h1.bg, h1.bel, h1.fr, h1.hb, h1.nb, h1.nv, hn, hl.mv (Nat.le_refl _) fun k hk _ => ⟨rfl, fun e => ?_, fun e => ?_, fun e => ?_⟩, h1.lo, h1.hi⟩
  · have := h.bg.lt; unfold From at hk; omega
  · have := h.bg.lst.lt k e; unfold From at hk; omega
  · have := h.hi k e; unfold From at hk; omega
theorem BW.any {w wx : World} {AV : Nat → Prop} {b : Nat} {vb vw : Value} {ys zs : List PPk} (h : BW w AV wx b vb vw ys zs) : LPe w Any wx vw zs := h.wt.mv (Nat.le_refl _) fun _ _ _ => ⟨rfl, trivial⟩

theorem xor_rngP {y : Int} (h : 0 ≤ y ∧ y ≤ 255) : 0 ≤ bits .xor .u8 y 255 ∧ bits .xor .u8 y 255 ≤ 255 := by
  rw [u8_xor y 255 h.1 (by omega) (by decide) (by decide)]
  have : y.toNat ^^^ (255 : Int).toNat < 2 ^ 8 := Nat.xor_lt_two_pow (by omega) (by decide)
  omega
/-- A text of the call's own, at a place. -/
theorem Own.at_byteP {w : World} {v : Value} {l : List Int} (h : Own w 5 v (bc l)) {j : Nat} (hj : j < l.length) :
    ∃ (k cap : Nat) (cur : List Value) (y : Int), v = .slice (some ⟨k, 0, none⟩) l.length cap ∧ l.length ≤ cap ∧ cap ≤ maxLen ∧ Row w k 5 cur ∧ j < cur.length ∧ cur[j]? = some (.int .u8 y) ∧ l[j]? = some y ∧
      ∀ (w' : World) (x : Int), Row w' k 5 (cur.set j (.int .u8 x)) → Own w' 5 v (bc (l.set j x)) := by
  obtain ⟨h1, h2⟩ := h
  rcases h2 with ⟨_, h3⟩ | ⟨k, cap, cur, e, h0, hh, n1, n2, n3, n4⟩
  · rw [bc_len] at h3; omega
  · have e' : v = .slice (some ⟨k, 0, none⟩) (bc l).length cap := e
    rw [bc_len] at e'
    have hy : (bc l)[j]? = some (.int .u8 l[j]) := by rw [bc_at, List.getElem?_eq_getElem hj]; rfl
    rw [← n4, List.getElem?_take] at hy
    rw [bc_len] at n1 hy
    split at hy
    · refine ⟨k, cap, cur.toList, l[j], e', by omega, n2, by unfold Row; simpa using hh, (List.getElem?_eq_some_iff.1 hy).1, hy, List.getElem?_eq_getElem hj, fun w' x hr => ?_⟩
      have hbc : bc (l.set j x) = (bc l).set j (.int .u8 x) := by unfold bc; rw [List.map_set]
      have hn : (bc (l.set j x)).length = (bc l).length := by rw [hbc, List.length_set]
      show World.ownsRow _ 0 _ 1 _ (bc (l.set j x)).length _
      rw [hn, hbc]
      refine ⟨by simp, .inr ⟨k, cap, (cur.toList.set j (.int .u8 x)).toArray, e, h0, hr, by rw [bc_len]; exact n1, n2, by simpa using n3, ?_⟩⟩
      rw [List.toList_toArray, List.take_set, n4]
    · cases hy
theorem acts3_at {w : World} {v : Value} {ys : List PAct3} (h : RL RAct3 5 Any w v ys) (hz : szL 56 szAc3 ys) (k : Nat) (y : PAct3) (hy : ys[k]? = some y) : ∃ b off cap s, v = .slice (some ⟨b, off, none⟩) ys.length cap ∧ ys.length ≤ cap ∧ cap ≤ maxLen ∧ szT y.2.1.2.2 ∧ RT Any w s y.2.1.2.2 ∧
    ∀ w', Below w.heap.size w w' → w'.rangeAt b (off + k * 5) [.int .i64 y.1, .int .i64 y.2.1.1, .int .i64 y.2.1.2.1, s, .int .i64 y.2.2] := by
  obtain ⟨b, off, cap, e, h1, h2, _, hb, h3⟩ := h.at (by have := (List.getElem?_eq_some_iff.1 hy).1; omega)
  obtain ⟨r, _, hr, s, rfl, hs⟩ := h3 k y hy
  exact ⟨b, off, cap, s, e, h1, h2, hz.2 y (List.mem_of_getElem? hy), hs, fun w' hw => rangeAt_block hr (hw.block b hb)⟩
theorem onP5 {u : Value} {a b c d : Int} (hu : u.oneCell' = true) : ∀ x ∈ [Value.int .i64 a, .int .i64 b, .int .i64 c, u, .int .i64 d], x.oneCell' = true := by
  intro x hx
  simp only [List.mem_cons, List.not_mem_nil, or_false] at hx
  rcases hx with rfl | rfl | rfl | rfl | rfl <;> first | assumption | rfl
end Go.Proofs.Ytikfldigjieloaa
