/- The two disks, side by side (the part of LDRuns that names no law). -/
import Derived.Test.YteafgdidjdfiiaaDw
set_option linter.unusedVariables false
set_option linter.unusedSimpArgs false
namespace Go.Proofs.Yteafgdidjdfiiaa
open Go.RowKit Oct

/-- The two disks, side by side. -/
structure Two (w0 : World) (b g : Nat) (wr : World) (vd vw : Value) (c r : PDk) : Prop where
  dsk : Dsk wr b vd c
  row : Row wr g 35 (dkc vw r)
  rd : Rd wr vw r.l
  ok : OkD r
  lk : Lk c r
  fd : Fr w0.heap.size vd
  ab : r.l ≠ [] → vw.ownBlock ≠ some b
  ag : r.l ≠ [] → vw.ownBlock ≠ some g
  ad : r.l ≠ [] → ∀ k, vd.ownBlock = some k → vw.ownBlock ≠ some k
  bel : Below w0.heap.size w0 wr
theorem Two.ne {w0 wr : World} {b g : Nat} {vd vw : Value} {c r : PDk} (h : Two w0 b g wr vd vw c r) : b ≠ g := h.dsk.row.apart h.row (by decide)
theorem Two.below {w0 wr wr' : World} {b g : Nat} {vd vw : Value} {c r : PDk} (h : Two w0 b g wr vd vw c r) (hb : Below wr.heap.size wr wr') : Two w0 b g wr' vd vw c r :=
  ⟨h.dsk.below hb, h.row.below hb, h.rd.below hb, h.ok, h.lk, h.fd, h.ab, h.ag, h.ad, below_and h.bel (Nat.le_refl _) hb⟩
/-- A block beside them is written. -/
theorem Two.beside {w0 wr wr' : World} {b g k : Nat} {vd vw : Value} {c r : PDk} (h : Two w0 b g wr vd vw c r) (hg : wr.grownBy wr' (some k)) (h0 : w0.heap.size ≤ k) (h1 : k ≠ b) (h2 : k ≠ g) (h3 : vd.ownBlock ≠ some k) (h4 : r.l ≠ [] → vw.ownBlock ≠ some k) : Two w0 b g wr' vd vw c r :=
  ⟨h.dsk.grown hg (by simpa using h1) (fun q hq => by cases hq; exact h3), h.row.grown hg (by simpa using h2), h.rd.grown hg (fun hx q hq => by cases hq; exact h4 hx), h.ok, h.lk, h.fd, h.ab, h.ag, h.ad, h.bel.trans (grown_below hg h.bel.size (fun q hq => by cases hq; exact h0))⟩

theorem Two.ng {w0 wr : World} {b g : Nat} {vd vw : Value} {c r : PDk} (h : Two w0 b g wr vd vw c r) : vd.ownBlock ≠ some g := own_row_nD h.row h.dsk.own (by decide)
theorem Rd.same_len {w w' : World} {v : Value} {l l' : List Int} (h : Rd w v l) (h' : Rd w' v l') : l.length = l'.length := by
  obtain ⟨a, c, e, _⟩ := h.form
  obtain ⟨a', c', e', _⟩ := h'.form
  rw [e] at e'
  injection e'
/-- One thing done with both. -/
theorem Two.go {w0 w6 w7 w9 w10 : World} {b g : Nat} {vd vd' vw vw' : Value} {c c' r r' : PDk} (h : Two w0 b g w6 vd vw c r) (hbw : w0.heap.size ≤ b) (hgw : w0.heap.size ≤ g) (hD : Dsk w7 b vd' c') (hG : Gr2 w6 w7 b vd) (hS : Spt w6 vd vd') (h79 : Below w7.heap.size w7 w9)
    (hrd : Rd w9 vw' r'.l) (hsp : vw' = vw ∨ Fr w7.heap.size vw') (hg : w9.grownBy w10 (some g)) (hrow : Row w10 g 35 (dkc vw' r')) (hok : OkD r') (hlk : Lk c' r') : Two w0 b g w10 vd' vw' c' r' := by
  have hbl := h.dsk.lt
  have hgl := h.row.lt
  have h67 := hG.size
  have hne := h.ne
  have hB7 : Below w0.heap.size w0 w7 := h.bel.trans (hG.below h.bel.size hbw h.fd)
  have hB9 := below_and hB7 (Nat.le_refl _) h79
  have hfd : Fr w0.heap.size vd' := by rcases hS with e | e; exact fun k hk => h.fd k (e ▸ hk); exact e.mono h.bel.size
  have hrow7 := hG.row h.row (Ne.symm hne) h.ng
  have hvg : vd'.ownBlock ≠ some g := own_row_nD hrow7 hD.own (by decide)
  have hll : vw' = vw → r'.l ≠ [] → r.l ≠ [] := fun e hx hr => by
    subst e
    have := hrd.same_len h.rd
    rw [hr] at this
    exact hx (List.eq_nil_of_length_eq_zero (by simpa using this))
  have hag : r'.l ≠ [] → vw'.ownBlock ≠ some g := fun hx => by
    rcases hsp with e | e
    · rw [e]; exact h.ag (hll e hx)
    · intro e2; have := e g e2; omega
  refine ⟨(hD.below h79).grown hg (by simpa using (Ne.symm hne)) (fun k hk => by cases hk; exact hvg), hrow, hrd.grown hg (fun hx k hk => by cases hk; exact hag hx), hok, hlk, hfd, fun hx => ?_, hag, fun hx k hk => ?_, hB9.trans (grown_below hg hB9.size (fun k hk => by cases hk; exact hgw))⟩
  · rcases hsp with e | e
    · rw [e]; exact h.ab (hll e hx)
    · intro e2; have := e b e2; omega
  · rcases hsp with e | e
    · rw [e]
      rcases hS with e2 | e2
      · exact h.ad (hll e hx) k (e2 ▸ hk)
      · intro e3
        have h1 := e2 k hk
        have h2 := h.rd.lt (hll e hx) k e3
        omega
    · intro e3
      have h1 := e k e3
      have h2 := hD.own.lt k hk
      omega
/-- A text of the call's own stays beside. -/
theorem Two.keep {w0 w6 w7 w9 w10 : World} {b g : Nat} {vd vd' vw vw' o : Value} {c c' r r' : PDk} {xs : List Value} (h : Two w0 b g w6 vd vw c r) (hD : Dsk w7 b vd' c') (hG : Gr2 w6 w7 b vd) (hS : Spt w6 vd vd') (h79 : Below w7.heap.size w7 w9)
    (hrd : Rd w9 vw' r'.l) (hsp : vw' = vw ∨ Fr w7.heap.size vw') (hg : w9.grownBy w10 (some g)) (ho : Own w6 5 o xs) (a1 : ∀ k, o.ownBlock = some k → vd.ownBlock ≠ some k) (a2 : r.l ≠ [] → ∀ k, o.ownBlock = some k → vw.ownBlock ≠ some k) :
    Own w10 5 o xs ∧ (∀ k, o.ownBlock = some k → vd'.ownBlock ≠ some k) ∧ (r'.l ≠ [] → ∀ k, o.ownBlock = some k → vw'.ownBlock ≠ some k) := by
  have h67 := hG.size
  have ho7 := hG.own ho (h.dsk.nu ho) (fun k hk e => a1 k e hk)
  refine ⟨(ho7.below h79).grown hg (fun k hk => by cases hk; exact own_row_nD h.row ho (by decide)), fun k hk => ?_, fun hx k hk => ?_⟩
  · rcases hS with e | e
    · rw [e]; exact a1 k hk
    · intro e2; have := e k e2; have := ho.lt k hk; omega
  · rcases hsp with e | e
    · subst e
      refine a2 (fun hr => hx ?_) k hk
      have := hrd.same_len h.rd
      rw [hr] at this
      exact List.eq_nil_of_length_eq_zero (by simpa using this)
    · intro e2; have := e k e2; have := ho.lt k hk; omega
end Go.Proofs.Yteafgdidjdfiiaa
