/- Disks, plain: the document's own. -/
import Derived.Test.YteafgdidjdfiiaaDk
namespace Go.Proofs.Yteafgdidjdfiiaa
open Oct

/-- What would be there. -/
def nxD (d : PDk) (x : List Int) (all : Bool) : List Int := if all = true then x else d.l ++ x
/-- The document's Write. -/
def rwD (d : PDk) (x : List Int) (all : Bool) : PDk × Int :=
  if d.dead = true then (d, 115)
  else if d.room < (nxD d x all).length then (d, 113)
  else if brD d = true then ({ d with dead := true, l := if all = true then d.l else d.l ++ x.take (wit d.te x.length).toNat }, 115)
  else ({ coD d with l := nxD d x all }, 0)
theorem nx_byt {d : PDk} {x : List Int} {all : Bool} (h : Byt d.l) (hx : Byt x) : Byt (nxD d x all) := by
  unfold nxD
  split
  · exact hx
  · exact h.app hx
theorem OkD.rw {d : PDk} (h : OkD d) {x : List Int} (hx : Byt x) (all : Bool) : OkD (rwD d x all).1 := by
  unfold rwD
  split
  · exact h
  split
  · exact h
  rename_i h0 h1
  have hr := h.r1
  have hlen : (nxD d x all).length ≤ 4194304 := by omega
  split
  · refine ⟨?_, ?_, h.r0, h.r1, h.w0, h.w1⟩
    · show Byt (if all = true then d.l else _)
      split
      · exact h.byt
      · exact h.byt.app (hx.take _)
    · show (if all = true then d.l else d.l ++ x.take (wit d.te x.length).toNat).length ≤ _
      split
      · exact h.len
      · rename_i h2
        unfold nxD at hlen
        rw [if_neg h2, List.length_append] at hlen
        rw [List.length_append, List.length_take]
        omega
  · have hc := h.co
    exact ⟨nx_byt h.byt hx, hlen, hc.r0, hc.r1, hc.w0, hc.w1⟩
/-- The code's disk and the document's. -/
def Lk (c r : PDk) : Prop := c.l = r.l ∧ c.room = r.room ∧ c.dead = r.dead ∧ (c.dead = false → c.due = r.due ∧ c.wr = r.wr ∧ c.te = r.te)
theorem Lk.nw (n : Int) : Lk (nwD n) (nwD n) := ⟨rfl, rfl, rfl, fun _ => ⟨rfl, rfl, rfl⟩⟩
theorem Lk.bk {c r : PDk} (h : Lk c r) (a t : Int) : Lk (bkD c a t) (bkD r a t) := ⟨h.1, h.2.1, h.2.2.1, fun _ => ⟨rfl, rfl, rfl⟩⟩
theorem Lk.me {c r : PDk} (h : Lk c r) : Lk (meD c) (meD r) := ⟨h.1, h.2.1, rfl, fun _ => ⟨rfl, rfl, rfl⟩⟩
theorem Lk.ro {c r : PDk} (h : Lk c r) (n : Int) : Lk (roD c n) (roD r n) := ⟨h.1, rfl, h.2.2.1, h.2.2.2⟩
theorem Lk.eq {c r : PDk} (h : Lk c r) (hd : c.dead = false) : c = r := by
  obtain ⟨h1, h2, h3, h4⟩ := h
  obtain ⟨h5, h6, h7⟩ := h4 hd
  cases c; cases r
  simp only at *
  subst h1 h2 h3 h5 h6 h7
  rfl
theorem Lk.di (d : PDk) (l : List Int) (h : d.l = l) : Lk (diD d) { d with dead := true, l := l } := ⟨h, rfl, rfl, fun h => by cases h⟩
theorem Lk.refl (d : PDk) : Lk d d := ⟨rfl, rfl, rfl, fun _ => ⟨rfl, rfl, rfl⟩⟩
theorem Lk.ap {c r : PDk} (h : Lk c r) (x : List Int) : (apD c x).2 = (rwD r x false).2 ∧ Lk (apD c x).1 (rwD r x false).1 := by
  cases hd : c.dead with
  | true =>
    have hr : r.dead = true := by rw [← h.2.2.1]; exact hd
    have e : noD c (c.l.length + x.length) = 115 := by unfold noD; rw [if_pos hd]
    unfold apD rwD
    rw [e, if_pos hr, if_pos (by decide)]
    exact ⟨rfl, h⟩
  | false =>
    obtain rfl := h.eq hd
    have hn : noD c (c.l.length + x.length) = if c.room < c.l.length + x.length then 113 else 0 := by unfold noD; rw [if_neg (by simp [hd])]
    have hx : ((nxD c x false).length : Int) = c.l.length + x.length := by unfold nxD; simp
    have hnd : ¬ c.dead = true := by simp [hd]
    by_cases h1 : c.room < c.l.length + x.length
    · have a1 : apD c x = (c, 113) := by unfold apD; rw [hn, if_pos h1, if_pos (by decide)]
      have r1 : rwD c x false = (c, 113) := by unfold rwD; rw [if_neg hnd, hx, if_pos h1]
      rw [a1, r1]
      exact ⟨rfl, Lk.refl c⟩
    · cases hb : brD c with
      | true =>
        have a1 : apD c x = (diD { c with l := c.l ++ x.take (wit c.te x.length).toNat }, 115) := by unfold apD; rw [hn, if_neg h1, if_neg (by decide), if_pos hb]
        have r1 : rwD c x false = ({ c with dead := true, l := if (false : Bool) = true then c.l else c.l ++ x.take (wit c.te x.length).toNat }, 115) := by unfold rwD; rw [if_neg hnd, hx, if_neg h1, if_pos hb]
        rw [a1, r1]
        exact ⟨rfl, rfl, rfl, rfl, fun h => by cases h⟩
      | false =>
        have a1 : apD c x = ({ coD c with l := c.l ++ x }, 0) := by unfold apD; rw [hn, if_neg h1, if_neg (by decide), if_neg (by simp [hb])]
        have r1 : rwD c x false = ({ coD c with l := nxD c x false }, 0) := by unfold rwD; rw [if_neg hnd, hx, if_neg h1, if_neg (by simp [hb])]
        rw [a1, r1]
        exact ⟨rfl, Lk.refl _⟩
theorem Lk.re {c r : PDk} (h : Lk c r) (x : List Int) : (reD c x).2 = (rwD r x true).2 ∧ Lk (reD c x).1 (rwD r x true).1 := by
  cases hd : c.dead with
  | true =>
    have hr : r.dead = true := by rw [← h.2.2.1]; exact hd
    have e : noD c x.length = 115 := by unfold noD; rw [if_pos hd]
    unfold reD rwD
    rw [e, if_pos hr, if_pos (by decide)]
    exact ⟨rfl, h⟩
  | false =>
    obtain rfl := h.eq hd
    have hn : noD c x.length = if c.room < x.length then 113 else 0 := by unfold noD; rw [if_neg (by simp [hd])]
    have hx : ((nxD c x true).length : Int) = x.length := by unfold nxD; simp
    have hnd : ¬ c.dead = true := by simp [hd]
    by_cases h1 : c.room < x.length
    · have a1 : reD c x = (c, 113) := by unfold reD; rw [hn, if_pos h1, if_pos (by decide)]
      have r1 : rwD c x true = (c, 113) := by unfold rwD; rw [if_neg hnd, hx, if_pos h1]
      rw [a1, r1]
      exact ⟨rfl, Lk.refl c⟩
    · cases hb : brD c with
      | true =>
        have a1 : reD c x = (diD c, 115) := by unfold reD; rw [hn, if_neg h1, if_neg (by decide), if_pos hb]
        have r1 : rwD c x true = ({ c with dead := true, l := if (true : Bool) = true then c.l else c.l ++ x.take (wit c.te x.length).toNat }, 115) := by unfold rwD; rw [if_neg hnd, hx, if_neg h1, if_pos hb]
        rw [a1, r1]
        exact ⟨rfl, rfl, rfl, rfl, fun h => by cases h⟩
      | false =>
        have a1 : reD c x = ({ coD c with l := x }, 0) := by unfold reD; rw [hn, if_neg h1, if_neg (by decide), if_neg (by simp [hb])]
        have r1 : rwD c x true = ({ coD c with l := nxD c x true }, 0) := by unfold rwD; rw [if_neg hnd, hx, if_neg h1, if_neg (by simp [hb])]
        rw [a1, r1]
        exact ⟨rfl, Lk.refl _⟩
end Go.Proofs.Yteafgdidjdfiiaa
