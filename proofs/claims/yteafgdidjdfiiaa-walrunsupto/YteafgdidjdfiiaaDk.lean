/- Disks, plain. -/
import Derived.Test.YteafgdidjdfiiaaLst
namespace Go.Proofs.Yteafgdidjdfiiaa
open Oct

/-- A disk: its bytes, its room, is it dead, is it to break, after how many writes, how much stays. -/
structure PDk where
  l : List Int
  room : Int
  dead : Bool
  due : Bool
  wr : Int
  te : Int
structure OkD (d : PDk) : Prop where
  byt : Byt d.l
  len : d.l.length ≤ 4194304
  r0 : 0 ≤ d.room
  r1 : d.room ≤ 4194304
  w0 : 0 ≤ d.wr
  w1 : d.wr ≤ 9223372036854775807
/-- The number from 0 to m that is nearest to n. -/
def wit (n m : Int) : Int := min (max 0 n) m
theorem wit_bd {n m : Int} (h : 0 ≤ m) : 0 ≤ wit n m ∧ wit n m ≤ m := by unfold wit; omega
def nwD (r : Int) : PDk := ⟨[], wit r 4194304, false, false, 0, 0⟩
theorem ok_nw (r : Int) : OkD (nwD r) := ⟨Byt.nil, by simp [nwD], (wit_bd (by decide)).1, (wit_bd (by decide)).2, Int.le_refl _, by simp [nwD]⟩
def roD (d : PDk) (r : Int) : PDk := { d with room := wit r 4194304 }
theorem OkD.ro {d : PDk} (h : OkD d) (r : Int) : OkD (roD d r) := ⟨h.byt, h.len, (wit_bd (by decide)).1, (wit_bd (by decide)).2, h.w0, h.w1⟩
def bkD (d : PDk) (a t : Int) : PDk := { d with due := true, wr := max 0 a, te := t }
theorem OkD.bk {d : PDk} (h : OkD d) {a : Int} (ha : a ≤ 9223372036854775807) (t : Int) : OkD (bkD d a t) := ⟨h.byt, h.len, h.r0, h.r1, by show 0 ≤ max 0 a; omega, by show max 0 a ≤ _; omega⟩
def meD (d : PDk) : PDk := { d with dead := false, due := false, wr := 0, te := 0 }
theorem OkD.me {d : PDk} (h : OkD d) : OkD (meD d) := ⟨h.byt, h.len, h.r0, h.r1, Int.le_refl _, by simp [meD]⟩
/-- A disk that died. -/
def diD (d : PDk) : PDk := { d with dead := true, due := false, wr := 0, te := 0 }
theorem OkD.di {d : PDk} (h : OkD d) : OkD (diD d) := ⟨h.byt, h.len, h.r0, h.r1, Int.le_refl _, by simp [diD]⟩
/-- Why nothing is written. -/
def noD (d : PDk) (n : Int) : Int := if d.dead = true then 115 else if d.room < n then 113 else 0
/-- Does it break now? -/
def brD (d : PDk) : Bool := d.due && (d.wr == 0)
/-- A write is counted. -/
def coD (d : PDk) : PDk := if d.due = true ∧ d.wr ≠ 0 then { d with wr := d.wr - 1 } else d
theorem OkD.co {d : PDk} (h : OkD d) : OkD (coD d) := by
  unfold coD
  split
  · rename_i hh
    have := h.w0; have := h.w1
    exact ⟨h.byt, h.len, h.r0, h.r1, by show 0 ≤ d.wr - 1; omega, by show d.wr - 1 ≤ _; omega⟩
  · exact h
theorem co_l (d : PDk) : (coD d).l = d.l := by unfold coD; split <;> rfl
theorem co_room (d : PDk) : (coD d).room = d.room := by unfold coD; split <;> rfl
theorem co_dead (d : PDk) : (coD d).dead = d.dead := by unfold coD; split <;> rfl
theorem co_te (d : PDk) : (coD d).te = d.te := by unfold coD; split <;> rfl
theorem co_br {d : PDk} (h : brD d = true) : coD d = d := by
  unfold brD at h
  unfold coD
  rw [if_neg]
  rintro ⟨h1, h2⟩
  simp [h2] at h
/-- A write: bytes behind what is there. -/
def apD (d : PDk) (b : List Int) : PDk × Int :=
  if noD d (d.l.length + b.length) ≠ 0 then (d, noD d (d.l.length + b.length))
  else if brD d = true then (diD { d with l := d.l ++ b.take (wit d.te b.length).toNat }, 115)
  else ({ coD d with l := d.l ++ b }, 0)
/-- A write: bytes in the place of all. -/
def reD (d : PDk) (b : List Int) : PDk × Int :=
  if noD d b.length ≠ 0 then (d, noD d b.length)
  else if brD d = true then (diD d, 115)
  else ({ coD d with l := b }, 0)
theorem noD_ok {d : PDk} {n : Int} (h : noD d n = 0) : d.dead = false ∧ n ≤ d.room := by
  unfold noD at h
  split at h
  · cases h
  · split at h
    · cases h
    · rename_i h1 h2
      exact ⟨by simpa using h1, by omega⟩
theorem OkD.ap {d : PDk} (h : OkD d) {b : List Int} (hb : Byt b) : OkD (apD d b).1 := by
  unfold apD
  split
  · exact h
  · rename_i h0
    obtain ⟨_, h1⟩ := noD_ok (Decidable.not_not.1 h0)
    have := h.r1
    split
    · refine OkD.di ⟨Byt.app h.byt (hb.take _), ?_, h.r0, h.r1, h.w0, h.w1⟩
      simp only [List.length_append, List.length_take]
      omega
    · have hc := h.co
      refine ⟨Byt.app h.byt hb, ?_, hc.r0, hc.r1, hc.w0, hc.w1⟩
      simp only [List.length_append]
      omega
theorem OkD.re {d : PDk} (h : OkD d) {b : List Int} (hb : Byt b) : OkD (reD d b).1 := by
  unfold reD
  split
  · exact h
  · rename_i h0
    obtain ⟨_, h1⟩ := noD_ok (Decidable.not_not.1 h0)
    have := h.r1
    split
    · exact h.di
    · have hc := h.co
      exact ⟨hb, by show b.length ≤ _; omega, hc.r0, hc.r1, hc.w0, hc.w1⟩
end Go.Proofs.Yteafgdidjdfiiaa
