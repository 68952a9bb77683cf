/- Slices of ints; the walks over places and orders. -/
import Derived.Test.YtagmcbiallgdaaaB2
namespace Go.Proofs.Ytagmcbiallgdaaa
open Go.RowKit Oct Bal

/-- Ints as cells. -/
def ic (l : List Int) : List Value := l.map (Value.int .i64)
theorem ic_len (l : List Int) : (ic l).length = l.length := by simp [ic]
theorem ic_app (a b : List Int) : ic (a ++ b) = ic a ++ ic b := by simp [ic]
theorem ic_one (l : List Int) : ∀ u ∈ ic l, u.oneCell' = true := ints_oneCell .i64 l
theorem ic_getD (l : List Int) (j : Nat) (h : j < l.length) : (ic l)[j]? = some (.int .i64 (l.getD j 0)) := by
  simp [ic, List.getD, List.getElem?_eq_getElem h]
theorem ic_take (l : List Int) (k : Nat) : ic (l.take k) = (ic l).take k := by simp [ic]
theorem ic_drop (l : List Int) (k : Nat) : ic (l.drop k) = (ic l).drop k := by simp [ic]

/-- A slice of ints that reads l. -/
def Rdi (w : World) (v : Value) (l : List Int) : Prop := Rdv w v (ic l)
theorem Rdi.below {w w' : World} {v : Value} {l : List Int} (h : Rdi w v l) (hb : Below w.heap.size w w') : Rdi w' v l := Rdv.below h hb
theorem Rdi.form {w : World} {v : Value} {l : List Int} (h : Rdi w v l) : ∃ ao cap, v = .slice ao l.length cap ∧ cap ≤ maxLen := by
  obtain ⟨ao, cap, h1, h2⟩ := Rdv.form h
  exact ⟨ao, cap, by rw [h1, ic_len], h2⟩
theorem Rdi.at {w : World} {v : Value} {l : List Int} (h : Rdi w v l) (hl : 0 < l.length) : ∃ b off cap, v = .slice (some ⟨b, off, none⟩) l.length cap ∧ l.length ≤ cap ∧ cap ≤ maxLen ∧ b < w.heap.size ∧
    ∀ j, j < l.length → w.cell? ⟨b, off + j, none⟩ = some (.int .i64 (l.getD j 0)) := by
  obtain ⟨b, off, cap, h1, h2, h3, h4, h5⟩ := Rdv.at h (by rw [ic_len]; exact hl)
  rw [ic_len] at h1 h2
  exact ⟨b, off, cap, h1, h2, h3, h4, fun j hj => h5 j _ (ic_getD l j hj)⟩
theorem Rdi.len {w : World} {v : Value} {l : List Int} (h : Rdi w v l) : (l.length : Int) ≤ 9223372036854775807 := by
  obtain ⟨ao, cap, _, h1, h2, _⟩ := h
  rw [ic_len] at h1
  unfold maxLen at h2
  omega
theorem Own.rdi {w : World} {e : TypeId} {v : Value} {l : List Int} (h : Own w e v (ic l)) : Rdi w v l := h.rdv
theorem Rdi.drewN {w : World} {v : Value} {l : List Int} (h : Rdi w v l) (n : Nat) : Rdi (w.drewN n) v l := h

theorem getD_some {l : List Int} {k : Nat} {x : Int} (h : k < l.length) (hx : x = l.getD k 0) : l[k]? = some x := by
  rw [hx]; simp [List.getD, List.getElem?_eq_getElem h]
theorem no_snoc {l : List Int} {k : Nat} {x r : Int} (h : l[k]? = some x) (hn : r ∉ l.take k) (hx : ¬ x = r) : r ∉ l.take (k + 1) := by
  rw [List.take_add_one, h]
  simp only [List.mem_append, Option.toList_some, List.mem_singleton, not_or]
  exact ⟨hn, fun e => hx e.symm⟩

end Go.Proofs.Ytagmcbiallgdaaa
