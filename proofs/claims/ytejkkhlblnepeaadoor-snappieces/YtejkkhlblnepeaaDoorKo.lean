/- The document's copy of entries. -/
import Derived.Test.YtejkkhlblnepeaaDoorKn
import Derived.Test.YtejkkhlblnepeaaDoorLst
set_option linter.unusedVariables false
set_option linter.unusedSimpArgs false
namespace Go.Proofs.YtejkkhlblnepeaaDoor
open Go.RowKit Oct Kvl

theorem keepE {w u : World} {p : Addr} {v : Value} (hb : Below w.heap.size w u) (h : w.cell? p = some v) : u.cell? p = some v := (hb.cell (World.block_lt_of_cell? w p h)).trans h
theorem own_sliceE {w : World} {e : TypeId} {v : Value} {xs : List Value} (h : Own w e v xs) : ∃ ao n cap, v = .slice ao n cap := by
  obtain ⟨ao, cap, e, _⟩ := h.form; exact ⟨ao, _, cap, e⟩
theorem take_lenE {α : Type} {ys : List α} {q : Nat} (h : q ≤ ys.length) : (ys.take q).length = q := by rw [List.length_take]; omega

theorem own_zero2 (w : World) (e : TypeId) : Own ((w.alloc (.cells #[] e)).alloc (.cells #[] e)) e (.slice (some ⟨w.heap.size + 1, 0, none⟩) 0 0) (bc []) := by
  rw [show w.heap.size + 1 = (w.alloc (.cells #[] e)).heap.size by simp]
  exact own_zero _ e
/-- Two empty texts are made, then one is filled. -/
theorem cp2 {w w6 : World} {v6 : Value} {l : List Int} {g1 g2 : Nat} (happ : App ((w.alloc (.cells #[] 5)).alloc (.cells #[] 5)).drew 5 (.slice (some ⟨g1, 0, none⟩) 0 0) w6 v6 (bc ([] ++ l))) (hg : (g1 = w.heap.size ∧ g2 = w.heap.size + 1) ∨ (g1 = w.heap.size + 1 ∧ g2 = w.heap.size)) (hb : Byt l) :
    Below w.heap.size w w6 ∧ RT (From w.heap.size) w6 v6 l ∧ Own w6 5 (.slice (some ⟨g2, 0, none⟩) 0 0) (bc []) ∧ v6.ownBlock ≠ some g2 := by
  rw [List.nil_append] at happ
  have h2 : Below w.heap.size w ((w.alloc (.cells #[] 5)).alloc (.cells #[] 5)).drew := (below_and (below_alloc w _) (Nat.le_refl _) (below_alloc _ _)).drew
  have hsz : ((w.alloc (.cells #[] 5)).alloc (.cells #[] 5)).drew.heap.size = w.heap.size + 2 := by simp
  have hg1 : w.heap.size ≤ g1 := by omega
  have hne : g1 ≠ g2 := by omega
  have ho2 : Own ((w.alloc (.cells #[] 5)).alloc (.cells #[] 5)).drew 5 (.slice (some ⟨g2, 0, none⟩) 0 0) (bc []) := by
    rcases hg with ⟨_, rfl⟩ | ⟨_, rfl⟩
    · exact (own_zero2 w 5).drew
    · exact ((own_zero w 5).below (below_alloc _ _)).drew
  refine ⟨h2.trans (happ.below (fr_at _ _ _ _ hg1) (by omega)), RT.own happ.own hb (happ.fr (fr_at _ _ _ _ hg1) (by omega)), ho2.grown happ.grown (fun k hk e => ?_), fun e => ?_⟩
  · simp [Value.ownBlock] at hk e
    omega
  · rcases happ.spot with h | h
    · rw [h] at e
      simp [Value.ownBlock] at e
      omega
    · have := h _ e
      omega
/-- Then the other. -/
theorem cp3 {w w6 w7 : World} {v6 v7 : Value} {l1 l2 : List Int} {g2 : Nat} (hb6 : Below w.heap.size w w6) (hR6 : RT (From w.heap.size) w6 v6 l1) (hne : v6.ownBlock ≠ some g2) (hg2 : w.heap.size ≤ g2) (happ : App w6 5 (.slice (some ⟨g2, 0, none⟩) 0 0) w7 v7 (bc ([] ++ l2))) (hb : Byt l2) :
    Below w.heap.size w w7 ∧ RT (From w.heap.size) w7 v6 l1 ∧ RT (From w.heap.size) w7 v7 l2 := by
  rw [List.nil_append] at happ
  refine ⟨hb6.trans (happ.below (fr_at _ _ _ _ hg2) hb6.size), ⟨hR6.1.grown happ.grown (fun _ k hk => ?_), hR6.2⟩, RT.own happ.own hb (happ.fr (fr_at _ _ _ _ hg2) hb6.size)⟩
  simp [Value.ownBlock] at hk
  rw [← hk]
  exact hne

end Go.Proofs.YtejkkhlblnepeaaDoor
