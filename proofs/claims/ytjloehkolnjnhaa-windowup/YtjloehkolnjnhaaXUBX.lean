/- Windows in memory: Preps. Written by mk19p.py. -/
import Derived.Test.YtjloehkolnjnhaaXUBW
import Derived.Test.YtjloehkolnjnhaaXUBA
set_option linter.unusedSimpArgs false
set_option linter.unusedVariables false
namespace Go.Proofs.Ytjloehkolnjnhaa
open Go.RowKit Oct Kvl Bal Go.Shelf Go.Sort
theorem LB.ofInts {w : World} {B n : Nat} {v : Value} {ks : List Int} (h : w.ownsRow B 3 1 v n (ks.map encZ)) (hn : ks.length = n) : LB RInt 3 1 B w v ks := by
  have hr : ∀ l : List Int, (l.map fun x => [Value.int .i64 x]).flatten = l.map encZ := fun l => by
    induction l with
    | nil => rfl
    | cons x l ih => rw [List.map_cons, List.flatten_cons, ih, List.map_cons]; rfl
  have ha : ∀ (l : List Int) (P : Nat → Prop), All2 (RInt P w) (l.map fun x => [Value.int .i64 x]) l := fun l P => by
    induction l with
    | nil => trivial
    | cons x l ih => exact ⟨rfl, ih⟩
  refine ⟨ks.map fun x => [Value.int .i64 x], fun r hr => ?_, ?_, ?_, ha _ _⟩
  · obtain ⟨x, _, rfl⟩ := List.mem_map.1 hr
    rfl
  · rw [hr, List.length_map, hn]
    refine ⟨h.1, ?_⟩
    rcases h.2 with hq | ⟨g, cap, cur, e, g1, g2, g3⟩
    · exact .inl hq
    · exact .inr ⟨g, cap, cur, e, Nat.zero_le _, g2, g3⟩
  · intro g hg
    rcases h.2 with ⟨rfl, _⟩ | ⟨q, cap, cur, e, g1, g2, g3⟩
    · simp [Value.ownBlock] at hg
    · rw [e] at hg
      simp [Value.ownBlock] at hg
      omega
theorem RL.intAt {G : Nat → Prop} {w : World} {v : Value} {ks : List Int} (h : RL RInt 1 G w v ks) {i : Nat} {x : Int} (hi : ks[i]? = some x) : ∃ g off cap, v = .slice (some ⟨g, off, none⟩) ks.length cap ∧ ks.length ≤ cap ∧ cap ≤ maxLen ∧ G g ∧ g < w.heap.size ∧ ∀ u : World, u.heap[g]? = w.heap[g]? → u.cell? ⟨g, off + i, none⟩ = some (.int .i64 x) := by
  have hlt : i < ks.length := (List.getElem?_eq_some_iff.1 hi).1
  obtain ⟨g, off, cap, e, h1, h2, h3, h4, h5⟩ := h.at (by omega)
  obtain ⟨r, _, hr, hx⟩ := h5 i x hi
  subst hx
  refine ⟨g, off, cap, e, h1, h2, h3, h4, fun u hu => ?_⟩
  have := rangeAt_block hr hu 0 _ rfl
  simpa using this
end Go.Proofs.Ytjloehkolnjnhaa
