/- The walks over package msg: Encode. -/
import Derived.Test.YtjloehkolnjnhaaDoorXNBM
import Derived.Test.YtjloehkolnjnhaaDoorXNBN
import Derived.Defers
import Derived.Recover
import Derived.Laws.Pointers
import Derived.Deep.Cut
set_option linter.unusedVariables false
namespace Go.Proofs.YtjloehkolnjnhaaDoor
open Go.RowKit Oct
/-- Two blocks may have turned, no other. -/
structure Two (a b : Nat) (w w' : World) : Prop where
  os : w'.os = w.os
  tape : w'.tape = w.tape
  output : w'.output = w.output
  size : w.heap.size ≤ w'.heap.size
  block : ∀ k, k < w.heap.size → k ≠ a → k ≠ b → w'.heap[k]? = w.heap[k]?
theorem Two.of {a b : Nat} {w w1 w2 : World} (h1 : w.grownBy w1 (some a)) (h2 : w1.grownBy w2 (some b)) : Two a b w w2 :=
  ⟨h2.os.trans h1.os, h2.tape.trans h1.tape, h2.output.trans h1.output, Nat.le_trans h1.size h2.size, fun k hk ha hb =>
    (h2.block k (Nat.lt_of_lt_of_le hk h1.size) (fun e => hb (by injection e))).trans (h1.block k hk (fun e => ha (by injection e)))⟩
theorem Two.below {a b B : Nat} {w w1 w2 : World} (h : Below B w w1) (ht : Two a b w1 w2) (hB : B ≤ w.heap.size) (ha : B ≤ a) (hb : B ≤ b) : Below B w w2 :=
  h.trans ⟨ht.os, ht.tape, ht.output, ht.size, fun k hk => ht.block k (Nat.lt_of_lt_of_le hk (Nat.le_trans hB h.size)) (by omega) (by omega)⟩
/-- What Encode hands back. -/
def EPost (m : PMsg) (w : World) (e : Ending) (w' : World) : Prop :=
  ∃ v, e = .returned (.tuple #[v, .int .i64 (encE m)]) ∧ Own w' 5 v (bc (encB m)) ∧ Byt (encB m) ∧ Fr w.heap.size v ∧ Below w.heap.size w w'
theorem EPost.no {m : PMsg} {w w' : World} {n : Int} (hn : encE m = n) (h0 : n ≠ 0) (hb : Below w.heap.size w w') : EPost m w (.returned (.tuple #[.slice none 0 0, .int .i64 n])) w' := by
  have e : encB m = [] := by unfold encB; rw [if_neg (by rw [hn]; exact h0)]
  refine ⟨_, by rw [hn], ?_, ?_, Fr.nil _, hb⟩
  · rw [e]; exact Own.nil _ _
  · rw [e]; exact Byt.nil
theorem row_alloc {w : World} {b : Nat} {t : TypeId} {xs : List Value} (h : Row w b t xs) (o : Obj) : Row (w.alloc o) b t xs := h.below (below_alloc w o)
end Go.Proofs.YtjloehkolnjnhaaDoor
