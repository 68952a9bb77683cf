/- Cells of records: a part of a row is loaded; a record is of one-cell values. -/
import Derived.Test.YtgbfmccecnfooaaCAAP
import Derived.Test.YtgbfmccecnfooaaCAAO
import Derived.Deep.MidRow
set_option linter.unusedVariables false
namespace Go.Proofs.Ytgbfmccecnfooaa
open Go.RowKit Oct
section
variable {P : Program}
/-- A part of a row is loaded. -/
theorem wl_part {ops : Array Oper} {rest : List Oper} {o : Oper} {a : Act} {w : World} {Q : Exit → Act → World → Prop} (hgd : o.guard = none) (ty : TypeId) (x : Operand) (ho : o.op = .load ty x)
    (b off : Nat) (hx : a.eval x = .pointer (some ⟨b, off, none⟩)) (t : TypeId) (xs : List Value) (h : Row w b t xs) (cs : List Value) (hcs : (xs.drop off).take cs.length = cs) (d : TypeDesc) (hu : P.underlying ty = some d) (hd : d.isRow = true)
    (hi : (P.info? ty).map (·.size) = some cs.length) (k : wpList P ops Q rest (a.put o.dst (.agg cs.toArray)) w) : wpList P ops Q (o :: rest) a w :=
  wpList_load_mid hgd ty x ho b off hx cs d (fun j v hj => by
    have := h.src off cs.length j v (by rw [hcs]; exact hj)
    rw [Addr.add_mid] at this
    exact this) hu hd hi k
end
theorem World.rangeAt.blk {w w' : World} {b o : Nat} {cs : List Value} (h : w.rangeAt b o cs) (e : w'.heap[b]? = w.heap[b]?) : w'.rangeAt b o cs := rangeAt_block h e
theorem one_RReq {G : Nat → Prop} {w : World} {r : List Value} {x : PReq} (h : RReq G w r x) : ∀ v ∈ r, v.oneCell' = true := by
  obtain ⟨o, g, rfl, h1, h2⟩ := h
  intro v hv
  simp only [List.mem_cons, List.not_mem_nil, or_false] at hv
  rcases hv with rfl | rfl | rfl | rfl
  · rfl
  · rfl
  · exact h1.one
  · exact h2.one
theorem one_RPrep {G : Nat → Prop} {w : World} {r : List Value} {x : PPrep} (h : RPrep G w r x) : ∀ v ∈ r, v.oneCell' = true := by
  obtain ⟨o, g, c, rfl, h1, h2, h3⟩ := h
  intro v hv
  simp only [List.mem_cons, List.not_mem_nil, or_false] at hv
  rcases hv with rfl | rfl | rfl | rfl | rfl | rfl | rfl | rfl <;> first | rfl | exact h1.one | exact h2.one | exact h3.one
theorem one_RRep {G : Nat → Prop} {w : World} {r : List Value} {x : PRep} (h : RRep G w r x) : ∀ v ∈ r, v.oneCell' = true := by
  obtain ⟨d, s, p, g, rfl, h1, h2, h3, h4⟩ := h
  intro v hv
  simp only [List.mem_cons, List.not_mem_nil, or_false] at hv
  rcases hv with rfl | rfl | rfl | rfl | rfl | rfl | rfl | rfl <;> first | rfl | exact h1.one | exact h2.one | exact h3.one | exact h4.one
end Go.Proofs.Ytgbfmccecnfooaa
