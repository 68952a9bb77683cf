/- The walks over package kv: where a name is. -/
import Derived.Test.YtejkkhlblnepeaaDoorKg
set_option linter.unusedVariables false
namespace Go.Proofs.YtejkkhlblnepeaaDoor
open Go.RowKit Oct Kvl

theorem wl_load_mid_w {P : Program} {ops : Array Oper} {rest : List Oper} {op : Oper} {a : Act} {w : World} {Q : Exit → Act → World → Prop} (hgd : Region.wanted op (yielded ops a.tmps) = true) (ty : TypeId) (x : Operand) (ho : op.op = .load ty x)
    (b o : Nat) (hx : a.eval x = .pointer (some ⟨b, o, none⟩)) (cs : List Value) (d : TypeDesc) (hc : w.rangeAt b o cs) (hu : P.underlying ty = some d) (hd : d.isRow = true)
    (hi : (P.info? ty).map (·.size) = some cs.length) (h : wpList P ops Q rest (a.put op.dst (.agg cs.toArray)) w) : wpList P ops Q (op :: rest) a w :=
  wpList_wanted hgd fun _ hK => wp_load_mid ty x ho b o hx cs d hc hu hd hi (hK _ _ h)


def isIn (n : List Int) (l : List PEnt) : Bool := (getR n l).isSome
theorem isIn_at {n : List Int} {l : List PEnt} {x : PEnt} (h : l[pos n l]? = some x) : isIn n l = decide (cmpL x.1 n = 0) := by
  unfold isIn
  rw [get_pos, h]
  by_cases h1 : x.1 = n
  · simp [h1, cmp_self]
  · simp [h1, cmp_zero]
theorem isIn_no {n : List Int} {l : List PEnt} (h : l[pos n l]? = none) : isIn n l = false := by
  unfold isIn
  rw [get_pos, h]
  rfl

end Go.Proofs.YtejkkhlblnepeaaDoor
