/- The walks over the document's comparisons: reports. -/
import Derived.Test.YtjloehkolnjnhaaXUAT
set_option linter.unusedSimpArgs false
set_option linter.unusedVariables false
namespace Go.Proofs.Ytjloehkolnjnhaa
open Go.RowKit Oct
section
variable {P : Program}
/-- A part of a row is loaded, where a guard says yes. -/
theorem wl_part_w {ops : Array Oper} {rest : List Oper} {o : Oper} {a : Act} {w : World} {Q : Exit → Act → World → Prop} (hgd : Region.wanted o (yielded ops a.tmps) = true) (ty : TypeId) (x : Operand) (ho : o.op = .load ty x)
    (b off : Nat) (hx : a.eval x = .pointer (some ⟨b, off, none⟩)) (t : TypeId) (xs : List Value) (h : Row w b t xs) (cs : List Value) (hcs : (xs.drop off).take cs.length = cs) (d : TypeDesc) (hu : P.underlying ty = some d) (hd : d.isRow = true)
    (hi : (P.info? ty).map (·.size) = some cs.length) (k : wpList P ops Q rest (a.put o.dst (.agg cs.toArray)) w) : wpList P ops Q (o :: rest) a w :=
  wpList_wanted hgd fun _ hK => wp_load_mid ty x ho b off hx cs d (fun j v hj => by
    have := h.src off cs.length j v (by rw [hcs]; exact hj)
    rw [Addr.add_mid] at this
    exact this) hu hd hi (hK _ _ k)
end
theorem balNe_eq (a b : Int) (w : World) : (binOp .neq 27 (.agg #[.int .i64 a, .int .i64 b]) (.agg #[.int .i64 a, .int .i64 b])).run Try.prog w = .ok (.bool false) w := by
  rw [balNe]; simp
theorem sameReq_eq (w : World) (r1 r2 : List Value) (x : PReq) (h1 : RReq Any w r1 x) (h2 : RReq Any w r2 x) :
    Calls Try.prog 22 #[.agg r1.toArray, .agg r2.toArray] w fun e w' => e = .returned (.bool true) ∧ Below w.heap.size w w' := by
  have := sameReq_any w r1 r2 x x h1 h2
  rw [decide_eq_true rfl] at this
  exact this
end Go.Proofs.Ytjloehkolnjnhaa
