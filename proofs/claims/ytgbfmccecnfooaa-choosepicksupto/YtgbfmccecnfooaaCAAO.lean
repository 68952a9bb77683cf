/- Rows: a block of memory said whole (for whatever program). -/
import Derived.Test.YtgbfmccecnfooaaCAAN
import Derived.Laws.Rows
import Derived.Laws.CopyRow
import Derived.Laws.CopyOwn
import Derived.Deep.RegionHeld3
import Derived.Deep.RegionLaw
import Derived.Deep.MidRow
import Derived.BigRegion
namespace Go.Proofs.Ytgbfmccecnfooaa
open Go.RowKit Oct
/-- Block b is a row of these cells, and may be written. -/
def Row (w : World) (b : Nat) (t : TypeId) (xs : List Value) : Prop := w.heap[b]? = some (.cells xs.toArray t (0, 0))
theorem Row.cell {w : World} {b : Nat} {t : TypeId} {xs : List Value} (h : Row w b t xs) {j : Nat} {u : Value} (hj : xs[j]? = some u) : w.cell? ⟨b, j, none⟩ = some u := by
  rw [cell_of_row w b j xs.toArray t (0, 0) h]
  simpa using hj
theorem Row.lt {w : World} {b : Nat} {t : TypeId} {xs : List Value} (h : Row w b t xs) : b < w.heap.size := (Array.getElem?_eq_some_iff.1 h).1
theorem Row.set {w : World} {b : Nat} {t : TypeId} {xs : List Value} (h : Row w b t xs) (j : Nat) (v : Value) : Row (w.setCell ⟨b, j, none⟩ v) b t (xs.set j v) := by
  have := heap_setCell_same w b j xs.toArray t v h
  simpa [Row] using this
theorem Row.drew {w : World} {b : Nat} {t : TypeId} {xs : List Value} (h : Row w b t xs) : Row w.drew b t xs := h
theorem Row.below {w w' : World} {b : Nat} {t : TypeId} {xs : List Value} (h : Row w b t xs) (hb : Below w.heap.size w w') : Row w' b t xs := (hb.block b h.lt).trans h
theorem Row.grown {w w' : World} {b : Nat} {t : TypeId} {xs : List Value} {r : Option Nat} (h : Row w b t xs) (hg : w.grownBy w' r) (hr : r ≠ some b) : Row w' b t xs := (hg.block b h.lt (fun e => hr e.symm)).trans h
theorem Row.new (w : World) (t : TypeId) (xs : List Value) : Row (w.alloc (.cells xs.toArray t)) w.heap.size t xs := heap_alloc_new w _
theorem Row.setRow {w : World} {b : Nat} {t : TypeId} {xs : List Value} (h : Row w b t xs) (ys : List Value) : Row (w.setRow b ys.toArray) b t ys := setRow_heap w b _ _ t _ h
theorem grown_setRow (w : World) (b : Nat) (cs : Array Value) : w.grownBy (w.setRow b cs) (some b) :=
  ⟨rfl, rfl, rfl, by simp, fun k _ hk => setRow_other w b k cs (fun e => hk (by rw [e]))⟩
theorem Row.src {w : World} {b : Nat} {t : TypeId} {xs : List Value} (h : Row w b t xs) (o n : Nat) : ∀ (j : Nat) (v : Value), ((xs.drop o).take n)[j]? = some v → w.cell? ((⟨b, o, none⟩ : Addr).add j) = some v := by
  intro j v hj
  rw [Addr.add_mid]
  refine h.cell ?_
  rw [List.getElem?_take] at hj
  split at hj
  · rwa [List.getElem?_drop] at hj
  · cases hj
section
variable {P : Program}
theorem Row.load {w : World} {b : Nat} {t : TypeId} {xs : List Value} (h : Row w b t xs) (ty : TypeId) (d : TypeDesc) (hu : P.underlying ty = some d) (hd : (match d with | .struct _ | .array _ _ => true | _ => false) = true) (hi : (P.info? ty).map (·.size) = some xs.length) :
    (Instr.loadAt ty (.pointer (some ⟨b, 0, none⟩))).run P w = .ok (.agg xs.toArray) w := by
  simp only [Instr.loadAt, Instr.sureAddr, Sem.run_bind, Sem.run_pure, Result.andThen_ok, run_loadVar_row w b t ty xs.toArray (0, 0) d h hu hd (by simpa using hi)]
theorem Row.store {w : World} {b : Nat} {t : TypeId} {xs : List Value} (h : Row w b t xs) (ty : TypeId) (ys : List Value) (hl : xs.length = ys.length) (hi : (P.info? ty).map (·.size) = some ys.length) (h1 : ∀ v ∈ ys, v.oneCell' = true) :
    (Instr.storeAt ty (.pointer (some ⟨b, 0, none⟩)) (.agg ys.toArray)).run P w = .ok () (w.setRow b ys.toArray) := by
  simp only [Instr.storeAt, Instr.sureAddr, Sem.run_bind, Sem.run_pure, Result.andThen_ok, run_storeVar_row w b t ty xs.toArray ys.toArray h (by simpa using hi) (by simpa using hl) (all_oneCell_toArray h1)]
theorem wl_load {ops : Array Oper} {rest : List Oper} {o : Oper} {a : Act} {w : World} {Q : Exit → Act → World → Prop} (hgd : o.guard = none) (ty : TypeId) (x : Operand) (ho : o.op = .load ty x)
    (b : Nat) (hx : a.eval x = .pointer (some ⟨b, 0, none⟩)) (t : TypeId) (xs : List Value) (h : Row w b t xs) (d : TypeDesc) (hu : P.underlying ty = some d) (hd : (match d with | .struct _ | .array _ _ => true | _ => false) = true)
    (hi : (P.info? ty).map (·.size) = some xs.length) (k : wpList P ops Q rest (a.put o.dst (.agg xs.toArray)) w) : wpList P ops Q (o :: rest) a w :=
  wpList_load_row hgd ty x ho b hx t xs.toArray (0, 0) d h hu hd (by simpa using hi) k
theorem wl_store {ops : Array Oper} {rest : List Oper} {o : Oper} {a : Act} {w : World} {Q : Exit → Act → World → Prop} (hgd : o.guard = none) (ty : TypeId) (x y : Operand) (ho : o.op = .store ty x y)
    (b : Nat) (ys : List Value) (hx : a.eval x = .pointer (some ⟨b, 0, none⟩)) (hy : a.eval y = .agg ys.toArray) (t : TypeId) (xs : List Value) (h : Row w b t xs) (hl : xs.length = ys.length)
    (hi : (P.info? ty).map (·.size) = some ys.length) (h1 : ∀ v ∈ ys, v.oneCell' = true) (k : ∀ w', Hid (Row w' b t ys) → w.grownBy w' (some b) → wpList P ops Q rest (a.put o.dst undef) w') : wpList P ops Q (o :: rest) a w :=
  wpList_store_row hgd ty x y ho b ys.toArray hx hy t xs.toArray h (by simpa using hi) (by simpa using hl) (all_oneCell_toArray h1) (k _ (h.setRow ys) (grown_setRow _ _ _))
theorem run_set {w : World} {b : Nat} {t : TypeId} {xs : List Value} (h : Row w b t xs) (ty : TypeId) (hi : (P.info? ty).map (·.size) = some 1) (j : Nat) (hj : j < xs.length) (v : Value) (h1 : v.oneCell' = true) :
    (storeVar ty ⟨b, j, none⟩ v).run P w = .ok () (w.setRow b (xs.set j v).toArray) := by
  have := run_storeCells_at P b j t [v] 0 xs.toArray w h (by simp; omega) (fun x hx => by simp at hx; subst hx; exact h1)
  have hc : v.cells = #[v] := by cases v <;> first | rfl | cases h1
  have hx : xs.take j ++ v :: xs.drop (j + 1) = xs.set j v := (List.set_eq_take_append_cons_drop.trans (if_pos hj)).symm
  cases hq : P.info? ty with
  | none => simp [hq] at hi
  | some i =>
    have hs : i.size = 1 := by simpa [hq] using hi
    simp only [Nat.add_zero, List.length_singleton, List.append_assoc, List.singleton_append, hx] at this
    simp [storeVar, sizeOf, typeInfo, hq, hc, hs, this]
theorem wl_set {ops : Array Oper} {rest : List Oper} {o : Oper} {a : Act} {w : World} {Q : Exit → Act → World → Prop} (hgd : o.guard = none) (ty : TypeId) (x y : Operand) (ho : o.op = .store ty x y)
    (b j : Nat) (v : Value) (hx : a.eval x = .pointer (some ⟨b, j, none⟩)) (hy : a.eval y = v) (t : TypeId) (xs : List Value) (h : Row w b t xs) (hj : j < xs.length)
    (hi : (P.info? ty).map (·.size) = some 1) (h1 : v.oneCell' = true) (k : ∀ w', Hid (Row w' b t (xs.set j v)) → w.grownBy w' (some b) → wpList P ops Q rest (a.put o.dst undef) w') : wpList P ops Q (o :: rest) a w :=
  wpList_plain hgd fun _ hK => by
    unfold Oper.wp execOp
    simp only [ho, hx, hy, Instr.storeAt, Instr.sureAddr, Sem.run_bind, Sem.run_pure, Result.andThen_ok, run_set h ty hi j hj v h1]
    exact hK _ _ (k _ (h.setRow _) (grown_setRow _ _ _))
end
/-- What only reads, inside a region that draws its order. -/
theorem quiet_as {P : Program} {f : FuncId} {args : Array Value} {W : World} {v : Value} {g : Nat → World} {n : Nat} (h : Calls P f args W fun e w' => e = .returned v ∧ w' = W) (hW : W = g n) :
    Calls P f args W fun e w'' => e = .returned v ∧ ∃ m, w'' = g m := h.mono fun _ _ ⟨h1, h2⟩ => ⟨h1, n, h2.trans hW⟩
end Go.Proofs.Ytgbfmccecnfooaa
