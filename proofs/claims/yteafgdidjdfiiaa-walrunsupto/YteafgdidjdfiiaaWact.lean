/- Acts of layer 12 that came in, opened. -/
import Derived.Test.YteafgdidjdfiiaaDop
import Derived.Test.YteafgdidjdfiiaaBulk
import Derived.Test.YteafgdidjdfiiaaW4
namespace Go.Proofs.Yteafgdidjdfiiaa
open Go.ChangeShapes Go.WideShapes Go.ChangeAt Go.RowKit Oct

abbrev PAct2 := Int × List (List Int) × Int × Int
def RAct2 (_ : Nat → Prop) (w : World) (r : List Value) (x : PAct2) : Prop := ∃ s, r = [.int .i64 x.1, s, .int .i64 x.2.2.1, .int .i64 x.2.2.2] ∧ Rdl w s x.2.1 ∧ x.2.2.1 ≤ 9223372036854775807
def bAc2 (x : PAct2) : Nat := 3 + tot x.2.1
section
variable {H : Type} {enc : TypeId × Value → H} {w : World} {base : Nat} {held : Bool}
theorem opn_rdl : Opn enc Try.prog w base held 24 (fun cs ll => ∃ v, cs = [v] ∧ Rdl w v ll) tot (fun _ => True) := by
  intro fuel cs x h
  have hc : ∃ v, cs = [v] := by
    rcases DataW.trod_slice Try.underlying24 h with ⟨hcs, _⟩ | ⟨a, len, cap, elems, rest, n, _, hcs, _⟩
    · exact ⟨_, hcs⟩
    · exact ⟨_, hcs⟩
  obtain ⟨v, rfl⟩ := hc
  obtain ⟨ll, h1, h2⟩ := open_bytess_at Try.underlying24 Try.underlying22 Try.underlying5 (by kernel_rfl) (by kernel_rfl) h
  exact ⟨ll, ⟨v, rfl, h1⟩, by have := bulk_bytess h2; omega, fun _ => trivial⟩
theorem cells_texts : Try.prog.cellsOf 24 = 1 := by kernel_rfl
theorem opn_act2 : Opn enc Try.prog w base held 45 (RAct2 Any w) bAc2 (fun _ => True) := by
  intro fuel cs x h
  obtain ⟨xs, n, rfl, rfl, hl, hxl, hf⟩ := DataW.trod_struct Try.underlying45 h
  have hxl : xs.length = 4 := hxl
  rw [show Try.prog.cellsOf 45 = 4 by kernel_rfl] at hl
  obtain ⟨c0, c1, c2, c3, rfl⟩ := of4 hl
  obtain ⟨x0, x1, x2, x3, rfl⟩ := of4 hxl
  have h0 := fld hf 0 rfl rfl rfl cells_int (cs' := [c0]) rfl rfl
  have h1 := fld hf 1 rfl rfl rfl cells_texts (cs' := [c1]) rfl rfl
  have h2 := fld hf 2 rfl rfl rfl cells_int (cs' := [c2]) rfl rfl
  have h3 := fld hf 3 rfl rfl rfl cells_int (cs' := [c3]) rfl rfl
  obtain ⟨y0, g0, e0, r0⟩ := DataW.trod_int Try.underlying3 h0
  obtain ⟨y1, ⟨v1, e1, g1⟩, b1, s1⟩ := opn_rdl _ _ _ h1
  obtain ⟨y2, g2, e2, r2⟩ := DataW.trod_int Try.underlying3 h2
  obtain ⟨y3, g3, e3, r3⟩ := DataW.trod_int Try.underlying3 h3
  cases g0
  cases e1
  cases g2
  cases g3
  refine ⟨(y0, y1, y2, y3), ⟨_, rfl, g1, (bounds_i64 r2).2⟩, ?_, fun _ => trivial⟩
  rw [e0, e2, e3]
  simp only [bAc2, Rows.uptoBulk, Rows.uptoBulkAll, List.map_cons, List.map_nil]
  omega
theorem opn_acts2 : Opn enc Try.prog w base held 29 (fun cs ys => ∃ v, cs = [v] ∧ RL RAct2 4 Any w v ys) (bL bAc2) (szL 48 fun _ => True) := opn_list Try.underlying29 (by kernel_rfl) (by kernel_rfl) (by decide) opn_act2
theorem open_acts2 {v : Value} {d : DataW H} {p : List MemPlace} (hone : v.cells.toList = [v]) (h : DataW.Trod enc Try.prog w base (fun _ => true) held 29 v d p) :
    ∃ ys : List PAct2, RL RAct2 4 Any w v ys ∧ bL bAc2 ys ≤ Rows.uptoBulk d := by
  obtain ⟨fuel, hf⟩ := h
  obtain ⟨ys, ⟨u, e, h1⟩, h2, _⟩ := opn_acts2 fuel _ _ hf
  rw [hone] at e
  cases e
  exact ⟨ys, h1, h2⟩
end
theorem bS_mem {α : Type} {f : α → Nat} : ∀ {ys : List α} {y : α}, y ∈ ys → f y ≤ bS f ys
  | [], _, h => by cases h
  | a :: r, y, h => by
    simp only [bS]
    rcases List.mem_cons.1 h with e | e
    · subst e; omega
    · have := bS_mem (f := f) e; omega
theorem bL_mem {α : Type} {f : α → Nat} {ys : List α} {y : α} (h : y ∈ ys) : f y ≤ bL f ys := by have := bS_mem (f := f) h; unfold bL; omega
end Go.Proofs.Yteafgdidjdfiiaa
