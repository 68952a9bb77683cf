/- Acts that came in, opened. -/
import Derived.Test.YtnalakdnjjmaaaaDop
namespace Go.Proofs.Ytnalakdnjjmaaaa
open Go.ChangeShapes Go.WideShapes Go.ChangeAt Go.RowKit Oct

abbrev PAct := Int × List Int × Int × Int
def RAct (G : Nat → Prop) (w : World) (r : List Value) (x : PAct) : Prop := ∃ s, r = [.int .i64 x.1, s, .int .i64 x.2.2.1, .int .i64 x.2.2.2] ∧ RT G w s x.2.1 ∧ x.2.2.1 ≤ 9223372036854775807
def bAc (x : PAct) : Nat := 3 + bT x.2.1
def szAc (x : PAct) : Prop := szT x.2.1
theorem mov_act : Mov RAct := fun _ _ _ _ _ _ h _ hm => by
  obtain ⟨s, e, h1, h2⟩ := h
  exact ⟨s, e, h1.mv hm, h2⟩
section
variable {H : Type} {enc : TypeId × Value → H} {w : World} {base : Nat} {held : Bool}
theorem opn_act : Opn enc Try.prog w base held 31 (RAct Any w) bAc szAc := by
  intro fuel cs x h
  obtain ⟨xs, n, rfl, rfl, hl, hxl, hf⟩ := DataW.trod_struct Try.underlying31 h
  have hxl : xs.length = 4 := hxl
  rw [show Try.prog.cellsOf 31 = 4 by kernel_rfl] at hl
  obtain ⟨c0, c1, c2, c3, rfl⟩ := of4 hl
  obtain ⟨x0, x1, x2, x3, rfl⟩ := of4 hxl
  have h0 := fld hf 0 rfl rfl rfl cells_int (cs' := [c0]) rfl rfl
  have h1 := fld hf 1 rfl rfl rfl cells_text (cs' := [c1]) rfl rfl
  have h2 := fld hf 2 rfl rfl rfl cells_int (cs' := [c2]) rfl rfl
  have h3 := fld hf 3 rfl rfl rfl cells_int (cs' := [c3]) rfl rfl
  obtain ⟨y0, g0, e0, r0⟩ := DataW.trod_int Try.underlying3 h0
  obtain ⟨y1, ⟨v1, e1, g1⟩, b1, s1⟩ := opn_text _ _ _ h1
  obtain ⟨y2, g2, e2, r2⟩ := DataW.trod_int Try.underlying3 h2
  obtain ⟨y3, g3, e3, r3⟩ := DataW.trod_int Try.underlying3 h3
  cases g0
  cases e1
  cases g2
  cases g3
  refine ⟨(y0, y1, y2, y3), ⟨_, rfl, g1, (bounds_i64 r2).2⟩, ?_, fun hn => s1 (weights_fld Try.underlying31 hn 1 rfl rfl rfl)⟩
  rw [e0, e2, e3]
  simp only [bAc, Rows.uptoBulk, Rows.uptoBulkAll, List.map_cons, List.map_nil]
  omega
theorem opn_acts : Opn enc Try.prog w base held 23 (fun cs ys => ∃ v, cs = [v] ∧ RL RAct 4 Any w v ys) (bL bAc) (szL 48 szAc) := opn_list Try.underlying23 (by kernel_rfl) (by kernel_rfl) (by decide) opn_act
theorem open_acts {v : Value} {d : DataW H} {p : List MemPlace} (hone : v.cells.toList = [v]) (h : DataW.Trod enc Try.prog w base (fun _ => true) held 23 v d p) :
    ∃ ys : List PAct, RL RAct 4 Any w v ys ∧ bL bAc ys ≤ Rows.uptoBulk d ∧ ((∀ n ∈ d.weights Try.prog 23, n ≤ reachBytes) → szL 48 szAc ys) := by
  obtain ⟨fuel, hf⟩ := h
  obtain ⟨ys, ⟨u, e, h1⟩, h2, h3⟩ := opn_acts fuel _ _ hf
  rw [hone] at e
  cases e
  exact ⟨ys, h1, h2, h3⟩
end
end Go.Proofs.Ytnalakdnjjmaaaa
