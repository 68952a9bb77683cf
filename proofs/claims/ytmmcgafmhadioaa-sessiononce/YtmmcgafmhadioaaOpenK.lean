/- Entries and operations that came in, opened. -/
import Derived.Test.YtmmcgafmhadioaaOpen5
import Derived.Test.YtmmcgafmhadioaaRk
namespace Go.Proofs.Ytmmcgafmhadioaa
open Go.ChangeShapes Go.WideShapes Go.ChangeAt Go.RowKit Oct Kvl

def bE (x : PEnt) : Nat := 1 + bT x.1 + bT x.2
def bO (x : POp) : Nat := 3 + bT x.2.1 + bT x.2.2.1 + bT x.2.2.2.1
theorem of5K {α : Type} {l : List α} (h : l.length = 5) : ∃ c0 c1 c2 c3 c4, l = [c0, c1, c2, c3, c4] := by match l, h with | [c0, c1, c2, c3, c4], _ => exact ⟨c0, c1, c2, c3, c4, rfl⟩
section
variable {H : Type} {enc : TypeId × Value → H} {w : World} {base : Nat} {held : Bool}
theorem opn_ent : Opn enc Try.prog w base held 70 (REnt Any w) bE szE := by
  intro fuel cs x h
  obtain ⟨xs, n, rfl, rfl, hl, hxl, hf⟩ := DataW.trod_struct Try.underlying70 h
  have hxl : xs.length = 2 := hxl
  rw [show Try.prog.cellsOf 70 = 2 by kernel_rfl] at hl
  obtain ⟨c0, c1, rfl⟩ : ∃ c0 c1, cs = [c0, c1] := of2 hl
  obtain ⟨x0, x1, rfl⟩ : ∃ x0 x1, xs = [x0, x1] := of2 hxl
  have h0 := fld hf 0 rfl rfl rfl cells_text (cs' := [c0]) rfl rfl
  have h1 := fld hf 1 rfl rfl rfl cells_text (cs' := [c1]) rfl rfl
  obtain ⟨y0, ⟨v0, e0, g0⟩, b0, s0⟩ := opn_text _ _ _ h0
  obtain ⟨y1, ⟨v1, e1, g1⟩, b1, s1⟩ := opn_text _ _ _ h1
  cases e0
  cases e1
  refine ⟨(y0, y1), ⟨_, _, rfl, g0, g1⟩, ?_, fun hn => ⟨s0 (weights_fld Try.underlying70 hn 0 rfl rfl rfl), s1 (weights_fld Try.underlying70 hn 1 rfl rfl rfl)⟩⟩
  simp only [bE, Rows.uptoBulk, Rows.uptoBulkAll, List.map_cons, List.map_nil]
  omega
theorem opn_ents : Opn enc Try.prog w base held 27 (fun cs ys => ∃ v, cs = [v] ∧ RL REnt 2 Any w v ys) (bL bE) (szL 48 szE) := opn_list Try.underlying27 (by kernel_rfl) (by kernel_rfl) (by decide) opn_ent
theorem opn_op : Opn enc Try.prog w base held 52 (ROp Any w) bO szO := by
  intro fuel cs x h
  obtain ⟨xs, n, rfl, rfl, hl, hxl, hf⟩ := DataW.trod_struct Try.underlying52 h
  have hxl : xs.length = 5 := hxl
  rw [show Try.prog.cellsOf 52 = 5 by kernel_rfl] at hl
  obtain ⟨c0, c1, c2, c3, c4, rfl⟩ := of5K hl
  obtain ⟨x0, x1, x2, x3, x4, rfl⟩ := of5K hxl
  have h0 := fld hf 0 rfl rfl rfl cells_int (cs' := [c0]) rfl rfl
  have h1 := fld hf 1 rfl rfl rfl cells_text (cs' := [c1]) rfl rfl
  have h2 := fld hf 2 rfl rfl rfl cells_text (cs' := [c2]) rfl rfl
  have h3 := fld hf 3 rfl rfl rfl cells_text (cs' := [c3]) rfl rfl
  have h4 := fld hf 4 rfl rfl rfl cells_int (cs' := [c4]) rfl rfl
  obtain ⟨y0, g0, (b0 : 1 ≤ _), _⟩ := opn_int _ _ _ h0
  obtain ⟨y1, ⟨v1, e1, g1⟩, b1, s1⟩ := opn_text _ _ _ h1
  obtain ⟨y2, ⟨v2, e2, g2⟩, b2, s2⟩ := opn_text _ _ _ h2
  obtain ⟨y3, ⟨v3, e3, g3⟩, b3, s3⟩ := opn_text _ _ _ h3
  obtain ⟨y4, g4, (b4 : 1 ≤ _), _⟩ := opn_int _ _ _ h4
  cases g0
  cases e1
  cases e2
  cases e3
  cases g4
  refine ⟨(y0, y1, y2, y3, y4), ⟨_, _, _, rfl, g1, g2, g3⟩, ?_, fun hn => ⟨s1 (weights_fld Try.underlying52 hn 1 rfl rfl rfl), s2 (weights_fld Try.underlying52 hn 2 rfl rfl rfl), s3 (weights_fld Try.underlying52 hn 3 rfl rfl rfl)⟩⟩
  simp only [bO, Rows.uptoBulk, Rows.uptoBulkAll, List.map_cons, List.map_nil]
  omega
end
theorem open_aggK {P : Program} {w : World} {b0 : Nat} {r : Reach} {t : TypeId} {fs : Array Field} {k : Nat} (ht : P.underlying t = some (.struct fs)) (hct : P.cellsOf t = k) {v : Value} (hv : Value.okWide P w r b0 t v) : ∃ cs : List Value, v = .agg cs.toArray ∧ cs.length = k := by
  simp only [Value.okWide, ht] at hv
  obtain ⟨cs, rfl, hsz, _⟩ := hv
  exact ⟨cs.toList, by simp, by simpa [hct] using hsz⟩
theorem cells_op : Try.prog.cellsOf 52 = 5 := by kernel_rfl
set_option maxRecDepth 100000 in
theorem open_op {H : Type} {enc : TypeId × Value → H} {w : World} {base b0 : Nat} {r : Reach} {held : Bool} {v : Value} {d : DataW H} {p : List MemPlace} (hv : Value.okWide Try.prog w r b0 52 v) (h : DataW.Trod enc Try.prog w base (fun _ => true) held 52 v d p) :
    ∃ (q : List Value) (x : POp), v = .agg q.toArray ∧ ROp Any w q x ∧ bO x ≤ Rows.uptoBulk d ∧ ((∀ n ∈ d.weights Try.prog 52, n ≤ reachBytes) → szO x) := by
  obtain ⟨cs, rfl, hl⟩ := open_aggK Try.underlying52 cells_op hv
  obtain ⟨fuel, hf⟩ := h
  obtain ⟨y, h1, h2, h3⟩ := opn_op fuel _ _ hf
  exact ⟨cs, y, rfl, by simpa [Value.cells] using h1, h2, h3⟩
theorem open_ents {H : Type} {enc : TypeId × Value → H} {w : World} {base : Nat} {held : Bool} {v : Value} {d : DataW H} {p : List MemPlace} (hone : v.cells.toList = [v]) (h : DataW.Trod enc Try.prog w base (fun _ => true) held 27 v d p) :
    ∃ ys : List PEnt, RL REnt 2 Any w v ys ∧ bL bE ys ≤ Rows.uptoBulk d ∧ ((∀ n ∈ d.weights Try.prog 27, n ≤ reachBytes) → szL 48 szE ys) := by
  obtain ⟨fuel, hf⟩ := h
  obtain ⟨ys, ⟨u, e, h1⟩, h2, h3⟩ := opn_ents fuel _ _ hf
  rw [hone] at e
  cases e
  exact ⟨ys, h1, h2, h3⟩
theorem weightsK_arg {H : Type} {P : Program} {ts : List TypeId} {ds : List (DataW H)} (h : (DataW.weightsEach P ts ds).all (· ≤ reachBytes) = true) {j : Nat} {t : TypeId} {d : DataW H} (ht : ts[j]? = some t) (hd : ds[j]? = some d) : ∀ n ∈ d.weights P t, n ≤ reachBytes := fun n hn => by
  have := List.all_eq_true.1 h _ (DataW.weights_mem_each ht hd n hn)
  simpa using this
end Go.Proofs.Ytmmcgafmhadioaa
