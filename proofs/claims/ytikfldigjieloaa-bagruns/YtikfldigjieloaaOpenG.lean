/- Packets, acts with a bag and numbers that came in, opened. -/
import Derived.Test.YtikfldigjieloaaOpen5
import Derived.Test.YtikfldigjieloaaBa0
namespace Go.Proofs.Ytikfldigjieloaa
open Go.ChangeShapes Go.WideShapes Go.ChangeAt Go.RowKit Oct Kvl

def bPk (x : PPk) : Nat := 3 + bT x.2.2
abbrev szPk (x : PPk) : Prop := szT x.2.2
theorem of3G {α : Type} {l : List α} (h : l.length = 3) : ∃ c0 c1 c2, l = [c0, c1, c2] := by match l, h with | [c0, c1, c2], _ => exact ⟨c0, c1, c2, rfl⟩
theorem of5G {α : Type} {l : List α} (h : l.length = 5) : ∃ c0 c1 c2 c3 c4, l = [c0, c1, c2, c3, c4] := by match l, h with | [c0, c1, c2, c3, c4], _ => exact ⟨c0, c1, c2, c3, c4, rfl⟩
theorem weightsG_arg {H : Type} {P : Program} {ts : List TypeId} {ds : List (DataW H)} (h : (DataW.weightsEach P ts ds).all (· ≤ reachBytes) = true) {j : Nat} {t : TypeId} {d : DataW H} (ht : ts[j]? = some t) (hd : ds[j]? = some d) : ∀ n ∈ d.weights P t, n ≤ reachBytes := fun n hn => by
  have := List.all_eq_true.1 h _ (DataW.weights_mem_each ht hd n hn)
  simpa using this
section
variable {H : Type} {enc : TypeId × Value → H} {w : World} {base : Nat} {held : Bool}
theorem cells_pk : Try.prog.cellsOf 29 = 3 := by kernel_rfl
set_option maxRecDepth 100000 in
theorem opn_pk : Opn enc Try.prog w base held 29 (RPk Any w) bPk szPk := by
  intro fuel cs x h
  obtain ⟨xs, n, rfl, rfl, hl, hxl, hf⟩ := DataW.trod_struct Try.underlying29 h
  have hxl : xs.length = 3 := hxl
  rw [cells_pk] at hl
  obtain ⟨c0, c1, c2, rfl⟩ := of3G hl
  obtain ⟨x0, x1, x2, rfl⟩ := of3G hxl
  have h0 := fld hf 0 rfl rfl rfl cells_int (cs' := [c0]) rfl rfl
  have h1 := fld hf 1 rfl rfl rfl cells_int (cs' := [c1]) rfl rfl
  have h2 := fld hf 2 rfl rfl rfl cells_text (cs' := [c2]) rfl rfl
  obtain ⟨y0, g0, e0, r0⟩ := DataW.trod_int Try.underlying3 h0
  obtain ⟨y1, g1, e1, r1⟩ := DataW.trod_int Try.underlying3 h1
  obtain ⟨y2, ⟨v2, e2, g2⟩, b2, s2⟩ := opn_text _ _ _ h2
  cases g0
  cases g1
  cases e2
  refine ⟨(y0, y1, y2), ⟨_, rfl, g2⟩, ?_, fun hn => s2 (weights_fld Try.underlying29 hn 2 rfl rfl rfl)⟩
  rw [e0, e1]
  simp only [bPk, Rows.uptoBulk, Rows.uptoBulkAll, List.map_cons, List.map_nil]
  omega
theorem opn_pks : Opn enc Try.prog w base held 35 (fun cs ys => ∃ v, cs = [v] ∧ RL RPk 3 Any w v ys) (bL bPk) (szL 40 szPk) := opn_list Try.underlying35 (by kernel_rfl) (by kernel_rfl) (by decide) opn_pk
theorem open_pks {v : Value} {d : DataW H} {p : List MemPlace} (hone : v.cells.toList = [v]) (h : DataW.Trod enc Try.prog w base (fun _ => true) held 35 v d p) :
    ∃ ys : List PPk, RL RPk 3 Any w v ys ∧ bL bPk ys ≤ Rows.uptoBulk d ∧ ((∀ n ∈ d.weights Try.prog 35, n ≤ reachBytes) → szL 40 szPk ys) := by
  obtain ⟨fuel, hf⟩ := h
  obtain ⟨ys, ⟨u, e, h1⟩, h2, h3⟩ := opn_pks fuel _ _ hf
  rw [hone] at e
  cases e
  exact ⟨ys, h1, h2, h3⟩
def RIn (_ : Nat → Prop) (_ : World) (r : List Value) (x : Int) : Prop := r = [.int .i64 x]
theorem opn_intG : Opn enc Try.prog w base held 3 (RIn Any w) (fun _ => 1) (fun _ => True) := by
  intro fuel cs x h
  rcases cs with _ | ⟨c, _ | ⟨c', cs⟩⟩
  · cases fuel <;> simp [DataW.trod, Try.underlying3] at h
  · obtain ⟨y, g, e, r⟩ := DataW.trod_int Try.underlying3 h
    cases g
    exact ⟨y, rfl, by rw [e]; simp [Rows.uptoBulk], fun _ => trivial⟩
  · cases fuel <;> simp [DataW.trod, Try.underlying3] at h
theorem opn_intsG : Opn enc Try.prog w base held 45 (fun cs ys => ∃ v, cs = [v] ∧ RL RIn 1 Any w v ys) (bL fun _ => 1) (szL 8 fun _ => True) := opn_list Try.underlying45 (by kernel_rfl) (by kernel_rfl) (by decide) opn_intG
theorem open_intsL {v : Value} {d : DataW H} {p : List MemPlace} (hone : v.cells.toList = [v]) (h : DataW.Trod enc Try.prog w base (fun _ => true) held 45 v d p) :
    ∃ ys : List Int, RL RIn 1 Any w v ys ∧ bL (fun _ => 1) ys ≤ Rows.uptoBulk d ∧ ((∀ n ∈ d.weights Try.prog 45, n ≤ reachBytes) → szL 8 (fun _ => True) ys) := by
  obtain ⟨fuel, hf⟩ := h
  obtain ⟨ys, ⟨u, e, h1⟩, h2, h3⟩ := opn_intsG fuel _ _ hf
  rw [hone] at e
  cases e
  exact ⟨ys, h1, h2, h3⟩
/-- An act with a bag: kind, packet, number. -/
abbrev PAct3 := Int × PPk × Int
def RAct3 (G : Nat → Prop) (w : World) (r : List Value) (x : PAct3) : Prop := ∃ s, r = [.int .i64 x.1, .int .i64 x.2.1.1, .int .i64 x.2.1.2.1, s, .int .i64 x.2.2] ∧ RT G w s x.2.1.2.2
def bAc3 (x : PAct3) : Nat := 2 + bPk x.2.1
def szAc3 (x : PAct3) : Prop := szPk x.2.1
set_option maxRecDepth 100000 in
theorem opn_act3 : Opn enc Try.prog w base held 37 (RAct3 Any w) bAc3 szAc3 := by
  intro fuel cs x h
  obtain ⟨xs, n, rfl, rfl, hl, hxl, hf⟩ := DataW.trod_struct Try.underlying37 h
  have hxl : xs.length = 3 := hxl
  rw [show Try.prog.cellsOf 37 = 5 by kernel_rfl] at hl
  obtain ⟨c0, c1, c2, c3, c4, rfl⟩ := of5G hl
  obtain ⟨x0, x1, x2, rfl⟩ := of3G hxl
  have h0 := fld hf 0 rfl rfl rfl cells_int (cs' := [c0]) rfl rfl
  have h1 := fld hf 1 rfl rfl rfl cells_pk (cs' := [c1, c2, c3]) rfl rfl
  have h2 := fld hf 2 rfl rfl rfl cells_int (cs' := [c4]) rfl rfl
  obtain ⟨y0, g0, e0, r0⟩ := DataW.trod_int Try.underlying3 h0
  obtain ⟨y1, ⟨v1, e1, g1⟩, b1, s1⟩ := opn_pk _ _ _ h1
  obtain ⟨y2, g2, e2, r2⟩ := DataW.trod_int Try.underlying3 h2
  cases g0
  cases g2
  injection e1 with k1 e1
  injection e1 with k2 e1
  injection e1 with k3 e1
  subst k1 k2 k3
  refine ⟨(y0, y1, y2), ⟨_, rfl, g1⟩, ?_, fun hn => s1 (weights_fld Try.underlying37 hn 1 rfl rfl rfl)⟩
  rw [e0, e2]
  simp only [bAc3, Rows.uptoBulk, Rows.uptoBulkAll, List.map_cons, List.map_nil]
  omega
theorem opn_acts3 : Opn enc Try.prog w base held 34 (fun cs ys => ∃ v, cs = [v] ∧ RL RAct3 5 Any w v ys) (bL bAc3) (szL 56 szAc3) := opn_list Try.underlying34 (by kernel_rfl) (by kernel_rfl) (by decide) opn_act3
theorem open_acts3 {v : Value} {d : DataW H} {p : List MemPlace} (hone : v.cells.toList = [v]) (h : DataW.Trod enc Try.prog w base (fun _ => true) held 34 v d p) :
    ∃ ys : List PAct3, RL RAct3 5 Any w v ys ∧ bL bAc3 ys ≤ Rows.uptoBulk d ∧ ((∀ n ∈ d.weights Try.prog 34, n ≤ reachBytes) → szL 56 szAc3 ys) := by
  obtain ⟨fuel, hf⟩ := h
  obtain ⟨ys, ⟨u, e, h1⟩, h2, h3⟩ := opn_acts3 fuel _ _ hf
  rw [hone] at e
  cases e
  exact ⟨ys, h1, h2, h3⟩
end
end Go.Proofs.Ytikfldigjieloaa
