/- Acts of layer 19: opened. -/
import Derived.Test.YtgpkngiakhdmhaaDoorSBBH
import Derived.Test.YtgpkngiakhdmhaaDoorSBAV
namespace Go.Proofs.YtgpkngiakhdmhaaDoor
open Go.ChangeShapes Go.WideShapes Go.ChangeAt Go.RowKit Oct
/-- An act: cut or a vote, the slot, the digest, the vote. -/
abbrev PActT := Bool × Int × List Int × PVote
def RActT (G : Nat → Prop) (w : World) (r : List Value) (x : PActT) : Prop := ∃ dv gv, r = [.bool x.1, .int .i64 x.2.1, dv, .int .i64 x.2.2.2.1, gv] ∧ RT G w dv x.2.2.1 ∧ RT G w gv x.2.2.2.2
def bAT (x : PActT) : Nat := 2 + bT x.2.2.1 + bV x.2.2.2
def szAT (x : PActT) : Prop := szT x.2.2.1 ∧ szV x.2.2.2
theorem of5T {α : Type} {l : List α} (h : l.length = 5) : ∃ c0 c1 c2 c3 c4, l = [c0, c1, c2, c3, c4] := by match l, h with | [c0, c1, c2, c3, c4], _ => exact ⟨c0, c1, c2, c3, c4, rfl⟩
theorem weightsT19_arg {H : Type} {P : Program} {ts : List TypeId} {ds : List (DataW H)} (h : (DataW.weightsEach P ts ds).all (· ≤ reachBytes) = true) {j : Nat} {t : TypeId} {d : DataW H} (ht : ts[j]? = some t) (hd : ds[j]? = some d) : ∀ n ∈ d.weights P t, n ≤ reachBytes := fun n hn => by
  have := List.all_eq_true.1 h _ (DataW.weights_mem_each ht hd n hn)
  simpa using this
section
variable {H : Type} {enc : TypeId × Value → H} {w : World} {base : Nat} {held : Bool}
theorem cells_voteT : Tryd.prog.cellsOf 28 = 2 := by kernel_rfl
theorem cells_boolT : Tryd.prog.cellsOf 4 = 1 := by kernel_rfl
set_option maxRecDepth 10000 in
theorem opn_actT : Opn enc Tryd.prog w base held 30 (RActT Any w) bAT szAT := by
  intro fuel cs x h
  obtain ⟨xs, n, rfl, rfl, hl, hxl, hf⟩ := DataW.trod_struct Tryd.underlying30 h
  have hxl : xs.length = 4 := hxl
  rw [show Tryd.prog.cellsOf 30 = 5 by kernel_rfl] at hl
  obtain ⟨c0, c1, c2, c3, c4, rfl⟩ := of5T hl
  obtain ⟨x0, x1, x2, x3, rfl⟩ := of4 hxl
  have h0 := fld hf 0 rfl rfl rfl cells_boolT (cs' := [c0]) rfl rfl
  have h1 := fld hf 1 rfl rfl rfl cells_int (cs' := [c1]) rfl rfl
  have h2 := fld hf 2 rfl rfl rfl cells_text (cs' := [c2]) rfl rfl
  have h3 := fld hf 3 rfl rfl rfl cells_voteT (cs' := [c3, c4]) rfl rfl
  obtain ⟨y0, g0, e0⟩ := DataW.trod_bool Tryd.underlying4 h0
  obtain ⟨y1, g1, e1, r1⟩ := DataW.trod_int Tryd.underlying3 h1
  obtain ⟨y2, ⟨v2, e2, g2⟩, b2, s2⟩ := opn_text _ _ _ h2
  obtain ⟨y3, ⟨v3, e3, g3⟩, b3, s3⟩ := opn_vote _ _ _ h3
  cases g0
  cases g1
  cases e2
  cases e3
  refine ⟨(y0, y1, y2, y3), ⟨_, _, rfl, g2, g3⟩, ?_, fun hn => ⟨s2 (weights_fld Tryd.underlying30 hn 2 rfl rfl rfl), s3 (weights_fld Tryd.underlying30 hn 3 rfl rfl rfl)⟩⟩
  rw [e0, e1]
  simp only [bAT, Rows.uptoBulk, Rows.uptoBulkAll, List.map_cons, List.map_nil]
  omega
theorem opn_actsT : Opn enc Tryd.prog w base held 23 (fun cs ys => ∃ v, cs = [v] ∧ RL RActT 5 Any w v ys) (bL bAT) (szL 72 szAT) := opn_list Tryd.underlying23 (by kernel_rfl) (by kernel_rfl) (by decide) opn_actT
theorem open_actsT {v : Value} {d : DataW H} {p : List MemPlace} (hone : v.cells.toList = [v]) (h : DataW.Trod enc Tryd.prog w base (fun _ => true) held 23 v d p) :
    ∃ ys : List PActT, RL RActT 5 Any w v ys ∧ bL bAT ys ≤ Rows.uptoBulk d ∧ ((∀ n ∈ d.weights Tryd.prog 23, n ≤ reachBytes) → szL 72 szAT ys) := by
  obtain ⟨fuel, hf⟩ := h
  obtain ⟨ys, ⟨u, e, h1⟩, h2, h3⟩ := opn_actsT fuel _ _ hf
  rw [hone] at e
  cases e
  exact ⟨ys, h1, h2, h3⟩
end
end Go.Proofs.YtgpkngiakhdmhaaDoor
