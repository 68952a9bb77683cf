/- Acts of layer 17: opened. -/
import Derived.Test.YtjloehkolnjnhaaXUBU
import Derived.Test.YtjloehkolnjnhaaXUBT
import Derived.Test.YtjloehkolnjnhaaXUBV
import Derived.Test.YtjloehkolnjnhaaXUBM
set_option linter.unusedSimpArgs false
set_option linter.unusedVariables false
namespace Go.Proofs.Ytjloehkolnjnhaa
section
open Go.RowKit Oct Kvl Bal
theorem LB.fmL {α : Type} {R : (Nat → Prop) → World → List Value → α → Prop} {T : TypeId} {k B : Nat} {w : World} {v : Value} {ys : List α} (h : LB R T k B w v ys) : ∃ ao cap, v = .slice ao ys.length cap := by
  obtain ⟨rows, h0, h1, h2, h3⟩ := h
  rcases h1.2 with ⟨rfl, e⟩ | ⟨g, cap, cur, rfl, _⟩
  · have := h3.len
    exact ⟨none, 0, by rw [← this, e]⟩
  · have := h3.len
    exact ⟨_, cap, by rw [← this]⟩
end
section
open Go.ChangeShapes Go.WideShapes Go.ChangeAt Go.RowKit Oct
def bWA (a : PWAct) : Nat := bP a.2
/-- What is known of an act that came in. -/
def szWA (a : PWAct) : Prop := szP a.2 ∧ -9223372036854775808 ≤ a.2.1 ∧ a.2.1 ≤ 9223372036854775807
theorem of9W {α : Type} {l : List α} (h : l.length = 9) : ∃ c0 c1 c2 c3 c4 c5 c6 c7 c8, l = [c0, c1, c2, c3, c4, c5, c6, c7, c8] := by match l, h with | [c0, c1, c2, c3, c4, c5, c6, c7, c8], _ => exact ⟨c0, c1, c2, c3, c4, c5, c6, c7, c8, rfl⟩
theorem of2W {α : Type} {l : List α} (h : l.length = 2) : ∃ c0 c1, l = [c0, c1] := by match l, h with | [c0, c1], _ => exact ⟨c0, c1, rfl⟩
theorem weightsW_arg {H : Type} {P : Program} {ts : List TypeId} {ds : List (DataW H)} (h : (DataW.weightsEach P ts ds).all (· ≤ reachBytes) = true) {j : Nat} {t : TypeId} {d : DataW H} (ht : ts[j]? = some t) (hd : ds[j]? = some d) : ∀ n ∈ d.weights P t, n ≤ reachBytes := fun n hn => by
  have := List.all_eq_true.1 h _ (DataW.weights_mem_each ht hd n hn)
  simpa using this
section
variable {H : Type} {enc : TypeId × Value → H} {w : World} {base : Nat} {held : Bool}
theorem cells_prepW : Try.prog.cellsOf 39 = 8 := by kernel_rfl
set_option maxRecDepth 10000 in
theorem opn_wact : Opn enc Try.prog w base held 41 (RWAct Any w) bWA szWA := by
  intro fuel cs x h
  obtain ⟨xs, n, rfl, rfl, hl, hxl, hf⟩ := DataW.trod_struct Try.underlying41 h
  have hxl : xs.length = 2 := hxl
  rw [show Try.prog.cellsOf 41 = 9 by kernel_rfl] at hl
  obtain ⟨c0, c1, c2, c3, c4, c5, c6, c7, c8, rfl⟩ := of9W hl
  obtain ⟨x0, x1, rfl⟩ := of2W hxl
  have h0 := fld hf 0 rfl rfl rfl cells_int (cs' := [c0]) rfl rfl
  have h1 := fld hf 1 rfl rfl rfl cells_prepW (cs' := [c1, c2, c3, c4, c5, c6, c7, c8]) rfl rfl
  obtain ⟨y0, g0, e0, r0⟩ := DataW.trod_int Try.underlying3 h0
  obtain ⟨y1, ⟨o, g, c, e1, t1, t2, t3⟩, b1, s1⟩ := opn_prep _ _ _ h1
  obtain ⟨xs', n', ex, en, hl', hxl', hf'⟩ := DataW.trod_struct Try.underlying39 h1
  have hxl' : xs'.length = 4 := hxl'
  obtain ⟨z0, z1, z2, z3, rfl⟩ := of4 hxl'
  have h10 := fld hf' 0 rfl rfl rfl cells_int (cs' := [c1]) rfl rfl
  obtain ⟨q0, gq, eq, rq⟩ := DataW.trod_int Try.underlying3 h10
  cases g0
  cases e1
  have hq : q0 = y1.1 := by
    injection gq with gq
    injection gq with _ gq
    exact gq.symm
  subst hq
  have hb := bounds_i64 rq
  refine ⟨(y0, y1), ⟨_, _, _, rfl, t1, t2, t3⟩, ?_, fun hn => ⟨s1 (weights_fld Try.underlying41 hn 1 rfl rfl rfl), hb⟩⟩
  simp only [bWA, Rows.uptoBulk, Rows.uptoBulkAll, List.map_cons, List.map_nil]
  omega
theorem opn_actsW : Opn enc Try.prog w base held 22 (fun cs ys => ∃ v, cs = [v] ∧ RL RWAct 9 Any w v ys) (bL bWA) (szL 120 szWA) := opn_list Try.underlying22 (by kernel_rfl) (by kernel_rfl) (by decide) opn_wact
theorem open_actsW {v : Value} {d : DataW H} {p : List MemPlace} (hone : v.cells.toList = [v]) (h : DataW.Trod enc Try.prog w base (fun _ => true) held 22 v d p) :
    ∃ ys : List PWAct, RL RWAct 9 Any w v ys ∧ bL bWA ys ≤ Rows.uptoBulk d ∧ ((∀ n ∈ d.weights Try.prog 22, n ≤ reachBytes) → szL 120 szWA ys) := by
  obtain ⟨fuel, hf⟩ := h
  obtain ⟨ys, ⟨u, e, h1⟩, h2, h3⟩ := opn_actsW fuel _ _ hf
  rw [hone] at e
  cases e
  exact ⟨ys, h1, h2, h3⟩
end
end
end Go.Proofs.Ytjloehkolnjnhaa
