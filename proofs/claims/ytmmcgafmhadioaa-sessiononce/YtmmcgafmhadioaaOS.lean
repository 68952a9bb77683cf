/- States and requests that came in, opened. -/
import Derived.Test.YtmmcgafmhadioaaOpenK
import Derived.Test.YtmmcgafmhadioaaHA
import Derived.Test.YtmmcgafmhadioaaXB
section
namespace Go.Proofs.Ytmmcgafmhadioaa
open Go.ChangeShapes Go.WideShapes Go.ChangeAt Go.RowKit Oct Kvl

def bLe (x : PEnt) : Nat := 3 + bT x.1
theorem of3S {α : Type} {l : List α} (h : l.length = 3) : ∃ c0 c1 c2, l = [c0, c1, c2] := by match l, h with | [c0, c1, c2], _ => exact ⟨c0, c1, c2, rfl⟩
section
variable {H : Type} {enc : TypeId × Value → H} {w : World} {base : Nat} {held : Bool}
set_option maxRecDepth 100000 in
theorem opn_lea : Opn enc Try.prog w base held 73 (RLea Any w) bLe szS := by
  intro fuel cs x h
  obtain ⟨xs, n, rfl, rfl, hl, hxl, hf⟩ := DataW.trod_struct Try.underlying73 h
  have hxl : xs.length = 3 := hxl
  rw [show Try.prog.cellsOf 73 = 3 by kernel_rfl] at hl
  obtain ⟨c0, c1, c2, rfl⟩ := of3S hl
  obtain ⟨x0, x1, x2, rfl⟩ := of3S hxl
  have h0 := fld hf 0 rfl rfl rfl cells_text (cs' := [c0]) rfl rfl
  have h1 := fld hf 1 rfl rfl rfl cells_int (cs' := [c1]) rfl rfl
  have h2 := fld hf 2 rfl rfl rfl cells_int (cs' := [c2]) rfl rfl
  obtain ⟨y0, ⟨v0, e0, g0⟩, b0, s0⟩ := opn_text _ _ _ h0
  obtain ⟨y1, g1, (b1 : 1 ≤ _), _⟩ := opn_int _ _ _ h1
  obtain ⟨y2, g2, (b2 : 1 ≤ _), _⟩ := opn_int _ _ _ h2
  cases e0
  cases g1
  cases g2
  refine ⟨(y0, [y1, y2]), ⟨_, _, _, rfl, g0, rfl⟩, ?_, fun hn => s0 (weights_fld Try.underlying73 hn 0 rfl rfl rfl)⟩
  simp only [bLe, Rows.uptoBulk, Rows.uptoBulkAll, List.map_cons, List.map_nil]
  omega
theorem opn_leas : Opn enc Try.prog w base held 28 (fun cs ys => ∃ v, cs = [v] ∧ RL RLea 3 Any w v ys) (bL bLe) (szL 40 szS) := opn_list Try.underlying28 (by kernel_rfl) (by kernel_rfl) (by decide) opn_lea
end
theorem open_leas {H : Type} {enc : TypeId × Value → H} {w : World} {base : Nat} {held : Bool} {v : Value} {d : DataW H} {p : List MemPlace} (hone : v.cells.toList = [v]) (h : DataW.Trod enc Try.prog w base (fun _ => true) held 28 v d p) :
    ∃ ys : List PEnt, RL RLea 3 Any w v ys ∧ bL bLe ys ≤ Rows.uptoBulk d ∧ ((∀ n ∈ d.weights Try.prog 28, n ≤ reachBytes) → szL 40 szS ys) := by
  obtain ⟨fuel, hf⟩ := h
  obtain ⟨ys, ⟨u, e, h1⟩, h2, h3⟩ := opn_leas fuel _ _ hf
  rw [hone] at e
  cases e
  exact ⟨ys, h1, h2, h3⟩
end Go.Proofs.Ytmmcgafmhadioaa
end

section
namespace Go.Proofs.Ytmmcgafmhadioaa
open Go.ChangeShapes Go.WideShapes Go.ChangeAt Go.RowKit Oct Kvl

def bRs (x : Int × List Int) : Nat := 1 + bT x.2
def bSe (x : PEnt) : Nat := 1 + bT (sv x)
def bA (a : PApp) : Nat := bL bE a.2.1 + bL bLe a.2.2.1 + bL bSe a.2.2.2
theorem of4A {α : Type} {l : List α} (h : l.length = 4) : ∃ c0 c1 c2 c3, l = [c0, c1, c2, c3] := by match l, h with | [c0, c1, c2, c3], _ => exact ⟨c0, c1, c2, c3, rfl⟩
theorem of3A {α : Type} {l : List α} (h : l.length = 3) : ∃ c0 c1 c2, l = [c0, c1, c2] := by match l, h with | [c0, c1, c2], _ => exact ⟨c0, c1, c2, rfl⟩
theorem of2A {α : Type} {l : List α} (h : l.length = 2) : ∃ c0 c1, l = [c0, c1] := by match l, h with | [c0, c1], _ => exact ⟨c0, c1, rfl⟩
def RResA (w : World) (r : List Value) (x : Int × List Int) : Prop := ∃ v, r = [.int .i64 x.1, v] ∧ RT Any w v x.2
section
variable {H : Type} {enc : TypeId × Value → H} {w : World} {base : Nat} {held : Bool}
theorem opn_res : Opn enc Try.prog w base held 24 (RResA w) bRs (fun x => szT x.2) := by
  intro fuel cs x h
  obtain ⟨xs, n, rfl, rfl, hl, hxl, hf⟩ := DataW.trod_struct Try.underlying24 h
  have hxl : xs.length = 2 := hxl
  rw [show Try.prog.cellsOf 24 = 2 by kernel_rfl] at hl
  obtain ⟨c0, c1, rfl⟩ := of2A hl
  obtain ⟨x0, x1, rfl⟩ := of2A hxl
  have h0 := fld hf 0 rfl rfl rfl cells_int (cs' := [c0]) rfl rfl
  have h1 := fld hf 1 rfl rfl rfl cells_text (cs' := [c1]) rfl rfl
  obtain ⟨y0, g0, (b0 : 1 ≤ _), _⟩ := opn_int _ _ _ h0
  obtain ⟨y1, ⟨v1, e1, g1⟩, b1, s1⟩ := opn_text _ _ _ h1
  cases g0
  cases e1
  refine ⟨(y0, y1), ⟨_, rfl, g1⟩, ?_, fun hn => s1 (weights_fld Try.underlying24 hn 1 rfl rfl rfl)⟩
  simp only [bRs, Rows.uptoBulk, Rows.uptoBulkAll, List.map_cons, List.map_nil]
  omega
theorem cells_resA : Try.prog.cellsOf 24 = 2 := by kernel_rfl
theorem opn_ses : Opn enc Try.prog w base held 46 (RSes Any w) bSe szN := by
  intro fuel cs x h
  obtain ⟨xs, n, rfl, rfl, hl, hxl, hf⟩ := DataW.trod_struct Try.underlying46 h
  have hxl : xs.length = 3 := hxl
  rw [show Try.prog.cellsOf 46 = 4 by kernel_rfl] at hl
  obtain ⟨c0, c1, c2, c3, rfl⟩ := of4A hl
  obtain ⟨x0, x1, x2, rfl⟩ := of3A hxl
  have h0 := fld hf 0 rfl rfl rfl cells_int (cs' := [c0]) rfl rfl
  have h1 := fld hf 1 rfl rfl rfl cells_int (cs' := [c1]) rfl rfl
  have h2 := fld hf 2 rfl rfl rfl cells_resA (cs' := [c2, c3]) rfl rfl
  obtain ⟨y0, g0, (b0 : 1 ≤ _), _⟩ := opn_int _ _ _ h0
  obtain ⟨y1, g1, (b1 : 1 ≤ _), _⟩ := opn_int _ _ _ h1
  obtain ⟨y2, ⟨v2, e2, g2⟩, b2, s2⟩ := opn_res _ _ _ h2
  cases g0
  cases g1
  injection e2 with e3 e4
  injection e4 with e4 _
  subst e3 e4
  refine ⟨([y0], y1 :: y2.1 :: y2.2), ⟨_, _, _, _, _, rfl, g2, rfl⟩, ?_, fun hn => s2 (weights_fld Try.underlying46 hn 2 rfl rfl rfl)⟩
  simp only [bSe, bRs, sv, Rows.uptoBulk, Rows.uptoBulkAll, List.map_cons, List.map_nil, List.tail_cons] at *
  omega
theorem opn_sess : Opn enc Try.prog w base held 29 (fun cs ys => ∃ v, cs = [v] ∧ RL RSes 4 Any w v ys) (bL bSe) (szL 48 szN) := opn_list Try.underlying29 (by kernel_rfl) (by kernel_rfl) (by decide) opn_ses
theorem cells_entsA : Try.prog.cellsOf 27 = 1 := by kernel_rfl
theorem cells_leasA : Try.prog.cellsOf 28 = 1 := by kernel_rfl
theorem cells_sessA : Try.prog.cellsOf 29 = 1 := by kernel_rfl
set_option maxRecDepth 100000 in
theorem opn_app : Opn enc Try.prog w base held 31 (RApp Any w) bA szA := by
  intro fuel cs x h
  obtain ⟨xs, n, rfl, rfl, hl, hxl, hf⟩ := DataW.trod_struct Try.underlying31 h
  have hxl : xs.length = 4 := hxl
  rw [show Try.prog.cellsOf 31 = 4 by kernel_rfl] at hl
  obtain ⟨c0, c1, c2, c3, rfl⟩ := of4A hl
  obtain ⟨x0, x1, x2, x3, rfl⟩ := of4A hxl
  have h0 := fld hf 0 rfl rfl rfl cells_int (cs' := [c0]) rfl rfl
  have h1 := fld hf 1 rfl rfl rfl cells_entsA (cs' := [c1]) rfl rfl
  have h2 := fld hf 2 rfl rfl rfl cells_leasA (cs' := [c2]) rfl rfl
  have h3 := fld hf 3 rfl rfl rfl cells_sessA (cs' := [c3]) rfl rfl
  obtain ⟨y0, g0, (b0 : 1 ≤ _), _⟩ := opn_int _ _ _ h0
  obtain ⟨y1, ⟨v1, e1, g1⟩, b1, s1⟩ := opn_ents _ _ _ h1
  obtain ⟨y2, ⟨v2, e2, g2⟩, b2, s2⟩ := opn_leas _ _ _ h2
  obtain ⟨y3, ⟨v3, e3, g3⟩, b3, s3⟩ := opn_sess _ _ _ h3
  cases g0
  cases e1
  cases e2
  cases e3
  refine ⟨(y0, y1, y2, y3), ⟨_, _, _, rfl, g1, g2, g3⟩, ?_, fun hn => ⟨s1 (weights_fld Try.underlying31 hn 1 rfl rfl rfl), s2 (weights_fld Try.underlying31 hn 2 rfl rfl rfl), s3 (weights_fld Try.underlying31 hn 3 rfl rfl rfl)⟩⟩
  simp only [bA, Rows.uptoBulk, Rows.uptoBulkAll, List.map_cons, List.map_nil]
  omega
end
theorem cells_appA : Try.prog.cellsOf 31 = 4 := by kernel_rfl
set_option maxRecDepth 100000 in
theorem open_app {H : Type} {enc : TypeId × Value → H} {w : World} {base b0 : Nat} {r : Reach} {held : Bool} {v : Value} {d : DataW H} {p : List MemPlace} (hv : Value.okWide Try.prog w r b0 31 v) (h : DataW.Trod enc Try.prog w base (fun _ => true) held 31 v d p) :
    ∃ (q : List Value) (x : PApp), v = .agg q.toArray ∧ RApp Any w q x ∧ bA x ≤ Rows.uptoBulk d ∧ ((∀ n ∈ d.weights Try.prog 31, n ≤ reachBytes) → szA x) := by
  obtain ⟨cs, rfl, hl⟩ := open_aggK Try.underlying31 cells_appA hv
  obtain ⟨fuel, hf⟩ := h
  obtain ⟨y, h1, h2, h3⟩ := opn_app fuel _ _ hf
  exact ⟨cs, y, rfl, by simpa [Value.cells] using h1, h2, h3⟩
theorem cells_reqA : Try.prog.cellsOf 35 = 4 := by kernel_rfl
set_option maxRecDepth 100000 in
theorem open_req {H : Type} {enc : TypeId × Value → H} {w : World} {base b0 : Nat} {r : Reach} {held : Bool} {v : Value} {d : DataW H} {p : List MemPlace} (hv : Value.okWide Try.prog w r b0 35 v) (h : DataW.Trod enc Try.prog w base (fun _ => true) held 35 v d p) :
    ∃ (q : List Value) (x : PReq), v = .agg q.toArray ∧ RReq Any w q x ∧ bQ x ≤ Rows.uptoBulk d ∧ ((∀ n ∈ d.weights Try.prog 35, n ≤ reachBytes) → szQ x) ∧ (Lit.int .i64 x.1).wf = true ∧ (Lit.int .i64 x.2.1).wf = true := by
  obtain ⟨cs, rfl, hl⟩ := open_aggK Try.underlying35 cells_reqA hv
  obtain ⟨fuel, hf⟩ := h
  obtain ⟨y, h1, h2, h3, h4, h5⟩ := opn_req' fuel _ _ hf
  exact ⟨cs, y, rfl, by simpa [Value.cells] using h1, h2, h3, h4, h5⟩
theorem weights_arg {H : Type} {P : Program} {ts : List TypeId} {ds : List (DataW H)} (h : (DataW.weightsEach P ts ds).all (· ≤ reachBytes) = true) {j : Nat} {t : TypeId} {d : DataW H} (ht : ts[j]? = some t) (hd : ds[j]? = some d) : ∀ n ∈ d.weights P t, n ≤ reachBytes := weightsK_arg h ht hd
theorem open_reqs {H : Type} {enc : TypeId × Value → H} {w : World} {base : Nat} {held : Bool} {v : Value} {d : DataW H} {p : List MemPlace} (hone : v.cells.toList = [v]) (h : DataW.Trod enc Try.prog w base (fun _ => true) held 36 v d p) :
    ∃ ys : List PReq, RL RReq 4 Any w v ys ∧ bL bQ ys ≤ Rows.uptoBulk d ∧ ((∀ n ∈ d.weights Try.prog 36, n ≤ reachBytes) → szL 64 szQ ys) := by
  obtain ⟨fuel, hf⟩ := h
  obtain ⟨ys, ⟨u, e, h1⟩, h2, h3⟩ := opn_reqs fuel _ _ hf
  rw [hone] at e
  cases e
  exact ⟨ys, h1, h2, h3⟩
end Go.Proofs.Ytmmcgafmhadioaa
end
