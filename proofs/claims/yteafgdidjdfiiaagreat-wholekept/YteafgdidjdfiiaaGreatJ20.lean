/- PROVED HERE: at all arguments catenarytop.WholeKept returns true and leaves its arguments as they were (the statement WholeKeptSaid); no condition. -/
import Derived.Test.YteafgdidjdfiiaaGreatJ19
import Derived.Test.YteafgdidjdfiiaaGreatJ04
import Derived.Test.YteafgdidjdfiiaaGreatRows
import Derived.Test.YteafgdidjdfiiaaGreatJ18
section
namespace Go.Proofs.YteafgdidjdfiiaaGreat
open Go.ChangeShapes Go.WideShapes Go.ChangeAt Go.RowKit Oct Kvl

def bRs (x : Int × List Int) : Nat := 1 + bT x.2
def bSe (x : PEnt) : Nat := 1 + bT (sv x)
def bA (a : PApp) : Nat := bL bE a.2.1 + bL bLe a.2.2.1 + bL bSe a.2.2.2
theorem of4A {α : Type} {l : List α} (h : l.length = 4) : ∃ c0 c1 c2 c3, l = [c0, c1, c2, c3] := by match l, h with | [c0, c1, c2, c3], _ => exact ⟨c0, c1, c2, c3, rfl⟩
theorem of3A {α : Type} {l : List α} (h : l.length = 3) : ∃ c0 c1 c2, l = [c0, c1, c2] := by match l, h with | [c0, c1, c2], _ => exact ⟨c0, c1, c2, rfl⟩
theorem of2A {α : Type} {l : List α} (h : l.length = 2) : ∃ c0 c1, l = [c0, c1] := by match l, h with | [c0, c1], _ => exact ⟨c0, c1, rfl⟩
def RResA (w : World) (r : List Value) (x : Int × List Int) : Prop := ∃ v, r = [.int .i64 x.1, v] ∧ RT Any w v x.2
section
variable {H : Type} {enc : TypeId × Value → H} {w : World} {base : Nat} {held : Bool}
theorem opn_res : Opn enc Tryz.prog w base held 30 (RResA w) bRs (fun x => szT x.2) := by
  intro fuel cs x h
  obtain ⟨xs, n, rfl, rfl, hl, hxl, hf⟩ := DataW.trod_struct Tryz.underlying30 h
  have hxl : xs.length = 2 := hxl
  rw [show Tryz.prog.cellsOf 30 = 2 by kernel_rfl] at hl
  obtain ⟨c0, c1, rfl⟩ := of2A hl
  obtain ⟨x0, x1, rfl⟩ := of2A hxl
  have h0 := fld hf 0 rfl rfl rfl cells_int (cs' := [c0]) rfl rfl
  have h1 := fld hf 1 rfl rfl rfl cells_text (cs' := [c1]) rfl rfl
  obtain ⟨y0, g0, (b0 : 1 ≤ _), _⟩ := opn_int _ _ _ h0
  obtain ⟨y1, ⟨v1, e1, g1⟩, b1, s1⟩ := opn_text _ _ _ h1
  cases g0
  cases e1
  refine ⟨(y0, y1), ⟨_, rfl, g1⟩, ?_, fun hn => s1 (weights_fld Tryz.underlying30 hn 1 rfl rfl rfl)⟩
  simp only [bRs, Rows.uptoBulk, Rows.uptoBulkAll, List.map_cons, List.map_nil]
  omega
theorem cells_resA : Tryz.prog.cellsOf 30 = 2 := by kernel_rfl
theorem opn_ses : Opn enc Tryz.prog w base held 77 (RSes Any w) bSe szN := by
  intro fuel cs x h
  obtain ⟨xs, n, rfl, rfl, hl, hxl, hf⟩ := DataW.trod_struct Tryz.underlying77 h
  have hxl : xs.length = 3 := hxl
  rw [show Tryz.prog.cellsOf 77 = 4 by kernel_rfl] at hl
  obtain ⟨c0, c1, c2, c3, rfl⟩ := of4A hl
  obtain ⟨x0, x1, x2, rfl⟩ := of3A hxl
  have h0 := fld hf 0 rfl rfl rfl cells_int (cs' := [c0]) rfl rfl
  have h1 := fld hf 1 rfl rfl rfl cells_int (cs' := [c1]) rfl rfl
  have h2 := fld hf 2 rfl rfl rfl cells_resA (cs' := [c2, c3]) rfl rfl
  obtain ⟨y0, g0, (b0 : 1 ≤ _), _⟩ := opn_int _ _ _ h0
  obtain ⟨y1, g1, (b1 : 1 ≤ _), _⟩ := opn_int _ _ _ h1
  obtain ⟨y2, ⟨v2, e2, g2⟩, b2, s2⟩ := opn_res _ _ _ h2
  cases g0
  cases g1
  injection e2 with e3 e4
  injection e4 with e4 _
  subst e3 e4
  refine ⟨([y0], y1 :: y2.1 :: y2.2), ⟨_, _, _, _, _, rfl, g2, rfl⟩, ?_, fun hn => s2 (weights_fld Tryz.underlying77 hn 2 rfl rfl rfl)⟩
  simp only [bSe, bRs, sv, Rows.uptoBulk, Rows.uptoBulkAll, List.map_cons, List.map_nil, List.tail_cons] at *
  omega
theorem opn_sess : Opn enc Tryz.prog w base held 25 (fun cs ys => ∃ v, cs = [v] ∧ RL RSes 4 Any w v ys) (bL bSe) (szL 48 szN) := opn_list Tryz.underlying25 (by kernel_rfl) (by kernel_rfl) (by decide) opn_ses
theorem cells_entsA : Tryz.prog.cellsOf 23 = 1 := by kernel_rfl
theorem cells_leasA : Tryz.prog.cellsOf 24 = 1 := by kernel_rfl
theorem cells_sessA : Tryz.prog.cellsOf 25 = 1 := by kernel_rfl
set_option maxRecDepth 100000 in
theorem opn_app : Opn enc Tryz.prog w base held 27 (RApp Any w) bA szA := by
  intro fuel cs x h
  obtain ⟨xs, n, rfl, rfl, hl, hxl, hf⟩ := DataW.trod_struct Tryz.underlying27 h
  have hxl : xs.length = 4 := hxl
  rw [show Tryz.prog.cellsOf 27 = 4 by kernel_rfl] at hl
  obtain ⟨c0, c1, c2, c3, rfl⟩ := of4A hl
  obtain ⟨x0, x1, x2, x3, rfl⟩ := of4A hxl
  have h0 := fld hf 0 rfl rfl rfl cells_int (cs' := [c0]) rfl rfl
  have h1 := fld hf 1 rfl rfl rfl cells_entsA (cs' := [c1]) rfl rfl
  have h2 := fld hf 2 rfl rfl rfl cells_leasA (cs' := [c2]) rfl rfl
  have h3 := fld hf 3 rfl rfl rfl cells_sessA (cs' := [c3]) rfl rfl
  obtain ⟨y0, g0, (b0 : 1 ≤ _), _⟩ := opn_int _ _ _ h0
  obtain ⟨y1, ⟨v1, e1, g1⟩, b1, s1⟩ := opn_ents _ _ _ h1
  obtain ⟨y2, ⟨v2, e2, g2⟩, b2, s2⟩ := opn_leas _ _ _ h2
  obtain ⟨y3, ⟨v3, e3, g3⟩, b3, s3⟩ := opn_sess _ _ _ h3
  cases g0
  cases e1
  cases e2
  cases e3
  refine ⟨(y0, y1, y2, y3), ⟨_, _, _, rfl, g1, g2, g3⟩, ?_, fun hn => ⟨s1 (weights_fld Tryz.underlying27 hn 1 rfl rfl rfl), s2 (weights_fld Tryz.underlying27 hn 2 rfl rfl rfl), s3 (weights_fld Tryz.underlying27 hn 3 rfl rfl rfl)⟩⟩
  simp only [bA, Rows.uptoBulk, Rows.uptoBulkAll, List.map_cons, List.map_nil]
  omega
end
theorem cells_appA : Tryz.prog.cellsOf 27 = 4 := by kernel_rfl
set_option maxRecDepth 100000 in
theorem open_app {H : Type} {enc : TypeId × Value → H} {w : World} {base b0 : Nat} {r : Reach} {held : Bool} {v : Value} {d : DataW H} {p : List MemPlace} (hv : Value.okWide Tryz.prog w r b0 27 v) (h : DataW.Trod enc Tryz.prog w base (fun _ => true) held 27 v d p) :
    ∃ (q : List Value) (x : PApp), v = .agg q.toArray ∧ RApp Any w q x ∧ bA x ≤ Rows.uptoBulk d ∧ ((∀ n ∈ d.weights Tryz.prog 27, n ≤ reachBytes) → szA x) := by
  obtain ⟨cs, rfl, hl⟩ := open_aggK Tryz.underlying27 cells_appA hv
  obtain ⟨fuel, hf⟩ := h
  obtain ⟨y, h1, h2, h3⟩ := opn_app fuel _ _ hf
  exact ⟨cs, y, rfl, by simpa [Value.cells] using h1, h2, h3⟩
theorem cells_reqA : Tryz.prog.cellsOf 34 = 4 := by kernel_rfl
set_option maxRecDepth 100000 in
theorem open_req {H : Type} {enc : TypeId × Value → H} {w : World} {base b0 : Nat} {r : Reach} {held : Bool} {v : Value} {d : DataW H} {p : List MemPlace} (hv : Value.okWide Tryz.prog w r b0 34 v) (h : DataW.Trod enc Tryz.prog w base (fun _ => true) held 34 v d p) :
    ∃ (q : List Value) (x : PReq), v = .agg q.toArray ∧ RReq Any w q x ∧ bQ x ≤ Rows.uptoBulk d ∧ ((∀ n ∈ d.weights Tryz.prog 34, n ≤ reachBytes) → szQ x) ∧ (Lit.int .i64 x.1).wf = true ∧ (Lit.int .i64 x.2.1).wf = true := by
  obtain ⟨cs, rfl, hl⟩ := open_aggK Tryz.underlying34 cells_reqA hv
  obtain ⟨fuel, hf⟩ := h
  obtain ⟨y, h1, h2, h3, h4, h5⟩ := opn_req' fuel _ _ hf
  exact ⟨cs, y, rfl, by simpa [Value.cells] using h1, h2, h3, h4, h5⟩
theorem weights_arg {H : Type} {P : Program} {ts : List TypeId} {ds : List (DataW H)} (h : (DataW.weightsEach P ts ds).all (· ≤ reachBytes) = true) {j : Nat} {t : TypeId} {d : DataW H} (ht : ts[j]? = some t) (hd : ds[j]? = some d) : ∀ n ∈ d.weights P t, n ≤ reachBytes := weightsK_arg h ht hd
theorem open_reqs {H : Type} {enc : TypeId × Value → H} {w : World} {base : Nat} {held : Bool} {v : Value} {d : DataW H} {p : List MemPlace} (hone : v.cells.toList = [v]) (h : DataW.Trod enc Tryz.prog w base (fun _ => true) held 22 v d p) :
    ∃ ys : List PReq, RL RReq 4 Any w v ys ∧ bL bQ ys ≤ Rows.uptoBulk d ∧ ((∀ n ∈ d.weights Tryz.prog 22, n ≤ reachBytes) → szL 64 szQ ys) := by
  obtain ⟨fuel, hf⟩ := h
  obtain ⟨ys, ⟨u, e, h1⟩, h2, h3⟩ := opn_reqs fuel _ _ hf
  rw [hone] at e
  cases e
  exact ⟨ys, h1, h2, h3⟩
end Go.Proofs.YteafgdidjdfiiaaGreat
end

section
namespace Go.Proofs.YteafgdidjdfiiaaGreat
open Go.ChangeShapes Go.WideShapes Go.ChangeAt Go.RowKit

theorem wholeKept_own : ownKnob Tryz.prog.godebug = none := by kernel_rfl
theorem wholeKept_laidOut : laidOutB Tryz.prog = true := by kernel_rfl
theorem wholeKept_cells5 : Tryz.prog.cellsOf 5 = 1 := by kernel_rfl
theorem wholeKept_bytes5 : Tryz.prog.bytesOf 5 = 1 := by kernel_rfl

set_option maxRecDepth 100000 in
theorem wholeKept_lifted (os : Os) (started : os.Started) (H : Type) (enc : TypeId × Value → H) :
    ReturnsInHanded {} Tryz.checked os 3 .any (Rows.wholeKeptSpec.pre6 enc Tryz.prog Tryz.f3 Rows.wholeKeptRow.domain false) (Rows.wholeKeptSpec.post enc Tryz.prog Tryz.f3 false true false false) := by
  refine returnsInHanded_of_change_sized (C := Tryz.checked) wholeKept_own started (by kernel_rfl) Tryz.func3
    (ChangeSpec.witness6 (enc := enc) (C := Tryz.checked) false ⟨#[], #[.slice none 0 0, .int .i64 0, .int .i64 0], []⟩ 8 (by kernel_rfl) (by kernel_rfl) (by kernel_rfl) (by kernel_rfl)) ?_
  intro W base args ds gs before hval0 hW _ hsz0 _
  have hval : ∀ (j : Nat) t v, Tryz.f3.params[j]? = some t → args[j]? = some v → Value.okWide Tryz.prog W .any base t v := hval0
  have hsz : (DataW.weightsEach Tryz.prog (Tryz.f3.params.toList ++ Rows.wholeKeptSpec.plain.varTypes Tryz.prog) (ds ++ gs)).all (· ≤ reachBytes) = true := hsz0
  have hW' := hW
  obtain ⟨p, q, hA0, hV, rfl, hfz, hnd⟩ := hW
  have hA : DataW.TrodAll enc Tryz.prog W 0 (fun _ => true) true Tryz.f3.params.toList args.toList ds p := hA0
  rw [Tryz.params3] at hA hval hsz
  obtain ⟨v0, vs0, d0, ds0, p0, q0, hargs, rfl, rfl, h0, r0⟩ := trodAll_cons hA
  obtain ⟨v1, vs1, d1, ds1, p1, q1, rfl, rfl, rfl, h1, r1⟩ := trodAll_cons r0
  obtain ⟨v2, vs2, d2, ds2, p2, q2, rfl, rfl, rfl, h2, r2⟩ := trodAll_cons r1
  obtain ⟨rfl, rfl, rfl⟩ := trodAll_nil r2
  obtain rfl : args = #[v0, v1, v2] := by cases args; simp_all
  obtain ⟨rfl, rfl⟩ := trodVars_none hV
  obtain ⟨a0, len0, cap0, rfl⟩ := okWide_slice Tryz.underlying22 (hval 0 22 v0 rfl rfl)
  have lt0 : ∀ x ∈ p0, x.block < W.heap.size := by obtain ⟨m, hm⟩ := h0; exact DataW.trod_lt m _ _ _ hm
  obtain ⟨ys0, hrd0, hb0, hz0⟩ := open_reqs rfl h0
  have hlen0 := hz0 (weightsK_arg hsz (j := 0) rfl rfl)
  obtain ⟨a1, rfl, rfl, rfl, w1⟩ := open_int Tryz.underlying3 (hval 1 3 v1 rfl rfl) h1
  obtain ⟨a2, rfl, rfl, rfl, w2⟩ := open_int Tryz.underlying3 (hval 2 3 v2 rfl rfl) h2
  clear hA0
  refine (keptT_any W _ ys0 a1 a2 hrd0 hlen0 (bounds_i64 w1).2).mono fun e W' ⟨he, bel⟩ => ?_
  subst he
  exact ⟨_, rfl, _, _, _, [], _, [], hW', trodAll_mk1 (shut_bool Tryz.underlying4 _), (trodAll_cons_mk (Below.trod wholeKept_laidOut (by kernel_rfl) (of_decide_eq_true (by kernel_rfl)) h0 bel lt0) (trodAll_cons_mk (shut_int Tryz.underlying3 w1) (trodAll_cons_mk (shut_int Tryz.underlying3 w2) trodAll_mk0))), rfl, bel.frame _, fun h => by cases h⟩

theorem wholeKept_proved : Rows.WholeKeptSaid :=
  OpenClaim.holds_of_wide 3 Tryz.f3 rfl rfl rfl rfl rfl rfl rfl ⟨rfl, rfl, rfl, rfl, rfl⟩ rfl rfl rfl rfl rfl (by kernel_rfl) Tryz.func3 (by kernel_rfl)
    (of_decide_eq_true (by kernel_rfl)) (by unfold Func.isWrapper; first | (rw [if_pos (by decide +kernel)]; kernel_rfl) | (rw [if_neg (by decide +kernel)]; exact ⟨rfl, rfl⟩))
    (fun os started H enc _ => wholeKept_lifted os started H enc)
#print axioms wholeKept_proved
end Go.Proofs.YteafgdidjdfiiaaGreat
end
