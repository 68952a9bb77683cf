/- What is voted for, a vote, votes: opened. -/
import Derived.Test.YtmfmfjndigjlfaaDoorOpen5
namespace Go.Proofs.YtmfmfjndigjlfaaDoor
open Go.ChangeShapes Go.WideShapes Go.ChangeAt Go.RowKit Oct

theorem open_aggV {P : Program} {w : World} {b0 : Nat} {r : Reach} {t : TypeId} {fs : Array Field} {k : Nat} (ht : P.underlying t = some (.struct fs)) (hct : P.cellsOf t = k) {v : Value} (hv : Value.okWide P w r b0 t v) : ∃ cs : List Value, v = .agg cs.toArray ∧ cs.length = k := by
  simp only [Value.okWide, ht] at hv
  obtain ⟨cs, rfl, hsz, _⟩ := hv
  exact ⟨cs.toList, by simp, by simpa [hct] using hsz⟩
theorem cells_vote : Tryd.prog.cellsOf 42 = 2 := by kernel_rfl
theorem open_vote {H : Type} {enc : TypeId × Value → H} {w : World} {base b0 : Nat} {r : Reach} {held : Bool} {v : Value} {d : DataW H} {p : List MemPlace} (hv : Value.okWide Tryd.prog w r b0 42 v) (h : DataW.Trod enc Tryd.prog w base (fun _ => true) held 42 v d p) :
    ∃ (i : Int) (gv : Value) (g : List Int), v = .agg #[.int .i64 i, gv] ∧ Rd w gv g ∧ 2 + bT g ≤ Rows.uptoBulk d := by
  obtain ⟨cs, rfl, hl⟩ := open_aggV Tryd.underlying42 cells_vote hv
  obtain ⟨fuel, hf⟩ := h
  obtain ⟨y, h1, h2, h3⟩ := opn_vote fuel _ _ hf
  obtain ⟨s, e, hs⟩ := h1
  simp only [Value.cells] at e
  exact ⟨y.1, s, y.2, by rw [show cs = [.int .i64 y.1, s] from e], hs.1, h2⟩
theorem open_votes {H : Type} {enc : TypeId × Value → H} {w : World} {base : Nat} {held : Bool} {v : Value} {d : DataW H} {p : List MemPlace} (hone : v.cells.toList = [v]) (h : DataW.Trod enc Tryd.prog w base (fun _ => true) held 27 v d p) :
    ∃ ys : List PVote, RL RVote 2 Any w v ys ∧ bL bV ys ≤ Rows.uptoBulk d ∧ ((∀ n ∈ d.weights Tryd.prog 27, n ≤ reachBytes) → szL 32 szV ys) := by
  obtain ⟨fuel, hf⟩ := h
  obtain ⟨ys, ⟨u, e, h1⟩, h2, h3⟩ := opn_votes fuel _ _ hf
  rw [hone] at e
  cases e
  exact ⟨ys, h1, h2, h3⟩

theorem weightsV_arg {H : Type} {P : Program} {ts : List TypeId} {ds : List (DataW H)} (h : (DataW.weightsEach P ts ds).all (· ≤ reachBytes) = true) {j : Nat} {t : TypeId} {d : DataW H} (ht : ts[j]? = some t) (hd : ds[j]? = some d) : ∀ n ∈ d.weights P t, n ≤ reachBytes := fun n hn => by
  have := List.all_eq_true.1 h _ (DataW.weights_mem_each ht hd n hn)
  simpa using this
theorem cells_lbal : Tryd.prog.cellsOf 26 = 5 := by kernel_rfl
theorem of5 {α : Type} {l : List α} (h : l.length = 5) : ∃ c0 c1 c2 c3 c4, l = [c0, c1, c2, c3, c4] := by match l, h with | [c0, c1, c2, c3, c4], _ => exact ⟨c0, c1, c2, c3, c4, rfl⟩
theorem open_lball {H : Type} {enc : TypeId × Value → H} {w : World} {base b0 : Nat} {r : Reach} {held : Bool} {v : Value} {d : DataW H} {p : List MemPlace} (hv : Value.okWide Tryd.prog w r b0 26 v) (h : DataW.Trod enc Tryd.prog w base (fun _ => true) held 26 v d p) :
    ∃ (k x y s : Int) (bv : Value) (l : List Int), v = .agg #[.int .i64 k, .int .i64 x, .int .i64 y, .int .i64 s, bv] ∧ Rd w bv l ∧ bT l ≤ Rows.uptoBulk d ∧ ((Lit.int .i64 k).wf = true ∧ (Lit.int .i64 x).wf = true ∧ (Lit.int .i64 y).wf = true ∧ (Lit.int .i64 s).wf = true) := by
  obtain ⟨cs, rfl, hl⟩ := open_aggV Tryd.underlying26 cells_lbal hv
  clear hv
  obtain ⟨fuel, hf⟩ := h
  obtain ⟨xs, n, rfl, hx, hl2, hxl, hf⟩ := DataW.trod_struct Tryd.underlying26 hf
  clear hl2
  have hxl : xs.length = 4 := hxl
  obtain ⟨c0, c1, c2, c3, c4, rfl⟩ := of5 hl
  obtain ⟨x0, x1, x2, x3, rfl⟩ := of4 hxl
  simp only [Value.cells] at hf
  have hd := congrArg Prod.fst hx
  simp only [List.map_cons, List.map_nil] at hd
  clear hx
  have h0 := fld hf 0 rfl rfl rfl cells_int (cs' := [c0]) rfl rfl
  have h1 := fld hf 1 rfl rfl rfl cells_bal (cs' := [c1, c2]) rfl rfl
  have h2 := fld hf 2 rfl rfl rfl cells_int (cs' := [c3]) rfl rfl
  have h3 := fld hf 3 rfl rfl rfl cells_text (cs' := [c4]) rfl rfl
  obtain ⟨zs, n1, e1, g1, hl1, hxl1, hf1⟩ := DataW.trod_struct Tryd.underlying23 h1
  have hxl1 : zs.length = 2 := hxl1
  obtain ⟨z0, z1, rfl⟩ := of2 hxl1
  have k0 := fld hf1 0 rfl rfl rfl cells_int (cs' := [c1]) rfl rfl
  have k1 := fld hf1 1 rfl rfl rfl cells_int (cs' := [c2]) rfl rfl
  obtain ⟨y0, q0, _, r0⟩ := DataW.trod_int Tryd.underlying3 h0
  obtain ⟨y1, q1, _, r1⟩ := DataW.trod_int Tryd.underlying3 k0
  obtain ⟨y2, q2, _, r2⟩ := DataW.trod_int Tryd.underlying3 k1
  obtain ⟨y3, q3, _, r3⟩ := DataW.trod_int Tryd.underlying3 h2
  obtain ⟨y4, ⟨v4, q4, r4⟩, b4, s4⟩ := opn_text _ _ _ h3
  cases q0
  cases q1
  cases q2
  cases q3
  cases q4
  refine ⟨y0, y1, y2, y3, _, y4, rfl, r4.1, ?_, r0, r1, r2, r3⟩
  rw [hd]
  simp only [Rows.uptoBulk, Rows.uptoBulkAll]
  omega
set_option maxRecDepth 10000 in
theorem open_req {H : Type} {enc : TypeId × Value → H} {w : World} {base b0 : Nat} {r : Reach} {held : Bool} {v : Value} {d : DataW H} {p : List MemPlace} (hv : Value.okWide Tryd.prog w r b0 35 v) (h : DataW.Trod enc Tryd.prog w base (fun _ => true) held 35 v d p) :
    ∃ (q : List Value) (x : PReq), v = .agg q.toArray ∧ RReq Any w q x ∧ bQ x ≤ Rows.uptoBulk d ∧ ((∀ n ∈ d.weights Tryd.prog 35, n ≤ reachBytes) → szQ x) ∧ (Lit.int .i64 x.1).wf = true ∧ (Lit.int .i64 x.2.1).wf = true := by
  obtain ⟨cs, rfl, hl⟩ := open_aggV Tryd.underlying35 cells_req hv
  obtain ⟨fuel, hf⟩ := h
  obtain ⟨y, h1, h2, h3, h4, h5⟩ := opn_req' fuel _ _ hf
  exact ⟨cs, y, rfl, by simpa [Value.cells] using h1, h2, h3, h4, h5⟩
end Go.Proofs.YtmfmfjndigjlfaaDoor
