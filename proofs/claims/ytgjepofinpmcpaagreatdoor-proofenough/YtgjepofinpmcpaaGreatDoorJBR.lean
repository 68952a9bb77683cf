/- A ballot, two requests, acts of layer 15: opened. -/
import Derived.Test.YtgjepofinpmcpaaGreatDoorJBO
import Derived.Test.YtgjepofinpmcpaaGreatDoorJAZ
import Derived.OpenShut
section
namespace Go.Proofs.YtgjepofinpmcpaaGreatDoor
open Go.ChangeShapes Go.WideShapes Go.ChangeAt Go.RowKit Oct

theorem open_aggV {P : Program} {w : World} {b0 : Nat} {r : Reach} {t : TypeId} {fs : Array Field} {k : Nat} (ht : P.underlying t = some (.struct fs)) (hct : P.cellsOf t = k) {v : Value} (hv : Value.okWide P w r b0 t v) : ∃ cs : List Value, v = .agg cs.toArray ∧ cs.length = k := by
  simp only [Value.okWide, ht] at hv
  obtain ⟨cs, rfl, hsz, _⟩ := hv
  exact ⟨cs.toList, by simp, by simpa [hct] using hsz⟩
theorem cells_vote : Tryz.prog.cellsOf 58 = 2 := by kernel_rfl
set_option maxRecDepth 10000 in
theorem open_vote {H : Type} {enc : TypeId × Value → H} {w : World} {base b0 : Nat} {r : Reach} {held : Bool} {v : Value} {d : DataW H} {p : List MemPlace} (hv : Value.okWide Tryz.prog w r b0 58 v) (h : DataW.Trod enc Tryz.prog w base (fun _ => true) held 58 v d p) :
    ∃ (i : Int) (gv : Value) (g : List Int), v = .agg #[.int .i64 i, gv] ∧ Rd w gv g ∧ 2 + bT g ≤ Rows.uptoBulk d := by
  obtain ⟨cs, rfl, hl⟩ := open_aggV Tryz.underlying58 cells_vote hv
  obtain ⟨fuel, hf⟩ := h
  obtain ⟨y, h1, h2, h3⟩ := opn_vote fuel _ _ hf
  obtain ⟨s, e, hs⟩ := h1
  simp only [Value.cells] at e
  exact ⟨y.1, s, y.2, by rw [show cs = [.int .i64 y.1, s] from e], hs.1, h2⟩
set_option maxRecDepth 10000 in
theorem open_votes {H : Type} {enc : TypeId × Value → H} {w : World} {base : Nat} {held : Bool} {v : Value} {d : DataW H} {p : List MemPlace} (hone : v.cells.toList = [v]) (h : DataW.Trod enc Tryz.prog w base (fun _ => true) held 35 v d p) :
    ∃ ys : List PVote, RL RVote 2 Any w v ys ∧ bL bV ys ≤ Rows.uptoBulk d ∧ ((∀ n ∈ d.weights Tryz.prog 35, n ≤ reachBytes) → szL 32 szV ys) := by
  obtain ⟨fuel, hf⟩ := h
  obtain ⟨ys, ⟨u, e, h1⟩, h2, h3⟩ := opn_votes fuel _ _ hf
  rw [hone] at e
  cases e
  exact ⟨ys, h1, h2, h3⟩

theorem weightsV_arg {H : Type} {P : Program} {ts : List TypeId} {ds : List (DataW H)} (h : (DataW.weightsEach P ts ds).all (· ≤ reachBytes) = true) {j : Nat} {t : TypeId} {d : DataW H} (ht : ts[j]? = some t) (hd : ds[j]? = some d) : ∀ n ∈ d.weights P t, n ≤ reachBytes := fun n hn => by
  have := List.all_eq_true.1 h _ (DataW.weights_mem_each ht hd n hn)
  simpa using this
set_option maxRecDepth 10000 in
theorem open_req {H : Type} {enc : TypeId × Value → H} {w : World} {base b0 : Nat} {r : Reach} {held : Bool} {v : Value} {d : DataW H} {p : List MemPlace} (hv : Value.okWide Tryz.prog w r b0 34 v) (h : DataW.Trod enc Tryz.prog w base (fun _ => true) held 34 v d p) :
    ∃ (q : List Value) (x : PReq), v = .agg q.toArray ∧ RReq Any w q x ∧ bQ x ≤ Rows.uptoBulk d ∧ ((∀ n ∈ d.weights Tryz.prog 34, n ≤ reachBytes) → szQ x) ∧ (Lit.int .i64 x.1).wf = true ∧ (Lit.int .i64 x.2.1).wf = true := by
  obtain ⟨cs, rfl, hl⟩ := open_aggV Tryz.underlying34 cells_req hv
  obtain ⟨fuel, hf⟩ := h
  obtain ⟨y, h1, h2, h3, h4, h5⟩ := opn_req' fuel _ _ hf
  exact ⟨cs, y, rfl, by simpa [Value.cells] using h1, h2, h3, h4, h5⟩
end Go.Proofs.YtgjepofinpmcpaaGreatDoor
end

section
namespace Go.Proofs.YtgjepofinpmcpaaGreatDoor
open Go.ChangeShapes Go.WideShapes Go.ChangeAt Go.RowKit Oct

section
variable {H : Type} {enc : TypeId × Value → H} {w : World} {base b0 : Nat} {r : Reach} {held : Bool}
set_option maxRecDepth 10000 in
theorem open_ballL {v : Value} {d : DataW H} {p : List MemPlace} (hv : Value.okWide Tryz.prog w r b0 32 v) (h : DataW.Trod enc Tryz.prog w base (fun _ => true) held 32 v d p) :
    ∃ a b, v = .agg #[.int .i64 a, .int .i64 b] := by
  obtain ⟨cs, rfl, hl⟩ := open_aggV Tryz.underlying32 cells_bal hv
  obtain ⟨fuel, hf⟩ := h
  obtain ⟨⟨y0, y1⟩, g, _⟩ := opn_bal _ _ _ hf
  have e : cs = [.int .i64 y0, .int .i64 y1] := g
  exact ⟨y0, y1, by rw [e]⟩
theorem agg_arr {P : Program} {t e : TypeId} {n k : Nat} (ht : P.underlying t = some (.array n e)) (hct : P.cellsOf t = k) {v : Value} (hv : Value.okWide P w r b0 t v) : ∃ cs : List Value, v = .agg cs.toArray ∧ cs.length = k := by
  simp only [Value.okWide, ht] at hv
  obtain ⟨cs, rfl, hsz, _⟩ := hv
  exact ⟨cs.toList, by simp, by simpa [hct] using hsz⟩
set_option maxRecDepth 10000 in
theorem open_reqs2 {v : Value} {d : DataW H} {p : List MemPlace} (hv : Value.okWide Tryz.prog w r b0 48 v) (h : DataW.Trod enc Tryz.prog w base (fun _ => true) held 48 v d p) :
    ∃ (o0 p0 o1 p1 : Value) (r0 r1 : PReq), v = .agg #[.int .i64 r0.1, .int .i64 r0.2.1, o0, p0, .int .i64 r1.1, .int .i64 r1.2.1, o1, p1] ∧ RT Any w o0 r0.2.2.1 ∧ RT Any w p0 r0.2.2.2 ∧ RT Any w o1 r1.2.2.1 ∧ RT Any w p1 r1.2.2.2 ∧ bQ r0 + bQ r1 ≤ Rows.uptoBulk d ∧
      ((Lit.int .i64 r0.1).wf = true ∧ (Lit.int .i64 r0.2.1).wf = true) ∧ (Lit.int .i64 r1.1).wf = true ∧ (Lit.int .i64 r1.2.1).wf = true := by
  obtain ⟨cs, rfl, hl⟩ := agg_arr Tryz.underlying48 (k := 8) (by kernel_rfl) hv
  obtain ⟨c0, c1, c2, c3, c4, c5, c6, c7, rfl⟩ := of8 hl
  obtain ⟨fuel, hf⟩ := h
  obtain ⟨xs, m, _, hx, _, hl2, hel⟩ := DataW.trod_array Tryz.underlying48 hf
  obtain ⟨x0, x1, rfl⟩ := of2 hl2
  have h0 := hel 0 (by omega)
  have h1 := hel 1 (by omega)
  rw [cells_req] at h0 h1
  simp only [Value.cells] at h0 h1
  have h0 : DataW.trod enc Tryz.prog w base (fun _ => true) held m 34 [c0, c1, c2, c3] = some x0 := by simpa using h0
  have h1 : DataW.trod enc Tryz.prog w base (fun _ => true) held m 34 [c4, c5, c6, c7] = some x1 := by simpa using h1
  have hd : d = .agg [x0.1, x1.1] := by simpa using congrArg Prod.fst hx
  obtain ⟨r0, ⟨o0, p0, e0, t0, u0⟩, b0', _, i0, j0⟩ := opn_req' _ _ _ h0
  obtain ⟨r1, ⟨o1, p1, e1, t1, u1⟩, b1', _, i1, j1⟩ := opn_req' _ _ _ h1
  cases e0
  cases e1
  refine ⟨_, _, _, _, r0, r1, rfl, t0, u0, t1, u1, ?_, ⟨i0, j0⟩, i1, j1⟩
  rw [hd]
  simp only [Rows.uptoBulk, Rows.uptoBulkAll]
  omega
end
/-- What the walks want of a request. -/
theorem tot_of {r : PReq} {n : Nat} (h : bQ r ≤ n) (hn : n ≤ 1048576) : tot [r.2.2.1, r.2.2.2] ≤ 2000000 := by
  simp only [bQ, bT] at h
  simp only [tot]
  omega
theorem body_in {r0 r1 : PReq} {n : Nat} (h : bQ r0 + bQ r1 ≤ n) (hn : n ≤ 1048576) (w0 : (Lit.int .i64 r0.1).wf = true ∧ (Lit.int .i64 r0.2.1).wf = true) (w1 : (Lit.int .i64 r1.1).wf = true ∧ (Lit.int .i64 r1.2.1).wf = true) : body r0 = body r1 → r0 = r1 :=
  (body_inj (Nat.le_trans (tot_of (n := n) (by omega) hn) (by decide)) (Nat.le_trans (tot_of (n := n) (by omega) hn) (by decide)) (bounds_i64 w0.1) (bounds_i64 w0.2) (bounds_i64 w1.1) (bounds_i64 w1.2)).1
end Go.Proofs.YtgjepofinpmcpaaGreatDoor
end
