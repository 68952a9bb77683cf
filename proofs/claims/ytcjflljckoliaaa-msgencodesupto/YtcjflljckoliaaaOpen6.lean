/- A message that came in, opened; a request. -/
import Derived.Test.YtcjflljckoliaaaOpen5
namespace Go.Proofs.Ytcjflljckoliaaa
open Go.ChangeShapes Go.WideShapes Go.ChangeAt Go.RowKit Oct

theorem cells_ints : Try.prog.cellsOf 28 = 1 := by kernel_rfl
theorem cells_reqs : Try.prog.cellsOf 29 = 1 := by kernel_rfl
theorem cells_reps : Try.prog.cellsOf 30 = 1 := by kernel_rfl
theorem cells_msg : Try.prog.cellsOf 32 = 23 := by kernel_rfl
theorem open_agg {P : Program} {w : World} {b0 : Nat} {r : Reach} {t : TypeId} {fs : Array Field} {k : Nat} (ht : P.underlying t = some (.struct fs)) (hct : P.cellsOf t = k) {v : Value} (hv : Value.okWide P w r b0 t v) : ∃ cs : List Value, v = .agg cs.toArray ∧ cs.length = k := by
  simp only [Value.okWide, ht] at hv
  obtain ⟨cs, rfl, hsz, _⟩ := hv
  exact ⟨cs.toList, by simp, by simpa [hct] using hsz⟩

set_option maxRecDepth 10000 in
theorem open_msg {H : Type} {enc : TypeId × Value → H} {w : World} {base b0 : Nat} {r : Reach} {held : Bool} {v : Value} {d : DataW H} {p : List MemPlace} (hv : Value.okWide Try.prog w r b0 32 v) (h : DataW.Trod enc Try.prog w base (fun _ => true) held 32 v d p) :
    ∃ (m : PMsg) (s : SV), v = .agg (mc m s).toArray ∧ SOk Any w m s ∧ bM m ≤ Rows.uptoBulk d ∧ ((∀ n ∈ d.weights Try.prog 32, n ≤ reachBytes) → szM m) := by
  obtain ⟨cs, rfl, hl⟩ := open_agg Try.underlying32 cells_msg hv
  clear hv
  obtain ⟨fuel, hf⟩ := h
  obtain ⟨xs, n, rfl, hx, hl2, hxl, hf⟩ := DataW.trod_struct Try.underlying32 hf
  clear hl2
  have hxl : xs.length = 16 := hxl
  obtain ⟨c0, c1, c2, c3, c4, c5, c6, c7, c8, c9, c10, c11, c12, c13, c14, c15, c16, c17, c18, c19, c20, c21, c22, rfl⟩ := of23 hl
  obtain ⟨x0, x1, x2, x3, x4, x5, x6, x7, x8, x9, x10, x11, x12, x13, x14, x15, rfl⟩ := of16 hxl
  simp only [Value.cells] at hf
  have hd := congrArg Prod.fst hx
  simp only [List.map_cons, List.map_nil] at hd
  clear hx
  have h0 := fld hf 0 rfl rfl rfl cells_int (cs' := [c0]) rfl rfl
  have h1 := fld hf 1 rfl rfl rfl cells_bal (cs' := [c1, c2]) rfl rfl
  have h2 := fld hf 2 rfl rfl rfl cells_int (cs' := [c3]) rfl rfl
  have h3 := fld hf 3 rfl rfl rfl cells_int (cs' := [c4]) rfl rfl
  have h4 := fld hf 4 rfl rfl rfl cells_int (cs' := [c5]) rfl rfl
  have h5 := fld hf 5 rfl rfl rfl cells_int (cs' := [c6]) rfl rfl
  have h6 := fld hf 6 rfl rfl rfl cells_int (cs' := [c7]) rfl rfl
  have h7 := fld hf 7 rfl rfl rfl cells_req (cs' := [c8, c9, c10, c11]) rfl rfl
  have h8 := fld hf 8 rfl rfl rfl cells_req (cs' := [c12, c13, c14, c15]) rfl rfl
  have h9 := fld hf 9 rfl rfl rfl cells_text (cs' := [c16]) rfl rfl
  have h10 := fld hf 10 rfl rfl rfl cells_text (cs' := [c17]) rfl rfl
  have h11 := fld hf 11 rfl rfl rfl cells_votes (cs' := [c18]) rfl rfl
  have h12 := fld hf 12 rfl rfl rfl cells_votes (cs' := [c19]) rfl rfl
  have h13 := fld hf 13 rfl rfl rfl cells_ints (cs' := [c20]) rfl rfl
  have h14 := fld hf 14 rfl rfl rfl cells_reqs (cs' := [c21]) rfl rfl
  have h15 := fld hf 15 rfl rfl rfl cells_reps (cs' := [c22]) rfl rfl
  clear hf
  obtain ⟨y0, g0, (b0 : 1 ≤ _), _⟩ := opn_int _ _ _ h0
  cases g0
  obtain ⟨⟨ya1, yb1⟩, g1, (b1 : 3 ≤ _), _⟩ := opn_bal _ _ _ h1
  cases g1
  obtain ⟨y2, g2, (b2 : 1 ≤ _), _⟩ := opn_int _ _ _ h2
  cases g2
  obtain ⟨y3, g3, (b3 : 1 ≤ _), _⟩ := opn_int _ _ _ h3
  cases g3
  obtain ⟨y4, g4, (b4 : 1 ≤ _), _⟩ := opn_int _ _ _ h4
  cases g4
  obtain ⟨y5, g5, (b5 : 1 ≤ _), _⟩ := opn_int _ _ _ h5
  cases g5
  obtain ⟨y6, g6, (b6 : 1 ≤ _), _⟩ := opn_int _ _ _ h6
  cases g6
  obtain ⟨⟨ya7, yb7, yc7, yd7⟩, ⟨o7, q7, g7, r7, t7⟩, b7, s7⟩ := opn_req _ _ _ h7
  cases g7
  obtain ⟨⟨ya8, yb8, yc8, yd8⟩, ⟨o8, q8, g8, r8, t8⟩, b8, s8⟩ := opn_req _ _ _ h8
  cases g8
  obtain ⟨y9, ⟨v9, g9, r9⟩, b9, s9⟩ := opn_text _ _ _ h9
  cases g9
  obtain ⟨y10, ⟨v10, g10, r10⟩, b10, s10⟩ := opn_text _ _ _ h10
  cases g10
  obtain ⟨y11, ⟨v11, g11, r11⟩, b11, s11⟩ := opn_votes _ _ _ h11
  cases g11
  obtain ⟨y12, ⟨v12, g12, r12⟩, b12, s12⟩ := opn_votes _ _ _ h12
  cases g12
  obtain ⟨y13, ⟨v13, g13, r13⟩, b13, s13⟩ := opn_ints _ _ _ h13
  cases g13
  obtain ⟨y14, ⟨v14, g14, r14⟩, b14, s14⟩ := opn_reqs _ _ _ h14
  cases g14
  obtain ⟨y15, ⟨v15, g15, r15⟩, b15, s15⟩ := opn_reps _ _ _ h15
  cases g15
  refine ⟨⟨y0, (ya1, yb1), y2, y3, y4, y5, y6, (ya7, yb7, yc7, yd7), (ya8, yb8, yc8, yd8), y9, y10, y11, y12, y13, y14, y15⟩, ⟨c10, c11, c14, c15, c16, c17, c18, c19, c20, c21, c22⟩, rfl, ⟨r7, t7, r8, t8, r9, r10, r11, r12, r13, r14, r15⟩, ?_, fun hn => ?_⟩
  · rw [hd]
    simp only [bM, Rows.uptoBulk, Rows.uptoBulkAll]
    omega
  · rw [hd] at hn
    exact ⟨s7 (weights_fld Try.underlying32 hn 7 rfl rfl rfl), s8 (weights_fld Try.underlying32 hn 8 rfl rfl rfl), s9 (weights_fld Try.underlying32 hn 9 rfl rfl rfl), s10 (weights_fld Try.underlying32 hn 10 rfl rfl rfl), s11 (weights_fld Try.underlying32 hn 11 rfl rfl rfl), s12 (weights_fld Try.underlying32 hn 12 rfl rfl rfl), s13 (weights_fld Try.underlying32 hn 13 rfl rfl rfl), s14 (weights_fld Try.underlying32 hn 14 rfl rfl rfl), s15 (weights_fld Try.underlying32 hn 15 rfl rfl rfl)⟩
set_option maxRecDepth 10000 in
theorem open_req {H : Type} {enc : TypeId × Value → H} {w : World} {base b0 : Nat} {r : Reach} {held : Bool} {v : Value} {d : DataW H} {p : List MemPlace} (hv : Value.okWide Try.prog w r b0 26 v) (h : DataW.Trod enc Try.prog w base (fun _ => true) held 26 v d p) :
    ∃ (q : List Value) (x : PReq), v = .agg q.toArray ∧ RReq Any w q x ∧ bQ x ≤ Rows.uptoBulk d ∧ ((∀ n ∈ d.weights Try.prog 26, n ≤ reachBytes) → szQ x) ∧ (Lit.int .i64 x.1).wf = true ∧ (Lit.int .i64 x.2.1).wf = true := by
  obtain ⟨cs, rfl, hl⟩ := open_agg Try.underlying26 cells_req hv
  obtain ⟨fuel, hf⟩ := h
  obtain ⟨y, h1, h2, h3, h4, h5⟩ := opn_req' fuel _ _ hf
  exact ⟨cs, y, rfl, by simpa [Value.cells] using h1, h2, h3, h4, h5⟩
/-- What is said of the weights of all arguments holds of each. -/
theorem weights_arg {H : Type} {P : Program} {ts : List TypeId} {ds : List (DataW H)} (h : (DataW.weightsEach P ts ds).all (· ≤ reachBytes) = true) {j : Nat} {t : TypeId} {d : DataW H} (ht : ts[j]? = some t) (hd : ds[j]? = some d) : ∀ n ∈ d.weights P t, n ≤ reachBytes := fun n hn => by
  have := List.all_eq_true.1 h _ (DataW.weights_mem_each ht hd n hn)
  simpa using this
#print axioms open_msg
end Go.Proofs.Ytcjflljckoliaaa
