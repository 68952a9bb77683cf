/- PROVED HERE: at all arguments catenarylaw06.VoteSeals returns true and leaves its arguments as they were (the statement VoteSealsUptoCardSaid); under one condition: what comes in holds at most 1048576 values and letters; the table sha.constants is laid by the program text, the card ties it. -/
import Derived.Test.YtijmecplechhgaaGreatDoorJ13
import Derived.Test.YtijmecplechhgaaGreatDoorRows
import Derived.Test.YtijmecplechhgaaGreatDoorJ01
import Derived.Deep.DeepHandedRow
import Derived.Lib.LaidTab
import Derived.Test.YtijmecplechhgaaGreatDoorJ22
import Derived.Test.YtijmecplechhgaaGreatDoorCards
import Derived.Test.YtijmecplechhgaaGreatDoorTie
import Derived.JoinedCond
section
namespace Go.Proofs.YtijmecplechhgaaGreatDoor
open Go.ChangeShapes Go.WideShapes Go.ChangeAt Go.RowKit Oct

theorem cells_ints : Tryz.prog.cellsOf 28 = 1 := by kernel_rfl
theorem cells_reqs : Tryz.prog.cellsOf 29 = 1 := by kernel_rfl
theorem cells_reps : Tryz.prog.cellsOf 30 = 1 := by kernel_rfl
theorem cells_msg : Tryz.prog.cellsOf 32 = 23 := by kernel_rfl
theorem open_agg {P : Program} {w : World} {b0 : Nat} {r : Reach} {t : TypeId} {fs : Array Field} {k : Nat} (ht : P.underlying t = some (.struct fs)) (hct : P.cellsOf t = k) {v : Value} (hv : Value.okWide P w r b0 t v) : ∃ cs : List Value, v = .agg cs.toArray ∧ cs.length = k := by
  simp only [Value.okWide, ht] at hv
  obtain ⟨cs, rfl, hsz, _⟩ := hv
  exact ⟨cs.toList, by simp, by simpa [hct] using hsz⟩

set_option maxRecDepth 10000 in
theorem open_msg {H : Type} {enc : TypeId × Value → H} {w : World} {base b0 : Nat} {r : Reach} {held : Bool} {v : Value} {d : DataW H} {p : List MemPlace} (hv : Value.okWide Tryz.prog w r b0 32 v) (h : DataW.Trod enc Tryz.prog w base (fun _ => true) held 32 v d p) :
    ∃ (m : PMsg) (s : SV), v = .agg (mc m s).toArray ∧ SOk Any w m s ∧ bM m ≤ Rows.uptoBulk d ∧ ((∀ n ∈ d.weights Tryz.prog 32, n ≤ reachBytes) → szM m) := by
  obtain ⟨cs, rfl, hl⟩ := open_agg Tryz.underlying32 cells_msg hv
  clear hv
  obtain ⟨fuel, hf⟩ := h
  obtain ⟨xs, n, rfl, hx, hl2, hxl, hf⟩ := DataW.trod_struct Tryz.underlying32 hf
  clear hl2
  have hxl : xs.length = 16 := hxl
  obtain ⟨c0, c1, c2, c3, c4, c5, c6, c7, c8, c9, c10, c11, c12, c13, c14, c15, c16, c17, c18, c19, c20, c21, c22, rfl⟩ := of23 hl
  obtain ⟨x0, x1, x2, x3, x4, x5, x6, x7, x8, x9, x10, x11, x12, x13, x14, x15, rfl⟩ := of16 hxl
  simp only [Value.cells] at hf
  have hd := congrArg Prod.fst hx
  simp only [List.map_cons, List.map_nil] at hd
  clear hx
  have h0 := fld hf 0 rfl rfl rfl cells_int (cs' := [c0]) rfl rfl
  have h1 := fld hf 1 rfl rfl rfl cells_bal (cs' := [c1, c2]) rfl rfl
  have h2 := fld hf 2 rfl rfl rfl cells_int (cs' := [c3]) rfl rfl
  have h3 := fld hf 3 rfl rfl rfl cells_int (cs' := [c4]) rfl rfl
  have h4 := fld hf 4 rfl rfl rfl cells_int (cs' := [c5]) rfl rfl
  have h5 := fld hf 5 rfl rfl rfl cells_int (cs' := [c6]) rfl rfl
  have h6 := fld hf 6 rfl rfl rfl cells_int (cs' := [c7]) rfl rfl
  have h7 := fld hf 7 rfl rfl rfl cells_req (cs' := [c8, c9, c10, c11]) rfl rfl
  have h8 := fld hf 8 rfl rfl rfl cells_req (cs' := [c12, c13, c14, c15]) rfl rfl
  have h9 := fld hf 9 rfl rfl rfl cells_text (cs' := [c16]) rfl rfl
  have h10 := fld hf 10 rfl rfl rfl cells_text (cs' := [c17]) rfl rfl
  have h11 := fld hf 11 rfl rfl rfl cells_votes (cs' := [c18]) rfl rfl
  have h12 := fld hf 12 rfl rfl rfl cells_votes (cs' := [c19]) rfl rfl
  have h13 := fld hf 13 rfl rfl rfl cells_ints (cs' := [c20]) rfl rfl
  have h14 := fld hf 14 rfl rfl rfl cells_reqs (cs' := [c21]) rfl rfl
  have h15 := fld hf 15 rfl rfl rfl cells_reps (cs' := [c22]) rfl rfl
  clear hf
  obtain ⟨y0, g0, (b0 : 1 ≤ _), _⟩ := opn_int _ _ _ h0
  cases g0
  obtain ⟨⟨ya1, yb1⟩, g1, (b1 : 3 ≤ _), _⟩ := opn_bal _ _ _ h1
  cases g1
  obtain ⟨y2, g2, (b2 : 1 ≤ _), _⟩ := opn_int _ _ _ h2
  cases g2
  obtain ⟨y3, g3, (b3 : 1 ≤ _), _⟩ := opn_int _ _ _ h3
  cases g3
  obtain ⟨y4, g4, (b4 : 1 ≤ _), _⟩ := opn_int _ _ _ h4
  cases g4
  obtain ⟨y5, g5, (b5 : 1 ≤ _), _⟩ := opn_int _ _ _ h5
  cases g5
  obtain ⟨y6, g6, (b6 : 1 ≤ _), _⟩ := opn_int _ _ _ h6
  cases g6
  obtain ⟨⟨ya7, yb7, yc7, yd7⟩, ⟨o7, q7, g7, r7, t7⟩, b7, s7⟩ := opn_req _ _ _ h7
  cases g7
  obtain ⟨⟨ya8, yb8, yc8, yd8⟩, ⟨o8, q8, g8, r8, t8⟩, b8, s8⟩ := opn_req _ _ _ h8
  cases g8
  obtain ⟨y9, ⟨v9, g9, r9⟩, b9, s9⟩ := opn_text _ _ _ h9
  cases g9
  obtain ⟨y10, ⟨v10, g10, r10⟩, b10, s10⟩ := opn_text _ _ _ h10
  cases g10
  obtain ⟨y11, ⟨v11, g11, r11⟩, b11, s11⟩ := opn_votes _ _ _ h11
  cases g11
  obtain ⟨y12, ⟨v12, g12, r12⟩, b12, s12⟩ := opn_votes _ _ _ h12
  cases g12
  obtain ⟨y13, ⟨v13, g13, r13⟩, b13, s13⟩ := opn_ints _ _ _ h13
  cases g13
  obtain ⟨y14, ⟨v14, g14, r14⟩, b14, s14⟩ := opn_reqs _ _ _ h14
  cases g14
  obtain ⟨y15, ⟨v15, g15, r15⟩, b15, s15⟩ := opn_reps _ _ _ h15
  cases g15
  refine ⟨⟨y0, (ya1, yb1), y2, y3, y4, y5, y6, (ya7, yb7, yc7, yd7), (ya8, yb8, yc8, yd8), y9, y10, y11, y12, y13, y14, y15⟩, ⟨c10, c11, c14, c15, c16, c17, c18, c19, c20, c21, c22⟩, rfl, ⟨r7, t7, r8, t8, r9, r10, r11, r12, r13, r14, r15⟩, ?_, fun hn => ?_⟩
  · rw [hd]
    simp only [bM, Rows.uptoBulk, Rows.uptoBulkAll]
    omega
  · rw [hd] at hn
    exact ⟨s7 (weights_fld Tryz.underlying32 hn 7 rfl rfl rfl), s8 (weights_fld Tryz.underlying32 hn 8 rfl rfl rfl), s9 (weights_fld Tryz.underlying32 hn 9 rfl rfl rfl), s10 (weights_fld Tryz.underlying32 hn 10 rfl rfl rfl), s11 (weights_fld Tryz.underlying32 hn 11 rfl rfl rfl), s12 (weights_fld Tryz.underlying32 hn 12 rfl rfl rfl), s13 (weights_fld Tryz.underlying32 hn 13 rfl rfl rfl), s14 (weights_fld Tryz.underlying32 hn 14 rfl rfl rfl), s15 (weights_fld Tryz.underlying32 hn 15 rfl rfl rfl)⟩
set_option maxRecDepth 10000 in
theorem open_req {H : Type} {enc : TypeId × Value → H} {w : World} {base b0 : Nat} {r : Reach} {held : Bool} {v : Value} {d : DataW H} {p : List MemPlace} (hv : Value.okWide Tryz.prog w r b0 26 v) (h : DataW.Trod enc Tryz.prog w base (fun _ => true) held 26 v d p) :
    ∃ (q : List Value) (x : PReq), v = .agg q.toArray ∧ RReq Any w q x ∧ bQ x ≤ Rows.uptoBulk d ∧ ((∀ n ∈ d.weights Tryz.prog 26, n ≤ reachBytes) → szQ x) ∧ (Lit.int .i64 x.1).wf = true ∧ (Lit.int .i64 x.2.1).wf = true := by
  obtain ⟨cs, rfl, hl⟩ := open_agg Tryz.underlying26 cells_req hv
  obtain ⟨fuel, hf⟩ := h
  obtain ⟨y, h1, h2, h3, h4, h5⟩ := opn_req' fuel _ _ hf
  exact ⟨cs, y, rfl, by simpa [Value.cells] using h1, h2, h3, h4, h5⟩
/-- What is said of the weights of all arguments holds of each. -/
theorem weights_arg {H : Type} {P : Program} {ts : List TypeId} {ds : List (DataW H)} (h : (DataW.weightsEach P ts ds).all (· ≤ reachBytes) = true) {j : Nat} {t : TypeId} {d : DataW H} (ht : ts[j]? = some t) (hd : ds[j]? = some d) : ∀ n ∈ d.weights P t, n ≤ reachBytes := fun n hn => by
  have := List.all_eq_true.1 h _ (DataW.weights_mem_each ht hd n hn)
  simpa using this
#print axioms open_msg
end Go.Proofs.YtijmecplechhgaaGreatDoor
end

section
namespace Go.Proofs.YtijmecplechhgaaGreatDoor
open Go.ChangeShapes Go.WideShapes Go.ChangeAt Go.RowKit Sha

theorem gTab : Tryz.prog.globalNamed "catenary/sha.constants" = some 0 := by kernel_rfl
theorem gTabType : (Tryz.prog.globals[0]?).map (·.type) = some 132 := by kernel_rfl
theorem cells45 : Tryz.prog.cellsOf 132 = 64 := by kernel_rfl
theorem cells34 : Tryz.prog.cellsOf 109 = 1 := by kernel_rfl
def kints : List Int := [1116352408, 1899447441, 3049323471, 3921009573, 961987163, 1508970993, 2453635748, 2870763221, 3624381080, 310598401, 607225278, 1426881987, 1925078388, 2162078206, 2614888103, 3248222580, 3835390401, 4022224774, 264347078, 604807628, 770255983, 1249150122, 1555081692, 1996064986, 2554220882, 2821834349, 2952996808, 3210313671, 3336571891, 3584528711, 113926993, 338241895, 666307205, 773529912, 1294757372, 1396182291, 1695183700, 1986661051, 2177026350, 2456956037, 2730485921, 2820302411, 3259730800, 3345764771, 3516065817, 3600352804, 4094571909, 275423344, 430227734, 506948616, 659060556, 883997877, 958139571, 1322822218, 1537002063, 1747873779, 1955562222, 2024104815, 2227730452, 2361852424, 2428436474, 2756734187, 3204031479, 3329325298]
theorem kints_at : ∀ t, t < 64 → kints.getD t 0 = wi (kk.getD t 0) := by decide +kernel
theorem tab_of {W : World} (h : laidMetH Tryz.prog [("catenary/sha.constants", Rows.laid_catenary_sha_constants)] W) : Tab W := by
  have t : Lib.TabIs Tryz.prog W "catenary/sha.constants" .u32 kints := Lib.tabIs_of_head (rest := []) gTab gTabType Tryz.underlying132 Tryz.underlying109 cells34 cells45 h
  intro j hj
  rw [t.cell gTab j hj, kints_at j hj]
/-- A world for the witness: the settled one, the table (block 0) holding what its initialiser lays. -/
noncomputable def laidWorld (os : Os) : World :=
  { World.holding Tryz.prog os ⟨#[], #[], []⟩ with heap := (World.holding Tryz.prog os ⟨#[], #[], []⟩).heap.modify 0 fun
      | .cells _ t frozen => .cells (kints.map (Value.int .u32)).toArray t frozen
      | o => o }
end Go.Proofs.YtijmecplechhgaaGreatDoor
end

section
namespace Go.Proofs.YtijmecplechhgaaGreatDoor
open Go.ChangeShapes Go.WideShapes Go.ChangeAt Go.RowKit

theorem voteSeals_own : ownKnob Tryz.prog.godebug = none := by kernel_rfl
theorem voteSeals_laidOut : laidOutB Tryz.prog = true := by kernel_rfl
theorem voteSeals_cells5 : Tryz.prog.cellsOf 5 = 1 := by kernel_rfl

set_option maxRecDepth 100000 in
theorem voteSeals_contract (H : Type) (enc : TypeId × Value → H) (W : World) (base : Nat) (args : Array Value) (ds gs : List (DataW H)) (before : List MemPlace)
    (hval : ∀ (j : Nat) t v, Tryz.f3.params[j]? = some t → args[j]? = some v → Value.okWide Tryz.prog W .any base t v)
    (hW : DataW.Whole enc Tryz.prog Tryz.f3.params.toList Rows.voteSealsSpec.vars false W args.toList ds gs before) (hk : Rows.uptoSmall H (ds ++ gs) = true)
    (hT : Tab W) :
    Calls Tryz.prog 3 args W fun e W' => ∃ v, e = .returned v ∧ Rows.voteSealsSpec.post enc Tryz.prog Tryz.f3 false true false false W args v W' := by
  have hW' := hW
  obtain ⟨p, q, hA0, hV, rfl, hfz, hnd⟩ := hW
  have hA : DataW.TrodAll enc Tryz.prog W 0 (fun _ => true) true Tryz.f3.params.toList args.toList ds p := hA0
  rw [Tryz.params3] at hA hval
  obtain ⟨v0, vs0, d0, ds0, p0, q0, hargs, rfl, rfl, h0, r0⟩ := trodAll_cons hA
  obtain ⟨v1, vs1, d1, ds1, p1, q1, rfl, rfl, rfl, h1, r1⟩ := trodAll_cons r0
  obtain ⟨rfl, rfl, rfl⟩ := trodAll_nil r1
  obtain rfl : args = #[v0, v1] := by cases args; simp_all
  obtain ⟨rfl, rfl⟩ := trodVars_none hV
  simp only [List.append_nil] at hk
  have lt0 : ∀ x ∈ p0, x.block < W.heap.size := by obtain ⟨m, hm⟩ := h0; exact DataW.trod_lt m _ _ _ hm
  obtain ⟨m0, s0, rfl, hrd0, hb0, hz0⟩ := open_msg (hval 0 32 v0 rfl rfl) h0
  have hlen0 := Nat.le_trans hb0 (Nat.le_trans (bulk_part (by simp)) (bulk_all hk))
  clear hb0 hz0
  obtain ⟨a1, rfl, rfl, rfl, w1⟩ := open_int Tryz.underlying3 (hval 1 3 v1 rfl rfl) h1
  clear hA0
  refine (seals_any W m0 s0 a1 hrd0 hlen0 hT).mono fun e W' ⟨he, bel⟩ => ?_
  subst he
  exact ⟨_, rfl, _, _, _, [], _, [], hW', trodAll_mk1 (shut_bool Tryz.underlying4 _), (trodAll_cons_mk (Below.trod voteSeals_laidOut (by kernel_rfl) (of_decide_eq_true (by kernel_rfl)) h0 bel lt0) (trodAll_cons_mk (shut_int Tryz.underlying3 w1) trodAll_mk0)), rfl, bel.frame _, fun h => by cases h⟩

theorem voteSeals_met (os : Os) : laidMet Tryz.prog Rows.voteSealsUptoRow.laid ((laidWorld os).forCall (fun _ _ => 0) ⟨#[], #[.agg #[.int .i64 0, .int .i64 0, .int .i64 0, .int .i64 0, .int .i64 0, .int .i64 0, .int .i64 0, .int .i64 0, .int .i64 0, .int .i64 0, .slice none 0 0, .slice none 0 0, .int .i64 0, .int .i64 0, .slice none 0 0, .slice none 0 0, .slice none 0 0, .slice none 0 0, .slice none 0 0, .slice none 0 0, .slice none 0 0, .slice none 0 0, .slice none 0 0], .int .i64 0], []⟩).memory :=
  laidMet_of_run' 8 (by kernel_rfl) (by kernel_rfl)
theorem voteSeals_reads (os : Os) {H : Type} (enc : TypeId × Value → H) : ∃ places, DataW.whole enc Tryz.prog ((laidWorld os).forCall (fun _ _ => 0) ⟨#[], #[.agg #[.int .i64 0, .int .i64 0, .int .i64 0, .int .i64 0, .int .i64 0, .int .i64 0, .int .i64 0, .int .i64 0, .int .i64 0, .int .i64 0, .slice none 0 0, .slice none 0 0, .int .i64 0, .int .i64 0, .slice none 0 0, .slice none 0 0, .slice none 0 0, .slice none 0 0, .slice none 0 0, .slice none 0 0, .slice none 0 0, .slice none 0 0, .slice none 0 0], .int .i64 0], []⟩).memory Tryz.f3.params.toList Rows.voteSealsSpec.vars false (#[.agg #[.int .i64 0, .int .i64 0, .int .i64 0, .int .i64 0, .int .i64 0, .int .i64 0, .int .i64 0, .int .i64 0, .int .i64 0, .int .i64 0, .slice none 0 0, .slice none 0 0, .int .i64 0, .int .i64 0, .slice none 0 0, .slice none 0 0, .slice none 0 0, .slice none 0 0, .slice none 0 0, .slice none 0 0, .slice none 0 0, .slice none 0 0, .slice none 0 0], .int .i64 0] : Array Value).toList 8 = some ([.agg [.lit (.int .i64 0), .agg [.lit (.int .i64 0), .lit (.int .i64 0)], .lit (.int .i64 0), .lit (.int .i64 0), .lit (.int .i64 0), .lit (.int .i64 0), .lit (.int .i64 0), .agg [.lit (.int .i64 0), .lit (.int .i64 0), .nil, .nil], .agg [.lit (.int .i64 0), .lit (.int .i64 0), .nil, .nil], .nil, .nil, .nil, .nil, .nil, .nil, .nil], .lit (.int .i64 0)], [], places) :=
  ⟨[], by kernel_rfl⟩
set_option maxRecDepth 100000 in
theorem voteSeals_lifted (os : Os) (started : os.Started) (H : Type) (enc : TypeId × Value → H) (F : Stop.Interp) :
    ReturnsInHanded {} Tryz.checked os 3 .any ((Rows.OpenSpec.upto Rows.voteSealsSpec).preRow enc Tryz.prog Tryz.f3 Rows.voteSealsUptoRow.domain false Rows.voteSealsUptoRow.laid) (((Rows.OpenSpec.upto Rows.voteSealsSpec).at F).post enc Tryz.prog Tryz.f3 false true false false) := by
  obtain ⟨places, hx⟩ := voteSeals_reads os enc
  refine returnsInHanded_of_row (C := Tryz.checked) (s := (Rows.OpenSpec.upto Rows.voteSealsSpec)) voteSeals_own started (by kernel_rfl) Tryz.func3
    (witness_row_at (enc := enc) (C := Tryz.checked) false (laidWorld os) #[.agg #[.int .i64 0, .int .i64 0, .int .i64 0, .int .i64 0, .int .i64 0, .int .i64 0, .int .i64 0, .int .i64 0, .int .i64 0, .int .i64 0, .slice none 0 0, .slice none 0 0, .int .i64 0, .int .i64 0, .slice none 0 0, .slice none 0 0, .slice none 0 0, .slice none 0 0, .slice none 0 0, .slice none 0 0, .slice none 0 0, .slice none 0 0, .slice none 0 0], .int .i64 0] rfl (by kernel_rfl) (by kernel_rfl) (by kernel_rfl)
      (OpenSpec.preRow_of_cond 8 hx (by kernel_rfl) (fun k hk => by cases hk; kernel_rfl) (by kernel_rfl) (voteSeals_met os))) ?_
  intro W base args ds gs before hval hW _ hcond hsz hL _ _
  exact voteSeals_contract H enc W base args ds gs before hval hW (hcond _ rfl) (tab_of hL)

theorem voteSeals_said : Rows.VoteSealsUptoSaid :=
  OpenClaim.holds_of_cond 3 Tryz.f3 rfl rfl rfl rfl rfl rfl rfl ⟨rfl, rfl, rfl, rfl, rfl⟩ rfl rfl rfl rfl rfl (by kernel_rfl) Tryz.func3 (by kernel_rfl)
    (of_decide_eq_true (by kernel_rfl)) (by unfold Func.isWrapper; first | (rw [if_pos (by decide +kernel)]; kernel_rfl) | (rw [if_neg (by decide +kernel)]; exact ⟨rfl, rfl⟩))
    (fun os started H enc _ F => by rw [OpenClaim.pre_eq_preRow]; exact voteSeals_lifted os started H enc F)
theorem voteSeals_plain (f : FuncId) (fn : Func) (hf : Tryz.pinned.checked.prog.funcNamed "catenary/catenarylaw06.VoteSeals" = some f) (hfn : Tryz.pinned.checked.prog.funcs[f]? = some fn) :
    true = Tryz.pinned.checked.prog.looks [] ∧ ∀ (j : Nat) t, fn.params[j]? = some t → Tryz.pinned.checked.prog.wantsStandIn t = false := by
  obtain rfl : f = 3 := Option.some.inj ((show Tryz.prog.funcNamed "catenary/catenarylaw06.VoteSeals" = some 3 by kernel_rfl).symm.trans hf) |>.symm
  obtain rfl : fn = Tryz.f3 := (Option.some.inj (Tryz.func3.symm.trans hfn)).symm
  refine ⟨by kernel_rfl, fun j t ht => ?_⟩
  rw [Tryz.params3] at ht
  have hm := Array.mem_of_getElem? ht
  simp only [List.mem_toArray, List.mem_cons, List.not_mem_nil, or_false] at hm
  rcases hm with rfl | rfl
  · exact (show Tryz.prog.wantsStandIn 32 = false by kernel_rfl)
  · exact (show Tryz.prog.wantsStandIn 3 = false by kernel_rfl)
theorem voteSeals_proved : Rows.VoteSealsUptoCardSaid :=
  Claim7.holds_tied_plain_at .later [] _ _ _ _ voteSeals_said (fun _ h => by cases h) (by kernel_rfl) (fun _ h => by cases h) voteSealsUpto_row_tie rfl ⟨rfl, rfl⟩ (by kernel_rfl) rfl voteSeals_plain (by kernel_rfl)
#print axioms voteSeals_proved
end Go.Proofs.YtijmecplechhgaaGreatDoor
end
