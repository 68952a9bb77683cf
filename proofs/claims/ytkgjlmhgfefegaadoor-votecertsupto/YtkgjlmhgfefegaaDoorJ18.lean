/- PROVED HERE: at all arguments catenarylaw06.VoteCerts returns true and leaves its arguments as they were (the statement VoteCertsUptoCardSaid); under one condition: what comes in holds at most 1048576 values and letters; the table sha.constants is laid by the program text, the card ties it. -/
import Derived.Test.YtkgjlmhgfefegaaDoorJ17
import Derived.Test.YtkgjlmhgfefegaaDoorRows
import Derived.Test.YtkgjlmhgfefegaaDoorV5
import Derived.Deep.DeepHandedRow
import Derived.Lib.LaidTab
import Derived.Test.YtkgjlmhgfefegaaDoorCards
import Derived.Test.YtkgjlmhgfefegaaDoorTie
import Derived.JoinedCond
section
namespace Go.Proofs.YtkgjlmhgfefegaaDoor
open Go.ChangeShapes Go.WideShapes Go.ChangeAt Go.RowKit Oct

theorem open_aggV {P : Program} {w : World} {b0 : Nat} {r : Reach} {t : TypeId} {fs : Array Field} {k : Nat} (ht : P.underlying t = some (.struct fs)) (hct : P.cellsOf t = k) {v : Value} (hv : Value.okWide P w r b0 t v) : ∃ cs : List Value, v = .agg cs.toArray ∧ cs.length = k := by
  simp only [Value.okWide, ht] at hv
  obtain ⟨cs, rfl, hsz, _⟩ := hv
  exact ⟨cs.toList, by simp, by simpa [hct] using hsz⟩
theorem cells_vote : Tryd.prog.cellsOf 35 = 2 := by kernel_rfl
theorem open_vote {H : Type} {enc : TypeId × Value → H} {w : World} {base b0 : Nat} {r : Reach} {held : Bool} {v : Value} {d : DataW H} {p : List MemPlace} (hv : Value.okWide Tryd.prog w r b0 35 v) (h : DataW.Trod enc Tryd.prog w base (fun _ => true) held 35 v d p) :
    ∃ (i : Int) (gv : Value) (g : List Int), v = .agg #[.int .i64 i, gv] ∧ Rd w gv g ∧ 2 + bT g ≤ Rows.uptoBulk d := by
  obtain ⟨cs, rfl, hl⟩ := open_aggV Tryd.underlying35 cells_vote hv
  obtain ⟨fuel, hf⟩ := h
  obtain ⟨y, h1, h2, h3⟩ := opn_vote fuel _ _ hf
  obtain ⟨s, e, hs⟩ := h1
  simp only [Value.cells] at e
  exact ⟨y.1, s, y.2, by rw [show cs = [.int .i64 y.1, s] from e], hs.1, h2⟩
theorem open_votes {H : Type} {enc : TypeId × Value → H} {w : World} {base : Nat} {held : Bool} {v : Value} {d : DataW H} {p : List MemPlace} (hone : v.cells.toList = [v]) (h : DataW.Trod enc Tryd.prog w base (fun _ => true) held 27 v d p) :
    ∃ ys : List PVote, RL RVote 2 Any w v ys ∧ bL bV ys ≤ Rows.uptoBulk d ∧ ((∀ n ∈ d.weights Tryd.prog 27, n ≤ reachBytes) → szL 32 szV ys) := by
  obtain ⟨fuel, hf⟩ := h
  obtain ⟨ys, ⟨u, e, h1⟩, h2, h3⟩ := opn_votes fuel _ _ hf
  rw [hone] at e
  cases e
  exact ⟨ys, h1, h2, h3⟩

theorem weightsV_arg {H : Type} {P : Program} {ts : List TypeId} {ds : List (DataW H)} (h : (DataW.weightsEach P ts ds).all (· ≤ reachBytes) = true) {j : Nat} {t : TypeId} {d : DataW H} (ht : ts[j]? = some t) (hd : ds[j]? = some d) : ∀ n ∈ d.weights P t, n ≤ reachBytes := fun n hn => by
  have := List.all_eq_true.1 h _ (DataW.weights_mem_each ht hd n hn)
  simpa using this
theorem cells_lbal : Tryd.prog.cellsOf 26 = 5 := by kernel_rfl
theorem of5 {α : Type} {l : List α} (h : l.length = 5) : ∃ c0 c1 c2 c3 c4, l = [c0, c1, c2, c3, c4] := by match l, h with | [c0, c1, c2, c3, c4], _ => exact ⟨c0, c1, c2, c3, c4, rfl⟩
theorem open_lball {H : Type} {enc : TypeId × Value → H} {w : World} {base b0 : Nat} {r : Reach} {held : Bool} {v : Value} {d : DataW H} {p : List MemPlace} (hv : Value.okWide Tryd.prog w r b0 26 v) (h : DataW.Trod enc Tryd.prog w base (fun _ => true) held 26 v d p) :
    ∃ (k x y s : Int) (bv : Value) (l : List Int), v = .agg #[.int .i64 k, .int .i64 x, .int .i64 y, .int .i64 s, bv] ∧ Rd w bv l ∧ bT l ≤ Rows.uptoBulk d ∧ ((Lit.int .i64 k).wf = true ∧ (Lit.int .i64 x).wf = true ∧ (Lit.int .i64 y).wf = true ∧ (Lit.int .i64 s).wf = true) := by
  obtain ⟨cs, rfl, hl⟩ := open_aggV Tryd.underlying26 cells_lbal hv
  clear hv
  obtain ⟨fuel, hf⟩ := h
  obtain ⟨xs, n, rfl, hx, hl2, hxl, hf⟩ := DataW.trod_struct Tryd.underlying26 hf
  clear hl2
  have hxl : xs.length = 4 := hxl
  obtain ⟨c0, c1, c2, c3, c4, rfl⟩ := of5 hl
  obtain ⟨x0, x1, x2, x3, rfl⟩ := of4 hxl
  simp only [Value.cells] at hf
  have hd := congrArg Prod.fst hx
  simp only [List.map_cons, List.map_nil] at hd
  clear hx
  have h0 := fld hf 0 rfl rfl rfl cells_int (cs' := [c0]) rfl rfl
  have h1 := fld hf 1 rfl rfl rfl cells_bal (cs' := [c1, c2]) rfl rfl
  have h2 := fld hf 2 rfl rfl rfl cells_int (cs' := [c3]) rfl rfl
  have h3 := fld hf 3 rfl rfl rfl cells_text (cs' := [c4]) rfl rfl
  obtain ⟨zs, n1, e1, g1, hl1, hxl1, hf1⟩ := DataW.trod_struct Tryd.underlying23 h1
  have hxl1 : zs.length = 2 := hxl1
  obtain ⟨z0, z1, rfl⟩ := of2 hxl1
  have k0 := fld hf1 0 rfl rfl rfl cells_int (cs' := [c1]) rfl rfl
  have k1 := fld hf1 1 rfl rfl rfl cells_int (cs' := [c2]) rfl rfl
  obtain ⟨y0, q0, _, r0⟩ := DataW.trod_int Tryd.underlying3 h0
  obtain ⟨y1, q1, _, r1⟩ := DataW.trod_int Tryd.underlying3 k0
  obtain ⟨y2, q2, _, r2⟩ := DataW.trod_int Tryd.underlying3 k1
  obtain ⟨y3, q3, _, r3⟩ := DataW.trod_int Tryd.underlying3 h2
  obtain ⟨y4, ⟨v4, q4, r4⟩, b4, s4⟩ := opn_text _ _ _ h3
  cases q0
  cases q1
  cases q2
  cases q3
  cases q4
  refine ⟨y0, y1, y2, y3, _, y4, rfl, r4.1, ?_, r0, r1, r2, r3⟩
  rw [hd]
  simp only [Rows.uptoBulk, Rows.uptoBulkAll]
  omega
end Go.Proofs.YtkgjlmhgfefegaaDoor
end

section
namespace Go.Proofs.YtkgjlmhgfefegaaDoor
open Go.RowKit Oct
theorem bS_votes : ∀ {ys : List PVote}, ys.length ≤ bS bV ys ∧ ∀ y ∈ ys, bV y ≤ bS bV ys
  | [] => ⟨Nat.zero_le _, fun y hy => by cases hy⟩
  | x :: ys => by
    obtain ⟨h1, h2⟩ := bS_votes (ys := ys)
    have hx : 1 ≤ bV x := by unfold bV; omega
    refine ⟨by simp only [bS, List.length_cons]; omega, fun y hy => ?_⟩
    rcases List.mem_cons.1 hy with rfl | hy
    · simp only [bS]; omega
    · have := h2 y hy
      simp only [bS]; omega
theorem szL_votes {ys : List PVote} (h : bL bV ys ≤ 1048576) : szL 32 szV ys := by
  obtain ⟨h1, h2⟩ := bS_votes (ys := ys)
  unfold bL at h
  refine ⟨by omega, fun y hy => ?_⟩
  have h3 := h2 y hy
  have h4 : bV y = 2 + (y.2.length + 1) := rfl
  unfold szV szT
  omega
end Go.Proofs.YtkgjlmhgfefegaaDoor
end

section
namespace Go.Proofs.YtkgjlmhgfefegaaDoor
open Go.ChangeShapes Go.WideShapes Go.ChangeAt Go.RowKit Sha

theorem gTab : Tryd.prog.globalNamed "catenary/sha.constants" = some 0 := by kernel_rfl
theorem gTabType : (Tryd.prog.globals[0]?).map (·.type) = some 87 := by kernel_rfl
theorem cells45 : Tryd.prog.cellsOf 87 = 64 := by kernel_rfl
theorem cells34 : Tryd.prog.cellsOf 71 = 1 := by kernel_rfl
def kints : List Int := [1116352408, 1899447441, 3049323471, 3921009573, 961987163, 1508970993, 2453635748, 2870763221, 3624381080, 310598401, 607225278, 1426881987, 1925078388, 2162078206, 2614888103, 3248222580, 3835390401, 4022224774, 264347078, 604807628, 770255983, 1249150122, 1555081692, 1996064986, 2554220882, 2821834349, 2952996808, 3210313671, 3336571891, 3584528711, 113926993, 338241895, 666307205, 773529912, 1294757372, 1396182291, 1695183700, 1986661051, 2177026350, 2456956037, 2730485921, 2820302411, 3259730800, 3345764771, 3516065817, 3600352804, 4094571909, 275423344, 430227734, 506948616, 659060556, 883997877, 958139571, 1322822218, 1537002063, 1747873779, 1955562222, 2024104815, 2227730452, 2361852424, 2428436474, 2756734187, 3204031479, 3329325298]
theorem kints_at : ∀ t, t < 64 → kints.getD t 0 = wi (kk.getD t 0) := by decide +kernel
theorem tab_of {W : World} (h : laidMetH Tryd.prog [("catenary/sha.constants", Rows.laid_catenary_sha_constants)] W) : Tab W := by
  have t : Lib.TabIs Tryd.prog W "catenary/sha.constants" .u32 kints := Lib.tabIs_of_head (rest := []) gTab gTabType Tryd.underlying87 Tryd.underlying71 cells34 cells45 h
  intro j hj
  rw [t.cell gTab j hj, kints_at j hj]
/-- A world for the witness: the settled one, the table (block 0) holding what its initialiser lays. -/
noncomputable def laidWorld (os : Os) : World :=
  { World.holding Tryd.prog os ⟨#[], #[], []⟩ with heap := (World.holding Tryd.prog os ⟨#[], #[], []⟩).heap.modify 0 fun
      | .cells _ t frozen => .cells (kints.map (Value.int .u32)).toArray t frozen
      | o => o }
end Go.Proofs.YtkgjlmhgfefegaaDoor
end

section
namespace Go.Proofs.YtkgjlmhgfefegaaDoor
open Go.ChangeShapes Go.WideShapes Go.ChangeAt Go.RowKit

theorem voteCerts_own : ownKnob Tryd.prog.godebug = none := by kernel_rfl
theorem voteCerts_laidOut : laidOutB Tryd.prog = true := by kernel_rfl
theorem voteCerts_cells5 : Tryd.prog.cellsOf 5 = 1 := by kernel_rfl

theorem voteCerts_contract (H : Type) (enc : TypeId × Value → H) (W : World) (base : Nat) (args : Array Value) (ds gs : List (DataW H)) (before : List MemPlace)
    (hval : ∀ (j : Nat) t v, Tryd.f3.params[j]? = some t → args[j]? = some v → Value.okWide Tryd.prog W .any base t v)
    (hW : DataW.Whole enc Tryd.prog Tryd.f3.params.toList Rows.voteCertsSpec.vars false W args.toList ds gs before) (hk : Rows.uptoSmall H (ds ++ gs) = true)
    (hT : Tab W) :
    Calls Tryd.prog 3 args W fun e W' => ∃ v, e = .returned v ∧ Rows.voteCertsSpec.post enc Tryd.prog Tryd.f3 false true false false W args v W' := by
  have hW' := hW
  obtain ⟨p, q, hA0, hV, rfl, hfz, hnd⟩ := hW
  have hA : DataW.TrodAll enc Tryd.prog W 0 (fun _ => true) true Tryd.f3.params.toList args.toList ds p := hA0
  rw [Tryd.params3] at hA hval
  obtain ⟨v0, vs0, d0, ds0, p0, q0, hargs, rfl, rfl, h0, r0⟩ := trodAll_cons hA
  obtain ⟨v1, vs1, d1, ds1, p1, q1, rfl, rfl, rfl, h1, r1⟩ := trodAll_cons r0
  obtain ⟨v2, vs2, d2, ds2, p2, q2, rfl, rfl, rfl, h2, r2⟩ := trodAll_cons r1
  obtain ⟨rfl, rfl, rfl⟩ := trodAll_nil r2
  obtain rfl : args = #[v0, v1, v2] := by cases args; simp_all
  obtain ⟨rfl, rfl⟩ := trodVars_none hV
  simp only [List.append_nil] at hk
  have lt0 : ∀ x ∈ p0, x.block < W.heap.size := by obtain ⟨m, hm⟩ := h0; exact DataW.trod_lt m _ _ _ hm
  obtain ⟨k0, x0, y0, s0, bv0, l0, rfl, hrd0, hb0, hr0⟩ := open_lball (hval 0 26 v0 rfl rfl) h0
  have hlen0 : l0.length ≤ 1048576 := by have := Nat.le_trans hb0 (Nat.le_trans (bulk_part (by simp)) (bulk_all hk)); unfold bT at this; omega
  clear hb0
  obtain ⟨a1, len1, cap1, rfl⟩ := okWide_slice Tryd.underlying27 (hval 1 27 v1 rfl rfl)
  have lt1 : ∀ x ∈ p1, x.block < W.heap.size := by obtain ⟨m, hm⟩ := h1; exact DataW.trod_lt m _ _ _ hm
  obtain ⟨ys1, hrd1, hb1, hz1⟩ := open_votes rfl h1
  have hlen1 : bL bV ys1 ≤ 1048576 := Nat.le_trans hb1 (Nat.le_trans (bulk_part (by simp)) (bulk_all hk))
  obtain ⟨a2, rfl, rfl, rfl, w2⟩ := open_int Tryd.underlying3 (hval 2 3 v2 rfl rfl) h2
  clear hA0
  refine (certs_any W k0 x0 y0 s0 bv0 l0 _ ys1 a2 hrd0 hrd1 hlen0 (szL_votes hlen1) hT).mono fun e W' ⟨he, bel⟩ => ?_
  subst he
  exact ⟨_, rfl, _, _, _, [], _, [], hW', trodAll_mk1 (shut_bool Tryd.underlying4 _), (trodAll_cons_mk (Below.trod voteCerts_laidOut (by kernel_rfl) (of_decide_eq_true (by kernel_rfl)) h0 bel lt0) (trodAll_cons_mk (Below.trod voteCerts_laidOut (by kernel_rfl) (of_decide_eq_true (by kernel_rfl)) h1 bel lt1) (trodAll_cons_mk (shut_int Tryd.underlying3 w2) trodAll_mk0))), rfl, bel.frame _, fun h => by cases h⟩

theorem voteCerts_met (os : Os) : laidMet Tryd.prog Rows.voteCertsUptoRow.laid ((laidWorld os).forCall (fun _ _ => 0) ⟨#[], #[.agg #[.int .i64 0, .int .i64 0, .int .i64 0, .int .i64 0, .slice none 0 0], .slice none 0 0, .int .i64 0], []⟩).memory :=
  laidMet_of_run' 8 (by kernel_rfl) (by kernel_rfl)
theorem voteCerts_reads (os : Os) {H : Type} (enc : TypeId × Value → H) : ∃ places, DataW.whole enc Tryd.prog ((laidWorld os).forCall (fun _ _ => 0) ⟨#[], #[.agg #[.int .i64 0, .int .i64 0, .int .i64 0, .int .i64 0, .slice none 0 0], .slice none 0 0, .int .i64 0], []⟩).memory Tryd.f3.params.toList Rows.voteCertsSpec.vars false (#[.agg #[.int .i64 0, .int .i64 0, .int .i64 0, .int .i64 0, .slice none 0 0], .slice none 0 0, .int .i64 0] : Array Value).toList 8 = some ([.agg [.lit (.int .i64 0), .agg [.lit (.int .i64 0), .lit (.int .i64 0)], .lit (.int .i64 0), .nil], .nil, .lit (.int .i64 0)], [], places) :=
  ⟨[], by kernel_rfl⟩
set_option maxRecDepth 100000 in
theorem voteCerts_lifted (os : Os) (started : os.Started) (H : Type) (enc : TypeId × Value → H) (F : Stop.Interp) :
    ReturnsInHanded {} Tryd.checked os 3 .any ((Rows.OpenSpec.upto Rows.voteCertsSpec).preRow enc Tryd.prog Tryd.f3 Rows.voteCertsUptoRow.domain false Rows.voteCertsUptoRow.laid) (((Rows.OpenSpec.upto Rows.voteCertsSpec).at F).post enc Tryd.prog Tryd.f3 false true false false) := by
  obtain ⟨places, hx⟩ := voteCerts_reads os enc
  refine returnsInHanded_of_row (C := Tryd.checked) (s := (Rows.OpenSpec.upto Rows.voteCertsSpec)) voteCerts_own started (by kernel_rfl) Tryd.func3
    (witness_row_at (enc := enc) (C := Tryd.checked) false (laidWorld os) #[.agg #[.int .i64 0, .int .i64 0, .int .i64 0, .int .i64 0, .slice none 0 0], .slice none 0 0, .int .i64 0] rfl (by kernel_rfl) (by kernel_rfl) (by kernel_rfl)
      (OpenSpec.preRow_of_cond 8 hx (by kernel_rfl) (fun k hk => by cases hk; kernel_rfl) (by kernel_rfl) (voteCerts_met os))) ?_
  intro W base args ds gs before hval hW _ hcond hsz hL _ _
  exact voteCerts_contract H enc W base args ds gs before hval hW (hcond _ rfl) (tab_of hL)

theorem voteCerts_said : Rows.VoteCertsUptoSaid :=
  OpenClaim.holds_of_cond 3 Tryd.f3 rfl rfl rfl rfl rfl rfl rfl ⟨rfl, rfl, rfl, rfl, rfl⟩ rfl rfl rfl rfl rfl (by kernel_rfl) Tryd.func3 (by kernel_rfl)
    (of_decide_eq_true (by kernel_rfl)) (by unfold Func.isWrapper; first | (rw [if_pos (by decide +kernel)]; kernel_rfl) | (rw [if_neg (by decide +kernel)]; exact ⟨rfl, rfl⟩))
    (fun os started H enc _ F => by rw [OpenClaim.pre_eq_preRow]; exact voteCerts_lifted os started H enc F)
theorem voteCerts_plain (f : FuncId) (fn : Func) (hf : Tryd.pinned.checked.prog.funcNamed "catenary/catenarylaw06.VoteCerts" = some f) (hfn : Tryd.pinned.checked.prog.funcs[f]? = some fn) :
    false = Tryd.pinned.checked.prog.looks [] ∧ ∀ (j : Nat) t, fn.params[j]? = some t → Tryd.pinned.checked.prog.wantsStandIn t = false := by
  obtain rfl : f = 3 := Option.some.inj ((show Tryd.prog.funcNamed "catenary/catenarylaw06.VoteCerts" = some 3 by kernel_rfl).symm.trans hf) |>.symm
  obtain rfl : fn = Tryd.f3 := (Option.some.inj (Tryd.func3.symm.trans hfn)).symm
  refine ⟨by kernel_rfl, fun j t ht => ?_⟩
  rw [Tryd.params3] at ht
  have hm := Array.mem_of_getElem? ht
  simp only [List.mem_toArray, List.mem_cons, List.not_mem_nil, or_false] at hm
  rcases hm with rfl | rfl | rfl
  · exact (show Tryd.prog.wantsStandIn 26 = false by kernel_rfl)
  · exact (show Tryd.prog.wantsStandIn 27 = false by kernel_rfl)
  · exact (show Tryd.prog.wantsStandIn 3 = false by kernel_rfl)
theorem voteCerts_proved : Rows.VoteCertsUptoCardSaid :=
  Claim7.holds_tied_plain_at .later [] _ _ _ _ voteCerts_said (fun _ h => by cases h) (by kernel_rfl) (fun _ h => by cases h) voteCertsUpto_row_tie rfl ⟨rfl, rfl⟩ (by kernel_rfl) rfl voteCerts_plain (by kernel_rfl)
#print axioms voteCerts_proved
end Go.Proofs.YtkgjlmhgfefegaaDoor
end
