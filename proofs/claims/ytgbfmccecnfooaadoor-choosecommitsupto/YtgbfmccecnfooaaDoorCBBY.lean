/- A ballot, two requests, acts of layer 15: opened. -/
import Derived.Test.YtgbfmccecnfooaaDoorCBBQ
import Derived.Test.YtgbfmccecnfooaaDoorCBAM
import Derived.Test.YtgbfmccecnfooaaDoorCBBW
import Derived.Test.YtgbfmccecnfooaaDoorCBAQ
import Derived.OpenShut
namespace Go.Proofs.YtgbfmccecnfooaaDoor
section
open Go.ChangeShapes Go.WideShapes Go.ChangeAt Go.RowKit Oct
def RPrepB (G : Nat → Prop) (w : World) (r : List Value) (x : PPrep) : Prop := RPrep G w r x ∧ i64C x.1
def RRepB (G : Nat → Prop) (w : World) (r : List Value) (x : PRep) : Prop := RRep G w r x ∧ bdR x
theorem rl_prepB {G : Nat → Prop} {w : World} {v : Value} {ys : List PPrep} (h : RL RPrepB 8 G w v ys) : RL RPrep 8 G w v ys := by
  obtain ⟨rows, h1, h2⟩ := h
  exact ⟨rows, h1, h2.mono fun r a h => h.1⟩
theorem all2_right {α β : Type} {R : α → β → Prop} {p : β → Prop} (hp : ∀ a b, R a b → p b) : ∀ {l : List α} {m : List β}, All2 R l m → ∀ b ∈ m, p b
  | [], [], _ => fun b hb => by cases hb
  | a :: l, b :: m, h => fun c hc => by
    rcases List.mem_cons.1 hc with rfl | hc
    · exact hp _ _ h.1
    · exact all2_right hp h.2 c hc
  | [], _ :: _, h => h.elim
  | _ :: _, [], h => h.elim
theorem rl_prepB_bd {G : Nat → Prop} {w : World} {v : Value} {ys : List PPrep} (h : RL RPrepB 8 G w v ys) : ∀ p ∈ ys, i64C p.1 := by
  obtain ⟨rows, _, h2⟩ := h
  exact all2_right (fun a b h => h.2) h2
theorem rl_repB {G : Nat → Prop} {w : World} {v : Value} {ys : List PRep} (h : RL RRepB 8 G w v ys) : RL RRep 8 G w v ys ∧ ∀ r ∈ ys, bdR r := by
  obtain ⟨rows, h1, h2⟩ := h
  exact ⟨⟨rows, h1, h2.mono fun r a h => h.1⟩, all2_right (fun a b h => h.2) h2⟩
section
variable {H : Type} {enc : TypeId × Value → H} {w : World} {base : Nat} {held : Bool}
set_option maxRecDepth 10000 in
theorem opn_prepB : Opn enc Tryd.prog w base held 38 (RPrepB Any w) bP szP := by
  intro fuel cs x h
  obtain ⟨y, hy, b1, s1⟩ := opn_prep _ _ _ h
  obtain ⟨xs, n, ex, en, hl, hxl, hf⟩ := DataW.trod_struct Tryd.underlying38 h
  obtain ⟨o, g, c, rfl, t1, t2, t3⟩ := hy
  have hxl : xs.length = 4 := hxl
  obtain ⟨z0, z1, z2, z3, rfl⟩ := of4 hxl
  have h0 := fld hf 0 rfl rfl rfl cells_int (cs' := [.int .i64 y.1]) rfl rfl
  obtain ⟨q0, gq, eq, rq⟩ := DataW.trod_int Tryd.underlying3 h0
  have e : q0 = y.1 := by
    injection gq with gq
    injection gq with _ gq
    exact gq.symm
  exact ⟨y, ⟨⟨o, g, c, rfl, t1, t2, t3⟩, by rw [← e]; exact bounds_i64 rq⟩, b1, s1⟩
set_option maxRecDepth 10000 in
theorem opn_prepsB : Opn enc Tryd.prog w base held 28 (fun cs ys => ∃ v, cs = [v] ∧ RL RPrepB 8 Any w v ys) (bL bP) (szL 112 szP) := opn_list Tryd.underlying28 (by kernel_rfl) (by kernel_rfl) (by decide) opn_prepB
set_option maxRecDepth 10000 in
theorem opn_repB : Opn enc Tryd.prog w base held 30 (RRepB Any w) bR szR := by
  intro fuel cs x h
  obtain ⟨xs, n, rfl, rfl, hl, hxl, hf⟩ := DataW.trod_struct Tryd.underlying30 h
  have hxl : xs.length = 7 := hxl
  rw [show Tryd.prog.cellsOf 30 = 8 by kernel_rfl] at hl
  obtain ⟨c0, c1, c2, c3, c4, c5, c6, c7, rfl⟩ : ∃ c0 c1 c2 c3 c4 c5 c6 c7, cs = [c0, c1, c2, c3, c4, c5, c6, c7] := of8 hl
  obtain ⟨x0, x1, x2, x3, x4, x5, x6, rfl⟩ : ∃ c0 c1 c2 c3 c4 c5 c6, xs = [c0, c1, c2, c3, c4, c5, c6] := of7 hxl
  have h0 := fld hf 0 rfl rfl rfl cells_bal (cs' := [c0, c1]) rfl rfl
  have h1 := fld hf 1 rfl rfl rfl cells_int (cs' := [c2]) rfl rfl
  have h2 := fld hf 2 rfl rfl rfl cells_int (cs' := [c3]) rfl rfl
  have h3 := fld hf 3 rfl rfl rfl cells_text (cs' := [c4]) rfl rfl
  have h4 := fld hf 4 rfl rfl rfl cells_votes (cs' := [c5]) rfl rfl
  have h5 := fld hf 5 rfl rfl rfl cells_preps (cs' := [c6]) rfl rfl
  have h6 := fld hf 6 rfl rfl rfl cells_text (cs' := [c7]) rfl rfl
  obtain ⟨⟨y00, y01⟩, g0, (b0 : 3 ≤ _), _⟩ := opn_bal _ _ _ h0
  obtain ⟨y1, g1, (b1 : 1 ≤ _), _⟩ := opn_int _ _ _ h1
  obtain ⟨y2, g2, (b2 : 1 ≤ _), _⟩ := opn_int _ _ _ h2
  obtain ⟨z2, gz, ez, rz⟩ := DataW.trod_int Tryd.underlying3 h2
  obtain ⟨y3, ⟨v3, e3, g3⟩, b3, s3⟩ := opn_text _ _ _ h3
  obtain ⟨y4, ⟨v4, e4, g4⟩, b4, s4⟩ := opn_votes _ _ _ h4
  obtain ⟨y5, ⟨v5, e5, g5⟩, b5, s5⟩ := opn_prepsB _ _ _ h5
  obtain ⟨y6, ⟨v6, e6, g6⟩, b6, s6⟩ := opn_text _ _ _ h6
  cases g0
  cases g1
  cases g2
  cases e3
  cases e4
  cases e5
  cases e6
  have hlow : i64C y2 := by
    have e : z2 = y2 := by
      injection gz with gz
      injection gz with _ gz
      exact gz.symm
    rw [← e]
    exact bounds_i64 rz
  refine ⟨((y00, y01), y1, y2, y3, y4, y5, y6), ⟨⟨_, _, _, _, rfl, g3, g4, rl_prepB g5, g6⟩, hlow, rl_prepB_bd g5⟩, ?_, fun hn => ⟨s3 (weights_fld Tryd.underlying30 hn 3 rfl rfl rfl), s4 (weights_fld Tryd.underlying30 hn 4 rfl rfl rfl), s5 (weights_fld Tryd.underlying30 hn 5 rfl rfl rfl), s6 (weights_fld Tryd.underlying30 hn 6 rfl rfl rfl)⟩⟩
  simp only [bR, Rows.uptoBulk, Rows.uptoBulkAll, List.map_cons, List.map_nil]
  omega
set_option maxRecDepth 10000 in
theorem opn_repsB : Opn enc Tryd.prog w base held 24 (fun cs ys => ∃ v, cs = [v] ∧ RL RRepB 8 Any w v ys) (bL bR) (szL 128 szR) := opn_list Tryd.underlying24 (by kernel_rfl) (by kernel_rfl) (by decide) opn_repB
/-- Reports, with the bounds of their numbers. -/
theorem open_repsB {v : Value} {d : DataW H} {p : List MemPlace} (hone : v.cells.toList = [v]) (h : DataW.Trod enc Tryd.prog w base (fun _ => true) held 24 v d p) :
    ∃ ys : List PRep, (RL RRep 8 Any w v ys ∧ ∀ r ∈ ys, bdR r) ∧ bL bR ys ≤ Rows.uptoBulk d ∧ ((∀ n ∈ d.weights Tryd.prog 24, n ≤ reachBytes) → szL 128 szR ys) := by
  obtain ⟨fuel, hf⟩ := h
  obtain ⟨ys, ⟨u, e, h1⟩, h2, h3⟩ := opn_repsB fuel _ _ hf
  rw [hone] at e
  cases e
  exact ⟨ys, rl_repB h1, h2, h3⟩
end
end
section
open Go.RowKit Oct Bal
theorem bS_length {α : Type} (f : α → Nat) (hf : ∀ x, 1 ≤ f x) (l : List α) : l.length ≤ bS f l := by
  induction l with
  | nil => exact Nat.zero_le _
  | cons x l ih =>
    have hx := hf x
    show l.length + 1 ≤ f x + bS f l
    omega
theorem bS_memC {α : Type} {f : α → Nat} {y : α} : ∀ {l : List α}, y ∈ l → f y ≤ bS f l
  | x :: l, h => by
    rcases List.mem_cons.1 h with rfl | h
    · exact Nat.le_add_right _ _
    · exact Nat.le_trans (bS_memC h) (Nat.le_add_left _ _)
theorem szV_cB {x : PVote} (h : bV x ≤ 2000000) : szV x := by
  simp only [bV, bT] at h
  show szT x.2
  unfold szT
  omega
theorem szL_cB {α : Type} {b : Nat} {p : α → Prop} {f : α → Nat} (hf : ∀ y, 1 ≤ f y) {ys : List α} (hb : b ≤ 1000) (h : bL f ys ≤ 2000000) (hp : ∀ y, f y ≤ 2000000 → p y) : szL b p ys := by
  simp only [bL] at h
  have h1 := bS_length f hf ys
  have h2 : ys.length * b ≤ 2000000 * 1000 := Nat.mul_le_mul (by omega) hb
  exact ⟨by omega, fun y hy => hp y (by have := bS_memC (f := f) hy; omega)⟩
theorem szQ_cB {x : PReq} (h : bQ x ≤ 2000000) : szQ x := by
  simp only [bQ, bT] at h
  exact ⟨by unfold szT; omega, by unfold szT; omega⟩
theorem szP_cB {x : PPrep} (h : bP x ≤ 2000000) : szP x := by
  simp only [bP] at h
  exact ⟨szQ_cB (by omega), szL_cB (f := bV) (fun y => by simp only [bV]; omega) (by decide) (by omega) fun y hy => szV_cB hy⟩
theorem szR_cB {x : PRep} (h : bR x ≤ 2000000) : szR x := by
  simp only [bR] at h
  refine ⟨?_, szL_cB (f := bV) (fun y => by simp only [bV]; omega) (by decide) (by omega) fun y hy => szV_cB hy, szL_cB (f := bP) (fun y => by simp only [bP]; omega) (by decide) (by omega) fun y hy => szP_cB hy, ?_⟩
  · simp only [bT] at h; unfold szT; omega
  · simp only [bT] at h; unfold szT; omega
theorem reps_sz {rs : List PRep} (h : bL bR rs ≤ 1048576) : szL 128 szR rs := szL_cB (fun y => by simp only [bR]; omega) (by decide) (by omega) (fun y hy => szR_cB hy)
end
section
open Go.ChangeShapes Go.WideShapes Go.ChangeAt Go.RowKit Oct
theorem okQ_of {x : PRep} (h : bR x ≤ 1050000) : okQ x := fun p hp => by
  have h1 := bS_memC (f := bP) hp
  simp only [bR, bL] at h
  simp only [bP, bQ, bT] at h1
  simp only [tot]
  omega
theorem bR_mem {ys : List PRep} (h : bL bR ys ≤ 1048576) : ∀ r ∈ ys, bR r ≤ 1050000 := fun r hr => by
  have h1 := bS_memC (f := bR) hr
  simp only [bL] at h
  omega
end
section
open Go.ChangeShapes Go.WideShapes Go.ChangeAt Go.RowKit Oct
theorem open_aggV {P : Program} {w : World} {b0 : Nat} {r : Reach} {t : TypeId} {fs : Array Field} {k : Nat} (ht : P.underlying t = some (.struct fs)) (hct : P.cellsOf t = k) {v : Value} (hv : Value.okWide P w r b0 t v) : ∃ cs : List Value, v = .agg cs.toArray ∧ cs.length = k := by
  simp only [Value.okWide, ht] at hv
  obtain ⟨cs, rfl, hsz, _⟩ := hv
  exact ⟨cs.toList, by simp, by simpa [hct] using hsz⟩
end
section
open Go.ChangeShapes Go.WideShapes Go.ChangeAt Go.RowKit Oct
section
variable {H : Type} {enc : TypeId × Value → H} {w : World} {base b0 : Nat} {r : Reach} {held : Bool}
set_option maxRecDepth 10000 in
theorem open_ballL {v : Value} {d : DataW H} {p : List MemPlace} (hv : Value.okWide Tryd.prog w r b0 23 v) (h : DataW.Trod enc Tryd.prog w base (fun _ => true) held 23 v d p) :
    ∃ a b, v = .agg #[.int .i64 a, .int .i64 b] := by
  obtain ⟨cs, rfl, hl⟩ := open_aggV Tryd.underlying23 cells_bal hv
  obtain ⟨fuel, hf⟩ := h
  obtain ⟨⟨y0, y1⟩, g, _⟩ := opn_bal _ _ _ hf
  have e : cs = [.int .i64 y0, .int .i64 y1] := g
  exact ⟨y0, y1, by rw [e]⟩
end
end
end Go.Proofs.YtgbfmccecnfooaaDoor
