/- catenarylaw10.SnapPieces: its walk. -/
import Derived.RangeFuncNested
import Derived.RangeFuncBound
import Derived.RangeFuncCalls
import Derived.RangeFuncLeaves
import Derived.Shelf.Abstract
import Derived.Shelf.RegionOpen
import Derived.WalkKit
import Derived.OwnWalkIn
import Derived.TacticsInMore
import Derived.LoopNIn
import Derived.LoopIn
import Derived.Test.YtejkkhlblnepeaaDoorW3
import Derived.Test.YtejkkhlblnepeaaDoorW5
import Derived.Test.YtejkkhlblnepeaaDoorCl
import Derived.RegionIn
import Derived.Test.YtejkkhlblnepeaaDoorKq
import Derived.Test.YtejkkhlblnepeaaDoorRR
import Derived.Test.YtejkkhlblnepeaaDoorUC
import Derived.Laws.BitsAllLaws
section
set_option linter.unusedVariables false
set_option linter.unusedSimpArgs false
namespace Go.Proofs.YtejkkhlblnepeaaDoor
open Go.RowKit Go.Shelf Oct
attribute [local go_sem] Oper.semAt_some

/-- How many full pieces come ahead of the last. -/
def nP (L : Nat) : Nat := (L - 1) / 256
def pc (l : List Int) (i : Nat) : List Int := (l.drop (256 * i)).take 256
/-- The pieces. -/
def pcs (l : List Int) : List (List Int) := (List.range (nP l.length + 1)).map (pc l)
theorem pc_flat (l : List Int) : ∀ n, ((List.range n).map (pc l)).flatten = l.take (256 * n)
  | 0 => by simp
  | n + 1 => by
    rw [List.range_succ, List.map_append, List.flatten_append, pc_flat l n]
    simp only [List.map_cons, List.map_nil, List.flatten_cons, List.flatten_nil, List.append_nil, pc]
    rw [Nat.mul_add, Nat.mul_one, List.take_add]
theorem pcs_flat (l : List Int) : (pcs l).flatten = l := by
  unfold pcs
  rw [pc_flat]
  exact List.take_of_length_le (by unfold nP; omega)
theorem pcs_len (l : List Int) : (pcs l).length = nP l.length + 1 := by simp [pcs]
theorem pc_le (l : List Int) (i : Nat) : (pc l i).length ≤ 256 := by unfold pc; rw [List.length_take]; omega
theorem pcs_le (l : List Int) : ∀ p ∈ pcs l, p.length ≤ 256 := by
  intro p hp
  obtain ⟨i, _, rfl⟩ := List.mem_map.1 hp
  exact pc_le l i
theorem pc_last (l : List Int) : pc l (nP l.length) = l.drop (256 * nP l.length) := by
  unfold pc
  exact List.take_of_length_le (by rw [List.length_drop]; unfold nP; omega)
/-- A piece: a slice that can be read in w, and what it reads. -/
abbrev Px (w : World) := { p : Value × List Int // Rd w p.1 p.2 ∧ p.2.length ≤ 256 }
def slLen (v : Value) : Nat := match v with | .slice _ n _ => n | _ => 0

set_option maxRecDepth 100000 in
set_option maxHeartbeats 2000000 in
theorem each1_in (w : World) (bv : Value) (l : List Int) (h : Rd w bv l) (hl : l.length ≤ 140737488355300) (n lp bx n0 : Nat) (J Jx : List (Px w) → World → Prop)
    (hY : ∀ pre (x : Px w) W, J pre W → pre.length < nP l.length + 1 → YieldAt Fence.wide (n - 1) Tryd.prog lp #[x.1.1] W fun e W' =>
      (e = .returned (.bool true) ∧ J (pre ++ [x]) W' ∧ Below n0 W W') ∨ (e = .returned (.bool false) ∧ Jx (pre ++ [x]) W'))
    (W : World) (hc : W.cell? ⟨bx, 0, none⟩ = some bv) (h0 : J [] W) :
    CallsIn Fence.wide n Tryd.prog 31 #[.func (.yield lp) #[] #[], .pointer (some ⟨bx, 0, none⟩)] W fun e W' => (∃ v, e = .returned v) ∧
      ((∃ xs, xs.map (·.1.2) = pcs l ∧ J xs W') ∨ (∃ pre, True ∧ Jx pre W')) := by
  by_cases hK : l.length ≤ 256
  · obtain ⟨ao, cap, rfl, hcap⟩ := h.form
    have hn0 : nP l.length = 0 := by unfold nP; omega
    have hp : pcs l = [l] := by unfold pcs; rw [hn0]; simp [pc]; exact List.take_of_length_le hK
    obtain ⟨x, hx1, hx2⟩ : ∃ x : Px w, x.1.1 = .slice ao l.length cap ∧ x.1.2 = l := ⟨⟨(.slice ao l.length cap, l), h, hK⟩, rfl, rfl⟩
    obtain ⟨fn, tmps, assign, body, hy, hR⟩ := hY [] x W h0 (by simp)
    rw [hx1] at hy
    have hKi : decide ((256 : Int) < (l.length : Int)) = false := by simp; omega
    refine callsIn_of_wp Tryd.func31 rfl trivial ?_ rfl
    simp only [Tryd.ntmps31, List.size_toArray, List.length_cons, List.length_nil, Nat.reduceAdd, Nat.reduceSub, Array.replicate_succ, Array.replicate_zero, List.push_toArray, List.append_toArray, List.nil_append, List.cons_append]
    gi_wp2
    gi_loopw [3] (fun v wr => v = .slice ao l.length cap ∧ wr = W) (fun v _ => slLen v)
    case atStart => exact ⟨rfl, rfl⟩
    case round =>
      obtain ⟨rfl, rfl⟩ := hrel
      gi_wp2
      refine ⟨fun hh => (by cases hh), hR.mono ?_⟩
      rintro e W3 (⟨rfl, hJ3, hk3⟩ | ⟨rfl, hJx3⟩)
      · gi_wp2
        go_end0
        exact ⟨⟨_, rfl⟩, .inl ⟨_, by rw [hp]; simp [hx2], hJ3⟩⟩
      · gi_wp2
        go_end0
        exact ⟨⟨_, rfl⟩, .inr ⟨_, trivial, hJx3⟩⟩
  · obtain ⟨bb, off, cap, rfl, hc1, hc2, hbb, hcell⟩ := h.at (by omega)
    refine callsIn_of_wp Tryd.func31 rfl trivial ?_ rfl
    simp only [Tryd.ntmps31, List.size_toArray, List.length_cons, List.length_nil, Nat.reduceAdd, Nat.reduceSub, Array.replicate_succ, Array.replicate_zero, List.push_toArray, List.append_toArray, List.nil_append, List.cons_append]
    gi_wp2
    gi_loopw [3] (fun v wr => ∃ (q : Nat) (pre : List (Px w)), q ≤ nP l.length ∧ v = .slice (some ⟨bb, off + 256 * q, none⟩) (l.length - 256 * q) (cap - 256 * q) ∧ pre.map (·.1.2) = (List.range q).map (pc l) ∧ J pre wr) (fun v _ => slLen v)
    case atStart => exact ⟨0, [], Nat.zero_le _, by simp, by simp, h0⟩
    case round =>
      obtain ⟨q, pre, hq, rfl, hpre, hJ⟩ := hrel
      have hpl : pre.length = q := by have := congrArg List.length hpre; simpa using this
      obtain ⟨m, hm⟩ : ∃ m, m = l.length - 256 * q := ⟨_, rfl⟩
      obtain ⟨c, hcc⟩ : ∃ c, c = cap - 256 * q := ⟨_, rfl⟩
      obtain ⟨o, ho⟩ : ∃ o, o = off + 256 * q := ⟨_, rfl⟩
      by_cases hql : q < nP l.length
      · have hm2 : 256 < m := by unfold nP at hql; omega
        have hpart : Rd w (.slice (some ⟨bb, o, none⟩) 256 c) (pc l q) := by
          have := Rd.part h.1 hcell (256 * q) 256 (by omega) c (by omega) (by omega)
          rw [← ho] at this
          exact this
        have hnx : Value.slice (some ⟨bb, o + 256, none⟩) (m - 256) (c - 256) = .slice (some ⟨bb, off + 256 * (q + 1), none⟩) (l.length - 256 * (q + 1)) (cap - 256 * (q + 1)) := by
          rw [show off + 256 * (q + 1) = o + 256 by omega, show l.length - 256 * (q + 1) = m - 256 by omega, show cap - 256 * (q + 1) = c - 256 by omega]
        have hcm : m ≤ c := by omega
        rw [← hm, ← hcc, ← ho]
        have HNX := (show Hid (_) from hnx)
        have HPL := (show Hid (pre.length = q ∧ q < nP l.length ∧ m = l.length - 256 * q) from ⟨hpl, hql, hm⟩)
        obtain ⟨x, hx1, hx2⟩ : ∃ x : Px w, x.1.1 = .slice (some ⟨bb, o, none⟩) 256 c ∧ x.1.2 = pc l q := ⟨⟨(.slice (some ⟨bb, o, none⟩) 256 c, pc l q), hpart, pc_le l q⟩, rfl, rfl⟩
        obtain ⟨fn, tmps, assign, body, hy, hR⟩ := hY pre x wr hJ (by omega)
        rw [hx1] at hy
        have HX2 := (show Hid (x.1.2 = pc l q) from hx2)
        clear hx1 hx2
        have hi : (256 : Int) < (m : Int) := by omega
        have hmx : (m : Int) ≤ 9223372036854775807 := by omega
        clear hnx hpart hm hcc ho hpl hcell hc1
        gi_wp2
        refine ⟨fun hh => (by cases hh), hR.mono ?_⟩
        rintro e W3 (⟨rfl, hJ3, hk3⟩ | ⟨rfl, hJx3⟩)
        · gi_wp2
          go_roundw
          case rel =>
            refine ⟨q + 1, _, by omega, HNX.out, ?_, hJ3⟩
            rw [List.map_append, hpre, List.range_succ, List.map_append]
            simp [HX2.out]
          case measure => simp [slLen]; omega
        · gi_wp2
          refine bodyPost_ret (results_none rfl _ _ _) rfl ?_
          exact ⟨⟨_, rfl⟩, .inr ⟨_, trivial, hJx3⟩⟩
      · have hqe : q = nP l.length := by omega
        have hm2 : m ≤ 256 := by rw [hm, hqe]; unfold nP; omega
        have hqL : 256 * q ≤ l.length := by rw [hqe]; unfold nP; omega
        have hpart : Rd w (.slice (some ⟨bb, o, none⟩) m c) (pc l q) := by
          have := Rd.part h.1 hcell (256 * q) m (by omega) c (by omega) (by omega)
          rw [← ho] at this
          have e : (l.drop (256 * q)).take m = pc l q := by
            unfold pc
            rw [List.take_of_length_le (by rw [List.length_drop]; omega), List.take_of_length_le (by rw [List.length_drop]; omega)]
          rw [e] at this
          exact this
        rw [← hm, ← hcc, ← ho]
        obtain ⟨x, hx1, hx2⟩ : ∃ x : Px w, x.1.1 = .slice (some ⟨bb, o, none⟩) m c ∧ x.1.2 = pc l q := ⟨⟨(.slice (some ⟨bb, o, none⟩) m c, pc l q), hpart, pc_le l q⟩, rfl, rfl⟩
        obtain ⟨fn, tmps, assign, body, hy, hR⟩ := hY pre x wr hJ (by omega)
        rw [hx1] at hy
        have HX2 := (show Hid (x.1.2 = pc l q) from hx2)
        clear hx1 hx2
        have hi : decide ((256 : Int) < (m : Int)) = false := by simp; omega
        have HQE := (show Hid (q = nP l.length) from hqe)
        clear hpart hm hcc ho hpl hcell hc1 hqe
        gi_wp2
        refine ⟨fun hh => (by cases hh), hR.mono ?_⟩
        rintro e W3 (⟨rfl, hJ3, hk3⟩ | ⟨rfl, hJx3⟩)
        · gi_wp2
          go_end0
          refine ⟨⟨_, rfl⟩, .inl ⟨_, ?_, hJ3⟩⟩
          rw [List.map_append, hpre]
          unfold pcs
          rw [← HQE.out, List.range_succ, List.map_append]
          simp [HX2.out]
        · gi_wp2
          go_end0
          exact ⟨⟨_, rfl⟩, .inr ⟨_, trivial, hJx3⟩⟩
end Go.Proofs.YtejkkhlblnepeaaDoor
end

section
set_option linter.unusedVariables false
set_option linter.unusedSimpArgs false
namespace Go.Proofs.YtejkkhlblnepeaaDoor
open Go.RowKit Go.Shelf Oct
attribute [local go_sem] Oper.semAt_some

theorem eachPiece_any (w : World) (ab : Option Addr) (nb cb : Nat) :
    Calls Tryd.prog 14 #[.slice ab nb cb] w fun e w' => e = .returned (.func (.func 31) #[] #[.pointer (some ⟨w.heap.size, 0, none⟩)]) ∧ w' = w.alloc (.cells #[.slice ab nb cb] 22) := by
  have hmf : ∀ (fn : Fn) (first cap : Array Value) (w : World), (Instr.makeFunc fn first cap).run Tryd.prog w = .ok (.func fn first cap) w := fun _ _ _ _ => rfl
  go_enter Tryd.func14, Tryd.ntmps14
  go_wp2_with fail
  go_ret
  exact ⟨rfl, rfl⟩

/-- 'append(s, x...)' of texts, in a round's region that draws its order. -/
theorem stepIn_list {lp n : Nat} {w : World} {ops : Array Oper} {o : Oper} {a : Act} {K : Act → World → Prop} {Q : Exit → Act → World → Prop} {E : Prop} (hgd : o.guard = none) (s x : Operand)
    (ho : o.op = .call { callee := .builtin .append, args := #[s, x], argTypes := #[24, 24] })
    (v : Value) (vs : List Value) (hs : a.eval s = v) (hown : Own w 22 v vs) (sv : Value) (us : List Value) (hx : a.eval x = sv) (hsrc : Rdv w sv us) (h1 : ∀ u ∈ us, u.oneCell' = true) (hb : vs.length + us.length ≤ 1000000000)
    (h : ∀ v' w', App w 22 v w' v' (vs ++ us) → K (a.put o.dst v') w') : if Region.wanted o (yielded ops a.tmps) = true then Oper.wpIn (Fence.wide.inRound lp) n Tryd.prog o a w K Q else E := by
  have hw : Region.wanted o (yielded ops a.tmps) = true := by simp [Region.wanted, hgd]
  rw [if_pos hw]
  obtain ⟨i0, hi, hz0, hz1, hz2⟩ := info_parts Tryd.info23
  obtain ⟨v', w', hr, h2⟩ := run_app (P := Tryd.prog) w 24 o.type 22 i0 (.slice none 0 0) 24 Tryd.underlying24 hi hz0 hz1 hz2 rfl v vs hown sv us hsrc h1 (by unfold maxLen; omega) (by omega)
  unfold Oper.wpIn
  refine ⟨fun _ _ => trivial, ?_⟩
  rw [Fence.inRound_round, Oper.semAt_some _ _ _ (by intro c; rw [ho]; simp)]
  simp [execOp, ho, resolve, invoke, builtin, hs, hx, hr, Result.andThen]
  exact h v' w' h2

theorem own_row_nQ {w : World} {b : Nat} {t : TypeId} {e : TypeId} {xs ys : List Value} {v : Value} (h : Row w b t xs) (ho : Own w e v ys) (ht : t ≠ e) : v.ownBlock ≠ some b := by
  intro hk
  rcases ho.2 with ⟨rfl, _⟩ | ⟨g, _, cur, rfl, _, hg, _⟩
  · simp [Value.ownBlock] at hk
  · simp [Value.ownBlock] at hk
    subst hk
    unfold Row at h
    rw [h] at hg
    simp at hg
    exact ht hg.2
/-- So far: the list of pieces in box b. -/
def CutI (w : World) (b : Nat) (ll : List (List Int)) (W : World) : Prop :=
  ∃ v vs, Row W b 24 [v] ∧ Own W 22 v vs ∧ Els W vs ll ∧ Fr w.heap.size v ∧ ∀ c ∈ vs, Fr w.heap.size c
theorem Own.cells {w : World} {e : TypeId} {v : Value} {xs : List Value} (h : Own w e v xs) : ∀ (j : Nat) (o : Obj), v.ownBlock = some j → w.heap[j]? = some o → o.isCells = true := by
  intro j o hj ho
  rcases h.2 with ⟨rfl, _⟩ | ⟨g, _, cur, rfl, _, hg, _⟩
  · simp [Value.ownBlock] at hj
  · simp [Value.ownBlock] at hj
    subst hj
    rw [hg] at ho
    injection ho with ho
    subst ho
    rfl
theorem Own.abides {w w' : World} {e : TypeId} {v : Value} {xs : List Value} (h : Own w e v xs) {row : Option Nat} (hg : w.grownBy w' row) (hr : ∀ r, row = some r → ∃ o : Obj, w.heap[r]? = some o ∧ o.isCells = false) : Own w' e v xs :=
  h.grown hg (fun k hk e => by
    obtain ⟨o, ho, hc⟩ := hr k hk
    rw [h.cells k o e ho] at hc
    cases hc)
theorem CutI.abides {w : World} {b : Nat} {ll : List (List Int)} {W W' : World} (h : CutI w b ll W) {row : Option Nat} (hg : W.grownBy W' row) (hr : ∀ r, row = some r → ∃ o : Obj, W.heap[r]? = some o ∧ o.isCells = false) : CutI w b ll W' := by
  obtain ⟨v, vs, h1, h2, h3, h4, h5⟩ := h
  refine ⟨v, vs, h1.grown hg (fun e => ?_), h2.abides hg hr, h3.mono fun _ _ ho => ho.abides hg hr, h4, h5⟩
  obtain ⟨o, ho, hc⟩ := hr b e
  unfold Row at h1
  rw [h1] at ho
  injection ho with ho
  subst ho
  cases hc
theorem KeepsOthers.below {W W' : World} (h : Below W.heap.size W W') : KeepsOthers W W' := ⟨h.size, fun k o hk _ => (h.block k (Array.getElem?_eq_some_iff.1 hk).1).trans hk⟩

theorem cutStep {w W w1 w2 : World} {vs : List Value} {ll : List (List Int)} {v v1 v2 : Value} {xl : List Int}
    (hB : Below w.heap.size w W) (q1 : Own W 22 v vs) (q2 : Els W vs ll) (q3 : Fr w.heap.size v) (q4 : ∀ c ∈ vs, Fr w.heap.size c)
    (hb1 : Below W.heap.size W w1) (o1 : Own w1 5 v1 (bc xl)) (f1 : Fr W.heap.size v1)
    (happ : App (w1.alloc (.cells #[v1] 22)) 22 v w2 v2 (vs ++ [v1])) (z2 : Row w2 w.heap.size 24 [v]) :
    KeepsOthers W (w2.setCell ⟨w.heap.size, 0, none⟩ v2) ∧ Below w.heap.size W (w2.setCell ⟨w.heap.size, 0, none⟩ v2) ∧ CutI w w.heap.size (ll ++ [xl]) (w2.setCell ⟨w.heap.size, 0, none⟩ v2) ∧ Below w.heap.size w (w2.setCell ⟨w.heap.size, 0, none⟩ v2) := by
  have hs := hB.size
  have hs1 := hb1.size
  have ha := below_alloc w1 (.cells #[v1] 22)
  have hba : Below W.heap.size W (w1.alloc (.cells #[v1] 22)) := below_and hb1 (Nat.le_refl _) ha
  have hsa := hba.size
  have qa := q1.below hba
  have hb2 : Below w.heap.size W w2 := (hba.mono hs).trans (happ.below q3 (by omega))
  have hb3 : Below w.heap.size W (w2.setCell ⟨w.heap.size, 0, none⟩ v2) := hb2.grown (grown_set _ _ _ _) (Nat.le_trans hs hb2.size) (fun k e => by cases e; exact Nat.le_refl _)
  refine ⟨((KeepsOthers.below hba).trans (KeepsOthers.of_grownBy happ.grown qa.cells)).trans (KeepsOthers.setCell _ _ _), hb3, ?_, hB.trans hb3⟩
  refine ⟨v2, vs ++ [v1], z2.set 0 v2, happ.own.grown (grown_set _ _ _ _) ?_, ?_, happ.fr q3 (by omega), ?_⟩
  · intro k e; cases e; exact own_row_nQ z2 happ.own (by decide)
  · have h1 : Els w2 (vs ++ [v1]) (ll ++ [xl]) := ((q2.below hba).snoc (o1.below ha)).app qa happ
    exact h1.mono fun c l' hc => hc.grown (grown_set _ _ _ _) (fun k e => by cases e; exact own_row_nQ z2 hc (by decide))
  · intro c hc
    rcases List.mem_append.1 hc with hc | hc
    · exact q4 c hc
    · rw [List.mem_singleton.1 hc]; exact f1.mono hs

set_option maxRecDepth 100000 in
set_option maxHeartbeats 4000000 in
/-- snap.Cut. -/
theorem cut_any (w : World) (bv : Value) (l : List Int) (h : Rd w bv l) (hl : l.length ≤ 100000000) :
    Calls Tryd.prog 5 #[bv] w fun e w' => ∃ v vs, e = .returned v ∧ Own w' 22 v vs ∧ Els w' vs (pcs l) ∧ Fr w.heap.size v ∧ (∀ c ∈ vs, Fr w.heap.size c) ∧ Below w.heap.size w w' := by
  obtain ⟨ab, cb, rfl, hcb⟩ := h.form
  obtain ⟨W0, hW0⟩ : ∃ W0, W0 = (w.alloc (.cells #[.slice none 0 0] 24)).alloc (.cells #[.slice ab l.length cb] 22) := ⟨_, rfl⟩
  have r0 : Row W0 w.heap.size 24 [.slice none 0 0] := by rw [hW0]; exact (Row.new w 24 _).below (below_alloc _ _)
  have r1 : Row W0 (w.heap.size + 1) 22 [.slice ab l.length cb] := by
    rw [hW0]
    have := Row.new (w.alloc (.cells #[.slice none 0 0] 24)) 22 [.slice ab l.length cb]
    simpa using this
  have B0 : Below w.heap.size w W0 := by rw [hW0]; exact below_and (below_alloc _ _) (Nat.le_refl _) (below_alloc _ _)
  have hsz : W0.heap.size = w.heap.size + 2 := by rw [hW0]; simp
  refine (callsIn_wide (n := 3)).1 ?_
  refine callsIn_of_wp_marks Tryd.func5 rfl trivial ?_ rfl
  simp only [Tryd.ntmps5, List.size_toArray, List.length_cons, List.length_nil, Nat.reduceAdd, Nat.reduceSub, Array.replicate_succ, Array.replicate_zero, List.push_toArray, List.append_toArray, List.nil_append, List.cons_append]
  gi_wp2_with (refine ⟨trivial, ?_⟩; gi_at_call 14; refine (callsIn_wide.2 (eachPiece_any _ ab l.length cb)).mono ?_; rintro e w' ⟨rfl, rfl⟩)
  rw [← hW0]
  clear hW0
  refine wpIn_rangeFunc_ownF rfl (by decide) (gf := 31) (lb := #[.pointer (some ⟨w.heap.size + 1, 0, none⟩)]) rfl trivial (enters_of Tryd.func31 (by kernel_rfl) rfl)
    (encs := fun x : Px w => #[x.1.1]) (Kp := Below w.heap.size) (S := fun xs => xs.map (fun y : Px w => y.1.2) = pcs l) (Sp := fun _ => True) (N := nP l.length + 1) (w0 := W0)
    (fun lp J Jx W hW _ _ hY h0 => each1_in w _ l h (by omega) _ lp (w.heap.size + 1) w.heap.size J Jx hY W ((hW.cell (p := ⟨w.heap.size + 1, 0, none⟩) (show w.heap.size + 1 < W0.heap.size by omega)).trans (r1.cell (j := 0) rfl)) h0)
    belowK_t (belowK_b (by omega)) (Below.refl _ _) (fun _ => rfl)
    (fun pre W => CutI w w.heap.size (pre.map (fun y : Px w => y.1.2)) W ∧ Below w.heap.size w W)
    (fun _ _ _ => False)
    (OwnFrom.and (fun s A B row hs hg hr => hs.abides hg (fun r e => (hr r e).2)) (ownFrom_below (Nat.le_refl _) (by omega)))
    (fun _ _ _ _ _ hs _ _ => hs)
    ⟨⟨_, [], r0, Own.nil _ _, trivial, Fr.nil _, fun c hc => by cases hc⟩, B0⟩
    (fun x => { tmps := #[.slice ab l.length cb, undef, .slice none 0 0, .pointer (some ⟨w.heap.size, 0, none⟩), x.1.1, .slice ab l.length cb, .func (.func 31) #[] #[.pointer (some ⟨w.heap.size + 1, 0, none⟩)], x.1.1, undef, undef, undef, undef, undef, undef], defers := [] }) ?assign ?body ?done ?stop
  case assign =>
    intro lp x W K hK
    gi_wp2
    exact hK
  case body =>
    rintro lp pre x W ⟨⟨v, vs, q0, q1, q2, q3, q4⟩, hB⟩ hlen
    have hvl : vs.length = pre.length := by have := q2.len; rw [List.length_map] at this; exact this
    have hvb : vs.length + 1 ≤ 1000000000 := by unfold nP at hlen; omega
    have hxr := x.2.1
    have hx256 := x.2.2
    have hmap : (pre ++ [x]).map (fun y : Px w => y.1.2) = pre.map (fun y : Px w => y.1.2) ++ [x.1.2] := by simp
    obtain ⟨ax, cx, hxe, _⟩ := hxr.form
    generalize x.1.2 = xl at *
    rw [hxe] at hxr
    rw [hxe]
    obtain ⟨av, cv, hve, _⟩ := q1.form
    subst hve
    have HM := (show Hid (_) from hmap)
    have hdw : Below W.heap.size W W.drew := ⟨rfl, rfl, rfl, Nat.le_refl _, fun _ _ => rfl⟩
    have HC := (show Hid (∀ u, Below W.heap.size W u → Calls Tryd.prog 15 #[.slice ax xl.length cx] u fun e w' => ∃ v', e = .returned v' ∧ Own w' 5 v' (bc xl) ∧ Fr u.heap.size v' ∧ Below u.heap.size u w' ∧ Below W.heap.size W w') from fun u hu => (clone_own u _ xl (hxr.below (below_and hB (Nat.le_refl _) hu)) (by omega)).mono fun e w' ⟨v', e1, e2, e3, e4⟩ => ⟨v', e1, e2, e3, e4, below_and hu (Nat.le_refl _) e4⟩)
    have c0 := q0.cell (j := 0) rfl
    have c1 := (q0.below hdw).cell (j := 0) rfl
    have hmx : Tryd.prog.follows .mixedOrders = true := by kernel_rfl
    clear hmap hlen hxe hvl
    gi_wp2
    refine wpIn_region_any (by assumption) ?_
    try (change wpAnyIn _ _ _ _ _ _ _ _ _ (World.drew _))
    refine wpAnyIn_ready (rs := [0, 1]) (by kernel_rfl) (by simp) ?_
    refine AllReadyIn.cons rfl (fun K hK => ?_) ?_
    · skip
      go_simp
      refine hK _ _ ?_
      clear hK K
      refine wpAnyIn_ready (rs := [1]) (by kernel_rfl) (by simp) ?_
      refine AllReadyIn.cons rfl (fun K hK => ?_) ?_
      · skip
        go_simp
        refine hK _ _ ?_
        clear hK K
        refine wpAnyIn_ready (rs := [2]) (by kernel_rfl) (by simp) ?_
        refine AllReadyIn.cons rfl (fun K hK => ?_) ?_
        · skip
          go_simp
          gi_wp2_with (refine ⟨trivial, ?_⟩; gi_at_call 15; refine (CallsIn.inRound lp (callsIn_wide.2 (HC.out _ (by first | (with_reducible exact Below.refl _ _) | (with_reducible exact hdw))))).mono ?_; rintro e w1 ⟨v1, rfl, o1, f1, hb1', hb1⟩; obtain ⟨a1, cp1, hv1, _⟩ := o1.form; rw [bc_len] at hv1; subst hv1; have k0 := q0.below hb1; have k1 := q1.below hb1; have e0 := k0.cell (j := 0) rfl; have e1 := (k0.below (below_alloc w1 (.cells #[.slice a1 xl.length cp1] 22))).cell (j := 0) rfl)
          refine wpAnyIn_ready (rs := [3]) (by kernel_rfl) (by simp) ?_
          refine AllReadyIn.cons rfl (fun K hK => ?_) ?_
          · skip
            go_simp
            refine hK _ _ ?_
            clear hK K
            refine wpAnyIn_ready (rs := [4]) (by kernel_rfl) (by simp) ?_
            refine AllReadyIn.cons rfl (fun K hK => ?_) ?_
            · skip
              refine stepIn_list (by rfl) _ _ (by rfl) (.slice av vs.length cv) vs (by rfl) (k1.below (below_alloc w1 _)) (.slice (some ⟨w1.heap.size, 0, none⟩) 1 1) [.slice a1 xl.length cp1] (by rfl) (own_elem w1 _ 22).rdv (by intro y hy; simp at hy; subst hy; rfl) (by simp only [List.length_cons, List.length_nil]; omega) ?_
              intro v2 w2 happ
              obtain ⟨a2, cp2, hv2, _⟩ := happ.own.form
              subst hv2
              have z2 := (k0.below (below_alloc w1 (.cells #[.slice a1 xl.length cp1] 22))).grown happ.grown (own_row_nQ (k0.below (below_alloc w1 (.cells #[.slice a1 xl.length cp1] 22))) (k1.below (below_alloc w1 _)) (by decide))
              have d0 := z2.cell (j := 0) rfl
              have f0 := z2.frozen 0
              refine hK _ _ ?_
              clear hK K
              refine wpAnyIn_ready (rs := [5]) (by kernel_rfl) (by simp) ?_
              refine AllReadyIn.cons rfl (fun K hK => ?_) ?_
              · skip
                go_simp
                refine hK _ _ ?_
                clear hK K
                refine wpAnyIn_done (by kernel_rfl) ?_ _
                have R := cutStep hB q1 q2 q3 q4 hb1 o1 f1 happ z2
                rw [← show _ = _ from HM] at R
                simp only [List.length_append, List.length_cons, List.length_nil, Nat.zero_add] at R
                exact R
              exact AllReadyIn.nil
            exact AllReadyIn.nil
          exact AllReadyIn.nil
        exact AllReadyIn.nil
      exact AllReadyIn.nil
    refine AllReadyIn.cons rfl (fun K hK => ?_) ?_
    · skip
      go_simp
      refine hK _ _ ?_
      clear hK K
      refine wpAnyIn_ready (rs := [0, 2]) (by kernel_rfl) (by simp) ?_
      refine AllReadyIn.cons rfl (fun K hK => ?_) ?_
      · skip
        go_simp
        refine hK _ _ ?_
        clear hK K
        refine wpAnyIn_ready (rs := [2]) (by kernel_rfl) (by simp) ?_
        refine AllReadyIn.cons rfl (fun K hK => ?_) ?_
        · skip
          go_simp
          gi_wp2_with (refine ⟨trivial, ?_⟩; gi_at_call 15; refine (CallsIn.inRound lp (callsIn_wide.2 (HC.out _ (by first | (with_reducible exact Below.refl _ _) | (with_reducible exact hdw))))).mono ?_; rintro e w1 ⟨v1, rfl, o1, f1, hb1', hb1⟩; obtain ⟨a1, cp1, hv1, _⟩ := o1.form; rw [bc_len] at hv1; subst hv1; have k0 := q0.below hb1; have k1 := q1.below hb1; have e0 := k0.cell (j := 0) rfl; have e1 := (k0.below (below_alloc w1 (.cells #[.slice a1 xl.length cp1] 22))).cell (j := 0) rfl)
          refine wpAnyIn_ready (rs := [3]) (by kernel_rfl) (by simp) ?_
          refine AllReadyIn.cons rfl (fun K hK => ?_) ?_
          · skip
            go_simp
            refine hK _ _ ?_
            clear hK K
            refine wpAnyIn_ready (rs := [4]) (by kernel_rfl) (by simp) ?_
            refine AllReadyIn.cons rfl (fun K hK => ?_) ?_
            · skip
              refine stepIn_list (by rfl) _ _ (by rfl) (.slice av vs.length cv) vs (by rfl) (k1.below (below_alloc w1 _)) (.slice (some ⟨w1.heap.size, 0, none⟩) 1 1) [.slice a1 xl.length cp1] (by rfl) (own_elem w1 _ 22).rdv (by intro y hy; simp at hy; subst hy; rfl) (by simp only [List.length_cons, List.length_nil]; omega) ?_
              intro v2 w2 happ
              obtain ⟨a2, cp2, hv2, _⟩ := happ.own.form
              subst hv2
              have z2 := (k0.below (below_alloc w1 (.cells #[.slice a1 xl.length cp1] 22))).grown happ.grown (own_row_nQ (k0.below (below_alloc w1 (.cells #[.slice a1 xl.length cp1] 22))) (k1.below (below_alloc w1 _)) (by decide))
              have d0 := z2.cell (j := 0) rfl
              have f0 := z2.frozen 0
              refine hK _ _ ?_
              clear hK K
              refine wpAnyIn_ready (rs := [5]) (by kernel_rfl) (by simp) ?_
              refine AllReadyIn.cons rfl (fun K hK => ?_) ?_
              · skip
                go_simp
                refine hK _ _ ?_
                clear hK K
                refine wpAnyIn_done (by kernel_rfl) ?_ _
                have R := cutStep hB q1 q2 q3 q4 hb1 o1 f1 happ z2
                rw [← show _ = _ from HM] at R
                simp only [List.length_append, List.length_cons, List.length_nil, Nat.zero_add] at R
                exact R
              exact AllReadyIn.nil
            exact AllReadyIn.nil
          exact AllReadyIn.nil
        exact AllReadyIn.nil
      refine AllReadyIn.cons rfl (fun K hK => ?_) ?_
      · skip
        go_simp
        gi_wp2_with (refine ⟨trivial, ?_⟩; gi_at_call 15; refine (CallsIn.inRound lp (callsIn_wide.2 (HC.out _ (by first | (with_reducible exact Below.refl _ _) | (with_reducible exact hdw))))).mono ?_; rintro e w1 ⟨v1, rfl, o1, f1, hb1', hb1⟩; obtain ⟨a1, cp1, hv1, _⟩ := o1.form; rw [bc_len] at hv1; subst hv1; have k0 := q0.below hb1; have k1 := q1.below hb1; have e0 := k0.cell (j := 0) rfl; have e1 := (k0.below (below_alloc w1 (.cells #[.slice a1 xl.length cp1] 22))).cell (j := 0) rfl)
        refine wpAnyIn_ready (rs := [0, 3]) (by kernel_rfl) (by simp) ?_
        refine AllReadyIn.cons rfl (fun K hK => ?_) ?_
        · skip
          go_simp
          refine hK _ _ ?_
          clear hK K
          refine wpAnyIn_ready (rs := [3]) (by kernel_rfl) (by simp) ?_
          refine AllReadyIn.cons rfl (fun K hK => ?_) ?_
          · skip
            go_simp
            refine hK _ _ ?_
            clear hK K
            refine wpAnyIn_ready (rs := [4]) (by kernel_rfl) (by simp) ?_
            refine AllReadyIn.cons rfl (fun K hK => ?_) ?_
            · skip
              refine stepIn_list (by rfl) _ _ (by rfl) (.slice av vs.length cv) vs (by rfl) (k1.below (below_alloc w1 _)) (.slice (some ⟨w1.heap.size, 0, none⟩) 1 1) [.slice a1 xl.length cp1] (by rfl) (own_elem w1 _ 22).rdv (by intro y hy; simp at hy; subst hy; rfl) (by simp only [List.length_cons, List.length_nil]; omega) ?_
              intro v2 w2 happ
              obtain ⟨a2, cp2, hv2, _⟩ := happ.own.form
              subst hv2
              have z2 := (k0.below (below_alloc w1 (.cells #[.slice a1 xl.length cp1] 22))).grown happ.grown (own_row_nQ (k0.below (below_alloc w1 (.cells #[.slice a1 xl.length cp1] 22))) (k1.below (below_alloc w1 _)) (by decide))
              have d0 := z2.cell (j := 0) rfl
              have f0 := z2.frozen 0
              refine hK _ _ ?_
              clear hK K
              refine wpAnyIn_ready (rs := [5]) (by kernel_rfl) (by simp) ?_
              refine AllReadyIn.cons rfl (fun K hK => ?_) ?_
              · skip
                go_simp
                refine hK _ _ ?_
                clear hK K
                refine wpAnyIn_done (by kernel_rfl) ?_ _
                have R := cutStep hB q1 q2 q3 q4 hb1 o1 f1 happ z2
                rw [← show _ = _ from HM] at R
                simp only [List.length_append, List.length_cons, List.length_nil, Nat.zero_add] at R
                exact R
              exact AllReadyIn.nil
            exact AllReadyIn.nil
          exact AllReadyIn.nil
        refine AllReadyIn.cons rfl (fun K hK => ?_) ?_
        · skip
          go_simp
          refine hK _ _ ?_
          clear hK K
          refine wpAnyIn_ready (rs := [0]) (by kernel_rfl) (by simp) ?_
          refine AllReadyIn.cons rfl (fun K hK => ?_) ?_
          · skip
            go_simp
            refine hK _ _ ?_
            clear hK K
            refine wpAnyIn_ready (rs := [4]) (by kernel_rfl) (by simp) ?_
            refine AllReadyIn.cons rfl (fun K hK => ?_) ?_
            · skip
              refine stepIn_list (by rfl) _ _ (by rfl) (.slice av vs.length cv) vs (by rfl) (k1.below (below_alloc w1 _)) (.slice (some ⟨w1.heap.size, 0, none⟩) 1 1) [.slice a1 xl.length cp1] (by rfl) (own_elem w1 _ 22).rdv (by intro y hy; simp at hy; subst hy; rfl) (by simp only [List.length_cons, List.length_nil]; omega) ?_
              intro v2 w2 happ
              obtain ⟨a2, cp2, hv2, _⟩ := happ.own.form
              subst hv2
              have z2 := (k0.below (below_alloc w1 (.cells #[.slice a1 xl.length cp1] 22))).grown happ.grown (own_row_nQ (k0.below (below_alloc w1 (.cells #[.slice a1 xl.length cp1] 22))) (k1.below (below_alloc w1 _)) (by decide))
              have d0 := z2.cell (j := 0) rfl
              have f0 := z2.frozen 0
              refine hK _ _ ?_
              clear hK K
              refine wpAnyIn_ready (rs := [5]) (by kernel_rfl) (by simp) ?_
              refine AllReadyIn.cons rfl (fun K hK => ?_) ?_
              · skip
                go_simp
                refine hK _ _ ?_
                clear hK K
                refine wpAnyIn_done (by kernel_rfl) ?_ _
                have R := cutStep hB q1 q2 q3 q4 hb1 o1 f1 happ z2
                rw [← show _ = _ from HM] at R
                simp only [List.length_append, List.length_cons, List.length_nil, Nat.zero_add] at R
                exact R
              exact AllReadyIn.nil
            exact AllReadyIn.nil
          exact AllReadyIn.nil
        exact AllReadyIn.nil
      exact AllReadyIn.nil
    exact AllReadyIn.nil
  case done =>
    rintro D ys W hD hS ⟨⟨v, vs, q0, q1, q2, q3, q4⟩, hB⟩ hK
    have c0 := q0.cell (j := 0) rfl
    gi_wp2
    refine ⟨by simp, .inl ⟨_, _, rfl, run_takeDeferred hK, ?_⟩⟩
    have hg := grownBy_putObj' W D (.deferred none)
    have hr : ∀ r, (some D : Option Nat) = some r → ∃ o : Obj, W.heap[r]? = some o ∧ o.isCells = false := fun r e => by cases e; exact ⟨_, hK, rfl⟩
    have hq : Els W vs (pcs l) := by rw [← hS]; exact q2
    exact ⟨_, results_tmp rfl _ _ _, v, vs, rfl, q1.abides hg hr, hq.mono fun _ _ ho => ho.abides hg hr, q3, q4, hB.trans (belowK_b (n₀ := w.heap.size) (w := W0) (by omega) W D _ _ hD hK rfl rfl)⟩
  case stop =>
    rintro D c pre W _ _ hf _
    exact hf.elim
end Go.Proofs.YtejkkhlblnepeaaDoor
end

section
set_option linter.unusedVariables false
set_option linter.unusedSimpArgs false
namespace Go.Proofs.YtejkkhlblnepeaaDoor
open Go.RowKit Oct

/-- One text more. -/
theorem pcsPush {w w0 w1 w2 : World} {o o1 o2 : Value} {us : List Value} {ll : List (List Int)} {l : List Int} (hown : Own w0 22 o us) (hels : Els w0 us ll) (hfr : Fr w.heap.size o) (hfu : ∀ c ∈ us, Fr w.heap.size c) (hbel : Below w.heap.size w w0)
    (hown1 : Own w1 5 o1 (bc l)) (hfr1 : Fr w0.heap.size o1) (hb1 : Below w0.heap.size w0 w1) (happ : App (w1.alloc (.cells #[o1] 22)) 22 o w2 o2 (us ++ [o1])) :
    Own w2 22 o2 (us ++ [o1]) ∧ Els w2 (us ++ [o1]) (ll ++ [l]) ∧ Fr w.heap.size o2 ∧ (∀ c ∈ us ++ [o1], Fr w.heap.size c) ∧ Below w.heap.size w w2 := by
  have ha := below_alloc w1 (.cells #[o1] 22)
  have hs := hbel.size
  have h01 := below_and hb1 (Nat.le_refl _) ha
  have hs1 := h01.size
  refine ⟨happ.own, ((hels.below h01).snoc (hown1.below ha)).app (hown.below h01) happ, happ.fr hfr (by omega), ?_, (below_and hbel (Nat.le_refl _) h01).trans (happ.below hfr (by omega))⟩
  intro c hc
  rcases List.mem_append.1 hc with hc | hc
  · exact hfu c hc
  · rw [List.mem_singleton.1 hc]; exact hfr1.mono hs

set_option maxRecDepth 10000 in
set_option maxHeartbeats 2000000 in
/-- catenaryref10.Cut. -/
theorem refCut_any (w : World) (bv : Value) (l : List Int) (h : Rd w bv l) (hl : l.length ≤ 100000000) :
    Calls Tryd.prog 7 #[bv] w fun e w' => ∃ v vs, e = .returned v ∧ Own w' 22 v vs ∧ Els w' vs (pcs l) ∧ Fr w.heap.size v ∧ (∀ c ∈ vs, Fr w.heap.size c) ∧ Below w.heap.size w w' := by
  have W1 := below_alloc w (.cells #[] 22)
  by_cases hK : l.length ≤ 256
  · obtain ⟨ao, cap, rfl, hcap⟩ := h.form
    have hn0 : nP l.length = 0 := by unfold nP; omega
    have hp : pcs l = [l] := by unfold pcs; rw [hn0]; simp [pc]; exact List.take_of_length_le hK
    have hKi : decide ((256 : Int) < (l.length : Int)) = false := by simp; omega
    have HP := (show Hid (_) from hp)
    obtain ⟨W0, hW0⟩ : ∃ W0, W0 = w.alloc (.cells #[] 22) := ⟨_, rfl⟩
    have z0 := own_zerol w 22
    rw [← hW0] at W1 z0
    have hrd := h.below W1
    clear hp hn0 hK
    go_enter Tryd.func7, Tryd.ntmps7
    go_wp2_with fail
    rw [← hW0]
    clear hW0
    refine wp_loop_rounds 1 ?_; rw [rounds_succ]
    go_wp2_with (first
      | (at_builtin; refine app_copy rfl _ _ rfl rfl _ l rfl hrd (by omega) ?_; intro o1 w1 hown1 hfr1 hb1; obtain ⟨oa, oc, rfl, hoc⟩ := hown1.form)
      | (at_builtin; refine app_list rfl _ _ rfl _ [] rfl ((z0.below hb1).below (below_alloc w1 (.cells #[.slice oa (bc l).length oc] 22))) _ [.slice oa (bc l).length oc] rfl (own_elem w1 (.slice oa (bc l).length oc) 22).rdv (fun u hu => by rw [List.mem_singleton.1 hu]; exact hown1.oneCell) (by simp only [List.length_cons, List.length_nil]; omega) ?_; intro o2 w2 happ))
    obtain ⟨r1, r2, r3, r4, r5⟩ := pcsPush (w := w) z0 (ll := []) trivial (fr_at _ _ _ _ (Nat.le_refl _)) (fun c hc => by cases hc) W1 hown1 hfr1 hb1 happ
    go_ret
    exact ⟨_, _, rfl, r1, by rw [HP.out]; exact r2, r3, r4, r5⟩
  · obtain ⟨bb, off, cap, rfl, hc1, hc2, hbb, hcell⟩ := h.at (by omega)
    have HR := (show Hid (∀ q m c, 256 * q + m ≤ l.length → m ≤ c → c ≤ maxLen → Rd w (.slice (some ⟨bb, off + 256 * q, none⟩) m c) ((l.drop (256 * q)).take m)) from fun q m c h1 h2 h3 => Rd.part h.1 hcell (256 * q) m h1 c h2 h3)
    clear hcell h
    go_enter Tryd.func7, Tryd.ntmps7
    go_wp2_with fail
    go_loopw [3, 0] (fun o v wr => ∃ (q : Nat) (us : List Value), q ≤ nP l.length ∧ v = .slice (some ⟨bb, off + 256 * q, none⟩) (l.length - 256 * q) (cap - 256 * q) ∧ Own wr 22 o us ∧ Els wr us ((List.range q).map (pc l)) ∧ Fr w.heap.size o ∧ (∀ c ∈ us, Fr w.heap.size c) ∧ Below w.heap.size w wr) (fun _ v _ => slLen v)
    case atStart => exact ⟨0, [], Nat.zero_le _, by simp, own_zerol _ _, trivial, fr_at _ _ _ _ (Nat.le_refl _), (fun c hc => by cases hc), below_alloc _ _⟩
    case round =>
      obtain ⟨q, us, hq, rfl, hown, hels, hfr, hfu, hbel⟩ := hrel
      have hul : us.length ≤ 100000000 := by
        have := hels.len
        rw [List.length_map, List.length_range] at this
        unfold nP at hq
        omega
      obtain ⟨m, hm⟩ : ∃ m, m = l.length - 256 * q := ⟨_, rfl⟩
      obtain ⟨c, hcc⟩ : ∃ c, c = cap - 256 * q := ⟨_, rfl⟩
      obtain ⟨o, ho⟩ : ∃ o, o = off + 256 * q := ⟨_, rfl⟩
      by_cases hql : q < nP l.length
      · have hm2 : 256 < m := by unfold nP at hql; omega
        have hrd : Rd wr (.slice (some ⟨bb, o, none⟩) 256 c) (pc l q) := by
          have := (HR.out q 256 c (by omega) (by omega) (by omega)).below hbel
          rw [← ho] at this
          exact this
        have hnx : Value.slice (some ⟨bb, o + 256, none⟩) (m - 256) (c - 256) = .slice (some ⟨bb, off + 256 * (q + 1), none⟩) (l.length - 256 * (q + 1)) (cap - 256 * (q + 1)) := by
          rw [show off + 256 * (q + 1) = o + 256 by omega, show l.length - 256 * (q + 1) = m - 256 by omega, show cap - 256 * (q + 1) = c - 256 by omega]
        have hcm : m ≤ c := by omega
        have hpl : (pc l q).length = 256 := by unfold pc; rw [List.length_take, List.length_drop]; omega
        rw [← hm, ← hcc, ← ho]
        have HNX := (show Hid (_) from hnx)
        have HPL := (show Hid (q < nP l.length ∧ (pc l q).length = 256) from ⟨hql, hpl⟩)
        have HPS := (show Hid ((List.range (q + 1)).map (pc l) = (List.range q).map (pc l) ++ [pc l q]) by show _ = _; rw [List.range_succ, List.map_append]; rfl)
        have hi : (256 : Int) < (m : Int) := by omega
        have hmx : (m : Int) ≤ 9223372036854775807 := by omega
        have hlp : (pc l q).length ≤ 256 := by omega
        generalize pc l q = p at hrd HPL HPS hlp
        clear hnx hm hcc ho hpl hc1 hql
        go_wp2_with (first
          | (at_builtin; refine app_copy rfl _ _ rfl rfl _ p rfl hrd (by omega) ?_; intro o1 w1 hown1 hfr1 hb1; obtain ⟨oa, oc, rfl, hoc⟩ := hown1.form)
          | (at_builtin; refine app_list rfl _ _ rfl u3 us rfl ((hown.below hb1).below (below_alloc w1 (.cells #[.slice oa (bc p).length oc] 22))) _ [.slice oa (bc p).length oc] rfl (own_elem w1 (.slice oa (bc p).length oc) 22).rdv (fun u hu => by rw [List.mem_singleton.1 hu]; exact hown1.oneCell) (by simp only [List.length_cons, List.length_nil]; omega) ?_; intro o2 w2 happ))
        obtain ⟨r1, r2, r3, r4, r5⟩ := pcsPush (w := w) hown hels hfr hfu hbel hown1 hfr1 hb1 happ
        rw [← HPS.out] at r2
        clear happ hown1 hfr1 hb1 hels hown hrd
        go_wp2_with fail
        go_roundw
        case rel => exact ⟨q + 1, _, by have := HPL.out.1; omega, HNX.out, r1, r2, r3, r4, r5⟩
        case measure => simp [slLen]; omega
      · have hqe : q = nP l.length := by omega
        have hm2 : m ≤ 256 := by rw [hm, hqe]; unfold nP; omega
        have hqL : 256 * q ≤ l.length := by rw [hqe]; unfold nP; omega
        have hrd : Rd wr (.slice (some ⟨bb, o, none⟩) m c) (pc l q) := by
          have := (HR.out q m c (by omega) (by omega) (by omega)).below hbel
          rw [← ho] at this
          have e : (l.drop (256 * q)).take m = pc l q := by
            unfold pc
            rw [List.take_of_length_le (by rw [List.length_drop]; omega), List.take_of_length_le (by rw [List.length_drop]; omega)]
          rw [e] at this
          exact this
        rw [← hm, ← hcc, ← ho]
        have hlp := pc_le l q
        have HPS := (show Hid (pcs l = (List.range q).map (pc l) ++ [pc l q]) by show _ = _; unfold pcs; rw [← hqe, List.range_succ, List.map_append]; rfl)
        have hi : decide ((256 : Int) < (m : Int)) = false := by simp; omega
        generalize pc l q = p at hrd HPS hlp
        clear hm hcc ho hc1 hqe
        go_wp2_with (first
          | (at_builtin; refine app_copy rfl _ _ rfl rfl _ p rfl hrd (by omega) ?_; intro o1 w1 hown1 hfr1 hb1; obtain ⟨oa, oc, rfl, hoc⟩ := hown1.form)
          | (at_builtin; refine app_list rfl _ _ rfl u3 us rfl ((hown.below hb1).below (below_alloc w1 (.cells #[.slice oa (bc p).length oc] 22))) _ [.slice oa (bc p).length oc] rfl (own_elem w1 (.slice oa (bc p).length oc) 22).rdv (fun u hu => by rw [List.mem_singleton.1 hu]; exact hown1.oneCell) (by simp only [List.length_cons, List.length_nil]; omega) ?_; intro o2 w2 happ))
        obtain ⟨r1, r2, r3, r4, r5⟩ := pcsPush (w := w) hown hels hfr hfu hbel hown1 hfr1 hb1 happ
        go_ret
        exact ⟨_, _, rfl, r1, by rw [HPS.out]; exact r2, r3, r4, r5⟩

/-- snap.Join. -/
theorem join_any (w : World) (v : Value) (ll : List (List Int)) (hv : Rdl w v ll) (hl : 0 < ll.length) (hn : ll.length ≤ 1000000) (hm : ll.flatten.length ≤ 100000000) :
    Calls Tryd.prog 11 #[v] w fun e w' => ∃ v', e = .returned v' ∧ Own w' 5 v' (bc ll.flatten) ∧ Fr w.heap.size v' ∧ Below w.heap.size w w' := by
  have hC := concat_all w v ll hv hl hn hm
  go_enter Tryd.func11, Tryd.ntmps11
  go_wp2_with fail
  refine hC.mono ?_
  rintro e w1 ⟨v1, rfl, h1, h2, h3⟩
  go_wp2_with fail
  go_ret
  exact ⟨_, rfl, h1, h2, h3⟩

def dgL (l : List Int) : List Int := digL (sL ⟨#[115, 116, 97, 116, 101]⟩) [l]
theorem digestN_any (w : World) (bv : Value) (l : List Int) (h : Rd w bv l) (hl : tot [l] ≤ 4000000) (hT : Tab w) :
    Calls Tryd.prog 9 #[bv] w fun e w' => ∃ v', e = .returned v' ∧ Own w' 5 v' (bc (dgL l)) ∧ Fr w.heap.size v' ∧ Below w.heap.size w w' := by
  obtain ⟨ab, cb, rfl, hcb⟩ := h.form
  have ha := below_alloc w (.cells #[.slice ab l.length cb] 22)
  have hC := digest_any (w.alloc (.cells #[.slice ab l.length cb] 22)) ⟨#[115, 116, 97, 116, 101]⟩ _ [l] ⟨[_], (own_elem w _ 22).rdv, h.below ha, trivial⟩ (by decide) hl (hT.below ha)
  go_enter Tryd.func9, Tryd.ntmps9
  go_wp2_with fail
  refine hC.mono ?_
  rintro e w1 ⟨v1, rfl, h1, h2, h3⟩
  go_wp2_with fail
  go_ret
  exact ⟨_, rfl, h1, h2.mono ha.size, below_and ha (Nat.le_refl _) h3⟩
theorem refDigestN_any (w : World) (bv : Value) (l : List Int) (h : Rd w bv l) (hl : tot [l] ≤ 4000000) :
    Calls Tryd.prog 10 #[bv] w fun e w' => ∃ v', e = .returned v' ∧ Own w' 5 v' (bc (dgL l)) ∧ Fr w.heap.size v' ∧ Below w.heap.size w w' := by
  obtain ⟨ab, cb, rfl, hcb⟩ := h.form
  have ha := below_alloc w (.cells #[.slice ab l.length cb] 22)
  have hC := refDigest_any (w.alloc (.cells #[.slice ab l.length cb] 22)) ⟨#[115, 116, 97, 116, 101]⟩ _ [l] ⟨[_], (own_elem w _ 22).rdv, h.below ha, trivial⟩ (by decide) hl
  go_enter Tryd.func10, Tryd.ntmps10
  go_wp2_with fail
  refine hC.mono ?_
  rintro e w1 ⟨v1, rfl, h1, h2, h3⟩
  go_wp2_with fail
  go_ret
  exact ⟨_, rfl, h1, h2.mono ha.size, below_and ha (Nat.le_refl _) h3⟩
end Go.Proofs.YtejkkhlblnepeaaDoor
end

section
set_option linter.unusedVariables false
set_option linter.unusedSimpArgs false
namespace Go.Proofs.YtejkkhlblnepeaaDoor
open Go.RowKit Oct Kvl

theorem xor_rngV {y : Int} (h : 0 ≤ y ∧ y ≤ 255) : 0 ≤ bits .xor .u8 y 255 ∧ bits .xor .u8 y 255 ≤ 255 := by
  rw [u8_xor y 255 h.1 (by omega) (by decide) (by decide)]
  have : y.toNat ^^^ (255 : Int).toNat < 2 ^ 8 := Nat.xor_lt_two_pow (by omega) (by decide)
  omega
theorem Own.at_byteV {w : World} {v : Value} {l : List Int} (h : Own w 5 v (bc l)) {j : Nat} (hj : j < l.length) :
    ∃ (k cap : Nat) (cur : List Value) (y : Int), v = .slice (some ⟨k, 0, none⟩) l.length cap ∧ l.length ≤ cap ∧ cap ≤ maxLen ∧ Row w k 5 cur ∧ j < cur.length ∧ cur[j]? = some (.int .u8 y) ∧ l[j]? = some y ∧
      ∀ (w' : World) (x : Int), Row w' k 5 (cur.set j (.int .u8 x)) → Own w' 5 v (bc (l.set j x)) := by
  obtain ⟨h1, h2⟩ := h
  rcases h2 with ⟨_, h3⟩ | ⟨k, cap, cur, e, h0, hh, n1, n2, n3, n4⟩
  · rw [bc_len] at h3; omega
  · have e' : v = .slice (some ⟨k, 0, none⟩) (bc l).length cap := e
    rw [bc_len] at e'
    have hy : (bc l)[j]? = some (.int .u8 l[j]) := by rw [bc_at, List.getElem?_eq_getElem hj]; rfl
    rw [← n4, List.getElem?_take] at hy
    rw [bc_len] at n1 hy
    split at hy
    · refine ⟨k, cap, cur.toList, l[j], e', by omega, n2, by unfold Row; simpa using hh, (List.getElem?_eq_some_iff.1 hy).1, hy, List.getElem?_eq_getElem hj, fun w' x hr => ?_⟩
      have hbc : bc (l.set j x) = (bc l).set j (.int .u8 x) := by unfold bc; rw [List.map_set]
      have hn : (bc (l.set j x)).length = (bc l).length := by rw [hbc, List.length_set]
      show World.ownsRow _ 0 _ 1 _ (bc (l.set j x)).length _
      rw [hn, hbc]
      refine ⟨by simp, .inr ⟨k, cap, (cur.toList.set j (.int .u8 x)).toArray, e, h0, hr, by rw [bc_len]; exact n1, n2, by simpa using n3, ?_⟩⟩
      rw [List.toList_toArray, List.take_set, n4]
    · cases hy
theorem els_grownO {w w' : World} {B : Nat} {o : Option Nat} (hg : w.grownBy w' o) (hb : ∀ b, o = some b → b < B) : ∀ {vs : List Value} {ll : List (List Int)}, Els w vs ll → (∀ c ∈ vs, Fr B c) → Els w' vs ll
  | [], [], _, _ => trivial
  | [], _ :: _, h, _ => h.elim
  | _ :: _, [], h, _ => h.elim
  | v :: vs, l :: ll, h, hf => ⟨Own.grown h.1 hg (fun k hk e => by have := hb k hk; have := hf v (by simp) k e; omega), els_grownO hg hb h.2 (fun c hc => hf c (by simp [hc]))⟩
theorem pcs_byts {l : List Int} (h : Byt l) : Byts (pcs l) := by
  intro p hp x hx
  obtain ⟨i, _, rfl⟩ := List.mem_map.1 hp
  exact h x (List.mem_of_mem_drop (List.mem_of_mem_take hx))

theorem wr64_in (n : Int) (h : -9223372036854775808 ≤ n ∧ n ≤ 9223372036854775807) : wrap64 n = n := by unfold wrap64; omega
theorem max_num {N : Nat} (h : N ≤ 1048576) : wrap64 ((wrap64 (N + 255)).tdiv 256) = ((N + 255) / 256 : Nat) := by
  rw [wr64_in (N + 255) (by omega), show ((N : Int) + 255) = ((N + 255 : Nat) : Int) by omega, show (256 : Int) = ((256 : Nat) : Int) by rfl, ← Int.ofNat_tdiv]
  exact wr64_in _ (by omega)

set_option maxRecDepth 10000 in
set_option maxHeartbeats 1000000 in
theorem piecesN_any (w : World) (bv : Value) (l : List Int) (h : Rd w bv l) (hl : l.length ≤ 1048576) (hT : Tab w) :
    Calls Tryd.prog 3 #[bv] w fun e w' => e = .returned (.bool true) ∧ Below w.heap.size w w' := by
  have le := Nat.le_refl w.heap.size
  have hA := snapAlive_any w
  have hby := h.1
  obtain ⟨ab, cb, rfl, hcb⟩ := h.form
  have HRD := (show Hid (∀ u, Below w.heap.size w u → Rd u (.slice ab l.length cb) l) from fun u hu => h.below hu)
  have HTB := (show Hid (∀ u, Below w.heap.size w u → Tab u) from fun u hu => hT.below hu)
  have htt : tot [l] ≤ 4000000 := by simp [tot]; omega
  have hpb := pcs_byts hby
  have HPB := (show Hid (Byts (pcs l)) from hpb)
  have hdb : Byt (dgL l) := shaL_byt _
  have HDB := (show Hid (_) from hdb)
  clear hT hpb hdb
  go_enter Tryd.func3, Tryd.ntmps3
  go_upto_region 3 with (go_at_call 4; refine hA.mono ?_; rintro e w1 ⟨rfl, B1⟩)
  have h1 := h.below B1
  clear hA h
  go_upto_region 4 with (at_builtin; refine app_copy rfl _ _ rfl rfl _ l rfl h1 (by omega) ?_; intro v3 w3 ho3 hf3 hb3)
  obtain ⟨ao, co, hvo, hco⟩ := ho3.form
  rw [bc_len] at hvo
  subst hvo
  have B3 := below_and B1 le hb3
  have hC := cut_any w3 _ l (ho3.rd hby) (by omega)
  have hol := ho3.lt
  clear h1 hb3
  go_upto_region 5 with (go_at_call 5; refine hC.mono ?_; rintro e w4 ⟨v4, vs, rfl, q1, q2, q3, q4, hb4⟩)
  have hvl : vs.length = nP l.length + 1 := by have := q2.len; rw [pcs_len] at this; exact this
  obtain ⟨b4, off4, cap4, hv4, hc41, hc42, hb4l, hcell4⟩ := q1.rdv.at (by omega)
  subst hv4
  have B4 := below_and B3 le hb4
  have hR := refCut_any w4 _ l (HRD.out w4 B4) (by omega)
  have ho4 := ho3.below hb4
  have b34 := hb4.size
  have HVL := (show Hid (vs.length = nP l.length + 1) from hvl)
  clear hC hvl
  go_wp2_with fail
  refine hR.mono ?_
  rintro e w5 ⟨v5, us, rfl, r1, r2, _, _, hb5⟩
  have B5 := below_and B4 le hb5
  have hS := sameList_any w5 _ v5 (pcs l) (pcs l) ((q2.below hb5).rdl (q1.below hb5) HPB.out) (r2.rdl r1 HPB.out) (by rw [pcs_len]; unfold nP; omega)
  rw [decide_eq_true rfl] at hS
  clear hR
  go_wp2_with fail
  refine hS.mono ?_
  rintro e w6 ⟨rfl, hb6⟩
  have B6 := below_and B5 le hb6
  have h46 := below_and hb5 (Nat.le_refl _) hb6
  have hD := digestN_any w6 _ l ((ho4.below h46).rd hby) htt (HTB.out w6 B6)
  clear hS r1 r2
  go_wp2_with fail
  refine hD.mono ?_
  rintro e w7 ⟨v7, rfl, d1, _, hb7⟩
  have B7 := below_and B6 le hb7
  have hE := refDigestN_any w7 _ l (HRD.out w7 B7) htt
  clear hD
  go_wp2_with fail
  refine hE.mono ?_
  rintro e w8 ⟨v8, rfl, e1, _, hb8⟩
  have B8 := below_and B7 le hb8
  have h48 := below_and (below_and h46 (Nat.le_refl _) hb7) (Nat.le_refl _) hb8
  have hQ := same_any w8 v7 v8 (dgL l) (dgL l) ((d1.below hb8).rd HDB.out) (e1.rd HDB.out)
  rw [decide_eq_true rfl] at hQ
  clear hE
  go_wp2_with fail
  refine hQ.mono ?_
  rintro e w8 ⟨rfl, rfl⟩
  have hJ := join_any w8 _ (pcs l) ((q2.below h48).rdl (q1.below h48) HPB.out) (by rw [pcs_len]; omega) (by rw [pcs_len]; unfold nP; omega) (by rw [pcs_flat]; omega)
  rw [pcs_flat] at hJ
  clear hQ d1 e1
  go_wp2_with fail
  refine hJ.mono ?_
  rintro e w9 ⟨v9, rfl, j1, _, hb9⟩
  have B9 := below_and B8 le hb9
  have h49 := below_and h48 (Nat.le_refl _) hb9
  have hQ := same_any w9 v9 _ l l (j1.rd hby) (HRD.out w9 B9)
  rw [decide_eq_true rfl] at hQ
  clear hJ
  go_wp2_with fail
  refine hQ.mono ?_
  rintro e w9 ⟨rfl, rfl⟩
  have o9 := ho4.below h49
  have q19 := q1.below h49
  have q29 := q2.below h49
  have hof : Fr w.heap.size (Value.slice ao l.length co) := hf3.mono B1.size
  have HC4 := (show Hid (∀ (j : Nat) (u : Value), vs[j]? = some u → w4.cell? ⟨b4, off4 + j, none⟩ = some u) from hcell4)
  obtain ⟨N, hN⟩ : ∃ N, N = l.length := ⟨_, rfl⟩
  have HN := (show Hid (N = l.length) from hN)
  have hNm : (N : Int) ≤ 9223372036854775807 := by omega
  obtain ⟨M, hM⟩ : ∃ M, M = vs.length := ⟨_, rfl⟩
  have HM := (show Hid (M = vs.length ∧ M = nP l.length + 1) from ⟨hM, by rw [hM]; exact HVL.out⟩)
  rw [← hN] at o9 hol hof ⊢
  rw [← hM] at q19 q3 hc41 ⊢
  clear hN hM hcell4 hQ j1 hb9 hb8 hb7 hb6 hb5 ho4 ho3 hf3 q1 q2 h48 h46
  go_wp2_with fail
  go_loopw [37] (fun i wr => ∃ (q : Nat) (lq : List Int), q ≤ N ∧ i = .int .i64 q ∧ Hid (Own wr 5 (.slice ao N co) (bc lq) ∧ lq.length = N ∧ Byt lq) ∧ w9.grownBy wr (Value.slice ao N co).ownBlock) (fun i _ => N - (intOf i).toNat)
  case atStart => exact ⟨0, l, Nat.zero_le _, rfl, ⟨o9, HN.out.symm, hby⟩, grown_of_below (Below.refl _ _) _⟩
  case round =>
    clear o9
    obtain ⟨q, lq, hq, rfl, HO, hgr⟩ := hrel
    by_cases hql : q < N
    · obtain ⟨ho, hlq, hbq⟩ := HO.out
      obtain ⟨k, kc, cur, y, e, k1, k2, k4, k5, k6, k7, k8⟩ := ho.at_byteV (j := q) (by omega)
      injection e with e1 e2 e3
      subst e1 e3
      have c2 := k4.cell k6
      have hy := hbq y (List.mem_of_getElem? k7)
      have hx := xor_rngV hy
      have hqi : (q : Int) < (N : Int) := by omega
      clear e2 k1 k7 ho hbq hlq
      go_wp2_with (refine wl_set rfl _ _ _ rfl k q _ rfl rfl _ _ k4 k5 (by kernel_rfl) rfl ?_; intro w16 hr16 hg16)
      go_roundw
      case rel =>
        obtain ⟨_, hlq, hbq⟩ := HO.out
        refine ⟨q + 1, lq.set q (bits .xor .u8 y 255), by omega, by go_num, ⟨k8 _ _ hr16.out, by rw [List.length_set]; exact hlq, fun z hz => ?_⟩, grown_trans hgr hg16 (.inl rfl)⟩
        rcases List.mem_or_eq_of_mem_set hz with hz | rfl
        · exact hbq z hz
        · exact hx
      case measure => simp [intOf]; omega
    · have hqd : decide ((q : Int) < N) = false := by simp; omega
      have Br : Below w.heap.size w wr := B9.trans (grown_below hgr B9.size (fun k hk => hof k hk))
      have q1r := q19.grown hgr (fun k hk e => by have := hol k hk; have := q3 k e; omega)
      have q2r := els_grownO hgr (B := w3.heap.size) (fun b hb => hol b hb) q29 q4
      have hcr : Hid (∀ (j : Nat) (u : Value), vs[j]? = some u → wr.cell? ⟨b4, off4 + j, none⟩ = some u) := fun j u hu => by
        refine (World.cell?_of_block (w := w4) (w' := wr) (a := ⟨b4, off4 + j, none⟩) ?_).trans (HC4.out j u hu)
        have e9 : w9.heap[b4]? = w4.heap[b4]? := h49.block b4 hb4l
        refine (hgr.block b4 (by have := h49.size; omega) (fun e => ?_)).trans e9
        have h1 := hol b4 e.symm
        have h2 := q3 b4 rfl
        omega
      have hMm : (M : Int) ≤ 9223372036854775807 := by have := HM.out.2; unfold nP at this; omega
      clear hgr HO q19 q29
      go_wp2_with fail
      go_loopw [49] (fun i wz => ∃ k : Nat, k ≤ M ∧ i = .int .i64 k ∧ wz = wr) (fun i _ => M - (intOf i).toNat)
      case atStart => exact ⟨0, Nat.zero_le _, rfl, rfl⟩
      case round =>
        obtain ⟨k, hk, rfl, rfl⟩ := hrel
        have hM0 := HM.out
        by_cases hkl : k < M
        · obtain ⟨p, hp⟩ : ∃ p, vs[k]? = some p := ⟨_, List.getElem?_eq_getElem (by omega)⟩
          obtain ⟨x, hx⟩ : ∃ x, (pcs l)[k]? = some x := ⟨_, List.getElem?_eq_getElem (by rw [pcs_len]; omega)⟩
          have hcp := hcr.out k p hp
          obtain ⟨ap, cp, hpe, _⟩ := (q2r.get hp hx).form
          rw [bc_len] at hpe
          subst hpe
          have hx2 := pcs_le l x (List.mem_of_getElem? hx)
          have hki : (k : Int) < (M : Int) := by omega
          have hxd : decide ((256 : Int) < (x.length : Int)) = false := by simp; omega
          clear hp hx hM0
          go_wp2_with fail
          go_roundw
          case rel => exact ⟨k + 1, by omega, by go_num, by first | rfl | trivial⟩
          case measure => simp [intOf]; omega
        · have hkd : decide ((k : Int) < M) = false := by simp; omega
          have hJ := join_any _ _ (pcs l) (q2r.rdl q1r HPB.out) (by rw [pcs_len]; omega) (by rw [pcs_len]; unfold nP; omega) (by rw [pcs_flat]; omega)
          rw [pcs_flat] at hJ
          clear hM0
          go_wp2_with fail
          refine hJ.mono ?_
          rintro e w20 ⟨v20, rfl, j1, _, hb20⟩
          have B20 := below_and Br le hb20
          have hQ := same_any w20 v20 _ l l (j1.rd hby) (HRD.out w20 B20)
          rw [decide_eq_true rfl] at hQ
          rw [← HN.out] at hQ
          have HMX := (show Hid (wrap64 ((wrap64 (N + 255)).tdiv 256) = ((N + 255) / 256 : Nat)) from max_num (by rw [HN.out]; exact hl))
          clear hJ
          go_wp2_with fail
          refine hQ.mono ?_
          rintro e w20 ⟨rfl, rfl⟩
          clear hQ
          go_wp2_with fail
          case inl h =>
            have hv : ((M : Int) == 1) = true := by
              rw [show _ = _ from HMX] at h
              have := HM.out.2
              have := HN.out
              unfold nP at *
              simp
              omega
            rw [hv]
            go_ret
            exact ⟨rfl, B20⟩
          case inr h =>
            have hv : ((M : Int) == wrap64 ((wrap64 (N + 255)).tdiv 256)) = true := by
              rw [show _ = _ from HMX] at h ⊢
              have := HM.out.2
              have := HN.out
              unfold nP at *
              simp
              omega
            rw [hv]
            go_ret
            exact ⟨rfl, B20⟩
end Go.Proofs.YtejkkhlblnepeaaDoor
end
