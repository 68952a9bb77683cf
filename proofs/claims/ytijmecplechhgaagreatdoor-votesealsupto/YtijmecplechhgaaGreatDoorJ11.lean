/- catenaryref02.Block. -/
import Derived.Test.YtijmecplechhgaaGreatDoorJ10
import Derived.Test.YtijmecplechhgaaGreatDoorJ09
import Derived.Test.YtijmecplechhgaaGreatDoorM3
import Derived.Lib.SliceRun
import Derived.Test.YtijmecplechhgaaGreatDoorJ02
section
set_option linter.unusedVariables false
set_option linter.unusedSimpArgs false
namespace Go.Proofs.YtijmecplechhgaaGreatDoor
open Go.RowKit Oct

theorem one_RIntS {G : Nat → Prop} {w : World} {r : List Value} {x : Int} (h : RInt G w r x) : ∀ v ∈ r, v.oneCell' = true := by
  intro v hv
  rw [h] at hv
  simp at hv
  subst hv
  rfl
theorem Tryz.infIntS : (Tryz.prog.info? 3).map (fun i => (i.zero, i.size, i.bytes)) = some (some (.int .i64 0), 1, 8) := by kernel_rfl
set_option maxRecDepth 10000 in
/-- slices.Clone of sessions. -/
theorem scloneIntR_any (w : World) (v : Value) (ys : List Int) (h : RL RInt 1 Any w v ys) (hz : szL 8 (fun _ => True) ys) :
    Calls Tryz.prog 45 #[v] w fun e w' => ∃ v', e = .returned v' ∧ Below w.heap.size w w' ∧ ∃ rows, w'.ownsRow w.heap.size 3 1 v' ys.length rows.flatten ∧ (∀ r ∈ rows, r.length = 1) ∧ All2 (RInt Any w) rows ys := by
  obtain ⟨rows, ⟨h0, h1⟩, h2⟩ := h
  have hlen := h2.len
  have hz1 := hz.1
  have hfl := flat_len h0
  have hone : ∀ u ∈ rows.flatten, u.oneCell' = true := by
    intro u hu
    obtain ⟨r, hr, hur⟩ := List.mem_flatten.1 hu
    obtain ⟨i, hi, rfl⟩ := List.getElem_of_mem hr
    have := h2.get (List.getElem?_eq_getElem hi) (List.getElem?_eq_getElem (by omega))
    exact one_RIntS this u hur
  have hcell : ∀ b off, (∀ (i : Nat) (r : List Value), rows[i]? = some r → w.rangeAt b (off + i * 1) r) → ∀ j u, rows.flatten[j]? = some u → w.cell? ⟨b, off + j, none⟩ = some u := by
    intro b off hr j u hu
    have hj : j < rows.length * 1 := by rw [← hfl]; exact (List.getElem?_eq_some_iff.1 hu).1
    have hi : j / 1 < rows.length := by omega
    have hk := h0 _ (List.getElem_mem hi)
    have hjm : j % 1 < rows[j / 1].length := by omega
    have e1 := flat_at (j := j % 1) h0 (List.getElem?_eq_getElem hi) (List.getElem?_eq_getElem hjm)
    rw [show j / 1 * 1 + j % 1 = j by omega] at e1
    have e2 := hr (j / 1) _ (List.getElem?_eq_getElem hi) (j % 1) _ (List.getElem?_eq_getElem hjm)
    rw [show off + j / 1 * 1 + j % 1 = off + j by omega] at e2
    rw [e1] at hu
    rw [e2, hu]
  have HR := (show Hid (All2 (RInt Any w) rows ys) from h2)
  have HN := (show Hid (rows.flatten.length = rows.length * 1) from hfl)
  have HO := (show Hid (∀ u ∈ rows.flatten, u.oneCell' = true) from hone)
  obtain ⟨i0, hi, hz0, hzs, hzb⟩ := info_parts Tryz.infIntS
  rcases h1 with ⟨ao, cap, rfl, rfl, hcap⟩ | ⟨b, off, cap, rfl, hc1, hc2, hpos, _, hb, hr⟩
  · obtain rfl : ys = [] := List.eq_nil_of_length_eq_zero (by simpa using hlen.symm)
    cases ao with
    | none =>
      have hq : ∀ (n c : Nat) (u : World), (binOp .eql 28 (.slice none 0 cap) (.slice none n c)).run Tryz.prog u = .ok (.bool true) u := fun n c u => Lib.run_eql_slice_nil u 28 3 none 0 cap n c Tryz.underlying28
      go_enter Tryz.func45, Tryz.ntmps45
      go_wp2_with fail
      go_ret
      exact ⟨_, rfl, Below.refl _ _, [], World.ownsRow_nil _ _ _ _, (fun r hr => by cases hr), trivial⟩
    | some a =>
      have hq : ∀ (n c : Nat) (u : World), (binOp .eql 28 (.slice (some a) 0 cap) (.slice none n c)).run Tryz.prog u = .ok (.bool false) u := fun n c u => Lib.run_eql_slice_nil u 28 3 (some a) 0 cap n c Tryz.underlying28
      go_enter Tryz.func45, Tryz.ntmps45
      go_wp2_with (at_builtin; refine wpList_append_own _ rfl _ _ 28 rfl w.heap.size 3 i0 _ 1 8 Tryz.underlying28 hi hz0 hzs hzb rfl (by decide) _ _ _ rfl (World.ownsRow_made w #[] 0 (Nat.le_refl _) (Nat.zero_le _) (by simp)) a 0 cap [] rfl rfl (fun j u hu => by simp at hu) (fun u hu => by cases hu) (by simp) (by simp) (by simp) ?_; intro v' w1 hown hgrow hnil)
      go_ret
      exact ⟨_, rfl, ((Below.refl _ w).alloc (Nat.le_refl _) _).grown hgrow (by simp) (fr_at _ _ _ _ (Nat.le_refl _)), [], by simpa using hown, (fun r hr => by cases hr), trivial⟩
  · have HC := (show Hid (∀ j u, rows.flatten[j]? = some u → w.cell? ⟨b, off + j, none⟩ = some u) from hcell b off hr)
    have hq : ∀ (n c : Nat) (u : World), (binOp .eql 28 (.slice (some ⟨b, off, none⟩) rows.length cap) (.slice none n c)).run Tryz.prog u = .ok (.bool false) u := fun n c u => Lib.run_eql_slice_nil u 28 3 (some ⟨b, off, none⟩) rows.length cap n c Tryz.underlying28
    have hb1 : rows.length * 8 ≤ 140737488355328 := by rw [hlen]; omega
    have hm1 : rows.length ≤ maxLen := by unfold maxLen at *; omega
    have HQ := (show Hid (∀ j u, rows.flatten[j]? = some u → (w.alloc (.cells #[] 3)).cell? ((⟨b, off, none⟩ : Addr).add j) = some u) from fun j u hj => by
      rw [Addr.add_mid]
      exact ((below_alloc w _).cell (p := ⟨b, off + j, none⟩) hb).trans (HC.out j u hj))
    have HL := (show Hid (rows.length = ys.length) from hlen)
    clear hr hcell hfl hone h2 hlen
    go_enter Tryz.func45, Tryz.ntmps45
    go_wp2_with (at_builtin; refine wpList_append_own _ rfl _ _ 28 rfl w.heap.size 3 i0 _ 1 8 Tryz.underlying28 hi hz0 hzs hzb rfl (by decide) _ _ _ rfl (World.ownsRow_made w #[] 0 (Nat.le_refl _) (Nat.zero_le _) (by simp)) ⟨b, off, none⟩ rows.length cap rows.flatten rfl HN.out HQ.out HO.out (by rw [Nat.zero_add]; exact hm1) (by rw [Nat.zero_add]; exact hb1) (by simp) ?_; intro v' w1 hown hgrow hnil)
    go_ret
    exact ⟨_, rfl, ((Below.refl _ w).alloc (Nat.le_refl _) _).grown hgrow (by simp) (fr_at _ _ _ _ (Nat.le_refl _)), rows, by rw [← HL.out]; simpa using hown, h0, HR.out⟩
theorem scloneInts_any (w : World) (v : Value) (ys : List Int) (h : RL RInt 1 Any w v ys) (hz : szL 8 (fun _ => True) ys) :
    Calls Tryz.prog 45 #[v] w fun e w' => ∃ v', e = .returned v' ∧ RL RInt 1 (From w.heap.size) w' v' ys ∧ Below w.heap.size w w' := by
  refine (scloneIntR_any w v ys h hz).mono ?_
  rintro e w' ⟨v', e1, hb, rows, hown, h0, hall⟩
  refine ⟨v', e1, ?_, hb⟩
  have hlen := hall.len
  have hL : LB RInt 3 1 w.heap.size w' v' ys := ⟨rows, h0, by rw [hlen]; exact owns_base hown, fun k hk => (World.ownsRow.lt hown k hk).1, hall.mono fun r a h => h⟩
  exact hL.rl mov_int
set_option maxRecDepth 10000 in
set_option maxHeartbeats 8000000 in
theorem cloneMsgS_any (w : World) (m : PMsg) (s : SV) (hs : SOk Any w m s) (hz : szM m) :
    Calls Tryz.prog 23 #[.agg (mc m s).toArray] w fun e w' => ∃ s', e = .returned (.agg (mc m s').toArray) ∧ SOk (From w.heap.size) w' m s' ∧ Below w.heap.size w w' := by
  obtain ⟨w2, hw2⟩ : ∃ w2, w2 = (w.alloc (.cells (mc m s).toArray 32)).alloc (.cells #[.int .i64 0, .int .i64 0, .int .i64 0, .int .i64 0, .int .i64 0, .int .i64 0, .int .i64 0, .int .i64 0, .int .i64 0, .int .i64 0, .slice none 0 0, .slice none 0 0, .int .i64 0, .int .i64 0, .slice none 0 0, .slice none 0 0, .slice none 0 0, .slice none 0 0, .slice none 0 0, .slice none 0 0, .slice none 0 0, .slice none 0 0, .slice none 0 0] 32) := ⟨_, rfl⟩
  have ra : Row w2 w.heap.size 32 [.int .i64 m.kind, .int .i64 m.bal.1, .int .i64 m.bal.2, .int .i64 m.slot, .int .i64 m.frm, .int .i64 m.to, .int .i64 m.idx, .int .i64 m.cnt, .int .i64 m.req.1, .int .i64 m.req.2.1, s.o, s.g, .int .i64 m.oth.1, .int .i64 m.oth.2.1, s.o', s.g', s.d, s.s, s.c, s.v, s.n, s.p, s.l] := by rw [hw2]; exact rowA (Row.new w 32 (mc m s)) _
  have rr : Row w2 (w.heap.size + 1) 32 [.int .i64 0, .int .i64 0, .int .i64 0, .int .i64 0, .int .i64 0, .int .i64 0, .int .i64 0, .int .i64 0, .int .i64 0, .int .i64 0, .slice none 0 0, .slice none 0 0, .int .i64 0, .int .i64 0, .slice none 0 0, .slice none 0 0, .slice none 0 0, .slice none 0 0, .slice none 0 0, .slice none 0 0, .slice none 0 0, .slice none 0 0, .slice none 0 0] := by
    have h1 : (w.alloc (.cells (mc m s).toArray 32)).heap.size = w.heap.size + 1 := by simp
    rw [hw2, ← h1]
    exact Row.new (w.alloc (.cells (mc m s).toArray 32)) 32 [.int .i64 0, .int .i64 0, .int .i64 0, .int .i64 0, .int .i64 0, .int .i64 0, .int .i64 0, .int .i64 0, .int .i64 0, .int .i64 0, .slice none 0 0, .slice none 0 0, .int .i64 0, .int .i64 0, .slice none 0 0, .slice none 0 0, .slice none 0 0, .slice none 0 0, .slice none 0 0, .slice none 0 0, .slice none 0 0, .slice none 0 0, .slice none 0 0]
  have B : Below w.heap.size w w2 := by rw [hw2]; exact ((Below.refl _ w).alloc (Nat.le_refl _) _).alloc (by simp) _
  have hC : w.heap.size + 2 ≤ w2.heap.size := by rw [hw2]; simp
  go_enter Tryz.func23, Tryz.ntmps23
  go_upto_region 1 with fail
  rw [← hw2]
  clear hw2
  have hI : RReq Any w2 [.int .i64 m.req.1, .int .i64 m.req.2.1, s.o, s.g] (m.req) := ⟨_, _, rfl, hs.o.mv (Mv.below B), hs.g.mv (Mv.below B)⟩
  have hG := cloneReqS_any w2 _ _ hI hz.req
  have hrng : World.rangeAt w2 w.heap.size 8 [.int .i64 m.req.1, .int .i64 m.req.2.1, s.o, s.g] := fun q u hq => ra.cell (j := 8 + q) (by
    match q, hq with
    | 0, hq => exact hq
    | 1, hq => exact hq
    | 2, hq => exact hq
    | 3, hq => exact hq)
  go_upto_region 2 with (first
    | (refine wpList_load_mid rfl _ _ rfl w.heap.size 8 rfl [.int .i64 m.req.1, .int .i64 m.req.2.1, s.o, s.g] _ hrng Tryz.underlying26 rfl (by kernel_rfl) ?_)
    | (go_at_call 42; refine hG.mono ?_; rintro e wa0 ⟨rq0, rfl, hq0, hb0⟩; obtain ⟨a0, b0, rfl, fa0, fb0⟩ := hq0; have rai := ra.below hb0)
    | (refine wl_put rfl _ _ _ rfl w.heap.size 8 [.int .i64 m.req.1, .int .i64 m.req.2.1, a0, b0] rfl rfl _ _ rai (show 12 ≤ 23 by decide) (by kernel_rfl) (one4 fa0.one fb0.one) ?_; intro wb0 rbi hg0))
  clear hrng
  have ra : Row wb0 w.heap.size 32 [.int .i64 m.kind, .int .i64 m.bal.1, .int .i64 m.bal.2, .int .i64 m.slot, .int .i64 m.frm, .int .i64 m.to, .int .i64 m.idx, .int .i64 m.cnt, .int .i64 m.req.1, .int .i64 m.req.2.1, a0, b0, .int .i64 m.oth.1, .int .i64 m.oth.2.1, s.o', s.g', s.d, s.s, s.c, s.v, s.n, s.p, s.l] := rbi.out
  have rr := (rr.below hb0).grown hg0 (fun h => by injection h; omega)
  have fa0 := ((fa0.mv (Mv.weak (L := w.heap.size + 2) hC)).mv (Mv.from hg0 (by omega) (Nat.le_refl _)))
  have fb0 := ((fb0.mv (Mv.weak (L := w.heap.size + 2) hC)).mv (Mv.from hg0 (by omega) (Nat.le_refl _)))
  have B : Below w.heap.size w wb0 := (below_and B (Nat.le_refl _) hb0).trans (grown_below hg0 (below_and B (Nat.le_refl _) hb0).size (fun k hk => by cases hk; exact Nat.le_refl _))
  have hC := Nat.le_trans hC (Nat.le_trans hb0.size hg0.size)
  clear hG hI rai rbi hb0 hg0
  have hI : RReq Any wb0 [.int .i64 m.oth.1, .int .i64 m.oth.2.1, s.o', s.g'] (m.oth) := ⟨_, _, rfl, hs.o'.mv (Mv.below B), hs.g'.mv (Mv.below B)⟩
  have hG := cloneReqS_any wb0 _ _ hI hz.oth
  have hrng : World.rangeAt wb0 w.heap.size 12 [.int .i64 m.oth.1, .int .i64 m.oth.2.1, s.o', s.g'] := fun q u hq => ra.cell (j := 12 + q) (by
    match q, hq with
    | 0, hq => exact hq
    | 1, hq => exact hq
    | 2, hq => exact hq
    | 3, hq => exact hq)
  go_upto_region 3 with (first
    | (refine wpList_load_mid rfl _ _ rfl w.heap.size 12 rfl [.int .i64 m.oth.1, .int .i64 m.oth.2.1, s.o', s.g'] _ hrng Tryz.underlying26 rfl (by kernel_rfl) ?_)
    | (go_at_call 42; refine hG.mono ?_; rintro e wa1 ⟨rq1, rfl, hq1, hb1⟩; obtain ⟨a1, b1, rfl, fa1, fb1⟩ := hq1; have rai := ra.below hb1)
    | (refine wl_put rfl _ _ _ rfl w.heap.size 12 [.int .i64 m.oth.1, .int .i64 m.oth.2.1, a1, b1] rfl rfl _ _ rai (show 16 ≤ 23 by decide) (by kernel_rfl) (one4 fa1.one fb1.one) ?_; intro wb1 rbi hg1))
  clear hrng
  have ra : Row wb1 w.heap.size 32 [.int .i64 m.kind, .int .i64 m.bal.1, .int .i64 m.bal.2, .int .i64 m.slot, .int .i64 m.frm, .int .i64 m.to, .int .i64 m.idx, .int .i64 m.cnt, .int .i64 m.req.1, .int .i64 m.req.2.1, a0, b0, .int .i64 m.oth.1, .int .i64 m.oth.2.1, a1, b1, s.d, s.s, s.c, s.v, s.n, s.p, s.l] := rbi.out
  have rr := (rr.below hb1).grown hg1 (fun h => by injection h; omega)
  have fa0 := ((fa0.mv (Mv.belowF hb1 (Nat.le_refl _))).mv (Mv.from hg1 (by omega) (Nat.le_refl _)))
  have fb0 := ((fb0.mv (Mv.belowF hb1 (Nat.le_refl _))).mv (Mv.from hg1 (by omega) (Nat.le_refl _)))
  have fa1 := ((fa1.mv (Mv.weak (L := w.heap.size + 2) hC)).mv (Mv.from hg1 (by omega) (Nat.le_refl _)))
  have fb1 := ((fb1.mv (Mv.weak (L := w.heap.size + 2) hC)).mv (Mv.from hg1 (by omega) (Nat.le_refl _)))
  have B : Below w.heap.size w wb1 := (below_and B (Nat.le_refl _) hb1).trans (grown_below hg1 (below_and B (Nat.le_refl _) hb1).size (fun k hk => by cases hk; exact Nat.le_refl _))
  have hC := Nat.le_trans hC (Nat.le_trans hb1.size hg1.size)
  clear hG hI rai rbi hb1 hg1
  have hI := (hs.d.mv (Mv.below B))
  have cI := ra.cell (j := 16) rfl
  have hG := clone_any wb1 _ _ hI.1 (Nat.le_trans (hz.data) (by decide))
  go_upto_region 4 with (first
    | (go_at_call 43; refine hG.mono ?_; rintro e wa2 ⟨v2, rfl, f2, hb2⟩; have rai := ra.below hb2)
    | (refine wl_set rfl _ _ _ rfl w.heap.size 16 _ rfl rfl _ _ rai (show 16 < 23 by decide) (by kernel_rfl) f2.one ?_; intro wb2 rbi hg2))
  have ra : Row wb2 w.heap.size 32 [.int .i64 m.kind, .int .i64 m.bal.1, .int .i64 m.bal.2, .int .i64 m.slot, .int .i64 m.frm, .int .i64 m.to, .int .i64 m.idx, .int .i64 m.cnt, .int .i64 m.req.1, .int .i64 m.req.2.1, a0, b0, .int .i64 m.oth.1, .int .i64 m.oth.2.1, a1, b1, v2, s.s, s.c, s.v, s.n, s.p, s.l] := rbi.out
  have rr := (rr.below hb2).grown hg2 (fun h => by injection h; omega)
  have fa0 := ((fa0.mv (Mv.belowF hb2 (Nat.le_refl _))).mv (Mv.from hg2 (by omega) (Nat.le_refl _)))
  have fb0 := ((fb0.mv (Mv.belowF hb2 (Nat.le_refl _))).mv (Mv.from hg2 (by omega) (Nat.le_refl _)))
  have fa1 := ((fa1.mv (Mv.belowF hb2 (Nat.le_refl _))).mv (Mv.from hg2 (by omega) (Nat.le_refl _)))
  have fb1 := ((fb1.mv (Mv.belowF hb2 (Nat.le_refl _))).mv (Mv.from hg2 (by omega) (Nat.le_refl _)))
  have f2 := ((f2.mv (Mv.weak (L := w.heap.size + 2) hC)).mv (Mv.from hg2 (by omega) (Nat.le_refl _)))
  have B : Below w.heap.size w wb2 := (below_and B (Nat.le_refl _) hb2).trans (grown_below hg2 (below_and B (Nat.le_refl _) hb2).size (fun k hk => by cases hk; exact Nat.le_refl _))
  have hC := Nat.le_trans hC (Nat.le_trans hb2.size hg2.size)
  clear hG hI rai rbi hb2 hg2 cI
  have hI := (hs.s.mv (Mv.below B))
  have cI := ra.cell (j := 17) rfl
  have hG := clone_any wb2 _ _ hI.1 (Nat.le_trans (hz.sig) (by decide))
  go_upto_region 5 with (first
    | (go_at_call 43; refine hG.mono ?_; rintro e wa3 ⟨v3, rfl, f3, hb3⟩; have rai := ra.below hb3)
    | (refine wl_set rfl _ _ _ rfl w.heap.size 17 _ rfl rfl _ _ rai (show 17 < 23 by decide) (by kernel_rfl) f3.one ?_; intro wb3 rbi hg3))
  have ra : Row wb3 w.heap.size 32 [.int .i64 m.kind, .int .i64 m.bal.1, .int .i64 m.bal.2, .int .i64 m.slot, .int .i64 m.frm, .int .i64 m.to, .int .i64 m.idx, .int .i64 m.cnt, .int .i64 m.req.1, .int .i64 m.req.2.1, a0, b0, .int .i64 m.oth.1, .int .i64 m.oth.2.1, a1, b1, v2, v3, s.c, s.v, s.n, s.p, s.l] := rbi.out
  have rr := (rr.below hb3).grown hg3 (fun h => by injection h; omega)
  have fa0 := ((fa0.mv (Mv.belowF hb3 (Nat.le_refl _))).mv (Mv.from hg3 (by omega) (Nat.le_refl _)))
  have fb0 := ((fb0.mv (Mv.belowF hb3 (Nat.le_refl _))).mv (Mv.from hg3 (by omega) (Nat.le_refl _)))
  have fa1 := ((fa1.mv (Mv.belowF hb3 (Nat.le_refl _))).mv (Mv.from hg3 (by omega) (Nat.le_refl _)))
  have fb1 := ((fb1.mv (Mv.belowF hb3 (Nat.le_refl _))).mv (Mv.from hg3 (by omega) (Nat.le_refl _)))
  have f2 := ((f2.mv (Mv.belowF hb3 (Nat.le_refl _))).mv (Mv.from hg3 (by omega) (Nat.le_refl _)))
  have f3 := ((f3.mv (Mv.weak (L := w.heap.size + 2) hC)).mv (Mv.from hg3 (by omega) (Nat.le_refl _)))
  have B : Below w.heap.size w wb3 := (below_and B (Nat.le_refl _) hb3).trans (grown_below hg3 (below_and B (Nat.le_refl _) hb3).size (fun k hk => by cases hk; exact Nat.le_refl _))
  have hC := Nat.le_trans hC (Nat.le_trans hb3.size hg3.size)
  clear hG hI rai rbi hb3 hg3 cI
  have hI := (hs.c.mv mov_vote B.size (Mv.below B))
  have cI := ra.cell (j := 18) rfl
  have hG := cvotesS_any wb3 _ _ hI (hz.cert)
  go_upto_region 6 with (first
    | (go_at_call 44; refine hG.mono ?_; rintro e wa4 ⟨v4, rfl, f4, hb4⟩; have rai := ra.below hb4)
    | (refine wl_set rfl _ _ _ rfl w.heap.size 18 _ rfl rfl _ _ rai (show 18 < 23 by decide) (by kernel_rfl) f4.one ?_; intro wb4 rbi hg4))
  have ra : Row wb4 w.heap.size 32 [.int .i64 m.kind, .int .i64 m.bal.1, .int .i64 m.bal.2, .int .i64 m.slot, .int .i64 m.frm, .int .i64 m.to, .int .i64 m.idx, .int .i64 m.cnt, .int .i64 m.req.1, .int .i64 m.req.2.1, a0, b0, .int .i64 m.oth.1, .int .i64 m.oth.2.1, a1, b1, v2, v3, v4, s.v, s.n, s.p, s.l] := rbi.out
  have rr := (rr.below hb4).grown hg4 (fun h => by injection h; omega)
  have fa0 := ((fa0.mv (Mv.belowF hb4 (Nat.le_refl _))).mv (Mv.from hg4 (by omega) (Nat.le_refl _)))
  have fb0 := ((fb0.mv (Mv.belowF hb4 (Nat.le_refl _))).mv (Mv.from hg4 (by omega) (Nat.le_refl _)))
  have fa1 := ((fa1.mv (Mv.belowF hb4 (Nat.le_refl _))).mv (Mv.from hg4 (by omega) (Nat.le_refl _)))
  have fb1 := ((fb1.mv (Mv.belowF hb4 (Nat.le_refl _))).mv (Mv.from hg4 (by omega) (Nat.le_refl _)))
  have f2 := ((f2.mv (Mv.belowF hb4 (Nat.le_refl _))).mv (Mv.from hg4 (by omega) (Nat.le_refl _)))
  have f3 := ((f3.mv (Mv.belowF hb4 (Nat.le_refl _))).mv (Mv.from hg4 (by omega) (Nat.le_refl _)))
  have f4 := ((f4.mv mov_vote (Nat.le_refl _) (Mv.weak (L := w.heap.size + 2) hC)).mv mov_vote hg4.size (Mv.from hg4 (by omega) (Nat.le_refl _)))
  have B : Below w.heap.size w wb4 := (below_and B (Nat.le_refl _) hb4).trans (grown_below hg4 (below_and B (Nat.le_refl _) hb4).size (fun k hk => by cases hk; exact Nat.le_refl _))
  have hC := Nat.le_trans hC (Nat.le_trans hb4.size hg4.size)
  clear hG hI rai rbi hb4 hg4 cI
  have hI := (hs.v.mv mov_vote B.size (Mv.below B))
  have cI := ra.cell (j := 19) rfl
  have hG := cvotesS_any wb4 _ _ hI (hz.votes)
  go_upto_region 7 with (first
    | (go_at_call 44; refine hG.mono ?_; rintro e wa5 ⟨v5, rfl, f5, hb5⟩; have rai := ra.below hb5)
    | (refine wl_set rfl _ _ _ rfl w.heap.size 19 _ rfl rfl _ _ rai (show 19 < 23 by decide) (by kernel_rfl) f5.one ?_; intro wb5 rbi hg5))
  have ra : Row wb5 w.heap.size 32 [.int .i64 m.kind, .int .i64 m.bal.1, .int .i64 m.bal.2, .int .i64 m.slot, .int .i64 m.frm, .int .i64 m.to, .int .i64 m.idx, .int .i64 m.cnt, .int .i64 m.req.1, .int .i64 m.req.2.1, a0, b0, .int .i64 m.oth.1, .int .i64 m.oth.2.1, a1, b1, v2, v3, v4, v5, s.n, s.p, s.l] := rbi.out
  have rr := (rr.below hb5).grown hg5 (fun h => by injection h; omega)
  have fa0 := ((fa0.mv (Mv.belowF hb5 (Nat.le_refl _))).mv (Mv.from hg5 (by omega) (Nat.le_refl _)))
  have fb0 := ((fb0.mv (Mv.belowF hb5 (Nat.le_refl _))).mv (Mv.from hg5 (by omega) (Nat.le_refl _)))
  have fa1 := ((fa1.mv (Mv.belowF hb5 (Nat.le_refl _))).mv (Mv.from hg5 (by omega) (Nat.le_refl _)))
  have fb1 := ((fb1.mv (Mv.belowF hb5 (Nat.le_refl _))).mv (Mv.from hg5 (by omega) (Nat.le_refl _)))
  have f2 := ((f2.mv (Mv.belowF hb5 (Nat.le_refl _))).mv (Mv.from hg5 (by omega) (Nat.le_refl _)))
  have f3 := ((f3.mv (Mv.belowF hb5 (Nat.le_refl _))).mv (Mv.from hg5 (by omega) (Nat.le_refl _)))
  have f4 := ((f4.mv mov_vote hb5.size (Mv.belowF hb5 (Nat.le_refl _))).mv mov_vote hg5.size (Mv.from hg5 (by omega) (Nat.le_refl _)))
  have f5 := ((f5.mv mov_vote (Nat.le_refl _) (Mv.weak (L := w.heap.size + 2) hC)).mv mov_vote hg5.size (Mv.from hg5 (by omega) (Nat.le_refl _)))
  have B : Below w.heap.size w wb5 := (below_and B (Nat.le_refl _) hb5).trans (grown_below hg5 (below_and B (Nat.le_refl _) hb5).size (fun k hk => by cases hk; exact Nat.le_refl _))
  have hC := Nat.le_trans hC (Nat.le_trans hb5.size hg5.size)
  clear hG hI rai rbi hb5 hg5 cI
  have hI := (hs.n.mv mov_int B.size (Mv.below B))
  have cI := ra.cell (j := 20) rfl
  have hG := scloneInts_any wb5 _ _ hI (hz.order)
  go_upto_region 8 with (first
    | (go_at_call 45; refine hG.mono ?_; rintro e wa6 ⟨v6, rfl, f6, hb6⟩; have rai := ra.below hb6)
    | (refine wl_set rfl _ _ _ rfl w.heap.size 20 _ rfl rfl _ _ rai (show 20 < 23 by decide) (by kernel_rfl) f6.one ?_; intro wb6 rbi hg6))
  have ra : Row wb6 w.heap.size 32 [.int .i64 m.kind, .int .i64 m.bal.1, .int .i64 m.bal.2, .int .i64 m.slot, .int .i64 m.frm, .int .i64 m.to, .int .i64 m.idx, .int .i64 m.cnt, .int .i64 m.req.1, .int .i64 m.req.2.1, a0, b0, .int .i64 m.oth.1, .int .i64 m.oth.2.1, a1, b1, v2, v3, v4, v5, v6, s.p, s.l] := rbi.out
  have rr := (rr.below hb6).grown hg6 (fun h => by injection h; omega)
  have fa0 := ((fa0.mv (Mv.belowF hb6 (Nat.le_refl _))).mv (Mv.from hg6 (by omega) (Nat.le_refl _)))
  have fb0 := ((fb0.mv (Mv.belowF hb6 (Nat.le_refl _))).mv (Mv.from hg6 (by omega) (Nat.le_refl _)))
  have fa1 := ((fa1.mv (Mv.belowF hb6 (Nat.le_refl _))).mv (Mv.from hg6 (by omega) (Nat.le_refl _)))
  have fb1 := ((fb1.mv (Mv.belowF hb6 (Nat.le_refl _))).mv (Mv.from hg6 (by omega) (Nat.le_refl _)))
  have f2 := ((f2.mv (Mv.belowF hb6 (Nat.le_refl _))).mv (Mv.from hg6 (by omega) (Nat.le_refl _)))
  have f3 := ((f3.mv (Mv.belowF hb6 (Nat.le_refl _))).mv (Mv.from hg6 (by omega) (Nat.le_refl _)))
  have f4 := ((f4.mv mov_vote hb6.size (Mv.belowF hb6 (Nat.le_refl _))).mv mov_vote hg6.size (Mv.from hg6 (by omega) (Nat.le_refl _)))
  have f5 := ((f5.mv mov_vote hb6.size (Mv.belowF hb6 (Nat.le_refl _))).mv mov_vote hg6.size (Mv.from hg6 (by omega) (Nat.le_refl _)))
  have f6 := ((f6.mv mov_int (Nat.le_refl _) (Mv.weak (L := w.heap.size + 2) hC)).mv mov_int hg6.size (Mv.from hg6 (by omega) (Nat.le_refl _)))
  have B : Below w.heap.size w wb6 := (below_and B (Nat.le_refl _) hb6).trans (grown_below hg6 (below_and B (Nat.le_refl _) hb6).size (fun k hk => by cases hk; exact Nat.le_refl _))
  have hC := Nat.le_trans hC (Nat.le_trans hb6.size hg6.size)
  clear hG hI rai rbi hb6 hg6 cI
  have hI := (hs.p.mv mov_req B.size (Mv.below B))
  have cI := ra.cell (j := 21) rfl
  have hG := clistReq_any wb6 _ _ hI (hz.picks)
  go_upto_region 9 with (first
    | (go_at_call 46; refine hG.mono ?_; rintro e wa7 ⟨v7, rfl, f7, hb7⟩; have rai := ra.below hb7)
    | (refine wl_set rfl _ _ _ rfl w.heap.size 21 _ rfl rfl _ _ rai (show 21 < 23 by decide) (by kernel_rfl) f7.one ?_; intro wb7 rbi hg7))
  have ra : Row wb7 w.heap.size 32 [.int .i64 m.kind, .int .i64 m.bal.1, .int .i64 m.bal.2, .int .i64 m.slot, .int .i64 m.frm, .int .i64 m.to, .int .i64 m.idx, .int .i64 m.cnt, .int .i64 m.req.1, .int .i64 m.req.2.1, a0, b0, .int .i64 m.oth.1, .int .i64 m.oth.2.1, a1, b1, v2, v3, v4, v5, v6, v7, s.l] := rbi.out
  have rr := (rr.below hb7).grown hg7 (fun h => by injection h; omega)
  have fa0 := ((fa0.mv (Mv.belowF hb7 (Nat.le_refl _))).mv (Mv.from hg7 (by omega) (Nat.le_refl _)))
  have fb0 := ((fb0.mv (Mv.belowF hb7 (Nat.le_refl _))).mv (Mv.from hg7 (by omega) (Nat.le_refl _)))
  have fa1 := ((fa1.mv (Mv.belowF hb7 (Nat.le_refl _))).mv (Mv.from hg7 (by omega) (Nat.le_refl _)))
  have fb1 := ((fb1.mv (Mv.belowF hb7 (Nat.le_refl _))).mv (Mv.from hg7 (by omega) (Nat.le_refl _)))
  have f2 := ((f2.mv (Mv.belowF hb7 (Nat.le_refl _))).mv (Mv.from hg7 (by omega) (Nat.le_refl _)))
  have f3 := ((f3.mv (Mv.belowF hb7 (Nat.le_refl _))).mv (Mv.from hg7 (by omega) (Nat.le_refl _)))
  have f4 := ((f4.mv mov_vote hb7.size (Mv.belowF hb7 (Nat.le_refl _))).mv mov_vote hg7.size (Mv.from hg7 (by omega) (Nat.le_refl _)))
  have f5 := ((f5.mv mov_vote hb7.size (Mv.belowF hb7 (Nat.le_refl _))).mv mov_vote hg7.size (Mv.from hg7 (by omega) (Nat.le_refl _)))
  have f6 := ((f6.mv mov_int hb7.size (Mv.belowF hb7 (Nat.le_refl _))).mv mov_int hg7.size (Mv.from hg7 (by omega) (Nat.le_refl _)))
  have f7 := ((f7.mv mov_req (Nat.le_refl _) (Mv.weak (L := w.heap.size + 2) hC)).mv mov_req hg7.size (Mv.from hg7 (by omega) (Nat.le_refl _)))
  have B : Below w.heap.size w wb7 := (below_and B (Nat.le_refl _) hb7).trans (grown_below hg7 (below_and B (Nat.le_refl _) hb7).size (fun k hk => by cases hk; exact Nat.le_refl _))
  have hC := Nat.le_trans hC (Nat.le_trans hb7.size hg7.size)
  clear hG hI rai rbi hb7 hg7 cI
  have hI := (hs.l.mv mov_rep B.size (Mv.below B))
  have cI := ra.cell (j := 22) rfl
  have hG := clistReport_any wb7 _ _ hI (hz.reps)
  go_upto_region 10 with (first
    | (go_at_call 47; refine hG.mono ?_; rintro e wa8 ⟨v8, rfl, f8, hb8⟩; have rai := ra.below hb8)
    | (refine wl_set rfl _ _ _ rfl w.heap.size 22 _ rfl rfl _ _ rai (show 22 < 23 by decide) (by kernel_rfl) f8.one ?_; intro wb8 rbi hg8))
  have ra : Row wb8 w.heap.size 32 [.int .i64 m.kind, .int .i64 m.bal.1, .int .i64 m.bal.2, .int .i64 m.slot, .int .i64 m.frm, .int .i64 m.to, .int .i64 m.idx, .int .i64 m.cnt, .int .i64 m.req.1, .int .i64 m.req.2.1, a0, b0, .int .i64 m.oth.1, .int .i64 m.oth.2.1, a1, b1, v2, v3, v4, v5, v6, v7, v8] := rbi.out
  have rr := (rr.below hb8).grown hg8 (fun h => by injection h; omega)
  have fa0 := ((fa0.mv (Mv.belowF hb8 (Nat.le_refl _))).mv (Mv.from hg8 (by omega) (Nat.le_refl _)))
  have fb0 := ((fb0.mv (Mv.belowF hb8 (Nat.le_refl _))).mv (Mv.from hg8 (by omega) (Nat.le_refl _)))
  have fa1 := ((fa1.mv (Mv.belowF hb8 (Nat.le_refl _))).mv (Mv.from hg8 (by omega) (Nat.le_refl _)))
  have fb1 := ((fb1.mv (Mv.belowF hb8 (Nat.le_refl _))).mv (Mv.from hg8 (by omega) (Nat.le_refl _)))
  have f2 := ((f2.mv (Mv.belowF hb8 (Nat.le_refl _))).mv (Mv.from hg8 (by omega) (Nat.le_refl _)))
  have f3 := ((f3.mv (Mv.belowF hb8 (Nat.le_refl _))).mv (Mv.from hg8 (by omega) (Nat.le_refl _)))
  have f4 := ((f4.mv mov_vote hb8.size (Mv.belowF hb8 (Nat.le_refl _))).mv mov_vote hg8.size (Mv.from hg8 (by omega) (Nat.le_refl _)))
  have f5 := ((f5.mv mov_vote hb8.size (Mv.belowF hb8 (Nat.le_refl _))).mv mov_vote hg8.size (Mv.from hg8 (by omega) (Nat.le_refl _)))
  have f6 := ((f6.mv mov_int hb8.size (Mv.belowF hb8 (Nat.le_refl _))).mv mov_int hg8.size (Mv.from hg8 (by omega) (Nat.le_refl _)))
  have f7 := ((f7.mv mov_req hb8.size (Mv.belowF hb8 (Nat.le_refl _))).mv mov_req hg8.size (Mv.from hg8 (by omega) (Nat.le_refl _)))
  have f8 := ((f8.mv mov_rep (Nat.le_refl _) (Mv.weak (L := w.heap.size + 2) hC)).mv mov_rep hg8.size (Mv.from hg8 (by omega) (Nat.le_refl _)))
  have B : Below w.heap.size w wb8 := (below_and B (Nat.le_refl _) hb8).trans (grown_below hg8 (below_and B (Nat.le_refl _) hb8).size (fun k hk => by cases hk; exact Nat.le_refl _))
  have hC := Nat.le_trans hC (Nat.le_trans hb8.size hg8.size)
  clear hG hI rai rbi hb8 hg8 cI
  have hone : ∀ v ∈ [.int .i64 m.kind, .int .i64 m.bal.1, .int .i64 m.bal.2, .int .i64 m.slot, .int .i64 m.frm, .int .i64 m.to, .int .i64 m.idx, .int .i64 m.cnt, .int .i64 m.req.1, .int .i64 m.req.2.1, a0, b0, .int .i64 m.oth.1, .int .i64 m.oth.2.1, a1, b1, v2, v3, v4, v5, v6, v7, v8], v.oneCell' = true := by
    intro v hv
    have k_fa0 := fa0.one; have k_fb0 := fb0.one; have k_fa1 := fa1.one; have k_fb1 := fb1.one; have k_f2 := f2.one; have k_f3 := f3.one; have k_f4 := f4.one; have k_f5 := f5.one; have k_f6 := f6.one; have k_f7 := f7.one; have k_f8 := f8.one
    simp only [List.mem_cons, List.not_mem_nil, or_false] at hv
    rcases hv with rfl | rfl | rfl | rfl | rfl | rfl | rfl | rfl | rfl | rfl | rfl | rfl | rfl | rfl | rfl | rfl | rfl | rfl | rfl | rfl | rfl | rfl | rfl <;> first | rfl | assumption
  go_wp2_with (first
    | (refine wl_load rfl _ _ rfl w.heap.size rfl _ _ ra _ Tryz.underlying32 rfl (by kernel_rfl) ?_)
    | (refine wl_store rfl _ _ _ rfl (w.heap.size + 1) [.int .i64 m.kind, .int .i64 m.bal.1, .int .i64 m.bal.2, .int .i64 m.slot, .int .i64 m.frm, .int .i64 m.to, .int .i64 m.idx, .int .i64 m.cnt, .int .i64 m.req.1, .int .i64 m.req.2.1, a0, b0, .int .i64 m.oth.1, .int .i64 m.oth.2.1, a1, b1, v2, v3, v4, v5, v6, v7, v8] rfl rfl _ _ rr rfl (by kernel_rfl) hone ?_; intro w9 rr9 hg9))
  have B9 : Below w.heap.size w w9 := B.trans (grown_below hg9 B.size (fun k hk => by cases hk; omega))
  have fa0 := ((fa0.mv (Mv.from hg9 (by omega) (Nat.le_refl _))).mv (Mv.weak (L := w.heap.size) (by omega)))
  have fb0 := ((fb0.mv (Mv.from hg9 (by omega) (Nat.le_refl _))).mv (Mv.weak (L := w.heap.size) (by omega)))
  have fa1 := ((fa1.mv (Mv.from hg9 (by omega) (Nat.le_refl _))).mv (Mv.weak (L := w.heap.size) (by omega)))
  have fb1 := ((fb1.mv (Mv.from hg9 (by omega) (Nat.le_refl _))).mv (Mv.weak (L := w.heap.size) (by omega)))
  have f2 := ((f2.mv (Mv.from hg9 (by omega) (Nat.le_refl _))).mv (Mv.weak (L := w.heap.size) (by omega)))
  have f3 := ((f3.mv (Mv.from hg9 (by omega) (Nat.le_refl _))).mv (Mv.weak (L := w.heap.size) (by omega)))
  have f4 := ((f4.mv mov_vote hg9.size (Mv.from hg9 (by omega) (Nat.le_refl _))).mv mov_vote (Nat.le_refl _) (Mv.weak (L := w.heap.size) (by omega)))
  have f5 := ((f5.mv mov_vote hg9.size (Mv.from hg9 (by omega) (Nat.le_refl _))).mv mov_vote (Nat.le_refl _) (Mv.weak (L := w.heap.size) (by omega)))
  have f6 := ((f6.mv mov_int hg9.size (Mv.from hg9 (by omega) (Nat.le_refl _))).mv mov_int (Nat.le_refl _) (Mv.weak (L := w.heap.size) (by omega)))
  have f7 := ((f7.mv mov_req hg9.size (Mv.from hg9 (by omega) (Nat.le_refl _))).mv mov_req (Nat.le_refl _) (Mv.weak (L := w.heap.size) (by omega)))
  have f8 := ((f8.mv mov_rep hg9.size (Mv.from hg9 (by omega) (Nat.le_refl _))).mv mov_rep (Nat.le_refl _) (Mv.weak (L := w.heap.size) (by omega)))
  refine bodyPost_ret (v := .agg ([.int .i64 m.kind, .int .i64 m.bal.1, .int .i64 m.bal.2, .int .i64 m.slot, .int .i64 m.frm, .int .i64 m.to, .int .i64 m.idx, .int .i64 m.cnt, .int .i64 m.req.1, .int .i64 m.req.2.1, a0, b0, .int .i64 m.oth.1, .int .i64 m.oth.2.1, a1, b1, v2, v3, v4, v5, v6, v7, v8] : List Value).toArray) (results_cell_row rfl _ _ (w.heap.size + 1) _ _ (0, 0) _ (by rfl) rr9.out Tryz.underlying32 rfl (by kernel_rfl)) rfl ?_
  exact ⟨⟨a0, b0, a1, b1, v2, v3, v4, v5, v6, v7, v8⟩, rfl, ⟨fa0, fb0, fa1, fb1, f2, f3, f4, f5, f6, f7, f8⟩, B9⟩
end Go.Proofs.YtijmecplechhgaaGreatDoor
end

section
namespace Go.Proofs.YtijmecplechhgaaGreatDoor
open Go.RowKit Oct Sha

theorem turn_all (w : World) (x : BitVec 32) (z : Int) (hz : decide (1 ≤ z) && decide (z ≤ 31) = true) : Calls Tryz.prog 105 #[.int .u32 (wi x), .int .i64 z] w fun e w' => e = .returned (.int .u32 (wi (rotr x z.toNat))) ∧ w' = w := by
  have hz' : 1 ≤ z ∧ z ≤ 31 := by simpa using hz
  have := turn_any w x z.toNat (by omega) (by omega)
  rwa [Int.toNat_of_nonneg (by omega)] at this
theorem run_cut_at (pb off len cap n : Nat) (hn : n ≤ len) (hlt : n < cap) (u : World) : (Instr.slice 24 (.slice (some ⟨pb, off, none⟩) len cap) (some (.int .i64 (n : Int))) none none).run Tryz.prog u = .ok (.slice (some ⟨pb, off + n, none⟩) (len - n) (cap - n)) u := by
  have ht : Tryz.prog.underlying 24 = some (.slice (Tryz.prog.elem 24)) := by kernel_rfl
  have hs : (sizeOf (Tryz.prog.elem 24)).run Tryz.prog u = .ok 1 u := by
    rw [show Tryz.prog.elem 24 = 5 by kernel_rfl]
    obtain ⟨i0, hi, hz0, hz1, hz2⟩ := info_parts Tryz.info5
    simp [sizeOf, typeInfo, hi, hz1]
  rw [run_slice_l u 24 (some ⟨pb, off, none⟩) len cap ht .i64 n (by omega) (by omega), hs]
  simp only [Result.andThen, sliced, Int.toNat_natCast, Nat.mul_one, Option.map_some, Addr.add_mid]
  rw [if_neg (by omega)]

theorem k_any (w : World) : Calls Tryz.prog 104 #[] w fun e w' => e = .returned (.agg (kk.map wv).toArray) ∧ Below w.heap.size w w' := by
  go_enter Tryz.func104, Tryz.ntmps104
  go_wp2_with (first
    | (refine wpList_buildTo (by rfl) 132 _ (by rfl) _ (by rfl) (kk.map wv).toArray (by kernel_rfl) ?_)
    | (refine wl_store (by rfl) 132 _ _ (by rfl) w.heap.size (kk.map wv) (by rfl) (by rfl) 132 (wz 64) (heap_alloc_new w _) (by rfl) (by kernel_rfl) (wv_one _) ?_; intro w2 hR2 hg2))
  exact bodyPost_ret (v := .agg (kk.map wv).toArray) (results_cell_row rfl _ _ w.heap.size _ (kk.map wv).toArray (0, 0) _ (by rfl) hR2.out Tryz.und45 rfl (by kernel_rfl)) rfl ⟨rfl, (below_alloc w _).trans (grown_below hg2 (by simp) (fun k hk => by cases hk; exact Nat.le_refl _))⟩

theorem word_any (w : World) (b off c : Nat) (x0 x1 x2 x3 : Int) (n : Nat) (hn : 4 ≤ n) (y0 : 0 ≤ x0 ∧ x0 ≤ 255) (y1 : 0 ≤ x1 ∧ x1 ≤ 255) (y2 : 0 ≤ x2 ∧ x2 ≤ 255) (y3 : 0 ≤ x3 ∧ x3 ≤ 255)
    (c0 : w.cell? ⟨b, off, none⟩ = some (.int .u8 x0)) (c1 : w.cell? ⟨b, off + 1, none⟩ = some (.int .u8 x1)) (c2 : w.cell? ⟨b, off + 2, none⟩ = some (.int .u8 x2)) (c3 : w.cell? ⟨b, off + 3, none⟩ = some (.int .u8 x3)) :
    Calls Tryz.prog 113 #[.slice (some ⟨b, off, none⟩) n c] w fun e w' => e = .returned (.int .u32 (wi (BitVec.ofInt 32 (((x0 * 256 + x1) * 256 + x2) * 256 + x3)))) ∧ w' = w := by
  have hni : (4 : Int) ≤ (n : Int) := by omega
  rw [wi_ofInt _ (by omega) (by omega)]
  go_enter Tryz.func113, Tryz.ntmps113
  go_wp2_with fail
  refine wp_loop_rounds 5 ?_
  rw [rounds_succ]
  go_wp2_with fail
  rw [rounds_succ]
  go_wp2_with fail
  rw [rounds_succ]
  go_wp2_with fail
  rw [rounds_succ]
  go_wp2_with fail
  rw [rounds_succ]
  go_wp2_with fail
  go_ret
  exact ⟨ret_int (by omega), rfl⟩

set_option maxHeartbeats 1000000 in
theorem schedule_any (w : World) (v : Value) (p : List Int) (hrd : Rd w v p) (hp : p.length = 64) :
    Calls Tryz.prog 103 #[v] w fun e w' => e = .returned (.agg ((sch p 64).map wv).toArray) ∧ Below w.heap.size w w' := by
  have hb := hrd.1
  obtain ⟨b, o, cap, rfl, hc1, hc2, hlt, hcell⟩ := hrd.at (by omega)
  have hr : Bts w b o p := hcell
  rw [hp] at hc1 ⊢
  obtain ⟨X, hX⟩ : ∃ X, X = (sch p 64).map wv := ⟨_, rfl⟩
  rw [← hX]
  have HX := (show Hid (X = (sch p 64).map wv) from hX)
  clear hX hcell hrd
  go_enter Tryz.func103, Tryz.ntmps103
  go_wp2_with (first
    | (refine wpList_buildTo (by rfl) 132 _ (by rfl) _ (by rfl) (wz 64).toArray (by kernel_rfl) ?_)
    | (refine wl_store (by rfl) 132 _ _ (by rfl) (w.heap.size + 1) (wz 64) (by rfl) (by rfl) 132 (wz 64) (heap_alloc2_new w _ _) (by rfl) (by kernel_rfl) (wv_one (List.replicate 64 0)) ?_; intro w2 hR2 hg2))
  have hZ2 : Row w2 w.heap.size 132 (wz 64) := (show Row _ w.heap.size 132 (wz 64) from heap_alloc2_old w _ _).grown hg2 (by simp)
  have hbel2 : Below w.heap.size w w2 := ((below_alloc w _).trans ((Below.refl _ _).alloc (by simp) _)).trans (grown_below hg2 (by simp; omega) (fun k hk => by cases hk; exact Nat.le_succ _))
  clear hg2
  go_loopw [4] (fun i wr => ∃ k : Nat, k ≤ 16 ∧ i = .int .i64 k ∧ Row wr (w.heap.size + 1) 132 ((sch p k).map wv ++ wz (64 - k)) ∧ Row wr w.heap.size 132 (wz 64) ∧ Below w.heap.size w wr) (fun i _ => 16 - (intOf i).toNat)
  case atStart => exact ⟨0, by omega, rfl, hR2, hZ2, hbel2⟩
  case round =>
    clear hR2 hZ2 hbel2
    obtain ⟨k, hk, rfl, hR, hZ, hbel⟩ := hrel
    have hrr := hr.below hlt hbel
    by_cases hk16 : k < 16
    · obtain ⟨x0, hx0⟩ : ∃ x, x = p.getD (4 * k) 0 := ⟨_, rfl⟩
      obtain ⟨x1, hx1⟩ : ∃ x, x = p.getD (4 * k + 1) 0 := ⟨_, rfl⟩
      obtain ⟨x2, hx2⟩ : ∃ x, x = p.getD (4 * k + 2) 0 := ⟨_, rfl⟩
      obtain ⟨x3, hx3⟩ : ∃ x, x = p.getD (4 * k + 3) 0 := ⟨_, rfl⟩
      have y0 : 0 ≤ x0 ∧ x0 ≤ 255 := hx0 ▸ byt_at hb _
      have y1 : 0 ≤ x1 ∧ x1 ≤ 255 := hx1 ▸ byt_at hb _
      have y2 : 0 ≤ x2 ∧ x2 ≤ 255 := hx2 ▸ byt_at hb _
      have y3 : 0 ≤ x3 ∧ x3 ≤ 255 := hx3 ▸ byt_at hb _
      have c0 : wr.cell? ⟨b, o + 4 * k, none⟩ = some (.int .u8 x0) := hx0 ▸ hrr (4 * k) (by omega)
      have c1 : wr.cell? ⟨b, o + 4 * k + 1, none⟩ = some (.int .u8 x1) := hx1 ▸ hrr (4 * k + 1) (by omega)
      have c2 : wr.cell? ⟨b, o + 4 * k + 2, none⟩ = some (.int .u8 x2) := hx2 ▸ hrr (4 * k + 2) (by omega)
      have c3 : wr.cell? ⟨b, o + 4 * k + 3, none⟩ = some (.int .u8 x3) := hx3 ▸ hrr (4 * k + 3) (by omega)
      have HW := (show Hid (wrd p k = BitVec.ofInt 32 (((x0 * 256 + x1) * 256 + x2) * 256 + x3)) by rw [hx0, hx1, hx2, hx3]; rfl)
      clear hx0 hx1 hx2 hx3 hrr
      have hsl : ∀ u : World, (Instr.slice 24 (.slice (some ⟨b, o, none⟩) 64 cap) (some (.int .i64 (4 * (k : Int)))) none none).run Tryz.prog u = .ok (.slice (some ⟨b, o + 4 * k, none⟩) (64 - 4 * k) (cap - 4 * k)) u := run_cut_at b o 64 cap (4 * k) (by omega) (by omega)
      have hik : ∀ u : World, (Instr.indexAt 132 (.pointer (some ⟨w.heap.size + 1, 0, none⟩)) (.int .i64 (k : Int))).run Tryz.prog u = .ok (.pointer (some ⟨w.heap.size + 1, k, none⟩)) u := run_ix (w.heap.size + 1) k (by omega)
      go_wp2_with fail
      refine (word_any _ b (o + 4 * k) (cap - 4 * k) x0 x1 x2 x3 (64 - 4 * k) (by omega) y0 y1 y2 y3 c0 c1 c2 c3).mono ?_
      rintro e wq ⟨rfl, rfl⟩
      rw [← HW.out]
      have ck : wq.cell? ⟨w.heap.size + 1, k, none⟩ = some (.int .u32 0) := hR.cell (wz_at p k (by omega))
      have fk := hR.frozen k
      have HR' := (show Hid (∀ v, Row (wq.setCell ⟨w.heap.size + 1, k, none⟩ v) (w.heap.size + 1) 132 (((sch p k).map wv ++ wz (64 - k)).set k v)) from fun v => hR.set k v)
      clear c0 c1 c2 c3 y0 y1 y2 y3
      go_wp2_with fail
      go_roundw
      case rel =>
        rw [← nxt_lo p k hk16]
        exact ⟨k + 1, by omega, by go_num, sch_set p k (by omega) ▸ HR'.out _, hZ.grown (grown_set _ _ _ _) (by simp), below_set hbel (Nat.le_refl _) (Nat.le_succ _) _ _⟩
      case measure => simp [intOf]; omega
    · have hR16 : Row wr (w.heap.size + 1) 132 ((sch p 16).map wv ++ wz (64 - 16)) := (show k = 16 by omega) ▸ hR
      clear hr hlt hb hp hR hrr
      go_wp2_with fail
      go_loopw [5] (fun i wr => ∃ k : Nat, 16 ≤ k ∧ k ≤ 64 ∧ i = .int .i64 k ∧ Row wr (w.heap.size + 1) 132 ((sch p k).map wv ++ wz (64 - k)) ∧ Row wr w.heap.size 132 (wz 64) ∧ Below w.heap.size w wr) (fun i _ => 64 - (intOf i).toNat)
      case atStart => exact ⟨16, by omega, by omega, rfl, hR16, hZ, hbel⟩
      case round =>
        clear hR16 hZ hbel
        rename Nat => k0
        obtain ⟨k, hk, hk', rfl, hR, hZ, hbel⟩ := hrel
        by_cases hk64 : k < 64
        · obtain ⟨m2, hm2⟩ : ∃ m : Nat, (k : Int) - 2 = m := ⟨k - 2, by omega⟩
          obtain ⟨m7, hm7⟩ : ∃ m : Nat, (k : Int) - 7 = m := ⟨k - 7, by omega⟩
          obtain ⟨m15, hm15⟩ : ∃ m : Nat, (k : Int) - 15 = m := ⟨k - 15, by omega⟩
          obtain ⟨m16, hm16⟩ : ∃ m : Nat, (k : Int) - 16 = m := ⟨k - 16, by omega⟩
          obtain ⟨y2, hy2⟩ : ∃ y, y = (sch p k).getD (k - 2) 0 := ⟨_, rfl⟩
          obtain ⟨y7, hy7⟩ : ∃ y, y = (sch p k).getD (k - 7) 0 := ⟨_, rfl⟩
          obtain ⟨y15, hy15⟩ : ∃ y, y = (sch p k).getD (k - 15) 0 := ⟨_, rfl⟩
          obtain ⟨y16, hy16⟩ : ∃ y, y = (sch p k).getD (k - 16) 0 := ⟨_, rfl⟩
          have c2 : wr.cell? ⟨w.heap.size + 1, m2, none⟩ = some (.int .u32 (wi y2)) := by rw [hy2, show k - 2 = m2 by omega]; exact hR.cell (sch_at p k m2 (by omega))
          have c7 : wr.cell? ⟨w.heap.size + 1, m7, none⟩ = some (.int .u32 (wi y7)) := by rw [hy7, show k - 7 = m7 by omega]; exact hR.cell (sch_at p k m7 (by omega))
          have c15 : wr.cell? ⟨w.heap.size + 1, m15, none⟩ = some (.int .u32 (wi y15)) := by rw [hy15, show k - 15 = m15 by omega]; exact hR.cell (sch_at p k m15 (by omega))
          have c16 : wr.cell? ⟨w.heap.size + 1, m16, none⟩ = some (.int .u32 (wi y16)) := by rw [hy16, show k - 16 = m16 by omega]; exact hR.cell (sch_at p k m16 (by omega))
          have HN := (show Hid (nxt p (sch p k) = s1 y2 + y7 + s0 y15 + y16) by rw [hy2, hy7, hy15, hy16]; exact nxt_hi p k hk)
          clear hy2 hy7 hy15 hy16
          have ck : wr.cell? ⟨w.heap.size + 1, k, none⟩ = some (.int .u32 0) := hR.cell (wz_at p k (by omega))
          have fk := hR.frozen k
          have q2 : IntKind.i64.wrap (m2 : Int) = m2 := by rw [IntKind.wrap_i64]; omega
          have q7 : IntKind.i64.wrap (m7 : Int) = m7 := by rw [IntKind.wrap_i64]; omega
          have q15 : IntKind.i64.wrap (m15 : Int) = m15 := by rw [IntKind.wrap_i64]; omega
          have q16 : IntKind.i64.wrap (m16 : Int) = m16 := by rw [IntKind.wrap_i64]; omega
          have i2 : ∀ u : World, (Instr.indexAt 132 (.pointer (some ⟨w.heap.size + 1, 0, none⟩)) (.int .i64 (m2 : Int))).run Tryz.prog u = .ok (.pointer (some ⟨w.heap.size + 1, m2, none⟩)) u := run_ix (w.heap.size + 1) m2 (by omega)
          have i7 : ∀ u : World, (Instr.indexAt 132 (.pointer (some ⟨w.heap.size + 1, 0, none⟩)) (.int .i64 (m7 : Int))).run Tryz.prog u = .ok (.pointer (some ⟨w.heap.size + 1, m7, none⟩)) u := run_ix (w.heap.size + 1) m7 (by omega)
          have i15 : ∀ u : World, (Instr.indexAt 132 (.pointer (some ⟨w.heap.size + 1, 0, none⟩)) (.int .i64 (m15 : Int))).run Tryz.prog u = .ok (.pointer (some ⟨w.heap.size + 1, m15, none⟩)) u := run_ix (w.heap.size + 1) m15 (by omega)
          have i16 : ∀ u : World, (Instr.indexAt 132 (.pointer (some ⟨w.heap.size + 1, 0, none⟩)) (.int .i64 (m16 : Int))).run Tryz.prog u = .ok (.pointer (some ⟨w.heap.size + 1, m16, none⟩)) u := run_ix (w.heap.size + 1) m16 (by omega)
          have ik : ∀ u : World, (Instr.indexAt 132 (.pointer (some ⟨w.heap.size + 1, 0, none⟩)) (.int .i64 (k : Int))).run Tryz.prog u = .ok (.pointer (some ⟨w.heap.size + 1, k, none⟩)) u := run_ix (w.heap.size + 1) k (by omega)
          go_wp2_with fail
          go_quiet ((go_at_call 105; exact quiet_as (turn_all _ y15 _ (by decide)) rfl))
          go_wp2_with fail
          go_quiet ((go_at_call 105; exact quiet_as (turn_all _ y2 _ (by decide)) rfl))
          go_wp2_with fail
          go_region
          go_wp2_with fail
          go_roundw
          case rel =>
            have hset := sch_set p k (by omega)
            rw [HN.out] at hset
            rw [show (8 : Int) = 2 ^ 3 from rfl, show (1024 : Int) = 2 ^ 10 from rfl, shr_wi, shr_wi]
            simp only [bits_xor, mod_wi, ofInt_sum, ofInt_wi]
            refine ⟨k + 1, by omega, by omega, by go_num, ?_, (show Row (wr.drewN _) w.heap.size 132 (wz 64) from hZ).grown (grown_set _ _ _ _) (by simp), below_set (bel_drewN hbel _) (Nat.le_refl _) (Nat.le_succ _) _ _⟩
            rw [← hset]
            exact Row.set (w := wr.drewN _) hR k _
          case measure => simp [intOf]; omega
        · obtain rfl : k = 64 := by omega
          clear hk hk' hk64
          have hl : X.length = 64 := by rw [HX.out, List.length_map, sch_len]
          have hR' : Row wr (w.heap.size + 1) 132 X := by rw [HX.out]; simpa [wz] using hR
          have ho : ∀ v ∈ X, v.oneCell' = true := by rw [HX.out]; exact wv_one _
          clear hR
          have hs : (Tryz.prog.info? 132).map (·.size) = some X.length := by rw [hl]; exact Tryz.siz45
          have hle : (wz 64).length = X.length := by rw [hl]; rfl
          go_wp2_with (first
            | (refine wl_load (by rfl) 132 _ (by rfl) (w.heap.size + 1) (by rfl) _ X hR' _ Tryz.und45 rfl hs ?_)
            | (refine wl_store (by rfl) 132 _ _ (by rfl) w.heap.size X (by rfl) (by rfl) _ (wz 64) hZ hle hs ho ?_; intro w2 hR2 hg2))
          exact bodyPost_ret (v := .agg X.toArray) (results_cell_row rfl _ _ w.heap.size _ X.toArray (0, 0) _ (by rfl) hR2.out Tryz.und45 rfl (by simpa using hs)) rfl ⟨rfl, hbel.trans (grown_below hg2 hbel.size (fun k hk => by cases hk; exact Nat.le_refl _))⟩
end Go.Proofs.YtijmecplechhgaaGreatDoor
end

section
namespace Go.Proofs.YtijmecplechhgaaGreatDoor
open Go.RowKit Oct Sha

theorem Tryz.und35 : Tryz.prog.underlying 110 = some (.array 8 109) := by kernel_rfl
theorem Tryz.siz35 : (Tryz.prog.info? 110).map (·.size) = some 8 := by kernel_rfl
theorem run_ix8' (b i : Nat) (hi : i < 8) (u : World) : (Instr.indexAt 110 (.pointer (some ⟨b, 0, none⟩)) (.int .i64 (i : Int))).run Tryz.prog u = .ok (.pointer (some ⟨b, i, none⟩)) u := by
  have ht : Tryz.prog.underlying 110 = some (.array (Tryz.prog.arrayLen 110) (Tryz.prog.elem 110)) := by kernel_rfl
  have hn : Tryz.prog.arrayLen 110 = 8 := by kernel_rfl
  have hs : (sizeOf (Tryz.prog.elem 110)).run Tryz.prog u = .ok 1 u := by
    rw [show Tryz.prog.elem 110 = 109 by kernel_rfl]
    cases hq : Tryz.prog.info? 109 with
    | none => have := Tryz.info34; simp [hq] at this
    | some i0 =>
      have h1 := Tryz.info34
      simp only [hq, Option.map_some, Option.some.injEq] at h1
      simp [sizeOf, typeInfo, hq, h1]
  rw [run_indexAt_array u 110 _ .i64 i ht, hn, if_pos (by omega), hs]
  simp only [Result.andThen, Addr.add_mid]
  simp

theorem eight_one (a b c d e f g h : Int) : ∀ v ∈ [Value.int .u32 a, .int .u32 b, .int .u32 c, .int .u32 d, .int .u32 e, .int .u32 f, .int .u32 g, .int .u32 h], v.oneCell' = true := by
  intro v hv
  simp only [List.mem_cons, List.not_mem_nil, or_false] at hv
  rcases hv with rfl | rfl | rfl | rfl | rfl | rfl | rfl | rfl <;> rfl
theorem rstep_two (V : St) (y x : BitVec 32) : (rstep V (y + x)).vs = [.int .u32 (wi (V.h + (rotr V.e 6 ^^^ rotr V.e 11 ^^^ rotr V.e 25) + (V.e &&& V.f ||| ~~~V.e &&& V.g) + y + x + ((rotr V.a 2 ^^^ rotr V.a 13 ^^^ rotr V.a 22) + (V.a &&& V.b ||| V.a &&& V.c ||| V.b &&& V.c)))), .int .u32 (wi V.a), .int .u32 (wi V.b), .int .u32 (wi V.c),
    .int .u32 (wi (V.d + (V.h + (rotr V.e 6 ^^^ rotr V.e 11 ^^^ rotr V.e 25) + (V.e &&& V.f ||| ~~~V.e &&& V.g) + y + x))), .int .u32 (wi V.e), .int .u32 (wi V.f), .int .u32 (wi V.g)] := by
  have e : V.h + S1 V.e + ch V.e V.f V.g + (y + x) = V.h + S1 V.e + ch V.e V.f V.g + y + x := (BitVec.add_assoc _ _ _).symm
  unfold rstep
  dsimp only
  rw [e]
  rfl
def zero8 : St := ⟨0, 0, 0, 0, 0, 0, 0, 0⟩

set_option maxRecDepth 10000 in
set_option maxHeartbeats 2000000 in
theorem refBlock_any (w : World) (s : St) (v : Value) (p : List Int) (hrd : Rd w v p) (hp : p.length = 64) :
    Calls Tryz.prog 83 #[.agg s.vs.toArray, v] w fun e w' => e = .returned (.agg (blk s p).vs.toArray) ∧ Below w.heap.size w w' := by
  have le := Nat.le_refl w.heap.size
  obtain ⟨ao, cap, rfl, hcap⟩ := hrd.form
  rw [hp] at hrd ⊢
  obtain ⟨ws, hws⟩ : ∃ ws, ws = sch p 64 := ⟨_, rfl⟩
  obtain ⟨Vf, hVf⟩ : ∃ V, V = rnd ws s 64 := ⟨_, rfl⟩
  have hwl : ws.length = 64 := by rw [hws, sch_len]
  rw [show blk s p = s.add Vf by rw [hVf, hws]; rfl]
  have HSP := (show Hid (∀ u : World, Rd u (.slice ao 64 cap) p → Calls Tryz.prog 103 #[.slice ao 64 cap] u fun e w' => e = .returned (.agg (ws.map wv).toArray) ∧ Below u.heap.size u w') by
    rw [hws]
    exact fun u h1 => schedule_any u _ p h1 hp)
  have HV := (show Hid (Vf = rnd ws s 64) from hVf)
  have hwz : (ws.map wv).length = 64 := by rw [List.length_map]; exact hwl
  have hsW : (Tryz.prog.info? 132).map (·.size) = some (ws.map wv).length := by rw [hwz]; exact Tryz.siz45
  have hlW : (wz 64).length = (ws.map wv).length := by rw [hwz]; rfl
  have HWA := (show Hid (∀ k, k < 64 → (ws.map wv)[k]? = some (.int .u32 (wi (ws.getD k 0)))) from fun k hk => by
    have : k < ws.length := by omega
    simp [List.getD, List.getElem?_eq_getElem this, wv])
  have HKA := (show Hid (∀ k, k < 64 → (kk.map wv)[k]? = some (.int .u32 (wi (kk.getD k 0)))) from fun k hk => by
    have : k < kk.length := by rw [kk_len]; omega
    simp [List.getD, List.getElem?_eq_getElem this, wv])
  clear hws hVf hwl hwz hp
  go_enter Tryz.func83, Tryz.ntmps83
  go_wp2_with fail
  have b0 := below_alloc w (.cells s.vs.toArray 110)
  have b1 := below_alloc (w.alloc (.cells s.vs.toArray 110)) (.cells zero8.vs.toArray 110)
  have hS0 : Row ((w.alloc (.cells s.vs.toArray 110)).alloc (.cells zero8.vs.toArray 110)) w.heap.size 110 s.vs := (Row.new w 110 s.vs).below b1
  have hR0 : Row ((w.alloc (.cells s.vs.toArray 110)).alloc (.cells zero8.vs.toArray 110)) (w.heap.size + 1) 110 zero8.vs := heap_alloc2_new w _ _
  have hB0 := below_and b0 le b1
  refine (HSP.out _ (hrd.below hB0)).mono ?_
  rintro e w1 ⟨rfl, hb1⟩
  have hS1 := hS0.below hb1
  have hR1 := hR0.below hb1
  have hB1 := below_and hB0 le hb1
  clear hS0 hR0 hB0 b0 b1 hb1 HSP hrd
  go_wp2_with (refine wl_store (by rfl) 132 _ _ (by rfl) w1.heap.size (ws.map wv) (by rfl) (by rfl) 132 (wz 64) (heap_alloc_new w1 _) hlW hsW (wv_one ws) ?_; intro w2 hr2 hg2)
  have ba := below_alloc w1 (.cells (wz 64).toArray 132)
  have hW2 : Row w2 w1.heap.size 132 (ws.map wv) := hr2.out
  have hbx : Below w1.heap.size w1 w2 := ba.trans (grown_below hg2 (by simp) (fun k hk => by cases hk; exact Nat.le_refl _))
  have hS2 := hS1.below hbx
  have hR2 := hR1.below hbx
  have hB2 := below_and hB1 le hbx
  have hz1 := hR1.lt
  clear hS1 hR1 hg2 hr2 ba hB1 hsW hlW
  refine (k_any w2).mono ?_
  rintro e w3 ⟨rfl, hb3⟩
  have hS3 := hS2.below hb3
  have hR3 := hR2.below hb3
  have hW3 := hW2.below hb3
  have hB3 := below_and hB2 le hb3
  have hz2 := hW3.lt
  clear hS2 hR2 hW2 hB2 hb3 hbx
  go_wp2_with (first
    | (refine wl_store (by rfl) 132 _ _ (by rfl) w3.heap.size (kk.map wv) (by rfl) (by rfl) 132 (wz 64) (heap_alloc_new w3 _) (by rfl) (by kernel_rfl) (wv_one kk) ?_; intro w4 hr4 hg4)
    | (refine wl_load (by rfl) 110 _ (by rfl) w.heap.size (by rfl) 110 s.vs ((hS3.below (below_alloc w3 _)).grown hg4 (by simp; omega)) _ Tryz.und35 rfl Tryz.siz35 ?_)
    | (refine wl_store (by rfl) 110 _ _ (by rfl) w4.heap.size s.vs (by rfl) (by rfl) 110 zero8.vs (heap_alloc_new w4 _) (by rfl) Tryz.siz35 (wv_one s.ws) ?_; intro w5 hr5 hg5))
  have hK4 : Row w4 w3.heap.size 132 (kk.map wv) := hr4.out
  have hby : Below w3.heap.size w3 w4 := (below_alloc w3 _).trans (grown_below hg4 (by simp) (fun k hk => by cases hk; exact Nat.le_refl _))
  have hbz : Below w4.heap.size w4 w5 := (below_alloc w4 _).trans (grown_below hg5 (by simp) (fun k hk => by cases hk; exact Nat.le_refl _))
  have hV5 : Row w5 w4.heap.size 110 s.vs := hr5.out
  have hS5 := (hS3.below hby).below hbz
  have hR5 := (hR3.below hby).below hbz
  have hW5 := (hW3.below hby).below hbz
  have hK5 := hK4.below hbz
  have hB5 := below_and (below_and hB3 le hby) le hbz
  have hz3 := hK4.lt
  clear hS3 hR3 hW3 hB3 hK4 hby hbz hr4 hg4 hr5 hg5
  go_loopw [8] (fun i wr => ∃ k : Nat, k ≤ 64 ∧ i = .int .i64 k ∧ Row wr w4.heap.size 110 (rnd ws s k).vs ∧ w5.grownBy wr (some w4.heap.size)) (fun i _ => 64 - (intOf i).toNat)
  case atStart => exact ⟨0, by omega, rfl, hV5, grown_refl _ _⟩
  case round =>
    obtain ⟨k, hk, rfl, hrk, hgk⟩ := hrel
    by_cases hk64 : k < 64
    · have cw : wr.cell? ⟨w1.heap.size, k, none⟩ = some (.int .u32 (wi (ws.getD k 0))) := (hW5.grown hgk (by simp; omega)).cell (HWA.out k hk64)
      have ck : wr.cell? ⟨w3.heap.size, k, none⟩ = some (.int .u32 (wi (kk.getD k 0))) := (hK5.grown hgk (by simp; omega)).cell (HKA.out k hk64)
      obtain ⟨V, hV⟩ : ∃ V, V = rnd ws s k := ⟨_, rfl⟩
      rw [← hV] at hrk
      have HR := (show Hid (rnd ws s (k + 1) = rstep V (kk.getD k 0 + ws.getD k 0)) by rw [hV]; rfl)
      obtain ⟨x, hx⟩ : ∃ x, x = ws.getD k 0 := ⟨_, rfl⟩
      obtain ⟨y, hy⟩ : ∃ y, y = kk.getD k 0 := ⟨_, rfl⟩
      rw [← hx] at cw HR
      rw [← hy] at ck HR
      have hiw : ∀ u : World, (Instr.indexAt 132 (.pointer (some ⟨w1.heap.size, 0, none⟩)) (.int .i64 (k : Int))).run Tryz.prog u = .ok (.pointer (some ⟨w1.heap.size, k, none⟩)) u := run_ix w1.heap.size k hk64
      have hik : ∀ u : World, (Instr.indexAt 132 (.pointer (some ⟨w3.heap.size, 0, none⟩)) (.int .i64 (k : Int))).run Tryz.prog u = .ok (.pointer (some ⟨w3.heap.size, k, none⟩)) u := run_ix w3.heap.size k hk64
      have c0 : wr.cell? ⟨w4.heap.size, 0, none⟩ = some (.int .u32 (wi V.a)) := hrk.cell rfl
      have c1 : wr.cell? ⟨w4.heap.size, 1, none⟩ = some (.int .u32 (wi V.b)) := hrk.cell rfl
      have c2 : wr.cell? ⟨w4.heap.size, 2, none⟩ = some (.int .u32 (wi V.c)) := hrk.cell rfl
      have c3 : wr.cell? ⟨w4.heap.size, 3, none⟩ = some (.int .u32 (wi V.d)) := hrk.cell rfl
      have c4 : wr.cell? ⟨w4.heap.size, 4, none⟩ = some (.int .u32 (wi V.e)) := hrk.cell rfl
      have c5 : wr.cell? ⟨w4.heap.size, 5, none⟩ = some (.int .u32 (wi V.f)) := hrk.cell rfl
      have c6 : wr.cell? ⟨w4.heap.size, 6, none⟩ = some (.int .u32 (wi V.g)) := hrk.cell rfl
      have c7 : wr.cell? ⟨w4.heap.size, 7, none⟩ = some (.int .u32 (wi V.h)) := hrk.cell rfl
      clear hV hx hy
      go_wp2_with fail
      go_quiet (fail)
      go_wp2_with fail
      go_quiet ((go_at_call 105; exact quiet_as (turn_all _ V.e _ (by decide)) rfl))
      go_wp2_with fail
      refine (turn_all _ V.a _ (by decide)).mono ?_
      rintro e wq ⟨rfl, rfl⟩
      go_wp2_with fail
      refine (turn_all _ V.a _ (by decide)).mono ?_
      rintro e wq ⟨rfl, rfl⟩
      go_wp2_with fail
      refine (turn_all _ V.a _ (by decide)).mono ?_
      rintro e wq ⟨rfl, rfl⟩
      go_wp2_with (refine wl_store (by rfl) 110 _ _ (by rfl) w4.heap.size [.int .u32 _, .int .u32 _, .int .u32 _, .int .u32 _, .int .u32 _, .int .u32 _, .int .u32 _, .int .u32 _] (by rfl) (by rfl) 110 V.vs hrk (by rfl) Tryz.siz35 (eight_one _ _ _ _ _ _ _ _) ?_; intro w6 hr6 hg6)
      have HR6 := (show Hid (Row w6 w4.heap.size 110 (rnd ws s (k + 1)).vs) by
        have h6 := hr6.out
        simp only [bits_not', bits_and, bits_or, bits_xor, mod_wi, ofInt_sum, ofInt_wi] at h6
        show Row _ _ _ _
        rw [HR.out, rstep_two]
        exact h6)
      have hg6' := grown_trans hgk (grown_drewN hg6) (.inl rfl)
      clear hr6 hg6 hgk hrk cw ck c0 c1 c2 c3 c4 c5 c6 c7 HR
      go_roundw
      case rel => exact ⟨k + 1, by omega, by go_num, HR6, hg6'⟩
      case measure => simp [intOf]; omega
    · have hrV : Row wr w4.heap.size 110 Vf.vs := by rw [HV.out, show 64 = k by omega]; exact hrk
      have hS6 := hS5.grown hgk (by simp; omega)
      have hR6 := hR5.grown hgk (by simp; omega)
      have hB6 : Below w.heap.size w wr := hB5.trans (grown_below hgk hB5.size (fun j hj => by cases hj; omega))
      clear hrk HV hgk hS5 hR5 hW5 hK5 hB5 hV5 HWA HKA
      obtain ⟨wx, hwx⟩ : ∃ u, u = wr := ⟨_, rfl⟩
      go_wp2_with fail
      go_loopw [17] (fun i wr => ∃ j : Nat, j ≤ 8 ∧ i = .int .i64 j ∧ Row wr w.heap.size 110 ((raised s Vf j).map wv) ∧ wx.grownBy wr (some w.heap.size)) (fun i _ => 8 - (intOf i).toNat)
      case atStart => exact ⟨0, by omega, rfl, hS6, by rw [hwx]; exact grown_refl _ _⟩
      case round =>
        rw [← hwx] at hrV hR6 hB6
        clear hS6
        obtain ⟨j, hj, rfl, hrj, hgj⟩ := hrel
        by_cases hj8 : j < 8
        · have cV : wr.cell? ⟨w4.heap.size, j, none⟩ = some (.int .u32 (wi (Vf.ws.getD j 0))) := (hrV.grown hgj (by simp; omega)).cell (by rcases (by omega : j = 0 ∨ j = 1 ∨ j = 2 ∨ j = 3 ∨ j = 4 ∨ j = 5 ∨ j = 6 ∨ j = 7) with rfl | rfl | rfl | rfl | rfl | rfl | rfl | rfl <;> rfl)
          have cS : wr.cell? ⟨w.heap.size, j, none⟩ = some (.int .u32 (wi (s.ws.getD j 0))) := hrj.cell (by rw [List.getElem?_map, raised_at s Vf j hj8]; rfl)
          have fS := hrj.frozen j
          have h1 : ∀ u : World, (Instr.indexAt 110 (.pointer (some ⟨w.heap.size, 0, none⟩)) (.int .i64 (j : Int))).run Tryz.prog u = .ok (.pointer (some ⟨w.heap.size, j, none⟩)) u := run_ix8' _ j hj8
          have h2 : ∀ u : World, (Instr.indexAt 110 (.pointer (some ⟨w4.heap.size, 0, none⟩)) (.int .i64 (j : Int))).run Tryz.prog u = .ok (.pointer (some ⟨w4.heap.size, j, none⟩)) u := run_ix8' _ j hj8
          go_wp2_with fail
          go_region
          go_wp2_with fail
          go_roundw
          case rel =>
            rw [add_wi]
            refine ⟨j + 1, by omega, by go_num, ?_, grown_to_drew (grown_trans hgj (grown_set _ _ _ _) (.inl rfl))⟩
            have hs := raised_set' s Vf j hj8 []
            rw [List.append_nil, List.append_nil] at hs
            rw [← hs]
            exact (hrj.set j _).drew
          case measure => simp [intOf]; omega
        · have hrf : Row wr w.heap.size 110 (s.add Vf).vs := by
            rw [show j = 8 by omega] at hrj
            exact hrj
          have hRf := hR6.grown hgj (by simp)
          have hBf : Below w.heap.size w wr := hB6.trans (grown_below hgj hB6.size (fun j hj => by cases hj; omega))
          clear hrj hgj hR6 hB6 hrV
          go_wp2_with (first
            | (refine wl_load (by rfl) 110 _ (by rfl) w.heap.size (by rfl) 110 (s.add Vf).vs hrf _ Tryz.und35 rfl Tryz.siz35 ?_)
            | (refine wl_store (by rfl) 110 _ _ (by rfl) (w.heap.size + 1) (s.add Vf).vs (by rfl) (by rfl) 110 zero8.vs hRf (by rfl) Tryz.siz35 (wv_one (s.add Vf).ws) ?_; intro w9 hr9 hg9))
          exact bodyPost_ret (v := .agg (s.add Vf).vs.toArray) (results_cell_row rfl _ _ (w.heap.size + 1) _ (s.add Vf).vs.toArray (0, 0) _ (by rfl) hr9.out Tryz.und35 rfl (by kernel_rfl)) rfl ⟨rfl, hBf.trans (grown_below hg9 hBf.size (fun k hk => by cases hk; omega))⟩
end Go.Proofs.YtijmecplechhgaaGreatDoor
end
