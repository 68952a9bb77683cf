/- The walks over package clone: messages. Written by mk12s.py. -/
import Derived.Test.YtgjepofinpmcpaaGreatDoorSBK
import Derived.Test.YtgjepofinpmcpaaGreatDoorSAY
import Derived.Lib.SliceRun
set_option linter.unusedSimpArgs false
set_option linter.unusedVariables false
namespace Go.Proofs.YtgjepofinpmcpaaGreatDoor
open Go.RowKit Oct
theorem one_RIntS {G : Nat → Prop} {w : World} {r : List Value} {x : Int} (h : RInt G w r x) : ∀ v ∈ r, v.oneCell' = true := by
  intro v hv
  rw [h] at hv
  simp at hv
  subst hv
  rfl
theorem Tryz.infIntS : (Tryz.prog.info? 3).map (fun i => (i.zero, i.size, i.bytes)) = some (some (.int .i64 0), 1, 8) := by kernel_rfl
set_option maxRecDepth 10000 in
/-- slices.Clone of sessions. -/
theorem scloneIntR_any (w : World) (v : Value) (ys : List Int) (h : RL RInt 1 Any w v ys) (hz : szL 8 (fun _ => True) ys) :
    Calls Tryz.prog 144 #[v] w fun e w' => ∃ v', e = .returned v' ∧ Below w.heap.size w w' ∧ ∃ rows, w'.ownsRow w.heap.size 3 1 v' ys.length rows.flatten ∧ (∀ r ∈ rows, r.length = 1) ∧ All2 (RInt Any w) rows ys := by
  obtain ⟨rows, ⟨h0, h1⟩, h2⟩ := h
  have hlen := h2.len
  have hz1 := hz.1
  have hfl := flat_len h0
  have hone : ∀ u ∈ rows.flatten, u.oneCell' = true := by
    intro u hu
    obtain ⟨r, hr, hur⟩ := List.mem_flatten.1 hu
    obtain ⟨i, hi, rfl⟩ := List.getElem_of_mem hr
    have := h2.get (List.getElem?_eq_getElem hi) (List.getElem?_eq_getElem (by omega))
    exact one_RIntS this u hur
  have hcell : ∀ b off, (∀ (i : Nat) (r : List Value), rows[i]? = some r → w.rangeAt b (off + i * 1) r) → ∀ j u, rows.flatten[j]? = some u → w.cell? ⟨b, off + j, none⟩ = some u := by
    intro b off hr j u hu
    have hj : j < rows.length * 1 := by rw [← hfl]; exact (List.getElem?_eq_some_iff.1 hu).1
    have hi : j / 1 < rows.length := by omega
    have hk := h0 _ (List.getElem_mem hi)
    have hjm : j % 1 < rows[j / 1].length := by omega
    have e1 := flat_at (j := j % 1) h0 (List.getElem?_eq_getElem hi) (List.getElem?_eq_getElem hjm)
    rw [show j / 1 * 1 + j % 1 = j by omega] at e1
    have e2 := hr (j / 1) _ (List.getElem?_eq_getElem hi) (j % 1) _ (List.getElem?_eq_getElem hjm)
    rw [show off + j / 1 * 1 + j % 1 = off + j by omega] at e2
    rw [e1] at hu
    rw [e2, hu]
  have HR := (show Hid (All2 (RInt Any w) rows ys) from h2)
  have HN := (show Hid (rows.flatten.length = rows.length * 1) from hfl)
  have HO := (show Hid (∀ u ∈ rows.flatten, u.oneCell' = true) from hone)
  obtain ⟨i0, hi, hz0, hzs, hzb⟩ := info_parts Tryz.infIntS
  rcases h1 with ⟨ao, cap, rfl, rfl, hcap⟩ | ⟨b, off, cap, rfl, hc1, hc2, hpos, _, hb, hr⟩
  · obtain rfl : ys = [] := List.eq_nil_of_length_eq_zero (by simpa using hlen.symm)
    cases ao with
    | none =>
      have hq : ∀ (n c : Nat) (u : World), (binOp .eql 36 (.slice none 0 cap) (.slice none n c)).run Tryz.prog u = .ok (.bool true) u := fun n c u => Lib.run_eql_slice_nil u 36 3 none 0 cap n c Tryz.underlying36
      go_enter Tryz.func144, Tryz.ntmps144
      go_wp2_with fail
      go_ret
      exact ⟨_, rfl, Below.refl _ _, [], World.ownsRow_nil _ _ _ _, (fun r hr => by cases hr), trivial⟩
    | some a =>
      have hq : ∀ (n c : Nat) (u : World), (binOp .eql 36 (.slice (some a) 0 cap) (.slice none n c)).run Tryz.prog u = .ok (.bool false) u := fun n c u => Lib.run_eql_slice_nil u 36 3 (some a) 0 cap n c Tryz.underlying36
      go_enter Tryz.func144, Tryz.ntmps144
      go_wp2_with (at_builtin; refine wpList_append_own _ rfl _ _ 36 rfl w.heap.size 3 i0 _ 1 8 Tryz.underlying36 hi hz0 hzs hzb rfl (by decide) _ _ _ rfl (World.ownsRow_made w #[] 0 (Nat.le_refl _) (Nat.zero_le _) (by simp)) a 0 cap [] rfl rfl (fun j u hu => by simp at hu) (fun u hu => by cases hu) (by simp) (by simp) (by simp) ?_; intro v' w1 hown hgrow hnil)
      go_ret
      exact ⟨_, rfl, ((Below.refl _ w).alloc (Nat.le_refl _) _).grown hgrow (by simp) (fr_at _ _ _ _ (Nat.le_refl _)), [], by simpa using hown, (fun r hr => by cases hr), trivial⟩
  · have HC := (show Hid (∀ j u, rows.flatten[j]? = some u → w.cell? ⟨b, off + j, none⟩ = some u) from hcell b off hr)
    have hq : ∀ (n c : Nat) (u : World), (binOp .eql 36 (.slice (some ⟨b, off, none⟩) rows.length cap) (.slice none n c)).run Tryz.prog u = .ok (.bool false) u := fun n c u => Lib.run_eql_slice_nil u 36 3 (some ⟨b, off, none⟩) rows.length cap n c Tryz.underlying36
    have hb1 : rows.length * 8 ≤ 140737488355328 := by rw [hlen]; omega
    have hm1 : rows.length ≤ maxLen := by unfold maxLen at *; omega
    have HQ := (show Hid (∀ j u, rows.flatten[j]? = some u → (w.alloc (.cells #[] 3)).cell? ((⟨b, off, none⟩ : Addr).add j) = some u) from fun j u hj => by
      rw [Addr.add_mid]
      exact ((below_alloc w _).cell (p := ⟨b, off + j, none⟩) hb).trans (HC.out j u hj))
    have HL := (show Hid (rows.length = ys.length) from hlen)
    clear hr hcell hfl hone h2 hlen
    go_enter Tryz.func144, Tryz.ntmps144
    go_wp2_with (at_builtin; refine wpList_append_own _ rfl _ _ 36 rfl w.heap.size 3 i0 _ 1 8 Tryz.underlying36 hi hz0 hzs hzb rfl (by decide) _ _ _ rfl (World.ownsRow_made w #[] 0 (Nat.le_refl _) (Nat.zero_le _) (by simp)) ⟨b, off, none⟩ rows.length cap rows.flatten rfl HN.out HQ.out HO.out (by rw [Nat.zero_add]; exact hm1) (by rw [Nat.zero_add]; exact hb1) (by simp) ?_; intro v' w1 hown hgrow hnil)
    go_ret
    exact ⟨_, rfl, ((Below.refl _ w).alloc (Nat.le_refl _) _).grown hgrow (by simp) (fr_at _ _ _ _ (Nat.le_refl _)), rows, by rw [← HL.out]; simpa using hown, h0, HR.out⟩
theorem scloneInts_any (w : World) (v : Value) (ys : List Int) (h : RL RInt 1 Any w v ys) (hz : szL 8 (fun _ => True) ys) :
    Calls Tryz.prog 144 #[v] w fun e w' => ∃ v', e = .returned v' ∧ RL RInt 1 (From w.heap.size) w' v' ys ∧ Below w.heap.size w w' := by
  refine (scloneIntR_any w v ys h hz).mono ?_
  rintro e w' ⟨v', e1, hb, rows, hown, h0, hall⟩
  refine ⟨v', e1, ?_, hb⟩
  have hlen := hall.len
  have hL : LB RInt 3 1 w.heap.size w' v' ys := ⟨rows, h0, by rw [hlen]; exact owns_base hown, fun k hk => (World.ownsRow.lt hown k hk).1, hall.mono fun r a h => h⟩
  exact hL.rl mov_int
set_option maxRecDepth 10000 in
set_option maxHeartbeats 8000000 in
theorem cloneMsgS_any (w : World) (m : PMsg) (s : SV) (hs : SOk Any w m s) (hz : szM m) :
    Calls Tryz.prog 132 #[.agg (mc m s).toArray] w fun e w' => ∃ s', e = .returned (.agg (mc m s').toArray) ∧ SOk (From w.heap.size) w' m s' ∧ Below w.heap.size w w' := by
  obtain ⟨w2, hw2⟩ : ∃ w2, w2 = (w.alloc (.cells (mc m s).toArray 40)).alloc (.cells #[.int .i64 0, .int .i64 0, .int .i64 0, .int .i64 0, .int .i64 0, .int .i64 0, .int .i64 0, .int .i64 0, .int .i64 0, .int .i64 0, .slice none 0 0, .slice none 0 0, .int .i64 0, .int .i64 0, .slice none 0 0, .slice none 0 0, .slice none 0 0, .slice none 0 0, .slice none 0 0, .slice none 0 0, .slice none 0 0, .slice none 0 0, .slice none 0 0] 40) := ⟨_, rfl⟩
  have ra : Row w2 w.heap.size 40 [.int .i64 m.kind, .int .i64 m.bal.1, .int .i64 m.bal.2, .int .i64 m.slot, .int .i64 m.frm, .int .i64 m.to, .int .i64 m.idx, .int .i64 m.cnt, .int .i64 m.req.1, .int .i64 m.req.2.1, s.o, s.g, .int .i64 m.oth.1, .int .i64 m.oth.2.1, s.o', s.g', s.d, s.s, s.c, s.v, s.n, s.p, s.l] := by rw [hw2]; exact rowA (Row.new w 40 (mc m s)) _
  have rr : Row w2 (w.heap.size + 1) 40 [.int .i64 0, .int .i64 0, .int .i64 0, .int .i64 0, .int .i64 0, .int .i64 0, .int .i64 0, .int .i64 0, .int .i64 0, .int .i64 0, .slice none 0 0, .slice none 0 0, .int .i64 0, .int .i64 0, .slice none 0 0, .slice none 0 0, .slice none 0 0, .slice none 0 0, .slice none 0 0, .slice none 0 0, .slice none 0 0, .slice none 0 0, .slice none 0 0] := by
    have h1 : (w.alloc (.cells (mc m s).toArray 40)).heap.size = w.heap.size + 1 := by simp
    rw [hw2, ← h1]
    exact Row.new (w.alloc (.cells (mc m s).toArray 40)) 40 [.int .i64 0, .int .i64 0, .int .i64 0, .int .i64 0, .int .i64 0, .int .i64 0, .int .i64 0, .int .i64 0, .int .i64 0, .int .i64 0, .slice none 0 0, .slice none 0 0, .int .i64 0, .int .i64 0, .slice none 0 0, .slice none 0 0, .slice none 0 0, .slice none 0 0, .slice none 0 0, .slice none 0 0, .slice none 0 0, .slice none 0 0, .slice none 0 0]
  have B : Below w.heap.size w w2 := by rw [hw2]; exact ((Below.refl _ w).alloc (Nat.le_refl _) _).alloc (by simp) _
  have hC : w.heap.size + 2 ≤ w2.heap.size := by rw [hw2]; simp
  go_enter Tryz.func132, Tryz.ntmps132
  go_upto_region 1 with fail
  rw [← hw2]
  clear hw2
  have hI : RReq Any w2 [.int .i64 m.req.1, .int .i64 m.req.2.1, s.o, s.g] (m.req) := ⟨_, _, rfl, hs.o.mv (Mv.below B), hs.g.mv (Mv.below B)⟩
  have hG := cloneReqS_any w2 _ _ hI hz.req
  have hrng : World.rangeAt w2 w.heap.size 8 [.int .i64 m.req.1, .int .i64 m.req.2.1, s.o, s.g] := fun q u hq => ra.cell (j := 8 + q) (by
    match q, hq with
    | 0, hq => exact hq
    | 1, hq => exact hq
    | 2, hq => exact hq
    | 3, hq => exact hq)
  go_upto_region 2 with (first
    | (refine wpList_load_mid rfl _ _ rfl w.heap.size 8 rfl [.int .i64 m.req.1, .int .i64 m.req.2.1, s.o, s.g] _ hrng Tryz.underlying34 rfl (by kernel_rfl) ?_)
    | (go_at_call 61; refine hG.mono ?_; rintro e wa0 ⟨rq0, rfl, hq0, hb0⟩; obtain ⟨a0, b0, rfl, fa0, fb0⟩ := hq0; have rai := ra.below hb0)
    | (refine wl_put rfl _ _ _ rfl w.heap.size 8 [.int .i64 m.req.1, .int .i64 m.req.2.1, a0, b0] rfl rfl _ _ rai (show 12 ≤ 23 by decide) (by kernel_rfl) (one4 fa0.one fb0.one) ?_; intro wb0 rbi hg0))
  clear hrng
  have ra : Row wb0 w.heap.size 40 [.int .i64 m.kind, .int .i64 m.bal.1, .int .i64 m.bal.2, .int .i64 m.slot, .int .i64 m.frm, .int .i64 m.to, .int .i64 m.idx, .int .i64 m.cnt, .int .i64 m.req.1, .int .i64 m.req.2.1, a0, b0, .int .i64 m.oth.1, .int .i64 m.oth.2.1, s.o', s.g', s.d, s.s, s.c, s.v, s.n, s.p, s.l] := rbi.out
  have rr := (rr.below hb0).grown hg0 (fun h => by injection h; omega)
  have fa0 := ((fa0.mv (Mv.weak (L := w.heap.size + 2) hC)).mv (Mv.from hg0 (by omega) (Nat.le_refl _)))
  have fb0 := ((fb0.mv (Mv.weak (L := w.heap.size + 2) hC)).mv (Mv.from hg0 (by omega) (Nat.le_refl _)))
  have B : Below w.heap.size w wb0 := (below_and B (Nat.le_refl _) hb0).trans (grown_below hg0 (below_and B (Nat.le_refl _) hb0).size (fun k hk => by cases hk; exact Nat.le_refl _))
  have hC := Nat.le_trans hC (Nat.le_trans hb0.size hg0.size)
  clear hG hI rai rbi hb0 hg0
  have hI : RReq Any wb0 [.int .i64 m.oth.1, .int .i64 m.oth.2.1, s.o', s.g'] (m.oth) := ⟨_, _, rfl, hs.o'.mv (Mv.below B), hs.g'.mv (Mv.below B)⟩
  have hG := cloneReqS_any wb0 _ _ hI hz.oth
  have hrng : World.rangeAt wb0 w.heap.size 12 [.int .i64 m.oth.1, .int .i64 m.oth.2.1, s.o', s.g'] := fun q u hq => ra.cell (j := 12 + q) (by
    match q, hq with
    | 0, hq => exact hq
    | 1, hq => exact hq
    | 2, hq => exact hq
    | 3, hq => exact hq)
  go_upto_region 3 with (first
    | (refine wpList_load_mid rfl _ _ rfl w.heap.size 12 rfl [.int .i64 m.oth.1, .int .i64 m.oth.2.1, s.o', s.g'] _ hrng Tryz.underlying34 rfl (by kernel_rfl) ?_)
    | (go_at_call 61; refine hG.mono ?_; rintro e wa1 ⟨rq1, rfl, hq1, hb1⟩; obtain ⟨a1, b1, rfl, fa1, fb1⟩ := hq1; have rai := ra.below hb1)
    | (refine wl_put rfl _ _ _ rfl w.heap.size 12 [.int .i64 m.oth.1, .int .i64 m.oth.2.1, a1, b1] rfl rfl _ _ rai (show 16 ≤ 23 by decide) (by kernel_rfl) (one4 fa1.one fb1.one) ?_; intro wb1 rbi hg1))
  clear hrng
  have ra : Row wb1 w.heap.size 40 [.int .i64 m.kind, .int .i64 m.bal.1, .int .i64 m.bal.2, .int .i64 m.slot, .int .i64 m.frm, .int .i64 m.to, .int .i64 m.idx, .int .i64 m.cnt, .int .i64 m.req.1, .int .i64 m.req.2.1, a0, b0, .int .i64 m.oth.1, .int .i64 m.oth.2.1, a1, b1, s.d, s.s, s.c, s.v, s.n, s.p, s.l] := rbi.out
  have rr := (rr.below hb1).grown hg1 (fun h => by injection h; omega)
  have fa0 := ((fa0.mv (Mv.belowF hb1 (Nat.le_refl _))).mv (Mv.from hg1 (by omega) (Nat.le_refl _)))
  have fb0 := ((fb0.mv (Mv.belowF hb1 (Nat.le_refl _))).mv (Mv.from hg1 (by omega) (Nat.le_refl _)))
  have fa1 := ((fa1.mv (Mv.weak (L := w.heap.size + 2) hC)).mv (Mv.from hg1 (by omega) (Nat.le_refl _)))
  have fb1 := ((fb1.mv (Mv.weak (L := w.heap.size + 2) hC)).mv (Mv.from hg1 (by omega) (Nat.le_refl _)))
  have B : Below w.heap.size w wb1 := (below_and B (Nat.le_refl _) hb1).trans (grown_below hg1 (below_and B (Nat.le_refl _) hb1).size (fun k hk => by cases hk; exact Nat.le_refl _))
  have hC := Nat.le_trans hC (Nat.le_trans hb1.size hg1.size)
  clear hG hI rai rbi hb1 hg1
  have hI := (hs.d.mv (Mv.below B))
  have cI := ra.cell (j := 16) rfl
  have hG := clone_any wb1 _ _ hI.1 (Nat.le_trans (hz.data) (by decide))
  go_upto_region 4 with (first
    | (go_at_call 64; refine hG.mono ?_; rintro e wa2 ⟨v2, rfl, f2, hb2⟩; have rai := ra.below hb2)
    | (refine wl_set rfl _ _ _ rfl w.heap.size 16 _ rfl rfl _ _ rai (show 16 < 23 by decide) (by kernel_rfl) f2.one ?_; intro wb2 rbi hg2))
  have ra : Row wb2 w.heap.size 40 [.int .i64 m.kind, .int .i64 m.bal.1, .int .i64 m.bal.2, .int .i64 m.slot, .int .i64 m.frm, .int .i64 m.to, .int .i64 m.idx, .int .i64 m.cnt, .int .i64 m.req.1, .int .i64 m.req.2.1, a0, b0, .int .i64 m.oth.1, .int .i64 m.oth.2.1, a1, b1, v2, s.s, s.c, s.v, s.n, s.p, s.l] := rbi.out
  have rr := (rr.below hb2).grown hg2 (fun h => by injection h; omega)
  have fa0 := ((fa0.mv (Mv.belowF hb2 (Nat.le_refl _))).mv (Mv.from hg2 (by omega) (Nat.le_refl _)))
  have fb0 := ((fb0.mv (Mv.belowF hb2 (Nat.le_refl _))).mv (Mv.from hg2 (by omega) (Nat.le_refl _)))
  have fa1 := ((fa1.mv (Mv.belowF hb2 (Nat.le_refl _))).mv (Mv.from hg2 (by omega) (Nat.le_refl _)))
  have fb1 := ((fb1.mv (Mv.belowF hb2 (Nat.le_refl _))).mv (Mv.from hg2 (by omega) (Nat.le_refl _)))
  have f2 := ((f2.mv (Mv.weak (L := w.heap.size + 2) hC)).mv (Mv.from hg2 (by omega) (Nat.le_refl _)))
  have B : Below w.heap.size w wb2 := (below_and B (Nat.le_refl _) hb2).trans (grown_below hg2 (below_and B (Nat.le_refl _) hb2).size (fun k hk => by cases hk; exact Nat.le_refl _))
  have hC := Nat.le_trans hC (Nat.le_trans hb2.size hg2.size)
  clear hG hI rai rbi hb2 hg2 cI
  have hI := (hs.s.mv (Mv.below B))
  have cI := ra.cell (j := 17) rfl
  have hG := clone_any wb2 _ _ hI.1 (Nat.le_trans (hz.sig) (by decide))
  go_upto_region 5 with (first
    | (go_at_call 64; refine hG.mono ?_; rintro e wa3 ⟨v3, rfl, f3, hb3⟩; have rai := ra.below hb3)
    | (refine wl_set rfl _ _ _ rfl w.heap.size 17 _ rfl rfl _ _ rai (show 17 < 23 by decide) (by kernel_rfl) f3.one ?_; intro wb3 rbi hg3))
  have ra : Row wb3 w.heap.size 40 [.int .i64 m.kind, .int .i64 m.bal.1, .int .i64 m.bal.2, .int .i64 m.slot, .int .i64 m.frm, .int .i64 m.to, .int .i64 m.idx, .int .i64 m.cnt, .int .i64 m.req.1, .int .i64 m.req.2.1, a0, b0, .int .i64 m.oth.1, .int .i64 m.oth.2.1, a1, b1, v2, v3, s.c, s.v, s.n, s.p, s.l] := rbi.out
  have rr := (rr.below hb3).grown hg3 (fun h => by injection h; omega)
  have fa0 := ((fa0.mv (Mv.belowF hb3 (Nat.le_refl _))).mv (Mv.from hg3 (by omega) (Nat.le_refl _)))
  have fb0 := ((fb0.mv (Mv.belowF hb3 (Nat.le_refl _))).mv (Mv.from hg3 (by omega) (Nat.le_refl _)))
  have fa1 := ((fa1.mv (Mv.belowF hb3 (Nat.le_refl _))).mv (Mv.from hg3 (by omega) (Nat.le_refl _)))
  have fb1 := ((fb1.mv (Mv.belowF hb3 (Nat.le_refl _))).mv (Mv.from hg3 (by omega) (Nat.le_refl _)))
  have f2 := ((f2.mv (Mv.belowF hb3 (Nat.le_refl _))).mv (Mv.from hg3 (by omega) (Nat.le_refl _)))
  have f3 := ((f3.mv (Mv.weak (L := w.heap.size + 2) hC)).mv (Mv.from hg3 (by omega) (Nat.le_refl _)))
  have B : Below w.heap.size w wb3 := (below_and B (Nat.le_refl _) hb3).trans (grown_below hg3 (below_and B (Nat.le_refl _) hb3).size (fun k hk => by cases hk; exact Nat.le_refl _))
  have hC := Nat.le_trans hC (Nat.le_trans hb3.size hg3.size)
  clear hG hI rai rbi hb3 hg3 cI
  have hI := (hs.c.mv mov_vote B.size (Mv.below B))
  have cI := ra.cell (j := 18) rfl
  have hG := cvotesS_any wb3 _ _ hI (hz.cert)
  go_upto_region 6 with (first
    | (go_at_call 143; refine hG.mono ?_; rintro e wa4 ⟨v4, rfl, f4, hb4⟩; have rai := ra.below hb4)
    | (refine wl_set rfl _ _ _ rfl w.heap.size 18 _ rfl rfl _ _ rai (show 18 < 23 by decide) (by kernel_rfl) f4.one ?_; intro wb4 rbi hg4))
  have ra : Row wb4 w.heap.size 40 [.int .i64 m.kind, .int .i64 m.bal.1, .int .i64 m.bal.2, .int .i64 m.slot, .int .i64 m.frm, .int .i64 m.to, .int .i64 m.idx, .int .i64 m.cnt, .int .i64 m.req.1, .int .i64 m.req.2.1, a0, b0, .int .i64 m.oth.1, .int .i64 m.oth.2.1, a1, b1, v2, v3, v4, s.v, s.n, s.p, s.l] := rbi.out
  have rr := (rr.below hb4).grown hg4 (fun h => by injection h; omega)
  have fa0 := ((fa0.mv (Mv.belowF hb4 (Nat.le_refl _))).mv (Mv.from hg4 (by omega) (Nat.le_refl _)))
  have fb0 := ((fb0.mv (Mv.belowF hb4 (Nat.le_refl _))).mv (Mv.from hg4 (by omega) (Nat.le_refl _)))
  have fa1 := ((fa1.mv (Mv.belowF hb4 (Nat.le_refl _))).mv (Mv.from hg4 (by omega) (Nat.le_refl _)))
  have fb1 := ((fb1.mv (Mv.belowF hb4 (Nat.le_refl _))).mv (Mv.from hg4 (by omega) (Nat.le_refl _)))
  have f2 := ((f2.mv (Mv.belowF hb4 (Nat.le_refl _))).mv (Mv.from hg4 (by omega) (Nat.le_refl _)))
  have f3 := ((f3.mv (Mv.belowF hb4 (Nat.le_refl _))).mv (Mv.from hg4 (by omega) (Nat.le_refl _)))
  have f4 := ((f4.mv mov_vote (Nat.le_refl _) (Mv.weak (L := w.heap.size + 2) hC)).mv mov_vote hg4.size (Mv.from hg4 (by omega) (Nat.le_refl _)))
  have B : Below w.heap.size w wb4 := (below_and B (Nat.le_refl _) hb4).trans (grown_below hg4 (below_and B (Nat.le_refl _) hb4).size (fun k hk => by cases hk; exact Nat.le_refl _))
  have hC := Nat.le_trans hC (Nat.le_trans hb4.size hg4.size)
  clear hG hI rai rbi hb4 hg4 cI
  have hI := (hs.v.mv mov_vote B.size (Mv.below B))
  have cI := ra.cell (j := 19) rfl
  have hG := cvotesS_any wb4 _ _ hI (hz.votes)
  go_upto_region 7 with (first
    | (go_at_call 143; refine hG.mono ?_; rintro e wa5 ⟨v5, rfl, f5, hb5⟩; have rai := ra.below hb5)
    | (refine wl_set rfl _ _ _ rfl w.heap.size 19 _ rfl rfl _ _ rai (show 19 < 23 by decide) (by kernel_rfl) f5.one ?_; intro wb5 rbi hg5))
  have ra : Row wb5 w.heap.size 40 [.int .i64 m.kind, .int .i64 m.bal.1, .int .i64 m.bal.2, .int .i64 m.slot, .int .i64 m.frm, .int .i64 m.to, .int .i64 m.idx, .int .i64 m.cnt, .int .i64 m.req.1, .int .i64 m.req.2.1, a0, b0, .int .i64 m.oth.1, .int .i64 m.oth.2.1, a1, b1, v2, v3, v4, v5, s.n, s.p, s.l] := rbi.out
  have rr := (rr.below hb5).grown hg5 (fun h => by injection h; omega)
  have fa0 := ((fa0.mv (Mv.belowF hb5 (Nat.le_refl _))).mv (Mv.from hg5 (by omega) (Nat.le_refl _)))
  have fb0 := ((fb0.mv (Mv.belowF hb5 (Nat.le_refl _))).mv (Mv.from hg5 (by omega) (Nat.le_refl _)))
  have fa1 := ((fa1.mv (Mv.belowF hb5 (Nat.le_refl _))).mv (Mv.from hg5 (by omega) (Nat.le_refl _)))
  have fb1 := ((fb1.mv (Mv.belowF hb5 (Nat.le_refl _))).mv (Mv.from hg5 (by omega) (Nat.le_refl _)))
  have f2 := ((f2.mv (Mv.belowF hb5 (Nat.le_refl _))).mv (Mv.from hg5 (by omega) (Nat.le_refl _)))
  have f3 := ((f3.mv (Mv.belowF hb5 (Nat.le_refl _))).mv (Mv.from hg5 (by omega) (Nat.le_refl _)))
  have f4 := ((f4.mv mov_vote hb5.size (Mv.belowF hb5 (Nat.le_refl _))).mv mov_vote hg5.size (Mv.from hg5 (by omega) (Nat.le_refl _)))
  have f5 := ((f5.mv mov_vote (Nat.le_refl _) (Mv.weak (L := w.heap.size + 2) hC)).mv mov_vote hg5.size (Mv.from hg5 (by omega) (Nat.le_refl _)))
  have B : Below w.heap.size w wb5 := (below_and B (Nat.le_refl _) hb5).trans (grown_below hg5 (below_and B (Nat.le_refl _) hb5).size (fun k hk => by cases hk; exact Nat.le_refl _))
  have hC := Nat.le_trans hC (Nat.le_trans hb5.size hg5.size)
  clear hG hI rai rbi hb5 hg5 cI
  have hI := (hs.n.mv mov_int B.size (Mv.below B))
  have cI := ra.cell (j := 20) rfl
  have hG := scloneInts_any wb5 _ _ hI (hz.order)
  go_upto_region 8 with (first
    | (go_at_call 144; refine hG.mono ?_; rintro e wa6 ⟨v6, rfl, f6, hb6⟩; have rai := ra.below hb6)
    | (refine wl_set rfl _ _ _ rfl w.heap.size 20 _ rfl rfl _ _ rai (show 20 < 23 by decide) (by kernel_rfl) f6.one ?_; intro wb6 rbi hg6))
  have ra : Row wb6 w.heap.size 40 [.int .i64 m.kind, .int .i64 m.bal.1, .int .i64 m.bal.2, .int .i64 m.slot, .int .i64 m.frm, .int .i64 m.to, .int .i64 m.idx, .int .i64 m.cnt, .int .i64 m.req.1, .int .i64 m.req.2.1, a0, b0, .int .i64 m.oth.1, .int .i64 m.oth.2.1, a1, b1, v2, v3, v4, v5, v6, s.p, s.l] := rbi.out
  have rr := (rr.below hb6).grown hg6 (fun h => by injection h; omega)
  have fa0 := ((fa0.mv (Mv.belowF hb6 (Nat.le_refl _))).mv (Mv.from hg6 (by omega) (Nat.le_refl _)))
  have fb0 := ((fb0.mv (Mv.belowF hb6 (Nat.le_refl _))).mv (Mv.from hg6 (by omega) (Nat.le_refl _)))
  have fa1 := ((fa1.mv (Mv.belowF hb6 (Nat.le_refl _))).mv (Mv.from hg6 (by omega) (Nat.le_refl _)))
  have fb1 := ((fb1.mv (Mv.belowF hb6 (Nat.le_refl _))).mv (Mv.from hg6 (by omega) (Nat.le_refl _)))
  have f2 := ((f2.mv (Mv.belowF hb6 (Nat.le_refl _))).mv (Mv.from hg6 (by omega) (Nat.le_refl _)))
  have f3 := ((f3.mv (Mv.belowF hb6 (Nat.le_refl _))).mv (Mv.from hg6 (by omega) (Nat.le_refl _)))
  have f4 := ((f4.mv mov_vote hb6.size (Mv.belowF hb6 (Nat.le_refl _))).mv mov_vote hg6.size (Mv.from hg6 (by omega) (Nat.le_refl _)))
  have f5 := ((f5.mv mov_vote hb6.size (Mv.belowF hb6 (Nat.le_refl _))).mv mov_vote hg6.size (Mv.from hg6 (by omega) (Nat.le_refl _)))
  have f6 := ((f6.mv mov_int (Nat.le_refl _) (Mv.weak (L := w.heap.size + 2) hC)).mv mov_int hg6.size (Mv.from hg6 (by omega) (Nat.le_refl _)))
  have B : Below w.heap.size w wb6 := (below_and B (Nat.le_refl _) hb6).trans (grown_below hg6 (below_and B (Nat.le_refl _) hb6).size (fun k hk => by cases hk; exact Nat.le_refl _))
  have hC := Nat.le_trans hC (Nat.le_trans hb6.size hg6.size)
  clear hG hI rai rbi hb6 hg6 cI
  have hI := (hs.p.mv mov_req B.size (Mv.below B))
  have cI := ra.cell (j := 21) rfl
  have hG := clistReq_any wb6 _ _ hI (hz.picks)
  go_upto_region 9 with (first
    | (go_at_call 145; refine hG.mono ?_; rintro e wa7 ⟨v7, rfl, f7, hb7⟩; have rai := ra.below hb7)
    | (refine wl_set rfl _ _ _ rfl w.heap.size 21 _ rfl rfl _ _ rai (show 21 < 23 by decide) (by kernel_rfl) f7.one ?_; intro wb7 rbi hg7))
  have ra : Row wb7 w.heap.size 40 [.int .i64 m.kind, .int .i64 m.bal.1, .int .i64 m.bal.2, .int .i64 m.slot, .int .i64 m.frm, .int .i64 m.to, .int .i64 m.idx, .int .i64 m.cnt, .int .i64 m.req.1, .int .i64 m.req.2.1, a0, b0, .int .i64 m.oth.1, .int .i64 m.oth.2.1, a1, b1, v2, v3, v4, v5, v6, v7, s.l] := rbi.out
  have rr := (rr.below hb7).grown hg7 (fun h => by injection h; omega)
  have fa0 := ((fa0.mv (Mv.belowF hb7 (Nat.le_refl _))).mv (Mv.from hg7 (by omega) (Nat.le_refl _)))
  have fb0 := ((fb0.mv (Mv.belowF hb7 (Nat.le_refl _))).mv (Mv.from hg7 (by omega) (Nat.le_refl _)))
  have fa1 := ((fa1.mv (Mv.belowF hb7 (Nat.le_refl _))).mv (Mv.from hg7 (by omega) (Nat.le_refl _)))
  have fb1 := ((fb1.mv (Mv.belowF hb7 (Nat.le_refl _))).mv (Mv.from hg7 (by omega) (Nat.le_refl _)))
  have f2 := ((f2.mv (Mv.belowF hb7 (Nat.le_refl _))).mv (Mv.from hg7 (by omega) (Nat.le_refl _)))
  have f3 := ((f3.mv (Mv.belowF hb7 (Nat.le_refl _))).mv (Mv.from hg7 (by omega) (Nat.le_refl _)))
  have f4 := ((f4.mv mov_vote hb7.size (Mv.belowF hb7 (Nat.le_refl _))).mv mov_vote hg7.size (Mv.from hg7 (by omega) (Nat.le_refl _)))
  have f5 := ((f5.mv mov_vote hb7.size (Mv.belowF hb7 (Nat.le_refl _))).mv mov_vote hg7.size (Mv.from hg7 (by omega) (Nat.le_refl _)))
  have f6 := ((f6.mv mov_int hb7.size (Mv.belowF hb7 (Nat.le_refl _))).mv mov_int hg7.size (Mv.from hg7 (by omega) (Nat.le_refl _)))
  have f7 := ((f7.mv mov_req (Nat.le_refl _) (Mv.weak (L := w.heap.size + 2) hC)).mv mov_req hg7.size (Mv.from hg7 (by omega) (Nat.le_refl _)))
  have B : Below w.heap.size w wb7 := (below_and B (Nat.le_refl _) hb7).trans (grown_below hg7 (below_and B (Nat.le_refl _) hb7).size (fun k hk => by cases hk; exact Nat.le_refl _))
  have hC := Nat.le_trans hC (Nat.le_trans hb7.size hg7.size)
  clear hG hI rai rbi hb7 hg7 cI
  have hI := (hs.l.mv mov_rep B.size (Mv.below B))
  have cI := ra.cell (j := 22) rfl
  have hG := clistReport_any wb7 _ _ hI (hz.reps)
  go_upto_region 10 with (first
    | (go_at_call 146; refine hG.mono ?_; rintro e wa8 ⟨v8, rfl, f8, hb8⟩; have rai := ra.below hb8)
    | (refine wl_set rfl _ _ _ rfl w.heap.size 22 _ rfl rfl _ _ rai (show 22 < 23 by decide) (by kernel_rfl) f8.one ?_; intro wb8 rbi hg8))
  have ra : Row wb8 w.heap.size 40 [.int .i64 m.kind, .int .i64 m.bal.1, .int .i64 m.bal.2, .int .i64 m.slot, .int .i64 m.frm, .int .i64 m.to, .int .i64 m.idx, .int .i64 m.cnt, .int .i64 m.req.1, .int .i64 m.req.2.1, a0, b0, .int .i64 m.oth.1, .int .i64 m.oth.2.1, a1, b1, v2, v3, v4, v5, v6, v7, v8] := rbi.out
  have rr := (rr.below hb8).grown hg8 (fun h => by injection h; omega)
  have fa0 := ((fa0.mv (Mv.belowF hb8 (Nat.le_refl _))).mv (Mv.from hg8 (by omega) (Nat.le_refl _)))
  have fb0 := ((fb0.mv (Mv.belowF hb8 (Nat.le_refl _))).mv (Mv.from hg8 (by omega) (Nat.le_refl _)))
  have fa1 := ((fa1.mv (Mv.belowF hb8 (Nat.le_refl _))).mv (Mv.from hg8 (by omega) (Nat.le_refl _)))
  have fb1 := ((fb1.mv (Mv.belowF hb8 (Nat.le_refl _))).mv (Mv.from hg8 (by omega) (Nat.le_refl _)))
  have f2 := ((f2.mv (Mv.belowF hb8 (Nat.le_refl _))).mv (Mv.from hg8 (by omega) (Nat.le_refl _)))
  have f3 := ((f3.mv (Mv.belowF hb8 (Nat.le_refl _))).mv (Mv.from hg8 (by omega) (Nat.le_refl _)))
  have f4 := ((f4.mv mov_vote hb8.size (Mv.belowF hb8 (Nat.le_refl _))).mv mov_vote hg8.size (Mv.from hg8 (by omega) (Nat.le_refl _)))
  have f5 := ((f5.mv mov_vote hb8.size (Mv.belowF hb8 (Nat.le_refl _))).mv mov_vote hg8.size (Mv.from hg8 (by omega) (Nat.le_refl _)))
  have f6 := ((f6.mv mov_int hb8.size (Mv.belowF hb8 (Nat.le_refl _))).mv mov_int hg8.size (Mv.from hg8 (by omega) (Nat.le_refl _)))
  have f7 := ((f7.mv mov_req hb8.size (Mv.belowF hb8 (Nat.le_refl _))).mv mov_req hg8.size (Mv.from hg8 (by omega) (Nat.le_refl _)))
  have f8 := ((f8.mv mov_rep (Nat.le_refl _) (Mv.weak (L := w.heap.size + 2) hC)).mv mov_rep hg8.size (Mv.from hg8 (by omega) (Nat.le_refl _)))
  have B : Below w.heap.size w wb8 := (below_and B (Nat.le_refl _) hb8).trans (grown_below hg8 (below_and B (Nat.le_refl _) hb8).size (fun k hk => by cases hk; exact Nat.le_refl _))
  have hC := Nat.le_trans hC (Nat.le_trans hb8.size hg8.size)
  clear hG hI rai rbi hb8 hg8 cI
  have hone : ∀ v ∈ [.int .i64 m.kind, .int .i64 m.bal.1, .int .i64 m.bal.2, .int .i64 m.slot, .int .i64 m.frm, .int .i64 m.to, .int .i64 m.idx, .int .i64 m.cnt, .int .i64 m.req.1, .int .i64 m.req.2.1, a0, b0, .int .i64 m.oth.1, .int .i64 m.oth.2.1, a1, b1, v2, v3, v4, v5, v6, v7, v8], v.oneCell' = true := by
    intro v hv
    have k_fa0 := fa0.one; have k_fb0 := fb0.one; have k_fa1 := fa1.one; have k_fb1 := fb1.one; have k_f2 := f2.one; have k_f3 := f3.one; have k_f4 := f4.one; have k_f5 := f5.one; have k_f6 := f6.one; have k_f7 := f7.one; have k_f8 := f8.one
    simp only [List.mem_cons, List.not_mem_nil, or_false] at hv
    rcases hv with rfl | rfl | rfl | rfl | rfl | rfl | rfl | rfl | rfl | rfl | rfl | rfl | rfl | rfl | rfl | rfl | rfl | rfl | rfl | rfl | rfl | rfl | rfl <;> first | rfl | assumption
  go_wp2_with (first
    | (refine wl_load rfl _ _ rfl w.heap.size rfl _ _ ra _ Tryz.underlying40 rfl (by kernel_rfl) ?_)
    | (refine wl_store rfl _ _ _ rfl (w.heap.size + 1) [.int .i64 m.kind, .int .i64 m.bal.1, .int .i64 m.bal.2, .int .i64 m.slot, .int .i64 m.frm, .int .i64 m.to, .int .i64 m.idx, .int .i64 m.cnt, .int .i64 m.req.1, .int .i64 m.req.2.1, a0, b0, .int .i64 m.oth.1, .int .i64 m.oth.2.1, a1, b1, v2, v3, v4, v5, v6, v7, v8] rfl rfl _ _ rr rfl (by kernel_rfl) hone ?_; intro w9 rr9 hg9))
  have B9 : Below w.heap.size w w9 := B.trans (grown_below hg9 B.size (fun k hk => by cases hk; omega))
  have fa0 := ((fa0.mv (Mv.from hg9 (by omega) (Nat.le_refl _))).mv (Mv.weak (L := w.heap.size) (by omega)))
  have fb0 := ((fb0.mv (Mv.from hg9 (by omega) (Nat.le_refl _))).mv (Mv.weak (L := w.heap.size) (by omega)))
  have fa1 := ((fa1.mv (Mv.from hg9 (by omega) (Nat.le_refl _))).mv (Mv.weak (L := w.heap.size) (by omega)))
  have fb1 := ((fb1.mv (Mv.from hg9 (by omega) (Nat.le_refl _))).mv (Mv.weak (L := w.heap.size) (by omega)))
  have f2 := ((f2.mv (Mv.from hg9 (by omega) (Nat.le_refl _))).mv (Mv.weak (L := w.heap.size) (by omega)))
  have f3 := ((f3.mv (Mv.from hg9 (by omega) (Nat.le_refl _))).mv (Mv.weak (L := w.heap.size) (by omega)))
  have f4 := ((f4.mv mov_vote hg9.size (Mv.from hg9 (by omega) (Nat.le_refl _))).mv mov_vote (Nat.le_refl _) (Mv.weak (L := w.heap.size) (by omega)))
  have f5 := ((f5.mv mov_vote hg9.size (Mv.from hg9 (by omega) (Nat.le_refl _))).mv mov_vote (Nat.le_refl _) (Mv.weak (L := w.heap.size) (by omega)))
  have f6 := ((f6.mv mov_int hg9.size (Mv.from hg9 (by omega) (Nat.le_refl _))).mv mov_int (Nat.le_refl _) (Mv.weak (L := w.heap.size) (by omega)))
  have f7 := ((f7.mv mov_req hg9.size (Mv.from hg9 (by omega) (Nat.le_refl _))).mv mov_req (Nat.le_refl _) (Mv.weak (L := w.heap.size) (by omega)))
  have f8 := ((f8.mv mov_rep hg9.size (Mv.from hg9 (by omega) (Nat.le_refl _))).mv mov_rep (Nat.le_refl _) (Mv.weak (L := w.heap.size) (by omega)))
  refine bodyPost_ret (v := .agg ([.int .i64 m.kind, .int .i64 m.bal.1, .int .i64 m.bal.2, .int .i64 m.slot, .int .i64 m.frm, .int .i64 m.to, .int .i64 m.idx, .int .i64 m.cnt, .int .i64 m.req.1, .int .i64 m.req.2.1, a0, b0, .int .i64 m.oth.1, .int .i64 m.oth.2.1, a1, b1, v2, v3, v4, v5, v6, v7, v8] : List Value).toArray) (results_cell_row rfl _ _ (w.heap.size + 1) _ _ (0, 0) _ (by rfl) rr9.out Tryz.underlying40 rfl (by kernel_rfl)) rfl ?_
  exact ⟨⟨a0, b0, a1, b1, v2, v3, v4, v5, v6, v7, v8⟩, rfl, ⟨fa0, fb0, fa1, fb1, f2, f3, f4, f5, f6, f7, f8⟩, B9⟩
end Go.Proofs.YtgjepofinpmcpaaGreatDoor
