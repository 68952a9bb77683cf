/- The walks over package clone: entries; slices.Clone of entries. -/
import Derived.Test.YteafgdidjdfiiaaGreatRk
import Derived.Test.YteafgdidjdfiiaaGreatCl
import Derived.Laws.CopyOwn
set_option linter.unusedVariables false
namespace Go.Proofs.YteafgdidjdfiiaaGreat
open Go.RowKit Oct Kvl

theorem Tryz.infE : (Tryz.prog.info? 73).map (fun i => (i.zero, i.size, i.bytes)) = some (some (.agg #[.slice none 0 0, .slice none 0 0]), 2, 48) := by kernel_rfl
theorem Tryz.sizE : (Tryz.prog.info? 73).map (·.size) = some 2 := by kernel_rfl
theorem onE2 {u v : Value} (hu : u.oneCell' = true) (hv : v.oneCell' = true) : ∀ x ∈ [u, v], x.oneCell' = true := by
  intro x hx
  simp only [List.mem_cons, List.not_mem_nil, or_false] at hx
  rcases hx with rfl | rfl <;> assumption

set_option maxRecDepth 10000 in
set_option maxHeartbeats 2000000 in
/-- clone.Entry. -/
theorem cloneEntry_any (w : World) (r : List Value) (x : PEnt) (h : REnt Any w r x) (hz : szE x) :
    Calls Tryz.prog 69 #[.agg r.toArray] w fun e w' => ∃ r', e = .returned (.agg r'.toArray) ∧ OEnt (From w.heap.size) w' r' x ∧ Below w.heap.size w w' := by
  obtain ⟨vo, vg, rfl, ho, hg⟩ := h
  obtain ⟨z1, z2⟩ := hz
  obtain ⟨w2, hw2⟩ : ∃ w2, w2 = (w.alloc (.cells #[vo, vg] 73)).alloc (.cells #[.slice none 0 0, .slice none 0 0] 73) := ⟨_, rfl⟩
  have ra : Row w2 w.heap.size 73 [vo, vg] := by rw [hw2]; exact rowA (Row.new w 73 _) _
  have rr : Row w2 (w.heap.size + 1) 73 [.slice none 0 0, .slice none 0 0] := by
    rw [hw2]
    have := Row.new (w.alloc (.cells #[vo, vg] 73)) 73 [.slice none 0 0, .slice none 0 0]
    simpa using this
  have hB : Below w.heap.size w w2 := by rw [hw2]; exact ((Below.refl _ w).alloc (Nat.le_refl _) _).alloc (by simp) _
  have hsz : w2.heap.size = w.heap.size + 2 := by rw [hw2]; simp
  go_enter Tryz.func69, Tryz.ntmps69
  go_upto_region 1 with fail
  rw [← hw2]
  clear hw2
  have HS := (show Hid (w2.heap.size = w.heap.size + 2) from hsz)
  clear hsz
  have c2 := ra.cell (j := 0) rfl
  have ho2 := (ho.mv (Mv.below hB)).1
  go_wp2_with (first
    | (go_at_call 54; refine (clone_own w2 _ x.1 ho2 (Nat.le_trans z1 (by decide))).mono ?_; rintro e w3 ⟨v3, rfl, o3, f3, hb3⟩; have ra3 := ra.below hb3; have f3 := OT.own o3 ho2.1 f3; clear o3)
    | (refine wl_set rfl _ _ _ rfl w.heap.size 0 _ rfl rfl _ _ ra3 (show 0 < 2 by decide) (by kernel_rfl) f3.one ?_; intro w4 ra4 hg4; have ra4' : Row w4 w.heap.size 73 [v3, vg] := ra4.out; have c3 := ra4'.cell (j := 1) rfl; have hB3 := below_and hB (Nat.le_refl _) hb3; have hB4 : Below w.heap.size w w4 := hB3.trans (grown_below hg4 hB3.size (fun k hk => by cases hk; exact Nat.le_refl _)); have hg2 := (hg.mv (Mv.below hB4)).1)
    | (go_at_call 54; refine (clone_own w4 _ x.2 hg2 (Nat.le_trans z2 (by decide))).mono ?_; rintro e w5 ⟨v5, rfl, o5, g5, hb5⟩; have ra5 := ra4'.below hb5; have g5 := OT.own o5 hg2.1 g5; clear o5)
    | (refine wl_set rfl _ _ _ rfl w.heap.size 1 _ rfl rfl _ _ ra5 (show 1 < 2 by decide) (by kernel_rfl) g5.one ?_; intro w6 ra6 hg6; have ra6' : Row w6 w.heap.size 73 [v3, v5] := ra6.out; have rr6 := (((rr.below hb3).grown hg4 (fun e => by injection e with e; omega)).below hb5).grown hg6 (fun e => by injection e with e; omega))
    | (refine wl_load rfl _ _ rfl w.heap.size rfl _ _ ra6' _ Tryz.underlying73 rfl (by kernel_rfl) ?_)
    | (refine wl_store rfl _ _ _ rfl (w.heap.size + 1) [v3, v5] rfl rfl _ _ rr6 rfl (by kernel_rfl) (onE2 f3.one g5.one) ?_; intro w7 hr7 hg7))
  have hs2 := HS.out
  have f4 := f3.mv (Mv.from (L := w.heap.size + 2) hg4 (by omega) (by omega))
  have f5 := f4.mv (Mv.belowG hb5)
  have f6 := f5.mv (Mv.from (L := w.heap.size + 2) hg6 (by omega) (Nat.le_refl _))
  have f7 := f6.mv (Mv.from (L := w.heap.size) hg7 (by omega) (by omega))
  have hs4 := Nat.le_trans hb3.size hg4.size
  have g6 := g5.mv (Mv.from (L := w.heap.size + 2) hg6 (by omega) (by omega))
  have g7 := g6.mv (Mv.from (L := w.heap.size) hg7 (by omega) (by omega))
  have hB5 := below_and hB4 (Nat.le_refl _) hb5
  have hB6 := hB5.trans (grown_below hg6 hB5.size (fun k hk => by cases hk; exact Nat.le_refl _))
  have hB7 := hB6.trans (grown_below hg7 hB6.size (fun k hk => by cases hk; omega))
  have hr7 := hr7.out
  refine bodyPost_ret (v := .agg ([v3, v5] : List Value).toArray) (results_cell_row rfl _ _ (w.heap.size + 1) _ _ (0, 0) _ (by rfl) hr7 Tryz.underlying73 rfl (by kernel_rfl)) rfl ?_
  exact ⟨_, rfl, ⟨_, _, rfl, f7, g7⟩, hB7⟩

set_option maxRecDepth 10000 in
/-- slices.Clone of entries. -/
theorem sclone_any (w : World) (v : Value) (ys : List PEnt) (h : RL REnt 2 Any w v ys) (hz : szL 48 szE ys) :
    Calls Tryz.prog 87 #[v] w fun e w' => ∃ v', e = .returned v' ∧ Below w.heap.size w w' ∧ ∃ rows, w'.ownsRow w.heap.size 73 2 v' ys.length rows.flatten ∧ (∀ r ∈ rows, r.length = 2) ∧ All2 (REnt Any w) rows ys := by
  obtain ⟨rows, ⟨h0, h1⟩, h2⟩ := h
  have hlen := h2.len
  have hz1 := hz.1
  have hfl := flat_len h0
  have hone : ∀ u ∈ rows.flatten, u.oneCell' = true := by
    intro u hu
    obtain ⟨r, hr, hur⟩ := List.mem_flatten.1 hu
    obtain ⟨i, hi, rfl⟩ := List.getElem_of_mem hr
    have := h2.get (List.getElem?_eq_getElem hi) (List.getElem?_eq_getElem (by omega))
    exact one_RE this u hur
  have hcell : ∀ b off, (∀ (i : Nat) (r : List Value), rows[i]? = some r → w.rangeAt b (off + i * 2) r) → ∀ j u, rows.flatten[j]? = some u → w.cell? ⟨b, off + j, none⟩ = some u := by
    intro b off hr j u hu
    have hj : j < rows.length * 2 := by rw [← hfl]; exact (List.getElem?_eq_some_iff.1 hu).1
    have hi : j / 2 < rows.length := by omega
    have hk := h0 _ (List.getElem_mem hi)
    have hjm : j % 2 < rows[j / 2].length := by omega
    have e1 := flat_at (j := j % 2) h0 (List.getElem?_eq_getElem hi) (List.getElem?_eq_getElem hjm)
    rw [show j / 2 * 2 + j % 2 = j by omega] at e1
    have e2 := hr (j / 2) _ (List.getElem?_eq_getElem hi) (j % 2) _ (List.getElem?_eq_getElem hjm)
    rw [show off + j / 2 * 2 + j % 2 = off + j by omega] at e2
    rw [e1] at hu
    rw [e2, hu]
  have HR := (show Hid (All2 (REnt Any w) rows ys) from h2)
  have HN := (show Hid (rows.flatten.length = rows.length * 2) from hfl)
  have HO := (show Hid (∀ u ∈ rows.flatten, u.oneCell' = true) from hone)
  obtain ⟨i0, hi, hz0, hzs, hzb⟩ := info_parts Tryz.infE
  rcases h1 with ⟨ao, cap, rfl, rfl, hcap⟩ | ⟨b, off, cap, rfl, hc1, hc2, hpos, _, hb, hr⟩
  · obtain rfl : ys = [] := List.eq_nil_of_length_eq_zero (by simpa using hlen.symm)
    cases ao with
    | none =>
      have hq : ∀ (n c : Nat) (u : World), (binOp .eql 23 (.slice none 0 cap) (.slice none n c)).run Tryz.prog u = .ok (.bool true) u := fun n c u => Lib.run_eql_slice_nil u 23 73 none 0 cap n c Tryz.underlying23
      go_enter Tryz.func87, Tryz.ntmps87
      go_wp2_with fail
      go_ret
      exact ⟨_, rfl, Below.refl _ _, [], World.ownsRow_nil _ _ _ _, (fun r hr => by cases hr), trivial⟩
    | some a =>
      have hq : ∀ (n c : Nat) (u : World), (binOp .eql 23 (.slice (some a) 0 cap) (.slice none n c)).run Tryz.prog u = .ok (.bool false) u := fun n c u => Lib.run_eql_slice_nil u 23 73 (some a) 0 cap n c Tryz.underlying23
      go_enter Tryz.func87, Tryz.ntmps87
      go_wp2_with (at_builtin; refine wpList_append_own _ rfl _ _ 23 rfl w.heap.size 73 i0 _ 2 48 Tryz.underlying23 hi hz0 hzs hzb rfl (by decide) _ _ _ rfl (World.ownsRow_made w #[] 0 (Nat.le_refl _) (Nat.zero_le _) (by simp)) a 0 cap [] rfl rfl (fun j u hu => by simp at hu) (fun u hu => by cases hu) (by simp) (by simp) (by simp) ?_; intro v' w1 hown hgrow hnil)
      go_ret
      exact ⟨_, rfl, ((Below.refl _ w).alloc (Nat.le_refl _) _).grown hgrow (by simp) (fr_at _ _ _ _ (Nat.le_refl _)), [], by simpa using hown, (fun r hr => by cases hr), trivial⟩
  · have HC := (show Hid (∀ j u, rows.flatten[j]? = some u → w.cell? ⟨b, off + j, none⟩ = some u) from hcell b off hr)
    have hq : ∀ (n c : Nat) (u : World), (binOp .eql 23 (.slice (some ⟨b, off, none⟩) rows.length cap) (.slice none n c)).run Tryz.prog u = .ok (.bool false) u := fun n c u => Lib.run_eql_slice_nil u 23 73 (some ⟨b, off, none⟩) rows.length cap n c Tryz.underlying23
    have hb1 : rows.length * 48 ≤ 140737488355328 := by rw [hlen]; omega
    have hm1 : rows.length ≤ maxLen := by unfold maxLen at *; omega
    have HQ := (show Hid (∀ j u, rows.flatten[j]? = some u → (w.alloc (.cells #[] 73)).cell? ((⟨b, off, none⟩ : Addr).add j) = some u) from fun j u hj => by
      rw [Addr.add_mid]
      exact ((below_alloc w _).cell (p := ⟨b, off + j, none⟩) hb).trans (HC.out j u hj))
    have HL := (show Hid (rows.length = ys.length) from hlen)
    clear hr hcell hfl hone h2 hlen
    go_enter Tryz.func87, Tryz.ntmps87
    go_wp2_with (at_builtin; refine wpList_append_own _ rfl _ _ 23 rfl w.heap.size 73 i0 _ 2 48 Tryz.underlying23 hi hz0 hzs hzb rfl (by decide) _ _ _ rfl (World.ownsRow_made w #[] 0 (Nat.le_refl _) (Nat.zero_le _) (by simp)) ⟨b, off, none⟩ rows.length cap rows.flatten rfl HN.out HQ.out HO.out (by rw [Nat.zero_add]; exact hm1) (by rw [Nat.zero_add]; exact hb1) (by simp) ?_; intro v' w1 hown hgrow hnil)
    go_ret
    exact ⟨_, rfl, ((Below.refl _ w).alloc (Nat.le_refl _) _).grown hgrow (by simp) (fr_at _ _ _ _ (Nat.le_refl _)), rows, by rw [← HL.out]; simpa using hown, h0, HR.out⟩
end Go.Proofs.YteafgdidjdfiiaaGreat
