/- Leases in memory; the walks over package clone: a lease; slices.Clone of leases. -/
import Derived.Test.YteafgdidjdfiiaaGreatKi
import Derived.Test.YteafgdidjdfiiaaGreatZp
set_option linter.unusedVariables false
set_option linter.unusedSimpArgs false
namespace Go.Proofs.YteafgdidjdfiiaaGreat
open Go.RowKit Oct Kvl

def RLea (G : Nat → Prop) (w : World) (r : List Value) (x : PEnt) : Prop := ∃ a p q, r = [a, .int .i64 p, .int .i64 q] ∧ RT G w a x.1 ∧ x.2 = [p, q]
theorem mov_lea : Mov RLea := fun _ _ _ _ _ _ h _ hm => by
  obtain ⟨a, p, q, e, h1, h2⟩ := h
  exact ⟨a, p, q, e, h1.mv hm, h2⟩
theorem onL3 {u : Value} {p q : Int} (hu : u.oneCell' = true) : ∀ x ∈ [u, Value.int .i64 p, Value.int .i64 q], x.oneCell' = true := by
  intro x hx
  simp only [List.mem_cons, List.not_mem_nil, or_false] at hx
  rcases hx with rfl | rfl | rfl <;> first | assumption | rfl
theorem one_RS {G : Nat → Prop} {w : World} {r : List Value} {x : PEnt} (h : RLea G w r x) : ∀ v ∈ r, v.oneCell' = true := by
  obtain ⟨a, p, q, rfl, h1, h2⟩ := h
  exact onL3 h1.one
def OLea (G : Nat → Prop) (w : World) (r : List Value) (x : PEnt) : Prop := ∃ a p q, r = [a, .int .i64 p, .int .i64 q] ∧ OT G w a x.1 ∧ x.2 = [p, q]
theorem mov_olea : Mov OLea := fun _ _ _ _ _ _ h _ hm => by
  obtain ⟨a, p, q, e, h1, h2⟩ := h
  exact ⟨a, p, q, e, h1.mv hm, h2⟩
theorem OLea.lea {G : Nat → Prop} {w : World} {r : List Value} {x : PEnt} (h : OLea G w r x) : RLea G w r x := by
  obtain ⟨a, p, q, e, h1, h2⟩ := h
  exact ⟨a, p, q, e, h1.rt, h2⟩
theorem RL.lea {G : Nat → Prop} {w : World} {v : Value} {ys : List PEnt} (h : RL OLea 3 G w v ys) : RL RLea 3 G w v ys := by
  obtain ⟨rows, h1, h2⟩ := h
  exact ⟨rows, h1, h2.mono fun _ _ h => h.lea⟩
def szS (x : PEnt) : Prop := szT x.1

theorem Tryz.infL : (Tryz.prog.info? 75).map (fun i => (i.zero, i.size, i.bytes)) = some (some (.agg #[.slice none 0 0, .int .i64 0, .int .i64 0]), 3, 40) := by kernel_rfl
theorem Tryz.sizL : (Tryz.prog.info? 75).map (·.size) = some 3 := by kernel_rfl

set_option maxRecDepth 10000 in
set_option maxHeartbeats 2000000 in
/-- clone.Lease. -/
theorem cloneLease_any (w : World) (r : List Value) (x : PEnt) (h : RLea Any w r x) (hz : szS x) :
    Calls Tryz.prog 71 #[.agg r.toArray] w fun e w' => ∃ r', e = .returned (.agg r'.toArray) ∧ OLea (From w.heap.size) w' r' x ∧ Below w.heap.size w w' := by
  obtain ⟨vo, p, q, rfl, ho, hx2⟩ := h
  have z1 : szT x.1 := hz
  obtain ⟨w2, hw2⟩ : ∃ w2, w2 = (w.alloc (.cells #[vo, .int .i64 p, .int .i64 q] 75)).alloc (.cells #[.slice none 0 0, .int .i64 0, .int .i64 0] 75) := ⟨_, rfl⟩
  have ra : Row w2 w.heap.size 75 [vo, .int .i64 p, .int .i64 q] := by rw [hw2]; exact rowA (Row.new w 75 _) _
  have rr : Row w2 (w.heap.size + 1) 75 [.slice none 0 0, .int .i64 0, .int .i64 0] := by
    rw [hw2]
    have := Row.new (w.alloc (.cells #[vo, .int .i64 p, .int .i64 q] 75)) 75 [.slice none 0 0, .int .i64 0, .int .i64 0]
    simpa using this
  have hB : Below w.heap.size w w2 := by rw [hw2]; exact ((Below.refl _ w).alloc (Nat.le_refl _) _).alloc (by simp) _
  have hsz : w2.heap.size = w.heap.size + 2 := by rw [hw2]; simp
  go_enter Tryz.func71, Tryz.ntmps71
  go_upto_region 1 with fail
  rw [← hw2]
  clear hw2
  have HS := (show Hid (w2.heap.size = w.heap.size + 2) from hsz)
  clear hsz
  have c2 := ra.cell (j := 0) rfl
  have ho2 := (ho.mv (Mv.below hB)).1
  go_wp2_with (first
    | (go_at_call 54; refine (clone_own w2 _ x.1 ho2 (Nat.le_trans z1 (by decide))).mono ?_; rintro e w3 ⟨v3, rfl, o3, f3, hb3⟩; have ra3 := ra.below hb3; have f3 := OT.own o3 ho2.1 f3; clear o3)
    | (refine wl_set rfl _ _ _ rfl w.heap.size 0 _ rfl rfl _ _ ra3 (show 0 < 3 by decide) (by kernel_rfl) f3.one ?_; intro w4 ra4 hg4; have ra4' : Row w4 w.heap.size 75 [v3, .int .i64 p, .int .i64 q] := ra4.out; have hB3 := below_and hB (Nat.le_refl _) hb3; have hB4 : Below w.heap.size w w4 := hB3.trans (grown_below hg4 hB3.size (fun k hk => by cases hk; exact Nat.le_refl _)); have rr4 := (rr.below hb3).grown hg4 (fun e => by injection e with e; omega))
    | (refine wl_load rfl _ _ rfl w.heap.size rfl _ _ ra4' _ Tryz.underlying75 rfl (by kernel_rfl) ?_)
    | (refine wl_store rfl _ _ _ rfl (w.heap.size + 1) [v3, .int .i64 p, .int .i64 q] rfl rfl _ _ rr4 rfl (by kernel_rfl) (onL3 f3.one) ?_; intro w7 hr7 hg7))
  have hs2 := HS.out
  have f4 := f3.mv (Mv.from (L := w.heap.size + 2) hg4 (by omega) (by omega))
  have f7 := f4.mv (Mv.from (L := w.heap.size) hg7 (by omega) (by omega))
  have hB7 := hB4.trans (grown_below hg7 hB4.size (fun k hk => by cases hk; omega))
  have hr7 := hr7.out
  refine bodyPost_ret (v := .agg ([v3, .int .i64 p, .int .i64 q] : List Value).toArray) (results_cell_row rfl _ _ (w.heap.size + 1) _ _ (0, 0) _ (by rfl) hr7 Tryz.underlying75 rfl (by kernel_rfl)) rfl ?_
  exact ⟨_, rfl, ⟨_, _, _, rfl, f7, hx2⟩, hB7⟩

set_option maxRecDepth 10000 in
/-- slices.Clone of leases. -/
theorem scloneS_any (w : World) (v : Value) (ys : List PEnt) (h : RL RLea 3 Any w v ys) (hz : szL 40 szS ys) :
    Calls Tryz.prog 88 #[v] w fun e w' => ∃ v', e = .returned v' ∧ Below w.heap.size w w' ∧ ∃ rows, w'.ownsRow w.heap.size 75 3 v' ys.length rows.flatten ∧ (∀ r ∈ rows, r.length = 3) ∧ All2 (RLea Any w) rows ys := by
  obtain ⟨rows, ⟨h0, h1⟩, h2⟩ := h
  have hlen := h2.len
  have hz1 := hz.1
  have hfl := flat_len h0
  have hone : ∀ u ∈ rows.flatten, u.oneCell' = true := by
    intro u hu
    obtain ⟨r, hr, hur⟩ := List.mem_flatten.1 hu
    obtain ⟨i, hi, rfl⟩ := List.getElem_of_mem hr
    have := h2.get (List.getElem?_eq_getElem hi) (List.getElem?_eq_getElem (by omega))
    exact one_RS this u hur
  have hcell : ∀ b off, (∀ (i : Nat) (r : List Value), rows[i]? = some r → w.rangeAt b (off + i * 3) r) → ∀ j u, rows.flatten[j]? = some u → w.cell? ⟨b, off + j, none⟩ = some u := by
    intro b off hr j u hu
    have hj : j < rows.length * 3 := by rw [← hfl]; exact (List.getElem?_eq_some_iff.1 hu).1
    have hi : j / 3 < rows.length := by omega
    have hk := h0 _ (List.getElem_mem hi)
    have hjm : j % 3 < rows[j / 3].length := by omega
    have e1 := flat_at (j := j % 3) h0 (List.getElem?_eq_getElem hi) (List.getElem?_eq_getElem hjm)
    rw [show j / 3 * 3 + j % 3 = j by omega] at e1
    have e2 := hr (j / 3) _ (List.getElem?_eq_getElem hi) (j % 3) _ (List.getElem?_eq_getElem hjm)
    rw [show off + j / 3 * 3 + j % 3 = off + j by omega] at e2
    rw [e1] at hu
    rw [e2, hu]
  have HR := (show Hid (All2 (RLea Any w) rows ys) from h2)
  have HN := (show Hid (rows.flatten.length = rows.length * 3) from hfl)
  have HO := (show Hid (∀ u ∈ rows.flatten, u.oneCell' = true) from hone)
  obtain ⟨i0, hi, hz0, hzs, hzb⟩ := info_parts Tryz.infL
  rcases h1 with ⟨ao, cap, rfl, rfl, hcap⟩ | ⟨b, off, cap, rfl, hc1, hc2, hpos, _, hb, hr⟩
  · obtain rfl : ys = [] := List.eq_nil_of_length_eq_zero (by simpa using hlen.symm)
    cases ao with
    | none =>
      have hq : ∀ (n c : Nat) (u : World), (binOp .eql 24 (.slice none 0 cap) (.slice none n c)).run Tryz.prog u = .ok (.bool true) u := fun n c u => Lib.run_eql_slice_nil u 24 75 none 0 cap n c Tryz.underlying24
      go_enter Tryz.func88, Tryz.ntmps88
      go_wp2_with fail
      go_ret
      exact ⟨_, rfl, Below.refl _ _, [], World.ownsRow_nil _ _ _ _, (fun r hr => by cases hr), trivial⟩
    | some a =>
      have hq : ∀ (n c : Nat) (u : World), (binOp .eql 24 (.slice (some a) 0 cap) (.slice none n c)).run Tryz.prog u = .ok (.bool false) u := fun n c u => Lib.run_eql_slice_nil u 24 75 (some a) 0 cap n c Tryz.underlying24
      go_enter Tryz.func88, Tryz.ntmps88
      go_wp2_with (at_builtin; refine wpList_append_own _ rfl _ _ 24 rfl w.heap.size 75 i0 _ 3 40 Tryz.underlying24 hi hz0 hzs hzb rfl (by decide) _ _ _ rfl (World.ownsRow_made w #[] 0 (Nat.le_refl _) (Nat.zero_le _) (by simp)) a 0 cap [] rfl rfl (fun j u hu => by simp at hu) (fun u hu => by cases hu) (by simp) (by simp) (by simp) ?_; intro v' w1 hown hgrow hnil)
      go_ret
      exact ⟨_, rfl, ((Below.refl _ w).alloc (Nat.le_refl _) _).grown hgrow (by simp) (fr_at _ _ _ _ (Nat.le_refl _)), [], by simpa using hown, (fun r hr => by cases hr), trivial⟩
  · have HC := (show Hid (∀ j u, rows.flatten[j]? = some u → w.cell? ⟨b, off + j, none⟩ = some u) from hcell b off hr)
    have hq : ∀ (n c : Nat) (u : World), (binOp .eql 24 (.slice (some ⟨b, off, none⟩) rows.length cap) (.slice none n c)).run Tryz.prog u = .ok (.bool false) u := fun n c u => Lib.run_eql_slice_nil u 24 75 (some ⟨b, off, none⟩) rows.length cap n c Tryz.underlying24
    have hb1 : rows.length * 40 ≤ 140737488355328 := by rw [hlen]; omega
    have hm1 : rows.length ≤ maxLen := by unfold maxLen at *; omega
    have HQ := (show Hid (∀ j u, rows.flatten[j]? = some u → (w.alloc (.cells #[] 75)).cell? ((⟨b, off, none⟩ : Addr).add j) = some u) from fun j u hj => by
      rw [Addr.add_mid]
      exact ((below_alloc w _).cell (p := ⟨b, off + j, none⟩) hb).trans (HC.out j u hj))
    have HL := (show Hid (rows.length = ys.length) from hlen)
    clear hr hcell hfl hone h2 hlen
    go_enter Tryz.func88, Tryz.ntmps88
    go_wp2_with (at_builtin; refine wpList_append_own _ rfl _ _ 24 rfl w.heap.size 75 i0 _ 3 40 Tryz.underlying24 hi hz0 hzs hzb rfl (by decide) _ _ _ rfl (World.ownsRow_made w #[] 0 (Nat.le_refl _) (Nat.zero_le _) (by simp)) ⟨b, off, none⟩ rows.length cap rows.flatten rfl HN.out HQ.out HO.out (by rw [Nat.zero_add]; exact hm1) (by rw [Nat.zero_add]; exact hb1) (by simp) ?_; intro v' w1 hown hgrow hnil)
    go_ret
    exact ⟨_, rfl, ((Below.refl _ w).alloc (Nat.le_refl _) _).grown hgrow (by simp) (fr_at _ _ _ _ (Nat.le_refl _)), rows, by rw [← HL.out]; simpa using hown, h0, HR.out⟩
end Go.Proofs.YteafgdidjdfiiaaGreat
