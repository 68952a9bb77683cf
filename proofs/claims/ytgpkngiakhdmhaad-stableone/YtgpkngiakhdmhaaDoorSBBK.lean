/- slices' stable sort over votes: the memory; swapRange. -/
import Derived.Test.YtgpkngiakhdmhaaDoorSBBD
import Derived.Test.YtgpkngiakhdmhaaDoorSBBE
import Derived.Test.YtgpkngiakhdmhaaDoorSBBF
import Derived.Test.YtgpkngiakhdmhaaDoorSBBG
import Derived.Lib.SliceRun
import Derived.Test.YtgpkngiakhdmhaaDoorSBBC
set_option linter.unusedSimpArgs false
set_option linter.unusedVariables false
namespace Go.Proofs.YtgpkngiakhdmhaaDoor
section
open Go.RowKit Oct
theorem flat_putS {k n q : Nat} {cur r b0 : List Value} {A B : List (List Value)} (hA : ∀ r ∈ A, r.length = k) (hB : ∀ r ∈ b0 :: B, r.length = k) (hr : r.length = k) (hq : A.length = q) (hn : (A ++ b0 :: B).length = n) (hc : n * k ≤ cur.length)
    (ht : cur.take (n * k) = (A ++ b0 :: B).flatten) : (splice cur (q * k) r).take (n * k) = (A ++ r :: B).flatten := by
  have hAl : A.flatten.length = q * k := by rw [flat_len hA, hq]
  have hB' : ∀ r ∈ B, r.length = k := fun x hx => hB x (by simp [hx])
  have hb0 := hB b0 (by simp)
  have hBl : B.flatten.length = B.length * k := flat_len hB'
  have hnn : n = q + 1 + B.length := by rw [← hn, List.length_append, List.length_cons, hq]; omega
  have hmul : n * k = q * k + (k + B.length * k) := by rw [hnn, Nat.add_mul, Nat.add_mul]; omega
  have e1 : cur.take (q * k) = A.flatten := by
    have := congrArg (List.take (q * k)) ht
    rw [List.take_take, Nat.min_eq_left (by omega), List.flatten_append, ← hAl, List.take_left] at this
    rw [← hAl]; exact this
  have hAb : (A.flatten ++ b0).length = q * k + k := by rw [List.length_append, hAl, hb0]
  have e3 : (A.flatten ++ b0 ++ B.flatten).drop (q * k + k) = B.flatten := by rw [← hAb]; exact List.drop_left
  have e2 : (cur.drop (q * k + k)).take (B.length * k) = B.flatten := by
    have := congrArg (List.drop (q * k + k)) ht
    rw [List.drop_take, List.flatten_append, List.flatten_cons, ← List.append_assoc, e3] at this
    rw [← this]
    congr 1
    omega
  unfold splice
  rw [e1, hr, List.flatten_append, List.flatten_cons, ← e2, hmul, ← hAl, List.take_length_add_append, ← hr, List.take_length_add_append, hAl]
theorem Row.uniqS {w : World} {b : Nat} {t t' : TypeId} {xs ys : List Value} (h : Row w b t xs) (h' : Row w b t' ys) : xs = ys := by
  unfold Row at h h'
  rw [h] at h'
  simp at h'
  exact h'.1
section
variable {α : Type} {R : (Nat → Prop) → World → List Value → α → Prop} {T : TypeId} {kk : Nat}
/-- A row of records of which the first q are copied. -/
structure MixR (R : (Nat → Prop) → World → List Value → α → Prop) (T : TypeId) (kk : Nat) (B g n cap q : Nat) (w0 w : World) (rows0 : List (List Value)) (ys : List α) : Prop where
  bel : Below B w0 w
  ex : ∃ (cur : List Value) (A : List (List Value)), Row w g T cur ∧ cur.length = cap * kk ∧ A.length = q ∧ (∀ r ∈ A, r.length = kk) ∧ cur.take (n * kk) = (A ++ rows0.drop q).flatten ∧ All2 (R (fun b => B ≤ b ∧ b ≠ g) w) A (ys.take q)
theorem MixR.row {B g n cap q : Nat} {w0 w : World} {rows0 : List (List Value)} {ys : List α} (h : MixR R T kk B g n cap q w0 w rows0 ys) (h0 : ∀ r ∈ rows0, r.length = kk) {r : List Value} (hr : rows0[q]? = some r) (hq : q < n) : w.rangeAt g (q * kk) r := by
  obtain ⟨cur, A, h1, h2, h3, h4, h5, h6⟩ := h.ex
  intro j v hj
  refine h1.cell ?_
  have hrl := h0 r (List.mem_of_getElem? hr)
  have hjl : j < kk := by rw [← hrl]; exact (List.getElem?_eq_some_iff.1 hj).1
  have e : (A ++ rows0.drop q)[q]? = some r := by rw [List.getElem?_append_right (by omega), h3, Nat.sub_self, List.getElem?_drop, Nat.add_zero]; exact hr
  have hl : ∀ x ∈ A ++ rows0.drop q, x.length = kk := fun x hx => by
    rcases List.mem_append.1 hx with hx | hx
    · exact h4 x hx
    · exact h0 x (List.mem_of_mem_drop hx)
  have := flat_at hl e hj
  have hmul : (q + 1) * kk ≤ n * kk := Nat.mul_le_mul_right _ hq
  rw [Nat.add_mul] at hmul
  rw [← h5, List.getElem?_take, if_pos (by omega)] at this
  exact this
theorem MixR.step (hR : Mov R) {B g n cap q : Nat} {w0 w w1 w2 : World} {rows0 : List (List Value)} {ys : List α} (h : MixR R T kk B g n cap q w0 w rows0 ys) (h0 : ∀ r ∈ rows0, r.length = kk) (hn : rows0.length = n) (hc : n ≤ cap) {x : α} (hx : ys[q]? = some x) (hq : q < n)
    (hb1 : Below w.heap.size w w1) (hBg : B ≤ g) {r : List Value} (hlr : r.length = kk) (hr : R (From w.heap.size) w1 r x) (hB : B ≤ w.heap.size) (hg2 : w1.grownBy w2 (some g)) {cur0 : List Value} (hc0 : Row w1 g T cur0) (hr2 : Row w2 g T (splice cur0 (q * kk) r)) : MixR R T kk B g n cap (q + 1) w0 w2 rows0 ys := by
  obtain ⟨cur, A, h1, h2, h3, h4, h5, h6⟩ := h.ex
  have hgl := h1.lt
  obtain rfl : cur = cur0 := (h1.below hb1).uniqS hc0
  have hrl : r.length = kk := hlr
  have hmul : (q + 1) * kk ≤ n * kk := Nat.mul_le_mul_right _ hq
  have hmul2 : n * kk ≤ cap * kk := Nat.mul_le_mul_right _ hc
  rw [Nat.add_mul] at hmul
  refine ⟨(h.bel.trans (hb1.mono hB)).trans (grown_below hg2 (Nat.le_trans hB hb1.size) (fun k hk => by cases hk; exact hBg)), splice cur (q * kk) r, A ++ [r], hr2, ?_, ?_, ?_, ?_, ?_⟩
  · rw [length_splice _ _ _ (by omega), h2]
  · simp [h3]
  · intro y hy
    rcases List.mem_append.1 hy with hy | hy
    · exact h4 y hy
    · simp at hy; subst hy; exact hrl
  · obtain ⟨b0, hb0⟩ : ∃ b0, rows0[q]? = some b0 := ⟨_, List.getElem?_eq_getElem (by omega)⟩
    have hd : rows0.drop q = b0 :: rows0.drop (q + 1) := by
      rw [List.drop_eq_getElem_cons (by omega : q < rows0.length)]
      rw [List.getElem?_eq_getElem (by omega)] at hb0
      injection hb0 with hb0
      rw [hb0]
    rw [hd] at h5
    rw [List.append_assoc, List.singleton_append]
    refine flat_putS h4 (fun y hy => ?_) hrl h3 ?_ (by omega) h5
    · rw [← hd] at hy; exact h0 y (List.mem_of_mem_drop hy)
    · rw [← hd, List.length_append, List.length_drop]; omega
  · have e : ys.take (q + 1) = ys.take q ++ [x] := by
      rw [List.take_add_one, hx]; rfl
    rw [e]
    refine All2.app (h6.mono fun y a hy => hR _ _ _ _ _ _ hy (Nat.le_trans hb1.size hg2.size) fun k hk hlt => ⟨?_, hk⟩) ⟨hR _ _ _ _ _ _ hr hg2.size fun k hk hlt => ⟨hg2.block k hlt (fun e => ?_), Nat.le_trans hB hk, fun e => ?_⟩, trivial⟩
    · have hs := hb1.size
      exact (hg2.block k (by omega) (fun e => by injection e with e; exact hk.2 e)).trans (hb1.block k hlt)
    · injection e with e
      unfold From at hk; omega
    · unfold From at hk; omega
theorem MixR.done (hR : Mov R) {B g n cap : Nat} {w0 w : World} {rows0 : List (List Value)} {ys : List α} (h : MixR R T kk B g n cap n w0 w rows0 ys) (hn : rows0.length = n) (hy : ys.length = n) (hc : n ≤ cap) (hm : cap ≤ maxLen) (hB : B ≤ g) : LB R T kk B w (.slice (some ⟨g, 0, none⟩) n cap) ys := by
  obtain ⟨cur, A, h1, h2, h3, h4, h5, h6⟩ := h.ex
  rw [List.drop_of_length_le (by omega), List.append_nil] at h5
  rw [List.take_of_length_le (by omega)] at h6
  refine ⟨A, h4, ⟨flat_len h4, .inr ⟨g, cap, cur.toArray, by rw [h3], Nat.zero_le _, h1, by omega, hm, by simpa using h2, by rw [h3]; simpa using h5⟩⟩, fr_at _ _ _ _ hB, h6.mono fun y a hy => hR _ _ _ _ _ _ hy (Nat.le_refl _) fun k hk _ => ⟨rfl, hk.1, fun e => hk.2 ?_⟩⟩
  simp [Value.ownBlock] at e
  exact e.symm
end
end
section
open Go.RowKit Oct
set_option maxRecDepth 10000 in
set_option maxHeartbeats 4000000 in
theorem cloneVoteS_any (w : World) (r : List Value) (x : PVote) (h : RVote Any w r x) (hz : szV x) :
    Calls Tryd.prog 23 #[.agg r.toArray] w fun e w' => ∃ r', e = .returned (.agg r'.toArray) ∧ RVote (From w.heap.size) w' r' x ∧ Below w.heap.size w w' := by
  obtain ⟨o1, rfl, t1⟩ := h
  obtain ⟨w2, hw2⟩ : ∃ w2, w2 = (w.alloc (.cells #[.int .i64 x.1, o1] 28)).alloc (.cells #[.int .i64 0, .slice none 0 0] 28) := ⟨_, rfl⟩
  have ra : Row w2 w.heap.size 28 [.int .i64 x.1, o1] := by rw [hw2]; exact rowA (Row.new w 28 _) _
  have rr : Row w2 (w.heap.size + 1) 28 [.int .i64 0, .slice none 0 0] := by
    have h1 : (w.alloc (.cells #[.int .i64 x.1, o1] 28)).heap.size = w.heap.size + 1 := by simp
    rw [hw2, ← h1]
    exact Row.new (w.alloc (.cells #[.int .i64 x.1, o1] 28)) 28 [.int .i64 0, .slice none 0 0]
  have B : Below w.heap.size w w2 := by rw [hw2]; exact ((Below.refl _ w).alloc (Nat.le_refl _) _).alloc (by simp) _
  have hC : w.heap.size + 2 ≤ w2.heap.size := by rw [hw2]; simp
  go_enter Tryd.func23, Tryd.ntmps23
  go_upto_region 1 with fail
  rw [← hw2]
  clear hw2
  have hI := (t1.mv (Mv.below B))
  have cI := ra.cell (j := 1) rfl
  have hG := clone_any w2 _ _ hI.1 (Nat.le_trans (hz) (by decide))
  go_upto_region 2 with (first
    | (go_at_call 30; refine hG.mono ?_; rintro e wa0 ⟨v0, rfl, f0, hb0⟩; have rai := ra.below hb0)
    | (refine wl_set rfl _ _ _ rfl w.heap.size 1 _ rfl rfl _ _ rai (show 1 < 2 by decide) (by kernel_rfl) f0.one ?_; intro wb0 rbi hg0))
  have ra : Row wb0 w.heap.size 28 [.int .i64 x.1, v0] := rbi.out
  have rr := (rr.below hb0).grown hg0 (fun h => by injection h; omega)
  have f0 := ((f0.mv (Mv.weak (L := w.heap.size + 2) hC)).mv (Mv.from hg0 (by omega) (Nat.le_refl _)))
  have B : Below w.heap.size w wb0 := (below_and B (Nat.le_refl _) hb0).trans (grown_below hg0 (below_and B (Nat.le_refl _) hb0).size (fun k hk => by cases hk; exact Nat.le_refl _))
  have hC := Nat.le_trans hC (Nat.le_trans hb0.size hg0.size)
  clear hG hI rai rbi hb0 hg0 cI
  have hone : ∀ v ∈ [.int .i64 x.1, v0], v.oneCell' = true := by
    intro v hv
    have k_f0 := f0.one
    simp only [List.mem_cons, List.not_mem_nil, or_false] at hv
    rcases hv with rfl | rfl <;> first | rfl | assumption
  go_wp2_with (first
    | (refine wl_load rfl _ _ rfl w.heap.size rfl _ _ ra _ Tryd.underlying28 rfl (by kernel_rfl) ?_)
    | (refine wl_store rfl _ _ _ rfl (w.heap.size + 1) [.int .i64 x.1, v0] rfl rfl _ _ rr rfl (by kernel_rfl) hone ?_; intro w9 rr9 hg9))
  have B9 : Below w.heap.size w w9 := B.trans (grown_below hg9 B.size (fun k hk => by cases hk; omega))
  have f0 := ((f0.mv (Mv.from hg9 (by omega) (Nat.le_refl _))).mv (Mv.weak (L := w.heap.size) (by omega)))
  refine bodyPost_ret (v := .agg ([.int .i64 x.1, v0] : List Value).toArray) (results_cell_row rfl _ _ (w.heap.size + 1) _ _ (0, 0) _ (by rfl) rr9.out Tryd.underlying28 rfl (by kernel_rfl)) rfl ?_
  exact ⟨_, rfl, ⟨_, rfl, f0⟩, B9⟩
theorem Tryd.infVoteS : (Tryd.prog.info? 28).map (fun i => (i.zero, i.size, i.bytes)) = some (some (.agg #[.int .i64 0, .slice none 0 0]), 2, 32) := by kernel_rfl
set_option maxRecDepth 10000 in
/-- slices.Clone of sessions. -/
theorem scloneVote_any (w : World) (v : Value) (ys : List PVote) (h : RL RVote 2 Any w v ys) (hz : szL 32 szV ys) :
    Calls Tryd.prog 60 #[v] w fun e w' => ∃ v', e = .returned v' ∧ Below w.heap.size w w' ∧ ∃ rows, w'.ownsRow w.heap.size 28 2 v' ys.length rows.flatten ∧ (∀ r ∈ rows, r.length = 2) ∧ All2 (RVote Any w) rows ys := by
  obtain ⟨rows, ⟨h0, h1⟩, h2⟩ := h
  have hlen := h2.len
  have hz1 := hz.1
  have hfl := flat_len h0
  have hone : ∀ u ∈ rows.flatten, u.oneCell' = true := by
    intro u hu
    obtain ⟨r, hr, hur⟩ := List.mem_flatten.1 hu
    obtain ⟨i, hi, rfl⟩ := List.getElem_of_mem hr
    have := h2.get (List.getElem?_eq_getElem hi) (List.getElem?_eq_getElem (by omega))
    exact one_RVote this u hur
  have hcell : ∀ b off, (∀ (i : Nat) (r : List Value), rows[i]? = some r → w.rangeAt b (off + i * 2) r) → ∀ j u, rows.flatten[j]? = some u → w.cell? ⟨b, off + j, none⟩ = some u := by
    intro b off hr j u hu
    have hj : j < rows.length * 2 := by rw [← hfl]; exact (List.getElem?_eq_some_iff.1 hu).1
    have hi : j / 2 < rows.length := by omega
    have hk := h0 _ (List.getElem_mem hi)
    have hjm : j % 2 < rows[j / 2].length := by omega
    have e1 := flat_at (j := j % 2) h0 (List.getElem?_eq_getElem hi) (List.getElem?_eq_getElem hjm)
    rw [show j / 2 * 2 + j % 2 = j by omega] at e1
    have e2 := hr (j / 2) _ (List.getElem?_eq_getElem hi) (j % 2) _ (List.getElem?_eq_getElem hjm)
    rw [show off + j / 2 * 2 + j % 2 = off + j by omega] at e2
    rw [e1] at hu
    rw [e2, hu]
  have HR := (show Hid (All2 (RVote Any w) rows ys) from h2)
  have HN := (show Hid (rows.flatten.length = rows.length * 2) from hfl)
  have HO := (show Hid (∀ u ∈ rows.flatten, u.oneCell' = true) from hone)
  obtain ⟨i0, hi, hz0, hzs, hzb⟩ := info_parts Tryd.infVoteS
  rcases h1 with ⟨ao, cap, rfl, rfl, hcap⟩ | ⟨b, off, cap, rfl, hc1, hc2, hpos, _, hb, hr⟩
  · obtain rfl : ys = [] := List.eq_nil_of_length_eq_zero (by simpa using hlen.symm)
    cases ao with
    | none =>
      have hq : ∀ (n c : Nat) (u : World), (binOp .eql 32 (.slice none 0 cap) (.slice none n c)).run Tryd.prog u = .ok (.bool true) u := fun n c u => Lib.run_eql_slice_nil u 32 28 none 0 cap n c Tryd.underlying32
      go_enter Tryd.func60, Tryd.ntmps60
      go_wp2_with fail
      go_ret
      exact ⟨_, rfl, Below.refl _ _, [], World.ownsRow_nil _ _ _ _, (fun r hr => by cases hr), trivial⟩
    | some a =>
      have hq : ∀ (n c : Nat) (u : World), (binOp .eql 32 (.slice (some a) 0 cap) (.slice none n c)).run Tryd.prog u = .ok (.bool false) u := fun n c u => Lib.run_eql_slice_nil u 32 28 (some a) 0 cap n c Tryd.underlying32
      go_enter Tryd.func60, Tryd.ntmps60
      go_wp2_with (at_builtin; refine wpList_append_own _ rfl _ _ 32 rfl w.heap.size 28 i0 _ 2 32 Tryd.underlying32 hi hz0 hzs hzb rfl (by decide) _ _ _ rfl (World.ownsRow_made w #[] 0 (Nat.le_refl _) (Nat.zero_le _) (by simp)) a 0 cap [] rfl rfl (fun j u hu => by simp at hu) (fun u hu => by cases hu) (by simp) (by simp) (by simp) ?_; intro v' w1 hown hgrow hnil)
      go_ret
      exact ⟨_, rfl, ((Below.refl _ w).alloc (Nat.le_refl _) _).grown hgrow (by simp) (fr_at _ _ _ _ (Nat.le_refl _)), [], by simpa using hown, (fun r hr => by cases hr), trivial⟩
  · have HC := (show Hid (∀ j u, rows.flatten[j]? = some u → w.cell? ⟨b, off + j, none⟩ = some u) from hcell b off hr)
    have hq : ∀ (n c : Nat) (u : World), (binOp .eql 32 (.slice (some ⟨b, off, none⟩) rows.length cap) (.slice none n c)).run Tryd.prog u = .ok (.bool false) u := fun n c u => Lib.run_eql_slice_nil u 32 28 (some ⟨b, off, none⟩) rows.length cap n c Tryd.underlying32
    have hb1 : rows.length * 32 ≤ 140737488355328 := by rw [hlen]; omega
    have hm1 : rows.length ≤ maxLen := by unfold maxLen at *; omega
    have HQ := (show Hid (∀ j u, rows.flatten[j]? = some u → (w.alloc (.cells #[] 28)).cell? ((⟨b, off, none⟩ : Addr).add j) = some u) from fun j u hj => by
      rw [Addr.add_mid]
      exact ((below_alloc w _).cell (p := ⟨b, off + j, none⟩) hb).trans (HC.out j u hj))
    have HL := (show Hid (rows.length = ys.length) from hlen)
    clear hr hcell hfl hone h2 hlen
    go_enter Tryd.func60, Tryd.ntmps60
    go_wp2_with (at_builtin; refine wpList_append_own _ rfl _ _ 32 rfl w.heap.size 28 i0 _ 2 32 Tryd.underlying32 hi hz0 hzs hzb rfl (by decide) _ _ _ rfl (World.ownsRow_made w #[] 0 (Nat.le_refl _) (Nat.zero_le _) (by simp)) ⟨b, off, none⟩ rows.length cap rows.flatten rfl HN.out HQ.out HO.out (by rw [Nat.zero_add]; exact hm1) (by rw [Nat.zero_add]; exact hb1) (by simp) ?_; intro v' w1 hown hgrow hnil)
    go_ret
    exact ⟨_, rfl, ((Below.refl _ w).alloc (Nat.le_refl _) _).grown hgrow (by simp) (fr_at _ _ _ _ (Nat.le_refl _)), rows, by rw [← HL.out]; simpa using hown, h0, HR.out⟩
set_option maxRecDepth 10000 in
set_option maxHeartbeats 2000000 in
/-- clone.list of sessions. -/
theorem clistVoteL_any (w : World) (v : Value) (ys : List PVote) (h : RL RVote 2 Any w v ys) (hz : szL 32 szV ys) :
    Calls Tryd.prog 41 #[v, .func (.func 23) #[] #[]] w fun e w' => ∃ v', e = .returned v' ∧ LB RVote 28 2 w.heap.size w' v' ys ∧ Below w.heap.size w w' := by
  go_enter Tryd.func41, Tryd.ntmps41
  go_wp2_with fail
  refine (scloneVote_any w v ys h hz).mono ?_
  rintro e w1 ⟨v1, rfl, hb1, rows, hown, h0, hall⟩
  have hlen := hall.len
  rcases hown.2 with ⟨rfl, hy0⟩ | ⟨g, cap, cur, rfl, hg0, hrow, hc1, hc2, hc3, hc4⟩
  · obtain rfl : ys = [] := List.eq_nil_of_length_eq_zero hy0
    go_wp2_with fail
    refine wp_loop_rounds 1 ?_; rw [rounds_succ]
    go_wp2_with fail
    go_ret
    exact ⟨_, rfl, LB.nil _ _ _ _ _, hb1⟩
  · have hlm : (ys.length : Int) ≤ 9223372036854775807 := by unfold maxLen at hc2; omega
    have m0 : Hid (MixR RVote 28 2 w.heap.size g ys.length cap 0 w w1 rows ys) := ⟨hb1, cur.toList, [], by unfold Row; simpa using hrow, by simpa using hc3, rfl, (fun r hr => by cases hr), by simpa using hc4, trivial⟩
    have HL := (show Hid (rows.length = ys.length) from hlen)
    have H0 := (show Hid (∀ r ∈ rows, r.length = 2) from h0)
    have HA := (show Hid (All2 (RVote Any w) rows ys) from hall)
    have HZ := (show Hid (∀ y ∈ ys, szV y) from hz.2)
    clear hown hrow hc3 hc4 hlen h0 hall hb1 h hz
    obtain ⟨n, hn⟩ : ∃ n, n = ys.length := ⟨_, rfl⟩
    rw [← hn] at hlm m0 hc1 HL ⊢
    have HN := (show Hid (ys.length = n) from hn.symm)
    clear hn
    go_wp2_with fail
    go_loopw [12] (fun i wr => ∃ q : Nat, q ≤ n ∧ i = .int .i64 q ∧ Hid (MixR RVote 28 2 w.heap.size g n cap q w wr rows ys)) (fun i _ => n - (intOf i).toNat)
    case atStart => exact ⟨0, by omega, rfl, m0⟩
    case round =>
      clear m0
      obtain ⟨q, hq, rfl, hM⟩ := hrel
      by_cases hql : q < n
      · obtain ⟨x, hx⟩ : ∃ x, ys[q]? = some x := ⟨_, List.getElem?_eq_getElem (by have := HN.out; omega)⟩
        obtain ⟨r, hr⟩ : ∃ r, rows[q]? = some r := ⟨_, List.getElem?_eq_getElem (by have := HL.out; omega)⟩
        have hxr := HA.out.get hr hx
        have hrng := hM.out.row H0.out hr hql
        have hxr0 := hxr; obtain ⟨o1, rfl, t1⟩ := hxr
        have hB := hM.out.bel
        have hzx := HZ.out x (List.mem_of_getElem? hx)
        have hrow0 := Row.new wr 28 [.int .i64 0, .slice none 0 0]
        have HX := (show Hid (ys[q]? = some x) from hx)
        have hone := one_RVote hxr0
        clear hx hr
        obtain ⟨cur0, A0, kr1, kr2, _⟩ := hM.out.ex
        have hgl := kr1.lt
        have hfit : q * 2 + 2 ≤ cur0.length := by omega
        have K1 := (show Hid (Row wr g 28 cur0) from kr1)
        clear kr1 kr2
        go_wp2_with (first
          | (refine wpList_load_mid rfl _ _ rfl g (q * 2) rfl [.int .i64 x.1, o1] _ hrng Tryd.underlying28 rfl (by kernel_rfl) ?_)
          | (refine wl_store rfl _ _ _ rfl wr.heap.size [.int .i64 x.1, o1] rfl rfl _ _ hrow0 rfl (by kernel_rfl) hone ?_; intro w5 hr5 hg5; have hb5 : Below wr.heap.size wr w5 := (below_alloc wr _).trans (grown_below hg5 (by simp) (fun k hk => by cases hk; exact Nat.le_refl _)); have hx5 : RVote Any w5 [.int .i64 x.1, o1] x := mov_vote _ _ _ _ _ _ hxr0 (below_and hB (Nat.le_refl _) hb5).size (Mv.below (below_and hB (Nat.le_refl _) hb5)))
          | (refine wl_load rfl _ _ rfl wr.heap.size rfl _ _ hr5.out _ Tryd.underlying28 rfl (by kernel_rfl) ?_)
          | (go_at_call 23; refine (cloneVoteS_any w5 [.int .i64 x.1, o1] x hx5 hzx).mono ?_; rintro e w6 ⟨r6, rfl, o6, hb6⟩; have o6' := mov_vote _ (From wr.heap.size) _ _ _ _ o6 (Nat.le_refl _) (Mv.weak hb5.size); have on6 := one_RVote o6'; obtain ⟨p1, rfl, _⟩ := o6; have hb6' := below_and hb5 (Nat.le_refl _) hb6; have kk6 := K1.out.below hb6')
          | (refine wl_put rfl _ _ _ rfl g (q * 2) [.int .i64 x.1, p1] rfl rfl _ _ kk6 hfit (by kernel_rfl) on6 ?_; intro w7 hr7 hg7))
        go_roundw
        case rel => exact ⟨q + 1, by omega, by go_num, hM.out.step mov_vote H0.out HL.out hc1 HX.out hql hb6' hg0 rfl o6' hB.size hg7 kk6 hr7.out⟩
        case measure => simp [intOf]; omega
      · go_wp2_with fail
        go_ret
        obtain rfl : q = n := by omega
        exact ⟨_, rfl, hM.out.done mov_vote HL.out HN.out hc1 hc2 hg0, hM.out.bel⟩
theorem cvotesL_any (w : World) (v : Value) (ys : List PVote) (h : RL RVote 2 Any w v ys) (hz : szL 32 szV ys) :
    Calls Tryd.prog 31 #[v] w fun e w' => ∃ v', e = .returned v' ∧ LB RVote 28 2 w.heap.size w' v' ys ∧ Below w.heap.size w w' := by
  have hG := clistVoteL_any w v ys h hz
  go_enter Tryd.func31, Tryd.ntmps31
  go_wp2_with fail
  refine hG.mono ?_
  rintro e w1 ⟨v1, rfl, h1, hb1⟩
  go_wp2_with fail
  go_ret
  exact ⟨_, rfl, h1, hb1⟩
end
section
open Go.RowKit Oct
/-- A vote's cells, with the vote that they are. -/
abbrev VC := Value × PVote
def vce (x : VC) : List Value := [.int .i64 x.2.1, x.1]
def vfl (l : List VC) : List Value := l.flatMap vce
/-- A slice. -/
def IsS (v : Value) : Prop := ∃ ao m c, v = .slice ao m c
theorem IsS.one {v : Value} (h : IsS v) : v.oneCell' = true := by obtain ⟨_, _, _, rfl⟩ := h; rfl
theorem vfl_len (l : List VC) : (vfl l).length = l.length * 2 := by
  induction l with
  | nil => rfl
  | cons a l ih => simp only [vfl, List.flatMap_cons, List.length_append, vce, List.length_cons, List.length_nil] at ih ⊢; omega
theorem vfl_app (a b : List VC) : vfl (a ++ b) = vfl a ++ vfl b := by simp [vfl]
theorem vfl_cons (x : VC) (l : List VC) : vfl (x :: l) = vce x ++ vfl l := by simp [vfl]
theorem vfl_at {X Z : List VC} {x : VC} {rest : List Value} {w : World} {g : Nat} (h : Row w g 28 (vfl (X ++ x :: Z) ++ rest)) : w.rangeAt g (X.length * 2) (vce x) := by
  intro j v hv
  refine h.cell ?_
  rw [vfl_app, vfl_cons, List.append_assoc, List.append_assoc, List.getElem?_append_right (by rw [vfl_len]; omega), vfl_len, Nat.add_sub_cancel_left, List.getElem?_append_left (List.getElem?_eq_some_iff.1 hv).1]
  exact hv
theorem vfl_put (X Z : List VC) (x y : VC) (rest : List Value) : splice (vfl (X ++ x :: Z) ++ rest) (X.length * 2) (vce y) = vfl (X ++ y :: Z) ++ rest := by
  unfold splice
  rw [vfl_app, vfl_app, vfl_cons, vfl_cons, List.append_assoc, List.append_assoc, List.take_left' (vfl_len X), show (vce y).length = 2 from rfl, List.drop_append, List.drop_eq_nil_of_le (by rw [vfl_len]; omega), vfl_len, Nat.add_sub_cancel_left]
  simp [vce]
section
variable {P : Program}
theorem row_two {w : World} {b o : Nat} {t : TypeId} {xs : List Value} {u v : Value} (h : Row w b t xs) (hf : o + [u, v].length ≤ xs.length) : Row ((w.setCell ⟨b, o, none⟩ u).setCell ⟨b, o + 1, none⟩ v) b t (splice xs o [u, v]) := by
  have h2 := (h.set o u).set (o + 1) v
  have e : (xs.set o u).set (o + 1) v = splice xs o [u, v] := by
    simp only [List.length_cons, List.length_nil] at hf
    unfold splice
    refine List.ext_getElem? fun i => ?_
    simp only [List.getElem?_set, List.length_set, List.getElem?_append, List.length_take, List.getElem?_take, List.getElem?_drop, List.length_cons, List.length_nil]
    rcases Nat.lt_trichotomy i o with h | h | h
    · rw [if_neg (by omega), if_neg (by omega), if_pos (by omega), if_pos (by omega)]
    · subst h
      rw [if_neg (by omega), if_pos (by omega), if_pos (by omega), if_neg (by omega), if_pos (by omega)]
      simp [Nat.min_eq_left (show i ≤ xs.length by omega)]
    · by_cases h1 : i = o + 1
      · subst h1
        rw [if_pos (by omega), if_pos (by omega), if_neg (by omega), if_pos (by omega)]
        simp [Nat.min_eq_left (show o ≤ xs.length by omega)]
      · rw [if_neg (by omega), if_neg (by omega), if_neg (by omega), if_neg (by omega)]
        congr 1
        omega
  rwa [e] at h2
theorem grown_two (w : World) (b o o' : Nat) (u v : Value) : w.grownBy ((w.setCell ⟨b, o, none⟩ u).setCell ⟨b, o', none⟩ v) (some b) := (grown_set w b o u).trans (grown_set _ b o' v)
end
set_option maxRecDepth 10000 in
set_option maxHeartbeats 2000000 in
theorem swapRange_any (w : World) (g n cap a b N : Nat) (f : Value) (P A M B S : List VC) (rest : List Value) (hA : A.length = N) (hB : B.length = N) (ha : P.length = a) (hb : a + N + M.length = b) (hR : Row w g 28 (vfl (P ++ A ++ M ++ B ++ S) ++ rest)) (hn : (P ++ A ++ M ++ B ++ S).length = n) (hc : n ≤ cap) (hm : cap ≤ maxLen)
    (hone : ∀ x ∈ P ++ A ++ M ++ B ++ S, IsS x.1) :
    Calls Tryd.prog 80 #[.slice (some ⟨g, 0, none⟩) n cap, .int .i64 a, .int .i64 b, .int .i64 N, f] w fun e w' => e = .returned (.tuple #[]) ∧ Row w' g 28 (vfl (P ++ B ++ M ++ A ++ S) ++ rest) ∧ w.grownBy w' (some g) := by
  have hlt : b + N ≤ n := by simp only [List.length_append] at hn; omega
  have hab : a + N ≤ b := by omega
  have hnm : (n : Int) ≤ 9223372036854775807 := by unfold maxLen at hm; omega
  have HX := (show Hid (A.length = N ∧ B.length = N ∧ P.length = a ∧ a + N + M.length = b) from ⟨hA, hB, ha, hb⟩)
  have HO := (show Hid (∀ x ∈ P ++ A ++ M ++ B ++ S, IsS x.1) from hone)
  have H0 := (show Hid (Row w g 28 (vfl (P ++ ([] ++ A) ++ M ++ ([] ++ B) ++ S) ++ rest)) from hR)
  have HN := (show Hid (P.length + A.length + M.length + B.length + S.length = n) by show _ = _; simp only [List.length_append] at hn; exact hn)
  clear hA hB ha hb hR hn hone
  go_enter Tryd.func80, Tryd.ntmps80
  go_wp2_with fail
  go_loopw [10] (fun i wr => ∃ q : Nat, q ≤ N ∧ i = .int .i64 q ∧ Hid (Row wr g 28 (vfl (P ++ (B.take q ++ A.drop q) ++ M ++ (A.take q ++ B.drop q) ++ S) ++ rest)) ∧ w.grownBy wr (some g)) (fun i _ => N - (intOf i).toNat)
  case atStart => exact ⟨0, by omega, rfl, H0, grown_refl _ _⟩
  case round =>
    clear H0
    obtain ⟨q, hq, rfl, hM, hG⟩ := hrel
    by_cases hql : q < N
    · obtain ⟨x, hx⟩ : ∃ x, A[q]? = some x := ⟨_, List.getElem?_eq_getElem (by have := HX.out; omega)⟩
      obtain ⟨y, hy⟩ : ∃ y, B[q]? = some y := ⟨_, List.getElem?_eq_getElem (by have := HX.out; omega)⟩
      have hox := HO.out x (by have := List.mem_of_getElem? hx; simp [this])
      have hoy := HO.out y (by have := List.mem_of_getElem? hy; simp [this])
      obtain ⟨x1, x2⟩ := x
      obtain ⟨y1, y2⟩ := y
      obtain ⟨ax, nx, cx, rfl⟩ : IsS x1 := hox
      obtain ⟨ay, ny, cy, rfl⟩ : IsS y1 := hoy
      obtain ⟨x, ex⟩ : ∃ x : VC, x = (.slice ax nx cx, x2) := ⟨_, rfl⟩
      obtain ⟨y, ey⟩ : ∃ y : VC, y = (.slice ay ny cy, y2) := ⟨_, rfl⟩
      rw [← ex] at hx
      rw [← ey] at hy
      have dA : A.drop q = x :: A.drop (q + 1) := by rw [List.drop_eq_getElem_cons (by have := HX.out; omega)]; rw [List.getElem?_eq_getElem (by have := HX.out; omega)] at hx; simp at hx; rw [hx]
      have dB : B.drop q = y :: B.drop (q + 1) := by rw [List.drop_eq_getElem_cons (by have := HX.out; omega)]; rw [List.getElem?_eq_getElem (by have := HX.out; omega)] at hy; simp at hy; rw [hy]
      have tA : A.take (q + 1) = A.take q ++ [x] := take_snoc' A q x hx
      have tB : B.take (q + 1) = B.take q ++ [y] := take_snoc' B q y hy
      have e1 : (P ++ B.take q).length = a + q := by have := HX.out; simp only [List.length_append, List.length_take]; omega
      have e2 : ∀ z : VC, (P ++ B.take q ++ z :: (A.drop (q + 1) ++ M ++ A.take q)).length = b + q := by intro z; have := HX.out; simp only [List.length_append, List.length_take, List.length_cons, List.length_drop]; omega
      have r1 := hM.out
      rw [dA, dB, show P ++ (B.take q ++ x :: A.drop (q + 1)) ++ M ++ (A.take q ++ y :: B.drop (q + 1)) ++ S = (P ++ B.take q) ++ x :: (A.drop (q + 1) ++ M ++ A.take q ++ y :: (B.drop (q + 1) ++ S)) by simp] at r1
      have r2 := r1
      rw [show (P ++ B.take q) ++ x :: (A.drop (q + 1) ++ M ++ A.take q ++ y :: (B.drop (q + 1) ++ S)) = (P ++ B.take q ++ x :: (A.drop (q + 1) ++ M ++ A.take q)) ++ y :: (B.drop (q + 1) ++ S) by simp] at r2
      have g1 := vfl_at (w := wr.drew) (g := g) r1
      rw [e1] at g1
      have g2 := vfl_at (w := wr.drew) (g := g) r2
      rw [e2] at g2
      obtain ⟨X, hX⟩ : ∃ X, X = a + q := ⟨_, rfl⟩
      obtain ⟨Y, hY⟩ : ∃ Y, Y = b + q := ⟨_, rfl⟩
      have hXn : X < n := by omega
      have hYn : Y < n := by omega
      have hXY : X < Y := by omega
      have wa : IntKind.i64.wrap ((a : Int) + q) = (X : Int) := by rw [IntWalk.i64_in ((a : Int) + q) (by omega)]; omega
      have wb : IntKind.i64.wrap ((b : Int) + q) = (Y : Int) := by rw [IntWalk.i64_in ((b : Int) + q) (by omega)]; omega
      rw [← hX] at e1 g1
      rw [← hY] at g2
      have e2 : ∀ z : VC, (P ++ B.take q ++ z :: (A.drop (q + 1) ++ M ++ A.take q)).length = Y := fun z => (e2 z).trans hY.symm
      clear hX hY
      have r1d : Row wr.drew g 28 (vfl ((P ++ B.take q) ++ x :: (A.drop (q + 1) ++ M ++ A.take q ++ y :: (B.drop (q + 1) ++ S))) ++ rest) := r1
      have put1 := vfl_put (P ++ B.take q) (A.drop (q + 1) ++ M ++ A.take q ++ y :: (B.drop (q + 1) ++ S)) x y rest
      rw [e1] at put1
      have put2 := vfl_put (P ++ B.take q ++ y :: (A.drop (q + 1) ++ M ++ A.take q)) (B.drop (q + 1) ++ S) y x rest
      rw [e2, show (P ++ B.take q ++ y :: (A.drop (q + 1) ++ M ++ A.take q)) ++ y :: (B.drop (q + 1) ++ S) = (P ++ B.take q) ++ y :: (A.drop (q + 1) ++ M ++ A.take q ++ y :: (B.drop (q + 1) ++ S)) by simp,
        show (P ++ B.take q ++ y :: (A.drop (q + 1) ++ M ++ A.take q)) ++ x :: (B.drop (q + 1) ++ S) = P ++ ((B.take q ++ [y]) ++ A.drop (q + 1)) ++ M ++ ((A.take q ++ [x]) ++ B.drop (q + 1)) ++ S by simp, ← tA, ← tB] at put2
      have LN := (show Hid (∀ z : VC, (P ++ B.take q ++ z :: (A.drop (q + 1) ++ M ++ A.take q ++ y :: (B.drop (q + 1) ++ S))).length = n) from fun z => by have := HX.out; have := HN.out; simp only [List.length_append, List.length_take, List.length_cons, List.length_drop] at *; omega)
      have f1 : X * 2 + (vce y).length ≤ (vfl ((P ++ B.take q) ++ x :: (A.drop (q + 1) ++ M ++ A.take q ++ y :: (B.drop (q + 1) ++ S))) ++ rest).length := by rw [List.length_append, vfl_len, LN.out, show (vce y).length = 2 from rfl]; omega
      have f2 : Y * 2 + (vce x).length ≤ (vfl ((P ++ B.take q) ++ y :: (A.drop (q + 1) ++ M ++ A.take q ++ y :: (B.drop (q + 1) ++ S))) ++ rest).length := by rw [List.length_append, vfl_len, LN.out, show (vce x).length = 2 from rfl]; omega
      obtain ⟨C2, hC2⟩ : ∃ C, C = vfl (P ++ (B.take (q + 1) ++ A.drop (q + 1)) ++ M ++ (A.take (q + 1) ++ B.drop (q + 1)) ++ S) ++ rest := ⟨_, rfl⟩
      obtain ⟨C1, hC1⟩ : ∃ C, C = vfl ((P ++ B.take q) ++ y :: (A.drop (q + 1) ++ M ++ A.take q ++ y :: (B.drop (q + 1) ++ S))) ++ rest := ⟨_, rfl⟩
      obtain ⟨C0, hC0⟩ : ∃ C, C = vfl ((P ++ B.take q) ++ x :: (A.drop (q + 1) ++ M ++ A.take q ++ y :: (B.drop (q + 1) ++ S))) ++ rest := ⟨_, rfl⟩
      have HC2 := (show Hid (C2 = vfl (P ++ (B.take (q + 1) ++ A.drop (q + 1)) ++ M ++ (A.take (q + 1) ++ B.drop (q + 1)) ++ S) ++ rest) from hC2)
      rw [← hC0] at r1d put1 f1
      rw [← hC1] at put1 put2 f2
      rw [← hC2] at put2
      have cx0 : wr.cell? ⟨g, X * 2, none⟩ = some (.int .i64 x2.1) := g1 0 _ (by rw [ex]; rfl)
      have cx1 : wr.cell? ⟨g, X * 2 + 1, none⟩ = some (.slice ax nx cx) := g1 1 _ (by rw [ex]; rfl)
      have cy0 : wr.cell? ⟨g, Y * 2, none⟩ = some (.int .i64 y2.1) := g2 0 _ (by rw [ey]; rfl)
      have cy1 : wr.cell? ⟨g, Y * 2 + 1, none⟩ = some (.slice ay ny cy) := g2 1 _ (by rw [ey]; rfl)
      have fz : ∀ j, wr.frozen? ⟨g, j, none⟩ = false := fun j => r1.frozen j
      have s1 : (wr.setCell ⟨g, X * 2, none⟩ (.int .i64 y2.1)).cell? ⟨g, X * 2 + 1, none⟩ = some (.slice ax nx cx) := cell_set_ne cx1 (by omega)
      have fz1 : ∀ j, (wr.setCell ⟨g, X * 2, none⟩ (.int .i64 y2.1)).frozen? ⟨g, j, none⟩ = false := fun j => (r1.set _ _).frozen j
      have vx : vce x = [.int .i64 x2.1, .slice ax nx cx] := by rw [ex]; rfl
      have vy : vce y = [.int .i64 y2.1, .slice ay ny cy] := by rw [ey]; rfl
      rw [vy] at put1 f1
      rw [vx] at put2 f2
      obtain ⟨u1, hu1⟩ : ∃ u, u = (wr.setCell ⟨g, X * 2, none⟩ (.int .i64 y2.1)).setCell ⟨g, X * 2 + 1, none⟩ (.slice ay ny cy) := ⟨_, rfl⟩
      have R1 : Row u1 g 28 C1 := by rw [hu1, ← put1]; exact row_two (show Row wr g 28 C0 from r1d) f1
      have K1 : wr.grownBy u1 (some g) := by rw [hu1]; exact grown_two _ _ _ _ _ _
      have dy0 : u1.cell? ⟨g, Y * 2, none⟩ = some (.int .i64 y2.1) := by rw [hu1]; exact cell_set_ne (cell_set_ne cy0 (by omega)) (by omega)
      have dy1 : u1.cell? ⟨g, Y * 2 + 1, none⟩ = some (.slice ay ny cy) := by rw [hu1]; exact cell_set_ne (cell_set_ne cy1 (by omega)) (by omega)
      have gz : ∀ j, u1.frozen? ⟨g, j, none⟩ = false := fun j => R1.frozen j
      have s2 : (u1.setCell ⟨g, Y * 2, none⟩ (.int .i64 x2.1)).cell? ⟨g, Y * 2 + 1, none⟩ = some (.slice ay ny cy) := cell_set_ne dy1 (by omega)
      have gz1 : ∀ j, (u1.setCell ⟨g, Y * 2, none⟩ (.int .i64 x2.1)).frozen? ⟨g, j, none⟩ = false := fun j => (R1.set _ _).frozen j
      obtain ⟨u2, hu2⟩ : ∃ u, u = (u1.setCell ⟨g, Y * 2, none⟩ (.int .i64 x2.1)).setCell ⟨g, Y * 2 + 1, none⟩ (.slice ax nx cx) := ⟨_, rfl⟩
      have R2 : Hid (Row u2 g 28 C2) := by show Row _ _ _ _; rw [hu2, ← put2]; exact row_two R1 f2
      have K2 : u1.grownBy u2 (some g) := by rw [hu2]; exact grown_two _ _ _ _ _ _
      have KG := (show Hid (w.grownBy u2 (some g)) from (hG.trans K1).trans K2)
      have HU1 := (show Hid ((wr.setCell ⟨g, X * 2, none⟩ (.int .i64 y2.1)).setCell ⟨g, X * 2 + 1, none⟩ (.slice ay ny cy) = u1) from hu1.symm)
      have HU2 := (show Hid ((u1.setCell ⟨g, Y * 2, none⟩ (.int .i64 x2.1)).setCell ⟨g, Y * 2 + 1, none⟩ (.slice ax nx cx) = u2) from hu2.symm)
      clear r1 r2 hx hy dA dB tA tB hM e1 e2 LN hC0 hC1 hC2 g1 g2 ex ey vx vy put1 put2 f1 f2 r1d R1 K1 K2 hG hu1 hu2
      go_upto_region 3 with fail
      refine wp_region_held_drew (S := fun _ => True) (by kernel_rfl) trivial (fun _ => ?_)
      refine wpAnyH_take (i := 0) (v := (.slice (some ⟨g, 0, none⟩) n cap)) rfl (by kernel_rfl) (by kernel_rfl) (by kernel_rfl) (fun _ _ _ h => h) (Or.inl ⟨by kernel_rfl, fun u hSu => by go_simp⟩) trivial ?_
      simp only [Act.put, List.setIfInBounds_toArray, List.set_cons_zero, List.set_cons_succ]
      refine wpAnyH_take (i := 1) (v := .int .i64 ((a : Nat) : Int)) rfl (by kernel_rfl) (by kernel_rfl) (by kernel_rfl) (fun _ _ _ h => h) (Or.inl ⟨by kernel_rfl, fun u hSu => by go_simp⟩) trivial ?_
      simp only [Act.put, List.setIfInBounds_toArray, List.set_cons_zero, List.set_cons_succ]
      refine wpAnyH_take (i := 2) (v := .int .i64 ((q : Nat) : Int)) rfl (by kernel_rfl) (by kernel_rfl) (by kernel_rfl) (fun _ _ _ h => h) (Or.inl ⟨by kernel_rfl, fun u hSu => by go_simp⟩) trivial ?_
      simp only [Act.put, List.setIfInBounds_toArray, List.set_cons_zero, List.set_cons_succ]
      refine wpAnyH_take (i := 3) (v := .int .i64 ((X : Nat) : Int)) rfl (by kernel_rfl) (by kernel_rfl) (by kernel_rfl) (fun _ _ _ h => h) (Or.inl ⟨by kernel_rfl, fun u hSu => by go_simp; try first | exact wa | exact wb⟩) trivial ?_
      simp only [Act.put, List.setIfInBounds_toArray, List.set_cons_zero, List.set_cons_succ]
      refine wpAnyH_take (i := 4) (v := (.slice (some ⟨g, 0, none⟩) n cap)) rfl (by kernel_rfl) (by kernel_rfl) (by kernel_rfl) (fun _ _ _ h => h) (Or.inl ⟨by kernel_rfl, fun u hSu => by go_simp⟩) trivial ?_
      simp only [Act.put, List.setIfInBounds_toArray, List.set_cons_zero, List.set_cons_succ]
      refine wpAnyH_take (i := 5) (v := .int .i64 ((b : Nat) : Int)) rfl (by kernel_rfl) (by kernel_rfl) (by kernel_rfl) (fun _ _ _ h => h) (Or.inl ⟨by kernel_rfl, fun u hSu => by go_simp⟩) trivial ?_
      simp only [Act.put, List.setIfInBounds_toArray, List.set_cons_zero, List.set_cons_succ]
      refine wpAnyH_take (i := 6) (v := .int .i64 ((q : Nat) : Int)) rfl (by kernel_rfl) (by kernel_rfl) (by kernel_rfl) (fun _ _ _ h => h) (Or.inl ⟨by kernel_rfl, fun u hSu => by go_simp⟩) trivial ?_
      simp only [Act.put, List.setIfInBounds_toArray, List.set_cons_zero, List.set_cons_succ]
      refine wpAnyH_take (i := 7) (v := .int .i64 ((Y : Nat) : Int)) rfl (by kernel_rfl) (by kernel_rfl) (by kernel_rfl) (fun _ _ _ h => h) (Or.inl ⟨by kernel_rfl, fun u hSu => by go_simp; try first | exact wa | exact wb⟩) trivial ?_
      simp only [Act.put, List.setIfInBounds_toArray, List.set_cons_zero, List.set_cons_succ]
      refine wpAnyH_take (i := 8) (v := (.slice (some ⟨g, 0, none⟩) n cap)) rfl (by kernel_rfl) (by kernel_rfl) (by kernel_rfl) (fun _ _ _ h => h) (Or.inl ⟨by kernel_rfl, fun u hSu => by go_simp⟩) trivial ?_
      simp only [Act.put, List.setIfInBounds_toArray, List.set_cons_zero, List.set_cons_succ]
      refine wpAnyH_take (i := 9) (v := .int .i64 ((b : Nat) : Int)) rfl (by kernel_rfl) (by kernel_rfl) (by kernel_rfl) (fun _ _ _ h => h) (Or.inl ⟨by kernel_rfl, fun u hSu => by go_simp⟩) trivial ?_
      simp only [Act.put, List.setIfInBounds_toArray, List.set_cons_zero, List.set_cons_succ]
      refine wpAnyH_take (i := 10) (v := .int .i64 ((q : Nat) : Int)) rfl (by kernel_rfl) (by kernel_rfl) (by kernel_rfl) (fun _ _ _ h => h) (Or.inl ⟨by kernel_rfl, fun u hSu => by go_simp⟩) trivial ?_
      simp only [Act.put, List.setIfInBounds_toArray, List.set_cons_zero, List.set_cons_succ]
      refine wpAnyH_take (i := 11) (v := .int .i64 ((Y : Nat) : Int)) rfl (by kernel_rfl) (by kernel_rfl) (by kernel_rfl) (fun _ _ _ h => h) (Or.inl ⟨by kernel_rfl, fun u hSu => by go_simp; try first | exact wa | exact wb⟩) trivial ?_
      simp only [Act.put, List.setIfInBounds_toArray, List.set_cons_zero, List.set_cons_succ]
      refine wpAnyH_take (i := 12) (v := .pointer (some ⟨g, Y * 2, none⟩)) rfl (by kernel_rfl) (by kernel_rfl) (by kernel_rfl) (fun _ _ _ h => h) (Or.inl ⟨by kernel_rfl, fun u hSu => by go_simp; try first | exact wa | exact wb⟩) trivial ?_
      simp only [Act.put, List.setIfInBounds_toArray, List.set_cons_zero, List.set_cons_succ]
      refine wpAnyH_take (i := 14) (v := (.slice (some ⟨g, 0, none⟩) n cap)) rfl (by kernel_rfl) (by kernel_rfl) (by kernel_rfl) (fun _ _ _ h => h) (Or.inl ⟨by kernel_rfl, fun u hSu => by go_simp⟩) trivial ?_
      simp only [Act.put, List.setIfInBounds_toArray, List.set_cons_zero, List.set_cons_succ]
      refine wpAnyH_take (i := 15) (v := .int .i64 ((a : Nat) : Int)) rfl (by kernel_rfl) (by kernel_rfl) (by kernel_rfl) (fun _ _ _ h => h) (Or.inl ⟨by kernel_rfl, fun u hSu => by go_simp⟩) trivial ?_
      simp only [Act.put, List.setIfInBounds_toArray, List.set_cons_zero, List.set_cons_succ]
      refine wpAnyH_take (i := 16) (v := .int .i64 ((q : Nat) : Int)) rfl (by kernel_rfl) (by kernel_rfl) (by kernel_rfl) (fun _ _ _ h => h) (Or.inl ⟨by kernel_rfl, fun u hSu => by go_simp⟩) trivial ?_
      simp only [Act.put, List.setIfInBounds_toArray, List.set_cons_zero, List.set_cons_succ]
      refine wpAnyH_take (i := 17) (v := .int .i64 ((X : Nat) : Int)) rfl (by kernel_rfl) (by kernel_rfl) (by kernel_rfl) (fun _ _ _ h => h) (Or.inl ⟨by kernel_rfl, fun u hSu => by go_simp; try first | exact wa | exact wb⟩) trivial ?_
      simp only [Act.put, List.setIfInBounds_toArray, List.set_cons_zero, List.set_cons_succ]
      refine wpAnyH_take (i := 18) (v := .pointer (some ⟨g, X * 2, none⟩)) rfl (by kernel_rfl) (by kernel_rfl) (by kernel_rfl) (fun _ _ _ h => h) (Or.inl ⟨by kernel_rfl, fun u hSu => by go_simp; try first | exact wa | exact wb⟩) trivial ?_
      simp only [Act.put, List.setIfInBounds_toArray, List.set_cons_zero, List.set_cons_succ]
      have HE : ∀ K : Prop, (K → K) := fun _ h => h
      clear HE
      refine wpAnyH_ready (rs := [13, 19]) (by kernel_rfl) (by simp) ?_
      refine AllReadyH.cons (o := _) rfl (fun K hK => ?_) ?_
      · go_simp
        refine hK.out _ _ trivial (fun _ => ?_)
        clear hK K
        refine wpAnyH_ready (rs := [19]) (by kernel_rfl) (by simp) ?_
        refine AllReadyH.cons (o := _) rfl (fun K hK => ?_) AllReadyH.nil
        go_simp
        refine hK.out _ _ trivial (fun _ => ?_)
        clear hK K
        refine wpAnyH_take (i := 20) (v := .pointer (some ⟨g, X * 2, none⟩)) rfl (by kernel_rfl) (by kernel_rfl) (by kernel_rfl) (fun _ _ _ h => h) (Or.inl ⟨by kernel_rfl, fun u hSu => by go_simp; try first | exact wa | exact wb⟩) trivial ?_
        simp only [Act.put, List.setIfInBounds_toArray, List.set_cons_zero, List.set_cons_succ]
        refine wpAnyH_ready (rs := [21]) (by kernel_rfl) (by simp) ?_
        refine AllReadyH.cons (o := _) rfl (fun K hK => ?_) AllReadyH.nil
        go_simp
        refine hK.out _ _ trivial (fun _ => ?_)
        clear hK K
        rw [HU1.out]
        refine wpAnyH_take (i := 22) (v := .pointer (some ⟨g, Y * 2, none⟩)) rfl (by kernel_rfl) (by kernel_rfl) (by kernel_rfl) (fun _ _ _ h => h) (Or.inl ⟨by kernel_rfl, fun u hSu => by go_simp; try first | exact wa | exact wb⟩) trivial ?_
        simp only [Act.put, List.setIfInBounds_toArray, List.set_cons_zero, List.set_cons_succ]
        refine wpAnyH_ready (rs := [23]) (by kernel_rfl) (by simp) ?_
        refine AllReadyH.cons (o := _) rfl (fun K hK => ?_) AllReadyH.nil
        go_simp
        refine hK.out _ _ trivial (fun _ => ?_)
        clear hK K
        rw [HU2.out]
        refine wpAnyH_done (by kernel_rfl) ?_ _
        go_wp2_with fail
        go_roundw
        case rel => exact ⟨q + 1, by omega, by go_num, HC2.out ▸ R2, grown_to_drew KG.out⟩
        case measure => simp [intOf]; omega
      refine AllReadyH.cons (o := _) rfl (fun K hK => ?_) AllReadyH.nil
      go_simp
      refine hK.out _ _ trivial (fun _ => ?_)
      clear hK K
      refine wpAnyH_ready (rs := [13]) (by kernel_rfl) (by simp) ?_
      refine AllReadyH.cons (o := _) rfl (fun K hK => ?_) AllReadyH.nil
      go_simp
      refine hK.out _ _ trivial (fun _ => ?_)
      clear hK K
      refine wpAnyH_take (i := 20) (v := .pointer (some ⟨g, X * 2, none⟩)) rfl (by kernel_rfl) (by kernel_rfl) (by kernel_rfl) (fun _ _ _ h => h) (Or.inl ⟨by kernel_rfl, fun u hSu => by go_simp; try first | exact wa | exact wb⟩) trivial ?_
      simp only [Act.put, List.setIfInBounds_toArray, List.set_cons_zero, List.set_cons_succ]
      refine wpAnyH_ready (rs := [21]) (by kernel_rfl) (by simp) ?_
      refine AllReadyH.cons (o := _) rfl (fun K hK => ?_) AllReadyH.nil
      go_simp
      refine hK.out _ _ trivial (fun _ => ?_)
      clear hK K
      rw [HU1.out]
      refine wpAnyH_take (i := 22) (v := .pointer (some ⟨g, Y * 2, none⟩)) rfl (by kernel_rfl) (by kernel_rfl) (by kernel_rfl) (fun _ _ _ h => h) (Or.inl ⟨by kernel_rfl, fun u hSu => by go_simp; try first | exact wa | exact wb⟩) trivial ?_
      simp only [Act.put, List.setIfInBounds_toArray, List.set_cons_zero, List.set_cons_succ]
      refine wpAnyH_ready (rs := [23]) (by kernel_rfl) (by simp) ?_
      refine AllReadyH.cons (o := _) rfl (fun K hK => ?_) AllReadyH.nil
      go_simp
      refine hK.out _ _ trivial (fun _ => ?_)
      clear hK K
      rw [HU2.out]
      refine wpAnyH_done (by kernel_rfl) ?_ _
      go_wp2_with fail
      go_roundw
      case rel => exact ⟨q + 1, by omega, by go_num, HC2.out ▸ R2, grown_to_drew KG.out⟩
      case measure => simp [intOf]; omega
    · obtain rfl : q = N := by omega
      have hM := hM.out
      rw [List.take_of_length_le (by have := HX.out; omega), List.take_of_length_le (by have := HX.out; omega), List.drop_eq_nil_of_le (by have := HX.out; omega), List.drop_eq_nil_of_le (by have := HX.out; omega), List.append_nil, List.append_nil] at hM
      go_wp2_with fail
      go_end0
      exact ⟨rfl, hM, hG⟩
end
end Go.Proofs.YtgpkngiakhdmhaaDoor
