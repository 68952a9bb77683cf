/- What is known of a slot, in memory; clone.Slot. Written by mk18c.py. -/
import Derived.Test.YtjloehkolnjnhaaXRAK
import Derived.Test.YtjloehkolnjnhaaXRAN
import Derived.Test.YtjloehkolnjnhaaXRAO
import Derived.Test.YtjloehkolnjnhaaXRAL
import Derived.Lib.SliceRun
import Derived.Test.YtjloehkolnjnhaaXRAI
set_option linter.unusedSimpArgs false
set_option linter.unusedVariables false
namespace Go.Proofs.Ytjloehkolnjnhaa
section
open Go.RowKit Oct
theorem flat_putS {k n q : Nat} {cur r b0 : List Value} {A B : List (List Value)} (hA : ∀ r ∈ A, r.length = k) (hB : ∀ r ∈ b0 :: B, r.length = k) (hr : r.length = k) (hq : A.length = q) (hn : (A ++ b0 :: B).length = n) (hc : n * k ≤ cur.length)
    (ht : cur.take (n * k) = (A ++ b0 :: B).flatten) : (splice cur (q * k) r).take (n * k) = (A ++ r :: B).flatten := by
  have hAl : A.flatten.length = q * k := by rw [flat_len hA, hq]
  have hB' : ∀ r ∈ B, r.length = k := fun x hx => hB x (by simp [hx])
  have hb0 := hB b0 (by simp)
  have hBl : B.flatten.length = B.length * k := flat_len hB'
  have hnn : n = q + 1 + B.length := by rw [← hn, List.length_append, List.length_cons, hq]; omega
  have hmul : n * k = q * k + (k + B.length * k) := by rw [hnn, Nat.add_mul, Nat.add_mul]; omega
  have e1 : cur.take (q * k) = A.flatten := by
    have := congrArg (List.take (q * k)) ht
    rw [List.take_take, Nat.min_eq_left (by omega), List.flatten_append, ← hAl, List.take_left] at this
    rw [← hAl]; exact this
  have hAb : (A.flatten ++ b0).length = q * k + k := by rw [List.length_append, hAl, hb0]
  have e3 : (A.flatten ++ b0 ++ B.flatten).drop (q * k + k) = B.flatten := by rw [← hAb]; exact List.drop_left
  have e2 : (cur.drop (q * k + k)).take (B.length * k) = B.flatten := by
    have := congrArg (List.drop (q * k + k)) ht
    rw [List.drop_take, List.flatten_append, List.flatten_cons, ← List.append_assoc, e3] at this
    rw [← this]
    congr 1
    omega
  unfold splice
  rw [e1, hr, List.flatten_append, List.flatten_cons, ← e2, hmul, ← hAl, List.take_length_add_append, ← hr, List.take_length_add_append, hAl]
theorem Row.uniqS {w : World} {b : Nat} {t t' : TypeId} {xs ys : List Value} (h : Row w b t xs) (h' : Row w b t' ys) : xs = ys := by
  unfold Row at h h'
  rw [h] at h'
  simp at h'
  exact h'.1
section
variable {α : Type} {R : (Nat → Prop) → World → List Value → α → Prop} {T : TypeId} {kk : Nat}
/-- A row of records of which the first q are copied. -/
structure MixR (R : (Nat → Prop) → World → List Value → α → Prop) (T : TypeId) (kk : Nat) (B g n cap q : Nat) (w0 w : World) (rows0 : List (List Value)) (ys : List α) : Prop where
  bel : Below B w0 w
  ex : ∃ (cur : List Value) (A : List (List Value)), Row w g T cur ∧ cur.length = cap * kk ∧ A.length = q ∧ (∀ r ∈ A, r.length = kk) ∧ cur.take (n * kk) = (A ++ rows0.drop q).flatten ∧ All2 (R (fun b => B ≤ b ∧ b ≠ g) w) A (ys.take q)
theorem MixR.row {B g n cap q : Nat} {w0 w : World} {rows0 : List (List Value)} {ys : List α} (h : MixR R T kk B g n cap q w0 w rows0 ys) (h0 : ∀ r ∈ rows0, r.length = kk) {r : List Value} (hr : rows0[q]? = some r) (hq : q < n) : w.rangeAt g (q * kk) r := by
  obtain ⟨cur, A, h1, h2, h3, h4, h5, h6⟩ := h.ex
  intro j v hj
  refine h1.cell ?_
  have hrl := h0 r (List.mem_of_getElem? hr)
  have hjl : j < kk := by rw [← hrl]; exact (List.getElem?_eq_some_iff.1 hj).1
  have e : (A ++ rows0.drop q)[q]? = some r := by rw [List.getElem?_append_right (by omega), h3, Nat.sub_self, List.getElem?_drop, Nat.add_zero]; exact hr
  have hl : ∀ x ∈ A ++ rows0.drop q, x.length = kk := fun x hx => by
    rcases List.mem_append.1 hx with hx | hx
    · exact h4 x hx
    · exact h0 x (List.mem_of_mem_drop hx)
  have := flat_at hl e hj
  have hmul : (q + 1) * kk ≤ n * kk := Nat.mul_le_mul_right _ hq
  rw [Nat.add_mul] at hmul
  rw [← h5, List.getElem?_take, if_pos (by omega)] at this
  exact this
theorem MixR.step (hR : Mov R) {B g n cap q : Nat} {w0 w w1 w2 : World} {rows0 : List (List Value)} {ys : List α} (h : MixR R T kk B g n cap q w0 w rows0 ys) (h0 : ∀ r ∈ rows0, r.length = kk) (hn : rows0.length = n) (hc : n ≤ cap) {x : α} (hx : ys[q]? = some x) (hq : q < n)
    (hb1 : Below w.heap.size w w1) (hBg : B ≤ g) {r : List Value} (hlr : r.length = kk) (hr : R (From w.heap.size) w1 r x) (hB : B ≤ w.heap.size) (hg2 : w1.grownBy w2 (some g)) {cur0 : List Value} (hc0 : Row w1 g T cur0) (hr2 : Row w2 g T (splice cur0 (q * kk) r)) : MixR R T kk B g n cap (q + 1) w0 w2 rows0 ys := by
  obtain ⟨cur, A, h1, h2, h3, h4, h5, h6⟩ := h.ex
  have hgl := h1.lt
  obtain rfl : cur = cur0 := (h1.below hb1).uniqS hc0
  have hrl : r.length = kk := hlr
  have hmul : (q + 1) * kk ≤ n * kk := Nat.mul_le_mul_right _ hq
  have hmul2 : n * kk ≤ cap * kk := Nat.mul_le_mul_right _ hc
  rw [Nat.add_mul] at hmul
  refine ⟨(h.bel.trans (hb1.mono hB)).trans (grown_below hg2 (Nat.le_trans hB hb1.size) (fun k hk => by cases hk; exact hBg)), splice cur (q * kk) r, A ++ [r], hr2, ?_, ?_, ?_, ?_, ?_⟩
  · rw [length_splice _ _ _ (by omega), h2]
  · simp [h3]
  · intro y hy
    rcases List.mem_append.1 hy with hy | hy
    · exact h4 y hy
    · simp at hy; subst hy; exact hrl
  · obtain ⟨b0, hb0⟩ : ∃ b0, rows0[q]? = some b0 := ⟨_, List.getElem?_eq_getElem (by omega)⟩
    have hd : rows0.drop q = b0 :: rows0.drop (q + 1) := by
      rw [List.drop_eq_getElem_cons (by omega : q < rows0.length)]
      rw [List.getElem?_eq_getElem (by omega)] at hb0
      injection hb0 with hb0
      rw [hb0]
    rw [hd] at h5
    rw [List.append_assoc, List.singleton_append]
    refine flat_putS h4 (fun y hy => ?_) hrl h3 ?_ (by omega) h5
    · rw [← hd] at hy; exact h0 y (List.mem_of_mem_drop hy)
    · rw [← hd, List.length_append, List.length_drop]; omega
  · have e : ys.take (q + 1) = ys.take q ++ [x] := by
      rw [List.take_add_one, hx]; rfl
    rw [e]
    refine All2.app (h6.mono fun y a hy => hR _ _ _ _ _ _ hy (Nat.le_trans hb1.size hg2.size) fun k hk hlt => ⟨?_, hk⟩) ⟨hR _ _ _ _ _ _ hr hg2.size fun k hk hlt => ⟨hg2.block k hlt (fun e => ?_), Nat.le_trans hB hk, fun e => ?_⟩, trivial⟩
    · have hs := hb1.size
      exact (hg2.block k (by omega) (fun e => by injection e with e; exact hk.2 e)).trans (hb1.block k hlt)
    · injection e with e
      unfold From at hk; omega
    · unfold From at hk; omega
theorem MixR.done (hR : Mov R) {B g n cap : Nat} {w0 w : World} {rows0 : List (List Value)} {ys : List α} (h : MixR R T kk B g n cap n w0 w rows0 ys) (hn : rows0.length = n) (hy : ys.length = n) (hc : n ≤ cap) (hm : cap ≤ maxLen) (hB : B ≤ g) : LB R T kk B w (.slice (some ⟨g, 0, none⟩) n cap) ys := by
  obtain ⟨cur, A, h1, h2, h3, h4, h5, h6⟩ := h.ex
  rw [List.drop_of_length_le (by omega), List.append_nil] at h5
  rw [List.take_of_length_le (by omega)] at h6
  refine ⟨A, h4, ⟨flat_len h4, .inr ⟨g, cap, cur.toArray, by rw [h3], Nat.zero_le _, h1, by omega, hm, by simpa using h2, by rw [h3]; simpa using h5⟩⟩, fr_at _ _ _ _ hB, h6.mono fun y a hy => hR _ _ _ _ _ _ hy (Nat.le_refl _) fun k hk _ => ⟨rfl, hk.1, fun e => hk.2 ?_⟩⟩
  simp [Value.ownBlock] at e
  exact e.symm
end
end
section
open Go.RowKit Oct
set_option maxRecDepth 10000 in
set_option maxHeartbeats 4000000 in
theorem cloneVoteS_any (w : World) (r : List Value) (x : PVote) (h : RVote Any w r x) (hz : szV x) :
    Calls Try.prog 54 #[.agg r.toArray] w fun e w' => ∃ r', e = .returned (.agg r'.toArray) ∧ RVote (From w.heap.size) w' r' x ∧ Below w.heap.size w w' := by
  obtain ⟨o1, rfl, t1⟩ := h
  obtain ⟨w2, hw2⟩ : ∃ w2, w2 = (w.alloc (.cells #[.int .i64 x.1, o1] 91)).alloc (.cells #[.int .i64 0, .slice none 0 0] 91) := ⟨_, rfl⟩
  have ra : Row w2 w.heap.size 91 [.int .i64 x.1, o1] := by rw [hw2]; exact rowA (Row.new w 91 _) _
  have rr : Row w2 (w.heap.size + 1) 91 [.int .i64 0, .slice none 0 0] := by
    have h1 : (w.alloc (.cells #[.int .i64 x.1, o1] 91)).heap.size = w.heap.size + 1 := by simp
    rw [hw2, ← h1]
    exact Row.new (w.alloc (.cells #[.int .i64 x.1, o1] 91)) 91 [.int .i64 0, .slice none 0 0]
  have B : Below w.heap.size w w2 := by rw [hw2]; exact ((Below.refl _ w).alloc (Nat.le_refl _) _).alloc (by simp) _
  have hC : w.heap.size + 2 ≤ w2.heap.size := by rw [hw2]; simp
  go_enter Try.func54, Try.ntmps54
  go_upto_region 1 with fail
  rw [← hw2]
  clear hw2
  have hI := (t1.mv (Mv.below B))
  have cI := ra.cell (j := 1) rfl
  have hG := clone_any w2 _ _ hI.1 (Nat.le_trans (hz) (by decide))
  go_upto_region 2 with (first
    | (go_at_call 51; refine hG.mono ?_; rintro e wa0 ⟨v0, rfl, f0, hb0⟩; have rai := ra.below hb0)
    | (refine wl_set rfl _ _ _ rfl w.heap.size 1 _ rfl rfl _ _ rai (show 1 < 2 by decide) (by kernel_rfl) f0.one ?_; intro wb0 rbi hg0))
  have ra : Row wb0 w.heap.size 91 [.int .i64 x.1, v0] := rbi.out
  have rr := (rr.below hb0).grown hg0 (fun h => by injection h; omega)
  have f0 := ((f0.mv (Mv.weak (L := w.heap.size + 2) hC)).mv (Mv.from hg0 (by omega) (Nat.le_refl _)))
  have B : Below w.heap.size w wb0 := (below_and B (Nat.le_refl _) hb0).trans (grown_below hg0 (below_and B (Nat.le_refl _) hb0).size (fun k hk => by cases hk; exact Nat.le_refl _))
  have hC := Nat.le_trans hC (Nat.le_trans hb0.size hg0.size)
  clear hG hI rai rbi hb0 hg0 cI
  have hone : ∀ v ∈ [.int .i64 x.1, v0], v.oneCell' = true := by
    intro v hv
    have k_f0 := f0.one
    simp only [List.mem_cons, List.not_mem_nil, or_false] at hv
    rcases hv with rfl | rfl <;> first | rfl | assumption
  go_wp2_with (first
    | (refine wl_load rfl _ _ rfl w.heap.size rfl _ _ ra _ Try.underlying91 rfl (by kernel_rfl) ?_)
    | (refine wl_store rfl _ _ _ rfl (w.heap.size + 1) [.int .i64 x.1, v0] rfl rfl _ _ rr rfl (by kernel_rfl) hone ?_; intro w9 rr9 hg9))
  have B9 : Below w.heap.size w w9 := B.trans (grown_below hg9 B.size (fun k hk => by cases hk; omega))
  have f0 := ((f0.mv (Mv.from hg9 (by omega) (Nat.le_refl _))).mv (Mv.weak (L := w.heap.size) (by omega)))
  refine bodyPost_ret (v := .agg ([.int .i64 x.1, v0] : List Value).toArray) (results_cell_row rfl _ _ (w.heap.size + 1) _ _ (0, 0) _ (by rfl) rr9.out Try.underlying91 rfl (by kernel_rfl)) rfl ?_
  exact ⟨_, rfl, ⟨_, rfl, f0⟩, B9⟩
theorem Try.infVoteS : (Try.prog.info? 91).map (fun i => (i.zero, i.size, i.bytes)) = some (some (.agg #[.int .i64 0, .slice none 0 0]), 2, 32) := by kernel_rfl
set_option maxRecDepth 10000 in
/-- slices.Clone of sessions. -/
theorem scloneVote_any (w : World) (v : Value) (ys : List PVote) (h : RL RVote 2 Any w v ys) (hz : szL 32 szV ys) :
    Calls Try.prog 59 #[v] w fun e w' => ∃ v', e = .returned v' ∧ Below w.heap.size w w' ∧ ∃ rows, w'.ownsRow w.heap.size 91 2 v' ys.length rows.flatten ∧ (∀ r ∈ rows, r.length = 2) ∧ All2 (RVote Any w) rows ys := by
  obtain ⟨rows, ⟨h0, h1⟩, h2⟩ := h
  have hlen := h2.len
  have hz1 := hz.1
  have hfl := flat_len h0
  have hone : ∀ u ∈ rows.flatten, u.oneCell' = true := by
    intro u hu
    obtain ⟨r, hr, hur⟩ := List.mem_flatten.1 hu
    obtain ⟨i, hi, rfl⟩ := List.getElem_of_mem hr
    have := h2.get (List.getElem?_eq_getElem hi) (List.getElem?_eq_getElem (by omega))
    exact one_RVote this u hur
  have hcell : ∀ b off, (∀ (i : Nat) (r : List Value), rows[i]? = some r → w.rangeAt b (off + i * 2) r) → ∀ j u, rows.flatten[j]? = some u → w.cell? ⟨b, off + j, none⟩ = some u := by
    intro b off hr j u hu
    have hj : j < rows.length * 2 := by rw [← hfl]; exact (List.getElem?_eq_some_iff.1 hu).1
    have hi : j / 2 < rows.length := by omega
    have hk := h0 _ (List.getElem_mem hi)
    have hjm : j % 2 < rows[j / 2].length := by omega
    have e1 := flat_at (j := j % 2) h0 (List.getElem?_eq_getElem hi) (List.getElem?_eq_getElem hjm)
    rw [show j / 2 * 2 + j % 2 = j by omega] at e1
    have e2 := hr (j / 2) _ (List.getElem?_eq_getElem hi) (j % 2) _ (List.getElem?_eq_getElem hjm)
    rw [show off + j / 2 * 2 + j % 2 = off + j by omega] at e2
    rw [e1] at hu
    rw [e2, hu]
  have HR := (show Hid (All2 (RVote Any w) rows ys) from h2)
  have HN := (show Hid (rows.flatten.length = rows.length * 2) from hfl)
  have HO := (show Hid (∀ u ∈ rows.flatten, u.oneCell' = true) from hone)
  obtain ⟨i0, hi, hz0, hzs, hzb⟩ := info_parts Try.infVoteS
  rcases h1 with ⟨ao, cap, rfl, rfl, hcap⟩ | ⟨b, off, cap, rfl, hc1, hc2, hpos, _, hb, hr⟩
  · obtain rfl : ys = [] := List.eq_nil_of_length_eq_zero (by simpa using hlen.symm)
    cases ao with
    | none =>
      have hq : ∀ (n c : Nat) (u : World), (binOp .eql 31 (.slice none 0 cap) (.slice none n c)).run Try.prog u = .ok (.bool true) u := fun n c u => Lib.run_eql_slice_nil u 31 91 none 0 cap n c Try.underlying31
      go_enter Try.func59, Try.ntmps59
      go_wp2_with fail
      go_ret
      exact ⟨_, rfl, Below.refl _ _, [], World.ownsRow_nil _ _ _ _, (fun r hr => by cases hr), trivial⟩
    | some a =>
      have hq : ∀ (n c : Nat) (u : World), (binOp .eql 31 (.slice (some a) 0 cap) (.slice none n c)).run Try.prog u = .ok (.bool false) u := fun n c u => Lib.run_eql_slice_nil u 31 91 (some a) 0 cap n c Try.underlying31
      go_enter Try.func59, Try.ntmps59
      go_wp2_with (at_builtin; refine wpList_append_own _ rfl _ _ 31 rfl w.heap.size 91 i0 _ 2 32 Try.underlying31 hi hz0 hzs hzb rfl (by decide) _ _ _ rfl (World.ownsRow_made w #[] 0 (Nat.le_refl _) (Nat.zero_le _) (by simp)) a 0 cap [] rfl rfl (fun j u hu => by simp at hu) (fun u hu => by cases hu) (by simp) (by simp) (by simp) ?_; intro v' w1 hown hgrow hnil)
      go_ret
      exact ⟨_, rfl, ((Below.refl _ w).alloc (Nat.le_refl _) _).grown hgrow (by simp) (fr_at _ _ _ _ (Nat.le_refl _)), [], by simpa using hown, (fun r hr => by cases hr), trivial⟩
  · have HC := (show Hid (∀ j u, rows.flatten[j]? = some u → w.cell? ⟨b, off + j, none⟩ = some u) from hcell b off hr)
    have hq : ∀ (n c : Nat) (u : World), (binOp .eql 31 (.slice (some ⟨b, off, none⟩) rows.length cap) (.slice none n c)).run Try.prog u = .ok (.bool false) u := fun n c u => Lib.run_eql_slice_nil u 31 91 (some ⟨b, off, none⟩) rows.length cap n c Try.underlying31
    have hb1 : rows.length * 32 ≤ 140737488355328 := by rw [hlen]; omega
    have hm1 : rows.length ≤ maxLen := by unfold maxLen at *; omega
    have HQ := (show Hid (∀ j u, rows.flatten[j]? = some u → (w.alloc (.cells #[] 91)).cell? ((⟨b, off, none⟩ : Addr).add j) = some u) from fun j u hj => by
      rw [Addr.add_mid]
      exact ((below_alloc w _).cell (p := ⟨b, off + j, none⟩) hb).trans (HC.out j u hj))
    have HL := (show Hid (rows.length = ys.length) from hlen)
    clear hr hcell hfl hone h2 hlen
    go_enter Try.func59, Try.ntmps59
    go_wp2_with (at_builtin; refine wpList_append_own _ rfl _ _ 31 rfl w.heap.size 91 i0 _ 2 32 Try.underlying31 hi hz0 hzs hzb rfl (by decide) _ _ _ rfl (World.ownsRow_made w #[] 0 (Nat.le_refl _) (Nat.zero_le _) (by simp)) ⟨b, off, none⟩ rows.length cap rows.flatten rfl HN.out HQ.out HO.out (by rw [Nat.zero_add]; exact hm1) (by rw [Nat.zero_add]; exact hb1) (by simp) ?_; intro v' w1 hown hgrow hnil)
    go_ret
    exact ⟨_, rfl, ((Below.refl _ w).alloc (Nat.le_refl _) _).grown hgrow (by simp) (fr_at _ _ _ _ (Nat.le_refl _)), rows, by rw [← HL.out]; simpa using hown, h0, HR.out⟩
set_option maxRecDepth 10000 in
set_option maxHeartbeats 2000000 in
/-- clone.list of sessions. -/
theorem clistVoteL_any (w : World) (v : Value) (ys : List PVote) (h : RL RVote 2 Any w v ys) (hz : szL 32 szV ys) :
    Calls Try.prog 53 #[v, .func (.func 54) #[] #[]] w fun e w' => ∃ v', e = .returned v' ∧ LB RVote 91 2 w.heap.size w' v' ys ∧ Below w.heap.size w w' := by
  go_enter Try.func53, Try.ntmps53
  go_wp2_with fail
  refine (scloneVote_any w v ys h hz).mono ?_
  rintro e w1 ⟨v1, rfl, hb1, rows, hown, h0, hall⟩
  have hlen := hall.len
  rcases hown.2 with ⟨rfl, hy0⟩ | ⟨g, cap, cur, rfl, hg0, hrow, hc1, hc2, hc3, hc4⟩
  · obtain rfl : ys = [] := List.eq_nil_of_length_eq_zero hy0
    go_wp2_with fail
    refine wp_loop_rounds 1 ?_; rw [rounds_succ]
    go_wp2_with fail
    go_ret
    exact ⟨_, rfl, LB.nil _ _ _ _ _, hb1⟩
  · have hlm : (ys.length : Int) ≤ 9223372036854775807 := by unfold maxLen at hc2; omega
    have m0 : Hid (MixR RVote 91 2 w.heap.size g ys.length cap 0 w w1 rows ys) := ⟨hb1, cur.toList, [], by unfold Row; simpa using hrow, by simpa using hc3, rfl, (fun r hr => by cases hr), by simpa using hc4, trivial⟩
    have HL := (show Hid (rows.length = ys.length) from hlen)
    have H0 := (show Hid (∀ r ∈ rows, r.length = 2) from h0)
    have HA := (show Hid (All2 (RVote Any w) rows ys) from hall)
    have HZ := (show Hid (∀ y ∈ ys, szV y) from hz.2)
    clear hown hrow hc3 hc4 hlen h0 hall hb1 h hz
    obtain ⟨n, hn⟩ : ∃ n, n = ys.length := ⟨_, rfl⟩
    rw [← hn] at hlm m0 hc1 HL ⊢
    have HN := (show Hid (ys.length = n) from hn.symm)
    clear hn
    go_wp2_with fail
    go_loopw [12] (fun i wr => ∃ q : Nat, q ≤ n ∧ i = .int .i64 q ∧ Hid (MixR RVote 91 2 w.heap.size g n cap q w wr rows ys)) (fun i _ => n - (intOf i).toNat)
    case atStart => exact ⟨0, by omega, rfl, m0⟩
    case round =>
      clear m0
      obtain ⟨q, hq, rfl, hM⟩ := hrel
      by_cases hql : q < n
      · obtain ⟨x, hx⟩ : ∃ x, ys[q]? = some x := ⟨_, List.getElem?_eq_getElem (by have := HN.out; omega)⟩
        obtain ⟨r, hr⟩ : ∃ r, rows[q]? = some r := ⟨_, List.getElem?_eq_getElem (by have := HL.out; omega)⟩
        have hxr := HA.out.get hr hx
        have hrng := hM.out.row H0.out hr hql
        have hxr0 := hxr; obtain ⟨o1, rfl, t1⟩ := hxr
        have hB := hM.out.bel
        have hzx := HZ.out x (List.mem_of_getElem? hx)
        have hrow0 := Row.new wr 91 [.int .i64 0, .slice none 0 0]
        have HX := (show Hid (ys[q]? = some x) from hx)
        have hone := one_RVote hxr0
        clear hx hr
        obtain ⟨cur0, A0, kr1, kr2, _⟩ := hM.out.ex
        have hgl := kr1.lt
        have hfit : q * 2 + 2 ≤ cur0.length := by omega
        have K1 := (show Hid (Row wr g 91 cur0) from kr1)
        clear kr1 kr2
        go_wp2_with (first
          | (refine wpList_load_mid rfl _ _ rfl g (q * 2) rfl [.int .i64 x.1, o1] _ hrng Try.underlying91 rfl (by kernel_rfl) ?_)
          | (refine wl_store rfl _ _ _ rfl wr.heap.size [.int .i64 x.1, o1] rfl rfl _ _ hrow0 rfl (by kernel_rfl) hone ?_; intro w5 hr5 hg5; have hb5 : Below wr.heap.size wr w5 := (below_alloc wr _).trans (grown_below hg5 (by simp) (fun k hk => by cases hk; exact Nat.le_refl _)); have hx5 : RVote Any w5 [.int .i64 x.1, o1] x := mov_vote _ _ _ _ _ _ hxr0 (below_and hB (Nat.le_refl _) hb5).size (Mv.below (below_and hB (Nat.le_refl _) hb5)))
          | (refine wl_load rfl _ _ rfl wr.heap.size rfl _ _ hr5.out _ Try.underlying91 rfl (by kernel_rfl) ?_)
          | (go_at_call 54; refine (cloneVoteS_any w5 [.int .i64 x.1, o1] x hx5 hzx).mono ?_; rintro e w6 ⟨r6, rfl, o6, hb6⟩; have o6' := mov_vote _ (From wr.heap.size) _ _ _ _ o6 (Nat.le_refl _) (Mv.weak hb5.size); have on6 := one_RVote o6'; obtain ⟨p1, rfl, _⟩ := o6; have hb6' := below_and hb5 (Nat.le_refl _) hb6; have kk6 := K1.out.below hb6')
          | (refine wl_put rfl _ _ _ rfl g (q * 2) [.int .i64 x.1, p1] rfl rfl _ _ kk6 hfit (by kernel_rfl) on6 ?_; intro w7 hr7 hg7))
        go_roundw
        case rel => exact ⟨q + 1, by omega, by go_num, hM.out.step mov_vote H0.out HL.out hc1 HX.out hql hb6' hg0 rfl o6' hB.size hg7 kk6 hr7.out⟩
        case measure => simp [intOf]; omega
      · go_wp2_with fail
        go_ret
        obtain rfl : q = n := by omega
        exact ⟨_, rfl, hM.out.done mov_vote HL.out HN.out hc1 hc2 hg0, hM.out.bel⟩
theorem cvotesL_any (w : World) (v : Value) (ys : List PVote) (h : RL RVote 2 Any w v ys) (hz : szL 32 szV ys) :
    Calls Try.prog 45 #[v] w fun e w' => ∃ v', e = .returned v' ∧ LB RVote 91 2 w.heap.size w' v' ys ∧ Below w.heap.size w w' := by
  have hG := clistVoteL_any w v ys h hz
  go_enter Try.func45, Try.ntmps45
  go_wp2_with fail
  refine hG.mono ?_
  rintro e w1 ⟨v1, rfl, h1, hb1⟩
  go_wp2_with fail
  go_ret
  exact ⟨_, rfl, h1, hb1⟩
theorem cvotesS_any (w : World) (v : Value) (ys : List PVote) (h : RL RVote 2 Any w v ys) (hz : szL 32 szV ys) :
    Calls Try.prog 45 #[v] w fun e w' => ∃ v', e = .returned v' ∧ RL RVote 2 (From w.heap.size) w' v' ys ∧ Below w.heap.size w w' :=
  (cvotesL_any w v ys h hz).mono fun e w' ⟨v', h1, h2, h3⟩ => ⟨v', h1, h2.rl mov_vote, h3⟩
set_option maxRecDepth 10000 in
set_option maxHeartbeats 4000000 in
theorem cloneReqS_any (w : World) (r : List Value) (x : PReq) (h : RReq Any w r x) (hz : szQ x) :
    Calls Try.prog 42 #[.agg r.toArray] w fun e w' => ∃ r', e = .returned (.agg r'.toArray) ∧ RReq (From w.heap.size) w' r' x ∧ Below w.heap.size w w' := by
  obtain ⟨o1, o2, rfl, t1, t2⟩ := h
  obtain ⟨w2, hw2⟩ : ∃ w2, w2 = (w.alloc (.cells #[.int .i64 x.1, .int .i64 x.2.1, o1, o2] 30)).alloc (.cells #[.int .i64 0, .int .i64 0, .slice none 0 0, .slice none 0 0] 30) := ⟨_, rfl⟩
  have ra : Row w2 w.heap.size 30 [.int .i64 x.1, .int .i64 x.2.1, o1, o2] := by rw [hw2]; exact rowA (Row.new w 30 _) _
  have rr : Row w2 (w.heap.size + 1) 30 [.int .i64 0, .int .i64 0, .slice none 0 0, .slice none 0 0] := by
    have h1 : (w.alloc (.cells #[.int .i64 x.1, .int .i64 x.2.1, o1, o2] 30)).heap.size = w.heap.size + 1 := by simp
    rw [hw2, ← h1]
    exact Row.new (w.alloc (.cells #[.int .i64 x.1, .int .i64 x.2.1, o1, o2] 30)) 30 [.int .i64 0, .int .i64 0, .slice none 0 0, .slice none 0 0]
  have B : Below w.heap.size w w2 := by rw [hw2]; exact ((Below.refl _ w).alloc (Nat.le_refl _) _).alloc (by simp) _
  have hC : w.heap.size + 2 ≤ w2.heap.size := by rw [hw2]; simp
  go_enter Try.func42, Try.ntmps42
  go_upto_region 1 with fail
  rw [← hw2]
  clear hw2
  have hI := (t1.mv (Mv.below B))
  have cI := ra.cell (j := 2) rfl
  have hG := clone_any w2 _ _ hI.1 (Nat.le_trans (hz.1) (by decide))
  go_upto_region 2 with (first
    | (go_at_call 51; refine hG.mono ?_; rintro e wa0 ⟨v0, rfl, f0, hb0⟩; have rai := ra.below hb0)
    | (refine wl_set rfl _ _ _ rfl w.heap.size 2 _ rfl rfl _ _ rai (show 2 < 4 by decide) (by kernel_rfl) f0.one ?_; intro wb0 rbi hg0))
  have ra : Row wb0 w.heap.size 30 [.int .i64 x.1, .int .i64 x.2.1, v0, o2] := rbi.out
  have rr := (rr.below hb0).grown hg0 (fun h => by injection h; omega)
  have f0 := ((f0.mv (Mv.weak (L := w.heap.size + 2) hC)).mv (Mv.from hg0 (by omega) (Nat.le_refl _)))
  have B : Below w.heap.size w wb0 := (below_and B (Nat.le_refl _) hb0).trans (grown_below hg0 (below_and B (Nat.le_refl _) hb0).size (fun k hk => by cases hk; exact Nat.le_refl _))
  have hC := Nat.le_trans hC (Nat.le_trans hb0.size hg0.size)
  clear hG hI rai rbi hb0 hg0 cI
  have hI := (t2.mv (Mv.below B))
  have cI := ra.cell (j := 3) rfl
  have hG := clone_any wb0 _ _ hI.1 (Nat.le_trans (hz.2) (by decide))
  go_upto_region 3 with (first
    | (go_at_call 51; refine hG.mono ?_; rintro e wa1 ⟨v1, rfl, f1, hb1⟩; have rai := ra.below hb1)
    | (refine wl_set rfl _ _ _ rfl w.heap.size 3 _ rfl rfl _ _ rai (show 3 < 4 by decide) (by kernel_rfl) f1.one ?_; intro wb1 rbi hg1))
  have ra : Row wb1 w.heap.size 30 [.int .i64 x.1, .int .i64 x.2.1, v0, v1] := rbi.out
  have rr := (rr.below hb1).grown hg1 (fun h => by injection h; omega)
  have f0 := ((f0.mv (Mv.belowF hb1 (Nat.le_refl _))).mv (Mv.from hg1 (by omega) (Nat.le_refl _)))
  have f1 := ((f1.mv (Mv.weak (L := w.heap.size + 2) hC)).mv (Mv.from hg1 (by omega) (Nat.le_refl _)))
  have B : Below w.heap.size w wb1 := (below_and B (Nat.le_refl _) hb1).trans (grown_below hg1 (below_and B (Nat.le_refl _) hb1).size (fun k hk => by cases hk; exact Nat.le_refl _))
  have hC := Nat.le_trans hC (Nat.le_trans hb1.size hg1.size)
  clear hG hI rai rbi hb1 hg1 cI
  have hone : ∀ v ∈ [.int .i64 x.1, .int .i64 x.2.1, v0, v1], v.oneCell' = true := by
    intro v hv
    have k_f0 := f0.one; have k_f1 := f1.one
    simp only [List.mem_cons, List.not_mem_nil, or_false] at hv
    rcases hv with rfl | rfl | rfl | rfl <;> first | rfl | assumption
  go_wp2_with (first
    | (refine wl_load rfl _ _ rfl w.heap.size rfl _ _ ra _ Try.underlying30 rfl (by kernel_rfl) ?_)
    | (refine wl_store rfl _ _ _ rfl (w.heap.size + 1) [.int .i64 x.1, .int .i64 x.2.1, v0, v1] rfl rfl _ _ rr rfl (by kernel_rfl) hone ?_; intro w9 rr9 hg9))
  have B9 : Below w.heap.size w w9 := B.trans (grown_below hg9 B.size (fun k hk => by cases hk; omega))
  have f0 := ((f0.mv (Mv.from hg9 (by omega) (Nat.le_refl _))).mv (Mv.weak (L := w.heap.size) (by omega)))
  have f1 := ((f1.mv (Mv.from hg9 (by omega) (Nat.le_refl _))).mv (Mv.weak (L := w.heap.size) (by omega)))
  refine bodyPost_ret (v := .agg ([.int .i64 x.1, .int .i64 x.2.1, v0, v1] : List Value).toArray) (results_cell_row rfl _ _ (w.heap.size + 1) _ _ (0, 0) _ (by rfl) rr9.out Try.underlying30 rfl (by kernel_rfl)) rfl ?_
  exact ⟨_, rfl, ⟨_, _, rfl, f0, f1⟩, B9⟩
end
section
open Go.RowKit Oct
set_option maxRecDepth 10000 in
set_option maxHeartbeats 4000000 in
theorem clonePrepS_any (w : World) (r : List Value) (x : PPrep) (h : RPrep Any w r x) (hz : szP x) :
    Calls Try.prog 38 #[.agg r.toArray] w fun e w' => ∃ r', e = .returned (.agg r'.toArray) ∧ RPrep (From w.heap.size) w' r' x ∧ Below w.heap.size w w' := by
  obtain ⟨o1, o2, o3, rfl, t1, t2, t3⟩ := h
  obtain ⟨w2, hw2⟩ : ∃ w2, w2 = (w.alloc (.cells #[.int .i64 x.1, .int .i64 x.2.1.1, .int .i64 x.2.1.2, .int .i64 x.2.2.1.1, .int .i64 x.2.2.1.2.1, o1, o2, o3] 39)).alloc (.cells #[.int .i64 0, .int .i64 0, .int .i64 0, .int .i64 0, .int .i64 0, .slice none 0 0, .slice none 0 0, .slice none 0 0] 39) := ⟨_, rfl⟩
  have ra : Row w2 w.heap.size 39 [.int .i64 x.1, .int .i64 x.2.1.1, .int .i64 x.2.1.2, .int .i64 x.2.2.1.1, .int .i64 x.2.2.1.2.1, o1, o2, o3] := by rw [hw2]; exact rowA (Row.new w 39 _) _
  have rr : Row w2 (w.heap.size + 1) 39 [.int .i64 0, .int .i64 0, .int .i64 0, .int .i64 0, .int .i64 0, .slice none 0 0, .slice none 0 0, .slice none 0 0] := by
    have h1 : (w.alloc (.cells #[.int .i64 x.1, .int .i64 x.2.1.1, .int .i64 x.2.1.2, .int .i64 x.2.2.1.1, .int .i64 x.2.2.1.2.1, o1, o2, o3] 39)).heap.size = w.heap.size + 1 := by simp
    rw [hw2, ← h1]
    exact Row.new (w.alloc (.cells #[.int .i64 x.1, .int .i64 x.2.1.1, .int .i64 x.2.1.2, .int .i64 x.2.2.1.1, .int .i64 x.2.2.1.2.1, o1, o2, o3] 39)) 39 [.int .i64 0, .int .i64 0, .int .i64 0, .int .i64 0, .int .i64 0, .slice none 0 0, .slice none 0 0, .slice none 0 0]
  have B : Below w.heap.size w w2 := by rw [hw2]; exact ((Below.refl _ w).alloc (Nat.le_refl _) _).alloc (by simp) _
  have hC : w.heap.size + 2 ≤ w2.heap.size := by rw [hw2]; simp
  go_enter Try.func38, Try.ntmps38
  go_upto_region 1 with fail
  rw [← hw2]
  clear hw2
  have hI : RReq Any w2 [.int .i64 x.2.2.1.1, .int .i64 x.2.2.1.2.1, o1, o2] (x.2.2.1) := ⟨_, _, rfl, t1.mv (Mv.below B), t2.mv (Mv.below B)⟩
  have hG := cloneReqS_any w2 _ _ hI hz.1
  have hrng : World.rangeAt w2 w.heap.size 3 [.int .i64 x.2.2.1.1, .int .i64 x.2.2.1.2.1, o1, o2] := fun q u hq => ra.cell (j := 3 + q) (by
    match q, hq with
    | 0, hq => exact hq
    | 1, hq => exact hq
    | 2, hq => exact hq
    | 3, hq => exact hq)
  go_upto_region 2 with (first
    | (refine wpList_load_mid rfl _ _ rfl w.heap.size 3 rfl [.int .i64 x.2.2.1.1, .int .i64 x.2.2.1.2.1, o1, o2] _ hrng Try.underlying30 rfl (by kernel_rfl) ?_)
    | (go_at_call 42; refine hG.mono ?_; rintro e wa0 ⟨rq0, rfl, hq0, hb0⟩; obtain ⟨a0, b0, rfl, fa0, fb0⟩ := hq0; have rai := ra.below hb0)
    | (refine wl_put rfl _ _ _ rfl w.heap.size 3 [.int .i64 x.2.2.1.1, .int .i64 x.2.2.1.2.1, a0, b0] rfl rfl _ _ rai (show 7 ≤ 8 by decide) (by kernel_rfl) (one4 fa0.one fb0.one) ?_; intro wb0 rbi hg0))
  clear hrng
  have ra : Row wb0 w.heap.size 39 [.int .i64 x.1, .int .i64 x.2.1.1, .int .i64 x.2.1.2, .int .i64 x.2.2.1.1, .int .i64 x.2.2.1.2.1, a0, b0, o3] := rbi.out
  have rr := (rr.below hb0).grown hg0 (fun h => by injection h; omega)
  have fa0 := ((fa0.mv (Mv.weak (L := w.heap.size + 2) hC)).mv (Mv.from hg0 (by omega) (Nat.le_refl _)))
  have fb0 := ((fb0.mv (Mv.weak (L := w.heap.size + 2) hC)).mv (Mv.from hg0 (by omega) (Nat.le_refl _)))
  have B : Below w.heap.size w wb0 := (below_and B (Nat.le_refl _) hb0).trans (grown_below hg0 (below_and B (Nat.le_refl _) hb0).size (fun k hk => by cases hk; exact Nat.le_refl _))
  have hC := Nat.le_trans hC (Nat.le_trans hb0.size hg0.size)
  clear hG hI rai rbi hb0 hg0
  have hI := (t3.mv mov_vote B.size (Mv.below B))
  have cI := ra.cell (j := 7) rfl
  have hG := cvotesS_any wb0 _ _ hI (hz.2)
  go_upto_region 3 with (first
    | (go_at_call 45; refine hG.mono ?_; rintro e wa1 ⟨v1, rfl, f1, hb1⟩; have rai := ra.below hb1)
    | (refine wl_set rfl _ _ _ rfl w.heap.size 7 _ rfl rfl _ _ rai (show 7 < 8 by decide) (by kernel_rfl) f1.one ?_; intro wb1 rbi hg1))
  have ra : Row wb1 w.heap.size 39 [.int .i64 x.1, .int .i64 x.2.1.1, .int .i64 x.2.1.2, .int .i64 x.2.2.1.1, .int .i64 x.2.2.1.2.1, a0, b0, v1] := rbi.out
  have rr := (rr.below hb1).grown hg1 (fun h => by injection h; omega)
  have fa0 := ((fa0.mv (Mv.belowF hb1 (Nat.le_refl _))).mv (Mv.from hg1 (by omega) (Nat.le_refl _)))
  have fb0 := ((fb0.mv (Mv.belowF hb1 (Nat.le_refl _))).mv (Mv.from hg1 (by omega) (Nat.le_refl _)))
  have f1 := ((f1.mv mov_vote (Nat.le_refl _) (Mv.weak (L := w.heap.size + 2) hC)).mv mov_vote hg1.size (Mv.from hg1 (by omega) (Nat.le_refl _)))
  have B : Below w.heap.size w wb1 := (below_and B (Nat.le_refl _) hb1).trans (grown_below hg1 (below_and B (Nat.le_refl _) hb1).size (fun k hk => by cases hk; exact Nat.le_refl _))
  have hC := Nat.le_trans hC (Nat.le_trans hb1.size hg1.size)
  clear hG hI rai rbi hb1 hg1 cI
  have hone : ∀ v ∈ [.int .i64 x.1, .int .i64 x.2.1.1, .int .i64 x.2.1.2, .int .i64 x.2.2.1.1, .int .i64 x.2.2.1.2.1, a0, b0, v1], v.oneCell' = true := by
    intro v hv
    have k_fa0 := fa0.one; have k_fb0 := fb0.one; have k_f1 := f1.one
    simp only [List.mem_cons, List.not_mem_nil, or_false] at hv
    rcases hv with rfl | rfl | rfl | rfl | rfl | rfl | rfl | rfl <;> first | rfl | assumption
  go_wp2_with (first
    | (refine wl_load rfl _ _ rfl w.heap.size rfl _ _ ra _ Try.underlying39 rfl (by kernel_rfl) ?_)
    | (refine wl_store rfl _ _ _ rfl (w.heap.size + 1) [.int .i64 x.1, .int .i64 x.2.1.1, .int .i64 x.2.1.2, .int .i64 x.2.2.1.1, .int .i64 x.2.2.1.2.1, a0, b0, v1] rfl rfl _ _ rr rfl (by kernel_rfl) hone ?_; intro w9 rr9 hg9))
  have B9 : Below w.heap.size w w9 := B.trans (grown_below hg9 B.size (fun k hk => by cases hk; omega))
  have fa0 := ((fa0.mv (Mv.from hg9 (by omega) (Nat.le_refl _))).mv (Mv.weak (L := w.heap.size) (by omega)))
  have fb0 := ((fb0.mv (Mv.from hg9 (by omega) (Nat.le_refl _))).mv (Mv.weak (L := w.heap.size) (by omega)))
  have f1 := ((f1.mv mov_vote hg9.size (Mv.from hg9 (by omega) (Nat.le_refl _))).mv mov_vote (Nat.le_refl _) (Mv.weak (L := w.heap.size) (by omega)))
  refine bodyPost_ret (v := .agg ([.int .i64 x.1, .int .i64 x.2.1.1, .int .i64 x.2.1.2, .int .i64 x.2.2.1.1, .int .i64 x.2.2.1.2.1, a0, b0, v1] : List Value).toArray) (results_cell_row rfl _ _ (w.heap.size + 1) _ _ (0, 0) _ (by rfl) rr9.out Try.underlying39 rfl (by kernel_rfl)) rfl ?_
  exact ⟨_, rfl, ⟨_, _, _, rfl, fa0, fb0, f1⟩, B9⟩
end
section
open Go.RowKit Oct Kvl
def szSl (x : PSl) : Prop := szQ x.vote ∧ szQ x.prep ∧ szL 32 szV x.cert ∧ szQ x.done ∧ szL 32 szV x.votes
theorem szQ_0 : szQ q0 := ⟨Nat.zero_le _, Nat.zero_le _⟩
theorem szVs_0 : szL 32 szV [] := ⟨Nat.zero_le _, fun y h => by cases h⟩
theorem szSl_0 : szSl s0 := ⟨szQ_0, szQ_0, szVs_0, szQ_0, szVs_0⟩
def RSl (G : Nat → Prop) (w : World) (r : List Value) (x : PSl) : Prop :=
  ∃ o1 g1 o2 g2 c1 o3 g3 v1, r = [.int .i64 x.voted.1, .int .i64 x.voted.2, .int .i64 x.vote.1, .int .i64 x.vote.2.1, o1, g1, .int .i64 x.pred.1, .int .i64 x.pred.2, .int .i64 x.prep.1, .int .i64 x.prep.2.1, o2, g2, c1, .int .i64 x.done.1, .int .i64 x.done.2.1, o3, g3, .int .i64 x.bal.1, .int .i64 x.bal.2, v1, .bool x.hv, .bool x.hp, .bool x.hd] ∧
    RT G w o1 x.vote.2.2.1 ∧ RT G w g1 x.vote.2.2.2 ∧ RT G w o2 x.prep.2.2.1 ∧ RT G w g2 x.prep.2.2.2 ∧ RL RVote 2 G w c1 x.cert ∧ RT G w o3 x.done.2.2.1 ∧ RT G w g3 x.done.2.2.2 ∧ RL RVote 2 G w v1 x.votes
theorem mov_sl : Mov RSl := fun _ _ _ _ _ _ h hs hm => by
  obtain ⟨o1, g1, o2, g2, c1, o3, g3, v1, e, t1, t2, t3, t4, t5, t6, t7, t8⟩ := h
  exact ⟨o1, g1, o2, g2, c1, o3, g3, v1, e, t1.mv hm, t2.mv hm, t3.mv hm, t4.mv hm, t5.mv mov_vote hs hm, t6.mv hm, t7.mv hm, t8.mv mov_vote hs hm⟩
theorem RSl.zero (G : Nat → Prop) (w : World) : RSl G w zSl s0 :=
  ⟨_, _, _, _, _, _, _, _, rfl, RT.nil _ _, RT.nil _ _, RT.nil _ _, RT.nil _ _, RL.nil _ _ _ _, RT.nil _ _, RT.nil _ _, RL.nil _ _ _ _⟩
theorem RSl.len {G : Nat → Prop} {w : World} {r : List Value} {x : PSl} (h : RSl G w r x) : r.length = 23 := by
  obtain ⟨o1, g1, o2, g2, c1, o3, g3, v1, rfl, _⟩ := h
  rfl
theorem one_RSl {G : Nat → Prop} {w : World} {r : List Value} {x : PSl} (h : RSl G w r x) : ∀ v ∈ r, v.oneCell' = true := by
  obtain ⟨o1, g1, o2, g2, c1, o3, g3, v1, rfl, t1, t2, t3, t4, t5, t6, t7, t8⟩ := h
  intro v hv
  have k1 := t1.one; have k2 := t2.one; have k3 := t3.one; have k4 := t4.one; have k5 := t5.one; have k6 := t6.one; have k7 := t7.one; have k8 := t8.one
  simp only [List.mem_cons, List.not_mem_nil, or_false] at hv
  rcases hv with rfl | rfl | rfl | rfl | rfl | rfl | rfl | rfl | rfl | rfl | rfl | rfl | rfl | rfl | rfl | rfl | rfl | rfl | rfl | rfl | rfl | rfl | rfl <;> first | rfl | assumption
set_option maxRecDepth 10000 in
set_option maxHeartbeats 8000000 in
theorem cloneSlotS_any (w : World) (r : List Value) (x : PSl) (h : RSl Any w r x) (hz : szSl x) :
    Calls Try.prog 34 #[.agg r.toArray] w fun e w' => ∃ r', e = .returned (.agg r'.toArray) ∧ RSl (From w.heap.size) w' r' x ∧ Below w.heap.size w w' := by
  obtain ⟨o1, g1, o2, g2, c1, o3, g3, v1, rfl, t1, t2, t3, t4, t5, t6, t7, t8⟩ := h
  obtain ⟨w2, hw2⟩ : ∃ w2, w2 = (w.alloc (.cells #[.int .i64 x.voted.1, .int .i64 x.voted.2, .int .i64 x.vote.1, .int .i64 x.vote.2.1, o1, g1, .int .i64 x.pred.1, .int .i64 x.pred.2, .int .i64 x.prep.1, .int .i64 x.prep.2.1, o2, g2, c1, .int .i64 x.done.1, .int .i64 x.done.2.1, o3, g3, .int .i64 x.bal.1, .int .i64 x.bal.2, v1, .bool x.hv, .bool x.hp, .bool x.hd] 33)).alloc (.cells #[.int .i64 0, .int .i64 0, .int .i64 0, .int .i64 0, .slice none 0 0, .slice none 0 0, .int .i64 0, .int .i64 0, .int .i64 0, .int .i64 0, .slice none 0 0, .slice none 0 0, .slice none 0 0, .int .i64 0, .int .i64 0, .slice none 0 0, .slice none 0 0, .int .i64 0, .int .i64 0, .slice none 0 0, .bool false, .bool false, .bool false] 33) := ⟨_, rfl⟩
  have ra : Row w2 w.heap.size 33 [.int .i64 x.voted.1, .int .i64 x.voted.2, .int .i64 x.vote.1, .int .i64 x.vote.2.1, o1, g1, .int .i64 x.pred.1, .int .i64 x.pred.2, .int .i64 x.prep.1, .int .i64 x.prep.2.1, o2, g2, c1, .int .i64 x.done.1, .int .i64 x.done.2.1, o3, g3, .int .i64 x.bal.1, .int .i64 x.bal.2, v1, .bool x.hv, .bool x.hp, .bool x.hd] := by rw [hw2]; exact rowA (Row.new w 33 _) _
  have rr : Row w2 (w.heap.size + 1) 33 [.int .i64 0, .int .i64 0, .int .i64 0, .int .i64 0, .slice none 0 0, .slice none 0 0, .int .i64 0, .int .i64 0, .int .i64 0, .int .i64 0, .slice none 0 0, .slice none 0 0, .slice none 0 0, .int .i64 0, .int .i64 0, .slice none 0 0, .slice none 0 0, .int .i64 0, .int .i64 0, .slice none 0 0, .bool false, .bool false, .bool false] := by
    have h1 : (w.alloc (.cells #[.int .i64 x.voted.1, .int .i64 x.voted.2, .int .i64 x.vote.1, .int .i64 x.vote.2.1, o1, g1, .int .i64 x.pred.1, .int .i64 x.pred.2, .int .i64 x.prep.1, .int .i64 x.prep.2.1, o2, g2, c1, .int .i64 x.done.1, .int .i64 x.done.2.1, o3, g3, .int .i64 x.bal.1, .int .i64 x.bal.2, v1, .bool x.hv, .bool x.hp, .bool x.hd] 33)).heap.size = w.heap.size + 1 := by simp
    rw [hw2, ← h1]
    exact Row.new (w.alloc (.cells #[.int .i64 x.voted.1, .int .i64 x.voted.2, .int .i64 x.vote.1, .int .i64 x.vote.2.1, o1, g1, .int .i64 x.pred.1, .int .i64 x.pred.2, .int .i64 x.prep.1, .int .i64 x.prep.2.1, o2, g2, c1, .int .i64 x.done.1, .int .i64 x.done.2.1, o3, g3, .int .i64 x.bal.1, .int .i64 x.bal.2, v1, .bool x.hv, .bool x.hp, .bool x.hd] 33)) 33 [.int .i64 0, .int .i64 0, .int .i64 0, .int .i64 0, .slice none 0 0, .slice none 0 0, .int .i64 0, .int .i64 0, .int .i64 0, .int .i64 0, .slice none 0 0, .slice none 0 0, .slice none 0 0, .int .i64 0, .int .i64 0, .slice none 0 0, .slice none 0 0, .int .i64 0, .int .i64 0, .slice none 0 0, .bool false, .bool false, .bool false]
  have B : Below w.heap.size w w2 := by rw [hw2]; exact ((Below.refl _ w).alloc (Nat.le_refl _) _).alloc (by simp) _
  have hC : w.heap.size + 2 ≤ w2.heap.size := by rw [hw2]; simp
  go_enter Try.func34, Try.ntmps34
  go_upto_region 1 with fail
  rw [← hw2]
  clear hw2
  have hI : RReq Any w2 [.int .i64 x.vote.1, .int .i64 x.vote.2.1, o1, g1] (x.vote) := ⟨_, _, rfl, t1.mv (Mv.below B), t2.mv (Mv.below B)⟩
  have hG := cloneReqS_any w2 _ _ hI hz.1
  have hrng : World.rangeAt w2 w.heap.size 2 [.int .i64 x.vote.1, .int .i64 x.vote.2.1, o1, g1] := fun q u hq => ra.cell (j := 2 + q) (by
    match q, hq with
    | 0, hq => exact hq
    | 1, hq => exact hq
    | 2, hq => exact hq
    | 3, hq => exact hq)
  go_upto_region 2 with (first
    | (refine wpList_load_mid rfl _ _ rfl w.heap.size 2 rfl [.int .i64 x.vote.1, .int .i64 x.vote.2.1, o1, g1] _ hrng Try.underlying30 rfl (by kernel_rfl) ?_)
    | (go_at_call 42; refine hG.mono ?_; rintro e wa0 ⟨rq0, rfl, hq0, hb0⟩; obtain ⟨a0, b0, rfl, fa0, fb0⟩ := hq0; have rai := ra.below hb0)
    | (refine wl_put rfl _ _ _ rfl w.heap.size 2 [.int .i64 x.vote.1, .int .i64 x.vote.2.1, a0, b0] rfl rfl _ _ rai (show 6 ≤ 23 by decide) (by kernel_rfl) (one4 fa0.one fb0.one) ?_; intro wb0 rbi hg0))
  clear hrng
  have ra : Row wb0 w.heap.size 33 [.int .i64 x.voted.1, .int .i64 x.voted.2, .int .i64 x.vote.1, .int .i64 x.vote.2.1, a0, b0, .int .i64 x.pred.1, .int .i64 x.pred.2, .int .i64 x.prep.1, .int .i64 x.prep.2.1, o2, g2, c1, .int .i64 x.done.1, .int .i64 x.done.2.1, o3, g3, .int .i64 x.bal.1, .int .i64 x.bal.2, v1, .bool x.hv, .bool x.hp, .bool x.hd] := rbi.out
  have rr := (rr.below hb0).grown hg0 (fun h => by injection h; omega)
  have fa0 := ((fa0.mv (Mv.weak (L := w.heap.size + 2) hC)).mv (Mv.from hg0 (by omega) (Nat.le_refl _)))
  have fb0 := ((fb0.mv (Mv.weak (L := w.heap.size + 2) hC)).mv (Mv.from hg0 (by omega) (Nat.le_refl _)))
  have B : Below w.heap.size w wb0 := (below_and B (Nat.le_refl _) hb0).trans (grown_below hg0 (below_and B (Nat.le_refl _) hb0).size (fun k hk => by cases hk; exact Nat.le_refl _))
  have hC := Nat.le_trans hC (Nat.le_trans hb0.size hg0.size)
  clear hG hI rai rbi hb0 hg0
  have hI : RReq Any wb0 [.int .i64 x.prep.1, .int .i64 x.prep.2.1, o2, g2] (x.prep) := ⟨_, _, rfl, t3.mv (Mv.below B), t4.mv (Mv.below B)⟩
  have hG := cloneReqS_any wb0 _ _ hI hz.2.1
  have hrng : World.rangeAt wb0 w.heap.size 8 [.int .i64 x.prep.1, .int .i64 x.prep.2.1, o2, g2] := fun q u hq => ra.cell (j := 8 + q) (by
    match q, hq with
    | 0, hq => exact hq
    | 1, hq => exact hq
    | 2, hq => exact hq
    | 3, hq => exact hq)
  go_upto_region 3 with (first
    | (refine wpList_load_mid rfl _ _ rfl w.heap.size 8 rfl [.int .i64 x.prep.1, .int .i64 x.prep.2.1, o2, g2] _ hrng Try.underlying30 rfl (by kernel_rfl) ?_)
    | (go_at_call 42; refine hG.mono ?_; rintro e wa1 ⟨rq1, rfl, hq1, hb1⟩; obtain ⟨a1, b1, rfl, fa1, fb1⟩ := hq1; have rai := ra.below hb1)
    | (refine wl_put rfl _ _ _ rfl w.heap.size 8 [.int .i64 x.prep.1, .int .i64 x.prep.2.1, a1, b1] rfl rfl _ _ rai (show 12 ≤ 23 by decide) (by kernel_rfl) (one4 fa1.one fb1.one) ?_; intro wb1 rbi hg1))
  clear hrng
  have ra : Row wb1 w.heap.size 33 [.int .i64 x.voted.1, .int .i64 x.voted.2, .int .i64 x.vote.1, .int .i64 x.vote.2.1, a0, b0, .int .i64 x.pred.1, .int .i64 x.pred.2, .int .i64 x.prep.1, .int .i64 x.prep.2.1, a1, b1, c1, .int .i64 x.done.1, .int .i64 x.done.2.1, o3, g3, .int .i64 x.bal.1, .int .i64 x.bal.2, v1, .bool x.hv, .bool x.hp, .bool x.hd] := rbi.out
  have rr := (rr.below hb1).grown hg1 (fun h => by injection h; omega)
  have fa0 := ((fa0.mv (Mv.belowF hb1 (Nat.le_refl _))).mv (Mv.from hg1 (by omega) (Nat.le_refl _)))
  have fb0 := ((fb0.mv (Mv.belowF hb1 (Nat.le_refl _))).mv (Mv.from hg1 (by omega) (Nat.le_refl _)))
  have fa1 := ((fa1.mv (Mv.weak (L := w.heap.size + 2) hC)).mv (Mv.from hg1 (by omega) (Nat.le_refl _)))
  have fb1 := ((fb1.mv (Mv.weak (L := w.heap.size + 2) hC)).mv (Mv.from hg1 (by omega) (Nat.le_refl _)))
  have B : Below w.heap.size w wb1 := (below_and B (Nat.le_refl _) hb1).trans (grown_below hg1 (below_and B (Nat.le_refl _) hb1).size (fun k hk => by cases hk; exact Nat.le_refl _))
  have hC := Nat.le_trans hC (Nat.le_trans hb1.size hg1.size)
  clear hG hI rai rbi hb1 hg1
  have hI := (t5.mv mov_vote B.size (Mv.below B))
  have cI := ra.cell (j := 12) rfl
  have hG := cvotesS_any wb1 _ _ hI (hz.2.2.1)
  go_upto_region 4 with (first
    | (go_at_call 45; refine hG.mono ?_; rintro e wa2 ⟨v2, rfl, f2, hb2⟩; have rai := ra.below hb2)
    | (refine wl_set rfl _ _ _ rfl w.heap.size 12 _ rfl rfl _ _ rai (show 12 < 23 by decide) (by kernel_rfl) f2.one ?_; intro wb2 rbi hg2))
  have ra : Row wb2 w.heap.size 33 [.int .i64 x.voted.1, .int .i64 x.voted.2, .int .i64 x.vote.1, .int .i64 x.vote.2.1, a0, b0, .int .i64 x.pred.1, .int .i64 x.pred.2, .int .i64 x.prep.1, .int .i64 x.prep.2.1, a1, b1, v2, .int .i64 x.done.1, .int .i64 x.done.2.1, o3, g3, .int .i64 x.bal.1, .int .i64 x.bal.2, v1, .bool x.hv, .bool x.hp, .bool x.hd] := rbi.out
  have rr := (rr.below hb2).grown hg2 (fun h => by injection h; omega)
  have fa0 := ((fa0.mv (Mv.belowF hb2 (Nat.le_refl _))).mv (Mv.from hg2 (by omega) (Nat.le_refl _)))
  have fb0 := ((fb0.mv (Mv.belowF hb2 (Nat.le_refl _))).mv (Mv.from hg2 (by omega) (Nat.le_refl _)))
  have fa1 := ((fa1.mv (Mv.belowF hb2 (Nat.le_refl _))).mv (Mv.from hg2 (by omega) (Nat.le_refl _)))
  have fb1 := ((fb1.mv (Mv.belowF hb2 (Nat.le_refl _))).mv (Mv.from hg2 (by omega) (Nat.le_refl _)))
  have f2 := ((f2.mv mov_vote (Nat.le_refl _) (Mv.weak (L := w.heap.size + 2) hC)).mv mov_vote hg2.size (Mv.from hg2 (by omega) (Nat.le_refl _)))
  have B : Below w.heap.size w wb2 := (below_and B (Nat.le_refl _) hb2).trans (grown_below hg2 (below_and B (Nat.le_refl _) hb2).size (fun k hk => by cases hk; exact Nat.le_refl _))
  have hC := Nat.le_trans hC (Nat.le_trans hb2.size hg2.size)
  clear hG hI rai rbi hb2 hg2 cI
  have hI : RReq Any wb2 [.int .i64 x.done.1, .int .i64 x.done.2.1, o3, g3] (x.done) := ⟨_, _, rfl, t6.mv (Mv.below B), t7.mv (Mv.below B)⟩
  have hG := cloneReqS_any wb2 _ _ hI hz.2.2.2.1
  have hrng : World.rangeAt wb2 w.heap.size 13 [.int .i64 x.done.1, .int .i64 x.done.2.1, o3, g3] := fun q u hq => ra.cell (j := 13 + q) (by
    match q, hq with
    | 0, hq => exact hq
    | 1, hq => exact hq
    | 2, hq => exact hq
    | 3, hq => exact hq)
  go_upto_region 5 with (first
    | (refine wpList_load_mid rfl _ _ rfl w.heap.size 13 rfl [.int .i64 x.done.1, .int .i64 x.done.2.1, o3, g3] _ hrng Try.underlying30 rfl (by kernel_rfl) ?_)
    | (go_at_call 42; refine hG.mono ?_; rintro e wa3 ⟨rq3, rfl, hq3, hb3⟩; obtain ⟨a3, b3, rfl, fa3, fb3⟩ := hq3; have rai := ra.below hb3)
    | (refine wl_put rfl _ _ _ rfl w.heap.size 13 [.int .i64 x.done.1, .int .i64 x.done.2.1, a3, b3] rfl rfl _ _ rai (show 17 ≤ 23 by decide) (by kernel_rfl) (one4 fa3.one fb3.one) ?_; intro wb3 rbi hg3))
  clear hrng
  have ra : Row wb3 w.heap.size 33 [.int .i64 x.voted.1, .int .i64 x.voted.2, .int .i64 x.vote.1, .int .i64 x.vote.2.1, a0, b0, .int .i64 x.pred.1, .int .i64 x.pred.2, .int .i64 x.prep.1, .int .i64 x.prep.2.1, a1, b1, v2, .int .i64 x.done.1, .int .i64 x.done.2.1, a3, b3, .int .i64 x.bal.1, .int .i64 x.bal.2, v1, .bool x.hv, .bool x.hp, .bool x.hd] := rbi.out
  have rr := (rr.below hb3).grown hg3 (fun h => by injection h; omega)
  have fa0 := ((fa0.mv (Mv.belowF hb3 (Nat.le_refl _))).mv (Mv.from hg3 (by omega) (Nat.le_refl _)))
  have fb0 := ((fb0.mv (Mv.belowF hb3 (Nat.le_refl _))).mv (Mv.from hg3 (by omega) (Nat.le_refl _)))
  have fa1 := ((fa1.mv (Mv.belowF hb3 (Nat.le_refl _))).mv (Mv.from hg3 (by omega) (Nat.le_refl _)))
  have fb1 := ((fb1.mv (Mv.belowF hb3 (Nat.le_refl _))).mv (Mv.from hg3 (by omega) (Nat.le_refl _)))
  have f2 := ((f2.mv mov_vote hb3.size (Mv.belowF hb3 (Nat.le_refl _))).mv mov_vote hg3.size (Mv.from hg3 (by omega) (Nat.le_refl _)))
  have fa3 := ((fa3.mv (Mv.weak (L := w.heap.size + 2) hC)).mv (Mv.from hg3 (by omega) (Nat.le_refl _)))
  have fb3 := ((fb3.mv (Mv.weak (L := w.heap.size + 2) hC)).mv (Mv.from hg3 (by omega) (Nat.le_refl _)))
  have B : Below w.heap.size w wb3 := (below_and B (Nat.le_refl _) hb3).trans (grown_below hg3 (below_and B (Nat.le_refl _) hb3).size (fun k hk => by cases hk; exact Nat.le_refl _))
  have hC := Nat.le_trans hC (Nat.le_trans hb3.size hg3.size)
  clear hG hI rai rbi hb3 hg3
  have hI := (t8.mv mov_vote B.size (Mv.below B))
  have cI := ra.cell (j := 19) rfl
  have hG := cvotesS_any wb3 _ _ hI (hz.2.2.2.2)
  go_upto_region 6 with (first
    | (go_at_call 45; refine hG.mono ?_; rintro e wa4 ⟨v4, rfl, f4, hb4⟩; have rai := ra.below hb4)
    | (refine wl_set rfl _ _ _ rfl w.heap.size 19 _ rfl rfl _ _ rai (show 19 < 23 by decide) (by kernel_rfl) f4.one ?_; intro wb4 rbi hg4))
  have ra : Row wb4 w.heap.size 33 [.int .i64 x.voted.1, .int .i64 x.voted.2, .int .i64 x.vote.1, .int .i64 x.vote.2.1, a0, b0, .int .i64 x.pred.1, .int .i64 x.pred.2, .int .i64 x.prep.1, .int .i64 x.prep.2.1, a1, b1, v2, .int .i64 x.done.1, .int .i64 x.done.2.1, a3, b3, .int .i64 x.bal.1, .int .i64 x.bal.2, v4, .bool x.hv, .bool x.hp, .bool x.hd] := rbi.out
  have rr := (rr.below hb4).grown hg4 (fun h => by injection h; omega)
  have fa0 := ((fa0.mv (Mv.belowF hb4 (Nat.le_refl _))).mv (Mv.from hg4 (by omega) (Nat.le_refl _)))
  have fb0 := ((fb0.mv (Mv.belowF hb4 (Nat.le_refl _))).mv (Mv.from hg4 (by omega) (Nat.le_refl _)))
  have fa1 := ((fa1.mv (Mv.belowF hb4 (Nat.le_refl _))).mv (Mv.from hg4 (by omega) (Nat.le_refl _)))
  have fb1 := ((fb1.mv (Mv.belowF hb4 (Nat.le_refl _))).mv (Mv.from hg4 (by omega) (Nat.le_refl _)))
  have f2 := ((f2.mv mov_vote hb4.size (Mv.belowF hb4 (Nat.le_refl _))).mv mov_vote hg4.size (Mv.from hg4 (by omega) (Nat.le_refl _)))
  have fa3 := ((fa3.mv (Mv.belowF hb4 (Nat.le_refl _))).mv (Mv.from hg4 (by omega) (Nat.le_refl _)))
  have fb3 := ((fb3.mv (Mv.belowF hb4 (Nat.le_refl _))).mv (Mv.from hg4 (by omega) (Nat.le_refl _)))
  have f4 := ((f4.mv mov_vote (Nat.le_refl _) (Mv.weak (L := w.heap.size + 2) hC)).mv mov_vote hg4.size (Mv.from hg4 (by omega) (Nat.le_refl _)))
  have B : Below w.heap.size w wb4 := (below_and B (Nat.le_refl _) hb4).trans (grown_below hg4 (below_and B (Nat.le_refl _) hb4).size (fun k hk => by cases hk; exact Nat.le_refl _))
  have hC := Nat.le_trans hC (Nat.le_trans hb4.size hg4.size)
  clear hG hI rai rbi hb4 hg4 cI
  have hone : ∀ v ∈ [.int .i64 x.voted.1, .int .i64 x.voted.2, .int .i64 x.vote.1, .int .i64 x.vote.2.1, a0, b0, .int .i64 x.pred.1, .int .i64 x.pred.2, .int .i64 x.prep.1, .int .i64 x.prep.2.1, a1, b1, v2, .int .i64 x.done.1, .int .i64 x.done.2.1, a3, b3, .int .i64 x.bal.1, .int .i64 x.bal.2, v4, .bool x.hv, .bool x.hp, .bool x.hd], v.oneCell' = true := by
    intro v hv
    have k_fa0 := fa0.one; have k_fb0 := fb0.one; have k_fa1 := fa1.one; have k_fb1 := fb1.one; have k_f2 := f2.one; have k_fa3 := fa3.one; have k_fb3 := fb3.one; have k_f4 := f4.one
    simp only [List.mem_cons, List.not_mem_nil, or_false] at hv
    rcases hv with rfl | rfl | rfl | rfl | rfl | rfl | rfl | rfl | rfl | rfl | rfl | rfl | rfl | rfl | rfl | rfl | rfl | rfl | rfl | rfl | rfl | rfl | rfl <;> first | rfl | assumption
  go_wp2_with (first
    | (refine wl_load rfl _ _ rfl w.heap.size rfl _ _ ra _ Try.underlying33 rfl (by kernel_rfl) ?_)
    | (refine wl_store rfl _ _ _ rfl (w.heap.size + 1) [.int .i64 x.voted.1, .int .i64 x.voted.2, .int .i64 x.vote.1, .int .i64 x.vote.2.1, a0, b0, .int .i64 x.pred.1, .int .i64 x.pred.2, .int .i64 x.prep.1, .int .i64 x.prep.2.1, a1, b1, v2, .int .i64 x.done.1, .int .i64 x.done.2.1, a3, b3, .int .i64 x.bal.1, .int .i64 x.bal.2, v4, .bool x.hv, .bool x.hp, .bool x.hd] rfl rfl _ _ rr rfl (by kernel_rfl) hone ?_; intro w9 rr9 hg9))
  have B9 : Below w.heap.size w w9 := B.trans (grown_below hg9 B.size (fun k hk => by cases hk; omega))
  have fa0 := ((fa0.mv (Mv.from hg9 (by omega) (Nat.le_refl _))).mv (Mv.weak (L := w.heap.size) (by omega)))
  have fb0 := ((fb0.mv (Mv.from hg9 (by omega) (Nat.le_refl _))).mv (Mv.weak (L := w.heap.size) (by omega)))
  have fa1 := ((fa1.mv (Mv.from hg9 (by omega) (Nat.le_refl _))).mv (Mv.weak (L := w.heap.size) (by omega)))
  have fb1 := ((fb1.mv (Mv.from hg9 (by omega) (Nat.le_refl _))).mv (Mv.weak (L := w.heap.size) (by omega)))
  have f2 := ((f2.mv mov_vote hg9.size (Mv.from hg9 (by omega) (Nat.le_refl _))).mv mov_vote (Nat.le_refl _) (Mv.weak (L := w.heap.size) (by omega)))
  have fa3 := ((fa3.mv (Mv.from hg9 (by omega) (Nat.le_refl _))).mv (Mv.weak (L := w.heap.size) (by omega)))
  have fb3 := ((fb3.mv (Mv.from hg9 (by omega) (Nat.le_refl _))).mv (Mv.weak (L := w.heap.size) (by omega)))
  have f4 := ((f4.mv mov_vote hg9.size (Mv.from hg9 (by omega) (Nat.le_refl _))).mv mov_vote (Nat.le_refl _) (Mv.weak (L := w.heap.size) (by omega)))
  refine bodyPost_ret (v := .agg ([.int .i64 x.voted.1, .int .i64 x.voted.2, .int .i64 x.vote.1, .int .i64 x.vote.2.1, a0, b0, .int .i64 x.pred.1, .int .i64 x.pred.2, .int .i64 x.prep.1, .int .i64 x.prep.2.1, a1, b1, v2, .int .i64 x.done.1, .int .i64 x.done.2.1, a3, b3, .int .i64 x.bal.1, .int .i64 x.bal.2, v4, .bool x.hv, .bool x.hp, .bool x.hd] : List Value).toArray) (results_cell_row rfl _ _ (w.heap.size + 1) _ _ (0, 0) _ (by rfl) rr9.out Try.underlying33 rfl (by kernel_rfl)) rfl ?_
  exact ⟨_, rfl, ⟨_, _, _, _, _, _, _, _, rfl, fa0, fb0, fa1, fb1, f2, fa3, fb3, f4⟩, B9⟩
end
end Go.Proofs.Ytjloehkolnjnhaa
