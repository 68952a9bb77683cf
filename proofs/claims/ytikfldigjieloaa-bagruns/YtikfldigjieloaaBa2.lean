/- The walks over package bag: New, Len, has, Put, At, Take, Copy. -/
import Derived.Test.YtikfldigjieloaaBa1
set_option linter.unusedVariables false
set_option linter.unusedSimpArgs false
namespace Go.Proofs.Ytikfldigjieloaa
open Go.RowKit Oct Kvl

def pk0 : PPk := (0, 0, [])
/-- Is there such a packet? -/
def hasP (ys : List PPk) (i : Int) : Bool := decide (0 ≤ i) && decide (i < ys.length)
def ptP (ys : List PPk) (x : PPk) : List PPk × Int := if 4096 ≤ ys.length then (ys, 133) else (ys ++ [x], 0)
def atP (ys : List PPk) (i : Int) : PPk × Int := if hasP ys i then (ys.getD i.toNat pk0, 0) else (pk0, 132)
def tkP (ys : List PPk) (i : Int) : List PPk := if hasP ys i then ys.take i.toNat ++ ys.drop (i.toNat + 1) else ys
def cpP (ys : List PPk) (i : Int) : List PPk × Int := if hasP ys i then ptP ys (ys.getD i.toNat pk0) else (ys, 132)
theorem has_nat {ys : List PPk} {i : Int} (h : hasP ys i = true) : ∃ n : Nat, i = (n : Int) ∧ n < ys.length := by
  simp only [hasP, Bool.and_eq_true, decide_eq_true_eq] at h
  exact ⟨i.toNat, by omega, by omega⟩

/-- A bag at block b, its packets in v, their bytes in blocks of which GG holds. -/
structure Bg (GG : Nat → Prop) (w : World) (b : Nat) (v : Value) (ys : List PPk) : Prop where
  row : Row w b 50 [v]
  lst : LPk GG w v ys
  len : ys.length ≤ 4096
  sz : ∀ x ∈ ys, szT x.2.2
theorem Bg.ne {GG : Nat → Prop} {w : World} {b : Nat} {v : Value} {ys : List PPk} (h : Bg GG w b v ys) : v.ownBlock ≠ some b := h.lst.ne h.row (by decide)
theorem Bg.lt {GG : Nat → Prop} {w : World} {b : Nat} {v : Value} {ys : List PPk} (h : Bg GG w b v ys) : b < w.heap.size := h.row.lt
theorem Bg.below {GG : Nat → Prop} {w w' : World} {b : Nat} {v : Value} {ys : List PPk} (h : Bg GG w b v ys) (hb : Below w.heap.size w w') : Bg GG w' b v ys := ⟨h.row.below hb, h.lst.below hb, h.len, h.sz⟩
theorem Bg.weak {GG GG' : Nat → Prop} {w : World} {b : Nat} {v : Value} {ys : List PPk} (h : Bg GG w b v ys) (hm : ∀ k, GG k → k < w.heap.size → GG' k) : Bg GG' w b v ys := ⟨h.row, h.lst.weak hm, h.len, h.sz⟩
/-- Another block is written. -/
theorem Bg.beside {GG : Nat → Prop} {w w' : World} {b k : Nat} {v : Value} {ys : List PPk} (h : Bg GG w b v ys) (hg : w.grownBy w' (some k)) (h1 : k ≠ b) (h2 : v.ownBlock ≠ some k) (h3 : ¬ GG k) : Bg GG w' b v ys :=
  ⟨h.row.grown hg (by simpa using h1), h.lst.mv hg.size (fun j hj => by
    by_cases hl : j < w.heap.size
    · exact hg.block j hl (fun e => h2 (by rw [hj, e]))
    · exact absurd (h.lst.lt j hj) hl) (fun j hj _ hl => ⟨hg.block j hl (fun e => h3 (by injection e with e; rw [← e]; exact hj)), hj⟩), h.len, h.sz⟩
/-- A box of another kind than bytes is written. -/
theorem Bg.box {GG : Nat → Prop} {w w' : World} {b k : Nat} {v : Value} {ys : List PPk} {t : TypeId} {xs : List Value} (h : Bg GG w b v ys) (hr : Row w k t xs) (ht : t ≠ 5) (hg : w.grownBy w' (some k)) (h1 : k ≠ b) (h2 : v.ownBlock ≠ some k) : Bg GG w' b v ys :=
  ⟨h.row.grown hg (by simpa using h1), h.lst.grownB hr ht h2 hg, h.len, h.sz⟩

theorem wrapP {a : Int} (h1 : -9223372036854775808 ≤ a) (h2 : a ≤ 9223372036854775807) : IntKind.i64.wrap a = a := by rw [IntKind.wrap_i64]; omega
theorem bel_drewP (w : World) : Below w.heap.size w w.drew := ⟨rfl, rfl, rfl, Nat.le_refl _, fun _ _ => rfl⟩
theorem newB_any (GG : Nat → Prop) (w : World) : Calls Try.prog 8 #[] w fun e w' => ∃ b, e = .returned (.pointer (some ⟨b, 0, none⟩)) ∧ b = w.heap.size ∧ Bg GG w' b (.slice none 0 0) [] ∧ Below w.heap.size w w' := by
  have hr := Row.new w 50 [.slice none 0 0]
  go_enter Try.func8, Try.ntmps8
  go_wp2_with fail
  go_ret
  exact ⟨w.heap.size, rfl, rfl, ⟨hr, LPk.nil _ _, by simp, fun x hx => by cases hx⟩, below_alloc _ _⟩

theorem lenB_any (GG : Nat → Prop) (w : World) (b : Nat) (v : Value) (ys : List PPk) (h : Bg GG w b v ys) :
    Calls Try.prog 12 #[.pointer (some ⟨b, 0, none⟩)] w fun e w' => e = .returned (.int .i64 (ys.length : Int)) ∧ w' = w := by
  have c0 := h.row.cell (j := 0) rfl
  obtain ⟨ao, cap, rfl, _⟩ := h.lst.form
  clear h
  generalize ys.length = n at *
  go_enter Try.func12, Try.ntmps12
  go_wp2_with fail
  go_ret
  exact ⟨rfl, rfl⟩

set_option maxRecDepth 10000 in
theorem hasB_any (GG : Nat → Prop) (w : World) (b : Nat) (v : Value) (ys : List PPk) (i : Int) (h : Bg GG w b v ys) :
    Calls Try.prog 19 #[.pointer (some ⟨b, 0, none⟩), .int .i64 i] w fun e w' => e = .returned (.bool (hasP ys i)) ∧ w' = w := by
  have hL := lenB_any GG w b v ys h
  unfold hasP
  clear h
  obtain ⟨n, hn⟩ : ∃ n, n = ys.length := ⟨_, rfl⟩
  rw [← hn] at hL ⊢
  clear hn
  by_cases h0 : 0 ≤ i
  · have h0' : decide (0 ≤ i) = true := decide_eq_true h0
    by_cases h1 : i < n
    · have h1' : decide (i < (n : Int)) = true := decide_eq_true h1
      simp only [h0', h1', Bool.and_true]
      go_enter Try.func19, Try.ntmps19
      go_wp2_with (go_at_call 12; refine hL.mono ?_; rintro e w ⟨rfl, rfl⟩)
      go_ret
      exact ⟨rfl, rfl⟩
    · have h1' : decide (i < (n : Int)) = false := decide_eq_false h1
      simp only [h0', h1', Bool.and_false]
      go_enter Try.func19, Try.ntmps19
      go_wp2_with (go_at_call 12; refine hL.mono ?_; rintro e w ⟨rfl, rfl⟩)
      go_ret
      exact ⟨rfl, rfl⟩
  · have h0' : decide (0 ≤ i) = false := decide_eq_false h0
    simp only [h0', Bool.false_and]
    go_enter Try.func19, Try.ntmps19
    go_wp2_with fail
    go_ret
    exact ⟨rfl, rfl⟩

set_option maxRecDepth 10000 in
set_option maxHeartbeats 1000000 in
theorem putB_any (GG : Nat → Prop) (w : World) (b : Nat) (v : Value) (ys : List PPk) (h : Bg GG w b v ys) (hG : ∀ k, w.heap.size ≤ k → GG k) (r : List Value) (x : PPk) (hx : RPk Any w r x) (hz : szT x.2.2) :
    Calls Try.prog 9 #[.pointer (some ⟨b, 0, none⟩), .agg r.toArray] w fun e w' => ∃ v', e = .returned (.int .i64 (ptP ys x).2) ∧ Bg GG w' b v' (ptP ys x).1 ∧ Gr2 w w' b v ∧ Spt w v v' ∧ ((ptP ys x).2 ≠ 0 → Below w.heap.size w w') := by
  obtain ⟨s, rfl, hs⟩ := hx
  obtain ⟨p, q, l⟩ := x
  simp only at hs hz ⊢
  obtain ⟨w0, hw0⟩ : ∃ w0, w0 = w.alloc (.cells #[.int .i64 p, .int .i64 q, s] 29) := ⟨_, rfl⟩
  have ra : Row w0 w.heap.size 29 [.int .i64 p, .int .i64 q, s] := by rw [hw0]; exact Row.new w _ _
  have B0 : Below w.heap.size w w0 := by rw [hw0]; exact below_alloc _ _
  have h0 := h.below B0
  have hL := lenB_any GG w0 b v ys h0
  unfold ptP
  obtain ⟨n, hn⟩ : ∃ n, n = ys.length := ⟨_, rfl⟩
  rw [← hn] at hL
  by_cases hf : 4096 ≤ ys.length
  · rw [if_pos hf]
    have hf' : (4096 : Int) ≤ n := by omega
    have HB := (show Hid (Bg GG w0 b v ys) from h0)
    clear h0 hn
    go_enter Try.func9, Try.ntmps9
    go_upto_region 1 with fail
    rw [← hw0]
    clear hw0
    go_wp2_with (go_at_call 12; refine hL.mono ?_; rintro e w0 ⟨rfl, rfl⟩)
    go_ret
    exact ⟨_, rfl, HB.out, Gr2.bel B0, .inl rfl, fun _ => B0⟩
  rw [if_neg hf]
  have hf' : decide ((4096 : Int) ≤ n) = false := by simp; omega
  have hC := clonePk_any w0.drew _ (p, q, l) ⟨s, rfl, (hs.mv (Mv.below B0)).1.drew, fun _ _ _ => trivial⟩ hz
  have HB := (show Hid (Bg GG w0 b v ys) from h0)
  have HF := (show Hid (ys.length + 1 ≤ 4096) by show _ ≤ _; omega)
  have HG := (show Hid (∀ k, w0.heap.size ≤ k → GG k) from fun k hk => hG k (Nat.le_trans B0.size hk))
  have c0 := h0.row.cell (j := 0) rfl
  have e0 := ra.cell (j := 0) rfl
  have e1 := ra.cell (j := 1) rfl
  have e2 := ra.cell (j := 2) rfl
  obtain ⟨av, cv, hav, hcv⟩ := h0.lst.form
  rw [← hn] at hav
  have HN := (show Hid (n = ys.length) from hn)
  obtain ⟨as', cs', hss, _⟩ := hs.form
  generalize l.length = m at *
  clear h0 hn h hs
  subst hav hss
  go_enter Try.func9, Try.ntmps9
  go_upto_region 1 with fail
  rw [← hw0]
  clear hw0
  go_wp2_with (go_at_call 12; refine hL.mono ?_; rintro e w0 ⟨rfl, rfl⟩)
  go_region_law (first
    | (go_simp; go_at_call 18; refine hC.mono ?_; rintro e w3 ⟨s3, rfl, o3, hb3⟩; obtain ⟨a3, k3, rfl, _⟩ := o3.rt.form; have hb3' : Below w0.heap.size w0 w3 := (bel_drewP w0).trans hb3; have hB3 := HB.out.below hb3'; have c3 := hB3.row.cell (j := 0) rfl; have c3a := (rowA hB3.row (.cells #[.int .i64 p, .int .i64 q, .slice a3 l.length k3] 29)).cell (j := 0) rfl)
    | (refine step_pushS (mov_opk GG) (by rfl) _ _ _ (by rfl) 29 3 40 _ Try.underlying35 Try.infPk rfl (by decide) 0 (.slice av n cv) ys (by rfl) hB3.lst [.int .i64 p, .int .i64 q, .slice a3 l.length k3] (p, q, l) w0.heap.size ⟨_, rfl, o3.mv fun k hk hl => ⟨rfl, hk, HG.out k hk⟩⟩ rfl (onP3 rfl) (Nat.zero_le _) HB.out.lst.lt (by rfl) (Nat.zero_le _) (by have := HF.out; omega) (by decide) ?_; intro v4 w4 hL4 hg4 hS4; obtain ⟨a4, k4, rfl⟩ : ∃ a4 k4, v4 = .slice a4 (ys.length + 1) k4 := (by obtain ⟨a4, k4, e4, _⟩ := LPk.form hL4; exact ⟨a4, k4, by simpa using e4⟩); have hr4 := hB3.row.grown hg4 hB3.ne; have c4 := hr4.cell (j := 0) rfl; have z4 := hr4.frozen 0))
  all_goals (
    have hgs := grown_set w4 b 0 (.slice a4 (ys.length + 1) k4)
    have hr5 := hr4.set 0 (.slice a4 (ys.length + 1) k4)
    have hL5 := LPk.grownR hL4 hr4 (by decide) (by decide) hgs
    generalize w4.setCell ⟨b, 0, none⟩ (.slice a4 (ys.length + 1) k4) = w5 at *
    go_wp2_with fail
    go_ret
    have hB03 : Below w.heap.size w w3 := below_and B0 (Nat.le_refl _) hb3'
    have hS : Spt w (.slice av n cv) (.slice a4 (ys.length + 1) k4) := by
      rcases hS4 with h | h
      · exact .inl h
      · exact .inr (h.mono hB03.size)
    exact ⟨_, rfl, ⟨hr5, hL5, by have := HF.out; simpa using this, fun y hy => by
      rcases List.mem_append.1 hy with hy | hy
      · exact HB.out.sz y hy
      · simp at hy; subst hy; exact hz⟩, (Gr2.bel hB03).trans (.inl rfl) ((Gr2.ofv hg4).trans hS4 (Gr2.of hgs)), hS, fun h => absurd rfl h⟩)

/-- A packet of a bag, in memory. -/
theorem Bg.at {GG : Nat → Prop} {w : World} {b : Nat} {v : Value} {ys : List PPk} (h : Bg GG w b v ys) {n : Nat} (hn : n < ys.length) : ∃ (g cap : Nat) (s : Value), v = .slice (some ⟨g, 0, none⟩) ys.length cap ∧ ys.length ≤ cap ∧ cap ≤ maxLen ∧
    w.rangeAt g (n * 3) [.int .i64 (ys.getD n pk0).1, .int .i64 (ys.getD n pk0).2.1, s] ∧ RT Any w s (ys.getD n pk0).2.2 ∧ szT (ys.getD n pk0).2.2 := by
  obtain ⟨g, cap, cur, rows, e, hrow, hcl, h3, h4, h6, h7, h8, h9⟩ := h.lst.opn (by omega)
  have hy : ys[n]? = some (ys.getD n pk0) := by rw [List.getD, List.getElem?_eq_getElem hn]; rfl
  have hr : n < rows.length := by omega
  obtain ⟨s, er, ho⟩ := h9.get (List.getElem?_eq_getElem hr) hy
  refine ⟨g, cap, s, e, h3, h4, fun j u hj => hrow.cell ?_, (ho.mv fun k hk _ => ⟨rfl, trivial⟩).rt, h.sz _ (List.mem_of_getElem? hy)⟩
  have hj3 : j < 3 := by simpa using (List.getElem?_eq_some_iff.1 hj).1
  have := flat_at (j := j) (v := u) h7 (List.getElem?_eq_getElem hr) (by rw [er]; exact hj)
  rw [← h8, List.getElem?_take, if_pos (by omega)] at this
  exact this

set_option maxRecDepth 10000 in
set_option maxHeartbeats 1000000 in
theorem atB_any (GG : Nat → Prop) (w : World) (b : Nat) (v : Value) (ys : List PPk) (i : Int) (h : Bg GG w b v ys) :
    Calls Try.prog 10 #[.pointer (some ⟨b, 0, none⟩), .int .i64 i] w fun e w' => ∃ s, e = .returned (.tuple #[.agg ([.int .i64 (atP ys i).1.1, .int .i64 (atP ys i).1.2.1, s] : List Value).toArray, .int .i64 (atP ys i).2]) ∧ OT (From w.heap.size) w' s (atP ys i).1.2.2 ∧ Below w.heap.size w w' := by
  have le := Nat.le_refl w.heap.size
  obtain ⟨w0, hw0⟩ : ∃ w0, w0 = w.alloc (.cells #[.int .i64 0, .int .i64 0, .slice none 0 0] 29) := ⟨_, rfl⟩
  have ra : Row w0 w.heap.size 29 [.int .i64 0, .int .i64 0, .slice none 0 0] := by rw [hw0]; exact Row.new w _ _
  have B0 : Below w.heap.size w w0 := by rw [hw0]; exact below_alloc _ _
  have S0 : w.heap.size + 1 ≤ w0.heap.size := by rw [hw0]; simp
  have h0 := h.below B0
  have hH := hasB_any GG w0 b v ys i h0
  unfold atP
  cases hp : hasP ys i with
  | false =>
    rw [hp] at hH
    simp only [Bool.false_eq_true, if_false]
    clear hp h h0 S0
    go_enter Try.func10, Try.ntmps10
    go_upto_region 1 with fail
    rw [← hw0]
    clear hw0
    go_wp2_with (first
      | (go_at_call 19; refine hH.mono ?_; rintro e w0 ⟨rfl, rfl⟩)
      | (refine wl_store rfl _ _ _ rfl w.heap.size [.int .i64 0, .int .i64 0, .slice none 0 0] rfl rfl _ _ ra rfl (by kernel_rfl) (onP3 rfl) ?_; intro w5 hr5 hg5))
    refine bodyPost_ret (results_ctP rfl _ _ w.heap.size _ _ (0, 0) _ (by rfl) hr5.out Try.underlying29 rfl (by kernel_rfl)) rfl ?_
    exact ⟨_, rfl, OT.nil _ _, B0.trans (grown_below hg5 B0.size (fun k hk => by cases hk; exact le))⟩
  | true =>
    rw [hp] at hH
    simp only [if_true]
    obtain ⟨n, rfl, hn⟩ := has_nat hp
    obtain ⟨g, cap, s, rfl, hc1, hc2, hrng, hs, hz⟩ := h0.at hn
    rw [Int.toNat_natCast]
    have c0 := h0.row.cell (j := 0) rfl
    generalize ys.getD n pk0 = x at *
    obtain ⟨p, q, l⟩ := x
    simp only at hs hz hrng ⊢
    have hC := clonePk_any w0 _ (p, q, l) ⟨s, rfl, hs⟩ hz
    have hni : (n : Int) < (ys.length : Int) := by omega
    obtain ⟨as', cs', rfl, _⟩ := hs.form
    clear hp h h0 hs
    go_enter Try.func10, Try.ntmps10
    go_upto_region 1 with fail
    rw [← hw0]
    clear hw0
    go_wp2_with (first
      | (go_at_call 19; refine hH.mono ?_; rintro e w0 ⟨rfl, rfl⟩)
      | (refine wpList_load_mid rfl _ _ rfl g (n * 3) (by simp [Act.eval, Act.put]) [.int .i64 p, .int .i64 q, .slice as' l.length cs'] _ hrng Try.underlying29 rfl (by kernel_rfl) ?_)
      | (go_at_call 18; refine hC.mono ?_; rintro e w3 ⟨s3, rfl, o3, hb3⟩; have ra3 := ra.below hb3)
      | (refine wl_store rfl _ _ _ rfl w.heap.size [.int .i64 p, .int .i64 q, s3] rfl rfl _ _ ra3 rfl (by kernel_rfl) (onP3 o3.one) ?_; intro w5 hr5 hg5))
    refine bodyPost_ret (results_ctP rfl _ _ w.heap.size _ _ (0, 0) _ (by rfl) hr5.out Try.underlying29 rfl (by kernel_rfl)) rfl ?_
    have hB3 := below_and B0 le hb3
    exact ⟨_, rfl, o3.mv (Mv.from (L := w.heap.size) hg5 (by omega) (by omega)), hB3.trans (grown_below hg5 hB3.size (fun k hk => by cases hk; exact le))⟩

set_option maxRecDepth 10000 in
set_option maxHeartbeats 1000000 in
theorem copyB_any (GG : Nat → Prop) (w : World) (b : Nat) (v : Value) (ys : List PPk) (i : Int) (h : Bg GG w b v ys) (hG : ∀ k, w.heap.size ≤ k → GG k) :
    Calls Try.prog 11 #[.pointer (some ⟨b, 0, none⟩), .int .i64 i] w fun e w' => ∃ v', e = .returned (.int .i64 (cpP ys i).2) ∧ Bg GG w' b v' (cpP ys i).1 ∧ Gr2 w w' b v ∧ Spt w v v' ∧ ((cpP ys i).2 ≠ 0 → Below w.heap.size w w') := by
  have hH := hasB_any GG w b v ys i h
  unfold cpP
  cases hp : hasP ys i with
  | false =>
    rw [hp] at hH
    simp only [Bool.false_eq_true, if_false]
    have HB := (show Hid (Bg GG w b v ys) from h)
    clear hp h
    go_enter Try.func11, Try.ntmps11
    go_wp2_with (go_at_call 19; refine hH.mono ?_; rintro e w ⟨rfl, rfl⟩)
    go_ret
    exact ⟨_, rfl, HB.out, Gr2.refl _ _ _, .inl rfl, fun _ => Below.refl _ _⟩
  | true =>
    rw [hp] at hH
    simp only [if_true]
    obtain ⟨n, rfl, hn⟩ := has_nat hp
    have HB := (show Hid (Bg GG w b v ys) from h)
    obtain ⟨g, cap, s, rfl, hc1, hc2, hrng, hs, hz⟩ := h.at hn
    rw [Int.toNat_natCast]
    have c0 := h.row.cell (j := 0) rfl
    generalize ys.getD n pk0 = x at *
    obtain ⟨p, q, l⟩ := x
    simp only at hs hz hrng ⊢
    have hC := putB_any GG w b _ ys h hG _ (p, q, l) ⟨s, rfl, hs⟩ hz
    have hni : (n : Int) < (ys.length : Int) := by omega
    obtain ⟨as', cs', rfl, _⟩ := hs.form
    generalize ptP ys (p, q, l) = z at *
    clear hp h hs
    go_enter Try.func11, Try.ntmps11
    go_wp2_with (first
      | (go_at_call 19; refine hH.mono ?_; rintro e w ⟨rfl, rfl⟩)
      | (refine wpList_load_mid rfl _ _ rfl g (n * 3) (by simp [Act.eval, Act.put]) [.int .i64 p, .int .i64 q, .slice as' l.length cs'] _ hrng Try.underlying29 rfl (by kernel_rfl) ?_)
      | (go_at_call 9; refine hC.mono ?_; rintro e w3 ⟨v3, rfl, hb3, hg3, hs3, hn3⟩))
    go_ret
    exact ⟨_, rfl, hb3, hg3, hs3, hn3⟩

set_option maxRecDepth 10000 in
set_option maxHeartbeats 1000000 in
theorem takeB_any (GG : Nat → Prop) (w : World) (b : Nat) (v : Value) (ys : List PPk) (i : Int) (h : Bg GG w b v ys) :
    Calls Try.prog 15 #[.pointer (some ⟨b, 0, none⟩), .int .i64 i] w fun e w' => ∃ s v', e = .returned (.tuple #[.agg ([.int .i64 (atP ys i).1.1, .int .i64 (atP ys i).1.2.1, s] : List Value).toArray, .int .i64 (atP ys i).2]) ∧ OT (From w.heap.size) w' s (atP ys i).1.2.2 ∧ Bg GG w' b v' (tkP ys i) ∧ Gr2 w w' b v ∧ Spt w v v' := by
  have le := Nat.le_refl w.heap.size
  obtain ⟨w0, hw0⟩ : ∃ w0, w0 = w.alloc (.cells #[.int .i64 0, .int .i64 0, .slice none 0 0] 29) := ⟨_, rfl⟩
  have ra : Row w0 w.heap.size 29 [.int .i64 0, .int .i64 0, .slice none 0 0] := by rw [hw0]; exact Row.new w _ _
  have B0 : Below w.heap.size w w0 := by rw [hw0]; exact below_alloc _ _
  have S0 : w.heap.size + 1 ≤ w0.heap.size := by rw [hw0]; simp
  have hbw := h.lt
  have hvw := h.lst.lt
  have h0 := h.below B0
  have hA := atB_any GG w0 b v ys i h0
  unfold tkP
  cases hp : hasP ys i with
  | false =>
    have hx : atP ys i = (pk0, 132) := by unfold atP; rw [hp]; rfl
    rw [hx] at hA ⊢
    simp only [Bool.false_eq_true, if_false]
    have HB := (show Hid (Bg GG w0 b v ys) from h0)
    clear hx hp h h0
    have hpk : (pk0 : PPk) = (0, 0, []) := rfl
    rw [hpk] at hA ⊢
    clear hpk
    simp only at hA ⊢
    go_enter Try.func15, Try.ntmps15
    go_upto_region 1 with fail
    rw [← hw0]
    clear hw0
    go_upto_region 2 with (first
      | (go_at_call 10; refine hA.mono ?_; rintro e w3 ⟨s3, rfl, o3, hb3⟩; have ra3 := ra.below hb3; have rn := Row.new w3 29 [.int .i64 0, .int .i64 0, .slice none 0 0])
      | (refine wl_store rfl _ _ _ rfl w3.heap.size [.int .i64 0, .int .i64 0, s3] rfl rfl _ _ rn rfl (by kernel_rfl) (onP3 o3.one) ?_; intro w4 hr4 hg4))
    have hb34 : Below w3.heap.size w3 w4 := (below_alloc w3 (.cells ([.int .i64 0, .int .i64 0, .slice none 0 0] : List Value).toArray 29)).trans (grown_below hg4 (by simp) (fun k hk => by cases hk; exact Nat.le_refl _))
    have rn4 := hr4.out
    have ra4 := ra3.below hb34
    clear rn hg4 hr4
    go_wp2_with (first
      | (refine wl_load rfl _ _ rfl w3.heap.size rfl _ _ rn4 _ Try.underlying29 rfl (by kernel_rfl) ?_)
      | (refine wl_store rfl _ _ _ rfl w.heap.size [.int .i64 0, .int .i64 0, s3] rfl rfl _ _ ra4 rfl (by kernel_rfl) (onP3 o3.one) ?_; intro w5 hr5 hg5))
    refine bodyPost_ret (results_ctP rfl _ _ w.heap.size _ _ (0, 0) _ (by rfl) hr5.out Try.underlying29 rfl (by kernel_rfl)) rfl ?_
    have hB3 := below_and B0 le hb3
    have hB4 := below_and hB3 le hb34
    exact ⟨_, _, rfl, (o3.mv (Mv.belowG hb34)).mv (Mv.from (L := w.heap.size) hg5 (by omega) (by omega)), ((HB.out.below hb3).below hb34).box ra4 (by decide) hg5 (by omega) (fun e => by have := hvw _ e; omega), Gr2.bel (hB4.trans (grown_below hg5 hB4.size (fun k hk => by cases hk; exact le))), .inl rfl⟩
  | true =>
    obtain ⟨n, rfl, hn⟩ := has_nat hp
    have hx : atP ys (n : Int) = (ys.getD n pk0, 0) := by unfold atP; rw [hp]; rfl
    rw [hx] at hA ⊢
    simp only [if_true, Int.toNat_natCast]
    have HB := (show Hid (Bg GG w0 b v ys) from h0)
    obtain ⟨g, cap, cur, rows, rfl, hrow, hcl, h3, h4, h6, h7, h8, h9⟩ := h0.lst.opn (by omega)
    have hgw : g < w.heap.size := hvw g rfl
    generalize ys.getD n pk0 = x at *
    obtain ⟨p, q, l⟩ := x
    simp only at hA ⊢
    have HD := (show Hid (∀ u, Row u g 29 cur → Calls Try.prog 20 #[.slice (some ⟨g, 0, none⟩) ys.length cap, .int .i64 (n : Int), .int .i64 ((n : Int) + 1)] u fun e w' =>
      e = .returned (.slice (some ⟨g, 0, none⟩) (ys.length - 1) cap) ∧ u.grownBy w' (some g) ∧ ∃ cur', Row w' g 29 cur' ∧ cur'.length = cap * 3 ∧ cur'.take ((ys.length - 1) * 3) = rows.flatten.take (n * 3) ++ rows.flatten.drop ((n + 1) * 3)) from fun u hu =>
        deleteP_any u g cap ys.length n cur rows.flatten hu hcl (by rw [flat_len h7, h6]) h8 hn h3 h4 h0.len (fun z hz => by
          obtain ⟨r, hr, hzr⟩ := List.mem_flatten.1 hz
          obtain ⟨j, hj, rfl⟩ := List.getElem_of_mem hr
          exact one_OPk (h9.get (List.getElem?_eq_getElem hj) (List.getElem?_eq_getElem (by omega))) z hzr))
    have HF := (show Hid (rows.flatten.take (n * 3) ++ rows.flatten.drop ((n + 1) * 3) = (rows.take n ++ rows.drop (n + 1)).flatten) by
      show _ = _
      rw [flat_take h7 n (by omega), flat_drop h7 (n + 1) (by omega), List.flatten_append])
    have H9 := (show Hid (All2 (OPk GG (fun b => b ≠ g) w0) rows ys) from h9)
    have H6 := (show Hid (rows.length = ys.length) from h6)
    have hni : (n : Int) + 1 ≤ 4096 := by have := h0.len; omega
    have hwn : IntKind.i64.wrap ((n : Int) + 1) = (n : Int) + 1 := wrapP (by omega) (by omega)
    have hsz := h0.sz
    have HLN := (show Hid (ys.length ≤ 4096) from h0.len)
    clear hx hp h h0 h9 h6 h8
    go_enter Try.func15, Try.ntmps15
    go_upto_region 1 with fail
    rw [← hw0]
    clear hw0
    go_upto_region 2 with (first
      | (go_at_call 10; refine hA.mono ?_; rintro e w3 ⟨s3, rfl, o3, hb3⟩; have ra3 := ra.below hb3; have rn := Row.new w3 29 [.int .i64 0, .int .i64 0, .slice none 0 0])
      | (refine wl_store rfl _ _ _ rfl w3.heap.size [.int .i64 p, .int .i64 q, s3] rfl rfl _ _ rn rfl (by kernel_rfl) (onP3 o3.one) ?_; intro w4 hr4 hg4))
    have hb34 : Below w3.heap.size w3 w4 := (below_alloc w3 (.cells ([.int .i64 0, .int .i64 0, .slice none 0 0] : List Value).toArray 29)).trans (grown_below hg4 (by simp) (fun k hk => by cases hk; exact Nat.le_refl _))
    have rn4 := hr4.out
    have ra4 := ra3.below hb34
    have b04 := below_and hb3 (Nat.le_refl _) hb34
    have hB4 := below_and B0 le b04
    have row4 := hrow.below b04
    have bag4 := HB.out.row.below b04
    have c4 := bag4.cell (j := 0) rfl
    clear rn hg4 hr4
    go_wp2_with (first
      | (go_at_call 20; refine (HD.out w4 row4).mono ?_; rintro e w5 ⟨rfl, hg5, cur', hr5, hc5, ht5⟩; have bag5 := bag4.grown hg5 (fun e => by injection e with e; exact HB.out.ne (by rw [← e]; rfl)))
      | (refine wl_set rfl _ _ _ rfl b 0 _ rfl rfl _ _ bag5 (show 0 < 1 by decide) (by kernel_rfl) rfl ?_; intro w6 hr6 hg6; have rn6 := (rn4.grown hg5 (fun e => by injection e with e; have := hb3.size; omega)).grown hg6 (fun e => by injection e with e; have := hb3.size; omega); have ra6 := (ra4.grown hg5 (fun e => by injection e with e; omega)).grown hg6 (fun e => by injection e with e; omega))
      | (refine wl_load rfl _ _ rfl w3.heap.size rfl _ _ rn6 _ Try.underlying29 rfl (by kernel_rfl) ?_)
      | (refine wl_store rfl _ _ _ rfl w.heap.size [.int .i64 p, .int .i64 q, s3] rfl rfl _ _ ra6 rfl (by kernel_rfl) (onP3 o3.one) ?_; intro w7 hr7 hg7))
    refine bodyPost_ret (results_ctP rfl _ _ w.heap.size _ _ (0, 0) _ (by rfl) hr7.out Try.underlying29 rfl (by kernel_rfl)) rfl ?_
    have s03 := hb3.size
    have s34 := hb34.size
    have s45 := hg5.size
    have s56 := hg6.size
    have mv5 : ∀ k, k ≠ g → k < w4.heap.size → w5.heap[k]? = w4.heap[k]? := fun k hk hl => hg5.block k hl (fun e => hk (by injection e))
    have l5 : LPk GG w5 (.slice (some ⟨g, 0, none⟩) (ys.length - 1) cap) (ys.take n ++ ys.drop (n + 1)) := by
      refine LPk.mk hr5 hc5 (by omega) h4 (rows := rows.take n ++ rows.drop (n + 1)) ?_ ?_ (by rw [ht5, HF.out]) (All2.app ((H9.out.take n).mono fun r y hr => ?_) ((H9.out.drop (n + 1)).mono fun r y hr => ?_))
      · have := H6.out; rw [List.length_append, List.length_take, List.length_drop]; omega
      · intro r hr
        rcases List.mem_append.1 hr with hr | hr
        · exact h7 r (List.mem_of_mem_take hr)
        · exact h7 r (List.mem_of_mem_drop hr)
      · exact mov_opk GG _ _ _ _ _ _ hr (by omega) fun k hk hl => ⟨(mv5 k hk (by omega)).trans (b04.block k hl), hk⟩
      · exact mov_opk GG _ _ _ _ _ _ hr (by omega) fun k hk hl => ⟨(mv5 k hk (by omega)).trans (b04.block k hl), hk⟩
    have l6 := l5.grownR bag5 (by decide) (by decide) hg6
    have B6 : Bg GG w6 b (.slice (some ⟨g, 0, none⟩) (ys.length - 1) cap) (ys.take n ++ ys.drop (n + 1)) := ⟨hr6.out, l6, by have := HLN.out; rw [List.length_append, List.length_take, List.length_drop]; omega, fun y hy => by
      rcases List.mem_append.1 hy with hy | hy
      · exact hsz y (List.mem_of_mem_take hy)
      · exact hsz y (List.mem_of_mem_drop hy)⟩
    have hgb : Gr2 w w6 b (.slice (some ⟨g, 0, none⟩) ys.length cap) := (Gr2.bel hB4).trans (.inl rfl) ((Gr2.ofv (b := b) (v := .slice (some ⟨g, 0, none⟩) ys.length cap) hg5).trans (.inl rfl) (Gr2.of hg6))
    refine ⟨_, _, rfl, ?_, B6.box ra6 (by decide) hg7 (by omega) (fun e => by simp [Value.ownBlock] at e; omega), ⟨hg7.os.trans hgb.os, hg7.tape.trans hgb.tape, hg7.output.trans hgb.output, Nat.le_trans hgb.size hg7.size, fun k hk h1 h2 => (hg7.block k (Nat.lt_of_lt_of_le hk hgb.size) (fun e => by injection e with e; omega)).trans (hgb.block k hk h1 h2)⟩, .inl rfl⟩
    have f4 := o3.mv (Mv.belowF (L := w.heap.size + 1) hb34 (by omega))
    have f5 := f4.mv (G' := From (w.heap.size + 1)) fun k hk hl => ⟨mv5 k (by unfold From at hk; omega) hl, hk⟩
    have f6 := f5.mv (G' := From (w.heap.size + 1)) fun k hk hl => ⟨hg6.block k hl (fun e => by injection e with e; unfold From at hk; omega), hk⟩
    exact f6.mv (Mv.from (L := w.heap.size) hg7 (by omega) (by omega))
end Go.Proofs.Ytikfldigjieloaa
