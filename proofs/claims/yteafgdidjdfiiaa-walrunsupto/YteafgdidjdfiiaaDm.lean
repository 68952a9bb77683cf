/- Disks in memory: what each method does. -/
import Derived.Test.YteafgdidjdfiiaaCl
import Derived.Test.YteafgdidjdfiiaaDk
set_option linter.unusedVariables false
set_option linter.unusedSimpArgs false
namespace Go.Proofs.Yteafgdidjdfiiaa
open Go.RowKit Oct

/-- A disk's six cells. -/
def dkc (v : Value) (d : PDk) : List Value := [v, .int .i64 d.room, .bool d.dead, .bool d.due, .int .i64 d.wr, .int .i64 d.te]
/-- A disk at block b, its bytes in v. -/
structure Dsk (w : World) (b : Nat) (v : Value) (d : PDk) : Prop where
  row : Row w b 67 (dkc v d)
  own : Own w 5 v (bc d.l)
  ok : OkD d
theorem own_row_nD {w : World} {e t : TypeId} {b : Nat} {xs ys : List Value} {v : Value} (hr : Row w b t xs) (h : Own w e v ys) (he : e ≠ t) : v.ownBlock ≠ some b := by
  intro hk
  rcases h.2 with ⟨rfl, _⟩ | ⟨g, _, cur, rfl, _, hg, _⟩
  · simp [Value.ownBlock] at hk
  · simp [Value.ownBlock] at hk
    subst hk
    unfold Row at hr
    rw [hg] at hr
    simp at hr
    exact he hr.2
theorem Dsk.ne {w : World} {b : Nat} {v : Value} {d : PDk} (h : Dsk w b v d) : v.ownBlock ≠ some b := own_row_nD h.row h.own (by decide)
theorem Dsk.nu {w : World} {b : Nat} {v u : Value} {d : PDk} {xs : List Value} (h : Dsk w b v d) (ho : Own w 5 u xs) : u.ownBlock ≠ some b := own_row_nD h.row ho (by decide)
theorem Dsk.below {w w' : World} {b : Nat} {v : Value} {d : PDk} (h : Dsk w b v d) (hb : Below w.heap.size w w') : Dsk w' b v d := ⟨h.row.below hb, h.own.below hb, h.ok⟩
theorem Dsk.grown {w w' : World} {b : Nat} {v : Value} {d : PDk} {r : Option Nat} (h : Dsk w b v d) (hg : w.grownBy w' r) (hr : r ≠ some b) (hv : ∀ k, r = some k → v.ownBlock ≠ some k) : Dsk w' b v d := ⟨h.row.grown hg hr, h.own.grown hg hv, h.ok⟩
theorem Dsk.lt {w : World} {b : Nat} {v : Value} {d : PDk} (h : Dsk w b v d) : b < w.heap.size := h.row.lt
/-- Of what was there only the disk's block and its bytes' may have turned. -/
structure Gr2 (w w' : World) (b : Nat) (v : Value) : Prop where
  os : w'.os = w.os
  tape : w'.tape = w.tape
  output : w'.output = w.output
  size : w.heap.size ≤ w'.heap.size
  block : ∀ k, k < w.heap.size → k ≠ b → v.ownBlock ≠ some k → w'.heap[k]? = w.heap[k]?
theorem Gr2.refl (w : World) (b : Nat) (v : Value) : Gr2 w w b v := ⟨rfl, rfl, rfl, Nat.le_refl _, fun _ _ _ _ => rfl⟩
theorem Gr2.of {w w' : World} {b : Nat} {v : Value} (h : w.grownBy w' (some b)) : Gr2 w w' b v := ⟨h.os, h.tape, h.output, h.size, fun k hk hne _ => h.block k hk (fun e => hne (by injection e))⟩
theorem Gr2.ofv {w w' : World} {b : Nat} {v : Value} (h : w.grownBy w' v.ownBlock) : Gr2 w w' b v := ⟨h.os, h.tape, h.output, h.size, fun k hk _ hv => h.block k hk (fun e => hv e.symm)⟩
theorem Gr2.bel {w w' : World} {b : Nat} {v : Value} (h : Below w.heap.size w w') : Gr2 w w' b v := ⟨h.os, h.tape, h.output, h.size, fun k hk _ _ => h.block k hk⟩
/-- Where the new bytes lie. -/
def Spt (w : World) (v v' : Value) : Prop := v'.ownBlock = v.ownBlock ∨ Fr w.heap.size v'
theorem Gr2.trans {w w1 w2 : World} {b : Nat} {v v1 : Value} (h : Gr2 w w1 b v) (hs : Spt w v v1) (h' : Gr2 w1 w2 b v1) : Gr2 w w2 b v :=
  ⟨h'.os.trans h.os, h'.tape.trans h.tape, h'.output.trans h.output, Nat.le_trans h.size h'.size, fun k hk hne hv => by
    refine (h'.block k (Nat.lt_of_lt_of_le hk h.size) hne ?_).trans (h.block k hk hne hv)
    rcases hs with e | hf
    · rw [e]; exact hv
    · intro e
      have := hf k e
      omega⟩
theorem Gr2.below {w w' : World} {b B : Nat} {v : Value} (h : Gr2 w w' b v) (hB : B ≤ w.heap.size) (hb : B ≤ b) (hv : Fr B v) : Below B w w' :=
  ⟨h.os, h.tape, h.output, h.size, fun k hk => h.block k (by omega) (by omega) (fun e => by have := hv k e; omega)⟩
theorem Gr2.rd {w w' : World} {b : Nat} {v u : Value} {l : List Int} (h : Gr2 w w' b v) (hr : Rd w u l) (hb : l ≠ [] → u.ownBlock ≠ some b) (hv : l ≠ [] → ∀ k, v.ownBlock = some k → u.ownBlock ≠ some k) : Rd w' u l :=
  ⟨hr.1, hr.2.keep fun hx k hk hlt => by
    have hx : l ≠ [] := fun e => hx (by rw [e]; rfl)
    exact h.block k hlt (fun e => hb hx (by rw [hk, e])) (fun e => hv hx k e hk)⟩
theorem Gr2.own {w w' : World} {b : Nat} {v u : Value} {e : TypeId} {xs : List Value} (h : Gr2 w w' b v) (hr : Own w e u xs) (hb : u.ownBlock ≠ some b) (hv : ∀ k, v.ownBlock = some k → u.ownBlock ≠ some k) : Own w' e u xs := by
  obtain ⟨h1, h2⟩ := hr
  refine ⟨h1, ?_⟩
  rcases h2 with h2 | ⟨g, cap, cur, rfl, h3, hg, h4⟩
  · exact .inl h2
  · refine .inr ⟨g, cap, cur, rfl, h3, ?_, h4⟩
    rw [h.block g ((Array.getElem?_eq_some_iff.1 hg).1) (fun e => hb (by rw [← e]; rfl)) (fun e => hv g e rfl)]
    exact hg
theorem Gr2.row {w w' : World} {b c : Nat} {v : Value} {t : TypeId} {xs : List Value} (h : Gr2 w w' b v) (hr : Row w c t xs) (hb : c ≠ b) (hv : v.ownBlock ≠ some c) : Row w' c t xs := (h.block c hr.lt hb hv).trans hr

theorem within_any (w : World) (n m : Int) : Calls Try.prog 34 #[.int .i64 n, .int .i64 m] w fun e w' => e = .returned (.int .i64 (wit n m)) ∧ w' = w := by
  obtain ⟨q, hq⟩ : ∃ q, q = wit n m := ⟨_, rfl⟩
  rw [← hq]
  unfold wit at hq
  go_enter Try.func34, Try.ntmps34
  go_wp2_with fail
  all_goals (
    go_ret
    exact ⟨ret_int (by omega), rfl⟩)

set_option maxRecDepth 10000 in
theorem refusal_any (w : World) (b : Nat) (v : Value) (d : PDk) (n : Int) (h : Dsk w b v d) :
    Calls Try.prog 32 #[.pointer (some ⟨b, 0, none⟩), .int .i64 n] w fun e w' => e = .returned (.int .i64 (noD d n)) ∧ w' = w := by
  have c1 := h.row.cell (j := 1) rfl
  have c2 := h.row.cell (j := 2) rfl
  unfold noD
  clear h
  obtain ⟨l, room, dead, due, wr, te⟩ := d
  cases dead with
  | true =>
    go_enter Try.func32, Try.ntmps32
    go_wp2_with fail
    go_ret
    exact ⟨rfl, rfl⟩
  | false =>
    by_cases hr : room < n
    · simp only [if_pos hr]
      go_enter Try.func32, Try.ntmps32
      go_wp2_with fail
      go_ret
      exact ⟨rfl, rfl⟩
    · simp only [if_neg hr]
      go_enter Try.func32, Try.ntmps32
      go_wp2_with fail
      go_ret
      exact ⟨rfl, rfl⟩

set_option maxRecDepth 10000 in
theorem breaks_any (w : World) (b : Nat) (v : Value) (d : PDk) (h : Dsk w b v d) :
    Calls Try.prog 33 #[.pointer (some ⟨b, 0, none⟩)] w fun e w' => e = .returned (.bool (brD d)) ∧ Dsk w' b v (coD d) ∧ w.grownBy w' (some b) := by
  have c3 := h.row.cell (j := 3) rfl
  have c4 := h.row.cell (j := 4) rfl
  have hrow := h.row
  have hco := h.ok.co
  have hne := h.ne
  have how := h.own
  have h0 := h.ok.w0
  have h1 := h.ok.w1
  unfold brD
  unfold coD at *
  obtain ⟨l, room, dead, due, wr, te⟩ := d
  simp only at c3 c4 h0 h1 hrow how
  cases due with
  | false =>
    simp only [Bool.false_eq_true, false_and, if_false, Bool.false_and] at *
    go_enter Try.func33, Try.ntmps33
    go_wp2_with fail
    go_ret
    exact ⟨rfl, h, grown_refl _ _⟩
  | true =>
    by_cases hw : wr = 0
    · subst hw
      simp only [ne_eq, not_true_eq_false, and_false, if_false, Bool.true_and] at *
      go_enter Try.func33, Try.ntmps33
      go_wp2_with fail
      go_ret
      exact ⟨rfl, h, grown_refl _ _⟩
    · have hb : (wr == 0) = false := by simp [hw]
      simp only [ne_eq, hw, not_false_eq_true, and_self, if_true, hb, Bool.true_and] at hco ⊢
      clear h
      go_enter Try.func33, Try.ntmps33
      go_wp2_with (refine wl_set rfl _ _ _ rfl b 4 _ rfl rfl _ _ hrow (show 4 < 6 by decide) (by kernel_rfl) rfl ?_; intro w3 hr3 hg3)
      go_ret
      refine ⟨rfl, ⟨hr3.out, how.grown hg3 (fun k hk => by cases hk; exact hne), hco⟩, hg3⟩

set_option maxRecDepth 10000 in
theorem die_any (w : World) (b : Nat) (v : Value) (d : PDk) (h : Dsk w b v d) :
    Calls Try.prog 35 #[.pointer (some ⟨b, 0, none⟩)] w fun e w' => e = .returned (.int .i64 115) ∧ Dsk w' b v (diD d) ∧ w.grownBy w' (some b) := by
  have hrow := h.row
  have hdi := h.ok.di
  have hne := h.ne
  have how := h.own
  clear h
  obtain ⟨l, room, dead, due, wr, te⟩ := d
  go_enter Try.func35, Try.ntmps35
  go_wp2_with (first
    | (refine wl_put rfl _ _ _ rfl b 3 [.bool false, .int .i64 0, .int .i64 0] rfl rfl _ _ hr3.out (show 6 ≤ 6 by decide) (by kernel_rfl) (by simp [Value.oneCell']) ?_; intro w4 hr4 hg4)
    | (refine wl_set rfl _ _ _ rfl b 2 _ rfl rfl _ _ hrow (show 2 < 6 by decide) (by kernel_rfl) rfl ?_; intro w3 hr3 hg3))
  go_ret
  have hg := grown_trans hg3 hg4 (.inl rfl)
  refine ⟨rfl, ⟨hr4.out, how.grown hg (fun k hk => by cases hk; exact hne), hdi⟩, hg⟩

set_option maxRecDepth 10000 in
theorem mend_any (w : World) (b : Nat) (v : Value) (d : PDk) (h : Dsk w b v d) :
    Calls Try.prog 24 #[.pointer (some ⟨b, 0, none⟩)] w fun e w' => e = .returned (.tuple #[]) ∧ Dsk w' b v (meD d) ∧ w.grownBy w' (some b) := by
  have hrow := h.row
  have hdi := h.ok.me
  have hne := h.ne
  have how := h.own
  clear h
  obtain ⟨l, room, dead, due, wr, te⟩ := d
  go_enter Try.func24, Try.ntmps24
  go_wp2_with (first
    | (refine wl_put rfl _ _ _ rfl b 3 [.bool false, .int .i64 0, .int .i64 0] rfl rfl _ _ hr3.out (show 6 ≤ 6 by decide) (by kernel_rfl) (by simp [Value.oneCell']) ?_; intro w4 hr4 hg4)
    | (refine wl_set rfl _ _ _ rfl b 2 _ rfl rfl _ _ hrow (show 2 < 6 by decide) (by kernel_rfl) rfl ?_; intro w3 hr3 hg3))
  go_end0
  have hg := grown_trans hg3 hg4 (.inl rfl)
  refine ⟨rfl, ⟨hr4.out, how.grown hg (fun k hk => by cases hk; exact hne), hdi⟩, hg⟩

set_option maxRecDepth 10000 in
theorem break_any (w : World) (b : Nat) (v : Value) (d : PDk) (a t : Int) (h : Dsk w b v d) (ha : a ≤ 9223372036854775807) :
    Calls Try.prog 22 #[.pointer (some ⟨b, 0, none⟩), .int .i64 a, .int .i64 t] w fun e w' => e = .returned (.tuple #[]) ∧ Dsk w' b v (bkD d a t) ∧ w.grownBy w' (some b) := by
  have hrow := h.row
  have hdi := h.ok.bk ha t
  have hne := h.ne
  have how := h.own
  clear h ha
  unfold bkD at *
  obtain ⟨l, room, dead, due, wr, te⟩ := d
  by_cases ha : 0 < a
  · rw [Int.max_eq_right (by omega)] at *
    go_enter Try.func22, Try.ntmps22
    go_wp2_with (refine wl_put rfl _ _ _ rfl b 3 [.bool true, .int .i64 a, .int .i64 t] rfl rfl _ _ hrow (show 6 ≤ 6 by decide) (by kernel_rfl) (by simp [Value.oneCell']) ?_; intro w4 hr4 hg4)
    go_end0
    refine ⟨rfl, ⟨hr4.out, how.grown hg4 (fun k hk => by cases hk; exact hne), hdi⟩, hg4⟩
  · rw [Int.max_eq_left (by omega)] at *
    go_enter Try.func22, Try.ntmps22
    go_wp2_with (refine wl_put rfl _ _ _ rfl b 3 [.bool true, .int .i64 0, .int .i64 t] rfl rfl _ _ hrow (show 6 ≤ 6 by decide) (by kernel_rfl) (by simp [Value.oneCell']) ?_; intro w4 hr4 hg4)
    go_end0
    refine ⟨rfl, ⟨hr4.out, how.grown hg4 (fun k hk => by cases hk; exact hne), hdi⟩, hg4⟩

set_option maxRecDepth 10000 in
theorem dead_any (w : World) (b : Nat) (v : Value) (d : PDk) (h : Dsk w b v d) :
    Calls Try.prog 36 #[.pointer (some ⟨b, 0, none⟩)] w fun e w' => e = .returned (.bool d.dead) ∧ w' = w := by
  have c2 := h.row.cell (j := 2) rfl
  clear h
  obtain ⟨l, room, dead, due, wr, te⟩ := d
  go_enter Try.func36, Try.ntmps36
  go_wp2_with fail
  go_ret
  exact ⟨rfl, rfl⟩

set_option maxRecDepth 10000 in
theorem room_any (w : World) (b : Nat) (v : Value) (d : PDk) (n : Int) (h : Dsk w b v d) :
    Calls Try.prog 26 #[.pointer (some ⟨b, 0, none⟩), .int .i64 n] w fun e w' => e = .returned (.tuple #[]) ∧ Dsk w' b v (roD d n) ∧ w.grownBy w' (some b) := by
  have hrow := h.row
  have hdi := h.ok.ro n
  have hne := h.ne
  have how := h.own
  clear h
  unfold roD at *
  obtain ⟨l, room, dead, due, wr, te⟩ := d
  go_enter Try.func26, Try.ntmps26
  go_wp2_with (first
    | (refine wl_set rfl _ _ _ rfl b 1 _ rfl rfl _ _ hrow (show 1 < 6 by decide) (by kernel_rfl) rfl ?_; intro w3 hr3 hg3)
    | (go_at_call 34; refine (within_any w n 4194304).mono ?_; rintro e w0 ⟨rfl, rfl⟩))
  go_end0
  refine ⟨rfl, ⟨hr3.out, how.grown hg3 (fun k hk => by cases hk; exact hne), hdi⟩, hg3⟩

set_option maxRecDepth 10000 in
theorem newD_any (w : World) (n : Int) :
    Calls Try.prog 11 #[.int .i64 n] w fun e w' => ∃ b, e = .returned (.pointer (some ⟨b, 0, none⟩)) ∧ w.heap.size ≤ b ∧ Dsk w' b (.slice none 0 0) (nwD n) ∧ Below w.heap.size w w' := by
  have hB := below_alloc w (.cells (dkc (.slice none 0 0) ⟨[], 0, false, false, 0, 0⟩).toArray 67)
  have hd : Dsk (w.alloc (.cells (dkc (.slice none 0 0) ⟨[], 0, false, false, 0, 0⟩).toArray 67)) w.heap.size (.slice none 0 0) ⟨[], 0, false, false, 0, 0⟩ := ⟨Row.new w 67 _, Own.nil _ _, ⟨Byt.nil, by decide, by decide, by decide, by decide, by decide⟩⟩
  obtain ⟨w1, hw1⟩ : ∃ w1, w1 = w.alloc (.cells (dkc (.slice none 0 0) ⟨[], 0, false, false, 0, 0⟩).toArray 67) := ⟨_, rfl⟩
  rw [← hw1] at hB hd
  have HR := (show Hid (∀ _ : Unit, _) from fun _ => room_any w1 w.heap.size _ _ n hd)
  go_enter Try.func11, Try.ntmps11
  go_upto_region 2 with fail
  have hw1' : w.alloc (.cells #[.slice none 0 0, .int .i64 0, .bool false, .bool false, .int .i64 0, .int .i64 0] 67) = w1 := hw1.symm
  rw [hw1']
  clear hw1 hw1'
  go_wp2_with (go_at_call 26; refine (HR.out ()).mono ?_; rintro e w2 ⟨rfl, hd2, hg2⟩)
  go_ret
  exact ⟨_, rfl, Nat.le_refl _, hd2, hB.trans (grown_below hg2 hB.size (fun k hk => by cases hk; exact Nat.le_refl _))⟩

set_option maxRecDepth 10000 in
theorem bytesD_any (w : World) (b : Nat) (v : Value) (d : PDk) (h : Dsk w b v d) :
    Calls Try.prog 29 #[.pointer (some ⟨b, 0, none⟩)] w fun e w' => ∃ v', e = .returned v' ∧ Own w' 5 v' (bc d.l) ∧ Fr w.heap.size v' ∧ Below w.heap.size w w' := by
  have c0 := h.row.cell (j := 0) rfl
  have hC := clone_own w v d.l (h.own.rd h.ok.byt) (by have := h.ok.len; omega)
  obtain ⟨av, cv, rfl, _⟩ := h.own.form
  rw [bc_len] at *
  have HC := (show Hid (∀ _ : Unit, _) from fun _ => hC)
  clear h hC
  obtain ⟨l, room, dead, due, wr, te⟩ := d
  go_enter Try.func29, Try.ntmps29
  go_wp2_with (go_at_call 42; refine (HC.out ()).mono ?_; rintro e w2 ⟨v2, rfl, ho2, hf2, hb2⟩)
  go_ret
  exact ⟨_, rfl, ho2, hf2, hb2⟩
end Go.Proofs.Yteafgdidjdfiiaa
