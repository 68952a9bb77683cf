/- The walks over package msg: records and lists written. (Laid by mk5w.py.) -/
import Derived.Test.YtgjepofinpmcpaaGreatDoorCAG
section
namespace Go.Proofs.YtgjepofinpmcpaaGreatDoor
open Go.RowKit Oct

/-- How a call ends that gives up with an Errno. -/
abbrev gave (n : Int) : Ending := .panicked [{ v := .iface 24 (.int .i64 n), recovered := false }]

/-- A writer at block b, behind which so many bytes stand; w0: the world ahead of it. -/
structure WS (w0 w : World) (b : Nat) (done : List Int) : Prop where
  bel : Below w0.heap.size w0 w
  hb : w0.heap.size ≤ b
  st : ∃ v many lo, Row w b 103 [v, .bool many] ∧ Own w 5 v (bc lo) ∧ Byt lo ∧ Fr w0.heap.size v ∧ lo.length ≤ 1048576 ∧ (many = false → lo = done) ∧ (many = true ↔ 1048576 < done.length)

/-- What a writer may turn: itself, and rows of bytes. -/
structure UFr (b : Nat) (w w' : World) : Prop where
  size : w.heap.size ≤ w'.heap.size
  block : ∀ k, k < w.heap.size → k ≠ b → (∀ cs f, w.heap[k]? ≠ some (.cells cs 5 f)) → w'.heap[k]? = w.heap[k]?
theorem UFr.refl (b : Nat) (w : World) : UFr b w w := ⟨Nat.le_refl _, fun _ _ _ _ => rfl⟩
theorem UFr.trans {b : Nat} {w w1 w2 : World} (h : UFr b w w1) (h' : UFr b w1 w2) : UFr b w w2 :=
  ⟨Nat.le_trans h.size h'.size, fun k hk hb hn => by
    have e := h.block k hk hb hn
    rw [h'.block k (Nat.lt_of_lt_of_le hk h.size) hb (by rw [e]; exact hn), e]⟩
theorem UFr.below {b : Nat} {w w' : World} (h : Below w.heap.size w w') : UFr b w w' := ⟨h.size, fun k hk _ _ => h.block k hk⟩
theorem Row.ufr {w w' : World} {b k : Nat} {t : TypeId} {xs : List Value} (h : Row w k t xs) (hu : UFr b w w') (hk : k ≠ b) (ht : t ≠ 5) : Row w' k t xs :=
  (hu.block k h.lt hk (fun cs f e => by unfold Row at h; rw [h] at e; simp at e; exact ht e.2.1)).trans h

theorem own_row_ne {w : World} {b : Nat} {t : TypeId} {e : TypeId} {xs ys : List Value} {v : Value} (h : Row w b t xs) (ho : Own w e v ys) (ht : t ≠ e) : v.ownBlock ≠ some b := by
  intro hk
  rcases ho.2 with ⟨rfl, _⟩ | ⟨g, _, cur, rfl, _, hg, _⟩
  · simp [Value.ownBlock] at hk
  · simp [Value.ownBlock] at hk
    subst hk
    unfold Row at h
    rw [h] at hg
    simp at hg
    exact ht hg.2
theorem own_ufr {w w' : World} {v : Value} {ys : List Value} {r : Option Nat} (b : Nat) (ho : Own w 5 v ys) (hg : w.grownBy w' r) (hr : r = v.ownBlock) : UFr b w w' :=
  ⟨hg.size, fun k hk _ hn => hg.block k hk (fun e => by
    subst hr
    rcases ho.2 with ⟨rfl, _⟩ | ⟨g, _, cur, rfl, _, hg', _⟩
    · simp [Value.ownBlock] at e
    · simp [Value.ownBlock] at e
      subst e
      exact hn _ _ hg')⟩
theorem grown_ufr {w w' : World} {b : Nat} (hg : w.grownBy w' (some b)) : UFr b w w' := ⟨hg.size, fun k hk hb _ => hg.block k hk (fun e => hb (by injection e))⟩

theorem own_one' {w : World} {e : TypeId} {v : Value} {xs : List Value} (h : Own w e v xs) : v.oneCell' = true := by
  obtain ⟨ao, cap, rfl, _⟩ := h.form; rfl
theorem len_nat (n : Nat) (h : (1048576 : Int) < (n : Int)) : 1048576 < n := by omega

set_option maxHeartbeats 400000 in
/-- put. -/
theorem put_any (w0 w : World) (b : Nat) (done : List Int) (p : Value) (lp : List Int) (hW : WS w0 w b done) (hp : Rd w p lp) (hl : lp.length ≤ 4000000) :
    Calls Tryz.prog 91 #[.pointer (some ⟨b, 0, none⟩), p] w fun e w' => e = .returned (.tuple #[]) ∧ WS w0 w' b (done ++ lp) ∧ UFr b w w' := by
  obtain ⟨bel, hb, v, many, lo, hrow, hown, hbyt, hfr, hlo, h1, h2⟩ := hW
  obtain ⟨ao, cap, rfl, hc⟩ := hown.form
  obtain ⟨ap, cp, rfl, hcp⟩ := hp.2.form
  rw [bc_len] at hrow hown hfr hp ⊢
  have c0 := hrow.cell (j := 0) rfl
  have c1 := hrow.cell (j := 1) rfl
  have z0 := hrow.frozen 0
  have z1 := hrow.frozen 1
  cases many with
  | true =>
    have hgr := h2.1 rfl
    go_enter Tryz.func91, Tryz.ntmps91
    go_wp2_with fail
    refine bodyPost_ret (results_none rfl _ _ _) rfl ?_
    have hr1 := hrow.set 1 (.bool true)
    have hg1 := grown_set w b 1 (.bool true)
    have hne := own_row_ne hrow hown (by decide)
    exact ⟨rfl, ⟨bel.trans (grown_below hg1 bel.size (fun k hk => by cases hk; exact hb)), hb, _, true, lo, hr1, hown.grown hg1 (fun k hk => by cases hk; exact hne), hbyt, hfr, hlo, (fun h => by cases h), ⟨fun _ => by rw [List.length_append]; omega, fun _ => rfl⟩⟩, grown_ufr hg1⟩
  | false =>
    have hd : lo = done := h1 rfl
    subst hd
    clear h1
    by_cases hm : (1048576 : Int) - (lo.length : Int) < (lp.length : Int)
    · go_enter Tryz.func91, Tryz.ntmps91
      go_wp2_with fail
      refine bodyPost_ret (results_none rfl _ _ _) rfl ?_
      have hr1 := hrow.set 1 (.bool true)
      have hg1 := grown_set w b 1 (.bool true)
      have hne := own_row_ne hrow hown (by decide)
      exact ⟨rfl, ⟨bel.trans (grown_below hg1 bel.size (fun k hk => by cases hk; exact hb)), hb, _, true, lo, hr1, hown.grown hg1 (fun k hk => by cases hk; exact hne), hbyt, hfr, hlo, (fun h => by cases h), ⟨fun _ => by rw [List.length_append]; omega, fun _ => rfl⟩⟩, grown_ufr hg1⟩
    · have hbp := hp.1
      have hne := own_row_ne hrow hown (by decide)
      go_enter Tryz.func91, Tryz.ntmps91
      go_wp2_with (first
        | (at_builtin; refine app_bytes rfl _ _ rfl _ lo rfl hown _ lp rfl hp.2 (by omega) ?_; intro v1 w1 happ; have hrw := hrow.grown happ.grown hne)
        | (refine wl_set rfl _ _ _ rfl b 0 _ rfl rfl _ _ hrw (show 0 < 2 by decide) (by kernel_rfl) (own_one' happ.own) ?_; intro w2 hr2 hg2))
      go_end0
      have hr2 := hr2.out
      have hne1 := own_row_ne hrw happ.own (by decide)
      have hb1 := bel.trans (happ.below hfr bel.size)
      exact ⟨rfl, ⟨hb1.trans (grown_below hg2 hb1.size (fun k hk => by cases hk; exact hb)), hb, v1, false, lo ++ lp, hr2, happ.own.grown hg2 (fun k hk => by cases hk; exact hne1), hbyt.app hbp, happ.fr hfr bel.size, by rw [List.length_append]; omega, fun _ => rfl,
        ⟨fun h => (by cases h), fun h => by rw [List.length_append] at h; omega⟩⟩, (own_ufr b hown happ.grown rfl).trans (grown_ufr hg2)⟩
end Go.Proofs.YtgjepofinpmcpaaGreatDoor
end

section
namespace Go.Proofs.YtgjepofinpmcpaaGreatDoor
open Go.RowKit Oct

theorem WS.below {w0 w w' : World} {b : Nat} {done : List Int} (h : WS w0 w b done) (hb : Below w.heap.size w w') : WS w0 w' b done := by
  obtain ⟨bel, hb0, v, many, lo, hrow, hown, hbyt, hfr, hlo, h1, h2⟩ := h
  exact ⟨below_and bel (Nat.le_refl _) hb, hb0, v, many, lo, hrow.below hb, hown.below hb, hbyt, hfr, hlo, h1, h2⟩
theorem WS.lt {w0 w : World} {b : Nat} {done : List Int} (h : WS w0 w b done) : b < w.heap.size := by
  obtain ⟨_, _, v, many, lo, hrow, _⟩ := h
  exact hrow.lt

/-- What a call that writes a comes to. -/
def WPost {α : Type} (c : Cdc α) (w0 w : World) (b : Nat) (done : List Int) (a : α) (e : Ending) (w' : World) : Prop :=
  UFr b w w' ∧ Below w0.heap.size w0 w' ∧ ((c.ok a = false ∧ e = .panicked [{ v := .iface 24 (.int .i64 51), recovered := false }]) ∨ (c.ok a = true ∧ e = .returned (.tuple #[]) ∧ WS w0 w' b (done ++ c.wr a)))
theorem WPost.no {α : Type} {c : Cdc α} {w0 w : World} {b : Nat} {done : List Int} {a : α} {w' : World} (hu : UFr b w w') (hb : Below w0.heap.size w0 w') (ho : c.ok a = false) : WPost c w0 w b done a (.panicked [{ v := .iface 24 (.int .i64 51), recovered := false }]) w' :=
  ⟨hu, hb, .inl ⟨ho, rfl⟩⟩
theorem WPost.yes {α : Type} {c : Cdc α} {w0 w : World} {b : Nat} {done : List Int} {a : α} {w' : World} (hu : UFr b w w') (ho : c.ok a = true) (hW : WS w0 w' b (done ++ c.wr a)) : WPost c w0 w b done a (.returned (.tuple #[])) w' :=
  ⟨hu, hW.bel, .inr ⟨ho, rfl, hW⟩⟩

/-- number. -/
theorem wnum_any (w0 w : World) (b : Nat) (done : List Int) (n : Int) (hW : WS w0 w b done) :
    Calls Tryz.prog 57 #[.pointer (some ⟨b, 0, none⟩), .int .i64 n] w (WPost cN w0 w b done n) := by
  have hI := int_any w n
  cases ho : okI n with
  | false =>
    have he : errI n = 14 := by simp [errI, ho]
    rw [he] at hI
    have HO := (show Hid (cN.ok n = false) from ho)
    clear ho
    go_enter Tryz.func57, Tryz.ntmps57
    go_wp2_with (go_at_call 90; refine hI.mono ?_; rintro e w1 ⟨v1, rfl, hown, hfr, hb1⟩)
    exact ⟨rfl, WPost.no (UFr.below hb1) (below_and hW.bel (Nat.le_refl _) hb1) HO.out⟩
  | true =>
    have he : errI n = 0 := by simp [errI, ho]
    rw [he] at hI
    have hbd := okI_bd ho
    have hl : (outI n).length ≤ 10 := by rw [outI_yes hbd.1 hbd.2]; exact (enc_len n).2
    have hbyt := outI_byt n
    have HO := (show Hid (cN.ok n = true) from ho)
    clear ho hbd
    go_enter Tryz.func57, Tryz.ntmps57
    go_wp2_with (first
      | (go_at_call 90; refine hI.mono ?_; rintro e w1 ⟨v1, rfl, hown, hfr, hb1⟩; have hW1 := hW.below hb1)
      | (go_at_call 91; refine (put_any w0 w1 b done v1 (outI n) hW1 (hown.rd hbyt) (by omega)).mono ?_; rintro e w2 ⟨rfl, hW2, hu2⟩))
    go_end0
    exact WPost.yes ((UFr.below hb1).trans hu2) HO.out hW2

theorem cT_wr_len (l : List Int) : (cT.wr l).length ≤ l.length + 10 := by
  have := enc_len (l.length : Int)
  simp only [cT, List.length_append]
  omega
theorem cT_wr_byt {l : List Int} (h : Byt l) (hl : l.length ≤ 2147483647) : Byt (cT.wr l) := (enc_byt _ (by omega) (by omega)).app h

set_option maxHeartbeats 400000 in
/-- text. -/
theorem wtext_any (w0 w : World) (b : Nat) (done : List Int) (p : Value) (lp : List Int) (hW : WS w0 w b done) (hp0 : RT Any w0 p lp) :
    Calls Tryz.prog 94 #[.pointer (some ⟨b, 0, none⟩), p] w (WPost cT w0 w b done lp) := by
  have hp := (hp0.mv (Mv.below hW.bel)).1
  obtain ⟨ap, cp, rfl, hcp⟩ := hp.2.form
  rw [bc_len] at hp ⊢
  by_cases hl : (65536 : Int) < (lp.length : Int)
  · have HO : Hid (cT.ok lp = false) := by show decide _ = false; simp; omega
    go_enter Tryz.func94, Tryz.ntmps94
    go_wp2_with fail
    exact ⟨rfl, WPost.no (UFr.refl _ _) hW.bel HO.out⟩
  · have HO : Hid (cT.ok lp = true) := by show decide _ = true; simp; omega
    obtain ⟨bel, hb, v, many, lo, hrow, hown, hbyt, hfr, hlo, h1, h2⟩ := hW
    have c1 := hrow.cell (j := 1) rfl
    cases many with
    | true =>
      have h3 := h2.1 rfl
      clear h1 h2
      go_enter Tryz.func94, Tryz.ntmps94
      go_wp2_with fail
      go_end0
      exact WPost.yes (UFr.refl _ _) HO.out ⟨bel, hb, v, true, lo, hrow, hown, hbyt, hfr, hlo, (fun h => by cases h), ⟨fun _ => by rw [List.length_append]; omega, fun _ => rfl⟩⟩
    | false =>
      have hW : WS w0 w b done := ⟨bel, hb, v, false, lo, hrow, hown, hbyt, hfr, hlo, h1, h2⟩
      have hB := bytes_any w _ lp hp (by omega)
      have hln := cT_wr_len lp
      have hbt := cT_wr_byt hp.1 (by omega)
      clear h1 h2
      go_enter Tryz.func94, Tryz.ntmps94
      go_wp2_with (first
        | (go_at_call 127; refine hB.mono ?_; rintro e w1 ⟨v1, rfl, hown1, hfr1, hb1⟩; have hW1 := hW.below hb1)
        | (go_at_call 91; refine (put_any w0 w1 b done v1 (cT.wr lp) hW1 (hown1.rd hbt) (by omega)).mono ?_; rintro e w2 ⟨rfl, hW2, hu2⟩))
      go_end0
      exact WPost.yes ((UFr.below hb1).trans hu2) HO.out hW2
end Go.Proofs.YtgjepofinpmcpaaGreatDoor
end

section
set_option linter.unusedSimpArgs false
set_option linter.unusedVariables false
namespace Go.Proofs.YtgjepofinpmcpaaGreatDoor
open Go.RowKit Oct

section
variable {P : Program}
/-- A part of a row is loaded. -/
theorem wl_part {ops : Array Oper} {rest : List Oper} {o : Oper} {a : Act} {w : World} {Q : Exit → Act → World → Prop} (hgd : o.guard = none) (ty : TypeId) (x : Operand) (ho : o.op = .load ty x)
    (b off : Nat) (hx : a.eval x = .pointer (some ⟨b, off, none⟩)) (t : TypeId) (xs : List Value) (h : Row w b t xs) (cs : List Value) (hcs : (xs.drop off).take cs.length = cs) (d : TypeDesc) (hu : P.underlying ty = some d) (hd : d.isRow = true)
    (hi : (P.info? ty).map (·.size) = some cs.length) (k : wpList P ops Q rest (a.put o.dst (.agg cs.toArray)) w) : wpList P ops Q (o :: rest) a w :=
  wpList_load_mid hgd ty x ho b off hx cs d (fun j v hj => by
    have := h.src off cs.length j v (by rw [hcs]; exact hj)
    rw [Addr.add_mid] at this
    exact this) hu hd hi k
end
theorem row_new_ne {w0 w : World} {b : Nat} {done : List Int} (h : WS w0 w b done) : w.heap.size ≠ b := Nat.ne_of_gt h.lt

theorem World.rangeAt.blk {w w' : World} {b o : Nat} {cs : List Value} (h : w.rangeAt b o cs) (e : w'.heap[b]? = w.heap[b]?) : w'.rangeAt b o cs := rangeAt_block h e
theorem one_RVote {G : Nat → Prop} {w : World} {r : List Value} {x : PVote} (h : RVote G w r x) : ∀ v ∈ r, v.oneCell' = true := by
  obtain ⟨s, rfl, h1⟩ := h
  intro v hv
  simp only [List.mem_cons, List.not_mem_nil, or_false] at hv
  rcases hv with rfl | rfl
  · rfl
  · exact h1.one
theorem one_RReq {G : Nat → Prop} {w : World} {r : List Value} {x : PReq} (h : RReq G w r x) : ∀ v ∈ r, v.oneCell' = true := by
  obtain ⟨o, g, rfl, h1, h2⟩ := h
  intro v hv
  simp only [List.mem_cons, List.not_mem_nil, or_false] at hv
  rcases hv with rfl | rfl | rfl | rfl
  · rfl
  · rfl
  · exact h1.one
  · exact h2.one
theorem one_RPrep {G : Nat → Prop} {w : World} {r : List Value} {x : PPrep} (h : RPrep G w r x) : ∀ v ∈ r, v.oneCell' = true := by
  obtain ⟨o, g, c, rfl, h1, h2, h3⟩ := h
  intro v hv
  simp only [List.mem_cons, List.not_mem_nil, or_false] at hv
  rcases hv with rfl | rfl | rfl | rfl | rfl | rfl | rfl | rfl <;> first | rfl | exact h1.one | exact h2.one | exact h3.one
theorem one_RRep {G : Nat → Prop} {w : World} {r : List Value} {x : PRep} (h : RRep G w r x) : ∀ v ∈ r, v.oneCell' = true := by
  obtain ⟨d, s, p, g, rfl, h1, h2, h3, h4⟩ := h
  intro v hv
  simp only [List.mem_cons, List.not_mem_nil, or_false] at hv
  rcases hv with rfl | rfl | rfl | rfl | rfl | rfl | rfl | rfl <;> first | rfl | exact h1.one | exact h2.one | exact h3.one | exact h4.one
theorem no_list {α : Type} {c : Cdc α} {ys : List α} {q : Nat} {a : α} (h : ys[q]? = some a) (ho : c.ok a = false) : (cL c).ok ys = false := by
  have hm := List.mem_of_getElem? h
  simp only [cL, Bool.and_eq_false_iff]
  right
  rw [List.all_eq_false]
  exact ⟨a, hm, by simp [ho]⟩
theorem yes_all {α : Type} {c : Cdc α} {ys : List α} {q : Nat} {a : α} (h : ys[q]? = some a) (ha : (ys.take q).all c.ok = true) (ho : c.ok a = true) : (ys.take (q + 1)).all c.ok = true := by
  rw [take_snoc' ys q a h, List.all_append, ha]
  simp [ho]
theorem wrN_take {α : Type} {c : Cdc α} {ys : List α} {q : Nat} {a : α} (h : ys[q]? = some a) : wrN c (ys.take (q + 1)) = wrN c (ys.take q) ++ c.wr a := by
  rw [take_snoc' ys q a h, wrN_app, wrN_one]
theorem list_ok {α : Type} {c : Cdc α} {ys : List α} (h : ys.length ≤ 64) (ha : ys.all c.ok = true) : (cL c).ok ys = true := by simp [cL, h, ha]
theorem list_no {α : Type} {c : Cdc α} {ys : List α} (h : 64 < ys.length) : (cL c).ok ys = false := by
  simp only [cL, Bool.and_eq_false_iff]
  left
  simp
  omega
theorem list_wr {α : Type} (c : Cdc α) (ys : List α) : (cL c).wr ys = cN.wr (ys.length : Int) ++ wrN c ys := rfl


/-- A ballot's cells. -/
def RBal (r : List Value) (x : PBal) : Prop := r = [.int .i64 x.1, .int .i64 x.2]
set_option maxHeartbeats 400000 in
/-- ballot. -/
theorem wballot_any (w0 w : World) (b : Nat) (done : List Int) (r : List Value) (x : PBal) (hW : WS w0 w b done) (hR : RBal r x) :
    Calls Tryz.prog 92 #[.pointer (some ⟨b, 0, none⟩), .agg r.toArray] w (WPost cBal w0 w b done x) := by
  obtain rfl := hR
  have hr0 := Row.new w 32 [.int .i64 x.1, .int .i64 x.2]
  have hne := row_new_ne hW
  have hW0 := hW.below (below_alloc w (.cells [.int .i64 x.1, .int .i64 x.2].toArray 32))
  have hu0 : UFr b w (w.alloc (.cells [.int .i64 x.1, .int .i64 x.2].toArray 32)) := UFr.below (below_alloc w _)
  go_enter Tryz.func92, Tryz.ntmps92
  go_wp2_with fail
  refine (wnum_any w0 _ b _ x.1 hW0).mono ?_
  rintro e w1 ⟨hu1, hb1, ⟨ho1, rfl⟩ | ⟨ho1, rfl, hW1⟩⟩
  · go_wp2_with fail
    exact ⟨rfl, WPost.no (hu0.trans hu1) hb1 (by simp [cBal, cP, ho1])⟩
  have hr1 := hr0.ufr hu1 hne (by decide)
  have c1 := hr1.cell (j := 1) rfl
  have HO := (show Hid (cN.ok x.1 = true) from ho1)
  clear ho1
  go_wp2_with fail
  refine (wnum_any w0 _ b _ x.2 hW1).mono ?_
  rintro e w2 ⟨hu2, hb2, ⟨ho2, rfl⟩ | ⟨ho2, rfl, hW2⟩⟩
  · go_wp2_with fail
    exact ⟨rfl, WPost.no ((hu0.trans hu1).trans hu2) hb2 (by simp [cBal, cP, ho2])⟩
  go_wp2_with fail
  go_end0
  refine WPost.yes ((hu0.trans hu1).trans hu2) (by simp [cBal, cP, HO.out, ho2]) ?_
  have e : done ++ cBal.wr x = done ++ cN.wr x.1 ++ cN.wr x.2 := by simp [cBal, cP]
  rw [e]
  exact hW2

set_option maxHeartbeats 1000000 in
/-- vote. -/
theorem wvote_any (w0 w : World) (b : Nat) (done : List Int) (r : List Value) (x : PVote) (hW : WS w0 w b done) (hR : RVote Any w0 r x) :
    Calls Tryz.prog 96 #[.pointer (some ⟨b, 0, none⟩), .agg r.toArray] w (WPost cVote w0 w b done x) := by
  obtain ⟨s, rfl, h1⟩ := hR
  have hr0 := Row.new w 58 [.int .i64 x.1, s]
  have hne := row_new_ne hW
  have hW0 := hW.below (below_alloc w (.cells [.int .i64 x.1, s].toArray 58))
  have hu0 : UFr b w (w.alloc (.cells [.int .i64 x.1, s].toArray 58)) := UFr.below (below_alloc w _)
  go_enter Tryz.func96, Tryz.ntmps96
  have c0 := hr0.cell (j := 0) rfl
  go_wp2_with fail
  refine (wnum_any w0 _ b _ x.1 hW0).mono ?_
  rintro e w1 ⟨hu1, hb1, ⟨ho1, rfl⟩ | ⟨ho1, rfl, hW1⟩⟩
  · go_wp2_with fail
    exact ⟨rfl, WPost.no ((hu0).trans hu1) hb1 (by simp [cVote, cP, ho1])⟩
  have hr1 := hr0.ufr hu1 hne (by decide)
  have ho1 := (show Hid (_ = true) from ho1)
  have c1 := hr1.cell (j := 1) rfl
  go_wp2_with fail
  refine (wtext_any w0 _ b _ _ x.2 hW1 h1).mono ?_
  rintro e w2 ⟨hu2, hb2, ⟨ho2, rfl⟩ | ⟨ho2, rfl, hW2⟩⟩
  · go_wp2_with fail
    exact ⟨rfl, WPost.no (((hu0).trans hu1).trans hu2) hb2 (by simp [cVote, cP, ho1, ho2])⟩
  go_wp2_with fail
  go_end0
  refine WPost.yes (((hu0).trans hu1).trans hu2) ?_ ?_
  · simp [cVote, cP, ho1.out, ho2]
  · have e : done ++ (cVote).wr x = done ++ cN.wr x.1 ++ cT.wr x.2 := by simp [cVote, cP]
    rw [e]
    exact hW2
set_option maxHeartbeats 1000000 in
/-- request. -/
theorem wrequest_any (w0 w : World) (b : Nat) (done : List Int) (r : List Value) (x : PReq) (hW : WS w0 w b done) (hR : RReq Any w0 r x) :
    Calls Tryz.prog 93 #[.pointer (some ⟨b, 0, none⟩), .agg r.toArray] w (WPost cReq w0 w b done x) := by
  obtain ⟨vo, vg, rfl, h1, h2⟩ := hR
  have hr0 := Row.new w 34 [.int .i64 x.1, .int .i64 x.2.1, vo, vg]
  have hne := row_new_ne hW
  have hW0 := hW.below (below_alloc w (.cells [.int .i64 x.1, .int .i64 x.2.1, vo, vg].toArray 34))
  have hu0 : UFr b w (w.alloc (.cells [.int .i64 x.1, .int .i64 x.2.1, vo, vg].toArray 34)) := UFr.below (below_alloc w _)
  go_enter Tryz.func93, Tryz.ntmps93
  have c0 := hr0.cell (j := 0) rfl
  go_wp2_with fail
  refine (wnum_any w0 _ b _ x.1 hW0).mono ?_
  rintro e w1 ⟨hu1, hb1, ⟨ho1, rfl⟩ | ⟨ho1, rfl, hW1⟩⟩
  · go_wp2_with fail
    exact ⟨rfl, WPost.no ((hu0).trans hu1) hb1 (by simp [cReq, cP, ho1])⟩
  have hr1 := hr0.ufr hu1 hne (by decide)
  have ho1 := (show Hid (_ = true) from ho1)
  have c1 := hr1.cell (j := 1) rfl
  go_wp2_with fail
  refine (wnum_any w0 _ b _ x.2.1 hW1).mono ?_
  rintro e w2 ⟨hu2, hb2, ⟨ho2, rfl⟩ | ⟨ho2, rfl, hW2⟩⟩
  · go_wp2_with fail
    exact ⟨rfl, WPost.no (((hu0).trans hu1).trans hu2) hb2 (by simp [cReq, cP, ho1, ho2])⟩
  have hr2 := hr1.ufr hu2 hne (by decide)
  have ho2 := (show Hid (_ = true) from ho2)
  have c2 := hr2.cell (j := 2) rfl
  go_wp2_with fail
  refine (wtext_any w0 _ b _ _ x.2.2.1 hW2 h1).mono ?_
  rintro e w3 ⟨hu3, hb3, ⟨ho3, rfl⟩ | ⟨ho3, rfl, hW3⟩⟩
  · go_wp2_with fail
    exact ⟨rfl, WPost.no ((((hu0).trans hu1).trans hu2).trans hu3) hb3 (by simp [cReq, cP, ho1, ho2, ho3])⟩
  have hr3 := hr2.ufr hu3 hne (by decide)
  have ho3 := (show Hid (_ = true) from ho3)
  have c3 := hr3.cell (j := 3) rfl
  go_wp2_with fail
  refine (wtext_any w0 _ b _ _ x.2.2.2 hW3 h2).mono ?_
  rintro e w4 ⟨hu4, hb4, ⟨ho4, rfl⟩ | ⟨ho4, rfl, hW4⟩⟩
  · go_wp2_with fail
    exact ⟨rfl, WPost.no (((((hu0).trans hu1).trans hu2).trans hu3).trans hu4) hb4 (by simp [cReq, cP, ho1, ho2, ho3, ho4])⟩
  go_wp2_with fail
  go_end0
  refine WPost.yes (((((hu0).trans hu1).trans hu2).trans hu3).trans hu4) ?_ ?_
  · simp [cReq, cP, ho1.out, ho2.out, ho3.out, ho4]
  · have e : done ++ (cReq).wr x = done ++ cN.wr x.1 ++ cN.wr x.2.1 ++ cT.wr x.2.2.1 ++ cT.wr x.2.2.2 := by simp [cReq, cP]
    rw [e]
    exact hW4
set_option maxHeartbeats 1000000 in
theorem wvotes_none (w0 w : World) (b : Nat) (done : List Int) (ao : Option Addr) (cap : Nat) (ys : List PVote) (hW : WS w0 w b done) (hl : ys = []) :
    Calls Tryz.prog 95 #[.pointer (some ⟨b, 0, none⟩), .slice ao 0 cap, .func (.func 96) #[.pointer (some ⟨b, 0, none⟩)] #[]] w (WPost (cL cVote) w0 w b done ys) := by
  subst hl
  go_enter Tryz.func95, Tryz.ntmps95
  go_wp2_with fail
  refine (wnum_any w0 _ b _ 0 hW).mono ?_
  rintro e w1 ⟨hu1, hb1, ⟨ho1, rfl⟩ | ⟨ho1, rfl, hW1⟩⟩
  · exact absurd ho1 (by decide)
  go_wp2_with fail
  refine wp_loop_rounds 1 ?_; rw [rounds_succ]
  go_wp2_with fail
  go_end0
  have e : (cL cVote).wr [] = cN.wr 0 := by simp [cL, wrN, cN]
  rw [← e] at hW1
  exact WPost.yes hu1 rfl hW1
set_option maxHeartbeats 1000000 in
theorem wvotes_some (w0 w : World) (b : Nat) (done : List Int) (bb off cap : Nat) (ys : List PVote) (hW : WS w0 w b done) (hl : 0 < ys.length) (h64 : ys.length ≤ 64) (hc : ys.length ≤ cap) (hbb : bb < w0.heap.size)
    (hx : ∀ (i : Nat) (a : PVote), ys[i]? = some a → ∃ r, r.length = 2 ∧ w0.rangeAt bb (off + i * 2) r ∧ RVote Any w0 r a) :
    Calls Tryz.prog 95 #[.pointer (some ⟨b, 0, none⟩), .slice (some ⟨bb, off, none⟩) ys.length cap, .func (.func 96) #[.pointer (some ⟨b, 0, none⟩)] #[]] w (WPost (cL cVote) w0 w b done ys) := by
  go_enter Tryz.func95, Tryz.ntmps95
  go_wp2_with fail
  refine (wnum_any w0 _ b _ (ys.length : Int) hW).mono ?_
  rintro e w1 ⟨hu1, hb1, ⟨ho1, rfl⟩ | ⟨ho1, rfl, hW1⟩⟩
  · exact absurd ho1 (by show ¬ okI _ = false; rw [okI_yes (by omega) (by omega)]; decide)
  clear ho1
  have HX := (show Hid (∀ (i : Nat) (a : PVote), ys[i]? = some a → ∃ r, r.length = 2 ∧ w0.rangeAt bb (off + i * 2) r ∧ RVote Any w0 r a) from hx)
  clear hx
  go_wp2_with fail
  go_loopw [18] (fun i wr => ∃ q : Nat, q ≤ ys.length ∧ i = .int .i64 q ∧ Hid ((ys.take q).all cVote.ok = true) ∧ WS w0 wr b (done ++ cN.wr (ys.length : Int) ++ wrN cVote (ys.take q)) ∧ UFr b w wr) (fun i _ => ys.length - (intOf i).toNat)
  case atStart => exact ⟨0, by omega, rfl, rfl, by simpa [wrN] using hW1, hu1⟩
  case round =>
    obtain ⟨q, hq, rfl, hall, hWr, hur⟩ := hrel
    by_cases hql : q < ys.length
    · obtain ⟨a, ha⟩ : ∃ a, ys[q]? = some a := ⟨_, List.getElem?_eq_getElem hql⟩
      obtain ⟨r, hrl, hrng, hRa⟩ := HX.out q a ha
      have hrng := World.rangeAt.blk hrng (hWr.bel.block bb hbb)
      have HA := (show Hid (ys[q]? = some a) from ha)
      clear ha
      have hb0 := below_alloc wr (.cells ([.int .i64 0, .slice none 0 0] : List Value).toArray 58)
      have hrow0 := Row.new wr 58 [.int .i64 0, .slice none 0 0]
      have hrl' : ([.int .i64 0, .slice none 0 0] : List Value).length = r.length := hrl.symm
      have hr1 : ∀ v ∈ r, v.oneCell' = true := one_RVote hRa
      have hi : (Tryz.prog.info? 58).map (·.size) = some r.length := by rw [hrl]; kernel_rfl
      go_wp2_with (first
        | (refine wpList_load_mid rfl _ _ rfl bb (off + q * 2) rfl r _ hrng Tryz.underlying58 rfl hi ?_)
        | (refine wl_store rfl _ _ _ rfl wr.heap.size r rfl rfl _ _ hrow0 hrl' hi hr1 ?_; intro w2 hrw hg2)
        | (refine wl_load rfl _ _ rfl wr.heap.size rfl _ _ hrw.out _ Tryz.underlying58 rfl hi ?_))
      have hb2 : Below wr.heap.size wr w2 := hb0.trans (grown_below hg2 (by simp) (fun k hk => by cases hk; exact Nat.le_refl _))
      refine (wvote_any w0 _ b _ r a (hWr.below hb2) hRa).mono ?_
      rintro e w3 ⟨hu3, hb3, ⟨ho3, rfl⟩ | ⟨ho3, rfl, hW3⟩⟩
      · go_wp2_with fail
        exact ⟨rfl, WPost.no ((hur.trans (UFr.below hb2)).trans hu3) hb3 (no_list HA.out ho3)⟩
      have HO := (show Hid (cVote.ok a = true) from ho3)
      clear ho3
      go_wp2_with fail
      go_roundw
      case rel => exact ⟨q + 1, by omega, by go_num, yes_all HA.out hall.out HO.out, by rw [wrN_take HA.out, ← List.append_assoc]; exact hW3, (hur.trans (UFr.below hb2)).trans hu3⟩
      case measure => simp [intOf]; omega
    · obtain rfl : q = ys.length := by omega
      have hall := hall.out
      rw [List.take_length] at hall hWr
      have HO := (show Hid ((cL cVote).ok ys = true) from list_ok h64 hall)
      clear hall
      go_wp2_with fail
      go_end0
      exact WPost.yes hur HO.out (by rw [list_wr, ← List.append_assoc]; exact hWr)
/-- putList of PVote. -/
theorem wvotes_any (w0 w : World) (b : Nat) (done : List Int) (v : Value) (ys : List PVote) (hW : WS w0 w b done) (hR : RL RVote 2 Any w0 v ys) :
    Calls Tryz.prog 95 #[.pointer (some ⟨b, 0, none⟩), v, .func (.func 96) #[.pointer (some ⟨b, 0, none⟩)] #[]] w (WPost (cL cVote) w0 w b done ys) := by
  by_cases h64 : (64 : Int) < (ys.length : Int)
  · obtain ⟨ao, cap, rfl, hc⟩ := hR.form
    have HO : Hid ((cL cVote).ok ys = false) := list_no (by omega)
    go_enter Tryz.func95, Tryz.ntmps95
    go_wp2_with fail
    exact ⟨rfl, WPost.no (UFr.refl _ _) hW.bel HO.out⟩
  · by_cases hl : 0 < ys.length
    · obtain ⟨bb, off, cap, rfl, h1, h2, _, h4, h5⟩ := hR.at hl
      exact wvotes_some w0 w b done bb off cap ys hW hl (by omega) h1 h4 h5
    · obtain rfl : ys = [] := List.eq_nil_of_length_eq_zero (by omega)
      obtain ⟨ao, cap, rfl, hc⟩ := hR.form
      exact wvotes_none w0 w b done ao cap [] hW rfl
end Go.Proofs.YtgjepofinpmcpaaGreatDoor
end
