/- The walks over package msg: numbers and texts written. -/
import Derived.Test.YtgbfmccecnfooaaGreatDoorCLAE
namespace Go.Proofs.YtgbfmccecnfooaaGreatDoor
section
open Go.RowKit Oct
/-- A writer at block b, behind which so many bytes stand; w0: the world ahead of it. -/
structure WS (w0 w : World) (b : Nat) (done : List Int) : Prop where
  bel : Below w0.heap.size w0 w
  hb : w0.heap.size ≤ b
  st : ∃ v many lo, Row w b 149 [v, .bool many] ∧ Own w 5 v (bc lo) ∧ Byt lo ∧ Fr w0.heap.size v ∧ lo.length ≤ 1048576 ∧ (many = false → lo = done) ∧ (many = true ↔ 1048576 < done.length)
/-- What a writer may turn: itself, and rows of bytes. -/
structure UFr (b : Nat) (w w' : World) : Prop where
  size : w.heap.size ≤ w'.heap.size
  block : ∀ k, k < w.heap.size → k ≠ b → (∀ cs f, w.heap[k]? ≠ some (.cells cs 5 f)) → w'.heap[k]? = w.heap[k]?
theorem UFr.refl (b : Nat) (w : World) : UFr b w w := ⟨Nat.le_refl _, fun _ _ _ _ => rfl⟩
theorem UFr.trans {b : Nat} {w w1 w2 : World} (h : UFr b w w1) (h' : UFr b w1 w2) : UFr b w w2 :=
  ⟨Nat.le_trans h.size h'.size, fun k hk hb hn => by
    have e := h.block k hk hb hn
    rw [h'.block k (Nat.lt_of_lt_of_le hk h.size) hb (by rw [e]; exact hn), e]⟩
theorem UFr.below {b : Nat} {w w' : World} (h : Below w.heap.size w w') : UFr b w w' := ⟨h.size, fun k hk _ _ => h.block k hk⟩
theorem Row.ufr {w w' : World} {b k : Nat} {t : TypeId} {xs : List Value} (h : Row w k t xs) (hu : UFr b w w') (hk : k ≠ b) (ht : t ≠ 5) : Row w' k t xs :=
  (hu.block k h.lt hk (fun cs f e => by unfold Row at h; rw [h] at e; simp at e; exact ht e.2.1)).trans h
theorem own_row_ne {w : World} {b : Nat} {t : TypeId} {e : TypeId} {xs ys : List Value} {v : Value} (h : Row w b t xs) (ho : Own w e v ys) (ht : t ≠ e) : v.ownBlock ≠ some b := by
  intro hk
  rcases ho.2 with ⟨rfl, _⟩ | ⟨g, _, cur, rfl, _, hg, _⟩
  · simp [Value.ownBlock] at hk
  · simp [Value.ownBlock] at hk
    subst hk
    unfold Row at h
    rw [h] at hg
    simp at hg
    exact ht hg.2
theorem own_ufr {w w' : World} {v : Value} {ys : List Value} {r : Option Nat} (b : Nat) (ho : Own w 5 v ys) (hg : w.grownBy w' r) (hr : r = v.ownBlock) : UFr b w w' :=
  ⟨hg.size, fun k hk _ hn => hg.block k hk (fun e => by
    subst hr
    rcases ho.2 with ⟨rfl, _⟩ | ⟨g, _, cur, rfl, _, hg', _⟩
    · simp [Value.ownBlock] at e
    · simp [Value.ownBlock] at e
      subst e
      exact hn _ _ hg')⟩
theorem grown_ufr {w w' : World} {b : Nat} (hg : w.grownBy w' (some b)) : UFr b w w' := ⟨hg.size, fun k hk hb _ => hg.block k hk (fun e => hb (by injection e))⟩
theorem own_one' {w : World} {e : TypeId} {v : Value} {xs : List Value} (h : Own w e v xs) : v.oneCell' = true := by
  obtain ⟨ao, cap, rfl, _⟩ := h.form; rfl
set_option maxHeartbeats 400000 in
/-- put. -/
theorem put_any (w0 w : World) (b : Nat) (done : List Int) (p : Value) (lp : List Int) (hW : WS w0 w b done) (hp : Rd w p lp) (hl : lp.length ≤ 4000000) :
    Calls Tryz.prog 148 #[.pointer (some ⟨b, 0, none⟩), p] w fun e w' => e = .returned (.tuple #[]) ∧ WS w0 w' b (done ++ lp) ∧ UFr b w w' := by
  obtain ⟨bel, hb, v, many, lo, hrow, hown, hbyt, hfr, hlo, h1, h2⟩ := hW
  obtain ⟨ao, cap, rfl, hc⟩ := hown.form
  obtain ⟨ap, cp, rfl, hcp⟩ := hp.2.form
  rw [bc_len] at hrow hown hfr hp ⊢
  have c0 := hrow.cell (j := 0) rfl
  have c1 := hrow.cell (j := 1) rfl
  have z0 := hrow.frozen 0
  have z1 := hrow.frozen 1
  cases many with
  | true =>
    have hgr := h2.1 rfl
    go_enter Tryz.func148, Tryz.ntmps148
    go_wp2_with fail
    refine bodyPost_ret (results_none rfl _ _ _) rfl ?_
    have hr1 := hrow.set 1 (.bool true)
    have hg1 := grown_set w b 1 (.bool true)
    have hne := own_row_ne hrow hown (by decide)
    exact ⟨rfl, ⟨bel.trans (grown_below hg1 bel.size (fun k hk => by cases hk; exact hb)), hb, _, true, lo, hr1, hown.grown hg1 (fun k hk => by cases hk; exact hne), hbyt, hfr, hlo, (fun h => by cases h), ⟨fun _ => by rw [List.length_append]; omega, fun _ => rfl⟩⟩, grown_ufr hg1⟩
  | false =>
    have hd : lo = done := h1 rfl
    subst hd
    clear h1
    by_cases hm : (1048576 : Int) - (lo.length : Int) < (lp.length : Int)
    · go_enter Tryz.func148, Tryz.ntmps148
      go_wp2_with fail
      refine bodyPost_ret (results_none rfl _ _ _) rfl ?_
      have hr1 := hrow.set 1 (.bool true)
      have hg1 := grown_set w b 1 (.bool true)
      have hne := own_row_ne hrow hown (by decide)
      exact ⟨rfl, ⟨bel.trans (grown_below hg1 bel.size (fun k hk => by cases hk; exact hb)), hb, _, true, lo, hr1, hown.grown hg1 (fun k hk => by cases hk; exact hne), hbyt, hfr, hlo, (fun h => by cases h), ⟨fun _ => by rw [List.length_append]; omega, fun _ => rfl⟩⟩, grown_ufr hg1⟩
    · have hbp := hp.1
      have hne := own_row_ne hrow hown (by decide)
      go_enter Tryz.func148, Tryz.ntmps148
      go_wp2_with (first
        | (at_builtin; refine app_bytes rfl _ _ rfl _ lo rfl hown _ lp rfl hp.2 (by omega) ?_; intro v1 w1 happ; have hrw := hrow.grown happ.grown hne)
        | (refine wl_set rfl _ _ _ rfl b 0 _ rfl rfl _ _ hrw (show 0 < 2 by decide) (by kernel_rfl) (own_one' happ.own) ?_; intro w2 hr2 hg2))
      go_end0
      have hr2 := hr2.out
      have hne1 := own_row_ne hrw happ.own (by decide)
      have hb1 := bel.trans (happ.below hfr bel.size)
      exact ⟨rfl, ⟨hb1.trans (grown_below hg2 hb1.size (fun k hk => by cases hk; exact hb)), hb, v1, false, lo ++ lp, hr2, happ.own.grown hg2 (fun k hk => by cases hk; exact hne1), hbyt.app hbp, happ.fr hfr bel.size, by rw [List.length_append]; omega, fun _ => rfl,
        ⟨fun h => (by cases h), fun h => by rw [List.length_append] at h; omega⟩⟩, (own_ufr b hown happ.grown rfl).trans (grown_ufr hg2)⟩
end
section
open Go.RowKit Oct
theorem WS.below {w0 w w' : World} {b : Nat} {done : List Int} (h : WS w0 w b done) (hb : Below w.heap.size w w') : WS w0 w' b done := by
  obtain ⟨bel, hb0, v, many, lo, hrow, hown, hbyt, hfr, hlo, h1, h2⟩ := h
  exact ⟨below_and bel (Nat.le_refl _) hb, hb0, v, many, lo, hrow.below hb, hown.below hb, hbyt, hfr, hlo, h1, h2⟩
theorem WS.lt {w0 w : World} {b : Nat} {done : List Int} (h : WS w0 w b done) : b < w.heap.size := by
  obtain ⟨_, _, v, many, lo, hrow, _⟩ := h
  exact hrow.lt
/-- What a call that writes a comes to. -/
def WPost {α : Type} (c : Cdc α) (w0 w : World) (b : Nat) (done : List Int) (a : α) (e : Ending) (w' : World) : Prop :=
  UFr b w w' ∧ Below w0.heap.size w0 w' ∧ ((c.ok a = false ∧ e = .panicked [{ v := .iface 99 (.int .i64 51), recovered := false }]) ∨ (c.ok a = true ∧ e = .returned (.tuple #[]) ∧ WS w0 w' b (done ++ c.wr a)))
theorem WPost.no {α : Type} {c : Cdc α} {w0 w : World} {b : Nat} {done : List Int} {a : α} {w' : World} (hu : UFr b w w') (hb : Below w0.heap.size w0 w') (ho : c.ok a = false) : WPost c w0 w b done a (.panicked [{ v := .iface 99 (.int .i64 51), recovered := false }]) w' :=
  ⟨hu, hb, .inl ⟨ho, rfl⟩⟩
theorem WPost.yes {α : Type} {c : Cdc α} {w0 w : World} {b : Nat} {done : List Int} {a : α} {w' : World} (hu : UFr b w w') (ho : c.ok a = true) (hW : WS w0 w' b (done ++ c.wr a)) : WPost c w0 w b done a (.returned (.tuple #[])) w' :=
  ⟨hu, hW.bel, .inr ⟨ho, rfl, hW⟩⟩
/-- number. -/
theorem wnum_any (w0 w : World) (b : Nat) (done : List Int) (n : Int) (hW : WS w0 w b done) :
    Calls Tryz.prog 120 #[.pointer (some ⟨b, 0, none⟩), .int .i64 n] w (WPost cN w0 w b done n) := by
  have hI := int_any w n
  cases ho : okI n with
  | false =>
    have he : errI n = 14 := by simp [errI, ho]
    rw [he] at hI
    have HO := (show Hid (cN.ok n = false) from ho)
    clear ho
    go_enter Tryz.func120, Tryz.ntmps120
    go_wp2_with (go_at_call 147; refine hI.mono ?_; rintro e w1 ⟨v1, rfl, hown, hfr, hb1⟩)
    exact ⟨rfl, WPost.no (UFr.below hb1) (below_and hW.bel (Nat.le_refl _) hb1) HO.out⟩
  | true =>
    have he : errI n = 0 := by simp [errI, ho]
    rw [he] at hI
    have hbd := okI_bd ho
    have hl : (outI n).length ≤ 10 := by rw [outI_yes hbd.1 hbd.2]; exact (enc_len n).2
    have hbyt := outI_byt n
    have HO := (show Hid (cN.ok n = true) from ho)
    clear ho hbd
    go_enter Tryz.func120, Tryz.ntmps120
    go_wp2_with (first
      | (go_at_call 147; refine hI.mono ?_; rintro e w1 ⟨v1, rfl, hown, hfr, hb1⟩; have hW1 := hW.below hb1)
      | (go_at_call 148; refine (put_any w0 w1 b done v1 (outI n) hW1 (hown.rd hbyt) (by omega)).mono ?_; rintro e w2 ⟨rfl, hW2, hu2⟩))
    go_end0
    exact WPost.yes ((UFr.below hb1).trans hu2) HO.out hW2
theorem cT_wr_len (l : List Int) : (cT.wr l).length ≤ l.length + 10 := by
  have := enc_len (l.length : Int)
  simp only [cT, List.length_append]
  omega
theorem cT_wr_byt {l : List Int} (h : Byt l) (hl : l.length ≤ 2147483647) : Byt (cT.wr l) := (enc_byt _ (by omega) (by omega)).app h
set_option maxHeartbeats 400000 in
/-- text. -/
theorem wtext_any (w0 w : World) (b : Nat) (done : List Int) (p : Value) (lp : List Int) (hW : WS w0 w b done) (hp0 : RT Any w0 p lp) :
    Calls Tryz.prog 151 #[.pointer (some ⟨b, 0, none⟩), p] w (WPost cT w0 w b done lp) := by
  have hp := (hp0.mv (Mv.below hW.bel)).1
  obtain ⟨ap, cp, rfl, hcp⟩ := hp.2.form
  rw [bc_len] at hp ⊢
  by_cases hl : (65536 : Int) < (lp.length : Int)
  · have HO : Hid (cT.ok lp = false) := by show decide _ = false; simp; omega
    go_enter Tryz.func151, Tryz.ntmps151
    go_wp2_with fail
    exact ⟨rfl, WPost.no (UFr.refl _ _) hW.bel HO.out⟩
  · have HO : Hid (cT.ok lp = true) := by show decide _ = true; simp; omega
    obtain ⟨bel, hb, v, many, lo, hrow, hown, hbyt, hfr, hlo, h1, h2⟩ := hW
    have c1 := hrow.cell (j := 1) rfl
    cases many with
    | true =>
      have h3 := h2.1 rfl
      clear h1 h2
      go_enter Tryz.func151, Tryz.ntmps151
      go_wp2_with fail
      go_end0
      exact WPost.yes (UFr.refl _ _) HO.out ⟨bel, hb, v, true, lo, hrow, hown, hbyt, hfr, hlo, (fun h => by cases h), ⟨fun _ => by rw [List.length_append]; omega, fun _ => rfl⟩⟩
    | false =>
      have hW : WS w0 w b done := ⟨bel, hb, v, false, lo, hrow, hown, hbyt, hfr, hlo, h1, h2⟩
      have hB := bytes_any w _ lp hp (by omega)
      have hln := cT_wr_len lp
      have hbt := cT_wr_byt hp.1 (by omega)
      clear h1 h2
      go_enter Tryz.func151, Tryz.ntmps151
      go_wp2_with (first
        | (go_at_call 175; refine hB.mono ?_; rintro e w1 ⟨v1, rfl, hown1, hfr1, hb1⟩; have hW1 := hW.below hb1)
        | (go_at_call 148; refine (put_any w0 w1 b done v1 (cT.wr lp) hW1 (hown1.rd hbt) (by omega)).mono ?_; rintro e w2 ⟨rfl, hW2, hu2⟩))
      go_end0
      exact WPost.yes ((UFr.below hb1).trans hu2) HO.out hW2
end
end Go.Proofs.YtgbfmccecnfooaaGreatDoor
