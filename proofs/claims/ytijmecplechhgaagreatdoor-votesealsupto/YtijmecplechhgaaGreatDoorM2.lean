/- The walks over package msg: numbers and texts written. -/
import Derived.Test.YtijmecplechhgaaGreatDoorM1
namespace Go.Proofs.YtijmecplechhgaaGreatDoor
open Go.RowKit Oct

theorem WS.below {w0 w w' : World} {b : Nat} {done : List Int} (h : WS w0 w b done) (hb : Below w.heap.size w w') : WS w0 w' b done := by
  obtain ⟨bel, hb0, v, many, lo, hrow, hown, hbyt, hfr, hlo, h1, h2⟩ := h
  exact ⟨below_and bel (Nat.le_refl _) hb, hb0, v, many, lo, hrow.below hb, hown.below hb, hbyt, hfr, hlo, h1, h2⟩
theorem WS.lt {w0 w : World} {b : Nat} {done : List Int} (h : WS w0 w b done) : b < w.heap.size := by
  obtain ⟨_, _, v, many, lo, hrow, _⟩ := h
  exact hrow.lt

/-- What a call that writes a comes to. -/
def WPost {α : Type} (c : Cdc α) (w0 w : World) (b : Nat) (done : List Int) (a : α) (e : Ending) (w' : World) : Prop :=
  UFr b w w' ∧ Below w0.heap.size w0 w' ∧ ((c.ok a = false ∧ e = .panicked [{ v := .iface 50 (.int .i64 51), recovered := false }]) ∨ (c.ok a = true ∧ e = .returned (.tuple #[]) ∧ WS w0 w' b (done ++ c.wr a)))
theorem WPost.no {α : Type} {c : Cdc α} {w0 w : World} {b : Nat} {done : List Int} {a : α} {w' : World} (hu : UFr b w w') (hb : Below w0.heap.size w0 w') (ho : c.ok a = false) : WPost c w0 w b done a (.panicked [{ v := .iface 50 (.int .i64 51), recovered := false }]) w' :=
  ⟨hu, hb, .inl ⟨ho, rfl⟩⟩
theorem WPost.yes {α : Type} {c : Cdc α} {w0 w : World} {b : Nat} {done : List Int} {a : α} {w' : World} (hu : UFr b w w') (ho : c.ok a = true) (hW : WS w0 w' b (done ++ c.wr a)) : WPost c w0 w b done a (.returned (.tuple #[])) w' :=
  ⟨hu, hW.bel, .inr ⟨ho, rfl, hW⟩⟩

/-- number. -/
theorem wnum_any (w0 w : World) (b : Nat) (done : List Int) (n : Int) (hW : WS w0 w b done) :
    Calls Tryz.prog 64 #[.pointer (some ⟨b, 0, none⟩), .int .i64 n] w (WPost cN w0 w b done n) := by
  have hI := int_any w n
  cases ho : okI n with
  | false =>
    have he : errI n = 14 := by simp [errI, ho]
    rw [he] at hI
    have HO := (show Hid (cN.ok n = false) from ho)
    clear ho
    go_enter Tryz.func64, Tryz.ntmps64
    go_wp2_with (go_at_call 50; refine hI.mono ?_; rintro e w1 ⟨v1, rfl, hown, hfr, hb1⟩)
    exact ⟨rfl, WPost.no (UFr.below hb1) (below_and hW.bel (Nat.le_refl _) hb1) HO.out⟩
  | true =>
    have he : errI n = 0 := by simp [errI, ho]
    rw [he] at hI
    have hbd := okI_bd ho
    have hl : (outI n).length ≤ 10 := by rw [outI_yes hbd.1 hbd.2]; exact (enc_len n).2
    have hbyt := outI_byt n
    have HO := (show Hid (cN.ok n = true) from ho)
    clear ho hbd
    go_enter Tryz.func64, Tryz.ntmps64
    go_wp2_with (first
      | (go_at_call 50; refine hI.mono ?_; rintro e w1 ⟨v1, rfl, hown, hfr, hb1⟩; have hW1 := hW.below hb1)
      | (go_at_call 87; refine (put_any w0 w1 b done v1 (outI n) hW1 (hown.rd hbyt) (by omega)).mono ?_; rintro e w2 ⟨rfl, hW2, hu2⟩))
    go_end0
    exact WPost.yes ((UFr.below hb1).trans hu2) HO.out hW2

theorem cT_wr_len (l : List Int) : (cT.wr l).length ≤ l.length + 10 := by
  have := enc_len (l.length : Int)
  simp only [cT, List.length_append]
  omega
theorem cT_wr_byt {l : List Int} (h : Byt l) (hl : l.length ≤ 2147483647) : Byt (cT.wr l) := (enc_byt _ (by omega) (by omega)).app h

set_option maxHeartbeats 400000 in
/-- text. -/
theorem wtext_any (w0 w : World) (b : Nat) (done : List Int) (p : Value) (lp : List Int) (hW : WS w0 w b done) (hp0 : RT Any w0 p lp) :
    Calls Tryz.prog 90 #[.pointer (some ⟨b, 0, none⟩), p] w (WPost cT w0 w b done lp) := by
  have hp := (hp0.mv (Mv.below hW.bel)).1
  obtain ⟨ap, cp, rfl, hcp⟩ := hp.2.form
  rw [bc_len] at hp ⊢
  by_cases hl : (65536 : Int) < (lp.length : Int)
  · have HO : Hid (cT.ok lp = false) := by show decide _ = false; simp; omega
    go_enter Tryz.func90, Tryz.ntmps90
    go_wp2_with fail
    exact ⟨rfl, WPost.no (UFr.refl _ _) hW.bel HO.out⟩
  · have HO : Hid (cT.ok lp = true) := by show decide _ = true; simp; omega
    obtain ⟨bel, hb, v, many, lo, hrow, hown, hbyt, hfr, hlo, h1, h2⟩ := hW
    have c1 := hrow.cell (j := 1) rfl
    cases many with
    | true =>
      have h3 := h2.1 rfl
      clear h1 h2
      go_enter Tryz.func90, Tryz.ntmps90
      go_wp2_with fail
      go_end0
      exact WPost.yes (UFr.refl _ _) HO.out ⟨bel, hb, v, true, lo, hrow, hown, hbyt, hfr, hlo, (fun h => by cases h), ⟨fun _ => by rw [List.length_append]; omega, fun _ => rfl⟩⟩
    | false =>
      have hW : WS w0 w b done := ⟨bel, hb, v, false, lo, hrow, hown, hbyt, hfr, hlo, h1, h2⟩
      have hB := bytes_any w _ lp hp (by omega)
      have hln := cT_wr_len lp
      have hbt := cT_wr_byt hp.1 (by omega)
      clear h1 h2
      go_enter Tryz.func90, Tryz.ntmps90
      go_wp2_with (first
        | (go_at_call 108; refine hB.mono ?_; rintro e w1 ⟨v1, rfl, hown1, hfr1, hb1⟩; have hW1 := hW.below hb1)
        | (go_at_call 87; refine (put_any w0 w1 b done v1 (cT.wr lp) hW1 (hown1.rd hbt) (by omega)).mono ?_; rintro e w2 ⟨rfl, hW2, hu2⟩))
      go_end0
      exact WPost.yes ((UFr.below hb1).trans hu2) HO.out hW2
end Go.Proofs.YtijmecplechhgaaGreatDoor
