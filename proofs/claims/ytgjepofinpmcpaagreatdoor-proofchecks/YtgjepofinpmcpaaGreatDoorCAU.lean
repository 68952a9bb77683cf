/- The walks over package msg: the reader's numbers and texts. -/
import Derived.Test.YtgjepofinpmcpaaGreatDoorCAT
set_option linter.unusedVariables false
namespace Go.Proofs.YtgjepofinpmcpaaGreatDoor
open Go.RowKit Oct

/-- A reader at block r that stands at p of the bytes l; from block L on nothing of it lies. -/
structure RS (L : Nat) (w : World) (r : Nat) (bv : Value) (l : List Int) (p : Nat) : Prop where
  row : Row w r 75 [bv, .int .i64 (p : Int)]
  rd : RT (fun k => k < L ∧ k ≠ r) w bv l
  hp : p ≤ l.length
  hL : L ≤ w.heap.size
  hr : r < L
  hl : l.length ≤ 1048576

theorem RS.grown {L : Nat} {w w' : World} {r : Nat} {bv : Value} {l : List Int} {p : Nat} (h : RS L w r bv l p) {b : Nat} (hg : w.grownBy w' (some b)) (hb : L ≤ b) : RS L w' r bv l p :=
  ⟨h.row.grown hg (fun e => by injection e with e; have := h.hr; omega), h.rd.mv fun k hk hlt => ⟨hg.block k hlt (fun e => by injection e with e; have := hk.1; omega), hk⟩, h.hp, Nat.le_trans h.hL hg.size, h.hr, h.hl⟩
theorem RS.below {L : Nat} {w w' : World} {r : Nat} {bv : Value} {l : List Int} {p : Nat} (h : RS L w r bv l p) (hb : Below w.heap.size w w') : RS L w' r bv l p :=
  ⟨h.row.below hb, h.rd.mv (Mv.belowG hb), h.hp, Nat.le_trans h.hL hb.size, h.hr, h.hl⟩
theorem RS.drew {L : Nat} {w : World} {r : Nat} {bv : Value} {l : List Int} {p : Nat} (h : RS L w r bv l p) : RS L w.drew r bv l p := h.below ⟨rfl, rfl, rfl, Nat.le_refl _, fun _ _ => rfl⟩
theorem RS.go {L : Nat} {w w' : World} {r : Nat} {bv : Value} {l : List Int} {p : Nat} (h : RS L w r bv l p) (hg : w.grownBy w' (some r)) {p' : Nat} (hr : Row w' r 75 [bv, .int .i64 (p' : Int)]) (hp : p' ≤ l.length) : RS L w' r bv l p' :=
  ⟨hr, h.rd.mv fun k hk hlt => ⟨hg.block k hlt (fun e => by injection e with e; exact hk.2 e), hk⟩, hp, Nat.le_trans h.hL hg.size, h.hr, h.hl⟩

/-- What a call that reads comes to. -/
def RPost {α : Type} (c : Cdc α) (R : (Nat → Prop) → World → Value → α → Prop) (L : Nat) (w : World) (r : Nat) (bv : Value) (l : List Int) (p : Nat) (e : Ending) (w' : World) : Prop :=
  w.grownBy w' (some r) ∧ ((c.rd (l.drop p) = none ∧ e = .panicked [{ v := .iface 24 (.int .i64 51), recovered := false }]) ∨
    ∃ v a p', c.rd (l.drop p) = some (a, l.drop p') ∧ e = .returned v ∧ R (From w.heap.size) w' v a ∧ RS L w' r bv l p')
theorem RPost.no {α : Type} {c : Cdc α} {R : (Nat → Prop) → World → Value → α → Prop} {L : Nat} {w : World} {r : Nat} {bv : Value} {l : List Int} {p : Nat} {w' : World} (hg : w.grownBy w' (some r)) (hn : c.rd (l.drop p) = none) :
    RPost c R L w r bv l p (.panicked [{ v := .iface 24 (.int .i64 51), recovered := false }]) w' := ⟨hg, .inl ⟨hn, rfl⟩⟩
def VN (_ : Nat → Prop) (_ : World) (v : Value) (a : Int) : Prop := v = .int .i64 a
def VA {α : Type} (R : (Nat → Prop) → World → List Value → α → Prop) (G : Nat → Prop) (w : World) (v : Value) (a : α) : Prop := ∃ r, v = .agg r.toArray ∧ R G w r a

theorem num_drop {l : List Int} {p : Nat} (hb : Byt l) (hp : p ≤ l.length) : (cN.rd (l.drop p) = none ∧ getI l p = (0, 0, 11)) ∨ ∃ n k : Nat, cN.rd (l.drop p) = some ((n : Int), l.drop (p + k)) ∧ getI l p = ((n : Int), ((p + k : Nat) : Int), 0) ∧ p + k ≤ l.length := by
  cases hn : num (l.drop p) with
  | none => exact .inl ⟨by simp [cN, hn], getI_none p hp hn⟩
  | some nk =>
    obtain ⟨n, k⟩ := nk
    obtain ⟨h0, h1, k1, k5, kl, ht⟩ := num_some (hb.drop p) hn
    rw [List.length_drop] at kl
    obtain ⟨n', rfl⟩ := Int.eq_ofNat_of_zero_le h0
    refine .inr ⟨n', k, by simp [cN, hn, List.drop_drop], ?_, by omega⟩
    rw [getI_some p hp hn]
    simp
theorem txt_drop {l : List Int} {p : Nat} (hb : Byt l) (hp : p ≤ l.length) : (cT.rd (l.drop p) = none ∧ getB l p 65536 = ([], 0, 11)) ∨ ∃ (t : List Int) (q : Nat), cT.rd (l.drop p) = some (t, l.drop q) ∧ getB l p 65536 = (t, (q : Int), 0) ∧ q ≤ l.length := by
  cases hn : num (l.drop p) with
  | none =>
    refine .inl ⟨by simp [cT, hn], ?_⟩
    unfold getB
    rw [getI_none p hp hn]
    simp
  | some nk =>
    obtain ⟨n, k⟩ := nk
    obtain ⟨h0, h1, k1, k5, kl, ht⟩ := num_some (hb.drop p) hn
    rw [List.length_drop] at kl
    obtain ⟨n', rfl⟩ := Int.eq_ofNat_of_zero_le h0
    have hg : getI l p = ((n' : Int), ((p + k : Nat) : Int), 0) := by rw [getI_some p hp hn]; simp
    by_cases hc : (65536 : Int) < n' ∨ (l.length : Int) - ((p + k : Nat) : Int) < n'
    · refine .inl ⟨?_, ?_⟩
      · have : 65536 < (n' : Int) ∨ ((l.drop p).length : Int) - k < (n' : Int) := by rw [List.length_drop]; omega
        simp only [cT, hn, Option.bind_some]
        rw [if_pos this]
      · unfold getB
        rw [hg, if_pos (.inr hc)]
    · refine .inr ⟨(l.drop (p + k)).take n', p + k + n', ?_, ?_, by omega⟩
      · have : ¬ (65536 < (n' : Int) ∨ ((l.drop p).length : Int) - k < (n' : Int)) := by rw [List.length_drop]; omega
        simp only [cT, hn, Option.bind_some]
        rw [if_neg this]
        simp [List.drop_drop]
      · unfold getB
        rw [hg, if_neg (by simp; omega)]
        simp only [Int.toNat_natCast]
        simp

set_option maxHeartbeats 1000000 in
/-- number. -/
theorem rnum_any (L : Nat) (w : World) (r : Nat) (bv : Value) (l : List Int) (p : Nat) (hS : RS L w r bv l p) :
    Calls Tryz.prog 35 #[.pointer (some ⟨r, 0, none⟩)] w (RPost cN VN L w r bv l p) := by
  have c0 := hS.row.cell (j := 0) rfl
  have c1 := hS.row.cell (j := 1) rfl
  have hG := getInt_any w.drew bv l p hS.drew.rd.1 (by have := hS.hl; omega)
  rcases num_drop hS.rd.1.1 hS.hp with ⟨hn, hg⟩ | ⟨n, k, hn, hg, hk⟩
  · rw [hg] at hG
    have HN := (show Hid (cN.rd (l.drop p) = none) from hn)
    clear hn hg
    go_enter Tryz.func35, Tryz.ntmps35
    go_wp2_with fail
    go_region_held3 (fun u => u.cell? ⟨r, 0, none⟩ = some bv ∧ u.cell? ⟨r, 1, none⟩ = some (.int .i64 (p : Int)))
      (first | go_keep)
      (first | (go_at_call 65; refine hG.mono ?_; rintro e w1 ⟨rfl, hw1⟩; rw [hw1]))
    go_wp2_with fail
    exact ⟨rfl, RPost.no (grown_to_drew (grown_refl w (some r))) HN.out⟩
  · rw [hg] at hG
    have HN := (show Hid (cN.rd (l.drop p) = some ((n : Int), l.drop (p + k))) from hn)
    clear hn hg
    go_enter Tryz.func35, Tryz.ntmps35
    go_wp2_with fail
    go_region_held3 (fun u => u.cell? ⟨r, 0, none⟩ = some bv ∧ u.cell? ⟨r, 1, none⟩ = some (.int .i64 (p : Int)))
      (first | go_keep)
      (first | (go_at_call 65; refine hG.mono ?_; rintro e w1 ⟨rfl, hw1⟩; rw [hw1]))
    have hrow : Row w.drew r 75 _ := hS.drew.row
    go_wp2_with (refine wl_set rfl _ _ _ rfl r 1 _ rfl rfl _ _ hrow (show 1 < 2 by decide) (by kernel_rfl) rfl ?_; intro w2 hr2 hg2)
    go_ret
    exact ⟨grown_drew hg2, .inr ⟨_, _, p + k, HN.out, rfl, rfl, hS.go (grown_drew hg2) hr2.out hk⟩⟩

set_option maxHeartbeats 1000000 in
/-- text. -/
theorem rtext_any (L : Nat) (w : World) (r : Nat) (bv : Value) (l : List Int) (p : Nat) (hS : RS L w r bv l p) :
    Calls Tryz.prog 68 #[.pointer (some ⟨r, 0, none⟩)] w (RPost cT RT L w r bv l p) := by
  have c0 := hS.row.cell (j := 0) rfl
  have c1 := hS.row.cell (j := 1) rfl
  have hG := getBytes_any w.drew bv l p 65536 hS.drew.rd.1 (by have := hS.hl; omega)
  have hbt := getB_byt l p 65536 hS.rd.1.1
  rcases txt_drop hS.rd.1.1 hS.hp with ⟨hn, hg⟩ | ⟨t, q, hn, hg, hk⟩
  · rw [hg] at hG
    have HN := (show Hid (cT.rd (l.drop p) = none) from hn)
    clear hn hg
    go_enter Tryz.func68, Tryz.ntmps68
    go_wp2_with fail
    go_region_held3 (fun u => u.cell? ⟨r, 0, none⟩ = some bv ∧ u.cell? ⟨r, 1, none⟩ = some (.int .i64 (p : Int)))
      (first | go_keep | exact ⟨(hb1.cell (p := ⟨r, 0, none⟩) hS.row.lt).trans c0, (hb1.cell (p := ⟨r, 1, none⟩) hS.row.lt).trans c1⟩)
      (first | (go_at_call 111; refine hG.mono ?_; rintro e w1 ⟨v1, rfl, hown1, hfr1, hb1⟩))
    go_wp2_with fail
    exact ⟨rfl, RPost.no (grown_drew (grown_of_below hb1 _)) HN.out⟩
  · rw [hg] at hG hbt
    have HN := (show Hid (cT.rd (l.drop p) = some (t, l.drop q)) from hn)
    clear hn hg
    go_enter Tryz.func68, Tryz.ntmps68
    go_wp2_with fail
    go_region_held3 (fun u => u.cell? ⟨r, 0, none⟩ = some bv ∧ u.cell? ⟨r, 1, none⟩ = some (.int .i64 (p : Int)))
      (first | go_keep | exact ⟨(hb1.cell (p := ⟨r, 0, none⟩) hS.row.lt).trans c0, (hb1.cell (p := ⟨r, 1, none⟩) hS.row.lt).trans c1⟩)
      (first | (go_at_call 111; refine hG.mono ?_; rintro e w1 ⟨v1, rfl, hown1, hfr1, hb1⟩))
    have hrow : Row w1 r 75 _ := hS.drew.row.below hb1
    go_wp2_with (refine wl_set rfl _ _ _ rfl r 1 _ rfl rfl _ _ hrow (show 1 < 2 by decide) (by kernel_rfl) rfl ?_; intro w2 hr2 hg2)
    go_ret
    have hgt : w.grownBy w2 (some r) := grown_trans (grown_drew (grown_of_below hb1 (some r))) hg2 (.inl rfl)
    have o2 := hown1.grown hg2 (fun k hk => by cases hk; exact own_row_ne hrow hown1 (by decide))
    exact ⟨hgt, .inr ⟨_, t, q, HN.out, rfl, RT.own o2 hbt hfr1, hS.go hgt hr2.out hk⟩⟩
end Go.Proofs.YtgjepofinpmcpaaGreatDoor
