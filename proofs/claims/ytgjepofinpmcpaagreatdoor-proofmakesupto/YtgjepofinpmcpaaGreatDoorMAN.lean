/- The walks over package msg: records and lists read. (Laid by mk5r.py.) -/
import Derived.Test.YtgjepofinpmcpaaGreatDoorMAM
import Derived.Test.YtgjepofinpmcpaaGreatDoorMAE
import Derived.Deep.Cut
set_option linter.unusedSimpArgs false
set_option linter.unusedVariables false
namespace Go.Proofs.YtgjepofinpmcpaaGreatDoor
section
open Go.RowKit Oct
structure RS (L : Nat) (w : World) (r : Nat) (bv : Value) (l : List Int) (p : Nat) : Prop where
  row : Row w r 75 [bv, .int .i64 (p : Int)]
  rd : RT (fun k => k < L ∧ k ≠ r) w bv l
  hp : p ≤ l.length
  hL : L ≤ w.heap.size
  hr : r < L
  hl : l.length ≤ 1048576
theorem RS.grown {L : Nat} {w w' : World} {r : Nat} {bv : Value} {l : List Int} {p : Nat} (h : RS L w r bv l p) {b : Nat} (hg : w.grownBy w' (some b)) (hb : L ≤ b) : RS L w' r bv l p :=
  ⟨h.row.grown hg (fun e => by injection e with e; have := h.hr; omega), h.rd.mv fun k hk hlt => ⟨hg.block k hlt (fun e => by injection e with e; have := hk.1; omega), hk⟩, h.hp, Nat.le_trans h.hL hg.size, h.hr, h.hl⟩
theorem RS.below {L : Nat} {w w' : World} {r : Nat} {bv : Value} {l : List Int} {p : Nat} (h : RS L w r bv l p) (hb : Below w.heap.size w w') : RS L w' r bv l p :=
  ⟨h.row.below hb, h.rd.mv (Mv.belowG hb), h.hp, Nat.le_trans h.hL hb.size, h.hr, h.hl⟩
theorem RS.drew {L : Nat} {w : World} {r : Nat} {bv : Value} {l : List Int} {p : Nat} (h : RS L w r bv l p) : RS L w.drew r bv l p := h.below ⟨rfl, rfl, rfl, zN, fun _ _ => rfl⟩
theorem RS.go {L : Nat} {w w' : World} {r : Nat} {bv : Value} {l : List Int} {p : Nat} (h : RS L w r bv l p) (hg : w.grownBy w' (some r)) {p' : Nat} (hr : Row w' r 75 [bv, .int .i64 (p' : Int)]) (hp : p' ≤ l.length) : RS L w' r bv l p' :=
  ⟨hr, h.rd.mv fun k hk hlt => ⟨hg.block k hlt (fun e => by injection e with e; exact hk.2 e), hk⟩, hp, Nat.le_trans h.hL hg.size, h.hr, h.hl⟩
def zBd {α : Type} (c : Cdc α) (R : (Nat → Prop) → World → Value → α → Prop) (L : Nat) (w : World) (r : Nat) (bv : Value) (l : List Int) (p : Nat) (e : Ending) (w' : World) : Prop :=
  w.grownBy w' (some r) ∧ ((c.rd (l.drop p) = none ∧ e = .panicked [{ v := .iface 24 (.int .i64 51), recovered := false }]) ∨
    ∃ v a p', c.rd (l.drop p) = some (a, l.drop p') ∧ e = .returned v ∧ R (zB0 w.heap.size) w' v a ∧ RS L w' r bv l p')
theorem zBd.no {α : Type} {c : Cdc α} {R : (Nat → Prop) → World → Value → α → Prop} {L : Nat} {w : World} {r : Nat} {bv : Value} {l : List Int} {p : Nat} {w' : World} (hg : w.grownBy w' (some r)) (hn : c.rd (l.drop p) = none) :
    zBd c R L w r bv l p (.panicked [{ v := .iface 24 (.int .i64 51), recovered := false }]) w' := ⟨hg, .inl ⟨hn, rfl⟩⟩
def VN (_ : Nat → Prop) (_ : World) (v : Value) (a : Int) : Prop := v = .int .i64 a
def VA {α : Type} (R : (Nat → Prop) → World → List Value → α → Prop) (G : Nat → Prop) (w : World) (v : Value) (a : α) : Prop := ∃ r, v = .agg r.toArray ∧ R G w r a
theorem zP0 {l : List Int} {p : Nat} (hb : Byt l) (hp : p ≤ l.length) : (cN.rd (l.drop p) = none ∧ zE6 l p = (0, 0, 11)) ∨ ∃ n k : Nat, cN.rd (l.drop p) = some ((n : Int), l.drop (p + k)) ∧ zE6 l p = ((n : Int), ((p + k : Nat) : Int), 0) ∧ p + k ≤ l.length := by
  cases hn : num (l.drop p) with
  | none => exact .inl ⟨by simp [cN, hn], zBu p hp hn⟩
  | some nk =>
    obtain ⟨n, k⟩ := nk
    obtain ⟨h0, h1, k1, k5, kl, ht⟩ := zF3 (hb.drop p) hn
    rw [List.length_drop] at kl
    obtain ⟨n', rfl⟩ := Int.eq_ofNat_of_zero_le h0
    refine .inr ⟨n', k, by simp [cN, hn, List.drop_drop], ?_, by omega⟩
    rw [zD3 p hp hn]
    simp
theorem zPh {l : List Int} {p : Nat} (hb : Byt l) (hp : p ≤ l.length) : (cT.rd (l.drop p) = none ∧ zD9 l p 65536 = ([], 0, 11)) ∨ ∃ (t : List Int) (q : Nat), cT.rd (l.drop p) = some (t, l.drop q) ∧ zD9 l p 65536 = (t, (q : Int), 0) ∧ q ≤ l.length := by
  cases hn : num (l.drop p) with
  | none =>
    refine .inl ⟨by simp [cT, hn], ?_⟩
    unfold zD9
    rw [zBu p hp hn]
    simp
  | some nk =>
    obtain ⟨n, k⟩ := nk
    obtain ⟨h0, h1, k1, k5, kl, ht⟩ := zF3 (hb.drop p) hn
    rw [List.length_drop] at kl
    obtain ⟨n', rfl⟩ := Int.eq_ofNat_of_zero_le h0
    have hg : zE6 l p = ((n' : Int), ((p + k : Nat) : Int), 0) := by rw [zD3 p hp hn]; simp
    by_cases hc : (65536 : Int) < n' ∨ (l.length : Int) - ((p + k : Nat) : Int) < n'
    · refine .inl ⟨?_, ?_⟩
      · have : 65536 < (n' : Int) ∨ ((l.drop p).length : Int) - k < (n' : Int) := by rw [List.length_drop]; omega
        simp only [cT, hn, Option.bind_some]
        rw [if_pos this]
      · unfold zD9
        rw [hg, if_pos (.inr hc)]
    · refine .inr ⟨(l.drop (p + k)).take n', p + k + n', ?_, ?_, by omega⟩
      · have : ¬ (65536 < (n' : Int) ∨ ((l.drop p).length : Int) - k < (n' : Int)) := by rw [List.length_drop]; omega
        simp only [cT, hn, Option.bind_some]
        rw [if_neg this]
        simp [List.drop_drop]
      · unfold zD9
        rw [hg, if_neg (by simp; omega)]
        simp only [Int.toNat_natCast]
        simp
set_option maxHeartbeats 1000000 in
theorem zB9 (L : Nat) (w : World) (r : Nat) (bv : Value) (l : List Int) (p : Nat) (hS : RS L w r bv l p) :
    Calls Tryz.prog 35 #[.pointer (some ⟨r, 0, none⟩)] w (zBd cN VN L w r bv l p) := by
  have c0 := hS.row.cell (j := 0) rfl
  have c1 := hS.row.cell (j := 1) rfl
  have hG := zJv w.drew bv l p hS.drew.rd.1 (by have := hS.hl; omega)
  rcases zP0 hS.rd.1.1 hS.hp with ⟨hn, hg⟩ | ⟨n, k, hn, hg, hk⟩
  · rw [hg] at hG
    have HN := (show Hid (cN.rd (l.drop p) = none) from hn)
    clear hn hg
    go_enter Tryz.func35, Tryz.ntmps35
    go_wp2_with fail
    go_region_held3 (fun u => u.cell? ⟨r, 0, none⟩ = some bv ∧ u.cell? ⟨r, 1, none⟩ = some (.int .i64 (p : Int)))
      (first | go_keep)
      (first | (go_at_call 65; refine hG.mono ?_; rintro e w1 ⟨rfl, hw1⟩; rw [hw1]))
    go_wp2_with fail
    exact ⟨rfl, zBd.no (zBg (zBi w (some r))) HN.out⟩
  · rw [hg] at hG
    have HN := (show Hid (cN.rd (l.drop p) = some ((n : Int), l.drop (p + k))) from hn)
    clear hn hg
    go_enter Tryz.func35, Tryz.ntmps35
    go_wp2_with fail
    go_region_held3 (fun u => u.cell? ⟨r, 0, none⟩ = some bv ∧ u.cell? ⟨r, 1, none⟩ = some (.int .i64 (p : Int)))
      (first | go_keep)
      (first | (go_at_call 65; refine hG.mono ?_; rintro e w1 ⟨rfl, hw1⟩; rw [hw1]))
    have zB5 : Row w.drew r 75 _ := hS.drew.row
    go_wp2_with (refine zAb rfl _ _ _ rfl r 1 _ rfl rfl _ _ zB5 (show 1 < 2 by decide) (by kernel_rfl) rfl ?_; intro w2 hr2 hg2)
    go_ret
    exact ⟨zB1 hg2, .inr ⟨_, _, p + k, HN.out, rfl, rfl, hS.go (zB1 hg2) hr2.out hk⟩⟩
set_option maxHeartbeats 1000000 in
theorem zD0 (L : Nat) (w : World) (r : Nat) (bv : Value) (l : List Int) (p : Nat) (hS : RS L w r bv l p) :
    Calls Tryz.prog 68 #[.pointer (some ⟨r, 0, none⟩)] w (zBd cT RT L w r bv l p) := by
  have c0 := hS.row.cell (j := 0) rfl
  have c1 := hS.row.cell (j := 1) rfl
  have hG := zM3 w.drew bv l p 65536 hS.drew.rd.1 (by have := hS.hl; omega)
  have hbt := zK9 l p 65536 hS.rd.1.1
  rcases zPh hS.rd.1.1 hS.hp with ⟨hn, hg⟩ | ⟨t, q, hn, hg, hk⟩
  · rw [hg] at hG
    have HN := (show Hid (cT.rd (l.drop p) = none) from hn)
    clear hn hg
    go_enter Tryz.func68, Tryz.ntmps68
    go_wp2_with fail
    go_region_held3 (fun u => u.cell? ⟨r, 0, none⟩ = some bv ∧ u.cell? ⟨r, 1, none⟩ = some (.int .i64 (p : Int)))
      (first | go_keep | exact ⟨(hb1.cell (p := ⟨r, 0, none⟩) hS.row.lt).trans c0, (hb1.cell (p := ⟨r, 1, none⟩) hS.row.lt).trans c1⟩)
      (first | (go_at_call 111; refine hG.mono ?_; rintro e w1 ⟨v1, rfl, hown1, hfr1, hb1⟩))
    go_wp2_with fail
    exact ⟨rfl, zBd.no (zB1 (zA8 hb1 _)) HN.out⟩
  · rw [hg] at hG hbt
    have HN := (show Hid (cT.rd (l.drop p) = some (t, l.drop q)) from hn)
    clear hn hg
    go_enter Tryz.func68, Tryz.ntmps68
    go_wp2_with fail
    go_region_held3 (fun u => u.cell? ⟨r, 0, none⟩ = some bv ∧ u.cell? ⟨r, 1, none⟩ = some (.int .i64 (p : Int)))
      (first | go_keep | exact ⟨(hb1.cell (p := ⟨r, 0, none⟩) hS.row.lt).trans c0, (hb1.cell (p := ⟨r, 1, none⟩) hS.row.lt).trans c1⟩)
      (first | (go_at_call 111; refine hG.mono ?_; rintro e w1 ⟨v1, rfl, hown1, hfr1, hb1⟩))
    have zB5 : Row w1 r 75 _ := hS.drew.row.below hb1
    go_wp2_with (refine zAb rfl _ _ _ rfl r 1 _ rfl rfl _ _ zB5 (show 1 < 2 by decide) (by kernel_rfl) rfl ?_; intro w2 hr2 hg2)
    go_ret
    have hgt : w.grownBy w2 (some r) := zA2 (zB1 (zA8 hb1 (some r))) hg2 (.inl rfl)
    have o2 := hown1.grown hg2 (fun k hk => by cases hk; exact zA6 zB5 hown1 (by decide))
    exact ⟨hgt, .inr ⟨_, t, q, HN.out, rfl, RT.own o2 hbt hfr1, hS.go hgt hr2.out hk⟩⟩
end
section
open Go.RowKit Oct
theorem zNk {a b : Int} : ∀ v ∈ [Value.int .i64 a, Value.int .i64 b], v.oneCell' = true := by
  intro v hv
  simp only [List.mem_cons, List.not_mem_nil, or_false] at hv
  rcases hv with rfl | rfl <;> rfl
theorem zUc {G : Nat → Prop} {w : World} {r : List Value} {x : zAy} (h : zAz G w r x) : r.length = 2 := by obtain ⟨s, rfl, _⟩ := h; rfl
theorem zKu {G : Nat → Prop} {w : World} {r : List Value} {x : zB3} (h : zCs G w r x) : r.length = 4 := by obtain ⟨o, g, rfl, _⟩ := h; rfl
theorem zUr {G : Nat → Prop} {w : World} {r : List Value} {x : zCo} (h : zBy G w r x) : r.length = 8 := by obtain ⟨o, g, c, rfl, _⟩ := h; rfl
theorem zKz {G : Nat → Prop} {w : World} {r : List Value} {x : zF8} (h : zDo G w r x) : r.length = 8 := by obtain ⟨d, s, p, g, rfl, _⟩ := h; rfl
def RB (_ : Nat → Prop) (_ : World) (r : List Value) (x : zTt) : Prop := r = [.int .i64 x.1, .int .i64 x.2]
theorem RS.own {L : Nat} {w w' : World} {r : Nat} {bv : Value} {l : List Int} {p : Nat} (h : RS L w r bv l p) {row : Option Nat} (hg : w.grownBy w' row) (hb : ∀ k, row = some k → L ≤ k) : RS L w' r bv l p :=
  ⟨h.row.grown hg (fun e => by have := hb r e; have := h.hr; omega), h.rd.mv fun k hk hlt => ⟨hg.block k hlt (fun e => by have := hb k e.symm; have := hk.1; omega), hk⟩, h.hp, Nat.le_trans h.hL hg.size, h.hr, h.hl⟩
theorem zEd {α : Type} {c : Cdc α} {l l1 l2 : List Int} {N q : Nat} {ys : List α} (hN : ¬ (64 : Int) < (N : Int)) (h1 : cN.rd l = some ((N : Int), l1)) (hq : q < N) (h2 : rdN c q l1 = some (ys, l2)) (h3 : c.rd l2 = none) : (cL c).rd l = none := by
  simp only [cL, h1, Option.bind_some]
  rw [if_neg hN, Int.toNat_natCast]
  refine zPq (n := q + 1) ?_ N (by omega)
  rw [zCt, h2]
  simp [h3]
theorem zE9 {α : Type} {c : Cdc α} {l l1 l2 : List Int} {N : Nat} {ys : List α} (hN : ¬ (64 : Int) < (N : Int)) (h1 : cN.rd l = some ((N : Int), l1)) (h2 : rdN c N l1 = some (ys, l2)) : (cL c).rd l = some (ys, l2) := by
  simp only [cL, h1, Option.bind_some]
  rw [if_neg hN, Int.toNat_natCast, h2]
set_option maxHeartbeats 2000000 in
theorem zFo (L : Nat) (w : World) (r : Nat) (bv : Value) (l : List Int) (p : Nat) (hS : RS L w r bv l p) :
    Calls Tryz.prog 66 #[.pointer (some ⟨r, 0, none⟩)] w (zBd zI1 (VA RB) L w r bv l p) := by
  obtain ⟨w0, hw0⟩ : ∃ w0, w0 = (w.alloc (.cells ([.int .i64 0, .int .i64 0] : List Value).toArray 32)).alloc (.cells ([.int .i64 0, .int .i64 0] : List Value).toArray 32) := ⟨_, rfl⟩
  have hr : Row w0 w.heap.size 32 [.int .i64 0, .int .i64 0] := by rw [hw0]; exact zA4 (Row.new w 32 [.int .i64 0, .int .i64 0]) _
  have hv : Row w0 (w.heap.size + 1) 32 [.int .i64 0, .int .i64 0] := by
    rw [hw0]
    have := Row.new (w.alloc (.cells ([.int .i64 0, .int .i64 0] : List Value).toArray 32)) 32 [.int .i64 0, .int .i64 0]
    simpa using this
  have hB : Below w.heap.size w w0 := by rw [hw0]; exact ((Below.refl _ w).alloc zN _).alloc (by simp) _
  have hsz : w0.heap.size = w.heap.size + 2 := by rw [hw0]; simp
  have hG := zA8 hB (some r)
  have hS := hS.below hB
  have hLw := hS.hL
  have hrL := hS.hr
  have hLw0 : L ≤ w.heap.size := by have := ‹RS L w r bv l p›.hL; exact this
  have hne1 : (some r : Option Nat) ≠ some w.heap.size := fun e => by injection e with e; omega
  have hne2 : (some r : Option Nat) ≠ some (w.heap.size + 1) := fun e => by injection e with e; omega
  have hne3 : (some (w.heap.size + 1) : Option Nat) ≠ some w.heap.size := fun e => by injection e with e; omega
  have hC : w.heap.size + 2 ≤ w0.heap.size := by omega
  go_enter Tryz.func66, Tryz.ntmps66
  go_upto_region 2 with fail
  rw [← hw0]
  clear hw0 hsz
  have hv2 := hv
  go_wp2_with fail
  refine (zB9 L _ r bv l _ hS).mono ?_
  rintro e wa0 ⟨hga0, ⟨hn, rfl⟩ | ⟨v0, a0, p0, hrd0, rfl, hR0, hS⟩⟩
  · go_wp2_with fail
    exact ⟨rfl, zBd.no (zA2 hG hga0 (.inl rfl)) (by simp [zI1, cP, hn])⟩
  have hG := zA2 hG hga0 (.inl rfl)
  have hr := hr.grown hga0 hne1
  have hv2 := hv2.grown hga0 hne2
  have hC0 := hC
  have hC := Nat.le_trans hC hga0.size
  have hrd0 := (show Hid _ from hrd0)
  have hR0 : v0 = .int .i64 a0 := hR0
  subst hR0
  go_wp2_with (refine zAb rfl _ _ _ rfl (w.heap.size + 1) 0 _ rfl rfl _ _ hv2 (show 0 < 2 by decide) (by kernel_rfl) rfl ?_; intro wb0 hv3 hgb0)
  have hv2 : Row wb0 (w.heap.size + 1) 32 [.int .i64 a0, .int .i64 0] := hv3.out
  clear hv3
  have hG := zA2 hG hgb0 (.inr fun k hk => by cases hk; omega)
  have hS := hS.grown hgb0 (by omega)
  have hC := Nat.le_trans hC hgb0.size
  have hr := hr.grown hgb0 hne3
  refine (zB9 L _ r bv l _ hS).mono ?_
  rintro e wa1 ⟨hga1, ⟨hn, rfl⟩ | ⟨v1, a1, p1, hrd1, rfl, hR1, hS⟩⟩
  · go_wp2_with fail
    exact ⟨rfl, zBd.no (zA2 hG hga1 (.inl rfl)) (by simp [zI1, cP, hrd0.out, hn])⟩
  have hG := zA2 hG hga1 (.inl rfl)
  have hr := hr.grown hga1 hne1
  have hv2 := hv2.grown hga1 hne2
  have hC1 := hC
  have hC := Nat.le_trans hC hga1.size
  have hrd1 := (show Hid _ from hrd1)
  have hR1 : v1 = .int .i64 a1 := hR1
  subst hR1
  go_wp2_with (first
    | (refine zAb rfl _ _ _ rfl (w.heap.size + 1) 1 _ rfl rfl _ _ hv2 (show 1 < 2 by decide) (by kernel_rfl) rfl ?_; intro wb1 hv3 hgb1)
    | (refine zAa rfl _ _ rfl (w.heap.size + 1) rfl _ _ hv3.out _ Tryz.underlying32 rfl (by kernel_rfl) ?_; have hr := hr.grown hgb1 hne3)
    | (refine zA7 rfl _ _ _ rfl w.heap.size [.int .i64 a0, .int .i64 a1] rfl rfl _ _ hr (by rfl) (by kernel_rfl) (by intro u hu; simp only [List.mem_cons, List.not_mem_nil, or_false] at hu; rcases hu with rfl | rfl <;> first | rfl) ?_; intro wz hrz hgz))
  have hv2 : Row wb1 (w.heap.size + 1) 32 [.int .i64 a0, .int .i64 a1] := hv3.out
  clear hv3
  have hG := zA2 hG hgb1 (.inr fun k hk => by cases hk; omega)
  have hS := hS.grown hgb1 (by omega)
  have hC := Nat.le_trans hC hgb1.size
  have hG := zA2 hG hgz (.inr fun k hk => by cases hk; omega)
  have hS := hS.grown hgz (by omega)
  have hrz := hrz.out
  refine bodyPost_ret (v := .agg ([.int .i64 a0, .int .i64 a1] : List Value).toArray) (results_cell_row rfl _ _ w.heap.size _ _ (0, 0) _ (by rfl) hrz Tryz.underlying32 rfl (by kernel_rfl)) rfl ?_
  exact ⟨hG, .inr ⟨_, (a0, a1), p1, by simp [zI1, cP, hrd0.out, hrd1.out], rfl, ⟨_, rfl, rfl⟩, hS⟩⟩
set_option maxHeartbeats 2000000 in
theorem zT0 (L : Nat) (w : World) (r : Nat) (bv : Value) (l : List Int) (p : Nat) (hS : RS L w r bv l p) :
    Calls Tryz.prog 70 #[.pointer (some ⟨r, 0, none⟩)] w (zBd zAi (VA zAz) L w r bv l p) := by
  obtain ⟨w0, hw0⟩ : ∃ w0, w0 = (w.alloc (.cells ([.int .i64 0, .slice none 0 0] : List Value).toArray 58)).alloc (.cells ([.int .i64 0, .slice none 0 0] : List Value).toArray 58) := ⟨_, rfl⟩
  have hr : Row w0 w.heap.size 58 [.int .i64 0, .slice none 0 0] := by rw [hw0]; exact zA4 (Row.new w 58 [.int .i64 0, .slice none 0 0]) _
  have hv : Row w0 (w.heap.size + 1) 58 [.int .i64 0, .slice none 0 0] := by
    rw [hw0]
    have := Row.new (w.alloc (.cells ([.int .i64 0, .slice none 0 0] : List Value).toArray 58)) 58 [.int .i64 0, .slice none 0 0]
    simpa using this
  have hB : Below w.heap.size w w0 := by rw [hw0]; exact ((Below.refl _ w).alloc zN _).alloc (by simp) _
  have hsz : w0.heap.size = w.heap.size + 2 := by rw [hw0]; simp
  have hG := zA8 hB (some r)
  have hS := hS.below hB
  have hLw := hS.hL
  have hrL := hS.hr
  have hLw0 : L ≤ w.heap.size := by have := ‹RS L w r bv l p›.hL; exact this
  have hne1 : (some r : Option Nat) ≠ some w.heap.size := fun e => by injection e with e; omega
  have hne2 : (some r : Option Nat) ≠ some (w.heap.size + 1) := fun e => by injection e with e; omega
  have hne3 : (some (w.heap.size + 1) : Option Nat) ≠ some w.heap.size := fun e => by injection e with e; omega
  have hC : w.heap.size + 2 ≤ w0.heap.size := by omega
  go_enter Tryz.func70, Tryz.ntmps70
  go_upto_region 2 with fail
  rw [← hw0]
  clear hw0 hsz
  have hv2 := hv
  go_wp2_with fail
  refine (zB9 L _ r bv l _ hS).mono ?_
  rintro e wa0 ⟨hga0, ⟨hn, rfl⟩ | ⟨v0, a0, p0, hrd0, rfl, hR0, hS⟩⟩
  · go_wp2_with fail
    exact ⟨rfl, zBd.no (zA2 hG hga0 (.inl rfl)) (by simp [zAi, cP, hn])⟩
  have hG := zA2 hG hga0 (.inl rfl)
  have hr := hr.grown hga0 hne1
  have hv2 := hv2.grown hga0 hne2
  have hC0 := hC
  have hC := Nat.le_trans hC hga0.size
  have hrd0 := (show Hid _ from hrd0)
  have hR0 : v0 = .int .i64 a0 := hR0
  subst hR0
  go_wp2_with (refine zAb rfl _ _ _ rfl (w.heap.size + 1) 0 _ rfl rfl _ _ hv2 (show 0 < 2 by decide) (by kernel_rfl) rfl ?_; intro wb0 hv3 hgb0)
  have hv2 : Row wb0 (w.heap.size + 1) 58 [.int .i64 a0, .slice none 0 0] := hv3.out
  clear hv3
  have hG := zA2 hG hgb0 (.inr fun k hk => by cases hk; omega)
  have hS := hS.grown hgb0 (by omega)
  have hC := Nat.le_trans hC hgb0.size
  have hr := hr.grown hgb0 hne3
  refine (zD0 L _ r bv l _ hS).mono ?_
  rintro e wa1 ⟨hga1, ⟨hn, rfl⟩ | ⟨v1, a1, p1, hrd1, rfl, hR1, hS⟩⟩
  · go_wp2_with fail
    exact ⟨rfl, zBd.no (zA2 hG hga1 (.inl rfl)) (by simp [zAi, cP, hrd0.out, hn])⟩
  have hG := zA2 hG hga1 (.inl rfl)
  have hr := hr.grown hga1 hne1
  have hv2 := hv2.grown hga1 hne2
  have hC1 := hC
  have hC := Nat.le_trans hC hga1.size
  have hrd1 := (show Hid _ from hrd1)
  have f1 := hR1.mv (Mv.weak (L := w.heap.size + 2) hC1)
  go_wp2_with (first
    | (refine zAb rfl _ _ _ rfl (w.heap.size + 1) 1 _ rfl rfl _ _ hv2 (show 1 < 2 by decide) (by kernel_rfl) f1.one ?_; intro wb1 hv3 hgb1)
    | (refine zAa rfl _ _ rfl (w.heap.size + 1) rfl _ _ hv3.out _ Tryz.underlying58 rfl (by kernel_rfl) ?_; have hr := hr.grown hgb1 hne3)
    | (refine zA7 rfl _ _ _ rfl w.heap.size [.int .i64 a0, v1] rfl rfl _ _ hr (by rfl) (by kernel_rfl) (by intro u hu; simp only [List.mem_cons, List.not_mem_nil, or_false] at hu; rcases hu with rfl | rfl <;> first | rfl | exact f1.one) ?_; intro wz hrz hgz))
  have hv2 : Row wb1 (w.heap.size + 1) 58 [.int .i64 a0, v1] := hv3.out
  clear hv3
  have hG := zA2 hG hgb1 (.inr fun k hk => by cases hk; omega)
  have hS := hS.grown hgb1 (by omega)
  have hC := Nat.le_trans hC hgb1.size
  have f1 := f1.mv (Mv.from (L := w.heap.size + 2) hgb1 (by omega) zN)
  have hG := zA2 hG hgz (.inr fun k hk => by cases hk; omega)
  have hS := hS.grown hgz (by omega)
  have f1 := f1.mv (Mv.from (L := w.heap.size + 2) hgz (by omega) zN)
  have f1 := f1.mv (Mv.weak (L := w.heap.size) (by omega))
  have hrz := hrz.out
  refine bodyPost_ret (v := .agg ([.int .i64 a0, v1] : List Value).toArray) (results_cell_row rfl _ _ w.heap.size _ _ (0, 0) _ (by rfl) hrz Tryz.underlying58 rfl (by kernel_rfl)) rfl ?_
  exact ⟨hG, .inr ⟨_, (a0, a1), p1, by simp [zAi, cP, hrd0.out, hrd1.out], rfl, ⟨_, rfl, ⟨_, rfl, f1⟩⟩, hS⟩⟩
set_option maxHeartbeats 2000000 in
theorem zDd (L : Nat) (w : World) (r : Nat) (bv : Value) (l : List Int) (p : Nat) (hS : RS L w r bv l p) :
    Calls Tryz.prog 67 #[.pointer (some ⟨r, 0, none⟩)] w (zBd zBc (VA zCs) L w r bv l p) := by
  obtain ⟨w0, hw0⟩ : ∃ w0, w0 = (w.alloc (.cells ([.int .i64 0, .int .i64 0, .slice none 0 0, .slice none 0 0] : List Value).toArray 34)).alloc (.cells ([.int .i64 0, .int .i64 0, .slice none 0 0, .slice none 0 0] : List Value).toArray 34) := ⟨_, rfl⟩
  have hr : Row w0 w.heap.size 34 [.int .i64 0, .int .i64 0, .slice none 0 0, .slice none 0 0] := by rw [hw0]; exact zA4 (Row.new w 34 [.int .i64 0, .int .i64 0, .slice none 0 0, .slice none 0 0]) _
  have hv : Row w0 (w.heap.size + 1) 34 [.int .i64 0, .int .i64 0, .slice none 0 0, .slice none 0 0] := by
    rw [hw0]
    have := Row.new (w.alloc (.cells ([.int .i64 0, .int .i64 0, .slice none 0 0, .slice none 0 0] : List Value).toArray 34)) 34 [.int .i64 0, .int .i64 0, .slice none 0 0, .slice none 0 0]
    simpa using this
  have hB : Below w.heap.size w w0 := by rw [hw0]; exact ((Below.refl _ w).alloc zN _).alloc (by simp) _
  have hsz : w0.heap.size = w.heap.size + 2 := by rw [hw0]; simp
  have hG := zA8 hB (some r)
  have hS := hS.below hB
  have hLw := hS.hL
  have hrL := hS.hr
  have hLw0 : L ≤ w.heap.size := by have := ‹RS L w r bv l p›.hL; exact this
  have hne1 : (some r : Option Nat) ≠ some w.heap.size := fun e => by injection e with e; omega
  have hne2 : (some r : Option Nat) ≠ some (w.heap.size + 1) := fun e => by injection e with e; omega
  have hne3 : (some (w.heap.size + 1) : Option Nat) ≠ some w.heap.size := fun e => by injection e with e; omega
  have hC : w.heap.size + 2 ≤ w0.heap.size := by omega
  go_enter Tryz.func67, Tryz.ntmps67
  go_upto_region 2 with fail
  rw [← hw0]
  clear hw0 hsz
  have hv2 := hv
  go_wp2_with fail
  refine (zB9 L _ r bv l _ hS).mono ?_
  rintro e wa0 ⟨hga0, ⟨hn, rfl⟩ | ⟨v0, a0, p0, hrd0, rfl, hR0, hS⟩⟩
  · go_wp2_with fail
    exact ⟨rfl, zBd.no (zA2 hG hga0 (.inl rfl)) (by simp [zBc, cP, hn])⟩
  have hG := zA2 hG hga0 (.inl rfl)
  have hr := hr.grown hga0 hne1
  have hv2 := hv2.grown hga0 hne2
  have hC0 := hC
  have hC := Nat.le_trans hC hga0.size
  have hrd0 := (show Hid _ from hrd0)
  have hR0 : v0 = .int .i64 a0 := hR0
  subst hR0
  go_wp2_with (refine zAb rfl _ _ _ rfl (w.heap.size + 1) 0 _ rfl rfl _ _ hv2 (show 0 < 4 by decide) (by kernel_rfl) rfl ?_; intro wb0 hv3 hgb0)
  have hv2 : Row wb0 (w.heap.size + 1) 34 [.int .i64 a0, .int .i64 0, .slice none 0 0, .slice none 0 0] := hv3.out
  clear hv3
  have hG := zA2 hG hgb0 (.inr fun k hk => by cases hk; omega)
  have hS := hS.grown hgb0 (by omega)
  have hC := Nat.le_trans hC hgb0.size
  have hr := hr.grown hgb0 hne3
  refine (zB9 L _ r bv l _ hS).mono ?_
  rintro e wa1 ⟨hga1, ⟨hn, rfl⟩ | ⟨v1, a1, p1, hrd1, rfl, hR1, hS⟩⟩
  · go_wp2_with fail
    exact ⟨rfl, zBd.no (zA2 hG hga1 (.inl rfl)) (by simp [zBc, cP, hrd0.out, hn])⟩
  have hG := zA2 hG hga1 (.inl rfl)
  have hr := hr.grown hga1 hne1
  have hv2 := hv2.grown hga1 hne2
  have hC1 := hC
  have hC := Nat.le_trans hC hga1.size
  have hrd1 := (show Hid _ from hrd1)
  have hR1 : v1 = .int .i64 a1 := hR1
  subst hR1
  go_wp2_with (refine zAb rfl _ _ _ rfl (w.heap.size + 1) 1 _ rfl rfl _ _ hv2 (show 1 < 4 by decide) (by kernel_rfl) rfl ?_; intro wb1 hv3 hgb1)
  have hv2 : Row wb1 (w.heap.size + 1) 34 [.int .i64 a0, .int .i64 a1, .slice none 0 0, .slice none 0 0] := hv3.out
  clear hv3
  have hG := zA2 hG hgb1 (.inr fun k hk => by cases hk; omega)
  have hS := hS.grown hgb1 (by omega)
  have hC := Nat.le_trans hC hgb1.size
  have hr := hr.grown hgb1 hne3
  refine (zD0 L _ r bv l _ hS).mono ?_
  rintro e wa2 ⟨hga2, ⟨hn, rfl⟩ | ⟨v2, a2, p2, hrd2, rfl, hR2, hS⟩⟩
  · go_wp2_with fail
    exact ⟨rfl, zBd.no (zA2 hG hga2 (.inl rfl)) (by simp [zBc, cP, hrd0.out, hrd1.out, hn])⟩
  have hG := zA2 hG hga2 (.inl rfl)
  have hr := hr.grown hga2 hne1
  have hv2 := hv2.grown hga2 hne2
  have hC2 := hC
  have hC := Nat.le_trans hC hga2.size
  have hrd2 := (show Hid _ from hrd2)
  have f2 := hR2.mv (Mv.weak (L := w.heap.size + 2) hC2)
  go_wp2_with (refine zAb rfl _ _ _ rfl (w.heap.size + 1) 2 _ rfl rfl _ _ hv2 (show 2 < 4 by decide) (by kernel_rfl) f2.one ?_; intro wb2 hv3 hgb2)
  have hv2 : Row wb2 (w.heap.size + 1) 34 [.int .i64 a0, .int .i64 a1, v2, .slice none 0 0] := hv3.out
  clear hv3
  have hG := zA2 hG hgb2 (.inr fun k hk => by cases hk; omega)
  have hS := hS.grown hgb2 (by omega)
  have hC := Nat.le_trans hC hgb2.size
  have hr := hr.grown hgb2 hne3
  have f2 := f2.mv (Mv.from (L := w.heap.size + 2) hgb2 (by omega) zN)
  refine (zD0 L _ r bv l _ hS).mono ?_
  rintro e wa3 ⟨hga3, ⟨hn, rfl⟩ | ⟨v3, a3, p3, hrd3, rfl, hR3, hS⟩⟩
  · go_wp2_with fail
    exact ⟨rfl, zBd.no (zA2 hG hga3 (.inl rfl)) (by simp [zBc, cP, hrd0.out, hrd1.out, hrd2.out, hn])⟩
  have hG := zA2 hG hga3 (.inl rfl)
  have hr := hr.grown hga3 hne1
  have hv2 := hv2.grown hga3 hne2
  have hC3 := hC
  have hC := Nat.le_trans hC hga3.size
  have f2 := f2.mv (Mv.from (L := w.heap.size + 2) hga3 (by omega) zN)
  have hrd3 := (show Hid _ from hrd3)
  have f3 := hR3.mv (Mv.weak (L := w.heap.size + 2) hC3)
  go_wp2_with (first
    | (refine zAb rfl _ _ _ rfl (w.heap.size + 1) 3 _ rfl rfl _ _ hv2 (show 3 < 4 by decide) (by kernel_rfl) f3.one ?_; intro wb3 hv3 hgb3)
    | (refine zAa rfl _ _ rfl (w.heap.size + 1) rfl _ _ hv3.out _ Tryz.underlying34 rfl (by kernel_rfl) ?_; have hr := hr.grown hgb3 hne3)
    | (refine zA7 rfl _ _ _ rfl w.heap.size [.int .i64 a0, .int .i64 a1, v2, v3] rfl rfl _ _ hr (by rfl) (by kernel_rfl) (by intro u hu; simp only [List.mem_cons, List.not_mem_nil, or_false] at hu; rcases hu with rfl | rfl | rfl | rfl <;> first | rfl | exact f2.one | exact f3.one) ?_; intro wz hrz hgz))
  have hv2 : Row wb3 (w.heap.size + 1) 34 [.int .i64 a0, .int .i64 a1, v2, v3] := hv3.out
  clear hv3
  have hG := zA2 hG hgb3 (.inr fun k hk => by cases hk; omega)
  have hS := hS.grown hgb3 (by omega)
  have hC := Nat.le_trans hC hgb3.size
  have f2 := f2.mv (Mv.from (L := w.heap.size + 2) hgb3 (by omega) zN)
  have f3 := f3.mv (Mv.from (L := w.heap.size + 2) hgb3 (by omega) zN)
  have hG := zA2 hG hgz (.inr fun k hk => by cases hk; omega)
  have hS := hS.grown hgz (by omega)
  have f2 := f2.mv (Mv.from (L := w.heap.size + 2) hgz (by omega) zN)
  have f3 := f3.mv (Mv.from (L := w.heap.size + 2) hgz (by omega) zN)
  have f2 := f2.mv (Mv.weak (L := w.heap.size) (by omega))
  have f3 := f3.mv (Mv.weak (L := w.heap.size) (by omega))
  have hrz := hrz.out
  refine bodyPost_ret (v := .agg ([.int .i64 a0, .int .i64 a1, v2, v3] : List Value).toArray) (results_cell_row rfl _ _ w.heap.size _ _ (0, 0) _ (by rfl) hrz Tryz.underlying34 rfl (by kernel_rfl)) rfl ?_
  exact ⟨hG, .inr ⟨_, (a0, a1, a2, a3), p3, by simp [zBc, cP, hrd0.out, hrd1.out, hrd2.out, hrd3.out], rfl, ⟨_, rfl, ⟨_, _, rfl, f2, f3⟩⟩, hS⟩⟩
theorem Tryz.inf_votes : (Tryz.prog.info? 58).map (fun i => (i.zero, i.size, i.bytes)) = some (some (.agg #[.int .i64 0, .slice none 0 0]), 2, 32) := by kernel_rfl
set_option maxHeartbeats 2000000 in
theorem zEt (L : Nat) (w : World) (r : Nat) (bv : Value) (l : List Int) (p : Nat) (hS : RS L w r bv l p) :
    Calls Tryz.prog 69 #[.pointer (some ⟨r, 0, none⟩), .func (.func 70) #[.pointer (some ⟨r, 0, none⟩)] #[]] w (zBd (cL zAi) (RL zAz 2) L w r bv l p) := by
  have hLw := hS.hL
  have hrL := hS.hr
  have hbl := hS.rd.1.1
  go_enter Tryz.func69, Tryz.ntmps69
  go_wp2_with fail
  refine (zB9 L _ r bv l _ hS).mono ?_
  rintro e w1 ⟨hg1, ⟨hn, rfl⟩ | ⟨v1, n, p1, hrd1, rfl, hR1, hS1⟩⟩
  · go_wp2_with fail
    exact ⟨rfl, zBd.no hg1 (by simp [cL, hn])⟩
  have hR1 : v1 = .int .i64 n := hR1
  subst hR1
  have hn0 : 0 ≤ n := (zGc (zBt.bwd _ _ _ (hbl.drop p) hrd1).1).1
  obtain ⟨N, rfl⟩ := Int.eq_ofNat_of_zero_le hn0
  have HR1 := (show Hid (cN.rd (l.drop p) = some ((N : Int), l.drop p1)) from hrd1)
  clear hrd1 hn0 hS
  by_cases hN : (64 : Int) < (N : Int)
  · go_wp2_with fail
    exact ⟨rfl, zBd.no hg1 (by simp only [cL, HR1.out, Option.bind_some]; rw [if_pos hN])⟩
  go_wp2_with fail
  go_loopw [6, 13] (fun v i wr => ∃ (q pq : Nat) (ys : List zAy), q ≤ N ∧ i = .int .i64 q ∧ ys.length = q ∧ Hid (rdN zAi q (l.drop p1) = some (ys, l.drop pq)) ∧ LB zAz 58 2 w.heap.size wr v ys ∧ RS L wr r bv l pq ∧ w.grownBy wr (some r)) (fun _ i _ => N - (intOf i).toNat)
  case atStart => exact ⟨0, p1, [], by omega, rfl, rfl, rfl, LB.nil _ _ _ _ _, hS1, hg1⟩
  case round =>
    obtain ⟨q, pq, ys, hq, rfl, hyl, hrdq, hLB, hSr, hGr⟩ := hrel
    by_cases hqN : q < N
    · go_wp2_with fail
      refine (zT0 L _ r bv l _ hSr).mono ?_
      rintro e w3 ⟨hg3, ⟨hn, rfl⟩ | ⟨v3, y, p3, hrd3, rfl, hR3, hS3⟩⟩
      · have HN := (show Hid ((cL zAi).rd (l.drop p) = none) from zEd (by omega) HR1.out hqN hrdq.out hn)
        clear hn
        go_wp2_with fail
        exact ⟨rfl, zBd.no (zA2 hGr hg3 (.inl rfl)) HN.out⟩
      have HR3 := (show Hid (rdN zAi (q + 1) (l.drop p1) = some (ys ++ [y], l.drop p3)) from by show _ = _; rw [zCt, hrdq.out]; simp [hrd3])
      clear hrd3
      obtain ⟨cs, rfl, hRc⟩ := hR3
      have hc1 := zD2 hRc
      have hcl : cs.length = 2 := zUc hRc
      have hRd := hRc
      obtain ⟨s, rfl, _⟩ := hRd
      have hLB3 := hLB.grown zA9 hg3 (by omega)
      have hBs : w.heap.size ≤ wr.heap.size := hGr.size
      go_wp2_with (at_builtin; refine zCq zA9 rfl _ _ _ rfl 58 2 32 _ Tryz.underlying35 Tryz.inf_votes rfl (by decide) w.heap.size u6 ys rfl hLB3 [.int .i64 y.1, s] y wr.heap.size hRc hcl hc1 hBs hLB.lt rfl (Nat.le_trans hBs hg3.size) (by rw [hyl]; omega) (by decide) ?_; intro v4 w4 hLB4 hg4)
      have hG4 := zA2 (zA2 hGr hg3 (.inl rfl)) hg4 (.inr fun k hk => hLB.fr k hk)
      have hS4 := RS.own hS3 hg4 (fun k hk => Nat.le_trans (by omega) (hLB.fr k hk))
      go_roundw
      case rel => exact ⟨q + 1, p3, ys ++ [y], by omega, by go_num, by simp [hyl], HR3, hLB4, hS4, hG4⟩
      case measure => simp [intOf]; omega
    · obtain rfl : q = N := by omega
      have HE := (show Hid ((cL zAi).rd (l.drop p) = some (ys, l.drop pq)) from zE9 (by omega) HR1.out hrdq.out)
      have hrl := hLB.rl zA9
      have hvo := hLB.form
      go_wp2_with fail
      go_ret
      exact ⟨hGr, .inr ⟨_, ys, pq, HE.out, rfl, hrl, hSr⟩⟩
end
end Go.Proofs.YtgjepofinpmcpaaGreatDoor
