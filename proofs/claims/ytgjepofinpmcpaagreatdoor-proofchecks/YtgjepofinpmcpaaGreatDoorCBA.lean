/- The walks over package msg: records and lists read. (Laid by mk5r.py.) -/
import Derived.Test.YtgjepofinpmcpaaGreatDoorCAU
import Derived.Test.YtgjepofinpmcpaaGreatDoorCAJ
import Derived.Deep.Cut
set_option linter.unusedSimpArgs false
set_option linter.unusedVariables false
namespace Go.Proofs.YtgjepofinpmcpaaGreatDoor
open Go.RowKit Oct

theorem one_bal {a b : Int} : ∀ v ∈ [Value.int .i64 a, Value.int .i64 b], v.oneCell' = true := by
  intro v hv
  simp only [List.mem_cons, List.not_mem_nil, or_false] at hv
  rcases hv with rfl | rfl <;> rfl
theorem len_RVote {G : Nat → Prop} {w : World} {r : List Value} {x : PVote} (h : RVote G w r x) : r.length = 2 := by obtain ⟨s, rfl, _⟩ := h; rfl
theorem len_RReq {G : Nat → Prop} {w : World} {r : List Value} {x : PReq} (h : RReq G w r x) : r.length = 4 := by obtain ⟨o, g, rfl, _⟩ := h; rfl
theorem len_RPrep {G : Nat → Prop} {w : World} {r : List Value} {x : PPrep} (h : RPrep G w r x) : r.length = 8 := by obtain ⟨o, g, c, rfl, _⟩ := h; rfl
theorem len_RRep {G : Nat → Prop} {w : World} {r : List Value} {x : PRep} (h : RRep G w r x) : r.length = 8 := by obtain ⟨d, s, p, g, rfl, _⟩ := h; rfl
def RB (_ : Nat → Prop) (_ : World) (r : List Value) (x : PBal) : Prop := r = [.int .i64 x.1, .int .i64 x.2]
theorem RS.own {L : Nat} {w w' : World} {r : Nat} {bv : Value} {l : List Int} {p : Nat} (h : RS L w r bv l p) {row : Option Nat} (hg : w.grownBy w' row) (hb : ∀ k, row = some k → L ≤ k) : RS L w' r bv l p :=
  ⟨h.row.grown hg (fun e => by have := hb r e; have := h.hr; omega), h.rd.mv fun k hk hlt => ⟨hg.block k hlt (fun e => by have := hb k e.symm; have := hk.1; omega), hk⟩, h.hp, Nat.le_trans h.hL hg.size, h.hr, h.hl⟩
theorem list_gone {α : Type} {c : Cdc α} {l l1 l2 : List Int} {N q : Nat} {ys : List α} (hN : ¬ (64 : Int) < (N : Int)) (h1 : cN.rd l = some ((N : Int), l1)) (hq : q < N) (h2 : rdN c q l1 = some (ys, l2)) (h3 : c.rd l2 = none) : (cL c).rd l = none := by
  simp only [cL, h1, Option.bind_some]
  rw [if_neg hN, Int.toNat_natCast]
  refine rdN_none (n := q + 1) ?_ N (by omega)
  rw [rdN_snoc, h2]
  simp [h3]
theorem list_read {α : Type} {c : Cdc α} {l l1 l2 : List Int} {N : Nat} {ys : List α} (hN : ¬ (64 : Int) < (N : Int)) (h1 : cN.rd l = some ((N : Int), l1)) (h2 : rdN c N l1 = some (ys, l2)) : (cL c).rd l = some (ys, l2) := by
  simp only [cL, h1, Option.bind_some]
  rw [if_neg hN, Int.toNat_natCast, h2]

set_option maxHeartbeats 2000000 in
/-- ballot. -/
theorem rballot_any (L : Nat) (w : World) (r : Nat) (bv : Value) (l : List Int) (p : Nat) (hS : RS L w r bv l p) :
    Calls Tryz.prog 66 #[.pointer (some ⟨r, 0, none⟩)] w (RPost cBal (VA RB) L w r bv l p) := by
  obtain ⟨w0, hw0⟩ : ∃ w0, w0 = (w.alloc (.cells ([.int .i64 0, .int .i64 0] : List Value).toArray 32)).alloc (.cells ([.int .i64 0, .int .i64 0] : List Value).toArray 32) := ⟨_, rfl⟩
  have hr : Row w0 w.heap.size 32 [.int .i64 0, .int .i64 0] := by rw [hw0]; exact row_alloc (Row.new w 32 [.int .i64 0, .int .i64 0]) _
  have hv : Row w0 (w.heap.size + 1) 32 [.int .i64 0, .int .i64 0] := by
    rw [hw0]
    have := Row.new (w.alloc (.cells ([.int .i64 0, .int .i64 0] : List Value).toArray 32)) 32 [.int .i64 0, .int .i64 0]
    simpa using this
  have hB : Below w.heap.size w w0 := by rw [hw0]; exact ((Below.refl _ w).alloc (Nat.le_refl _) _).alloc (by simp) _
  have hsz : w0.heap.size = w.heap.size + 2 := by rw [hw0]; simp
  have hG := grown_of_below hB (some r)
  have hS := hS.below hB
  have hLw := hS.hL
  have hrL := hS.hr
  have hLw0 : L ≤ w.heap.size := by have := ‹RS L w r bv l p›.hL; exact this
  have hne1 : (some r : Option Nat) ≠ some w.heap.size := fun e => by injection e with e; omega
  have hne2 : (some r : Option Nat) ≠ some (w.heap.size + 1) := fun e => by injection e with e; omega
  have hne3 : (some (w.heap.size + 1) : Option Nat) ≠ some w.heap.size := fun e => by injection e with e; omega
  have hC : w.heap.size + 2 ≤ w0.heap.size := by omega
  go_enter Tryz.func66, Tryz.ntmps66
  go_upto_region 2 with fail
  rw [← hw0]
  clear hw0 hsz
  have hv2 := hv
  go_wp2_with fail
  refine (rnum_any L _ r bv l _ hS).mono ?_
  rintro e wa0 ⟨hga0, ⟨hn, rfl⟩ | ⟨v0, a0, p0, hrd0, rfl, hR0, hS⟩⟩
  · go_wp2_with fail
    exact ⟨rfl, RPost.no (grown_trans hG hga0 (.inl rfl)) (by simp [cBal, cP, hn])⟩
  have hG := grown_trans hG hga0 (.inl rfl)
  have hr := hr.grown hga0 hne1
  have hv2 := hv2.grown hga0 hne2
  have hC0 := hC
  have hC := Nat.le_trans hC hga0.size
  have hrd0 := (show Hid _ from hrd0)
  have hR0 : v0 = .int .i64 a0 := hR0
  subst hR0
  go_wp2_with (refine wl_set rfl _ _ _ rfl (w.heap.size + 1) 0 _ rfl rfl _ _ hv2 (show 0 < 2 by decide) (by kernel_rfl) rfl ?_; intro wb0 hv3 hgb0)
  have hv2 : Row wb0 (w.heap.size + 1) 32 [.int .i64 a0, .int .i64 0] := hv3.out
  clear hv3
  have hG := grown_trans hG hgb0 (.inr fun k hk => by cases hk; omega)
  have hS := hS.grown hgb0 (by omega)
  have hC := Nat.le_trans hC hgb0.size
  have hr := hr.grown hgb0 hne3
  refine (rnum_any L _ r bv l _ hS).mono ?_
  rintro e wa1 ⟨hga1, ⟨hn, rfl⟩ | ⟨v1, a1, p1, hrd1, rfl, hR1, hS⟩⟩
  · go_wp2_with fail
    exact ⟨rfl, RPost.no (grown_trans hG hga1 (.inl rfl)) (by simp [cBal, cP, hrd0.out, hn])⟩
  have hG := grown_trans hG hga1 (.inl rfl)
  have hr := hr.grown hga1 hne1
  have hv2 := hv2.grown hga1 hne2
  have hC1 := hC
  have hC := Nat.le_trans hC hga1.size
  have hrd1 := (show Hid _ from hrd1)
  have hR1 : v1 = .int .i64 a1 := hR1
  subst hR1
  go_wp2_with (first
    | (refine wl_set rfl _ _ _ rfl (w.heap.size + 1) 1 _ rfl rfl _ _ hv2 (show 1 < 2 by decide) (by kernel_rfl) rfl ?_; intro wb1 hv3 hgb1)
    | (refine wl_load rfl _ _ rfl (w.heap.size + 1) rfl _ _ hv3.out _ Tryz.underlying32 rfl (by kernel_rfl) ?_; have hr := hr.grown hgb1 hne3)
    | (refine wl_store rfl _ _ _ rfl w.heap.size [.int .i64 a0, .int .i64 a1] rfl rfl _ _ hr (by rfl) (by kernel_rfl) (by intro u hu; simp only [List.mem_cons, List.not_mem_nil, or_false] at hu; rcases hu with rfl | rfl <;> first | rfl) ?_; intro wz hrz hgz))
  have hv2 : Row wb1 (w.heap.size + 1) 32 [.int .i64 a0, .int .i64 a1] := hv3.out
  clear hv3
  have hG := grown_trans hG hgb1 (.inr fun k hk => by cases hk; omega)
  have hS := hS.grown hgb1 (by omega)
  have hC := Nat.le_trans hC hgb1.size
  have hG := grown_trans hG hgz (.inr fun k hk => by cases hk; omega)
  have hS := hS.grown hgz (by omega)
  have hrz := hrz.out
  refine bodyPost_ret (v := .agg ([.int .i64 a0, .int .i64 a1] : List Value).toArray) (results_cell_row rfl _ _ w.heap.size _ _ (0, 0) _ (by rfl) hrz Tryz.underlying32 rfl (by kernel_rfl)) rfl ?_
  exact ⟨hG, .inr ⟨_, (a0, a1), p1, by simp [cBal, cP, hrd0.out, hrd1.out], rfl, ⟨_, rfl, rfl⟩, hS⟩⟩
set_option maxHeartbeats 2000000 in
/-- vote. -/
theorem rvote_any (L : Nat) (w : World) (r : Nat) (bv : Value) (l : List Int) (p : Nat) (hS : RS L w r bv l p) :
    Calls Tryz.prog 70 #[.pointer (some ⟨r, 0, none⟩)] w (RPost cVote (VA RVote) L w r bv l p) := by
  obtain ⟨w0, hw0⟩ : ∃ w0, w0 = (w.alloc (.cells ([.int .i64 0, .slice none 0 0] : List Value).toArray 58)).alloc (.cells ([.int .i64 0, .slice none 0 0] : List Value).toArray 58) := ⟨_, rfl⟩
  have hr : Row w0 w.heap.size 58 [.int .i64 0, .slice none 0 0] := by rw [hw0]; exact row_alloc (Row.new w 58 [.int .i64 0, .slice none 0 0]) _
  have hv : Row w0 (w.heap.size + 1) 58 [.int .i64 0, .slice none 0 0] := by
    rw [hw0]
    have := Row.new (w.alloc (.cells ([.int .i64 0, .slice none 0 0] : List Value).toArray 58)) 58 [.int .i64 0, .slice none 0 0]
    simpa using this
  have hB : Below w.heap.size w w0 := by rw [hw0]; exact ((Below.refl _ w).alloc (Nat.le_refl _) _).alloc (by simp) _
  have hsz : w0.heap.size = w.heap.size + 2 := by rw [hw0]; simp
  have hG := grown_of_below hB (some r)
  have hS := hS.below hB
  have hLw := hS.hL
  have hrL := hS.hr
  have hLw0 : L ≤ w.heap.size := by have := ‹RS L w r bv l p›.hL; exact this
  have hne1 : (some r : Option Nat) ≠ some w.heap.size := fun e => by injection e with e; omega
  have hne2 : (some r : Option Nat) ≠ some (w.heap.size + 1) := fun e => by injection e with e; omega
  have hne3 : (some (w.heap.size + 1) : Option Nat) ≠ some w.heap.size := fun e => by injection e with e; omega
  have hC : w.heap.size + 2 ≤ w0.heap.size := by omega
  go_enter Tryz.func70, Tryz.ntmps70
  go_upto_region 2 with fail
  rw [← hw0]
  clear hw0 hsz
  have hv2 := hv
  go_wp2_with fail
  refine (rnum_any L _ r bv l _ hS).mono ?_
  rintro e wa0 ⟨hga0, ⟨hn, rfl⟩ | ⟨v0, a0, p0, hrd0, rfl, hR0, hS⟩⟩
  · go_wp2_with fail
    exact ⟨rfl, RPost.no (grown_trans hG hga0 (.inl rfl)) (by simp [cVote, cP, hn])⟩
  have hG := grown_trans hG hga0 (.inl rfl)
  have hr := hr.grown hga0 hne1
  have hv2 := hv2.grown hga0 hne2
  have hC0 := hC
  have hC := Nat.le_trans hC hga0.size
  have hrd0 := (show Hid _ from hrd0)
  have hR0 : v0 = .int .i64 a0 := hR0
  subst hR0
  go_wp2_with (refine wl_set rfl _ _ _ rfl (w.heap.size + 1) 0 _ rfl rfl _ _ hv2 (show 0 < 2 by decide) (by kernel_rfl) rfl ?_; intro wb0 hv3 hgb0)
  have hv2 : Row wb0 (w.heap.size + 1) 58 [.int .i64 a0, .slice none 0 0] := hv3.out
  clear hv3
  have hG := grown_trans hG hgb0 (.inr fun k hk => by cases hk; omega)
  have hS := hS.grown hgb0 (by omega)
  have hC := Nat.le_trans hC hgb0.size
  have hr := hr.grown hgb0 hne3
  refine (rtext_any L _ r bv l _ hS).mono ?_
  rintro e wa1 ⟨hga1, ⟨hn, rfl⟩ | ⟨v1, a1, p1, hrd1, rfl, hR1, hS⟩⟩
  · go_wp2_with fail
    exact ⟨rfl, RPost.no (grown_trans hG hga1 (.inl rfl)) (by simp [cVote, cP, hrd0.out, hn])⟩
  have hG := grown_trans hG hga1 (.inl rfl)
  have hr := hr.grown hga1 hne1
  have hv2 := hv2.grown hga1 hne2
  have hC1 := hC
  have hC := Nat.le_trans hC hga1.size
  have hrd1 := (show Hid _ from hrd1)
  have f1 := hR1.mv (Mv.weak (L := w.heap.size + 2) hC1)
  go_wp2_with (first
    | (refine wl_set rfl _ _ _ rfl (w.heap.size + 1) 1 _ rfl rfl _ _ hv2 (show 1 < 2 by decide) (by kernel_rfl) f1.one ?_; intro wb1 hv3 hgb1)
    | (refine wl_load rfl _ _ rfl (w.heap.size + 1) rfl _ _ hv3.out _ Tryz.underlying58 rfl (by kernel_rfl) ?_; have hr := hr.grown hgb1 hne3)
    | (refine wl_store rfl _ _ _ rfl w.heap.size [.int .i64 a0, v1] rfl rfl _ _ hr (by rfl) (by kernel_rfl) (by intro u hu; simp only [List.mem_cons, List.not_mem_nil, or_false] at hu; rcases hu with rfl | rfl <;> first | rfl | exact f1.one) ?_; intro wz hrz hgz))
  have hv2 : Row wb1 (w.heap.size + 1) 58 [.int .i64 a0, v1] := hv3.out
  clear hv3
  have hG := grown_trans hG hgb1 (.inr fun k hk => by cases hk; omega)
  have hS := hS.grown hgb1 (by omega)
  have hC := Nat.le_trans hC hgb1.size
  have f1 := f1.mv (Mv.from (L := w.heap.size + 2) hgb1 (by omega) (Nat.le_refl _))
  have hG := grown_trans hG hgz (.inr fun k hk => by cases hk; omega)
  have hS := hS.grown hgz (by omega)
  have f1 := f1.mv (Mv.from (L := w.heap.size + 2) hgz (by omega) (Nat.le_refl _))
  have f1 := f1.mv (Mv.weak (L := w.heap.size) (by omega))
  have hrz := hrz.out
  refine bodyPost_ret (v := .agg ([.int .i64 a0, v1] : List Value).toArray) (results_cell_row rfl _ _ w.heap.size _ _ (0, 0) _ (by rfl) hrz Tryz.underlying58 rfl (by kernel_rfl)) rfl ?_
  exact ⟨hG, .inr ⟨_, (a0, a1), p1, by simp [cVote, cP, hrd0.out, hrd1.out], rfl, ⟨_, rfl, ⟨_, rfl, f1⟩⟩, hS⟩⟩
set_option maxHeartbeats 2000000 in
/-- request. -/
theorem rrequest_any (L : Nat) (w : World) (r : Nat) (bv : Value) (l : List Int) (p : Nat) (hS : RS L w r bv l p) :
    Calls Tryz.prog 67 #[.pointer (some ⟨r, 0, none⟩)] w (RPost cReq (VA RReq) L w r bv l p) := by
  obtain ⟨w0, hw0⟩ : ∃ w0, w0 = (w.alloc (.cells ([.int .i64 0, .int .i64 0, .slice none 0 0, .slice none 0 0] : List Value).toArray 34)).alloc (.cells ([.int .i64 0, .int .i64 0, .slice none 0 0, .slice none 0 0] : List Value).toArray 34) := ⟨_, rfl⟩
  have hr : Row w0 w.heap.size 34 [.int .i64 0, .int .i64 0, .slice none 0 0, .slice none 0 0] := by rw [hw0]; exact row_alloc (Row.new w 34 [.int .i64 0, .int .i64 0, .slice none 0 0, .slice none 0 0]) _
  have hv : Row w0 (w.heap.size + 1) 34 [.int .i64 0, .int .i64 0, .slice none 0 0, .slice none 0 0] := by
    rw [hw0]
    have := Row.new (w.alloc (.cells ([.int .i64 0, .int .i64 0, .slice none 0 0, .slice none 0 0] : List Value).toArray 34)) 34 [.int .i64 0, .int .i64 0, .slice none 0 0, .slice none 0 0]
    simpa using this
  have hB : Below w.heap.size w w0 := by rw [hw0]; exact ((Below.refl _ w).alloc (Nat.le_refl _) _).alloc (by simp) _
  have hsz : w0.heap.size = w.heap.size + 2 := by rw [hw0]; simp
  have hG := grown_of_below hB (some r)
  have hS := hS.below hB
  have hLw := hS.hL
  have hrL := hS.hr
  have hLw0 : L ≤ w.heap.size := by have := ‹RS L w r bv l p›.hL; exact this
  have hne1 : (some r : Option Nat) ≠ some w.heap.size := fun e => by injection e with e; omega
  have hne2 : (some r : Option Nat) ≠ some (w.heap.size + 1) := fun e => by injection e with e; omega
  have hne3 : (some (w.heap.size + 1) : Option Nat) ≠ some w.heap.size := fun e => by injection e with e; omega
  have hC : w.heap.size + 2 ≤ w0.heap.size := by omega
  go_enter Tryz.func67, Tryz.ntmps67
  go_upto_region 2 with fail
  rw [← hw0]
  clear hw0 hsz
  have hv2 := hv
  go_wp2_with fail
  refine (rnum_any L _ r bv l _ hS).mono ?_
  rintro e wa0 ⟨hga0, ⟨hn, rfl⟩ | ⟨v0, a0, p0, hrd0, rfl, hR0, hS⟩⟩
  · go_wp2_with fail
    exact ⟨rfl, RPost.no (grown_trans hG hga0 (.inl rfl)) (by simp [cReq, cP, hn])⟩
  have hG := grown_trans hG hga0 (.inl rfl)
  have hr := hr.grown hga0 hne1
  have hv2 := hv2.grown hga0 hne2
  have hC0 := hC
  have hC := Nat.le_trans hC hga0.size
  have hrd0 := (show Hid _ from hrd0)
  have hR0 : v0 = .int .i64 a0 := hR0
  subst hR0
  go_wp2_with (refine wl_set rfl _ _ _ rfl (w.heap.size + 1) 0 _ rfl rfl _ _ hv2 (show 0 < 4 by decide) (by kernel_rfl) rfl ?_; intro wb0 hv3 hgb0)
  have hv2 : Row wb0 (w.heap.size + 1) 34 [.int .i64 a0, .int .i64 0, .slice none 0 0, .slice none 0 0] := hv3.out
  clear hv3
  have hG := grown_trans hG hgb0 (.inr fun k hk => by cases hk; omega)
  have hS := hS.grown hgb0 (by omega)
  have hC := Nat.le_trans hC hgb0.size
  have hr := hr.grown hgb0 hne3
  refine (rnum_any L _ r bv l _ hS).mono ?_
  rintro e wa1 ⟨hga1, ⟨hn, rfl⟩ | ⟨v1, a1, p1, hrd1, rfl, hR1, hS⟩⟩
  · go_wp2_with fail
    exact ⟨rfl, RPost.no (grown_trans hG hga1 (.inl rfl)) (by simp [cReq, cP, hrd0.out, hn])⟩
  have hG := grown_trans hG hga1 (.inl rfl)
  have hr := hr.grown hga1 hne1
  have hv2 := hv2.grown hga1 hne2
  have hC1 := hC
  have hC := Nat.le_trans hC hga1.size
  have hrd1 := (show Hid _ from hrd1)
  have hR1 : v1 = .int .i64 a1 := hR1
  subst hR1
  go_wp2_with (refine wl_set rfl _ _ _ rfl (w.heap.size + 1) 1 _ rfl rfl _ _ hv2 (show 1 < 4 by decide) (by kernel_rfl) rfl ?_; intro wb1 hv3 hgb1)
  have hv2 : Row wb1 (w.heap.size + 1) 34 [.int .i64 a0, .int .i64 a1, .slice none 0 0, .slice none 0 0] := hv3.out
  clear hv3
  have hG := grown_trans hG hgb1 (.inr fun k hk => by cases hk; omega)
  have hS := hS.grown hgb1 (by omega)
  have hC := Nat.le_trans hC hgb1.size
  have hr := hr.grown hgb1 hne3
  refine (rtext_any L _ r bv l _ hS).mono ?_
  rintro e wa2 ⟨hga2, ⟨hn, rfl⟩ | ⟨v2, a2, p2, hrd2, rfl, hR2, hS⟩⟩
  · go_wp2_with fail
    exact ⟨rfl, RPost.no (grown_trans hG hga2 (.inl rfl)) (by simp [cReq, cP, hrd0.out, hrd1.out, hn])⟩
  have hG := grown_trans hG hga2 (.inl rfl)
  have hr := hr.grown hga2 hne1
  have hv2 := hv2.grown hga2 hne2
  have hC2 := hC
  have hC := Nat.le_trans hC hga2.size
  have hrd2 := (show Hid _ from hrd2)
  have f2 := hR2.mv (Mv.weak (L := w.heap.size + 2) hC2)
  go_wp2_with (refine wl_set rfl _ _ _ rfl (w.heap.size + 1) 2 _ rfl rfl _ _ hv2 (show 2 < 4 by decide) (by kernel_rfl) f2.one ?_; intro wb2 hv3 hgb2)
  have hv2 : Row wb2 (w.heap.size + 1) 34 [.int .i64 a0, .int .i64 a1, v2, .slice none 0 0] := hv3.out
  clear hv3
  have hG := grown_trans hG hgb2 (.inr fun k hk => by cases hk; omega)
  have hS := hS.grown hgb2 (by omega)
  have hC := Nat.le_trans hC hgb2.size
  have hr := hr.grown hgb2 hne3
  have f2 := f2.mv (Mv.from (L := w.heap.size + 2) hgb2 (by omega) (Nat.le_refl _))
  refine (rtext_any L _ r bv l _ hS).mono ?_
  rintro e wa3 ⟨hga3, ⟨hn, rfl⟩ | ⟨v3, a3, p3, hrd3, rfl, hR3, hS⟩⟩
  · go_wp2_with fail
    exact ⟨rfl, RPost.no (grown_trans hG hga3 (.inl rfl)) (by simp [cReq, cP, hrd0.out, hrd1.out, hrd2.out, hn])⟩
  have hG := grown_trans hG hga3 (.inl rfl)
  have hr := hr.grown hga3 hne1
  have hv2 := hv2.grown hga3 hne2
  have hC3 := hC
  have hC := Nat.le_trans hC hga3.size
  have f2 := f2.mv (Mv.from (L := w.heap.size + 2) hga3 (by omega) (Nat.le_refl _))
  have hrd3 := (show Hid _ from hrd3)
  have f3 := hR3.mv (Mv.weak (L := w.heap.size + 2) hC3)
  go_wp2_with (first
    | (refine wl_set rfl _ _ _ rfl (w.heap.size + 1) 3 _ rfl rfl _ _ hv2 (show 3 < 4 by decide) (by kernel_rfl) f3.one ?_; intro wb3 hv3 hgb3)
    | (refine wl_load rfl _ _ rfl (w.heap.size + 1) rfl _ _ hv3.out _ Tryz.underlying34 rfl (by kernel_rfl) ?_; have hr := hr.grown hgb3 hne3)
    | (refine wl_store rfl _ _ _ rfl w.heap.size [.int .i64 a0, .int .i64 a1, v2, v3] rfl rfl _ _ hr (by rfl) (by kernel_rfl) (by intro u hu; simp only [List.mem_cons, List.not_mem_nil, or_false] at hu; rcases hu with rfl | rfl | rfl | rfl <;> first | rfl | exact f2.one | exact f3.one) ?_; intro wz hrz hgz))
  have hv2 : Row wb3 (w.heap.size + 1) 34 [.int .i64 a0, .int .i64 a1, v2, v3] := hv3.out
  clear hv3
  have hG := grown_trans hG hgb3 (.inr fun k hk => by cases hk; omega)
  have hS := hS.grown hgb3 (by omega)
  have hC := Nat.le_trans hC hgb3.size
  have f2 := f2.mv (Mv.from (L := w.heap.size + 2) hgb3 (by omega) (Nat.le_refl _))
  have f3 := f3.mv (Mv.from (L := w.heap.size + 2) hgb3 (by omega) (Nat.le_refl _))
  have hG := grown_trans hG hgz (.inr fun k hk => by cases hk; omega)
  have hS := hS.grown hgz (by omega)
  have f2 := f2.mv (Mv.from (L := w.heap.size + 2) hgz (by omega) (Nat.le_refl _))
  have f3 := f3.mv (Mv.from (L := w.heap.size + 2) hgz (by omega) (Nat.le_refl _))
  have f2 := f2.mv (Mv.weak (L := w.heap.size) (by omega))
  have f3 := f3.mv (Mv.weak (L := w.heap.size) (by omega))
  have hrz := hrz.out
  refine bodyPost_ret (v := .agg ([.int .i64 a0, .int .i64 a1, v2, v3] : List Value).toArray) (results_cell_row rfl _ _ w.heap.size _ _ (0, 0) _ (by rfl) hrz Tryz.underlying34 rfl (by kernel_rfl)) rfl ?_
  exact ⟨hG, .inr ⟨_, (a0, a1, a2, a3), p3, by simp [cReq, cP, hrd0.out, hrd1.out, hrd2.out, hrd3.out], rfl, ⟨_, rfl, ⟨_, _, rfl, f2, f3⟩⟩, hS⟩⟩
theorem Tryz.inf_votes : (Tryz.prog.info? 58).map (fun i => (i.zero, i.size, i.bytes)) = some (some (.agg #[.int .i64 0, .slice none 0 0]), 2, 32) := by kernel_rfl
set_option maxHeartbeats 2000000 in
/-- getList of PVote. -/
theorem rvotes_any (L : Nat) (w : World) (r : Nat) (bv : Value) (l : List Int) (p : Nat) (hS : RS L w r bv l p) :
    Calls Tryz.prog 69 #[.pointer (some ⟨r, 0, none⟩), .func (.func 70) #[.pointer (some ⟨r, 0, none⟩)] #[]] w (RPost (cL cVote) (RL RVote 2) L w r bv l p) := by
  have hLw := hS.hL
  have hrL := hS.hr
  have hbl := hS.rd.1.1
  go_enter Tryz.func69, Tryz.ntmps69
  go_wp2_with fail
  refine (rnum_any L _ r bv l _ hS).mono ?_
  rintro e w1 ⟨hg1, ⟨hn, rfl⟩ | ⟨v1, n, p1, hrd1, rfl, hR1, hS1⟩⟩
  · go_wp2_with fail
    exact ⟨rfl, RPost.no hg1 (by simp [cL, hn])⟩
  have hR1 : v1 = .int .i64 n := hR1
  subst hR1
  have hn0 : 0 ≤ n := (okI_bd (cN_law.bwd _ _ _ (hbl.drop p) hrd1).1).1
  obtain ⟨N, rfl⟩ := Int.eq_ofNat_of_zero_le hn0
  have HR1 := (show Hid (cN.rd (l.drop p) = some ((N : Int), l.drop p1)) from hrd1)
  clear hrd1 hn0 hS
  by_cases hN : (64 : Int) < (N : Int)
  · go_wp2_with fail
    exact ⟨rfl, RPost.no hg1 (by simp only [cL, HR1.out, Option.bind_some]; rw [if_pos hN])⟩
  go_wp2_with fail
  go_loopw [6, 13] (fun v i wr => ∃ (q pq : Nat) (ys : List PVote), q ≤ N ∧ i = .int .i64 q ∧ ys.length = q ∧ Hid (rdN cVote q (l.drop p1) = some (ys, l.drop pq)) ∧ LB RVote 58 2 w.heap.size wr v ys ∧ RS L wr r bv l pq ∧ w.grownBy wr (some r)) (fun _ i _ => N - (intOf i).toNat)
  case atStart => exact ⟨0, p1, [], by omega, rfl, rfl, rfl, LB.nil _ _ _ _ _, hS1, hg1⟩
  case round =>
    obtain ⟨q, pq, ys, hq, rfl, hyl, hrdq, hLB, hSr, hGr⟩ := hrel
    by_cases hqN : q < N
    · go_wp2_with fail
      refine (rvote_any L _ r bv l _ hSr).mono ?_
      rintro e w3 ⟨hg3, ⟨hn, rfl⟩ | ⟨v3, y, p3, hrd3, rfl, hR3, hS3⟩⟩
      · have HN := (show Hid ((cL cVote).rd (l.drop p) = none) from list_gone (by omega) HR1.out hqN hrdq.out hn)
        clear hn
        go_wp2_with fail
        exact ⟨rfl, RPost.no (grown_trans hGr hg3 (.inl rfl)) HN.out⟩
      have HR3 := (show Hid (rdN cVote (q + 1) (l.drop p1) = some (ys ++ [y], l.drop p3)) from by show _ = _; rw [rdN_snoc, hrdq.out]; simp [hrd3])
      clear hrd3
      obtain ⟨cs, rfl, hRc⟩ := hR3
      have hc1 := one_RVote hRc
      have hcl : cs.length = 2 := len_RVote hRc
      have hRd := hRc
      obtain ⟨s, rfl, _⟩ := hRd
      have hLB3 := hLB.grown mov_vote hg3 (by omega)
      have hBs : w.heap.size ≤ wr.heap.size := hGr.size
      go_wp2_with (at_builtin; refine wl_push mov_vote rfl _ _ _ rfl 58 2 32 _ Tryz.underlying35 Tryz.inf_votes rfl (by decide) w.heap.size u6 ys rfl hLB3 [.int .i64 y.1, s] y wr.heap.size hRc hcl hc1 hBs hLB.lt rfl (Nat.le_trans hBs hg3.size) (by rw [hyl]; omega) (by decide) ?_; intro v4 w4 hLB4 hg4)
      have hG4 := grown_trans (grown_trans hGr hg3 (.inl rfl)) hg4 (.inr fun k hk => hLB.fr k hk)
      have hS4 := RS.own hS3 hg4 (fun k hk => Nat.le_trans (by omega) (hLB.fr k hk))
      go_roundw
      case rel => exact ⟨q + 1, p3, ys ++ [y], by omega, by go_num, by simp [hyl], HR3, hLB4, hS4, hG4⟩
      case measure => simp [intOf]; omega
    · obtain rfl : q = N := by omega
      have HE := (show Hid ((cL cVote).rd (l.drop p) = some (ys, l.drop pq)) from list_read (by omega) HR1.out hrdq.out)
      have hrl := hLB.rl mov_vote
      have hvo := hLB.form
      go_wp2_with fail
      go_ret
      exact ⟨hGr, .inr ⟨_, ys, pq, HE.out, rfl, hrl, hSr⟩⟩
end Go.Proofs.YtgjepofinpmcpaaGreatDoor
