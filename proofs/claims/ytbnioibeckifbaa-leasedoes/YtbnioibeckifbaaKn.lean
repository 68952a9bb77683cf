/- The document's copies of entries and operations. -/
import Derived.Test.YtbnioibeckifbaaKm
set_option linter.unusedVariables false
set_option linter.unusedSimpArgs false
namespace Go.Proofs.Ytbnioibeckifbaa
open Go.RowKit Oct Kvl

theorem one5 {a b : Int} {u v x : Value} (hu : u.oneCell' = true) (hv : v.oneCell' = true) (hx : x.oneCell' = true) : ∀ y ∈ [Value.int .i64 a, u, v, x, Value.int .i64 b], y.oneCell' = true := by
  intro y hy
  simp only [List.mem_cons, List.not_mem_nil, or_false] at hy
  rcases hy with rfl | rfl | rfl | rfl | rfl <;> first | rfl | assumption
theorem grown_cellE {w w' : World} {row : Option Nat} {a : Addr} {v : Value} (hg : w.grownBy w' row) (h : w.cell? a = some v) (hn : row ≠ some a.block) : w'.cell? a = some v := by
  rw [World.cell?_of_block (w := w) (w' := w') (a := a) (hg.block a.block (World.block_lt_of_cell? w a h) (fun e => hn e.symm))]
  exact h

set_option maxRecDepth 10000 in
set_option maxHeartbeats 4000000 in
/-- CopyOp. -/
theorem copyOp_any (w : World) (r : List Value) (o : POp) (h : ROp Any w r o) (hz : szO o) :
    Calls Try.prog 10 #[.agg r.toArray] w fun e w' => ∃ r', e = .returned (.agg r'.toArray) ∧ ROp (From w.heap.size) w' r' o ∧ Below w.heap.size w w' := by
  obtain ⟨vn, va, vb, rfl, hn, ha, hb⟩ := h
  obtain ⟨z1, z2, z3⟩ := hz
  obtain ⟨w2, hw2⟩ : ∃ w2, w2 = (w.alloc (.cells #[.int .i64 o.1, vn, va, vb, .int .i64 o.2.2.2.2] 25)).alloc (.cells #[.int .i64 0, .slice none 0 0, .slice none 0 0, .slice none 0 0, .int .i64 0] 25) := ⟨_, rfl⟩
  have ra : Row w2 w.heap.size 25 [.int .i64 o.1, vn, va, vb, .int .i64 o.2.2.2.2] := by rw [hw2]; exact rowA (Row.new w 25 _) _
  have rr : Row w2 (w.heap.size + 1) 25 [.int .i64 0, .slice none 0 0, .slice none 0 0, .slice none 0 0, .int .i64 0] := by
    rw [hw2]
    have := Row.new (w.alloc (.cells #[.int .i64 o.1, vn, va, vb, .int .i64 o.2.2.2.2] 25)) 25 [.int .i64 0, .slice none 0 0, .slice none 0 0, .slice none 0 0, .int .i64 0]
    simpa using this
  have hB : Below w.heap.size w w2 := by rw [hw2]; exact ((Below.refl _ w).alloc (Nat.le_refl _) _).alloc (by simp) _
  have hsz : w2.heap.size = w.heap.size + 2 := by rw [hw2]; simp
  go_enter Try.func10, Try.ntmps10
  go_upto_region 1 with fail
  rw [← hw2]
  clear hw2
  have HS := (show Hid (w2.heap.size = w.heap.size + 2) from hsz)
  clear hsz
  have c1 := (rowA ra (.cells #[] 5)).cell (j := 1) rfl
  have hn2 := (hn.mv (Mv.below hB)).1
  go_upto_region 2 with (first
    | (at_builtin; refine app_copy rfl _ _ rfl rfl _ o.2.1 rfl hn2 (Nat.le_trans z1 (by decide)) ?_; intro v3 w3 hown3 hfr3 hb3; have ra3 := ra.below hb3)
    | (refine wl_set rfl _ _ _ rfl w.heap.size 1 _ rfl rfl _ _ ra3 (show 1 < 5 by decide) (by kernel_rfl) (own1 hown3) ?_; intro w4 ra4 hg4))
  have ra4' : Row w4 w.heap.size 25 [.int .i64 o.1, v3, va, vb, .int .i64 o.2.2.2.2] := ra4.out
  have rr4 := (rr.below hb3).grown hg4 (fun e => by injection e with e; omega)
  have hB3 := below_and hB (Nat.le_refl _) hb3
  have hB4 : Below w.heap.size w w4 := hB3.trans (grown_below hg4 hB3.size (fun k hk => by cases hk; exact Nat.le_refl _))
  have hs2 := HS.out
  have f3 : RT (From w2.heap.size) w3 v3 o.2.1 := RT.own hown3 hn2.1 hfr3
  have f4 := f3.mv (Mv.from (L := w.heap.size + 2) hg4 (by omega) (by omega))
  have hs4 : w.heap.size + 2 ≤ w4.heap.size := by have := hb3.size; have := hg4.size; omega
  clear hs2 f3 hfr3 hown3 hb3 hg4 hB3 hn2 c1 ra rr ra3 ra4
  have c2 := (rowA ra4' (.cells #[] 5)).cell (j := 2) rfl
  have ha4 := (ha.mv (Mv.below hB4)).1
  go_upto_region 3 with (first
    | (at_builtin; refine app_copy rfl _ _ rfl rfl _ o.2.2.1 rfl ha4 (Nat.le_trans z2 (by decide)) ?_; intro v5 w5 hown5 hfr5 hb5; have ra5 := ra4'.below hb5)
    | (refine wl_set rfl _ _ _ rfl w.heap.size 2 _ rfl rfl _ _ ra5 (show 2 < 5 by decide) (by kernel_rfl) (own1 hown5) ?_; intro w6 ra6 hg6))
  have ra6' : Row w6 w.heap.size 25 [.int .i64 o.1, v3, v5, vb, .int .i64 o.2.2.2.2] := ra6.out
  have rr6 := (rr4.below hb5).grown hg6 (fun e => by injection e with e; omega)
  have hB5 := below_and hB4 (Nat.le_refl _) hb5
  have hB6 : Below w.heap.size w w6 := hB5.trans (grown_below hg6 hB5.size (fun k hk => by cases hk; exact Nat.le_refl _))
  have g5 : RT (From w4.heap.size) w5 v5 o.2.2.1 := RT.own hown5 ha4.1 hfr5
  have g6 := g5.mv (Mv.from (L := w.heap.size + 2) hg6 (by omega) (by omega))
  have f6 := (f4.mv (Mv.belowG hb5)).mv (Mv.from (L := w.heap.size + 2) hg6 (by omega) (Nat.le_refl _))
  have hs6 : w.heap.size + 2 ≤ w6.heap.size := by have := hb5.size; have := hg6.size; omega
  clear g5 hfr5 hown5 hb5 hg6 hB5 ha4 c2 ra4' rr4 ra5 ra6 f4 hs4 hB4
  have c3 := (rowA ra6' (.cells #[] 5)).cell (j := 3) rfl
  have hb6 := (hb.mv (Mv.below hB6)).1
  go_wp2_with (first
    | (at_builtin; refine app_copy rfl _ _ rfl rfl _ o.2.2.2.1 rfl hb6 (Nat.le_trans z3 (by decide)) ?_; intro v7 w7 hown7 hfr7 hb7; have ra7 := ra6'.below hb7)
    | (refine wl_set rfl _ _ _ rfl w.heap.size 3 _ rfl rfl _ _ ra7 (show 3 < 5 by decide) (by kernel_rfl) (own1 hown7) ?_; intro w8 ra8 hg8; have ra8' : Row w8 w.heap.size 25 [.int .i64 o.1, v3, v5, v7, .int .i64 o.2.2.2.2] := ra8.out; have rr8 := (rr6.below hb7).grown hg8 (fun e => by injection e with e; omega))
    | (refine wl_load rfl _ _ rfl w.heap.size rfl _ _ ra8' _ Try.underlying25 rfl (by kernel_rfl) ?_)
    | (refine wl_store rfl _ _ _ rfl (w.heap.size + 1) [.int .i64 o.1, v3, v5, v7, .int .i64 o.2.2.2.2] rfl rfl _ _ rr8 rfl (by kernel_rfl) (one5 f6.one g6.one (own1 hown7)) ?_; intro w9 hr9 hg9))
  have hB7 := below_and hB6 (Nat.le_refl _) hb7
  have hB8 : Below w.heap.size w w8 := hB7.trans (grown_below hg8 hB7.size (fun k hk => by cases hk; exact Nat.le_refl _))
  have hB9 := hB8.trans (grown_below hg9 hB8.size (fun k hk => by cases hk; omega))
  have k7 : RT (From w6.heap.size) w7 v7 o.2.2.2.1 := RT.own hown7 hb6.1 hfr7
  have k9 := (k7.mv (Mv.from (L := w.heap.size + 2) hg8 (by omega) (by omega))).mv (Mv.from (L := w.heap.size) hg9 (by omega) (by omega))
  have f9 := ((f6.mv (Mv.belowG hb7)).mv (Mv.from (L := w.heap.size + 2) hg8 (by omega) (Nat.le_refl _))).mv (Mv.from (L := w.heap.size) hg9 (by omega) (by omega))
  have g9 := ((g6.mv (Mv.belowG hb7)).mv (Mv.from (L := w.heap.size + 2) hg8 (by omega) (Nat.le_refl _))).mv (Mv.from (L := w.heap.size) hg9 (by omega) (by omega))
  refine bodyPost_ret (v := .agg ([.int .i64 o.1, v3, v5, v7, .int .i64 o.2.2.2.2] : List Value).toArray) (results_cell_row rfl _ _ (w.heap.size + 1) _ _ (0, 0) _ (by rfl) hr9.out Try.underlying25 rfl (by kernel_rfl)) rfl ?_
  exact ⟨_, rfl, ⟨_, _, _, rfl, f9, g9, k9⟩, hB9⟩
end Go.Proofs.Ytbnioibeckifbaa
