/- catenarylaw01.OctetTexts: its walk. -/
import Derived.Test.YtfbcjlimaglgkaaAlive
import Derived.Test.YtfbcjlimaglgkaaW3
import Derived.Deep.RegionHeld3
namespace Go.Proofs.Ytfbcjlimaglgkaa
open Go.RowKit Oct

theorem cell_two0 (w : World) (x y : Value) (e : TypeId) : (w.alloc (.cells #[x, y] e)).cell? ⟨w.heap.size, 0, none⟩ = some x := (cell_of_row _ _ 0 #[x, y] e (0, 0) (heap_alloc_new w _)).trans rfl
theorem cell_two1 (w : World) (x y : Value) (e : TypeId) : (w.alloc (.cells #[x, y] e)).cell? ⟨w.heap.size, 1, none⟩ = some y := (cell_of_row _ _ 1 #[x, y] e (0, 0) (heap_alloc_new w _)).trans rfl

set_option maxRecDepth 100000 in
set_option maxHeartbeats 1600000 in
theorem texts_any (w : World) (v1 v2 : Value) (l1 l2 : List Int) (p most : Int) (h1 : Rd w v1 l1) (h2 : Rd w v2 l2) (hl1 : l1.length ≤ 1048576) (hl2 : l2.length ≤ 1048576) :
    Calls Try.prog 5 #[v1, v2, .agg #[.int .i64 p, .int .i64 most]] w fun e w' => e = .returned (.bool true) ∧ Below w.heap.size w w' := by
  have le := Nat.le_refl w.heap.size
  go_enter Try.func5, Try.ntmps5
  have hB0 := below_alloc w (.cells #[.int .i64 p, .int .i64 most] 35)
  have h10 := h1.below hB0
  have h20 := h2.below hB0
  have c00 : (w.alloc (.cells #[.int .i64 p, .int .i64 most] 35)).cell? ⟨w.heap.size, 0, none⟩ = some (.int .i64 p) := cell_two0 w _ _ _
  have c10 : (w.alloc (.cells #[.int .i64 p, .int .i64 most] 35)).cell? ⟨w.heap.size, 1, none⟩ = some (.int .i64 most) := cell_two1 w _ _ _
  have hsz0 : w.heap.size < (w.alloc (.cells #[.int .i64 p, .int .i64 most] 35)).heap.size := by simp
  go_wp2_with fail
  generalize w.alloc (.cells #[.int .i64 p, .int .i64 most] 35) = w0 at *
  refine (alive_any w0).mono ?_
  rintro e w1 ⟨rfl, hb1⟩
  have h11 := h10.below hb1
  have h21 := h20.below hb1
  have c01 := (hb1.cell (p := ⟨w.heap.size, 0, none⟩) hsz0).trans c00
  have c11 := (hb1.cell (p := ⟨w.heap.size, 1, none⟩) hsz0).trans c10
  have hs1 := Nat.lt_of_lt_of_le hsz0 hb1.size
  have hB1 := below_and hB0 le hb1
  clear h10 h20 hb1 c00 c10 hsz0 hB0 h1 h2
  go_wp2_with (at_builtin; refine app_copy rfl _ _ rfl rfl v1 l1 rfl h11 (by omega) ?_; intro o1 w2 hown1 hfr1 hb2)
  have h12 := h11.below hb2
  have h22 := h21.below hb2
  have c02 := (hb2.cell (p := ⟨w.heap.size, 0, none⟩) hs1).trans c01
  have c12 := (hb2.cell (p := ⟨w.heap.size, 1, none⟩) hs1).trans c11
  have hs2 := Nat.lt_of_lt_of_le hs1 hb2.size
  have hB2 := below_and hB1 le hb2
  clear h11 h21 hb2 c01 c11 hs1 hB1 hfr1
  refine (bytes_any w2 o1 l1 (hown1.rd h12.1) (by omega)).mono ?_
  rintro e w3 ⟨oc, rfl, hownc, hfrc, hb3⟩
  have h13 := h12.below hb3
  have h23 := h22.below hb3
  have c03 := (hb3.cell (p := ⟨w.heap.size, 0, none⟩) hs2).trans c02
  have c13 := (hb3.cell (p := ⟨w.heap.size, 1, none⟩) hs2).trans c12
  have hs3 := Nat.lt_of_lt_of_le hs2 hb3.size
  have hB3 := below_and hB2 le hb3
  clear h12 h22 hb3 c02 c12 hs2 hB2 hfrc hown1
  go_wp2_with fail
  go_region_held3 (fun w' => w'.cell? ⟨w.heap.size, 0, none⟩ = some (.int .i64 p) ∧ w'.cell? ⟨w.heap.size, 1, none⟩ = some (.int .i64 most))
    (first | go_keep | (go_split_ands; exact ⟨(hb4.cell (p := ⟨w.heap.size, 0, none⟩) hs3).trans c03, (hb4.cell (p := ⟨w.heap.size, 1, none⟩) hs3).trans c13⟩) | (go_split_ands; exact ⟨(hb5.cell (p := ⟨w.heap.size, 0, none⟩) (Nat.lt_of_lt_of_le hs3 hb4.size)).trans ((hb4.cell (p := ⟨w.heap.size, 0, none⟩) hs3).trans c03), (hb5.cell (p := ⟨w.heap.size, 1, none⟩) (Nat.lt_of_lt_of_le hs3 hb4.size)).trans ((hb4.cell (p := ⟨w.heap.size, 1, none⟩) hs3).trans c13)⟩))
    (first
      | (refine step_bytes (by rfl) _ _ (by rfl) (.slice (some ⟨w3.heap.size, 0, none⟩) 0 0) [] (by rfl) (own_zero w3 5).drew v2 l2 (by rfl) (h23.below (below_alloc w3 _)).2.drew (by simp only [List.length_nil]; omega) ?_; intro o2 w4 happ4; have hb4 : Below w3.heap.size w3 w4 := ((below_alloc w3 _).drew).trans (happ4.below (fr_at _ _ _ _ (Nat.le_refl _)) (by simp)))
      | (go_at_call 16; refine (getBytes_any w4 o2 l2 p most (happ4.own.rd h23.1) (by omega)).mono ?_; rintro e w5 ⟨oq, rfl, hownq, hfrq, hb5⟩))
  have h15 := (h13.below hb4).below hb5
  have h25 := (h23.below hb4).below hb5
  have hc5 := (hownc.below hb4).below hb5
  have hs4 := Nat.lt_of_lt_of_le hs3 hb4.size
  have c05 := (hb5.cell (p := ⟨w.heap.size, 0, none⟩) hs4).trans ((hb4.cell (p := ⟨w.heap.size, 0, none⟩) hs3).trans c03)
  have c15 := (hb5.cell (p := ⟨w.heap.size, 1, none⟩) hs4).trans ((hb4.cell (p := ⟨w.heap.size, 1, none⟩) hs3).trans c13)
  have hB5 := below_and (below_and hB3 le hb4) le hb5
  clear h13 h23 hownc c03 c13 hs3 hs4 hb4 hb5 hB3 happ4 hfrq
  go_wp2_with fail
  refine (refGetBytes_any w5 v2 l2 p most h25 (by omega)).mono ?_
  rintro e w6 ⟨orr, rfl, hownr, hfrr, hb6⟩
  have h16 := h15.below hb6
  have hc6 := hc5.below hb6
  have hq6 := hownq.below hb6
  have hB6 := below_and hB5 le hb6
  have hbq : Byt (getB l2 p most).1 := getB_byt l2 p most h25.1
  generalize getB l2 p most = G at *
  clear h15 hc5 hownq hB5 hb6 c05 c15 h25 hfrr
  go_wp2_with fail
  refine (refBytes_any w6 v1 l1 h16 (by omega)).mono ?_
  rintro e w7 ⟨ob, rfl, hownb, hfrb, hb7⟩
  have hbe : Byt (enc (l1.length : Int) ++ l1) := (enc_byt _ (by omega) (by omega)).app h16.1
  have hS1 := same_any w7 oc ob _ _ ((hc6.below hb7).rd hbe) (hownb.rd hbe)
  have hS2 := same_any w7 oq orr _ _ ((hq6.below hb7).rd hbq) ((hownr.below hb7).rd hbq)
  rw [decide_eq_true rfl] at hS1 hS2
  have hB7 := below_and hB6 le hb7
  have H1 := (show Hid (∀ _ : Unit, _) from fun _ => hS1)
  have H2 := (show Hid (∀ _ : Unit, _) from fun _ => hS2)
  clear hS1 hS2 hbe hbq h16 hc6 hq6 hownr hownb hfrb hb7 hB6
  go_wp2_with fail
  refine (H1.out ()).mono ?_
  rintro e w8 ⟨rfl, rfl⟩
  go_wp2_with fail
  refine (H2.out ()).mono ?_
  rintro e w9 ⟨rfl, rfl⟩
  go_wp2_with fail
  go_ret
  exact ⟨rfl, hB7⟩
end Go.Proofs.Ytfbcjlimaglgkaa
