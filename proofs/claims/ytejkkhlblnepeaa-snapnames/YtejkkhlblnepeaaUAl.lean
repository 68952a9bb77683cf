/- catenarylaw10.snapAlive, SnapNames. -/
import Derived.Test.YtejkkhlblnepeaaU2
import Derived.Test.YtejkkhlblnepeaaU6
set_option linter.unusedVariables false
set_option linter.unusedSimpArgs false
namespace Go.Proofs.Ytejkkhlblnepeaa
open Go.RowKit Oct Kvl

theorem own_four (w : World) (a b c d : Int) (e : TypeId) : Own (w.alloc (.cells #[.int .u8 a, .int .u8 b, .int .u8 c, .int .u8 d] e)) e (.slice (some ⟨w.heap.size, 0, none⟩) 4 4) (bc [a, b, c, d]) :=
  World.ownsRow_lit (base := 0) (size := 1) w #[.int .u8 a, .int .u8 b, .int .u8 c, .int .u8 d] 4 (Nat.zero_le _) (by decide) rfl
theorem byt9 : Byt [9, 0, 0, 0] := by intro x hx; simp only [List.mem_cons, List.not_mem_nil, or_false] at hx; rcases hx with rfl | rfl | rfl | rfl <;> decide
theorem byt0 : Byt [0, 0, 0, 0] := by intro x hx; simp only [List.mem_cons, List.not_mem_nil, or_false] at hx; rcases hx with rfl | rfl | rfl | rfl <;> decide
theorem rgt0 : rgtA (0, [], [], []) := by decide
theorem snE0 : snE (0, [], [], []) = 0 := if_pos rgt0
theorem snB0 : snB (0, [], [], []) = [0, 0, 0, 0] := (if_pos rgt0).trans (by decide)
theorem decA9 : decA [9, 0, 0, 0] = some (9, [], [], []) := (decA_some byt9 _).2 ⟨⟨fun e he => (by cases he), fun e he => (by cases he)⟩, by decide, by decide⟩
theorem dcA9 : dcA [9, 0, 0, 0] = (9, [], [], []) := by unfold dcA; rw [decA9]; rfl
theorem dcE9 : dcE [9, 0, 0, 0] = 0 := by unfold dcE; rw [decA9]; rfl
theorem forms9 {B : Nat} {w : World} {r : List Value} {a : PApp} (h : OApp B w r a) : ∃ ae ce al cl an cn, r = [.int .i64 a.1, .slice ae a.2.1.length ce, .slice al a.2.2.1.length cl, .slice an a.2.2.2.length cn] := by
  obtain ⟨ve, vl, vs, rfl, h1, h2, h3⟩ := h
  obtain ⟨ae, ce, rfl⟩ := h1.fm mov_oent
  obtain ⟨al, cl, rfl⟩ := h2.fm mov_olea
  obtain ⟨an, cn, rfl⟩ := h3.fm mov_oses
  exact ⟨_, _, _, _, _, _, rfl⟩

set_option maxRecDepth 10000 in
set_option maxHeartbeats 2000000 in
theorem snapAlive_any (w : World) : Calls Try.prog 6 #[] w fun e w' => e = .returned (.bool true) ∧ Below w.heap.size w w' := by
  have le := Nat.le_refl w.heap.size
  have hE := snapEncode_any w [.int .i64 0, .slice none 0 0, .slice none 0 0, .slice none 0 0] (0, [], [], []) (OApp.zero 0 w).app
  rw [snE0, snB0] at hE
  have HD := (show Hid (∀ u, Calls Try.prog 12 #[.slice (some ⟨u.heap.size, 0, none⟩) 4 4] (u.alloc (.cells #[.int .u8 9, .int .u8 0, .int .u8 0, .int .u8 0] 5)) fun e w' => ∃ ae ne ce al nl cl an nn cn, e = .returned (.tuple #[.agg #[.int .i64 9, .slice ae ne ce, .slice al nl cl, .slice an nn cn], .int .i64 0]) ∧ Below u.heap.size u w') from fun u => (snapDecode_any (u.alloc (.cells #[.int .u8 9, .int .u8 0, .int .u8 0, .int .u8 0] 5)) _ [9, 0, 0, 0] ((own_four u 9 0 0 0 5).rd byt9) (by decide)).mono fun e w' hP => by
    obtain ⟨row, e1, e2, e3⟩ := hP
    rw [dcE9] at e1
    rw [dcA9] at e2
    obtain ⟨ae, ce, al, cl, an, cn, rfl⟩ := forms9 e2
    exact ⟨_, _, _, _, _, _, _, _, _, e1, below_and (below_alloc _ _) (Nat.le_refl _) e3⟩)
  go_enter Try.func6, Try.ntmps6
  go_upto_region 2 with (go_at_call 8; refine hE.mono ?_; rintro e w1 ⟨v1, rfl, ho1, hf1, hb1⟩)
  have hD := HD.out w1
  clear hE HD
  go_upto_region 3 with (go_at_call 12; refine hD.mono ?_; rintro e w2 ⟨ae, ne, ce, al, nl, cl, an, nn, cn, rfl, hb2⟩)
  obtain ⟨w3, hw3⟩ : ∃ w3, w3 = w2.alloc (.cells #[.int .i64 9, .slice ae ne ce, .slice al nl cl, .slice an nn cn] 27) := ⟨_, rfl⟩
  have x3 : Row w3 w2.heap.size 27 [.int .i64 9, .slice ae ne ce, .slice al nl cl, .slice an nn cn] := by rw [hw3]; exact Row.new w2 27 _
  have hb3 : Below w2.heap.size w2 w3 := by rw [hw3]; exact below_alloc _ _
  rw [← hw3]
  clear hw3 hD
  obtain ⟨b3, hb3'⟩ : ∃ b3, b3 = w2.heap.size := ⟨_, rfl⟩
  have x3 : Row w3 b3 27 [.int .i64 9, .slice ae ne ce, .slice al nl cl, .slice an nn cn] := by rw [hb3']; exact x3
  rw [← hb3']
  clear hb3'
  have hb13 := below_and hb2 (Nat.le_refl _) hb3
  have B3 := below_and hb1 le hb13
  have hv := ((ho1.rd byt0).below hb13).below (below_alloc w3 (.cells #[.int .u8 0, .int .u8 0, .int .u8 0, .int .u8 0] 5))
  have hS := same_any (w3.alloc (.cells #[.int .u8 0, .int .u8 0, .int .u8 0, .int .u8 0] 5)) v1 _ _ _ hv ((own_four w3 0 0 0 0 5).rd byt0)
  rw [decide_eq_true rfl] at hS
  have c0 := (x3.below (below_alloc w3 (.cells #[.int .u8 0, .int .u8 0, .int .u8 0, .int .u8 0] 5))).cell (j := 0) rfl
  go_wp2_with (go_at_call 10; refine hS.mono ?_; rintro e w4 ⟨rfl, rfl⟩)
  go_ret
  exact ⟨rfl, below_and B3 le (below_alloc _ _)⟩
theorem snapNames_any (w : World) : Calls Try.prog 3 #[] w fun e w' => e = .returned (.bool true) ∧ Below w.heap.size w w' := by
  have hA := snapAlive_any w
  go_enter Try.func3, Try.ntmps3
  go_wp2_with (go_at_call 6; refine hA.mono ?_; rintro e w1 ⟨rfl, hb1⟩)
  go_ret
  exact ⟨rfl, hb1⟩
end Go.Proofs.Ytejkkhlblnepeaa
