/- catenarylaw06.voteAlive. -/
import Derived.Test.YtkgjlmhgfefegaaDoorT2
import Derived.Test.YtkgjlmhgfefegaaDoorKAlive
set_option linter.unusedVariables false
namespace Go.Proofs.YtkgjlmhgfefegaaDoor
open Go.RowKit Oct Sha

/-- What the law's own vote signs with. -/
def aliveS : List Int := signL (repL 4) (sL ⟨#[118, 111, 116, 101]⟩) [numsL [2, 1, 0, 3], [120]]
theorem alive_yes : verL (repL 4) aliveS (sL ⟨#[118, 111, 116, 101]⟩) [numsL [2, 1, 0, 3], [120]] = true := verL_same _ _ (by decide) (by decide)
theorem alive_no : verL (repL 4) aliveS (sL ⟨#[118, 111, 116, 101]⟩) [numsL [2, 2, 0, 3], [120]] = false := by kernel_rfl
theorem alive_len : aliveS.length = 32 := signL_len _ _ (by decide) (by decide)

theorem rd_x (w : World) : Rd (w.alloc (.cells #[.int .u8 120] 5 (1, 2))) (.slice (some ⟨w.heap.size, 0, none⟩) 1 1) [120] := rd_lit w [120] 5 (1, 2) (byt_of (by decide)) (by decide) (by decide)
set_option maxRecDepth 10000 in
set_option maxHeartbeats 2000000 in
theorem alive_any (w : World) (ht : Tab w) : Calls Tryd.prog 4 #[] w fun e w' => e = .returned (.bool true) ∧ Below w.heap.size w w' := by
  have le := Nat.le_refl w.heap.size
  have hcv := run_cvt
  have HS := (show Hid (∀ _ : Unit, _) from fun _ => vMake_any (w.alloc (.cells #[.int .u8 120] 5 (1, 2))) 2 1 0 3 4 _ [120] (rd_x w) (by decide) (ht.below (below_alloc _ _)))
  have HL := (show Hid (aliveS.length = 32) from alive_len)
  go_enter Tryd.func4, Tryd.ntmps4
  go_wp2_with fail
  refine (HS.out ()).mono ?_
  rintro e w1 ⟨v1, rfl, r1, hb1⟩
  have B1 : Below w.heap.size w w1 := below_and (below_alloc _ _) le hb1
  have r1 : Rd w1 v1 aliveS := r1.1
  clear HS hb1
  obtain ⟨a1, c1, rfl, hc1⟩ := r1.form
  rw [HL.out] at r1 ⊢
  have hcv2 := run_cvt (w1.alloc (.cells #[.int .i64 4, .slice a1 32 c1] 35)) #[.int .u8 120] 1 1
  rw [show (w1.alloc (.cells #[.int .i64 4, .slice a1 32 c1] 35)).heap.size = w1.heap.size + 1 by simp] at hcv2
  have hrb := Row.new w1 35 [.int .i64 4, .slice a1 32 c1]
  have hb2 := below_alloc w1 (.cells #[.int .i64 4, .slice a1 32 c1] 35)
  have hx := rd_x (w1.alloc (.cells #[.int .i64 4, .slice a1 32 c1] 35))
  rw [show (w1.alloc (.cells #[.int .i64 4, .slice a1 32 c1] 35)).heap.size = w1.heap.size + 1 by simp] at hx
  have b2x := below_alloc (w1.alloc (.cells #[.int .i64 4, .slice a1 32 c1] 35)) (.cells #[.int .u8 120] 5 (1, 2))
  go_wp2_with fail
  have hV := vRight_any _ 2 1 0 3 4 _ [120] hx (by decide) (.slice a1 32 c1) aliveS ((r1.below hb2).below b2x) (((ht.below B1).below hb2).below b2x)
  rw [alive_yes] at hV
  refine hV.mono ?_
  rintro e w3 ⟨rfl, hb3⟩
  have B12 := below_and (below_and hb2 (Nat.le_refl _) b2x) (Nat.le_refl _) hb3
  have B3 := below_and B1 le B12
  have hrb3 : Row w3 w1.heap.size 35 [.int .i64 4, .slice a1 32 c1] := (hrb.below b2x).below hb3
  have r3 := r1.below B12
  have q0 := (hrb3.below (below_alloc w3 (.cells #[.int .u8 120] 5 (1, 2)))).cell (j := 0) rfl
  have q1 := (hrb3.below (below_alloc w3 (.cells #[.int .u8 120] 5 (1, 2)))).cell (j := 1) rfl
  clear hV hcv2 hrb hb2 hx b2x hb3 B12 r1 B1 hrb3
  go_wp2_with fail
  have hV := vRight_any _ 2 2 0 3 4 _ [120] (rd_x w3) (by decide) (.slice a1 32 c1) aliveS (r3.below (below_alloc _ _)) ((ht.below B3).below (below_alloc _ _))
  rw [alive_no] at hV
  refine hV.mono ?_
  rintro e w4 ⟨rfl, hb4⟩
  have B4 := below_and B3 le (below_and (below_alloc w3 _) (Nat.le_refl _) hb4)
  clear hV q0 q1 r3 hb4 B3
  go_wp2_with fail
  go_ret
  exact ⟨rfl, B4⟩
end Go.Proofs.YtkgjlmhgfefegaaDoor
