/- kvAlive; the document's copies. -/
import Derived.Test.YtbnioibeckifbaaKl
import Derived.Lib.SlBytesConst
set_option linter.unusedVariables false
set_option linter.unusedSimpArgs false
namespace Go.Proofs.Ytbnioibeckifbaa
open Go.RowKit Oct Kvl

theorem litB (w : World) (x : Int) (hx : 0 ≤ x ∧ x ≤ 255) : Rd (w.alloc (.cells #[.int .u8 x] 5 (1, 2))) (.slice (some ⟨w.heap.size, 0, none⟩) 1 1) [x] := by
  refine ⟨fun y hy => by simp at hy; rw [hy]; exact hx, some ⟨w.heap.size, 0, none⟩, 1, rfl, Nat.le_refl _, by decide, fun e => (by cases e), fun a ha j u hu => ?_⟩
  cases ha
  rw [Addr.add_mid, cell_of_row _ _ _ #[.int .u8 x] 5 (1, 2) (heap_alloc_new w _), Nat.zero_add]
  simpa [bc] using hu
theorem cvtB (u : World) (C : Array Value) (n c : Nat) : (convert 23 23 (.slice (some ⟨u.heap.size, 0, none⟩) n c)).run Try.prog (u.alloc (.cells C 5)) = .ok (.slice (some ⟨u.heap.size, 0, none⟩) n c) (u.alloc (.cells C 5 (C.size, C.size + 1))) :=
  Lib.run_convert_bytes_const u 23 5 C n c Try.underlying23 Try.underlying5
theorem cvtB1 (w : World) (o : Obj) (C : Array Value) (n c : Nat) : (convert 23 23 (.slice (some ⟨w.heap.size + 1, 0, none⟩) n c)).run Try.prog ((w.alloc o).alloc (.cells C 5)) = .ok (.slice (some ⟨w.heap.size + 1, 0, none⟩) n c) ((w.alloc o).alloc (.cells C 5 (C.size, C.size + 1))) := by
  rw [show w.heap.size + 1 = (w.alloc o).heap.size by simp]
  exact cvtB _ C n c
theorem cvtB2 (w : World) (o p : Obj) (C : Array Value) (n c : Nat) : (convert 23 23 (.slice (some ⟨w.heap.size + 2, 0, none⟩) n c)).run Try.prog (((w.alloc o).alloc p).alloc (.cells C 5)) = .ok (.slice (some ⟨w.heap.size + 2, 0, none⟩) n c) (((w.alloc o).alloc p).alloc (.cells C 5 (C.size, C.size + 1))) := by
  rw [show w.heap.size + 2 = ((w.alloc o).alloc p).heap.size by simp]
  exact cvtB _ C n c
theorem rt_any {w : World} {v : Value} {l : List Int} (h : Rd w v l) : RT Any w v l := ⟨h, fun _ _ _ => trivial⟩
theorem alive1 : doL [] (2, [97], [49], [], 0) = ([([97], [49])], 0, []) := by decide
theorem alive2 : doL [([97], [49])] (3, [97], [50], [51], 0) = ([([97], [49])], 2, [49]) := by decide
/-- What Do gives, to read on. -/
theorem Rp.rl {B : Nat} {w : World} {v : Value} {ys : List PEnt} (h : LB OEnt 37 2 B w v ys) : RL REnt 2 Any w v ys := (h.rl mov_oent).ent.mv mov_ent (Nat.le_refl _) Mv.any
theorem str49 : ((strOfNums [49]).toList == ([49] : List UInt8)) = true := by kernel_rfl

set_option maxRecDepth 10000 in
set_option maxHeartbeats 2000000 in
/-- kvAlive. -/
theorem kvAlive_any (w : World) : Calls Try.prog 8 #[] w fun e w' => e = .returned (.bool true) ∧ Below w.heap.size w w' := by
  obtain ⟨w1, hw1⟩ : ∃ w1, w1 = (w.alloc (.cells #[.int .u8 97] 5 (1, 2))).alloc (.cells #[.int .u8 49] 5 (1, 2)) := ⟨_, rfl⟩
  have B1 : Below w.heap.size w w1 := by rw [hw1]; exact below_and (below_alloc _ _) (Nat.le_refl _) (below_alloc _ _)
  have r1 : Rd w1 (.slice (some ⟨w.heap.size, 0, none⟩) 1 1) [97] := by rw [hw1]; exact (litB w 97 (by decide)).below (below_alloc _ _)
  have r2 : Rd w1 (.slice (some ⟨w.heap.size + 1, 0, none⟩) 1 1) [49] := by
    rw [hw1]
    have := litB (w.alloc (.cells #[.int .u8 97] 5 (1, 2))) 49 (by decide)
    simpa using this
  have hD := do_any w1 (.slice none 0 0) [] (RL.nil _ _ _ _) ⟨by simp, fun y hy => by cases hy⟩ [.int .i64 2, .slice (some ⟨w.heap.size, 0, none⟩) 1 1, .slice (some ⟨w.heap.size + 1, 0, none⟩) 1 1, .slice none 0 0, .int .i64 0] (2, [97], [49], [], 0) ⟨_, _, _, rfl, rt_any r1, rt_any r2, RT.nil _ _⟩ ⟨by simp [szT], by simp [szT], by simp [szT]⟩
  rw [alive1] at hD
  have HD := (show Hid (∀ _ : Unit, _) from fun _ => hD)
  clear hD
  have v0 := cvtB
  have v1 := cvtB1
  have v2' := cvtB2
  go_enter Try.func8, Try.ntmps8
  go_wp2_with fail
  rw [← hw1]
  clear hw1
  refine (HD.out ()).mono ?_
  rintro e w2 ⟨v2, vv2, rfl, hL2, t2, hb2⟩
  have B2 := below_and B1 (Nat.le_refl _) hb2
  have n2 := Row.new w2 30 [.int .i64 0, .slice none 0 0]
  have hR2 := Rp.rl hL2
  obtain ⟨a2, c2, rfl, hc2⟩ := hR2.form
  clear hb2 hL2 r1 r2 B1
  go_upto_region 2 with (refine wl_store rfl _ _ _ rfl w2.heap.size [.int .i64 0, vv2] rfl rfl _ _ n2 rfl (by kernel_rfl) (one_res t2.one) ?_; intro w3 hr3 hg3)
  have b3 : Below w2.heap.size w2 w3 := (below_alloc w2 _).trans (grown_below hg3 (by simp) (fun k hk => by cases hk; exact Nat.le_refl _))
  have B3 := below_and B2 (Nat.le_refl _) b3
  have hR3 := hR2.mv mov_ent b3.size (Mv.below b3)
  clear b3 hg3 hR2 t2 n2
  obtain ⟨w4, hw4⟩ : ∃ w4, w4 = ((w3.alloc (.cells #[.int .u8 97] 5 (1, 2))).alloc (.cells #[.int .u8 50] 5 (1, 2))).alloc (.cells #[.int .u8 51] 5 (1, 2)) := ⟨_, rfl⟩
  have b4 : Below w3.heap.size w3 w4 := by rw [hw4]; exact below_and (below_and (below_alloc _ _) (Nat.le_refl _) (below_alloc _ _)) (Nat.le_refl _) (below_alloc _ _)
  have r1 : Rd w4 (.slice (some ⟨w3.heap.size, 0, none⟩) 1 1) [97] := by rw [hw4]; exact ((litB w3 97 (by decide)).below (below_alloc _ _)).below (below_alloc _ _)
  have r2 : Rd w4 (.slice (some ⟨w3.heap.size + 1, 0, none⟩) 1 1) [50] := by
    rw [hw4]
    have := (litB (w3.alloc (.cells #[.int .u8 97] 5 (1, 2))) 50 (by decide)).below (below_alloc _ (.cells #[.int .u8 51] 5 (1, 2)))
    simpa using this
  have r3 : Rd w4 (.slice (some ⟨w3.heap.size + 2, 0, none⟩) 1 1) [51] := by
    rw [hw4]
    have := litB ((w3.alloc (.cells #[.int .u8 97] 5 (1, 2))).alloc (.cells #[.int .u8 50] 5 (1, 2))) 51 (by decide)
    simpa using this
  have B4 := below_and B3 (Nat.le_refl _) b4
  have hr4 := hr3.out.below b4
  have hD := do_any w4 _ _ (hR3.mv mov_ent b4.size (Mv.below b4)) ⟨by simp, fun y hy => by simp at hy; subst hy; exact ⟨by simp [szT], by simp [szT]⟩⟩ [.int .i64 3, .slice (some ⟨w3.heap.size, 0, none⟩) 1 1, .slice (some ⟨w3.heap.size + 1, 0, none⟩) 1 1, .slice (some ⟨w3.heap.size + 2, 0, none⟩) 1 1, .int .i64 0] (3, [97], [50], [51], 0) ⟨_, _, _, rfl, rt_any r1, rt_any r2, rt_any r3⟩ ⟨by simp [szT], by simp [szT], by simp [szT]⟩
  rw [alive2] at hD
  have HD := (show Hid (∀ _ : Unit, _) from fun _ => hD)
  clear hD hR3 b4 r1 r2 r3 hr3 B3
  go_wp2_with fail
  rw [← hw4]
  clear hw4
  refine (HD.out ()).mono ?_
  rintro e w5 ⟨v5, vv5, rfl, hL5, t5, hb5⟩
  have B5 := below_and B4 (Nat.le_refl _) hb5
  have hr5 := hr4.below hb5
  have n5 := Row.new w5 30 [.int .i64 0, .slice none 0 0]
  have t5 := t5.rt
  clear hb5 hr4 B4 hL5
  go_upto_region 3 with (refine wl_store rfl _ _ _ rfl w5.heap.size [.int .i64 2, vv5] rfl rfl _ _ n5 rfl (by kernel_rfl) (one_res t5.one) ?_; intro w6 hr6 hg6)
  have b6 : Below w5.heap.size w5 w6 := (below_alloc w5 _).trans (grown_below hg6 (by simp) (fun k hk => by cases hk; exact Nat.le_refl _))
  have B6 := below_and B5 (Nat.le_refl _) b6
  have hr7 := hr5.below b6
  have e0 := hr7.cell (j := 0) rfl
  have e1 := hr6.out.cell (j := 0) rfl
  have e2 := hr6.out.cell (j := 1) rfl
  have t6 := (t5.mv (Mv.belowG b6)).1
  have hst := run_str t6
  clear b6 hg6 n5 t5 hr5 t6
  go_wp2_with fail
  go_ret
  exact ⟨ret_bool str49, B6⟩
end Go.Proofs.Ytbnioibeckifbaa
