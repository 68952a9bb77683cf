/- catenarylaw03.keyAlive. -/
import Derived.Test.YtbdkoniaafhfhaaDoorK2
namespace Go.Proofs.YtbdkoniaafhfhaaDoor
open Go.RowKit Oct Sha

theorem shaL_len (l : List Int) : (shaL l).length = 32 := out_len _
theorem signL_len {k : Int} (d : List Int) (ll : List (List Int)) (h0 : 0 ≤ k) (h1 : k ≤ 127) : (signL k d ll).length = 32 := by rw [signL_yes _ _ h0 h1, shaL_len]
theorem verL_same {k : Int} (d : List Int) (ll : List (List Int)) (h0 : 0 ≤ k) (h1 : k ≤ 127) : verL k (signL k d ll) d ll = true := by rw [verL, if_pos ⟨h0, h1⟩, decide_eq_true rfl]
theorem ver_aa : verL 3 (signL 3 (sL ⟨#[97]⟩) [[98]]) (sL ⟨#[97]⟩) [[98]] = true := verL_same _ _ (by decide) (by decide)
theorem ver_ab : verL 3 (signL 3 (sL ⟨#[97]⟩) [[98]]) (sL ⟨#[98]⟩) [[98]] = false := by kernel_rfl

/-- A list of one text, written out. -/
theorem rdl_one (w : World) (x : Int) (h0 : 0 ≤ x) (h1 : x ≤ 255) : Rdl ((w.alloc (.cells #[.int .u8 x] 5 (1, 2))).alloc (.cells #[.slice (some ⟨w.heap.size, 0, none⟩) 1 1] 26)) (.slice (some ⟨w.heap.size + 1, 0, none⟩) 1 1) [[x]] := by
  rw [show w.heap.size + 1 = (w.alloc (.cells #[.int .u8 x] 5 (1, 2))).heap.size by simp]
  exact ⟨[.slice (some ⟨w.heap.size, 0, none⟩) 1 1], rdv_els _ [.slice (some ⟨w.heap.size, 0, none⟩) 1 1] 26 (by simp) (by simp),
    (rd_lit w [x] 5 (1, 2) (fun y hy => by rw [List.mem_singleton.1 hy]; exact ⟨h0, h1⟩) (by simp) (by simp)).below (below_alloc _ _), trivial⟩
theorem below_two (w : World) (o p : Obj) : Below w.heap.size w ((w.alloc o).alloc p) := below_and (below_alloc w o) (Nat.le_refl _) (below_alloc _ p)

set_option maxHeartbeats 1000000 in
theorem alive_any (w : World) (ht : Tab w) : Calls Tryd.prog 8 #[] w fun e w' => e = .returned (.bool true) ∧ Below w.heap.size w w' := by
  have le := Nat.le_refl w.heap.size
  have hcv := run_cvt
  have hl := signL_len (k := 3) (sL ⟨#[97]⟩) [[98]] (by decide) (by decide)
  have hbyt := signL_byt 3 (sL ⟨#[97]⟩) [[98]]
  have vaa := ver_aa
  have vab := ver_ab
  have hS := fun b => sign_any ((w.alloc (.cells #[.int .u8 98] 5 (1, 2))).alloc (.cells #[.slice (some ⟨w.heap.size, 0, none⟩) 1 1] 26)) 3 ⟨#[97]⟩ _ [[98]] (rdl_one w 98 (by decide) (by decide)) (by decide) (by decide) (ht.below b)
  generalize signL 3 (sL ⟨#[97]⟩) [[98]] = X at hl hbyt vaa vab hS
  have HS := (show Hid (∀ _ : Unit, _) from fun _ => hS (below_two w _ _))
  have HL := (show Hid (X.length = 32) from hl)
  have VA := (show Hid (verL 3 X (sL ⟨#[97]⟩) [[98]] = true) from vaa)
  have VB := (show Hid (verL 3 X (sL ⟨#[98]⟩) [[98]] = false) from vab)
  clear hl vaa vab hS
  go_enter Tryd.func8, Tryd.ntmps8
  go_wp2_with fail
  refine (HS.out ()).mono ?_
  rintro e w1 ⟨v1, rfl, ho1, hf1, hb1⟩
  have r1 := ho1.rd hbyt
  have B1 : Below w.heap.size w w1 := below_and (below_two w _ _) le hb1
  clear HS ho1 hf1 hb1
  obtain ⟨a1, c1, rfl, hc1⟩ := r1.form
  rw [HL.out] at r1 ⊢
  go_wp2_with fail
  have hV := verify_any _ 3 (.slice a1 32 c1) X ⟨#[97]⟩ _ [[98]] (r1.below (below_two w1 _ _)) (rdl_one w1 98 (by decide) (by decide)) (by decide) (by decide) ((ht.below B1).below (below_two w1 _ _))
  rw [VA.out] at hV
  refine hV.mono ?_
  rintro e w2 ⟨rfl, hb2⟩
  clear hV
  have B12 : Below w1.heap.size w1 w2 := below_and (below_two w1 _ _) (Nat.le_refl _) hb2
  have B2 := below_and B1 le B12
  have r2 := r1.below B12
  clear r1 hb2 B12 B1
  go_wp2_with fail
  have hV := verify_any _ 3 (.slice a1 32 c1) X ⟨#[98]⟩ _ [[98]] (r2.below (below_two w2 _ _)) (rdl_one w2 98 (by decide) (by decide)) (by decide) (by decide) ((ht.below B2).below (below_two w2 _ _))
  rw [VB.out] at hV
  refine hV.mono ?_
  rintro e w3 ⟨rfl, hb3⟩
  clear hV
  have B3 := below_and B2 le (below_and (below_two w2 _ _) (Nat.le_refl _) hb3)
  clear r2 hb3 B2
  go_wp2_with fail
  refine (replica_any w3 3).mono ?_
  rintro e w' ⟨rfl, rfl⟩
  go_wp2_with fail
  refine (client_any _ 1).mono ?_
  rintro e w' ⟨rfl, rfl⟩
  go_wp2_with fail
  go_ret
  exact ⟨rfl, B3⟩
end Go.Proofs.YtbdkoniaafhfhaaDoor
