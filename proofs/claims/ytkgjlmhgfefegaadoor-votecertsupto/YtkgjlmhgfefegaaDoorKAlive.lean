/- catenarylaw03.keyAlive. -/
import Derived.Test.YtkgjlmhgfefegaaDoorK2
namespace Go.Proofs.YtkgjlmhgfefegaaDoor
open Go.RowKit Oct Sha

theorem shaL_len (l : List Int) : (shaL l).length = 32 := out_len _
theorem signL_len {k : Int} (d : List Int) (ll : List (List Int)) (h0 : 0 ≤ k) (h1 : k ≤ 127) : (signL k d ll).length = 32 := by rw [signL_yes _ _ h0 h1, shaL_len]
theorem verL_same {k : Int} (d : List Int) (ll : List (List Int)) (h0 : 0 ≤ k) (h1 : k ≤ 127) : verL k (signL k d ll) d ll = true := by rw [verL, if_pos ⟨h0, h1⟩, decide_eq_true rfl]

/-- A list of one text, written out. -/
theorem rdl_one (w : World) (x : Int) (h0 : 0 ≤ x) (h1 : x ≤ 255) : Rdl ((w.alloc (.cells #[.int .u8 x] 5 (1, 2))).alloc (.cells #[.slice (some ⟨w.heap.size, 0, none⟩) 1 1] 24)) (.slice (some ⟨w.heap.size + 1, 0, none⟩) 1 1) [[x]] := by
  rw [show w.heap.size + 1 = (w.alloc (.cells #[.int .u8 x] 5 (1, 2))).heap.size by simp]
  exact ⟨[.slice (some ⟨w.heap.size, 0, none⟩) 1 1], rdv_els _ [.slice (some ⟨w.heap.size, 0, none⟩) 1 1] 24 (by simp) (by simp),
    (rd_lit w [x] 5 (1, 2) (fun y hy => by rw [List.mem_singleton.1 hy]; exact ⟨h0, h1⟩) (by simp) (by simp)).below (below_alloc _ _), trivial⟩
theorem below_two (w : World) (o p : Obj) : Below w.heap.size w ((w.alloc o).alloc p) := below_and (below_alloc w o) (Nat.le_refl _) (below_alloc _ p)

end Go.Proofs.YtkgjlmhgfefegaaDoor
