/- catenarylaw02.shaAlive. -/
import Derived.Test.YtajmgpgjkalfkaaDoorV9
import Derived.Test.YtajmgpgjkalfkaaDoorShaK
import Derived.Lib.SlBytesConst
namespace Go.Proofs.YtajmgpgjkalfkaaDoor
open Go.RowKit Oct Sha

theorem rd_lit (w : World) (l : List Int) (e : TypeId) (fr : Nat × Nat) (hb : Byt l) (h : 0 < l.length) (hm : l.length ≤ 1000) : Rd (w.alloc (.cells (bc l).toArray e fr)) (.slice (some ⟨w.heap.size, 0, none⟩) l.length l.length) l := by
  refine ⟨hb, some ⟨w.heap.size, 0, none⟩, l.length, by rw [bc_len], by rw [bc_len]; exact Nat.le_refl _, by unfold maxLen; omega, fun e => (by cases e), fun a ha j u hu => ?_⟩
  cases ha
  rw [Addr.add_mid, cell_of_row _ _ _ (bc l).toArray e fr (heap_alloc_new w _), Nat.zero_add]
  simpa using hu
theorem byt_of {l : List Int} (h : l.all (fun x => decide (0 ≤ x) && decide (x ≤ 255)) = true) : Byt l := fun x hx => by
  have := List.all_eq_true.1 h x hx
  simpa using this
theorem run_cvt (u : World) (C : Array Value) (n c : Nat) : (convert 29 29 (.slice (some ⟨u.heap.size, 0, none⟩) n c)).run Tryd.prog (u.alloc (.cells C 5)) = .ok (.slice (some ⟨u.heap.size, 0, none⟩) n c) (u.alloc (.cells C 5 (C.size, C.size + 1))) :=
  Lib.run_convert_bytes_const u 29 5 C n c Tryd.underlying29 Tryd.underlying5
theorem shaL_byt (l : List Int) : Byt (shaL l) := out_byt _

end Go.Proofs.YtajmgpgjkalfkaaDoor
