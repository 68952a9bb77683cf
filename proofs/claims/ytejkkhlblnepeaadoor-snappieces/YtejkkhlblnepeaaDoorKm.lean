/- kvAlive; the document's copies. -/
import Derived.Test.YtejkkhlblnepeaaDoorKl
import Derived.Lib.SlBytesConst
set_option linter.unusedVariables false
set_option linter.unusedSimpArgs false
namespace Go.Proofs.YtejkkhlblnepeaaDoor
open Go.RowKit Oct Kvl

theorem litB (w : World) (x : Int) (hx : 0 ≤ x ∧ x ≤ 255) : Rd (w.alloc (.cells #[.int .u8 x] 5 (1, 2))) (.slice (some ⟨w.heap.size, 0, none⟩) 1 1) [x] := by
  refine ⟨fun y hy => by simp at hy; rw [hy]; exact hx, some ⟨w.heap.size, 0, none⟩, 1, rfl, Nat.le_refl _, by decide, fun e => (by cases e), fun a ha j u hu => ?_⟩
  cases ha
  rw [Addr.add_mid, cell_of_row _ _ _ #[.int .u8 x] 5 (1, 2) (heap_alloc_new w _), Nat.zero_add]
  simpa [bc] using hu
theorem cvtB (u : World) (C : Array Value) (n c : Nat) : (convert 22 22 (.slice (some ⟨u.heap.size, 0, none⟩) n c)).run Tryd.prog (u.alloc (.cells C 5)) = .ok (.slice (some ⟨u.heap.size, 0, none⟩) n c) (u.alloc (.cells C 5 (C.size, C.size + 1))) :=
  Lib.run_convert_bytes_const u 22 5 C n c Tryd.underlying22 Tryd.underlying5
theorem cvtB1 (w : World) (o : Obj) (C : Array Value) (n c : Nat) : (convert 22 22 (.slice (some ⟨w.heap.size + 1, 0, none⟩) n c)).run Tryd.prog ((w.alloc o).alloc (.cells C 5)) = .ok (.slice (some ⟨w.heap.size + 1, 0, none⟩) n c) ((w.alloc o).alloc (.cells C 5 (C.size, C.size + 1))) := by
  rw [show w.heap.size + 1 = (w.alloc o).heap.size by simp]
  exact cvtB _ C n c
theorem cvtB2 (w : World) (o p : Obj) (C : Array Value) (n c : Nat) : (convert 22 22 (.slice (some ⟨w.heap.size + 2, 0, none⟩) n c)).run Tryd.prog (((w.alloc o).alloc p).alloc (.cells C 5)) = .ok (.slice (some ⟨w.heap.size + 2, 0, none⟩) n c) (((w.alloc o).alloc p).alloc (.cells C 5 (C.size, C.size + 1))) := by
  rw [show w.heap.size + 2 = ((w.alloc o).alloc p).heap.size by simp]
  exact cvtB _ C n c
theorem rt_any {w : World} {v : Value} {l : List Int} (h : Rd w v l) : RT Any w v l := ⟨h, fun _ _ _ => trivial⟩
theorem alive1 : doL [] (2, [97], [49], [], 0) = ([([97], [49])], 0, []) := by decide
theorem alive2 : doL [([97], [49])] (3, [97], [50], [51], 0) = ([([97], [49])], 2, [49]) := by decide
/-- What Do gives, to read on. -/
theorem Rp.rl {B : Nat} {w : World} {v : Value} {ys : List PEnt} (h : LB OEnt 51 2 B w v ys) : RL REnt 2 Any w v ys := (h.rl mov_oent).ent.mv mov_ent (Nat.le_refl _) Mv.any
theorem str49 : ((strOfNums [49]).toList == ([49] : List UInt8)) = true := by kernel_rfl

end Go.Proofs.YtejkkhlblnepeaaDoor
