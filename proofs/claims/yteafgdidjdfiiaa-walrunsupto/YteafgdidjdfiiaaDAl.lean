/- catenarylaw11.diskAlive. -/
import Derived.Test.YteafgdidjdfiiaaDa
import Derived.Lib.SlBytesConst
set_option linter.unusedVariables false
set_option linter.unusedSimpArgs false
namespace Go.Proofs.Yteafgdidjdfiiaa
open Go.RowKit Oct

theorem rd_litD (w : World) (l : List Int) (e : TypeId) (fr : Nat × Nat) (hb : Byt l) (h : 0 < l.length) (hm : l.length ≤ 1000) : Rd (w.alloc (.cells (bc l).toArray e fr)) (.slice (some ⟨w.heap.size, 0, none⟩) l.length l.length) l := by
  refine ⟨hb, some ⟨w.heap.size, 0, none⟩, l.length, by rw [bc_len], by rw [bc_len]; exact Nat.le_refl _, by unfold maxLen; omega, fun e => (by cases e), fun a ha j u hu => ?_⟩
  cases ha
  rw [Addr.add_mid, cell_of_row _ _ _ (bc l).toArray e fr (heap_alloc_new w _), Nat.zero_add]
  simpa using hu
theorem byt_ofD {l : List Int} (h : l.all (fun x => decide (0 ≤ x) && decide (x ≤ 255)) = true) : Byt l := fun x hx => by
  have := List.all_eq_true.1 h x hx
  simpa using this
theorem run_cvtD (u : World) (C : Array Value) (n c : Nat) : (convert 22 22 (.slice (some ⟨u.heap.size, 0, none⟩) n c)).run Try.prog (u.alloc (.cells C 5)) = .ok (.slice (some ⟨u.heap.size, 0, none⟩) n c) (u.alloc (.cells C 5 (C.size, C.size + 1))) :=
  Lib.run_convert_bytes_const u 22 5 C n c Try.underlying22 Try.underlying5
theorem nil_ne {k : Nat} : (Value.slice none 0 0).ownBlock ≠ some k := by simp [Value.ownBlock]

/-- A constant's bytes are written. -/
theorem append_lit (w : World) (b : Nat) (v : Value) (d : PDk) (x y : Int) (hx : Byt [x, y]) (h : Dsk w b v d) :
    Calls Try.prog 12 #[.pointer (some ⟨b, 0, none⟩), .slice (some ⟨w.heap.size, 0, none⟩) 2 2] (w.alloc (.cells #[.int .u8 x, .int .u8 y] 5 (2, 3))) fun e w' => ∃ v', e = .returned (.int .i64 (apD d [x, y]).2) ∧ Dsk w' b v' (apD d [x, y]).1 ∧ Gr2 w w' b v ∧ Spt w v v' := by
  have hlt := h.lt
  have hal := below_alloc w (.cells #[.int .u8 x, .int .u8 y] 5 (2, 3))
  have hL := rd_litD w [x, y] 5 (2, 3) hx (by simp) (by simp)
  refine (appendD_any (w.alloc (.cells #[.int .u8 x, .int .u8 y] 5 (2, 3))) b v (.slice (some ⟨w.heap.size, 0, none⟩) 2 2) d [x, y] (h.below hal) hL (fun _ e => by simp [Value.ownBlock] at e; omega) (fun _ k hk e => by simp [Value.ownBlock] at e; have := h.own.lt k hk; omega) (by simp)).mono ?_
  rintro e w' ⟨v', e1, e2, e3, e4⟩
  exact ⟨v', e1, e2, (Gr2.bel hal).trans (.inl rfl) e3, e4.imp id (fun h => h.mono hal.size)⟩

end Go.Proofs.Yteafgdidjdfiiaa
