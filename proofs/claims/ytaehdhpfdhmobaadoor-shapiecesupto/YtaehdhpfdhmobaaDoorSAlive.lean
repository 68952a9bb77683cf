/- catenarylaw02.shaAlive. -/
import Derived.Test.YtaehdhpfdhmobaaDoorV9
import Derived.Test.YtaehdhpfdhmobaaDoorShaK
import Derived.Lib.SlBytesConst
namespace Go.Proofs.YtaehdhpfdhmobaaDoor
open Go.RowKit Oct Sha

theorem rd_lit (w : World) (l : List Int) (e : TypeId) (fr : Nat × Nat) (hb : Byt l) (h : 0 < l.length) (hm : l.length ≤ 1000) : Rd (w.alloc (.cells (bc l).toArray e fr)) (.slice (some ⟨w.heap.size, 0, none⟩) l.length l.length) l := by
  refine ⟨hb, some ⟨w.heap.size, 0, none⟩, l.length, by rw [bc_len], by rw [bc_len]; exact Nat.le_refl _, by unfold maxLen; omega, fun e => (by cases e), fun a ha j u hu => ?_⟩
  cases ha
  rw [Addr.add_mid, cell_of_row _ _ _ (bc l).toArray e fr (heap_alloc_new w _), Nat.zero_add]
  simpa using hu
theorem byt_of {l : List Int} (h : l.all (fun x => decide (0 ≤ x) && decide (x ≤ 255)) = true) : Byt l := fun x hx => by
  have := List.all_eq_true.1 h x hx
  simpa using this
theorem run_cvt (u : World) (C : Array Value) (n c : Nat) : (convert 23 23 (.slice (some ⟨u.heap.size, 0, none⟩) n c)).run Tryd.prog (u.alloc (.cells C 5)) = .ok (.slice (some ⟨u.heap.size, 0, none⟩) n c) (u.alloc (.cells C 5 (C.size, C.size + 1))) :=
  Lib.run_convert_bytes_const u 23 5 C n c Tryd.underlying23 Tryd.underlying5
theorem shaL_byt (l : List Int) : Byt (shaL l) := out_byt _

set_option maxHeartbeats 1000000 in
theorem alive_any (w : World) (ht : Tab w) : Calls Tryd.prog 7 #[] w fun e w' => e = .returned (.bool true) ∧ Below w.heap.size w w' := by
  have hS := sum_any (w.alloc (.cells (bc [97, 98, 99]).toArray 5 (3, 4))) (.slice (some ⟨w.heap.size, 0, none⟩) 3 3) [97, 98, 99] (rd_lit w [97, 98, 99] 5 (3, 4) (byt_of (by decide)) (by decide) (by decide)) (ht.below (below_alloc w _)) (by decide)
  rw [hash_abc] at hS
  have hcv := run_cvt
  go_enter Tryd.func7, Tryd.ntmps7
  go_wp2_with fail
  refine hS.mono ?_
  rintro e w1 ⟨r, rfl, hown, hfr, hb1⟩
  obtain ⟨b, off, cap, rfl, hc1, hc2, hblt, hcell⟩ := (hown.rd (byt_of (by decide))).at (by decide)
  have c0 : w1.cell? ⟨b, off, none⟩ = some (.int .u8 186) := hcell 0 (by decide)
  have c1 : w1.cell? ⟨b, off + 1, none⟩ = some (.int .u8 120) := hcell 1 (by decide)
  have c31 : w1.cell? ⟨b, off + 31, none⟩ = some (.int .u8 173) := hcell 31 (by decide)
  have hb2 := below_and (below_alloc w _) (Nat.le_refl _) hb1
  clear hcell hown hfr hb1 hS
  go_wp2_with fail
  go_ret
  exact ⟨rfl, hb2⟩
end Go.Proofs.YtaehdhpfdhmobaaDoor
