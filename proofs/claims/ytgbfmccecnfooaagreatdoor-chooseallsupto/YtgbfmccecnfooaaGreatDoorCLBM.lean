/- What the rows' list gives: the table of constants; and a world that holds it, for the witness. -/
import Derived.Test.YtgbfmccecnfooaaGreatDoorCLBF
import Derived.Test.YtgbfmccecnfooaaGreatDoorCLAR
import Derived.Test.YtgbfmccecnfooaaGreatDoorRows
import Derived.Test.YtgbfmccecnfooaaGreatDoorCLAG
import Derived.Deep.DeepHandedRow
import Derived.Lib.LaidTab
namespace Go.Proofs.YtgbfmccecnfooaaGreatDoor
section
open Go.RowKit Oct Bal
theorem bS_length {α : Type} (f : α → Nat) (hf : ∀ x, 1 ≤ f x) (l : List α) : l.length ≤ bS f l := by
  induction l with
  | nil => exact Nat.zero_le _
  | cons x l ih =>
    have hx := hf x
    show l.length + 1 ≤ f x + bS f l
    omega
theorem bS_memC {α : Type} {f : α → Nat} {y : α} : ∀ {l : List α}, y ∈ l → f y ≤ bS f l
  | x :: l, h => by
    rcases List.mem_cons.1 h with rfl | h
    · exact Nat.le_add_right _ _
    · exact Nat.le_trans (bS_memC h) (Nat.le_add_left _ _)
theorem szV_cB {x : PVote} (h : bV x ≤ 2000000) : szV x := by
  simp only [bV, bT] at h
  show szT x.2
  unfold szT
  omega
theorem szL_cB {α : Type} {b : Nat} {p : α → Prop} {f : α → Nat} (hf : ∀ y, 1 ≤ f y) {ys : List α} (hb : b ≤ 1000) (h : bL f ys ≤ 2000000) (hp : ∀ y, f y ≤ 2000000 → p y) : szL b p ys := by
  simp only [bL] at h
  have h1 := bS_length f hf ys
  have h2 : ys.length * b ≤ 2000000 * 1000 := Nat.mul_le_mul (by omega) hb
  exact ⟨by omega, fun y hy => hp y (by have := bS_memC (f := f) hy; omega)⟩
theorem szQ_cB {x : PReq} (h : bQ x ≤ 2000000) : szQ x := by
  simp only [bQ, bT] at h
  exact ⟨by unfold szT; omega, by unfold szT; omega⟩
theorem szP_cB {x : PPrep} (h : bP x ≤ 2000000) : szP x := by
  simp only [bP] at h
  exact ⟨szQ_cB (by omega), szL_cB (f := bV) (fun y => by simp only [bV]; omega) (by decide) (by omega) fun y hy => szV_cB hy⟩
theorem szR_cB {x : PRep} (h : bR x ≤ 2000000) : szR x := by
  simp only [bR] at h
  refine ⟨?_, szL_cB (f := bV) (fun y => by simp only [bV]; omega) (by decide) (by omega) fun y hy => szV_cB hy, szL_cB (f := bP) (fun y => by simp only [bP]; omega) (by decide) (by omega) fun y hy => szP_cB hy, ?_⟩
  · simp only [bT] at h; unfold szT; omega
  · simp only [bT] at h; unfold szT; omega
theorem reps_sz {rs : List PRep} (h : bL bR rs ≤ 1048576) : szL 128 szR rs := szL_cB (fun y => by simp only [bR]; omega) (by decide) (by omega) (fun y hy => szR_cB hy)
end
section
open Go.ChangeShapes Go.WideShapes Go.ChangeAt Go.RowKit Sha
theorem gTab : Tryz.prog.globalNamed "catenary/sha.constants" = some 1 := by kernel_rfl
theorem gTabType : (Tryz.prog.globals[1]?).map (·.type) = some 205 := by kernel_rfl
theorem cells45 : Tryz.prog.cellsOf 205 = 64 := by kernel_rfl
theorem cells34 : Tryz.prog.cellsOf 143 = 1 := by kernel_rfl
def kints : List Int := [1116352408, 1899447441, 3049323471, 3921009573, 961987163, 1508970993, 2453635748, 2870763221, 3624381080, 310598401, 607225278, 1426881987, 1925078388, 2162078206, 2614888103, 3248222580, 3835390401, 4022224774, 264347078, 604807628, 770255983, 1249150122, 1555081692, 1996064986, 2554220882, 2821834349, 2952996808, 3210313671, 3336571891, 3584528711, 113926993, 338241895, 666307205, 773529912, 1294757372, 1396182291, 1695183700, 1986661051, 2177026350, 2456956037, 2730485921, 2820302411, 3259730800, 3345764771, 3516065817, 3600352804, 4094571909, 275423344, 430227734, 506948616, 659060556, 883997877, 958139571, 1322822218, 1537002063, 1747873779, 1955562222, 2024104815, 2227730452, 2361852424, 2428436474, 2756734187, 3204031479, 3329325298]
theorem kints_at : ∀ t, t < 64 → kints.getD t 0 = wi (kk.getD t 0) := by decide +kernel
theorem tab_of {W : World} (h : laidMetH Tryz.prog [("catenary/sha.constants", Rows.laid_catenary_sha_constants)] W) : Tab W := by
  have t : Lib.TabIs Tryz.prog W "catenary/sha.constants" .u32 kints := Lib.tabIs_of_head (rest := []) gTab gTabType Tryz.underlying205 Tryz.underlying143 cells34 cells45 h
  intro j hj
  rw [t.cell gTab j hj, kints_at j hj]
/-- A world for the witness: the settled one, the table (block 0) holding what its initialiser lays. -/
noncomputable def laidWorld (os : Os) : World :=
  { World.holding Tryz.prog os ⟨#[], #[], []⟩ with heap := (World.holding Tryz.prog os ⟨#[], #[], []⟩).heap.modify 1 fun
      | .cells _ t frozen => .cells (kints.map (Value.int .u32)).toArray t frozen
      | o => o }
end
end Go.Proofs.YtgbfmccecnfooaaGreatDoor
