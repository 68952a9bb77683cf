/- Strings by their bytes, against the order of bytes. -/
import Derived.Test.YtgjepofinpmcpaaGreatDoorCAZ
import Derived.Test.YtgjepofinpmcpaaGreatDoorCAW
section
namespace Go.Proofs.YtgjepofinpmcpaaGreatDoor
open Go.RowKit Oct Sha

theorem shaL_len (l : List Int) : (shaL l).length = 32 := out_len _
theorem signL_len {k : Int} (d : List Int) (ll : List (List Int)) (h0 : 0 ≤ k) (h1 : k ≤ 127) : (signL k d ll).length = 32 := by rw [signL_yes _ _ h0 h1, shaL_len]
theorem verL_same {k : Int} (d : List Int) (ll : List (List Int)) (h0 : 0 ≤ k) (h1 : k ≤ 127) : verL k (signL k d ll) d ll = true := by rw [verL, if_pos ⟨h0, h1⟩, decide_eq_true rfl]

/-- A list of one text, written out. -/
theorem rdl_one (w : World) (x : Int) (h0 : 0 ≤ x) (h1 : x ≤ 255) : Rdl ((w.alloc (.cells #[.int .u8 x] 5 (1, 2))).alloc (.cells #[.slice (some ⟨w.heap.size, 0, none⟩) 1 1] 23)) (.slice (some ⟨w.heap.size + 1, 0, none⟩) 1 1) [[x]] := by
  rw [show w.heap.size + 1 = (w.alloc (.cells #[.int .u8 x] 5 (1, 2))).heap.size by simp]
  exact ⟨[.slice (some ⟨w.heap.size, 0, none⟩) 1 1], rdv_els _ [.slice (some ⟨w.heap.size, 0, none⟩) 1 1] 23 (by simp) (by simp),
    (rd_lit w [x] 5 (1, 2) (fun y hy => by rw [List.mem_singleton.1 hy]; exact ⟨h0, h1⟩) (by simp) (by simp)).below (below_alloc _ _), trivial⟩
theorem below_two (w : World) (o p : Obj) : Below w.heap.size w ((w.alloc o).alloc p) := below_and (below_alloc w o) (Nat.le_refl _) (below_alloc _ p)

end Go.Proofs.YtgjepofinpmcpaaGreatDoor
end

section
set_option linter.unusedVariables false
namespace Go.Proofs.YtgjepofinpmcpaaGreatDoor
open Go.RowKit Oct Kvl

theorem less_cmp : ∀ {a b : List Int}, Byt a → Byt b → Op.bytesLess (a.map fun n => UInt8.ofNat n.toNat) (b.map fun n => UInt8.ofNat n.toNat) = decide (cmpL a b < 0)
  | [], [], _, _ => rfl
  | [], _ :: _, _, _ => rfl
  | _ :: _, [], _, _ => rfl
  | x :: a, y :: b, ha, hb => by
    have hx := ha x (by simp)
    have hy := hb y (by simp)
    have ih := less_cmp (a := a) (b := b) (fun z hz => ha z (by simp [hz])) (fun z hz => hb z (by simp [hz]))
    simp only [List.map_cons, Op.bytesLess, ih, cmpL]
    have h1 : (UInt8.ofNat x.toNat < UInt8.ofNat y.toNat) ↔ x < y := u8_lt hx hy
    by_cases hxy : x < y
    · simp [hxy, h1]
    · by_cases hyx : y < x
      · have h2 : ¬ (UInt8.ofNat x.toNat = UInt8.ofNat y.toNat) := by
          intro e
          have := congrArg UInt8.toNat e
          simp at this
          omega
        simp [hxy, h1, hyx, h2]
      · obtain rfl : x = y := by omega
        simp
theorem cmp_str {a b : List Int} (ha : Byt a) (hb : Byt b) : (!Op.bytesLess (strOfNums a).toList (strOfNums b).toList && !(strOfNums a).toList == (strOfNums b).toList) = decide (0 < cmpL a b) := by
  have e : ∀ l : List Int, (strOfNums l).toList = l.map fun n => UInt8.ofNat n.toNat := fun l => by rw [ByteArray.toList_eq]; rfl
  rw [e, e, less_cmp ha hb]
  have hs : (a.map (fun n => UInt8.ofNat n.toNat) == b.map fun n => UInt8.ofNat n.toNat) = decide (a = b) := by
    have := str_eq ha hb
    rw [e, e] at this
    exact this
  rw [hs]
  rcases cmp_rng a b with h | h | h
  · rw [h]; simp
  · have := cmp_zero.1 h
    rw [h]; simp [this]
  · have hne : a ≠ b := fun e => by rw [e, cmp_self] at h; omega
    rw [h]; simp [hne]

end Go.Proofs.YtgjepofinpmcpaaGreatDoor
end
