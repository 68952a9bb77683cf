/- Sealed messages: vote.SealText. (mk12t.py) -/
import Derived.Test.YtgbfmccecnfooaaGreatDoorCRAQ
import Derived.Test.YtgbfmccecnfooaaGreatDoorCRBC
import Derived.Test.YtgbfmccecnfooaaGreatDoorCRAX
import Derived.Deep.RegionHeld3
set_option linter.unusedSimpArgs false
set_option linter.unusedVariables false
namespace Go.Proofs.YtgbfmccecnfooaaGreatDoor
section
open Go.RowKit Oct
/-- What a message signs. -/
def seaB (m : PMsg) : List Int := encB (wsM m [])
def seaE (m : PMsg) : Int := encE (wsM m [])
def seaT (m : PMsg) (i : Int) : List Int := if seaE m = 0 then textL (repL i) (sL (domS m)) [seaB m] else []
set_option maxRecDepth 10000 in
set_option maxHeartbeats 1000000 in
theorem sealBody_any (w : World) (m : PMsg) (s : SV) (hs : SOk Any w m s) : Calls Tryz.prog 55 #[.agg (mc m s).toArray] w fun e w' => ∃ v, e = .returned (.tuple #[v, .int .i64 (seaE m)]) ∧ Own w' 5 v (bc (seaB m)) ∧ Byt (seaB m) ∧ Fr w.heap.size v ∧ Below w.heap.size w w' := by
  obtain ⟨w1, hw1, r1, B1⟩ := boxM w m s
  have hC := withSig_any Any w1 m s (.slice none 0 0) [] (hs.below B1) (RT.nil _ _)
  unfold seaB seaE
  go_enter Tryz.func55, Tryz.ntmps55
  go_upto_region 1 with fail
  rw [← hw1]
  clear hw1
  go_wp2_with (first
    | (refine wl_load rfl _ _ rfl w.heap.size rfl _ _ r1 _ Tryz.underlying72 rfl (by kernel_rfl) ?_)
    | (go_at_call 85; refine hC.mono ?_; rintro e w2 ⟨s2, rfl, hs2, hb2⟩; have hE := encode_any w2 (wsM m []) s2 (hs2.mv (Nat.le_refl _) Mv.any))
    | (go_at_call 84; refine hE.mono ?_; rintro e w3 ⟨v3, rfl, o3, b3, f3, hb3⟩))
  go_ret2
  have B2 := below_and B1 (Nat.le_refl _) hb2
  exact ⟨_, rfl, o3, b3, f3.mono B2.size, below_and B2 (Nat.le_refl _) hb3⟩
end
section
open Go.RowKit Oct
theorem domS_size (m : PMsg) : (domS m).size ≤ 4000000 := by unfold domS; split <;> decide
theorem seaB_len (m : PMsg) : (seaB m).length ≤ 1048576 := by
  unfold seaB encB
  split
  · rename_i h
    unfold encE at h
    split at h
    · cases h
    · split at h
      · cases h
      · omega
  · simp
theorem rdlS_one (u : World) (v : Value) (l : List Int) (h : Rd u v l) : Rdl (u.alloc (.cells #[v] 24)) (.slice (some ⟨u.heap.size, 0, none⟩) 1 1) [l] :=
  ⟨[v], rdv_els u [v] 24 (by simp) (by simp), h.below (below_alloc _ _), trivial⟩
end
end Go.Proofs.YtgbfmccecnfooaaGreatDoor
