/- sha.step. -/
import Derived.Test.YtgjepofinpmcpaaGreatDoorSAL
namespace Go.Proofs.YtgjepofinpmcpaaGreatDoor
open Go.RowKit Oct Sha
theorem Tryz.info34 : (Tryz.prog.info? 183).map (·.size) = some 1 := by kernel_rfl
set_option maxHeartbeats 1000000 in
theorem step_any (w : World) (b : Nat) (t : TypeId) (s : St) (tl : List Value) (i : BitVec 32) (hr : Row w b t (s.vs ++ tl)) :
    Calls Tryz.prog 161 #[.pointer (some ⟨b, 0, none⟩), .int .u32 (wi i)] w fun e w' => e = .returned (.tuple #[]) ∧ Row w' b t ((rstep s i).vs ++ tl) ∧ w.grownBy w' (some b) := by
  obtain ⟨xa, xb, xc, xd, xe, xf, xg, xh⟩ := s
  have c0 : w.cell? ⟨b, 0, none⟩ = some (.int .u32 (wi xa)) := hr.cell rfl
  have c1 : w.cell? ⟨b, 1, none⟩ = some (.int .u32 (wi xb)) := hr.cell rfl
  have c2 : w.cell? ⟨b, 2, none⟩ = some (.int .u32 (wi xc)) := hr.cell rfl
  have c3 : w.cell? ⟨b, 3, none⟩ = some (.int .u32 (wi xd)) := hr.cell rfl
  have c4 : w.cell? ⟨b, 4, none⟩ = some (.int .u32 (wi xe)) := hr.cell rfl
  have c5 : w.cell? ⟨b, 5, none⟩ = some (.int .u32 (wi xf)) := hr.cell rfl
  have c6 : w.cell? ⟨b, 6, none⟩ = some (.int .u32 (wi xg)) := hr.cell rfl
  have c7 : w.cell? ⟨b, 7, none⟩ = some (.int .u32 (wi xh)) := hr.cell rfl
  go_enter Tryz.func161, Tryz.ntmps161
  go_wp2_with fail
  go_quiet (fail)
  go_wp2_with fail
  go_quiet (fail)
  go_wp2_with fail
  go_quiet ((go_at_call 168; exact quiet_as (S1_any _ xe) rfl))
  go_wp2_with fail
  refine (S0_any _ xa).mono ?_
  rintro e w1 ⟨rfl, rfl⟩
  go_wp2_with fail
  go_region_held3 (fun _ => True) (trivial)
    ((refine step_copy_to (by rfl) _ _ _ _ (by rfl) 183 Tryz.underlying218 Tryz.info34 (some ⟨b, 1, none⟩) (some ⟨b, 0, none⟩) 7 7 7 8 (by rfl) (by rfl) b 1 _ t hr [wv xa, wv xb, wv xc, wv xd, wv xe, wv xf, wv xg] (by rfl) (fun _ => ⟨rfl, _, rfl, hr.src 0 7⟩) (by simp [St.vs, St.ws]) (wv_one [xa, xb, xc, xd, xe, xf, xg]) 7 rfl ?_; intro w2 hr2 hg2))
  have hg : w.grownBy w2 (some b) := grown_drewN (grown_drew hg2)
  have hR : Row w2 b t ([wv xa, wv xa, wv xb, wv xc, wv xd, wv xe, wv xf, wv xg] ++ tl) := hr2
  clear hg2 hr2 c0 c1 c2 c3 c4 c5 c6 c7 hr
  have c4 : w2.cell? ⟨b, 4, none⟩ = some (.int .u32 (wi xd)) := hR.cell rfl
  have c0 : w2.cell? ⟨b, 0, none⟩ = some (.int .u32 (wi xa)) := hR.cell rfl
  have f4 := hR.frozen 4
  have f0 := hR.frozen 0
  go_wp2_with fail
  go_region
  go_wp2_with fail
  go_end0
  refine ⟨rfl, ?_, ?_⟩
  · have h := ((hR.set 4 (wv (xd + (xh + S1 xe + ch xe xf xg + i)))).set 0 (wv (xh + S1 xe + ch xe xf xg + i + (S0 xa + maj xa xb xc)))).drew
    simp only [bits_not, bits_and, bits_or, mod_wi, ofInt_sum, ofInt_wi]
    exact h
  · exact grown_to_drew (grown_trans (grown_trans hg (grown_set _ _ _ _) (.inl rfl)) (grown_set _ _ _ _) (.inl rfl))
end Go.Proofs.YtgjepofinpmcpaaGreatDoor
