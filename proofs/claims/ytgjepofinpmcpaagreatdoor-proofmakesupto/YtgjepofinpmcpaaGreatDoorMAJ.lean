/- Names with values, plain: the place of a name; the document's way of putting; what the laws ask. -/
import Derived.Test.YtgjepofinpmcpaaGreatDoorMAE
import Derived.KernelRfl
import Derived.Deep.MidRow
set_option linter.unusedSimpArgs false
set_option linter.unusedVariables false
namespace Go.Proofs.YtgjepofinpmcpaaGreatDoor
section
open Go.RowKit Oct Sha
theorem Tryz.info34 : (Tryz.prog.info? 183).map (·.size) = some 1 := by kernel_rfl
set_option maxHeartbeats 1000000 in
theorem step_any (w : World) (b : Nat) (t : TypeId) (s : St) (tl : List Value) (i : BitVec 32) (hr : Row w b t (s.vs ++ tl)) :
    Calls Tryz.prog 161 #[.pointer (some ⟨b, 0, none⟩), .int .u32 (wi i)] w fun e w' => e = .returned (.tuple #[]) ∧ Row w' b t ((zRw s i).vs ++ tl) ∧ w.grownBy w' (some b) := by
  obtain ⟨xa, xb, xc, xd, xe, xf, xg, xh⟩ := s
  have c0 : w.cell? ⟨b, 0, none⟩ = some (.int .u32 (wi xa)) := hr.cell rfl
  have c1 : w.cell? ⟨b, 1, none⟩ = some (.int .u32 (wi xb)) := hr.cell rfl
  have c2 : w.cell? ⟨b, 2, none⟩ = some (.int .u32 (wi xc)) := hr.cell rfl
  have c3 : w.cell? ⟨b, 3, none⟩ = some (.int .u32 (wi xd)) := hr.cell rfl
  have c4 : w.cell? ⟨b, 4, none⟩ = some (.int .u32 (wi xe)) := hr.cell rfl
  have c5 : w.cell? ⟨b, 5, none⟩ = some (.int .u32 (wi xf)) := hr.cell rfl
  have c6 : w.cell? ⟨b, 6, none⟩ = some (.int .u32 (wi xg)) := hr.cell rfl
  have c7 : w.cell? ⟨b, 7, none⟩ = some (.int .u32 (wi xh)) := hr.cell rfl
  go_enter Tryz.func161, Tryz.ntmps161
  go_wp2_with fail
  go_quiet (fail)
  go_wp2_with fail
  go_quiet (fail)
  go_wp2_with fail
  go_quiet ((go_at_call 168; exact zH9 (S1_any _ xe) rfl))
  go_wp2_with fail
  refine (S0_any _ xa).mono ?_
  rintro e w1 ⟨rfl, rfl⟩
  go_wp2_with fail
  go_region_held3 (fun _ => True) (trivial)
    ((refine zGt (by rfl) _ _ _ _ (by rfl) 183 Tryz.underlying218 Tryz.info34 (some ⟨b, 1, none⟩) (some ⟨b, 0, none⟩) 7 7 7 8 (by rfl) (by rfl) b 1 _ t hr [wv xa, wv xb, wv xc, wv xd, wv xe, wv xf, wv xg] (by rfl) (fun _ => ⟨rfl, _, rfl, hr.src 0 7⟩) (by simp [St.vs, St.ws]) (zFd [xa, xb, xc, xd, xe, xf, xg]) 7 rfl ?_; intro w2 hr2 hg2))
  have hg : w.grownBy w2 (some b) := zHq (zB1 hg2)
  have hR : Row w2 b t ([wv xa, wv xa, wv xb, wv xc, wv xd, wv xe, wv xf, wv xg] ++ tl) := hr2
  clear hg2 hr2 c0 c1 c2 c3 c4 c5 c6 c7 hr
  have c4 : w2.cell? ⟨b, 4, none⟩ = some (.int .u32 (wi xd)) := hR.cell rfl
  have c0 : w2.cell? ⟨b, 0, none⟩ = some (.int .u32 (wi xa)) := hR.cell rfl
  have f4 := hR.frozen 4
  have f0 := hR.frozen 0
  go_wp2_with fail
  go_region
  go_wp2_with fail
  go_end0
  refine ⟨rfl, ?_, ?_⟩
  · have h := ((hR.set 4 (wv (xd + (xh + S1 xe + ch xe xf xg + i)))).set 0 (wv (xh + S1 xe + ch xe xf xg + i + (S0 xa + maj xa xb xc)))).drew
    simp only [bits_not, zPt, zJz, zSc, zIj, zCx]
    exact h
  · exact zBg (zA2 (zA2 hg (zAd _ _ _ _) (.inl rfl)) (zAd _ _ _ _) (.inl rfl))
end
section
namespace Sha
end Sha
end
section
open Go.RowKit Oct
end
section
open Go.RowKit Oct
end
section
namespace Kvl
def pos (n : List Int) : List zQk → Nat
  | [] => 0
  | x :: r => if zD8 x.1 n < 0 then pos n r + 1 else 0
theorem put_new {n v : List Int} : ∀ {l : List zQk}, getR n l = none → putR n v l = l.take (pos n l) ++ (n, v) :: l.drop (pos n l)
  | [], _ => rfl
  | x :: r, h => by
    unfold getR at h
    unfold putR pos
    by_cases h1 : zD8 x.1 n < 0
    · rw [if_pos h1] at h
      rw [if_pos h1, if_pos h1, put_new h]; simp
    · rw [if_neg h1] at h
      by_cases h2 : x.1 = n
      · rw [if_pos h2] at h; simp at h
      · rw [if_neg h1, if_neg h2, if_neg h1]; simp
theorem put_old {n v u : List Int} : ∀ {l : List zQk}, getR n l = some u → putR n v l = l.set (pos n l) (n, v)
  | [], h => by simp [getR] at h
  | x :: r, h => by
    unfold getR at h
    unfold putR pos
    by_cases h1 : zD8 x.1 n < 0
    · rw [if_pos h1] at h
      rw [if_pos h1, if_pos h1, put_old h]; simp
    · rw [if_neg h1] at h
      by_cases h2 : x.1 = n
      · rw [if_neg h1, if_pos h2, if_neg h1]; simp
      · rw [if_neg h2] at h; simp at h
/-! The document's way. -/
def fst (n : List Int) : List zQk → Option Nat
  | [] => none
  | x :: r => if x.1 = n then some 0 else (fst n r).map (· + 1)
/-! What the laws ask. -/
end Kvl
end
end Go.Proofs.YtgjepofinpmcpaaGreatDoor
