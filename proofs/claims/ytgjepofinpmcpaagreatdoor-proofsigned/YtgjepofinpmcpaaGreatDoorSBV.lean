/- Package proof: maySay, voted, showsBoth. -/
import Derived.Test.YtgjepofinpmcpaaGreatDoorSBR
import Derived.Test.YtgjepofinpmcpaaGreatDoorSAH
import Derived.Test.YtgjepofinpmcpaaGreatDoorSAY
set_option linter.unusedSimpArgs false
set_option linter.unusedVariables false
namespace Go.Proofs.YtgjepofinpmcpaaGreatDoor
open Go.RowKit Oct Kvl
theorem boxP (w : World) (m : PMsg) (s : SV) : ∃ w1, w1 = w.alloc (.cells (mc m s).toArray 40) ∧ Row w1 w.heap.size 40 (mc m s) ∧ Below w.heap.size w w1 := ⟨_, rfl, Row.new w _ _, below_alloc _ _⟩
set_option maxRecDepth 10000 in
set_option maxHeartbeats 2000000 in
theorem maySay_any (w : World) (m : PMsg) (s : SV) (n : Int) :
    Calls Tryz.prog 22 #[.agg (mc m s).toArray, .int .i64 n] w fun e w' => e = .returned (.bool (may m n)) ∧ Below w.heap.size w w' := by
  obtain ⟨w1, hw1, r1, B1⟩ := boxP w m s
  have c0 := r1.cell (j := 0) rfl
  have c4 := r1.cell (j := 4) rfl
  have c6 := r1.cell (j := 6) rfl
  have HR := Bb.right_any w1 n
  obtain ⟨M, hM⟩ : ∃ M, M = may m n := ⟨_, rfl⟩
  rw [← hM]
  unfold may at hM
  obtain ⟨R, hR⟩ : ∃ R, R = Bal.rgt n := ⟨_, rfl⟩
  rw [← hR] at HR hM
  clear hR
  obtain ⟨K, hK⟩ : ∃ K, K = m.kind := ⟨_, rfl⟩
  obtain ⟨F, hF⟩ : ∃ F, F = m.frm := ⟨_, rfl⟩
  obtain ⟨I, hI⟩ : ∃ I, I = m.idx := ⟨_, rfl⟩
  rw [← hK] at c0 hM
  rw [← hF] at c4 hM
  rw [← hI] at c6 hM
  clear hK hF hI
  by_cases hk : K = 13
  case neg =>
    replace hM : M = false := by rw [hM]; simp [hk]
    subst hM
    go_enter Tryz.func22, Tryz.ntmps22
    go_upto_region 1 with fail
    rw [← hw1]
    clear hw1
    go_wp2_with fail
    go_ret
    exact ⟨rfl, B1⟩
  subst hk
  cases R with
  | false =>
    replace hM : M = false := by rw [hM]; simp
    subst hM
    go_enter Tryz.func22, Tryz.ntmps22
    go_upto_region 1 with fail
    rw [← hw1]
    clear hw1
    go_wp2_with (go_at_call 18; refine HR.mono ?_; rintro e w2 ⟨rfl, rfl⟩)
    go_ret
    exact ⟨rfl, B1⟩
  | true =>
    by_cases h0 : 0 ≤ F
    case neg =>
      replace hM : M = false := by rw [hM]; simp [h0]
      subst hM
      go_enter Tryz.func22, Tryz.ntmps22
      go_upto_region 1 with fail
      rw [← hw1]
      clear hw1
      go_wp2_with (go_at_call 18; refine HR.mono ?_; rintro e w2 ⟨rfl, rfl⟩)
      go_ret
      exact ⟨rfl, B1⟩
    by_cases h1 : F < n
    case neg =>
      replace hM : M = false := by rw [hM]; simp [h1]
      subst hM
      go_enter Tryz.func22, Tryz.ntmps22
      go_upto_region 1 with fail
      rw [← hw1]
      clear hw1
      go_wp2_with (go_at_call 18; refine HR.mono ?_; rintro e w2 ⟨rfl, rfl⟩)
      go_ret
      exact ⟨rfl, B1⟩
    by_cases h2 : I = 2
    · replace hM : M = true := by rw [hM]; simp [h0, h1, h2]
      subst hM
      go_enter Tryz.func22, Tryz.ntmps22
      go_upto_region 1 with fail
      rw [← hw1]
      clear hw1
      go_wp2_with (go_at_call 18; refine HR.mono ?_; rintro e w2 ⟨rfl, rfl⟩)
      go_ret
      exact ⟨rfl, B1⟩
    by_cases h3 : I = 3
    · replace hM : M = true := by rw [hM]; simp [h0, h1, h2, h3]
      subst hM
      go_enter Tryz.func22, Tryz.ntmps22
      go_upto_region 1 with fail
      rw [← hw1]
      clear hw1
      go_wp2_with (go_at_call 18; refine HR.mono ?_; rintro e w2 ⟨rfl, rfl⟩)
      go_ret
      exact ⟨rfl, B1⟩
    · replace hM : M = false := by rw [hM]; simp [h2, h3]
      subst hM
      go_enter Tryz.func22, Tryz.ntmps22
      go_upto_region 1 with fail
      rw [← hw1]
      clear hw1
      go_wp2_with (go_at_call 18; refine HR.mono ?_; rintro e w2 ⟨rfl, rfl⟩)
      go_ret
      exact ⟨by show Ending.returned (.bool (I == 2 || I == 3)) = _; simp [h2, h3], B1⟩
set_option maxRecDepth 10000 in
set_option maxHeartbeats 2000000 in
theorem voted_any (w : World) (m : PMsg) (s : SV) (r : PReq) (v : Value) (hv : Rd w v (body r)) (hl : (body r).length ≤ 3000000) (gv : Value) (g : List Int) (hg : Rd w gv g) (hT : Tab w) :
    Calls Tryz.prog 45 #[.agg (mc m s).toArray, v, gv] w fun e w' => e = .returned (.bool (vtd m r g)) ∧ Below w.heap.size w w' := by
  obtain ⟨w1, hw1, r1, B1⟩ := boxP w m s
  have c1 := r1.cell (j := 1) rfl
  have c2 := r1.cell (j := 2) rfl
  have c3 := r1.cell (j := 3) rfl
  have c4 := r1.cell (j := 4) rfl
  have c6 := r1.cell (j := 6) rfl
  have HR := vRight_any w1 m.idx m.bal.1 m.bal.2 m.slot m.frm v (body r) (hv.below B1) hl gv g (hg.below B1) (hT.below B1)
  have HR : Calls Tryz.prog 62 #[.int .i64 m.idx, .agg #[.int .i64 m.bal.1, .int .i64 m.bal.2], .int .i64 m.slot, v, .agg #[.int .i64 m.frm, gv]] w1 fun e w' => e = .returned (.bool (vtd m r g)) ∧ Below w1.heap.size w1 w' := HR
  obtain ⟨ag, cg, rfl, _⟩ := hg.form
  generalize vtd m r g = D at *
  clear hv hg hl
  go_enter Tryz.func45, Tryz.ntmps45
  go_upto_region 1 with fail
  rw [← hw1]
  clear hw1
  go_wp2_with (go_at_call 62; refine HR.mono ?_; rintro e w2 ⟨rfl, b2⟩)
  go_ret
  exact ⟨rfl, below_and B1 (Nat.le_refl _) b2⟩
end Go.Proofs.YtgjepofinpmcpaaGreatDoor
