/- The document's Picks of layer 18. Written by mk19g.py. -/
import Derived.Test.YtgbfmccecnfooaaCABR
import Derived.Test.YtgbfmccecnfooaaCABM
import Derived.Test.YtgbfmccecnfooaaCABS
set_option linter.unusedSimpArgs false
set_option linter.unusedVariables false
namespace Go.Proofs.Ytgbfmccecnfooaa
open Go.RowKit Oct Bal
/-- A request whose texts lie in an elder world. -/
def RQk (W : World) : (Nat → Prop) → World → List Value → PReq → Prop := fun _ _ r x => RReq Any W r x
theorem mov_qk (W : World) : Mov (RQk W) := fun _ _ _ _ _ _ h _ _ => h
set_option maxRecDepth 10000 in
set_option maxHeartbeats 4000000 in
theorem picksD_in (w0 w : World) (hW0 : Below w0.heap.size w0 w) (v : Value) (ys : List PRep) (hvs : RL RRep 8 Any w0 v ys) (hsum : (allP ys).length * 112 ≤ 140737488355328) (hb : ∀ r ∈ ys, bdR r) :
    Calls Try.prog 14 #[v] w fun e w' => ∃ v', e = .returned v' ∧ RL (RQk w0) 4 (From w.heap.size) w' v' (picksR ys (cntR ys)) ∧ Below w.heap.size w w' := by
  have hlb := lowR_bd hb
  have hhb := higR_bd hb
  have hlh := higR_le ys
  have hl0 := lowR_nn ys
  have hcn : cntR ys = (min (higR ys - lowR ys) 16).toNat := rfl
  have hst : ∀ n : Nat, picksR ys (n + 1) = picksR ys n ++ [reqO (pkR (lowR ys + (n : Int) + 1) ys)] := fun n => by
    rw [picksR_succ, show lowR ys + 1 + (n : Int) = lowR ys + (n : Int) + 1 by omega]
  have hPK := (show Hid (∀ (u : World) (k : Int), Below w.heap.size w u → Calls Try.prog 12 #[.int .i64 k, v] u fun e w' => ∃ r, e = .returned (.agg r.toArray) ∧ RReq Any w0 r (reqO (pkR k ys)) ∧ Below u.heap.size u w') from fun u k hu => pickD_in w0 u (below_and hW0 (Nat.le_refl _) hu) k v ys hvs hsum)
  have hLO := (show Hid (∀ u : World, Below w.heap.size w u → Calls Try.prog 7 #[v] u fun e w' => e = .returned (.int .i64 (lowR ys)) ∧ Below u.heap.size u w') from fun u hu => lowD_any u v ys (hvs.mv mov_rep (below_and hW0 (Nat.le_refl _) hu).size (Mv.below (below_and hW0 (Nat.le_refl _) hu))))
  have hHI := (show Hid (∀ u : World, Below w.heap.size w u → Calls Try.prog 9 #[v] u fun e w' => e = .returned (.int .i64 (higR ys)) ∧ Below u.heap.size u w') from fun u hu => highD_any u v ys (hvs.mv mov_rep (below_and hW0 (Nat.le_refl _) hu).size (Mv.below (below_and hW0 (Nat.le_refl _) hu))))
  have HST := (show Hid (∀ n : Nat, picksR ys (n + 1) = picksR ys n ++ [reqO (pkR (lowR ys + (n : Int) + 1) ys)]) from hst)
  have HLN := (show Hid (∀ n, (picksR ys n).length = n) from picksR_len ys)
  obtain ⟨aa, ca, rfl, _⟩ := hvs.form
  clear hst hvs hb hsum
  unfold i64C at hlb hhb
  generalize hLR : lowR ys = LR at *
  generalize hHR : higR ys = HR at *
  have hc16 : cntR ys ≤ 16 := by omega
  generalize hCN : cntR ys = CN at *
  have HCN := (show Hid (CN = (min (HR - LR) 16).toNat) from hcn)
  clear hcn
  obtain ⟨w1, hw1⟩ : ∃ u, u = w.alloc (.cells #[] 36) := ⟨_, rfl⟩
  have b1 : Below w.heap.size w w1 := by rw [hw1]; exact below_alloc _ _
  have hL1 := LB.fresh (RQk w0) 36 4 w.heap.size w (Nat.le_refl _)
  rw [← hw1] at hL1
  go_enter Try.func14, Try.ntmps14
  go_upto_region 2 with fail
  rw [← hw1]
  clear hw1
  go_upto_region 4 with (first
    | (go_at_call 7; refine (hLO.out w1 b1).mono ?_; rintro e w2 ⟨rfl, b2⟩; have B2 := below_and b1 (Nat.le_refl _) b2)
    | (go_at_call 9; refine (hHI.out w2 B2).mono ?_; rintro e w3 ⟨rfl, b3⟩))
  have B3 := below_and B2 (Nat.le_refl _) b3
  have hL3 := (hL1.below (mov_qk w0) b2).below (mov_qk w0) b3
  have hLR0 : (LR : Int) = LR + ((0 : Nat) : Int) := by omega
  clear hLO hHI hL1 b1 b2 b3 B2
  go_loopw [3, 6] (fun l s wr => ∃ n : Nat, n ≤ CN ∧ s = .int .i64 (LR + (n : Int)) ∧ LB (RQk w0) 36 4 w.heap.size wr l (picksR ys n) ∧ Below w.heap.size w wr) (fun _ s _ => ((LR + (CN : Int)) - intOf s).toNat)
  case atStart => exact ⟨0, by omega, by rw [← hLR0], hL3, B3⟩
  case round =>
    clear hL3 B3 hLR0
    obtain ⟨n, hn, rfl, hL, hB⟩ := hrel
    obtain ⟨PL, hPL⟩ : ∃ PL, PL = picksR ys n := ⟨_, rfl⟩
    have HPL := (show Hid (PL = picksR ys n ∧ PL.length = n) from ⟨hPL, by rw [hPL]; exact HLN.out n⟩)
    rw [← hPL] at hL
    clear hPL
    obtain ⟨la, lc, rfl⟩ := hL.fmC
    by_cases hnl : n < CN
    case neg =>
      obtain rfl : n = CN := by omega
      have hd : decide (LR + (n : Int) < HR) = false ∨ (decide (LR + (n : Int) < HR) = true ∧ decide ((PL.length : Int) < 16) = false ∧ decide (PL.length < 16) = false) := by
        have hcn := HCN.out
        by_cases h1 : LR + (n : Int) < HR
        · exact .inr ⟨by simpa using h1, by have := HPL.out.2; exact decide_eq_false (by omega), by have := HPL.out.2; exact decide_eq_false (by omega)⟩
        · exact .inl (by simpa using h1)
      rcases hd with d1 | ⟨d1, d2, d3⟩ <;> (
        go_wp2_with fail
        go_ret
        rw [← HPL.out.1]
        exact ⟨_, rfl, hL.rl (mov_qk w0), hB⟩)
    have d1 : decide (LR + (n : Int) < HR) = true := decide_eq_true (by have := HCN.out; omega)
    have d2 : decide ((PL.length : Int) < 16) = true := decide_eq_true (by have := HPL.out.2; omega)
    have d2' : PL.length < 16 := by have := HPL.out.2; omega
    have hw1 : wrap64 (LR + (n : Int) + 1) = LR + (n : Int) + 1 := IntWalk.wrap64_in _ ⟨by omega, by have := HCN.out; omega⟩
    have hPK1 := hPK.out wr (LR + (n : Int) + 1) hB
    have hBs := hB.size
    have hLlt := hL.lt
    go_wp2_with (first
      | (go_at_call 12; refine hPK1.mono ?_; rintro e w5 ⟨r5, rfl, hr5, b5⟩; have hL5 := hL.below (mov_qk w0) b5; have h5s := b5.size; have hone := one_RReq hr5; obtain ⟨ro, rs, rfl, f1, f2⟩ := hr5)
      | (at_builtin; go_loud (refine wl_pushS (mov_qk w0) rfl _ _ _ rfl 36 4 64 _ Try.underlying39 Try.infReqC rfl (by decide) w.heap.size (.slice la PL.length lc) PL rfl hL5 [.int .i64 (reqO (pkR (LR + (n : Int) + 1) ys)).1, .int .i64 (reqO (pkR (LR + (n : Int) + 1) ys)).2.1, ro, rs] (reqO (pkR (LR + (n : Int) + 1) ys)) w5.heap.size ⟨_, _, rfl, f1, f2⟩ rfl hone (Nat.le_trans hBs h5s) hL5.lt rfl (Nat.le_trans hBs h5s) (by omega) (by decide) ?_; intro v7 w7 hL7 g7 hS7)))
    have hB5 := below_and hB (Nat.le_refl _) b5
    have hB7 := hB5.trans (grown_below g7 hB5.size (fun q hq => hL5.fr q hq))
    go_roundw
    case rel => exact ⟨n + 1, by omega, by simp; omega, by rw [HST.out n, ← HPL.out.1]; exact hL7, hB7⟩
    case measure => simp [intOf]; omega
end Go.Proofs.Ytgbfmccecnfooaa
