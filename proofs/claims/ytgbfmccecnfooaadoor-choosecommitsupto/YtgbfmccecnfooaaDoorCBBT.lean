/- choose.Picks. Written by mk19k.py. -/
import Derived.Test.YtgbfmccecnfooaaDoorCBBO
import Derived.Test.YtgbfmccecnfooaaDoorCBAT
set_option linter.unusedSimpArgs false
set_option linter.unusedVariables false
namespace Go.Proofs.YtgbfmccecnfooaaDoor
open Go.RowKit Oct Bal
theorem LB.fmC {α : Type} {R : (Nat → Prop) → World → List Value → α → Prop} {T : TypeId} {k B : Nat} {w : World} {v : Value} {ys : List α} (h : LB R T k B w v ys) : ∃ ao cap, v = .slice ao ys.length cap := by
  obtain ⟨rows, h0, h1, h2, h3⟩ := h
  rcases h1.2 with ⟨rfl, e⟩ | ⟨g, cap, cur, rfl, _⟩
  · have := h3.len
    exact ⟨none, 0, by rw [← this, e]⟩
  · have := h3.len
    exact ⟨_, cap, by rw [← this]⟩
theorem Tryd.infReqC : (Tryd.prog.info? 36).map (fun i => (i.zero, i.size, i.bytes)) = some (some (.agg #[.int .i64 0, .int .i64 0, .slice none 0 0, .slice none 0 0]), 4, 64) := by kernel_rfl
set_option maxRecDepth 10000 in
set_option maxHeartbeats 8000000 in
theorem picksC_any (w : World) (v : Value) (ys : List PRep) (hvs : RL RRep 8 Any w v ys) (hz : ∀ r ∈ ys, ∀ p ∈ r.2.2.2.2.2.1, szQ p.2.2.1) (hb : ∀ r ∈ ys, bdR r) :
    Calls Tryd.prog 13 #[v] w fun e w' => ∃ v', e = .returned v' ∧ RL RReq 4 (From w.heap.size) w' v' (picksR ys (cntR ys)) ∧ Below w.heap.size w w' := by
  have hLo := lowC_any w v ys hvs
  have hlb := lowR_bd hb
  have hhb := higR_bd hb
  have hlh := higR_le ys
  have hl0 := lowR_nn ys
  have hcn : cntR ys = (min (higR ys - lowR ys) 16).toNat := rfl
  have hPK := (show Hid (∀ (u : World) (i : Nat), Below w.heap.size w u → Calls Tryd.prog 22 #[.int .i64 (lowR ys + 1 + (i : Int)), v] u fun e w' => ∃ r, e = .returned (.agg r.toArray) ∧ RReq (From u.heap.size) w' r (reqO (pkR (lowR ys + 1 + (i : Int)) ys)) ∧ Below u.heap.size u w') from fun u i hu => pickC_any u _ v ys (hvs.mv mov_rep hu.size (Mv.below hu)) hz)
  have hHI := (show Hid (∀ u : World, Below w.heap.size w u → Calls Tryd.prog 21 #[v] u fun e w' => e = .returned (.int .i64 (higR ys)) ∧ Below u.heap.size u w') from fun u hu => highC_any u v ys (hvs.mv mov_rep hu.size (Mv.below hu)))
  have hst := picksR_succ ys
  have HST := (show Hid (∀ n, picksR ys (n + 1) = picksR ys n ++ [reqO (pkR (lowR ys + 1 + (n : Int)) ys)]) from hst)
  have HLN := (show Hid (∀ n, (picksR ys n).length = n) from picksR_len ys)
  obtain ⟨aa, ca, rfl, _⟩ := hvs.form
  clear hst hvs hz hb
  unfold i64C at hlb hhb
  generalize hLR : lowR ys = LR at *
  generalize hHR : higR ys = HR at *
  have hc16 : cntR ys ≤ 16 := by omega
  generalize hCN : cntR ys = CN at *
  have hwr : wrap64 (HR - LR) = HR - LR := IntWalk.wrap64_in _ ⟨by omega, by omega⟩
  have hmin : (if (HR - LR) < 16 then HR - LR else 16) = (CN : Int) := by split <;> omega
  have hmin2 : (if 16 < (HR - LR) then 16 else HR - LR) = (CN : Int) := by split <;> omega
  have hmin3 : (if (HR - LR) ≤ 16 then HR - LR else 16) = (CN : Int) := by split <;> omega
  go_enter Tryd.func13, Tryd.ntmps13
  go_upto_region 4 with (first
    | (go_at_call 12; refine hLo.mono ?_; rintro e w1 ⟨rfl, b1⟩)
    | (go_at_call 21; refine (hHI.out w1 b1).mono ?_; rintro e w2 ⟨rfl, b2⟩))
  have B2 := below_and b1 (Nat.le_refl _) b2
  clear hLo hHI b1 b2
  try rw [hmin]
  try rw [hmin2]
  try rw [hmin3]
  clear hmin hmin2 hmin3
  go_loopw [4, 13] (fun l j wr => ∃ n : Nat, n ≤ CN ∧ j = .int .i64 n ∧ LB RReq 36 4 w.heap.size wr l (picksR ys n) ∧ Below w.heap.size w wr) (fun _ j _ => CN - (intOf j).toNat)
  case atStart => exact ⟨0, by omega, rfl, LB.nil _ _ _ _ _, B2⟩
  case round =>
    obtain ⟨n, hn, rfl, hL, hB⟩ := hrel
    obtain ⟨PL, hPL⟩ : ∃ PL, PL = picksR ys n := ⟨_, rfl⟩
    have hln : PL.length = n := by rw [hPL]; exact HLN.out n
    have HPL := (show Hid (PL = picksR ys n ∧ PL.length = n) from ⟨hPL, hln⟩)
    rw [← hPL] at hL
    clear hPL hln
    obtain ⟨la, lc, rfl⟩ := hL.fmC
    by_cases hnl : n < CN
    case neg =>
      obtain rfl : n = CN := by omega
      go_wp2_with fail
      go_ret
      rw [← HPL.out.1]
      exact ⟨_, rfl, hL.rl mov_req, hB⟩
    have hw1 : wrap64 (LR + 1) = LR + 1 := IntWalk.wrap64_in _ ⟨by omega, by omega⟩
    have hw2 : wrap64 (LR + 1 + (n : Int)) = LR + 1 + (n : Int) := IntWalk.wrap64_in _ ⟨by omega, by omega⟩
    have hPK1 := hPK.out wr n hB
    have hBs := hB.size
    have hLlt := hL.lt
    go_wp2_with (first
      | (go_at_call 22; refine hPK1.mono ?_; rintro e w5 ⟨r5, rfl, hr5, b5⟩; have hL5 := hL.below mov_req b5; have h5s := b5.size; have hone := one_RReq hr5; obtain ⟨ro, rs, rfl, f1, f2⟩ := hr5)
      | (at_builtin; go_loud (refine wl_pushS mov_req rfl _ _ _ rfl 36 4 64 _ Tryd.underlying42 Tryd.infReqC rfl (by decide) w.heap.size (.slice la PL.length lc) PL rfl hL5 [.int .i64 (reqO (pkR (LR + 1 + (n : Int)) ys)).1, .int .i64 (reqO (pkR (LR + 1 + (n : Int)) ys)).2.1, ro, rs] (reqO (pkR (LR + 1 + (n : Int)) ys)) wr.heap.size ⟨_, _, rfl, f1, f2⟩ rfl hone hBs hLlt rfl (Nat.le_trans hBs h5s) (by have := HPL.out.2; omega) (by decide) ?_; intro v7 w7 hL7 g7 hS7)))
    have hB5 := below_and hB (Nat.le_refl _) b5
    have hB7 := hB5.trans (grown_below g7 hB5.size (fun q hq => hL5.fr q hq))
    go_roundw
    case rel => exact ⟨n + 1, by omega, by go_num, by rw [HST.out n, ← HPL.out.1]; exact hL7, hB7⟩
    case measure => simp [intOf]; omega
end Go.Proofs.YtgbfmccecnfooaaDoor
