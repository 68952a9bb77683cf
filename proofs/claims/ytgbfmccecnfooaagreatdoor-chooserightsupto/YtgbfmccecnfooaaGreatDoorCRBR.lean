/- The document's own answer for layer 6: what a vote signs. -/
import Derived.Test.YtgbfmccecnfooaaGreatDoorCRBM
import Derived.Test.YtgbfmccecnfooaaGreatDoorCRBH
import Derived.Deep.RegionHeld3
import Derived.Deep.MidRow
import Derived.Test.YtgbfmccecnfooaaGreatDoorCRBA
import Derived.Test.YtgbfmccecnfooaaGreatDoorCRBO
set_option linter.unusedSimpArgs false
set_option linter.unusedVariables false
namespace Go.Proofs.YtgbfmccecnfooaaGreatDoor
section
open Go.RowKit Oct Bal
theorem LB.fmC {α : Type} {R : (Nat → Prop) → World → List Value → α → Prop} {T : TypeId} {k B : Nat} {w : World} {v : Value} {ys : List α} (h : LB R T k B w v ys) : ∃ ao cap, v = .slice ao ys.length cap := by
  obtain ⟨rows, h0, h1, h2, h3⟩ := h
  rcases h1.2 with ⟨rfl, e⟩ | ⟨g, cap, cur, rfl, _⟩
  · have := h3.len
    exact ⟨none, 0, by rw [← this, e]⟩
  · have := h3.len
    exact ⟨_, cap, by rw [← this]⟩
theorem Tryz.infReqC : (Tryz.prog.info? 62).map (fun i => (i.zero, i.size, i.bytes)) = some (some (.agg #[.int .i64 0, .int .i64 0, .slice none 0 0, .slice none 0 0]), 4, 64) := by kernel_rfl
set_option maxRecDepth 10000 in
set_option maxHeartbeats 8000000 in
theorem picksC_any (w : World) (v : Value) (ys : List PRep) (hvs : RL RRep 8 Any w v ys) (hz : ∀ r ∈ ys, ∀ p ∈ r.2.2.2.2.2.1, szQ p.2.2.1) (hb : ∀ r ∈ ys, bdR r) :
    Calls Tryz.prog 27 #[v] w fun e w' => ∃ v', e = .returned v' ∧ RL RReq 4 (From w.heap.size) w' v' (picksR ys (cntR ys)) ∧ Below w.heap.size w w' := by
  have hLo := lowC_any w v ys hvs
  have hlb := lowR_bd hb
  have hhb := higR_bd hb
  have hlh := higR_le ys
  have hl0 := lowR_nn ys
  have hcn : cntR ys = (min (higR ys - lowR ys) 16).toNat := rfl
  have hPK := (show Hid (∀ (u : World) (i : Nat), Below w.heap.size w u → Calls Tryz.prog 54 #[.int .i64 (lowR ys + 1 + (i : Int)), v] u fun e w' => ∃ r, e = .returned (.agg r.toArray) ∧ RReq (From u.heap.size) w' r (reqO (pkR (lowR ys + 1 + (i : Int)) ys)) ∧ Below u.heap.size u w') from fun u i hu => pickC_any u _ v ys (hvs.mv mov_rep hu.size (Mv.below hu)) hz)
  have hHI := (show Hid (∀ u : World, Below w.heap.size w u → Calls Tryz.prog 53 #[v] u fun e w' => e = .returned (.int .i64 (higR ys)) ∧ Below u.heap.size u w') from fun u hu => highC_any u v ys (hvs.mv mov_rep hu.size (Mv.below hu)))
  have hst := picksR_succ ys
  have HST := (show Hid (∀ n, picksR ys (n + 1) = picksR ys n ++ [reqO (pkR (lowR ys + 1 + (n : Int)) ys)]) from hst)
  have HLN := (show Hid (∀ n, (picksR ys n).length = n) from picksR_len ys)
  obtain ⟨aa, ca, rfl, _⟩ := hvs.form
  clear hst hvs hz hb
  unfold i64C at hlb hhb
  generalize hLR : lowR ys = LR at *
  generalize hHR : higR ys = HR at *
  have hc16 : cntR ys ≤ 16 := by omega
  generalize hCN : cntR ys = CN at *
  have hwr : wrap64 (HR - LR) = HR - LR := IntWalk.wrap64_in _ ⟨by omega, by omega⟩
  have hmin : (if (HR - LR) < 16 then HR - LR else 16) = (CN : Int) := by split <;> omega
  have hmin2 : (if 16 < (HR - LR) then 16 else HR - LR) = (CN : Int) := by split <;> omega
  have hmin3 : (if (HR - LR) ≤ 16 then HR - LR else 16) = (CN : Int) := by split <;> omega
  go_enter Tryz.func27, Tryz.ntmps27
  go_upto_region 4 with (first
    | (go_at_call 52; refine hLo.mono ?_; rintro e w1 ⟨rfl, b1⟩)
    | (go_at_call 53; refine (hHI.out w1 b1).mono ?_; rintro e w2 ⟨rfl, b2⟩))
  have B2 := below_and b1 (Nat.le_refl _) b2
  clear hLo hHI b1 b2
  try rw [hmin]
  try rw [hmin2]
  try rw [hmin3]
  clear hmin hmin2 hmin3
  go_loopw [4, 13] (fun l j wr => ∃ n : Nat, n ≤ CN ∧ j = .int .i64 n ∧ LB RReq 62 4 w.heap.size wr l (picksR ys n) ∧ Below w.heap.size w wr) (fun _ j _ => CN - (intOf j).toNat)
  case atStart => exact ⟨0, by omega, rfl, LB.nil _ _ _ _ _, B2⟩
  case round =>
    obtain ⟨n, hn, rfl, hL, hB⟩ := hrel
    obtain ⟨PL, hPL⟩ : ∃ PL, PL = picksR ys n := ⟨_, rfl⟩
    have hln : PL.length = n := by rw [hPL]; exact HLN.out n
    have HPL := (show Hid (PL = picksR ys n ∧ PL.length = n) from ⟨hPL, hln⟩)
    rw [← hPL] at hL
    clear hPL hln
    obtain ⟨la, lc, rfl⟩ := hL.fmC
    by_cases hnl : n < CN
    case neg =>
      obtain rfl : n = CN := by omega
      go_wp2_with fail
      go_ret
      rw [← HPL.out.1]
      exact ⟨_, rfl, hL.rl mov_req, hB⟩
    have hw1 : wrap64 (LR + 1) = LR + 1 := IntWalk.wrap64_in _ ⟨by omega, by omega⟩
    have hw2 : wrap64 (LR + 1 + (n : Int)) = LR + 1 + (n : Int) := IntWalk.wrap64_in _ ⟨by omega, by omega⟩
    have hPK1 := hPK.out wr n hB
    have hBs := hB.size
    have hLlt := hL.lt
    go_wp2_with (first
      | (go_at_call 54; refine hPK1.mono ?_; rintro e w5 ⟨r5, rfl, hr5, b5⟩; have hL5 := hL.below mov_req b5; have h5s := b5.size; have hone := one_RReq hr5; obtain ⟨ro, rs, rfl, f1, f2⟩ := hr5)
      | (at_builtin; go_loud (refine wl_pushS mov_req rfl _ _ _ rfl 62 4 64 _ Tryz.underlying63 Tryz.infReqC rfl (by decide) w.heap.size (.slice la PL.length lc) PL rfl hL5 [.int .i64 (reqO (pkR (LR + 1 + (n : Int)) ys)).1, .int .i64 (reqO (pkR (LR + 1 + (n : Int)) ys)).2.1, ro, rs] (reqO (pkR (LR + 1 + (n : Int)) ys)) wr.heap.size ⟨_, _, rfl, f1, f2⟩ rfl hone hBs hLlt rfl (Nat.le_trans hBs h5s) (by have := HPL.out.2; omega) (by decide) ?_; intro v7 w7 hL7 g7 hS7)))
    have hB5 := below_and hB (Nat.le_refl _) b5
    have hB7 := hB5.trans (grown_below g7 hB5.size (fun q hq => hL5.fr q hq))
    go_roundw
    case rel => exact ⟨n + 1, by omega, by go_num, by rw [HST.out n, ← HPL.out.1]; exact hL7, hB7⟩
    case measure => simp [intOf]; omega
end
section
open Go.RowKit Oct Bal
theorem Row.rngC {w : World} {b : Nat} {t : TypeId} {xs : List Value} (h : Row w b t xs) : w.rangeAt b 0 xs := fun j v hj => by rw [Nat.zero_add]; exact h.cell hj
theorem RL.row {α : Type} {R : (Nat → Prop) → World → List Value → α → Prop} {k : Nat} {w : World} {b : Nat} {t : TypeId} {rows : List (List Value)} {ys : List α} (hr : Row w b t rows.flatten) (hk : ∀ r ∈ rows, r.length = k) (hn : 0 < rows.length) (hm : rows.length ≤ maxLen) (ha : All2 (R Any w) rows ys) : RL R k Any w (.slice (some ⟨b, 0, none⟩) rows.length rows.length) ys :=
  ⟨rows, ⟨hk, .inr ⟨b, 0, rows.length, rfl, Nat.le_refl _, hm, hn, trivial, hr.lt, fun i r hi j v hj => by
    rw [Nat.zero_add]
    exact hr.cell (flat_at hk hi hj)⟩⟩, ha⟩
def q12 : PReq := (1, 2, [], [])
def rz0 : PRep := ((0, 0), 0, 0, [], [], [], [])
def rz1 : PRep := ((0, 0), 0, 4, [], [], [(6, (0, 0), q12, [])], [])
theorem pk_alive : picksR [rz0, rz1] (cntR [rz0, rz1]) = [qz, q12] := by decide
theorem bld36 (w : World) : (Instr.build 62 #[(0, .int .i64 1), (1, .int .i64 2)]).run Tryz.prog w = .ok (.agg ([.int .i64 1, .int .i64 2, .slice none 0 0, .slice none 0 0] : List Value).toArray) w := by kernel_rfl
theorem bld30 (w : World) : (Instr.build 28 #[]).run Tryz.prog w = .ok (.agg ([.int .i64 0, .int .i64 0, .int .i64 0, .int .i64 0, .slice none 0 0, .slice none 0 0, .slice none 0 0, .slice none 0 0] : List Value).toArray) w := by kernel_rfl
theorem bld45 (w : World) : (Instr.build 66 #[(0, .int .i64 6), (2, .agg ([.int .i64 1, .int .i64 2, .slice none 0 0, .slice none 0 0] : List Value).toArray)]).run Tryz.prog w = .ok (.agg ([.int .i64 6, .int .i64 0, .int .i64 0, .int .i64 1, .int .i64 2, .slice none 0 0, .slice none 0 0, .slice none 0 0] : List Value).toArray) w := by kernel_rfl
theorem bld30b (g : Nat) (w : World) : (Instr.build 28 #[(2, .int .i64 4), (5, .slice (some ⟨g, 0, none⟩) 1 1)]).run Tryz.prog w = .ok (.agg ([.int .i64 0, .int .i64 0, .int .i64 0, .int .i64 4, .slice none 0 0, .slice none 0 0, .slice (some ⟨g, 0, none⟩) 1 1, .slice none 0 0] : List Value).toArray) w := by kernel_rfl
set_option maxRecDepth 10000 in
set_option maxHeartbeats 4000000 in
theorem chooseAlive_any (w : World) : Calls Tryz.prog 6 #[] w fun e w' => e = .returned (.bool true) ∧ Below w.heap.size w w' := by
  have h36 := bld36
  have h30 := bld30
  have h45 := bld45
  have h30b := bld30b
  have hrow1 := Row.new w 62 [.int .i64 0, .int .i64 0, .slice none 0 0, .slice none 0 0]
  go_enter Tryz.func6, Tryz.ntmps6
  go_upto_region 2 with (refine wl_store rfl _ _ _ rfl w.heap.size [.int .i64 1, .int .i64 2, .slice none 0 0, .slice none 0 0] rfl rfl _ _ hrow1 rfl (by kernel_rfl) (one4 rfl rfl) ?_; intro w1 r1 g1)
  have b1 : Below w.heap.size w w1 := (below_alloc w (.cells ([.int .i64 0, .int .i64 0, .slice none 0 0, .slice none 0 0] : List Value).toArray 62)).trans (grown_below g1 (by simp) (fun k hk => by cases hk; exact Nat.le_refl _))
  have r1 := r1.out
  clear hrow1 g1
  obtain ⟨w2, hw2⟩ : ∃ u, u = w1.alloc (.cells #[.int .i64 6, .int .i64 0, .int .i64 0, .int .i64 1, .int .i64 2, .slice none 0 0, .slice none 0 0, .slice none 0 0] 66) := ⟨_, rfl⟩
  obtain ⟨w3, hw3⟩ : ∃ u, u = w2.alloc (.cells #[.int .i64 0, .int .i64 0, .int .i64 0, .int .i64 0, .slice none 0 0, .slice none 0 0, .slice none 0 0, .slice none 0 0, .int .i64 0, .int .i64 0, .int .i64 0, .int .i64 4, .slice none 0 0, .slice none 0 0, .slice (some ⟨w1.heap.size, 0, none⟩) 1 1, .slice none 0 0] 28) := ⟨_, rfl⟩
  have e2 : w2.heap.size = w1.heap.size + 1 := by rw [hw2]; simp
  have b2 : Below w1.heap.size w1 w2 := by rw [hw2]; exact below_alloc _ _
  have b3 : Below w2.heap.size w2 w3 := by rw [hw3]; exact below_alloc _ _
  have p2 : Row w2 w1.heap.size 66 [.int .i64 6, .int .i64 0, .int .i64 0, .int .i64 1, .int .i64 2, .slice none 0 0, .slice none 0 0, .slice none 0 0] := by rw [hw2]; exact Row.new _ _ _
  have p3 : Row w3 w2.heap.size 28 (([.int .i64 0, .int .i64 0, .int .i64 0, .int .i64 0, .slice none 0 0, .slice none 0 0, .slice none 0 0, .slice none 0 0] : List Value) :: [[.int .i64 0, .int .i64 0, .int .i64 0, .int .i64 4, .slice none 0 0, .slice none 0 0, .slice (some ⟨w1.heap.size, 0, none⟩) 1 1, .slice none 0 0]]).flatten := by rw [hw3]; exact Row.new _ _ _
  have hP : RL RPrep 8 Any w3 (.slice (some ⟨w1.heap.size, 0, none⟩) 1 1) [(6, (0, 0), q12, [])] := RL.row (rows := [[.int .i64 6, .int .i64 0, .int .i64 0, .int .i64 1, .int .i64 2, .slice none 0 0, .slice none 0 0, .slice none 0 0]]) (t := 66) (p2.below b3) (by simp) (by decide) (by decide) ⟨⟨_, _, _, rfl, RT.nil _ _, RT.nil _ _, RL.nil _ _ _ _⟩, trivial⟩
  have hR : RL RRep 8 Any w3 (.slice (some ⟨w2.heap.size, 0, none⟩) 2 2) [rz0, rz1] := RL.row (rows := [[.int .i64 0, .int .i64 0, .int .i64 0, .int .i64 0, .slice none 0 0, .slice none 0 0, .slice none 0 0, .slice none 0 0], [.int .i64 0, .int .i64 0, .int .i64 0, .int .i64 4, .slice none 0 0, .slice none 0 0, .slice (some ⟨w1.heap.size, 0, none⟩) 1 1, .slice none 0 0]]) p3 (by simp) (by simp) (show 2 ≤ maxLen by decide) ⟨⟨_, _, _, _, rfl, RT.nil _ _, RL.nil _ _ _ _, RL.nil _ _ _ _, RT.nil _ _⟩, ⟨_, _, _, _, rfl, RT.nil _ _, RL.nil _ _ _ _, hP, RT.nil _ _⟩, trivial⟩
  have hPk := picksC_any w3 _ [rz0, rz1] hR (by
    intro r hr p hp
    simp only [List.mem_cons, List.not_mem_nil, or_false] at hr
    rcases hr with rfl | rfl
    · cases hp
    · simp only [rz1, List.mem_cons, List.not_mem_nil, or_false] at hp
      subst hp
      exact ⟨Nat.zero_le _, Nat.zero_le _⟩) (by
    intro r hr
    simp only [List.mem_cons, List.not_mem_nil, or_false] at hr
    rcases hr with rfl | rfl
    · exact ⟨⟨by decide, by decide⟩, fun p hp => by cases hp⟩
    · refine ⟨⟨by decide, by decide⟩, fun p hp => ?_⟩
      simp only [rz1, List.mem_cons, List.not_mem_nil, or_false] at hp
      subst hp
      exact ⟨by decide, by decide⟩)
  rw [pk_alive] at hPk
  have r3 := (r1.below b2).below b3
  have B3 := below_and (below_and b1 (Nat.le_refl _) b2) (Nat.le_refl _) b3
  have hww : w3 = (w1.alloc (.cells #[.int .i64 6, .int .i64 0, .int .i64 0, .int .i64 1, .int .i64 2, .slice none 0 0, .slice none 0 0, .slice none 0 0] 66)).alloc (.cells #[.int .i64 0, .int .i64 0, .int .i64 0, .int .i64 0, .slice none 0 0, .slice none 0 0, .slice none 0 0, .slice none 0 0, .int .i64 0, .int .i64 0, .int .i64 0, .int .i64 4, .slice none 0 0, .slice none 0 0, .slice (some ⟨w1.heap.size, 0, none⟩) 1 1, .slice none 0 0] 28) := by rw [hw3, hw2]
  rw [e2] at hPk
  clear hR hP p2 p3 b2 b3 hw2 hw3 b1 e2
  have HPK := (show Hid (Calls _ _ _ _ _) from hPk)
  clear hPk
  go_upto_region 3 with (first
    | (refine wl_load rfl _ _ rfl w.heap.size rfl _ _ r1 _ Tryz.underlying62 rfl (by kernel_rfl) ?_)
    | (go_at_call 27; rw [← hww]; refine HPK.out.mono ?_; rintro e w4 ⟨v4, rfl, hv4, b4⟩; obtain ⟨g3, off3, cap, hve, hca, hcm, _, hg3, hat⟩ := hv4.at (show 0 < [qz, q12].length by decide); have hve : v4 = .slice (some ⟨g3, off3, none⟩) 2 cap := hve; subst hve)
    | fail)
  have r4 := r3.below b4
  obtain ⟨ra, _, hra, oa, sa, rfl, ta1, ta2⟩ := hat 0 qz rfl
  obtain ⟨rb, _, hrb, ob, sb, rfl, tb1, tb2⟩ := hat 1 q12 rfl
  have HC0 := (show Hid (∀ u, Below w4.heap.size w4 u → u.cell? ⟨g3, off3, none⟩ = some (.int .i64 0)) from fun u hu => by have := rangeAt_block hra (hu.block g3 hg3) 0 _ rfl; simpa [qz] using this)
  have HC1 := (show Hid (∀ u, Below w4.heap.size w4 u → u.rangeAt g3 (off3 + 4) [.int .i64 1, .int .i64 2, ob, sb]) from fun u hu => by have := rangeAt_block hrb (hu.block g3 hg3); simpa [q12] using this)
  have HR := (show Hid (∀ u, Below w4.heap.size w4 u → Row u w.heap.size 62 [.int .i64 1, .int .i64 2, .slice none 0 0, .slice none 0 0]) from fun u hu => r4.below hu)
  have B4 := below_and B3 (Nat.le_refl _) b4
  have B0 : Below w4.heap.size w4 w4.drew := ⟨rfl, rfl, rfl, Nat.le_refl _, fun _ _ => rfl⟩
  have hSR := sameReq_any w4.drew [.int .i64 1, .int .i64 2, ob, sb] [.int .i64 1, .int .i64 2, .slice none 0 0, .slice none 0 0] q12 q12 ⟨_, _, rfl, (tb1.mv Mv.any).mv (Mv.below B0), (tb2.mv Mv.any).mv (Mv.below B0)⟩ ⟨_, _, rfl, RT.nil _ _, RT.nil _ _⟩
  rw [decide_eq_true rfl] at hSR
  have S0 : w4.drew.cell? ⟨g3, off3, none⟩ = some (.int .i64 0) ∧ w4.drew.rangeAt g3 (off3 + 4) [.int .i64 1, .int .i64 2, ob, sb] ∧ Row w4.drew w.heap.size 62 [.int .i64 1, .int .i64 2, .slice none 0 0, .slice none 0 0] := ⟨HC0.out _ B0, HC1.out _ B0, HR.out _ B0⟩
  clear hra hrb hat ta1 ta2 tb1 tb2 r3 r4 HPK hww h36 h30 h45 h30b hv4 hca hcm
  try go_simp
  refine wp_region_held_drew (S := fun u => u.cell? ⟨g3, off3, none⟩ = some (.int .i64 0) ∧ u.rangeAt g3 (off3 + 4) [.int .i64 1, .int .i64 2, ob, sb] ∧ Row u w.heap.size 62 [.int .i64 1, .int .i64 2, .slice none 0 0, .slice none 0 0]) (by kernel_rfl) S0 (fun hHeld => ?_)
  clear hHeld
  refine wpAnyH_take (i := 0) (v := .slice (some ⟨g3, off3, none⟩) 2 cap) rfl (by kernel_rfl) (by kernel_rfl) (by kernel_rfl) (fun _ _ _ h => h) (Or.inl ⟨by kernel_rfl, fun u hSu => by go_simp⟩) S0 ?_
  simp only [Act.put, List.setIfInBounds_toArray, List.set_cons_zero, List.set_cons_succ]
  refine wpAnyH_take (i := 1) (v := .int .i64 2) rfl (by kernel_rfl) (by kernel_rfl) (by kernel_rfl) (fun _ _ _ h => h) (Or.inl ⟨by kernel_rfl, fun u hSu => by go_simp⟩) S0 ?_
  simp only [Act.put, List.setIfInBounds_toArray, List.set_cons_zero, List.set_cons_succ]
  refine wpAnyH_take (i := 2) (v := .bool true) rfl (by kernel_rfl) (by kernel_rfl) (by kernel_rfl) (fun _ _ _ h => h) (Or.inl ⟨by kernel_rfl, fun u hSu => by go_simp⟩) S0 ?_
  simp only [Act.put, List.setIfInBounds_toArray, List.set_cons_zero, List.set_cons_succ]
  refine wpAnyH_take (i := 3) (v := .bool true) rfl (by kernel_rfl) (by kernel_rfl) (by kernel_rfl) (fun _ _ _ h => h) (Or.inl ⟨by kernel_rfl, fun u hSu => by go_simp⟩) S0 ?_
  simp only [Act.put, List.setIfInBounds_toArray, List.set_cons_zero, List.set_cons_succ]
  refine wpAnyH_take (i := 4) (v := .slice (some ⟨g3, off3, none⟩) 2 cap) rfl (by kernel_rfl) (by kernel_rfl) (by kernel_rfl) (fun _ _ _ h => h) (Or.inl ⟨by kernel_rfl, fun u hSu => by go_simp⟩) S0 ?_
  simp only [Act.put, List.setIfInBounds_toArray, List.set_cons_zero, List.set_cons_succ]
  refine wpAnyH_take (i := 5) (v := .pointer (some ⟨g3, off3, none⟩)) rfl (by kernel_rfl) (by kernel_rfl) (by kernel_rfl) (fun _ _ _ h => h) (Or.inl ⟨by kernel_rfl, fun u hSu => by go_simp⟩) S0 ?_
  simp only [Act.put, List.setIfInBounds_toArray, List.set_cons_zero, List.set_cons_succ]
  refine wpAnyH_take (i := 6) (v := .pointer (some ⟨g3, off3, none⟩)) rfl (by kernel_rfl) (by kernel_rfl) (by kernel_rfl) (fun _ _ _ h => h) (Or.inl ⟨by kernel_rfl, fun u hSu => by go_simp⟩) S0 ?_
  simp only [Act.put, List.setIfInBounds_toArray, List.set_cons_zero, List.set_cons_succ]
  refine wpAnyH_take (i := 7) (v := .int .i64 0) rfl (by kernel_rfl) (by kernel_rfl) (by kernel_rfl) (fun _ _ _ h => h) (Or.inl ⟨by kernel_rfl, fun u hSu => by have hck := hSu.1; go_simp⟩) S0 ?_
  simp only [Act.put, List.setIfInBounds_toArray, List.set_cons_zero, List.set_cons_succ]
  refine wpAnyH_take (i := 8) (v := .bool true) rfl (by kernel_rfl) (by kernel_rfl) (by kernel_rfl) (fun _ _ _ h => h) (Or.inl ⟨by kernel_rfl, fun u hSu => by go_simp⟩) S0 ?_
  simp only [Act.put, List.setIfInBounds_toArray, List.set_cons_zero, List.set_cons_succ]
  refine wpAnyH_take (i := 9) (v := .bool true) rfl (by kernel_rfl) (by kernel_rfl) (by kernel_rfl) (fun _ _ _ h => h) (Or.inl ⟨by kernel_rfl, fun u hSu => by go_simp⟩) S0 ?_
  simp only [Act.put, List.setIfInBounds_toArray, List.set_cons_zero, List.set_cons_succ]
  refine wpAnyH_take (i := 10) (v := .bool true) rfl (by kernel_rfl) (by kernel_rfl) (by kernel_rfl) (fun _ _ _ h => h) (Or.inl ⟨by kernel_rfl, fun u hSu => by go_simp⟩) S0 ?_
  simp only [Act.put, List.setIfInBounds_toArray, List.set_cons_zero, List.set_cons_succ]
  refine wpAnyH_take (i := 11) (v := .slice (some ⟨g3, off3, none⟩) 2 cap) rfl (by kernel_rfl) (by kernel_rfl) (by kernel_rfl) (fun _ _ _ h => h) (Or.inl ⟨by kernel_rfl, fun u hSu => by go_simp⟩) S0 ?_
  simp only [Act.put, List.setIfInBounds_toArray, List.set_cons_zero, List.set_cons_succ]
  refine wpAnyH_take (i := 12) (v := .pointer (some ⟨g3, off3 + 4, none⟩)) rfl (by kernel_rfl) (by kernel_rfl) (by kernel_rfl) (fun _ _ _ h => h) (Or.inl ⟨by kernel_rfl, fun u hSu => by go_simp⟩) S0 ?_
  simp only [Act.put, List.setIfInBounds_toArray, List.set_cons_zero, List.set_cons_succ]
  refine wpAnyH_take (i := 13) (v := .agg #[.int .i64 1, .int .i64 2, ob, sb]) rfl (by kernel_rfl) (by kernel_rfl) (by kernel_rfl) (fun _ _ _ h => h) (yieldsIf_load_mid (by kernel_rfl) _ _ rfl g3 (off3 + 4) (by go_simp) [.int .i64 1, .int .i64 2, ob, sb] _ (fun u hu => hu.2.1) Tryz.underlying62 rfl (by kernel_rfl)) S0 ?_
  simp only [Act.put, List.setIfInBounds_toArray, List.set_cons_zero, List.set_cons_succ]
  refine wpAnyH_take (i := 14) (v := .agg #[.int .i64 1, .int .i64 2, .slice none 0 0, .slice none 0 0]) rfl (by kernel_rfl) (by kernel_rfl) (by kernel_rfl) (fun _ _ _ h => h) (yieldsIf_load_mid (by kernel_rfl) _ _ rfl w.heap.size 0 (by go_simp) [.int .i64 1, .int .i64 2, .slice none 0 0, .slice none 0 0] _ (fun u hu => hu.2.2.rngC) Tryz.underlying62 rfl (by kernel_rfl)) S0 ?_
  simp only [Act.put, List.setIfInBounds_toArray, List.set_cons_zero, List.set_cons_succ]
  refine wpAnyH_ready (rs := [15]) (by kernel_rfl) (by simp) ?_
  refine AllReadyH.cons (o := _) rfl (fun K hK => ?_) AllReadyH.nil
  go_simp
  refine hSR.mono ?_
  rintro e w5 ⟨rfl, b5⟩
  have B5 := below_and B0 (Nat.le_refl _) b5
  have S1 : w5.cell? ⟨g3, off3, none⟩ = some (.int .i64 0) ∧ w5.rangeAt g3 (off3 + 4) [.int .i64 1, .int .i64 2, ob, sb] ∧ Row w5 w.heap.size 62 [.int .i64 1, .int .i64 2, .slice none 0 0, .slice none 0 0] := ⟨HC0.out _ B5, HC1.out _ B5, HR.out _ B5⟩
  try go_simp
  refine hK.out _ _ S1 (fun hHeld => ?_)
  clear hK K hHeld
  refine wpAnyH_ready (rs := [16]) (by kernel_rfl) (by simp) ?_
  refine AllReadyH.cons (o := _) rfl (fun K hK => ?_) AllReadyH.nil
  go_simp
  refine hK.out _ _ S1 (fun hHeld => ?_)
  clear hK K hHeld
  refine wpAnyH_ready (rs := [17]) (by kernel_rfl) (by simp) ?_
  refine AllReadyH.cons (o := _) rfl (fun K hK => ?_) AllReadyH.nil
  go_simp
  refine hK.out _ _ S1 (fun hHeld => ?_)
  clear hK K hHeld
  refine wpAnyH_done (by kernel_rfl) ?_ _
  go_wp2_with fail
  go_ret
  exact ⟨rfl, below_and B4 (Nat.le_refl _) B5⟩
end
section
open Go.RowKit Oct Sha
set_option maxRecDepth 10000 in
set_option maxHeartbeats 1000000 in
/-- catenaryref06.parts. -/
theorem refParts_any (w : World) (k x y s : Int) (v : Value) (l : List Int) (hv : Rd w v l) :
    Calls Tryz.prog 74 #[.int .i64 k, .agg #[.int .i64 x, .int .i64 y], .int .i64 s, v] w fun e w' => ∃ v', e = .returned v' ∧ Rdl w' v' [numsL [k, x, y, s], l] ∧ Below w.heap.size w w' := by
  obtain ⟨ao, cap, rfl, hcap⟩ := hv.form
  go_enter Tryz.func74, Tryz.ntmps74
  go_wp2_with fail
  have hr := rdv_els (w.alloc (.cells #[.int .i64 x, .int .i64 y] 23)) (nc [k, x, y, s]) 3 (by simp [nc]) (by simp [nc])
  rw [show (w.alloc (.cells #[.int .i64 x, .int .i64 y] 23)).heap.size = w.heap.size + 1 by simp] at hr
  have b0 : Below w.heap.size w ((w.alloc (.cells #[.int .i64 x, .int .i64 y] 23)).alloc (.cells (nc [k, x, y, s]).toArray 3)) := below_and (below_alloc w _) (Nat.le_refl _) (below_alloc _ _)
  refine (refNums_any _ _ [k, x, y, s] hr (by simp) (by simp)).mono ?_
  rintro e w1 ⟨v1, rfl, ho1, hf1, hb1⟩
  have B1 := below_and b0 (Nat.le_refl _) hb1
  have r1 := ho1.rd (numsL_byt _)
  have v1' := hv.below B1
  clear hr b0 hb1 ho1 hf1
  obtain ⟨a1, c1, rfl, hc1⟩ := r1.form
  go_wp2_with fail
  go_ret
  exact ⟨_, rfl, ⟨[.slice a1 (numsL [k, x, y, s]).length c1, .slice ao l.length cap], rdv_els w1 [.slice a1 (numsL [k, x, y, s]).length c1, .slice ao l.length cap] 24 (by simp) (by simp), r1.below (below_alloc _ _), v1'.below (below_alloc _ _), trivial⟩, below_and B1 (Nat.le_refl _) (below_alloc _ _)⟩
set_option maxRecDepth 10000 in
set_option maxHeartbeats 2000000 in
/-- The document's Right. -/
theorem refVRight_any (w : World) (k x y s i : Int) (v : Value) (l : List Int) (hv : Rd w v l) (hl : l.length ≤ 3000000) (gv : Value) (g : List Int) (hg : Rd w gv g) :
    Calls Tryz.prog 47 #[.int .i64 k, .agg #[.int .i64 x, .int .i64 y], .int .i64 s, v, .agg #[.int .i64 i, gv]] w fun e w' => e = .returned (.bool (verL (repL i) g (sL ⟨#[118, 111, 116, 101]⟩) [numsL [k, x, y, s], l])) ∧ Below w.heap.size w w' := by
  obtain ⟨ao, cap, rfl, hcap⟩ := hv.form
  obtain ⟨ag, gap, rfl, hgap⟩ := hg.form
  obtain ⟨w0, hw0⟩ : ∃ w0, w0 = (w.alloc (.cells #[.int .i64 x, .int .i64 y] 23)).alloc (.cells #[.int .i64 i, .slice ag g.length gap] 42) := ⟨_, rfl⟩
  have ra : Row w0 w.heap.size 23 [.int .i64 x, .int .i64 y] := by rw [hw0]; exact (Row.new w 23 _).below (below_alloc _ _)
  have rb : Row w0 (w.heap.size + 1) 42 [.int .i64 i, .slice ag g.length gap] := by rw [hw0, show w.heap.size + 1 = (w.alloc (.cells #[.int .i64 x, .int .i64 y] 23)).heap.size by simp]; exact Row.new _ 42 _
  have B0 : Below w.heap.size w w0 := by rw [hw0]; exact below_and (below_alloc _ _) (Nat.le_refl _) (below_alloc _ _)
  have hdw : Below w0.heap.size w0 w0.drew := ⟨rfl, rfl, rfl, Nat.le_refl _, fun _ _ => rfl⟩
  go_enter Tryz.func47, Tryz.ntmps47
  go_upto_region 1 with fail
  rw [← hw0]
  clear hw0
  have v0 := hv.below B0
  have g0 := hg.below B0
  have SK := (show Hid (∀ u, Below w0.heap.size w0 u → u.cell? ⟨w.heap.size, 0, none⟩ = some (.int .i64 x) ∧ u.cell? ⟨w.heap.size, 1, none⟩ = some (.int .i64 y) ∧ u.cell? ⟨w.heap.size + 1, 0, none⟩ = some (.int .i64 i) ∧ u.cell? ⟨w.heap.size + 1, 1, none⟩ = some (.slice ag g.length gap)) from fun u hu => ⟨(ra.below hu).cell (j := 0) rfl, (ra.below hu).cell (j := 1) rfl, (rb.below hu).cell (j := 0) rfl, (rb.below hu).cell (j := 1) rfl⟩)
  obtain ⟨a0, a1, a2, a3⟩ := SK.out w0 (Below.refl _ _)
  have HR := (show Hid (∀ u : World, Calls Tryz.prog 73 #[.int .i64 i] u fun e w' => e = .returned (.int .i64 (repL i)) ∧ w' = u) from fun u => refReplica_any u i)
  have HT := (show Hid (tot [numsL [k, x, y, s], l] ≤ 4000000) by show _ ≤ _; simp only [tot, numsL_len, List.length_cons, List.length_nil]; omega)
  go_wp2_with fail
  go_region_held3 (fun u => u.cell? ⟨w.heap.size, 0, none⟩ = some (.int .i64 x) ∧ u.cell? ⟨w.heap.size, 1, none⟩ = some (.int .i64 y) ∧ u.cell? ⟨w.heap.size + 1, 0, none⟩ = some (.int .i64 i) ∧ u.cell? ⟨w.heap.size + 1, 1, none⟩ = some (.slice ag g.length gap))
    (first | exact SK.out _ (by assumption) | go_keep)
    (first
      | (go_at_call 72; refine (refVerify_any w3 (repL i) _ g ⟨#[118, 111, 116, 101]⟩ v3 _ (g0.below hb3) r3 (by decide) HT.out).mono ?_; rintro e w4 ⟨rfl, hb4⟩; have hB4 : Below w0.heap.size w0 w4 := below_and hb3 (Nat.le_refl _) hb4)
      | (go_at_call 74; refine (refParts_any w0.drew k x y s _ l (v0.below hdw)).mono ?_; rintro e w3 ⟨v3, rfl, r3, hb3'⟩; have hb3 : Below w0.heap.size w0 w3 := below_and hdw (Nat.le_refl _) hb3')
      | (go_at_call 73; refine (HR.out _).mono ?_; rintro e w2 ⟨rfl, rfl⟩))
  have B4 := below_and B0 (Nat.le_refl _) hB4
  go_wp2_with fail
  go_ret
  exact ⟨rfl, B4⟩
end
end Go.Proofs.YtgbfmccecnfooaaGreatDoor
