/- PROVED HERE: at all arguments catenarylaw15.LedgerForged returns true and leaves its arguments as they were (the statement LedgerForgedCardSaid); no condition; the table sha.constants is laid by the program text, the card ties it. -/
import Derived.Test.YtajmgpgjkalfkaaDoorJI
import Derived.Test.YtajmgpgjkalfkaaDoorRows
import Derived.Test.YtajmgpgjkalfkaaDoorJJ
import Derived.Test.YtajmgpgjkalfkaaDoorCards
import Derived.Test.YtajmgpgjkalfkaaDoorTie
import Derived.Deep.DeepHandedRow
section
set_option linter.unusedVariables false
set_option linter.unusedSimpArgs false
namespace Go.Proofs.YtajmgpgjkalfkaaDoor
open Go.RowKit Oct Kvl

def r21 : PReq := (2, 1, [], [])
def lsF (x y s : Int) : List PSn := [⟨(2, x, y, s, 5), r00, sgn 2 x y s r00 5, false⟩]
theorem forg_1 (x y s : Int) : noteL [] 2 x y s r00 [(5, sgn 2 x y s r00 5)] = (lsF x y s, []) := note_first (ls := []) (by decide) (by decide) rfl (by decide)
theorem forg_3 (x y s : Int) (r : PReq) (g : List Int) : (noteL (lsF x y s) 3 x y s r [(5, g)]).2 = [] := by
  cases h : rgtV 3 x y s r (5, g) with
  | false => rw [note_not h]
  | true =>
    rw [note_one (.inr rfl) h, meet_none]
    simp [lsF, keysL, fnd]
theorem szV_one {V : PVote} (h : szT V.2) : szL 32 szV [V] := ⟨by simp, fun y hy => by simp at hy; rw [hy]; exact h⟩

set_option maxRecDepth 10000 in
set_option maxHeartbeats 4000000 in
theorem forgedLg_any (W : World) (x y s0 : Int) (vv : Value) (ys : List PVote) (hvs : RL RVote 2 Any W vv ys) (hsz : ∀ v ∈ ys, szT v.2) (hT : Tab W) :
    Calls Tryd.prog 6 #[.agg #[.int .i64 x, .int .i64 y], .int .i64 s0, vv] W fun e w' => e = .returned (.bool true) ∧ Below W.heap.size W w' := by
  obtain ⟨av, cv, rfl, hcv⟩ := hvs.form
  have hlv : (ys.length : Int) ≤ 9223372036854775807 := by
    by_cases h0 : 0 < ys.length
    · obtain ⟨_, _, _, _, h1, h2, _⟩ := hvs.at h0
      unfold maxLen at h2
      omega
    · omega
  obtain ⟨w3, hw3⟩ : ∃ w3, w3 = W.alloc (.cells #[.int .i64 x, .int .i64 y] 28) := ⟨_, rfl⟩
  have BW : Below W.heap.size W w3 := by rw [hw3]; exact below_alloc _ _
  have ra : Row w3 W.heap.size 28 [.int .i64 x, .int .i64 y] := by rw [hw3]; exact Row.new _ _ _
  have hT3 := hT.below BW
  go_enter Tryd.func6, Tryd.ntmps6
  go_upto_region 1 with fail
  rw [← hw3]
  clear hw3
  obtain ⟨cB, hcB⟩ : ∃ c, c = W.heap.size := ⟨_, rfl⟩
  rw [← hcB] at ra ⊢
  clear hcB
  go_upto_region 3 with (go_at_call 8; refine (ledgerAlive_any w3 hT3).mono ?_; rintro e w5 ⟨rfl, b5⟩)
  have BW5 := below_and BW (Nat.le_refl _) b5
  by_cases hl100 : ys.length ≤ 100
  case neg =>
    have hgt : decide ((100 : Int) < (ys.length : Int)) = true := by simp; omega
    go_wp2_with fail
    go_ret
    exact ⟨rfl, BW5⟩
  have hgt : decide ((100 : Int) < (ys.length : Int)) = false := by simp; omega
  go_upto_region 6 with (go_at_call 9; refine (newG_any w5).mono ?_; rintro e w6 ⟨rfl, l6, b6⟩)
  have hm5 : W.heap.size ≤ w5.heap.size := BW5.size
  have BW6 := below_and BW5 (Nat.le_refl _) b6
  have ra := (ra.below b5).below b6
  have hT6 := (hT3.below b5).below b6
  have hvs := ((hvs.mv mov_vote BW5.size (Mv.below BW5)).mv mov_vote (Nat.le_refl _) (toNMa (Nat.le_refl _))).mv mov_vote b6.size (Mv.belowG b6)
  clear BW BW5 hT3 b5 b6 hgt
  generalize hm : w5.heap.size = m at *
  generalize hbb : m + 1 = b at *
  clear hm hbb
  go_upto_region 7 with fail
  obtain ⟨w7, hw7⟩ : ∃ w7, w7 = w6.alloc (.cells #[.int .i64 2, .int .i64 1, .slice none 0 0, .slice none 0 0] 31) := ⟨_, rfl⟩
  rw [← hw7]
  have b7 : Below w6.heap.size w6 w7 := by rw [hw7]; exact below_alloc _ _
  have rq : Row w7 w6.heap.size 31 [.int .i64 2, .int .i64 1, .slice none 0 0, .slice none 0 0] := by rw [hw7]; exact Row.new _ _ _
  obtain ⟨cR, hcR⟩ : ∃ c, c = w6.heap.size := ⟨_, rfl⟩
  rw [← hcR] at rq ⊢
  clear hw7 hcR
  have l7 := l6.below b7
  have ra := ra.below b7
  have hT7 := hT6.below b7
  have hvs := hvs.mv mov_vote b7.size (Mv.belowG b7)
  have BW7 := below_and BW6 (Nat.le_refl _) b7
  have hmra := l7.nrow ra
  have hmrq := l7.nrow rq
  clear l6 hT6 BW6 b7
  have SK7 := (show Hid (∀ u, w7.grownBy u (some m) → u.cell? ⟨cB, 0, none⟩ = some (.int .i64 x) ∧ u.cell? ⟨cB, 1, none⟩ = some (.int .i64 y)) from fun u hu => ⟨(ra.grown hu hmra).cell (j := 0) rfl, (ra.grown hu hmra).cell (j := 1) rfl⟩)
  obtain ⟨q0, q1⟩ := SK7.out w7 (grown_of_below (Below.refl _ _) _)
  have hd7 := below_drew w7
  have gd7 : w7.grownBy w7.drew (some m) := grown_of_below hd7 _
  have HMD7 := (show Hid (∀ _ : Unit, _) from fun _ => made_any w7.drew x y s0 5 _ r00 (rnil Any _ 0 0) (by decide) (hT7.below hd7))
  go_wp2_with fail
  go_region_held3 (fun u => u.cell? ⟨cB, 0, none⟩ = some (.int .i64 x) ∧ u.cell? ⟨cB, 1, none⟩ = some (.int .i64 y))
    (first | exact SK7.out _ gx7 | exact SK7.out _ gb7 | exact SK7.out _ ga7 | exact SK7.out _ gd7 | go_keep)
    (first
      | (go_at_call 12; refine hN7.mono ?_; rintro e wx7 ⟨vx7, rfl, ex7, lx7, gx'7⟩; have gx7 : w7.grownBy wx7 (some m) := grown_trans ga7 gx'7 (.inl rfl); obtain ⟨ax7, cx7, rfl, _⟩ := ex7.form)
      | (go_at_call 18; refine (HMD7.out ()).mono ?_; rintro e wa7 ⟨va7, rfl, fa7, ba7⟩; obtain ⟨aa7, ca7, rfl, _⟩ := fa7.form; have bb7 : Below w7.heap.size w7 wa7 := hd7.trans ba7; have ga7 : w7.grownBy wa7 (some m) := grown_of_below bb7 _; have gb7 : w7.grownBy (wa7.alloc (.cells #[.int .i64 5, .slice aa7 (sgn 2 x y s0 r00 5).length ca7] 53)) (some m) := grown_trans ga7 (grown_of_below (below_alloc _ _) _) (.inl rfl); have hN7 := note1_any wa7 b m [] (l7.below bb7) 2 x y s0 5 _ r00 (rnil _ _ 0 0) (by decide) _ _ (fa7.mv (toNM l7.lt.2)) (sgn_sz _ _ _ _ _ _) (hT7.below bb7); rw [forg_1] at hN7))
  have hmv7 : Mv (NM m) (NM m) w7 wx7 := Mv.nm (fun k hk => hk) gx7
  have ra := ra.grown gx7 hmra
  have rq := rq.grown gx7 hmrq
  have hT8 := hT7.grown gx7 (l7.ntab hT7)
  have hvs := hvs.mv mov_vote gx7.size hmv7
  have BW8 := BW7.trans (grown_below gx7 (Nat.le_trans hm5 (Nat.le_of_lt l7.lt.2)) (fun q hq => by have := Option.some.inj hq; omega))
  have l8 := lx7
  have hml8 := l8.lt
  clear SK7 HMD7 hN7 q0 q1 gd7 hd7 ga7 gb7 fa7 ba7 bb7 gx'7 ex7 lx7 hmv7 hT7 BW7 gx7 l7
  go_wp2_with fail
  go_loopw [30] (fun i wr => ∃ k : Nat, k ≤ ys.length ∧ i = .int .i64 k ∧ Lg (NM m) wr b m (lsF x y s0) ∧ wx7.grownBy wr (some m)) (fun i _ => ys.length - (intOf i).toNat)
  case atStart => exact ⟨0, by omega, rfl, l8, grown_of_below (Below.refl _ _) _⟩
  case round =>
    obtain ⟨k, hk, rfl, lr, hg⟩ := hrel
    have hmv : Mv (NM m) (NM m) wx7 wr := Mv.nm (fun k hk => hk) hg
    have ra := ra.grown hg hmra
    have rq := rq.grown hg hmrq
    have hTr := hT8.grown hg (by intro e; exact l8.ntab hT8 e)
    have hvs := hvs.mv mov_vote hg.size hmv
    have BWr := BW8.trans (grown_below hg (Nat.le_trans hm5 (Nat.le_of_lt hml8.2)) (fun q hq => by have := Option.some.inj hq; omega))
    clear hmv l8 BW8 hT8
    by_cases hkl : k < ys.length
    · obtain ⟨V, hV⟩ : ∃ V, ys[k]? = some V := ⟨_, List.getElem?_eq_getElem hkl⟩
      have hzV := hsz V (List.mem_of_getElem? hV)
      obtain ⟨bv, off, cap, hve, _, _, _, hbv, hat⟩ := hvs.at (by omega)
      obtain ⟨rv, _, hrng, gv, rfl, hgv⟩ := hat k V hV
      injection hve with hv1 hv2 hv3
      subst hv1 hv3
      clear hv2 hat hV
      obtain ⟨ag, cg, rfl, _⟩ := hgv.form
      have hrow0 := Row.new wr 53 [.int .i64 0, .slice none 0 0]
      go_upto_region 11 with (first
        | (refine wpList_load_mid rfl _ _ rfl bv (off + k * 2) rfl [.int .i64 V.1, .slice ag V.2.length cg] _ hrng Tryd.underlying53 rfl (by kernel_rfl) ?_)
        | (refine wl_store rfl _ _ _ rfl wr.heap.size [.int .i64 V.1, .slice ag V.2.length cg] rfl rfl _ _ hrow0 rfl (by kernel_rfl) (one2 rfl) ?_; intro w9 rv9 g9))
      have b9 : Below wr.heap.size wr w9 := (below_alloc wr (.cells ([.int .i64 0, .slice none 0 0] : List Value).toArray 53)).trans (grown_below g9 (by simp) (fun k hk => by cases hk; exact Nat.le_refl _))
      have rv9 := rv9.out
      obtain ⟨cV, hcV⟩ : ∃ c, c = wr.heap.size := ⟨_, rfl⟩
      rw [← hcV] at rv9 ⊢
      have hmrv : (some m : Option Nat) ≠ some cV := fun e => by have := Option.some.inj e; have := lr.lt.2; omega
      clear hrng hrow0 g9 hcV
      have l9 := lr.below b9
      have ra := ra.below b9
      have rq := rq.below b9
      have hT9 := hTr.below b9
      have hgv := hgv.mv (Mv.belowG b9)
      have hg9 := grown_trans hg (grown_of_below b9 _) (.inl rfl)
      clear hTr lr hg
      have SK9 := (show Hid (∀ u, w9.grownBy u (some m) → u.cell? ⟨cB, 0, none⟩ = some (.int .i64 x) ∧ u.cell? ⟨cB, 1, none⟩ = some (.int .i64 y) ∧ u.cell? ⟨cR, 0, none⟩ = some (.int .i64 2) ∧ u.cell? ⟨cR, 1, none⟩ = some (.int .i64 1) ∧ u.cell? ⟨cR, 2, none⟩ = some (.slice none 0 0) ∧ u.cell? ⟨cR, 3, none⟩ = some (.slice none 0 0) ∧ u.cell? ⟨cV, 0, none⟩ = some (.int .i64 V.1) ∧ u.cell? ⟨cV, 1, none⟩ = some (.slice ag V.2.length cg)) from fun u hu => ⟨(ra.grown hu hmra).cell (j := 0) rfl, (ra.grown hu hmra).cell (j := 1) rfl, (rq.grown hu hmrq).cell (j := 0) rfl, (rq.grown hu hmrq).cell (j := 1) rfl, (rq.grown hu hmrq).cell (j := 2) rfl, (rq.grown hu hmrq).cell (j := 3) rfl, (rv9.grown hu hmrv).cell (j := 0) rfl, (rv9.grown hu hmrv).cell (j := 1) rfl⟩)
      obtain ⟨q0, q1, q2, q3, q4, q5, q6, q7⟩ := SK9.out w9 (grown_of_below (Below.refl _ _) _)
      have hd9 := below_drew w9
      have gd9 : w9.grownBy w9.drew (some m) := grown_of_below hd9 _
      have HB9 := (show Hid (∀ _ : Unit, _) from fun _ => body_any w9.drew _ r21 (rnil Any _ 2 1) (by decide))
      have hbb21 : Byt (body r21) := body_byt (r := r21) (by intro x hx; cases hx) (by intro x hx; cases hx) (by decide)
      have HBL := (show Hid ((body r21).length ≤ 3000000) from body_len (r := r21) (by decide))
      try go_simp
      go_region_held3 (fun u => u.cell? ⟨cB, 0, none⟩ = some (.int .i64 x) ∧ u.cell? ⟨cB, 1, none⟩ = some (.int .i64 y) ∧ u.cell? ⟨cR, 0, none⟩ = some (.int .i64 2) ∧ u.cell? ⟨cR, 1, none⟩ = some (.int .i64 1) ∧ u.cell? ⟨cR, 2, none⟩ = some (.slice none 0 0) ∧ u.cell? ⟨cR, 3, none⟩ = some (.slice none 0 0) ∧ u.cell? ⟨cV, 0, none⟩ = some (.int .i64 V.1) ∧ u.cell? ⟨cV, 1, none⟩ = some (.slice ag V.2.length cg))
        (first | exact SK9.out _ ga9 | exact SK9.out _ gc9 | exact SK9.out _ gd9 | go_keep)
        (first
          | (go_at_call 20; refine (vRight_any wc9 2 x y s0 V.1 vc9 (body r21) (oc9.rd hbb21) HBL.out _ V.2 (hgv.mv (Mv.belowG bc9)).1 (hT9.below bc9)).mono ?_; rintro e wa9 ⟨rfl, ba9⟩; have bb9 : Below w9.heap.size w9 wa9 := below_and bc9 (Nat.le_refl _) ba9; have ga9 : w9.grownBy wa9 (some m) := grown_of_below bb9 _)
          | (go_at_call 21; refine (HB9.out ()).mono ?_; rintro e wc9 ⟨vc9, rfl, oc9, fc9, bc'9⟩; have bc9 : Below w9.heap.size w9 wc9 := hd9.trans bc'9; have gc9 : w9.grownBy wc9 (some m) := grown_of_below bc9 _))
      rcases Bool.eq_false_or_eq_true (verL (repL V.1) V.2 (sL ⟨#[118, 111, 116, 101]⟩) [numsL [2, x, y, s0], body r21]) with hR | hR
      · rw [hR]
        have la := l9.below bb9
        have hga := grown_trans hg9 ga9 (.inl rfl)
        clear SK9 HB9 q0 q1 q2 q3 q4 q5 q6 q7
        go_wp2_with fail
        go_roundw
        case rel => exact ⟨k + 1, by omega, by go_num, la, hga⟩
        case measure => simp [intOf]; omega
      rw [hR]
      have la := l9.below bb9
      have hga := grown_trans hg9 ga9 (.inl rfl)
      have ra := ra.below bb9
      have rq := rq.below bb9
      have rv9 := rv9.below bb9
      have hTa := hT9.below bb9
      have hgv := hgv.mv (Mv.belowG bb9)
      have nn : noteL (lsF x y s0) 2 x y s0 r21 [V] = (lsF x y s0, []) := note_not hR
      clear SK9 HB9 q0 q1 q2 q3 q4 q5 q6 q7 hR l9 hg9 hT9 bc9 bc'9 gc9 fc9 oc9 ba9 bb9 ga9 gd9 hd9
      have SKa := (show Hid (∀ u, wa9.grownBy u (some m) → u.cell? ⟨cB, 0, none⟩ = some (.int .i64 x) ∧ u.cell? ⟨cB, 1, none⟩ = some (.int .i64 y) ∧ u.cell? ⟨cR, 0, none⟩ = some (.int .i64 2) ∧ u.cell? ⟨cR, 1, none⟩ = some (.int .i64 1) ∧ u.cell? ⟨cR, 2, none⟩ = some (.slice none 0 0) ∧ u.cell? ⟨cR, 3, none⟩ = some (.slice none 0 0) ∧ u.cell? ⟨cV, 0, none⟩ = some (.int .i64 V.1) ∧ u.cell? ⟨cV, 1, none⟩ = some (.slice ag V.2.length cg)) from fun u hu => ⟨(ra.grown hu hmra).cell (j := 0) rfl, (ra.grown hu hmra).cell (j := 1) rfl, (rq.grown hu hmrq).cell (j := 0) rfl, (rq.grown hu hmrq).cell (j := 1) rfl, (rq.grown hu hmrq).cell (j := 2) rfl, (rq.grown hu hmrq).cell (j := 3) rfl, (rv9.grown hu hmrv).cell (j := 0) rfl, (rv9.grown hu hmrv).cell (j := 1) rfl⟩)
      obtain ⟨q0, q1, q2, q3, q4, q5, q6, q7⟩ := SKa.out wa9 (grown_of_below (Below.refl _ _) _)
      have hda := below_drew wa9
      have gda : wa9.grownBy wa9.drew (some m) := grown_of_below hda _
      have bal : Below wa9.heap.size wa9 (wa9.drew.alloc (.cells #[.int .i64 V.1, .slice ag V.2.length cg] 53)) := below_and hda (Nat.le_refl _) (below_alloc _ _)
      have gal : wa9.grownBy (wa9.drew.alloc (.cells #[.int .i64 V.1, .slice ag V.2.length cg] 53)) (some m) := grown_of_below bal _
      have HCV := (show Hid (∀ _ : Unit, _) from fun _ => copyVotes_any (wa9.drew.alloc (.cells #[.int .i64 V.1, .slice ag V.2.length cg] 53)) _ [V] (rl_onev (w := wa9.drew) (i := V.1) ((hgv.mv (Mv.belowG hda)).mv Mv.any) trivial) (szV_one hzV))
      go_wp2_with fail
      go_region_held3 (fun u => u.cell? ⟨cB, 0, none⟩ = some (.int .i64 x) ∧ u.cell? ⟨cB, 1, none⟩ = some (.int .i64 y) ∧ u.cell? ⟨cR, 0, none⟩ = some (.int .i64 2) ∧ u.cell? ⟨cR, 1, none⟩ = some (.int .i64 1) ∧ u.cell? ⟨cR, 2, none⟩ = some (.slice none 0 0) ∧ u.cell? ⟨cR, 3, none⟩ = some (.slice none 0 0) ∧ u.cell? ⟨cV, 0, none⟩ = some (.int .i64 V.1) ∧ u.cell? ⟨cV, 1, none⟩ = some (.slice ag V.2.length cg))
        (first | exact SKa.out _ gxa | exact SKa.out _ gca | exact SKa.out _ gal | exact SKa.out _ gda | go_keep)
        (first
          | (go_at_call 12; refine hNa.mono ?_; rintro e wxa ⟨vxa, rfl, exa, lxa, gx'a⟩; have gxa : wa9.grownBy wxa (some m) := grown_trans gca gx'a (.inl rfl); obtain ⟨axa, cxa, rfl, _⟩ := exa.form)
          | (go_at_call 14; refine (HCV.out ()).mono ?_; rintro e wca ⟨vca, rfl, hvc, bc'a⟩; have bca : Below wa9.heap.size wa9 wca := below_and bal (Nat.le_refl _) bc'a; have gca : wa9.grownBy wca (some m) := grown_of_below bca _; obtain ⟨aca, cca, rfl, _⟩ := hvc.form; have hNa := noteG_any wca b m _ (la.below bca) 2 x y s0 _ r21 (rnil _ _ 2 1) (by decide) _ [V] (hvc.mv mov_vote (Nat.le_refl _) (toNM (Nat.lt_of_lt_of_le la.lt.2 bal.size))) (by simpa using hzV) (by simp) (hTa.below bca); rw [nn] at hNa))
      have hgx := grown_trans hga gxa (.inl rfl)
      clear SKa HCV hNa q0 q1 q2 q3 q4 q5 q6 q7 nn
      go_wp2_with fail
      go_roundw
      case rel => exact ⟨k + 1, by omega, by go_num, lxa, hgx⟩
      case measure => simp [intOf]; omega
    · have hk : k = ys.length := by omega
      have hkk : decide ((k : Int) < (ys.length : Int)) = false := by simp; omega
      clear hvs hk
      have SKe := (show Hid (∀ u, wr.grownBy u (some m) → u.cell? ⟨cB, 0, none⟩ = some (.int .i64 x) ∧ u.cell? ⟨cB, 1, none⟩ = some (.int .i64 y) ∧ u.cell? ⟨cR, 0, none⟩ = some (.int .i64 2) ∧ u.cell? ⟨cR, 1, none⟩ = some (.int .i64 1) ∧ u.cell? ⟨cR, 2, none⟩ = some (.slice none 0 0) ∧ u.cell? ⟨cR, 3, none⟩ = some (.slice none 0 0)) from fun u hu => ⟨(ra.grown hu hmra).cell (j := 0) rfl, (ra.grown hu hmra).cell (j := 1) rfl, (rq.grown hu hmrq).cell (j := 0) rfl, (rq.grown hu hmrq).cell (j := 1) rfl, (rq.grown hu hmrq).cell (j := 2) rfl, (rq.grown hu hmrq).cell (j := 3) rfl⟩)
      obtain ⟨q0, q1, q2, q3, q4, q5⟩ := SKe.out wr (grown_of_below (Below.refl _ _) _)
      have hde := below_drew wr
      have gde : wr.grownBy wr.drew (some m) := grown_of_below hde _
      have HLN := (show Hid (∀ _ : Unit, _) from fun _ => lenG_any wr.drew b m _ (lr.below hde))
      have HMD := (show Hid (∀ _ : Unit, _) from fun _ => made_any wr.drew x y s0 5 _ r21 (rnil Any _ 2 1) (by decide) (hTr.below hde))
      go_wp2_with fail
      go_region_held3 (fun u => u.cell? ⟨cB, 0, none⟩ = some (.int .i64 x) ∧ u.cell? ⟨cB, 1, none⟩ = some (.int .i64 y) ∧ u.cell? ⟨cR, 0, none⟩ = some (.int .i64 2) ∧ u.cell? ⟨cR, 1, none⟩ = some (.int .i64 1) ∧ u.cell? ⟨cR, 2, none⟩ = some (.slice none 0 0) ∧ u.cell? ⟨cR, 3, none⟩ = some (.slice none 0 0))
        (first | exact SKe.out _ gxe | exact SKe.out _ gbe | exact SKe.out _ gae | exact SKe.out _ gde | go_keep)
        (first
          | (go_at_call 12; refine hNe.mono ?_; rintro e wxe ⟨vxe, rfl, exe, lxe, gx'e⟩; have gxe : wr.grownBy wxe (some m) := grown_trans gae gx'e (.inl rfl); rw [forg_3] at exe; obtain ⟨axe, cxe, rfl, _⟩ := exe.form)
          | (go_at_call 18; refine (HMD.out ()).mono ?_; rintro e wae ⟨vae, rfl, fae, bae⟩; obtain ⟨aae, cae, rfl, _⟩ := fae.form; have bbe : Below wr.heap.size wr wae := hde.trans bae; have gae : wr.grownBy wae (some m) := grown_of_below bbe _; have gbe : wr.grownBy (wae.alloc (.cells #[.int .i64 5, .slice aae (sgn 2 x y s0 r21 5).length cae] 53)) (some m) := grown_trans gae (grown_of_below (below_alloc _ _) _) (.inl rfl); have hNe := note1_any wae b m _ (lr.below bbe) 3 x y s0 5 _ r21 (rnil _ _ 2 1) (by decide) _ _ (fae.mv (toNM lr.lt.2)) (sgn_sz _ _ _ _ _ _) (hTr.below bbe))
          | (go_at_call 17; refine (HLN.out ()).mono ?_; rintro e wl ⟨rfl, rfl⟩))
      have BWe := BWr.trans (grown_below gxe (Nat.le_trans hm5 (Nat.le_of_lt lr.lt.2)) (fun q hq => by have := Option.some.inj hq; omega))
      clear SKe HLN HMD hNe q0 q1 q2 q3 q4 q5
      go_wp2_with fail
      go_ret
      exact ⟨rfl, BWe⟩
end Go.Proofs.YtajmgpgjkalfkaaDoor
end

section
namespace Go.Proofs.YtajmgpgjkalfkaaDoor
open Go.ChangeShapes Go.WideShapes Go.ChangeAt Go.RowKit

theorem ledgerForged_own : ownKnob Tryd.prog.godebug = none := by kernel_rfl
theorem ledgerForged_laidOut : laidOutB Tryd.prog = true := by kernel_rfl
theorem ledgerForged_cells5 : Tryd.prog.cellsOf 5 = 1 := by kernel_rfl
theorem ledgerForged_bytes5 : Tryd.prog.bytesOf 5 = 1 := by kernel_rfl

set_option maxRecDepth 100000 in
theorem ledgerForged_contract (H : Type) (enc : TypeId × Value → H) (W : World) (base : Nat) (args : Array Value) (ds gs : List (DataW H)) (before : List MemPlace)
    (hval : ∀ (j : Nat) t v, Tryd.f6.params[j]? = some t → args[j]? = some v → Value.okWide Tryd.prog W .any base t v)
    (hW : DataW.Whole enc Tryd.prog Tryd.f6.params.toList Rows.ledgerForgedSpec.vars false W args.toList ds gs before)
    (hsz : (DataW.weightsEach Tryd.prog (Tryd.f6.params.toList ++ Rows.ledgerForgedSpec.plain.varTypes Tryd.prog) (ds ++ gs)).all (· ≤ reachBytes) = true)
    (hT : Tab W) :
    Calls Tryd.prog 6 args W fun e W' => ∃ v, e = .returned v ∧ Rows.ledgerForgedSpec.post enc Tryd.prog Tryd.f6 false true false false W args v W' := by
  have hW' := hW
  obtain ⟨p, q, hA0, hV, rfl, hfz, hnd⟩ := hW
  have hA : DataW.TrodAll enc Tryd.prog W 0 (fun _ => true) true Tryd.f6.params.toList args.toList ds p := hA0
  rw [Tryd.params6] at hA hval hsz
  obtain ⟨v0, vs0, d0, ds0, p0, q0, hargs, rfl, rfl, h0, r0⟩ := trodAll_cons hA
  obtain ⟨v1, vs1, d1, ds1, p1, q1, rfl, rfl, rfl, h1, r1⟩ := trodAll_cons r0
  obtain ⟨v2, vs2, d2, ds2, p2, q2, rfl, rfl, rfl, h2, r2⟩ := trodAll_cons r1
  obtain ⟨rfl, rfl, rfl⟩ := trodAll_nil r2
  obtain rfl : args = #[v0, v1, v2] := by cases args; simp_all
  obtain ⟨rfl, rfl⟩ := trodVars_none hV
  have lt0 : ∀ x ∈ p0, x.block < W.heap.size := by obtain ⟨m, hm⟩ := h0; exact DataW.trod_lt m _ _ _ hm
  obtain ⟨a0, b0, rfl⟩ := open_ballL (hval 0 28 v0 rfl rfl) h0
  obtain ⟨a1, rfl, rfl, rfl, w1⟩ := open_int Tryd.underlying3 (hval 1 3 v1 rfl rfl) h1
  obtain ⟨a2, len2, cap2, rfl⟩ := okWide_slice Tryd.underlying32 (hval 2 32 v2 rfl rfl)
  have lt2 : ∀ x ∈ p2, x.block < W.heap.size := by obtain ⟨m, hm⟩ := h2; exact DataW.trod_lt m _ _ _ hm
  obtain ⟨ys2, hrd2, hb2, hz2⟩ := open_votes rfl h2
  have hlen2 := hz2 (weightsV_arg hsz (j := 2) rfl rfl)
  clear hA0
  refine (forgedLg_any W a0 b0 a1 _ ys2 hrd2 hlen2.2 hT).mono fun e W' ⟨he, bel⟩ => ?_
  subst he
  exact ⟨_, rfl, _, _, _, [], _, [], hW', trodAll_mk1 (shut_bool Tryd.underlying4 _), (trodAll_cons_mk (Below.trod ledgerForged_laidOut (by kernel_rfl) (of_decide_eq_true (by kernel_rfl)) h0 bel lt0) (trodAll_cons_mk (shut_int Tryd.underlying3 w1) (trodAll_cons_mk (Below.trod ledgerForged_laidOut (by kernel_rfl) (of_decide_eq_true (by kernel_rfl)) h2 bel lt2) trodAll_mk0))), rfl, bel.frame _, fun h => by cases h⟩

theorem ledgerForged_met (os : Os) : laidMet Tryd.prog Rows.ledgerForgedRow.laid ((laidWorld os).forCall (fun _ _ => 0) ⟨#[], #[.agg #[.int .i64 0, .int .i64 0], .int .i64 0, .slice none 0 0], []⟩).memory :=
  laidMet_of_run' 8 (by kernel_rfl) (by kernel_rfl)
theorem ledgerForged_reads (os : Os) {H : Type} (enc : TypeId × Value → H) : ∃ places, DataW.whole enc Tryd.prog ((laidWorld os).forCall (fun _ _ => 0) ⟨#[], #[.agg #[.int .i64 0, .int .i64 0], .int .i64 0, .slice none 0 0], []⟩).memory Tryd.f6.params.toList Rows.ledgerForgedSpec.vars false (#[.agg #[.int .i64 0, .int .i64 0], .int .i64 0, .slice none 0 0] : Array Value).toList 8 = some ([.agg [.lit (.int .i64 0), .lit (.int .i64 0)], .lit (.int .i64 0), .nil], [], places) :=
  ⟨[], by kernel_rfl⟩
set_option maxRecDepth 100000 in
theorem ledgerForged_lifted (os : Os) (started : os.Started) (H : Type) (enc : TypeId × Value → H) (F : Stop.Interp) :
    ReturnsInHanded {} Tryd.checked os 6 .any ((OpenSpec.ofChange Rows.ledgerForgedSpec).preRow enc Tryd.prog Tryd.f6 Rows.ledgerForgedRow.domain false Rows.ledgerForgedRow.laid) (((OpenSpec.ofChange Rows.ledgerForgedSpec).at F).post enc Tryd.prog Tryd.f6 false true false false) := by
  obtain ⟨places, hx⟩ := ledgerForged_reads os enc
  refine returnsInHanded_of_row (C := Tryd.checked) (s := (OpenSpec.ofChange Rows.ledgerForgedSpec)) ledgerForged_own started (by kernel_rfl) Tryd.func6
    (witness_row_at (enc := enc) (C := Tryd.checked) false (laidWorld os) #[.agg #[.int .i64 0, .int .i64 0], .int .i64 0, .slice none 0 0] rfl (by kernel_rfl) (by kernel_rfl) (by kernel_rfl)
      (OpenSpec.preRow_of_cond 8 hx (by kernel_rfl) (fun k hk => by cases hk) (by kernel_rfl) (ledgerForged_met os))) ?_
  intro W base args ds gs before hval hW _ hcond hsz hL _ _
  exact ledgerForged_contract H enc W base args ds gs before hval hW hsz (tab_of hL)

theorem ledgerForged_said : Rows.LedgerForgedSaid :=
  OpenClaim.holds_of_cond 6 Tryd.f6 rfl rfl rfl rfl rfl rfl rfl ⟨rfl, rfl, rfl, rfl, rfl⟩ rfl rfl rfl rfl rfl (by kernel_rfl) Tryd.func6 (by kernel_rfl)
    (of_decide_eq_true (by kernel_rfl)) (by unfold Func.isWrapper; first | (rw [if_pos (by decide +kernel)]; kernel_rfl) | (rw [if_neg (by decide +kernel)]; exact ⟨rfl, rfl⟩))
    (fun os started H enc _ F => by rw [OpenClaim.pre_eq_preRow]; exact ledgerForged_lifted os started H enc F)
theorem ledgerForged_plain (f : FuncId) (fn : Func) (hf : Tryd.pinned.checked.prog.funcNamed "catenary/catenarylaw15.LedgerForged" = some f) (hfn : Tryd.pinned.checked.prog.funcs[f]? = some fn) :
    false = Tryd.pinned.checked.prog.looks [] ∧ ∀ (j : Nat) t, fn.params[j]? = some t → Tryd.pinned.checked.prog.wantsStandIn t = false := by
  obtain rfl : f = 6 := Option.some.inj ((show Tryd.prog.funcNamed "catenary/catenarylaw15.LedgerForged" = some 6 by kernel_rfl).symm.trans hf) |>.symm
  obtain rfl : fn = Tryd.f6 := (Option.some.inj (Tryd.func6.symm.trans hfn)).symm
  refine ⟨by kernel_rfl, fun j t ht => ?_⟩
  rw [Tryd.params6] at ht
  have hm := Array.mem_of_getElem? ht
  simp only [List.mem_toArray, List.mem_cons, List.not_mem_nil, or_false] at hm
  rcases hm with rfl | rfl | rfl
  · exact (show Tryd.prog.wantsStandIn 28 = false by kernel_rfl)
  · exact (show Tryd.prog.wantsStandIn 3 = false by kernel_rfl)
  · exact (show Tryd.prog.wantsStandIn 32 = false by kernel_rfl)
theorem ledgerForged_proved : Rows.LedgerForgedCardSaid :=
  Claim7.holds_tied_plain_at .later [] _ _ _ _ ledgerForged_said (fun _ h => by cases h) (by kernel_rfl) (fun _ h => by cases h) ledgerForged_row_tie rfl ⟨rfl, rfl⟩ (by kernel_rfl) rfl ledgerForged_plain (by kernel_rfl)
#print axioms ledgerForged_proved
end Go.Proofs.YtajmgpgjkalfkaaDoor
end
