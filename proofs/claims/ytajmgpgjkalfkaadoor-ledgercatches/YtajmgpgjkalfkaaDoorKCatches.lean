/- PROVED HERE: at all arguments catenarylaw15.LedgerCatches returns true and leaves its arguments as they were (the statement LedgerCatchesUptoCardSaid); under one condition: what comes in holds at most 1048576 values and letters; the table sha.constants is laid by the program text, the card ties it. -/
import Derived.Test.YtajmgpgjkalfkaaDoorJI
import Derived.Test.YtajmgpgjkalfkaaDoorJA
import Derived.Test.YtajmgpgjkalfkaaDoorRows
import Derived.Test.YtajmgpgjkalfkaaDoorJJ
import Derived.Test.YtajmgpgjkalfkaaDoorCards
import Derived.Test.YtajmgpgjkalfkaaDoorTie
import Derived.Deep.DeepHandedRow
import Derived.JoinedCond
section
set_option linter.unusedVariables false
set_option linter.unusedSimpArgs false
namespace Go.Proofs.YtajmgpgjkalfkaaDoor
open Go.RowKit Oct Kvl

/-- The request of a signer's first vote. -/
def rqp (r0 r1 : PReq) (j : Nat) : PReq := if j % 2 = 0 then r0 else r1
def sn1 (x y s : Int) (r0 r1 : PReq) (t : Nat) (j : Nat) : PSn := ⟨(2, x, y, s, (j : Int)), rqp r0 r1 j, sgn 2 x y s (rqp r0 r1 j) (j : Int), decide (j < t)⟩
/-- n signers' first votes; of the first t a conflict was told. -/
def lsT (x y s : Int) (r0 r1 : PReq) (t n : Nat) : List PSn := (List.range n).map (sn1 x y s r0 r1 t)
theorem lsT_len (x y s : Int) (r0 r1 : PReq) (t n : Nat) : (lsT x y s r0 r1 t n).length = n := by simp [lsT]
theorem lsT_at {x y s : Int} {r0 r1 : PReq} {t n j : Nat} (h : j < n) : (lsT x y s r0 r1 t n)[j]? = some (sn1 x y s r0 r1 t j) := by simp [lsT, h]
theorem lsT_keys (x y s : Int) (r0 r1 : PReq) (t n : Nat) : keysL (lsT x y s r0 r1 t n) = (List.range n).map (fun j => (2, x, y, s, ((j : Nat) : Int))) := by
  unfold keysL lsT
  rw [List.map_map]
  rfl
theorem keys_nodup (x y s : Int) (n : Nat) : ((List.range n).map (fun j => ((2, x, y, s, ((j : Nat) : Int)) : PK))).Nodup := by
  rw [List.nodup_iff_pairwise_ne, List.pairwise_map]
  refine List.Pairwise.imp_of_mem ?_ (List.nodup_iff_pairwise_ne.1 (List.nodup_range (n := n)))
  intro a b _ _ hne e
  simp only [Prod.mk.injEq] at e
  omega
theorem lsT_none (x y s : Int) (r0 r1 : PReq) (t n : Nat) : fnd (2, x, y, s, (n : Int)) (keysL (lsT x y s r0 r1 t n)) = none := by
  cases hf : fnd (2, x, y, s, (n : Int)) (keysL (lsT x y s r0 r1 t n)) with
  | none => rfl
  | some j =>
    exfalso
    obtain ⟨h1, h2⟩ := fnd_lt hf
    rw [lsT_keys] at h1 h2
    rw [List.getElem?_map, List.getElem?_range (by simpa using h1)] at h2
    simp at h2 h1
    omega
theorem lsT_some {x y s : Int} {r0 r1 : PReq} {t n j : Nat} (h : j < n) : fnd (2, x, y, s, (j : Int)) (keysL (lsT x y s r0 r1 t n)) = some j := by
  rw [lsT_keys]
  refine fnd_of (keys_nodup x y s n) ?_
  rw [List.getElem?_map, List.getElem?_range h]
  rfl
theorem lsT_next (x y s : Int) (r0 r1 : PReq) (n : Nat) : lsT x y s r0 r1 0 n ++ [⟨(2, x, y, s, (n : Int)), rqp r0 r1 n, sgn 2 x y s (rqp r0 r1 n) (n : Int), false⟩] = lsT x y s r0 r1 0 (n + 1) := by
  unfold lsT
  rw [List.range_succ, List.map_append]
  simp [sn1]
theorem lsT_set {x y s : Int} {r0 r1 : PReq} {t n : Nat} (h : t < n) : (lsT x y s r0 r1 t n).set t { sn1 x y s r0 r1 t t with told := true } = lsT x y s r0 r1 (t + 1) n := by
  refine List.ext_getElem? fun i => ?_
  rw [List.getElem?_set]
  by_cases hi : t = i
  · subst hi
    rw [if_pos rfl, if_pos (by rw [lsT_len]; exact h), lsT_at h]
    simp [sn1]
  · rw [if_neg hi]
    by_cases hin : i < n
    · rw [lsT_at hin, lsT_at hin]
      unfold sn1
      by_cases h1 : i < t
      · rw [decide_eq_true h1, decide_eq_true (by omega)]
      · rw [decide_eq_false h1, decide_eq_false (by omega)]
    · rw [List.getElem?_eq_none (by rw [lsT_len]; omega), List.getElem?_eq_none (by rw [lsT_len]; omega)]
theorem catch_1 {x y s : Int} {r0 r1 : PReq} {k : Nat} (hk : k < 15) : noteL (lsT x y s r0 r1 0 k) 2 x y s (rqp r0 r1 k) [((k : Int), sgn 2 x y s (rqp r0 r1 k) (k : Int))] = (lsT x y s r0 r1 0 (k + 1), []) := by
  rw [note_first (by omega) (by omega) (lsT_none _ _ _ _ _ _ _) (by rw [lsT_len]; omega), lsT_next]
theorem catch_same {x y s : Int} {r0 r1 : PReq} {k : Nat} (hk : k < 15) (he : r0 = r1) : noteL (lsT x y s r0 r1 0 15) 2 x y s (rqp r0 r1 (k + 1)) [((k : Int), sgn 2 x y s (rqp r0 r1 (k + 1)) (k : Int))] = (lsT x y s r0 r1 0 15, []) := by
  refine note_same (by omega) (by omega) (lsT_some hk) (lsT_at hk) ?_
  subst he
  simp [sn1, rqp]
theorem rqp_ne {r0 r1 : PReq} (hb : ¬ body r0 = body r1) (k : Nat) : ¬ body (rqp r0 r1 k) = body (rqp r0 r1 (k + 1)) := by
  unfold rqp
  by_cases h : k % 2 = 0
  · rw [if_pos h, if_neg (by omega)]
    exact hb
  · rw [if_neg h, if_pos (by omega)]
    exact fun e => hb e.symm
theorem catch_2 {x y s : Int} {r0 r1 : PReq} {k : Nat} (hk : k < 15) (hb : ¬ body r0 = body r1) :
    noteL (lsT x y s r0 r1 k 15) 2 x y s (rqp r0 r1 (k + 1)) [((k : Int), sgn 2 x y s (rqp r0 r1 (k + 1)) (k : Int))] = (lsT x y s r0 r1 (k + 1) 15, [evL (2, x, y, s, (k : Int)) (rqp r0 r1 k) (sgn 2 x y s (rqp r0 r1 k) (k : Int)) (rqp r0 r1 (k + 1)) (sgn 2 x y s (rqp r0 r1 (k + 1)) (k : Int))]) := by
  rw [note_other (by omega) (by omega) (lsT_some hk) (lsT_at hk) (by simp [sn1]) (rqp_ne hb k), lsT_set hk]
  rfl
end Go.Proofs.YtajmgpgjkalfkaaDoor
end

section
set_option linter.unusedVariables false
set_option linter.unusedSimpArgs false
namespace Go.Proofs.YtajmgpgjkalfkaaDoor
open Go.RowKit Oct Kvl

theorem tmod_even {k : Nat} (h : k % 2 = 0) : Int.tmod (k : Int) 2 = 0 := by rw [Int.tmod_eq_emod_of_nonneg (by omega)]; omega
theorem tmod_odd {k : Nat} (h : k % 2 = 1) : Int.tmod (k : Int) 2 = 1 := by rw [Int.tmod_eq_emod_of_nonneg (by omega)]; omega

set_option maxRecDepth 10000 in
set_option maxHeartbeats 4000000 in
theorem catchesLg_any (W : World) (x y s0 : Int) (o0 p0 o1 p1 : Value) (r0 r1 : PReq) (t0 : RT Any W o0 r0.2.2.1) (u0 : RT Any W p0 r0.2.2.2) (t1 : RT Any W o1 r1.2.2.1) (u1 : RT Any W p1 r1.2.2.2) (z0 : tot [r0.2.2.1, r0.2.2.2] ≤ 2000000) (z1 : tot [r1.2.2.1, r1.2.2.2] ≤ 2000000)
    (hbd : body r0 = body r1 → r0 = r1) (hT : Tab W) :
    Calls Tryd.prog 5 #[.agg #[.int .i64 x, .int .i64 y], .int .i64 s0, .agg #[.int .i64 r0.1, .int .i64 r0.2.1, o0, p0, .int .i64 r1.1, .int .i64 r1.2.1, o1, p1]] W fun e w' => e = .returned (.bool true) ∧ Below W.heap.size W w' := by
  obtain ⟨ao0, co0, rfl, _⟩ := t0.form
  obtain ⟨ap0, cp0, rfl, _⟩ := u0.form
  obtain ⟨ao1, co1, rfl, _⟩ := t1.form
  obtain ⟨ap1, cp1, rfl, _⟩ := u1.form
  obtain ⟨w1, hw1⟩ : ∃ w1, w1 = W.alloc (.cells #[.int .i64 x, .int .i64 y] 28) := ⟨_, rfl⟩
  obtain ⟨w3, hw3⟩ : ∃ w3, w3 = w1.alloc (.cells #[.int .i64 r0.1, .int .i64 r0.2.1, .slice ao0 r0.2.2.1.length co0, .slice ap0 r0.2.2.2.length cp0, .int .i64 r1.1, .int .i64 r1.2.1, .slice ao1 r1.2.2.1.length co1, .slice ap1 r1.2.2.2.length cp1] 51) := ⟨_, rfl⟩
  have e1 : w1.heap.size = W.heap.size + 1 := by rw [hw1]; simp
  have B1 : Below W.heap.size W w1 := by rw [hw1]; exact below_alloc _ _
  have B3 : Below w1.heap.size w1 w3 := by rw [hw3]; exact below_alloc _ _
  have ra : Row w1 W.heap.size 28 [.int .i64 x, .int .i64 y] := by rw [hw1]; exact Row.new _ _ _
  have rc : Row w3 (W.heap.size + 1) 51 [.int .i64 r0.1, .int .i64 r0.2.1, .slice ao0 r0.2.2.1.length co0, .slice ap0 r0.2.2.2.length cp0, .int .i64 r1.1, .int .i64 r1.2.1, .slice ao1 r1.2.2.1.length co1, .slice ap1 r1.2.2.2.length cp1] := by rw [hw3, ← e1]; exact Row.new _ _ _
  have ra := ra.below B3
  have BW : Below W.heap.size W w3 := below_and B1 (Nat.le_refl _) B3
  have hw : w3 = (W.alloc (.cells #[.int .i64 x, .int .i64 y] 28)).alloc (.cells #[.int .i64 r0.1, .int .i64 r0.2.1, .slice ao0 r0.2.2.1.length co0, .slice ap0 r0.2.2.2.length cp0, .int .i64 r1.1, .int .i64 r1.2.1, .slice ao1 r1.2.2.1.length co1, .slice ap1 r1.2.2.2.length cp1] 51) := by rw [hw3, hw1]
  clear hw1 hw3 e1 B1 B3
  have hT3 := hT.below BW
  go_enter Tryd.func5, Tryd.ntmps5
  go_upto_region 1 with fail
  rw [← hw]
  clear hw
  obtain ⟨cB, hcB⟩ : ∃ c, c = W.heap.size := ⟨_, rfl⟩
  obtain ⟨cR, hcR⟩ : ∃ c, c = W.heap.size + 1 := ⟨_, rfl⟩
  rw [← hcR] at rc ⊢
  rw [← hcB] at ra ⊢
  clear hcB hcR
  go_upto_region 4 with (first
    | (go_at_call 9; refine (newG_any w5).mono ?_; rintro e w6 ⟨rfl, l6, b6⟩)
    | (go_at_call 8; refine (ledgerAlive_any w3 hT3).mono ?_; rintro e w5 ⟨rfl, b5⟩))
  have BW5 := below_and BW (Nat.le_refl _) b5
  have hm5 : W.heap.size ≤ w5.heap.size := BW5.size
  have BW6 := below_and BW5 (Nat.le_refl _) b6
  have ra := (ra.below b5).below b6
  have rc := (rc.below b5).below b6
  have hT6 := (hT3.below b5).below b6
  have t0 := ((t0.mv (Mv.below BW5)).mv (toNMa (Nat.le_refl _))).mv (Mv.belowG b6)
  have u0 := ((u0.mv (Mv.below BW5)).mv (toNMa (Nat.le_refl _))).mv (Mv.belowG b6)
  have t1 := ((t1.mv (Mv.below BW5)).mv (toNMa (Nat.le_refl _))).mv (Mv.belowG b6)
  have u1 := ((u1.mv (Mv.below BW5)).mv (toNMa (Nat.le_refl _))).mv (Mv.belowG b6)

  clear BW BW5 hT3 b5 b6
  generalize hm : w5.heap.size = m at *
  generalize hbb : m + 1 = b at *
  clear hm hbb
  have hmra := l6.nrow ra
  have hmrc := l6.nrow rc
  have hmlt := l6.lt
  have l6 : Lg (NM m) w6 b m (lsT x y s0 r0 r1 0 0) := l6
  go_wp2_with fail
  go_loopw [8] (fun i wr => ∃ k : Nat, k ≤ 15 ∧ i = .int .i64 k ∧ Lg (NM m) wr b m (lsT x y s0 r0 r1 0 k) ∧ w6.grownBy wr (some m)) (fun i _ => 15 - (intOf i).toNat)
  case atStart => exact ⟨0, by omega, rfl, l6, grown_of_below (Below.refl _ _) _⟩
  case round =>
    obtain ⟨k, hk, rfl, lr, hg⟩ := hrel
    have hmv : Mv (NM m) (NM m) w6 wr := Mv.nm (fun k hk => hk) hg
    have t0 := t0.mv hmv
    have u0 := u0.mv hmv
    have t1 := t1.mv hmv
    have u1 := u1.mv hmv
    have ra := ra.grown hg hmra
    have rc := rc.grown hg hmrc
    have hTr := hT6.grown hg (by intro e; exact l6.ntab hT6 e)
    have BWr := BW6.trans (grown_below hg (Nat.le_trans hm5 (Nat.le_of_lt hmlt.2)) (fun q hq => by have := Option.some.inj hq; omega))
    have k0 := rc.cell (j := 0) rfl
    have k1 := rc.cell (j := 1) rfl
    have k2 := rc.cell (j := 2) rfl
    have k3 := rc.cell (j := 3) rfl
    have k4 := rc.cell (j := 4) rfl
    have k5 := rc.cell (j := 5) rfl
    have k6 := rc.cell (j := 6) rfl
    have k7 := rc.cell (j := 7) rfl

    clear hmv l6 BW6 hT6
    by_cases hk15 : k < 15
    · rcases Nat.mod_two_eq_zero_or_one k with hpar | hpar
      · have hrm := tmod_even hpar
        have n1 : noteL (lsT x y s0 r0 r1 0 k) 2 x y s0 r0 [((k : Int), sgn 2 x y s0 r0 (k : Int))] = (lsT x y s0 r0 r1 0 (k + 1), []) := by
          have := catch_1 (x := x) (y := y) (s := s0) (r0 := r0) (r1 := r1) hk15
          rwa [show rqp r0 r1 k = r0 by unfold rqp; rw [hpar]; rfl] at this
        go_upto_region 8 with fail
        obtain ⟨w7, hw7⟩ : ∃ w7, w7 = wr.alloc (.cells #[.int .i64 r0.1, .int .i64 r0.2.1, .slice ao0 r0.2.2.1.length co0, .slice ap0 r0.2.2.2.length cp0] 31) := ⟨_, rfl⟩
        rw [← hw7]
        have b7 : Below wr.heap.size wr w7 := by rw [hw7]; exact below_alloc _ _
        have rx : Row w7 wr.heap.size 31 [.int .i64 r0.1, .int .i64 r0.2.1, .slice ao0 r0.2.2.1.length co0, .slice ap0 r0.2.2.2.length cp0] := by rw [hw7]; exact Row.new _ _ _
        obtain ⟨cX, hcX⟩ : ∃ c, c = wr.heap.size := ⟨_, rfl⟩
        rw [← hcX] at rx ⊢
        have hmrx : (some m : Option Nat) ≠ some cX := fun e => by have := Option.some.inj e; have := lr.lt.2; omega
        clear hw7 hcX k0 k1 k2 k3 k4 k5 k6 k7
        have l7 := lr.below b7
        have ra := ra.below b7
        have hT7 := hTr.below b7
        have t7 := t0.mv (Mv.belowG b7)
        have u7 := u0.mv (Mv.belowG b7)
        have SK7 := (show Hid (∀ u, w7.grownBy u (some m) → u.cell? ⟨cB, 0, none⟩ = some (.int .i64 x) ∧ u.cell? ⟨cB, 1, none⟩ = some (.int .i64 y) ∧ u.cell? ⟨cX, 0, none⟩ = some (.int .i64 r0.1) ∧ u.cell? ⟨cX, 1, none⟩ = some (.int .i64 r0.2.1) ∧ u.cell? ⟨cX, 2, none⟩ = some (.slice ao0 r0.2.2.1.length co0) ∧ u.cell? ⟨cX, 3, none⟩ = some (.slice ap0 r0.2.2.2.length cp0)) from fun u hu => ⟨(ra.grown hu hmra).cell (j := 0) rfl, (ra.grown hu hmra).cell (j := 1) rfl, (rx.grown hu hmrx).cell (j := 0) rfl, (rx.grown hu hmrx).cell (j := 1) rfl, (rx.grown hu hmrx).cell (j := 2) rfl, (rx.grown hu hmrx).cell (j := 3) rfl⟩)
        obtain ⟨q0, q1, q2, q3, q4, q5⟩ := SK7.out w7 (grown_of_below (Below.refl _ _) _)
        have hd7 := below_drew w7
        have gd7 : w7.grownBy w7.drew (some m) := grown_of_below hd7 _
        have HCP7 := (show Hid (∀ _ : Unit, _) from fun _ => copyQ_any w7.drew _ _ r0 ((t7.mv (Mv.belowG hd7)).mv Mv.any) ((u7.mv (Mv.belowG hd7)).mv Mv.any) z0)
        go_wp2_with fail
        go_region_held3 (fun u => u.cell? ⟨cB, 0, none⟩ = some (.int .i64 x) ∧ u.cell? ⟨cB, 1, none⟩ = some (.int .i64 y) ∧ u.cell? ⟨cX, 0, none⟩ = some (.int .i64 r0.1) ∧ u.cell? ⟨cX, 1, none⟩ = some (.int .i64 r0.2.1) ∧ u.cell? ⟨cX, 2, none⟩ = some (.slice ao0 r0.2.2.1.length co0) ∧ u.cell? ⟨cX, 3, none⟩ = some (.slice ap0 r0.2.2.2.length cp0))
          (first | exact SK7.out _ gx7 | exact SK7.out _ gb7 | exact SK7.out _ ga7 | exact SK7.out _ gc7 | exact SK7.out _ gd7 | go_keep)
          (first
            | (go_at_call 12; refine hN7.mono ?_; rintro e wx7 ⟨vx7, rfl, ex7, lx7, gx'7⟩; have gx7 : w7.grownBy wx7 (some m) := grown_trans ga7 gx'7 (.inl rfl); obtain ⟨ax7, cx7, rfl, _⟩ := ex7.form)
            | (go_at_call 18; refine (made_any wc7 x y s0 (k : Int) _ r0 ⟨_, _, rfl, (t7.mv (Mv.belowG bc7)).mv Mv.any, (u7.mv (Mv.belowG bc7)).mv Mv.any⟩ z0 (hT7.below bc7)).mono ?_; rintro e wa7 ⟨va7, rfl, fa7, ba7⟩; obtain ⟨aa7, ca7, rfl, _⟩ := fa7.form; have bb7 : Below w7.heap.size w7 wa7 := below_and bc7 (Nat.le_refl _) ba7; have ga7 : w7.grownBy wa7 (some m) := grown_of_below bb7 _; have gb7 : w7.grownBy (wa7.alloc (.cells #[.int .i64 (k : Int), .slice aa7 (sgn 2 x y s0 r0 (k : Int)).length ca7] 53)) (some m) := grown_trans ga7 (grown_of_below (below_alloc _ _) _) (.inl rfl); have hN7 := note1_any wa7 b m _ (l7.below bb7) 2 x y s0 (k : Int) _ r0 (mov_req _ _ _ _ _ _ qc7 ba7.size (fun k hk hlt => ⟨ba7.block k hlt, by have := l7.lt.2; unfold From at hk; unfold NM; have : w7.drew.heap.size = w7.heap.size := rfl; omega⟩)) z0 _ _ (fa7.mv (toNM (l7.below bc7).lt.2)) (sgn_sz _ _ _ _ _ _) (hT7.below bb7); rw [n1] at hN7)
            | (go_at_call 13; refine (HCP7.out ()).mono ?_; rintro e wc7 ⟨ae7, ce7, af7, cf7, rfl, qc7, bc'7⟩; have bc7 : Below w7.heap.size w7 wc7 := hd7.trans bc'7; have gc7 : w7.grownBy wc7 (some m) := grown_of_below bc7 _))
        have hgx := grown_trans hg (grown_trans (grown_of_below b7 _) gx7 (.inl rfl)) (.inl rfl)
        clear SK7 HCP7 hN7 q0 q1 q2 q3 q4 q5 n1
        go_wp2_with fail
        go_roundw
        case rel => exact ⟨k + 1, by omega, by go_num, lx7, hgx⟩
        case measure => simp [intOf]; omega
      · have hrm := tmod_odd hpar
        have n1 : noteL (lsT x y s0 r0 r1 0 k) 2 x y s0 r1 [((k : Int), sgn 2 x y s0 r1 (k : Int))] = (lsT x y s0 r0 r1 0 (k + 1), []) := by
          have := catch_1 (x := x) (y := y) (s := s0) (r0 := r0) (r1 := r1) hk15
          rwa [show rqp r0 r1 k = r1 by unfold rqp; rw [hpar]; rfl] at this
        go_upto_region 8 with fail
        obtain ⟨w7, hw7⟩ : ∃ w7, w7 = wr.alloc (.cells #[.int .i64 r1.1, .int .i64 r1.2.1, .slice ao1 r1.2.2.1.length co1, .slice ap1 r1.2.2.2.length cp1] 31) := ⟨_, rfl⟩
        rw [← hw7]
        have b7 : Below wr.heap.size wr w7 := by rw [hw7]; exact below_alloc _ _
        have rx : Row w7 wr.heap.size 31 [.int .i64 r1.1, .int .i64 r1.2.1, .slice ao1 r1.2.2.1.length co1, .slice ap1 r1.2.2.2.length cp1] := by rw [hw7]; exact Row.new _ _ _
        obtain ⟨cX, hcX⟩ : ∃ c, c = wr.heap.size := ⟨_, rfl⟩
        rw [← hcX] at rx ⊢
        have hmrx : (some m : Option Nat) ≠ some cX := fun e => by have := Option.some.inj e; have := lr.lt.2; omega
        clear hw7 hcX k0 k1 k2 k3 k4 k5 k6 k7
        have l7 := lr.below b7
        have ra := ra.below b7
        have hT7 := hTr.below b7
        have t7 := t1.mv (Mv.belowG b7)
        have u7 := u1.mv (Mv.belowG b7)
        have SK7 := (show Hid (∀ u, w7.grownBy u (some m) → u.cell? ⟨cB, 0, none⟩ = some (.int .i64 x) ∧ u.cell? ⟨cB, 1, none⟩ = some (.int .i64 y) ∧ u.cell? ⟨cX, 0, none⟩ = some (.int .i64 r1.1) ∧ u.cell? ⟨cX, 1, none⟩ = some (.int .i64 r1.2.1) ∧ u.cell? ⟨cX, 2, none⟩ = some (.slice ao1 r1.2.2.1.length co1) ∧ u.cell? ⟨cX, 3, none⟩ = some (.slice ap1 r1.2.2.2.length cp1)) from fun u hu => ⟨(ra.grown hu hmra).cell (j := 0) rfl, (ra.grown hu hmra).cell (j := 1) rfl, (rx.grown hu hmrx).cell (j := 0) rfl, (rx.grown hu hmrx).cell (j := 1) rfl, (rx.grown hu hmrx).cell (j := 2) rfl, (rx.grown hu hmrx).cell (j := 3) rfl⟩)
        obtain ⟨q0, q1, q2, q3, q4, q5⟩ := SK7.out w7 (grown_of_below (Below.refl _ _) _)
        have hd7 := below_drew w7
        have gd7 : w7.grownBy w7.drew (some m) := grown_of_below hd7 _
        have HCP7 := (show Hid (∀ _ : Unit, _) from fun _ => copyQ_any w7.drew _ _ r1 ((t7.mv (Mv.belowG hd7)).mv Mv.any) ((u7.mv (Mv.belowG hd7)).mv Mv.any) z1)
        go_wp2_with fail
        go_region_held3 (fun u => u.cell? ⟨cB, 0, none⟩ = some (.int .i64 x) ∧ u.cell? ⟨cB, 1, none⟩ = some (.int .i64 y) ∧ u.cell? ⟨cX, 0, none⟩ = some (.int .i64 r1.1) ∧ u.cell? ⟨cX, 1, none⟩ = some (.int .i64 r1.2.1) ∧ u.cell? ⟨cX, 2, none⟩ = some (.slice ao1 r1.2.2.1.length co1) ∧ u.cell? ⟨cX, 3, none⟩ = some (.slice ap1 r1.2.2.2.length cp1))
          (first | exact SK7.out _ gx7 | exact SK7.out _ gb7 | exact SK7.out _ ga7 | exact SK7.out _ gc7 | exact SK7.out _ gd7 | go_keep)
          (first
            | (go_at_call 12; refine hN7.mono ?_; rintro e wx7 ⟨vx7, rfl, ex7, lx7, gx'7⟩; have gx7 : w7.grownBy wx7 (some m) := grown_trans ga7 gx'7 (.inl rfl); obtain ⟨ax7, cx7, rfl, _⟩ := ex7.form)
            | (go_at_call 18; refine (made_any wc7 x y s0 (k : Int) _ r1 ⟨_, _, rfl, (t7.mv (Mv.belowG bc7)).mv Mv.any, (u7.mv (Mv.belowG bc7)).mv Mv.any⟩ z1 (hT7.below bc7)).mono ?_; rintro e wa7 ⟨va7, rfl, fa7, ba7⟩; obtain ⟨aa7, ca7, rfl, _⟩ := fa7.form; have bb7 : Below w7.heap.size w7 wa7 := below_and bc7 (Nat.le_refl _) ba7; have ga7 : w7.grownBy wa7 (some m) := grown_of_below bb7 _; have gb7 : w7.grownBy (wa7.alloc (.cells #[.int .i64 (k : Int), .slice aa7 (sgn 2 x y s0 r1 (k : Int)).length ca7] 53)) (some m) := grown_trans ga7 (grown_of_below (below_alloc _ _) _) (.inl rfl); have hN7 := note1_any wa7 b m _ (l7.below bb7) 2 x y s0 (k : Int) _ r1 (mov_req _ _ _ _ _ _ qc7 ba7.size (fun k hk hlt => ⟨ba7.block k hlt, by have := l7.lt.2; unfold From at hk; unfold NM; have : w7.drew.heap.size = w7.heap.size := rfl; omega⟩)) z1 _ _ (fa7.mv (toNM (l7.below bc7).lt.2)) (sgn_sz _ _ _ _ _ _) (hT7.below bb7); rw [n1] at hN7)
            | (go_at_call 13; refine (HCP7.out ()).mono ?_; rintro e wc7 ⟨ae7, ce7, af7, cf7, rfl, qc7, bc'7⟩; have bc7 : Below w7.heap.size w7 wc7 := hd7.trans bc'7; have gc7 : w7.grownBy wc7 (some m) := grown_of_below bc7 _))
        have hgx := grown_trans hg (grown_trans (grown_of_below b7 _) gx7 (.inl rfl)) (.inl rfl)
        clear SK7 HCP7 hN7 q0 q1 q2 q3 q4 q5 n1
        go_wp2_with fail
        go_roundw
        case rel => exact ⟨k + 1, by omega, by go_num, lx7, hgx⟩
        case measure => simp [intOf]; omega
    · obtain rfl : k = 15 := by omega
      have HSR := sameReq_any _ [.int .i64 r0.1, .int .i64 r0.2.1, .slice ao0 r0.2.2.1.length co0, .slice ap0 r0.2.2.2.length cp0] [.int .i64 r1.1, .int .i64 r1.2.1, .slice ao1 r1.2.2.1.length co1, .slice ap1 r1.2.2.2.length cp1] r0 r1 ⟨_, _, rfl, t0.mv Mv.any, u0.mv Mv.any⟩ ⟨_, _, rfl, t1.mv Mv.any, u1.mv Mv.any⟩
      obtain ⟨wo, rfl⟩ : ∃ wo : World, wo = wr := ⟨_, rfl⟩
      clear hk hk15
      by_cases hr : r0 = r1
      · rw [decide_eq_true hr] at HSR
        have HR := (show Hid (_) from hr)
        clear hbd hr
        go_upto_region 11 with (go_at_call 19; refine HSR.mono ?_; rintro e w8 ⟨rfl, b8⟩)
        have l8 := lr.below b8
        have ra := ra.below b8
        have rc := rc.below b8
        have hT8 := hTr.below b8
        have BW8 := below_and BWr (Nat.le_refl _) b8
        have t0 := t0.mv (Mv.belowG b8)
        have u0 := u0.mv (Mv.belowG b8)
        have t1 := t1.mv (Mv.belowG b8)
        have u1 := u1.mv (Mv.belowG b8)
        have hml8 := l8.lt
        clear HSR k0 k1 k2 k3 k4 k5 k6 k7 lr hTr BWr b8
        go_wp2_with fail
        go_loopw [11] (fun i wr => ∃ k : Nat, k ≤ 15 ∧ i = .int .i64 k ∧ Lg (NM m) wr b m (lsT x y s0 r0 r1 0 15) ∧ w8.grownBy wr (some m)) (fun i _ => 15 - (intOf i).toNat)
        case atStart => exact ⟨0, by omega, rfl, l8, grown_of_below (Below.refl _ _) _⟩
        case round =>
          obtain ⟨k, hk, rfl, lr, hg⟩ := hrel
          have hmv : Mv (NM m) (NM m) w8 wr := Mv.nm (fun k hk => hk) hg
          have t0 := t0.mv hmv
          have u0 := u0.mv hmv
          have t1 := t1.mv hmv
          have u1 := u1.mv hmv
          have ra := ra.grown hg hmra
          have rc := rc.grown hg hmrc
          have hTr := hT8.grown hg (by intro e; exact l8.ntab hT8 e)
          have BWr := BW8.trans (grown_below hg (Nat.le_trans hm5 (Nat.le_of_lt hml8.2)) (fun q hq => by have := Option.some.inj hq; omega))
          have k0 := rc.cell (j := 0) rfl
          have k1 := rc.cell (j := 1) rfl
          have k2 := rc.cell (j := 2) rfl
          have k3 := rc.cell (j := 3) rfl
          have k4 := rc.cell (j := 4) rfl
          have k5 := rc.cell (j := 5) rfl
          have k6 := rc.cell (j := 6) rfl
          have k7 := rc.cell (j := 7) rfl
          clear hmv l8 BW8 hT8
          by_cases hk15 : k < 15
          · rcases Nat.mod_two_eq_zero_or_one (k + 1) with hpar | hpar
            · have hrm : Int.tmod ((k : Int) + 1) 2 = 0 := tmod_even hpar
              have n1 : noteL (lsT x y s0 r0 r1 0 15) 2 x y s0 r0 [((k : Int), sgn 2 x y s0 r0 (k : Int))] = (lsT x y s0 r0 r1 0 15, []) := by
                have := catch_same (x := x) (y := y) (s := s0) (r0 := r0) (r1 := r1) hk15 HR.out
                rwa [show rqp r0 r1 (k + 1) = r0 by unfold rqp; rw [hpar]; rfl] at this
              go_upto_region 15 with fail
              obtain ⟨w9, hw9⟩ : ∃ w9, w9 = wr.alloc (.cells #[.int .i64 r0.1, .int .i64 r0.2.1, .slice ao0 r0.2.2.1.length co0, .slice ap0 r0.2.2.2.length cp0] 31) := ⟨_, rfl⟩
              rw [← hw9]
              have b9 : Below wr.heap.size wr w9 := by rw [hw9]; exact below_alloc _ _
              have rx : Row w9 wr.heap.size 31 [.int .i64 r0.1, .int .i64 r0.2.1, .slice ao0 r0.2.2.1.length co0, .slice ap0 r0.2.2.2.length cp0] := by rw [hw9]; exact Row.new _ _ _
              obtain ⟨cX, hcX⟩ : ∃ c, c = wr.heap.size := ⟨_, rfl⟩
              rw [← hcX] at rx ⊢
              have hmrx : (some m : Option Nat) ≠ some cX := fun e => by have := Option.some.inj e; have := lr.lt.2; omega
              clear hw9 hcX k0 k1 k2 k3 k4 k5 k6 k7
              have l9 := lr.below b9
              have ra := ra.below b9
              have hT9 := hTr.below b9
              have t9 := t0.mv (Mv.belowG b9)
              have u9 := u0.mv (Mv.belowG b9)
              have SK9 := (show Hid (∀ u, w9.grownBy u (some m) → u.cell? ⟨cB, 0, none⟩ = some (.int .i64 x) ∧ u.cell? ⟨cB, 1, none⟩ = some (.int .i64 y) ∧ u.cell? ⟨cX, 0, none⟩ = some (.int .i64 r0.1) ∧ u.cell? ⟨cX, 1, none⟩ = some (.int .i64 r0.2.1) ∧ u.cell? ⟨cX, 2, none⟩ = some (.slice ao0 r0.2.2.1.length co0) ∧ u.cell? ⟨cX, 3, none⟩ = some (.slice ap0 r0.2.2.2.length cp0)) from fun u hu => ⟨(ra.grown hu hmra).cell (j := 0) rfl, (ra.grown hu hmra).cell (j := 1) rfl, (rx.grown hu hmrx).cell (j := 0) rfl, (rx.grown hu hmrx).cell (j := 1) rfl, (rx.grown hu hmrx).cell (j := 2) rfl, (rx.grown hu hmrx).cell (j := 3) rfl⟩)
              obtain ⟨q0, q1, q2, q3, q4, q5⟩ := SK9.out w9 (grown_of_below (Below.refl _ _) _)
              have hd9 := below_drew w9
              have gd9 : w9.grownBy w9.drew (some m) := grown_of_below hd9 _
              have HCP9 := (show Hid (∀ _ : Unit, _) from fun _ => copyQ_any w9.drew _ _ r0 ((t9.mv (Mv.belowG hd9)).mv Mv.any) ((u9.mv (Mv.belowG hd9)).mv Mv.any) z0)
              go_wp2_with fail
              go_region_held3 (fun u => u.cell? ⟨cB, 0, none⟩ = some (.int .i64 x) ∧ u.cell? ⟨cB, 1, none⟩ = some (.int .i64 y) ∧ u.cell? ⟨cX, 0, none⟩ = some (.int .i64 r0.1) ∧ u.cell? ⟨cX, 1, none⟩ = some (.int .i64 r0.2.1) ∧ u.cell? ⟨cX, 2, none⟩ = some (.slice ao0 r0.2.2.1.length co0) ∧ u.cell? ⟨cX, 3, none⟩ = some (.slice ap0 r0.2.2.2.length cp0))
                (first | exact SK9.out _ gx9 | exact SK9.out _ gb9 | exact SK9.out _ ga9 | exact SK9.out _ gc9 | exact SK9.out _ gd9 | go_keep)
                (first
                  | (go_at_call 12; refine hN9.mono ?_; rintro e wx9 ⟨vx9, rfl, ex9, lx9, gx'9⟩; have gx9 : w9.grownBy wx9 (some m) := grown_trans ga9 gx'9 (.inl rfl); obtain ⟨ax9, cx9, rfl, _⟩ := ex9.form)
                  | (go_at_call 18; refine (made_any wc9 x y s0 (k : Int) _ r0 ⟨_, _, rfl, (t9.mv (Mv.belowG bc9)).mv Mv.any, (u9.mv (Mv.belowG bc9)).mv Mv.any⟩ z0 (hT9.below bc9)).mono ?_; rintro e wa9 ⟨va9, rfl, fa9, ba9⟩; obtain ⟨aa9, ca9, rfl, _⟩ := fa9.form; have bb9 : Below w9.heap.size w9 wa9 := below_and bc9 (Nat.le_refl _) ba9; have ga9 : w9.grownBy wa9 (some m) := grown_of_below bb9 _; have gb9 : w9.grownBy (wa9.alloc (.cells #[.int .i64 (k : Int), .slice aa9 (sgn 2 x y s0 r0 (k : Int)).length ca9] 53)) (some m) := grown_trans ga9 (grown_of_below (below_alloc _ _) _) (.inl rfl); have hN9 := note1_any wa9 b m _ (l9.below bb9) 2 x y s0 (k : Int) _ r0 (mov_req _ _ _ _ _ _ qc9 ba9.size (fun k hk hlt => ⟨ba9.block k hlt, by have := l9.lt.2; unfold From at hk; unfold NM; have : w9.drew.heap.size = w9.heap.size := rfl; omega⟩)) z0 _ _ (fa9.mv (toNM (l9.below bc9).lt.2)) (sgn_sz _ _ _ _ _ _) (hT9.below bb9); rw [n1] at hN9)
                  | (go_at_call 13; refine (HCP9.out ()).mono ?_; rintro e wc9 ⟨ae9, ce9, af9, cf9, rfl, qc9, bc'9⟩; have bc9 : Below w9.heap.size w9 wc9 := hd9.trans bc'9; have gc9 : w9.grownBy wc9 (some m) := grown_of_below bc9 _))
              have hgx := grown_trans hg (grown_trans (grown_of_below b9 _) gx9 (.inl rfl)) (.inl rfl)
              clear HCP9 hN9 q0 q1 q2 q3 q4 q5 n1
              obtain ⟨q0, q1, q2, q3, q4, q5⟩ := SK9.out wx9 gx9
              clear SK9
              go_upto_region 16 with fail
              try go_simp
              go_big_quiet (fail)
              have hdn : Below wx9.heap.size wx9 (wx9.drewN nq) := bel_dn (Below.refl _ _) nq
              have lz := lx9.below hdn
              have hgz := grown_trans hgx (grown_of_below hdn _) (.inl rfl)
              clear q0 q1 q2 q3 q4 q5
              go_wp2_with fail
              go_roundw
              case rel => exact ⟨k + 1, by omega, by go_num, lz, hgz⟩
              case measure => simp [intOf]; omega
            · have hrm : Int.tmod ((k : Int) + 1) 2 = 1 := tmod_odd hpar
              have n1 : noteL (lsT x y s0 r0 r1 0 15) 2 x y s0 r1 [((k : Int), sgn 2 x y s0 r1 (k : Int))] = (lsT x y s0 r0 r1 0 15, []) := by
                have := catch_same (x := x) (y := y) (s := s0) (r0 := r0) (r1 := r1) hk15 HR.out
                rwa [show rqp r0 r1 (k + 1) = r1 by unfold rqp; rw [hpar]; rfl] at this
              go_upto_region 15 with fail
              obtain ⟨w9, hw9⟩ : ∃ w9, w9 = wr.alloc (.cells #[.int .i64 r1.1, .int .i64 r1.2.1, .slice ao1 r1.2.2.1.length co1, .slice ap1 r1.2.2.2.length cp1] 31) := ⟨_, rfl⟩
              rw [← hw9]
              have b9 : Below wr.heap.size wr w9 := by rw [hw9]; exact below_alloc _ _
              have rx : Row w9 wr.heap.size 31 [.int .i64 r1.1, .int .i64 r1.2.1, .slice ao1 r1.2.2.1.length co1, .slice ap1 r1.2.2.2.length cp1] := by rw [hw9]; exact Row.new _ _ _
              obtain ⟨cX, hcX⟩ : ∃ c, c = wr.heap.size := ⟨_, rfl⟩
              rw [← hcX] at rx ⊢
              have hmrx : (some m : Option Nat) ≠ some cX := fun e => by have := Option.some.inj e; have := lr.lt.2; omega
              clear hw9 hcX k0 k1 k2 k3 k4 k5 k6 k7
              have l9 := lr.below b9
              have ra := ra.below b9
              have hT9 := hTr.below b9
              have t9 := t1.mv (Mv.belowG b9)
              have u9 := u1.mv (Mv.belowG b9)
              have SK9 := (show Hid (∀ u, w9.grownBy u (some m) → u.cell? ⟨cB, 0, none⟩ = some (.int .i64 x) ∧ u.cell? ⟨cB, 1, none⟩ = some (.int .i64 y) ∧ u.cell? ⟨cX, 0, none⟩ = some (.int .i64 r1.1) ∧ u.cell? ⟨cX, 1, none⟩ = some (.int .i64 r1.2.1) ∧ u.cell? ⟨cX, 2, none⟩ = some (.slice ao1 r1.2.2.1.length co1) ∧ u.cell? ⟨cX, 3, none⟩ = some (.slice ap1 r1.2.2.2.length cp1)) from fun u hu => ⟨(ra.grown hu hmra).cell (j := 0) rfl, (ra.grown hu hmra).cell (j := 1) rfl, (rx.grown hu hmrx).cell (j := 0) rfl, (rx.grown hu hmrx).cell (j := 1) rfl, (rx.grown hu hmrx).cell (j := 2) rfl, (rx.grown hu hmrx).cell (j := 3) rfl⟩)
              obtain ⟨q0, q1, q2, q3, q4, q5⟩ := SK9.out w9 (grown_of_below (Below.refl _ _) _)
              have hd9 := below_drew w9
              have gd9 : w9.grownBy w9.drew (some m) := grown_of_below hd9 _
              have HCP9 := (show Hid (∀ _ : Unit, _) from fun _ => copyQ_any w9.drew _ _ r1 ((t9.mv (Mv.belowG hd9)).mv Mv.any) ((u9.mv (Mv.belowG hd9)).mv Mv.any) z1)
              go_wp2_with fail
              go_region_held3 (fun u => u.cell? ⟨cB, 0, none⟩ = some (.int .i64 x) ∧ u.cell? ⟨cB, 1, none⟩ = some (.int .i64 y) ∧ u.cell? ⟨cX, 0, none⟩ = some (.int .i64 r1.1) ∧ u.cell? ⟨cX, 1, none⟩ = some (.int .i64 r1.2.1) ∧ u.cell? ⟨cX, 2, none⟩ = some (.slice ao1 r1.2.2.1.length co1) ∧ u.cell? ⟨cX, 3, none⟩ = some (.slice ap1 r1.2.2.2.length cp1))
                (first | exact SK9.out _ gx9 | exact SK9.out _ gb9 | exact SK9.out _ ga9 | exact SK9.out _ gc9 | exact SK9.out _ gd9 | go_keep)
                (first
                  | (go_at_call 12; refine hN9.mono ?_; rintro e wx9 ⟨vx9, rfl, ex9, lx9, gx'9⟩; have gx9 : w9.grownBy wx9 (some m) := grown_trans ga9 gx'9 (.inl rfl); obtain ⟨ax9, cx9, rfl, _⟩ := ex9.form)
                  | (go_at_call 18; refine (made_any wc9 x y s0 (k : Int) _ r1 ⟨_, _, rfl, (t9.mv (Mv.belowG bc9)).mv Mv.any, (u9.mv (Mv.belowG bc9)).mv Mv.any⟩ z1 (hT9.below bc9)).mono ?_; rintro e wa9 ⟨va9, rfl, fa9, ba9⟩; obtain ⟨aa9, ca9, rfl, _⟩ := fa9.form; have bb9 : Below w9.heap.size w9 wa9 := below_and bc9 (Nat.le_refl _) ba9; have ga9 : w9.grownBy wa9 (some m) := grown_of_below bb9 _; have gb9 : w9.grownBy (wa9.alloc (.cells #[.int .i64 (k : Int), .slice aa9 (sgn 2 x y s0 r1 (k : Int)).length ca9] 53)) (some m) := grown_trans ga9 (grown_of_below (below_alloc _ _) _) (.inl rfl); have hN9 := note1_any wa9 b m _ (l9.below bb9) 2 x y s0 (k : Int) _ r1 (mov_req _ _ _ _ _ _ qc9 ba9.size (fun k hk hlt => ⟨ba9.block k hlt, by have := l9.lt.2; unfold From at hk; unfold NM; have : w9.drew.heap.size = w9.heap.size := rfl; omega⟩)) z1 _ _ (fa9.mv (toNM (l9.below bc9).lt.2)) (sgn_sz _ _ _ _ _ _) (hT9.below bb9); rw [n1] at hN9)
                  | (go_at_call 13; refine (HCP9.out ()).mono ?_; rintro e wc9 ⟨ae9, ce9, af9, cf9, rfl, qc9, bc'9⟩; have bc9 : Below w9.heap.size w9 wc9 := hd9.trans bc'9; have gc9 : w9.grownBy wc9 (some m) := grown_of_below bc9 _))
              have hgx := grown_trans hg (grown_trans (grown_of_below b9 _) gx9 (.inl rfl)) (.inl rfl)
              clear HCP9 hN9 q0 q1 q2 q3 q4 q5 n1
              obtain ⟨q0, q1, q2, q3, q4, q5⟩ := SK9.out wx9 gx9
              clear SK9
              go_upto_region 16 with fail
              try go_simp
              go_big_quiet (fail)
              have hdn : Below wx9.heap.size wx9 (wx9.drewN nq) := bel_dn (Below.refl _ _) nq
              have lz := lx9.below hdn
              have hgz := grown_trans hgx (grown_of_below hdn _) (.inl rfl)
              clear q0 q1 q2 q3 q4 q5
              go_wp2_with fail
              go_roundw
              case rel => exact ⟨k + 1, by omega, by go_num, lz, hgz⟩
              case measure => simp [intOf]; omega
          · obtain rfl : k = 15 := by omega
            have HLN := lenG_any wr b m _ lr
            rw [show ((lsT x y s0 r0 r1 0 15).length : Int) = 15 by rw [lsT_len]; rfl] at HLN
            go_wp2_with (go_at_call 17; refine HLN.mono ?_; rintro e wr ⟨rfl, rfl⟩)
            go_ret
            exact ⟨rfl, BWr⟩
      · rw [decide_eq_false hr] at HSR
        have hnb : ¬ body r0 = body r1 := fun e => hr (hbd e)
        have HR := (show Hid (_) from hr)
        clear hbd hr
        go_upto_region 11 with (go_at_call 19; refine HSR.mono ?_; rintro e w8 ⟨rfl, b8⟩)
        have l8 := lr.below b8
        have ra := ra.below b8
        have rc := rc.below b8
        have hT8 := hTr.below b8
        have BW8 := below_and BWr (Nat.le_refl _) b8
        have t0 := t0.mv (Mv.belowG b8)
        have u0 := u0.mv (Mv.belowG b8)
        have t1 := t1.mv (Mv.belowG b8)
        have u1 := u1.mv (Mv.belowG b8)
        have hml8 := l8.lt
        clear HSR k0 k1 k2 k3 k4 k5 k6 k7 lr hTr BWr b8
        go_wp2_with fail
        go_loopw [11] (fun i wr => ∃ k : Nat, k ≤ 15 ∧ i = .int .i64 k ∧ Lg (NM m) wr b m (lsT x y s0 r0 r1 k 15) ∧ w8.grownBy wr (some m)) (fun i _ => 15 - (intOf i).toNat)
        case atStart => exact ⟨0, by omega, rfl, l8, grown_of_below (Below.refl _ _) _⟩
        case round =>
          obtain ⟨k, hk, rfl, lr, hg⟩ := hrel
          have hmv : Mv (NM m) (NM m) w8 wr := Mv.nm (fun k hk => hk) hg
          have t0 := t0.mv hmv
          have u0 := u0.mv hmv
          have t1 := t1.mv hmv
          have u1 := u1.mv hmv
          have ra := ra.grown hg hmra
          have rc := rc.grown hg hmrc
          have hTr := hT8.grown hg (by intro e; exact l8.ntab hT8 e)
          have BWr := BW8.trans (grown_below hg (Nat.le_trans hm5 (Nat.le_of_lt hml8.2)) (fun q hq => by have := Option.some.inj hq; omega))
          have k0 := rc.cell (j := 0) rfl
          have k1 := rc.cell (j := 1) rfl
          have k2 := rc.cell (j := 2) rfl
          have k3 := rc.cell (j := 3) rfl
          have k4 := rc.cell (j := 4) rfl
          have k5 := rc.cell (j := 5) rfl
          have k6 := rc.cell (j := 6) rfl
          have k7 := rc.cell (j := 7) rfl
          clear hmv l8 BW8 hT8
          by_cases hk15 : k < 15
          · rcases Nat.mod_two_eq_zero_or_one (k + 1) with hpar | hpar
            · have hrm : Int.tmod ((k : Int) + 1) 2 = 0 := tmod_even hpar
              have n1 : noteL (lsT x y s0 r0 r1 k 15) 2 x y s0 r0 [((k : Int), sgn 2 x y s0 r0 (k : Int))] = (lsT x y s0 r0 r1 (k + 1) 15, [evL (2, x, y, s0, (k : Int)) (rqp r0 r1 k) (sgn 2 x y s0 (rqp r0 r1 k) (k : Int)) r0 (sgn 2 x y s0 r0 (k : Int))]) := by
                have := catch_2 (x := x) (y := y) (s := s0) (r0 := r0) (r1 := r1) hk15 hnb
                rwa [show rqp r0 r1 (k + 1) = r0 by unfold rqp; rw [hpar]; rfl] at this
              go_upto_region 15 with fail
              obtain ⟨w9, hw9⟩ : ∃ w9, w9 = wr.alloc (.cells #[.int .i64 r0.1, .int .i64 r0.2.1, .slice ao0 r0.2.2.1.length co0, .slice ap0 r0.2.2.2.length cp0] 31) := ⟨_, rfl⟩
              rw [← hw9]
              have b9 : Below wr.heap.size wr w9 := by rw [hw9]; exact below_alloc _ _
              have rx : Row w9 wr.heap.size 31 [.int .i64 r0.1, .int .i64 r0.2.1, .slice ao0 r0.2.2.1.length co0, .slice ap0 r0.2.2.2.length cp0] := by rw [hw9]; exact Row.new _ _ _
              obtain ⟨cX, hcX⟩ : ∃ c, c = wr.heap.size := ⟨_, rfl⟩
              rw [← hcX] at rx ⊢
              have hmrx : (some m : Option Nat) ≠ some cX := fun e => by have := Option.some.inj e; have := lr.lt.2; omega
              clear hw9 hcX k0 k1 k2 k3 k4 k5 k6 k7
              have l9 := lr.below b9
              have ra := ra.below b9
              have hT9 := hTr.below b9
              have t9 := t0.mv (Mv.belowG b9)
              have u9 := u0.mv (Mv.belowG b9)
              have SK9 := (show Hid (∀ u, w9.grownBy u (some m) → u.cell? ⟨cB, 0, none⟩ = some (.int .i64 x) ∧ u.cell? ⟨cB, 1, none⟩ = some (.int .i64 y) ∧ u.cell? ⟨cX, 0, none⟩ = some (.int .i64 r0.1) ∧ u.cell? ⟨cX, 1, none⟩ = some (.int .i64 r0.2.1) ∧ u.cell? ⟨cX, 2, none⟩ = some (.slice ao0 r0.2.2.1.length co0) ∧ u.cell? ⟨cX, 3, none⟩ = some (.slice ap0 r0.2.2.2.length cp0)) from fun u hu => ⟨(ra.grown hu hmra).cell (j := 0) rfl, (ra.grown hu hmra).cell (j := 1) rfl, (rx.grown hu hmrx).cell (j := 0) rfl, (rx.grown hu hmrx).cell (j := 1) rfl, (rx.grown hu hmrx).cell (j := 2) rfl, (rx.grown hu hmrx).cell (j := 3) rfl⟩)
              obtain ⟨q0, q1, q2, q3, q4, q5⟩ := SK9.out w9 (grown_of_below (Below.refl _ _) _)
              have hd9 := below_drew w9
              have gd9 : w9.grownBy w9.drew (some m) := grown_of_below hd9 _
              have HCP9 := (show Hid (∀ _ : Unit, _) from fun _ => copyQ_any w9.drew _ _ r0 ((t9.mv (Mv.belowG hd9)).mv Mv.any) ((u9.mv (Mv.belowG hd9)).mv Mv.any) z0)
              go_wp2_with fail
              go_region_held3 (fun u => u.cell? ⟨cB, 0, none⟩ = some (.int .i64 x) ∧ u.cell? ⟨cB, 1, none⟩ = some (.int .i64 y) ∧ u.cell? ⟨cX, 0, none⟩ = some (.int .i64 r0.1) ∧ u.cell? ⟨cX, 1, none⟩ = some (.int .i64 r0.2.1) ∧ u.cell? ⟨cX, 2, none⟩ = some (.slice ao0 r0.2.2.1.length co0) ∧ u.cell? ⟨cX, 3, none⟩ = some (.slice ap0 r0.2.2.2.length cp0))
                (first | exact SK9.out _ gx9 | exact SK9.out _ gb9 | exact SK9.out _ ga9 | exact SK9.out _ gc9 | exact SK9.out _ gd9 | go_keep)
                (first
                  | (go_at_call 12; refine hN9.mono ?_; rintro e wx9 ⟨vx9, rfl, ex9, lx9, gx'9⟩; have gx9 : w9.grownBy wx9 (some m) := grown_trans ga9 gx'9 (.inl rfl); obtain ⟨ax9, cx9, rfl, _⟩ := ex9.form)
                  | (go_at_call 18; refine (made_any wc9 x y s0 (k : Int) _ r0 ⟨_, _, rfl, (t9.mv (Mv.belowG bc9)).mv Mv.any, (u9.mv (Mv.belowG bc9)).mv Mv.any⟩ z0 (hT9.below bc9)).mono ?_; rintro e wa9 ⟨va9, rfl, fa9, ba9⟩; obtain ⟨aa9, ca9, rfl, _⟩ := fa9.form; have bb9 : Below w9.heap.size w9 wa9 := below_and bc9 (Nat.le_refl _) ba9; have ga9 : w9.grownBy wa9 (some m) := grown_of_below bb9 _; have gb9 : w9.grownBy (wa9.alloc (.cells #[.int .i64 (k : Int), .slice aa9 (sgn 2 x y s0 r0 (k : Int)).length ca9] 53)) (some m) := grown_trans ga9 (grown_of_below (below_alloc _ _) _) (.inl rfl); have hN9 := note1_any wa9 b m _ (l9.below bb9) 2 x y s0 (k : Int) _ r0 (mov_req _ _ _ _ _ _ qc9 ba9.size (fun k hk hlt => ⟨ba9.block k hlt, by have := l9.lt.2; unfold From at hk; unfold NM; have : w9.drew.heap.size = w9.heap.size := rfl; omega⟩)) z0 _ _ (fa9.mv (toNM (l9.below bc9).lt.2)) (sgn_sz _ _ _ _ _ _) (hT9.below bb9); rw [n1] at hN9)
                  | (go_at_call 13; refine (HCP9.out ()).mono ?_; rintro e wc9 ⟨ae9, ce9, af9, cf9, rfl, qc9, bc'9⟩; have bc9 : Below w9.heap.size w9 wc9 := hd9.trans bc'9; have gc9 : w9.grownBy wc9 (some m) := grown_of_below bc9 _))
              have hgx := grown_trans hg (grown_trans (grown_of_below b9 _) gx9 (.inl rfl)) (.inl rfl)
              clear HCP9 hN9 q0 q1 q2 q3 q4 q5 n1
              obtain ⟨yb, yo, yc, hye, _, _, hyg, hyl, hya⟩ := ex9.at (by simp)
              injection hye with hya1 hya2 hya3
              subst hya1 hya3
              clear hya2
              obtain ⟨ry, _, hrng, sy, rfl, hsy⟩ := hya 0 _ rfl
              have hfr := ev_frm (2, x, y, s0, (k : Int)) (rqp r0 r1 k) (sgn 2 x y s0 (rqp r0 r1 k) (k : Int)) r0 (sgn 2 x y s0 r0 (k : Int))
              have y1 := hrng 1 (.int .i64 x) (by rw [show (Value.int .i64 x) = .int .i64 (evL (2, x, y, s0, (k : Int)) (rqp r0 r1 k) (sgn 2 x y s0 (rqp r0 r1 k) (k : Int)) r0 (sgn 2 x y s0 r0 (k : Int))).bal.1 by rw [hfr.2.2.2]]; rfl)
              have y2 := hrng 2 (.int .i64 y) (by rw [show (Value.int .i64 y) = .int .i64 (evL (2, x, y, s0, (k : Int)) (rqp r0 r1 k) (sgn 2 x y s0 (rqp r0 r1 k) (k : Int)) r0 (sgn 2 x y s0 r0 (k : Int))).bal.2 by rw [hfr.2.2.2]]; rfl)
              have y3 := hrng 3 (.int .i64 s0) (by rw [show (Value.int .i64 s0) = .int .i64 (evL (2, x, y, s0, (k : Int)) (rqp r0 r1 k) (sgn 2 x y s0 (rqp r0 r1 k) (k : Int)) r0 (sgn 2 x y s0 r0 (k : Int))).slot by rw [hfr.2.2.1]]; rfl)
              have y4 := hrng 4 (.int .i64 (k : Int)) (by rw [show (Value.int .i64 (k : Int)) = .int .i64 (evL (2, x, y, s0, (k : Int)) (rqp r0 r1 k) (sgn 2 x y s0 (rqp r0 r1 k) (k : Int)) r0 (sgn 2 x y s0 r0 (k : Int))).frm by rw [hfr.1]]; rfl)
              have y6 := hrng 6 (.int .i64 2) (by rw [show (Value.int .i64 2) = .int .i64 (evL (2, x, y, s0, (k : Int)) (rqp r0 r1 k) (sgn 2 x y s0 (rqp r0 r1 k) (k : Int)) r0 (sgn 2 x y s0 r0 (k : Int))).idx by rw [hfr.2.1]]; rfl)
              clear hrng hya hfr hsy
              obtain ⟨q0, q1, q2, q3, q4, q5⟩ := SK9.out wx9 gx9
              clear SK9
              go_upto_region 16 with fail
              try go_simp
              go_big_quiet (fail)
              have hdn : Below wx9.heap.size wx9 (wx9.drewN nq) := bel_dn (Below.refl _ _) nq
              have lz := lx9.below hdn
              have hgz := grown_trans hgx (grown_of_below hdn _) (.inl rfl)
              clear q0 q1 q2 q3 q4 q5
              go_wp2_with fail
              go_roundw
              case rel => exact ⟨k + 1, by omega, by go_num, lz, hgz⟩
              case measure => simp [intOf]; omega
            · have hrm : Int.tmod ((k : Int) + 1) 2 = 1 := tmod_odd hpar
              have n1 : noteL (lsT x y s0 r0 r1 k 15) 2 x y s0 r1 [((k : Int), sgn 2 x y s0 r1 (k : Int))] = (lsT x y s0 r0 r1 (k + 1) 15, [evL (2, x, y, s0, (k : Int)) (rqp r0 r1 k) (sgn 2 x y s0 (rqp r0 r1 k) (k : Int)) r1 (sgn 2 x y s0 r1 (k : Int))]) := by
                have := catch_2 (x := x) (y := y) (s := s0) (r0 := r0) (r1 := r1) hk15 hnb
                rwa [show rqp r0 r1 (k + 1) = r1 by unfold rqp; rw [hpar]; rfl] at this
              go_upto_region 15 with fail
              obtain ⟨w9, hw9⟩ : ∃ w9, w9 = wr.alloc (.cells #[.int .i64 r1.1, .int .i64 r1.2.1, .slice ao1 r1.2.2.1.length co1, .slice ap1 r1.2.2.2.length cp1] 31) := ⟨_, rfl⟩
              rw [← hw9]
              have b9 : Below wr.heap.size wr w9 := by rw [hw9]; exact below_alloc _ _
              have rx : Row w9 wr.heap.size 31 [.int .i64 r1.1, .int .i64 r1.2.1, .slice ao1 r1.2.2.1.length co1, .slice ap1 r1.2.2.2.length cp1] := by rw [hw9]; exact Row.new _ _ _
              obtain ⟨cX, hcX⟩ : ∃ c, c = wr.heap.size := ⟨_, rfl⟩
              rw [← hcX] at rx ⊢
              have hmrx : (some m : Option Nat) ≠ some cX := fun e => by have := Option.some.inj e; have := lr.lt.2; omega
              clear hw9 hcX k0 k1 k2 k3 k4 k5 k6 k7
              have l9 := lr.below b9
              have ra := ra.below b9
              have hT9 := hTr.below b9
              have t9 := t1.mv (Mv.belowG b9)
              have u9 := u1.mv (Mv.belowG b9)
              have SK9 := (show Hid (∀ u, w9.grownBy u (some m) → u.cell? ⟨cB, 0, none⟩ = some (.int .i64 x) ∧ u.cell? ⟨cB, 1, none⟩ = some (.int .i64 y) ∧ u.cell? ⟨cX, 0, none⟩ = some (.int .i64 r1.1) ∧ u.cell? ⟨cX, 1, none⟩ = some (.int .i64 r1.2.1) ∧ u.cell? ⟨cX, 2, none⟩ = some (.slice ao1 r1.2.2.1.length co1) ∧ u.cell? ⟨cX, 3, none⟩ = some (.slice ap1 r1.2.2.2.length cp1)) from fun u hu => ⟨(ra.grown hu hmra).cell (j := 0) rfl, (ra.grown hu hmra).cell (j := 1) rfl, (rx.grown hu hmrx).cell (j := 0) rfl, (rx.grown hu hmrx).cell (j := 1) rfl, (rx.grown hu hmrx).cell (j := 2) rfl, (rx.grown hu hmrx).cell (j := 3) rfl⟩)
              obtain ⟨q0, q1, q2, q3, q4, q5⟩ := SK9.out w9 (grown_of_below (Below.refl _ _) _)
              have hd9 := below_drew w9
              have gd9 : w9.grownBy w9.drew (some m) := grown_of_below hd9 _
              have HCP9 := (show Hid (∀ _ : Unit, _) from fun _ => copyQ_any w9.drew _ _ r1 ((t9.mv (Mv.belowG hd9)).mv Mv.any) ((u9.mv (Mv.belowG hd9)).mv Mv.any) z1)
              go_wp2_with fail
              go_region_held3 (fun u => u.cell? ⟨cB, 0, none⟩ = some (.int .i64 x) ∧ u.cell? ⟨cB, 1, none⟩ = some (.int .i64 y) ∧ u.cell? ⟨cX, 0, none⟩ = some (.int .i64 r1.1) ∧ u.cell? ⟨cX, 1, none⟩ = some (.int .i64 r1.2.1) ∧ u.cell? ⟨cX, 2, none⟩ = some (.slice ao1 r1.2.2.1.length co1) ∧ u.cell? ⟨cX, 3, none⟩ = some (.slice ap1 r1.2.2.2.length cp1))
                (first | exact SK9.out _ gx9 | exact SK9.out _ gb9 | exact SK9.out _ ga9 | exact SK9.out _ gc9 | exact SK9.out _ gd9 | go_keep)
                (first
                  | (go_at_call 12; refine hN9.mono ?_; rintro e wx9 ⟨vx9, rfl, ex9, lx9, gx'9⟩; have gx9 : w9.grownBy wx9 (some m) := grown_trans ga9 gx'9 (.inl rfl); obtain ⟨ax9, cx9, rfl, _⟩ := ex9.form)
                  | (go_at_call 18; refine (made_any wc9 x y s0 (k : Int) _ r1 ⟨_, _, rfl, (t9.mv (Mv.belowG bc9)).mv Mv.any, (u9.mv (Mv.belowG bc9)).mv Mv.any⟩ z1 (hT9.below bc9)).mono ?_; rintro e wa9 ⟨va9, rfl, fa9, ba9⟩; obtain ⟨aa9, ca9, rfl, _⟩ := fa9.form; have bb9 : Below w9.heap.size w9 wa9 := below_and bc9 (Nat.le_refl _) ba9; have ga9 : w9.grownBy wa9 (some m) := grown_of_below bb9 _; have gb9 : w9.grownBy (wa9.alloc (.cells #[.int .i64 (k : Int), .slice aa9 (sgn 2 x y s0 r1 (k : Int)).length ca9] 53)) (some m) := grown_trans ga9 (grown_of_below (below_alloc _ _) _) (.inl rfl); have hN9 := note1_any wa9 b m _ (l9.below bb9) 2 x y s0 (k : Int) _ r1 (mov_req _ _ _ _ _ _ qc9 ba9.size (fun k hk hlt => ⟨ba9.block k hlt, by have := l9.lt.2; unfold From at hk; unfold NM; have : w9.drew.heap.size = w9.heap.size := rfl; omega⟩)) z1 _ _ (fa9.mv (toNM (l9.below bc9).lt.2)) (sgn_sz _ _ _ _ _ _) (hT9.below bb9); rw [n1] at hN9)
                  | (go_at_call 13; refine (HCP9.out ()).mono ?_; rintro e wc9 ⟨ae9, ce9, af9, cf9, rfl, qc9, bc'9⟩; have bc9 : Below w9.heap.size w9 wc9 := hd9.trans bc'9; have gc9 : w9.grownBy wc9 (some m) := grown_of_below bc9 _))
              have hgx := grown_trans hg (grown_trans (grown_of_below b9 _) gx9 (.inl rfl)) (.inl rfl)
              clear HCP9 hN9 q0 q1 q2 q3 q4 q5 n1
              obtain ⟨yb, yo, yc, hye, _, _, hyg, hyl, hya⟩ := ex9.at (by simp)
              injection hye with hya1 hya2 hya3
              subst hya1 hya3
              clear hya2
              obtain ⟨ry, _, hrng, sy, rfl, hsy⟩ := hya 0 _ rfl
              have hfr := ev_frm (2, x, y, s0, (k : Int)) (rqp r0 r1 k) (sgn 2 x y s0 (rqp r0 r1 k) (k : Int)) r1 (sgn 2 x y s0 r1 (k : Int))
              have y1 := hrng 1 (.int .i64 x) (by rw [show (Value.int .i64 x) = .int .i64 (evL (2, x, y, s0, (k : Int)) (rqp r0 r1 k) (sgn 2 x y s0 (rqp r0 r1 k) (k : Int)) r1 (sgn 2 x y s0 r1 (k : Int))).bal.1 by rw [hfr.2.2.2]]; rfl)
              have y2 := hrng 2 (.int .i64 y) (by rw [show (Value.int .i64 y) = .int .i64 (evL (2, x, y, s0, (k : Int)) (rqp r0 r1 k) (sgn 2 x y s0 (rqp r0 r1 k) (k : Int)) r1 (sgn 2 x y s0 r1 (k : Int))).bal.2 by rw [hfr.2.2.2]]; rfl)
              have y3 := hrng 3 (.int .i64 s0) (by rw [show (Value.int .i64 s0) = .int .i64 (evL (2, x, y, s0, (k : Int)) (rqp r0 r1 k) (sgn 2 x y s0 (rqp r0 r1 k) (k : Int)) r1 (sgn 2 x y s0 r1 (k : Int))).slot by rw [hfr.2.2.1]]; rfl)
              have y4 := hrng 4 (.int .i64 (k : Int)) (by rw [show (Value.int .i64 (k : Int)) = .int .i64 (evL (2, x, y, s0, (k : Int)) (rqp r0 r1 k) (sgn 2 x y s0 (rqp r0 r1 k) (k : Int)) r1 (sgn 2 x y s0 r1 (k : Int))).frm by rw [hfr.1]]; rfl)
              have y6 := hrng 6 (.int .i64 2) (by rw [show (Value.int .i64 2) = .int .i64 (evL (2, x, y, s0, (k : Int)) (rqp r0 r1 k) (sgn 2 x y s0 (rqp r0 r1 k) (k : Int)) r1 (sgn 2 x y s0 r1 (k : Int))).idx by rw [hfr.2.1]]; rfl)
              clear hrng hya hfr hsy
              obtain ⟨q0, q1, q2, q3, q4, q5⟩ := SK9.out wx9 gx9
              clear SK9
              go_upto_region 16 with fail
              try go_simp
              go_big_quiet (fail)
              have hdn : Below wx9.heap.size wx9 (wx9.drewN nq) := bel_dn (Below.refl _ _) nq
              have lz := lx9.below hdn
              have hgz := grown_trans hgx (grown_of_below hdn _) (.inl rfl)
              clear q0 q1 q2 q3 q4 q5
              go_wp2_with fail
              go_roundw
              case rel => exact ⟨k + 1, by omega, by go_num, lz, hgz⟩
              case measure => simp [intOf]; omega
          · obtain rfl : k = 15 := by omega
            have HLN := lenG_any wr b m _ lr
            rw [show ((lsT x y s0 r0 r1 15 15).length : Int) = 15 by rw [lsT_len]; rfl] at HLN
            go_wp2_with (go_at_call 17; refine HLN.mono ?_; rintro e wr ⟨rfl, rfl⟩)
            go_ret
            exact ⟨rfl, BWr⟩
end Go.Proofs.YtajmgpgjkalfkaaDoor
end

section
namespace Go.Proofs.YtajmgpgjkalfkaaDoor
open Go.ChangeShapes Go.WideShapes Go.ChangeAt Go.RowKit

theorem ledgerCatches_own : ownKnob Tryd.prog.godebug = none := by kernel_rfl
theorem ledgerCatches_laidOut : laidOutB Tryd.prog = true := by kernel_rfl
theorem ledgerCatches_cells5 : Tryd.prog.cellsOf 5 = 1 := by kernel_rfl

set_option maxRecDepth 100000 in
theorem ledgerCatches_contract (H : Type) (enc : TypeId × Value → H) (W : World) (base : Nat) (args : Array Value) (ds gs : List (DataW H)) (before : List MemPlace)
    (hval : ∀ (j : Nat) t v, Tryd.f5.params[j]? = some t → args[j]? = some v → Value.okWide Tryd.prog W .any base t v)
    (hW : DataW.Whole enc Tryd.prog Tryd.f5.params.toList Rows.ledgerCatchesSpec.vars false W args.toList ds gs before) (hk : Rows.uptoSmall H (ds ++ gs) = true)
    (hT : Tab W) :
    Calls Tryd.prog 5 args W fun e W' => ∃ v, e = .returned v ∧ Rows.ledgerCatchesSpec.post enc Tryd.prog Tryd.f5 false true false false W args v W' := by
  have hW' := hW
  obtain ⟨p, q, hA0, hV, rfl, hfz, hnd⟩ := hW
  have hA : DataW.TrodAll enc Tryd.prog W 0 (fun _ => true) true Tryd.f5.params.toList args.toList ds p := hA0
  rw [Tryd.params5] at hA hval
  obtain ⟨v0, vs0, d0, ds0, p0, q0, hargs, rfl, rfl, h0, r0⟩ := trodAll_cons hA
  obtain ⟨v1, vs1, d1, ds1, p1, q1, rfl, rfl, rfl, h1, r1⟩ := trodAll_cons r0
  obtain ⟨v2, vs2, d2, ds2, p2, q2, rfl, rfl, rfl, h2, r2⟩ := trodAll_cons r1
  obtain ⟨rfl, rfl, rfl⟩ := trodAll_nil r2
  obtain rfl : args = #[v0, v1, v2] := by cases args; simp_all
  obtain ⟨rfl, rfl⟩ := trodVars_none hV
  simp only [List.append_nil] at hk
  have lt0 : ∀ x ∈ p0, x.block < W.heap.size := by obtain ⟨m, hm⟩ := h0; exact DataW.trod_lt m _ _ _ hm
  obtain ⟨a0, b0, rfl⟩ := open_ballL (hval 0 28 v0 rfl rfl) h0
  obtain ⟨a1, rfl, rfl, rfl, w1⟩ := open_int Tryd.underlying3 (hval 1 3 v1 rfl rfl) h1
  have lt2 : ∀ x ∈ p2, x.block < W.heap.size := by obtain ⟨m, hm⟩ := h2; exact DataW.trod_lt m _ _ _ hm
  obtain ⟨o2, q20, o21, q21, x2, y2, rfl, ra2, rb2, rc2, rd2, hb2, wa2, wb2⟩ := open_reqs2 (hval 2 51 v2 rfl rfl) h2
  have hlen2 := Nat.le_trans hb2 (Nat.le_trans (bulk_part (by simp)) (bulk_all hk))
  clear hb2
  clear hA0
  refine (catchesLg_any W a0 b0 a1 _ _ _ _ x2 y2 ra2 rb2 rc2 rd2 (tot_of (n := bQ x2 + bQ y2) (by omega) hlen2) (tot_of (n := bQ x2 + bQ y2) (by omega) hlen2) (body_in (Nat.le_refl _) hlen2 wa2 wb2) hT).mono fun e W' ⟨he, bel⟩ => ?_
  subst he
  exact ⟨_, rfl, _, _, _, [], _, [], hW', trodAll_mk1 (shut_bool Tryd.underlying4 _), (trodAll_cons_mk (Below.trod ledgerCatches_laidOut (by kernel_rfl) (of_decide_eq_true (by kernel_rfl)) h0 bel lt0) (trodAll_cons_mk (shut_int Tryd.underlying3 w1) (trodAll_cons_mk (Below.trod ledgerCatches_laidOut (by kernel_rfl) (of_decide_eq_true (by kernel_rfl)) h2 bel lt2) trodAll_mk0))), rfl, bel.frame _, fun h => by cases h⟩

theorem ledgerCatches_met (os : Os) : laidMet Tryd.prog Rows.ledgerCatchesUptoRow.laid ((laidWorld os).forCall (fun _ _ => 0) ⟨#[], #[.agg #[.int .i64 0, .int .i64 0], .int .i64 0, .agg #[.int .i64 0, .int .i64 0, .slice none 0 0, .slice none 0 0, .int .i64 0, .int .i64 0, .slice none 0 0, .slice none 0 0]], []⟩).memory :=
  laidMet_of_run' 8 (by kernel_rfl) (by kernel_rfl)
theorem ledgerCatches_reads (os : Os) {H : Type} (enc : TypeId × Value → H) : ∃ places, DataW.whole enc Tryd.prog ((laidWorld os).forCall (fun _ _ => 0) ⟨#[], #[.agg #[.int .i64 0, .int .i64 0], .int .i64 0, .agg #[.int .i64 0, .int .i64 0, .slice none 0 0, .slice none 0 0, .int .i64 0, .int .i64 0, .slice none 0 0, .slice none 0 0]], []⟩).memory Tryd.f5.params.toList Rows.ledgerCatchesSpec.vars false (#[.agg #[.int .i64 0, .int .i64 0], .int .i64 0, .agg #[.int .i64 0, .int .i64 0, .slice none 0 0, .slice none 0 0, .int .i64 0, .int .i64 0, .slice none 0 0, .slice none 0 0]] : Array Value).toList 8 = some ([.agg [.lit (.int .i64 0), .lit (.int .i64 0)], .lit (.int .i64 0), .agg [.agg [.lit (.int .i64 0), .lit (.int .i64 0), .nil, .nil], .agg [.lit (.int .i64 0), .lit (.int .i64 0), .nil, .nil]]], [], places) :=
  ⟨[], by kernel_rfl⟩
set_option maxRecDepth 100000 in
theorem ledgerCatches_lifted (os : Os) (started : os.Started) (H : Type) (enc : TypeId × Value → H) (F : Stop.Interp) :
    ReturnsInHanded {} Tryd.checked os 5 .any ((Rows.OpenSpec.upto Rows.ledgerCatchesSpec).preRow enc Tryd.prog Tryd.f5 Rows.ledgerCatchesUptoRow.domain false Rows.ledgerCatchesUptoRow.laid) (((Rows.OpenSpec.upto Rows.ledgerCatchesSpec).at F).post enc Tryd.prog Tryd.f5 false true false false) := by
  obtain ⟨places, hx⟩ := ledgerCatches_reads os enc
  refine returnsInHanded_of_row (C := Tryd.checked) (s := (Rows.OpenSpec.upto Rows.ledgerCatchesSpec)) ledgerCatches_own started (by kernel_rfl) Tryd.func5
    (witness_row_at (enc := enc) (C := Tryd.checked) false (laidWorld os) #[.agg #[.int .i64 0, .int .i64 0], .int .i64 0, .agg #[.int .i64 0, .int .i64 0, .slice none 0 0, .slice none 0 0, .int .i64 0, .int .i64 0, .slice none 0 0, .slice none 0 0]] rfl (by kernel_rfl) (by kernel_rfl) (by kernel_rfl)
      (OpenSpec.preRow_of_cond 8 hx (by kernel_rfl) (fun k hk => by cases hk; kernel_rfl) (by kernel_rfl) (ledgerCatches_met os))) ?_
  intro W base args ds gs before hval hW _ hcond hsz hL _ _
  exact ledgerCatches_contract H enc W base args ds gs before hval hW (hcond _ rfl) (tab_of hL)

theorem ledgerCatches_said : Rows.LedgerCatchesUptoSaid :=
  OpenClaim.holds_of_cond 5 Tryd.f5 rfl rfl rfl rfl rfl rfl rfl ⟨rfl, rfl, rfl, rfl, rfl⟩ rfl rfl rfl rfl rfl (by kernel_rfl) Tryd.func5 (by kernel_rfl)
    (of_decide_eq_true (by kernel_rfl)) (by unfold Func.isWrapper; first | (rw [if_pos (by decide +kernel)]; kernel_rfl) | (rw [if_neg (by decide +kernel)]; exact ⟨rfl, rfl⟩))
    (fun os started H enc _ F => by rw [OpenClaim.pre_eq_preRow]; exact ledgerCatches_lifted os started H enc F)
theorem ledgerCatches_plain (f : FuncId) (fn : Func) (hf : Tryd.pinned.checked.prog.funcNamed "catenary/catenarylaw15.LedgerCatches" = some f) (hfn : Tryd.pinned.checked.prog.funcs[f]? = some fn) :
    false = Tryd.pinned.checked.prog.looks [] ∧ ∀ (j : Nat) t, fn.params[j]? = some t → Tryd.pinned.checked.prog.wantsStandIn t = false := by
  obtain rfl : f = 5 := Option.some.inj ((show Tryd.prog.funcNamed "catenary/catenarylaw15.LedgerCatches" = some 5 by kernel_rfl).symm.trans hf) |>.symm
  obtain rfl : fn = Tryd.f5 := (Option.some.inj (Tryd.func5.symm.trans hfn)).symm
  refine ⟨by kernel_rfl, fun j t ht => ?_⟩
  rw [Tryd.params5] at ht
  have hm := Array.mem_of_getElem? ht
  simp only [List.mem_toArray, List.mem_cons, List.not_mem_nil, or_false] at hm
  rcases hm with rfl | rfl | rfl
  · exact (show Tryd.prog.wantsStandIn 28 = false by kernel_rfl)
  · exact (show Tryd.prog.wantsStandIn 3 = false by kernel_rfl)
  · exact (show Tryd.prog.wantsStandIn 51 = false by kernel_rfl)
theorem ledgerCatches_proved : Rows.LedgerCatchesUptoCardSaid :=
  Claim7.holds_tied_plain_at .later [] _ _ _ _ ledgerCatches_said (fun _ h => by cases h) (by kernel_rfl) (fun _ h => by cases h) ledgerCatchesUpto_row_tie rfl ⟨rfl, rfl⟩ (by kernel_rfl) rfl ledgerCatches_plain (by kernel_rfl)
#print axioms ledgerCatches_proved
end Go.Proofs.YtajmgpgjkalfkaaDoor
end
