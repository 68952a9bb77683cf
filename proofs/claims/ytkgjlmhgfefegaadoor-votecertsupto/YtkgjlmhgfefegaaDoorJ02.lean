/- catenaryref02: word, schedule, K. -/
import Derived.Test.YtkgjlmhgfefegaaDoorT2
import Derived.Test.YtkgjlmhgfefegaaDoorT4
import Derived.Test.YtkgjlmhgfefegaaDoorJ01
import Derived.Test.YtkgjlmhgfefegaaDoorV7
section
set_option linter.unusedVariables false
namespace Go.Proofs.YtkgjlmhgfefegaaDoor
open Go.RowKit Oct Sha Bal

/-- Votes whose signers rise, each below n and right. -/
def certW (R : PVote → Bool) (n : Int) : Int → List PVote → Bool
  | _, [] => true
  | p, v :: vs => decide (p < v.1) && decide (v.1 < n) && R v && certW R n v.1 vs
def rightV (k x y s : Int) (l : List Int) (v : PVote) : Bool := verL (repL v.1) v.2 (sL ⟨#[118, 111, 116, 101]⟩) [numsL [k, x, y, s], l]
def certL (R : PVote → Bool) (n : Int) (ys : List PVote) : Bool := rgt n && decide ((ys.length : Int) = quo n) && certW R n (-1) ys

set_option maxRecDepth 10000 in
set_option maxHeartbeats 4000000 in
theorem vCert_some (w : World) (k x y s : Int) (v : Value) (l : List Int) (n : Int) (bb off cap : Nat) (ys : List PVote) (hv : Rd w v l) (hl : l.length ≤ 3000000) (hyl : 0 < ys.length) (hc : ys.length ≤ cap) (hm : cap ≤ maxLen) (hbb : bb < w.heap.size)
    (hx : ∀ (i : Nat) (a : PVote), ys[i]? = some a → ∃ r, r.length = 2 ∧ w.rangeAt bb (off + i * 2) r ∧ RVote Any w r a) (hT : Tab w) (hr : rgt n = true) (hq : (ys.length : Int) = quo n) :
    Calls Tryd.prog 6 #[.int .i64 k, .agg #[.int .i64 x, .int .i64 y], .int .i64 s, v, .slice (some ⟨bb, off, none⟩) ys.length cap, .int .i64 n] w fun e w' => e = .returned (.bool (certW (rightV k x y s l) n (-1) ys)) ∧ Below w.heap.size w w' := by
  have le := Nat.le_refl w.heap.size
  obtain ⟨ao, ac, rfl, hac⟩ := hv.form
  have HX := (show Hid (∀ (i : Nat) (a : PVote), ys[i]? = some a → ∃ r, r.length = 2 ∧ w.rangeAt bb (off + i * 2) r ∧ RVote Any w r a) from hx)
  have hlm : (ys.length : Int) ≤ 9223372036854775807 := by unfold maxLen at hm; omega
  have HR := (show Hid (∀ u : World, Calls Tryd.prog 13 #[.int .i64 n] u fun e w' => e = .returned (.bool true) ∧ w' = u) from fun u => Bb.right_yes u n hr)
  have HQ := (show Hid (∀ u : World, Calls Tryd.prog 14 #[.int .i64 n] u fun e w' => e = .returned (.int .i64 (ys.length : Int)) ∧ w' = u) from fun u => hq ▸ Bb.quorum_any u n)
  clear hx hr hq
  obtain ⟨w0, hw0⟩ : ∃ w0, w0 = w.alloc (.cells #[.int .i64 x, .int .i64 y] 23) := ⟨_, rfl⟩
  have ra : Row w0 w.heap.size 23 [.int .i64 x, .int .i64 y] := by rw [hw0]; exact Row.new w 23 _
  have B0 : Below w.heap.size w w0 := by rw [hw0]; exact below_alloc _ _
  have hll : ((ys.length : Int) == (ys.length : Int)) = true := by simp
  go_enter Tryd.func6, Tryd.ntmps6
  go_wp2_with fail
  rw [← hw0]
  clear hw0
  refine (HR.out _).mono ?_
  rintro e w0 ⟨rfl, rfl⟩
  go_wp2_with fail
  refine (HQ.out _).mono ?_
  rintro e w0 ⟨rfl, rfl⟩
  go_wp2_with fail
  go_loopw [13, 28] (fun o i wr => ∃ (q : Nat) (p : Int), q ≤ ys.length ∧ o = .int .i64 p ∧ i = .int .i64 q ∧ Hid (certW (rightV k x y s l) n (-1) ys = certW (rightV k x y s l) n p (ys.drop q)) ∧ Below w0.heap.size w0 wr) (fun _ i _ => ys.length - (intOf i).toNat)
  case atStart => exact ⟨0, -1, by omega, rfl, rfl, by show _ = _; rw [List.drop_zero], Below.refl _ _⟩
  case round =>
    clear HR HQ hll
    obtain ⟨q, p, hq, rfl, rfl, HC, hbw⟩ := hrel
    have hB := below_and B0 le hbw
    by_cases hql : q < ys.length
    · obtain ⟨a, ha⟩ : ∃ a, ys[q]? = some a := ⟨_, List.getElem?_eq_getElem hql⟩
      obtain ⟨r, _, hrng, g, rfl, hg⟩ := HX.out q a ha
      have hrng := rangeAt_block hrng (hB.block bb hbb)
      have HD := (show Hid (certW (rightV k x y s l) n (-1) ys = (decide (p < a.1) && decide (a.1 < n) && rightV k x y s l a && certW (rightV k x y s l) n a.1 (ys.drop (q + 1)))) by
        show _ = _
        rw [HC.out, List.drop_eq_getElem_cons hql]
        obtain ⟨_, e⟩ := List.getElem?_eq_some_iff.1 ha
        rw [e]
        rfl)
      have hso := hg.one
      have hrow0 := Row.new wr 35 [.int .i64 0, .slice none 0 0]
      have hgw := (hg.mv (Mv.below hB)).1
      have hvw := hv.below hB
      have hTw := hT.below hB
      have rb := ra.below hbw
      clear ha HC hg
      obtain ⟨ag, gap, rfl, hgap⟩ := hgw.form
      have hle : (a.1 ≤ p) ∨ (p < a.1) := by omega
      have hge : (n ≤ a.1) ∨ (a.1 < n) := by omega
      rcases hle with h1 | h1
      · have HF := (show Hid (certW (rightV k x y s l) n (-1) ys = false) by show _ = _; rw [HD.out, decide_eq_false (by omega)]; rfl)
        go_wp2_with (first
          | (refine wpList_load_mid rfl _ _ rfl bb (off + q * 2) rfl [.int .i64 a.1, .slice ag a.2.length gap] _ hrng Tryd.underlying35 rfl (by kernel_rfl) ?_)
          | (refine wl_store rfl _ _ _ rfl wr.heap.size [.int .i64 a.1, .slice ag a.2.length gap] rfl rfl _ _ hrow0 rfl (by kernel_rfl) (one2 hso) ?_; intro w5 hr5 hg5; have c0 := hr5.out.cell (j := 0) rfl; have c1 := hr5.out.cell (j := 1) rfl; have hb5 : Below wr.heap.size wr w5 := (below_alloc wr (.cells ([.int .i64 0, .slice none 0 0] : List Value).toArray 35)).trans (grown_below hg5 (by simp) (fun k hk => by cases hk; exact Nat.le_refl _)); have d0 := (rb.below hb5).cell (j := 0) rfl; have d1 := (rb.below hb5).cell (j := 1) rfl))
        go_ret
        exact ⟨by rw [HF.out]; rfl, below_and hB le hb5⟩
      rcases hge with h2 | h2
      · have HF := (show Hid (certW (rightV k x y s l) n (-1) ys = false) by show _ = _; rw [HD.out, decide_eq_false (show ¬ a.1 < n by omega), Bool.and_false]; rfl)
        go_wp2_with (first
          | (refine wpList_load_mid rfl _ _ rfl bb (off + q * 2) rfl [.int .i64 a.1, .slice ag a.2.length gap] _ hrng Tryd.underlying35 rfl (by kernel_rfl) ?_)
          | (refine wl_store rfl _ _ _ rfl wr.heap.size [.int .i64 a.1, .slice ag a.2.length gap] rfl rfl _ _ hrow0 rfl (by kernel_rfl) (one2 hso) ?_; intro w5 hr5 hg5; have c0 := hr5.out.cell (j := 0) rfl; have c1 := hr5.out.cell (j := 1) rfl; have hb5 : Below wr.heap.size wr w5 := (below_alloc wr (.cells ([.int .i64 0, .slice none 0 0] : List Value).toArray 35)).trans (grown_below hg5 (by simp) (fun k hk => by cases hk; exact Nat.le_refl _)); have d0 := (rb.below hb5).cell (j := 0) rfl; have d1 := (rb.below hb5).cell (j := 1) rfl))
        go_ret
        exact ⟨by rw [HF.out]; rfl, below_and hB le hb5⟩
      have hV := fun u hu => vRight_any u k x y s a.1 _ l (hvw.below hu) hl _ a.2 (hgw.below hu) (hTw.below hu)
      have hD := HD.out
      rw [decide_eq_true h1, decide_eq_true h2, Bool.true_and, Bool.true_and] at hD
      cases hR : rightV k x y s l a
      · rw [hR, Bool.false_and] at hD
        have HF := (show Hid (certW (rightV k x y s l) n (-1) ys = false) from hD)
        have HV := (show Hid (∀ u, Below wr.heap.size wr u → Calls Tryd.prog 12 #[.int .i64 k, .agg #[.int .i64 x, .int .i64 y], .int .i64 s, .slice ao l.length ac, .agg #[.int .i64 a.1, .slice ag a.2.length gap]] u fun e w' => e = .returned (.bool false) ∧ Below u.heap.size u w') from fun u hu => by
          have := hV u hu
          rwa [show verL (repL a.1) a.2 (sL ⟨#[118, 111, 116, 101]⟩) [numsL [k, x, y, s], l] = false from hR] at this)
        clear hV hD hR HD
        go_wp2_with (first
          | (refine wpList_load_mid rfl _ _ rfl bb (off + q * 2) rfl [.int .i64 a.1, .slice ag a.2.length gap] _ hrng Tryd.underlying35 rfl (by kernel_rfl) ?_)
          | (refine wl_store rfl _ _ _ rfl wr.heap.size [.int .i64 a.1, .slice ag a.2.length gap] rfl rfl _ _ hrow0 rfl (by kernel_rfl) (one2 hso) ?_; intro w5 hr5 hg5; have c0 := hr5.out.cell (j := 0) rfl; have c1 := hr5.out.cell (j := 1) rfl; have hb5 : Below wr.heap.size wr w5 := (below_alloc wr (.cells ([.int .i64 0, .slice none 0 0] : List Value).toArray 35)).trans (grown_below hg5 (by simp) (fun k hk => by cases hk; exact Nat.le_refl _)); have d0 := (rb.below hb5).cell (j := 0) rfl; have d1 := (rb.below hb5).cell (j := 1) rfl))
        refine (HV.out _ hb5).mono ?_
        rintro e w6 ⟨rfl, hb6⟩
        go_wp2_with fail
        go_ret
        exact ⟨by rw [HF.out]; rfl, below_and (below_and hB le hb5) le hb6⟩
      · rw [hR, Bool.true_and] at hD
        have HF := (show Hid (certW (rightV k x y s l) n (-1) ys = certW (rightV k x y s l) n a.1 (ys.drop (q + 1))) from hD)
        have HV := (show Hid (∀ u, Below wr.heap.size wr u → Calls Tryd.prog 12 #[.int .i64 k, .agg #[.int .i64 x, .int .i64 y], .int .i64 s, .slice ao l.length ac, .agg #[.int .i64 a.1, .slice ag a.2.length gap]] u fun e w' => e = .returned (.bool true) ∧ Below u.heap.size u w') from fun u hu => by
          have := hV u hu
          rwa [show verL (repL a.1) a.2 (sL ⟨#[118, 111, 116, 101]⟩) [numsL [k, x, y, s], l] = true from hR] at this)
        clear hV hD hR HD
        go_wp2_with (first
          | (refine wpList_load_mid rfl _ _ rfl bb (off + q * 2) rfl [.int .i64 a.1, .slice ag a.2.length gap] _ hrng Tryd.underlying35 rfl (by kernel_rfl) ?_)
          | (refine wl_store rfl _ _ _ rfl wr.heap.size [.int .i64 a.1, .slice ag a.2.length gap] rfl rfl _ _ hrow0 rfl (by kernel_rfl) (one2 hso) ?_; intro w5 hr5 hg5; have c0 := hr5.out.cell (j := 0) rfl; have c1 := hr5.out.cell (j := 1) rfl; have hb5 : Below wr.heap.size wr w5 := (below_alloc wr (.cells ([.int .i64 0, .slice none 0 0] : List Value).toArray 35)).trans (grown_below hg5 (by simp) (fun k hk => by cases hk; exact Nat.le_refl _)); have d0 := (rb.below hb5).cell (j := 0) rfl; have d1 := (rb.below hb5).cell (j := 1) rfl))
        refine (HV.out _ hb5).mono ?_
        rintro e w6 ⟨rfl, hb6⟩
        have c6 := (hr5.out.below hb6).cell (j := 0) rfl
        have hb7 := below_and hbw (Nat.le_refl _) (below_and hb5 (Nat.le_refl _) hb6)
        clear c0 c1 d0 d1 hr5 hg5
        go_wp2_with fail
        go_roundw
        case rel => exact ⟨q + 1, a.1, by omega, rfl, by go_num, HF, hb7⟩
        case measure => simp [intOf]; omega
    · rw [List.drop_eq_nil_of_le (by omega)] at HC
      have HF := (show Hid (certW (rightV k x y s l) n (-1) ys = true) from HC.out)
      clear HC
      go_wp2_with fail
      go_ret
      exact ⟨by rw [HF.out]; rfl, hB⟩

/-- vote.Cert. -/
theorem vCert_any (w : World) (k x y s : Int) (v : Value) (l : List Int) (n : Int) (vv : Value) (ys : List PVote) (hv : Rd w v l) (hl : l.length ≤ 3000000) (hy : RL RVote 2 Any w vv ys) (hT : Tab w) :
    Calls Tryd.prog 6 #[.int .i64 k, .agg #[.int .i64 x, .int .i64 y], .int .i64 s, v, vv, .int .i64 n] w fun e w' => e = .returned (.bool (certL (rightV k x y s l) n ys)) ∧ Below w.heap.size w w' := by
  by_cases hr : rgt n = true
  · by_cases hq : (ys.length : Int) = quo n
    · rw [certL, hr, decide_eq_true hq, Bool.true_and, Bool.true_and]
      have h5 := fau_ge hr
      have h6 := quo_yes hr
      have hyl : 0 < ys.length := by omega
      obtain ⟨b1, o1, c1, rfl, hc1, hm1, _, hb1, hx1⟩ := hy.at hyl
      exact vCert_some w k x y s v l n b1 o1 c1 ys hv hl hyl hc1 hm1 hb1 hx1 hT hr hq
    · rw [certL, hr, decide_eq_false hq, Bool.true_and, Bool.false_and]
      have HR := (show Hid (∀ u : World, Calls Tryd.prog 13 #[.int .i64 n] u fun e w' => e = .returned (.bool true) ∧ w' = u) from fun u => Bb.right_yes u n hr)
      have HQ := (show Hid (∀ u : World, Calls Tryd.prog 14 #[.int .i64 n] u fun e w' => e = .returned (.int .i64 (quo n)) ∧ w' = u) from fun u => Bb.quorum_any u n)
      have hne : ((ys.length : Int) == quo n) = false := by rw [beq_eq_false_iff_ne]; exact hq
      obtain ⟨va, vc, rfl, hvc⟩ := hy.form
      obtain ⟨ao, ac, rfl, hac⟩ := hv.form
      have b0 := below_alloc w (.cells #[.int .i64 x, .int .i64 y] 23)
      clear hr hq
      generalize quo n = Q at *
      go_enter Tryd.func6, Tryd.ntmps6
      go_wp2_with fail
      refine (HR.out _).mono ?_
      rintro e w0 ⟨rfl, rfl⟩
      go_wp2_with fail
      refine (HQ.out _).mono ?_
      rintro e w0 ⟨rfl, rfl⟩
      go_wp2_with fail
      go_ret
      exact ⟨rfl, b0⟩
  · rw [certL, rgt_no hr, Bool.false_and, Bool.false_and]
    have HR := (show Hid (∀ u : World, Calls Tryd.prog 13 #[.int .i64 n] u fun e w' => e = .returned (.bool false) ∧ w' = u) from fun u => Bb.right_not u n hr)
    obtain ⟨va, vc, rfl, hvc⟩ := hy.form
    obtain ⟨ao, ac, rfl, hac⟩ := hv.form
    have b0 := below_alloc w (.cells #[.int .i64 x, .int .i64 y] 23)
    clear hr
    go_enter Tryd.func6, Tryd.ntmps6
    go_wp2_with fail
    refine (HR.out _).mono ?_
    rintro e w0 ⟨rfl, rfl⟩
    go_wp2_with fail
    go_ret
    exact ⟨rfl, b0⟩
end Go.Proofs.YtkgjlmhgfefegaaDoor
end

section
namespace Go.Proofs.YtkgjlmhgfefegaaDoor
open Go.RowKit Oct Sha

theorem turn_all (w : World) (x : BitVec 32) (z : Int) (hz : decide (1 ≤ z) && decide (z ≤ 31) = true) : Calls Tryd.prog 71 #[.int .u32 (wi x), .int .i64 z] w fun e w' => e = .returned (.int .u32 (wi (rotr x z.toNat))) ∧ w' = w := by
  have hz' : 1 ≤ z ∧ z ≤ 31 := by simpa using hz
  have := turn_any w x z.toNat (by omega) (by omega)
  rwa [Int.toNat_of_nonneg (by omega)] at this
theorem run_cut_at (pb off len cap n : Nat) (hn : n ≤ len) (hlt : n < cap) (u : World) : (Instr.slice 24 (.slice (some ⟨pb, off, none⟩) len cap) (some (.int .i64 (n : Int))) none none).run Tryd.prog u = .ok (.slice (some ⟨pb, off + n, none⟩) (len - n) (cap - n)) u := by
  have ht : Tryd.prog.underlying 24 = some (.slice (Tryd.prog.elem 24)) := by kernel_rfl
  have hs : (sizeOf (Tryd.prog.elem 24)).run Tryd.prog u = .ok 1 u := by
    rw [show Tryd.prog.elem 24 = 5 by kernel_rfl]
    obtain ⟨i0, hi, hz0, hz1, hz2⟩ := info_parts Tryd.info5
    simp [sizeOf, typeInfo, hi, hz1]
  rw [run_slice_l u 24 (some ⟨pb, off, none⟩) len cap ht .i64 n (by omega) (by omega), hs]
  simp only [Result.andThen, sliced, Int.toNat_natCast, Nat.mul_one, Option.map_some, Addr.add_mid]
  rw [if_neg (by omega)]

theorem k_any (w : World) : Calls Tryd.prog 70 #[] w fun e w' => e = .returned (.agg (kk.map wv).toArray) ∧ Below w.heap.size w w' := by
  go_enter Tryd.func70, Tryd.ntmps70
  go_wp2_with (first
    | (refine wpList_buildTo (by rfl) 87 _ (by rfl) _ (by rfl) (kk.map wv).toArray (by kernel_rfl) ?_)
    | (refine wl_store (by rfl) 87 _ _ (by rfl) w.heap.size (kk.map wv) (by rfl) (by rfl) 87 (wz 64) (heap_alloc_new w _) (by rfl) (by kernel_rfl) (wv_one _) ?_; intro w2 hR2 hg2))
  exact bodyPost_ret (v := .agg (kk.map wv).toArray) (results_cell_row rfl _ _ w.heap.size _ (kk.map wv).toArray (0, 0) _ (by rfl) hR2.out Tryd.und45 rfl (by kernel_rfl)) rfl ⟨rfl, (below_alloc w _).trans (grown_below hg2 (by simp) (fun k hk => by cases hk; exact Nat.le_refl _))⟩

theorem word_any (w : World) (b off c : Nat) (x0 x1 x2 x3 : Int) (n : Nat) (hn : 4 ≤ n) (y0 : 0 ≤ x0 ∧ x0 ≤ 255) (y1 : 0 ≤ x1 ∧ x1 ≤ 255) (y2 : 0 ≤ x2 ∧ x2 ≤ 255) (y3 : 0 ≤ x3 ∧ x3 ≤ 255)
    (c0 : w.cell? ⟨b, off, none⟩ = some (.int .u8 x0)) (c1 : w.cell? ⟨b, off + 1, none⟩ = some (.int .u8 x1)) (c2 : w.cell? ⟨b, off + 2, none⟩ = some (.int .u8 x2)) (c3 : w.cell? ⟨b, off + 3, none⟩ = some (.int .u8 x3)) :
    Calls Tryd.prog 74 #[.slice (some ⟨b, off, none⟩) n c] w fun e w' => e = .returned (.int .u32 (wi (BitVec.ofInt 32 (((x0 * 256 + x1) * 256 + x2) * 256 + x3)))) ∧ w' = w := by
  have hni : (4 : Int) ≤ (n : Int) := by omega
  rw [wi_ofInt _ (by omega) (by omega)]
  go_enter Tryd.func74, Tryd.ntmps74
  go_wp2_with fail
  refine wp_loop_rounds 5 ?_
  rw [rounds_succ]
  go_wp2_with fail
  rw [rounds_succ]
  go_wp2_with fail
  rw [rounds_succ]
  go_wp2_with fail
  rw [rounds_succ]
  go_wp2_with fail
  rw [rounds_succ]
  go_wp2_with fail
  go_ret
  exact ⟨ret_int (by omega), rfl⟩

set_option maxHeartbeats 1000000 in
theorem schedule_any (w : World) (v : Value) (p : List Int) (hrd : Rd w v p) (hp : p.length = 64) :
    Calls Tryd.prog 69 #[v] w fun e w' => e = .returned (.agg ((sch p 64).map wv).toArray) ∧ Below w.heap.size w w' := by
  have hb := hrd.1
  obtain ⟨b, o, cap, rfl, hc1, hc2, hlt, hcell⟩ := hrd.at (by omega)
  have hr : Bts w b o p := hcell
  rw [hp] at hc1 ⊢
  obtain ⟨X, hX⟩ : ∃ X, X = (sch p 64).map wv := ⟨_, rfl⟩
  rw [← hX]
  have HX := (show Hid (X = (sch p 64).map wv) from hX)
  clear hX hcell hrd
  go_enter Tryd.func69, Tryd.ntmps69
  go_wp2_with (first
    | (refine wpList_buildTo (by rfl) 87 _ (by rfl) _ (by rfl) (wz 64).toArray (by kernel_rfl) ?_)
    | (refine wl_store (by rfl) 87 _ _ (by rfl) (w.heap.size + 1) (wz 64) (by rfl) (by rfl) 87 (wz 64) (heap_alloc2_new w _ _) (by rfl) (by kernel_rfl) (wv_one (List.replicate 64 0)) ?_; intro w2 hR2 hg2))
  have hZ2 : Row w2 w.heap.size 87 (wz 64) := (show Row _ w.heap.size 87 (wz 64) from heap_alloc2_old w _ _).grown hg2 (by simp)
  have hbel2 : Below w.heap.size w w2 := ((below_alloc w _).trans ((Below.refl _ _).alloc (by simp) _)).trans (grown_below hg2 (by simp; omega) (fun k hk => by cases hk; exact Nat.le_succ _))
  clear hg2
  go_loopw [4] (fun i wr => ∃ k : Nat, k ≤ 16 ∧ i = .int .i64 k ∧ Row wr (w.heap.size + 1) 87 ((sch p k).map wv ++ wz (64 - k)) ∧ Row wr w.heap.size 87 (wz 64) ∧ Below w.heap.size w wr) (fun i _ => 16 - (intOf i).toNat)
  case atStart => exact ⟨0, by omega, rfl, hR2, hZ2, hbel2⟩
  case round =>
    clear hR2 hZ2 hbel2
    obtain ⟨k, hk, rfl, hR, hZ, hbel⟩ := hrel
    have hrr := hr.below hlt hbel
    by_cases hk16 : k < 16
    · obtain ⟨x0, hx0⟩ : ∃ x, x = p.getD (4 * k) 0 := ⟨_, rfl⟩
      obtain ⟨x1, hx1⟩ : ∃ x, x = p.getD (4 * k + 1) 0 := ⟨_, rfl⟩
      obtain ⟨x2, hx2⟩ : ∃ x, x = p.getD (4 * k + 2) 0 := ⟨_, rfl⟩
      obtain ⟨x3, hx3⟩ : ∃ x, x = p.getD (4 * k + 3) 0 := ⟨_, rfl⟩
      have y0 : 0 ≤ x0 ∧ x0 ≤ 255 := hx0 ▸ byt_at hb _
      have y1 : 0 ≤ x1 ∧ x1 ≤ 255 := hx1 ▸ byt_at hb _
      have y2 : 0 ≤ x2 ∧ x2 ≤ 255 := hx2 ▸ byt_at hb _
      have y3 : 0 ≤ x3 ∧ x3 ≤ 255 := hx3 ▸ byt_at hb _
      have c0 : wr.cell? ⟨b, o + 4 * k, none⟩ = some (.int .u8 x0) := hx0 ▸ hrr (4 * k) (by omega)
      have c1 : wr.cell? ⟨b, o + 4 * k + 1, none⟩ = some (.int .u8 x1) := hx1 ▸ hrr (4 * k + 1) (by omega)
      have c2 : wr.cell? ⟨b, o + 4 * k + 2, none⟩ = some (.int .u8 x2) := hx2 ▸ hrr (4 * k + 2) (by omega)
      have c3 : wr.cell? ⟨b, o + 4 * k + 3, none⟩ = some (.int .u8 x3) := hx3 ▸ hrr (4 * k + 3) (by omega)
      have HW := (show Hid (wrd p k = BitVec.ofInt 32 (((x0 * 256 + x1) * 256 + x2) * 256 + x3)) by rw [hx0, hx1, hx2, hx3]; rfl)
      clear hx0 hx1 hx2 hx3 hrr
      have hsl : ∀ u : World, (Instr.slice 24 (.slice (some ⟨b, o, none⟩) 64 cap) (some (.int .i64 (4 * (k : Int)))) none none).run Tryd.prog u = .ok (.slice (some ⟨b, o + 4 * k, none⟩) (64 - 4 * k) (cap - 4 * k)) u := run_cut_at b o 64 cap (4 * k) (by omega) (by omega)
      have hik : ∀ u : World, (Instr.indexAt 87 (.pointer (some ⟨w.heap.size + 1, 0, none⟩)) (.int .i64 (k : Int))).run Tryd.prog u = .ok (.pointer (some ⟨w.heap.size + 1, k, none⟩)) u := run_ix (w.heap.size + 1) k (by omega)
      go_wp2_with fail
      refine (word_any _ b (o + 4 * k) (cap - 4 * k) x0 x1 x2 x3 (64 - 4 * k) (by omega) y0 y1 y2 y3 c0 c1 c2 c3).mono ?_
      rintro e wq ⟨rfl, rfl⟩
      rw [← HW.out]
      have ck : wq.cell? ⟨w.heap.size + 1, k, none⟩ = some (.int .u32 0) := hR.cell (wz_at p k (by omega))
      have fk := hR.frozen k
      have HR' := (show Hid (∀ v, Row (wq.setCell ⟨w.heap.size + 1, k, none⟩ v) (w.heap.size + 1) 87 (((sch p k).map wv ++ wz (64 - k)).set k v)) from fun v => hR.set k v)
      clear c0 c1 c2 c3 y0 y1 y2 y3
      go_wp2_with fail
      go_roundw
      case rel =>
        rw [← nxt_lo p k hk16]
        exact ⟨k + 1, by omega, by go_num, sch_set p k (by omega) ▸ HR'.out _, hZ.grown (grown_set _ _ _ _) (by simp), below_set hbel (Nat.le_refl _) (Nat.le_succ _) _ _⟩
      case measure => simp [intOf]; omega
    · have hR16 : Row wr (w.heap.size + 1) 87 ((sch p 16).map wv ++ wz (64 - 16)) := (show k = 16 by omega) ▸ hR
      clear hr hlt hb hp hR hrr
      go_wp2_with fail
      go_loopw [5] (fun i wr => ∃ k : Nat, 16 ≤ k ∧ k ≤ 64 ∧ i = .int .i64 k ∧ Row wr (w.heap.size + 1) 87 ((sch p k).map wv ++ wz (64 - k)) ∧ Row wr w.heap.size 87 (wz 64) ∧ Below w.heap.size w wr) (fun i _ => 64 - (intOf i).toNat)
      case atStart => exact ⟨16, by omega, by omega, rfl, hR16, hZ, hbel⟩
      case round =>
        clear hR16 hZ hbel
        rename Nat => k0
        obtain ⟨k, hk, hk', rfl, hR, hZ, hbel⟩ := hrel
        by_cases hk64 : k < 64
        · obtain ⟨m2, hm2⟩ : ∃ m : Nat, (k : Int) - 2 = m := ⟨k - 2, by omega⟩
          obtain ⟨m7, hm7⟩ : ∃ m : Nat, (k : Int) - 7 = m := ⟨k - 7, by omega⟩
          obtain ⟨m15, hm15⟩ : ∃ m : Nat, (k : Int) - 15 = m := ⟨k - 15, by omega⟩
          obtain ⟨m16, hm16⟩ : ∃ m : Nat, (k : Int) - 16 = m := ⟨k - 16, by omega⟩
          obtain ⟨y2, hy2⟩ : ∃ y, y = (sch p k).getD (k - 2) 0 := ⟨_, rfl⟩
          obtain ⟨y7, hy7⟩ : ∃ y, y = (sch p k).getD (k - 7) 0 := ⟨_, rfl⟩
          obtain ⟨y15, hy15⟩ : ∃ y, y = (sch p k).getD (k - 15) 0 := ⟨_, rfl⟩
          obtain ⟨y16, hy16⟩ : ∃ y, y = (sch p k).getD (k - 16) 0 := ⟨_, rfl⟩
          have c2 : wr.cell? ⟨w.heap.size + 1, m2, none⟩ = some (.int .u32 (wi y2)) := by rw [hy2, show k - 2 = m2 by omega]; exact hR.cell (sch_at p k m2 (by omega))
          have c7 : wr.cell? ⟨w.heap.size + 1, m7, none⟩ = some (.int .u32 (wi y7)) := by rw [hy7, show k - 7 = m7 by omega]; exact hR.cell (sch_at p k m7 (by omega))
          have c15 : wr.cell? ⟨w.heap.size + 1, m15, none⟩ = some (.int .u32 (wi y15)) := by rw [hy15, show k - 15 = m15 by omega]; exact hR.cell (sch_at p k m15 (by omega))
          have c16 : wr.cell? ⟨w.heap.size + 1, m16, none⟩ = some (.int .u32 (wi y16)) := by rw [hy16, show k - 16 = m16 by omega]; exact hR.cell (sch_at p k m16 (by omega))
          have HN := (show Hid (nxt p (sch p k) = s1 y2 + y7 + s0 y15 + y16) by rw [hy2, hy7, hy15, hy16]; exact nxt_hi p k hk)
          clear hy2 hy7 hy15 hy16
          have ck : wr.cell? ⟨w.heap.size + 1, k, none⟩ = some (.int .u32 0) := hR.cell (wz_at p k (by omega))
          have fk := hR.frozen k
          have q2 : IntKind.i64.wrap (m2 : Int) = m2 := by rw [IntKind.wrap_i64]; omega
          have q7 : IntKind.i64.wrap (m7 : Int) = m7 := by rw [IntKind.wrap_i64]; omega
          have q15 : IntKind.i64.wrap (m15 : Int) = m15 := by rw [IntKind.wrap_i64]; omega
          have q16 : IntKind.i64.wrap (m16 : Int) = m16 := by rw [IntKind.wrap_i64]; omega
          have i2 : ∀ u : World, (Instr.indexAt 87 (.pointer (some ⟨w.heap.size + 1, 0, none⟩)) (.int .i64 (m2 : Int))).run Tryd.prog u = .ok (.pointer (some ⟨w.heap.size + 1, m2, none⟩)) u := run_ix (w.heap.size + 1) m2 (by omega)
          have i7 : ∀ u : World, (Instr.indexAt 87 (.pointer (some ⟨w.heap.size + 1, 0, none⟩)) (.int .i64 (m7 : Int))).run Tryd.prog u = .ok (.pointer (some ⟨w.heap.size + 1, m7, none⟩)) u := run_ix (w.heap.size + 1) m7 (by omega)
          have i15 : ∀ u : World, (Instr.indexAt 87 (.pointer (some ⟨w.heap.size + 1, 0, none⟩)) (.int .i64 (m15 : Int))).run Tryd.prog u = .ok (.pointer (some ⟨w.heap.size + 1, m15, none⟩)) u := run_ix (w.heap.size + 1) m15 (by omega)
          have i16 : ∀ u : World, (Instr.indexAt 87 (.pointer (some ⟨w.heap.size + 1, 0, none⟩)) (.int .i64 (m16 : Int))).run Tryd.prog u = .ok (.pointer (some ⟨w.heap.size + 1, m16, none⟩)) u := run_ix (w.heap.size + 1) m16 (by omega)
          have ik : ∀ u : World, (Instr.indexAt 87 (.pointer (some ⟨w.heap.size + 1, 0, none⟩)) (.int .i64 (k : Int))).run Tryd.prog u = .ok (.pointer (some ⟨w.heap.size + 1, k, none⟩)) u := run_ix (w.heap.size + 1) k (by omega)
          go_wp2_with fail
          go_quiet ((go_at_call 71; exact quiet_as (turn_all _ y15 _ (by decide)) rfl))
          go_wp2_with fail
          go_quiet ((go_at_call 71; exact quiet_as (turn_all _ y2 _ (by decide)) rfl))
          go_wp2_with fail
          go_region
          go_wp2_with fail
          go_roundw
          case rel =>
            have hset := sch_set p k (by omega)
            rw [HN.out] at hset
            rw [show (8 : Int) = 2 ^ 3 from rfl, show (1024 : Int) = 2 ^ 10 from rfl, shr_wi, shr_wi]
            simp only [bits_xor, mod_wi, ofInt_sum, ofInt_wi]
            refine ⟨k + 1, by omega, by omega, by go_num, ?_, (show Row (wr.drewN _) w.heap.size 87 (wz 64) from hZ).grown (grown_set _ _ _ _) (by simp), below_set (bel_drewN hbel _) (Nat.le_refl _) (Nat.le_succ _) _ _⟩
            rw [← hset]
            exact Row.set (w := wr.drewN _) hR k _
          case measure => simp [intOf]; omega
        · obtain rfl : k = 64 := by omega
          clear hk hk' hk64
          have hl : X.length = 64 := by rw [HX.out, List.length_map, sch_len]
          have hR' : Row wr (w.heap.size + 1) 87 X := by rw [HX.out]; simpa [wz] using hR
          have ho : ∀ v ∈ X, v.oneCell' = true := by rw [HX.out]; exact wv_one _
          clear hR
          have hs : (Tryd.prog.info? 87).map (·.size) = some X.length := by rw [hl]; exact Tryd.siz45
          have hle : (wz 64).length = X.length := by rw [hl]; rfl
          go_wp2_with (first
            | (refine wl_load (by rfl) 87 _ (by rfl) (w.heap.size + 1) (by rfl) _ X hR' _ Tryd.und45 rfl hs ?_)
            | (refine wl_store (by rfl) 87 _ _ (by rfl) w.heap.size X (by rfl) (by rfl) _ (wz 64) hZ hle hs ho ?_; intro w2 hR2 hg2))
          exact bodyPost_ret (v := .agg X.toArray) (results_cell_row rfl _ _ w.heap.size _ X.toArray (0, 0) _ (by rfl) hR2.out Tryd.und45 rfl (by simpa using hs)) rfl ⟨rfl, hbel.trans (grown_below hg2 hbel.size (fun k hk => by cases hk; exact Nat.le_refl _))⟩
end Go.Proofs.YtkgjlmhgfefegaaDoor
end
