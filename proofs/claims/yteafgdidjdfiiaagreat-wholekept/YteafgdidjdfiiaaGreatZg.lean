/- The walks over package lease: within, isClient, isTime, Right. -/
import Derived.Test.YteafgdidjdfiiaaGreatZh
set_option linter.unusedVariables false
set_option linter.unusedSimpArgs false
namespace Go.Proofs.YteafgdidjdfiiaaGreat
open Go.RowKit Oct Kvl

theorem withinS_any (w : World) (n a b : Int) : Calls Tryz.prog 76 #[.int .i64 n, .int .i64 a, .int .i64 b] w fun e w' => e = .returned (.bool (decide (a ≤ n ∧ n ≤ b))) ∧ w' = w := by
  by_cases h1 : a ≤ n
  · by_cases h2 : n ≤ b
    · rw [decide_eq_true ⟨h1, h2⟩]
      go_enter Tryz.func76, Tryz.ntmps76
      go_wp2_with fail
      go_ret
      exact ⟨rfl, rfl⟩
    · rw [decide_eq_false (fun h => h2 h.2)]
      have h2' : decide (n ≤ b) = false := by simp; omega
      go_enter Tryz.func76, Tryz.ntmps76
      go_wp2_with fail
      go_ret
      exact ⟨rfl, rfl⟩
  · rw [decide_eq_false (fun h => h1 h.1)]
    have h1' : decide (a ≤ n) = false := by simp; omega
    go_enter Tryz.func76, Tryz.ntmps76
    go_wp2_with fail
    go_ret
    exact ⟨rfl, rfl⟩
theorem isClient_any (w : World) (n : Int) : Calls Tryz.prog 75 #[.int .i64 n] w fun e w' => e = .returned (.bool (decide (1 ≤ n ∧ n ≤ 4))) ∧ w' = w := by
  have hW := withinS_any w n 1 4
  generalize decide (1 ≤ n ∧ n ≤ 4) = d at hW ⊢
  go_enter Tryz.func75, Tryz.ntmps75
  go_wp2_with fail
  refine hW.mono ?_
  rintro e w1 ⟨rfl, rfl⟩
  go_wp2_with fail
  go_ret
  exact ⟨rfl, rfl⟩
theorem isTime_any (w : World) (n : Int) : Calls Tryz.prog 95 #[.int .i64 n] w fun e w' => e = .returned (.bool (decide (0 ≤ n ∧ n ≤ 2147482647))) ∧ w' = w := by
  have hW := withinS_any w n 0 2147482647
  generalize decide (0 ≤ n ∧ n ≤ 2147482647) = d at hW ⊢
  go_enter Tryz.func95, Tryz.ntmps95
  go_wp2_with fail
  refine hW.mono ?_
  rintro e w1 ⟨rfl, rfl⟩
  go_wp2_with fail
  go_ret
  exact ⟨rfl, rfl⟩

/-- What is still to be looked at. -/
def chkS (n : List Int) (l : List PEnt) : Prop := up n l ∧ ∀ e ∈ l, rgs1 e
theorem rgtS_chk {l : List PEnt} (h : l.length ≤ 16) : rgtS l ↔ chkS [] l := ⟨fun h => h.2, fun h2 => ⟨h, h2⟩⟩
theorem chkS_cons {n : List Int} {x : PEnt} {r : List PEnt} : chkS n (x :: r) ↔ (cmpL n x.1 < 0 ∧ rgs1 x) ∧ chkS x.1 r := by
  unfold chkS
  show ((cmpL n x.1 < 0 ∧ up x.1 r) ∧ _) ↔ _
  simp only [List.mem_cons, forall_eq_or_imp]
  exact ⟨fun ⟨⟨h1, h2⟩, h3, h4⟩ => ⟨⟨h1, h3⟩, h2, h4⟩, fun ⟨⟨h1, h3⟩, h2, h4⟩ => ⟨⟨h1, h2⟩, h3, h4⟩⟩
theorem chkS_bad1 {n : List Int} {x : PEnt} {r : List PEnt} (h : cmpL x.1 n ≤ 0) : ¬ chkS n (x :: r) := fun h1 => by
  have := (chkS_cons.1 h1).1.1
  have := cmp_neg n x.1
  omega
theorem chkS_go {n : List Int} {x : PEnt} {r : List PEnt} (h : 0 < cmpL x.1 n) (h1 : x.1.length ≤ 16) (h2 : 1 ≤ lo x.2 ∧ lo x.2 ≤ 4) (h5 : 1 ≤ lu x.2 ∧ lu x.2 ≤ 2147483647) : chkS n (x :: r) ↔ chkS x.1 r := by
  rw [chkS_cons]
  have h3 := cmp_neg n x.1
  have h4 : cmpL n x.1 < 0 := by omega
  exact ⟨fun h => h.2, fun h => ⟨⟨h4, ⟨low_ne h4, h1⟩, h2, h5⟩, h⟩⟩

set_option maxRecDepth 10000 in
set_option maxHeartbeats 2000000 in
/-- lease.Right. -/
theorem rightS_any (w : World) (v : Value) (ys : List PEnt) (h : RL RLea 3 Any w v ys) :
    Calls Tryz.prog 45 #[v] w fun e w' => e = .returned (.bool (decide (rgtS ys))) ∧ Below w.heap.size w w' := by
  by_cases h64 : 16 < ys.length
  · rw [decide_eq_false (fun h => by have := h.1; omega)]
    obtain ⟨ao, cap, rfl, hm⟩ := h.form
    have hd : (16 : Int) < ys.length := by omega
    go_enter Tryz.func45, Tryz.ntmps45
    go_wp2_with fail
    go_ret
    exact ⟨rfl, Below.refl _ _⟩
  have hd : decide ((16 : Int) < ys.length) = false := by simp; omega
  by_cases hl : 0 < ys.length
  rotate_left
  · obtain rfl : ys = [] := List.eq_nil_of_length_eq_zero (by omega)
    obtain ⟨ao, cap, rfl, _⟩ := h.form
    go_enter Tryz.func45, Tryz.ntmps45
    go_wp2_with fail
    refine wp_loop_rounds 1 ?_; rw [rounds_succ]
    go_wp2_with fail
    go_ret
    exact ⟨ret_bool (by decide), Below.refl _ _⟩
  obtain ⟨b, off, cap, rfl, hc, hm, _, hb, hx⟩ := h.at hl
  have HX := (show Hid (∀ (i : Nat) (a : PEnt), ys[i]? = some a → ∃ r, r.length = 3 ∧ w.rangeAt b (off + i * 3) r ∧ RLea Any w r a) from hx)
  have HR := (show Hid (rgtS ys ↔ chkS [] ys) from rgtS_chk (by omega))
  have hlm : (ys.length : Int) ≤ 9223372036854775807 := by omega
  clear hx h h64
  obtain ⟨n, hn⟩ : ∃ n, n = ys.length := ⟨_, rfl⟩
  rw [← hn] at hlm hl hc hd ⊢
  have HN := (show Hid (ys.length = n) from hn.symm)
  clear hn
  go_enter Tryz.func45, Tryz.ntmps45
  go_wp2_with fail
  go_loopw [3, 11] (fun s i wr => ∃ (q : Nat) (ln : List Int), q ≤ n ∧ i = .int .i64 q ∧ Rd wr s ln ∧ Below w.heap.size w wr ∧ Hid (chkS [] ys ↔ chkS ln (ys.drop q))) (fun _ i _ => n - (intOf i).toNat)
  case atStart => exact ⟨0, [], by omega, rfl, (Own.nil w 5).rd (l := []) Byt.nil, Below.refl _ _, Iff.rfl⟩
  case round =>
    obtain ⟨q, ln, hq, rfl, hs, hB, hI⟩ := hrel
    by_cases hql : q < n
    · obtain ⟨x, hx⟩ : ∃ x, ys[q]? = some x := ⟨_, List.getElem?_eq_getElem (by have := HN.out; omega)⟩
      obtain ⟨r, _, hrng, s1, p1, q1, rfl, t1, t2⟩ := HX.out q x hx
      have hrng := rangeAt_block hrng (hB.block b hb)
      obtain ⟨a1, c1, rfl, hc1⟩ := t1.form
      have hrow0 := Row.new wr 75 [.slice none 0 0, .int .i64 0, .int .i64 0]
      have HD := (show Hid (ys.drop q = x :: ys.drop (q + 1)) from drop_cons hx)
      have HP := (show Hid (lo x.2 = p1 ∧ lu x.2 = q1) by rw [t2]; exact ⟨rfl, rfl⟩)
      have hone := onL3 (p := p1) (q := q1) t1.one
      clear hx t2
      obtain ⟨L1, hL1⟩ : ∃ L, x.1.length = L := ⟨_, rfl⟩
      rw [hL1] at t1 hrng hone
      have HL := (show Hid (x.1.length = L1) from hL1)
      clear hL1
      have hcm := fun u (hu : Below wr.heap.size wr u) => compare_any u _ u3 x.1 ln (t1.mv (Mv.below (below_and hB (Nat.le_refl _) hu))).1 (hs.below hu)
      obtain ⟨cv, hcv⟩ : ∃ c, cmpL x.1 ln = c := ⟨_, rfl⟩
      rw [hcv] at hcm
      have HC := (show Hid (cmpL x.1 ln = cv) from hcv)
      have HCM := (show Hid (∀ u, Below wr.heap.size wr u → Calls Tryz.prog 74 #[.slice a1 L1 c1, u3] u fun e w' => e = .returned (.int .i64 cv) ∧ w' = u) from hcm)
      have HCL := (show Hid (∀ u, Calls Tryz.prog 75 #[.int .i64 p1] u fun e w' => e = .returned (.bool (decide (1 ≤ p1 ∧ p1 ≤ 4))) ∧ w' = u) from fun u => isClient_any u p1)
      have HWI := (show Hid (∀ u, Calls Tryz.prog 76 #[.int .i64 q1, .int .i64 1, .int .i64 2147483647] u fun e w' => e = .returned (.bool (decide (1 ≤ q1 ∧ q1 ≤ 2147483647))) ∧ w' = u) from fun u => withinS_any u q1 1 2147483647)
      clear hcv hcm
      by_cases g1 : cv ≤ 0
      · go_wp2_with (first
          | (refine wpList_load_mid rfl _ _ rfl b (off + q * 3) rfl [.slice a1 L1 c1, .int .i64 p1, .int .i64 q1] _ hrng Tryz.underlying75 rfl (by kernel_rfl) ?_)
          | (refine wl_store rfl _ _ _ rfl wr.heap.size [.slice a1 L1 c1, .int .i64 p1, .int .i64 q1] rfl rfl _ _ hrow0 rfl (by kernel_rfl) hone ?_; intro w5 hr5 hg5; have hb5 : Below wr.heap.size wr w5 := (below_alloc wr _).trans (grown_below hg5 (by simp) (fun k hk => by cases hk; exact Nat.le_refl _)); have e0 := hr5.out.cell (j := 0) rfl; have e1 := hr5.out.cell (j := 1) rfl; have e2 := hr5.out.cell (j := 2) rfl)
          | (go_at_call 74; refine (HCM.out w5 hb5).mono ?_; rintro e w5 ⟨rfl, rfl⟩))
        go_ret
        refine ⟨ret_bool (decide_eq_false fun h => ?_).symm, below_and hB (Nat.le_refl _) hb5⟩
        have := hI.out.1 (HR.out.1 h)
        rw [HD.out] at this
        exact chkS_bad1 (by rw [HC.out]; exact g1) this
      have g1' : decide (cv ≤ 0) = false := by simp; omega
      by_cases g2 : 16 < L1
      · have g2' : (16 : Int) < L1 := by omega
        go_wp2_with (first
          | (refine wpList_load_mid rfl _ _ rfl b (off + q * 3) rfl [.slice a1 L1 c1, .int .i64 p1, .int .i64 q1] _ hrng Tryz.underlying75 rfl (by kernel_rfl) ?_)
          | (refine wl_store rfl _ _ _ rfl wr.heap.size [.slice a1 L1 c1, .int .i64 p1, .int .i64 q1] rfl rfl _ _ hrow0 rfl (by kernel_rfl) hone ?_; intro w5 hr5 hg5; have hb5 : Below wr.heap.size wr w5 := (below_alloc wr _).trans (grown_below hg5 (by simp) (fun k hk => by cases hk; exact Nat.le_refl _)); have e0 := hr5.out.cell (j := 0) rfl; have e1 := hr5.out.cell (j := 1) rfl; have e2 := hr5.out.cell (j := 2) rfl)
          | (go_at_call 74; refine (HCM.out w5 hb5).mono ?_; rintro e w5 ⟨rfl, rfl⟩))
        go_ret
        refine ⟨ret_bool (decide_eq_false fun h => ?_).symm, below_and hB (Nat.le_refl _) hb5⟩
        have := hI.out.1 (HR.out.1 h)
        rw [HD.out, chkS_cons] at this
        have h3 := this.1.2.1.2
        rw [HL.out] at h3
        omega
      have g2' : decide ((16 : Int) < L1) = false := by simp; omega
      by_cases g3 : 1 ≤ p1 ∧ p1 ≤ 4
      rotate_left
      · rw [decide_eq_false g3] at HCL
        go_wp2_with (first
          | (refine wpList_load_mid rfl _ _ rfl b (off + q * 3) rfl [.slice a1 L1 c1, .int .i64 p1, .int .i64 q1] _ hrng Tryz.underlying75 rfl (by kernel_rfl) ?_)
          | (refine wl_store rfl _ _ _ rfl wr.heap.size [.slice a1 L1 c1, .int .i64 p1, .int .i64 q1] rfl rfl _ _ hrow0 rfl (by kernel_rfl) hone ?_; intro w5 hr5 hg5; have hb5 : Below wr.heap.size wr w5 := (below_alloc wr _).trans (grown_below hg5 (by simp) (fun k hk => by cases hk; exact Nat.le_refl _)); have e0 := hr5.out.cell (j := 0) rfl; have e1 := hr5.out.cell (j := 1) rfl; have e2 := hr5.out.cell (j := 2) rfl)
          | (go_at_call 74; refine (HCM.out w5 hb5).mono ?_; rintro e w5 ⟨rfl, rfl⟩)
          | (go_at_call 75; refine (HCL.out w5).mono ?_; rintro e w5 ⟨rfl, rfl⟩))
        go_ret
        refine ⟨ret_bool (decide_eq_false fun h => ?_).symm, below_and hB (Nat.le_refl _) hb5⟩
        have := hI.out.1 (HR.out.1 h)
        rw [HD.out, chkS_cons] at this
        have h3 := this.1.2.2.1
        rw [HP.out.1] at h3
        exact g3 h3
      rw [decide_eq_true g3] at HCL
      by_cases g4 : 1 ≤ q1 ∧ q1 ≤ 2147483647
      rotate_left
      · rw [decide_eq_false g4] at HWI
        go_wp2_with (first
          | (refine wpList_load_mid rfl _ _ rfl b (off + q * 3) rfl [.slice a1 L1 c1, .int .i64 p1, .int .i64 q1] _ hrng Tryz.underlying75 rfl (by kernel_rfl) ?_)
          | (refine wl_store rfl _ _ _ rfl wr.heap.size [.slice a1 L1 c1, .int .i64 p1, .int .i64 q1] rfl rfl _ _ hrow0 rfl (by kernel_rfl) hone ?_; intro w5 hr5 hg5; have hb5 : Below wr.heap.size wr w5 := (below_alloc wr _).trans (grown_below hg5 (by simp) (fun k hk => by cases hk; exact Nat.le_refl _)); have e0 := hr5.out.cell (j := 0) rfl; have e1 := hr5.out.cell (j := 1) rfl; have e2 := hr5.out.cell (j := 2) rfl)
          | (go_at_call 74; refine (HCM.out w5 hb5).mono ?_; rintro e w5 ⟨rfl, rfl⟩)
          | (go_at_call 75; refine (HCL.out w5).mono ?_; rintro e w5 ⟨rfl, rfl⟩)
          | (go_at_call 76; refine (HWI.out w5).mono ?_; rintro e w5 ⟨rfl, rfl⟩))
        go_ret
        refine ⟨ret_bool (decide_eq_false fun h => ?_).symm, below_and hB (Nat.le_refl _) hb5⟩
        have := hI.out.1 (HR.out.1 h)
        rw [HD.out, chkS_cons] at this
        have h3 := this.1.2.2.2
        rw [HP.out.2] at h3
        exact g4 h3
      rw [decide_eq_true g4] at HWI
      go_wp2_with (first
        | (refine wpList_load_mid rfl _ _ rfl b (off + q * 3) rfl [.slice a1 L1 c1, .int .i64 p1, .int .i64 q1] _ hrng Tryz.underlying75 rfl (by kernel_rfl) ?_)
        | (refine wl_store rfl _ _ _ rfl wr.heap.size [.slice a1 L1 c1, .int .i64 p1, .int .i64 q1] rfl rfl _ _ hrow0 rfl (by kernel_rfl) hone ?_; intro w5 hr5 hg5; have hb5 : Below wr.heap.size wr w5 := (below_alloc wr _).trans (grown_below hg5 (by simp) (fun k hk => by cases hk; exact Nat.le_refl _)); have e0 := hr5.out.cell (j := 0) rfl; have e1 := hr5.out.cell (j := 1) rfl; have e2 := hr5.out.cell (j := 2) rfl)
        | (go_at_call 74; refine (HCM.out w5 hb5).mono ?_; rintro e w5 ⟨rfl, rfl⟩)
        | (go_at_call 75; refine (HCL.out w5).mono ?_; rintro e w5 ⟨rfl, rfl⟩)
        | (go_at_call 76; refine (HWI.out w5).mono ?_; rintro e w5 ⟨rfl, rfl⟩))
      go_roundw
      case rel =>
        refine ⟨q + 1, x.1, by omega, by go_num, (t1.mv (Mv.below (below_and hB (Nat.le_refl _) hb5))).1, below_and hB (Nat.le_refl _) hb5, ?_⟩
        have h1 := hI.out
        rw [HD.out, chkS_go (by rw [HC.out]; omega) (by rw [HL.out]; omega) (by rw [HP.out.1]; exact g3) (by rw [HP.out.2]; exact g4)] at h1
        exact h1
      case measure => simp [intOf]; omega
    · go_wp2_with fail
      go_ret
      refine ⟨ret_bool (decide_eq_true ?_).symm, hB⟩
      rw [HR.out, hI.out, List.drop_of_length_le (by have := HN.out; omega)]
      exact ⟨trivial, fun e he => by cases he⟩
end Go.Proofs.YteafgdidjdfiiaaGreat
