/- The walks over package kv: right entries; where a name is. -/
import Derived.Test.YteafgdidjdfiiaaGreatKf
import Derived.Deep.LoopGhost
set_option linter.unusedVariables false
namespace Go.Proofs.YteafgdidjdfiiaaGreat
open Go.RowKit Oct Kvl

/-- What is still to be looked at. -/
def chk (n : List Int) (l : List PEnt) : Prop := up n l ∧ ∀ e ∈ l, rgt1 e
theorem rgt_chk {l : List PEnt} (h : l.length ≤ 64) : rgtL l ↔ chk [] l := ⟨fun h => h.2, fun h2 => ⟨h, h2⟩⟩
theorem chk_cons {n : List Int} {x : PEnt} {r : List PEnt} : chk n (x :: r) ↔ (cmpL n x.1 < 0 ∧ rgt1 x) ∧ chk x.1 r := by
  unfold chk
  show ((cmpL n x.1 < 0 ∧ up x.1 r) ∧ _) ↔ _
  simp only [List.mem_cons, forall_eq_or_imp]
  exact ⟨fun ⟨⟨h1, h2⟩, h3, h4⟩ => ⟨⟨h1, h3⟩, h2, h4⟩, fun ⟨⟨h1, h3⟩, h2, h4⟩ => ⟨⟨h1, h2⟩, h3, h4⟩⟩
theorem chk_bad1 {n : List Int} {x : PEnt} {r : List PEnt} (h : cmpL x.1 n ≤ 0) : ¬ chk n (x :: r) := fun h1 => by
  have := (chk_cons.1 h1).1.1
  have := cmp_neg n x.1
  omega
theorem low_ne {n m : List Int} (h : cmpL n m < 0) : 1 ≤ m.length := by
  cases m with
  | nil => cases n <;> simp [cmpL] at h
  | cons a b => simp
theorem chk_go {n : List Int} {x : PEnt} {r : List PEnt} (h : 0 < cmpL x.1 n) (h1 : x.1.length ≤ 16) (h2 : x.2.length ≤ 64) : chk n (x :: r) ↔ chk x.1 r := by
  rw [chk_cons]
  have h3 := cmp_neg n x.1
  have h4 : cmpL n x.1 < 0 := by omega
  exact ⟨fun h => h.2, fun h => ⟨⟨h4, low_ne h4, h1, h2⟩, h⟩⟩
theorem drop_cons {α : Type} {l : List α} {q : Nat} {x : α} (h : l[q]? = some x) : l.drop q = x :: l.drop (q + 1) := by
  obtain ⟨hl, e⟩ := List.getElem?_eq_some_iff.1 h
  rw [List.drop_eq_getElem_cons hl, e]

theorem ret_bool {a b : Bool} (h : a = b) : Ending.returned (.bool a) = .returned (.bool b) := by rw [h]

set_option maxRecDepth 10000 in
set_option maxHeartbeats 2000000 in
/-- kv.Right. -/
theorem right_any (w : World) (v : Value) (ys : List PEnt) (h : RL REnt 2 Any w v ys) :
    Calls Tryz.prog 44 #[v] w fun e w' => e = .returned (.bool (decide (rgtL ys))) ∧ Below w.heap.size w w' := by
  by_cases h64 : 64 < ys.length
  · rw [decide_eq_false (fun h => by have := h.1; omega)]
    obtain ⟨ao, cap, rfl, hm⟩ := h.form
    have hd : (64 : Int) < ys.length := by omega
    go_enter Tryz.func44, Tryz.ntmps44
    go_wp2_with fail
    go_ret
    exact ⟨rfl, Below.refl _ _⟩
  have hd : decide ((64 : Int) < ys.length) = false := by simp; omega
  by_cases hl : 0 < ys.length
  rotate_left
  · obtain rfl : ys = [] := List.eq_nil_of_length_eq_zero (by omega)
    obtain ⟨ao, cap, rfl, _⟩ := h.form
    go_enter Tryz.func44, Tryz.ntmps44
    go_wp2_with fail
    refine wp_loop_rounds 1 ?_; rw [rounds_succ]
    go_wp2_with fail
    go_ret
    exact ⟨ret_bool (by decide), Below.refl _ _⟩
  obtain ⟨b, off, cap, rfl, hc, hm, _, hb, hx⟩ := h.at hl
  have HX := (show Hid (∀ (i : Nat) (a : PEnt), ys[i]? = some a → ∃ r, r.length = 2 ∧ w.rangeAt b (off + i * 2) r ∧ REnt Any w r a) from hx)
  have HR := (show Hid (rgtL ys ↔ chk [] ys) from rgt_chk (by omega))
  have hlm : (ys.length : Int) ≤ 9223372036854775807 := by omega
  clear hx h h64
  obtain ⟨n, hn⟩ : ∃ n, n = ys.length := ⟨_, rfl⟩
  rw [← hn] at hlm hl hc hd ⊢
  have HN := (show Hid (ys.length = n) from hn.symm)
  clear hn
  go_enter Tryz.func44, Tryz.ntmps44
  go_wp2_with fail
  go_loopw [3, 11] (fun s i wr => ∃ (q : Nat) (ln : List Int), q ≤ n ∧ i = .int .i64 q ∧ Rd wr s ln ∧ Below w.heap.size w wr ∧ Hid (chk [] ys ↔ chk ln (ys.drop q))) (fun _ i _ => n - (intOf i).toNat)
  case atStart => exact ⟨0, [], by omega, rfl, (Own.nil w 5).rd (l := []) Byt.nil, Below.refl _ _, Iff.rfl⟩
  case round =>
    obtain ⟨q, ln, hq, rfl, hs, hB, hI⟩ := hrel
    by_cases hql : q < n
    · obtain ⟨x, hx⟩ : ∃ x, ys[q]? = some x := ⟨_, List.getElem?_eq_getElem (by have := HN.out; omega)⟩
      obtain ⟨r, _, hrng, s1, s2, rfl, t1, t2⟩ := HX.out q x hx
      have hrng := rangeAt_block hrng (hB.block b hb)
      obtain ⟨a1, c1, rfl, hc1⟩ := t1.form
      obtain ⟨a2, c2, rfl, hc2⟩ := t2.form
      have hrow0 := Row.new wr 73 [.slice none 0 0, .slice none 0 0]
      have HD := (show Hid (ys.drop q = x :: ys.drop (q + 1)) from drop_cons hx)
      have hone := onE2 t1.one t2.one
      clear hx
      obtain ⟨L1, hL1⟩ : ∃ L, x.1.length = L := ⟨_, rfl⟩
      obtain ⟨L2, hL2⟩ : ∃ L, x.2.length = L := ⟨_, rfl⟩
      rw [hL1] at t1 hrng hone
      rw [hL2] at t2 hrng hone
      have HL := (show Hid (x.1.length = L1 ∧ x.2.length = L2) from ⟨hL1, hL2⟩)
      clear hL1 hL2
      have hcm := fun u (hu : Below wr.heap.size wr u) => compare_any u _ u3 x.1 ln (t1.mv (Mv.below (below_and hB (Nat.le_refl _) hu))).1 (hs.below hu)
      obtain ⟨cv, hcv⟩ : ∃ c, cmpL x.1 ln = c := ⟨_, rfl⟩
      rw [hcv] at hcm
      have HC := (show Hid (cmpL x.1 ln = cv) from hcv)
      have HCM := (show Hid (∀ u, Below wr.heap.size wr u → Calls Tryz.prog 74 #[.slice a1 L1 c1, u3] u fun e w' => e = .returned (.int .i64 cv) ∧ w' = u) from hcm)
      clear hcv hcm
      by_cases g1 : cv ≤ 0
      · go_wp2_with (first
          | (refine wpList_load_mid rfl _ _ rfl b (off + q * 2) rfl [.slice a1 L1 c1, .slice a2 L2 c2] _ hrng Tryz.underlying73 rfl (by kernel_rfl) ?_)
          | (refine wl_store rfl _ _ _ rfl wr.heap.size [.slice a1 L1 c1, .slice a2 L2 c2] rfl rfl _ _ hrow0 rfl (by kernel_rfl) hone ?_; intro w5 hr5 hg5; have hb5 : Below wr.heap.size wr w5 := (below_alloc wr _).trans (grown_below hg5 (by simp) (fun k hk => by cases hk; exact Nat.le_refl _)); have e0 := hr5.out.cell (j := 0) rfl; have e1 := hr5.out.cell (j := 1) rfl)
          | (go_at_call 74; refine (HCM.out w5 hb5).mono ?_; rintro e w5 ⟨rfl, rfl⟩))
        go_ret
        refine ⟨ret_bool (decide_eq_false fun h => ?_).symm, below_and hB (Nat.le_refl _) hb5⟩
        have := hI.out.1 (HR.out.1 h)
        rw [HD.out] at this
        exact chk_bad1 (by rw [HC.out]; exact g1) this
      have g1' : decide (cv ≤ 0) = false := by simp; omega
      by_cases g2 : 16 < L1
      · have g2' : (16 : Int) < L1 := by omega
        go_wp2_with (first
          | (refine wpList_load_mid rfl _ _ rfl b (off + q * 2) rfl [.slice a1 L1 c1, .slice a2 L2 c2] _ hrng Tryz.underlying73 rfl (by kernel_rfl) ?_)
          | (refine wl_store rfl _ _ _ rfl wr.heap.size [.slice a1 L1 c1, .slice a2 L2 c2] rfl rfl _ _ hrow0 rfl (by kernel_rfl) hone ?_; intro w5 hr5 hg5; have hb5 : Below wr.heap.size wr w5 := (below_alloc wr _).trans (grown_below hg5 (by simp) (fun k hk => by cases hk; exact Nat.le_refl _)); have e0 := hr5.out.cell (j := 0) rfl; have e1 := hr5.out.cell (j := 1) rfl)
          | (go_at_call 74; refine (HCM.out w5 hb5).mono ?_; rintro e w5 ⟨rfl, rfl⟩))
        go_ret
        refine ⟨ret_bool (decide_eq_false fun h => ?_).symm, below_and hB (Nat.le_refl _) hb5⟩
        have := hI.out.1 (HR.out.1 h)
        rw [HD.out, chk_cons] at this
        have h3 := this.1.2.2.1
        rw [HL.out.1] at h3
        omega
      have g2' : decide ((16 : Int) < L1) = false := by simp; omega
      by_cases g3 : 64 < L2
      · have g3' : (64 : Int) < L2 := by omega
        go_wp2_with (first
          | (refine wpList_load_mid rfl _ _ rfl b (off + q * 2) rfl [.slice a1 L1 c1, .slice a2 L2 c2] _ hrng Tryz.underlying73 rfl (by kernel_rfl) ?_)
          | (refine wl_store rfl _ _ _ rfl wr.heap.size [.slice a1 L1 c1, .slice a2 L2 c2] rfl rfl _ _ hrow0 rfl (by kernel_rfl) hone ?_; intro w5 hr5 hg5; have hb5 : Below wr.heap.size wr w5 := (below_alloc wr _).trans (grown_below hg5 (by simp) (fun k hk => by cases hk; exact Nat.le_refl _)); have e0 := hr5.out.cell (j := 0) rfl; have e1 := hr5.out.cell (j := 1) rfl)
          | (go_at_call 74; refine (HCM.out w5 hb5).mono ?_; rintro e w5 ⟨rfl, rfl⟩))
        go_ret
        refine ⟨ret_bool (decide_eq_false fun h => ?_).symm, below_and hB (Nat.le_refl _) hb5⟩
        have := hI.out.1 (HR.out.1 h)
        rw [HD.out, chk_cons] at this
        have h3 := this.1.2.2.2
        rw [HL.out.2] at h3
        omega
      have g3' : decide ((64 : Int) < L2) = false := by simp; omega
      go_wp2_with (first
        | (refine wpList_load_mid rfl _ _ rfl b (off + q * 2) rfl [.slice a1 L1 c1, .slice a2 L2 c2] _ hrng Tryz.underlying73 rfl (by kernel_rfl) ?_)
        | (refine wl_store rfl _ _ _ rfl wr.heap.size [.slice a1 L1 c1, .slice a2 L2 c2] rfl rfl _ _ hrow0 rfl (by kernel_rfl) hone ?_; intro w5 hr5 hg5; have hb5 : Below wr.heap.size wr w5 := (below_alloc wr _).trans (grown_below hg5 (by simp) (fun k hk => by cases hk; exact Nat.le_refl _)); have e0 := hr5.out.cell (j := 0) rfl; have e1 := hr5.out.cell (j := 1) rfl)
        | (go_at_call 74; refine (HCM.out w5 hb5).mono ?_; rintro e w5 ⟨rfl, rfl⟩))
      go_roundw
      case rel =>
        refine ⟨q + 1, x.1, by omega, by go_num, (t1.mv (Mv.below (below_and hB (Nat.le_refl _) hb5))).1, below_and hB (Nat.le_refl _) hb5, ?_⟩
        have h1 := hI.out
        rw [HD.out, chk_go (by rw [HC.out]; omega) (by rw [HL.out.1]; omega) (by rw [HL.out.2]; omega)] at h1
        exact h1
      case measure => simp [intOf]; omega
    · go_wp2_with fail
      go_ret
      refine ⟨ret_bool (decide_eq_true ?_).symm, hB⟩
      rw [HR.out, hI.out, List.drop_of_length_le (by have := HN.out; omega)]
      exact ⟨trivial, fun e he => by cases he⟩
end Go.Proofs.YteafgdidjdfiiaaGreat
