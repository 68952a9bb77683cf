/- The walks over package lease: Holder. -/
import Derived.Test.YtbnioibeckifbaaZt
import Derived.BigQuiet
set_option linter.unusedVariables false
set_option linter.unusedSimpArgs false
namespace Go.Proofs.Ytbnioibeckifbaa
open Go.RowKit Oct Kvl

/-- The first that holds it. -/
theorem hol_at {l : List PEnt} {n : List Int} {now : Int} {q : Nat} {x : PEnt} (h : ∀ (j : Nat) (y : PEnt), j < q → l[j]? = some y → ¬ (now < lu y.2 ∧ y.1 = n)) (hx : l[q]? = some x) (h1 : now < lu x.2) (h2 : x.1 = n) : holS l n now = (lo x.2, IntKind.i64.wrap (lu x.2 - now)) := by
  have : (l.find? fun x => decide (now < lu x.2) && decide (x.1 = n)) = some x := by
    rw [List.find?_eq_some_iff_getElem]
    refine ⟨by simp [h1, h2], q, (List.getElem?_eq_some_iff.1 hx).1, (List.getElem?_eq_some_iff.1 hx).2, fun j hj => ?_⟩
    have := h j _ hj (List.getElem?_eq_getElem (by have := (List.getElem?_eq_some_iff.1 hx).1; omega))
    simp only [Bool.not_eq_true', Bool.and_eq_false_iff, decide_eq_false_iff_not]
    rcases Decidable.em (now < lu (l[j]'(by have := (List.getElem?_eq_some_iff.1 hx).1; omega)).2) with h3 | h3
    · exact .inr fun e => this ⟨h3, e⟩
    · exact .inl h3
  unfold holS
  rw [this]
theorem hol_no {l : List PEnt} {n : List Int} {now : Int} (h : ∀ (j : Nat) (y : PEnt), j < l.length → l[j]? = some y → ¬ (now < lu y.2 ∧ y.1 = n)) : holS l n now = (0, 0) := by
  have : (l.find? fun x => decide (now < lu x.2) && decide (x.1 = n)) = none := by
    rw [List.find?_eq_none]
    intro y hy
    obtain ⟨j, hj, rfl⟩ := List.getElem_of_mem hy
    have := h j _ hj (List.getElem?_eq_getElem hj)
    simpa using this
  unfold holS
  rw [this]
theorem ret_two {a b c d : Int} (h : (a, b) = (c, d)) : Ending.returned (.tuple #[.int .i64 c, .int .i64 d]) = .returned (.tuple #[.int .i64 a, .int .i64 b]) := by cases h; rfl

set_option maxRecDepth 10000 in
set_option maxHeartbeats 2000000 in
/-- lease.Holder. -/
theorem holder_any (w : World) (v : Value) (ys : List PEnt) (h : RL RLea 3 Any w v ys) (nv : Value) (n : List Int) (hn : Rd w nv n) (now : Int) :
    Calls Try.prog 18 #[v, nv, .int .i64 now] w fun e w' => e = .returned (.tuple #[.int .i64 (holS ys n now).1, .int .i64 (holS ys n now).2]) ∧ Below w.heap.size w w' := by
  by_cases hl : 0 < ys.length
  rotate_left
  · obtain rfl : ys = [] := List.eq_nil_of_length_eq_zero (by omega)
    obtain ⟨ao, cap, rfl, _⟩ := h.form
    go_enter Try.func18, Try.ntmps18
    go_wp2_with fail
    refine wp_loop_rounds 1 ?_; rw [rounds_succ]
    go_wp2_with fail
    go_ret2
    exact ⟨rfl, Below.refl _ _⟩
  obtain ⟨b, off, cap, rfl, hc, hm, _, hb, hx⟩ := h.at hl
  have HX := (show Hid (∀ (i : Nat) (a : PEnt), ys[i]? = some a → ∃ r, r.length = 3 ∧ w.rangeAt b (off + i * 3) r ∧ RLea Any w r a) from hx)
  have hlm : (ys.length : Int) ≤ 9223372036854775807 := by unfold maxLen at hm; omega
  clear hx h
  obtain ⟨N, hN⟩ : ∃ n, n = ys.length := ⟨_, rfl⟩
  rw [← hN] at hlm hl hc ⊢
  have HN := (show Hid (ys.length = N) from hN.symm)
  clear hN
  go_enter Try.func18, Try.ntmps18
  go_wp2_with fail
  go_loopw [12] (fun i wr => ∃ q : Nat, q ≤ N ∧ i = .int .i64 q ∧ Below w.heap.size w wr ∧ Hid (∀ (j : Nat) (y : PEnt), j < q → ys[j]? = some y → ¬ (now < lu y.2 ∧ y.1 = n))) (fun i _ => N - (intOf i).toNat)
  case atStart => exact ⟨0, by omega, rfl, Below.refl _ _, fun j y hj => by omega⟩
  case round =>
    obtain ⟨q, hq, rfl, hB, hI⟩ := hrel
    by_cases hql : q < N
    · obtain ⟨x, hx⟩ : ∃ x, ys[q]? = some x := ⟨_, List.getElem?_eq_getElem (by have := HN.out; omega)⟩
      obtain ⟨r, _, hrng, s1, p1, q1, rfl, t1, t2⟩ := HX.out q x hx
      have hrng := rangeAt_block hrng (hB.block b hb)
      have hrow0 := Row.new wr 50 [.slice none 0 0, .int .i64 0, .int .i64 0]
      have HP := (show Hid (lo x.2 = p1 ∧ lu x.2 = q1) by rw [t2]; exact ⟨rfl, rfl⟩)
      have hone := onL3 (p := p1) (q := q1) t1.one
      have HXX := (show Hid (ys[q]? = some x) from hx)
      have nxt : ¬ (now < q1 ∧ x.1 = n) → ∀ (j : Nat) (y : PEnt), j < q + 1 → ys[j]? = some y → ¬ (now < lu y.2 ∧ y.1 = n) := fun hno j y hj hy => by
        rcases Nat.lt_or_ge j q with h1 | h1
        · exact hI.out j y h1 hy
        · obtain rfl : j = q := by omega
          rw [HXX.out] at hy
          cases hy
          rw [HP.out.2]
          exact hno
      have NXT := (show Hid (¬ (now < q1 ∧ x.1 = n) → ∀ (j : Nat) (y : PEnt), j < q + 1 → ys[j]? = some y → ¬ (now < lu y.2 ∧ y.1 = n)) from nxt)
      clear hx t2 nxt
      have hcm := fun u (hu : Below wr.heap.size wr u) => equalB_any u s1 nv x.1 n (t1.mv (Mv.below (below_and hB (Nat.le_refl _) hu))).1 (hn.below (below_and hB (Nat.le_refl _) hu))
      by_cases g1 : now < q1
      · by_cases g2 : x.1 = n
        · rw [decide_eq_true g2] at hcm
          have HCM := (show Hid (∀ u, Below wr.heap.size wr u → Calls Try.prog 38 #[s1, nv] u fun e w' => e = .returned (.bool true) ∧ w' = u) from hcm)
          have HH := (show Hid (holS ys n now = (p1, IntKind.i64.wrap (q1 - now))) by
            show _ = _
            rw [hol_at hI.out HXX.out (by rw [HP.out.2]; exact g1) g2, HP.out.1, HP.out.2])
          clear hcm g2
          go_upto_region 5 with (first
            | (refine wpList_load_mid rfl _ _ rfl b (off + q * 3) rfl [s1, .int .i64 p1, .int .i64 q1] _ hrng Try.underlying50 rfl (by kernel_rfl) ?_)
            | (refine wl_store rfl _ _ _ rfl wr.heap.size [s1, .int .i64 p1, .int .i64 q1] rfl rfl _ _ hrow0 rfl (by kernel_rfl) hone ?_; intro w5 hr5 hg5; have hb5 : Below wr.heap.size wr w5 := (below_alloc wr _).trans (grown_below hg5 (by simp) (fun k hk => by cases hk; exact Nat.le_refl _)); have e0 := hr5.out.cell (j := 0) rfl; have e1 := hr5.out.cell (j := 1) rfl; have e2 := hr5.out.cell (j := 2) rfl)
            | (go_at_call 38; refine (HCM.out w5 hb5).mono ?_; rintro e w5 ⟨rfl, rfl⟩))
          go_big_quiet (fail)
          go_wp2_with fail
          go_ret2
          refine ⟨?_, bel_dnE (below_and hB (Nat.le_refl _) hb5) _⟩
          refine ret_two ?_
          rw [← IntWalk.i64_left]
          exact HH.out
        · rw [decide_eq_false g2] at hcm
          have HCM := (show Hid (∀ u, Below wr.heap.size wr u → Calls Try.prog 38 #[s1, nv] u fun e w' => e = .returned (.bool false) ∧ w' = u) from hcm)
          have G2 := (show Hid (¬ x.1 = n) from g2)
          clear hcm g2
          go_wp2_with (first
            | (refine wpList_load_mid rfl _ _ rfl b (off + q * 3) rfl [s1, .int .i64 p1, .int .i64 q1] _ hrng Try.underlying50 rfl (by kernel_rfl) ?_)
            | (refine wl_store rfl _ _ _ rfl wr.heap.size [s1, .int .i64 p1, .int .i64 q1] rfl rfl _ _ hrow0 rfl (by kernel_rfl) hone ?_; intro w5 hr5 hg5; have hb5 : Below wr.heap.size wr w5 := (below_alloc wr _).trans (grown_below hg5 (by simp) (fun k hk => by cases hk; exact Nat.le_refl _)); have e0 := hr5.out.cell (j := 0) rfl; have e1 := hr5.out.cell (j := 1) rfl; have e2 := hr5.out.cell (j := 2) rfl)
            | (go_at_call 38; refine (HCM.out w5 hb5).mono ?_; rintro e w5 ⟨rfl, rfl⟩))
          go_roundw
          case rel => exact ⟨q + 1, by omega, by go_num, below_and hB (Nat.le_refl _) hb5, NXT.out fun h => G2.out h.2⟩
          case measure => simp [intOf]; omega
      · have g1' : decide (now < q1) = false := by simp; omega
        clear hcm
        go_wp2_with (first
          | (refine wpList_load_mid rfl _ _ rfl b (off + q * 3) rfl [s1, .int .i64 p1, .int .i64 q1] _ hrng Try.underlying50 rfl (by kernel_rfl) ?_)
          | (refine wl_store rfl _ _ _ rfl wr.heap.size [s1, .int .i64 p1, .int .i64 q1] rfl rfl _ _ hrow0 rfl (by kernel_rfl) hone ?_; intro w5 hr5 hg5; have hb5 : Below wr.heap.size wr w5 := (below_alloc wr _).trans (grown_below hg5 (by simp) (fun k hk => by cases hk; exact Nat.le_refl _)); have e0 := hr5.out.cell (j := 0) rfl; have e1 := hr5.out.cell (j := 1) rfl; have e2 := hr5.out.cell (j := 2) rfl))
        go_roundw
        case rel => exact ⟨q + 1, by omega, by go_num, below_and hB (Nat.le_refl _) hb5, NXT.out fun h => g1 h.1⟩
        case measure => simp [intOf]; omega
    · have hqd : decide ((q : Int) < N) = false := by simp; omega
      have HH := (show Hid (holS ys n now = (0, 0)) from hol_no fun j y hj hy => hI.out j y (by have := HN.out; omega) hy)
      go_wp2_with fail
      go_ret2
      exact ⟨ret_two HH.out, hB⟩
end Go.Proofs.Ytbnioibeckifbaa
