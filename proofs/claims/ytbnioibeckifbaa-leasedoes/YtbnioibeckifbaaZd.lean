/- slices.DeleteFunc of the leases that are over. -/
import Derived.Test.YtbnioibeckifbaaZg
import Derived.Test.YtbnioibeckifbaaKo
set_option linter.unusedVariables false
set_option linter.unusedSimpArgs false
namespace Go.Proofs.Ytbnioibeckifbaa
open Go.RowKit Oct Kvl

/-- The test: is it over? -/
theorem over_any (w : World) (r : List Value) (x : PEnt) (h : RLea Any w r x) (nb : Nat) (now : Int) (hc : w.cell? ⟨nb, 0, none⟩ = some (.int .i64 now)) :
    Calls Try.prog 44 #[.agg r.toArray, .pointer (some ⟨nb, 0, none⟩)] w fun e w' => e = .returned (.bool (decide (lu x.2 ≤ now))) ∧ Below w.heap.size w w' := by
  obtain ⟨a, p, q, rfl, ha, hx⟩ := h
  have hq : lu x.2 = q := by rw [hx]; rfl
  rw [hq]
  have B0 := below_alloc w (.cells #[a, .int .i64 p, .int .i64 q] 50)
  have c0 := (Row.new w 50 [a, .int .i64 p, .int .i64 q]).cell (j := 2) rfl
  have c1 : (w.alloc (.cells #[a, .int .i64 p, .int .i64 q] 50)).cell? ⟨nb, 0, none⟩ = some (.int .i64 now) := keepE B0 hc
  clear hx hq
  go_enter Try.func44, Try.ntmps44
  go_wp2_with fail
  go_ret
  exact ⟨rfl, B0⟩

/-- The first that is over, or none. -/
def ixP (now : Int) (ys : List PEnt) (k : Int) : Prop := (k = -1 ∧ ∀ y ∈ ys, now < lu y.2) ∨ ∃ i : Nat, k = i ∧ i < ys.length ∧ (∀ (j : Nat) (y : PEnt), j < i → ys[j]? = some y → now < lu y.2) ∧ ∀ y, ys[i]? = some y → ¬ now < lu y.2
set_option maxRecDepth 10000 in
set_option maxHeartbeats 2000000 in
/-- slices.IndexFunc. -/
theorem index_any (w : World) (v : Value) (ys : List PEnt) (h : RL RLea 3 Any w v ys) (hl : 0 < ys.length) (hz : ys.length ≤ 64) (nb : Nat) (now : Int) (hc : w.cell? ⟨nb, 0, none⟩ = some (.int .i64 now)) :
    Calls Try.prog 64 #[v, .func (.func 44) #[] #[.pointer (some ⟨nb, 0, none⟩)]] w fun e w' => ∃ k : Int, e = .returned (.int .i64 k) ∧ Below w.heap.size w w' ∧
      ixP now ys k := by
  obtain ⟨b, off, cap, rfl, hcap, hm, _, hb, hx⟩ := h.at hl
  have HX := (show Hid (∀ (i : Nat) (a : PEnt), ys[i]? = some a → ∃ s1 p1 q1, w.rangeAt b (off + i * 3) [s1, .int .i64 p1, .int .i64 q1] ∧ ∀ u, Below w.heap.size w u → Calls Try.prog 44 #[.agg #[s1, .int .i64 p1, .int .i64 q1], .pointer (some ⟨nb, 0, none⟩)] u fun e w' => e = .returned (.bool (decide (lu a.2 ≤ now))) ∧ Below u.heap.size u w') from fun i a ha => by
    obtain ⟨r, _, hr, s1, p1, q1, rfl, t1, t2⟩ := hx i a ha
    exact ⟨s1, p1, q1, hr, fun u hu => over_any u [s1, .int .i64 p1, .int .i64 q1] a (mov_lea _ _ _ _ _ _ ⟨_, _, _, rfl, t1, t2⟩ hu.size (Mv.below hu)) nb now (keepE hu hc)⟩)
  clear hx h
  obtain ⟨N, hN⟩ : ∃ N, N = ys.length := ⟨_, rfl⟩
  rw [← hN] at hl hcap hz ⊢
  have HN := (show Hid (ys.length = N) from hN.symm)
  clear hN
  go_enter Try.func64, Try.ntmps64
  go_wp2_with fail
  go_loopw [8] (fun i wr => ∃ q : Nat, q ≤ N ∧ i = .int .i64 q ∧ Below w.heap.size w wr ∧ Hid (∀ (j : Nat) (y : PEnt), j < q → ys[j]? = some y → now < lu y.2)) (fun i _ => N - (intOf i).toNat)
  case atStart => exact ⟨0, Nat.zero_le _, rfl, Below.refl _ _, fun j y hj => by omega⟩
  case round =>
    obtain ⟨q, hq, rfl, hB, hI⟩ := hrel
    by_cases hql : q < N
    · obtain ⟨x, hx⟩ : ∃ x, ys[q]? = some x := ⟨_, List.getElem?_eq_getElem (by have := HN.out; omega)⟩
      obtain ⟨s1, p1, q1, hrng, hcall⟩ := HX.out q x hx
      have hrng := rangeAt_block hrng (hB.block b hb)
      have hc1 := hcall wr hB
      have HXX := (show Hid (ys[q]? = some x) from hx)
      clear hx hcall
      by_cases ho : lu x.2 ≤ now
      · rw [decide_eq_true ho] at hc1
        go_wp2_with (first
          | (refine wpList_load_mid rfl _ _ rfl b (off + q * 3) rfl [s1, .int .i64 p1, .int .i64 q1] _ hrng Try.underlying50 rfl (by kernel_rfl) ?_)
          | (go_at_call 44; refine hc1.mono ?_; rintro e w2 ⟨rfl, hb2⟩))
        go_ret
        refine ⟨_, rfl, below_and hB (Nat.le_refl _) hb2, .inr ⟨q, rfl, by rw [HN.out]; exact hql, hI.out, fun y hy => ?_⟩⟩
        rw [HXX.out] at hy
        cases hy
        omega
      · rw [decide_eq_false ho] at hc1
        go_wp2_with (first
          | (refine wpList_load_mid rfl _ _ rfl b (off + q * 3) rfl [s1, .int .i64 p1, .int .i64 q1] _ hrng Try.underlying50 rfl (by kernel_rfl) ?_)
          | (go_at_call 44; refine hc1.mono ?_; rintro e w2 ⟨rfl, hb2⟩))
        go_roundw
        case rel =>
          refine ⟨q + 1, by omega, by go_num, below_and hB (Nat.le_refl _) hb2, fun j y hj hy => ?_⟩
          rcases Nat.lt_or_ge j q with h1 | h1
          · exact hI.out j y h1 hy
          · obtain rfl : j = q := by omega
            rw [HXX.out] at hy
            cases hy
            omega
        case measure => simp [intOf]; omega
    · have hqd : decide ((q : Int) < N) = false := by simp; omega
      go_wp2_with fail
      go_ret
      refine ⟨-1, rfl, hB, .inl ⟨rfl, fun y hy => ?_⟩⟩
      obtain ⟨j, hj, rfl⟩ := List.getElem_of_mem hy
      exact hI.out j _ (by have := HN.out; omega) (List.getElem?_eq_getElem hj)
end Go.Proofs.Ytbnioibeckifbaa
