/- The walks over package lease: where a name is. -/
import Derived.Test.YteafgdidjdfiiaaGreatZj
set_option linter.unusedVariables false
set_option linter.unusedSimpArgs false
namespace Go.Proofs.YteafgdidjdfiiaaGreat
open Go.RowKit Oct Kvl

set_option maxRecDepth 10000 in
/-- lease.find's comparison. -/
theorem findCS_any (w : World) (r : List Value) (x : PEnt) (h : RLea Any w r x) (nv : Value) (n : List Int) (hn : Rd w nv n) :
    Calls Tryz.prog 114 #[.agg r.toArray, nv] w fun e w' => e = .returned (.int .i64 (cmpL x.1 n)) ∧ Below w.heap.size w w' := by
  obtain ⟨a, p, q, rfl, ha, hb⟩ := h
  have B0 := below_alloc w (.cells #[a, .int .i64 p, .int .i64 q] 75)
  have c0 := (Row.new w 75 [a, .int .i64 p, .int .i64 q]).cell (j := 0) rfl
  have hC := compare_any _ a nv x.1 n (ha.mv (Mv.below B0)).1 (hn.below B0)
  go_enter Tryz.func114, Tryz.ntmps114
  go_wp2_with (go_at_call 74; refine hC.mono ?_; rintro e w2 ⟨rfl, rfl⟩)
  go_ret
  exact ⟨rfl, B0⟩

set_option maxRecDepth 10000 in
set_option maxHeartbeats 2000000 in
/-- slices.BinarySearchFunc. -/
theorem searchS_any (w : World) (v : Value) (ys : List PEnt) (h : RL RLea 3 Any w v ys) (nv : Value) (n : List Int) (hn : Rd w nv n) (m : List Int) (hup : up m ys) (hz : ys.length ≤ 64) :
    Calls Tryz.prog 113 #[v, nv, .func (.func 114) #[] #[]] w fun e w' => e = .returned (.tuple #[.int .i64 (pos n ys), .bool (isIn n ys)]) ∧ Below w.heap.size w w' := by
  by_cases hl : 0 < ys.length
  rotate_left
  · obtain rfl : ys = [] := List.eq_nil_of_length_eq_zero (by omega)
    obtain ⟨ao, cap, rfl, _⟩ := h.form
    go_enter Tryz.func113, Tryz.ntmps113
    go_wp2_with fail
    refine wp_loop_rounds 1 ?_; rw [rounds_succ]
    go_wp2_with fail
    go_ret2
    exact ⟨rfl, Below.refl _ _⟩
  obtain ⟨b, off, cap, rfl, hc, hm, _, hb, hx⟩ := h.at hl
  have HX := (show Hid (∀ (i : Nat) (a : PEnt), ys[i]? = some a → ∃ r, r.length = 3 ∧ w.rangeAt b (off + i * 3) r ∧ RLea Any w r a) from hx)
  have HU := (show Hid (up m ys) from hup)
  clear hx h hup hm
  obtain ⟨N, hN⟩ : ∃ N, N = ys.length := ⟨_, rfl⟩
  rw [← hN] at hl hc hz ⊢
  have HN := (show Hid (ys.length = N) from hN.symm)
  clear hN
  have HC := (show Hid (∀ (i : Nat) (a : PEnt), ys[i]? = some a → ∃ s1 p1 q1, w.rangeAt b (off + i * 3) [s1, .int .i64 p1, .int .i64 q1] ∧ ∀ u, Below w.heap.size w u → Calls Tryz.prog 114 #[.agg #[s1, .int .i64 p1, .int .i64 q1], nv] u fun e w' => e = .returned (.int .i64 (cmpL a.1 n)) ∧ Below u.heap.size u w') from fun i a ha => by
    obtain ⟨r, _, hr, s1, p1, q1, rfl, t1, t2⟩ := HX.out i a ha
    exact ⟨s1, p1, q1, hr, fun u hu => findCS_any u [s1, .int .i64 p1, .int .i64 q1] a (mov_lea _ _ _ _ _ _ ⟨_, _, _, rfl, t1, t2⟩ hu.size (Mv.below hu)) nv n (hn.below hu)⟩)
  clear HX
  go_enter Tryz.func113, Tryz.ntmps113
  go_wp2_with fail
  go_loopw [9, 10] (fun s9 s10 wr => ∃ lo hi : Nat, s9 = .int .i64 lo ∧ s10 = .int .i64 hi ∧ lo ≤ hi ∧ hi ≤ N ∧ Below w.heap.size w wr ∧
    Hid ((∀ (t : Nat) (x : PEnt), t < lo → ys[t]? = some x → cmpL x.1 n < 0) ∧ (∀ (t : Nat) (x : PEnt), hi ≤ t → ys[t]? = some x → 0 ≤ cmpL x.1 n))) (fun s9 s10 _ => (intOf s10).toNat - (intOf s9).toNat)
  case atStart => exact ⟨0, N, rfl, rfl, by omega, by omega, Below.refl _ _, ⟨fun t x ht => by omega, fun t x h1 h2 => by have := (List.getElem?_eq_some_iff.1 h2).1; have := HN.out; omega⟩⟩
  case round =>
    obtain ⟨lo, hi, rfl, rfl, hlh, hin, hB, hI⟩ := hrel
    by_cases hlt : lo < hi
    · obtain ⟨x, hx⟩ : ∃ x, ys[(lo + hi) / 2]? = some x := ⟨_, List.getElem?_eq_getElem (by have := HN.out; omega)⟩
      obtain ⟨s1, p1, q1, hrng, hcall⟩ := HC.out _ x hx
      have hrng := rangeAt_block hrng (hB.block b hb)
      have hc1 := hcall wr hB
      have HXX := (show Hid (ys[(lo + hi) / 2]? = some x) from hx)
      obtain ⟨cv, hcv⟩ : ∃ c, cmpL x.1 n = c := ⟨_, rfl⟩
      rw [hcv] at hc1
      have HV := (show Hid (cmpL x.1 n = cv) from hcv)
      clear hx hcv hcall
      by_cases hcl : cv < 0
      · go_wp2_with (first
          | (refine wpList_load_mid rfl _ _ rfl b (off + (lo + hi) / 2 * 3) rfl [s1, .int .i64 p1, .int .i64 q1] _ hrng Tryz.underlying75 rfl (by kernel_rfl) ?_)
          | (go_at_call 114; refine hc1.mono ?_; rintro e w2 ⟨rfl, hb2⟩))
        go_roundw
        case rel =>
          refine ⟨(lo + hi) / 2 + 1, hi, by rw [show ((lo : Int) + (hi : Int)) / 2 + 1 = (((lo + hi) / 2 + 1 : Nat) : Int) by omega], rfl, by omega, hin, below_and hB (Nat.le_refl _) hb2, ⟨fun t y ht hy => ?_, hI.out.2⟩⟩
          rcases Nat.lt_or_ge t ((lo + hi) / 2) with h1 | h1
          · exact cmp_trans (up_get HU.out hy HXX.out h1) (by rw [HV.out]; exact hcl)
          · obtain rfl : t = (lo + hi) / 2 := by omega
            rw [HXX.out] at hy
            injection hy with hy
            rw [← hy, HV.out]; exact hcl
        case measure => simp [intOf]; omega
      · go_wp2_with (first
          | (refine wpList_load_mid rfl _ _ rfl b (off + (lo + hi) / 2 * 3) rfl [s1, .int .i64 p1, .int .i64 q1] _ hrng Tryz.underlying75 rfl (by kernel_rfl) ?_)
          | (go_at_call 114; refine hc1.mono ?_; rintro e w2 ⟨rfl, hb2⟩))
        go_roundw
        case rel =>
          refine ⟨lo, (lo + hi) / 2, rfl, by rw [show ((lo : Int) + (hi : Int)) / 2 = (((lo + hi) / 2 : Nat) : Int) by omega], by omega, by omega, below_and hB (Nat.le_refl _) hb2, ⟨hI.out.1, fun t y ht hy => ?_⟩⟩
          rcases Nat.lt_or_ge ((lo + hi) / 2) t with h1 | h1
          · rcases Int.lt_or_le (cmpL y.1 n) 0 with h2 | h2
            · have h3 := cmp_trans (up_get HU.out HXX.out hy h1) h2
              rw [HV.out] at h3
              omega
            · exact h2
          · obtain rfl : t = (lo + hi) / 2 := by omega
            rw [HXX.out] at hy
            injection hy with hy
            rw [← hy, HV.out]; omega
        case measure => simp [intOf]; omega
    · obtain rfl : lo = hi := by omega
      have hp : pos n ys = lo := pos_of (by have := HN.out; omega) (fun k e hk he => hI.out.1 k e hk he) (fun e he => by have := hI.out.2 lo e (Nat.le_refl _) he; omega)
      by_cases hlN : lo < N
      · obtain ⟨x, hx⟩ : ∃ x, ys[lo]? = some x := ⟨_, List.getElem?_eq_getElem (by have := HN.out; omega)⟩
        obtain ⟨s1, p1, q1, hrng, hcall⟩ := HC.out _ x hx
        have hrng := rangeAt_block hrng (hB.block b hb)
        have hc1 := hcall wr hB
        have HI := (show Hid (isIn n ys = decide (cmpL x.1 n = 0)) from isIn_at (by rw [hp]; exact hx))
        have HP := (show Hid (pos n ys = lo) from hp)
        clear hx hp hcall
        go_wp2_with (first
          | (refine wl_load_mid_w rfl _ _ rfl b (off + lo * 3) rfl [s1, .int .i64 p1, .int .i64 q1] _ hrng Tryz.underlying75 rfl (by kernel_rfl) ?_)
          | (go_at_call 114; refine hc1.mono ?_; rintro e w2 ⟨rfl, hb2⟩))
        go_ret2
        refine ⟨?_, below_and hB (Nat.le_refl _) hb2⟩
        rw [HP.out, HI.out]
        rfl
      · have HI := (show Hid (isIn n ys = false) from isIn_no (by rw [hp, List.getElem?_eq_none (by have := HN.out; omega)]))
        have HP := (show Hid (pos n ys = lo) from hp)
        have hd : decide ((lo : Int) < N) = false := by simp; omega
        clear hp
        go_wp2_with fail
        go_ret2
        refine ⟨?_, hB⟩
        rw [HP.out, HI.out]
        rfl
/-- lease.find. -/
theorem findS_any (w : World) (v : Value) (ys : List PEnt) (h : RL RLea 3 Any w v ys) (nv : Value) (n : List Int) (hn : Rd w nv n) (m : List Int) (hup : up m ys) (hz : ys.length ≤ 64) :
    Calls Tryz.prog 98 #[v, nv] w fun e w' => e = .returned (.tuple #[.int .i64 (pos n ys), .bool (isIn n ys)]) ∧ Below w.heap.size w w' := by
  go_enter Tryz.func98, Tryz.ntmps98
  go_wp2_with fail
  refine (searchS_any w v ys h nv n hn m hup hz).mono ?_
  rintro e w1 ⟨rfl, h1⟩
  go_wp2_with fail
  go_ret2
  exact ⟨rfl, h1⟩
end Go.Proofs.YteafgdidjdfiiaaGreat
