/- slices.DeleteFunc of the leases that are over: its walk. -/
import Derived.Test.YteafgdidjdfiiaaGreatJ04
import Derived.Test.YteafgdidjdfiiaaGreatJ06
import Derived.Test.YteafgdidjdfiiaaGreatZh
import Derived.Test.YteafgdidjdfiiaaGreatZg
import Derived.Test.YteafgdidjdfiiaaGreatJ03
section
set_option linter.unusedVariables false
set_option linter.unusedSimpArgs false
namespace Go.Proofs.YteafgdidjdfiiaaGreat
open Go.RowKit Oct Kvl

theorem isNaN_any (w : World) (n : Int) : Calls Tryz.prog 102 #[.int .i64 n] w fun e w' => e = .returned (.bool false) ∧ w' = w := by
  have h : (n != n) = false := by simp
  go_enter Tryz.func102, Tryz.ntmps102
  go_wp2_with fail
  go_ret
  exact ⟨rfl, rfl⟩
set_option maxRecDepth 10000 in
theorem compareN_any (w : World) (a b : Int) : Calls Tryz.prog 83 #[.int .i64 a, .int .i64 b] w fun e w' => e = .returned (.int .i64 (cmpL [a] [b])) ∧ w' = w := by
  have h0 := isNaN_any w a
  have h1 := isNaN_any w b
  have H1 := (show Hid (Calls Tryz.prog 102 #[.int .i64 b] w fun e w' => e = .returned (.bool false) ∧ w' = w) from h1)
  clear h1
  have hc : cmpL [a] [b] = if a < b then -1 else if b < a then 1 else 0 := rfl
  rw [hc]
  clear hc
  by_cases g1 : a < b
  · rw [if_pos g1]
    go_enter Tryz.func83, Tryz.ntmps83
    go_upto_region 2 with (go_at_call 102; refine h0.mono ?_; rintro e w ⟨rfl, rfl⟩)
    go_wp2_with (go_at_call 102; refine H1.out.mono ?_; rintro e w ⟨rfl, rfl⟩)
    go_ret
    exact ⟨rfl, rfl⟩
  · rw [if_neg g1]
    have g1' : decide (a < b) = false := by simp; omega
    by_cases g2 : b < a
    · rw [if_pos g2]
      go_enter Tryz.func83, Tryz.ntmps83
      go_upto_region 2 with (go_at_call 102; refine h0.mono ?_; rintro e w ⟨rfl, rfl⟩)
      go_wp2_with (go_at_call 102; refine H1.out.mono ?_; rintro e w ⟨rfl, rfl⟩)
      go_ret
      exact ⟨rfl, rfl⟩
    · rw [if_neg g2]
      have g2' : decide (b < a) = false := by simp; omega
      go_enter Tryz.func83, Tryz.ntmps83
      go_upto_region 2 with (go_at_call 102; refine h0.mono ?_; rintro e w ⟨rfl, rfl⟩)
      go_wp2_with (go_at_call 102; refine H1.out.mono ?_; rintro e w ⟨rfl, rfl⟩)
      go_ret
      exact ⟨rfl, rfl⟩
set_option maxRecDepth 10000 in
/-- session.keep's comparison. -/
theorem findCN_any (w : World) (r : List Value) (x : PEnt) (h : RSes Any w r x) (cc : Int) :
    Calls Tryz.prog 82 #[.agg r.toArray, .int .i64 cc] w fun e w' => e = .returned (.int .i64 (cmpL x.1 [cc])) ∧ Below w.heap.size w w' := by
  obtain ⟨c, d, k, a, l, rfl, ha, hx⟩ := h
  have B0 := below_alloc w (.cells #[.int .i64 c, .int .i64 d, .int .i64 k, a] 77)
  have c0 := (Row.new w 77 [.int .i64 c, .int .i64 d, .int .i64 k, a]).cell (j := 0) rfl
  have hC := compareN_any (w.alloc (.cells #[.int .i64 c, .int .i64 d, .int .i64 k, a] 77)) c cc
  have e1 : cmpL x.1 [cc] = cmpL [c] [cc] := by rw [hx]
  rw [e1]
  generalize cmpL [c] [cc] = cv at *
  clear e1 hx
  go_enter Tryz.func82, Tryz.ntmps82
  go_wp2_with (go_at_call 83; refine hC.mono ?_; rintro e w2 ⟨rfl, rfl⟩)
  go_ret
  exact ⟨rfl, B0⟩

set_option maxRecDepth 10000 in
set_option maxHeartbeats 2000000 in
/-- slices.BinarySearchFunc. -/
theorem searchN_any (w : World) (v : Value) (ys : List PEnt) (h : RL RSes 4 Any w v ys) (cc : Int) (m : List Int) (hup : up m ys) (hz : ys.length ≤ 64) :
    Calls Tryz.prog 81 #[v, .int .i64 cc, .func (.func 82) #[] #[]] w fun e w' => e = .returned (.tuple #[.int .i64 (pos [cc] ys), .bool (isIn [cc] ys)]) ∧ Below w.heap.size w w' := by
  by_cases hl : 0 < ys.length
  rotate_left
  · obtain rfl : ys = [] := List.eq_nil_of_length_eq_zero (by omega)
    obtain ⟨ao, cap, rfl, _⟩ := h.form
    go_enter Tryz.func81, Tryz.ntmps81
    go_wp2_with fail
    refine wp_loop_rounds 1 ?_; rw [rounds_succ]
    go_wp2_with fail
    go_ret2
    exact ⟨rfl, Below.refl _ _⟩
  obtain ⟨b, off, cap, rfl, hc, hm, _, hb, hx⟩ := h.at hl
  have HX := (show Hid (∀ (i : Nat) (a : PEnt), ys[i]? = some a → ∃ r, r.length = 4 ∧ w.rangeAt b (off + i * 4) r ∧ RSes Any w r a) from hx)
  have HU := (show Hid (up m ys) from hup)
  clear hx h hup hm
  obtain ⟨N, hN⟩ : ∃ N, N = ys.length := ⟨_, rfl⟩
  rw [← hN] at hl hc hz ⊢
  have HN := (show Hid (ys.length = N) from hN.symm)
  clear hN
  have HC := (show Hid (∀ (i : Nat) (a : PEnt), ys[i]? = some a → ∃ c1 d1 k1 s1, w.rangeAt b (off + i * 4) [.int .i64 c1, .int .i64 d1, .int .i64 k1, s1] ∧ ∀ u, Below w.heap.size w u → Calls Tryz.prog 82 #[.agg #[.int .i64 c1, .int .i64 d1, .int .i64 k1, s1], .int .i64 cc] u fun e w' => e = .returned (.int .i64 (cmpL a.1 [cc])) ∧ Below u.heap.size u w') from fun i a ha => by
    obtain ⟨r, _, hr, c1, d1, k1, s1, l1, rfl, t1, t2⟩ := HX.out i a ha
    exact ⟨c1, d1, k1, s1, hr, fun u hu => findCN_any u [.int .i64 c1, .int .i64 d1, .int .i64 k1, s1] a (mov_ses _ _ _ _ _ _ ⟨_, _, _, _, _, rfl, t1, t2⟩ hu.size (Mv.below hu)) cc⟩)
  clear HX
  go_enter Tryz.func81, Tryz.ntmps81
  go_wp2_with fail
  go_loopw [9, 10] (fun s9 s10 wr => ∃ lo hi : Nat, s9 = .int .i64 lo ∧ s10 = .int .i64 hi ∧ lo ≤ hi ∧ hi ≤ N ∧ Below w.heap.size w wr ∧
    Hid ((∀ (t : Nat) (x : PEnt), t < lo → ys[t]? = some x → cmpL x.1 [cc] < 0) ∧ (∀ (t : Nat) (x : PEnt), hi ≤ t → ys[t]? = some x → 0 ≤ cmpL x.1 [cc]))) (fun s9 s10 _ => (intOf s10).toNat - (intOf s9).toNat)
  case atStart => exact ⟨0, N, rfl, rfl, by omega, by omega, Below.refl _ _, ⟨fun t x ht => by omega, fun t x h1 h2 => by have := (List.getElem?_eq_some_iff.1 h2).1; have := HN.out; omega⟩⟩
  case round =>
    obtain ⟨lo, hi, rfl, rfl, hlh, hin, hB, hI⟩ := hrel
    by_cases hlt : lo < hi
    · obtain ⟨x, hx⟩ : ∃ x, ys[(lo + hi) / 2]? = some x := ⟨_, List.getElem?_eq_getElem (by have := HN.out; omega)⟩
      obtain ⟨c1, d1, k1, s1, hrng, hcall⟩ := HC.out _ x hx
      have hrng := rangeAt_block hrng (hB.block b hb)
      have hc1 := hcall wr hB
      have HXX := (show Hid (ys[(lo + hi) / 2]? = some x) from hx)
      obtain ⟨cv, hcv⟩ : ∃ c, cmpL x.1 [cc] = c := ⟨_, rfl⟩
      rw [hcv] at hc1
      have HV := (show Hid (cmpL x.1 [cc] = cv) from hcv)
      clear hx hcv hcall
      by_cases hcl : cv < 0
      · go_wp2_with (first
          | (refine wpList_load_mid rfl _ _ rfl b (off + (lo + hi) / 2 * 4) rfl [.int .i64 c1, .int .i64 d1, .int .i64 k1, s1] _ hrng Tryz.underlying77 rfl (by kernel_rfl) ?_)
          | (go_at_call 82; refine hc1.mono ?_; rintro e w2 ⟨rfl, hb2⟩))
        go_roundw
        case rel =>
          refine ⟨(lo + hi) / 2 + 1, hi, by rw [show ((lo : Int) + (hi : Int)) / 2 + 1 = (((lo + hi) / 2 + 1 : Nat) : Int) by omega], rfl, by omega, hin, below_and hB (Nat.le_refl _) hb2, ⟨fun t y ht hy => ?_, hI.out.2⟩⟩
          rcases Nat.lt_or_ge t ((lo + hi) / 2) with h1 | h1
          · exact cmp_trans (up_get HU.out hy HXX.out h1) (by rw [HV.out]; exact hcl)
          · obtain rfl : t = (lo + hi) / 2 := by omega
            rw [HXX.out] at hy
            injection hy with hy
            rw [← hy, HV.out]; exact hcl
        case measure => simp [intOf]; omega
      · go_wp2_with (first
          | (refine wpList_load_mid rfl _ _ rfl b (off + (lo + hi) / 2 * 4) rfl [.int .i64 c1, .int .i64 d1, .int .i64 k1, s1] _ hrng Tryz.underlying77 rfl (by kernel_rfl) ?_)
          | (go_at_call 82; refine hc1.mono ?_; rintro e w2 ⟨rfl, hb2⟩))
        go_roundw
        case rel =>
          refine ⟨lo, (lo + hi) / 2, rfl, by rw [show ((lo : Int) + (hi : Int)) / 2 = (((lo + hi) / 2 : Nat) : Int) by omega], by omega, by omega, below_and hB (Nat.le_refl _) hb2, ⟨hI.out.1, fun t y ht hy => ?_⟩⟩
          rcases Nat.lt_or_ge ((lo + hi) / 2) t with h1 | h1
          · rcases Int.lt_or_le (cmpL y.1 [cc]) 0 with h2 | h2
            · have h3 := cmp_trans (up_get HU.out HXX.out hy h1) h2
              rw [HV.out] at h3
              omega
            · exact h2
          · obtain rfl : t = (lo + hi) / 2 := by omega
            rw [HXX.out] at hy
            injection hy with hy
            rw [← hy, HV.out]; omega
        case measure => simp [intOf]; omega
    · obtain rfl : lo = hi := by omega
      have hp : pos [cc] ys = lo := pos_of (by have := HN.out; omega) (fun k e hk he => hI.out.1 k e hk he) (fun e he => by have := hI.out.2 lo e (Nat.le_refl _) he; omega)
      by_cases hlN : lo < N
      · obtain ⟨x, hx⟩ : ∃ x, ys[lo]? = some x := ⟨_, List.getElem?_eq_getElem (by have := HN.out; omega)⟩
        obtain ⟨c1, d1, k1, s1, hrng, hcall⟩ := HC.out _ x hx
        have hrng := rangeAt_block hrng (hB.block b hb)
        have hc1 := hcall wr hB
        have HI := (show Hid (isIn [cc] ys = decide (cmpL x.1 [cc] = 0)) from isIn_at (by rw [hp]; exact hx))
        have HP := (show Hid (pos [cc] ys = lo) from hp)
        clear hx hp hcall
        go_wp2_with (first
          | (refine wl_load_mid_w rfl _ _ rfl b (off + lo * 4) rfl [.int .i64 c1, .int .i64 d1, .int .i64 k1, s1] _ hrng Tryz.underlying77 rfl (by kernel_rfl) ?_)
          | (go_at_call 82; refine hc1.mono ?_; rintro e w2 ⟨rfl, hb2⟩))
        go_ret2
        refine ⟨?_, below_and hB (Nat.le_refl _) hb2⟩
        rw [HP.out, HI.out]
        rfl
      · have HI := (show Hid (isIn [cc] ys = false) from isIn_no (by rw [hp, List.getElem?_eq_none (by have := HN.out; omega)]))
        have HP := (show Hid (pos [cc] ys = lo) from hp)
        have hd : decide ((lo : Int) < N) = false := by simp; omega
        clear hp
        go_wp2_with fail
        go_ret2
        refine ⟨?_, hB⟩
        rw [HP.out, HI.out]
        rfl
end Go.Proofs.YteafgdidjdfiiaaGreat
end

section
set_option linter.unusedVariables false
set_option linter.unusedSimpArgs false
namespace Go.Proofs.YteafgdidjdfiiaaGreat
open Go.RowKit Oct Kvl

/-- The test: is it over? -/
theorem over_any (w : World) (r : List Value) (x : PEnt) (h : RLea Any w r x) (nb : Nat) (now : Int) (hc : w.cell? ⟨nb, 0, none⟩ = some (.int .i64 now)) :
    Calls Tryz.prog 97 #[.agg r.toArray, .pointer (some ⟨nb, 0, none⟩)] w fun e w' => e = .returned (.bool (decide (lu x.2 ≤ now))) ∧ Below w.heap.size w w' := by
  obtain ⟨a, p, q, rfl, ha, hx⟩ := h
  have hq : lu x.2 = q := by rw [hx]; rfl
  rw [hq]
  have B0 := below_alloc w (.cells #[a, .int .i64 p, .int .i64 q] 75)
  have c0 := (Row.new w 75 [a, .int .i64 p, .int .i64 q]).cell (j := 2) rfl
  have c1 : (w.alloc (.cells #[a, .int .i64 p, .int .i64 q] 75)).cell? ⟨nb, 0, none⟩ = some (.int .i64 now) := keepE B0 hc
  clear hx hq
  go_enter Tryz.func97, Tryz.ntmps97
  go_wp2_with fail
  go_ret
  exact ⟨rfl, B0⟩

/-- The first that is over, or none. -/
def ixP (now : Int) (ys : List PEnt) (k : Int) : Prop := (k = -1 ∧ ∀ y ∈ ys, now < lu y.2) ∨ ∃ i : Nat, k = i ∧ i < ys.length ∧ (∀ (j : Nat) (y : PEnt), j < i → ys[j]? = some y → now < lu y.2) ∧ ∀ y, ys[i]? = some y → ¬ now < lu y.2
set_option maxRecDepth 10000 in
set_option maxHeartbeats 2000000 in
/-- slices.IndexFunc. -/
theorem index_any (w : World) (v : Value) (ys : List PEnt) (h : RL RLea 3 Any w v ys) (hl : 0 < ys.length) (hz : ys.length ≤ 64) (nb : Nat) (now : Int) (hc : w.cell? ⟨nb, 0, none⟩ = some (.int .i64 now)) :
    Calls Tryz.prog 112 #[v, .func (.func 97) #[] #[.pointer (some ⟨nb, 0, none⟩)]] w fun e w' => ∃ k : Int, e = .returned (.int .i64 k) ∧ Below w.heap.size w w' ∧
      ixP now ys k := by
  obtain ⟨b, off, cap, rfl, hcap, hm, _, hb, hx⟩ := h.at hl
  have HX := (show Hid (∀ (i : Nat) (a : PEnt), ys[i]? = some a → ∃ s1 p1 q1, w.rangeAt b (off + i * 3) [s1, .int .i64 p1, .int .i64 q1] ∧ ∀ u, Below w.heap.size w u → Calls Tryz.prog 97 #[.agg #[s1, .int .i64 p1, .int .i64 q1], .pointer (some ⟨nb, 0, none⟩)] u fun e w' => e = .returned (.bool (decide (lu a.2 ≤ now))) ∧ Below u.heap.size u w') from fun i a ha => by
    obtain ⟨r, _, hr, s1, p1, q1, rfl, t1, t2⟩ := hx i a ha
    exact ⟨s1, p1, q1, hr, fun u hu => over_any u [s1, .int .i64 p1, .int .i64 q1] a (mov_lea _ _ _ _ _ _ ⟨_, _, _, rfl, t1, t2⟩ hu.size (Mv.below hu)) nb now (keepE hu hc)⟩)
  clear hx h
  obtain ⟨N, hN⟩ : ∃ N, N = ys.length := ⟨_, rfl⟩
  rw [← hN] at hl hcap hz ⊢
  have HN := (show Hid (ys.length = N) from hN.symm)
  clear hN
  go_enter Tryz.func112, Tryz.ntmps112
  go_wp2_with fail
  go_loopw [8] (fun i wr => ∃ q : Nat, q ≤ N ∧ i = .int .i64 q ∧ Below w.heap.size w wr ∧ Hid (∀ (j : Nat) (y : PEnt), j < q → ys[j]? = some y → now < lu y.2)) (fun i _ => N - (intOf i).toNat)
  case atStart => exact ⟨0, Nat.zero_le _, rfl, Below.refl _ _, fun j y hj => by omega⟩
  case round =>
    obtain ⟨q, hq, rfl, hB, hI⟩ := hrel
    by_cases hql : q < N
    · obtain ⟨x, hx⟩ : ∃ x, ys[q]? = some x := ⟨_, List.getElem?_eq_getElem (by have := HN.out; omega)⟩
      obtain ⟨s1, p1, q1, hrng, hcall⟩ := HX.out q x hx
      have hrng := rangeAt_block hrng (hB.block b hb)
      have hc1 := hcall wr hB
      have HXX := (show Hid (ys[q]? = some x) from hx)
      clear hx hcall
      by_cases ho : lu x.2 ≤ now
      · rw [decide_eq_true ho] at hc1
        go_wp2_with (first
          | (refine wpList_load_mid rfl _ _ rfl b (off + q * 3) rfl [s1, .int .i64 p1, .int .i64 q1] _ hrng Tryz.underlying75 rfl (by kernel_rfl) ?_)
          | (go_at_call 97; refine hc1.mono ?_; rintro e w2 ⟨rfl, hb2⟩))
        go_ret
        refine ⟨_, rfl, below_and hB (Nat.le_refl _) hb2, .inr ⟨q, rfl, by rw [HN.out]; exact hql, hI.out, fun y hy => ?_⟩⟩
        rw [HXX.out] at hy
        cases hy
        omega
      · rw [decide_eq_false ho] at hc1
        go_wp2_with (first
          | (refine wpList_load_mid rfl _ _ rfl b (off + q * 3) rfl [s1, .int .i64 p1, .int .i64 q1] _ hrng Tryz.underlying75 rfl (by kernel_rfl) ?_)
          | (go_at_call 97; refine hc1.mono ?_; rintro e w2 ⟨rfl, hb2⟩))
        go_roundw
        case rel =>
          refine ⟨q + 1, by omega, by go_num, below_and hB (Nat.le_refl _) hb2, fun j y hj hy => ?_⟩
          rcases Nat.lt_or_ge j q with h1 | h1
          · exact hI.out j y h1 hy
          · obtain rfl : j = q := by omega
            rw [HXX.out] at hy
            cases hy
            omega
        case measure => simp [intOf]; omega
    · have hqd : decide ((q : Int) < N) = false := by simp; omega
      go_wp2_with fail
      go_ret
      refine ⟨-1, rfl, hB, .inl ⟨rfl, fun y hy => ?_⟩⟩
      obtain ⟨j, hj, rfl⟩ := List.getElem_of_mem hy
      exact hI.out j _ (by have := HN.out; omega) (List.getElem?_eq_getElem hj)
end Go.Proofs.YteafgdidjdfiiaaGreat
end

section
set_option linter.unusedVariables false
set_option linter.unusedSimpArgs false
namespace Go.Proofs.YteafgdidjdfiiaaGreat
open Go.RowKit Oct Kvl

theorem spl_take (C r : List Value) (p : Nat) (h : p + r.length ≤ C.length) : (splice C p r).take (p + r.length) = C.take p ++ r := by
  have h2 : (C.take p).length = p := by rw [List.length_take]; omega
  unfold splice
  rw [← List.append_assoc, List.take_append_of_le_length (by simp only [List.length_append, h2]; omega), List.take_of_length_le (by simp only [List.length_append, h2]; omega)]
theorem spl_front (C r : List Value) (p m : Nat) (h : p ≤ C.length) (hm : m ≤ p) : (splice C p r).take m = C.take m := by
  have h2 : (C.take p).length = p := by rw [List.length_take]; omega
  unfold splice
  rw [List.take_append_of_le_length (by omega), List.take_take, Nat.min_eq_left hm]
theorem spl_far (C r : List Value) (p t : Nat) (h : p + r.length ≤ C.length) (ht : p + r.length ≤ t) : (splice C p r)[t]? = C[t]? := by
  have h2 : (C.take p).length = p := by rw [List.length_take]; omega
  unfold splice
  rw [List.getElem?_append_right (by omega), List.getElem?_append_right (by omega), List.getElem?_drop, h2]
  congr 1
  omega
theorem zeroN_one {zs : List Value} (h1 : ∀ v ∈ zs, v.oneCell' = true) (h0 : 0 < zs.length) (n : Nat) : ∀ v ∈ (Builtin.zeroCells zs.toArray n).toList, v.oneCell' = true := by
  intro v hv
  have hv' : v ∈ Builtin.zeroCells zs.toArray n := by simpa using hv
  unfold Builtin.zeroCells at hv'
  obtain ⟨i, _, rfl⟩ := Array.mem_map.1 hv'
  have hlt : i % zs.toArray.size < zs.length := by simpa using Nat.mod_lt i h0
  refine h1 _ ?_
  have e : zs.toArray[i % zs.toArray.size]! = zs[i % zs.toArray.size] := by
    rw [getElem!_pos zs.toArray _ (by simpa using hlt)]
    simp
  rw [e]
  exact List.getElem_mem _
section
variable {P : Program}
/-- 'clear(s)' of records in a row. -/
theorem wl_clearN {ops : Array Oper} {rest : List Oper} {o : Oper} {a : Act} {w : World} {Q : Exit → Act → World → Prop} (hgd : o.guard = none) (s : Operand) (T : TypeId)
    (ho : o.op = .call { callee := .builtin .clear, args := #[s], argTypes := #[T] }) (elem : TypeId) (i : TypeInfo) (z : Value) (zs : List Value) (hu : P.underlying T = some (.slice elem)) (hi : P.info? elem = some i) (hz : i.zero = some z) (hzc : z.cells = zs.toArray) (h0 : 0 < zs.length)
    (n cap g off : Nat) (hn : 0 < n) (hs : a.eval s = .slice (some ⟨g, off, none⟩) n cap) (cur : List Value) (t : TypeId) (hg : Row w g t cur) (hfit : off + n * zs.length ≤ cur.length) (h1 : ∀ v ∈ zs, v.oneCell' = true)
    (k : ∀ w' zz, Hid (zz.length = n * zs.length) → Hid (Row w' g t (splice cur off zz)) → w.grownBy w' (some g) → wpList P ops Q rest (a.put o.dst (.tuple #[])) w') : wpList P ops Q (o :: rest) a w :=
  wpList_plain hgd fun _ hK => by
    obtain ⟨m, rfl⟩ : ∃ m, n = m + 1 := ⟨n - 1, by omega⟩
    have hsz : (Builtin.zeroCells zs.toArray (m + 1)).toList.length = (m + 1) * zs.length := by rw [Array.length_toList, size_zeroCells]; simp
    have hst := run_storeCells_at P g off t (Builtin.zeroCells zs.toArray (m + 1)).toList 0 cur.toArray w hg (by rw [hsz]; simpa using hfit) (zeroN_one h1 h0 _)
    unfold Oper.wp
    have hr : (Builtin.clear_ #[T] o.type #[.slice (some ⟨g, off, none⟩) (m + 1) cap]).run P w = .ok (.tuple #[]) (w.setRow g (splice cur off (Builtin.zeroCells zs.toArray (m + 1)).toList).toArray) := by
      simp [Builtin.clear_, run_underlying hu, zeroValue, typeInfo, hi, hz, hzc, hst, splice]
    simp [execOp, ho, resolve, invoke, builtin, hs, hr, Result.andThen]
    exact hK _ _ (k _ _ hsz (hg.setRow _) (grown_setRow _ _ _))
end
/-- Of a lease's cells: it isn't over. -/
def lvr (now : Int) (r : List Value) : Bool := match r with | [_, _, Value.int _ q] => decide (now < q) | _ => false
theorem lvr_lea {G : Nat → Prop} {w : World} {r : List Value} {x : PEnt} {now : Int} (h : OLea G w r x) : lvr now r = decide (now < lu x.2) := by
  obtain ⟨a, p, q, rfl, _, hx⟩ := h
  rw [hx]
  rfl
theorem All2.filt {α β : Type} {R : α → β → Prop} {p : α → Bool} {q : β → Bool} : ∀ {xs : List α} {zs : List β}, All2 R xs zs → (∀ x z, R x z → p x = q z) → All2 R (xs.filter p) (zs.filter q)
  | [], [], _, _ => trivial
  | x :: xs, z :: zs, h, hp => by
    have ih := All2.filt (xs := xs) (zs := zs) h.2 hp
    rw [List.filter_cons, List.filter_cons, hp x z h.1]
    split
    · exact ⟨h.1, ih⟩
    · exact ih
  | [], _ :: _, h, _ => h.elim
  | _ :: _, [], h, _ => h.elim
/-- A row of which what is kept of the first j has gone to the front. -/
structure Kep (g n cap i j : Nat) (now : Int) (w0 w : World) (cur : List Value) (rows : List (List Value)) : Prop where
  grw : w0.grownBy w (some g)
  ex : ∃ cur', Row w g 75 cur' ∧ cur'.length = cap * 3 ∧ cur'.take (i * 3) = ((rows.take j).filter (lvr now)).flatten ∧ ∀ t, j * 3 ≤ t → cur'[t]? = cur[t]?
  len : ((rows.take j).filter (lvr now)).length = i
theorem Kep.row {g n cap i j : Nat} {now : Int} {w0 w : World} {cur : List Value} {rows : List (List Value)} (h : Kep g n cap i j now w0 w cur rows) (h0 : ∀ r ∈ rows, r.length = 3) (hn : rows.length = n) (ht : cur.take (n * 3) = rows.flatten) (hj : j < n) {r : List Value} (hr : rows[j]? = some r) : w.rangeAt g (j * 3) r := by
  obtain ⟨cur', h1, h2, h3, h4⟩ := h.ex
  intro t v hv
  refine h1.cell ?_
  rw [h4 _ (by omega)]
  have := flat_at h0 hr hv
  have hl := h0 r (List.mem_of_getElem? hr)
  have htl : t < 3 := by rw [← hl]; exact (List.getElem?_eq_some_iff.1 hv).1
  rw [← ht, List.getElem?_take, if_pos (by omega)] at this
  exact this
theorem Kep.skip {g n cap i j : Nat} {now : Int} {w0 w w1 : World} {cur : List Value} {rows : List (List Value)} (h : Kep g n cap i j now w0 w cur rows) {r : List Value} (hr : rows[j]? = some r) (hp : lvr now r = false) (hb : Below w.heap.size w w1) : Kep g n cap i (j + 1) now w0 w1 cur rows := by
  have e : (rows.take (j + 1)).filter (lvr now) = (rows.take j).filter (lvr now) := by
    rw [List.take_add_one, hr, Option.toList_some, List.filter_append, List.filter_cons, hp]
    simp
  refine ⟨grown_trans h.grw (grown_of_below hb _) (.inl rfl), ?_, by rw [e]; exact h.len⟩
  obtain ⟨cur', h1, h2, h3, h4⟩ := h.ex
  exact ⟨cur', h1.below hb, h2, by rw [e]; exact h3, fun t ht => h4 t (by omega)⟩
theorem Kep.take {g n cap i j : Nat} {now : Int} {w0 w w1 w2 : World} {cur : List Value} {rows : List (List Value)} (h : Kep g n cap i j now w0 w cur rows) {r : List Value} (hr : rows[j]? = some r) (hl : r.length = 3) (hp : lvr now r = true) (hij : i < j) (hjc : j < cap) (hb : Below w.heap.size w w1) {cur0 : List Value} (hc0 : Row w1 g 75 cur0) (hg2 : w1.grownBy w2 (some g)) (hr2 : Row w2 g 75 (splice cur0 (i * 3) r)) : Kep g n cap (i + 1) (j + 1) now w0 w2 cur rows := by
  have e : (rows.take (j + 1)).filter (lvr now) = (rows.take j).filter (lvr now) ++ [r] := by
    rw [List.take_add_one, hr, Option.toList_some, List.filter_append, List.filter_cons, hp]
    simp
  obtain ⟨cur', h1, h2, h3, h4⟩ := h.ex
  obtain rfl : cur' = cur0 := (h1.below hb).uniq hc0
  refine ⟨grown_trans (grown_trans h.grw (grown_of_below hb _) (.inl rfl)) hg2 (.inl rfl), ⟨_, hr2, ?_, ?_, fun t ht => ?_⟩, by rw [e, List.length_append, h.len]; rfl⟩
  · rw [length_splice _ _ _ (by omega), h2]
  · have := spl_take cur' r (i * 3) (by omega)
    rw [hl] at this
    rw [show (i + 1) * 3 = i * 3 + 3 by omega, this, h3, e, List.flatten_append]
    simp
  · rw [spl_far _ _ _ _ (by omega) (by omega)]
    exact h4 t (by omega)
theorem Kep.first {g n cap i : Nat} {now : Int} {w0 w : World} {cur : List Value} {rows : List (List Value)} (hb : Below w0.heap.size w0 w) (hrow : Row w0 g 75 cur) (hcl : cur.length = cap * 3) (h0 : ∀ r ∈ rows, r.length = 3) (hn : rows.length = n) (hnc : n ≤ cap) (ht : cur.take (n * 3) = rows.flatten) (hi : i < n) (h1 : ∀ (j : Nat) (r : List Value), j < i → rows[j]? = some r → lvr now r = true) (h2 : ∀ r, rows[i]? = some r → lvr now r = false) : Kep g n cap i (i + 1) now w0 w cur rows := by
  have e1 : (rows.take i).filter (lvr now) = rows.take i := by
    rw [List.filter_eq_self]
    intro r hr
    obtain ⟨j, hj, rfl⟩ := List.getElem_of_mem hr
    rw [List.length_take] at hj
    exact h1 j _ (by omega) (by rw [List.getElem_take, List.getElem?_eq_getElem])
  obtain ⟨r, hr⟩ : ∃ r, rows[i]? = some r := ⟨_, List.getElem?_eq_getElem (by omega)⟩
  have e : (rows.take (i + 1)).filter (lvr now) = rows.take i := by
    rw [List.take_add_one, hr, Option.toList_some, List.filter_append, List.filter_cons, h2 r hr, e1]
    simp
  refine ⟨grown_of_below hb _, ⟨cur, hrow.below hb, hcl, ?_, fun t _ => rfl⟩, by rw [e, List.length_take]; omega⟩
  rw [e, ← flat_take h0 i (by omega), ← ht, List.take_take, Nat.min_eq_left (by omega)]

set_option maxRecDepth 100000 in
set_option maxHeartbeats 4000000 in
/-- slices.DeleteFunc. -/
theorem deleteF_row (w : World) (B g cap n : Nat) (cur : List Value) (rows : List (List Value)) (ys : List PEnt) (hrow : Row w g 75 cur) (hcl : cur.length = cap * 3) (h0 : ∀ r ∈ rows, r.length = 3) (hn : rows.length = n) (hp : 0 < n) (ht : cur.take (n * 3) = rows.flatten) (hroom : n ≤ cap) (hcap : cap ≤ maxLen) (hn64 : n ≤ 64)
    (hall : All2 (OLea (fun b => B ≤ b ∧ b ≠ g) w) rows ys) (hRL : RL RLea 3 Any w (.slice (some ⟨g, 0, none⟩) n cap) ys) (nb : Nat) (now : Int) (hc : w.cell? ⟨nb, 0, none⟩ = some (.int .i64 now)) (hng : nb ≠ g) :
    Calls Tryz.prog 96 #[.slice (some ⟨g, 0, none⟩) n cap, .func (.func 97) #[] #[.pointer (some ⟨nb, 0, none⟩)]] w fun e w' =>
      ∃ m, e = .returned (.slice (some ⟨g, 0, none⟩) m cap) ∧ w.grownBy w' (some g) ∧ Hid (m ≤ n ∧ ∃ cur', Row w' g 75 cur' ∧ cur'.length = cap * 3 ∧ (rows.filter (lvr now)).length = m ∧ cur'.take (m * 3) = (rows.filter (lvr now)).flatten) := by
  have hlen := hall.len
  have hI := index_any w _ ys hRL (by omega) (by omega) nb now hc
  obtain ⟨i0, hi0, hz0, hzs, hzb⟩ := info_parts Tryz.infL
  go_enter Tryz.func96, Tryz.ntmps96
  go_wp2_with fail
  refine hI.mono ?_
  rintro e w1 ⟨k, rfl, hb1, hk⟩
  clear hI
  have hlr : ∀ (j : Nat) (r : List Value), rows[j]? = some r → ∃ y, ys[j]? = some y ∧ OLea (fun b => B ≤ b ∧ b ≠ g) w r y := fun j r hr => by
    obtain ⟨y, hy⟩ : ∃ y, ys[j]? = some y := ⟨_, List.getElem?_eq_getElem (by have := (List.getElem?_eq_some_iff.1 hr).1; omega)⟩
    exact ⟨y, hy, hall.get hr hy⟩
  have HLR := (show Hid (∀ (j : Nat) (r : List Value), rows[j]? = some r → ∃ y, ys[j]? = some y ∧ OLea (fun b => B ≤ b ∧ b ≠ g) w r y) from hlr)
  rcases hk with ⟨rfl, hk⟩ | ⟨i, rfl, hi, hk1, hk2⟩
  · have HF := (show Hid (rows.filter (lvr now) = rows) by
      show _ = _
      rw [List.filter_eq_self]
      intro r hr
      obtain ⟨j, hj, rfl⟩ := List.getElem_of_mem hr
      obtain ⟨y, hy, ho⟩ := hlr j _ (List.getElem?_eq_getElem hj)
      rw [lvr_lea ho]
      exact decide_eq_true (hk y (List.mem_of_getElem? hy)))
    have HT := (show Hid (Row w g 75 cur ∧ cur.length = cap * 3 ∧ rows.length = n ∧ cur.take (n * 3) = rows.flatten) from ⟨hrow, hcl, hn, ht⟩)
    clear hlr hk hrow hcl hn ht hall hlen
    go_wp2_with fail
    go_ret
    refine ⟨_, rfl, grown_of_below hb1 _, Nat.le_refl _, cur, HT.out.1.below hb1, HT.out.2.1, ?_, ?_⟩
    · rw [HF.out]; exact HT.out.2.2.1
    · rw [HF.out]; exact HT.out.2.2.2
  have hin : i < n := by omega
  have hK0 : Kep g n cap i (i + 1) now w w1 cur rows := by
    refine Kep.first hb1 hrow hcl h0 hn hroom ht hin (fun j r hj hr => ?_) (fun r hr => ?_)
    · obtain ⟨y, hy, ho⟩ := hlr j r hr
      rw [lvr_lea ho]
      exact decide_eq_true (hk1 j y hj hy)
    · obtain ⟨y, hy, ho⟩ := hlr i r hr
      rw [lvr_lea ho]
      exact decide_eq_false (hk2 y hy)
  have HK0 := (show Hid (Kep g n cap i (i + 1) now w w1 cur rows) from hK0)
  have HT := (show Hid ((∀ r ∈ rows, r.length = 3) ∧ rows.length = n ∧ cur.take (n * 3) = rows.flatten) from ⟨h0, hn, ht⟩)
  have hcm : (cap : Int) ≤ 9223372036854775807 := by unfold maxLen at hcap; omega
  have hk1' : ((i : Int) == -1) = false := by simp
  clear hlr hK0 hk1 hk2 hrow hcl h0 hn ht hall hlen hRL hi
  go_wp2_with fail
  go_loopw [5, 6] (fun s5 s6 wr => ∃ p q : Nat, s5 = .int .i64 p ∧ s6 = .int .i64 q ∧ q ≤ n ∧ p < q ∧ Hid (Kep g n cap p q now w wr cur rows)) (fun _ s6 _ => n - (intOf s6).toNat)
  case atStart => exact ⟨i, i + 1, rfl, by go_num, by omega, by omega, HK0⟩
  case round =>
    clear HK0
    obtain ⟨p, q, rfl, rfl, hq, hpq, HK⟩ := hrel
    by_cases hql : q < n
    · obtain ⟨r, hr⟩ : ∃ r, rows[q]? = some r := ⟨_, List.getElem?_eq_getElem (by have := HT.out.2.1; omega)⟩
      have hrng := HK.out.row HT.out.1 HT.out.2.1 HT.out.2.2 hql hr
      obtain ⟨y, hy, ho⟩ := HLR.out q r hr
      have hlv := lvr_lea (now := now) ho
      obtain ⟨s1, p1, q1, rfl, t1, t2⟩ := ho
      have hgr := HK.out.grw
      have hcr : wr.cell? ⟨nb, 0, none⟩ = some (.int .i64 now) := grown_cellE hgr hc (fun e => hng (Option.some.inj e).symm)
      have hlea : RLea Any wr [s1, .int .i64 p1, .int .i64 q1] y := ⟨_, _, _, rfl, (t1.mv (G' := Any) (fun k hk hlt => ⟨hgr.block k hlt (fun e => hk.2 (Option.some.inj e)), trivial⟩)).rt, t2⟩
      have hone := onL3 (p := p1) (q := q1) t1.one
      have hrow0 := Row.new wr 75 [.slice none 0 0, .int .i64 0, .int .i64 0]
      have HR := (show Hid (rows[q]? = some [s1, .int .i64 p1, .int .i64 q1]) from hr)
      obtain ⟨cur0, k1, k2, _⟩ := HK.out.ex
      have K1 := (show Hid (Row wr g 75 cur0) from k1)
      have hgl := k1.lt
      have hfit : p * 3 + 3 ≤ cur0.length := by omega
      clear hr hy t1 t2 k1 k2
      by_cases hov : lu y.2 ≤ now
      · have HLV := (show Hid (lvr now [s1, .int .i64 p1, .int .i64 q1] = false) by show _ = _; rw [hlv]; exact decide_eq_false (by omega))
        have HC := (show Hid (∀ u, Below wr.heap.size wr u → Calls Tryz.prog 97 #[.agg #[s1, .int .i64 p1, .int .i64 q1], .pointer (some ⟨nb, 0, none⟩)] u fun e w' => e = .returned (.bool true) ∧ Below u.heap.size u w') from fun u hu => by
          have := over_any u _ y (mov_lea _ _ _ _ _ _ hlea hu.size (Mv.below hu)) nb now (keepE hu hcr)
          rw [decide_eq_true hov] at this
          exact this)
        clear hlv
        go_wp2_with (first
          | (refine wpList_load_mid rfl _ _ rfl g (q * 3) rfl [s1, .int .i64 p1, .int .i64 q1] _ hrng Tryz.underlying75 rfl (by kernel_rfl) ?_)
          | (refine wl_store rfl _ _ _ rfl wr.heap.size [s1, .int .i64 p1, .int .i64 q1] rfl rfl _ _ hrow0 rfl (by kernel_rfl) hone ?_; intro w5 hr5 hg5; have hb5 : Below wr.heap.size wr w5 := (below_alloc wr _).trans (grown_below hg5 (by simp) (fun k hk => by cases hk; exact Nat.le_refl _)))
          | (refine wl_load rfl _ _ rfl wr.heap.size rfl _ _ hr5.out _ Tryz.underlying75 rfl (by kernel_rfl) ?_)
          | (go_at_call 97; refine (HC.out w5 hb5).mono ?_; rintro e w6 ⟨rfl, hb6⟩))
        go_roundw
        case rel => exact ⟨p, q + 1, rfl, by go_num, by omega, by omega, HK.out.skip HR.out HLV.out (below_and hb5 (Nat.le_refl _) hb6)⟩
        case measure => simp [intOf]; omega
      · have HLV := (show Hid (lvr now [s1, .int .i64 p1, .int .i64 q1] = true) by show _ = _; rw [hlv]; exact decide_eq_true (by omega))
        have HC := (show Hid (∀ u, Below wr.heap.size wr u → Calls Tryz.prog 97 #[.agg #[s1, .int .i64 p1, .int .i64 q1], .pointer (some ⟨nb, 0, none⟩)] u fun e w' => e = .returned (.bool false) ∧ Below u.heap.size u w') from fun u hu => by
          have := over_any u _ y (mov_lea _ _ _ _ _ _ hlea hu.size (Mv.below hu)) nb now (keepE hu hcr)
          rw [decide_eq_false hov] at this
          exact this)
        clear hlv
        go_wp2_with (first
          | (refine wpList_load_mid rfl _ _ rfl g (q * 3) rfl [s1, .int .i64 p1, .int .i64 q1] _ hrng Tryz.underlying75 rfl (by kernel_rfl) ?_)
          | (refine wl_store rfl _ _ _ rfl wr.heap.size [s1, .int .i64 p1, .int .i64 q1] rfl rfl _ _ hrow0 rfl (by kernel_rfl) hone ?_; intro w5 hr5 hg5; have hb5 : Below wr.heap.size wr w5 := (below_alloc wr _).trans (grown_below hg5 (by simp) (fun k hk => by cases hk; exact Nat.le_refl _)))
          | (refine wl_load rfl _ _ rfl wr.heap.size rfl _ _ hr5.out _ Tryz.underlying75 rfl (by kernel_rfl) ?_)
          | (go_at_call 97; refine (HC.out w5 hb5).mono ?_; rintro e w6 ⟨rfl, hb6⟩; have k6 := K1.out.below (below_and hb5 (Nat.le_refl _) hb6); have hr6 := hr5.out.below hb6)
          | (refine wl_load rfl _ _ rfl wr.heap.size rfl _ _ hr6 _ Tryz.underlying75 rfl (by kernel_rfl) ?_)
          | (refine wl_put rfl _ _ _ rfl g (p * 3) [s1, .int .i64 p1, .int .i64 q1] rfl rfl _ _ k6 hfit (by kernel_rfl) hone ?_; intro w7 hr7 hg7))
        go_roundw
        case rel => exact ⟨p + 1, q + 1, by go_num, by go_num, by omega, by omega, HK.out.take HR.out rfl HLV.out hpq (by omega) (below_and hb5 (Nat.le_refl _) hb6) k6 hg7 hr7.out⟩
        case measure => simp [intOf]; omega
    · obtain rfl : q = n := by omega
      have hqd : decide ((q : Int) < q) = false := by simp
      obtain ⟨cur', k1, k2, k3, _⟩ := HK.out.ex
      have hgr := HK.out.grw
      have HTK := (show Hid (rows.take q = rows) from List.take_of_length_le (by have := HT.out.2.1; omega))
      have hfit : p * 3 + (q - p) * 3 ≤ cur'.length := by omega
      have hpc : ¬ (cap = p) := by omega
      have hpi : (p : Int) ≤ (q : Int) := by omega
      have K2 := (show Hid (cur'.length = cap * 3 ∧ cur'.take (p * 3) = ((rows.take q).filter (lvr now)).flatten) from ⟨k2, k3⟩)
      clear k2 k3
      go_wp2_with (refine wl_clearN rfl _ _ rfl 75 i0 _ [.slice none 0 0, .int .i64 0, .int .i64 0] Tryz.underlying24 hi0 hz0 rfl (by decide) (q - p) (cap - p) g (p * 3) (by omega) (by simp [Act.eval]) _ _ k1 hfit (onL3 rfl) ?_; intro w8 zz hzz hr8 hg8)
      go_ret
      refine ⟨p, rfl, grown_trans hgr hg8 (.inl rfl), by omega, _, hr8.out, ?_, ?_, ?_⟩
      · have e3 : zz.length = (q - p) * 3 := hzz.out
        rw [length_splice _ _ _ (by omega)]; exact K2.out.1
      · rw [← HK.out.len, HTK.out]
      · rw [spl_front _ _ _ _ (by have := K2.out.1; omega) (Nat.le_refl _), K2.out.2, HTK.out]
end Go.Proofs.YteafgdidjdfiiaaGreat
end
