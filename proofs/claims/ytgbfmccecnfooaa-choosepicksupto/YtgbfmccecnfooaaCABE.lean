/- choose.Low. Written by mk19c.py. -/
import Derived.Test.YtgbfmccecnfooaaCAAQ
import Derived.Test.YtgbfmccecnfooaaCAAO
import Derived.Test.YtgbfmccecnfooaaCAAW
set_option linter.unusedSimpArgs false
set_option linter.unusedVariables false
namespace Go.Proofs.Ytgbfmccecnfooaa
open Go.RowKit Oct Bal
theorem len_rep {G : Nat → Prop} {w : World} {v : Value} {ys : List PRep} (h : RL RRep 8 G w v ys) : (ys.length : Int) ≤ 9223372036854775807 := by
  by_cases h0 : 0 < ys.length
  · obtain ⟨_, _, _, _, h1, h2, _⟩ := h.at h0
    unfold maxLen at h2
    omega
  · omega
set_option maxRecDepth 10000 in
set_option maxHeartbeats 4000000 in
theorem lowC_any (w : World) (v : Value) (ys : List PRep) (hvs : RL RRep 8 Any w v ys) : Calls Try.prog 6 #[v] w fun e w' => e = .returned (.int .i64 (lowR ys)) ∧ Below w.heap.size w w' := by
  obtain ⟨aa, ca, rfl, _⟩ := hvs.form
  have hlv := len_rep hvs
  go_enter Try.func6, Try.ntmps6
  go_wp2_with fail
  go_loopw [3, 8] (fun m j wr => ∃ n : Nat, n ≤ ys.length ∧ j = .int .i64 n ∧ m = .int .i64 ((ys.take n).foldl lowS 0) ∧ Below w.heap.size w wr) (fun _ j _ => ys.length - (intOf j).toNat)
  case atStart => exact ⟨0, by omega, rfl, rfl, Below.refl _ _⟩
  case round =>
    obtain ⟨n, hn, rfl, rfl, hB⟩ := hrel
    by_cases hnl : n < ys.length
    case neg =>
      have hy : ys.take n = ys := List.take_of_length_le (by omega)
      have HY := (show Hid (ys.take n = ys) from hy)
      clear hy
      go_wp2_with fail
      go_ret
      exact ⟨by rw [HY.out]; rfl, hB⟩
    obtain ⟨A, hA⟩ : ∃ A, ys[n]? = some A := ⟨_, List.getElem?_eq_getElem hnl⟩
    obtain ⟨bv, off, cap, hve, _, _, _, hbv, hat⟩ := hvs.at (by omega)
    obtain ⟨rvv, _, hrng, rd, rs, rp, rg, rfl, t1, t2, t3, t4⟩ := hat n _ hA
    injection hve with hv1 hv2 hv3
    subst hv1 hv3
    clear hv2 hat
    have hrng := rangeAt_block hrng (hB.block bv hbv)
    have hrow0 := Row.new wr 30 [.int .i64 0, .int .i64 0, .int .i64 0, .int .i64 0, .slice none 0 0, .slice none 0 0, .slice none 0 0, .slice none 0 0]
    have hon := one_RRep (G := Any) (w := w) (x := A) ⟨rd, rs, rp, rg, rfl, t1, t2, t3, t4⟩
    go_upto_region 5 with (first
      | (refine wpList_load_mid rfl _ _ rfl bv (off + n * 8) rfl [.int .i64 A.1.1, .int .i64 A.1.2, .int .i64 A.2.1, .int .i64 A.2.2.1, rd, rs, rp, rg] _ hrng Try.underlying30 rfl (by kernel_rfl) ?_)
      | (refine wl_store rfl _ _ _ rfl wr.heap.size [.int .i64 A.1.1, .int .i64 A.1.2, .int .i64 A.2.1, .int .i64 A.2.2.1, rd, rs, rp, rg] rfl rfl _ _ hrow0 rfl (by kernel_rfl) hon ?_; intro w8 rR g8))
    have b8 : Below wr.heap.size wr w8 := (below_alloc wr (.cells ([.int .i64 0, .int .i64 0, .int .i64 0, .int .i64 0, .slice none 0 0, .slice none 0 0, .slice none 0 0, .slice none 0 0] : List Value).toArray 30)).trans (grown_below g8 (by simp) (fun k hk => by cases hk; exact Nat.le_refl _))
    have rR := rR.out
    have hB8 := below_and hB (Nat.le_refl _) b8
    obtain ⟨cR, hcR⟩ : ∃ c, c = wr.heap.size := ⟨_, rfl⟩
    rw [← hcR] at rR ⊢
    clear hrow0 g8 hrng hon
    clear hcR b8
    have k3 := rR.cell (j := 3) rfl
    have hst := foldl_take (f := lowS) (b := 0) hA
    have HST := (show Hid (_ = _) from hst)
    clear hst hA hvs
    generalize (ys.take n).foldl lowS 0 = m at *
    go_wp2_with fail
    go_roundw
    case rel => exact ⟨n + 1, by omega, by go_num, by rw [HST.out]; rfl, hB8⟩
    case measure => simp [intOf]; omega
set_option maxRecDepth 10000 in
set_option maxHeartbeats 4000000 in
theorem highC_any (w : World) (v : Value) (ys : List PRep) (hvs : RL RRep 8 Any w v ys) : Calls Try.prog 8 #[v] w fun e w' => e = .returned (.int .i64 (higR ys)) ∧ Below w.heap.size w w' := by
  have hLo := lowC_any w v ys hvs
  obtain ⟨aa, ca, rfl, _⟩ := hvs.form
  have hlv := len_rep hvs
  go_enter Try.func8, Try.ntmps8
  go_upto_region 2 with (go_at_call 6; refine hLo.mono ?_; rintro e w1 ⟨rfl, b1⟩)
  clear hLo
  generalize hLR : lowR ys = LR at *
  go_wp2_with fail
  go_loopw [3, 12] (fun m j wr => ∃ n : Nat, n ≤ ys.length ∧ j = .int .i64 n ∧ m = .int .i64 ((ys.take n).foldl (fun m r => r.2.2.2.2.2.1.foldl higS m) LR) ∧ Below w.heap.size w wr) (fun _ j _ => ys.length - (intOf j).toNat)
  case atStart => exact ⟨0, by omega, rfl, rfl, b1⟩
  case round =>
    obtain ⟨n, hn, rfl, rfl, hB⟩ := hrel
    by_cases hnl : n < ys.length
    case neg =>
      have hy : higR ys = (ys.take n).foldl (fun m r => r.2.2.2.2.2.1.foldl higS m) LR := by
        rw [List.take_of_length_le (by omega)]
        unfold higR
        rw [hLR]
      have HY := (show Hid (_ = _) from hy)
      clear hy
      go_wp2_with fail
      go_ret
      exact ⟨by rw [HY.out]; rfl, hB⟩
    obtain ⟨A, hA⟩ : ∃ A, ys[n]? = some A := ⟨_, List.getElem?_eq_getElem hnl⟩
    obtain ⟨bv, off, cap, hve, _, _, _, hbv, hat⟩ := hvs.at (by omega)
    obtain ⟨rvv, _, hrng, rd, rs, rp, rg, rfl, t1, t2, t3, t4⟩ := hat n _ hA
    injection hve with hv1 hv2 hv3
    subst hv1 hv3
    clear hv2 hat
    have hrng := rangeAt_block hrng (hB.block bv hbv)
    have hrow0 := Row.new wr 30 [.int .i64 0, .int .i64 0, .int .i64 0, .int .i64 0, .slice none 0 0, .slice none 0 0, .slice none 0 0, .slice none 0 0]
    have hon := one_RRep (G := Any) (w := w) (x := A) ⟨rd, rs, rp, rg, rfl, t1, t2, t3, t4⟩
    go_upto_region 5 with (first
      | (refine wpList_load_mid rfl _ _ rfl bv (off + n * 8) rfl [.int .i64 A.1.1, .int .i64 A.1.2, .int .i64 A.2.1, .int .i64 A.2.2.1, rd, rs, rp, rg] _ hrng Try.underlying30 rfl (by kernel_rfl) ?_)
      | (refine wl_store rfl _ _ _ rfl wr.heap.size [.int .i64 A.1.1, .int .i64 A.1.2, .int .i64 A.2.1, .int .i64 A.2.2.1, rd, rs, rp, rg] rfl rfl _ _ hrow0 rfl (by kernel_rfl) hon ?_; intro w8 rR g8))
    have b8 : Below wr.heap.size wr w8 := (below_alloc wr (.cells ([.int .i64 0, .int .i64 0, .int .i64 0, .int .i64 0, .slice none 0 0, .slice none 0 0, .slice none 0 0, .slice none 0 0] : List Value).toArray 30)).trans (grown_below g8 (by simp) (fun k hk => by cases hk; exact Nat.le_refl _))
    have rR := rR.out
    have hB8 := below_and hB (Nat.le_refl _) b8
    obtain ⟨cR, hcR⟩ : ∃ c, c = wr.heap.size := ⟨_, rfl⟩
    rw [← hcR] at rR ⊢
    clear hrow0 g8 hrng hon
    clear hcR b8
    have hst := foldl_take (f := fun (m : Int) (r : PRep) => r.2.2.2.2.2.1.foldl higS m) (b := LR) hA
    have HST := (show Hid (_ = _) from hst)
    clear hst hA
    generalize (ys.take n).foldl (fun m r => r.2.2.2.2.2.1.foldl higS m) LR = m0 at *
    obtain ⟨pa, pcap, rfl, _⟩ := t3.form
    have k6 := rR.cell (j := 6) rfl
    have hlp : (A.2.2.2.2.2.1.length : Int) ≤ 9223372036854775807 := by
      by_cases h0 : 0 < A.2.2.2.2.2.1.length
      · obtain ⟨_, _, _, _, h1, h2, _⟩ := t3.at h0
        unfold maxLen at h2
        omega
      · omega
    have HT := (show Hid (RL RPrep 8 Any w (.slice pa A.2.2.2.2.2.1.length pcap) A.2.2.2.2.2.1) from t3)
    clear t1 t2 t3 t4 rR hB hvs
    generalize hPS : A.2.2.2.2.2.1 = PS at *
    go_wp2_with fail
    go_loopw [3, 19] (fun m j wr => ∃ i : Nat, i ≤ PS.length ∧ j = .int .i64 i ∧ m = .int .i64 ((PS.take i).foldl higS m0) ∧ Below w.heap.size w wr) (fun _ j _ => PS.length - (intOf j).toNat)
    case atStart => exact ⟨0, by omega, rfl, rfl, hB8⟩
    case round =>
      obtain ⟨i, hi, rfl, rfl, hB⟩ := hrel
      by_cases hil : i < PS.length
      case neg =>
        have hy : PS.take i = PS := List.take_of_length_le (by omega)
        have HY := (show Hid (PS.take i = PS) from hy)
        clear hy
        go_wp2_with fail
        go_roundw
        case rel => exact ⟨n + 1, by omega, by go_num, by rw [HST.out, HY.out] <;> first | rfl | (show _ = Value.int .i64 (A.2.2.2.2.2.1.foldl higS m0); rw [hPS]), hB⟩
        case measure => simp [intOf]; omega
      obtain ⟨P, hP⟩ : ∃ P, PS[i]? = some P := ⟨_, List.getElem?_eq_getElem hil⟩
      obtain ⟨bw, offp, capp, hve, _, _, _, hbw, hat⟩ := (HT.out).at (by omega)
      obtain ⟨rww, _, hrnp, po, ps, pc, rfl, u1, u2, u3⟩ := hat i _ hP
      injection hve with hv1 hv2 hv3
      subst hv1 hv3
      clear hv2 hat
      have hrnp := rangeAt_block hrnp (hB.block bw hbw)
      have hrow0 := Row.new wr 45 [.int .i64 0, .int .i64 0, .int .i64 0, .int .i64 0, .int .i64 0, .slice none 0 0, .slice none 0 0, .slice none 0 0]
      have hon := one_RPrep (G := Any) (w := w) (x := P) ⟨po, ps, pc, rfl, u1, u2, u3⟩
      go_upto_region 8 with (first
        | (refine wpList_load_mid rfl _ _ rfl bw (offp + i * 8) rfl [.int .i64 P.1, .int .i64 P.2.1.1, .int .i64 P.2.1.2, .int .i64 P.2.2.1.1, .int .i64 P.2.2.1.2.1, po, ps, pc] _ hrnp Try.underlying45 rfl (by kernel_rfl) ?_)
        | (refine wl_store rfl _ _ _ rfl wr.heap.size [.int .i64 P.1, .int .i64 P.2.1.1, .int .i64 P.2.1.2, .int .i64 P.2.2.1.1, .int .i64 P.2.2.1.2.1, po, ps, pc] rfl rfl _ _ hrow0 rfl (by kernel_rfl) hon ?_; intro w9 rP g9))
      have b9 : Below wr.heap.size wr w9 := (below_alloc wr (.cells ([.int .i64 0, .int .i64 0, .int .i64 0, .int .i64 0, .int .i64 0, .slice none 0 0, .slice none 0 0, .slice none 0 0] : List Value).toArray 45)).trans (grown_below g9 (by simp) (fun k hk => by cases hk; exact Nat.le_refl _))
      have rP := rP.out
      have hB9 := below_and hB (Nat.le_refl _) b9
      obtain ⟨cP, hcP⟩ : ∃ c, c = wr.heap.size := ⟨_, rfl⟩
      rw [← hcP] at rP ⊢
      clear hrow0 g9 hrnp hon
      clear hcP b9
      have k0 := rP.cell (j := 0) rfl
      have hst := foldl_take (f := higS) (b := m0) hP
      have HST2 := (show Hid (_ = _) from hst)
      clear hst hP
      generalize (PS.take i).foldl higS m0 = m1 at *
      go_wp2_with fail
      go_roundw
      case rel => exact ⟨i + 1, by omega, by go_num, by rw [HST2.out]; rfl, hB9⟩
      case measure => simp [intOf]; omega
end Go.Proofs.Ytgbfmccecnfooaa
