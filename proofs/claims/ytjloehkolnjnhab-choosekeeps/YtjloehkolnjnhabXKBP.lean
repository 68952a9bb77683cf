/- catenarylaw18.ChooseKeeps: its walk. Written by mk19a.py. -/
import Derived.Test.YtjloehkolnjnhabXKBO
import Derived.Test.YtjloehkolnjnhabXKAV
import Derived.Test.YtjloehkolnjnhabXKBN
set_option linter.unusedSimpArgs false
set_option linter.unusedVariables false
namespace Go.Proofs.Ytjloehkolnjnhab
open Go.RowKit Oct Bal
theorem Try.infRepC : (Try.prog.info? 30).map (fun i => (i.zero, i.size, i.bytes)) = some (some (.agg #[.int .i64 0, .int .i64 0, .int .i64 0, .int .i64 0, .slice none 0 0, .slice none 0 0, .slice none 0 0, .slice none 0 0]), 8, 128) := by kernel_rfl
theorem pk_slot {k : Int} {rs : List PRep} {p : PPrep} (h : pkR k rs = some p) : p.1 = k := by
  have hb := best_all k rs
  rw [h] at hb
  exact (show p ∈ allP rs ∧ p.1 = k ∧ _ from hb).2.1
set_option maxRecDepth 10000 in
set_option maxHeartbeats 8000000 in
theorem keepsC_any (W : World) (vv : Value) (ys : List PRep) (k : Int) (hvs : RL RRep 8 Any W vv ys) (hz : szL 128 szR ys) :
    Calls Try.prog 4 #[vv, .int .i64 k] W fun e w' => e = .returned (.bool true) ∧ Below W.heap.size W w' := by
  obtain ⟨aa, ca, rfl, _⟩ := hvs.form
  have hlv := len_rep hvs
  go_enter Try.func4, Try.ntmps4
  go_upto_region 3 with (go_at_call 5; refine (chooseAlive_any W).mono ?_; rintro e w1 ⟨rfl, b1⟩)
  obtain ⟨w2, hw2⟩ : ∃ u, u = w1.alloc (.cells #[] 30) := ⟨_, rfl⟩
  have b2 : Below w1.heap.size w1 w2 := by rw [hw2]; exact below_alloc _ _
  have hL2 := LB.fresh RRep 30 8 w1.heap.size w1 (Nat.le_refl _)
  rw [← hw2] at hL2
  go_upto_region 4 with fail
  rw [← hw2]
  clear hw2
  have BW2 := below_and b1 (Nat.le_refl _) b2
  have hs1 := b1.size
  have hlen128 := hz.1
  have b2s := b2.size
  clear b1 b2
  go_wp2_with fail
  go_loopw [5, 25] (fun l j wr => ∃ n : Nat, n ≤ ys.length ∧ j = .int .i64 n ∧ LB RRep 30 8 w1.heap.size wr l (ys.take n) ∧ Below W.heap.size W wr ∧ w1.heap.size ≤ wr.heap.size) (fun _ j _ => ys.length - (intOf j).toNat)
  case atStart => exact ⟨0, by omega, rfl, hL2, BW2, b2s⟩
  case round =>
    clear hL2 BW2
    obtain ⟨n, hn, rfl, hL, hB, hsz⟩ := hrel
    obtain ⟨PL, hPL⟩ : ∃ PL, PL = ys.take n := ⟨_, rfl⟩
    have hln : PL.length = n := by rw [hPL, List.length_take]; omega
    rw [← hPL] at hL
    have HPL := (show Hid (PL = ys.take n ∧ PL.length = n) from ⟨hPL, hln⟩)
    clear hPL hln
    obtain ⟨la, lc, rfl⟩ := hL.fmC
    by_cases hnl : n < ys.length
    case pos =>
      obtain ⟨A, hA⟩ : ∃ A, ys[n]? = some A := ⟨_, List.getElem?_eq_getElem hnl⟩
      obtain ⟨bv, off, cap, hve, _, _, _, hbv, hat⟩ := hvs.at (by omega)
      obtain ⟨rvv, _, hrng, rd, rs, rp, rg, rfl, t1, t2, t3, t4⟩ := hat n _ hA
      injection hve with hv1 hv2 hv3
      subst hv1 hv3
      clear hv2 hat
      have hrng := rangeAt_block hrng (hB.block bv hbv)
      have hrow0 := Row.new wr 30 [.int .i64 0, .int .i64 0, .int .i64 0, .int .i64 0, .slice none 0 0, .slice none 0 0, .slice none 0 0, .slice none 0 0]
      have hon := one_RRep (G := Any) (w := W) (x := A) ⟨rd, rs, rp, rg, rfl, t1, t2, t3, t4⟩
      go_upto_region 7 with (first
        | (refine wpList_load_mid rfl _ _ rfl bv (off + n * 8) rfl [.int .i64 A.1.1, .int .i64 A.1.2, .int .i64 A.2.1, .int .i64 A.2.2.1, rd, rs, rp, rg] _ hrng Try.underlying30 rfl (by kernel_rfl) ?_)
        | (refine wl_store rfl _ _ _ rfl wr.heap.size [.int .i64 A.1.1, .int .i64 A.1.2, .int .i64 A.2.1, .int .i64 A.2.2.1, rd, rs, rp, rg] rfl rfl _ _ hrow0 rfl (by kernel_rfl) hon ?_; intro w8 rR g8))
      have b8 : Below wr.heap.size wr w8 := (below_alloc wr (.cells ([.int .i64 0, .int .i64 0, .int .i64 0, .int .i64 0, .slice none 0 0, .slice none 0 0, .slice none 0 0, .slice none 0 0] : List Value).toArray 30)).trans (grown_below g8 (by simp) (fun k hk => by cases hk; exact Nat.le_refl _))
      have rR := rR.out
      have hB8 := below_and hB (Nat.le_refl _) b8
      obtain ⟨cR, hcR⟩ : ∃ c, c = wr.heap.size := ⟨_, rfl⟩
      rw [← hcR] at rR ⊢
      clear hrow0 g8 hrng hon
      clear hcR
      have hcp := copyReport_any w8 [.int .i64 A.1.1, .int .i64 A.1.2, .int .i64 A.2.1, .int .i64 A.2.2.1, rd, rs, rp, rg] A ⟨_, _, _, _, rfl, t1.mv (Mv.below hB8), t2.mv mov_vote hB8.size (Mv.below hB8), t3.mv mov_prep hB8.size (Mv.below hB8), t4.mv (Mv.below hB8)⟩ (hz.2 A (List.mem_of_getElem? hA))
      have hst : ys.take (n + 1) = PL ++ [A] := by rw [List.take_add_one, hA, HPL.out.1]; rfl
      have HST := (show Hid (_ = _) from hst)
      have hL8 := hL.below mov_rep b8
      have hLlt := hL8.lt
      have h8s : w1.heap.size ≤ w8.heap.size := Nat.le_trans hsz b8.size
      clear hst hA b8 hL t1 t2 t3 t4 hB
      go_wp2_with (first
        | (refine wl_load rfl _ _ rfl cR rfl _ _ rR _ Try.underlying30 rfl (by kernel_rfl) ?_)
        | (go_at_call 6; refine hcp.mono ?_; rintro e w9 ⟨r9, rfl, hr9, b9⟩; have hL9 := hL8.below mov_rep b9; have h9s := b9.size; have hone := one_RRep hr9; obtain ⟨xd, xs, xp, xg, rfl, f1, f2, f3, f4⟩ := hr9)
        | (at_builtin; go_loud (refine wl_pushS mov_rep rfl _ _ _ rfl 30 8 128 _ Try.underlying22 Try.infRepC rfl (by decide) w1.heap.size (.slice la PL.length lc) PL rfl hL9 [.int .i64 A.1.1, .int .i64 A.1.2, .int .i64 A.2.1, .int .i64 A.2.2.1, xd, xs, xp, xg] A w8.heap.size ⟨_, _, _, _, rfl, f1, f2, f3, f4⟩ rfl hone h8s hLlt rfl (Nat.le_trans h8s h9s) (by have := HPL.out.2; omega) (by decide) ?_; intro v7 w7 hL7 g7 hS7)))
      have hBx := below_and hB8 (Nat.le_refl _) b9
      have hB7 := hBx.trans (grown_below g7 hBx.size (fun q hq => by have := hL9.fr q hq; omega))
      go_roundw
      case rel => exact ⟨n + 1, by omega, by go_num, by rw [HST.out]; exact hL7, hB7, Nat.le_trans (Nat.le_trans h8s h9s) g7.size⟩
      case measure => simp [intOf]; omega
    have hPe : PL = ys := by rw [HPL.out.1]; exact List.take_of_length_le (by omega)
    subst hPe
    clear HPL
    have hPi := pickC_any wr k _ PL ((hL.rl mov_rep).mv mov_rep (Nat.le_refl _) Mv.any) (fun r hr p hp => ((hz.2 r hr).2.2.1.2 p hp).1)
    obtain ⟨o0, ho0⟩ : ∃ o, o = pkR k PL := ⟨_, rfl⟩
    rw [← ho0] at hPi
    have HO := (show Hid (pkR k PL = o0) from ho0.symm)
    clear ho0
    go_upto_region 10 with (first
      | (go_at_call 12; refine hPi.mono ?_; rintro e w3 ⟨r3, rfl, hr3, b3⟩; obtain ⟨go, gs, rfl, f1, f2⟩ := hr3; have hrow0 := Row.new w3 36 [.int .i64 0, .int .i64 0, .slice none 0 0, .slice none 0 0]; have hgo := f1.one; have hgs := f2.one)
      | (refine wl_store rfl _ _ _ rfl w3.heap.size [.int .i64 (reqO o0).1, .int .i64 (reqO o0).2.1, go, gs] rfl rfl _ _ hrow0 rfl (by kernel_rfl) (one4 hgo hgs) ?_; intro w5 rG g5))
    have b5 : Below w3.heap.size w3 w5 := (below_alloc w3 (.cells ([.int .i64 0, .int .i64 0, .slice none 0 0, .slice none 0 0] : List Value).toArray 36)).trans (grown_below g5 (by simp) (fun k hk => by cases hk; exact Nat.le_refl _))
    have rG := rG.out
    have BW5 := below_and (below_and hB (Nat.le_refl _) b3) (Nat.le_refl _) b5
    obtain ⟨cG, hcG⟩ : ∃ c, c = w3.heap.size := ⟨_, rfl⟩
    rw [← hcG] at rG ⊢
    have HG := (show Hid (RReq Any w5 [.int .i64 (reqO o0).1, .int .i64 (reqO o0).2.1, go, gs] (reqO o0)) from ⟨_, _, rfl, (f1.mv Mv.any).mv (Mv.below b5), (f2.mv Mv.any).mv (Mv.below b5)⟩)
    clear hrow0 g5 hcG hgo hgs f1 f2 hPi hL hB hsz b3 b5 hz hlen128 hn
    go_wp2_with fail
    go_loopw [9, 10, 40] (fun s9 s10 j wr => ∃ (n : Nat) (f a : Bool), n ≤ PL.length ∧ j = .int .i64 n ∧ s9 = .bool f ∧ s10 = .bool a ∧ FndR k PL n f ∧ AnyR k PL n a ∧ Below w5.heap.size w5 wr) (fun _ _ j _ => PL.length - (intOf j).toNat)
    case atStart => exact ⟨0, _, _, by omega, rfl, rfl, rfl, fun r hr => by simp at hr, ⟨fun _ r hr => by simp at hr, fun e => by cases e⟩, Below.refl _ _⟩
    case round =>
      obtain ⟨n, f, a, hn, rfl, rfl, rfl, hF, hA0, hBr⟩ := hrel
      have hB := below_and BW5 (Nat.le_refl _) hBr
      by_cases hnl : n < PL.length
      case neg =>
        have hy : PL.take n = PL := List.take_of_length_le (by omega)
        unfold FndR AnyR at *
        rw [hy] at hF hA0
        have HF := (show Hid (∀ r ∈ PL, ∀ p ∈ r.2.2.2.2.2.1, pkR k PL = some p → f = true) from hF)
        have HA := (show Hid ((a = false → ∀ r ∈ PL, ∀ p ∈ r.2.2.2.2.2.1, p.1 ≠ k) ∧ (a = true → ∃ r ∈ PL, ∃ p ∈ r.2.2.2.2.2.1, p.1 = k)) from hA0)
        clear hF hA0 hy
        have rGr := rG.below hBr
        cases a with
        | false =>
          have hnone := pk_none (HA.out.1 rfl)
          have ho : o0 = none := HO.out.symm.trans hnone
          subst ho
          have hSR := sameReq_any wr [.int .i64 (reqO none).1, .int .i64 (reqO none).2.1, go, gs] [.int .i64 0, .int .i64 0, .slice none 0 0, .slice none 0 0] qz qz (mov_req _ _ _ _ _ _ HG.out hBr.size (Mv.below hBr)) ⟨_, _, rfl, RT.nil _ _, RT.nil _ _⟩
          rw [decide_eq_true rfl] at hSR
          have h36z : ∀ u, (Instr.build 36 #[]).run Try.prog u = .ok (.agg ([.int .i64 0, .int .i64 0, .slice none 0 0, .slice none 0 0] : List Value).toArray) u := fun u => by kernel_rfl
          go_wp2_with (first
            | (refine wl_load rfl _ _ rfl cG rfl _ _ rGr _ Try.underlying36 rfl (by kernel_rfl) ?_)
            | (go_at_call 11; refine hSR.mono ?_; rintro e w9 ⟨rfl, b9⟩))
          go_ret
          exact ⟨rfl, below_and hB (Nat.le_refl _) b9⟩
        | true =>
          obtain ⟨r, hr, p, hp, hk⟩ := HA.out.2 rfl
          obtain ⟨p0, h1, _, r', hr', hp'⟩ := pk_any hr hp hk
          have hf : f = true := HF.out r' hr' p0 hp' h1
          subst hf
          go_wp2_with fail
          go_ret
          exact ⟨rfl, hB⟩
      obtain ⟨A, hA⟩ : ∃ A, PL[n]? = some A := ⟨_, List.getElem?_eq_getElem hnl⟩
      obtain ⟨bv, off, cap, hve, _, _, _, hbv, hat⟩ := hvs.at (by omega)
      obtain ⟨rvv, _, hrng, rd, rs, rp, rg, rfl, t1, t2, t3, t4⟩ := hat n _ hA
      injection hve with hv1 hv2 hv3
      subst hv1 hv3
      have HAT := (show Hid (∀ (i : Nat) (a : PRep), PL[i]? = some a → ∃ r, r.length = 8 ∧ W.rangeAt bv (off + i * 8) r ∧ RRep Any W r a) from hat)
      clear hv2 hat
      have hrng := rangeAt_block hrng (hB.block bv hbv)
      have hrow0 := Row.new wr 30 [.int .i64 0, .int .i64 0, .int .i64 0, .int .i64 0, .slice none 0 0, .slice none 0 0, .slice none 0 0, .slice none 0 0]
      have hon := one_RRep (G := Any) (w := W) (x := A) ⟨rd, rs, rp, rg, rfl, t1, t2, t3, t4⟩
      go_upto_region 14 with (first
        | (refine wpList_load_mid rfl _ _ rfl bv (off + n * 8) rfl [.int .i64 A.1.1, .int .i64 A.1.2, .int .i64 A.2.1, .int .i64 A.2.2.1, rd, rs, rp, rg] _ hrng Try.underlying30 rfl (by kernel_rfl) ?_)
        | (refine wl_store rfl _ _ _ rfl wr.heap.size [.int .i64 A.1.1, .int .i64 A.1.2, .int .i64 A.2.1, .int .i64 A.2.2.1, rd, rs, rp, rg] rfl rfl _ _ hrow0 rfl (by kernel_rfl) hon ?_; intro w8 rR g8))
      have b8 : Below wr.heap.size wr w8 := (below_alloc wr (.cells ([.int .i64 0, .int .i64 0, .int .i64 0, .int .i64 0, .slice none 0 0, .slice none 0 0, .slice none 0 0, .slice none 0 0] : List Value).toArray 30)).trans (grown_below g8 (by simp) (fun k hk => by cases hk; exact Nat.le_refl _))
      have rR := rR.out
      have hB8 := below_and hB (Nat.le_refl _) b8
      obtain ⟨cR, hcR⟩ : ∃ c, c = wr.heap.size := ⟨_, rfl⟩
      rw [← hcR] at rR ⊢
      clear hrow0 g8 hrng hon
      clear hcR
      have hAm := List.mem_of_getElem? hA
      have hBr8 := below_and hBr (Nat.le_refl _) b8
      have HTS := (show Hid (∀ r, r ∈ PL.take (n + 1) ↔ r ∈ PL.take n ∨ r = A) from mem_take_succ hA)
      clear hA b8
      obtain ⟨pa, pcap, rfl, _⟩ := t3.form
      have k6 := rR.cell (j := 6) rfl
      have hlp : (A.2.2.2.2.2.1.length : Int) ≤ 9223372036854775807 := by
        by_cases h0 : 0 < A.2.2.2.2.2.1.length
        · obtain ⟨_, _, _, _, h1, h2, _⟩ := t3.at h0
          unfold maxLen at h2
          omega
        · omega
      have HT := (show Hid (RL RPrep 8 Any W (.slice pa A.2.2.2.2.2.1.length pcap) A.2.2.2.2.2.1) from t3)
      clear t1 t2 t3 t4 rR hB
      obtain ⟨PS, hPS⟩ : ∃ PS, PS = A.2.2.2.2.2.1 := ⟨_, rfl⟩
      have HPS := (show Hid (PS = A.2.2.2.2.2.1) from hPS)
      rw [← hPS] at HT hlp k6 ⊢
      clear hPS
      go_wp2_with fail
      go_loopw [9, 10, 47] (fun s9 s10 j wr => ∃ (i : Nat) (f a : Bool), i ≤ PS.length ∧ j = .int .i64 i ∧ s9 = .bool f ∧ s10 = .bool a ∧ FndR k PL n f ∧ FndP k PL PS i f ∧ AnyR k PL n a ∧ (a = false → ∀ p ∈ PS.take i, p.1 ≠ k) ∧ Below w5.heap.size w5 wr) (fun _ _ j _ => PS.length - (intOf j).toNat)
      case atStart => exact ⟨0, _, _, by omega, rfl, rfl, rfl, hF, fun p hp => by simp at hp, hA0, fun _ p hp => by simp at hp, hBr8⟩
      case round =>
        clear hF hA0 hBr8 k6 hBr hB8
        obtain ⟨i, f, a, hi, rfl, rfl, rfl, hF, hFP, hA0, hAP, hBr⟩ := hrel
        have hB := below_and BW5 (Nat.le_refl _) hBr
        by_cases hil : i < PS.length
        case neg =>
          have hy : PS.take i = PS := List.take_of_length_le (by omega)
          unfold FndP at hFP
          rw [hy] at hFP hAP
          have hF2 : FndR k PL (n + 1) f := fun r hr p hp hk => by
            rcases (HTS.out r).1 hr with hr | hr
            · exact hF r hr p hp hk
            · subst hr; exact hFP p (HPS.out ▸ hp) hk
          have hA2 : AnyR k PL (n + 1) a := ⟨fun ha r hr p hp => by
            rcases (HTS.out r).1 hr with hr | hr
            · exact hA0.1 ha r hr p hp
            · subst hr; exact hAP ha p (HPS.out ▸ hp), hA0.2⟩
          clear hF hFP hA0 hAP hy
          go_wp2_with fail
          go_roundw
          case rel => exact ⟨n + 1, f, a, by omega, by go_num, rfl, rfl, hF2, hA2, hBr⟩
          case measure => simp [intOf]; omega
        obtain ⟨P, hP⟩ : ∃ P, PS[i]? = some P := ⟨_, List.getElem?_eq_getElem hil⟩
        obtain ⟨bw, offp, capp, hve, _, _, _, hbw, hat⟩ := (HT.out).at (by omega)
        obtain ⟨rww, _, hrnp, po, ps, pc, rfl, u1, u2, u3⟩ := hat i _ hP
        injection hve with hv1 hv2 hv3
        subst hv1 hv3
        clear hv2 hat
        have hrnp := rangeAt_block hrnp (hB.block bw hbw)
        have hrow0 := Row.new wr 45 [.int .i64 0, .int .i64 0, .int .i64 0, .int .i64 0, .int .i64 0, .slice none 0 0, .slice none 0 0, .slice none 0 0]
        have hon := one_RPrep (G := Any) (w := W) (x := P) ⟨po, ps, pc, rfl, u1, u2, u3⟩
        go_upto_region 17 with (first
          | (refine wpList_load_mid rfl _ _ rfl bw (offp + i * 8) rfl [.int .i64 P.1, .int .i64 P.2.1.1, .int .i64 P.2.1.2, .int .i64 P.2.2.1.1, .int .i64 P.2.2.1.2.1, po, ps, pc] _ hrnp Try.underlying45 rfl (by kernel_rfl) ?_)
          | (refine wl_store rfl _ _ _ rfl wr.heap.size [.int .i64 P.1, .int .i64 P.2.1.1, .int .i64 P.2.1.2, .int .i64 P.2.2.1.1, .int .i64 P.2.2.1.2.1, po, ps, pc] rfl rfl _ _ hrow0 rfl (by kernel_rfl) hon ?_; intro w9 rP g9))
        have b9 : Below wr.heap.size wr w9 := (below_alloc wr (.cells ([.int .i64 0, .int .i64 0, .int .i64 0, .int .i64 0, .int .i64 0, .slice none 0 0, .slice none 0 0, .slice none 0 0] : List Value).toArray 45)).trans (grown_below g9 (by simp) (fun k hk => by cases hk; exact Nat.le_refl _))
        have rP := rP.out
        have hB9 := below_and hB (Nat.le_refl _) b9
        obtain ⟨cP, hcP⟩ : ∃ c, c = wr.heap.size := ⟨_, rfl⟩
        rw [← hcP] at rP ⊢
        clear hrow0 g9 hrnp hon
        clear hcP
        have hPm := List.mem_of_getElem? hP
        have hBr9 := below_and hBr (Nat.le_refl _) b9
        have HTP := (show Hid (∀ p, p ∈ PS.take (i + 1) ↔ p ∈ PS.take i ∨ p = P) from mem_take_succ hP)
        have HRP := (show Hid (RReq Any W [.int .i64 P.2.2.1.1, .int .i64 P.2.2.1.2.1, po, ps] P.2.2.1) from ⟨_, _, rfl, u1, u2⟩)
        clear hP b9 u1 u2 u3 hB hBr
        have z0 := rP.cell (j := 0) rfl
        by_cases hk : P.1 = k
        case neg =>
          have d1 : (P.1 != k) = true := by simp [hk]
          have hFP2 : FndP k PL PS (i + 1) f := fun p hp hpk => by
            rcases (HTP.out p).1 hp with hp | hp
            · exact hFP p hp hpk
            · subst hp; exact absurd (pk_slot hpk) hk
          have hAP2 : a = false → ∀ p ∈ PS.take (i + 1), p.1 ≠ k := fun ha p hp => by
            rcases (HTP.out p).1 hp with hp | hp
            · exact hAP ha p hp
            · subst hp; exact hk
          clear hFP hAP hk
          go_wp2_with fail
          go_roundw
          case rel => exact ⟨i + 1, f, a, by omega, by go_num, rfl, rfl, hF, hFP2, hA0, hAP2, hBr9⟩
          case measure => simp [intOf]; omega
        have d1 : (P.1 != k) = false := by simp [hk]
        have hAny : AnyR k PL n true := ⟨fun e => (by cases e), fun _ => ⟨A, hAm, P, HPS.out ▸ hPm, hk⟩⟩
        have HK := (show Hid (P.1 = k) from hk)
        clear hk hA0 hAP
        go_wp2_with fail
        clear d1 z0
        go_loopw [15, 57] (fun s15 j wr => ∃ (q : Nat) (h : Bool), q ≤ PL.length ∧ j = .int .i64 q ∧ s15 = .bool h ∧ (pkR k PL = some P → h = true) ∧ Below w9.heap.size w9 wr) (fun _ j _ => PL.length - (intOf j).toNat)
        case atStart => exact ⟨0, true, by omega, rfl, rfl, fun _ => rfl, Below.refl _ _⟩
        case round =>
          obtain ⟨q, h, hq, rfl, rfl, hH, hB9r⟩ := hrel
          have hB := below_and hB9 (Nat.le_refl _) hB9r
          by_cases hnl2 : q < PL.length
          case neg =>
            have hBrr := below_and hBr9 (Nat.le_refl _) hB9r
            have rGr := rG.below hBrr
            have rPr := rP.below hB9r
            have hFPm : ∀ f', (f = true → f' = true) → (pkR k PL = some P → f' = true) → FndR k PL n f' ∧ FndP k PL PS (i + 1) f' := fun f' h1 h2 => ⟨fun r hr p hp hpk => h1 (hF r hr p hp hpk), fun p hp hpk => by
              rcases (HTP.out p).1 hp with hp | hp
              · exact h1 (hFP p hp hpk)
              · subst hp; exact h2 hpk⟩
            have HM := (show Hid (∀ f', (f = true → f' = true) → (pkR k PL = some P → f' = true) → FndR k PL n f' ∧ FndP k PL PS (i + 1) f') from hFPm)
            have HH := (show Hid (pkR k PL = some P → h = true) from hH)
            have HAny := (show Hid (AnyR k PL n true) from hAny)
            clear hFPm hF hFP hH hAny
            cases f with
            | true =>
              go_wp2_with fail
              go_roundw
              case rel => exact ⟨i + 1, true, true, by omega, by go_num, rfl, rfl, (HM.out true (fun _ => rfl) (fun _ => rfl)).1, (HM.out true (fun _ => rfl) (fun _ => rfl)).2, HAny.out, fun e => (by cases e), hBrr⟩
              case measure => simp [intOf]; omega
            | false =>
              cases h with
              | false =>
                have hm := HM.out false (fun e => e) (fun e => HH.out e)
                go_wp2_with fail
                go_roundw
                case rel => exact ⟨i + 1, false, true, by omega, by go_num, rfl, rfl, hm.1, hm.2, HAny.out, fun e => (by cases e), hBrr⟩
                case measure => simp [intOf]; omega
              | true =>
                have hSR := sameReq_any wr [.int .i64 (reqO o0).1, .int .i64 (reqO o0).2.1, go, gs] [.int .i64 P.2.2.1.1, .int .i64 P.2.2.1.2.1, po, ps] (reqO o0) P.2.2.1 (mov_req _ _ _ _ _ _ HG.out hBrr.size (Mv.below hBrr)) (mov_req _ _ _ _ _ _ HRP.out hB.size (Mv.below hB))
                have hm := HM.out (decide (reqO o0 = P.2.2.1)) (fun e => (by cases e)) (fun e => by
                  have := HO.out
                  rw [e] at this
                  subst this
                  exact decide_eq_true rfl)
                generalize decide (reqO o0 = P.2.2.1) = dd at *
                go_wp2_with (first
                  | (refine wl_part_w (by rfl) _ _ rfl cG 0 rfl _ _ rGr [.int .i64 (reqO o0).1, .int .i64 (reqO o0).2.1, go, gs] rfl _ Try.underlying36 rfl (by kernel_rfl) ?_)
                  | (refine wl_part_w (by rfl) _ _ rfl cP 3 rfl _ _ rPr [.int .i64 P.2.2.1.1, .int .i64 P.2.2.1.2.1, po, ps] rfl _ Try.underlying36 rfl (by kernel_rfl) ?_)
                  | (go_at_call 11; refine hSR.mono ?_; rintro e wx ⟨rfl, bx⟩))
                go_roundw
                case rel => exact ⟨i + 1, dd, true, by omega, by go_num, rfl, rfl, hm.1, hm.2, HAny.out, fun e => (by cases e), below_and hBrr (Nat.le_refl _) bx⟩
                case measure => simp [intOf]; omega
          obtain ⟨A2, hA2⟩ : ∃ A2, PL[q]? = some A2 := ⟨_, List.getElem?_eq_getElem hnl2⟩
          obtain ⟨rvv2, _, hrng, rd2, rs2, rp2, rg2, rfl, s1, s2, s3, s4⟩ := HAT.out q _ hA2
          have hrng := rangeAt_block hrng (hB.block bv hbv)
          have hrow0 := Row.new wr 30 [.int .i64 0, .int .i64 0, .int .i64 0, .int .i64 0, .slice none 0 0, .slice none 0 0, .slice none 0 0, .slice none 0 0]
          have hon := one_RRep (G := Any) (w := W) (x := A2) ⟨rd2, rs2, rp2, rg2, rfl, s1, s2, s3, s4⟩
          go_upto_region 23 with (first
            | (refine wpList_load_mid rfl _ _ rfl bv (off + q * 8) rfl [.int .i64 A2.1.1, .int .i64 A2.1.2, .int .i64 A2.2.1, .int .i64 A2.2.2.1, rd2, rs2, rp2, rg2] _ hrng Try.underlying30 rfl (by kernel_rfl) ?_)
            | (refine wl_store rfl _ _ _ rfl wr.heap.size [.int .i64 A2.1.1, .int .i64 A2.1.2, .int .i64 A2.2.1, .int .i64 A2.2.2.1, rd2, rs2, rp2, rg2] rfl rfl _ _ hrow0 rfl (by kernel_rfl) hon ?_; intro w10 rR2 g10))
          have b10 : Below wr.heap.size wr w10 := (below_alloc wr (.cells ([.int .i64 0, .int .i64 0, .int .i64 0, .int .i64 0, .slice none 0 0, .slice none 0 0, .slice none 0 0, .slice none 0 0] : List Value).toArray 30)).trans (grown_below g10 (by simp) (fun k hk => by cases hk; exact Nat.le_refl _))
          have rR2 := rR2.out
          have hB10 := below_and hB (Nat.le_refl _) b10
          obtain ⟨cR2, hcR2⟩ : ∃ c, c = wr.heap.size := ⟨_, rfl⟩
          rw [← hcR2] at rR2 ⊢
          clear hrow0 g10 hrng hon
          clear hcR2
          have hA2m := List.mem_of_getElem? hA2
          have hB9s := below_and hB9r (Nat.le_refl _) b10
          clear hA2 b10 hB
          obtain ⟨pa2, pcap2, rfl, _⟩ := s3.form
          have k62 := rR2.cell (j := 6) rfl
          have hlp2 : (A2.2.2.2.2.2.1.length : Int) ≤ 9223372036854775807 := by
            by_cases h0 : 0 < A2.2.2.2.2.2.1.length
            · obtain ⟨_, _, _, _, h1, h2, _⟩ := s3.at h0
              unfold maxLen at h2
              omega
            · omega
          have HT2 := (show Hid (RL RPrep 8 Any W (.slice pa2 A2.2.2.2.2.2.1.length pcap2) A2.2.2.2.2.2.1) from s3)
          clear s1 s2 s3 s4 rR2
          obtain ⟨QS, hQS⟩ : ∃ PS, PS = A2.2.2.2.2.2.1 := ⟨_, rfl⟩
          have HQS := (show Hid (QS = A2.2.2.2.2.2.1) from hQS)
          rw [← hQS] at HT2 hlp2 k62 ⊢
          clear hQS
          go_wp2_with fail
          go_loopw [15, 64] (fun s15 j wr => ∃ (z : Nat) (h : Bool), z ≤ QS.length ∧ j = .int .i64 z ∧ s15 = .bool h ∧ (pkR k PL = some P → h = true) ∧ Below w9.heap.size w9 wr) (fun _ j _ => QS.length - (intOf j).toNat)
          case atStart => exact ⟨0, h, by omega, rfl, rfl, hH, hB9s⟩
          case round =>
            clear hH hB9s hB9r k62 hB10
            obtain ⟨z, h, hzz, rfl, rfl, hH, hB9r⟩ := hrel
            have hB := below_and hB9 (Nat.le_refl _) hB9r
            by_cases hil2 : z < QS.length
            case neg =>
              go_wp2_with fail
              go_roundw
              case rel => exact ⟨q + 1, h, by omega, by go_num, rfl, hH, hB9r⟩
              case measure => simp [intOf]; omega
            obtain ⟨Q, hQ⟩ : ∃ Q, QS[z]? = some Q := ⟨_, List.getElem?_eq_getElem hil2⟩
            obtain ⟨bw2, offq, capq, hve, _, _, _, hbw2, hat⟩ := (HT2.out).at (by omega)
            obtain ⟨rww2, _, hrnp, qpo, qps, qpc, rfl, x1, x2, x3⟩ := hat z _ hQ
            injection hve with hv1 hv2 hv3
            subst hv1 hv3
            clear hv2 hat
            have hrnp := rangeAt_block hrnp (hB.block bw2 hbw2)
            have hrow0 := Row.new wr 45 [.int .i64 0, .int .i64 0, .int .i64 0, .int .i64 0, .int .i64 0, .slice none 0 0, .slice none 0 0, .slice none 0 0]
            have hon := one_RPrep (G := Any) (w := W) (x := Q) ⟨qpo, qps, qpc, rfl, x1, x2, x3⟩
            go_upto_region 26 with (first
              | (refine wpList_load_mid rfl _ _ rfl bw2 (offq + z * 8) rfl [.int .i64 Q.1, .int .i64 Q.2.1.1, .int .i64 Q.2.1.2, .int .i64 Q.2.2.1.1, .int .i64 Q.2.2.1.2.1, qpo, qps, qpc] _ hrnp Try.underlying45 rfl (by kernel_rfl) ?_)
              | (refine wl_store rfl _ _ _ rfl wr.heap.size [.int .i64 Q.1, .int .i64 Q.2.1.1, .int .i64 Q.2.1.2, .int .i64 Q.2.2.1.1, .int .i64 Q.2.2.1.2.1, qpo, qps, qpc] rfl rfl _ _ hrow0 rfl (by kernel_rfl) hon ?_; intro w11 rQ g11))
            have b11 : Below wr.heap.size wr w11 := (below_alloc wr (.cells ([.int .i64 0, .int .i64 0, .int .i64 0, .int .i64 0, .int .i64 0, .slice none 0 0, .slice none 0 0, .slice none 0 0] : List Value).toArray 45)).trans (grown_below g11 (by simp) (fun k hk => by cases hk; exact Nat.le_refl _))
            have rQ := rQ.out
            have hB11 := below_and hB (Nat.le_refl _) b11
            obtain ⟨cQ2, hcQ2⟩ : ∃ c, c = wr.heap.size := ⟨_, rfl⟩
            rw [← hcQ2] at rQ ⊢
            clear hrow0 g11 hrnp hon
            clear hcQ2
            have hQm := List.mem_of_getElem? hQ
            have hB9t := below_and hB9r (Nat.le_refl _) b11
            have rPr := (rP.below hB9r).below b11
            clear hQ b11 x1 x2 x3 hB
            have z0 := rQ.cell (j := 0) rfl
            by_cases hk2 : Q.1 = k
            case neg =>
              have d2 : (Q.1 == k) = false := by simp [hk2]
              clear hk2
              go_wp2_with fail
              go_roundw
              case rel => exact ⟨z + 1, h, by omega, by go_num, rfl, hH, hB9t⟩
              case measure => simp [intOf]; omega
            have d2 : (Q.1 == k) = true := by simp [hk2]
            have hC := compareB_any w11 Q.2.1.1 Q.2.1.2 P.2.1.1 P.2.1.2
            have htop : pkR k PL = some P → ¬ 0 < cmp2 Q.2.1.1 Q.2.1.2 P.2.1.1 P.2.1.2 := fun e => pk_top e hA2m (HQS.out ▸ hQm) hk2
            clear hk2
            generalize cmp2 Q.2.1.1 Q.2.1.2 P.2.1.1 P.2.1.2 = cc at *
            cases hd : decide (0 < cc) with
            | false =>
              clear htop
              go_wp2_with (first
                | (refine wl_part_w (by rfl) _ _ rfl cQ2 1 rfl _ _ rQ [.int .i64 Q.2.1.1, .int .i64 Q.2.1.2] rfl _ Try.underlying25 rfl (by kernel_rfl) ?_)
                | (refine wl_part_w (by rfl) _ _ rfl cP 1 rfl _ _ rPr [.int .i64 P.2.1.1, .int .i64 P.2.1.2] rfl _ Try.underlying25 rfl (by kernel_rfl) ?_)
                | (go_at_call 17; refine hC.mono ?_; rintro e wx ⟨rfl, bx⟩))
              go_roundw
              case rel => exact ⟨z + 1, h, by omega, by go_num, rfl, hH, below_and hB9t (Nat.le_refl _) bx⟩
              case measure => simp [intOf]; omega
            | true =>
              have hno : pkR k PL = some P → false = true := fun e => absurd (of_decide_eq_true hd) (htop e)
              have HNO := (show Hid (pkR k PL = some P → false = true) from hno)
              clear htop hno hH
              go_wp2_with (first
                | (refine wl_part_w (by rfl) _ _ rfl cQ2 1 rfl _ _ rQ [.int .i64 Q.2.1.1, .int .i64 Q.2.1.2] rfl _ Try.underlying25 rfl (by kernel_rfl) ?_)
                | (refine wl_part_w (by rfl) _ _ rfl cP 1 rfl _ _ rPr [.int .i64 P.2.1.1, .int .i64 P.2.1.2] rfl _ Try.underlying25 rfl (by kernel_rfl) ?_)
                | (go_at_call 17; refine hC.mono ?_; rintro e wx ⟨rfl, bx⟩))
              go_roundw
              case rel => exact ⟨z + 1, false, by omega, by go_num, rfl, HNO.out, below_and hB9t (Nat.le_refl _) bx⟩
              case measure => simp [intOf]; omega
end Go.Proofs.Ytjloehkolnjnhab
