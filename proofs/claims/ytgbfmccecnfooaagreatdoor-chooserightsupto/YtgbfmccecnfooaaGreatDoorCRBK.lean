/- The document's Body. -/
import Derived.Test.YtgbfmccecnfooaaGreatDoorCRAJ
import Derived.Test.YtgbfmccecnfooaaGreatDoorCRBB
import Derived.Test.YtgbfmccecnfooaaGreatDoorCRAV
import Derived.Test.YtgbfmccecnfooaaGreatDoorCRAD
import Derived.Test.YtgbfmccecnfooaaGreatDoorCRAP
import Derived.Test.YtgbfmccecnfooaaGreatDoorCRAU
set_option linter.unusedSimpArgs false
set_option linter.unusedVariables false
namespace Go.Proofs.YtgbfmccecnfooaaGreatDoor
section
open Go.RowKit Oct
set_option maxRecDepth 10000 in
set_option maxHeartbeats 2000000 in
/-- msg.Body. -/
theorem body_any (w : World) (r : List Value) (x : PReq) (h : RReq Any w r x) (hz : tot [x.2.2.1, x.2.2.2] ≤ 10000000) :
    Calls Tryz.prog 92 #[.agg r.toArray] w fun e w' => ∃ v', e = .returned v' ∧ Own w' 5 v' (bc (body x)) ∧ Fr w.heap.size v' ∧ Below w.heap.size w w' := by
  obtain ⟨vo, vg, rfl, ho, hg⟩ := h
  obtain ⟨oo, oc, rfl, hoc⟩ := ho.form
  obtain ⟨go, gc, rfl, hgc⟩ := hg.form
  generalize hvo : Value.slice oo x.2.2.1.length oc = vo at *
  generalize hvg : Value.slice go x.2.2.2.length gc = vg at *
  obtain ⟨w2, hw2⟩ : ∃ w2, w2 = (w.alloc (.cells #[.int .i64 x.1, .int .i64 x.2.1, vo, vg] 62)) := ⟨_, rfl⟩
  have ra : Row w2 w.heap.size 62 [.int .i64 x.1, .int .i64 x.2.1, vo, vg] := by rw [hw2]; exact Row.new w 62 _
  have hB : Below w.heap.size w w2 := by rw [hw2]; exact ((Below.refl _ w).alloc (Nat.le_refl _) _)
  have a0 := ra.cell (j := 0) rfl
  go_enter Tryz.func92, Tryz.ntmps92
  go_upto_region 1 with fail
  rw [← hw2]
  clear hw2
  have a1 := ra.cell (j := 1) rfl
  have hdw : Below w2.heap.size w2 w2.drew := ⟨rfl, rfl, rfl, Nat.le_refl _, fun _ _ => rfl⟩
  have SK := (show Hid (∀ u, Below w2.heap.size w2 u → u.cell? ⟨w.heap.size, 0, none⟩ = some (.int .i64 x.1) ∧ u.cell? ⟨w.heap.size, 1, none⟩ = some (.int .i64 x.2.1)) from fun u hu => ⟨(hu.cell (p := ⟨w.heap.size, 0, none⟩) ra.lt).trans a0, (hu.cell (p := ⟨w.heap.size, 1, none⟩) ra.lt).trans a1⟩)
  have hA := appendWord_any w2.drew (.slice none 0 0) [] x.1 (Own.nil _ _) (by simp)
  rw [List.nil_append] at hA
  have HA := (show Hid (∀ _ : Unit, _) from fun _ => hA)
  clear hA
  go_wp2_with fail
  go_region_held3 (fun u => u.cell? ⟨w.heap.size, 0, none⟩ = some (.int .i64 x.1) ∧ u.cell? ⟨w.heap.size, 1, none⟩ = some (.int .i64 x.2.1))
    (first | exact SK.out _ (by assumption) | go_keep)
    (first
      | (go_at_call 127; refine (appendWord_any w3 v3 (le8 (u64 x.1)) x.2.1 happ3.own (by rw [le8_len]; decide)).mono ?_; rintro e w4 ⟨v4, rfl, happ4⟩; have hb4 : Below w2.heap.size w2 w4 := hb3.trans (happ4.below (happ3.fr (Fr.nil _) (Nat.le_refl _)) hb3.size))
      | (go_at_call 127; refine (HA.out ()).mono ?_; rintro e w3 ⟨v3, rfl, happ3⟩; have hb3 : Below w2.heap.size w2 w3 := hdw.trans (happ3.below (Fr.nil _) (Nat.le_refl _))))
  have ra4 := ra.below hb4
  have c2 := ra4.cell (j := 2) rfl
  have c3 := ra4.cell (j := 3) rfl
  have hB4 := below_and hB (Nat.le_refl _) hb4
  have ho4 := (ho.mv (Mv.below hB4)).1
  have hg4 := (hg.mv (Mv.below hB4)).1
  have hf3 := happ3.fr (Fr.nil w2.drew.heap.size) (Nat.le_refl _)
  have hf4 := happ4.fr hf3 hb3.size
  have hown4 := happ4.own
  have hl : Rdl (w4.alloc (.cells #[vo, vg] 24)) (.slice (some ⟨w4.heap.size, 0, none⟩) 2 2) [x.2.2.1, x.2.2.2] :=
    ⟨[vo, vg], Own.rdv (e := 24) (World.ownsRow_lit (base := 0) (size := 1) w4 #[vo, vg] 2 (Nat.zero_le _) (by decide) rfl), ho4.below (below_alloc _ _), hg4.below (below_alloc _ _), trivial⟩
  have hP := pack_any _ _ _ hl hz
  clear ra ra4 a0 a1 hdw SK HA happ3 happ4 hf3 hl ho4 hg4
  subst hvo hvg
  go_wp2_with fail
  refine hP.mono ?_
  rintro e w5 ⟨v5, rfl, hown5, hfr5, hb5⟩
  have hb45 : Below w4.heap.size w4 w5 := (below_alloc w4 _).trans (hb5.mono (by simp))
  have hB5 := below_and hB4 (Nat.le_refl _) hb45
  have hown4' := hown4.below hb45
  have hrd5 := hown5.rdv
  have hf4w : Fr w.heap.size v4 := hf4.mono hB.size
  have hpl := packL_len [x.2.2.1, x.2.2.2]
  have h16 : (le8 (u64 x.1) ++ le8 (u64 x.2.1)).length = 16 := rfl
  have HL := (show Hid ((le8 (u64 x.1) ++ le8 (u64 x.2.1)).length + (packL [x.2.2.1, x.2.2.2]).length ≤ 140737488355328) by show _ ≤ _; omega)
  clear hP hown4 hown5 hfr5 hb5 hb45 hf4 hb3 hpl h16 c2 c3 hb4
  go_wp2_with (at_builtin; refine app_bytes rfl _ _ rfl v4 _ rfl hown4' v5 _ rfl hrd5 HL.out ?_; intro v6 w6 happ6)
  go_ret
  exact ⟨_, rfl, happ6.own, happ6.fr hf4w hB5.size, hB5.trans (happ6.below hf4w hB5.size)⟩
end
section
open Go.RowKit Oct Bal
theorem len_rep {G : Nat → Prop} {w : World} {v : Value} {ys : List PRep} (h : RL RRep 8 G w v ys) : (ys.length : Int) ≤ 9223372036854775807 := by
  by_cases h0 : 0 < ys.length
  · obtain ⟨_, _, _, _, h1, h2, _⟩ := h.at h0
    unfold maxLen at h2
    omega
  · omega
set_option maxRecDepth 10000 in
set_option maxHeartbeats 4000000 in
theorem lowC_any (w : World) (v : Value) (ys : List PRep) (hvs : RL RRep 8 Any w v ys) : Calls Tryz.prog 52 #[v] w fun e w' => e = .returned (.int .i64 (lowR ys)) ∧ Below w.heap.size w w' := by
  obtain ⟨aa, ca, rfl, _⟩ := hvs.form
  have hlv := len_rep hvs
  go_enter Tryz.func52, Tryz.ntmps52
  go_wp2_with fail
  go_loopw [3, 8] (fun m j wr => ∃ n : Nat, n ≤ ys.length ∧ j = .int .i64 n ∧ m = .int .i64 ((ys.take n).foldl lowS 0) ∧ Below w.heap.size w wr) (fun _ j _ => ys.length - (intOf j).toNat)
  case atStart => exact ⟨0, by omega, rfl, rfl, Below.refl _ _⟩
  case round =>
    obtain ⟨n, hn, rfl, rfl, hB⟩ := hrel
    by_cases hnl : n < ys.length
    case neg =>
      have hy : ys.take n = ys := List.take_of_length_le (by omega)
      have HY := (show Hid (ys.take n = ys) from hy)
      clear hy
      go_wp2_with fail
      go_ret
      exact ⟨by rw [HY.out]; rfl, hB⟩
    obtain ⟨A, hA⟩ : ∃ A, ys[n]? = some A := ⟨_, List.getElem?_eq_getElem hnl⟩
    obtain ⟨bv, off, cap, hve, _, _, _, hbv, hat⟩ := hvs.at (by omega)
    obtain ⟨rvv, _, hrng, rd, rs, rp, rg, rfl, t1, t2, t3, t4⟩ := hat n _ hA
    injection hve with hv1 hv2 hv3
    subst hv1 hv3
    clear hv2 hat
    have hrng := rangeAt_block hrng (hB.block bv hbv)
    have hrow0 := Row.new wr 28 [.int .i64 0, .int .i64 0, .int .i64 0, .int .i64 0, .slice none 0 0, .slice none 0 0, .slice none 0 0, .slice none 0 0]
    have hon := one_RRep (G := Any) (w := w) (x := A) ⟨rd, rs, rp, rg, rfl, t1, t2, t3, t4⟩
    go_upto_region 5 with (first
      | (refine wpList_load_mid rfl _ _ rfl bv (off + n * 8) rfl [.int .i64 A.1.1, .int .i64 A.1.2, .int .i64 A.2.1, .int .i64 A.2.2.1, rd, rs, rp, rg] _ hrng Tryz.underlying28 rfl (by kernel_rfl) ?_)
      | (refine wl_store rfl _ _ _ rfl wr.heap.size [.int .i64 A.1.1, .int .i64 A.1.2, .int .i64 A.2.1, .int .i64 A.2.2.1, rd, rs, rp, rg] rfl rfl _ _ hrow0 rfl (by kernel_rfl) hon ?_; intro w8 rR g8))
    have b8 : Below wr.heap.size wr w8 := (below_alloc wr (.cells ([.int .i64 0, .int .i64 0, .int .i64 0, .int .i64 0, .slice none 0 0, .slice none 0 0, .slice none 0 0, .slice none 0 0] : List Value).toArray 28)).trans (grown_below g8 (by simp) (fun k hk => by cases hk; exact Nat.le_refl _))
    have rR := rR.out
    have hB8 := below_and hB (Nat.le_refl _) b8
    obtain ⟨cR, hcR⟩ : ∃ c, c = wr.heap.size := ⟨_, rfl⟩
    rw [← hcR] at rR ⊢
    clear hrow0 g8 hrng hon
    clear hcR b8
    have k3 := rR.cell (j := 3) rfl
    have hst := foldl_take (f := lowS) (b := 0) hA
    have HST := (show Hid (_ = _) from hst)
    clear hst hA hvs
    generalize (ys.take n).foldl lowS 0 = m at *
    go_wp2_with fail
    go_roundw
    case rel => exact ⟨n + 1, by omega, by go_num, by rw [HST.out]; rfl, hB8⟩
    case measure => simp [intOf]; omega
set_option maxRecDepth 10000 in
set_option maxHeartbeats 4000000 in
theorem highC_any (w : World) (v : Value) (ys : List PRep) (hvs : RL RRep 8 Any w v ys) : Calls Tryz.prog 53 #[v] w fun e w' => e = .returned (.int .i64 (higR ys)) ∧ Below w.heap.size w w' := by
  have hLo := lowC_any w v ys hvs
  obtain ⟨aa, ca, rfl, _⟩ := hvs.form
  have hlv := len_rep hvs
  go_enter Tryz.func53, Tryz.ntmps53
  go_upto_region 2 with (go_at_call 52; refine hLo.mono ?_; rintro e w1 ⟨rfl, b1⟩)
  clear hLo
  generalize hLR : lowR ys = LR at *
  go_wp2_with fail
  go_loopw [3, 12] (fun m j wr => ∃ n : Nat, n ≤ ys.length ∧ j = .int .i64 n ∧ m = .int .i64 ((ys.take n).foldl (fun m r => r.2.2.2.2.2.1.foldl higS m) LR) ∧ Below w.heap.size w wr) (fun _ j _ => ys.length - (intOf j).toNat)
  case atStart => exact ⟨0, by omega, rfl, rfl, b1⟩
  case round =>
    obtain ⟨n, hn, rfl, rfl, hB⟩ := hrel
    by_cases hnl : n < ys.length
    case neg =>
      have hy : higR ys = (ys.take n).foldl (fun m r => r.2.2.2.2.2.1.foldl higS m) LR := by
        rw [List.take_of_length_le (by omega)]
        unfold higR
        rw [hLR]
      have HY := (show Hid (_ = _) from hy)
      clear hy
      go_wp2_with fail
      go_ret
      exact ⟨by rw [HY.out]; rfl, hB⟩
    obtain ⟨A, hA⟩ : ∃ A, ys[n]? = some A := ⟨_, List.getElem?_eq_getElem hnl⟩
    obtain ⟨bv, off, cap, hve, _, _, _, hbv, hat⟩ := hvs.at (by omega)
    obtain ⟨rvv, _, hrng, rd, rs, rp, rg, rfl, t1, t2, t3, t4⟩ := hat n _ hA
    injection hve with hv1 hv2 hv3
    subst hv1 hv3
    clear hv2 hat
    have hrng := rangeAt_block hrng (hB.block bv hbv)
    have hrow0 := Row.new wr 28 [.int .i64 0, .int .i64 0, .int .i64 0, .int .i64 0, .slice none 0 0, .slice none 0 0, .slice none 0 0, .slice none 0 0]
    have hon := one_RRep (G := Any) (w := w) (x := A) ⟨rd, rs, rp, rg, rfl, t1, t2, t3, t4⟩
    go_upto_region 5 with (first
      | (refine wpList_load_mid rfl _ _ rfl bv (off + n * 8) rfl [.int .i64 A.1.1, .int .i64 A.1.2, .int .i64 A.2.1, .int .i64 A.2.2.1, rd, rs, rp, rg] _ hrng Tryz.underlying28 rfl (by kernel_rfl) ?_)
      | (refine wl_store rfl _ _ _ rfl wr.heap.size [.int .i64 A.1.1, .int .i64 A.1.2, .int .i64 A.2.1, .int .i64 A.2.2.1, rd, rs, rp, rg] rfl rfl _ _ hrow0 rfl (by kernel_rfl) hon ?_; intro w8 rR g8))
    have b8 : Below wr.heap.size wr w8 := (below_alloc wr (.cells ([.int .i64 0, .int .i64 0, .int .i64 0, .int .i64 0, .slice none 0 0, .slice none 0 0, .slice none 0 0, .slice none 0 0] : List Value).toArray 28)).trans (grown_below g8 (by simp) (fun k hk => by cases hk; exact Nat.le_refl _))
    have rR := rR.out
    have hB8 := below_and hB (Nat.le_refl _) b8
    obtain ⟨cR, hcR⟩ : ∃ c, c = wr.heap.size := ⟨_, rfl⟩
    rw [← hcR] at rR ⊢
    clear hrow0 g8 hrng hon
    clear hcR b8
    have hst := foldl_take (f := fun (m : Int) (r : PRep) => r.2.2.2.2.2.1.foldl higS m) (b := LR) hA
    have HST := (show Hid (_ = _) from hst)
    clear hst hA
    generalize (ys.take n).foldl (fun m r => r.2.2.2.2.2.1.foldl higS m) LR = m0 at *
    obtain ⟨pa, pcap, rfl, _⟩ := t3.form
    have k6 := rR.cell (j := 6) rfl
    have hlp : (A.2.2.2.2.2.1.length : Int) ≤ 9223372036854775807 := by
      by_cases h0 : 0 < A.2.2.2.2.2.1.length
      · obtain ⟨_, _, _, _, h1, h2, _⟩ := t3.at h0
        unfold maxLen at h2
        omega
      · omega
    have HT := (show Hid (RL RPrep 8 Any w (.slice pa A.2.2.2.2.2.1.length pcap) A.2.2.2.2.2.1) from t3)
    clear t1 t2 t3 t4 rR hB hvs
    generalize hPS : A.2.2.2.2.2.1 = PS at *
    go_wp2_with fail
    go_loopw [3, 19] (fun m j wr => ∃ i : Nat, i ≤ PS.length ∧ j = .int .i64 i ∧ m = .int .i64 ((PS.take i).foldl higS m0) ∧ Below w.heap.size w wr) (fun _ j _ => PS.length - (intOf j).toNat)
    case atStart => exact ⟨0, by omega, rfl, rfl, hB8⟩
    case round =>
      obtain ⟨i, hi, rfl, rfl, hB⟩ := hrel
      by_cases hil : i < PS.length
      case neg =>
        have hy : PS.take i = PS := List.take_of_length_le (by omega)
        have HY := (show Hid (PS.take i = PS) from hy)
        clear hy
        go_wp2_with fail
        go_roundw
        case rel => exact ⟨n + 1, by omega, by go_num, by rw [HST.out, HY.out] <;> first | rfl | (show _ = Value.int .i64 (A.2.2.2.2.2.1.foldl higS m0); rw [hPS]), hB⟩
        case measure => simp [intOf]; omega
      obtain ⟨P, hP⟩ : ∃ P, PS[i]? = some P := ⟨_, List.getElem?_eq_getElem hil⟩
      obtain ⟨bw, offp, capp, hve, _, _, _, hbw, hat⟩ := (HT.out).at (by omega)
      obtain ⟨rww, _, hrnp, po, ps, pc, rfl, u1, u2, u3⟩ := hat i _ hP
      injection hve with hv1 hv2 hv3
      subst hv1 hv3
      clear hv2 hat
      have hrnp := rangeAt_block hrnp (hB.block bw hbw)
      have hrow0 := Row.new wr 66 [.int .i64 0, .int .i64 0, .int .i64 0, .int .i64 0, .int .i64 0, .slice none 0 0, .slice none 0 0, .slice none 0 0]
      have hon := one_RPrep (G := Any) (w := w) (x := P) ⟨po, ps, pc, rfl, u1, u2, u3⟩
      go_upto_region 8 with (first
        | (refine wpList_load_mid rfl _ _ rfl bw (offp + i * 8) rfl [.int .i64 P.1, .int .i64 P.2.1.1, .int .i64 P.2.1.2, .int .i64 P.2.2.1.1, .int .i64 P.2.2.1.2.1, po, ps, pc] _ hrnp Tryz.underlying66 rfl (by kernel_rfl) ?_)
        | (refine wl_store rfl _ _ _ rfl wr.heap.size [.int .i64 P.1, .int .i64 P.2.1.1, .int .i64 P.2.1.2, .int .i64 P.2.2.1.1, .int .i64 P.2.2.1.2.1, po, ps, pc] rfl rfl _ _ hrow0 rfl (by kernel_rfl) hon ?_; intro w9 rP g9))
      have b9 : Below wr.heap.size wr w9 := (below_alloc wr (.cells ([.int .i64 0, .int .i64 0, .int .i64 0, .int .i64 0, .int .i64 0, .slice none 0 0, .slice none 0 0, .slice none 0 0] : List Value).toArray 66)).trans (grown_below g9 (by simp) (fun k hk => by cases hk; exact Nat.le_refl _))
      have rP := rP.out
      have hB9 := below_and hB (Nat.le_refl _) b9
      obtain ⟨cP, hcP⟩ : ∃ c, c = wr.heap.size := ⟨_, rfl⟩
      rw [← hcP] at rP ⊢
      clear hrow0 g9 hrnp hon
      clear hcP b9
      have k0 := rP.cell (j := 0) rfl
      have hst := foldl_take (f := higS) (b := m0) hP
      have HST2 := (show Hid (_ = _) from hst)
      clear hst hP
      generalize (PS.take i).foldl higS m0 = m1 at *
      go_wp2_with fail
      go_roundw
      case rel => exact ⟨i + 1, by omega, by go_num, by rw [HST2.out]; rfl, hB9⟩
      case measure => simp [intOf]; omega
end
section
open Go.RowKit Oct Bal
namespace Bb
theorem fau_at {n : Int} {j : Nat} (h : n = 3 * (j : Int) + 1) (h1 : 1 ≤ j) (h5 : j ≤ 5) : fau n = j := by
  have : j = 1 ∨ j = 2 ∨ j = 3 ∨ j = 4 ∨ j = 5 := by omega
  rcases this with rfl | rfl | rfl | rfl | rfl <;> subst h <;> rfl
theorem fau_none {n : Int} (h : ∀ j : Nat, 1 ≤ j → j < 6 → n ≠ 3 * (j : Int) + 1) : fau n = 0 := by
  have h1 := h 1 (by omega) (by omega)
  have h2 := h 2 (by omega) (by omega)
  have h3 := h 3 (by omega) (by omega)
  have h4 := h 4 (by omega) (by omega)
  have h5 := h 5 (by omega) (by omega)
  unfold fau
  rw [if_neg (by omega), if_neg (by omega), if_neg (by omega), if_neg (by omega), if_neg (by omega)]
theorem refFaults_any (w : World) (n : Int) : Calls Tryz.prog 62 #[.int .i64 n] w fun e w' => e = .returned (.int .i64 (fau n)) ∧ w' = w := by
  obtain ⟨r, hr⟩ : ∃ r, r = fau n := ⟨_, rfl⟩
  rw [← hr]
  have HR := (show Hid (r = fau n) from hr)
  clear hr
  go_enter Tryz.func62, Tryz.ntmps62
  go_wp2_with fail
  go_loop [3] (fun i => ∃ k : Nat, 1 ≤ k ∧ k ≤ 6 ∧ i = .int .i64 k ∧ Hid (∀ j : Nat, 1 ≤ j → j < k → n ≠ 3 * (j : Int) + 1)) (fun i => 6 - (intOf i).toNat)
  case atStart => exact ⟨1, by omega, by omega, rfl, fun j h1 h2 => by omega⟩
  case round =>
    obtain ⟨k, hk1, hk6, rfl, hno⟩ := hrel
    by_cases hk : k < 6
    · have hi : (k : Int) ≤ 5 := by omega
      by_cases hn : n = 3 * (k : Int) + 1
      · have hr' : r = k := by rw [HR.out, fau_at hn hk1 (by omega)]
        subst hr'
        clear HR
        go_wp2_with fail
        go_ret
        exact ⟨rfl, rfl⟩
      · have hnx : ¬ (n = 3 * (k : Int) + 1) := hn
        go_wp2_with fail
        go_round
        case rel => exact ⟨k + 1, by omega, by omega, by go_num, fun j h1 h2 => by
          rcases Nat.lt_or_ge j k with h | h
          · exact hno.out j h1 h
          · obtain rfl : j = k := by omega
            exact hn⟩
        case measure => simp [intOf]; omega
    · have hi : ¬ (k : Int) ≤ 5 := by omega
      obtain rfl : k = 6 := by omega
      have hr' : r = 0 := by rw [HR.out, fau_none hno.out]
      subst hr'
      clear HR
      go_wp2_with fail
      go_ret
      exact ⟨rfl, rfl⟩
theorem refRight_any (w : World) (n : Int) : Calls Tryz.prog 34 #[.int .i64 n] w fun e w' => e = .returned (.bool (rgt n)) ∧ w' = w := by
  have hF := refFaults_any w n
  by_cases h : rgt n = true
  · have h1 := fau_pos.2 h
    rw [h]
    clear h
    generalize fau n = f at *
    go_enter Tryz.func34, Tryz.ntmps34
    go_wp2_with fail
    refine hF.mono ?_
    rintro e w1 ⟨rfl, rfl⟩
    clear hF
    go_wp2_with fail
    go_ret
    exact ⟨rfl, rfl⟩
  · rw [fau_no h] at hF
    rw [rgt_no h]
    go_enter Tryz.func34, Tryz.ntmps34
    go_wp2_with fail
    refine hF.mono ?_
    rintro e w1 ⟨rfl, rfl⟩
    clear hF
    go_wp2_with fail
    go_ret
    exact ⟨rfl, rfl⟩
theorem refRight_yes (w : World) (n : Int) (h : rgt n = true) : Calls Tryz.prog 34 #[.int .i64 n] w fun e w' => e = .returned (.bool true) ∧ w' = w := h ▸ refRight_any w n
theorem refRight_not (w : World) (n : Int) (h : ¬ rgt n = true) : Calls Tryz.prog 34 #[.int .i64 n] w fun e w' => e = .returned (.bool false) ∧ w' = w := rgt_no h ▸ refRight_any w n
theorem refQuorum_any (w : World) (n : Int) : Calls Tryz.prog 41 #[.int .i64 n] w fun e w' => e = .returned (.int .i64 (quo n)) ∧ w' = w := by
  by_cases h : rgt n = true
  · have hR := refRight_yes w n h
    have hF := refFaults_any w n
    have h5 := fau_five (n := n)
    rw [quo_yes h]
    clear h
    generalize fau n = f at *
    go_enter Tryz.func41, Tryz.ntmps41
    go_wp2_with fail
    refine hR.mono ?_
    rintro e w1 ⟨rfl, rfl⟩
    clear hR
    go_wp2_with fail
    refine hF.mono ?_
    rintro e w1 ⟨rfl, rfl⟩
    clear hF
    go_wp2_with fail
    go_ret
    exact ⟨ret_int (by omega), rfl⟩
  · have hR := refRight_not w n h
    rw [quo_no h]
    clear h
    go_enter Tryz.func41, Tryz.ntmps41
    go_wp2_with fail
    refine hR.mono ?_
    rintro e w1 ⟨rfl, rfl⟩
    clear hR
    go_wp2_with fail
    go_ret
    exact ⟨rfl, rfl⟩
end Bb
end
section
open Go.RowKit Oct
theorem le8_at' (u : Int) (k : Nat) (hk : k < 8) : u / 256 ^ k % 256 = (le8 u).getD k 0 := by
  have := le8_at u k hk (8 * k) rfl
  rw [← this, Int.pow_mul]
  rfl
theorem u64_bd (n : Int) : 0 ≤ u64 n ∧ u64 n < 18446744073709551616 := by unfold u64; omega
theorem div_step (u : Int) (j : Nat) : u / 256 ^ j / 256 = u / 256 ^ (j + 1) := by
  rw [Int.pow_succ, Int.ediv_ediv_of_nonneg (by exact Int.le_of_lt (Int.pow_pos (by decide)))]
theorem div_bd {u : Int} (h0 : 0 ≤ u) (h1 : u < 18446744073709551616) (j : Nat) : 0 ≤ u / 256 ^ j ∧ u / 256 ^ j < 18446744073709551616 :=
  ⟨Int.ediv_nonneg h0 (Int.le_of_lt (Int.pow_pos (by decide))), Int.lt_of_le_of_lt (Int.ediv_le_self _ h0) h1⟩
theorem wrap_u64 (n : Int) : IntKind.u64.wrap n = u64 n := rfl
theorem idx0 (a b : Int) (w : World) : (Instr.index 110 (.agg #[.int .u64 a, .int .u64 b]) (.int .i64 0)).run Tryz.prog w = .ok (.int .u64 a) w := by kernel_rfl
theorem idx1 (a b : Int) (w : World) : (Instr.index 110 (.agg #[.int .u64 a, .int .u64 b]) (.int .i64 1)).run Tryz.prog w = .ok (.int .u64 b) w := by kernel_rfl
set_option maxRecDepth 10000 in
set_option maxHeartbeats 2000000 in
/-- The document's Body. -/
theorem refBody_any (w : World) (r : List Value) (x : PReq) (h : RReq Any w r x) (hz : tot [x.2.2.1, x.2.2.2] ≤ 10000000) :
    Calls Tryz.prog 39 #[.agg r.toArray] w fun e w' => ∃ v', e = .returned v' ∧ Own w' 5 v' (bc (body x)) ∧ Fr w.heap.size v' ∧ Below w.heap.size w w' := by
  obtain ⟨vo, vg, rfl, ho, hg⟩ := h
  obtain ⟨w2, hw2⟩ : ∃ w2, w2 = (w.alloc (.cells #[.int .i64 x.1, .int .i64 x.2.1, vo, vg] 62)) := ⟨_, rfl⟩
  have ra : Row w2 w.heap.size 62 [.int .i64 x.1, .int .i64 x.2.1, vo, vg] := by rw [hw2]; exact Row.new w 62 _
  have hB : Below w.heap.size w w2 := by rw [hw2]; exact ((Below.refl _ w).alloc (Nat.le_refl _) _)
  go_enter Tryz.func39, Tryz.ntmps39
  go_upto_region 1 with fail
  rw [← hw2]
  clear hw2
  have a0 := (row_alloc ra (.cells #[] 5)).cell (j := 0) rfl
  have a1 := (row_alloc ra (.cells #[] 5)).cell (j := 1) rfl
  go_wp2_with fail
  rw [wrap_u64, wrap_u64]
  have hstart : Own (w2.alloc (.cells #[] 5)) 5 (.slice (some ⟨w2.heap.size, 0, none⟩) 0 0) (bc []) := own_zero w2 5
  have hB0 : Below w2.heap.size w2 (w2.alloc (.cells #[] 5)) := below_alloc _ _
  have hF0 : Fr w2.heap.size (.slice (some ⟨w2.heap.size, 0, none⟩) 0 0) := fun k hk => by simp [Value.ownBlock] at hk; omega
  have HZ := (show Hid (x.2.2.1.length ≤ 10000000 ∧ x.2.2.2.length ≤ 10000000) by show _ ∧ _; simp only [tot] at hz; omega)
  have HS := (show Hid (∀ wr, Below w2.heap.size w2 wr → wr.cell? ⟨w.heap.size, 2, none⟩ = some vo ∧ wr.cell? ⟨w.heap.size, 3, none⟩ = some vg ∧ Rd wr vo x.2.2.1 ∧ Rd wr vg x.2.2.2) from fun wr hb =>
    ⟨(ra.below hb).cell (j := 2) rfl, (ra.below hb).cell (j := 3) rfl, (ho.mv (Mv.below (below_and hB (Nat.le_refl _) hb))).1, (hg.mv (Mv.below (below_and hB (Nat.le_refl _) hb))).1⟩)
  clear ra ho hg
  generalize w2.alloc (.cells #[] 5) = w3 at *
  go_loopw [3, 15] (fun o i wr => ∃ k : Int, k ≤ 2 ∧ i = .int .i64 k ∧ ((k = 0 ∧ Own wr 5 o (bc [])) ∨ (k = 1 ∧ Own wr 5 o (bc ([] ++ le8 (u64 x.1)))) ∨ (k = 2 ∧ Own wr 5 o (bc (le8 (u64 x.1) ++ le8 (u64 x.2.1))))) ∧ Fr w2.heap.size o ∧ Below w2.heap.size w2 wr) (fun _ i _ => (2 - intOf i).toNat)
  case atStart => exact ⟨0, by omega, rfl, .inl ⟨rfl, hstart⟩, hF0, hB0⟩
  case round =>
    clear hstart hF0 hB0 a0 a1
    obtain ⟨k, hk, rfl, hcase, hfk, hbk⟩ := hrel
    rcases hcase with ⟨rfl, hok⟩ | ⟨rfl, hok⟩ | ⟨rfl, hok⟩
    · have hub := u64_bd x.1
      have hix := idx0 (u64 x.1) (u64 x.2.1) wr
      have HD := (show Hid (([] : List Int).length ≤ 8) from Nat.zero_le 8)
      go_wp2_with fail
      go_loopw [3, 5, 6] (fun o n i wr => ∃ (j : Nat) (q : Int), j ≤ 8 ∧ i = .int .i64 j ∧ n = .int .u64 q ∧ Hid (q = u64 x.1 / 256 ^ j) ∧ Own wr 5 o (bc ([] ++ (le8 (u64 x.1)).take j)) ∧ Fr w2.heap.size o ∧ Below w2.heap.size w2 wr) (fun _ _ i _ => (8 - intOf i).toNat)
      case atStart => exact ⟨0, u64 x.1, by omega, rfl, rfl, by show _ = _; simp, by rw [List.take_zero, List.append_nil]; exact hok, hfk, hbk⟩
      case round =>
        clear hok hfk hbk hix
        obtain ⟨j, q, hj, rfl, rfl, HQ, hok, hfk, hbk⟩ := hrel
        by_cases hj8 : j < 8
        · have hq := div_bd hub.1 hub.2 j
          rw [← HQ.out] at hq
          obtain ⟨hq0, hq1⟩ := hq
          have hq2 : 0 ≤ q % 256 ∧ q % 256 ≤ 255 := by omega
          have hq3 : 0 ≤ q / 256 ∧ q / 256 < 18446744073709551616 := by omega
          have HX := (show Hid ([] ++ (le8 (u64 x.1)).take (j + 1) = ([] ++ (le8 (u64 x.1)).take j) ++ [q % 256]) by
            show _ = _
            rw [HQ.out, le8_at' _ _ hj8]
            exact le8_take _ _ _ hj8)
          have HN := (show Hid (q / 256 = u64 x.1 / 256 ^ (j + 1)) by show _ = _; rw [HQ.out, div_step])
          have HT := (show Hid (([] ++ (le8 (u64 x.1)).take j).length ≤ 1000) by
            show _ ≤ _
            have := HD.out
            rw [List.length_append, List.length_take, le8_len]
            omega)
          clear HQ
          go_wp2_with (at_builtin; refine app_bytes rfl _ _ rfl _ ([] ++ (le8 (u64 x.1)).take j) rfl (World.ownsRow.alloc hok _) _ [q % 256] rfl (rdv_one wr _ _) (by have := HT.out; simp only [List.length_cons, List.length_nil]; omega) ?_; intro o4 w4 happ4)
          have hp4 := happ4.pre (below_alloc wr _)
          rw [← HX.out] at hp4
          have hf4 := hp4.fr hfk hbk.size
          have hb4 := hbk.trans (hp4.below hfk hbk.size)
          have hgo := hp4.own
          clear hp4 happ4 hok hfk hbk
          go_roundw
          case rel => exact ⟨j + 1, q / 256, by omega, by go_num, by rfl, HN, hgo, hf4, hb4⟩
          case measure => simp [intOf]; omega
        · rw [List.take_of_length_le (by rw [le8_len]; omega)] at hok
          clear HQ
          go_wp2_with fail
          go_roundw
          case rel => exact ⟨1, by omega, by go_num, .inr (.inl ⟨rfl, hok⟩), hfk, hbk⟩
          case measure => simp [intOf]
    · rw [List.nil_append] at hok
      have hub := u64_bd x.2.1
      have hix := idx1 (u64 x.1) (u64 x.2.1) wr
      have HD := (show Hid ((le8 (u64 x.1)).length ≤ 8) from Nat.le_refl 8)
      go_wp2_with fail
      go_loopw [3, 5, 6] (fun o n i wr => ∃ (j : Nat) (q : Int), j ≤ 8 ∧ i = .int .i64 j ∧ n = .int .u64 q ∧ Hid (q = u64 x.2.1 / 256 ^ j) ∧ Own wr 5 o (bc (le8 (u64 x.1) ++ (le8 (u64 x.2.1)).take j)) ∧ Fr w2.heap.size o ∧ Below w2.heap.size w2 wr) (fun _ _ i _ => (8 - intOf i).toNat)
      case atStart => exact ⟨0, u64 x.2.1, by omega, rfl, rfl, by show _ = _; simp, by rw [List.take_zero, List.append_nil]; exact hok, hfk, hbk⟩
      case round =>
        clear hok hfk hbk hix
        obtain ⟨j, q, hj, rfl, rfl, HQ, hok, hfk, hbk⟩ := hrel
        by_cases hj8 : j < 8
        · have hq := div_bd hub.1 hub.2 j
          rw [← HQ.out] at hq
          obtain ⟨hq0, hq1⟩ := hq
          have hq2 : 0 ≤ q % 256 ∧ q % 256 ≤ 255 := by omega
          have hq3 : 0 ≤ q / 256 ∧ q / 256 < 18446744073709551616 := by omega
          have HX := (show Hid (le8 (u64 x.1) ++ (le8 (u64 x.2.1)).take (j + 1) = (le8 (u64 x.1) ++ (le8 (u64 x.2.1)).take j) ++ [q % 256]) by
            show _ = _
            rw [HQ.out, le8_at' _ _ hj8]
            exact le8_take _ _ _ hj8)
          have HN := (show Hid (q / 256 = u64 x.2.1 / 256 ^ (j + 1)) by show _ = _; rw [HQ.out, div_step])
          have HT := (show Hid ((le8 (u64 x.1) ++ (le8 (u64 x.2.1)).take j).length ≤ 1000) by
            show _ ≤ _
            have := HD.out
            rw [List.length_append, List.length_take, le8_len]
            omega)
          clear HQ
          go_wp2_with (at_builtin; refine app_bytes rfl _ _ rfl _ (le8 (u64 x.1) ++ (le8 (u64 x.2.1)).take j) rfl (World.ownsRow.alloc hok _) _ [q % 256] rfl (rdv_one wr _ _) (by have := HT.out; simp only [List.length_cons, List.length_nil]; omega) ?_; intro o4 w4 happ4)
          have hp4 := happ4.pre (below_alloc wr _)
          rw [← HX.out] at hp4
          have hf4 := hp4.fr hfk hbk.size
          have hb4 := hbk.trans (hp4.below hfk hbk.size)
          have hgo := hp4.own
          clear hp4 happ4 hok hfk hbk
          go_roundw
          case rel => exact ⟨j + 1, q / 256, by omega, by go_num, by rfl, HN, hgo, hf4, hb4⟩
          case measure => simp [intOf]; omega
        · rw [List.take_of_length_le (by rw [le8_len]; omega)] at hok
          clear HQ
          go_wp2_with fail
          go_roundw
          case rel => exact ⟨2, by omega, by go_num, .inr (.inr ⟨rfl, hok⟩), hfk, hbk⟩
          case measure => simp [intOf]
    · have ho5 := HS.out wr hbk
      obtain ⟨c2, c3, ho5, hg5⟩ := ho5
      have hbO := refBytes_any wr vo _ ho5 (by have := HZ.out; omega)
      have HG := (show Hid (∀ w', Below w2.heap.size w2 w' → Calls Tryz.prog 67 #[vg] w' fun e w'' => ∃ v', e = .returned v' ∧ Own w'' 5 v' (bc (enc x.2.2.2.length ++ x.2.2.2)) ∧ Fr w'.heap.size v' ∧ Below w'.heap.size w' w'') from
        fun w' hb' => refBytes_any w' vg _ (HS.out w' hb').2.2.2 (by have := HZ.out; omega))
      have HLL := (show Hid ((le8 (u64 x.1) ++ le8 (u64 x.2.1)).length ≤ 16) from Nat.le_refl 16)
      have HBD := (show Hid (body x = ((le8 (u64 x.1) ++ le8 (u64 x.2.1)) ++ (enc x.2.2.1.length ++ x.2.2.1)) ++ (enc x.2.2.2.length ++ x.2.2.2)) by show _ = _; simp [body, packL])
      generalize le8 (u64 x.1) ++ le8 (u64 x.2.1) = L at *
      have hl1 := enc_len (x.2.2.1.length : Int)
      have hl2 := enc_len (x.2.2.2.length : Int)
      have HL1 := (show Hid (L.length + (enc x.2.2.1.length ++ x.2.2.1).length ≤ 20000000) by show _ ≤ _; have := HLL.out; have := HZ.out; rw [List.length_append]; omega)
      have HL2 := (show Hid ((L ++ (enc x.2.2.1.length ++ x.2.2.1)).length + (enc x.2.2.2.length ++ x.2.2.2).length ≤ 40000000) by show _ ≤ _; have := HLL.out; have := HZ.out; rw [List.length_append, List.length_append, List.length_append]; omega)
      clear hl1 hl2
      generalize enc x.2.2.1.length ++ x.2.2.1 = t1 at *
      generalize enc x.2.2.2.length ++ x.2.2.2 = t2 at *
      have HO := (show Hid (∀ _ : Unit, _) from fun _ => hbO)
      clear hbO ho5 hg5 c3
      go_wp2_with fail
      refine (HO.out ()).mono ?_
      rintro e w5 ⟨v5, rfl, hown5, hfr5, hb5⟩
      have hok5 := hok.below hb5
      have hrd5 := hown5.rdv
      have hBk5 := below_and hbk (Nat.le_refl _) hb5
      clear c2 hok hown5 hfr5 hb5 HO hbk
      go_wp2_with (first
        | (at_builtin; refine app_bytes rfl _ _ rfl _ L rfl hok5 v5 t1 rfl hrd5 (Nat.le_trans HL1.out (by decide)) ?_; intro v6 w6 happ6; have hB6 := hBk5.trans (happ6.below hfk hBk5.size); have hf6 := happ6.fr hfk hBk5.size; have hok6 := happ6.own; have c3 := (HS.out w6 hB6).2.1))
      refine (HG.out w6 hB6).mono ?_
      rintro e w7 ⟨v7, rfl, hown7, hfr7, hb7⟩
      have hok7 := hok6.below hb7
      have hrd7 := hown7.rdv
      have hB7 := below_and hB6 (Nat.le_refl _) hb7
      clear c3 hok6 hown7 hfr7 hb7 HG hok5 hrd5 happ6
      go_wp2_with (at_builtin; refine app_bytes rfl _ _ rfl v6 (L ++ t1) rfl hok7 v7 t2 rfl hrd7 (Nat.le_trans HL2.out (by decide)) ?_; intro v8 w8 happ8)
      have hf8 := happ8.fr hf6 hB7.size
      have hB8 := hB7.trans (happ8.below hf6 hB7.size)
      go_ret
      refine ⟨_, rfl, ?_, hf8.mono hB.size, below_and hB (Nat.le_refl _) hB8⟩
      rw [HBD.out]
      exact happ8.own
end
end Go.Proofs.YtgbfmccecnfooaaGreatDoor
