/- catenarylaw13.BagRuns: its walk. -/
import Derived.Test.YtikfldigjieloaaBa6
import Derived.Deep.CutBlock
set_option linter.unusedVariables false
set_option linter.unusedSimpArgs false
namespace Go.Proofs.Ytikfldigjieloaa
open Go.RowKit Oct Kvl

theorem Row.mid3 {w : World} {g : Nat} {t : TypeId} {a b c d e : Value} (h : Row w g t [a, b, c, d, e]) : w.rangeAt g 1 [b, c, d] := fun j v hj => by
  refine h.cell ?_
  match j, hj with
  | 0, hj => exact hj
  | 1, hj => exact hj
  | 2, hj => exact hj
  | j + 3, hj => simp at hj
theorem ptP_small {ys : List PPk} {x : PPk} (h : ys.length ≤ 300) : ptP ys x = (ys ++ [x], 0) := ptP_ok (by omega)
theorem tkP_len (ys : List PPk) (i : Int) : (tkP ys i).length ≤ ys.length := by
  rw [← woP_all]
  exact woP_len ys i ys.length

set_option maxRecDepth 10000 in
set_option maxHeartbeats 4000000 in
theorem runsG_any (w : World) (v0 : Value) (as0 : List PAct3) (h0 : RL RAct3 5 Any w v0 as0) (z0 : szL 56 szAc3 as0) :
    Calls Try.prog 4 #[v0] w fun e w' => e = .returned (.bool true) ∧ Below w.heap.size w w' := by
  have le := Nat.le_refl w.heap.size
  have hA := acts3_at h0 z0
  obtain ⟨a0, c0, rfl, hc0⟩ := h0.form
  obtain ⟨N, hN⟩ : ∃ N, N = as0.length := ⟨_, rfl⟩
  rw [← hN] at hA ⊢
  have HA := (show Hid (∀ (k : Nat) (y : PAct3), as0[k]? = some y → ∃ b off cap s, Value.slice a0 N c0 = .slice (some ⟨b, off, none⟩) N cap ∧ N ≤ cap ∧ cap ≤ maxLen ∧ szT y.2.1.2.2 ∧ RT Any w s y.2.1.2.2 ∧
    ∀ w', Below w.heap.size w w' → w'.rangeAt b (off + k * 5) [.int .i64 y.1, .int .i64 y.2.1.1, .int .i64 y.2.1.2.1, s, .int .i64 y.2.2]) from hA)
  have HN := (show Hid (as0.length = N) from hN.symm)
  clear hN hA h0 hc0 z0
  by_cases h300 : (300 : Int) < N
  · go_enter Try.func4, Try.ntmps4
    go_wp2_with (first
      | (go_at_call 7; refine (bagAlive_any w).mono ?_; rintro e w1 ⟨rfl, hb1⟩)
      | (go_at_call 8; refine (newB_any Any w1).mono ?_; rintro e w2 ⟨b, rfl, hb, hB2, hb2⟩))
    go_ret
    exact ⟨rfl, below_and hb1 le hb2⟩
  have h300' : decide ((300 : Int) < N) = false := decide_eq_false h300
  have hNb : (N : Int) ≤ 300 := by omega
  go_enter Try.func4, Try.ntmps4
  go_upto_region 3 with (go_at_call 7; refine (bagAlive_any w).mono ?_; rintro e w1 ⟨rfl, hb1⟩)
  go_upto_region 6 with (go_at_call 8; refine (newB_any (fun k => ¬ False) w1).mono ?_; rintro e w2 ⟨b, rfl, hb0, hB2, hb2⟩; have hb : w.heap.size ≤ b := (by rw [hb0]; exact hb1.size); clear hb0)
  have hf := LB.fresh (RPe w) 29 3 w2.heap.size w2 (Nat.le_refl _)
  have hb23 := below_alloc w2 (.cells #[] 29)
  have hlt2 : b < w2.heap.size := hB2.lt
  have hW2 : BW w (fun _ => False) (w2.alloc (.cells #[] 29)) b (.slice none 0 0) (.slice (some ⟨w2.heap.size, 0, none⟩) 0 0) [] [] :=
    ⟨hB2.below hb23, below_and (below_and hb1 le hb2) le hb23, Fr.nil _, hb, fun h => h, fun _ _ h => h, ⟨_, _, _, rfl⟩, (hf.rl (mov_pe w)).mv (mov_pe w) (Nat.le_refl _) (fun k hk _ => ⟨rfl, by unfold From at hk; omega, by simp [Value.ownBlock], fun h => h⟩), fun _ h => h.elim, fun _ h => h.elim⟩
  clear hb1 hb2 hb hB2 hf hb23 hlt2 h300
  go_wp2_with fail
  go_loopw [4, 29] (fun o j wr => ∃ (k : Nat) (vb : Value) (ys : List PPk), k ≤ N ∧ j = .int .i64 k ∧ BW w (fun _ => False) wr b vb o ys ys ∧ ys.length ≤ k) (fun _ j _ => N - (intOf j).toNat)
  case atStart => exact ⟨0, _, _, by omega, rfl, hW2, Nat.le_refl _⟩
  case round =>
    clear hW2
    obtain ⟨k, vb, ys, hk, rfl, hW, hyl⟩ := hrel
    by_cases hkl : k < N
    · obtain ⟨y, hy⟩ : ∃ y, as0[k]? = some y := ⟨_, List.getElem?_eq_getElem (by have := HN.out; omega)⟩
      obtain ⟨tb, tof, tc, s, et, ht1, ht2, hzx, hs, hx⟩ := HA.out k y hy
      injection et with et1 _ et3
      subst et1 et3
      obtain ⟨kd, ⟨fp, tp, l⟩, ix⟩ := y
      simp only at hzx hs hx
      have hki : (k : Int) < (N : Int) := by omega
      have hrng := hx wr hW.bel
      obtain ⟨as', cs', rfl, _⟩ := hs.form
      have hrow := Row.new wr 37 [.int .i64 0, .int .i64 0, .int .i64 0, .slice none 0 0, .int .i64 0]
      obtain ⟨X, hX⟩ : ∃ X, X = l.length := ⟨_, rfl⟩
      rw [← hX] at hs hrng
      have HXL := (show Hid (l.length = X) from hX.symm)
      have hXb : (X : Int) ≤ 140737488351232 := by unfold szT at hzx; omega
      clear hy hx hX
      obtain ⟨ad, n2, c2, rfl⟩ := hW.nn
      go_upto_region 10 with (first
        | (refine wpList_load_mid rfl _ _ rfl tb (tof + k * 5) rfl [.int .i64 kd, .int .i64 fp, .int .i64 tp, .slice as' X cs', .int .i64 ix] _ hrng Try.underlying37 rfl (by kernel_rfl) ?_)
        | (refine wl_store rfl _ _ _ rfl wr.heap.size [.int .i64 kd, .int .i64 fp, .int .i64 tp, .slice as' X cs', .int .i64 ix] rfl rfl _ _ hrow rfl (by kernel_rfl) (onP5 rfl) ?_; intro w3 hr3 hg3))
      have hb3 : Below wr.heap.size wr w3 := (below_alloc wr (.cells ([.int .i64 0, .int .i64 0, .int .i64 0, .slice none 0 0, .int .i64 0] : List Value).toArray 37)).trans (grown_below hg3 (by simp) (fun k hk => by cases hk; exact Nat.le_refl _))
      have ra3 := hr3.out
      have hl3 : wr.heap.size < w3.heap.size := ra3.lt
      have r7 : Row ((w3.alloc (.cells #[.int .i64 0, .int .i64 0, .slice none 0 0] 29)).alloc (.cells #[.int .i64 0, .int .i64 0, .slice none 0 0] 29)) w3.heap.size 29 [.int .i64 0, .int .i64 0, .slice none 0 0] := rowA (Row.new w3 29 _) _
      have r8 : Row ((w3.alloc (.cells #[.int .i64 0, .int .i64 0, .slice none 0 0] 29)).alloc (.cells #[.int .i64 0, .int .i64 0, .slice none 0 0] 29)) (w3.heap.size + 1) 29 [.int .i64 0, .int .i64 0, .slice none 0 0] := by
        have := Row.new (w3.alloc (.cells #[.int .i64 0, .int .i64 0, .slice none 0 0] 29)) 29 [.int .i64 0, .int .i64 0, .slice none 0 0]
        simpa using this
      have b34 : Below w3.heap.size w3 ((w3.alloc (.cells #[.int .i64 0, .int .i64 0, .slice none 0 0] 29)).alloc (.cells #[.int .i64 0, .int .i64 0, .slice none 0 0] 29)) := ((Below.refl _ w3).alloc (Nat.le_refl _) _).alloc (by simp) _
      clear hrng hrow hg3 hr3
      go_upto_region 11 with (first
        | (refine wl_store rfl _ _ _ rfl w3.heap.size [.int .i64 0, .int .i64 0, .slice none 0 0] rfl rfl _ _ r7 rfl (by kernel_rfl) (onP3 rfl) ?_; intro w5 hr5 hg5; have r85 := r8.grown hg5 (fun e => by injection e with e; omega))
        | (refine wl_store rfl _ _ _ rfl (w3.heap.size + 1) [.int .i64 0, .int .i64 0, .slice none 0 0] rfl rfl _ _ r85 rfl (by kernel_rfl) (onP3 rfl) ?_; intro w6 hr6 hg6))
      have b35 : Below w3.heap.size w3 w5 := b34.trans (grown_below hg5 b34.size (fun q hq => by cases hq; exact Nat.le_refl _))
      have b36 : Below w3.heap.size w3 w6 := b35.trans (grown_below hg6 b35.size (fun q hq => by cases hq; exact Nat.le_succ _))
      have rg7 := hr5.out.grown hg6 (fun e => by injection e with e; omega)
      have rg8 := hr6.out
      have ra6 := ra3.below b36
      have l8 := rg8.lt
      have hb6 := below_and hb3 (Nat.le_refl _) b36
      obtain ⟨AV, hAV⟩ : ∃ AV : Nat → Prop, AV = fun q => wr.heap.size ≤ q ∧ q < w6.heap.size := ⟨_, rfl⟩
      have hW6 : BW w AV w6 b vb (.slice (some ad) n2 c2) ys ys := hW.more hb6 (fun q hq => by rw [hAV] at hq; exact .inr hq)
      have aga : AV wr.heap.size := by rw [hAV]; exact ⟨Nat.le_refl _, by omega⟩
      have ag7 : AV w3.heap.size := by rw [hAV]; exact ⟨by omega, by omega⟩
      have ag8 : AV (w3.heap.size + 1) := by rw [hAV]; exact ⟨by omega, by omega⟩
      obtain ⟨ga, hga⟩ : ∃ ga, ga = wr.heap.size := ⟨_, rfl⟩
      obtain ⟨g7, hg7⟩ : ∃ g7, g7 = w3.heap.size := ⟨_, rfl⟩
      obtain ⟨g8, hg8⟩ : ∃ g8, g8 = w3.heap.size + 1 := ⟨_, rfl⟩
      have n78 : g7 ≠ g8 := by omega
      rw [← hga] at aga ra6 ⊢
      rw [← hg8] at ag8 rg8 ⊢
      rw [← hg7] at ag7 rg7 ⊢
      clear hg8 hg7 hga hAV hb6 b36 b35 hg6 hr6 hr5 hg5 b34 r7 r8 r85 l8 hl3 ra3 hb3 hW
      have c60 := ra6.cell (j := 0) rfl
      go_upto_block 2 with fail
      have hl3 : ys.length ≤ 300 := by omega
      have HYL := (show Hid (ys.length ≤ k ∧ ys.length ≤ 300) from ⟨hyl, hl3⟩)
      clear hyl hl3
      go_cut [4, 9, 10] from 30 to 161 (fun s4 s9 s10 wx => ∃ (AV : Nat → Prop) (vb' : Value) (ys' : List PPk) (E : Int) (x : PPk) (sp sq : Value), s9 = .int .i64 E ∧ s10 = .int .i64 E ∧ BW w AV wx b vb' s4 ys' ys' ∧ ys'.length ≤ k + 1 ∧ AV g7 ∧ Row wx g7 29 [.int .i64 x.1, .int .i64 x.2.1, sp] ∧ Row wx g8 29 [.int .i64 x.1, .int .i64 x.2.1, sq] ∧ OT AV wx sp x.2.2 ∧ RT Any w sq x.2.2)
      case first =>
        by_cases k0 : kd = 0
        · subst k0
          have hs6 : RT Any w6 (.slice as' X cs') l := hs.mv (Mv.below hW6.bel)
          have c63 := (rowA ra6 (.cells #[] 5)).cell (j := 3) rfl
          have HZ := (show Hid (szT l) from hzx)
          go_upto_region 15 with (at_builtin; refine app_copy rfl _ _ rfl rfl _ l rfl hs6.1 (by have := HXL.out; omega) ?_; intro o7 w7 ho7 hf7 hb7)
          have hlB := hs6.1.1
          obtain ⟨ao, co, eo, hco1, hco2⟩ : ∃ ao co, o7 = .slice ao X co ∧ X ≤ co ∧ co ≤ maxLen := by
            obtain ⟨_, av, cv, e, h1, h2, _⟩ := ho7.rd hlB
            rw [bc_len, HXL.out] at e h1
            exact ⟨av, cv, e, h1, h2⟩
          subst eo
          obtain ⟨o7, eo⟩ : ∃ o7, o7 = Value.slice ao X co := ⟨_, rfl⟩
          have HEO := (show Hid (o7 = Value.slice ao X co) from eo)
          rw [← eo] at ho7 hf7
          clear eo
          have hW7 := hW6.more (AV' := fun q => AV q ∨ o7.ownBlock = some q) hb7 (fun q hq => by
            rcases hq with hq | hq
            · exact .inl hq
            · exact .inr ⟨hf7 q hq, ho7.lt q hq⟩)
          have ra7 := ra6.below hb7
          have rg77 := rg7.below hb7
          have rg87 := rg8.below hb7
          have hPt := putB_any _ w7 b vb ys hW7.bg (fun q hq e => by have := hW7.hi q e; omega) [.int .i64 fp, .int .i64 tp, .slice ao X co] (fp, tp, l) ⟨.slice ao X co, rfl, by rw [← HEO.out]; exact ho7.rd hlB, fun _ _ _ => trivial⟩ HZ.out
          rw [ptP_small HYL.out.2] at hPt
          have c71 := ra7.cell (j := 1) rfl
          have c72 := ra7.cell (j := 2) rfl
          simp only at hPt
          go_upto_region 16 with (go_at_call 9; refine hPt.mono ?_; rintro e w8 ⟨v8, rfl, hB8, hG8, hS8, _⟩)
          have hW8 := hW7.op hB8 hG8 hS8
          have ra8 := hW7.row hG8 ra7 (.inl aga)
          have rg78 := hW7.row hG8 rg77 (.inl ag7)
          have rg88 := hW7.row hG8 rg87 (.inl ag8)
          have ho8 : Own w8 5 o7 (bc l) := hG8.own ho7 (fun e => hW7.nb (.inr e)) (fun q hq e => hW7.nv q hq (.inr e))
          have hao : ∀ q, o7.ownBlock = some q → (fun q => AV q ∨ o7.ownBlock = some q) q := fun q hq => .inr hq
          obtain ⟨AV1, hAV1⟩ : ∃ AV1 : Nat → Prop, AV1 = fun q => AV q ∨ o7.ownBlock = some q := ⟨_, rfl⟩
          rw [← hAV1] at hW8 hao
          have ag71 : AV1 g7 := by rw [hAV1]; exact .inl ag7
          have HO8 := (show Hid (∃ l' : List Int, l'.length = X ∧ Own w8 5 (.slice ao X co) (bc l') ∧ Byt l') from ⟨l, HXL.out, by rw [← HEO.out]; exact ho8, hlB⟩)
          rw [HEO.out] at hao
          clear hAV1 hW7 hPt hG8 hS8 hB8 ho7 hf7 hb7 ra7 rg77 rg87 c71 c72 c63 ho8 hs6 hW6 ra6 rg7 rg8 c60 HEO
          go_wp2_with fail
          go_loopw [56] (fun i wx => ∃ j : Nat, j ≤ X ∧ i = .int .i64 j ∧ BW w AV1 wx b v8 (.slice (some ad) n2 c2) (ys ++ [(fp, tp, l)]) ys ∧ Row wx ga 37 [.int .i64 0, .int .i64 fp, .int .i64 tp, .slice as' X cs', .int .i64 ix] ∧ Row wx g7 29 [.int .i64 0, .int .i64 0, .slice none 0 0] ∧ Row wx g8 29 [.int .i64 0, .int .i64 0, .slice none 0 0] ∧ ∃ l' : List Int, l'.length = X ∧ Own wx 5 (.slice ao X co) (bc l') ∧ Byt l') (fun i _ => X - (intOf i).toNat)
          case atStart => exact ⟨0, by omega, rfl, hW8, ra8, rg78, rg88, HO8.out⟩
          case round =>
            clear hW8 ra8 rg78 rg88 HO8
            obtain ⟨j, hj, rfl, hW9, ra9, rg79, rg89, l', hl', ho9, hl9⟩ := hrel
            by_cases hjx : j < X
            · obtain ⟨kb, cap, cur, yb, e, _, _, hrow, hjc, hcy, hly, hset⟩ := ho9.at_byteP (j := j) (by omega)
              have hok : (Value.slice ao X co).ownBlock = some kb := by rw [e]; rfl
              have hTT := (show Hid (∀ wz, wr.grownBy wz (some kb) → BW w AV1 wz b v8 (.slice (some ad) n2 c2) (ys ++ [(fp, tp, l)]) ys ∧ Row wz ga 37 [.int .i64 0, .int .i64 fp, .int .i64 tp, .slice as' X cs', .int .i64 ix] ∧ Row wz g7 29 [.int .i64 0, .int .i64 0, .slice none 0 0] ∧ Row wz g8 29 [.int .i64 0, .int .i64 0, .slice none 0 0]) from fun wz hg => ⟨hW9.set hg (hao kb hok), ra9.grown hg (fun e => by injection e with e; exact (ra9.apart hrow (by decide)) e.symm), rg79.grown hg (fun e => by injection e with e; exact (rg79.apart hrow (by decide)) e.symm), rg89.grown hg (fun e => by injection e with e; exact (rg89.apart hrow (by decide)) e.symm)⟩)
              injection e with e1 e2 e3
              clear e2
              subst e1 e3
              have hji : (j : Int) < (X : Int) := by omega
              have HJ := (show Hid (j + 1 ≤ X) by show _ ≤ _; omega)
              have hcc := hrow.cell hcy
              have hyb := hl9 yb (List.mem_of_getElem? hly)
              have hxr := xor_rngP hyb
              have KS := (show Hid (∀ (w' : World) (x : Int), Row w' kb 5 (cur.set j (.int .u8 x)) → Own w' 5 (.slice (some ⟨kb, 0, none⟩) X co) (bc (l'.set j x))) from hset)
              have HLB := (show Hid (l'.length = X ∧ Byt l') from ⟨hl', hl9⟩)
              clear hset ho9 hcy hly hl' hl9 hW9 ra9 rg79 rg89
              go_wp2_with (refine wl_set rfl _ _ _ rfl kb j _ rfl rfl _ _ hrow hjc (by kernel_rfl) rfl ?_; intro w9 hr9 hg9)
              go_roundw
              case rel =>
                obtain ⟨t1, t2, t3, t4⟩ := hTT.out w9 hg9
                refine ⟨j + 1, HJ.out, by go_num, t1, t2, t3, t4, l'.set j (bits .xor .u8 yb 255), by rw [List.length_set]; exact HLB.out.1, KS.out _ _ hr9.out, fun z hz => ?_⟩
                rcases List.mem_or_eq_of_mem_set hz with hz | rfl
                · exact HLB.out.2 z hz
                · exact hxr
              case measure => have := HJ.out; simp [intOf]; omega
            · have hjd : decide ((j : Int) < (X : Int)) = false := by simp; omega
              have hrf := refPutP_any w wr _ ys _ (fp, tp, l) hW9.any hW9.nn (by have := HYL.out; omega) ⟨_, rfl, (by have := HXL.out; exact hs)⟩
              have hmid := ra9.mid3
              clear ho9 hl9 hl' ra9
              go_wp2_with (first
                | (refine wpList_load_mid rfl _ _ rfl ga 1 rfl [.int .i64 fp, .int .i64 tp, .slice as' X cs'] _ hmid Try.underlying29 rfl (by kernel_rfl) ?_)
                | (go_at_call 13; refine hrf.mono ?_; rintro e w10 ⟨v10, rfl, nn10, lp10, hb10⟩))
              go_meet
              exact ⟨AV1, v8, ys ++ [(fp, tp, l)], 0, (0, 0, []), _, _, rfl, rfl, hW9.want hb10 nn10 lp10, by have := HYL.out.1; simp; omega, ag71, rg79.below hb10, rg89.below hb10, OT.nil _ _, RT.nil _ _⟩
        have hk0 : (kd == 0) = false := by simp [k0]
        have c64 := ra6.cell (j := 4) rfl
        by_cases k1 : kd = 1
        · subst k1
          have hAt := atB_any _ w6 b vb ys ix hW6.bg
          obtain ⟨R, hR⟩ : ∃ R, R = atP ys ix := ⟨_, rfl⟩
          have HAr := (show Hid (∀ u, LPe w Any u (.slice (some ad) n2 c2) ys → Calls Try.prog 14 #[.slice (some ad) n2 c2, .int .i64 ix] u fun e w' => ∃ s, e = .returned (.tuple #[.agg ([.int .i64 R.1.1, .int .i64 R.1.2.1, s] : List Value).toArray, .int .i64 R.2]) ∧ RT Any w s R.1.2.2 ∧ Below u.heap.size u w') from fun u hu => by
            rw [hR]
            exact refAtP_any w u _ ys ix hu (by have := HYL.out; omega))
          rw [← hR] at hAt
          clear hR
          obtain ⟨⟨p1, q1, l1⟩, E⟩ := R
          simp only at hAt HAr
          go_upto_region 24 with (first
            | (go_at_call 10; refine hAt.mono ?_; rintro e w7 ⟨s7, rfl, o7, hb7⟩; have rg77 := rg7.below hb7)
            | (refine wl_store rfl _ _ _ rfl g7 [.int .i64 p1, .int .i64 q1, s7] rfl rfl _ _ rg77 rfl (by kernel_rfl) (onP3 o7.one) ?_; intro w8 hr8 hg8))
          have hW7 := hW6.more (AV' := fun q => AV q ∨ s7.ownBlock = some q) hb7 (fun q hq => by
            rcases hq with hq | hq
            · exact .inl hq
            · exact .inr ⟨o7.2.2 q hq, o7.1.lt q hq⟩)
          have hW8 := hW7.set hg8 (.inl ag7)
          have o8 : OT (fun q => AV q ∨ s7.ownBlock = some q) w8 s7 l1 := ⟨o7.1.grown hg8 (fun q hq e => by cases hq; exact (o7.ne rg77 (by decide)).2.2 g7 e |>.2 rfl), o7.2.1, fun q hq => .inr hq⟩
          have rg88 := (rg8.below hb7).grown hg8 (fun e => by injection e with e; exact n78 e)
          have c84 := ((ra6.below hb7).grown hg8 (fun e => by injection e with e; exact absurd (e ▸ (ra6.below hb7) : Row w7 g7 _ _) (fun h => (Row.apart h rg77 (by decide)) rfl))).cell (j := 4) rfl
          have HA8 := HAr.out w8 hW8.any
          go_wp2_with (first
            | (go_at_call 14; refine HA8.mono ?_; rintro e w9 ⟨s9, rfl, o9, hb9⟩; have rg89 := rg88.below hb9)
            | (refine wl_store rfl _ _ _ rfl g8 [.int .i64 p1, .int .i64 q1, s9] rfl rfl _ _ rg89 rfl (by kernel_rfl) (onP3 o9.one) ?_; intro w10 hr10 hg10))
          go_meet
          have hW10 := (hW8.below hb9).set hg10 (.inl ag8)
          have rg710 := (hr8.out.below hb9).grown hg10 (fun e => by injection e with e; exact n78 e.symm)
          have o9' := o8.mv (Mv.belowG hb9)
          have o10 : OT (fun q => AV q ∨ s7.ownBlock = some q) w10 s7 l1 := ⟨o9'.1.grown hg10 (fun q hq e => by cases hq; exact (o9'.ne rg89 (by decide)).2.2 g8 e |>.2 rfl), o9'.2.1, fun q hq => .inr hq⟩
          exact ⟨_, _, ys, E, (p1, q1, l1), s7, s9, rfl, rfl, hW10, by have := HYL.out.1; omega, .inl ag7, rg710, hr10.out, o10, o9⟩
        have hk1 : (kd == 1) = false := by simp [k1]
        by_cases k2 : kd = 2
        · subst k2
          have hTk := takeB_any (fun q => ¬ AV q ∧ q < w6.heap.size) w6 b vb ys ix (hW6.bg.weak fun q hq hl => ⟨hq, hl⟩)
          obtain ⟨R, hR⟩ : ∃ R, R = atP ys ix := ⟨_, rfl⟩
          have HAr := (show Hid (∀ u, LPe w Any u (.slice (some ad) n2 c2) ys → Calls Try.prog 14 #[.slice (some ad) n2 c2, .int .i64 ix] u fun e w' => ∃ s, e = .returned (.tuple #[.agg ([.int .i64 R.1.1, .int .i64 R.1.2.1, s] : List Value).toArray, .int .i64 R.2]) ∧ RT Any w s R.1.2.2 ∧ Below u.heap.size u w') from fun u hu => by
            rw [hR]
            exact refAtP_any w u _ ys ix hu (by have := HYL.out; omega))
          have HWo := (show Hid (∀ u, LPe w Any u (.slice (some ad) n2 c2) ys → Calls Try.prog 16 #[.slice (some ad) n2 c2, .int .i64 ix] u fun e w' => ∃ v', e = .returned v' ∧ NN v' ∧ LPe w (From u.heap.size) w' v' (tkP ys ix) ∧ Below u.heap.size u w') from fun u hu => refWoP_any w u _ ys ix hu (by have := HYL.out; omega))
          have HTL := (show Hid ((tkP ys ix).length ≤ ys.length) from tkP_len ys ix)
          rw [← hR] at hTk
          clear hR
          generalize tkP ys ix = zs at *
          obtain ⟨⟨p1, q1, l1⟩, E⟩ := R
          simp only at hTk HAr
          go_upto_region 27 with (first
            | (go_at_call 15; refine hTk.mono ?_; rintro e w7 ⟨s7, v7, rfl, o7, hB7, hG7, hS7⟩; have rg77 := hW6.row hG7 rg7 ag7)
            | (refine wl_store rfl _ _ _ rfl g7 [.int .i64 p1, .int .i64 q1, s7] rfl rfl _ _ rg77 rfl (by kernel_rfl) (onP3 o7.one) ?_; intro w8 hr8 hg8))
          have hW7 := hW6.tak hB7 hG7 hS7 o7
          have ra7 := hW6.row hG7 ra6 aga
          have hW8 := hW7.set hg8 (.inl ag7)
          have o8 : OT (fun q => AV q ∨ s7.ownBlock = some q) w8 s7 l1 := ⟨o7.1.grown hg8 (fun q hq e => by cases hq; exact (o7.ne rg77 (by decide)).2.2 g7 e |>.2 rfl), o7.2.1, fun q hq => .inr hq⟩
          have rg88 := (hW6.row hG7 rg8 ag8).grown hg8 (fun e => by injection e with e; exact n78 e)
          have ra8 := ra7.grown hg8 (fun e => by injection e with e; exact absurd (e ▸ ra7 : Row w7 g7 _ _) (fun h => (Row.apart h rg77 (by decide)) rfl))
          have c84 := ra8.cell (j := 4) rfl
          have HA8 := HAr.out w8 hW8.any
          go_upto_region 28 with (first
            | (go_at_call 14; refine HA8.mono ?_; rintro e w9 ⟨s9, rfl, o9, hb9⟩; have rg89 := rg88.below hb9)
            | (refine wl_store rfl _ _ _ rfl g8 [.int .i64 p1, .int .i64 q1, s9] rfl rfl _ _ rg89 rfl (by kernel_rfl) (onP3 o9.one) ?_; intro w10 hr10 hg10))
          have hW10 := (hW8.below hb9).set hg10 (.inl ag8)
          have rg710 := (hr8.out.below hb9).grown hg10 (fun e => by injection e with e; exact n78 e.symm)
          have ra10 := (ra8.below hb9).grown hg10 (fun e => by injection e with e; exact absurd (e ▸ (ra8.below hb9) : Row w9 g8 _ _) (fun h => (Row.apart h rg89 (by decide)) rfl))
          have c104 := ra10.cell (j := 4) rfl
          have o9' := o8.mv (Mv.belowG hb9)
          have o10 : OT (fun q => AV q ∨ s7.ownBlock = some q) w10 s7 l1 := ⟨o9'.1.grown hg10 (fun q hq e => by cases hq; exact (o9'.ne rg89 (by decide)).2.2 g8 e |>.2 rfl), o9'.2.1, fun q hq => .inr hq⟩
          have HW10 := HWo.out w10 hW10.any
          go_wp2_with (go_at_call 16; refine HW10.mono ?_; rintro e w11 ⟨v11, rfl, nn11, lp11, hb11⟩)
          go_meet
          exact ⟨_, _, zs, E, (p1, q1, l1), s7, s9, rfl, rfl, hW10.want hb11 nn11 lp11, by have := HYL.out.1; have := HTL.out; omega, .inl ag7, rg710.below hb11, hr10.out.below hb11, o10.mv (Mv.belowG hb11), o9⟩
        have hk2 : (kd == 2) = false := by simp [k2]
        by_cases k3 : kd = 3
        · subst k3
          have hCp := copyB_any _ w6 b vb ys ix hW6.bg (fun q hq e => by have := hW6.hi q e; omega)
          have HAr := (show Hid (∀ u, LPe w Any u (.slice (some ad) n2 c2) ys → Calls Try.prog 14 #[.slice (some ad) n2 c2, .int .i64 ix] u fun e w' => ∃ s, e = .returned (.tuple #[.agg ([.int .i64 (atP ys ix).1.1, .int .i64 (atP ys ix).1.2.1, s] : List Value).toArray, .int .i64 (atP ys ix).2]) ∧ RT Any w s (atP ys ix).1.2.2 ∧ Below u.heap.size u w') from fun u hu => refAtP_any w u _ ys ix hu (by have := HYL.out; omega))
          cases hp : hasP ys ix with
          | false =>
            have e1 : cpP ys ix = (ys, 132) := by unfold cpP; rw [hp]; rfl
            have e2 : atP ys ix = ((0, 0, []), 132) := by unfold atP; rw [hp]; rfl
            rw [e1] at hCp
            rw [e2] at HAr
            simp only at hCp HAr
            clear e1 e2 hp
            go_upto_region 31 with (go_at_call 11; refine hCp.mono ?_; rintro e w7 ⟨v7, rfl, hB7, hG7, hS7, _⟩)
            have hW7 := hW6.op hB7 hG7 hS7
            have ra7 := hW6.row hG7 ra6 aga
            have rg77 := hW6.row hG7 rg7 ag7
            have rg87 := hW6.row hG7 rg8 ag8
            have c74 := ra7.cell (j := 4) rfl
            have HA7 := HAr.out w7 hW7.any
            go_upto_region 32 with (first
              | (go_at_call 14; refine HA7.mono ?_; rintro e w8 ⟨s8, rfl, o8, hb8⟩; have rn := Row.new w8 29 [.int .i64 0, .int .i64 0, .slice none 0 0])
              | (refine wl_store rfl _ _ _ rfl w8.heap.size [.int .i64 0, .int .i64 0, s8] rfl rfl _ _ rn rfl (by kernel_rfl) (onP3 o8.one) ?_; intro w9 hr9 hg9))
            have hb89 : Below w8.heap.size w8 w9 := (below_alloc w8 (.cells ([.int .i64 0, .int .i64 0, .slice none 0 0] : List Value).toArray 29)).trans (grown_below hg9 (by simp) (fun k hk => by cases hk; exact Nat.le_refl _))
            have hb79 := below_and hb8 (Nat.le_refl _) hb89
            clear rn hg9 hr9
            go_wp2_with fail
            go_meet
            exact ⟨AV, v7, ys, 132, (0, 0, []), _, _, rfl, rfl, hW7.below hb79, by have := HYL.out.1; omega, ag7, rg77.below hb79, rg87.below hb79, OT.nil _ _, RT.nil _ _⟩
          | true =>
            obtain ⟨X2, hX2⟩ : ∃ X2, X2 = ys.getD ix.toNat pk0 := ⟨_, rfl⟩
            have e1 : cpP ys ix = (ys ++ [X2], 0) := by unfold cpP; rw [hp, if_pos rfl, ptP_small HYL.out.2, hX2]
            have e2 : atP ys ix = (X2, 0) := by unfold atP; rw [hp, if_pos rfl, hX2]
            rw [e1] at hCp
            rw [e2] at HAr
            obtain ⟨p1, q1, l1⟩ := X2
            simp only at hCp HAr
            clear e1 e2 hp hX2
            go_upto_region 31 with (go_at_call 11; refine hCp.mono ?_; rintro e w7 ⟨v7, rfl, hB7, hG7, hS7, _⟩)
            have hW7 := hW6.op hB7 hG7 hS7
            have ra7 := hW6.row hG7 ra6 aga
            have rg77 := hW6.row hG7 rg7 ag7
            have rg87 := hW6.row hG7 rg8 ag8
            have c74 := ra7.cell (j := 4) rfl
            have HA7 := HAr.out w7 hW7.any
            go_upto_region 32 with (first
              | (go_at_call 14; refine HA7.mono ?_; rintro e w8 ⟨s8, rfl, o8, hb8⟩; have rn := Row.new w8 29 [.int .i64 0, .int .i64 0, .slice none 0 0])
              | (refine wl_store rfl _ _ _ rfl w8.heap.size [.int .i64 p1, .int .i64 q1, s8] rfl rfl _ _ rn rfl (by kernel_rfl) (onP3 o8.one) ?_; intro w9 hr9 hg9))
            have hb89 : Below w8.heap.size w8 w9 := (below_alloc w8 (.cells ([.int .i64 0, .int .i64 0, .slice none 0 0] : List Value).toArray 29)).trans (grown_below hg9 (by simp) (fun k hk => by cases hk; exact Nat.le_refl _))
            have hb79 := below_and hb8 (Nat.le_refl _) hb89
            have hW9 := hW7.below hb79
            have rn9 := hr9.out
            have hrf := refPutP_any w w9 _ ys _ (p1, q1, l1) hW9.any hW9.nn (by have := HYL.out; omega) ⟨s8, rfl, o8⟩
            simp only at hrf
            clear rn hg9 hr9
            go_wp2_with (first
              | (refine wl_load rfl _ _ rfl w8.heap.size rfl _ _ rn9 _ Try.underlying29 rfl (by kernel_rfl) ?_)
              | (go_at_call 13; refine hrf.mono ?_; rintro e w10 ⟨v10, rfl, nn10, lp10, hb10⟩))
            go_meet
            have hb710 := below_and hb79 (Nat.le_refl _) hb10
            exact ⟨AV, v7, ys ++ [(p1, q1, l1)], 0, (0, 0, []), _, _, rfl, rfl, hW9.want hb10 nn10 lp10, by have := HYL.out.1; simp; omega, ag7, rg77.below hb710, rg87.below hb710, OT.nil _ _, RT.nil _ _⟩
        have hk3 : (kd == 3) = false := by simp [k3]
        go_wp2_with fail
        go_meet
        exact ⟨AV, _, ys, 0, (0, 0, []), _, _, rfl, rfl, hW6, by have := HYL.out.1; omega, ag7, rg7, rg8, OT.nil _ _, RT.nil _ _⟩
      case rest =>
        obtain ⟨AV', vb', ys', E, x, sp, sq, rfl, rfl, hW7, hyl, ag7', rp, rq, osp, rsq⟩ := hcut
        clear ag7 ag8 aga rg7 rg8 ra6 c60 hW6 AV HYL
        obtain ⟨ad', n', c', rfl⟩ := hW7.nn
        obtain ⟨a9, c9, e9, _⟩ := RL.form hW7.wt
        injection e9 with e91 e92 e93
        obtain ⟨p1, q1, l1⟩ := x
        simp only at rp rq osp rsq
        have hL := lenB_any _ wc b vb' ys' hW7.bg
        rw [← e92] at hL
        have HYL := (show Hid (ys'.length ≤ k + 1) from hyl)
        clear e91 e92 e93 hyl
        have hee : (E != E) = false := by simp
        obtain ⟨Y, hY⟩ : ∃ Y, Y = l1.length := ⟨_, rfl⟩
        obtain ⟨bo, bco, eb, hbc1, hbc2⟩ : ∃ ao co, sp = .slice ao Y co ∧ Y ≤ co ∧ co ≤ maxLen := by
          obtain ⟨_, av, cv, e, h1, h2, _⟩ := osp.1.rd osp.2.1
          rw [bc_len, ← hY] at e h1
          exact ⟨av, cv, e, h1, h2⟩
        obtain ⟨aq, cq, hsq, _⟩ := rsq.form
        rw [← hY] at hsq
        subst eb hsq
        have hSm := samePk_eq wc [.int .i64 p1, .int .i64 q1, .slice bo Y bco] [.int .i64 p1, .int .i64 q1, .slice aq Y cq] (p1, q1, l1) ⟨_, rfl, osp.rt.mv (fun _ _ _ => ⟨rfl, trivial⟩)⟩ ⟨_, rfl, rsq.mv (Mv.below hW7.bel)⟩
        have HLw := (show Hid (∀ u, Below wc.heap.size wc u → Calls Try.prog 12 #[.pointer (some ⟨b, 0, none⟩)] u fun e w' => e = .returned (.int .i64 (n' : Int)) ∧ w' = u) from fun u hu => by
          have h1 := lenB_any _ u b vb' ys' (hW7.bg.below hu)
          obtain ⟨a9, c9, e9, _⟩ := RL.form hW7.wt
          injection e9 with e91 e92 e93
          rwa [← e92] at h1)
        have HYb := (show Hid (szT l1 ∨ True) from .inr trivial)
        have HW7 := (show Hid (BW w AV' wc b vb' (.slice (some ad') n' c') ys' ys') from hW7)
        have HO7 := (show Hid (OT AV' wc (.slice bo Y bco) l1) from osp)
        have hYm : (Y : Int) ≤ 9223372036854775807 := by unfold maxLen at hbc2; omega
        have HY := (show Hid (l1.length = Y) from hY.symm)
        clear hL hW7 osp hY
        go_upto_region 37 with (first
          | (refine wl_load_w (by rfl) _ _ rfl g7 rfl _ _ rp _ Try.underlying29 rfl (by kernel_rfl) ?_)
          | (refine wl_load_w (by rfl) _ _ rfl g8 rfl _ _ rq _ Try.underlying29 rfl (by kernel_rfl) ?_)
          | (go_at_call 17; refine hSm.mono ?_; rintro e w8 ⟨rfl, hb8⟩)
          | (go_at_call 12; refine (HLw.out w8 hb8).mono ?_; rintro e w8 ⟨rfl, rfl⟩))
        have hW8 := HW7.out.below hb8
        have rp8 := rp.below hb8
        have o8 := HO7.out.mv (Mv.belowG hb8)
        have c2 := rp8.cell (j := 2) rfl
        have HO8 := (show Hid (∃ l' : List Int, l'.length = Y ∧ OT AV' w8 (.slice bo Y bco) l') from ⟨l1, HY.out, o8⟩)
        clear HW7 HO7 hSm HLw rp rq o8 hb8
        go_wp2_with fail
        go_loopw [150] (fun i wx => ∃ j : Nat, j ≤ Y ∧ i = .int .i64 j ∧ BW w AV' wx b vb' (.slice (some ad') n' c') ys' ys' ∧ Row wx g7 29 [.int .i64 p1, .int .i64 q1, .slice bo Y bco] ∧ ∃ l' : List Int, l'.length = Y ∧ OT AV' wx (.slice bo Y bco) l') (fun i _ => Y - (intOf i).toNat)
        case atStart => exact ⟨0, by omega, rfl, hW8, rp8, HO8.out⟩
        case round =>
          clear hW8 rp8 HO8 c2
          obtain ⟨j, hj, rfl, hW9, rp9, l', hl', o9⟩ := hrel
          by_cases hjx : j < Y
          · obtain ⟨kb, cap, cur, yb, e, _, _, hrow, hjc, hcy, hly, hset⟩ := o9.1.at_byteP (j := j) (by omega)
            have hok : (Value.slice bo Y bco).ownBlock = some kb := by rw [e]; rfl
            have hTT := (show Hid (∀ wz, wr.grownBy wz (some kb) → BW w AV' wz b vb' (.slice (some ad') n' c') ys' ys' ∧ Row wz g7 29 [.int .i64 p1, .int .i64 q1, .slice bo Y bco]) from fun wz hg => ⟨hW9.set hg (o9.2.2 kb hok), rp9.grown hg (fun e => by injection e with e; exact (rp9.apart hrow (by decide)) e.symm)⟩)
            have c2 := rp9.cell (j := 2) rfl
            have HAV := (show Hid (∀ q, (Value.slice bo Y bco).ownBlock = some q → AV' q) from o9.2.2)
            have hl9 := o9.2.1
            injection e with e1 e2 e3
            clear e2
            subst e1 e3
            have hji : (j : Int) < (Y : Int) := by omega
            have HJ := (show Hid (j + 1 ≤ Y) by show _ ≤ _; omega)
            have hcc := hrow.cell hcy
            have hyb := hl9 yb (List.mem_of_getElem? hly)
            have hxr := xor_rngP hyb
            have KS := (show Hid (∀ (w' : World) (x : Int), Row w' kb 5 (cur.set j (.int .u8 x)) → Own w' 5 (.slice (some ⟨kb, 0, none⟩) Y bco) (bc (l'.set j x))) from hset)
            have HLB := (show Hid (l'.length = Y ∧ Byt l') from ⟨hl', hl9⟩)
            clear hset o9 hcy hly hl' hl9 hW9 rp9
            go_wp2_with (refine wl_set rfl _ _ _ rfl kb j _ rfl rfl _ _ hrow hjc (by kernel_rfl) rfl ?_; intro w9 hr9 hg9)
            go_roundw
            case rel =>
              obtain ⟨t1, t2⟩ := hTT.out w9 hg9
              refine ⟨j + 1, HJ.out, by go_num, t1, t2, l'.set j (bits .xor .u8 yb 255), by rw [List.length_set]; exact HLB.out.1, KS.out _ _ hr9.out, fun z hz => ?_, HAV.out⟩
              rcases List.mem_or_eq_of_mem_set hz with hz | rfl
              · exact HLB.out.2 z hz
              · exact hxr
            case measure => have := HJ.out; simp [intOf]; omega
          · have hjd : decide ((j : Int) < (Y : Int)) = false := by simp; omega
            have hW10 := hW9.more (AV' := fun _ => False) (Below.refl _ _) (fun q hq => hq.elim)
            clear o9 hl' rp9 hW9
            go_wp2_with fail
            go_roundw
            case rel => exact ⟨k + 1, _, _, by omega, by go_num, hW10, HYL.out⟩
            case measure => simp [intOf]; omega
    · have hki : decide ((k : Int) < (N : Int)) = false := by simp; omega
      obtain ⟨ad, n2, c2, rfl⟩ := hW.nn
      obtain ⟨M, hM⟩ : ∃ M, M = ys.length := ⟨_, rfl⟩
      obtain ⟨a9, c9, e9, _⟩ := RL.form hW.wt
      injection e9 with e91 e92 e93
      have hM2 : n2 = M := by rw [e92, hM]
      subst hM2
      have hMb : (n2 : Int) ≤ 300 := by omega
      have HM := (show Hid (n2 = ys.length) from hM)
      clear e91 e92 e93 hM
      go_wp2_with fail
      go_loopw [164] (fun i wx => ∃ j : Nat, j ≤ n2 ∧ i = .int .i64 j ∧ BW w (fun _ => False) wx b vb (.slice (some ad) n2 c2) ys ys) (fun i _ => n2 - (intOf i).toNat)
      case atStart => exact ⟨0, by omega, rfl, hW⟩
      case round =>
        clear hW
        obtain ⟨j, hj, rfl, hW⟩ := hrel
        by_cases hjx : j < n2
        · have hjl : j < ys.length := by have := HM.out; omega
          obtain ⟨tb, tof, tc, s, et, ht1, ht2, _, _, hs, hrng⟩ := hW.wt.at hjl
          rw [← HM.out] at et ht1
          injection et with et1 _ et3
          injection et1 with et1
          subst et1 et3
          have hAt := fun (u : World) (hu : Below wr.heap.size wr u) => atB_any _ u b vb ys (j : Int) (hW.bg.below hu)
          simp only [atP_ok hjl] at hAt
          have hji : (j : Int) < (n2 : Int) := by omega
          have hbl := hW.bel
          obtain ⟨X2, hX2⟩ : ∃ X2, X2 = ys.getD j pk0 := ⟨_, rfl⟩
          simp only [← hX2] at hAt hs hrng
          clear hX2
          obtain ⟨p1, q1, l1⟩ := X2
          simp only at hAt hs hrng
          have HAt := (show Hid (∀ u, Below wr.heap.size wr u → Calls Try.prog 10 #[.pointer (some ⟨b, 0, none⟩), .int .i64 (j : Int)] u fun e w' => ∃ s, e = .returned (.tuple #[.agg ([.int .i64 p1, .int .i64 q1, s] : List Value).toArray, .int .i64 0]) ∧ OT (From u.heap.size) w' s l1 ∧ Below u.heap.size u w') from hAt)
          clear hAt
          obtain ⟨as', cs', rfl, _⟩ := hs.form
          have hrow := Row.new wr 29 [.int .i64 0, .int .i64 0, .slice none 0 0]
          have HW := (show Hid (BW w (fun _ => False) wr b vb (.slice (some ⟨tb, tof, none⟩) n2 c2) ys ys) from hW)
          clear hjl
          go_upto_region 46 with (first
            | (refine wpList_load_mid rfl _ _ rfl tb (tof + j * 3) rfl [.int .i64 p1, .int .i64 q1, .slice as' l1.length cs'] _ hrng Try.underlying29 rfl (by kernel_rfl) ?_)
            | (refine wl_store rfl _ _ _ rfl wr.heap.size [.int .i64 p1, .int .i64 q1, .slice as' l1.length cs'] rfl rfl _ _ hrow rfl (by kernel_rfl) (onP3 rfl) ?_; intro w3 hr3 hg3))
          have hb3 : Below wr.heap.size wr w3 := (below_alloc wr (.cells ([.int .i64 0, .int .i64 0, .slice none 0 0] : List Value).toArray 29)).trans (grown_below hg3 (by simp) (fun k hk => by cases hk; exact Nat.le_refl _))
          have r3 := hr3.out
          have hA3 : Calls Try.prog 10 #[.pointer (some ⟨b, 0, none⟩), .int .i64 (j : Int)] w3 fun e w' => ∃ s, e = .returned (.tuple #[.agg ([.int .i64 p1, .int .i64 q1, s] : List Value).toArray, .int .i64 0]) ∧ OT (From w3.heap.size) w' s l1 ∧ Below w3.heap.size w3 w' := HAt.out w3 hb3
          clear hg3 hr3 hrow hrng HAt
          go_upto_region 47 with (first
            | (go_at_call 10; refine hA3.mono ?_; rintro e w4 ⟨s4, rfl, o4, hb4⟩; have rn := Row.new w4 29 [.int .i64 0, .int .i64 0, .slice none 0 0])
            | (refine wl_store rfl _ _ _ rfl w4.heap.size [.int .i64 p1, .int .i64 q1, s4] rfl rfl _ _ rn rfl (by kernel_rfl) (onP3 o4.one) ?_; intro w5 hr5 hg5))
          have hb45 : Below w4.heap.size w4 w5 := (below_alloc w4 (.cells ([.int .i64 0, .int .i64 0, .slice none 0 0] : List Value).toArray 29)).trans (grown_below hg5 (by simp) (fun k hk => by cases hk; exact Nat.le_refl _))
          have b35 := below_and hb4 (Nat.le_refl _) hb45
          have br5 := below_and hb3 (Nat.le_refl _) b35
          have r35 := r3.below b35
          have r55 := hr5.out
          have o5 := o4.mv (Mv.belowG hb45)
          have hSm := samePk_eq w5 [.int .i64 p1, .int .i64 q1, s4] [.int .i64 p1, .int .i64 q1, .slice as' l1.length cs'] (p1, q1, l1) ⟨_, rfl, o5.rt.mv (fun _ _ _ => ⟨rfl, trivial⟩)⟩ ⟨_, rfl, hs.mv (Mv.below (below_and hbl le br5))⟩
          clear hg5 hr5 rn
          go_wp2_with (first
            | (refine wl_load_w (by rfl) _ _ rfl w4.heap.size rfl _ _ r55 _ Try.underlying29 rfl (by kernel_rfl) ?_)
            | (refine wl_load_w (by rfl) _ _ rfl wr.heap.size rfl _ _ r35 _ Try.underlying29 rfl (by kernel_rfl) ?_)
            | (go_at_call 17; refine hSm.mono ?_; rintro e w8 ⟨rfl, hb8⟩))
          go_roundw
          case rel => exact ⟨j + 1, by omega, by go_num, HW.out.below (below_and br5 (Nat.le_refl _) hb8)⟩
          case measure => simp [intOf]; omega
        · have hjd : decide ((j : Int) < (n2 : Int)) = false := by simp; omega
          have hbl := hW.bel
          go_wp2_with fail
          go_ret
          exact ⟨rfl, hbl⟩
end Go.Proofs.Ytikfldigjieloaa
