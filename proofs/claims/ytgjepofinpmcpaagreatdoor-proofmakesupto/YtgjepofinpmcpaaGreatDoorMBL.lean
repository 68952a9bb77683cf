/- Package proof: showsBoth, Check. -/
import Derived.Test.YtgjepofinpmcpaaGreatDoorMBI
import Derived.Test.YtgjepofinpmcpaaGreatDoorMBF
import Derived.Test.YtgjepofinpmcpaaGreatDoorMAE
import Derived.Test.YtgjepofinpmcpaaGreatDoorMAT
set_option linter.unusedSimpArgs false
set_option linter.unusedVariables false
namespace Go.Proofs.YtgjepofinpmcpaaGreatDoor
section
open Go.RowKit Oct Kvl
theorem boxP (w : World) (m : PMsg) (s : SV) : ∃ w1, w1 = w.alloc (.cells (mc m s).toArray 40) ∧ Row w1 w.heap.size 40 (mc m s) ∧ Below w.heap.size w w1 := ⟨_, rfl, Row.new w _ _, zA0 _ _⟩
set_option maxRecDepth 10000 in
set_option maxHeartbeats 2000000 in
theorem zRj (w : World) (m : PMsg) (s : SV) (n : Int) :
    Calls Tryz.prog 22 #[.agg (mc m s).toArray, .int .i64 n] w fun e w' => e = .returned (.bool (may m n)) ∧ Below w.heap.size w w' := by
  obtain ⟨w1, hw1, r1, B1⟩ := boxP w m s
  have c0 := r1.cell (j := 0) rfl
  have c4 := r1.cell (j := 4) rfl
  have c6 := r1.cell (j := 6) rfl
  have HR := Bb.right_any w1 n
  obtain ⟨M, hM⟩ : ∃ M, M = may m n := ⟨_, rfl⟩
  rw [← hM]
  unfold may at hM
  obtain ⟨R, hR⟩ : ∃ R, R = Bal.rgt n := ⟨_, rfl⟩
  rw [← hR] at HR hM
  clear hR
  obtain ⟨K, hK⟩ : ∃ K, K = m.kind := ⟨_, rfl⟩
  obtain ⟨F, hF⟩ : ∃ F, F = m.frm := ⟨_, rfl⟩
  obtain ⟨I, hI⟩ : ∃ I, I = m.idx := ⟨_, rfl⟩
  rw [← hK] at c0 hM
  rw [← hF] at c4 hM
  rw [← hI] at c6 hM
  clear hK hF hI
  by_cases hk : K = 13
  case neg =>
    replace hM : M = false := by rw [hM]; simp [hk]
    subst hM
    go_enter Tryz.func22, Tryz.ntmps22
    go_upto_region 1 with fail
    rw [← hw1]
    clear hw1
    go_wp2_with fail
    go_ret
    exact ⟨rfl, B1⟩
  subst hk
  cases R with
  | false =>
    replace hM : M = false := by rw [hM]; simp
    subst hM
    go_enter Tryz.func22, Tryz.ntmps22
    go_upto_region 1 with fail
    rw [← hw1]
    clear hw1
    go_wp2_with (go_at_call 18; refine HR.mono ?_; rintro e w2 ⟨rfl, rfl⟩)
    go_ret
    exact ⟨rfl, B1⟩
  | true =>
    by_cases h0 : 0 ≤ F
    case neg =>
      replace hM : M = false := by rw [hM]; simp [h0]
      subst hM
      go_enter Tryz.func22, Tryz.ntmps22
      go_upto_region 1 with fail
      rw [← hw1]
      clear hw1
      go_wp2_with (go_at_call 18; refine HR.mono ?_; rintro e w2 ⟨rfl, rfl⟩)
      go_ret
      exact ⟨rfl, B1⟩
    by_cases h1 : F < n
    case neg =>
      replace hM : M = false := by rw [hM]; simp [h1]
      subst hM
      go_enter Tryz.func22, Tryz.ntmps22
      go_upto_region 1 with fail
      rw [← hw1]
      clear hw1
      go_wp2_with (go_at_call 18; refine HR.mono ?_; rintro e w2 ⟨rfl, rfl⟩)
      go_ret
      exact ⟨rfl, B1⟩
    by_cases h2 : I = 2
    · replace hM : M = true := by rw [hM]; simp [h0, h1, h2]
      subst hM
      go_enter Tryz.func22, Tryz.ntmps22
      go_upto_region 1 with fail
      rw [← hw1]
      clear hw1
      go_wp2_with (go_at_call 18; refine HR.mono ?_; rintro e w2 ⟨rfl, rfl⟩)
      go_ret
      exact ⟨rfl, B1⟩
    by_cases h3 : I = 3
    · replace hM : M = true := by rw [hM]; simp [h0, h1, h2, h3]
      subst hM
      go_enter Tryz.func22, Tryz.ntmps22
      go_upto_region 1 with fail
      rw [← hw1]
      clear hw1
      go_wp2_with (go_at_call 18; refine HR.mono ?_; rintro e w2 ⟨rfl, rfl⟩)
      go_ret
      exact ⟨rfl, B1⟩
    · replace hM : M = false := by rw [hM]; simp [h2, h3]
      subst hM
      go_enter Tryz.func22, Tryz.ntmps22
      go_upto_region 1 with fail
      rw [← hw1]
      clear hw1
      go_wp2_with (go_at_call 18; refine HR.mono ?_; rintro e w2 ⟨rfl, rfl⟩)
      go_ret
      exact ⟨by show Ending.returned (.bool (I == 2 || I == 3)) = _; simp [h2, h3], B1⟩
set_option maxRecDepth 10000 in
set_option maxHeartbeats 2000000 in
theorem zLr (w : World) (m : PMsg) (s : SV) (r : zB3) (v : Value) (hv : Rd w v (zB6 r)) (hl : (zB6 r).length ≤ 3000000) (gv : Value) (g : List Int) (hg : Rd w gv g) (hT : Tab w) :
    Calls Tryz.prog 45 #[.agg (mc m s).toArray, v, gv] w fun e w' => e = .returned (.bool (vtd m r g)) ∧ Below w.heap.size w w' := by
  obtain ⟨w1, hw1, r1, B1⟩ := boxP w m s
  have c1 := r1.cell (j := 1) rfl
  have c2 := r1.cell (j := 2) rfl
  have c3 := r1.cell (j := 3) rfl
  have c4 := r1.cell (j := 4) rfl
  have c6 := r1.cell (j := 6) rfl
  have HR := zJk w1 m.idx m.bal.1 m.bal.2 m.slot m.frm v (zB6 r) (hv.below B1) hl gv g (hg.below B1) (hT.below B1)
  have HR : Calls Tryz.prog 62 #[.int .i64 m.idx, .agg #[.int .i64 m.bal.1, .int .i64 m.bal.2], .int .i64 m.slot, v, .agg #[.int .i64 m.frm, gv]] w1 fun e w' => e = .returned (.bool (vtd m r g)) ∧ Below w1.heap.size w1 w' := HR
  obtain ⟨ag, cg, rfl, _⟩ := hg.form
  generalize vtd m r g = D at *
  clear hv hg hl
  go_enter Tryz.func45, Tryz.ntmps45
  go_upto_region 1 with fail
  rw [← hw1]
  clear hw1
  go_wp2_with (go_at_call 62; refine HR.mono ?_; rintro e w2 ⟨rfl, b2⟩)
  go_ret
  exact ⟨rfl, zA1 B1 zN b2⟩
end
section
open Go.RowKit Oct
set_option maxRecDepth 10000 in
set_option maxHeartbeats 2000000 in
theorem zMv (w : World) (bv : Value) (l : List Int) (hb : RT Any w bv l) (hl : 1048576 < l.length) : Calls Tryz.prog 19 #[bv] w (zIe l w) := by
  obtain ⟨ao, cap, rfl, hc⟩ := hb.form
  obtain ⟨w2, hw2⟩ : ∃ w2, w2 = (w.alloc (.cells (mc zAc sv0).toArray 40)).alloc (.cells #[.int .i64 0] 24) := ⟨_, rfl⟩
  have hm : Row w2 w.heap.size 40 (mc zAc sv0) := by rw [hw2]; exact zA4 (Row.new w 40 (mc zAc sv0)) _
  have he : Row w2 (w.heap.size + 1) 24 [.int .i64 0] := by
    rw [hw2]
    have := Row.new (w.alloc (.cells (mc zAc sv0).toArray 40)) 24 [.int .i64 0]
    simpa using this
  have hB : Below w.heap.size w w2 := by rw [hw2]; exact ((Below.refl _ w).alloc zN _).alloc (by simp) _
  obtain ⟨e1, e2⟩ := zSl hl
  have hz := (SOk.zero Any w 0).one
  have hl' : (1048576 : Int) < (l.length : Int) := by omega
  go_enter_defers Tryz.func19, Tryz.ntmps19
  go_upto_region 1 with fail
  rw [show (Obj.cells #[Value.int .i64 0, .int .i64 0, .int .i64 0, .int .i64 0, .int .i64 0, .int .i64 0, .int .i64 0, .int .i64 0, .int .i64 0, .int .i64 0, .slice none 0 0, .slice none 0 0, .int .i64 0, .int .i64 0, .slice none 0 0, .slice none 0 0, .slice none 0 0, .slice none 0 0, .slice none 0 0, .slice none 0 0, .slice none 0 0, .slice none 0 0, .slice none 0 0] 40) = .cells (mc zAc sv0).toArray 40 from rfl, ← hw2]
  clear hw2
  have hbm := zHm
  go_wp2_with (first
    | (refine zA7 rfl _ _ _ rfl w.heap.size (mc zAc sv0) rfl rfl _ _ hm rfl (by kernel_rfl) hz ?_; intro w3 hr3 hg3; have he3 := he.grown hg3 (fun e => by injection e with e; omega))
    | (refine zAb rfl _ _ _ rfl (w.heap.size + 1) 0 _ rfl rfl _ _ he3 (show 0 < 1 by decide) (by kernel_rfl) rfl ?_; intro w4 hr4 hg4))
  have hm4 := hr3.out.grown hg4 (fun e => by injection e with e; omega)
  exact ⟨_, zFj w4 _ w.heap.size (w.heap.size + 1) _ rfl _ hm4 hr4.out rfl rfl, sv0, by rw [e1, e2]; rfl, by rw [e2]; exact SOk.zero _ _ 0, Two.below hB (Two.of hg3 hg4) zN zN (by omega)⟩
theorem zR0 {w : World} {bv : Value} : Row (w.alloc (.cells #[bv, .int .i64 0] 75)) w.heap.size 75 [bv, .int .i64 ((0 : Nat) : Int)] := Row.new w 75 [bv, .int .i64 0]
set_option maxRecDepth 10000 in
set_option maxHeartbeats 4000000 in
theorem zNc (w : World) (bv : Value) (l : List Int) (hb : RT Any w bv l) (hl : ¬ 1048576 < l.length) : Calls Tryz.prog 19 #[bv] w (zIe l w) := by
  obtain ⟨ao, cap, rfl, hc⟩ := hb.form
  have hbyt := hb.1.1
  obtain ⟨w2, hw2⟩ : ∃ w2, w2 = (w.alloc (.cells (mc zAc sv0).toArray 40)).alloc (.cells #[.int .i64 0] 24) := ⟨_, rfl⟩
  have hm : Row w2 w.heap.size 40 (mc zAc sv0) := by rw [hw2]; exact zA4 (Row.new w 40 (mc zAc sv0)) _
  have he : Row w2 (w.heap.size + 1) 24 [.int .i64 0] := by
    rw [hw2]
    have := Row.new (w.alloc (.cells (mc zAc sv0).toArray 40)) 24 [.int .i64 0]
    simpa using this
  have hB : Below w.heap.size w w2 := by rw [hw2]; exact ((Below.refl _ w).alloc zN _).alloc (by simp) _
  have hsz : w2.heap.size = w.heap.size + 1 + 1 := by rw [hw2]; simp
  have hl' : ¬ (1048576 : Int) < (l.length : Int) := by omega
  go_enter_defers Tryz.func19, Tryz.ntmps19
  go_upto_region 1 with fail
  rw [show (Obj.cells #[Value.int .i64 0, .int .i64 0, .int .i64 0, .int .i64 0, .int .i64 0, .int .i64 0, .int .i64 0, .int .i64 0, .int .i64 0, .int .i64 0, .slice none 0 0, .slice none 0 0, .int .i64 0, .int .i64 0, .slice none 0 0, .slice none 0 0, .slice none 0 0, .slice none 0 0, .slice none 0 0, .slice none 0 0, .slice none 0 0, .slice none 0 0, .slice none 0 0] 40) = .cells (mc zAc sv0).toArray 40 from rfl, ← hw2]
  clear hw2
  have hpe : w.heap.size ≤ w.heap.size + 1 := by omega
  have hne : w.heap.size ≠ w.heap.size + 1 := by omega
  have hper : w.heap.size + 1 ≠ w2.heap.size := by omega
  have hpew : w.heap.size + 1 < w2.heap.size + 1 := by omega
  have hnr : w2.heap.size ≠ w.heap.size := by omega
  have hlr : w.heap.size < w2.heap.size := by omega
  clear hsz
  generalize w.heap.size + 1 = pe at hpe hne hper hpew he ⊢
  go_wp2_with fail
  have hbel3 := zA0 w2 (.cells #[.slice ao l.length cap, .int .i64 0] 75)
  have hD0 : DS w (w2.heap.size + 1) w.heap.size (w2.alloc (.cells #[.slice ao l.length cap, .int .i64 0] 75)) w2.heap.size w.heap.size (.slice ao l.length cap) l 0 zAc :=
    ⟨zA1 hB zN hbel3, hb, hB.size, zN, by omega, by omega, by omega, by simp, zR0, ⟨sv0, zA4 hm _, SOk.zero _ _ 0⟩, Nat.zero_le _, by omega, by simp; omega⟩
  have he3 := zA4 he (.cells #[.slice ao l.length cap, .int .i64 0] 75)
  generalize (w2.alloc (.cells #[.slice ao l.length cap, .int .i64 0] 75)) = w3 at hD0 he3 ⊢
  have hitr : ∀ k, w2.heap.size + 1 ≤ k → k ≠ w2.heap.size := fun k hk => by omega
  have hrlo := hD0.rlo
  clear hB hbel3 hm he
  generalize w2.heap.size = r at *
  refine (zB9 (r + 1) w3 r _ l 0 hD0.rs).mono ?_
  rintro e w4 ⟨hg4, ⟨hn, rfl⟩ | ⟨v4, k, p1, hrd, rfl, hR4, hS4⟩⟩
  · rw [List.drop_zero] at hn
    obtain ⟨s0, hm0, hs0⟩ := hD0.mrow
    have hb4 := hD0.bel.trans (zA5 hg4 hD0.bel.size (fun k hk => by cases hk; exact hD0.rlo))
    have hm4 := hm0.grown hg4 (fun e => hD0.ne (by injection e))
    have he4 := he3.grown hg4 (fun e => hper (by injection e with e; exact e.symm))
    have HN := (show Hid (rdM l = none) from rdM_kind hn)
    clear hn
    go_wp2_with fail
    exact zHe w w4 l w.heap.size pe _ _ _ hm4 he4 hne hb4 zN hpe hl HN.out _ rfl rfl
  rw [List.drop_zero] at hrd
  have hR4 : v4 = .int .i64 k := hR4
  subst hR4
  have HR := (show Hid (cN.rd l = some (k, l.drop p1)) from hrd)
  clear hrd
  have zB5 := hD0.mrow
  obtain ⟨s0, hm0, hs0⟩ := zB5
  have hm4 := hm0.grown hg4 (fun e => hD0.ne (by injection e))
  have he4 := he3.grown hg4 (fun e => hper (by injection e with e; exact e.symm))
  have hF := fun u => zEm u k
  have hs4 := hs0.mv hg4.size (Mv.gl hg4 hD0.rL)
  by_cases hk : fl k = []
  · have HN := (show Hid (rdM l = none) from rdM_fl HR.out hk)
    have hse : (fsB k).toList.isEmpty = true := by rw [zG7, hk]; rfl
    clear hk
    go_wp2_with (first
      | (refine zAb rfl _ _ _ rfl w.heap.size 0 _ rfl rfl _ _ hm4 (show 0 < 23 by decide) (by kernel_rfl) rfl ?_; intro w5 hr5 hg5; have c5 := hr5.out.cell (j := 0) rfl)
      | (go_at_call 36; refine (hF _).mono ?_; rintro e w5 ⟨rfl, rfl⟩))
    have hb4 := hD0.bel.trans (zA5 hg4 hD0.bel.size (fun k hk => by cases hk; exact hD0.rlo))
    have hb5 := hb4.trans (zA5 hg5 hb4.size (fun k hk => by cases hk; exact zN))
    have hm5 : Row w5 w.heap.size 40 (mc { zAc with kind := k } s0) := hr5.out
    exact zHe w w5 l w.heap.size pe _ _ _ hm5 (he4.grown hg5 (fun e => hne (by injection e))) hne hb5 zN hpe hl HN.out _ rfl rfl
  have hse : (fsB k).toList.isEmpty = false := by rw [zG7]; simpa using hk
  have HK := (show Hid (fl k ≠ []) from hk)
  clear hk
  go_wp2_with (first
    | (refine zAb rfl _ _ _ rfl w.heap.size 0 _ rfl rfl _ _ hm4 (show 0 < 23 by decide) (by kernel_rfl) rfl ?_; intro w5 hr5 hg5; have c5 := hr5.out.cell (j := 0) rfl)
    | (go_at_call 36; refine (hF _).mono ?_; rintro e w5 ⟨rfl, rfl⟩))
  have hb4 := hD0.bel.trans (zA5 hg4 hD0.bel.size (fun k hk => by cases hk; exact hD0.rlo))
  have hb5 := hb4.trans (zA5 hg5 hb4.size (fun k hk => by cases hk; exact zN))
  have hm5 : Row w5 w.heap.size 40 (mc { zAc with kind := k } s0) := hr5.out
  have he5 := he4.grown hg5 (fun e => hne (by injection e))
  have hs5 := hs4.mv hg5.size (Mv.gl hg5 hD0.pL)
  have hz5 := Nat.le_trans hg4.size hg5.size
  have hD5 : DS w (r + 1) w.heap.size w5 r w.heap.size (.slice ao l.length cap) l p1 { zAc with kind := k } :=
    ⟨hb5, hb, hD0.rlo, zN, hD0.rL, hD0.pL, hD0.ne, Nat.le_trans hD0.hL hz5, hS4.row.grown hg5 (fun e => hD0.ne (by injection e with e; exact e.symm)), ⟨s0, hm5, ⟨hs5.o, hs5.g, hs5.o', hs5.g', hs5.d, hs5.s, hs5.c, hs5.v, hs5.n, hs5.p, hs5.l⟩⟩, hS4.hp, hD0.hl, Nat.lt_of_lt_of_le hD0.itw hz5⟩
  have hD6 := hD5.turn (fsB k) rfl
  have he6 : Row (w5.iter (fsB k) 0) pe 24 _ := he5.below ((Below.refl _ w5).alloc zN _)
  have hit0 := World.iter_heap w5 (fsB k) 0
  have nir : w5.heap.size ≠ r := hitr _ hD5.hL
  have nim : w5.heap.size ≠ w.heap.size := by have := hD5.hL; have := hD5.pL; omega
  have nie : w5.heap.size ≠ pe := by have := he5.lt; omega
  have nit0 := hb5.size
  clear hD0 hD5 hs5 hm5 he5 he4 hs4 hm4 hs0 hm0 hg4 hg5 hr5 c5 hb4 hb5 hF hS4 he3 hz5
  have HL := (show Hid ((fsB k).size = (fl k).length) from zOn _)
  obtain ⟨N, hN⟩ : ∃ N, N = (fl k).length := ⟨_, rfl⟩
  have HN := (show Hid (N = (fl k).length) from hN)
  clear hN
  generalize w5.heap.size = it at *
  go_loopg [] N (fun gf wx => ∃ (pos pq : Nat) (mq : PMsg), wx.heap[it]? = some (.stringIter (fsB k) pos) ∧ DS w (r + 1) it wx r w.heap.size (.slice ao l.length cap) l pq mq ∧ Row wx pe 24 [.int .i64 0] ∧
    pos + gf = N ∧ Hid (zE8 ((fl k).take pos) { zAc with kind := k } (l.drop p1) = some (mq, l.drop pq)))
  case atStart => exact ⟨0, p1, _, hit0, hD6, he6, by omega, rfl⟩
  case round =>
    obtain ⟨pos, pq, mq, hit, hD, he, hfu, hrdq⟩ := hrel
    by_cases hps : pos < (fsB k).size
    · have hps' : pos < (fl k).length := by rw [← HL.out]; exact hps
      obtain ⟨g', rfl⟩ : ∃ g', gk = g' + 1 := ⟨gk - 1, by have := HN.out; omega⟩
      obtain ⟨i, hi⟩ : ∃ i, (fl k)[pos]? = some i := ⟨_, List.getElem?_eq_getElem hps'⟩
      have h15 : i < 15 := zFk (zEn _) i (List.mem_of_getElem? hi)
      obtain ⟨hl1, hl2⟩ := fsB_at hps hi
      have hnx : ∀ ty, (Instr.next (.pointer (some ⟨it, 0, none⟩)) true ty).run Tryz.prog wr = _ := fun ty => Lib.run_next_ascii_at wr it (fsB k) pos ty hit hps hl2
      rw [hl1] at hnx
      have hit2 := Lib.iterAt_heap wr it (fsB k) pos (pos + 1) hit
      have hD2 := hD.iter hit nit0 (pos + 1)
      have he2 := zDc (s := fsB k) (p := pos + 1) he (fun e => nie e.symm)
      obtain ⟨W, hWd⟩ : ∃ W, wr.iterAt it (fsB k) (pos + 1) = W := ⟨_, rfl⟩
      rw [hWd] at hnx hit2 hD2 he2
      have cF' := zQs w (r + 1) it W r w.heap.size _ l pq mq hD2 h15
      have HI := (show Hid ((fl k)[pos]? = some i) from hi)
      clear hWd hl1 hl2 hi hps
      go_wp2_with fail
      refine cF'.mono ?_
      rintro e w7 ⟨ht7, ⟨hn7, rfl, hg7⟩ | ⟨v7, p7, hr7, rfl, hD7⟩⟩
      · have HE := (show Hid (rdM l = none) from rdM_fs HR.out (zSd HI.out hrdq.out hn7))
        obtain ⟨sx, hmx, hsx⟩ := hD2.mrow
        have hb7 := hD2.bel.trans (zA5 hg7 hD2.bel.size (fun k hk => by cases hk; exact hD2.rlo))
        have hm7 := hmx.grown hg7 (fun e => hD2.ne (by injection e))
        have he7 := he2.grown hg7 (fun e => hper (by injection e with e; exact e.symm))
        clear hn7
        go_wp2_with fail
        exact zHe w w7 l w.heap.size pe _ _ _ hm7 he7 hne hb7 zN hpe hl HE.out _ rfl rfl
      · have H7 := (show Hid (zE8 ((fl k).take (pos + 1)) { zAc with kind := k } (l.drop p1) = some (set mq i v7, l.drop p7)) from zUo HI.out hrdq.out hr7)
        have hit7 := two_iter ht7 hit2 nir nim
        have he7 := he2.two ht7 hper (fun e => hne e.symm)
        clear hr7
        go_wp2_with fail
        go_roundg g'
        case measure => omega
        case rel => exact ⟨pos + 1, p7, _, hit7, hD7, he7, by omega, H7⟩
    · have hnx : ∀ ty, (Instr.next (.pointer (some ⟨it, 0, none⟩)) true ty).run Tryz.prog wr = _ := fun ty => Lib.run_next_end_at wr it (fsB k) pos ty hit hps
      have hpl : (fl k).length ≤ pos := by rw [← HL.out]; omega
      have hrd := hrdq.out
      rw [List.take_of_length_le hpl] at hrd
      have HRD := (show Hid (zE8 (fl k) { zAc with kind := k } (l.drop p1) = some (mq, l.drop pq)) from hrd)
      obtain ⟨sx, hmx, hsx⟩ := hD.mrow
      have hE := rend_any (r + 1) wr r _ l pq hD.rs
      have hhp := hD.hp
      clear hrd hpl hps hrdq
      go_wp2_with fail
      refine hE.mono ?_
      rintro e w8 ⟨hg8, ⟨hpq, rfl⟩ | ⟨hpq, rfl⟩⟩
      · have hb8 := hD.bel.trans (zA5 hg8 hD.bel.size (fun k hk => by cases hk))
        have hm8 := hmx.grown hg8 (fun e => by cases e)
        have he8 := he.grown hg8 (fun e => by cases e)
        have hs8 := hsx.mv hg8.size fun k hk hlt => ⟨hg8.block k hlt (fun e => by cases e), hk⟩
        have HM := (show Hid (rdM l = some mq) from zT5 HR.out HK.out (by rw [HRD.out, hpq, List.drop_length]))
        have hone := hs8.one
        clear hpq
        go_wp2_with (first
          | (refine zAa rfl _ _ rfl w.heap.size rfl _ _ hm8 _ Tryz.underlying40 rfl (by kernel_rfl) ?_)
          | (refine zA7 rfl _ _ _ rfl w.heap.size (mc mq sx) rfl rfl _ _ hm8 rfl (by kernel_rfl) hone ?_; intro w9 hr9 hg9; have he9 := he8.grown hg9 (fun e => hne (by injection e)))
          | (refine zAb rfl _ _ _ rfl pe 0 _ rfl rfl _ _ he9 (show 0 < 1 by decide) (by kernel_rfl) rfl ?_; intro w10 hr10 hg10))
        have hm10 := hr9.out.grown hg10 (fun e => hne (by injection e with e; exact e.symm))
        have hB10 := Two.below hb8 (Two.of hg9 hg10) zN zN hpe
        have hs9 := hs8.mv hg9.size (Mv.gl hg9 hD.pL)
        have hs10 := hs9.mv hg10.size (Mv.gl (L := r + 1) hg10 hpew)
        exact dec_back w w10 l w.heap.size pe mq sx hm10 hr10.out hB10 hl HM.out (hs10.mv zN fun k hk _ => ⟨rfl, by have := hk.1; unfold zB0; omega⟩) _ rfl rfl
      · have hb8 := hD.bel.trans (zA5 hg8 hD.bel.size (fun k hk => by cases hk))
        have hm8 := hmx.grown hg8 (fun e => by cases e)
        have he8 := he.grown hg8 (fun e => by cases e)
        have HM := (show Hid (rdM l = none) from zUn HR.out HRD.out (fun e => by have := congrArg List.length e; rw [List.length_drop] at this; simp at this; omega))
        clear hpq
        go_wp2_with fail
        exact zHe w w8 l w.heap.size pe _ _ _ hm8 he8 hne hb8 zN hpe hl HM.out _ rfl rfl
theorem zJt (w : World) (bv : Value) (l : List Int) (hb : RT Any w bv l) : Calls Tryz.prog 19 #[bv] w (zIe l w) := by
  by_cases hl : 1048576 < l.length
  · exact zMv w bv l hb hl
  · exact zNc w bv l hb hl
end
section
open Go.RowKit Oct Kvl
set_option maxRecDepth 10000 in
set_option maxHeartbeats 4000000 in
theorem zKd (w : World) (m : PMsg) (s : SV) (hs : SOk Any w m s) (z1 : tot [m.req.2.2.1, m.req.2.2.2] ≤ 2000000) (z2 : tot [m.oth.2.2.1, m.oth.2.2.2] ≤ 2000000) (hT : Tab w) :
    Calls Tryz.prog 23 #[.agg (mc m s).toArray] w fun e w' => e = .returned (.bool (shw m)) ∧ Below w.heap.size w w' := by
  obtain ⟨w1, hw1, r1, B1⟩ := boxP w m s
  have hs1 := hs.below B1
  have hT1 := hT.below B1
  have hdw : Below w1.heap.size w1 w1.drew := ⟨rfl, rfl, rfl, zN, fun _ _ => rfl⟩
  have HB1 := (show Hid (∀ u, Below w1.heap.size w1 u → Calls Tryz.prog 21 #[.agg #[.int .i64 m.req.1, .int .i64 m.req.2.1, s.o, s.g]] u fun e w' => ∃ v', e = .returned v' ∧ Own w' 5 v' (bc (zB6 m.req)) ∧ Fr u.heap.size v' ∧ Below u.heap.size u w') from
    fun u hu => zDs u [.int .i64 m.req.1, .int .i64 m.req.2.1, s.o, s.g] m.req ⟨_, _, rfl, (hs1.below hu).o, (hs1.below hu).g⟩ (Nat.le_trans z1 (by decide)))
  have HB2 := (show Hid (∀ u, Below w1.heap.size w1 u → Calls Tryz.prog 21 #[.agg #[.int .i64 m.oth.1, .int .i64 m.oth.2.1, s.o', s.g']] u fun e w' => ∃ v', e = .returned v' ∧ Own w' 5 v' (bc (zB6 m.oth)) ∧ Fr u.heap.size v' ∧ Below u.heap.size u w') from
    fun u hu => zDs u [.int .i64 m.oth.1, .int .i64 m.oth.2.1, s.o', s.g'] m.oth ⟨_, _, rfl, (hs1.below hu).o', (hs1.below hu).g'⟩ (Nat.le_trans z2 (by decide)))
  have SK := (show Hid (∀ u, Below w1.heap.size w1 u → u.cell? ⟨w.heap.size, 8, none⟩ = some (.int .i64 m.req.1) ∧ u.cell? ⟨w.heap.size, 9, none⟩ = some (.int .i64 m.req.2.1) ∧ u.cell? ⟨w.heap.size, 10, none⟩ = some s.o ∧ u.cell? ⟨w.heap.size, 11, none⟩ = some s.g ∧ u.cell? ⟨w.heap.size, 12, none⟩ = some (.int .i64 m.oth.1) ∧ u.cell? ⟨w.heap.size, 13, none⟩ = some (.int .i64 m.oth.2.1) ∧ u.cell? ⟨w.heap.size, 14, none⟩ = some s.o' ∧ u.cell? ⟨w.heap.size, 15, none⟩ = some s.g') from
    fun u hu => ⟨(r1.below hu).cell (j := 8) rfl, (r1.below hu).cell (j := 9) rfl, (r1.below hu).cell (j := 10) rfl, (r1.below hu).cell (j := 11) rfl, (r1.below hu).cell (j := 12) rfl, (r1.below hu).cell (j := 13) rfl, (r1.below hu).cell (j := 14) rfl, (r1.below hu).cell (j := 15) rfl⟩)
  obtain ⟨q0, q1, q2, q3, q4, q5, q6, q7⟩ := SK.out w1 (Below.refl _ _)
  obtain ⟨D, hD⟩ : ∃ D, D = shw m := ⟨_, rfl⟩
  rw [← hD]
  have HD := (show Hid (D = shw m) from hD)
  clear hD
  go_enter Tryz.func23, Tryz.ntmps23
  go_upto_region 1 with fail
  rw [← hw1]
  clear hw1
  go_wp2_with fail
  go_region_held3 (fun u => u.cell? ⟨w.heap.size, 8, none⟩ = some (.int .i64 m.req.1) ∧ u.cell? ⟨w.heap.size, 9, none⟩ = some (.int .i64 m.req.2.1) ∧ u.cell? ⟨w.heap.size, 10, none⟩ = some s.o ∧ u.cell? ⟨w.heap.size, 11, none⟩ = some s.g ∧ u.cell? ⟨w.heap.size, 12, none⟩ = some (.int .i64 m.oth.1) ∧ u.cell? ⟨w.heap.size, 13, none⟩ = some (.int .i64 m.oth.2.1) ∧ u.cell? ⟨w.heap.size, 14, none⟩ = some s.o' ∧ u.cell? ⟨w.heap.size, 15, none⟩ = some s.g')
    (first | exact SK.out _ B3 | exact SK.out _ B2 | exact SK.out _ hdw | go_keep)
    (first
      | (go_at_call 21; refine (HB2.out w2 B2).mono ?_; rintro e w3 ⟨v3, rfl, o3, f3, b3⟩; have B3 : Below w1.heap.size w1 w3 := zA1 B2 zN b3)
      | (go_at_call 21; refine (HB1.out w1.drew hdw).mono ?_; rintro e w2 ⟨v2, rfl, o2, f2, b2⟩; have B2 : Below w1.heap.size w1 w2 := zA1 hdw zN b2))
  have y1 : Byt (zB6 m.req) := zCw hs.o.1.1 hs.g.1.1 z1
  have y2 : Byt (zB6 m.oth) := zCw hs.o'.1.1 hs.g'.1.1 z2
  have R2 := (o2.rd y1).below b3
  have R3 := o3.rd y2
  have HC := zIc w3 v2 v3 _ _ R2 R3
  have r3 := r1.below B3
  have c17 := r3.cell (j := 17) rfl
  have HV1 := zLr w3 m s m.req v2 R2 (zDw z1) s.s m.sig (hs1.below B3).s.1 (hT1.below B3)
  have HV2 := (show Hid (∀ u, Below w3.heap.size w3 u → Calls Tryz.prog 45 #[.agg (mc m s).toArray, v3, s.d] u fun e w' => e = .returned (.bool (vtd m m.oth m.data)) ∧ Below u.heap.size u w') from
    fun u hu => zLr u m s m.oth v3 (R3.below hu) (zDw z2) s.d m.data ((hs1.below B3).below hu).d.1 ((hT1.below B3).below hu))
  have BB := zA1 B1 zN B3
  have hD : D = (decide (zD8 (zB6 m.req) (zB6 m.oth) < 0) && vtd m m.req m.sig && vtd m m.oth m.data) := HD.out
  clear HD
  generalize zD8 (zB6 m.req) (zB6 m.oth) = C at *
  generalize vtd m m.req m.sig = V1 at *
  generalize vtd m m.oth m.data = V2 at *
  clear HB1 HB2 SK q0 q1 q2 q3 q4 q5 q6 q7 R2 R3 y1 y2 o2 o3 f2 f3 hs hs1 z1 z2 hT hT1 b2 b3 B2 hdw
  by_cases hc : C < 0
  case neg =>
    rw [decide_eq_false hc, Bool.false_and, Bool.false_and] at hD
    subst hD
    go_wp2_with (go_at_call 44; refine HC.mono ?_; rintro e w4 ⟨rfl, rfl⟩)
    go_ret
    exact ⟨rfl, BB⟩
  rw [decide_eq_true hc, Bool.true_and] at hD
  cases V1 with
  | false =>
    rw [Bool.false_and] at hD
    subst hD
    go_wp2_with (first
      | (go_at_call 44; refine HC.mono ?_; rintro e w4 ⟨rfl, rfl⟩)
      | (refine zBs (by kernel_rfl) _ _ rfl w.heap.size rfl _ _ r3 _ Tryz.underlying40 rfl (by kernel_rfl) ?_)
      | (go_at_call 45; refine HV1.mono ?_; rintro e w5 ⟨rfl, b5⟩))
    go_ret
    exact ⟨rfl, zA1 BB zN b5⟩
  | true =>
    rw [Bool.true_and] at hD
    subst hD
    go_wp2_with (first
      | (go_at_call 44; refine HC.mono ?_; rintro e w4 ⟨rfl, rfl⟩)
      | (refine zBs (by kernel_rfl) _ _ rfl w.heap.size rfl _ _ r5 _ Tryz.underlying40 rfl (by kernel_rfl) ?_)
      | (refine zBs (by kernel_rfl) _ _ rfl w.heap.size rfl _ _ r3 _ Tryz.underlying40 rfl (by kernel_rfl) ?_)
      | (go_at_call 45; refine (HV2.out w5 b5).mono ?_; rintro e w6 ⟨rfl, b6⟩)
      | (go_at_call 45; refine HV1.mono ?_; rintro e w5 ⟨rfl, b5⟩; have r5 := r3.below b5; have c16 := r5.cell (j := 16) rfl))
    go_ret
    exact ⟨rfl, zA1 (zA1 BB zN b5) zN b6⟩
def CkP (l : List Int) (n : Int) (w : World) (e : Ending) (w' : World) : Prop := e = .returned (.tuple #[.int .i64 (zQi l n), .int .i64 (zRp l n)]) ∧ Below w.heap.size w w'
set_option maxRecDepth 10000 in
set_option maxHeartbeats 4000000 in
theorem zGb (w : World) (bv : Value) (l : List Int) (hb : RT Any w bv l) (n : Int) (hT : Tab w) : Calls Tryz.prog 9 #[bv, .int .i64 n] w (CkP l n w) := by
  have hby := hb.1.1
  have HZ := (show Hid (zE5 l = 0 → tot [(zC6 l).req.2.2.1, (zC6 l).req.2.2.2] ≤ 2000000 ∧ tot [(zC6 l).oth.2.2.1, (zC6 l).oth.2.2.2] ≤ 2000000) from zLl hby)
  have HL := (show Hid (zF5 l n = (decide (zE5 l = 0) && may (zC6 l) n && shw (zC6 l))) from rfl)
  have HD := zJt w bv l hb
  go_enter Tryz.func9, Tryz.ntmps9
  go_upto_region 2 with (first
    | (go_at_call 19; refine HD.mono ?_; rintro e w1 ⟨s1, rfl, hs1', b1⟩; have hs1 := hs1'.mv zN Mv.any; have hone := hs1.one; have zB5 := Row.new w1 40 (mc zAc sv0))
    | (refine zA7 rfl _ _ _ rfl w1.heap.size (mc (zC6 l) s1) rfl rfl _ _ zB5 rfl (by kernel_rfl) hone ?_; intro w2 r2 g2))
  have b2 : Below w1.heap.size w1 w2 := (zA0 w1 (.cells (mc zAc sv0).toArray 40)).trans (zA5 g2 (by simp) (fun k hk => by cases hk; exact zN))
  have B2 := zA1 b1 zN b2
  have hs2 := hs1.below b2
  have hT2 := hT.below B2
  have r2 := r2.out
  obtain ⟨cM, hcM⟩ : ∃ c, c = w1.heap.size := ⟨_, rfl⟩
  rw [← hcM] at r2 ⊢
  clear HD hb hby hT zB5 hone hs1 hs1' b2 g2 b1 hcM
  have HS := (show Hid (zE5 l = 0 → ∀ u, Below w2.heap.size w2 u → Calls Tryz.prog 23 #[.agg (mc (zC6 l) s1).toArray] u fun e w' => e = .returned (.bool (shw (zC6 l))) ∧ Below u.heap.size u w') from
    fun h0 u hu => zKd u (zC6 l) s1 (hs2.below hu) (HZ.out h0).1 (HZ.out h0).2 (hT2.below hu))
  have HM := zRj w2 (zC6 l) s1 n
  have HY := (show Hid (zF5 l n = true → zQi l n = (zC6 l).frm ∧ zRp l n = 0) from zGs)
  by_cases h0 : zE5 l = 0
  case neg =>
    have hL := zFa (l := l) (n := n) (by rw [HL.out, decide_eq_false h0]; rfl)
    have h0' : (zE5 l != 0) = true := by simpa using h0
    generalize zE5 l = E at *
    clear HS HM HL HZ HY
    go_wp2_with fail
    go_ret2
    exact ⟨by rw [hL.1, hL.2]; rfl, B2⟩
  rw [decide_eq_true h0, Bool.true_and] at HL
  have HS := (show Hid (∀ u, Below w2.heap.size w2 u → Calls Tryz.prog 23 #[.agg (mc (zC6 l) s1).toArray] u fun e w' => e = .returned (.bool (shw (zC6 l))) ∧ Below u.heap.size u w') from HS.out h0)
  rw [h0]
  clear HZ h0
  generalize zC6 l = m at *
  obtain ⟨A, hA⟩ : ∃ A, A = may m n := ⟨_, rfl⟩
  rw [← hA] at HM HL
  clear hA
  obtain ⟨C, hC⟩ : ∃ C, C = shw m := ⟨_, rfl⟩
  rw [← hC] at HS HL
  clear hC
  cases A with
  | false =>
    have hL := zFa (l := l) (n := n) (by rw [HL.out]; rfl)
    go_wp2_with (first
      | (refine zBs (by kernel_rfl) _ _ rfl cM rfl _ _ r2 _ Tryz.underlying40 rfl (by kernel_rfl) ?_)
      | (go_at_call 22; refine HM.mono ?_; rintro e w3 ⟨rfl, b3⟩))
    go_ret2
    exact ⟨by rw [hL.1, hL.2]; rfl, zA1 B2 zN b3⟩
  | true =>
    cases C with
    | false =>
      have hL := zFa (l := l) (n := n) (by rw [HL.out]; rfl)
      go_wp2_with (first
        | (refine zBs (by kernel_rfl) _ _ rfl cM rfl _ _ r3 _ Tryz.underlying40 rfl (by kernel_rfl) ?_)
        | (refine zBs (by kernel_rfl) _ _ rfl cM rfl _ _ r2 _ Tryz.underlying40 rfl (by kernel_rfl) ?_)
        | (go_at_call 22; refine HM.mono ?_; rintro e w3 ⟨rfl, b3⟩; have r3 := r2.below b3)
        | (go_at_call 23; (refine (HS.out w3 b3).mono ?_; rintro e w4 ⟨rfl, b4⟩)))
      go_ret2
      exact ⟨by rw [hL.1, hL.2]; rfl, zA1 (zA1 B2 zN b3) zN b4⟩
    | true =>
      have hL := HY.out (by rw [HL.out]; rfl)
      go_wp2_with (first
        | (refine zBs (by kernel_rfl) _ _ rfl cM rfl _ _ r3 _ Tryz.underlying40 rfl (by kernel_rfl) ?_)
        | (refine zBs (by kernel_rfl) _ _ rfl cM rfl _ _ r2 _ Tryz.underlying40 rfl (by kernel_rfl) ?_)
        | (go_at_call 22; refine HM.mono ?_; rintro e w3 ⟨rfl, b3⟩; have r3 := r2.below b3)
        | (go_at_call 23; (refine (HS.out w3 b3).mono ?_; rintro e w4 ⟨rfl, b4⟩; have c4 := (r3.below b4).cell (j := 4) rfl)))
      go_ret2
      exact ⟨by rw [hL.1, hL.2]; rfl, zA1 (zA1 B2 zN b3) zN b4⟩
end
end Go.Proofs.YtgjepofinpmcpaaGreatDoor
