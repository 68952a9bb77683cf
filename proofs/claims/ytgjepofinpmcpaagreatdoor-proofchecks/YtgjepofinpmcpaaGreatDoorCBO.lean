/- The document's Body. -/
import Derived.Test.YtgjepofinpmcpaaGreatDoorCBI
section
set_option linter.unusedVariables false
namespace Go.Proofs.YtgjepofinpmcpaaGreatDoor
open Go.RowKit Oct

set_option maxRecDepth 10000 in
set_option maxHeartbeats 2000000 in
theorem decode_many (w : World) (bv : Value) (l : List Int) (hb : RT Any w bv l) (hl : 1048576 < l.length) : Calls Tryz.prog 19 #[bv] w (DecPost l w) := by
  obtain ⟨ao, cap, rfl, hc⟩ := hb.form
  obtain ⟨w2, hw2⟩ : ∃ w2, w2 = (w.alloc (.cells (mc zeroM sv0).toArray 40)).alloc (.cells #[.int .i64 0] 24) := ⟨_, rfl⟩
  have hm : Row w2 w.heap.size 40 (mc zeroM sv0) := by rw [hw2]; exact row_alloc (Row.new w 40 (mc zeroM sv0)) _
  have he : Row w2 (w.heap.size + 1) 24 [.int .i64 0] := by
    rw [hw2]
    have := Row.new (w.alloc (.cells (mc zeroM sv0).toArray 40)) 24 [.int .i64 0]
    simpa using this
  have hB : Below w.heap.size w w2 := by rw [hw2]; exact ((Below.refl _ w).alloc (Nat.le_refl _) _).alloc (by simp) _
  obtain ⟨e1, e2⟩ := decE_many hl
  have hz := (SOk.zero Any w 0).one
  have hl' : (1048576 : Int) < (l.length : Int) := by omega
  go_enter_defers Tryz.func19, Tryz.ntmps19
  go_upto_region 1 with fail
  rw [show (Obj.cells #[Value.int .i64 0, .int .i64 0, .int .i64 0, .int .i64 0, .int .i64 0, .int .i64 0, .int .i64 0, .int .i64 0, .int .i64 0, .int .i64 0, .slice none 0 0, .slice none 0 0, .int .i64 0, .int .i64 0, .slice none 0 0, .slice none 0 0, .slice none 0 0, .slice none 0 0, .slice none 0 0, .slice none 0 0, .slice none 0 0, .slice none 0 0, .slice none 0 0] 40) = .cells (mc zeroM sv0).toArray 40 from rfl, ← hw2]
  clear hw2
  have hbm := build_msg
  go_wp2_with (first
    | (refine wl_store rfl _ _ _ rfl w.heap.size (mc zeroM sv0) rfl rfl _ _ hm rfl (by kernel_rfl) hz ?_; intro w3 hr3 hg3; have he3 := he.grown hg3 (fun e => by injection e with e; omega))
    | (refine wl_set rfl _ _ _ rfl (w.heap.size + 1) 0 _ rfl rfl _ _ he3 (show 0 < 1 by decide) (by kernel_rfl) rfl ?_; intro w4 hr4 hg4))
  have hm4 := hr3.out.grown hg4 (fun e => by injection e with e; omega)
  exact ⟨_, dec_results w4 _ w.heap.size (w.heap.size + 1) _ rfl _ hm4 hr4.out rfl rfl, sv0, by rw [e1, e2]; rfl, by rw [e2]; exact SOk.zero _ _ 0, Two.below hB (Two.of hg3 hg4) (Nat.le_refl _) (Nat.le_refl _) (by omega)⟩

theorem row_reader {w : World} {bv : Value} : Row (w.alloc (.cells #[bv, .int .i64 0] 75)) w.heap.size 75 [bv, .int .i64 ((0 : Nat) : Int)] := Row.new w 75 [bv, .int .i64 0]

set_option maxRecDepth 10000 in
set_option maxHeartbeats 4000000 in
theorem decode_some (w : World) (bv : Value) (l : List Int) (hb : RT Any w bv l) (hl : ¬ 1048576 < l.length) : Calls Tryz.prog 19 #[bv] w (DecPost l w) := by
  obtain ⟨ao, cap, rfl, hc⟩ := hb.form
  have hbyt := hb.1.1
  obtain ⟨w2, hw2⟩ : ∃ w2, w2 = (w.alloc (.cells (mc zeroM sv0).toArray 40)).alloc (.cells #[.int .i64 0] 24) := ⟨_, rfl⟩
  have hm : Row w2 w.heap.size 40 (mc zeroM sv0) := by rw [hw2]; exact row_alloc (Row.new w 40 (mc zeroM sv0)) _
  have he : Row w2 (w.heap.size + 1) 24 [.int .i64 0] := by
    rw [hw2]
    have := Row.new (w.alloc (.cells (mc zeroM sv0).toArray 40)) 24 [.int .i64 0]
    simpa using this
  have hB : Below w.heap.size w w2 := by rw [hw2]; exact ((Below.refl _ w).alloc (Nat.le_refl _) _).alloc (by simp) _
  have hsz : w2.heap.size = w.heap.size + 1 + 1 := by rw [hw2]; simp
  have hl' : ¬ (1048576 : Int) < (l.length : Int) := by omega
  go_enter_defers Tryz.func19, Tryz.ntmps19
  go_upto_region 1 with fail
  rw [show (Obj.cells #[Value.int .i64 0, .int .i64 0, .int .i64 0, .int .i64 0, .int .i64 0, .int .i64 0, .int .i64 0, .int .i64 0, .int .i64 0, .int .i64 0, .slice none 0 0, .slice none 0 0, .int .i64 0, .int .i64 0, .slice none 0 0, .slice none 0 0, .slice none 0 0, .slice none 0 0, .slice none 0 0, .slice none 0 0, .slice none 0 0, .slice none 0 0, .slice none 0 0] 40) = .cells (mc zeroM sv0).toArray 40 from rfl, ← hw2]
  clear hw2
  have hpe : w.heap.size ≤ w.heap.size + 1 := by omega
  have hne : w.heap.size ≠ w.heap.size + 1 := by omega
  have hper : w.heap.size + 1 ≠ w2.heap.size := by omega
  have hpew : w.heap.size + 1 < w2.heap.size + 1 := by omega
  have hnr : w2.heap.size ≠ w.heap.size := by omega
  have hlr : w.heap.size < w2.heap.size := by omega
  clear hsz
  generalize w.heap.size + 1 = pe at hpe hne hper hpew he ⊢
  go_wp2_with fail
  have hbel3 := below_alloc w2 (.cells #[.slice ao l.length cap, .int .i64 0] 75)
  have hD0 : DS w (w2.heap.size + 1) w.heap.size (w2.alloc (.cells #[.slice ao l.length cap, .int .i64 0] 75)) w2.heap.size w.heap.size (.slice ao l.length cap) l 0 zeroM :=
    ⟨below_and hB (Nat.le_refl _) hbel3, hb, hB.size, Nat.le_refl _, by omega, by omega, by omega, by simp, row_reader, ⟨sv0, row_alloc hm _, SOk.zero _ _ 0⟩, Nat.zero_le _, by omega, by simp; omega⟩
  have he3 := row_alloc he (.cells #[.slice ao l.length cap, .int .i64 0] 75)
  generalize (w2.alloc (.cells #[.slice ao l.length cap, .int .i64 0] 75)) = w3 at hD0 he3 ⊢
  have hitr : ∀ k, w2.heap.size + 1 ≤ k → k ≠ w2.heap.size := fun k hk => by omega
  have hrlo := hD0.rlo
  clear hB hbel3 hm he
  generalize w2.heap.size = r at *
  refine (rnum_any (r + 1) w3 r _ l 0 hD0.rs).mono ?_
  rintro e w4 ⟨hg4, ⟨hn, rfl⟩ | ⟨v4, k, p1, hrd, rfl, hR4, hS4⟩⟩
  · rw [List.drop_zero] at hn
    obtain ⟨s0, hm0, hs0⟩ := hD0.mrow
    have hb4 := hD0.bel.trans (grown_below hg4 hD0.bel.size (fun k hk => by cases hk; exact hD0.rlo))
    have hm4 := hm0.grown hg4 (fun e => hD0.ne (by injection e))
    have he4 := he3.grown hg4 (fun e => hper (by injection e with e; exact e.symm))
    have HN := (show Hid (rdM l = none) from rdM_kind hn)
    clear hn
    go_wp2_with fail
    exact dec_gave w w4 l w.heap.size pe _ _ _ hm4 he4 hne hb4 (Nat.le_refl _) hpe hl HN.out _ rfl rfl
  rw [List.drop_zero] at hrd
  have hR4 : v4 = .int .i64 k := hR4
  subst hR4
  have HR := (show Hid (cN.rd l = some (k, l.drop p1)) from hrd)
  clear hrd
  have hrow := hD0.mrow
  obtain ⟨s0, hm0, hs0⟩ := hrow
  have hm4 := hm0.grown hg4 (fun e => hD0.ne (by injection e))
  have he4 := he3.grown hg4 (fun e => hper (by injection e with e; exact e.symm))
  have hF := fun u => fieldsOf_any u k
  have hs4 := hs0.mv hg4.size (Mv.gl hg4 hD0.rL)
  by_cases hk : fl k = []
  · have HN := (show Hid (rdM l = none) from rdM_fl HR.out hk)
    have hse : (fsB k).toList.isEmpty = true := by rw [fsB_empty, hk]; rfl
    clear hk
    go_wp2_with (first
      | (refine wl_set rfl _ _ _ rfl w.heap.size 0 _ rfl rfl _ _ hm4 (show 0 < 23 by decide) (by kernel_rfl) rfl ?_; intro w5 hr5 hg5; have c5 := hr5.out.cell (j := 0) rfl)
      | (go_at_call 36; refine (hF _).mono ?_; rintro e w5 ⟨rfl, rfl⟩))
    have hb4 := hD0.bel.trans (grown_below hg4 hD0.bel.size (fun k hk => by cases hk; exact hD0.rlo))
    have hb5 := hb4.trans (grown_below hg5 hb4.size (fun k hk => by cases hk; exact Nat.le_refl _))
    have hm5 : Row w5 w.heap.size 40 (mc { zeroM with kind := k } s0) := hr5.out
    exact dec_gave w w5 l w.heap.size pe _ _ _ hm5 (he4.grown hg5 (fun e => hne (by injection e))) hne hb5 (Nat.le_refl _) hpe hl HN.out _ rfl rfl
  have hse : (fsB k).toList.isEmpty = false := by rw [fsB_empty]; simpa using hk
  have HK := (show Hid (fl k ≠ []) from hk)
  clear hk
  go_wp2_with (first
    | (refine wl_set rfl _ _ _ rfl w.heap.size 0 _ rfl rfl _ _ hm4 (show 0 < 23 by decide) (by kernel_rfl) rfl ?_; intro w5 hr5 hg5; have c5 := hr5.out.cell (j := 0) rfl)
    | (go_at_call 36; refine (hF _).mono ?_; rintro e w5 ⟨rfl, rfl⟩))
  have hb4 := hD0.bel.trans (grown_below hg4 hD0.bel.size (fun k hk => by cases hk; exact hD0.rlo))
  have hb5 := hb4.trans (grown_below hg5 hb4.size (fun k hk => by cases hk; exact Nat.le_refl _))
  have hm5 : Row w5 w.heap.size 40 (mc { zeroM with kind := k } s0) := hr5.out
  have he5 := he4.grown hg5 (fun e => hne (by injection e))
  have hs5 := hs4.mv hg5.size (Mv.gl hg5 hD0.pL)
  have hz5 := Nat.le_trans hg4.size hg5.size
  have hD5 : DS w (r + 1) w.heap.size w5 r w.heap.size (.slice ao l.length cap) l p1 { zeroM with kind := k } :=
    ⟨hb5, hb, hD0.rlo, Nat.le_refl _, hD0.rL, hD0.pL, hD0.ne, Nat.le_trans hD0.hL hz5, hS4.row.grown hg5 (fun e => hD0.ne (by injection e with e; exact e.symm)), ⟨s0, hm5, ⟨hs5.o, hs5.g, hs5.o', hs5.g', hs5.d, hs5.s, hs5.c, hs5.v, hs5.n, hs5.p, hs5.l⟩⟩, hS4.hp, hD0.hl, Nat.lt_of_lt_of_le hD0.itw hz5⟩
  have hD6 := hD5.turn (fsB k) rfl
  have he6 : Row (w5.iter (fsB k) 0) pe 24 _ := he5.below ((Below.refl _ w5).alloc (Nat.le_refl _) _)
  have hit0 := World.iter_heap w5 (fsB k) 0
  have nir : w5.heap.size ≠ r := hitr _ hD5.hL
  have nim : w5.heap.size ≠ w.heap.size := by have := hD5.hL; have := hD5.pL; omega
  have nie : w5.heap.size ≠ pe := by have := he5.lt; omega
  have nit0 := hb5.size
  clear hD0 hD5 hs5 hm5 he5 he4 hs4 hm4 hs0 hm0 hg4 hg5 hr5 c5 hb4 hb5 hF hS4 he3 hz5
  have HL := (show Hid ((fsB k).size = (fl k).length) from fsB_size _)
  obtain ⟨N, hN⟩ : ∃ N, N = (fl k).length := ⟨_, rfl⟩
  have HN := (show Hid (N = (fl k).length) from hN)
  clear hN
  generalize w5.heap.size = it at *
  go_loopg [] N (fun gf wx => ∃ (pos pq : Nat) (mq : PMsg), wx.heap[it]? = some (.stringIter (fsB k) pos) ∧ DS w (r + 1) it wx r w.heap.size (.slice ao l.length cap) l pq mq ∧ Row wx pe 24 [.int .i64 0] ∧
    pos + gf = N ∧ Hid (rdFs ((fl k).take pos) { zeroM with kind := k } (l.drop p1) = some (mq, l.drop pq)))
  case atStart => exact ⟨0, p1, _, hit0, hD6, he6, by omega, rfl⟩
  case round =>
    obtain ⟨pos, pq, mq, hit, hD, he, hfu, hrdq⟩ := hrel
    by_cases hps : pos < (fsB k).size
    · have hps' : pos < (fl k).length := by rw [← HL.out]; exact hps
      obtain ⟨g', rfl⟩ : ∃ g', gk = g' + 1 := ⟨gk - 1, by have := HN.out; omega⟩
      obtain ⟨i, hi⟩ : ∃ i, (fl k)[pos]? = some i := ⟨_, List.getElem?_eq_getElem hps'⟩
      have h15 : i < 15 := nice_lt (fl_nice _) i (List.mem_of_getElem? hi)
      obtain ⟨hl1, hl2⟩ := fsB_at hps hi
      have hnx : ∀ ty, (Instr.next (.pointer (some ⟨it, 0, none⟩)) true ty).run Tryz.prog wr = _ := fun ty => Lib.run_next_ascii_at wr it (fsB k) pos ty hit hps hl2
      rw [hl1] at hnx
      have hit2 := Lib.iterAt_heap wr it (fsB k) pos (pos + 1) hit
      have hD2 := hD.iter hit nit0 (pos + 1)
      have he2 := iter_low (s := fsB k) (p := pos + 1) he (fun e => nie e.symm)
      obtain ⟨W, hWd⟩ : ∃ W, wr.iterAt it (fsB k) (pos + 1) = W := ⟨_, rfl⟩
      rw [hWd] at hnx hit2 hD2 he2
      have cF' := rfield_any w (r + 1) it W r w.heap.size _ l pq mq hD2 h15
      have HI := (show Hid ((fl k)[pos]? = some i) from hi)
      clear hWd hl1 hl2 hi hps
      go_wp2_with fail
      refine cF'.mono ?_
      rintro e w7 ⟨ht7, ⟨hn7, rfl, hg7⟩ | ⟨v7, p7, hr7, rfl, hD7⟩⟩
      · have HE := (show Hid (rdM l = none) from rdM_fs HR.out (rdFs_gone HI.out hrdq.out hn7))
        obtain ⟨sx, hmx, hsx⟩ := hD2.mrow
        have hb7 := hD2.bel.trans (grown_below hg7 hD2.bel.size (fun k hk => by cases hk; exact hD2.rlo))
        have hm7 := hmx.grown hg7 (fun e => hD2.ne (by injection e))
        have he7 := he2.grown hg7 (fun e => hper (by injection e with e; exact e.symm))
        clear hn7
        go_wp2_with fail
        exact dec_gave w w7 l w.heap.size pe _ _ _ hm7 he7 hne hb7 (Nat.le_refl _) hpe hl HE.out _ rfl rfl
      · have H7 := (show Hid (rdFs ((fl k).take (pos + 1)) { zeroM with kind := k } (l.drop p1) = some (set mq i v7, l.drop p7)) from rdFs_take HI.out hrdq.out hr7)
        have hit7 := two_iter ht7 hit2 nir nim
        have he7 := he2.two ht7 hper (fun e => hne e.symm)
        clear hr7
        go_wp2_with fail
        go_roundg g'
        case measure => omega
        case rel => exact ⟨pos + 1, p7, _, hit7, hD7, he7, by omega, H7⟩
    · have hnx : ∀ ty, (Instr.next (.pointer (some ⟨it, 0, none⟩)) true ty).run Tryz.prog wr = _ := fun ty => Lib.run_next_end_at wr it (fsB k) pos ty hit hps
      have hpl : (fl k).length ≤ pos := by rw [← HL.out]; omega
      have hrd := hrdq.out
      rw [List.take_of_length_le hpl] at hrd
      have HRD := (show Hid (rdFs (fl k) { zeroM with kind := k } (l.drop p1) = some (mq, l.drop pq)) from hrd)
      obtain ⟨sx, hmx, hsx⟩ := hD.mrow
      have hE := rend_any (r + 1) wr r _ l pq hD.rs
      have hhp := hD.hp
      clear hrd hpl hps hrdq
      go_wp2_with fail
      refine hE.mono ?_
      rintro e w8 ⟨hg8, ⟨hpq, rfl⟩ | ⟨hpq, rfl⟩⟩
      · have hb8 := hD.bel.trans (grown_below hg8 hD.bel.size (fun k hk => by cases hk))
        have hm8 := hmx.grown hg8 (fun e => by cases e)
        have he8 := he.grown hg8 (fun e => by cases e)
        have hs8 := hsx.mv hg8.size fun k hk hlt => ⟨hg8.block k hlt (fun e => by cases e), hk⟩
        have HM := (show Hid (rdM l = some mq) from rdM_whole HR.out HK.out (by rw [HRD.out, hpq, List.drop_length]))
        have hone := hs8.one
        clear hpq
        go_wp2_with (first
          | (refine wl_load rfl _ _ rfl w.heap.size rfl _ _ hm8 _ Tryz.underlying40 rfl (by kernel_rfl) ?_)
          | (refine wl_store rfl _ _ _ rfl w.heap.size (mc mq sx) rfl rfl _ _ hm8 rfl (by kernel_rfl) hone ?_; intro w9 hr9 hg9; have he9 := he8.grown hg9 (fun e => hne (by injection e)))
          | (refine wl_set rfl _ _ _ rfl pe 0 _ rfl rfl _ _ he9 (show 0 < 1 by decide) (by kernel_rfl) rfl ?_; intro w10 hr10 hg10))
        have hm10 := hr9.out.grown hg10 (fun e => hne (by injection e with e; exact e.symm))
        have hB10 := Two.below hb8 (Two.of hg9 hg10) (Nat.le_refl _) (Nat.le_refl _) hpe
        have hs9 := hs8.mv hg9.size (Mv.gl hg9 hD.pL)
        have hs10 := hs9.mv hg10.size (Mv.gl (L := r + 1) hg10 hpew)
        exact dec_back w w10 l w.heap.size pe mq sx hm10 hr10.out hB10 hl HM.out (hs10.mv (Nat.le_refl _) fun k hk _ => ⟨rfl, by have := hk.1; unfold From; omega⟩) _ rfl rfl
      · have hb8 := hD.bel.trans (grown_below hg8 hD.bel.size (fun k hk => by cases hk))
        have hm8 := hmx.grown hg8 (fun e => by cases e)
        have he8 := he.grown hg8 (fun e => by cases e)
        have HM := (show Hid (rdM l = none) from rdM_trail HR.out HRD.out (fun e => by have := congrArg List.length e; rw [List.length_drop] at this; simp at this; omega))
        clear hpq
        go_wp2_with fail
        exact dec_gave w w8 l w.heap.size pe _ _ _ hm8 he8 hne hb8 (Nat.le_refl _) hpe hl HM.out _ rfl rfl
/-- Decode. -/
theorem decode_any (w : World) (bv : Value) (l : List Int) (hb : RT Any w bv l) : Calls Tryz.prog 19 #[bv] w (DecPost l w) := by
  by_cases hl : 1048576 < l.length
  · exact decode_many w bv l hb hl
  · exact decode_some w bv l hb hl
#print axioms decode_any
end Go.Proofs.YtgjepofinpmcpaaGreatDoor
end

section
set_option linter.unusedVariables false
namespace Go.Proofs.YtgjepofinpmcpaaGreatDoor
open Go.RowKit Oct

theorem le8_at' (u : Int) (k : Nat) (hk : k < 8) : u / 256 ^ k % 256 = (le8 u).getD k 0 := by
  have := le8_at u k hk (8 * k) rfl
  rw [← this, Int.pow_mul]
  rfl
theorem u64_bd (n : Int) : 0 ≤ u64 n ∧ u64 n < 18446744073709551616 := by unfold u64; omega
theorem div_step (u : Int) (j : Nat) : u / 256 ^ j / 256 = u / 256 ^ (j + 1) := by
  rw [Int.pow_succ, Int.ediv_ediv_of_nonneg (by exact Int.le_of_lt (Int.pow_pos (by decide)))]
theorem div_bd {u : Int} (h0 : 0 ≤ u) (h1 : u < 18446744073709551616) (j : Nat) : 0 ≤ u / 256 ^ j ∧ u / 256 ^ j < 18446744073709551616 :=
  ⟨Int.ediv_nonneg h0 (Int.le_of_lt (Int.pow_pos (by decide))), Int.lt_of_le_of_lt (Int.ediv_le_self _ h0) h1⟩
theorem wrap_u64 (n : Int) : IntKind.u64.wrap n = u64 n := rfl

theorem idx0 (a b : Int) (w : World) : (Instr.index 97 (.agg #[.int .u64 a, .int .u64 b]) (.int .i64 0)).run Tryz.prog w = .ok (.int .u64 a) w := by kernel_rfl
theorem idx1 (a b : Int) (w : World) : (Instr.index 97 (.agg #[.int .u64 a, .int .u64 b]) (.int .i64 1)).run Tryz.prog w = .ok (.int .u64 b) w := by kernel_rfl
set_option maxRecDepth 10000 in
set_option maxHeartbeats 2000000 in
/-- The document's Body. -/
theorem refBody_any (w : World) (r : List Value) (x : PReq) (h : RReq Any w r x) (hz : tot [x.2.2.1, x.2.2.2] ≤ 10000000) :
    Calls Tryz.prog 26 #[.agg r.toArray] w fun e w' => ∃ v', e = .returned v' ∧ Own w' 5 v' (bc (body x)) ∧ Fr w.heap.size v' ∧ Below w.heap.size w w' := by
  obtain ⟨vo, vg, rfl, ho, hg⟩ := h
  obtain ⟨w2, hw2⟩ : ∃ w2, w2 = (w.alloc (.cells #[.int .i64 x.1, .int .i64 x.2.1, vo, vg] 34)) := ⟨_, rfl⟩
  have ra : Row w2 w.heap.size 34 [.int .i64 x.1, .int .i64 x.2.1, vo, vg] := by rw [hw2]; exact Row.new w 34 _
  have hB : Below w.heap.size w w2 := by rw [hw2]; exact ((Below.refl _ w).alloc (Nat.le_refl _) _)
  go_enter Tryz.func26, Tryz.ntmps26
  go_upto_region 1 with fail
  rw [← hw2]
  clear hw2
  have a0 := (row_alloc ra (.cells #[] 5)).cell (j := 0) rfl
  have a1 := (row_alloc ra (.cells #[] 5)).cell (j := 1) rfl
  go_wp2_with fail
  rw [wrap_u64, wrap_u64]
  have hstart : Own (w2.alloc (.cells #[] 5)) 5 (.slice (some ⟨w2.heap.size, 0, none⟩) 0 0) (bc []) := own_zero w2 5
  have hB0 : Below w2.heap.size w2 (w2.alloc (.cells #[] 5)) := below_alloc _ _
  have hF0 : Fr w2.heap.size (.slice (some ⟨w2.heap.size, 0, none⟩) 0 0) := fun k hk => by simp [Value.ownBlock] at hk; omega
  have HZ := (show Hid (x.2.2.1.length ≤ 10000000 ∧ x.2.2.2.length ≤ 10000000) by show _ ∧ _; simp only [tot] at hz; omega)
  have HS := (show Hid (∀ wr, Below w2.heap.size w2 wr → wr.cell? ⟨w.heap.size, 2, none⟩ = some vo ∧ wr.cell? ⟨w.heap.size, 3, none⟩ = some vg ∧ Rd wr vo x.2.2.1 ∧ Rd wr vg x.2.2.2) from fun wr hb =>
    ⟨(ra.below hb).cell (j := 2) rfl, (ra.below hb).cell (j := 3) rfl, (ho.mv (Mv.below (below_and hB (Nat.le_refl _) hb))).1, (hg.mv (Mv.below (below_and hB (Nat.le_refl _) hb))).1⟩)
  clear ra ho hg
  generalize w2.alloc (.cells #[] 5) = w3 at *
  go_loopw [3, 15] (fun o i wr => ∃ k : Int, k ≤ 2 ∧ i = .int .i64 k ∧ ((k = 0 ∧ Own wr 5 o (bc [])) ∨ (k = 1 ∧ Own wr 5 o (bc ([] ++ le8 (u64 x.1)))) ∨ (k = 2 ∧ Own wr 5 o (bc (le8 (u64 x.1) ++ le8 (u64 x.2.1))))) ∧ Fr w2.heap.size o ∧ Below w2.heap.size w2 wr) (fun _ i _ => (2 - intOf i).toNat)
  case atStart => exact ⟨0, by omega, rfl, .inl ⟨rfl, hstart⟩, hF0, hB0⟩
  case round =>
    clear hstart hF0 hB0 a0 a1
    obtain ⟨k, hk, rfl, hcase, hfk, hbk⟩ := hrel
    rcases hcase with ⟨rfl, hok⟩ | ⟨rfl, hok⟩ | ⟨rfl, hok⟩
    · have hub := u64_bd x.1
      have hix := idx0 (u64 x.1) (u64 x.2.1) wr
      have HD := (show Hid (([] : List Int).length ≤ 8) from Nat.zero_le 8)
      go_wp2_with fail
      go_loopw [3, 5, 6] (fun o n i wr => ∃ (j : Nat) (q : Int), j ≤ 8 ∧ i = .int .i64 j ∧ n = .int .u64 q ∧ Hid (q = u64 x.1 / 256 ^ j) ∧ Own wr 5 o (bc ([] ++ (le8 (u64 x.1)).take j)) ∧ Fr w2.heap.size o ∧ Below w2.heap.size w2 wr) (fun _ _ i _ => (8 - intOf i).toNat)
      case atStart => exact ⟨0, u64 x.1, by omega, rfl, rfl, by show _ = _; simp, by rw [List.take_zero, List.append_nil]; exact hok, hfk, hbk⟩
      case round =>
        clear hok hfk hbk hix
        obtain ⟨j, q, hj, rfl, rfl, HQ, hok, hfk, hbk⟩ := hrel
        by_cases hj8 : j < 8
        · have hq := div_bd hub.1 hub.2 j
          rw [← HQ.out] at hq
          obtain ⟨hq0, hq1⟩ := hq
          have hq2 : 0 ≤ q % 256 ∧ q % 256 ≤ 255 := by omega
          have hq3 : 0 ≤ q / 256 ∧ q / 256 < 18446744073709551616 := by omega
          have HX := (show Hid ([] ++ (le8 (u64 x.1)).take (j + 1) = ([] ++ (le8 (u64 x.1)).take j) ++ [q % 256]) by
            show _ = _
            rw [HQ.out, le8_at' _ _ hj8]
            exact le8_take _ _ _ hj8)
          have HN := (show Hid (q / 256 = u64 x.1 / 256 ^ (j + 1)) by show _ = _; rw [HQ.out, div_step])
          have HT := (show Hid (([] ++ (le8 (u64 x.1)).take j).length ≤ 1000) by
            show _ ≤ _
            have := HD.out
            rw [List.length_append, List.length_take, le8_len]
            omega)
          clear HQ
          go_wp2_with (at_builtin; refine app_bytes rfl _ _ rfl _ ([] ++ (le8 (u64 x.1)).take j) rfl (World.ownsRow.alloc hok _) _ [q % 256] rfl (rdv_one wr _ _) (by have := HT.out; simp only [List.length_cons, List.length_nil]; omega) ?_; intro o4 w4 happ4)
          have hp4 := happ4.pre (below_alloc wr _)
          rw [← HX.out] at hp4
          have hf4 := hp4.fr hfk hbk.size
          have hb4 := hbk.trans (hp4.below hfk hbk.size)
          have hgo := hp4.own
          clear hp4 happ4 hok hfk hbk
          go_roundw
          case rel => exact ⟨j + 1, q / 256, by omega, by go_num, by rfl, HN, hgo, hf4, hb4⟩
          case measure => simp [intOf]; omega
        · rw [List.take_of_length_le (by rw [le8_len]; omega)] at hok
          clear HQ
          go_wp2_with fail
          go_roundw
          case rel => exact ⟨1, by omega, by go_num, .inr (.inl ⟨rfl, hok⟩), hfk, hbk⟩
          case measure => simp [intOf]
    · rw [List.nil_append] at hok
      have hub := u64_bd x.2.1
      have hix := idx1 (u64 x.1) (u64 x.2.1) wr
      have HD := (show Hid ((le8 (u64 x.1)).length ≤ 8) from Nat.le_refl 8)
      go_wp2_with fail
      go_loopw [3, 5, 6] (fun o n i wr => ∃ (j : Nat) (q : Int), j ≤ 8 ∧ i = .int .i64 j ∧ n = .int .u64 q ∧ Hid (q = u64 x.2.1 / 256 ^ j) ∧ Own wr 5 o (bc (le8 (u64 x.1) ++ (le8 (u64 x.2.1)).take j)) ∧ Fr w2.heap.size o ∧ Below w2.heap.size w2 wr) (fun _ _ i _ => (8 - intOf i).toNat)
      case atStart => exact ⟨0, u64 x.2.1, by omega, rfl, rfl, by show _ = _; simp, by rw [List.take_zero, List.append_nil]; exact hok, hfk, hbk⟩
      case round =>
        clear hok hfk hbk hix
        obtain ⟨j, q, hj, rfl, rfl, HQ, hok, hfk, hbk⟩ := hrel
        by_cases hj8 : j < 8
        · have hq := div_bd hub.1 hub.2 j
          rw [← HQ.out] at hq
          obtain ⟨hq0, hq1⟩ := hq
          have hq2 : 0 ≤ q % 256 ∧ q % 256 ≤ 255 := by omega
          have hq3 : 0 ≤ q / 256 ∧ q / 256 < 18446744073709551616 := by omega
          have HX := (show Hid (le8 (u64 x.1) ++ (le8 (u64 x.2.1)).take (j + 1) = (le8 (u64 x.1) ++ (le8 (u64 x.2.1)).take j) ++ [q % 256]) by
            show _ = _
            rw [HQ.out, le8_at' _ _ hj8]
            exact le8_take _ _ _ hj8)
          have HN := (show Hid (q / 256 = u64 x.2.1 / 256 ^ (j + 1)) by show _ = _; rw [HQ.out, div_step])
          have HT := (show Hid ((le8 (u64 x.1) ++ (le8 (u64 x.2.1)).take j).length ≤ 1000) by
            show _ ≤ _
            have := HD.out
            rw [List.length_append, List.length_take, le8_len]
            omega)
          clear HQ
          go_wp2_with (at_builtin; refine app_bytes rfl _ _ rfl _ (le8 (u64 x.1) ++ (le8 (u64 x.2.1)).take j) rfl (World.ownsRow.alloc hok _) _ [q % 256] rfl (rdv_one wr _ _) (by have := HT.out; simp only [List.length_cons, List.length_nil]; omega) ?_; intro o4 w4 happ4)
          have hp4 := happ4.pre (below_alloc wr _)
          rw [← HX.out] at hp4
          have hf4 := hp4.fr hfk hbk.size
          have hb4 := hbk.trans (hp4.below hfk hbk.size)
          have hgo := hp4.own
          clear hp4 happ4 hok hfk hbk
          go_roundw
          case rel => exact ⟨j + 1, q / 256, by omega, by go_num, by rfl, HN, hgo, hf4, hb4⟩
          case measure => simp [intOf]; omega
        · rw [List.take_of_length_le (by rw [le8_len]; omega)] at hok
          clear HQ
          go_wp2_with fail
          go_roundw
          case rel => exact ⟨2, by omega, by go_num, .inr (.inr ⟨rfl, hok⟩), hfk, hbk⟩
          case measure => simp [intOf]
    · have ho5 := HS.out wr hbk
      obtain ⟨c2, c3, ho5, hg5⟩ := ho5
      have hbO := refBytes_any wr vo _ ho5 (by have := HZ.out; omega)
      have HG := (show Hid (∀ w', Below w2.heap.size w2 w' → Calls Tryz.prog 51 #[vg] w' fun e w'' => ∃ v', e = .returned v' ∧ Own w'' 5 v' (bc (enc x.2.2.2.length ++ x.2.2.2)) ∧ Fr w'.heap.size v' ∧ Below w'.heap.size w' w'') from
        fun w' hb' => refBytes_any w' vg _ (HS.out w' hb').2.2.2 (by have := HZ.out; omega))
      have HLL := (show Hid ((le8 (u64 x.1) ++ le8 (u64 x.2.1)).length ≤ 16) from Nat.le_refl 16)
      have HBD := (show Hid (body x = ((le8 (u64 x.1) ++ le8 (u64 x.2.1)) ++ (enc x.2.2.1.length ++ x.2.2.1)) ++ (enc x.2.2.2.length ++ x.2.2.2)) by show _ = _; simp [body, packL])
      generalize le8 (u64 x.1) ++ le8 (u64 x.2.1) = L at *
      have hl1 := enc_len (x.2.2.1.length : Int)
      have hl2 := enc_len (x.2.2.2.length : Int)
      have HL1 := (show Hid (L.length + (enc x.2.2.1.length ++ x.2.2.1).length ≤ 20000000) by show _ ≤ _; have := HLL.out; have := HZ.out; rw [List.length_append]; omega)
      have HL2 := (show Hid ((L ++ (enc x.2.2.1.length ++ x.2.2.1)).length + (enc x.2.2.2.length ++ x.2.2.2).length ≤ 40000000) by show _ ≤ _; have := HLL.out; have := HZ.out; rw [List.length_append, List.length_append, List.length_append]; omega)
      clear hl1 hl2
      generalize enc x.2.2.1.length ++ x.2.2.1 = t1 at *
      generalize enc x.2.2.2.length ++ x.2.2.2 = t2 at *
      have HO := (show Hid (∀ _ : Unit, _) from fun _ => hbO)
      clear hbO ho5 hg5 c3
      go_wp2_with fail
      refine (HO.out ()).mono ?_
      rintro e w5 ⟨v5, rfl, hown5, hfr5, hb5⟩
      have hok5 := hok.below hb5
      have hrd5 := hown5.rdv
      have hBk5 := below_and hbk (Nat.le_refl _) hb5
      clear c2 hok hown5 hfr5 hb5 HO hbk
      go_wp2_with (first
        | (at_builtin; refine app_bytes rfl _ _ rfl _ L rfl hok5 v5 t1 rfl hrd5 (Nat.le_trans HL1.out (by decide)) ?_; intro v6 w6 happ6; have hB6 := hBk5.trans (happ6.below hfk hBk5.size); have hf6 := happ6.fr hfk hBk5.size; have hok6 := happ6.own; have c3 := (HS.out w6 hB6).2.1))
      refine (HG.out w6 hB6).mono ?_
      rintro e w7 ⟨v7, rfl, hown7, hfr7, hb7⟩
      have hok7 := hok6.below hb7
      have hrd7 := hown7.rdv
      have hB7 := below_and hB6 (Nat.le_refl _) hb7
      clear c3 hok6 hown7 hfr7 hb7 HG hok5 hrd5 happ6
      go_wp2_with (at_builtin; refine app_bytes rfl _ _ rfl v6 (L ++ t1) rfl hok7 v7 t2 rfl hrd7 (Nat.le_trans HL2.out (by decide)) ?_; intro v8 w8 happ8)
      have hf8 := happ8.fr hf6 hB7.size
      have hB8 := hB7.trans (happ8.below hf6 hB7.size)
      go_ret
      refine ⟨_, rfl, ?_, hf8.mono hB.size, below_and hB (Nat.le_refl _) hB8⟩
      rw [HBD.out]
      exact happ8.own
end Go.Proofs.YtgjepofinpmcpaaGreatDoor
end
