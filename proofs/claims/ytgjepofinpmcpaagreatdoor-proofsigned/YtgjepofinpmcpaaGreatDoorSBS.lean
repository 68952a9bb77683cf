/- The walks over package msg: Decode, whole. -/
import Derived.Test.YtgjepofinpmcpaaGreatDoorSBQ
set_option linter.unusedVariables false
namespace Go.Proofs.YtgjepofinpmcpaaGreatDoor
open Go.RowKit Oct
set_option maxRecDepth 10000 in
set_option maxHeartbeats 2000000 in
theorem decode_many (w : World) (bv : Value) (l : List Int) (hb : RT Any w bv l) (hl : 1048576 < l.length) : Calls Tryz.prog 19 #[bv] w (DecPost l w) := by
  obtain ⟨ao, cap, rfl, hc⟩ := hb.form
  obtain ⟨w2, hw2⟩ : ∃ w2, w2 = (w.alloc (.cells (mc zeroM sv0).toArray 40)).alloc (.cells #[.int .i64 0] 24) := ⟨_, rfl⟩
  have hm : Row w2 w.heap.size 40 (mc zeroM sv0) := by rw [hw2]; exact row_alloc (Row.new w 40 (mc zeroM sv0)) _
  have he : Row w2 (w.heap.size + 1) 24 [.int .i64 0] := by
    rw [hw2]
    have := Row.new (w.alloc (.cells (mc zeroM sv0).toArray 40)) 24 [.int .i64 0]
    simpa using this
  have hB : Below w.heap.size w w2 := by rw [hw2]; exact ((Below.refl _ w).alloc (Nat.le_refl _) _).alloc (by simp) _
  obtain ⟨e1, e2⟩ := decE_many hl
  have hz := (SOk.zero Any w 0).one
  have hl' : (1048576 : Int) < (l.length : Int) := by omega
  go_enter_defers Tryz.func19, Tryz.ntmps19
  go_upto_region 1 with fail
  rw [show (Obj.cells #[Value.int .i64 0, .int .i64 0, .int .i64 0, .int .i64 0, .int .i64 0, .int .i64 0, .int .i64 0, .int .i64 0, .int .i64 0, .int .i64 0, .slice none 0 0, .slice none 0 0, .int .i64 0, .int .i64 0, .slice none 0 0, .slice none 0 0, .slice none 0 0, .slice none 0 0, .slice none 0 0, .slice none 0 0, .slice none 0 0, .slice none 0 0, .slice none 0 0] 40) = .cells (mc zeroM sv0).toArray 40 from rfl, ← hw2]
  clear hw2
  have hbm := build_msg
  go_wp2_with (first
    | (refine wl_store rfl _ _ _ rfl w.heap.size (mc zeroM sv0) rfl rfl _ _ hm rfl (by kernel_rfl) hz ?_; intro w3 hr3 hg3; have he3 := he.grown hg3 (fun e => by injection e with e; omega))
    | (refine wl_set rfl _ _ _ rfl (w.heap.size + 1) 0 _ rfl rfl _ _ he3 (show 0 < 1 by decide) (by kernel_rfl) rfl ?_; intro w4 hr4 hg4))
  have hm4 := hr3.out.grown hg4 (fun e => by injection e with e; omega)
  exact ⟨_, dec_results w4 _ w.heap.size (w.heap.size + 1) _ rfl _ hm4 hr4.out rfl rfl, sv0, by rw [e1, e2]; rfl, by rw [e2]; exact SOk.zero _ _ 0, Two.below hB (Two.of hg3 hg4) (Nat.le_refl _) (Nat.le_refl _) (by omega)⟩
theorem row_reader {w : World} {bv : Value} : Row (w.alloc (.cells #[bv, .int .i64 0] 75)) w.heap.size 75 [bv, .int .i64 ((0 : Nat) : Int)] := Row.new w 75 [bv, .int .i64 0]
set_option maxRecDepth 10000 in
set_option maxHeartbeats 4000000 in
theorem decode_some (w : World) (bv : Value) (l : List Int) (hb : RT Any w bv l) (hl : ¬ 1048576 < l.length) : Calls Tryz.prog 19 #[bv] w (DecPost l w) := by
  obtain ⟨ao, cap, rfl, hc⟩ := hb.form
  have hbyt := hb.1.1
  obtain ⟨w2, hw2⟩ : ∃ w2, w2 = (w.alloc (.cells (mc zeroM sv0).toArray 40)).alloc (.cells #[.int .i64 0] 24) := ⟨_, rfl⟩
  have hm : Row w2 w.heap.size 40 (mc zeroM sv0) := by rw [hw2]; exact row_alloc (Row.new w 40 (mc zeroM sv0)) _
  have he : Row w2 (w.heap.size + 1) 24 [.int .i64 0] := by
    rw [hw2]
    have := Row.new (w.alloc (.cells (mc zeroM sv0).toArray 40)) 24 [.int .i64 0]
    simpa using this
  have hB : Below w.heap.size w w2 := by rw [hw2]; exact ((Below.refl _ w).alloc (Nat.le_refl _) _).alloc (by simp) _
  have hsz : w2.heap.size = w.heap.size + 1 + 1 := by rw [hw2]; simp
  have hl' : ¬ (1048576 : Int) < (l.length : Int) := by omega
  go_enter_defers Tryz.func19, Tryz.ntmps19
  go_upto_region 1 with fail
  rw [show (Obj.cells #[Value.int .i64 0, .int .i64 0, .int .i64 0, .int .i64 0, .int .i64 0, .int .i64 0, .int .i64 0, .int .i64 0, .int .i64 0, .int .i64 0, .slice none 0 0, .slice none 0 0, .int .i64 0, .int .i64 0, .slice none 0 0, .slice none 0 0, .slice none 0 0, .slice none 0 0, .slice none 0 0, .slice none 0 0, .slice none 0 0, .slice none 0 0, .slice none 0 0] 40) = .cells (mc zeroM sv0).toArray 40 from rfl, ← hw2]
  clear hw2
  have hpe : w.heap.size ≤ w.heap.size + 1 := by omega
  have hne : w.heap.size ≠ w.heap.size + 1 := by omega
  have hper : w.heap.size + 1 ≠ w2.heap.size := by omega
  have hpew : w.heap.size + 1 < w2.heap.size + 1 := by omega
  have hnr : w2.heap.size ≠ w.heap.size := by omega
  have hlr : w.heap.size < w2.heap.size := by omega
  clear hsz
  generalize w.heap.size + 1 = pe at hpe hne hper hpew he ⊢
  go_wp2_with fail
  have hbel3 := below_alloc w2 (.cells #[.slice ao l.length cap, .int .i64 0] 75)
  have hD0 : DS w (w2.heap.size + 1) w.heap.size (w2.alloc (.cells #[.slice ao l.length cap, .int .i64 0] 75)) w2.heap.size w.heap.size (.slice ao l.length cap) l 0 zeroM :=
    ⟨below_and hB (Nat.le_refl _) hbel3, hb, hB.size, Nat.le_refl _, by omega, by omega, by omega, by simp, row_reader, ⟨sv0, row_alloc hm _, SOk.zero _ _ 0⟩, Nat.zero_le _, by omega, by simp; omega⟩
  have he3 := row_alloc he (.cells #[.slice ao l.length cap, .int .i64 0] 75)
  generalize (w2.alloc (.cells #[.slice ao l.length cap, .int .i64 0] 75)) = w3 at hD0 he3 ⊢
  have hitr : ∀ k, w2.heap.size + 1 ≤ k → k ≠ w2.heap.size := fun k hk => by omega
  have hrlo := hD0.rlo
  clear hB hbel3 hm he
  generalize w2.heap.size = r at *
  refine (rnum_any (r + 1) w3 r _ l 0 hD0.rs).mono ?_
  rintro e w4 ⟨hg4, ⟨hn, rfl⟩ | ⟨v4, k, p1, hrd, rfl, hR4, hS4⟩⟩
  · rw [List.drop_zero] at hn
    obtain ⟨s0, hm0, hs0⟩ := hD0.mrow
    have hb4 := hD0.bel.trans (grown_below hg4 hD0.bel.size (fun k hk => by cases hk; exact hD0.rlo))
    have hm4 := hm0.grown hg4 (fun e => hD0.ne (by injection e))
    have he4 := he3.grown hg4 (fun e => hper (by injection e with e; exact e.symm))
    have HN := (show Hid (rdM l = none) from rdM_kind hn)
    clear hn
    go_wp2_with fail
    exact dec_gave w w4 l w.heap.size pe _ _ _ hm4 he4 hne hb4 (Nat.le_refl _) hpe hl HN.out _ rfl rfl
  rw [List.drop_zero] at hrd
  have hR4 : v4 = .int .i64 k := hR4
  subst hR4
  have HR := (show Hid (cN.rd l = some (k, l.drop p1)) from hrd)
  clear hrd
  have hrow := hD0.mrow
  obtain ⟨s0, hm0, hs0⟩ := hrow
  have hm4 := hm0.grown hg4 (fun e => hD0.ne (by injection e))
  have he4 := he3.grown hg4 (fun e => hper (by injection e with e; exact e.symm))
  have hF := fun u => fieldsOf_any u k
  have hs4 := hs0.mv hg4.size (Mv.gl hg4 hD0.rL)
  by_cases hk : fl k = []
  · have HN := (show Hid (rdM l = none) from rdM_fl HR.out hk)
    have hse : (fsB k).toList.isEmpty = true := by rw [fsB_empty, hk]; rfl
    clear hk
    go_wp2_with (first
      | (refine wl_set rfl _ _ _ rfl w.heap.size 0 _ rfl rfl _ _ hm4 (show 0 < 23 by decide) (by kernel_rfl) rfl ?_; intro w5 hr5 hg5; have c5 := hr5.out.cell (j := 0) rfl)
      | (go_at_call 36; refine (hF _).mono ?_; rintro e w5 ⟨rfl, rfl⟩))
    have hb4 := hD0.bel.trans (grown_below hg4 hD0.bel.size (fun k hk => by cases hk; exact hD0.rlo))
    have hb5 := hb4.trans (grown_below hg5 hb4.size (fun k hk => by cases hk; exact Nat.le_refl _))
    have hm5 : Row w5 w.heap.size 40 (mc { zeroM with kind := k } s0) := hr5.out
    exact dec_gave w w5 l w.heap.size pe _ _ _ hm5 (he4.grown hg5 (fun e => hne (by injection e))) hne hb5 (Nat.le_refl _) hpe hl HN.out _ rfl rfl
  have hse : (fsB k).toList.isEmpty = false := by rw [fsB_empty]; simpa using hk
  have HK := (show Hid (fl k ≠ []) from hk)
  clear hk
  go_wp2_with (first
    | (refine wl_set rfl _ _ _ rfl w.heap.size 0 _ rfl rfl _ _ hm4 (show 0 < 23 by decide) (by kernel_rfl) rfl ?_; intro w5 hr5 hg5; have c5 := hr5.out.cell (j := 0) rfl)
    | (go_at_call 36; refine (hF _).mono ?_; rintro e w5 ⟨rfl, rfl⟩))
  have hb4 := hD0.bel.trans (grown_below hg4 hD0.bel.size (fun k hk => by cases hk; exact hD0.rlo))
  have hb5 := hb4.trans (grown_below hg5 hb4.size (fun k hk => by cases hk; exact Nat.le_refl _))
  have hm5 : Row w5 w.heap.size 40 (mc { zeroM with kind := k } s0) := hr5.out
  have he5 := he4.grown hg5 (fun e => hne (by injection e))
  have hs5 := hs4.mv hg5.size (Mv.gl hg5 hD0.pL)
  have hz5 := Nat.le_trans hg4.size hg5.size
  have hD5 : DS w (r + 1) w.heap.size w5 r w.heap.size (.slice ao l.length cap) l p1 { zeroM with kind := k } :=
    ⟨hb5, hb, hD0.rlo, Nat.le_refl _, hD0.rL, hD0.pL, hD0.ne, Nat.le_trans hD0.hL hz5, hS4.row.grown hg5 (fun e => hD0.ne (by injection e with e; exact e.symm)), ⟨s0, hm5, ⟨hs5.o, hs5.g, hs5.o', hs5.g', hs5.d, hs5.s, hs5.c, hs5.v, hs5.n, hs5.p, hs5.l⟩⟩, hS4.hp, hD0.hl, Nat.lt_of_lt_of_le hD0.itw hz5⟩
  have hD6 := hD5.turn (fsB k) rfl
  have he6 : Row (w5.iter (fsB k) 0) pe 24 _ := he5.below ((Below.refl _ w5).alloc (Nat.le_refl _) _)
  have hit0 := World.iter_heap w5 (fsB k) 0
  have nir : w5.heap.size ≠ r := hitr _ hD5.hL
  have nim : w5.heap.size ≠ w.heap.size := by have := hD5.hL; have := hD5.pL; omega
  have nie : w5.heap.size ≠ pe := by have := he5.lt; omega
  have nit0 := hb5.size
  clear hD0 hD5 hs5 hm5 he5 he4 hs4 hm4 hs0 hm0 hg4 hg5 hr5 c5 hb4 hb5 hF hS4 he3 hz5
  have HL := (show Hid ((fsB k).size = (fl k).length) from fsB_size _)
  obtain ⟨N, hN⟩ : ∃ N, N = (fl k).length := ⟨_, rfl⟩
  have HN := (show Hid (N = (fl k).length) from hN)
  clear hN
  generalize w5.heap.size = it at *
  go_loopg [] N (fun gf wx => ∃ (pos pq : Nat) (mq : PMsg), wx.heap[it]? = some (.stringIter (fsB k) pos) ∧ DS w (r + 1) it wx r w.heap.size (.slice ao l.length cap) l pq mq ∧ Row wx pe 24 [.int .i64 0] ∧
    pos + gf = N ∧ Hid (rdFs ((fl k).take pos) { zeroM with kind := k } (l.drop p1) = some (mq, l.drop pq)))
  case atStart => exact ⟨0, p1, _, hit0, hD6, he6, by omega, rfl⟩
  case round =>
    obtain ⟨pos, pq, mq, hit, hD, he, hfu, hrdq⟩ := hrel
    by_cases hps : pos < (fsB k).size
    · have hps' : pos < (fl k).length := by rw [← HL.out]; exact hps
      obtain ⟨g', rfl⟩ : ∃ g', gk = g' + 1 := ⟨gk - 1, by have := HN.out; omega⟩
      obtain ⟨i, hi⟩ : ∃ i, (fl k)[pos]? = some i := ⟨_, List.getElem?_eq_getElem hps'⟩
      have h15 : i < 15 := nice_lt (fl_nice _) i (List.mem_of_getElem? hi)
      obtain ⟨hl1, hl2⟩ := fsB_at hps hi
      have hnx : ∀ ty, (Instr.next (.pointer (some ⟨it, 0, none⟩)) true ty).run Tryz.prog wr = _ := fun ty => Lib.run_next_ascii_at wr it (fsB k) pos ty hit hps hl2
      rw [hl1] at hnx
      have hit2 := Lib.iterAt_heap wr it (fsB k) pos (pos + 1) hit
      have hD2 := hD.iter hit nit0 (pos + 1)
      have he2 := iter_low (s := fsB k) (p := pos + 1) he (fun e => nie e.symm)
      obtain ⟨W, hWd⟩ : ∃ W, wr.iterAt it (fsB k) (pos + 1) = W := ⟨_, rfl⟩
      rw [hWd] at hnx hit2 hD2 he2
      have cF' := rfield_any w (r + 1) it W r w.heap.size _ l pq mq hD2 h15
      have HI := (show Hid ((fl k)[pos]? = some i) from hi)
      clear hWd hl1 hl2 hi hps
      go_wp2_with fail
      refine cF'.mono ?_
      rintro e w7 ⟨ht7, ⟨hn7, rfl, hg7⟩ | ⟨v7, p7, hr7, rfl, hD7⟩⟩
      · have HE := (show Hid (rdM l = none) from rdM_fs HR.out (rdFs_gone HI.out hrdq.out hn7))
        obtain ⟨sx, hmx, hsx⟩ := hD2.mrow
        have hb7 := hD2.bel.trans (grown_below hg7 hD2.bel.size (fun k hk => by cases hk; exact hD2.rlo))
        have hm7 := hmx.grown hg7 (fun e => hD2.ne (by injection e))
        have he7 := he2.grown hg7 (fun e => hper (by injection e with e; exact e.symm))
        clear hn7
        go_wp2_with fail
        exact dec_gave w w7 l w.heap.size pe _ _ _ hm7 he7 hne hb7 (Nat.le_refl _) hpe hl HE.out _ rfl rfl
      · have H7 := (show Hid (rdFs ((fl k).take (pos + 1)) { zeroM with kind := k } (l.drop p1) = some (set mq i v7, l.drop p7)) from rdFs_take HI.out hrdq.out hr7)
        have hit7 := two_iter ht7 hit2 nir nim
        have he7 := he2.two ht7 hper (fun e => hne e.symm)
        clear hr7
        go_wp2_with fail
        go_roundg g'
        case measure => omega
        case rel => exact ⟨pos + 1, p7, _, hit7, hD7, he7, by omega, H7⟩
    · have hnx : ∀ ty, (Instr.next (.pointer (some ⟨it, 0, none⟩)) true ty).run Tryz.prog wr = _ := fun ty => Lib.run_next_end_at wr it (fsB k) pos ty hit hps
      have hpl : (fl k).length ≤ pos := by rw [← HL.out]; omega
      have hrd := hrdq.out
      rw [List.take_of_length_le hpl] at hrd
      have HRD := (show Hid (rdFs (fl k) { zeroM with kind := k } (l.drop p1) = some (mq, l.drop pq)) from hrd)
      obtain ⟨sx, hmx, hsx⟩ := hD.mrow
      have hE := rend_any (r + 1) wr r _ l pq hD.rs
      have hhp := hD.hp
      clear hrd hpl hps hrdq
      go_wp2_with fail
      refine hE.mono ?_
      rintro e w8 ⟨hg8, ⟨hpq, rfl⟩ | ⟨hpq, rfl⟩⟩
      · have hb8 := hD.bel.trans (grown_below hg8 hD.bel.size (fun k hk => by cases hk))
        have hm8 := hmx.grown hg8 (fun e => by cases e)
        have he8 := he.grown hg8 (fun e => by cases e)
        have hs8 := hsx.mv hg8.size fun k hk hlt => ⟨hg8.block k hlt (fun e => by cases e), hk⟩
        have HM := (show Hid (rdM l = some mq) from rdM_whole HR.out HK.out (by rw [HRD.out, hpq, List.drop_length]))
        have hone := hs8.one
        clear hpq
        go_wp2_with (first
          | (refine wl_load rfl _ _ rfl w.heap.size rfl _ _ hm8 _ Tryz.underlying40 rfl (by kernel_rfl) ?_)
          | (refine wl_store rfl _ _ _ rfl w.heap.size (mc mq sx) rfl rfl _ _ hm8 rfl (by kernel_rfl) hone ?_; intro w9 hr9 hg9; have he9 := he8.grown hg9 (fun e => hne (by injection e)))
          | (refine wl_set rfl _ _ _ rfl pe 0 _ rfl rfl _ _ he9 (show 0 < 1 by decide) (by kernel_rfl) rfl ?_; intro w10 hr10 hg10))
        have hm10 := hr9.out.grown hg10 (fun e => hne (by injection e with e; exact e.symm))
        have hB10 := Two.below hb8 (Two.of hg9 hg10) (Nat.le_refl _) (Nat.le_refl _) hpe
        have hs9 := hs8.mv hg9.size (Mv.gl hg9 hD.pL)
        have hs10 := hs9.mv hg10.size (Mv.gl (L := r + 1) hg10 hpew)
        exact dec_back w w10 l w.heap.size pe mq sx hm10 hr10.out hB10 hl HM.out (hs10.mv (Nat.le_refl _) fun k hk _ => ⟨rfl, by have := hk.1; unfold From; omega⟩) _ rfl rfl
      · have hb8 := hD.bel.trans (grown_below hg8 hD.bel.size (fun k hk => by cases hk))
        have hm8 := hmx.grown hg8 (fun e => by cases e)
        have he8 := he.grown hg8 (fun e => by cases e)
        have HM := (show Hid (rdM l = none) from rdM_trail HR.out HRD.out (fun e => by have := congrArg List.length e; rw [List.length_drop] at this; simp at this; omega))
        clear hpq
        go_wp2_with fail
        exact dec_gave w w8 l w.heap.size pe _ _ _ hm8 he8 hne hb8 (Nat.le_refl _) hpe hl HM.out _ rfl rfl
/-- Decode. -/
theorem decode_any (w : World) (bv : Value) (l : List Int) (hb : RT Any w bv l) : Calls Tryz.prog 19 #[bv] w (DecPost l w) := by
  by_cases hl : 1048576 < l.length
  · exact decode_many w bv l hb hl
  · exact decode_some w bv l hb hl
#print axioms decode_any
end Go.Proofs.YtgjepofinpmcpaaGreatDoor
