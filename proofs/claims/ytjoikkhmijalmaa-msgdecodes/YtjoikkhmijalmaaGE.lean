/- PROVED HERE: at all arguments catenarylaw05.MsgDecodes returns true and leaves its arguments as they were (the statement MsgDecodesSaid); no condition. -/
import Derived.Test.YtjoikkhmijalmaaGA
import Derived.Test.YtjoikkhmijalmaaGD
import Derived.Test.YtjoikkhmijalmaaN6
import Derived.Test.YtjoikkhmijalmaaD7
import Derived.Test.YtjoikkhmijalmaaD8
import Derived.Test.YtjoikkhmijalmaaMAlive
import Derived.Test.YtjoikkhmijalmaaS3
import Derived.Laws.BitsAllLaws
import Derived.Test.YtjoikkhmijalmaaRows
import Derived.Test.YtjoikkhmijalmaaOpen
section
set_option linter.unusedVariables false
set_option linter.unusedSimpArgs false
namespace Go.Proofs.Ytjoikkhmijalmaa
open Go.RowKit Oct

theorem getField_any (G : Nat → Prop) (w : World) (bv : Value) (l : List Int) (p : Nat) (bad : Bool) (m : PMsg) (s : SV) (i : Nat) (hi : i < 15) (hrd : Rd w bv l) (hp : p ≤ l.length) (hl : l.length ≤ 1048576) (hso : SOk G w m s) (hzr : Zr i s) :
    Calls Try.prog 18 #[.agg #[bv, .int .i64 (p : Int), .bool bad], .agg (mc m s).toArray, .int .i64 (i : Int)] w (FPost G w bv l p bad m i) := by
  rcases lt15 hi with rfl | rfl | rfl | rfl | rfl | rfl | rfl | rfl | rfl | rfl | rfl | rfl | rfl | rfl | rfl
  · exact getField0_any G w bv l p bad m s hrd hp hl hso hzr
  · exact getField1_any G w bv l p bad m s hrd hp hl hso hzr
  · exact getField2_any G w bv l p bad m s hrd hp hl hso hzr
  · exact getField3_any G w bv l p bad m s hrd hp hl hso hzr
  · exact getField4_any G w bv l p bad m s hrd hp hl hso hzr
  · exact getField5_any G w bv l p bad m s hrd hp hl hso hzr
  · exact getField6_any G w bv l p bad m s hrd hp hl hso hzr
  · exact getField7_any G w bv l p bad m s hrd hp hl hso hzr
  · exact getField8_any G w bv l p bad m s hrd hp hl hso hzr
  · exact getField9_any G w bv l p bad m s hrd hp hl hso hzr
  · exact getField10_any G w bv l p bad m s hrd hp hl hso hzr
  · exact getField11_any G w bv l p bad m s hrd hp hl hso hzr
  · exact getField12_any G w bv l p bad m s hrd hp hl hso hzr
  · exact getField13_any G w bv l p bad m s hrd hp hl hso hzr
  · exact getField14_any G w bv l p bad m s hrd hp hl hso hzr
/-- The fields below q. -/
def fsq (k : Int) (q : Nat) : List Nat := (List.range q).filter fun i => (fl k).contains i
theorem fsq_yes {k : Int} {q : Nat} (h : (fl k).contains q = true) : fsq k (q + 1) = fsq k q ++ [q] := by
  unfold fsq
  rw [List.range_succ, List.filter_append]
  simp only [List.filter_cons, h, if_true, List.filter_nil]
theorem fsq_no {k : Int} {q : Nat} (h : (fl k).contains q = false) : fsq k (q + 1) = fsq k q := by
  unfold fsq
  rw [List.range_succ, List.filter_append]
  simp only [List.filter_cons, h, List.filter_nil, Bool.false_eq_true, if_false, List.append_nil]
theorem fsq_all (k : Int) : fsq k 15 = fl k := by
  rcases fl_cases k with rfl | rfl | rfl | rfl | rfl | rfl | rfl | rfl | rfl | rfl | rfl | rfl | rfl | rfl | rfl | rfl | rfl | rfl | rfl | e
  all_goals first | decide | skip
  unfold fsq
  rw [e]
  simp
theorem field_step {l : List Int} {p pq pr : Nat} {b bq br : Bool} {fs : List Nat} {m0 mq mr : PMsg} {i : Nat} (h : (stL l p b).bind (rdFs fs m0) = (stL l pq bq).map fun r => (mq, r)) (h2 : (stL l pq bq).bind (fun r => ((cF i).rd r).map fun x => (set mq i x.1, x.2)) = (stL l pr br).map fun r => (mr, r)) :
    (stL l p b).bind (rdFs (fs ++ [i]) m0) = (stL l pr br).map fun r => (mr, r) := by
  have e : rdFs (fs ++ [i]) m0 = fun l => (rdFs fs m0 l).bind fun x => rdFs [i] x.1 x.2 := funext fun l => rdFs_app fs [i] m0 l
  rw [e, ← Option.bind_assoc, h, ← h2]
  cases stL l pq bq with
  | none => rfl
  | some t =>
    simp only [Option.map_some, Option.bind_some, rdFs]
    cases (cF i).rd t <;> rfl
theorem marksD_at {k : Int} {q : Nat} (h : q < 15) : (marks k)[q]? = some (.bool ((fl k).contains q)) := by
  simp [marks, h]
theorem marksD_len (k : Int) : (marks k).length = 15 := by simp [marks]
theorem marksD_one (k : Int) : ∀ v ∈ marks k, v.oneCell' = true := by
  intro v hv
  unfold marks at hv
  obtain ⟨i, _, rfl⟩ := List.mem_map.1 hv
  rfl
/-- What the document's Decode ends in. -/
def RDec (l : List Int) (w : World) (e : Ending) (w' : World) : Prop := ∃ s', e = .returned (.tuple #[.agg (mc (decM l) s').toArray, .int .i64 (decE l)]) ∧ SOk Any w' (decM l) s' ∧ Below w.heap.size w w'
theorem rdec_none {l : List Int} (hl : l.length ≤ 1048576) (h : rdM l = none) : decM l = zeroM ∧ decE l = 51 := by
  unfold decM decE
  rw [if_neg (by omega), if_neg (by omega), h]
  exact ⟨rfl, rfl⟩
theorem rdec_some {l : List Int} {m : PMsg} (hl : l.length ≤ 1048576) (h : rdM l = some m) : decM l = m ∧ decE l = 0 := by
  unfold decM decE
  rw [if_neg (by omega), if_neg (by omega), h]
  exact ⟨rfl, rfl⟩
theorem rdM_n1 {l : List Int} (h : cN.rd l = none) : rdM l = none := by unfold rdM rdG; rw [h]; rfl
theorem rdM_n2 {l r : List Int} {k : Int} (h : cN.rd l = some (k, r)) (he : (fl k).isEmpty = true) : rdM l = none := by
  unfold rdM rdG
  rw [h]
  simp only [Option.bind_some, he, if_true, Option.bind_none]
theorem rdM_end {l r : List Int} {k : Int} (h : cN.rd l = some (k, r)) (he : (fl k).isEmpty = false) : rdM l = (rdFs (fl k) { zeroM with kind := k } r).bind fun y => if y.2.isEmpty = true then some y.1 else none := by
  unfold rdM rdG
  rw [h]
  simp only [Option.bind_some, he, Bool.false_eq_true, if_false]
theorem st_zero {l : List Int} : stL l 0 false = some l := by unfold stL; simp
set_option maxRecDepth 10000 in
set_option maxHeartbeats 4000000 in
theorem refDecode_any (w : World) (bv : Value) (l : List Int) (hrd : Rd w bv l) : Calls Try.prog 6 #[bv] w (RDec l w) := by
  obtain ⟨ab, cb, rfl, hcb⟩ := hrd.2.form
  obtain ⟨w1, hw1⟩ : ∃ w1, w1 = w.alloc (.cells (mc zeroM sv0).toArray 33) := ⟨_, rfl⟩
  have r1 : Row w1 w.heap.size 33 (mc zeroM sv0) := by rw [hw1]; exact Row.new w _ _
  have B1 : Below w.heap.size w w1 := by rw [hw1]; exact below_alloc _ _
  have hz1 : w1.heap.size = w.heap.size + 1 := by rw [hw1]; simp
  have hlen := hrd.len
  obtain ⟨N, hN⟩ : ∃ N, N = l.length := ⟨_, rfl⟩
  have hone0 : ∀ v ∈ mc zeroM sv0, v.oneCell' = true := (SOk.zero Any w 0).one
  have hbm := build_msg
  have HN := (show Hid (l.length = N) from hN.symm)
  have ebl : (bc l).length = N := by rw [bc_len]; exact HN.out
  rw [ebl] at hrd ⊢
  have hNm : (N : Int) ≤ 9223372036854775807 := by omega
  clear hN hlen ebl
  have wz : (w.alloc (.cells #[.int .i64 0, .int .i64 0, .int .i64 0, .int .i64 0, .int .i64 0, .int .i64 0, .int .i64 0, .int .i64 0, .int .i64 0, .int .i64 0, .slice none 0 0, .slice none 0 0, .int .i64 0, .int .i64 0, .slice none 0 0, .slice none 0 0, .slice none 0 0, .slice none 0 0, .slice none 0 0, .slice none 0 0, .slice none 0 0, .slice none 0 0, .slice none 0 0] 33)) = w1 := hw1.symm
  clear hw1
  by_cases hmany : (1048576 : Int) < N
  · have e1 : decM l = zeroM ∧ decE l = 53 := by
      unfold decM decE
      have := HN.out
      rw [if_pos (by omega), if_pos (by omega)]
      exact ⟨rfl, rfl⟩
    have HE := (show Hid (decM l = zeroM ∧ decE l = 53) from e1)
    clear e1
    go_enter Try.func6, Try.ntmps6
    go_upto_region 1 with fail
    try rw [wz]
    clear wz
    go_wp2_with (refine wl_store rfl _ _ _ rfl w.heap.size (mc zeroM sv0) rfl rfl _ _ r1 rfl (by kernel_rfl) hone0 ?_; intro w5 hr5 hg5)
    refine bodyPost_ret (results_ct rfl _ _ w.heap.size _ _ (0, 0) _ (by rfl) hr5.out Try.underlying33 rfl (by kernel_rfl)) rfl ?_
    refine ⟨sv0, by rw [HE.out.1, HE.out.2]; rfl, by rw [HE.out.1]; exact SOk.zero Any w5 0, below_grown B1 hg5 (Nat.le_refl _) (by omega)⟩
  have hl : l.length ≤ 1048576 := by have := HN.out; omega
  have HL := (show Hid (l.length ≤ 1048576) from hl)
  have hmany' : decide ((1048576 : Int) < N) = false := decide_eq_false hmany
  have n1 := Row.new w1 33 (mc zeroM sv0)
  obtain ⟨bm, hbm'⟩ : ∃ bm, bm = w1.heap.size := ⟨_, rfl⟩
  have hbmw : w.heap.size + 1 ≤ bm := by omega
  clear hz1
  go_enter Try.func6, Try.ntmps6
  go_upto_region 1 with fail
  try rw [wz]
  clear wz
  go_upto_region 4 with (refine wl_store rfl _ _ _ rfl w1.heap.size (mc zeroM sv0) rfl rfl _ _ n1 rfl (by kernel_rfl) hone0 ?_; intro w2 hm2 hg2)
  have hb12 : Below w1.heap.size w1 w2 := (below_alloc w1 (.cells (mc zeroM sv0).toArray 33)).trans (grown_below hg2 (by simp) (fun k hk => by cases hk; exact Nat.le_refl _))
  have B2 := below_and B1 (Nat.le_refl _) hb12
  have r2 := r1.below hb12
  have m2 := hm2.out
  rw [← hbm'] at m2 ⊢
  have hz2 : bm + 1 ≤ w2.heap.size := m2.lt
  clear hbm' hm2 hg2 hb12 n1 r1 B1
  have hG : Calls Try.prog 15 #[.agg #[.slice ab N cb, .int .i64 0, .bool false]] w2 (GPost cN VN w2 (.slice ab N cb) l 0 false) := getNum_any w2 _ l 0 false (hrd.below B2) (Nat.zero_le _) hl
  go_upto_region 5 with (first
    | (go_at_call 15; refine hG.mono ?_; rintro e wa ⟨kd, vk, p1, b1, rfl, hp1, hba, rfl, he⟩; have hn1 := Row.new wa 52 [.slice none 0 0, .int .i64 0, .bool false])
    | (refine wl_store rfl _ _ _ rfl wa.heap.size [.slice ab N cb, .int .i64 (p1 : Int), .bool b1] rfl rfl _ _ hn1 rfl (by kernel_rfl) (one_in rfl) ?_; intro w4 hs4 hg4))
  have hb4 : Below wa.heap.size wa w4 := (below_alloc wa (.cells ([.slice none 0 0, .int .i64 0, .bool false] : List Value).toArray 52)).trans (grown_below hg4 (by simp) (fun k hk => by cases hk; exact Nat.le_refl _))
  have hb24 := below_and hba (Nat.le_refl _) hb4
  have B4 := below_and B2 (Nat.le_refl _) hb24
  have hs4 := hs4.out
  have m4 := m2.below hb24
  have r4 := r2.below hb24
  obtain ⟨bs, hbs⟩ : ∃ bs, bs = wa.heap.size := ⟨_, rfl⟩
  have hbs2 : bm + 1 ≤ bs := by rw [hbs]; exact Nat.le_trans hz2 hba.size
  have hbs4 : bs < w4.heap.size := by rw [hbs]; exact hs4.lt
  rw [← hbs] at hs4 ⊢
  have HE0 := (show Hid (cN.rd l = (stL l p1 b1).map fun r => (kd, r)) by show _ = _; rw [← he, st_zero]; rfl)
  clear hbs he hg4 hb4 hb24 hba hn1 m2 r2 B2 hG
  go_upto_region 6 with (refine wl_set rfl _ _ _ rfl bm 0 _ rfl rfl _ _ m4 (show 0 < 23 by decide) (by kernel_rfl) rfl ?_; intro w5 m5 hg5)
  have m5 : Row w5 bm 33 (mc { zeroM with kind := kd } sv0) := m5.out
  have hs5 := hs4.grown hg5 (fun h => by injection h; omega)
  have r5 := r4.grown hg5 (fun h => by injection h; omega)
  have B5 := below_grown B4 hg5 (by omega) B4.size
  have hbs5 : bs < w5.heap.size := Nat.lt_of_lt_of_le hbs4 hg5.size
  have c2 := hs5.cell (j := 2) rfl
  clear hs4 r4 B4 m4 hg5 hbs4
  cases b1 with
  | true =>
    have HE := (show Hid (decM l = zeroM ∧ decE l = 51) from rdec_none HL.out (rdM_n1 HE0.out))
    go_wp2_with (first
      | (refine wl_store rfl _ _ _ rfl w.heap.size (mc zeroM sv0) rfl rfl _ _ r5 rfl (by kernel_rfl) hone0 ?_; intro w9 hr9 hg9))
    refine bodyPost_ret (results_ct rfl _ _ w.heap.size _ _ (0, 0) _ (by rfl) hr9.out Try.underlying33 rfl (by kernel_rfl)) rfl ?_
    exact ⟨sv0, by rw [HE.out.1, HE.out.2]; rfl, by rw [HE.out.1]; exact SOk.zero Any w9 0, below_grown B5 hg9 (Nat.le_refl _) B5.size⟩
  | false =>
    have HE1 := (show Hid (cN.rd l = some (kd, l.drop p1)) from HE0.out)
    have hK := refKnown_any w5 kd
    cases hem : (fl kd).isEmpty with
    | true =>
      have HE := (show Hid (decM l = zeroM ∧ decE l = 51) from rdec_none HL.out (rdM_n2 HE1.out hem))
      rw [hem] at hK
      clear hem
      go_wp2_with (first
        | (refine wl_store rfl _ _ _ rfl w.heap.size (mc zeroM sv0) rfl rfl _ _ r5 rfl (by kernel_rfl) hone0 ?_; intro w9 hr9 hg9)
              | (go_at_call 16; refine hK.mono ?_; rintro e w5 ⟨rfl, rfl⟩))
      refine bodyPost_ret (results_ct rfl _ _ w.heap.size _ _ (0, 0) _ (by rfl) hr9.out Try.underlying33 rfl (by kernel_rfl)) rfl ?_
      exact ⟨sv0, by rw [HE.out.1, HE.out.2]; rfl, by rw [HE.out.1]; exact SOk.zero Any w9 0, below_grown B5 hg9 (Nat.le_refl _) B5.size⟩
    | false =>
      rw [hem] at hK
      have HEND := (show Hid (rdM l = (rdFs (fl kd) { zeroM with kind := kd } (l.drop p1)).bind fun y => if y.2.isEmpty = true then some y.1 else none) from rdM_end HE1.out hem)
      have hne : fl kd ≠ [] := by intro e; rw [e] at hem; cases hem
      have HF := refFields_any w5 kd hne
      obtain ⟨mk, hmk⟩ : ∃ mk, mk = marks kd := ⟨_, rfl⟩
      have hml : mk.length = 15 := by rw [hmk]; exact marksD_len _
      have hmo : ∀ v ∈ mk, v.oneCell' = true := by rw [hmk]; exact marksD_one _
      have HMK := (show Hid (∀ q, q < 15 → mk[q]? = some (.bool ((fl kd).contains q))) from fun q hq => by rw [hmk]; exact marksD_at hq)
      rw [← hmk] at HF
      clear hmk hem hne
      go_upto_region 8 with (go_at_call 16; refine hK.mono ?_; rintro e w5 ⟨rfl, rfl⟩)
      go_upto_region 9 with (first
        | (go_at_call 17; refine HF.mono ?_; rintro e w6 ⟨rfl, hb6⟩; have n6 := Row.new w6 56 no15)
        | (refine wl_store rfl _ _ _ rfl w6.heap.size mk rfl rfl _ _ n6 (by rw [hml]; rfl) (by rw [hml]; kernel_rfl) hmo ?_; intro w7 hr7 hg7))
      have q7 : Below w6.heap.size w6 w7 := (below_alloc w6 (.cells no15.toArray 56)).trans (grown_below hg7 (by simp) (fun k hk => by cases hk; exact Nat.le_refl _))
      have q57 := below_and hb6 (Nat.le_refl _) q7
      have B7 := below_and B5 (Nat.le_refl _) q57
      have m7 := m5.below q57
      have s7 := hs5.below q57
      have r7 := r5.below q57
      have h7 := hr7.out
      obtain ⟨bh, hbh⟩ : ∃ bh, bh = w6.heap.size := ⟨_, rfl⟩
      have hbhs : bs < bh := by rw [hbh]; exact Nat.lt_of_lt_of_le hbs5 hb6.size
      rw [← hbh] at h7 ⊢
      have hD7 : bh + 1 ≤ w7.heap.size := h7.lt
      clear hbh hr7 hg7 n6 hb6 q7 q57 hK HF m5 hs5 r5 B5 c2 hml hmo
      go_wp2_with fail
      go_loopw [8] (fun i wr => ∃ (q pq : Nat) (bq : Bool) (mq : PMsg) (sq : SV), q ≤ 15 ∧ i = .int .i64 q ∧ pq ≤ l.length ∧ Hid ((stL l p1 false).bind (rdFs (fsq kd q) { zeroM with kind := kd }) = (stL l pq bq).map fun r => (mq, r)) ∧ SOk (From (bh + 1)) wr mq sq ∧ Zr q sq ∧ Row wr bs 52 [.slice ab N cb, .int .i64 (pq : Int), .bool bq] ∧ Row wr bm 33 (mc mq sq) ∧ Row wr w.heap.size 33 (mc zeroM sv0) ∧ Row wr bh 56 mk ∧ Below w.heap.size w wr ∧ bh + 1 ≤ wr.heap.size) (fun i _ => 15 - (intOf i).toNat)
      case atStart => exact ⟨0, p1, false, _, sv0, by omega, rfl, hp1, (by show Hid _; exact rfl), SOk.zero _ _ _, ⟨fun _ => rfl, fun _ => rfl, fun _ => rfl⟩, s7, m7, r7, h7, B7, hD7⟩
      case round =>
        clear s7 m7 r7 h7 B7 hD7
        obtain ⟨q, pq, bq, mq, sq, hq, rfl, hpq, HQ, hso, hzr, hs, hm, hr, hh, B, hD⟩ := hrel
        by_cases hql : q < 15
        · have ch := hh.cell (HMK.out q hql)
          have hq15 : (q : Int) < 15 := by omega
          cases hc : (fl kd).contains q with
          | true =>
            rw [hc] at ch
            have hG := getField_any (From (bh + 1)) wr _ l pq bq mq sq q hql (hrd.below B) hpq HL.out hso hzr
            have HQQ := (show Hid (fsq kd (q + 1) = fsq kd q ++ [q]) from fsq_yes hc)
            clear hc
            go_wp2_with (first
              | (refine wl_load rfl _ _ rfl bs rfl _ _ hs _ Try.underlying52 rfl (by kernel_rfl) ?_)
              | (refine wl_load rfl _ _ rfl bm rfl _ _ hm _ Try.underlying33 rfl (by kernel_rfl) ?_)
              | (go_at_call 18; refine hG.mono ?_; rintro e w8 ⟨m8, s8, q8, b8, rfl, hq8, hb8, hso8, hzr8, he8⟩; have hs8 := hs.below hb8; have hm8 := hm.below hb8; have hon8 := hso8.one)
              | (refine wl_store rfl _ _ _ rfl bs [.slice ab N cb, .int .i64 (q8 : Int), .bool b8] rfl rfl _ _ hs8 rfl (by kernel_rfl) (one_in rfl) ?_; intro w9 hs9 hg9; have hm9 := hm8.grown hg9 (fun h => by injection h; omega))
              | (refine wl_store rfl _ _ _ rfl bm (mc m8 s8) rfl rfl _ _ hm9 rfl (by kernel_rfl) hon8 ?_; intro w10 hm10 hg10))
            have B8 := below_and B (Nat.le_refl _) hb8
            have B9 := below_grown B8 hg9 (by omega) B8.size
            have B10 := below_grown B9 hg10 (by omega) B9.size
            have hs10 := hs9.out.grown hg10 (fun h => by injection h; omega)
            have hr10 := ((hr.below hb8).grown hg9 (fun h => by injection h; omega)).grown hg10 (fun h => by injection h; omega)
            have hh10 := ((hh.below hb8).grown hg9 (fun h => by injection h; omega)).grown hg10 (fun h => by injection h; omega)
            have hD10 : bh + 1 ≤ w10.heap.size := Nat.le_trans (Nat.le_trans hD hb8.size) (Nat.le_trans hg9.size hg10.size)
            have hsoF : SOk (From (bh + 1)) w8 m8 s8 := hso8.mv (Nat.le_refl _) (fun k hk _ => ⟨rfl, by rcases hk with h | h; exact h.1; exact Nat.le_trans hD h⟩)
            have hso10 := (hsoF.mv hg9.size (Mv.from hg9 (by omega) (Nat.le_refl _))).mv hg10.size (Mv.from hg10 (by omega) (Nat.le_refl _))
            have HQ8 := (show Hid ((stL l p1 false).bind (rdFs (fsq kd (q + 1)) { zeroM with kind := kd }) = (stL l q8 b8).map fun r => (m8, r)) by show _ = _; rw [HQQ.out]; exact field_step HQ.out he8)
            go_roundw
            case rel => exact ⟨q + 1, q8, b8, m8, s8, by omega, by go_num, hq8, HQ8, hso10, hzr8, hs10, hm10.out, hr10, hh10, B10, hD10⟩
            case measure => simp [intOf]; omega
          | false =>
            rw [hc] at ch
            have HQ8 := (show Hid ((stL l p1 false).bind (rdFs (fsq kd (q + 1)) { zeroM with kind := kd }) = (stL l pq bq).map fun r => (mq, r)) by show _ = _; rw [fsq_no hc]; exact HQ.out)
            have hzr1 : Zr (q + 1) sq := ⟨fun h => hzr.1 (by omega), fun h => hzr.2.1 (by omega), fun h => hzr.2.2 (by omega)⟩
            clear hc
            go_wp2_with fail
            go_roundw
            case rel => exact ⟨q + 1, pq, bq, mq, sq, by omega, by go_num, hpq, HQ8, hso, hzr1, hs, hm, hr, hh, B, hD⟩
            case measure => simp [intOf]; omega
        · have hq15 : decide ((q : Int) < 15) = false := by simp; omega
          obtain rfl : q = 15 := by omega
          have HQ15 := (show Hid ((stL l p1 false).bind (rdFs (fl kd) { zeroM with kind := kd }) = (stL l pq bq).map fun r => (mq, r)) by show _ = _; rw [← fsq_all kd]; exact HQ.out)
          have HQ16 := (show Hid (rdFs (fl kd) { zeroM with kind := kd } (l.drop p1) = (stL l pq bq).map fun r => (mq, r)) from HQ15.out)
          have d1 := hs.cell (j := 1) rfl
          have d2 := hs.cell (j := 2) rfl
          clear HQ HQ15 hq
          cases bq with
          | true =>
            have HE := (show Hid (decM l = zeroM ∧ decE l = 51) from rdec_none HL.out (by rw [HEND.out, HQ16.out]; rfl))
            go_wp2_with (first
              | (refine wl_store rfl _ _ _ rfl w.heap.size (mc zeroM sv0) rfl rfl _ _ hr rfl (by kernel_rfl) hone0 ?_; intro w9 hr9 hg9))
            refine bodyPost_ret (results_ct rfl _ _ w.heap.size _ _ (0, 0) _ (by rfl) hr9.out Try.underlying33 rfl (by kernel_rfl)) rfl ?_
            exact ⟨sv0, by rw [HE.out.1, HE.out.2]; rfl, by rw [HE.out.1]; exact SOk.zero Any w9 0, below_grown B hg9 (Nat.le_refl _) B.size⟩
          | false =>
            by_cases hend : pq = N
            · have HE := (show Hid (decM l = mq ∧ decE l = 0) from rdec_some HL.out (by
                rw [HEND.out, HQ16.out]
                show (if (l.drop pq).isEmpty = true then some mq else none) = some mq
                rw [if_pos (by rw [List.isEmpty_iff]; exact List.drop_of_length_le (by have := HN.out; omega))]))
              have hpe : ((pq : Int) != (N : Int)) = false := by simp [hend]
              have hon := hso.one
              clear hend
              go_wp2_with (first
                | (refine wl_load rfl _ _ rfl bm rfl _ _ hm _ Try.underlying33 rfl (by kernel_rfl) ?_)
                | (refine wl_store rfl _ _ _ rfl w.heap.size (mc mq sq) rfl rfl _ _ hr rfl (by kernel_rfl) hon ?_; intro w9 hr9 hg9))
              refine bodyPost_ret (results_ct rfl _ _ w.heap.size _ _ (0, 0) _ (by rfl) hr9.out Try.underlying33 rfl (by kernel_rfl)) rfl ?_
              exact ⟨sq, by rw [HE.out.1, HE.out.2]; rfl, by rw [HE.out.1]; exact (hso.mv hg9.size (Mv.from hg9 (by omega) (Nat.le_refl _))).mv (Nat.le_refl _) Mv.any, below_grown B hg9 (Nat.le_refl _) B.size⟩
            · have HE := (show Hid (decM l = zeroM ∧ decE l = 51) from rdec_none HL.out (by
                rw [HEND.out, HQ16.out]
                show (if (l.drop pq).isEmpty = true then some mq else none) = none
                rw [if_neg (by rw [List.isEmpty_iff, List.drop_eq_nil_iff]; have := HN.out; omega)]))
              have hpe : ((pq : Int) != (N : Int)) = true := by simp; omega
              clear hend
              go_wp2_with (first
                | (refine wl_store rfl _ _ _ rfl w.heap.size (mc zeroM sv0) rfl rfl _ _ hr rfl (by kernel_rfl) hone0 ?_; intro w9 hr9 hg9))
              refine bodyPost_ret (results_ct rfl _ _ w.heap.size _ _ (0, 0) _ (by rfl) hr9.out Try.underlying33 rfl (by kernel_rfl)) rfl ?_
              exact ⟨sv0, by rw [HE.out.1, HE.out.2]; rfl, by rw [HE.out.1]; exact SOk.zero Any w9 0, below_grown B hg9 (Nat.le_refl _) B.size⟩
end Go.Proofs.Ytjoikkhmijalmaa
end

section
set_option linter.unusedVariables false
set_option linter.unusedSimpArgs false
namespace Go.Proofs.Ytjoikkhmijalmaa
open Go.RowKit Oct

theorem xor_rngM2 {y : Int} (h : 0 ≤ y ∧ y ≤ 255) : 0 ≤ bits .xor .u8 y 255 ∧ bits .xor .u8 y 255 ≤ 255 := by
  rw [u8_xor y 255 h.1 (by omega) (by decide) (by decide)]
  have : y.toNat ^^^ (255 : Int).toNat < 2 ^ 8 := Nat.xor_lt_two_pow (by omega) (by decide)
  omega
/-- A text of the call's own, at a place. -/
theorem Own.at_byteM2 {w : World} {v : Value} {l : List Int} (h : Own w 5 v (bc l)) {j : Nat} (hj : j < l.length) :
    ∃ (k cap : Nat) (cur : List Value) (y : Int), v = .slice (some ⟨k, 0, none⟩) l.length cap ∧ l.length ≤ cap ∧ cap ≤ maxLen ∧ Row w k 5 cur ∧ j < cur.length ∧ cur[j]? = some (.int .u8 y) ∧ l[j]? = some y ∧
      ∀ (w' : World) (x : Int), Row w' k 5 (cur.set j (.int .u8 x)) → Own w' 5 v (bc (l.set j x)) := by
  obtain ⟨h1, h2⟩ := h
  rcases h2 with ⟨_, h3⟩ | ⟨k, cap, cur, e, h0, hh, n1, n2, n3, n4⟩
  · rw [bc_len] at h3; omega
  · have e' : v = .slice (some ⟨k, 0, none⟩) (bc l).length cap := e
    rw [bc_len] at e'
    have hy : (bc l)[j]? = some (.int .u8 l[j]) := by rw [bc_at, List.getElem?_eq_getElem hj]; rfl
    rw [← n4, List.getElem?_take] at hy
    rw [bc_len] at n1 hy
    split at hy
    · refine ⟨k, cap, cur.toList, l[j], e', by omega, n2, by unfold Row; simpa using hh, (List.getElem?_eq_some_iff.1 hy).1, hy, List.getElem?_eq_getElem hj, fun w' x hr => ?_⟩
      have hbc : bc (l.set j x) = (bc l).set j (.int .u8 x) := by unfold bc; rw [List.map_set]
      have hn : (bc (l.set j x)).length = (bc l).length := by rw [hbc, List.length_set]
      show World.ownsRow _ 0 _ 1 _ (bc (l.set j x)).length _
      rw [hn, hbc]
      refine ⟨by simp, .inr ⟨k, cap, (cur.toList.set j (.int .u8 x)).toArray, e, h0, hr, by rw [bc_len]; exact n1, n2, by simpa using n3, ?_⟩⟩
      rw [List.toList_toArray, List.take_set, n4]
    · cases hy

set_option maxRecDepth 10000 in
set_option maxHeartbeats 4000000 in
theorem decodes_row (w : World) (bv : Value) (l : List Int) (hrd : Rd w bv l) (hl : l.length ≤ 140737488351232) : Calls Try.prog 3 #[bv] w fun e w' => e = .returned (.bool true) ∧ Below w.heap.size w w' := by
  have le := Nat.le_refl w.heap.size
  go_enter Try.func3, Try.ntmps3
  go_upto_region 3 with (go_at_call 4; refine (alive_any w).mono ?_; rintro e w1 ⟨rfl, hb1⟩)
  have hr1 := hrd.below hb1
  go_upto_region 4 with (at_builtin; refine app_copy rfl _ _ rfl rfl _ l rfl hr1 (by omega) ?_; intro o w2 hown2 hfr2 hb2)
  have B2 := below_and hb1 le hb2
  have hD := decode_any w2 o l ⟨hown2.rd hrd.1, fun _ _ _ => trivial⟩
  obtain ⟨M, hM⟩ : ∃ M, M = decM l := ⟨_, rfl⟩
  obtain ⟨E, hE⟩ : ∃ E, E = decE l := ⟨_, rfl⟩
  have HR := (show Hid (∀ u, Below w.heap.size w u → Calls Try.prog 6 #[bv] u fun e w' => ∃ s', e = .returned (.tuple #[.agg (mc M s').toArray, .int .i64 E]) ∧ SOk Any w' M s' ∧ Below u.heap.size u w') from fun u hu => by
    have := refDecode_any u bv l (hrd.below hu)
    rw [hM, hE]
    exact this)
  have HD := (show Hid (∀ _ : Unit, Calls Try.prog 5 #[o] w2 fun e w' => ∃ s, e = .returned (.tuple #[.agg (mc M s).toArray, .int .i64 E]) ∧ SOk (From w2.heap.size) w' M s ∧ Below w2.heap.size w2 w') from fun _ => by rw [hM, hE]; exact hD)
  have hee : (E == E) = true := by simp
  have hfo : Fr w.heap.size o := hfr2.mono hb1.size
  have hlt2 := hown2.lt
  clear hD hM hE hb1 hb2 hr1
  go_upto_region 5 with (first
    | (go_at_call 5; refine (HD.out ()).mono ?_; rintro e w3 ⟨s3, rfl, hs3, hb3⟩; have hrow := Row.new w3 33 (mc zeroM sv0); have hone := hs3.one)
    | (refine wl_store rfl _ _ _ rfl w3.heap.size (mc M s3) rfl rfl _ _ hrow rfl (by kernel_rfl) hone ?_; intro w4 hr4 hg4))
  have q4 : Below w3.heap.size w3 w4 := (below_alloc w3 (.cells (mc zeroM sv0).toArray 33)).trans (grown_below hg4 (by simp) (fun k hk => by cases hk; exact Nat.le_refl _))
  have q24 := below_and hb3 (Nat.le_refl _) q4
  have B4 := below_and B2 le q24
  have hr4 := hr4.out
  have hs4 := hs3.mv q4.size (Mv.belowG q4)
  have hown4 := hown2.below q24
  obtain ⟨bm, hbm⟩ : ∃ bm, bm = w3.heap.size := ⟨_, rfl⟩
  have hbm2 : w2.heap.size ≤ bm := by rw [hbm]; exact hb3.size
  rw [← hbm] at hr4 ⊢
  obtain ⟨N, hN⟩ : ∃ N, N = l.length := ⟨_, rfl⟩
  obtain ⟨ao, co, eo, hco1, hco2⟩ : ∃ ao co, o = .slice ao N co ∧ N ≤ co ∧ co ≤ maxLen := by
    obtain ⟨_, av, cv, e, h1, h2, _⟩ := hown4.rd hrd.1
    rw [bc_len, ← hN] at e h1
    exact ⟨av, cv, e, h1, h2⟩
  have HO := (show Hid (∃ z : List Int, z.length = N ∧ Own w4 5 (.slice ao N co) (bc z) ∧ Byt z) from ⟨l, hN.symm, by rw [← eo]; exact hown4, hrd.1⟩)
  have hNb : (N : Int) ≤ 140737488351232 := by omega
  have HRD := (show Hid (Rd w bv l) from hrd)
  clear hbm hg4 q4 q24 hown2 hown4 hrow hone hs3 hb3 B2 HD hN hrd hl
  subst eo
  go_wp2_with fail
  go_loopw [21] (fun i wr => ∃ j : Nat, j ≤ N ∧ i = .int .i64 j ∧ Row wr bm 33 (mc M s3) ∧ SOk (From w2.heap.size) wr M s3 ∧ Below w.heap.size w wr ∧ ∃ z : List Int, z.length = N ∧ Own wr 5 (.slice ao N co) (bc z) ∧ Byt z) (fun i _ => N - (intOf i).toNat)
  case atStart => exact ⟨0, by omega, rfl, hr4, hs4, B4, HO.out⟩
  case round =>
    clear hr4 hs4 B4 HO
    obtain ⟨j, hj, rfl, hr, hs, B, z, hz, ho, hbz⟩ := hrel
    by_cases hjx : j < N
    · obtain ⟨kb, cap, cur, yb, e, _, _, hrow, hjc, hcy, hly, hset⟩ := ho.at_byteM2 (j := j) (by omega)
      have hok : (Value.slice ao N co).ownBlock = some kb := by rw [e]; rfl
      have hkb2 : kb < w2.heap.size := hlt2 kb hok
      have hkbw : w.heap.size ≤ kb := hfo kb hok
      injection e with e1 e2 e3
      clear e2
      subst e1 e3
      have hji : (j : Int) < (N : Int) := by omega
      have HJ := (show Hid (j + 1 ≤ N) by show _ ≤ _; omega)
      have hcc := hrow.cell hcy
      have hyb := hbz yb (List.mem_of_getElem? hly)
      have hxr := xor_rngM2 hyb
      have KS := (show Hid (∀ (w' : World) (x : Int), Row w' kb 5 (cur.set j (.int .u8 x)) → Own w' 5 (.slice (some ⟨kb, 0, none⟩) N co) (bc (z.set j x))) from hset)
      have HLB := (show Hid (z.length = N ∧ Byt z) from ⟨hz, hbz⟩)
      clear hset ho hcy hly hz hbz
      go_wp2_with (refine wl_set rfl _ _ _ rfl kb j _ rfl rfl _ _ hrow hjc (by kernel_rfl) rfl ?_; intro w9 hr9 hg9)
      have hr' := hr.grown hg9 (fun h => by injection h; omega)
      have hs' := hs.mv hg9.size (Mv.from hg9 hkb2 (Nat.le_refl _))
      have B' := below_grown B hg9 hkbw B.size
      go_roundw
      case rel =>
        refine ⟨j + 1, HJ.out, by go_num, hr', hs', B', z.set j (bits .xor .u8 yb 255), by rw [List.length_set]; exact HLB.out.1, KS.out _ _ hr9.out, fun y hy => ?_⟩
        rcases List.mem_or_eq_of_mem_set hy with hy | rfl
        · exact HLB.out.2 y hy
        · exact hxr
      case measure => have := HJ.out; simp [intOf]; omega
    · have hjd : decide ((j : Int) < (N : Int)) = false := by simp; omega
      have hR := HR.out wr B
      go_upto_region 11 with (first
        | (go_at_call 6; refine hR.mono ?_; rintro e w6 ⟨s6, rfl, hs6, hb6⟩; have hrow6 := Row.new w6 33 (mc zeroM sv0); have hone6 := hs6.one)
        | (refine wl_store rfl _ _ _ rfl w6.heap.size (mc M s6) rfl rfl _ _ hrow6 rfl (by kernel_rfl) hone6 ?_; intro w7 hr7 hg7))
      have q7 : Below w6.heap.size w6 w7 := (below_alloc w6 (.cells (mc zeroM sv0).toArray 33)).trans (grown_below hg7 (by simp) (fun k hk => by cases hk; exact Nat.le_refl _))
      have q67 := below_and hb6 (Nat.le_refl _) q7
      have hrA := hr.below q67
      have hrB := hr7.out
      have hsA : SOk Any w7 M s3 := (hs.mv (Nat.le_refl _) Mv.any).below q67
      have hsB := hs6.below q7
      have B7 := below_and B le q67
      have hS := sameMsg_eq w7 M s3 s6 hsA hsB
      clear hs hs6 hr hr7 hg7 hrow6 hone6
      go_wp2_with (first
        | (refine wl_load_w rfl _ _ rfl bm rfl _ _ hrA _ Try.underlying33 rfl (by kernel_rfl) ?_)
        | (refine wl_load_w rfl _ _ rfl w6.heap.size rfl _ _ hrB _ Try.underlying33 rfl (by kernel_rfl) ?_)
        | (go_at_call 7; refine hS.mono ?_; rintro e w8 ⟨rfl, hb8⟩))
      go_ret
      exact ⟨rfl, below_and B7 le hb8⟩
end Go.Proofs.Ytjoikkhmijalmaa
end

section
namespace Go.Proofs.Ytjoikkhmijalmaa
open Go.ChangeShapes Go.WideShapes Go.ChangeAt Go.RowKit

theorem msgDecodes_own : ownKnob Try.prog.godebug = none := by kernel_rfl
theorem msgDecodes_laidOut : laidOutB Try.prog = true := by kernel_rfl
theorem msgDecodes_cells5 : Try.prog.cellsOf 5 = 1 := by kernel_rfl
theorem msgDecodes_bytes5 : Try.prog.bytesOf 5 = 1 := by kernel_rfl

set_option maxRecDepth 100000 in
theorem msgDecodes_lifted (os : Os) (started : os.Started) (H : Type) (enc : TypeId × Value → H) :
    ReturnsInHanded {} Try.checked os 3 .any (Rows.msgDecodesSpec.pre6 enc Try.prog Try.f3 Rows.msgDecodesRow.domain false) (Rows.msgDecodesSpec.post enc Try.prog Try.f3 false true false false) := by
  refine returnsInHanded_of_change_sized (C := Try.checked) msgDecodes_own started (by kernel_rfl) Try.func3
    (ChangeSpec.witness6 (enc := enc) (C := Try.checked) false ⟨#[], #[.slice none 0 0], []⟩ 8 (by kernel_rfl) (by kernel_rfl) (by kernel_rfl) (by kernel_rfl)) ?_
  intro W base args ds gs before hval0 hW _ hsz0 _
  have hval : ∀ (j : Nat) t v, Try.f3.params[j]? = some t → args[j]? = some v → Value.okWide Try.prog W .any base t v := hval0
  have hsz : (DataW.weightsEach Try.prog (Try.f3.params.toList ++ Rows.msgDecodesSpec.plain.varTypes Try.prog) (ds ++ gs)).all (· ≤ reachBytes) = true := hsz0
  have hW' := hW
  obtain ⟨p, q, hA0, hV, rfl, hfz, hnd⟩ := hW
  have hA : DataW.TrodAll enc Try.prog W 0 (fun _ => true) true Try.f3.params.toList args.toList ds p := hA0
  rw [Try.params3] at hA hval hsz
  obtain ⟨v0, vs0, d0, ds0, p0, q0, hargs, rfl, rfl, h0, r0⟩ := trodAll_cons hA
  obtain ⟨rfl, rfl, rfl⟩ := trodAll_nil r0
  obtain rfl : args = #[v0] := by cases args; simp_all
  obtain ⟨rfl, rfl⟩ := trodVars_none hV
  obtain ⟨a0, len0, cap0, rfl⟩ := okWide_slice Try.underlying22 (hval 0 22 v0 rfl rfl)
  have lt0 : ∀ x ∈ p0, x.block < W.heap.size := by obtain ⟨m, hm⟩ := h0; exact DataW.trod_lt m _ _ _ hm
  obtain ⟨l0, hrd0, hd0⟩ := open_bytes Try.underlying22 Try.underlying5 msgDecodes_cells5 h0
  have hlen0 := hd0.reach hsz (j := 0) rfl rfl Try.underlying22 msgDecodes_bytes5
  clear hA0
  refine (decodes_row W _ l0 hrd0 hlen0).mono fun e W' ⟨he, bel⟩ => ?_
  subst he
  exact ⟨_, rfl, _, _, _, [], _, [], hW', trodAll_mk1 (shut_bool Try.underlying4 _), (trodAll_cons_mk (Below.trod msgDecodes_laidOut (by kernel_rfl) (of_decide_eq_true (by kernel_rfl)) h0 bel lt0) trodAll_mk0), rfl, bel.frame _, fun h => by cases h⟩

theorem msgDecodes_proved : Rows.MsgDecodesSaid :=
  OpenClaim.holds_of_wide 3 Try.f3 rfl rfl rfl rfl rfl rfl rfl ⟨rfl, rfl, rfl, rfl, rfl⟩ rfl rfl rfl rfl rfl (by kernel_rfl) Try.func3 (by kernel_rfl)
    (of_decide_eq_true (by kernel_rfl)) (by unfold Func.isWrapper; first | (rw [if_pos (by decide +kernel)]; kernel_rfl) | (rw [if_neg (by decide +kernel)]; exact ⟨rfl, rfl⟩))
    (fun os started H enc _ => msgDecodes_lifted os started H enc)
#print axioms msgDecodes_proved
end Go.Proofs.Ytjoikkhmijalmaa
end
