/- The document's Encode. -/
import Derived.Test.YtgjepofinpmcpaaGreatDoorMBV
import Derived.Test.YtgjepofinpmcpaaGreatDoorMBN
set_option linter.unusedSimpArgs false
set_option linter.unusedVariables false
namespace Go.Proofs.YtgjepofinpmcpaaGreatDoor
open Go.RowKit Oct
def Fq (k : Int) (q : Nat) : List Nat := (List.range q).filter fun i => (fl k).contains i
theorem zKs (k : Int) (q : Nat) : Fq k (q + 1) = Fq k q ++ (if (fl k).contains q = true then [q] else []) := by
  unfold Fq
  rw [List.range_succ, List.filter_append, List.filter_cons]
  rfl
theorem zS5 (k : Int) : Fq k 15 = fl k := by
  rcases zD7 k with h | h | h | h | h | h | h | h | h | h | h | h | h | h | h | h | h | h | h | h
  all_goals first | (subst h; decide) | (unfold Fq; rw [h]; rfl)
theorem Fq_len (k : Int) (q : Nat) : (Fq k q).length ≤ q := by
  have := List.length_filter_le (fun i => (fl k).contains i) (List.range q)
  rw [List.length_range] at this
  exact this
theorem wrF_len (m : PMsg) {i : Nat} (h : i < 15) : (wrF m i).length ≤ 20 * bM m := by
  have e1 : ∀ n : Int, (cN.wr n).length ≤ 10 := zBk
  have hI : ((cL cN).wr m.order).length ≤ 20 * bL (fun _ => 1) m.order := zG0 cN (fun n => Nat.le_trans (zBk n) (by decide)) m.order
  rcases zI6 h with rfl | rfl | rfl | rfl | rfl | rfl | rfl | rfl | rfl | rfl | rfl | rfl | rfl | rfl | rfl
  · show (cN.wr m.bal.1 ++ cN.wr m.bal.2).length ≤ _
    have := e1 m.bal.1
    have := e1 m.bal.2
    rw [List.length_append]
    simp only [bM]
    omega
  · show (cN.wr m.slot).length ≤ _
    have := e1 m.slot
    simp only [bM]
    omega
  · show (cN.wr m.frm).length ≤ _
    have := e1 m.frm
    simp only [bM]
    omega
  · show (cN.wr m.to).length ≤ _
    have := e1 m.to
    simp only [bM]
    omega
  · show (cN.wr m.idx).length ≤ _
    have := e1 m.idx
    simp only [bM]
    omega
  · show (cN.wr m.cnt).length ≤ _
    have := e1 m.cnt
    simp only [bM]
    omega
  · show (zBc.wr m.req).length ≤ _
    have := zF4 m.req
    simp only [bM]
    omega
  · show (zBc.wr m.oth).length ≤ _
    have := zF4 m.oth
    simp only [bM]
    omega
  · show (cT.wr m.data).length ≤ _
    have := cT_b m.data
    simp only [bM]
    omega
  · show (cT.wr m.sig).length ≤ _
    have := cT_b m.sig
    simp only [bM]
    omega
  · show ((cL zAi).wr m.cert).length ≤ _
    have := zG0 zAi zDl m.cert
    simp only [bM]
    omega
  · show ((cL zAi).wr m.votes).length ≤ _
    have := zG0 zAi zDl m.votes
    simp only [bM]
    omega
  · show ((cL cN).wr m.order).length ≤ _
    simp only [bM]
    omega
  · show ((cL zBc).wr m.picks).length ≤ _
    have := zG0 zBc zF4 m.picks
    simp only [bM]
    omega
  · show ((cL zBr).wr m.reps).length ≤ _
    have := zG0 zBr zOx m.reps
    simp only [bM]
    omega
theorem zOk (m : PMsg) : ∀ {fs : List Nat}, (∀ i ∈ fs, i < 15) → (zI8 m fs).length ≤ fs.length * (20 * bM m)
  | [], _ => by simp [zI8]
  | i :: fs, h => by
    have h1 := wrF_len m (h i (by simp))
    have h2 := zOk m (fs := fs) (fun j hj => h j (by simp [hj]))
    rw [zG6, List.length_append, List.length_cons, Nat.add_mul]
    omega
def Lo (m : PMsg) (q : Nat) : List Int := zCm m.kind ++ zI8 m (Fq m.kind q)
def Bo (m : PMsg) (q : Nat) : Bool := (Fq m.kind q).any fun i => !okF m i
theorem Lo_len (m : PMsg) {q : Nat} (hq : q ≤ 15) (hz : bM m ≤ 1100000) : (Lo m q).length ≤ 400000000 := by
  have h1 := zBl m.kind
  have h2 := zOk m (fs := Fq m.kind q) (fun i hi => by have := List.mem_range.1 (List.mem_filter.1 hi).1; omega)
  have h3 := Fq_len m.kind q
  have h4 : (Fq m.kind q).length * (20 * bM m) ≤ 15 * (20 * bM m) := Nat.mul_le_mul_right _ (by omega)
  unfold Lo
  rw [List.length_append]
  omega
theorem Lo_yes (m : PMsg) {q : Nat} (h : (fl m.kind).contains q = true) : Lo m q ++ (cF q).wr (get m q) = Lo m (q + 1) := by
  unfold Lo
  rw [zKs, if_pos h, zM4, List.append_assoc]
  rfl
theorem Bo_yes (m : PMsg) {q : Nat} (h : (fl m.kind).contains q = true) : (Bo m q || !(cF q).ok (get m q)) = Bo m (q + 1) := by
  unfold Bo
  rw [zKs, if_pos h, List.any_append]
  simp [okF]
theorem Lo_no (m : PMsg) {q : Nat} (h : (fl m.kind).contains q = false) : Lo m (q + 1) = Lo m q := by
  unfold Lo
  rw [zKs, h]
  simp
theorem Bo_no (m : PMsg) {q : Nat} (h : (fl m.kind).contains q = false) : Bo m (q + 1) = Bo m q := by
  unfold Bo
  rw [zKs, h]
  simp
theorem zSn (m : PMsg) : Lo m 15 = byM m := by unfold Lo byM; rw [zS5]
theorem zTo {m : PMsg} (h : (fl m.kind).isEmpty = true) : zCr m = 51 := by
  unfold zCr
  rw [if_pos (by simp [zFi, h])]
theorem zLk {m : PMsg} {q : Nat} (hq : q < 15) (h : (fl m.kind).contains q = false) (hz : zF m q = false) : zCr m = 51 := by
  unfold zCr
  rw [if_pos]
  cases hb : zFi m with
  | true => rfl
  | false =>
    have := (zKm hb).2.1 q hq (by simpa using h)
    have := (zLm m hq).2 this
    rw [hz] at this
    cases this
theorem enc_bad {m : PMsg} (h : Bo m 15 = true) : zCr m = 51 := by
  unfold zCr
  rw [if_pos]
  cases hb : zFi m with
  | true => rfl
  | false =>
    have := (zKm hb).2.2
    unfold Bo at h
    rw [zS5, List.any_eq_true] at h
    obtain ⟨i, hi, hn⟩ := h
    rw [this i hi] at hn
    cases hn
theorem enc_good {m : PMsg} (h0 : (fl m.kind).isEmpty = false) (h1 : ∀ j, j < 15 → (fl m.kind).contains j = false → zF m j = true) (h2 : Bo m 15 = false) : zFi m = false := by
  refine zNr (by intro e; rw [e] at h0; cases h0) (fun i hi hn => (zLm m hi).1 (h1 i hi (by simpa using hn))) (fun i hi => ?_)
  unfold Bo at h2
  rw [zS5, List.any_eq_false] at h2
  have := h2 i hi
  simpa using this
theorem zSu {m : PMsg} (h : zCr m ≠ 0) : zEj m = [] := by unfold zEj; rw [if_neg h]
theorem marks_at (k : Int) {q : Nat} (h : q < 15) : (zFn k)[q]? = some (.bool ((fl k).contains q)) := by
  unfold zFn
  rw [List.getElem?_map, List.getElem?_range h]
  rfl
theorem zRt (k : Int) : ∀ v ∈ zFn k, v.oneCell' = true := by
  intro v hv
  unfold zFn at hv
  obtain ⟨i, _, rfl⟩ := List.mem_map.1 hv
  rfl
set_option maxRecDepth 10000 in
set_option maxHeartbeats 4000000 in
theorem zK3 (w : World) (m : PMsg) (s : SV) (hs : SOk Any w m s) (hz : bM m ≤ 1100000) :
    Calls Tryz.prog 31 #[.agg (mc m s).toArray] w fun e w' => ∃ v', e = .returned (.tuple #[v', .int .i64 (zCr m)]) ∧ Rd w' v' (zEj m) ∧ Below w.heap.size w w' := by
  have le := Nat.le_refl w.heap.size
  obtain ⟨w1, hw1⟩ : ∃ w1, w1 = w.alloc (.cells (mc m s).toArray 40) := ⟨_, rfl⟩
  have x1 : Row w1 w.heap.size 40 (mc m s) := by rw [hw1]; exact Row.new w _ _
  have B1 : Below w.heap.size w w1 := by rw [hw1]; exact zA0 _ _
  have c0 := x1.cell (j := 0) rfl
  have hK := zGy w1 m.kind
  have NIL := (show Hid (∀ {u : World}, Below w.heap.size w u → zCr m = 51 → ∃ v', Ending.returned (.tuple #[.slice none 0 0, .int .i64 51]) = .returned (.tuple #[v', .int .i64 (zCr m)]) ∧ Rd u v' (zEj m) ∧ Below w.heap.size w u) from fun {u} hu e => ⟨_, by rw [e], by rw [zSu (by rw [e]; decide)]; exact (Own.nil u 5).rd (l := []) Byt.nil, hu⟩)
  go_enter Tryz.func31, Tryz.ntmps31
  go_upto_region 1 with fail
  rw [← hw1]
  clear hw1
  by_cases he : (fl m.kind).isEmpty = true
  · have HE := (show Hid (zCr m = 51) from zTo he)
    rw [he] at hK
    go_wp2_with (go_at_call 47; refine hK.mono ?_; rintro e w1 ⟨rfl, rfl⟩)
    go_ret2
    exact NIL.out B1 HE.out
  have he' : (fl m.kind).isEmpty = false := by simpa using he
  rw [he'] at hK
  have hne : fl m.kind ≠ [] := by intro e; rw [e] at he'; cases he'
  have hkd := zN9 hne
  have HF := zFq w1 m.kind hne
  clear he
  obtain ⟨mk, hmk⟩ : ∃ mk, mk = zFn m.kind := ⟨_, rfl⟩
  have hml : mk.length = 15 := by rw [hmk]; rfl
  have hmo : ∀ v ∈ mk, v.oneCell' = true := by rw [hmk]; exact zRt _
  have HMK := (show Hid (∀ q, q < 15 → mk[q]? = some (.bool ((fl m.kind).contains q))) from fun q hq => by rw [hmk]; exact marks_at _ hq)
  rw [← hmk] at HF
  clear hmk
  go_upto_region 3 with (go_at_call 47; refine hK.mono ?_; rintro e w1 ⟨rfl, rfl⟩)
  go_upto_region 4 with (first
    | (go_at_call 48; refine HF.mono ?_; rintro e w2 ⟨rfl, hb2⟩; have n2 := Row.new w2 92 no15)
    | (refine zA7 rfl _ _ _ rfl w2.heap.size mk rfl rfl _ _ n2 (by rw [hml]; rfl) (by rw [hml]; kernel_rfl) hmo ?_; intro w3 hr3 hg3))
  have q3 : Below w2.heap.size w2 w3 := (zA0 w2 (.cells no15.toArray 92)).trans (zA5 hg3 (by simp) (fun k hk => by cases hk; exact zN))
  have q13 := zA1 hb2 zN q3
  have B3 := zA1 B1 le q13
  have x3 := x1.below q13
  have h3 := hr3.out
  obtain ⟨bh, hbh⟩ : ∃ bh, bh = w2.heap.size := ⟨_, rfl⟩
  have hbhl : w.heap.size < bh := by rw [hbh]; exact Nat.lt_of_lt_of_le x1.lt hb2.size
  rw [← hbh] at h3 ⊢
  clear hbh hr3 hg3 n2 hb2 q3 q13 hK HF x1 B1 c0
  have c0 := x3.cell (j := 0) rfl
  have hN := zAq w3 (.slice none 0 0) false [] m.kind (Own.nil w3 5) (by simp)
  have hkk : cN.ok m.kind = true := zBm hkd.1 hkd.2
  go_upto_region 5 with (first
    | (go_at_call 59; refine hN.mono ?_; rintro e w4 ⟨v4, rfl, q4⟩; obtain ⟨ao4, n4, c4, rfl⟩ := zAg q4.own))
  obtain ⟨w5, hw5⟩ : ∃ w5, w5 = w4.alloc (.cells #[.slice ao4 n4 c4, .bool false] 109) := ⟨_, rfl⟩
  have r5 : Row w5 w4.heap.size 109 [.slice ao4 n4 c4, .bool false] := by rw [hw5]; exact Row.new w4 _ _
  have q5 : Below w4.heap.size w4 w5 := by rw [hw5]; exact zA0 _ _
  rw [← hw5]
  clear hw5
  have hb4 : Below w3.heap.size w3 w4 := q4.below (Fr.nil _) zN
  have q35 := zA1 hb4 zN q5
  have B5 := zA1 B3 le q35
  have x5 := x3.below q35
  have h5 := h3.below q35
  have o5 := q4.own.below q5
  have f5 : Fr w3.heap.size (.slice ao4 n4 c4) := q4.fr (Fr.nil _) zN
  obtain ⟨bo, hbo⟩ : ∃ bo, bo = w4.heap.size := ⟨_, rfl⟩
  have hbol : w3.heap.size ≤ bo := by rw [hbo]; exact hb4.size
  have hbhl3 : bh < w3.heap.size := h3.lt
  rw [← hbo] at r5 ⊢
  have hs3 : w3.heap.size ≤ w5.heap.size := q35.size
  have r5 : Row w5 bo 109 [.slice ao4 n4 c4, .bool (Bo m 0)] := r5
  have o5 : Own w5 5 (.slice ao4 n4 c4) (bc (Lo m 0)) := by
    have e : ([] ++ cN.wr m.kind : List Int) = Lo m 0 := by
      unfold Lo
      show zCm m.kind = zCm m.kind ++ zI8 m []
      simp [zI8]
    rw [← e]
    exact o5
  clear hbo q4 hb4 q5 q35 hN c0 x3 h3 hne hml hmo
  go_wp2_with fail
  go_loopw [6] (fun i wr => ∃ (q : Nat) (ak : Option Addr) (nk ck : Nat), q ≤ 15 ∧ i = .int .i64 q ∧ Row wr bo 109 [.slice ak nk ck, .bool (Bo m q)] ∧ Own wr 5 (.slice ak nk ck) (bc (Lo m q)) ∧ Fr w3.heap.size (.slice ak nk ck) ∧ Row wr w.heap.size 40 (mc m s) ∧ Row wr bh 92 mk ∧ Below w.heap.size w wr ∧ w3.heap.size ≤ wr.heap.size ∧ Hid (∀ j, j < q → (fl m.kind).contains j = false → zF m j = true)) (fun i _ => 15 - (intOf i).toNat)
  case atStart => exact ⟨0, ao4, n4, c4, by omega, rfl, r5, o5, f5, x5, h5, B5, hs3, fun j hj => by omega⟩
  case round =>
    clear r5 o5 f5 x5 h5 B5 hs3
    obtain ⟨q, ak, nk, ck, hq, rfl, ra, ho, hfr, rx, rh, hB, hs3, HZ⟩ := hrel
    have hwf : Fr w.heap.size (.slice ak nk ck) := hfr.mono (by omega)
    by_cases hql : q < 15
    · have ch := rh.cell (HMK.out q hql)
      have hq15 : (q : Int) < 15 := by omega
      have hlo := Lo_len m hq hz
      have hn0 := zA6 ra ho (by decide)
      have hn1 := zA6 rx ho (by decide)
      have hn2 := zA6 rh ho (by decide)
      cases hc : (fl m.kind).contains q with
      | true =>
        rw [hc] at ch
        have HL1 := (show Hid (Lo m q ++ (cF q).wr (get m q) = Lo m (q + 1)) from Lo_yes m hc)
        have HB1 := (show Hid ((Bo m q || !(cF q).ok (get m q)) = Bo m (q + 1)) from Bo_yes m hc)
        have HZ1 := (show Hid (∀ j, j < q + 1 → (fl m.kind).contains j = false → zF m j = true) from fun j hj hf => by
          rcases Nat.lt_or_ge j q with h1 | h1
          · exact HZ.out j h1 hf
          · obtain rfl : j = q := by omega
            rw [hc] at hf
            cases hf)
        have hF := zEh w wr (.slice ak nk ck) (Bo m q) (Lo m q) m s q hql hB hwf ho hs (by omega) hz
        clear hc
        go_wp2_with (first
          | (refine zAa rfl _ _ rfl bo rfl _ _ ra _ Tryz.underlying109 rfl (by kernel_rfl) ?_)
          | (refine zAa rfl _ _ rfl w.heap.size rfl _ _ rx _ Tryz.underlying40 rfl (by kernel_rfl) ?_)
          | (go_at_call 60; refine hF.mono ?_; rintro e w6 ⟨v6, rfl, q6⟩; obtain ⟨ao6, n6, c6, rfl⟩ := zAg q6.own; have ra6 := ra.grown q6.grown hn0)
          | (refine zA7 rfl _ _ _ rfl bo [.slice ao6 n6 c6, .bool (Bo m q || !(cF q).ok (get m q))] rfl rfl _ _ ra6 rfl (by kernel_rfl) zC9 ?_; intro w7 hr7 hg7))
        have hr7 := hr7.out
        have hb6 := q6.below hfr hs3
        have B6 : Below w.heap.size w w6 := hB.trans (hb6.mono (by omega))
        have B7 : Below w.heap.size w w7 := B6.trans (zA5 hg7 B6.size (fun k hk => by cases hk; omega))
        have o7 := q6.own.grown hg7 (fun k hk => by cases hk; exact zA6 ra6 q6.own (by decide))
        have rx7 := (rx.grown q6.grown hn1).grown hg7 (fun e => by injection e with e; omega)
        have rh7 := (rh.grown q6.grown hn2).grown hg7 (fun e => by injection e with e; omega)
        have f7 := q6.fr hfr hs3
        have s7 : w3.heap.size ≤ w7.heap.size := Nat.le_trans hs3 (Nat.le_trans q6.grown.size hg7.size)
        rw [HL1.out] at o7
        rw [HB1.out] at hr7
        go_roundw
        case rel => exact ⟨q + 1, ao6, n6, c6, by omega, by go_num, hr7, o7, f7, rx7, rh7, B7, s7, HZ1⟩
        case measure => simp [intOf]; omega
      | false =>
        rw [hc] at ch
        have HC := (show Hid ((fl m.kind).contains q = false) from hc)
        have hF1 := zEh w wr (.slice none 0 0) false [] m s q hql hB (Fr.nil _) (Own.nil wr _) hs (by simp only [List.length_nil]; omega) hz
        have HF2 := (show Hid (∀ u, Below w.heap.size w u → Calls Tryz.prog 60 #[.agg #[.slice none 0 0, .bool false], .agg (mc zAc sv0).toArray, .int .i64 (q : Int)] u (zCb (cF q) (get zAc q) u (.slice none 0 0) false [])) from fun u hu => zEh w u (.slice none 0 0) false [] zAc sv0 q hql hu (Fr.nil _) (Own.nil u _) (SOk.zero Any w 0) (by decide) (by decide))
        clear hc hn0 hn1 hn2 hwf hlo
        go_upto_region 11 with (first
          | (refine zAa rfl _ _ rfl w.heap.size rfl _ _ rx _ Tryz.underlying40 rfl (by kernel_rfl) ?_)
          | (go_at_call 60; refine (HF2.out w6 B6).mono ?_; rintro e w7 ⟨v7, rfl, q7⟩; obtain ⟨ao7, n7, c7, rfl⟩ := zAg q7.own)
          | (go_at_call 60; refine hF1.mono ?_; rintro e w6 ⟨v6, rfl, q6⟩; obtain ⟨ao6, n6, c6, rfl⟩ := zAg q6.own; have hb6 : Below wr.heap.size wr w6 := q6.below (Fr.nil _) zN; have B6 := zA1 hB le hb6))
        obtain ⟨w8, hw8⟩ : ∃ w8, w8 = (w7.alloc (.cells #[.slice ao6 n6 c6, .bool (!(cF q).ok (get m q))] 109)).alloc (.cells #[.slice ao7 n7 c7, .bool (!(cF q).ok (get zAc q))] 109) := ⟨_, rfl⟩
        have ry : Row w8 w7.heap.size 109 [.slice ao6 n6 c6, .bool (!(cF q).ok (get m q))] := by rw [hw8]; exact zA4 (Row.new w7 _ _) _
        have rz : Row w8 (w7.heap.size + 1) 109 [.slice ao7 n7 c7, .bool (!(cF q).ok (get zAc q))] := by
          rw [hw8]
          have := Row.new (w7.alloc (.cells #[.slice ao6 n6 c6, .bool (!(cF q).ok (get m q))] 109)) 109 [.slice ao7 n7 c7, .bool (!(cF q).ok (get zAc q))]
          simpa using this
        have q8 : Below w7.heap.size w7 w8 := by rw [hw8]; exact zA1 (zA0 _ _) zN (zA0 _ _)
        rw [← hw8]
        clear hw8
        have hb7 : Below w6.heap.size w6 w7 := q7.below (Fr.nil _) zN
        have q68 := zA1 hb7 zN q8
        have qr8 := zA1 hb6 zN q68
        have B8 := zA1 hB le qr8
        have r6 : Rd w8 (.slice ao6 n6 c6) (wrF m q) := (q6.own.rd (hs.byt hz hql)).below q68
        have r7 : Rd w8 (.slice ao7 n7 c7) (wrF zAc q) := (q7.own.rd ((SOk.zero Any w 0).byt (by decide) hql)).below q8
        have ra8 := ra.below qr8
        have rx8 := rx.below qr8
        have rh8 := rh.below qr8
        have o8 := ho.below qr8
        have s8 : w3.heap.size ≤ w8.heap.size := Nat.le_trans hs3 qr8.size
        have hS := zKv w8 _ _ _ _ r6 r7
        have HZR := (show Hid (zF m q = (okF m q && decide (wrF m q = wrF zAc q))) from zF_ref m hql)
        have y0 := ry.cell (j := 0) rfl
        have y1 := ry.cell (j := 1) rfl
        have z0 := rz.cell (j := 0) rfl
        have HL1 := (show Hid (Lo m (q + 1) = Lo m q) from Lo_no m HC.out)
        have HB1 := (show Hid (Bo m (q + 1) = Bo m q) from Bo_no m HC.out)
        clear q6 q7 hb6 hb7 q8 q68 qr8 hF1 HF2 ra rx rh ho r6 r7 ry rz B6 ch
        cases hok : (cF q).ok (get m q) with
        | false =>
          rw [hok] at y1
          have HE := (show Hid (zCr m = 51) from zLk hql HC.out (by rw [HZR.out]; unfold okF; rw [hok]; rfl))
          clear hok
          go_wp2_with fail
          go_ret2
          exact NIL.out B8 HE.out
        | true =>
          rw [hok] at y1
          by_cases hsm : wrF m q = wrF zAc q
          · rw [decide_eq_true hsm] at hS
            have HZ1 := (show Hid (∀ j, j < q + 1 → (fl m.kind).contains j = false → zF m j = true) from fun j hj hf => by
              rcases Nat.lt_or_ge j q with h1 | h1
              · exact HZ.out j h1 hf
              · obtain rfl : j = q := by omega
                rw [HZR.out, decide_eq_true hsm]
                unfold okF
                rw [hok]
                rfl)
            clear hok hsm
            go_wp2_with (go_at_call 11; refine hS.mono ?_; rintro e w8 ⟨rfl, rfl⟩)
            go_roundw
            case rel => exact ⟨q + 1, ak, nk, ck, by omega, by go_num, by rw [HB1.out]; exact ra8, by rw [HL1.out]; exact o8, hfr, rx8, rh8, B8, s8, HZ1⟩
            case measure => simp [intOf]; omega
          · rw [decide_eq_false hsm] at hS
            have HE := (show Hid (zCr m = 51) from zLk hql HC.out (by rw [HZR.out, decide_eq_false hsm, Bool.and_false]))
            clear hok hsm
            go_wp2_with (go_at_call 11; refine hS.mono ?_; rintro e w8 ⟨rfl, rfl⟩)
            go_ret2
            exact NIL.out B8 HE.out
    · obtain rfl : q = 15 := by omega
      have hform : nk = (byM m).length := by
        obtain ⟨ao', cap', e, _⟩ := ho.form
        injection e with _ e _
        rw [e, zAn, zSn]
      subst hform
      have d0 := ra.cell (j := 0) rfl
      have d1 := ra.cell (j := 1) rfl
      have hlo := Lo_len m hq hz
      rw [zSn] at hlo
      cases hb : Bo m 15 with
      | true =>
        rw [hb] at d1
        have HE := (show Hid (zCr m = 51) from enc_bad hb)
        clear hb
        go_wp2_with fail
        go_ret2
        exact NIL.out hB HE.out
      | false =>
        rw [hb] at d1
        have HG := (show Hid (zFi m = false) from enc_good he' HZ.out hb)
        have hby : Byt (byM m) := (zHg _).app (zPs hs hz fun i hi => zFk (zEn _) i hi)
        rw [zSn] at ho
        have HRD := (show Hid (Rd wr (.slice ak (byM m).length ck) (byM m)) from ho.rd hby)
        have HEE := (show Hid (zCr m = if 1048576 < (byM m).length then 53 else 0) by show _ = _; unfold zCr; rw [HG.out]; rfl)
        have HEB := (show Hid (zCr m = 0 → zEj m = byM m) from fun e => by unfold zEj; rw [if_pos e])
        clear hb ho hby
        by_cases hbig : 1048576 < (byM m).length
        · have hbig' : (1048576 : Int) < (byM m).length := by omega
          go_wp2_with fail
          go_ret2
          have e : zCr m = 53 := by rw [HEE.out, if_pos hbig]
          exact ⟨_, by rw [e]; rfl, by rw [zSu (by rw [e]; decide)]; exact (Own.nil wr 5).rd (l := []) Byt.nil, hB⟩
        · have hbig' : decide ((1048576 : Int) < (byM m).length) = false := by simp; omega
          go_wp2_with fail
          go_ret2
          have e : zCr m = 0 := by rw [HEE.out, if_neg hbig]
          exact ⟨_, by rw [e]; rfl, by rw [HEB.out e]; exact HRD.out, hB⟩
end Go.Proofs.YtgjepofinpmcpaaGreatDoor
