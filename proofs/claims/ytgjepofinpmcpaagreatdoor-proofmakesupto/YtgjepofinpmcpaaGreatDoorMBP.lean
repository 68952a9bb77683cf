/- The document's writing: fields 0, 12, 13, 14. -/
import Derived.Test.YtgjepofinpmcpaaGreatDoorMBK
set_option linter.unusedSimpArgs false
set_option linter.unusedVariables false
namespace Go.Proofs.YtgjepofinpmcpaaGreatDoor
open Go.RowKit Oct
theorem zOx (y : zF8) : (zBr.wr y).length ≤ 20 * bR y := by
  show ((zCm y.1.1 ++ zCm y.1.2) ++ (zCm y.2.1 ++ (zCm y.2.2.1 ++ (cT.wr y.2.2.2.1 ++ ((cL zAi).wr y.2.2.2.2.1 ++ ((cL zAo).wr y.2.2.2.2.2.1 ++ cT.wr y.2.2.2.2.2.2)))))).length ≤ _
  have h1 := zBl y.1.1
  have h2 := zBl y.1.2
  have h3 := zBl y.2.1
  have h4 := zBl y.2.2.1
  have h5 := cT_b y.2.2.2.1
  have h6 := cT_b y.2.2.2.2.2.2
  have h7 := zG0 zAi zDl y.2.2.2.2.1
  have h8 := zG0 zAo zHz y.2.2.2.2.2.1
  simp only [List.length_append, bR]
  omega
set_option maxRecDepth 10000 in
set_option maxHeartbeats 4000000 in
theorem zQ7 (w0 w : World) (sv : Value) (bad : Bool) (L : List Int) (m : PMsg) (s : SV) (hB0 : Below w0.heap.size w0 w) (hf : Fr w0.heap.size sv) (hown : Own w 5 sv (bc L)) (hs : SOk Any w0 m s) (hl : L.length + bM m * 20 ≤ 140718000000000) (hz : bM m ≤ 1100000) :
    Calls Tryz.prog 60 #[.agg #[sv, .bool bad], .agg (mc m s).toArray, .int .i64 0] w (zCb (cF 0) (get m 0) w sv bad L) := by
  obtain ⟨a2, w2, ra, rb, rr, hB, hw2, hw3⟩ := zBh w sv bad m s
  have hBw0 := zA1 hB0 zN hB
  have hoL := hown.below hB
  have hne0 := zA6 ra hoL (by decide)
  have hne1 := zA6 rb hoL (by decide)
  have hne2 := zA6 rr hoL (by decide)
  simp only [bM] at hl hz
  have HK := (show Hid (∀ u, w2.grownBy u sv.ownBlock → (u.cell? ⟨w.heap.size, 0, none⟩ = some sv ∧ u.cell? ⟨w.heap.size, 1, none⟩ = some (.bool bad)) ∧ u.cell? ⟨w.heap.size + 1, 1, none⟩ = some (.int .i64 m.bal.1) ∧ u.cell? ⟨w.heap.size + 1, 2, none⟩ = some (.int .i64 m.bal.2)) from fun u hu => ⟨⟨(ra.grown hu hne0).cell (j := 0) rfl, (ra.grown hu hne0).cell (j := 1) rfl⟩, (rb.grown hu hne1).cell (j := 1) rfl, (rb.grown hu hne1).cell (j := 2) rfl⟩)
  have hdw : Below w2.heap.size w2 w2.drew := ⟨rfl, rfl, rfl, zN, fun _ _ => rfl⟩
  have gd : w2.grownBy w2.drew sv.ownBlock := zA8 hdw _
  have HN1 := (show Hid (∀ _ : Unit, _) from fun _ => zAq w2.drew sv bad L m.bal.1 hoL.drew (by omega))
  have HL2 := (show Hid ((L ++ cN.wr m.bal.1).length ≤ 140737488355300) by show _ ≤ _; rw [List.length_append]; have := zBk m.bal.1; omega)
  go_enter Tryz.func60, Tryz.ntmps60
  go_upto_region 1 with fail
  rw [← hw2, ← hw3]
  clear hw2 hw3
  go_wp2_with fail
  go_region_held3 (fun u => (u.cell? ⟨w.heap.size, 0, none⟩ = some sv ∧ u.cell? ⟨w.heap.size, 1, none⟩ = some (.bool bad)) ∧ u.cell? ⟨w.heap.size + 1, 1, none⟩ = some (.int .i64 m.bal.1) ∧ u.cell? ⟨w.heap.size + 1, 2, none⟩ = some (.int .i64 m.bal.2))
    (first | exact HK.out _ (by assumption) | exact ⟨⟨zAu (HK.out w4 gg4).1.1 (by show ¬ (w.heap.size = w.heap.size + 1 + 1); omega), zAu (HK.out w4 gg4).1.2 (by show ¬ (w.heap.size = w.heap.size + 1 + 1); omega)⟩, zAu (HK.out w4 gg4).2.1 (by show ¬ (w.heap.size + 1 = w.heap.size + 1 + 1); omega), zAu (HK.out w4 gg4).2.2 (by show ¬ (w.heap.size + 1 = w.heap.size + 1 + 1); omega)⟩ | go_keep)
    (first
      | (go_at_call 59; refine (zAq w3 _ _ _ _ a3.own HL2.out).mono ?_; rintro e w4 ⟨v4, rfl, q4⟩; have a4 := a3.trans q4; have gg4 := a4.grown'; obtain ⟨ao4, n4, c4, rfl⟩ := zAg a4.own; have rr4 := rr.grown gg4 hne2; have d0 := rr4.cell (j := 0) rfl; have d1 := rr4.cell (j := 1) rfl; have z0 := rr4.frozen 0; have z1 := rr4.frozen 1)
      | (go_at_call 59; refine (HN1.out ()).mono ?_; rintro e w3 ⟨v3, rfl, q3⟩; have a3 := App.pre hdw q3; have gg3 := a3.grown'))
  have hap := App.pre hB a4
  have ho := App.box hap (by omega) rr4 (.slice ao4 n4 c4) (.bool ((bad || !cN.ok m.bal.1) || !cN.ok m.bal.2))
  have hr := (rr4.set 0 (.slice ao4 n4 c4)).set 1 (.bool ((bad || !cN.ok m.bal.1) || !cN.ok m.bal.2))
  go_wp2_with fail
  refine bodyPost_ret (v := .agg ([.slice ao4 n4 c4, .bool ((bad || !cN.ok m.bal.1) || !cN.ok m.bal.2)] : List Value).toArray) (results_cell_row rfl _ _ (w.heap.size + 2) _ _ (0, 0) _ (by rfl) hr Tryz.underlying109 rfl (by kernel_rfl)) rfl ?_
  refine zCb.end ho ?_ ?_
  · show _ = L ++ (cN.wr m.bal.1 ++ cN.wr m.bal.2)
    rw [List.append_assoc]
  · show _ = (bad || !(cN.ok m.bal.1 && cN.ok m.bal.2))
    simp [Bool.or_assoc]
set_option maxRecDepth 10000 in
set_option maxHeartbeats 4000000 in
theorem zN1 (w0 w : World) (sv : Value) (bad : Bool) (L : List Int) (m : PMsg) (s : SV) (hB0 : Below w0.heap.size w0 w) (hf : Fr w0.heap.size sv) (hown : Own w 5 sv (bc L)) (hs : SOk Any w0 m s) (hl : L.length + bM m * 20 ≤ 140718000000000) (hz : bM m ≤ 1100000) :
    Calls Tryz.prog 60 #[.agg #[sv, .bool bad], .agg (mc m s).toArray, .int .i64 12] w (zCb (cF 12) (get m 12) w sv bad L) := by
  obtain ⟨a2, w2, ra, rb, rr, hB, hw2, hw3⟩ := zBh w sv bad m s
  have hBw0 := zA1 hB0 zN hB
  have hoL := hown.below hB
  have hne0 := zA6 ra hoL (by decide)
  have hne1 := zA6 rb hoL (by decide)
  have hne2 := zA6 rr hoL (by decide)
  simp only [bM] at hl hz
  obtain ⟨al, cl, hfe, hcl⟩ := hs.n.form
  have c1 := rb.cell (j := 20) rfl
  rw [hfe] at c1
  have HX := (show Hid (0 < m.order.length → ∃ b off, al = some ⟨b, off, none⟩ ∧ b < w0.heap.size ∧ ∀ (i : Nat) (a : Int), m.order[i]? = some a → ∃ r, r.length = 1 ∧ w0.rangeAt b (off + i * 1) r ∧ zG2 Any w0 r a) from fun h0 => by
    obtain ⟨b, off, c', e, _, _, _, hbb, hx⟩ := hs.n.at h0
    rw [hfe] at e
    injection e with e1 e2 e3
    exact ⟨b, off, e1, hbb, hx⟩)
  have hM := zCz w2 sv bad L (m.order.length : Int) hoL (by omega)
  have hlen := zIs (f := (fun _ : Int => 1)) (fun y => by omega) m.order
  have hlz : m.order.length ≤ 2000000 := by simp only [bL] at hz; omega
  have HLE := (show Hid (∀ (q : Nat) (a : Int), m.order[q]? = some a → (Lq cN L m.order q).length + 20 * (fun _ : Int => 1) a ≤ 140718900000000 ∧ (fun _ : Int => 1) a ≤ 1100000) from fun q a ha => by have h1 := zI7 cN (f := (fun _ : Int => 1)) (fun n => Nat.le_trans (zBk n) (by decide)) L m.order q; have h2 := zE4 (f := (fun _ : Int => 1)) (List.mem_of_getElem? ha); simp only [bL] at *; omega)
  have HBA := (show Hid (Bq cN bad m.order m.order.length = (bad || !(cL cN).ok m.order)) from zMc _ _ _ (by omega))
  clear hlen
  go_enter Tryz.func60, Tryz.ntmps60
  go_upto_region 1 with fail
  rw [← hw2, ← hw3]
  clear hw2 hw3
  go_upto_region 28 with (first
    | (refine zAa rfl _ _ rfl w.heap.size rfl _ _ ra _ Tryz.underlying109 rfl (by kernel_rfl) ?_)
    | (go_at_call 104; refine hM.mono ?_; rintro e w3 ⟨v3, rfl, q3⟩; obtain ⟨ao3, n3, c3, rfl⟩ := zAg q3.own; have ra3 := ra.grown q3.grown hne0)
    | (refine zA7 rfl _ _ _ rfl w.heap.size [.slice ao3 n3 c3, .bool (bad || !cMn.ok (m.order.length : Int))] rfl rfl _ _ ra3 rfl (by kernel_rfl) zC9 ?_; intro w4 hr4 hg4))
  have hr4 := hr4.out
  have rb4 := (rb.grown q3.grown hne1).grown hg4 (fun e => by injection e with e; omega)
  have rr4 := (rr.grown q3.grown hne2).grown hg4 (fun e => by injection e with e; omega)
  have ha4 := App.after (App.pre hB q3) zN hg4 (zA6 ra3 q3.own (by decide))
  rw [zHr cN] at ha4
  rw [zIa cN] at hr4
  have c2 := rb4.cell (j := 20) rfl
  rw [hfe] at c2
  clear hg4 q3 ra3 hM c1 ra rb rr hne0 hne1 hne2 hoL hcl hl hz hown hfe hs
  go_wp2_with fail
  go_loopw [101] (fun i wr => ∃ (q : Nat) (ak : Option Addr) (nk ck : Nat), q ≤ m.order.length ∧ i = .int .i64 q ∧ Row wr w.heap.size 109 [.slice ak nk ck, .bool (Bq cN bad m.order q)] ∧ Row wr (w.heap.size + 2) 109 [.slice none 0 0, .bool false] ∧ App w 5 sv wr (.slice ak nk ck) (bc (Lq cN L m.order q))) (fun i _ => m.order.length - (intOf i).toNat)
  case atStart => exact ⟨0, ao3, n3, c3, by omega, rfl, hr4, rr4, ha4⟩
  case round =>
    clear hr4 rr4 ha4 c2 rb4
    obtain ⟨q, ak, nk, ck, hq, rfl, ra, rr, ap⟩ := hrel
    by_cases hql : q < m.order.length
    · obtain ⟨bb, off, rfl, hbb, hx⟩ := HX.out (by omega)
      obtain ⟨a, ha⟩ : ∃ a, m.order[q]? = some a := ⟨_, List.getElem?_eq_getElem hql⟩
      obtain ⟨hle, hbz⟩ := HLE.out q a ha
      have HSL := (show Hid (Lq cN L m.order q ++ cN.wr a = Lq cN L m.order (q + 1)) from zIo _ _ _ ha)
      have HSB := (show Hid ((Bq cN bad m.order q || !cN.ok a) = Bq cN bad m.order (q + 1)) from zIp _ _ _ ha)
      have hBr := hB0.trans (ap.below hf hB0.size)
      have hlt := rr.lt
      obtain ⟨r, _, hrng, rfl⟩ := hx q a ha
      have d0 : wr.cell? ⟨bb, off + q, none⟩ = some (.int .i64 a) := by have := zAw hrng (hBr.block bb hbb) 0 _ rfl; simpa using this
      have hN := zAq wr (.slice ak nk ck) (Bq cN bad m.order q) (Lq cN L m.order q) a ap.own (by omega)
      have hn0 := zA6 ra ap.own (by decide)
      have hn2 := zA6 rr ap.own (by decide)
      have rrx := rr
      have apx := ap
      clear ha hx hrng
      go_wp2_with (first
        | (refine zAa rfl _ _ rfl w.heap.size rfl _ _ ra _ Tryz.underlying109 rfl (by kernel_rfl) ?_)
        | (go_at_call 59; refine hN.mono ?_; rintro e w6 ⟨v6, rfl, q6⟩; obtain ⟨ao6, n6, c6, rfl⟩ := zAg q6.own; have ra6 := ra.grown q6.grown hn0)
        | (refine zA7 rfl _ _ _ rfl w.heap.size [.slice ao6 n6 c6, .bool (Bq cN bad m.order q || !cN.ok a)] rfl rfl _ _ ra6 rfl (by kernel_rfl) zC9 ?_; intro w7 hr7 hg7))
      have hr7 := hr7.out
      have rr7 := (rrx.grown q6.grown hn2).grown hg7 (fun e => by injection e with e; omega)
      have ap7 := App.after (apx.trans q6) zN hg7 (zA6 ra6 q6.own (by decide))
      rw [HSL.out] at ap7
      rw [HSB.out] at hr7
      go_roundw
      case rel => exact ⟨q + 1, ao6, n6, c6, by omega, by go_num, hr7, rr7, ap7⟩
      case measure => simp [intOf]; omega
    · obtain rfl : q = m.order.length := by omega
      have hqd : decide ((m.order.length : Int) < m.order.length) = false := by simp
      rw [HBA.out] at ra
      rw [zHv] at ap
      go_wp2_with (first
        | (refine zAa rfl _ _ rfl w.heap.size rfl _ _ ra _ Tryz.underlying109 rfl (by kernel_rfl) ?_)
        | (refine zA7 rfl _ _ _ rfl (w.heap.size + 2) [.slice ak nk ck, .bool (bad || !(cL cN).ok m.order)] rfl rfl _ _ rr rfl (by kernel_rfl) zC9 ?_; intro w6 hr6 hg6))
      have hr6 := hr6.out
      refine bodyPost_ret (v := .agg ([.slice ak nk ck, .bool (bad || !(cL cN).ok m.order)] : List Value).toArray) (results_cell_row rfl _ _ (w.heap.size + 2) _ _ (0, 0) _ (by rfl) hr6 Tryz.underlying109 rfl (by kernel_rfl)) rfl ?_
      exact ⟨_, rfl, App.after ap (by omega) hg6 (zA6 rr ap.own (by decide))⟩
set_option maxRecDepth 10000 in
set_option maxHeartbeats 4000000 in
theorem zMx (w0 w : World) (sv : Value) (bad : Bool) (L : List Int) (m : PMsg) (s : SV) (hB0 : Below w0.heap.size w0 w) (hf : Fr w0.heap.size sv) (hown : Own w 5 sv (bc L)) (hs : SOk Any w0 m s) (hl : L.length + bM m * 20 ≤ 140718000000000) (hz : bM m ≤ 1100000) :
    Calls Tryz.prog 60 #[.agg #[sv, .bool bad], .agg (mc m s).toArray, .int .i64 13] w (zCb (cF 13) (get m 13) w sv bad L) := by
  obtain ⟨a2, w2, ra, rb, rr, hB, hw2, hw3⟩ := zBh w sv bad m s
  have hBw0 := zA1 hB0 zN hB
  have hoL := hown.below hB
  have hne0 := zA6 ra hoL (by decide)
  have hne1 := zA6 rb hoL (by decide)
  have hne2 := zA6 rr hoL (by decide)
  simp only [bM] at hl hz
  obtain ⟨al, cl, hfe, hcl⟩ := hs.p.form
  have c1 := rb.cell (j := 21) rfl
  rw [hfe] at c1
  have HX := (show Hid (0 < m.picks.length → ∃ b off, al = some ⟨b, off, none⟩ ∧ b < w0.heap.size ∧ ∀ (i : Nat) (a : zB3), m.picks[i]? = some a → ∃ r, r.length = 4 ∧ w0.rangeAt b (off + i * 4) r ∧ zCs Any w0 r a) from fun h0 => by
    obtain ⟨b, off, c', e, _, _, _, hbb, hx⟩ := hs.p.at h0
    rw [hfe] at e
    injection e with e1 e2 e3
    exact ⟨b, off, e1, hbb, hx⟩)
  have hM := zCz w2 sv bad L (m.picks.length : Int) hoL (by omega)
  have hlen := zIs (f := bQ) (fun y => by simp only [bQ]; omega) m.picks
  have hlz : m.picks.length ≤ 2000000 := by simp only [bL] at hz; omega
  have HLE := (show Hid (∀ (q : Nat) (a : zB3), m.picks[q]? = some a → (Lq zBc L m.picks q).length + 20 * bQ a ≤ 140718900000000 ∧ bQ a ≤ 1100000) from fun q a ha => by have h1 := zI7 zBc (f := bQ) zF4 L m.picks q; have h2 := zE4 (f := bQ) (List.mem_of_getElem? ha); simp only [bL] at *; omega)
  have HBA := (show Hid (Bq zBc bad m.picks m.picks.length = (bad || !(cL zBc).ok m.picks)) from zMc _ _ _ (by omega))
  clear hlen
  go_enter Tryz.func60, Tryz.ntmps60
  go_upto_region 1 with fail
  rw [← hw2, ← hw3]
  clear hw2 hw3
  go_upto_region 36 with (first
    | (refine zAa rfl _ _ rfl w.heap.size rfl _ _ ra _ Tryz.underlying109 rfl (by kernel_rfl) ?_)
    | (go_at_call 104; refine hM.mono ?_; rintro e w3 ⟨v3, rfl, q3⟩; obtain ⟨ao3, n3, c3, rfl⟩ := zAg q3.own; have ra3 := ra.grown q3.grown hne0)
    | (refine zA7 rfl _ _ _ rfl w.heap.size [.slice ao3 n3 c3, .bool (bad || !cMn.ok (m.picks.length : Int))] rfl rfl _ _ ra3 rfl (by kernel_rfl) zC9 ?_; intro w4 hr4 hg4))
  have hr4 := hr4.out
  have rb4 := (rb.grown q3.grown hne1).grown hg4 (fun e => by injection e with e; omega)
  have rr4 := (rr.grown q3.grown hne2).grown hg4 (fun e => by injection e with e; omega)
  have ha4 := App.after (App.pre hB q3) zN hg4 (zA6 ra3 q3.own (by decide))
  rw [zHr zBc] at ha4
  rw [zIa zBc] at hr4
  have c2 := rb4.cell (j := 21) rfl
  rw [hfe] at c2
  clear hg4 q3 ra3 hM c1 ra rb rr hne0 hne1 hne2 hoL hcl hl hz hown hfe hs
  go_wp2_with fail
  go_loopw [120] (fun i wr => ∃ (q : Nat) (ak : Option Addr) (nk ck : Nat), q ≤ m.picks.length ∧ i = .int .i64 q ∧ Row wr w.heap.size 109 [.slice ak nk ck, .bool (Bq zBc bad m.picks q)] ∧ Row wr (w.heap.size + 2) 109 [.slice none 0 0, .bool false] ∧ App w 5 sv wr (.slice ak nk ck) (bc (Lq zBc L m.picks q))) (fun i _ => m.picks.length - (intOf i).toNat)
  case atStart => exact ⟨0, ao3, n3, c3, by omega, rfl, hr4, rr4, ha4⟩
  case round =>
    clear hr4 rr4 ha4 c2 rb4
    obtain ⟨q, ak, nk, ck, hq, rfl, ra, rr, ap⟩ := hrel
    by_cases hql : q < m.picks.length
    · obtain ⟨bb, off, rfl, hbb, hx⟩ := HX.out (by omega)
      obtain ⟨a, ha⟩ : ∃ a, m.picks[q]? = some a := ⟨_, List.getElem?_eq_getElem hql⟩
      obtain ⟨hle, hbz⟩ := HLE.out q a ha
      have HSL := (show Hid (Lq zBc L m.picks q ++ zBc.wr a = Lq zBc L m.picks (q + 1)) from zIo _ _ _ ha)
      have HSB := (show Hid ((Bq zBc bad m.picks q || !zBc.ok a) = Bq zBc bad m.picks (q + 1)) from zIp _ _ _ ha)
      have hBr := hB0.trans (ap.below hf hB0.size)
      have hlt := rr.lt
      obtain ⟨r, _, hrng, so, sg, rfl, hso, hsg⟩ := hx q a ha
      have hrng := zAw hrng (hBr.block bb hbb)
      have hrow0 := Row.new wr 34 [.int .i64 0, .int .i64 0, .slice none 0 0, .slice none 0 0]
      have y1 : a.2.2.1.length ≤ 2147483647 := by simp only [bQ, bT] at hbz; omega
      have y2 : a.2.2.2.length ≤ 2147483647 := by simp only [bQ, bT] at hbz; omega
      have HQ := (show Hid (zCs Any w0 [.int .i64 a.1, .int .i64 a.2.1, so, sg] a) from ⟨_, _, rfl, hso, hsg⟩)
      have o1 := hso.one
      have o2 := hsg.one
      have hone : ∀ z ∈ ([.int .i64 a.1, .int .i64 a.2.1, so, sg] : List Value), z.oneCell' = true := by
        intro z hz
        simp only [List.mem_cons, List.not_mem_nil, or_false] at hz
        rcases hz with rfl | rfl | rfl | rfl <;> first | rfl | assumption
      clear ha hx hso hsg
      go_upto_region 39 with (first
        | (refine wpList_load_mid rfl _ _ rfl bb (off + q * 4) rfl [.int .i64 a.1, .int .i64 a.2.1, so, sg] _ hrng Tryz.underlying34 rfl (by kernel_rfl) ?_)
        | (refine zA7 rfl _ _ _ rfl wr.heap.size [.int .i64 a.1, .int .i64 a.2.1, so, sg] rfl rfl _ _ hrow0 rfl (by kernel_rfl) hone ?_; intro w5 hr5 hg5))
      have hb5 : Below wr.heap.size wr w5 := (zA0 wr (.cells ([.int .i64 0, .int .i64 0, .slice none 0 0, .slice none 0 0] : List Value).toArray 34)).trans (zA5 hg5 (by simp) (fun k hk => by cases hk; exact zN))
      have rv := hr5.out
      have ap5 : App w 5 sv w5 (.slice ak nk ck) (bc (Lq zBc L m.picks q)) := ⟨ap.own.below hb5, zA2 ap.grown (zA8 hb5 none) (.inr fun k hk => by cases hk), ap.spot⟩
      have ra5 := ra.below hb5
      have rrx := rr.below hb5
      have apx := ap5
      have hB5 := zA1 hBr zN hb5
      have hf5 : Fr w0.heap.size (.slice ak nk ck) := ap.fr hf hB0.size
      have hN := zEx w0 w5 (.slice ak nk ck) (Bq zBc bad m.picks q) (Lq zBc L m.picks q) [.int .i64 a.1, .int .i64 a.2.1, so, sg] a hB5 hf5 ap5.own HQ.out (by omega) y1 y2
      have hn0 := zA6 ra5 ap5.own (by decide)
      have hn2 := zA6 rrx ap5.own (by decide)
      clear hrng hrow0 hone hg5 hr5 ra rr ap hb5
      try go_simp
      go_wp2_with (first
        | (refine zAa rfl _ _ rfl w.heap.size rfl _ _ ra5 _ Tryz.underlying109 rfl (by kernel_rfl) ?_)
        | (refine zAa rfl _ _ rfl wr.heap.size rfl _ _ rv _ Tryz.underlying34 rfl (by kernel_rfl) ?_)
        | (go_at_call 101; refine hN.mono ?_; rintro e w6 ⟨v6, rfl, q6⟩; obtain ⟨ao6, n6, c6, rfl⟩ := zAg q6.own; have ra6 := ra5.grown q6.grown hn0)
        | (refine zA7 rfl _ _ _ rfl w.heap.size [.slice ao6 n6 c6, .bool (Bq zBc bad m.picks q || !zBc.ok a)] rfl rfl _ _ ra6 rfl (by kernel_rfl) zC9 ?_; intro w7 hr7 hg7))
      have hr7 := hr7.out
      have rr7 := (rrx.grown q6.grown hn2).grown hg7 (fun e => by injection e with e; omega)
      have ap7 := App.after (apx.trans q6) zN hg7 (zA6 ra6 q6.own (by decide))
      rw [HSL.out] at ap7
      rw [HSB.out] at hr7
      go_roundw
      case rel => exact ⟨q + 1, ao6, n6, c6, by omega, by go_num, hr7, rr7, ap7⟩
      case measure => simp [intOf]; omega
    · obtain rfl : q = m.picks.length := by omega
      have hqd : decide ((m.picks.length : Int) < m.picks.length) = false := by simp
      rw [HBA.out] at ra
      rw [zHv] at ap
      go_wp2_with (first
        | (refine zAa rfl _ _ rfl w.heap.size rfl _ _ ra _ Tryz.underlying109 rfl (by kernel_rfl) ?_)
        | (refine zA7 rfl _ _ _ rfl (w.heap.size + 2) [.slice ak nk ck, .bool (bad || !(cL zBc).ok m.picks)] rfl rfl _ _ rr rfl (by kernel_rfl) zC9 ?_; intro w6 hr6 hg6))
      have hr6 := hr6.out
      refine bodyPost_ret (v := .agg ([.slice ak nk ck, .bool (bad || !(cL zBc).ok m.picks)] : List Value).toArray) (results_cell_row rfl _ _ (w.heap.size + 2) _ _ (0, 0) _ (by rfl) hr6 Tryz.underlying109 rfl (by kernel_rfl)) rfl ?_
      exact ⟨_, rfl, App.after ap (by omega) hg6 (zA6 rr ap.own (by decide))⟩
set_option maxRecDepth 10000 in
set_option maxHeartbeats 4000000 in
theorem zNd (w0 w : World) (sv : Value) (bad : Bool) (L : List Int) (m : PMsg) (s : SV) (hB0 : Below w0.heap.size w0 w) (hf : Fr w0.heap.size sv) (hown : Own w 5 sv (bc L)) (hs : SOk Any w0 m s) (hl : L.length + bM m * 20 ≤ 140718000000000) (hz : bM m ≤ 1100000) :
    Calls Tryz.prog 60 #[.agg #[sv, .bool bad], .agg (mc m s).toArray, .int .i64 14] w (zCb (cF 14) (get m 14) w sv bad L) := by
  obtain ⟨a2, w2, ra, rb, rr, hB, hw2, hw3⟩ := zBh w sv bad m s
  have hBw0 := zA1 hB0 zN hB
  have hoL := hown.below hB
  have hne0 := zA6 ra hoL (by decide)
  have hne1 := zA6 rb hoL (by decide)
  have hne2 := zA6 rr hoL (by decide)
  simp only [bM] at hl hz
  obtain ⟨al, cl, hfe, hcl⟩ := hs.l.form
  have c1 := rb.cell (j := 22) rfl
  rw [hfe] at c1
  have HX := (show Hid (0 < m.reps.length → ∃ b off, al = some ⟨b, off, none⟩ ∧ b < w0.heap.size ∧ ∀ (i : Nat) (a : zF8), m.reps[i]? = some a → ∃ r, r.length = 8 ∧ w0.rangeAt b (off + i * 8) r ∧ zDo Any w0 r a) from fun h0 => by
    obtain ⟨b, off, c', e, _, _, _, hbb, hx⟩ := hs.l.at h0
    rw [hfe] at e
    injection e with e1 e2 e3
    exact ⟨b, off, e1, hbb, hx⟩)
  have hM := zCz w2 sv bad L (m.reps.length : Int) hoL (by omega)
  have hlen := zIs (f := bR) (fun y => by simp only [bR]; omega) m.reps
  have hlz : m.reps.length ≤ 2000000 := by simp only [bL] at hz; omega
  have HLE := (show Hid (∀ (q : Nat) (a : zF8), m.reps[q]? = some a → (Lq zBr L m.reps q).length + 20 * bR a ≤ 140718900000000 ∧ bR a ≤ 1100000) from fun q a ha => by have h1 := zI7 zBr (f := bR) zOx L m.reps q; have h2 := zE4 (f := bR) (List.mem_of_getElem? ha); simp only [bL] at *; omega)
  have HBA := (show Hid (Bq zBr bad m.reps m.reps.length = (bad || !(cL zBr).ok m.reps)) from zMc _ _ _ (by omega))
  clear hlen
  go_enter Tryz.func60, Tryz.ntmps60
  go_upto_region 1 with fail
  rw [← hw2, ← hw3]
  clear hw2 hw3
  go_upto_region 43 with (first
    | (refine zAa rfl _ _ rfl w.heap.size rfl _ _ ra _ Tryz.underlying109 rfl (by kernel_rfl) ?_)
    | (go_at_call 104; refine hM.mono ?_; rintro e w3 ⟨v3, rfl, q3⟩; obtain ⟨ao3, n3, c3, rfl⟩ := zAg q3.own; have ra3 := ra.grown q3.grown hne0)
    | (refine zA7 rfl _ _ _ rfl w.heap.size [.slice ao3 n3 c3, .bool (bad || !cMn.ok (m.reps.length : Int))] rfl rfl _ _ ra3 rfl (by kernel_rfl) zC9 ?_; intro w4 hr4 hg4))
  have hr4 := hr4.out
  have rb4 := (rb.grown q3.grown hne1).grown hg4 (fun e => by injection e with e; omega)
  have rr4 := (rr.grown q3.grown hne2).grown hg4 (fun e => by injection e with e; omega)
  have ha4 := App.after (App.pre hB q3) zN hg4 (zA6 ra3 q3.own (by decide))
  rw [zHr zBr] at ha4
  rw [zIa zBr] at hr4
  have c2 := rb4.cell (j := 22) rfl
  rw [hfe] at c2
  clear hg4 q3 ra3 hM c1 ra rb rr hne0 hne1 hne2 hoL hcl hl hz hown hfe hs
  go_wp2_with fail
  go_loopw [137] (fun i wr => ∃ (q : Nat) (ak : Option Addr) (nk ck : Nat), q ≤ m.reps.length ∧ i = .int .i64 q ∧ Row wr w.heap.size 109 [.slice ak nk ck, .bool (Bq zBr bad m.reps q)] ∧ Row wr (w.heap.size + 2) 109 [.slice none 0 0, .bool false] ∧ App w 5 sv wr (.slice ak nk ck) (bc (Lq zBr L m.reps q))) (fun i _ => m.reps.length - (intOf i).toNat)
  case atStart => exact ⟨0, ao3, n3, c3, by omega, rfl, hr4, rr4, ha4⟩
  case round =>
    clear hr4 rr4 ha4 c2 rb4
    obtain ⟨q, ak, nk, ck, hq, rfl, ra, rr, ap⟩ := hrel
    by_cases hql : q < m.reps.length
    · obtain ⟨bb, off, rfl, hbb, hx⟩ := HX.out (by omega)
      obtain ⟨a, ha⟩ : ∃ a, m.reps[q]? = some a := ⟨_, List.getElem?_eq_getElem hql⟩
      obtain ⟨hle, hbz⟩ := HLE.out q a ha
      have HSL := (show Hid (Lq zBr L m.reps q ++ zBr.wr a = Lq zBr L m.reps (q + 1)) from zIo _ _ _ ha)
      have HSB := (show Hid ((Bq zBr bad m.reps q || !zBr.ok a) = Bq zBr bad m.reps (q + 1)) from zIp _ _ _ ha)
      have hBr := hB0.trans (ap.below hf hB0.size)
      have hlt := rr.lt
      obtain ⟨r, _, hrng, so, sg, sp, sq, rfl, hso, hsg, hsp, hsq⟩ := hx q a ha
      have hrng := zAw hrng (hBr.block bb hbb)
      have hrow0 := Row.new wr 68 [.int .i64 0, .int .i64 0, .int .i64 0, .int .i64 0, .slice none 0 0, .slice none 0 0, .slice none 0 0, .slice none 0 0]
      have HQ := (show Hid (zDo Any w0 [.int .i64 a.1.1, .int .i64 a.1.2, .int .i64 a.2.1, .int .i64 a.2.2.1, so, sg, sp, sq] a) from ⟨_, _, _, _, rfl, hso, hsg, hsp, hsq⟩)
      have o1 := hso.one
      have o2 := hsg.one
      have o3 := hsp.one
      have o4 := hsq.one
      have hone : ∀ z ∈ ([.int .i64 a.1.1, .int .i64 a.1.2, .int .i64 a.2.1, .int .i64 a.2.2.1, so, sg, sp, sq] : List Value), z.oneCell' = true := by
        intro z hz
        simp only [List.mem_cons, List.not_mem_nil, or_false] at hz
        rcases hz with rfl | rfl | rfl | rfl | rfl | rfl | rfl | rfl <;> first | rfl | assumption
      clear ha hx hso hsg hsp hsq
      go_upto_region 46 with (first
        | (refine wpList_load_mid rfl _ _ rfl bb (off + q * 8) rfl [.int .i64 a.1.1, .int .i64 a.1.2, .int .i64 a.2.1, .int .i64 a.2.2.1, so, sg, sp, sq] _ hrng Tryz.underlying68 rfl (by kernel_rfl) ?_)
        | (refine zA7 rfl _ _ _ rfl wr.heap.size [.int .i64 a.1.1, .int .i64 a.1.2, .int .i64 a.2.1, .int .i64 a.2.2.1, so, sg, sp, sq] rfl rfl _ _ hrow0 rfl (by kernel_rfl) hone ?_; intro w5 hr5 hg5))
      have hb5 : Below wr.heap.size wr w5 := (zA0 wr (.cells ([.int .i64 0, .int .i64 0, .int .i64 0, .int .i64 0, .slice none 0 0, .slice none 0 0, .slice none 0 0, .slice none 0 0] : List Value).toArray 68)).trans (zA5 hg5 (by simp) (fun k hk => by cases hk; exact zN))
      have rv := hr5.out
      have ap5 : App w 5 sv w5 (.slice ak nk ck) (bc (Lq zBr L m.reps q)) := ⟨ap.own.below hb5, zA2 ap.grown (zA8 hb5 none) (.inr fun k hk => by cases hk), ap.spot⟩
      have ra5 := ra.below hb5
      have rrx := rr.below hb5
      have apx := ap5
      have hB5 := zA1 hBr zN hb5
      have hf5 : Fr w0.heap.size (.slice ak nk ck) := ap.fr hf hB0.size
      have hN := zK5 w0 w5 (.slice ak nk ck) (Bq zBr bad m.reps q) (Lq zBr L m.reps q) [.int .i64 a.1.1, .int .i64 a.1.2, .int .i64 a.2.1, .int .i64 a.2.2.1, so, sg, sp, sq] a hB5 hf5 ap5.own HQ.out (by omega) (by omega)
      have hn0 := zA6 ra5 ap5.own (by decide)
      have hn2 := zA6 rrx ap5.own (by decide)
      clear hrng hrow0 hone hg5 hr5 ra rr ap hb5
      try go_simp
      go_wp2_with (first
        | (refine zAa rfl _ _ rfl w.heap.size rfl _ _ ra5 _ Tryz.underlying109 rfl (by kernel_rfl) ?_)
        | (refine zAa rfl _ _ rfl wr.heap.size rfl _ _ rv _ Tryz.underlying68 rfl (by kernel_rfl) ?_)
        | (go_at_call 105; refine hN.mono ?_; rintro e w6 ⟨v6, rfl, q6⟩; obtain ⟨ao6, n6, c6, rfl⟩ := zAg q6.own; have ra6 := ra5.grown q6.grown hn0)
        | (refine zA7 rfl _ _ _ rfl w.heap.size [.slice ao6 n6 c6, .bool (Bq zBr bad m.reps q || !zBr.ok a)] rfl rfl _ _ ra6 rfl (by kernel_rfl) zC9 ?_; intro w7 hr7 hg7))
      have hr7 := hr7.out
      have rr7 := (rrx.grown q6.grown hn2).grown hg7 (fun e => by injection e with e; omega)
      have ap7 := App.after (apx.trans q6) zN hg7 (zA6 ra6 q6.own (by decide))
      rw [HSL.out] at ap7
      rw [HSB.out] at hr7
      go_roundw
      case rel => exact ⟨q + 1, ao6, n6, c6, by omega, by go_num, hr7, rr7, ap7⟩
      case measure => simp [intOf]; omega
    · obtain rfl : q = m.reps.length := by omega
      have hqd : decide ((m.reps.length : Int) < m.reps.length) = false := by simp
      rw [HBA.out] at ra
      rw [zHv] at ap
      go_wp2_with (first
        | (refine zAa rfl _ _ rfl w.heap.size rfl _ _ ra _ Tryz.underlying109 rfl (by kernel_rfl) ?_)
        | (refine zA7 rfl _ _ _ rfl (w.heap.size + 2) [.slice ak nk ck, .bool (bad || !(cL zBr).ok m.reps)] rfl rfl _ _ rr rfl (by kernel_rfl) zC9 ?_; intro w6 hr6 hg6))
      have hr6 := hr6.out
      refine bodyPost_ret (v := .agg ([.slice ak nk ck, .bool (bad || !(cL zBr).ok m.reps)] : List Value).toArray) (results_cell_row rfl _ _ (w.heap.size + 2) _ _ (0, 0) _ (by rfl) hr6 Tryz.underlying109 rfl (by kernel_rfl)) rfl ?_
      exact ⟨_, rfl, App.after ap (by omega) hg6 (zA6 rr ap.own (by decide))⟩
theorem zEh (w0 w : World) (sv : Value) (bad : Bool) (L : List Int) (m : PMsg) (s : SV) (i : Nat) (hi : i < 15) (hB0 : Below w0.heap.size w0 w) (hf : Fr w0.heap.size sv) (hown : Own w 5 sv (bc L)) (hs : SOk Any w0 m s) (hl : L.length + bM m * 20 ≤ 140718000000000) (hz : bM m ≤ 1100000) :
    Calls Tryz.prog 60 #[.agg #[sv, .bool bad], .agg (mc m s).toArray, .int .i64 (i : Int)] w (zCb (cF i) (get m i) w sv bad L) := by
  rcases zI6 hi with rfl | rfl | rfl | rfl | rfl | rfl | rfl | rfl | rfl | rfl | rfl | rfl | rfl | rfl | rfl
  · exact zQ7 w0 w sv bad L m s hB0 hf hown hs hl hz
  · exact zQp w0 w sv bad L m s hB0 hf hown hs hl hz
  · exact zRa w0 w sv bad L m s hB0 hf hown hs hl hz
  · exact zQ4 w0 w sv bad L m s hB0 hf hown hs hl hz
  · exact zRb w0 w sv bad L m s hB0 hf hown hs hl hz
  · exact zQx w0 w sv bad L m s hB0 hf hown hs hl hz
  · exact zQb w0 w sv bad L m s hB0 hf hown hs hl hz
  · exact zQv w0 w sv bad L m s hB0 hf hown hs hl hz
  · exact zQ0 w0 w sv bad L m s hB0 hf hown hs hl hz
  · exact zR3 w0 w sv bad L m s hB0 hf hown hs hl hz
  · exact zNn w0 w sv bad L m s hB0 hf hown hs hl hz
  · exact zNh w0 w sv bad L m s hB0 hf hown hs hl hz
  · exact zN1 w0 w sv bad L m s hB0 hf hown hs hl hz
  · exact zMx w0 w sv bad L m s hB0 hf hown hs hl hz
  · exact zNd w0 w sv bad L m s hB0 hf hown hs hl hz
end Go.Proofs.YtgjepofinpmcpaaGreatDoor
