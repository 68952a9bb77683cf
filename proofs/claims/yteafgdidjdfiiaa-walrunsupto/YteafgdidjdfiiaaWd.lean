/- The document's logs: Add, Compact, Open. Made by mk12d.py. -/
import Derived.Test.YteafgdidjdfiiaaWc
import Derived.Test.YteafgdidjdfiiaaDw
import Derived.Deep.RegionLaw
import Derived.Deep.Cut
set_option linter.unusedVariables false
set_option linter.unusedSimpArgs false
namespace Go.Proofs.Yteafgdidjdfiiaa
open Go.RowKit Oct

/-- Six cells written one by one. -/
theorem set6 {w : World} {b : Nat} {t : TypeId} {x0 x1 x2 x3 x4 x5 : Value} (h : Row w b t [x0, x1, x2, x3, x4, x5]) (y0 y1 y2 y3 y4 y5 : Value) :
    ∃ u, u = (((((w.setCell ⟨b, 0, none⟩ y0).setCell ⟨b, 1, none⟩ y1).setCell ⟨b, 2, none⟩ y2).setCell ⟨b, 3, none⟩ y3).setCell ⟨b, 4, none⟩ y4).setCell ⟨b, 5, none⟩ y5 ∧ Row u b t [y0, y1, y2, y3, y4, y5] ∧ w.grownBy u (some b) := by
  refine ⟨_, rfl, (((((h.set 0 y0).set 1 y1).set 2 y2).set 3 y3).set 4 y4).set 5 y5, ?_⟩
  exact grown_trans (grown_trans (grown_trans (grown_trans (grown_trans (grown_set _ _ _ _) (grown_set _ _ _ _) (.inl rfl)) (grown_set _ _ _ _) (.inl rfl)) (grown_set _ _ _ _) (.inl rfl)) (grown_set _ _ _ _) (.inl rfl)) (grown_set _ _ _ _) (.inl rfl)
theorem results_cttD {P : Program} {fn : Func} {p t t2 : Tmp} {ty : TypeId} (h : fn.results = #[.cell p ty, .tmp t, .tmp t2]) (tmps : Array Value) (w : World) (g : Nat) (tt : TypeId) (cs : Array Value) (fr : Nat × Nat) (d : TypeDesc)
    (hp : tmps.getD p undef = .pointer (some ⟨g, 0, none⟩)) (hg : w.heap[g]? = some (.cells cs tt fr))
    (hu : P.underlying ty = some d) (hd : (match d with | .struct _ | .array _ _ => true | _ => false) = true) (hi : (P.info? ty).map (·.size) = some cs.size) :
    (results fn tmps).run P w = .ok (.tuple #[.agg cs, tmps.getD t undef, tmps.getD t2 undef]) w := by
  have hp' : tmps[p]?.getD undef = .pointer (some ⟨g, 0, none⟩) := by simpa using hp
  simp [results, h, hp', asAddr, run_loadVar_row w g tt ty cs fr d hg hu hd hi]

theorem Rd.same_lenW {w w' : World} {v : Value} {l l' : List Int} (h : Rd w v l) (h' : Rd w' v l') : l.length = l'.length := by
  obtain ⟨a, c, e, _⟩ := h.form
  obtain ⟨a', c', e', _⟩ := h'.form
  rw [e] at e'
  injection e'
set_option maxRecDepth 10000 in
set_option maxHeartbeats 4000000 in
theorem refAddW_any (w : World) (vb bv : Value) (d : PDk) (x : List Int) (hb : Rd w vb d.l) (hx : Rd w bv x) (hok : OkD d) (hxl : x.length ≤ 1000000000) :
    Calls Try.prog 18 #[.agg (dkc vb d).toArray, bv] w fun e w' => ∃ vb', e = .returned (.tuple #[.agg (dkc vb' (rwD d (frm x) false).1).toArray, .int .i64 (rwD d (frm x) false).2]) ∧ Rd w' vb' (rwD d (frm x) false).1.l ∧ (vb' = vb ∨ Fr w.heap.size vb') ∧ Below w.heap.size w w' := by
  obtain ⟨ab, cb, rfl, hcb⟩ := hb.form
  obtain ⟨w2, hw2, ra, rr, hB, hsz⟩ := two_boxes w (.slice ab d.l.length cb) d
  have hbyt : Byt (frm x) := frm_byt hx.1 (by omega)
  have HB := (show Hid (∀ u, Below w2.heap.size w2 u → Calls Try.prog 39 #[bv] u fun e w' => ∃ v', e = .returned v' ∧ Own w' 5 v' (bc (frm x)) ∧ Below w2.heap.size w2 w') from fun u hu => by
    refine (refBytes_any u _ x (hx.below (below_and hB (Nat.le_refl _) hu)) (by omega)).mono ?_
    rintro e w' ⟨v', e1, e2, e3, e4⟩
    exact ⟨v', e1, e2, below_and hu (Nat.le_refl _) e4⟩)
  obtain ⟨⟨⟨l', r', de', du', wr', te'⟩, E⟩, hR⟩ : ∃ R, R = rwD d (frm x) false := ⟨_, rfl⟩
  have HW := (show Hid (∀ u o, Below w2.heap.size w2 u → Own u 5 o (bc (frm x)) → Calls Try.prog 13 #[.agg #[.slice ab d.l.length cb, .int .i64 d.room, .bool d.dead, .bool d.due, .int .i64 d.wr, .int .i64 d.te], o, .bool false] u fun e w' => ∃ a' n' c', e = .returned (.tuple #[.agg #[.slice a' n' c', .int .i64 r', .bool de', .bool du', .int .i64 wr', .int .i64 te'], .int .i64 E]) ∧ Rd w' (.slice a' n' c') l' ∧ (Value.slice a' n' c' = .slice ab d.l.length cb ∨ Fr w2.heap.size (.slice a' n' c')) ∧ Below w2.heap.size w2 w') from fun u o hu ho => by
    refine (refWriteD_false u _ o d (frm x) (hb.below (below_and hB (Nat.le_refl _) hu)) (ho.rd hbyt) hok (by have := frm_len x; omega)).mono ?_
    rw [← hR]
    rintro e w' ⟨v', e1, e2, e3, e4⟩
    obtain ⟨a', c', rfl, _⟩ := e2.form
    exact ⟨a', _, c', e1, e2, e3.imp id (fun h => h.mono hu.size), below_and hu (Nat.le_refl _) e4⟩)
  rw [← hR]
  have RA := (show Hid (∀ u, Below w2.heap.size w2 u → Row u w.heap.size 35 (dkc (.slice ab d.l.length cb) d)) from fun u hu => ra.below hu)
  have RR := (show Hid (∀ u, Below w2.heap.size w2 u → Row u (w.heap.size + 1) 35 (dkc (.slice none 0 0) ⟨[], 0, false, false, 0, 0⟩)) from fun u hu => rr.below hu)
  have hdw : Below w2.heap.size w2 w2.drew := ⟨rfl, rfl, rfl, Nat.le_refl _, fun _ _ => rfl⟩
  have c0 := ra.cell (j := 0) rfl; have c1 := ra.cell (j := 1) rfl; have c2 := ra.cell (j := 2) rfl; have c3 := ra.cell (j := 3) rfl; have c4 := ra.cell (j := 4) rfl; have c5 := ra.cell (j := 5) rfl
  have hlb := hb.lt
  have HLB := (show Hid (∀ k, l' ≠ [] → Value.slice ab d.l.length cb = Value.slice ab d.l.length cb → (Value.slice ab d.l.length cb).ownBlock = some k → d.l ≠ [] → k < w.heap.size) from fun k _ _ hk hne => hlb hne k hk)
  have hsz' := Nat.le_of_eq hsz.symm
  clear hR hx hok hbyt ra rr hlb hsz
  go_enter Try.func18, Try.ntmps18
  go_upto_region 1 with fail
  rw [← hw2]
  clear hw2
  go_region_law (first
    | (go_simp; go_at_call 13; refine (HW.out _ o1 (by first | (with_reducible exact hB1) | (with_reducible exact hB1.drew)) (by first | (with_reducible exact ho1) | (with_reducible exact ho1.drew))).mono ?_; rintro e w4 ⟨a4, n4, k4, rfl, hr4, hs4, hB4⟩; have rr4 := RR.out w4 hB4; have f0 := rr4.cell (j := 0) rfl; have f1 := rr4.cell (j := 1) rfl; have f2 := rr4.cell (j := 2) rfl; have f3 := rr4.cell (j := 3) rfl; have f4 := rr4.cell (j := 4) rfl; have f5 := rr4.cell (j := 5) rfl; have z0 := rr4.frozen 0; have z1 := rr4.frozen 1; have z2 := rr4.frozen 2; have z3 := rr4.frozen 3; have z4 := rr4.frozen 4; have z5 := rr4.frozen 5)
    | (go_simp; go_at_call 39; refine (HB.out _ (by first | (with_reducible exact Below.refl _ _) | (with_reducible exact hdw))).mono ?_; rintro e w1 ⟨o1, rfl, ho1, hB1⟩; have ra1 := RA.out w1 hB1; have c0 := ra1.cell (j := 0) rfl; have c1 := ra1.cell (j := 1) rfl; have c2 := ra1.cell (j := 2) rfl; have c3 := ra1.cell (j := 3) rfl; have c4 := ra1.cell (j := 4) rfl; have c5 := ra1.cell (j := 5) rfl))
  all_goals (
    obtain ⟨u9, e9, hr9, hg9⟩ := set6 rr4 (.slice a4 n4 k4) (.int .i64 r') (.bool de') (.bool du') (.int .i64 wr') (.int .i64 te')
    rw [← e9]
    clear e9
    go_wp2_with fail
    refine bodyPost_ret (results_ctD rfl _ _ (w.heap.size + 1) _ _ (0, 0) _ (by rfl) hr9 Try.underlying35 rfl (by kernel_rfl)) rfl ?_
    have B4 := below_and hB (Nat.le_refl _) hB4
    have hrd9 : Rd u9 (.slice a4 n4 k4) l' := hr4.grown hg9 (fun hne k hk e => by
      cases hk
      rcases hs4 with h | h
      · rw [h] at e hr4
        have h1 := hr4.same_lenW hb
        have := hb.lt (fun e2 => hne (by rw [e2] at h1; exact List.eq_nil_of_length_eq_zero (by simpa using h1))) _ e
        omega
      · have := h _ e
        omega)
    exact ⟨_, rfl, hrd9, hs4.imp id (fun h => h.mono hB.size), B4.trans (grown_below hg9 B4.size (fun k hk => by cases hk; omega))⟩)
set_option maxRecDepth 10000 in
set_option maxHeartbeats 4000000 in
theorem refCompactW_any (w : World) (vb bv : Value) (d : PDk) (x : List (List Int)) (hb : Rd w vb d.l) (hx : Rdl w bv x) (hok : OkD d) (hxl : tot x ≤ 10000000) :
    Calls Try.prog 21 #[.agg (dkc vb d).toArray, bv] w fun e w' => ∃ vb', e = .returned (.tuple #[.agg (dkc vb' (rwD d (packL x) true).1).toArray, .int .i64 (rwD d (packL x) true).2]) ∧ Rd w' vb' (rwD d (packL x) true).1.l ∧ (vb' = vb ∨ Fr w.heap.size vb') ∧ Below w.heap.size w w' := by
  obtain ⟨ab, cb, rfl, hcb⟩ := hb.form
  obtain ⟨w2, hw2, ra, rr, hB, hsz⟩ := two_boxes w (.slice ab d.l.length cb) d
  have hbyt : Byt (packL x) := packL_byt hx.byts (by omega)
  have HB := (show Hid (∀ u, Below w2.heap.size w2 u → Calls Try.prog 41 #[bv] u fun e w' => ∃ v', e = .returned v' ∧ Own w' 5 v' (bc (packL x)) ∧ Below w2.heap.size w2 w') from fun u hu => by
    refine (refPack_any u _ x (hx.below (below_and hB (Nat.le_refl _) hu)) (by omega)).mono ?_
    rintro e w' ⟨v', e1, e2, e3, e4⟩
    exact ⟨v', e1, e2, below_and hu (Nat.le_refl _) e4⟩)
  obtain ⟨⟨⟨l', r', de', du', wr', te'⟩, E⟩, hR⟩ : ∃ R, R = rwD d (packL x) true := ⟨_, rfl⟩
  have HW := (show Hid (∀ u o, Below w2.heap.size w2 u → Own u 5 o (bc (packL x)) → Calls Try.prog 13 #[.agg #[.slice ab d.l.length cb, .int .i64 d.room, .bool d.dead, .bool d.due, .int .i64 d.wr, .int .i64 d.te], o, .bool true] u fun e w' => ∃ a' n' c', e = .returned (.tuple #[.agg #[.slice a' n' c', .int .i64 r', .bool de', .bool du', .int .i64 wr', .int .i64 te'], .int .i64 E]) ∧ Rd w' (.slice a' n' c') l' ∧ (Value.slice a' n' c' = .slice ab d.l.length cb ∨ Fr w2.heap.size (.slice a' n' c')) ∧ Below w2.heap.size w2 w') from fun u o hu ho => by
    refine (refWriteD_true u _ o d (packL x) (hb.below (below_and hB (Nat.le_refl _) hu)) (ho.rd hbyt) hok (by have := packL_len x; omega)).mono ?_
    rw [← hR]
    rintro e w' ⟨v', e1, e2, e3, e4⟩
    obtain ⟨a', c', rfl, _⟩ := e2.form
    exact ⟨a', _, c', e1, e2, e3.imp id (fun h => h.mono hu.size), below_and hu (Nat.le_refl _) e4⟩)
  rw [← hR]
  have RA := (show Hid (∀ u, Below w2.heap.size w2 u → Row u w.heap.size 35 (dkc (.slice ab d.l.length cb) d)) from fun u hu => ra.below hu)
  have RR := (show Hid (∀ u, Below w2.heap.size w2 u → Row u (w.heap.size + 1) 35 (dkc (.slice none 0 0) ⟨[], 0, false, false, 0, 0⟩)) from fun u hu => rr.below hu)
  have hdw : Below w2.heap.size w2 w2.drew := ⟨rfl, rfl, rfl, Nat.le_refl _, fun _ _ => rfl⟩
  have c0 := ra.cell (j := 0) rfl; have c1 := ra.cell (j := 1) rfl; have c2 := ra.cell (j := 2) rfl; have c3 := ra.cell (j := 3) rfl; have c4 := ra.cell (j := 4) rfl; have c5 := ra.cell (j := 5) rfl
  have hlb := hb.lt
  have HLB := (show Hid (∀ k, l' ≠ [] → Value.slice ab d.l.length cb = Value.slice ab d.l.length cb → (Value.slice ab d.l.length cb).ownBlock = some k → d.l ≠ [] → k < w.heap.size) from fun k _ _ hk hne => hlb hne k hk)
  have hsz' := Nat.le_of_eq hsz.symm
  clear hR hx hok hbyt ra rr hlb hsz
  go_enter Try.func21, Try.ntmps21
  go_upto_region 1 with fail
  rw [← hw2]
  clear hw2
  go_region_law (first
    | (go_simp; go_at_call 13; refine (HW.out _ o1 (by first | (with_reducible exact hB1) | (with_reducible exact hB1.drew)) (by first | (with_reducible exact ho1) | (with_reducible exact ho1.drew))).mono ?_; rintro e w4 ⟨a4, n4, k4, rfl, hr4, hs4, hB4⟩; have rr4 := RR.out w4 hB4; have f0 := rr4.cell (j := 0) rfl; have f1 := rr4.cell (j := 1) rfl; have f2 := rr4.cell (j := 2) rfl; have f3 := rr4.cell (j := 3) rfl; have f4 := rr4.cell (j := 4) rfl; have f5 := rr4.cell (j := 5) rfl; have z0 := rr4.frozen 0; have z1 := rr4.frozen 1; have z2 := rr4.frozen 2; have z3 := rr4.frozen 3; have z4 := rr4.frozen 4; have z5 := rr4.frozen 5)
    | (go_simp; go_at_call 41; refine (HB.out _ (by first | (with_reducible exact Below.refl _ _) | (with_reducible exact hdw))).mono ?_; rintro e w1 ⟨o1, rfl, ho1, hB1⟩; have ra1 := RA.out w1 hB1; have c0 := ra1.cell (j := 0) rfl; have c1 := ra1.cell (j := 1) rfl; have c2 := ra1.cell (j := 2) rfl; have c3 := ra1.cell (j := 3) rfl; have c4 := ra1.cell (j := 4) rfl; have c5 := ra1.cell (j := 5) rfl))
  all_goals (
    obtain ⟨u9, e9, hr9, hg9⟩ := set6 rr4 (.slice a4 n4 k4) (.int .i64 r') (.bool de') (.bool du') (.int .i64 wr') (.int .i64 te')
    rw [← e9]
    clear e9
    go_wp2_with fail
    refine bodyPost_ret (results_ctD rfl _ _ (w.heap.size + 1) _ _ (0, 0) _ (by rfl) hr9 Try.underlying35 rfl (by kernel_rfl)) rfl ?_
    have B4 := below_and hB (Nat.le_refl _) hB4
    have hrd9 : Rd u9 (.slice a4 n4 k4) l' := hr4.grown hg9 (fun hne k hk e => by
      cases hk
      rcases hs4 with h | h
      · rw [h] at e hr4
        have h1 := hr4.same_lenW hb
        have := hb.lt (fun e2 => hne (by rw [e2] at h1; exact List.eq_nil_of_length_eq_zero (by simpa using h1))) _ e
        omega
      · have := h _ e
        omega)
    exact ⟨_, rfl, hrd9, hs4.imp id (fun h => h.mono hB.size), B4.trans (grown_below hg9 B4.size (fun k hk => by cases hk; omega))⟩)
end Go.Proofs.Yteafgdidjdfiiaa
