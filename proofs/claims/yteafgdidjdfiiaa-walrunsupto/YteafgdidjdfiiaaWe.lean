/- The document's logs: Open. Made by mk12d.py. -/
import Derived.Test.YteafgdidjdfiiaaWd
set_option linter.unusedVariables false
set_option linter.unusedSimpArgs false
namespace Go.Proofs.Yteafgdidjdfiiaa
open Go.RowKit Oct

/-- The document's Open, plain. -/
def roT (d : PDk) : PDk × Int := if d.dead = true then (d, 115) else if (scn d.l).2 < d.l.length then rwD d (d.l.take (scn d.l).2) true else (d, 0)
def roL (d : PDk) : List (List Int) := if (roT d).2 = 0 then (scn d.l).1 else []
theorem OkD.ro' {d : PDk} (h : OkD d) : OkD (roT d).1 := by
  unfold roT
  split
  · exact h
  split
  · exact h.rw (h.byt.take _) true
  · exact h
theorem Lk.op {c r : PDk} (h : Lk c r) : (opT c).2 = (roT r).2 ∧ Lk (opT c).1 (roT r).1 ∧ opL c = roL r := by
  have e1 : c.l = r.l := h.1
  have e2 : c.dead = r.dead := h.2.2.1
  have key : (opT c).2 = (roT r).2 ∧ Lk (opT c).1 (roT r).1 := by
    unfold opT roT
    rw [e2, e1]
    split
    · exact ⟨rfl, h⟩
    split
    · exact h.re _
    · exact ⟨rfl, h⟩
  refine ⟨key.1, key.2, ?_⟩
  unfold opL roL
  rw [key.1, e1]

/-- What it comes to. -/
def RoP (w : World) (vb : Value) (R : PDk × Int) (L : List (List Int)) (e : Ending) (w' : World) : Prop := ∃ vb' o us, e = .returned (.tuple #[.agg (dkc vb' R.1).toArray, o, .int .i64 R.2]) ∧ Rd w' vb' R.1.l ∧ (vb' = vb ∨ Fr w.heap.size vb') ∧ Own w' 22 o us ∧ Els w' us L ∧ Fr w.heap.size o ∧ Below w.heap.size w w'
set_option maxRecDepth 10000 in
set_option maxHeartbeats 4000000 in
theorem refOpenW_any (w : World) (vb : Value) (d : PDk) (hb : Rd w vb d.l) (hok : OkD d) :
    Calls Try.prog 16 #[.agg (dkc vb d).toArray] w (RoP w vb (roT d) (roL d)) := by
  obtain ⟨ab, cb, rfl, hcb⟩ := hb.form
  obtain ⟨w2, hw2, ra, rr, hB, hsz⟩ := two_boxes w (.slice ab d.l.length cb) d
  have hsz' := Nat.le_of_eq hsz.symm
  have hlen := hok.len
  have hnb : w.heap.size ≠ w.heap.size + 1 := by omega
  have hcb' : d.l.length ≤ cb := by
    obtain ⟨_, ao, c, e, h1, _⟩ := hb
    rw [bc_len] at e h1
    injection e with _ _ e3
    omega
  obtain ⟨N, hN⟩ : ∃ N, N = d.l.length := ⟨_, rfl⟩
  have HSc := (show Hid (∀ u, Below w2.heap.size w2 u → Calls Try.prog 9 #[.slice ab N cb] u fun e w' => ∃ v' us, e = .returned (.tuple #[v', .int .i64 ((scn d.l).2 : Int)]) ∧ Own w' 22 v' us ∧ Els w' us (scn d.l).1 ∧ Fr u.heap.size v' ∧ Below u.heap.size u w' ∧ ∀ c ∈ us, Fr u.heap.size c) from fun u hu => by
    rw [hN]
    exact refScan_any u _ d.l (hb.below (below_and hB (Nat.le_refl _) hu)) (by omega))
  unfold roL roT
  cases hd : d.dead with
  | true =>
    have c2 := ra.cell (j := 2) rfl
    rw [hd] at c2
    rw [if_pos rfl, if_neg (show ¬ ((115 : Int) = 0) by decide)]
    clear HSc
    go_enter Try.func16, Try.ntmps16
    go_upto_region 1 with fail
    rw [← hw2]
    clear hw2 hsz
    go_wp2_with (first
      | (refine wl_store rfl _ _ _ rfl (w.heap.size + 1) (dkc (.slice ab d.l.length cb) d) rfl rfl _ _ rr rfl (by kernel_rfl) (dkc_one rfl _) ?_; intro w9 hr9 hg9)
      | (refine wl_load rfl _ _ rfl w.heap.size rfl _ _ ra _ Try.underlying35 rfl (by kernel_rfl) ?_))
    have B9 : Below w.heap.size w w9 := hB.trans (grown_below hg9 hB.size (fun k hk => by cases hk; omega))
    refine bodyPost_ret (results_cttD rfl _ _ (w.heap.size + 1) _ _ (0, 0) _ (by rfl) hr9.out Try.underlying35 rfl (by kernel_rfl)) rfl ?_
    exact ⟨_, _, [], rfl, hb.below B9, .inl rfl, Own.nil _ _, trivial, Fr.nil _, B9⟩
  | false =>
    have c2 := ra.cell (j := 2) rfl
    have c0 := ra.cell (j := 0) rfl
    rw [hd] at c2
    rw [← hN] at c0
    obtain ⟨S, hS⟩ : ∃ S, S = (scn d.l).2 := ⟨_, rfl⟩
    obtain ⟨L, hL⟩ : ∃ L, L = (scn d.l).1 := ⟨_, rfl⟩
    rw [← hS, ← hL] at HSc
    rw [if_neg (by simp), ← hS, ← hN, ← hL]
    have hNb : (N : Int) ≤ 4194304 := by omega
    by_cases hsn : S < N
    · rw [if_pos hsn]
      have hSi : (S : Int) < (N : Int) := by omega
      have hSl : S ≤ d.l.length := by omega
      obtain ⟨⟨⟨l', r', de', du', wr', te'⟩, E⟩, hR⟩ : ∃ R, R = rwD d (d.l.take S) true := ⟨_, rfl⟩
      have HW := (show Hid (∀ u, Below w2.heap.size w2 u → Calls Try.prog 13 #[.agg #[.slice ab N cb, .int .i64 d.room, .bool d.dead, .bool d.due, .int .i64 d.wr, .int .i64 d.te], .slice ab S cb, .bool true] u fun e w' => ∃ a' n' c', e = .returned (.tuple #[.agg #[.slice a' n' c', .int .i64 r', .bool de', .bool du', .int .i64 wr', .int .i64 te'], .int .i64 E]) ∧ Rd w' (.slice a' n' c') l' ∧ (Value.slice a' n' c' = .slice ab N cb ∨ Fr u.heap.size (.slice a' n' c')) ∧ Below u.heap.size u w') from fun u hu => by
        have hbu : Rd u (.slice ab N cb) d.l := by rw [hN]; exact hb.below (below_and hB (Nat.le_refl _) hu)
        obtain ⟨ar, cr, har, hcr, hcr2, hfront⟩ := hbu.front S hSl
        injection har with ha1 ha2 ha3
        subst ha1 ha3
        refine (refWriteD_true u (.slice ab N cb) (.slice ab S cb) d (d.l.take S) hbu hfront hok (by rw [List.length_take]; omega)).mono ?_
        rw [← hR]
        rintro e w' ⟨v', e1, e2, e3, e4⟩
        obtain ⟨a', c', rfl, _⟩ := e2.form
        exact ⟨a', _, c', e1, e2, e3, e4⟩)
      rw [← hR]
      rw [hd] at HW
      have hcut := run_cutD ab N cb S (by omega) (by omega)
      have hb' := hb
      rw [← hN] at hb'
      have HBL := (show Hid (∀ w', Rd w' (.slice ab N cb) l' → l' ≠ [] → ∀ k, (Value.slice ab N cb).ownBlock = some k → k < w.heap.size) from fun w' h1 hne k hk => by
        have h2 := h1.same_lenW hb'
        exact hb'.lt (fun e2 => hne (by rw [e2] at h2; exact List.eq_nil_of_length_eq_zero (by simpa using h2))) k hk)
      rw [← hN] at ra hw2
      clear hR hok hN hS hL hlen hSl hcb' hb
      go_enter Try.func16, Try.ntmps16
      go_upto_region 1 with fail
      rw [← hw2]
      clear hw2 hsz
      go_upto_region 4 with (go_at_call 9; refine (HSc.out w2 (Below.refl _ _)).mono ?_; rintro e w3 ⟨o3, us, rfl, ho3, he3, hf3, hb3, ha3⟩)
      have ra3 := ra.below hb3
      have rr3 := rr.below hb3
      have c0 := ra3.cell (j := 0) rfl
      clear c2
      go_upto_region 5 with fail
      have c0 := ra3.cell (j := 0) rfl; have c1 := ra3.cell (j := 1) rfl; have c2 := ra3.cell (j := 2) rfl; have c3 := ra3.cell (j := 3) rfl; have c4 := ra3.cell (j := 4) rfl; have c5 := ra3.cell (j := 5) rfl
      have hdw : Below w3.heap.size w3 w3.drew := ⟨rfl, rfl, rfl, Nat.le_refl _, fun _ _ => rfl⟩
      have hb3d : Below w2.heap.size w2 w3.drew := below_and hb3 (Nat.le_refl _) hdw
      have ra3d := ra3.below hdw
      have RA := (show Hid (∀ u, Below w3.heap.size w3 u → Row u w.heap.size 35 (dkc (.slice ab N cb) d)) from fun u hu => ra3.below hu)
      go_cut [7, 8] from 23 (fun s7 s8 wx => ∃ (g n' c' : Nat) (a' : Option Addr), s7 = .pointer (some ⟨g, 0, none⟩) ∧ s8 = .int .i64 E ∧ w3.heap.size ≤ g ∧ Row wx g 35 [.slice a' n' c', .int .i64 r', .bool de', .bool du', .int .i64 wr', .int .i64 te'] ∧ Rd wx (.slice a' n' c') l' ∧ (Value.slice a' n' c' = .slice ab N cb ∨ Fr w3.heap.size (.slice a' n' c')) ∧ Below w3.heap.size w3 wx)
      case first =>
        have hal := below_alloc w3 (.cells #[.slice none 0 0, .int .i64 0, .bool false, .bool false, .int .i64 0, .int .i64 0] 35)
        have raA := RA.out _ hal
        have d0 := raA.cell (j := 0) rfl; have d1 := raA.cell (j := 1) rfl; have d2 := raA.cell (j := 2) rfl; have d3 := raA.cell (j := 3) rfl; have d4 := raA.cell (j := 4) rfl; have d5 := raA.cell (j := 5) rfl
        have hB3a : Below w3.heap.size w3 (w3.alloc (.cells #[.slice none 0 0, .int .i64 0, .bool false, .bool false, .int .i64 0, .int .i64 0] 35)).drew := hal.drew
        have rnew : Row (w3.alloc (.cells #[.slice none 0 0, .int .i64 0, .bool false, .bool false, .int .i64 0, .int .i64 0] 35)).drew w3.heap.size 35 [.slice none 0 0, .int .i64 0, .bool false, .bool false, .int .i64 0, .int .i64 0] := (Row.new w3 35 [.slice none 0 0, .int .i64 0, .bool false, .bool false, .int .i64 0, .int .i64 0]).drew
        go_region_law (first
          | (go_simp; go_at_call 13; with_reducible refine (HW.out w3.drew hb3d).mono ?_; rintro e w4 ⟨a4, n4, k4, rfl, hr4, hs4, hB4⟩; have hB34 := below_and hdw (Nat.le_refl _) hB4; have ra4 := RA.out w4 hB34; have c0 := ra4.cell (j := 0) rfl; have c1 := ra4.cell (j := 1) rfl; have c2 := ra4.cell (j := 2) rfl; have c3 := ra4.cell (j := 3) rfl; have c4 := ra4.cell (j := 4) rfl; have c5 := ra4.cell (j := 5) rfl)
          | (go_simp; go_at_call 13; with_reducible refine (HW.out (w3.alloc (.cells #[.slice none 0 0, .int .i64 0, .bool false, .bool false, .int .i64 0, .int .i64 0] 35)).drew (below_and hb3 (Nat.le_refl _) hB3a)).mono ?_; rintro e w4 ⟨a4, n4, k4, rfl, hr4, hs4, hB4⟩; have hB34 := below_and hB3a (Nat.le_refl _) hB4; have rr4 := rnew.below hB4; have f0 := rr4.cell (j := 0) rfl; have f1 := rr4.cell (j := 1) rfl; have f2 := rr4.cell (j := 2) rfl; have f3 := rr4.cell (j := 3) rfl; have f4 := rr4.cell (j := 4) rfl; have f5 := rr4.cell (j := 5) rfl; have z0 := rr4.frozen 0; have z1 := rr4.frozen 1; have z2 := rr4.frozen 2; have z3 := rr4.frozen 3; have z4 := rr4.frozen 4; have z5 := rr4.frozen 5))
        all_goals first
          | (
            obtain ⟨u9, e9, hr9, hg9⟩ := set6 rr4 (.slice a4 n4 k4) (.int .i64 r') (.bool de') (.bool du') (.int .i64 wr') (.int .i64 te')
            rw [← e9]
            clear e9
            go_wp2_with fail
            go_meet
            have hs34 : Value.slice a4 n4 k4 = .slice ab N cb ∨ Fr (w3.heap.size + 1) (.slice a4 n4 k4) := hs4.imp id (fun h => h.mono (by simp))
            have hrd9 : Rd u9 (.slice a4 n4 k4) l' := hr4.grown hg9 (fun hne k hk e => by
              cases hk
              have hz := hb3.size
              rcases hs34 with h | h
              · rw [h] at e hr4
                have := HBL.out w4 hr4 hne _ e
                omega
              · have := h _ e
                omega)
            exact ⟨w3.heap.size, n4, k4, a4, rfl, rfl, Nat.le_refl _, hr9, hrd9, hs34.imp id (fun h => h.mono (by omega)), hB34.trans (grown_below hg9 hB34.size (fun k hk => by cases hk; omega))⟩)
          | (
            go_wp2_with fail
            go_meet
            have hal4 := below_alloc w4 (.cells ([.slice a4 n4 k4, .int .i64 r', .bool de', .bool du', .int .i64 wr', .int .i64 te'] : List Value).toArray 35)
            exact ⟨w4.heap.size, n4, k4, a4, rfl, rfl, hB34.size, Row.new w4 35 [.slice a4 n4 k4, .int .i64 r', .bool de', .bool du', .int .i64 wr', .int .i64 te'], hr4.below hal4, hs4, below_and hB34 (Nat.le_refl _) hal4⟩)
      case rest =>
        obtain ⟨g, n', c', a', rfl, rfl, hg3, hrg, hrd, hsp, hBc⟩ := hcut
        have rrc := rr3.below hBc
        have hB3 := below_and hB (Nat.le_refl _) hb3
        have hBw := below_and hB3 (Nat.le_refl _) hBc
        have hoc := ho3.below hBc
        have hec := he3.below hBc
        have hfo : Fr w.heap.size o3 := hf3.mono hB.size
        have hz3 := hb3.size
        have hgn : g ≠ w.heap.size + 1 := by omega
        have HFIN := (show Hid (∀ u, wc.grownBy u (some (w.heap.size + 1)) → Rd u (.slice a' n' c') l' ∧ (Value.slice a' n' c' = .slice ab N cb ∨ Fr w.heap.size (.slice a' n' c')) ∧ Own u 22 o3 us ∧ Els u us L ∧ Below w.heap.size w u) from fun u hgu => by
          refine ⟨hrd.grown hgu (fun hne k hk e => ?_), hsp.imp id (fun h => h.mono hB3.size), hoc.grown hgu (fun k hk e => by cases hk; exact own_row_nD rrc hoc (by decide) e), ?_, hBw.trans (grown_below hgu hBw.size (fun k hk => by cases hk; omega))⟩
          · cases hk
            rcases hsp with h | h
            · rw [h] at e hrd
              have := HBL.out wc hrd hne _ e
              omega
            · have := h _ e
              omega
          · exact hec.mono fun c l h => h.grown hgu (fun k hk e => by cases hk; exact own_row_nD rrc h (by decide) e))
        by_cases hE0 : E = 0
        · subst hE0
          go_wp2_with (first
            | (refine wl_store rfl _ _ _ rfl (w.heap.size + 1) [.slice a' n' c', .int .i64 r', .bool de', .bool du', .int .i64 wr', .int .i64 te'] rfl rfl _ _ rrc rfl (by kernel_rfl) (dkc_one (v := .slice a' n' c') rfl ⟨l', r', de', du', wr', te'⟩) ?_; intro w9 hr9 hg9)
            | (refine wl_load rfl _ _ rfl g rfl _ _ hrg _ Try.underlying35 rfl (by kernel_rfl) ?_))
          refine bodyPost_ret (results_cttD rfl _ _ (w.heap.size + 1) _ _ (0, 0) _ (by rfl) hr9.out Try.underlying35 rfl (by kernel_rfl)) rfl ?_
          try rw [if_pos rfl]
          obtain ⟨f1, f2, f3, f4, f5⟩ := HFIN.out w9 hg9
          exact ⟨_, _, us, rfl, f1, f2, f3, f4, hfo, f5⟩
        · have hE1 : (E != 0) = true := by simpa using hE0
          go_wp2_with (first
            | (refine wl_store rfl _ _ _ rfl (w.heap.size + 1) [.slice a' n' c', .int .i64 r', .bool de', .bool du', .int .i64 wr', .int .i64 te'] rfl rfl _ _ rrc rfl (by kernel_rfl) (dkc_one (v := .slice a' n' c') rfl ⟨l', r', de', du', wr', te'⟩) ?_; intro w9 hr9 hg9)
            | (refine wl_load rfl _ _ rfl g rfl _ _ hrg _ Try.underlying35 rfl (by kernel_rfl) ?_))
          refine bodyPost_ret (results_cttD rfl _ _ (w.heap.size + 1) _ _ (0, 0) _ (by rfl) hr9.out Try.underlying35 rfl (by kernel_rfl)) rfl ?_
          try rw [if_neg hE0]
          obtain ⟨f1, f2, f3, f4, f5⟩ := HFIN.out w9 hg9
          exact ⟨_, _, [], rfl, f1, f2, Own.nil _ _, trivial, Fr.nil _, f5⟩
    · rw [if_neg hsn, if_pos rfl]
      have hSN : decide ((S : Int) < (N : Int)) = false := by simp; omega
      have hb' := hb
      rw [← hN] at hb' ra hw2
      clear hN hS hL hlen hcb' hb hok
      go_enter Try.func16, Try.ntmps16
      go_upto_region 1 with fail
      rw [← hw2]
      clear hw2 hsz
      go_upto_region 4 with (go_at_call 9; refine (HSc.out w2 (Below.refl _ _)).mono ?_; rintro e w3 ⟨o3, us, rfl, ho3, he3, hf3, hb3, ha3⟩)
      have ra3 := ra.below hb3
      have rr3 := rr.below hb3
      have c0 := ra3.cell (j := 0) rfl
      clear c2
      go_wp2_with (first
        | (refine wl_store rfl _ _ _ rfl (w.heap.size + 1) (dkc (.slice ab N cb) d) rfl rfl _ _ rr3 rfl (by kernel_rfl) (dkc_one rfl _) ?_; intro w9 hr9 hg9)
        | (refine wl_load rfl _ _ rfl w.heap.size rfl _ _ ra3 _ Try.underlying35 rfl (by kernel_rfl) ?_))
      have hB3 := below_and hB (Nat.le_refl _) hb3
      have B9 : Below w.heap.size w w9 := hB3.trans (grown_below hg9 hB3.size (fun k hk => by cases hk; omega))
      refine bodyPost_ret (results_cttD rfl _ _ (w.heap.size + 1) _ _ (0, 0) _ (by rfl) hr9.out Try.underlying35 rfl (by kernel_rfl)) rfl ?_
      exact ⟨_, _, us, rfl, hb'.below B9, .inl rfl, ho3.grown hg9 (fun k hk e => by cases hk; exact own_row_nD rr3 ho3 (by decide) e), All2.mono (fun c l h => Own.grown h hg9 (fun k hk e => by cases hk; exact own_row_nD rr3 h (by decide) e)) he3, hf3.mono hB.size, B9⟩
end Go.Proofs.Yteafgdidjdfiiaa
