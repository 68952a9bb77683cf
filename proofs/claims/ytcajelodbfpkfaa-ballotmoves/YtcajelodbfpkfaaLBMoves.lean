/- catenarylaw04.BallotMoves: its walk. -/
import Derived.Test.YtcajelodbfpkfaaLBShifts
namespace Go.Proofs.Ytcajelodbfpkfaa
open Go.RowKit Oct Bal

theorem plc_nodup {l : List Int} (hn : l.Nodup) {p : Nat} {a : Int} (h : l[p]? = some a) : plc l a = p := by
  refine plc_hit h fun hm => ?_
  obtain ⟨i, hi⟩ := List.getElem?_of_mem hm
  have hip : i < p := by
    rcases Nat.lt_or_ge i p with h | h
    · exact h
    · rw [List.getElem?_eq_none (by rw [List.length_take]; omega)] at hi; cases hi
  rw [List.getElem?_take, if_pos hip] at hi
  have := (get_iff hn hi h).1 rfl
  omega
theorem moves_no {l : List Int} {p : Nat} {a b : Int} (ha : l[p]? = some a) (hb : l[p + 1]? = some b) (h : ¬ can l a b = true) (ho : isO l l.length = true) : quo l.length ≤ (p : Int) + 1 := by
  have hn := isO_nodup ho
  have e1 := plc_nodup hn ha
  have e2 := plc_nodup hn hb
  rcases Int.lt_or_le ((p : Int) + 1) (quo l.length) with h1 | h1
  · exact absurd (can_iff.2 ⟨ho, by omega, by omega, by omega⟩) h
  · exact h1
theorem can_at {l : List Int} {p : Nat} {a b : Int} (ha : l[p]? = some a) (h : can l a b = true) : ∃ f, Bal.Can l a b p f := by
  obtain ⟨p', f, c⟩ := can_get h
  have e := c.pa
  rw [plc_nodup c.nod ha] at e
  obtain rfl : p = p' := by omega
  exact ⟨f, c⟩
/-- Two rows of the call's own, one appended to. -/
def Apart (v u : Value) : Prop := ∀ k, v.ownBlock = some k → u.ownBlock ≠ some k
theorem Apart.symm {v u : Value} (h : Apart v u) : Apart u v := fun k hu hv => h k hv hu
theorem App.other {w w' : World} {e e' : TypeId} {v v' u : Value} {xs ys : List Value} (h : App w e v w' v' xs) (hu : Own w e' u ys) (ha : Apart v u) : Own w' e' u ys ∧ Apart v' u := by
  refine ⟨hu.grown h.grown (fun k hk => ha k hk), fun k hk hk' => ?_⟩
  rcases h.spot with h1 | h1
  · rw [h1] at hk; exact ha k hk hk'
  · have := h1 k hk
    have := hu.lt k hk'
    omega
theorem App.other1 {w w' : World} {o : Obj} {e e' : TypeId} {v v' u : Value} {xs ys : List Value} (h : App (w.alloc o) e v w' v' xs) (hu : Own w e' u ys) (ha : Apart v u) : Own w' e' u ys ∧ Apart v' u := App.other h (World.ownsRow.alloc hu o) ha
theorem oth_snoc {l : List Int} {k : Nat} {x a b : Int} (h : l[k]? = some x) : (l.take (k + 1)).filter (oth a b) = (l.take k).filter (oth a b) ++ (if oth a b x = true then [x] else []) := by
  rw [take_snoc h, List.filter_append]
  congr 1
  simp only [List.filter_cons, List.filter_nil]
theorem oth_len (l : List Int) (k : Nat) (a b : Int) : ((l.take k).filter (oth a b)).length ≤ l.length := by
  have h1 := List.length_filter_le (oth a b) (l.take k)
  rw [List.length_take] at h1
  omega
theorem getD_get {l : List Int} {k : Nat} {x : Int} (h : l[k]? = some x) : l.getD k 0 = x := by simp [List.getD, h]

set_option maxRecDepth 100000 in
set_option maxHeartbeats 2000000 in
theorem moves_any (w : World) (v : Value) (l : List Int) (place : Int) (hrd : Rdi w v l) (hl : l.length ≤ 17592186044416) : Calls Try.prog 7 #[v, .int .i64 place] w fun e w' => e = .returned (.bool true) ∧ Below w.heap.size w w' := by
  have le := Nat.le_refl w.heap.size
  obtain ⟨ao0, ca0, rfl, hca0⟩ := hrd.form
  by_cases hp0 : place < 0
  · clear hrd
    go_enter Try.func7, Try.ntmps7
    go_wp2_with fail
    refine (alive_any _).mono ?_
    rintro e w1 ⟨rfl, B1⟩
    go_wp2_with fail
    go_ret
    exact ⟨rfl, B1⟩
  by_cases hp1 : (l.length : Int) - 1 ≤ place
  · clear hrd
    go_enter Try.func7, Try.ntmps7
    go_wp2_with fail
    refine (alive_any _).mono ?_
    rintro e w1 ⟨rfl, B1⟩
    go_wp2_with fail
    go_ret
    exact ⟨rfl, B1⟩
  obtain ⟨p, rfl⟩ : ∃ p : Nat, place = (p : Int) := ⟨place.toNat, by omega⟩
  obtain ⟨a, ha⟩ : ∃ a, l[p]? = some a := ⟨_, List.getElem?_eq_getElem (by omega)⟩
  obtain ⟨b, hb⟩ : ∃ b, l[p + 1]? = some b := ⟨_, List.getElem?_eq_getElem (by omega)⟩
  go_enter Try.func7, Try.ntmps7
  go_wp2_with fail
  refine (alive_any _).mono ?_
  rintro e w1 ⟨rfl, B1⟩
  have r1 := hrd.below B1
  clear hrd
  obtain ⟨vb, off, ca, hvv, hc1, hc2, hvb, hcell⟩ := r1.at (by omega)
  injection hvv with hva _ hvc
  subst hva hvc
  have hca := hcell p (by omega)
  have hcb := hcell (p + 1) (by omega)
  rw [getD_get ha] at hca
  rw [getD_get hb] at hcb
  have HC := (show Hid (∀ j, j < l.length → w1.cell? ⟨vb, off + j, none⟩ = some (.int .i64 (l.getD j 0))) from hcell)
  have i0 : (0 : Int) ≤ (p : Int) := by omega
  have i1 : (p : Int) < (l.length : Int) := by omega
  have i2 : (p : Int) + 1 < (l.length : Int) := by omega
  have i3 : ¬ ((l.length : Int) - 1 ≤ (p : Int)) := by omega
  have i4 : (0 : Int) ≤ (p : Int) + 1 := by omega
  have d1 : decide ((p : Int) < 0) = false := decide_eq_false (by omega)
  have d2 : decide ((l.length : Int) - 1 ≤ (p : Int)) = false := decide_eq_false i3
  have i5 : ((p : Int) + 1).toNat = p + 1 := by omega
  have i6 : IntKind.i64.wrap ((p : Int) + 1) = (p : Int) + 1 := by rw [IntKind.wrap_i64]; omega
  have hlN : (l.length : Int) ≤ 17592186044416 := by omega
  clear hcell hp1 hp0
  have HA := (show Hid (l[p]? = some a) from ha)
  have HB := (show Hid (l[p + 1]? = some b) from hb)
  clear ha hb
  go_wp2_with fail
  go_quiet (fail)
  clear hca hcb
  have hdn : Below w1.heap.size w1 (w1.drewN nq) := bel_drewN (Below.refl _ _) nq
  generalize w1.drewN nq = wd at hdn ⊢
  have B1d := below_and B1 le hdn
  have rd := r1.below hdn
  have HCd := (show Hid (∀ j, j < l.length → wd.cell? ⟨vb, off + j, none⟩ = some (.int .i64 (l.getD j 0))) from fun j hj => (hdn.cell (p := ⟨vb, off + j, none⟩) hvb).trans (HC.out j hj))
  have hvd : vb < wd.heap.size := by have := hdn.size; omega
  clear hdn HC r1 B1 hvb
  go_wp2_with (at_builtin; refine app_icopy rfl _ _ rfl rfl _ l rfl rd hl ?_; intro own w2 ho2 hf2 hb2)
  have B2 := below_and B1d le hb2
  have r2 := rd.below hb2
  have HC2 := (show Hid (∀ j, j < l.length → w2.cell? ⟨vb, off + j, none⟩ = some (.int .i64 (l.getD j 0))) from fun j hj => (hb2.cell (p := ⟨vb, off + j, none⟩) hvd).trans (HCd.out j hj))
  have hv2 : vb < w2.heap.size := by have := hb2.size; omega
  have hS := shift_any w2 own l a b ho2.rdi
  clear hb2 HCd rd B1d hvd ho2 hf2
  by_cases hc : can l a b = true
  · rw [shE_yes hc, shL_yes hc] at hS
    go_wp2_with fail
    refine hS.mono ?_
    rintro e w3 ⟨s, rfl, hs3, hfs, hb3⟩
    obtain ⟨f, c⟩ := can_at HA.out hc
    have hN := c.trn_len
    have hlen := c.len
    have hf1 := c.f1
    have hf5 := c.f5
    have B3 := below_and B2 le hb3
    have r3 := r2.below hb3
    have HC3 := (show Hid (∀ j, j < l.length → w3.cell? ⟨vb, off + j, none⟩ = some (.int .i64 (l.getD j 0))) from fun j hj => (hb3.cell (p := ⟨vb, off + j, none⟩) hv2).trans (HC2.out j hj))
    have hv3 : vb < w3.heap.size := by have := hb3.size; omega
    obtain ⟨sb, soff, cs, rfl, hcs1, hcs2, hsb, hsc⟩ := hs3.rdi.at (by omega)
    have HS3 := (show Hid (∀ j, j < (trn l a b).length → w3.cell? ⟨sb, soff + j, none⟩ = some (.int .i64 ((trn l a b).getD j 0))) from hsc)
    obtain ⟨M, hM⟩ : ∃ M : Nat, l.length = M + 1 := ⟨l.length - 1, by omega⟩
    obtain ⟨x0, hx0⟩ : ∃ x, l[0]? = some x := ⟨_, List.getElem?_eq_getElem (by omega)⟩
    have e1 := hsc 0 (by omega)
    have e2 := hsc M (by omega)
    have e3 := HC3.out 0 (by omega)
    rw [getD_get (c.head.trans hx0), Nat.add_zero] at e1
    have hlast := c.last
    rw [show l.length - 1 = M by omega] at hlast
    rw [getD_get hlast] at e2
    rw [getD_get hx0, Nat.add_zero] at e3
    have hO := c.trn_ord
    have HO := (show Hid (∀ n : Nat, Calls Try.prog 25 #[.slice (some ⟨sb, soff, none⟩) l.length cs, .int .i64 (l.length : Int)] (w3.drewN n) fun e w' => e = .returned (.bool true) ∧ w' = w3.drewN n) from fun n => by
      have := order_any (w3.drewN n) _ (trn l a b) (l.length : Int) (hs3.rdi.drewN n)
      rwa [hO, hN] at this)
    have HP := (show Hid (∀ n : Nat, Calls Try.prog 27 #[.slice (some ⟨sb, soff, none⟩) l.length cs, .int .i64 a] (w3.drewN n) fun e w' => e = .returned (.int .i64 (plc (trn l a b) a)) ∧ w' = w3.drewN n) from fun n => by
      have := place_any (w3.drewN n) _ (trn l a b) a (hs3.rdi.drewN n)
      rwa [hN] at this)
    have HQ := (show Hid (∀ n : Nat, Calls Try.prog 14 #[.int .i64 (l.length : Int)] (w3.drewN n) fun e w' => e = .returned (.int .i64 (quo l.length)) ∧ w' = w3.drewN n) from fun n => quorum_any _ _)
    have HK := (show Hid (0 < p → plc (trn l a b) a = quo l.length - 1) from fun h => by
      have h1 := c.place h
      have h2 := c.qq
      omega)
    have HT := (show Hid ((trn l a b).filter (oth a b) = l.filter (oth a b)) from c.others)
    have HLN := (show Hid ((trn l a b).length = l.length) from hN)
    rw [hN] at hcs1 HS3 ⊢
    have hn1 : (l.length : Int) - 1 = (M : Int) := by omega
    have hn2 : (M : Int) < (l.length : Int) := by omega
    have hwM : IntKind.i64.wrap (M : Int) = (M : Int) := by rw [IntKind.wrap_i64]; omega
    have hwM2 : wrap64 (M : Int) = (M : Int) := IntWalk.wrap64_in _ ⟨by omega, by omega⟩
    have hM0 : (0 : Int) ≤ (M : Int) := by omega
    have hn3 : 0 < l.length := by omega
    have hn4 : (0 : Int) < (l.length : Int) := by omega
    have hxx : (x0 != x0) = false := by simp
    have hbb : (b != b) = false := by simp
    have hl16 : l.length ≤ 16 := by omega
    have hq3 := quo_yes (isO_iff.1 c.ord).1
    have hq4 := (fau_five (n := (l.length : Int))).2
    have hq5 : quo l.length ≤ 11 := by omega
    have hq6 : 1 ≤ quo l.length := by have := fau_ge (isO_iff.1 c.ord).1; omega
    clear hb3 hS hs3 hfs hsc hlast hO B2 r2 HC2 hv2 hc c hN hM hlen hf1 hf5 hx0 hq3 hq4
    generalize trn l a b = L at *
    by_cases hp : p = 0
    · have d3 : decide ((0 : Int) < (p : Int)) = false := decide_eq_false (by omega)
      have d4 : decide (0 < p) = false := decide_eq_false (by omega)
      have HPZ := (show Hid (p = 0) from hp)
      clear hp HK
      generalize plc L a = P at *
      generalize quo l.length = q at *
      go_wp2_with fail
      go_quiet ((first
        | (go_at_call 25; exact Calls.quiet_of_same (HO.out _))))
      have hdn : Below w3.heap.size w3 (w3.drewN nq) := bel_drewN (Below.refl _ _) nq
      generalize w3.drewN nq = we at hdn ⊢
      have B4 := below_and B3 le hdn
      have hve : vb < we.heap.size := by have := hdn.size; omega
      have hse : sb < we.heap.size := by have := hdn.size; omega
      have HC4 := (show Hid (∀ j, j < l.length → we.cell? ⟨vb, off + j, none⟩ = some (.int .i64 (l.getD j 0))) from fun j hj => (hdn.cell (p := ⟨vb, off + j, none⟩) hv3).trans (HC3.out j hj))
      have HS4 := (show Hid (∀ j, j < l.length → we.cell? ⟨sb, soff + j, none⟩ = some (.int .i64 (L.getD j 0))) from fun j hj => (hdn.cell (p := ⟨sb, soff + j, none⟩) hsb).trans (HS3.out j hj))
      clear hdn B3 HC3 HS3 hv3 hsb e1 e2 e3 HO HP HQ r3
      go_wp2_with fail
      have Q1 := World.ownsRow.alloc (own_none we 3) (.cells #[] 3)
      have Q2 : Own ((we.alloc (.cells #[] 3)).alloc (.cells #[] 3)) 3 (.slice (some ⟨we.heap.size + 1, 0, none⟩) 0 0) (ic []) := by
        have := own_none (we.alloc (.cells #[] 3)) 3
        simpa using this
      have BQ : Below we.heap.size we ((we.alloc (.cells #[] 3)).alloc (.cells #[] 3)) := below_and (below_alloc _ _) (Nat.le_refl _) (below_alloc _ _)
      have F1 : Fr we.heap.size (.slice (some ⟨we.heap.size, 0, none⟩) 0 0) := fr_at _ _ _ _ (Nat.le_refl _)
      have F2 : Fr we.heap.size (.slice (some ⟨we.heap.size + 1, 0, none⟩) 0 0) := fr_at _ _ _ _ (by omega)
      have AP : Apart (.slice (some ⟨we.heap.size, 0, none⟩) 0 0) (.slice (some ⟨we.heap.size + 1, 0, none⟩) 0 0) := fun k h1 h2 => by
        simp [Value.ownBlock] at h1 h2
        omega
      have HAP := (show Hid (Apart (.slice (some ⟨we.heap.size, 0, none⟩) 0 0) (.slice (some ⟨we.heap.size + 1, 0, none⟩) 0 0)) from AP)
      clear AP
      generalize (.slice (some ⟨we.heap.size, 0, none⟩) 0 0 : Value) = r0 at *
      generalize (.slice (some ⟨we.heap.size + 1, 0, none⟩) 0 0 : Value) = t0 at *
      generalize (we.alloc (.cells #[] 3)).alloc (.cells #[] 3) = wf at *
      clear i0 i1 i2 i3 i4 i5 i6 d1 d2 d3 d4 hn1 hn2 hn3 hn4 hwM hwM2 hM0 hxx hbb hc1 hc2 hcs1 hcs2 hlN hl
      go_loopw [10, 11, 101] (fun r t i wr => ∃ k : Nat, k ≤ l.length ∧ i = .int .i64 k ∧ Own wr 3 r (ic ((L.take k).filter (oth a b))) ∧ Own wr 3 t (ic ((l.take k).filter (oth a b))) ∧ Fr we.heap.size r ∧ Fr we.heap.size t ∧ Hid (Apart r t) ∧ Below we.heap.size we wr) (fun _ _ i _ => l.length - (intOf i).toNat)
      case atStart => exact ⟨0, Nat.zero_le _, rfl, Q1, Q2, F1, F2, HAP, BQ⟩
      case round =>
        obtain ⟨k, hk, rfl, hr, ht, hfr, hft, hap, hbel⟩ := hrel
        obtain ⟨R, hR⟩ : ∃ R, R = (L.take k).filter (oth a b) := ⟨_, rfl⟩
        obtain ⟨T, hT⟩ : ∃ T, T = (l.take k).filter (oth a b) := ⟨_, rfl⟩
        have hrl := oth_len L k a b
        have htl := oth_len l k a b
        rw [HLN.out, ← hR] at hrl
        rw [← hT] at htl
        rw [← hR] at hr
        rw [← hT] at ht
        have HR := (show Hid (R = (L.take k).filter (oth a b)) from hR)
        have HTT := (show Hid (T = (l.take k).filter (oth a b)) from hT)
        clear hR hT
        obtain ⟨ar, cr, rfl, hcr⟩ := hr.form
        obtain ⟨at', ct, rfl, hct⟩ := ht.form
        rw [ic_len] at hr hfr hap ⊢
        rw [ic_len] at ht hft hap ⊢
        have hsz := hbel.size
        by_cases hko : k < l.length
        · have j1 : (k : Int) < (l.length : Int) := by omega
          have j0 : (0 : Int) ≤ (k : Int) := by omega
          obtain ⟨x, hx⟩ : ∃ x, L[k]? = some x := ⟨_, List.getElem?_eq_getElem (HLN.out.symm ▸ hko)⟩
          obtain ⟨y, hy⟩ : ∃ y, l[k]? = some y := ⟨_, List.getElem?_eq_getElem hko⟩
          have hcx : wr.cell? ⟨sb, soff + k, none⟩ = some (.int .i64 x) := (hbel.cell (p := ⟨sb, soff + k, none⟩) hse).trans (by rw [← getD_get hx]; exact HS4.out k hko)
          have HY := (show Hid (∀ u, Below we.heap.size we u → u.cell? ⟨vb, off + k, none⟩ = some (.int .i64 y)) from fun u hu => (hu.cell (p := ⟨vb, off + k, none⟩) hve).trans (by rw [← getD_get hy]; exact HC4.out k hko))
          have hcy := HY.out wr hbel
          have HX2 := (show Hid ((L.take (k + 1)).filter (oth a b) = R ++ (if oth a b x = true then [x] else [])) from by rw [HR.out]; exact oth_snoc hx)
          have HY2 := (show Hid ((l.take (k + 1)).filter (oth a b) = T ++ (if oth a b y = true then [y] else [])) from by rw [HTT.out]; exact oth_snoc hy)
          clear hx hy HR HTT
          by_cases xsa : x = a
          · have xs1 : (x != a) = false := by simpa using xsa
            have xsN := (show Hid ((L.take (k + 1)).filter (oth a b) = R) from by
              have e := HX2.out
              rwa [if_neg (by simp [oth, xsa]), List.append_nil] at e)
            clear xsa HX2
            by_cases ysa : y = a
            · have ys1 : (y != a) = false := by simpa using ysa
              have ysN := (show Hid ((l.take (k + 1)).filter (oth a b) = T) from by
                have e := HY2.out
                rwa [if_neg (by simp [oth, ysa]), List.append_nil] at e)
              clear ysa HY2
              go_wp2_with fail
              go_wp2_with fail
              go_roundw
              case rel => exact ⟨k + 1, by omega, by go_num, by rw [xsN.out]; exact hr, by rw [ysN.out]; exact ht, hfr, hft, hap.out, hbel⟩
              case measure => simp [intOf]; omega
            · have ys1 : (y != a) = true := by simpa using ysa
              by_cases ysb : y = b
              · have ys2 : (y != b) = false := by simpa using ysb
                have ysN := (show Hid ((l.take (k + 1)).filter (oth a b) = T) from by
                  have e := HY2.out
                  rwa [if_neg (by simp [oth, ysb]), List.append_nil] at e)
                clear ysa ysb HY2
                go_wp2_with fail
                go_wp2_with fail
                go_roundw
                case rel => exact ⟨k + 1, by omega, by go_num, by rw [xsN.out]; exact hr, by rw [ysN.out]; exact ht, hfr, hft, hap.out, hbel⟩
                case measure => simp [intOf]; omega
              · have ys2 : (y != b) = true := by simpa using ysb
                have ysN := (show Hid ((l.take (k + 1)).filter (oth a b) = T ++ [y]) from by
                  have e := HY2.out
                  rwa [if_pos (by simp [oth, ysa, ysb])] at e)
                clear ysa ysb HY2
                go_wp2_with (first | (at_builtin; refine app_ints rfl _ _ rfl (.slice at' T.length ct) T rfl (World.ownsRow.alloc ht _) _ [y] rfl (rdi_one wr _ _) (by simp only [List.length_singleton]; omega) ?_; intro v2 w6 happ2; obtain ⟨at2, ct2, rfl, hct2⟩ := happ2.own.form))
                have B6 : Below we.heap.size we w6 := (below_and hbel (Nat.le_refl _) (below_alloc _ _)).trans (happ2.below hft (by simp; omega))
                have F6 := happ2.fr hft (by simp; omega)
                obtain ⟨hr6, ap6⟩ := happ2.other1 hr (Apart.symm hap.out)
                have O6 := happ2.own
                clear happ2
                go_wp2_with fail
                go_roundw
                case rel => exact ⟨k + 1, by omega, by go_num, by rw [xsN.out]; exact hr6, by rw [ysN.out]; exact O6, hfr, F6, ap6.symm, B6⟩
                case measure => simp [intOf]; omega
          · have xs1 : (x != a) = true := by simpa using xsa
            by_cases xsb : x = b
            · have xs2 : (x != b) = false := by simpa using xsb
              have xsN := (show Hid ((L.take (k + 1)).filter (oth a b) = R) from by
                have e := HX2.out
                rwa [if_neg (by simp [oth, xsb]), List.append_nil] at e)
              clear xsa xsb HX2
              by_cases ysa : y = a
              · have ys1 : (y != a) = false := by simpa using ysa
                have ysN := (show Hid ((l.take (k + 1)).filter (oth a b) = T) from by
                  have e := HY2.out
                  rwa [if_neg (by simp [oth, ysa]), List.append_nil] at e)
                clear ysa HY2
                go_wp2_with fail
                go_wp2_with fail
                go_roundw
                case rel => exact ⟨k + 1, by omega, by go_num, by rw [xsN.out]; exact hr, by rw [ysN.out]; exact ht, hfr, hft, hap.out, hbel⟩
                case measure => simp [intOf]; omega
              · have ys1 : (y != a) = true := by simpa using ysa
                by_cases ysb : y = b
                · have ys2 : (y != b) = false := by simpa using ysb
                  have ysN := (show Hid ((l.take (k + 1)).filter (oth a b) = T) from by
                    have e := HY2.out
                    rwa [if_neg (by simp [oth, ysb]), List.append_nil] at e)
                  clear ysa ysb HY2
                  go_wp2_with fail
                  go_wp2_with fail
                  go_roundw
                  case rel => exact ⟨k + 1, by omega, by go_num, by rw [xsN.out]; exact hr, by rw [ysN.out]; exact ht, hfr, hft, hap.out, hbel⟩
                  case measure => simp [intOf]; omega
                · have ys2 : (y != b) = true := by simpa using ysb
                  have ysN := (show Hid ((l.take (k + 1)).filter (oth a b) = T ++ [y]) from by
                    have e := HY2.out
                    rwa [if_pos (by simp [oth, ysa, ysb])] at e)
                  clear ysa ysb HY2
                  go_wp2_with (first | (at_builtin; refine app_ints rfl _ _ rfl (.slice at' T.length ct) T rfl (World.ownsRow.alloc ht _) _ [y] rfl (rdi_one wr _ _) (by simp only [List.length_singleton]; omega) ?_; intro v2 w6 happ2; obtain ⟨at2, ct2, rfl, hct2⟩ := happ2.own.form))
                  have B6 : Below we.heap.size we w6 := (below_and hbel (Nat.le_refl _) (below_alloc _ _)).trans (happ2.below hft (by simp; omega))
                  have F6 := happ2.fr hft (by simp; omega)
                  obtain ⟨hr6, ap6⟩ := happ2.other1 hr (Apart.symm hap.out)
                  have O6 := happ2.own
                  clear happ2
                  go_wp2_with fail
                  go_roundw
                  case rel => exact ⟨k + 1, by omega, by go_num, by rw [xsN.out]; exact hr6, by rw [ysN.out]; exact O6, hfr, F6, ap6.symm, B6⟩
                  case measure => simp [intOf]; omega
            · have xs2 : (x != b) = true := by simpa using xsb
              have xsN := (show Hid ((L.take (k + 1)).filter (oth a b) = R ++ [x]) from by
                have e := HX2.out
                rwa [if_pos (by simp [oth, xsa, xsb])] at e)
              clear xsa xsb HX2
              by_cases ysa : y = a
              · have ys1 : (y != a) = false := by simpa using ysa
                have ysN := (show Hid ((l.take (k + 1)).filter (oth a b) = T) from by
                  have e := HY2.out
                  rwa [if_neg (by simp [oth, ysa]), List.append_nil] at e)
                clear ysa HY2
                go_wp2_with (first | (at_builtin; refine app_ints rfl _ _ rfl (.slice ar R.length cr) R rfl (World.ownsRow.alloc hr _) _ [x] rfl (rdi_one wr _ _) (by simp only [List.length_singleton]; omega) ?_; intro v1 w5 happ1; have B5 : Below we.heap.size we w5 := (below_and hbel (Nat.le_refl _) (below_alloc _ _)).trans (happ1.below hfr (by simp; omega)); have hcy5 := HY.out w5 B5; have F5 := happ1.fr hfr (by simp; omega); obtain ⟨ht5, ap5⟩ := happ1.other1 ht hap.out; have O5 := happ1.own; have HP5 := (show Hid (Apart v1 (.slice at' T.length ct)) from ap5); have z5 := B5.size; clear happ1 ap5 hcy; obtain ⟨ar1, cr1, rfl, hcr1⟩ := O5.form))
                go_wp2_with fail
                go_roundw
                case rel => exact ⟨k + 1, by omega, by go_num, by rw [xsN.out]; exact O5, by rw [ysN.out]; exact ht5, F5, hft, HP5.out, B5⟩
                case measure => simp [intOf]; omega
              · have ys1 : (y != a) = true := by simpa using ysa
                by_cases ysb : y = b
                · have ys2 : (y != b) = false := by simpa using ysb
                  have ysN := (show Hid ((l.take (k + 1)).filter (oth a b) = T) from by
                    have e := HY2.out
                    rwa [if_neg (by simp [oth, ysb]), List.append_nil] at e)
                  clear ysa ysb HY2
                  go_wp2_with (first | (at_builtin; refine app_ints rfl _ _ rfl (.slice ar R.length cr) R rfl (World.ownsRow.alloc hr _) _ [x] rfl (rdi_one wr _ _) (by simp only [List.length_singleton]; omega) ?_; intro v1 w5 happ1; have B5 : Below we.heap.size we w5 := (below_and hbel (Nat.le_refl _) (below_alloc _ _)).trans (happ1.below hfr (by simp; omega)); have hcy5 := HY.out w5 B5; have F5 := happ1.fr hfr (by simp; omega); obtain ⟨ht5, ap5⟩ := happ1.other1 ht hap.out; have O5 := happ1.own; have HP5 := (show Hid (Apart v1 (.slice at' T.length ct)) from ap5); have z5 := B5.size; clear happ1 ap5 hcy; obtain ⟨ar1, cr1, rfl, hcr1⟩ := O5.form))
                  go_wp2_with fail
                  go_roundw
                  case rel => exact ⟨k + 1, by omega, by go_num, by rw [xsN.out]; exact O5, by rw [ysN.out]; exact ht5, F5, hft, HP5.out, B5⟩
                  case measure => simp [intOf]; omega
                · have ys2 : (y != b) = true := by simpa using ysb
                  have ysN := (show Hid ((l.take (k + 1)).filter (oth a b) = T ++ [y]) from by
                    have e := HY2.out
                    rwa [if_pos (by simp [oth, ysa, ysb])] at e)
                  clear ysa ysb HY2
                  go_wp2_with (first | (at_builtin; refine app_ints rfl _ _ rfl (.slice ar R.length cr) R rfl (World.ownsRow.alloc hr _) _ [x] rfl (rdi_one wr _ _) (by simp only [List.length_singleton]; omega) ?_; intro v1 w5 happ1; have B5 : Below we.heap.size we w5 := (below_and hbel (Nat.le_refl _) (below_alloc _ _)).trans (happ1.below hfr (by simp; omega)); have hcy5 := HY.out w5 B5; have F5 := happ1.fr hfr (by simp; omega); obtain ⟨ht5, ap5⟩ := happ1.other1 ht hap.out; have O5 := happ1.own; have HP5 := (show Hid (Apart v1 (.slice at' T.length ct)) from ap5); have z5 := B5.size; clear happ1 ap5 hcy; obtain ⟨ar1, cr1, rfl, hcr1⟩ := O5.form) | (at_builtin; refine app_ints rfl _ _ rfl (.slice at' T.length ct) T rfl (World.ownsRow.alloc ht5 _) _ [y] rfl (rdi_one w5 _ _) (by simp only [List.length_singleton]; omega) ?_; intro v2 w6 happ2; obtain ⟨at2, ct2, rfl, hct2⟩ := happ2.own.form))
                  have B6 : Below we.heap.size we w6 := (below_and B5 (Nat.le_refl _) (below_alloc _ _)).trans (happ2.below hft (by simp; omega))
                  have F6 := happ2.fr hft (by simp; omega)
                  obtain ⟨hr6, ap6⟩ := happ2.other1 O5 (Apart.symm HP5.out)
                  have O6 := happ2.own
                  clear happ2
                  go_wp2_with fail
                  go_roundw
                  case rel => exact ⟨k + 1, by omega, by go_num, by rw [xsN.out]; exact hr6, by rw [ysN.out]; exact O6, F5, F6, ap6.symm, B6⟩
                  case measure => simp [intOf]; omega
        · have j1 : ¬ (k : Int) < (l.length : Int) := by omega
          have hk1 : L.take k = L := List.take_of_length_le (by have := HLN.out; omega)
          have hk2 : l.take k = l := List.take_of_length_le (by omega)
          have hRT : T = R := by rw [HR.out, HTT.out, hk1, hk2, HT.out]
          have hE := same_any wr _ _ _ _ hr.rdi ht.rdi
          rw [decide_eq_true hRT.symm] at hE
          have HE := (show Hid (∀ _ : Unit, _) from fun _ => hE)
          have B9 := below_and B4 le hbel
          clear hr ht hk1 hk2 hRT hE
          go_wp2_with fail
          refine (HE.out ()).mono ?_
          rintro e w9 ⟨rfl, hb9⟩
          go_wp2_with fail
          go_ret
          exact ⟨rfl, below_and B9 le hb9⟩
    · have hp1 : (0 : Int) < (p : Int) := by omega
      have d3 : decide ((0 : Int) < (p : Int)) = true := decide_eq_true hp1
      have d4 : decide (0 < p) = true := decide_eq_true (by omega)
      have hk := HK.out (by omega)
      have hpq : (plc L a != quo l.length - 1) = false := by rw [hk]; simp
      clear hk hp HK
      generalize plc L a = P at *
      generalize quo l.length = q at *
      have hwq : IntKind.i64.wrap (q - 1) = q - 1 := by rw [IntKind.wrap_i64]; omega
      go_wp2_with fail
      go_quiet ((first
        | (go_at_call 25; exact Calls.quiet_of_same (HO.out _))
        | (go_at_call 27; exact Calls.quiet_of_same (HP.out _))
        | (go_at_call 14; exact Calls.quiet_of_same (HQ.out _))))
      have hdn : Below w3.heap.size w3 (w3.drewN nq) := bel_drewN (Below.refl _ _) nq
      generalize w3.drewN nq = we at hdn ⊢
      have B4 := below_and B3 le hdn
      have hve : vb < we.heap.size := by have := hdn.size; omega
      have hse : sb < we.heap.size := by have := hdn.size; omega
      have HC4 := (show Hid (∀ j, j < l.length → we.cell? ⟨vb, off + j, none⟩ = some (.int .i64 (l.getD j 0))) from fun j hj => (hdn.cell (p := ⟨vb, off + j, none⟩) hv3).trans (HC3.out j hj))
      have HS4 := (show Hid (∀ j, j < l.length → we.cell? ⟨sb, soff + j, none⟩ = some (.int .i64 (L.getD j 0))) from fun j hj => (hdn.cell (p := ⟨sb, soff + j, none⟩) hsb).trans (HS3.out j hj))
      clear hdn B3 HC3 HS3 hv3 hsb e1 e2 e3 HO HP HQ r3
      go_wp2_with fail
      have Q1 := World.ownsRow.alloc (own_none we 3) (.cells #[] 3)
      have Q2 : Own ((we.alloc (.cells #[] 3)).alloc (.cells #[] 3)) 3 (.slice (some ⟨we.heap.size + 1, 0, none⟩) 0 0) (ic []) := by
        have := own_none (we.alloc (.cells #[] 3)) 3
        simpa using this
      have BQ : Below we.heap.size we ((we.alloc (.cells #[] 3)).alloc (.cells #[] 3)) := below_and (below_alloc _ _) (Nat.le_refl _) (below_alloc _ _)
      have F1 : Fr we.heap.size (.slice (some ⟨we.heap.size, 0, none⟩) 0 0) := fr_at _ _ _ _ (Nat.le_refl _)
      have F2 : Fr we.heap.size (.slice (some ⟨we.heap.size + 1, 0, none⟩) 0 0) := fr_at _ _ _ _ (by omega)
      have AP : Apart (.slice (some ⟨we.heap.size, 0, none⟩) 0 0) (.slice (some ⟨we.heap.size + 1, 0, none⟩) 0 0) := fun k h1 h2 => by
        simp [Value.ownBlock] at h1 h2
        omega
      have HAP := (show Hid (Apart (.slice (some ⟨we.heap.size, 0, none⟩) 0 0) (.slice (some ⟨we.heap.size + 1, 0, none⟩) 0 0)) from AP)
      clear AP
      generalize (.slice (some ⟨we.heap.size, 0, none⟩) 0 0 : Value) = r0 at *
      generalize (.slice (some ⟨we.heap.size + 1, 0, none⟩) 0 0 : Value) = t0 at *
      generalize (we.alloc (.cells #[] 3)).alloc (.cells #[] 3) = wf at *
      clear i0 i1 i2 i3 i4 i5 i6 d1 d2 d3 d4 hn1 hn2 hn3 hn4 hwM hwM2 hM0 hxx hbb hc1 hc2 hcs1 hcs2 hlN hl
      go_loopw [10, 11, 101] (fun r t i wr => ∃ k : Nat, k ≤ l.length ∧ i = .int .i64 k ∧ Own wr 3 r (ic ((L.take k).filter (oth a b))) ∧ Own wr 3 t (ic ((l.take k).filter (oth a b))) ∧ Fr we.heap.size r ∧ Fr we.heap.size t ∧ Hid (Apart r t) ∧ Below we.heap.size we wr) (fun _ _ i _ => l.length - (intOf i).toNat)
      case atStart => exact ⟨0, Nat.zero_le _, rfl, Q1, Q2, F1, F2, HAP, BQ⟩
      case round =>
        obtain ⟨k, hk, rfl, hr, ht, hfr, hft, hap, hbel⟩ := hrel
        obtain ⟨R, hR⟩ : ∃ R, R = (L.take k).filter (oth a b) := ⟨_, rfl⟩
        obtain ⟨T, hT⟩ : ∃ T, T = (l.take k).filter (oth a b) := ⟨_, rfl⟩
        have hrl := oth_len L k a b
        have htl := oth_len l k a b
        rw [HLN.out, ← hR] at hrl
        rw [← hT] at htl
        rw [← hR] at hr
        rw [← hT] at ht
        have HR := (show Hid (R = (L.take k).filter (oth a b)) from hR)
        have HTT := (show Hid (T = (l.take k).filter (oth a b)) from hT)
        clear hR hT
        obtain ⟨ar, cr, rfl, hcr⟩ := hr.form
        obtain ⟨at', ct, rfl, hct⟩ := ht.form
        rw [ic_len] at hr hfr hap ⊢
        rw [ic_len] at ht hft hap ⊢
        have hsz := hbel.size
        by_cases hko : k < l.length
        · have j1 : (k : Int) < (l.length : Int) := by omega
          have j0 : (0 : Int) ≤ (k : Int) := by omega
          obtain ⟨x, hx⟩ : ∃ x, L[k]? = some x := ⟨_, List.getElem?_eq_getElem (HLN.out.symm ▸ hko)⟩
          obtain ⟨y, hy⟩ : ∃ y, l[k]? = some y := ⟨_, List.getElem?_eq_getElem hko⟩
          have hcx : wr.cell? ⟨sb, soff + k, none⟩ = some (.int .i64 x) := (hbel.cell (p := ⟨sb, soff + k, none⟩) hse).trans (by rw [← getD_get hx]; exact HS4.out k hko)
          have HY := (show Hid (∀ u, Below we.heap.size we u → u.cell? ⟨vb, off + k, none⟩ = some (.int .i64 y)) from fun u hu => (hu.cell (p := ⟨vb, off + k, none⟩) hve).trans (by rw [← getD_get hy]; exact HC4.out k hko))
          have hcy := HY.out wr hbel
          have HX2 := (show Hid ((L.take (k + 1)).filter (oth a b) = R ++ (if oth a b x = true then [x] else [])) from by rw [HR.out]; exact oth_snoc hx)
          have HY2 := (show Hid ((l.take (k + 1)).filter (oth a b) = T ++ (if oth a b y = true then [y] else [])) from by rw [HTT.out]; exact oth_snoc hy)
          clear hx hy HR HTT
          by_cases xsa : x = a
          · have xs1 : (x != a) = false := by simpa using xsa
            have xsN := (show Hid ((L.take (k + 1)).filter (oth a b) = R) from by
              have e := HX2.out
              rwa [if_neg (by simp [oth, xsa]), List.append_nil] at e)
            clear xsa HX2
            by_cases ysa : y = a
            · have ys1 : (y != a) = false := by simpa using ysa
              have ysN := (show Hid ((l.take (k + 1)).filter (oth a b) = T) from by
                have e := HY2.out
                rwa [if_neg (by simp [oth, ysa]), List.append_nil] at e)
              clear ysa HY2
              go_wp2_with fail
              go_wp2_with fail
              go_roundw
              case rel => exact ⟨k + 1, by omega, by go_num, by rw [xsN.out]; exact hr, by rw [ysN.out]; exact ht, hfr, hft, hap.out, hbel⟩
              case measure => simp [intOf]; omega
            · have ys1 : (y != a) = true := by simpa using ysa
              by_cases ysb : y = b
              · have ys2 : (y != b) = false := by simpa using ysb
                have ysN := (show Hid ((l.take (k + 1)).filter (oth a b) = T) from by
                  have e := HY2.out
                  rwa [if_neg (by simp [oth, ysb]), List.append_nil] at e)
                clear ysa ysb HY2
                go_wp2_with fail
                go_wp2_with fail
                go_roundw
                case rel => exact ⟨k + 1, by omega, by go_num, by rw [xsN.out]; exact hr, by rw [ysN.out]; exact ht, hfr, hft, hap.out, hbel⟩
                case measure => simp [intOf]; omega
              · have ys2 : (y != b) = true := by simpa using ysb
                have ysN := (show Hid ((l.take (k + 1)).filter (oth a b) = T ++ [y]) from by
                  have e := HY2.out
                  rwa [if_pos (by simp [oth, ysa, ysb])] at e)
                clear ysa ysb HY2
                go_wp2_with (first | (at_builtin; refine app_ints rfl _ _ rfl (.slice at' T.length ct) T rfl (World.ownsRow.alloc ht _) _ [y] rfl (rdi_one wr _ _) (by simp only [List.length_singleton]; omega) ?_; intro v2 w6 happ2; obtain ⟨at2, ct2, rfl, hct2⟩ := happ2.own.form))
                have B6 : Below we.heap.size we w6 := (below_and hbel (Nat.le_refl _) (below_alloc _ _)).trans (happ2.below hft (by simp; omega))
                have F6 := happ2.fr hft (by simp; omega)
                obtain ⟨hr6, ap6⟩ := happ2.other1 hr (Apart.symm hap.out)
                have O6 := happ2.own
                clear happ2
                go_wp2_with fail
                go_roundw
                case rel => exact ⟨k + 1, by omega, by go_num, by rw [xsN.out]; exact hr6, by rw [ysN.out]; exact O6, hfr, F6, ap6.symm, B6⟩
                case measure => simp [intOf]; omega
          · have xs1 : (x != a) = true := by simpa using xsa
            by_cases xsb : x = b
            · have xs2 : (x != b) = false := by simpa using xsb
              have xsN := (show Hid ((L.take (k + 1)).filter (oth a b) = R) from by
                have e := HX2.out
                rwa [if_neg (by simp [oth, xsb]), List.append_nil] at e)
              clear xsa xsb HX2
              by_cases ysa : y = a
              · have ys1 : (y != a) = false := by simpa using ysa
                have ysN := (show Hid ((l.take (k + 1)).filter (oth a b) = T) from by
                  have e := HY2.out
                  rwa [if_neg (by simp [oth, ysa]), List.append_nil] at e)
                clear ysa HY2
                go_wp2_with fail
                go_wp2_with fail
                go_roundw
                case rel => exact ⟨k + 1, by omega, by go_num, by rw [xsN.out]; exact hr, by rw [ysN.out]; exact ht, hfr, hft, hap.out, hbel⟩
                case measure => simp [intOf]; omega
              · have ys1 : (y != a) = true := by simpa using ysa
                by_cases ysb : y = b
                · have ys2 : (y != b) = false := by simpa using ysb
                  have ysN := (show Hid ((l.take (k + 1)).filter (oth a b) = T) from by
                    have e := HY2.out
                    rwa [if_neg (by simp [oth, ysb]), List.append_nil] at e)
                  clear ysa ysb HY2
                  go_wp2_with fail
                  go_wp2_with fail
                  go_roundw
                  case rel => exact ⟨k + 1, by omega, by go_num, by rw [xsN.out]; exact hr, by rw [ysN.out]; exact ht, hfr, hft, hap.out, hbel⟩
                  case measure => simp [intOf]; omega
                · have ys2 : (y != b) = true := by simpa using ysb
                  have ysN := (show Hid ((l.take (k + 1)).filter (oth a b) = T ++ [y]) from by
                    have e := HY2.out
                    rwa [if_pos (by simp [oth, ysa, ysb])] at e)
                  clear ysa ysb HY2
                  go_wp2_with (first | (at_builtin; refine app_ints rfl _ _ rfl (.slice at' T.length ct) T rfl (World.ownsRow.alloc ht _) _ [y] rfl (rdi_one wr _ _) (by simp only [List.length_singleton]; omega) ?_; intro v2 w6 happ2; obtain ⟨at2, ct2, rfl, hct2⟩ := happ2.own.form))
                  have B6 : Below we.heap.size we w6 := (below_and hbel (Nat.le_refl _) (below_alloc _ _)).trans (happ2.below hft (by simp; omega))
                  have F6 := happ2.fr hft (by simp; omega)
                  obtain ⟨hr6, ap6⟩ := happ2.other1 hr (Apart.symm hap.out)
                  have O6 := happ2.own
                  clear happ2
                  go_wp2_with fail
                  go_roundw
                  case rel => exact ⟨k + 1, by omega, by go_num, by rw [xsN.out]; exact hr6, by rw [ysN.out]; exact O6, hfr, F6, ap6.symm, B6⟩
                  case measure => simp [intOf]; omega
            · have xs2 : (x != b) = true := by simpa using xsb
              have xsN := (show Hid ((L.take (k + 1)).filter (oth a b) = R ++ [x]) from by
                have e := HX2.out
                rwa [if_pos (by simp [oth, xsa, xsb])] at e)
              clear xsa xsb HX2
              by_cases ysa : y = a
              · have ys1 : (y != a) = false := by simpa using ysa
                have ysN := (show Hid ((l.take (k + 1)).filter (oth a b) = T) from by
                  have e := HY2.out
                  rwa [if_neg (by simp [oth, ysa]), List.append_nil] at e)
                clear ysa HY2
                go_wp2_with (first | (at_builtin; refine app_ints rfl _ _ rfl (.slice ar R.length cr) R rfl (World.ownsRow.alloc hr _) _ [x] rfl (rdi_one wr _ _) (by simp only [List.length_singleton]; omega) ?_; intro v1 w5 happ1; have B5 : Below we.heap.size we w5 := (below_and hbel (Nat.le_refl _) (below_alloc _ _)).trans (happ1.below hfr (by simp; omega)); have hcy5 := HY.out w5 B5; have F5 := happ1.fr hfr (by simp; omega); obtain ⟨ht5, ap5⟩ := happ1.other1 ht hap.out; have O5 := happ1.own; have HP5 := (show Hid (Apart v1 (.slice at' T.length ct)) from ap5); have z5 := B5.size; clear happ1 ap5 hcy; obtain ⟨ar1, cr1, rfl, hcr1⟩ := O5.form))
                go_wp2_with fail
                go_roundw
                case rel => exact ⟨k + 1, by omega, by go_num, by rw [xsN.out]; exact O5, by rw [ysN.out]; exact ht5, F5, hft, HP5.out, B5⟩
                case measure => simp [intOf]; omega
              · have ys1 : (y != a) = true := by simpa using ysa
                by_cases ysb : y = b
                · have ys2 : (y != b) = false := by simpa using ysb
                  have ysN := (show Hid ((l.take (k + 1)).filter (oth a b) = T) from by
                    have e := HY2.out
                    rwa [if_neg (by simp [oth, ysb]), List.append_nil] at e)
                  clear ysa ysb HY2
                  go_wp2_with (first | (at_builtin; refine app_ints rfl _ _ rfl (.slice ar R.length cr) R rfl (World.ownsRow.alloc hr _) _ [x] rfl (rdi_one wr _ _) (by simp only [List.length_singleton]; omega) ?_; intro v1 w5 happ1; have B5 : Below we.heap.size we w5 := (below_and hbel (Nat.le_refl _) (below_alloc _ _)).trans (happ1.below hfr (by simp; omega)); have hcy5 := HY.out w5 B5; have F5 := happ1.fr hfr (by simp; omega); obtain ⟨ht5, ap5⟩ := happ1.other1 ht hap.out; have O5 := happ1.own; have HP5 := (show Hid (Apart v1 (.slice at' T.length ct)) from ap5); have z5 := B5.size; clear happ1 ap5 hcy; obtain ⟨ar1, cr1, rfl, hcr1⟩ := O5.form))
                  go_wp2_with fail
                  go_roundw
                  case rel => exact ⟨k + 1, by omega, by go_num, by rw [xsN.out]; exact O5, by rw [ysN.out]; exact ht5, F5, hft, HP5.out, B5⟩
                  case measure => simp [intOf]; omega
                · have ys2 : (y != b) = true := by simpa using ysb
                  have ysN := (show Hid ((l.take (k + 1)).filter (oth a b) = T ++ [y]) from by
                    have e := HY2.out
                    rwa [if_pos (by simp [oth, ysa, ysb])] at e)
                  clear ysa ysb HY2
                  go_wp2_with (first | (at_builtin; refine app_ints rfl _ _ rfl (.slice ar R.length cr) R rfl (World.ownsRow.alloc hr _) _ [x] rfl (rdi_one wr _ _) (by simp only [List.length_singleton]; omega) ?_; intro v1 w5 happ1; have B5 : Below we.heap.size we w5 := (below_and hbel (Nat.le_refl _) (below_alloc _ _)).trans (happ1.below hfr (by simp; omega)); have hcy5 := HY.out w5 B5; have F5 := happ1.fr hfr (by simp; omega); obtain ⟨ht5, ap5⟩ := happ1.other1 ht hap.out; have O5 := happ1.own; have HP5 := (show Hid (Apart v1 (.slice at' T.length ct)) from ap5); have z5 := B5.size; clear happ1 ap5 hcy; obtain ⟨ar1, cr1, rfl, hcr1⟩ := O5.form) | (at_builtin; refine app_ints rfl _ _ rfl (.slice at' T.length ct) T rfl (World.ownsRow.alloc ht5 _) _ [y] rfl (rdi_one w5 _ _) (by simp only [List.length_singleton]; omega) ?_; intro v2 w6 happ2; obtain ⟨at2, ct2, rfl, hct2⟩ := happ2.own.form))
                  have B6 : Below we.heap.size we w6 := (below_and B5 (Nat.le_refl _) (below_alloc _ _)).trans (happ2.below hft (by simp; omega))
                  have F6 := happ2.fr hft (by simp; omega)
                  obtain ⟨hr6, ap6⟩ := happ2.other1 O5 (Apart.symm HP5.out)
                  have O6 := happ2.own
                  clear happ2
                  go_wp2_with fail
                  go_roundw
                  case rel => exact ⟨k + 1, by omega, by go_num, by rw [xsN.out]; exact hr6, by rw [ysN.out]; exact O6, F5, F6, ap6.symm, B6⟩
                  case measure => simp [intOf]; omega
        · have j1 : ¬ (k : Int) < (l.length : Int) := by omega
          have hk1 : L.take k = L := List.take_of_length_le (by have := HLN.out; omega)
          have hk2 : l.take k = l := List.take_of_length_le (by omega)
          have hRT : T = R := by rw [HR.out, HTT.out, hk1, hk2, HT.out]
          have hE := same_any wr _ _ _ _ hr.rdi ht.rdi
          rw [decide_eq_true hRT.symm] at hE
          have HE := (show Hid (∀ _ : Unit, _) from fun _ => hE)
          have B9 := below_and B4 le hbel
          clear hr ht hk1 hk2 hRT hE
          go_wp2_with fail
          refine (HE.out ()).mono ?_
          rintro e w9 ⟨rfl, hb9⟩
          go_wp2_with fail
          go_ret
          exact ⟨rfl, below_and B9 le hb9⟩
  · rw [shE_no hc, shL_no hc] at hS
    go_wp2_with fail
    refine hS.mono ?_
    rintro e w3 ⟨s, rfl, hs3, hfs, hb3⟩
    have B3 := below_and B2 le hb3
    have r3 := r2.below hb3
    obtain ⟨ao, cs, rfl, hcs⟩ := hs3.form
    have HO := (show Hid (∀ _ : Unit, _) from fun _ => order_any w3 _ l l.length r3)
    have HN := (show Hid (isO l l.length = true → quo l.length ≤ (p : Int) + 1) from moves_no HA.out HB.out hc)
    clear hS hs3 hfs hb3 B2 r2 HC2 hv2 hc
    by_cases ho : isO l l.length = true
    · have hq := HN.out ho
      clear HN
      go_wp2_with (first | (go_at_call 25; refine (HO.out ()).mono ?_; rintro e w3 ⟨rfl, rfl⟩; rw [ho]) | (go_at_call 14; refine (quorum_any _ _).mono ?_; rintro e w3 ⟨rfl, rfl⟩))
      go_ret
      exact ⟨rfl, B3⟩
    · rw [Bool.not_eq_true] at ho
      go_wp2_with (go_at_call 25; refine (HO.out ()).mono ?_; rintro e w3 ⟨rfl, rfl⟩; rw [ho])
      go_ret
      exact ⟨rfl, B3⟩
end Go.Proofs.Ytcajelodbfpkfaa
