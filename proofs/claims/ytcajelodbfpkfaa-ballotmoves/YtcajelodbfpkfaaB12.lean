/- catenaryref04.Shift, where the first accuses. -/
import Derived.Test.YtcajelodbfpkfaaB11
namespace Go.Proofs.Ytcajelodbfpkfaa
open Go.RowKit Oct Bal

set_option maxHeartbeats 2000000 in
theorem refShift_zero (w : World) (v : Value) (o : List Int) (a b : Int) (hrd : Rdi w v o) {p f : Nat} (c : Bal.Can o a b p f) (hp : p = 0) :
    Calls Try.prog 30 #[v, .int .i64 a, .int .i64 b] w fun e w' => ∃ s, e = .returned (.tuple #[s, .int .i64 0]) ∧ Own w' 3 s (ic (trn o a b)) ∧ Fr w.heap.size s ∧ Below w.heap.size w w' := by
  subst hp
  have HO := (show Hid (∀ n, _) from fun n => refOrder_any w v o n hrd)
  have HP := (show Hid (∀ r, _) from fun r => refPlace_any w v o r hrd)
  have hlen := c.len
  have hf1 := c.f1
  have hf5 := c.f5
  have hlt := c.lt
  obtain ⟨bb, off, cap, rfl, hc1, hc2, hbb, hcell⟩ := hrd.at (by omega)
  have HC := (show Hid (∀ j, j < o.length → w.cell? ⟨bb, off + j, none⟩ = some (.int .i64 (o.getD j 0))) from hcell)
  obtain ⟨pt, hpt⟩ : ∃ pt : Int, pt = (0 : Int) + 1 := ⟨_, rfl⟩
  obtain ⟨q, hq⟩ : ∃ q : Int, q = 2 * (f : Int) + 1 := ⟨_, rfl⟩
  obtain ⟨j, hj⟩ : ∃ j : Nat, j = 2 * f := ⟨_, rfl⟩
  have HA := (show Hid (plc o a = (0 : Int)) from c.pa)
  have HB := (show Hid (plc o b = pt) from by rw [hpt]; exact c.pb)
  have HQ := (show Hid (quo (o.length : Int) = q) from by rw [hq]; exact c.qq)
  have HOO := (show Hid (isO o (o.length : Int) = true) from c.ord)
  have hne : (pt != 1) = false := by simpa using hpt
  have hlt2 : ¬ (q ≤ pt) := by omega
  have hdd : decide (q ≤ pt) = false := by simpa using hlt2
  have hq1 : q - 1 = (j : Int) := by omega
  have hwj : wrap64 (j : Int) = (j : Int) := IntWalk.wrap64_in _ ⟨by omega, by omega⟩
  have hN16 : o.length ≤ 16 := by omega
  have HJ := (show Hid (j = 2 * f ∧ pt = (0 : Int) + 1 ∧ q = 2 * (f : Int) + 1 ∧ o.length = 3 * f + 1) from ⟨hj, hpt, hq, hlen⟩)
  have HPR0 := (show Hid (∀ l, pre true j a l = l) from fun l => if_neg (fun h => by cases h.1))
  clear hcell hrd hpt hq hj hlen
  go_enter Try.func30, Try.ntmps30
  go_wp2_with (first | (go_at_call 26; refine (HO.out _).mono ?_; rintro e w ⟨rfl, rfl⟩; rw [HOO.out]) | (go_at_call 28; refine (HP.out _).mono ?_; rintro e w ⟨rfl, rfl⟩; first | rw [HA.out] | rw [HB.out]) | (go_at_call 15; refine (refQuorum_any _ _).mono ?_; rintro e w ⟨rfl, rfl⟩; rw [HQ.out]))
  clear HO HP
  have hB0 := below_alloc w (.cells #[] 3)
  have hO0 := own_none w 3
  have hF0 : Fr w.heap.size (.slice (some ⟨w.heap.size, 0, none⟩) 0 0) := fr_at _ _ _ _ (Nat.le_refl _)
  generalize (.slice (some ⟨w.heap.size, 0, none⟩) 0 0 : Value) = t0 at *
  generalize w.alloc (.cells #[] 3) = w2 at *
  go_loopw [11, 43] (fun t i wr => ∃ (k : Nat) (out : List Int), k ≤ o.length ∧ i = .int .i64 k ∧ Own wr 3 t (ic out) ∧ Fr w.heap.size t ∧ Below w.heap.size w wr ∧ Hid (St true j a (kp true a b (o.take k)) out)) (fun _ i _ => o.length - (intOf i).toNat)
  case atStart => exact ⟨0, [], Nat.zero_le _, rfl, hO0, hF0, hB0, St.start _ _ _⟩
  case round =>
    obtain ⟨k, out, hk, rfl, hown, hfr, hbel, hst⟩ := hrel
    obtain ⟨ao, ca, rfl, hca⟩ := hown.form
    have hol : out.length ≤ 17 := by
      have h1 := hst.out.len
      have h2 := List.length_filter_le (keep true a b) (o.take k)
      rw [List.length_take] at h2
      have h3 : (kp true a b (o.take k)).length ≤ min k o.length := h2
      omega
    rw [ic_len] at *
    have hsz := hbel.size
    by_cases hko : k < o.length
    · obtain ⟨x, hx⟩ : ∃ x, x = o.getD k 0 := ⟨_, rfl⟩
      have hcx : wr.cell? ⟨bb, off + k, none⟩ = some (.int .i64 x) := (hbel.cell (p := ⟨bb, off + k, none⟩) hbb).trans (by rw [hx]; exact HC.out k hko)
      have HX := (show Hid (o[k]? = some x) from getD_some hko hx)
      have i1 : (k : Int) < (o.length : Int) := by omega
      have HS := (show Hid _ from kp_snoc true a b o k x HX.out)
      clear hx
      have HPR := (show Hid (pre true j a out = out) from HPR0.out out)
      by_cases hxb : x = b
      · have xb : (x != b) = false := by simpa using hxb
        have HN := (show Hid (St true j a (kp true a b (o.take (k + 1))) out) from by
            show St true j a (kp true a b (o.take (k + 1))) out
            rw [HS.out, if_neg (by simp [keep, hxb]), List.append_nil, ← HPR.out]
            exact hst.out.pre)
        clear hxb HS HPR hst
        go_wp2_with fail
        go_wp2_with fail
        go_roundw
        case rel => exact ⟨k + 1, out, by omega, by go_num, hown, hfr, hbel, HN⟩
        case measure => simp [intOf]; omega
      · have xb : (x != b) = true := by simpa using hxb
        by_cases hxa : x = a
        · have xa : (x != a) = false := by simpa using hxa
          have HN := (show Hid (St true j a (kp true a b (o.take (k + 1))) (out ++ [x])) from by
              show St true j a (kp true a b (o.take (k + 1))) (out ++ [x])
              rw [HS.out, if_pos (by simp [keep, hxb]), ← HPR.out]
              exact hst.out.more (fun h => by cases h))
          clear hxb hxa HS HPR hst
          go_wp2_with (first | (at_builtin; refine app_ints rfl _ _ rfl (.slice ao out.length ca) out rfl (World.ownsRow.alloc hown _) _ [x] rfl (rdi_one wr _ _) (by simp only [List.length_singleton]; omega) ?_; intro v2 w4 happ2; obtain ⟨ao2, ca2, rfl, hca2⟩ := happ2.own.form))
          have B4 : Below w.heap.size w w4 := (below_and hbel (Nat.le_refl _) (below_alloc _ _)).trans (happ2.below hfr (by simp; omega))
          have F4 := happ2.fr hfr (by simp; omega)
          have O4 := happ2.own
          clear happ2
          go_wp2_with fail
          go_roundw
          case rel => exact ⟨k + 1, (out ++ [x]), by omega, by go_num, O4, F4, B4, HN⟩
          case measure => simp [intOf]; omega
        · have xa : (x != a) = true := by simpa using hxa
          have HN := (show Hid (St true j a (kp true a b (o.take (k + 1))) (out ++ [x])) from by
              show St true j a (kp true a b (o.take (k + 1))) (out ++ [x])
              rw [HS.out, if_pos (by simp [keep, hxb, hxa]), ← HPR.out]
              exact hst.out.more (fun h => by cases h))
          clear hxb hxa HS HPR hst
          go_wp2_with (first | (at_builtin; refine app_ints rfl _ _ rfl (.slice ao out.length ca) out rfl (World.ownsRow.alloc hown _) _ [x] rfl (rdi_one wr _ _) (by simp only [List.length_singleton]; omega) ?_; intro v2 w4 happ2; obtain ⟨ao2, ca2, rfl, hca2⟩ := happ2.own.form))
          have B4 : Below w.heap.size w w4 := (below_and hbel (Nat.le_refl _) (below_alloc _ _)).trans (happ2.below hfr (by simp; omega))
          have F4 := happ2.fr hfr (by simp; omega)
          have O4 := happ2.own
          clear happ2
          go_wp2_with fail
          go_roundw
          case rel => exact ⟨k + 1, (out ++ [x]), by omega, by go_num, O4, F4, B4, HN⟩
          case measure => simp [intOf]; omega
    · have i1 : ¬ (k : Int) < (o.length : Int) := by omega
      have hk2 : o.take k = o := List.take_of_length_le (by omega)
      rw [hk2] at hst
      clear hk2
      have HT := (show Hid (trn o a b = out ++ [b]) from by
        show trn o a b = out ++ [b]
        have hs : out = kp true a b o := hst.out
        rw [c.trn0 rfl, hs])
      clear hst
      go_wp2_with (at_builtin; refine app_ints rfl _ _ rfl (.slice ao out.length ca) out rfl (World.ownsRow.alloc hown _) _ [b] rfl (rdi_one _ _ _) (by simp only [List.length_singleton]; omega) ?_; intro v2 w4 happ2)
      go_ret2
      refine ⟨_, rfl, by rw [HT.out]; exact happ2.own, happ2.fr hfr (by simp; omega), ?_⟩
      exact (below_and hbel (Nat.le_refl _) (below_alloc _ _)).trans (happ2.below hfr (by simp; omega))
/-- catenaryref04.Shift. -/
theorem refShift_any (w : World) (v : Value) (o : List Int) (a b : Int) (hrd : Rdi w v o) :
    Calls Try.prog 30 #[v, .int .i64 a, .int .i64 b] w fun e w' => ∃ s, e = .returned (.tuple #[s, .int .i64 (shE o a b)]) ∧ Own w' 3 s (ic (shL o a b)) ∧ Fr w.heap.size s ∧ Below w.heap.size w w' := by
  by_cases h : can o a b = true
  · rw [shE_yes h, shL_yes h]
    obtain ⟨p, f, c⟩ := can_get h
    by_cases hp : p = 0
    · exact refShift_zero w v o a b hrd c hp
    · exact refShift_pos w v o a b hrd c (by omega)
  · rw [shE_no h, shL_no h]
    refine (refShift_not w v o a b hrd h).mono ?_
    rintro e w' ⟨rfl, rfl⟩
    exact ⟨_, rfl, Own.nil _ _, Fr.nil _, Below.refl _ _⟩
end Go.Proofs.Ytcajelodbfpkfaa
