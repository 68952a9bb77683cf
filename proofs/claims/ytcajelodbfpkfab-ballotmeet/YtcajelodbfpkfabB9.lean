/- ballot.Shift, where the chain can be turned so. -/
import Derived.Test.YtcajelodbfpkfabB8
namespace Go.Proofs.Ytcajelodbfpkfab
open Go.RowKit Oct Bal

set_option maxHeartbeats 1000000 in
theorem shift_yes (w : World) (v : Value) (o : List Int) (a b : Int) (hrd : Rdi w v o) (h : can o a b = true) :
    Calls Try.prog 11 #[v, .int .i64 a, .int .i64 b] w fun e w' => ∃ s, e = .returned (.tuple #[s, .int .i64 0]) ∧ Own w' 3 s (ic (trn o a b)) ∧ Fr w.heap.size s ∧ Below w.heap.size w w' := by
  obtain ⟨p, f, c⟩ := can_get h
  have HO := (show Hid (∀ n, _) from fun n => order_any w v o n hrd)
  have HP := (show Hid (∀ r, _) from fun r => place_any w v o r hrd)
  have hlen := c.len
  have hf1 := c.f1
  have hf5 := c.f5
  have hlt := c.lt
  obtain ⟨bb, off, cap, rfl, hc1, hc2, hbb, hcell⟩ := hrd.at (by omega)
  have HC := (show Hid (∀ j, j < o.length → w.cell? ⟨bb, off + j, none⟩ = some (.int .i64 (o.getD j 0))) from hcell)
  obtain ⟨pt, hpt⟩ : ∃ pt : Int, pt = (p : Int) + 1 := ⟨_, rfl⟩
  obtain ⟨q, hq⟩ : ∃ q : Int, q = 2 * (f : Int) + 1 := ⟨_, rfl⟩
  obtain ⟨j, hj⟩ : ∃ j : Nat, j = 2 * f := ⟨_, rfl⟩
  have HA := (show Hid (plc o a = (p : Int)) from c.pa)
  have HB := (show Hid (plc o b = pt) from by rw [hpt]; exact c.pb)
  have HQ := (show Hid (quo (o.length : Int) = q) from by rw [hq]; exact c.qq)
  have HOO := (show Hid (isO o (o.length : Int) = true) from c.ord)
  have hm1 : ((p : Int) == -1) = false := by simp
  have hne : (pt != (p : Int) + 1) = false := by simpa using hpt
  have hlt2 : ¬ (q ≤ pt) := by omega
  have hq1 : q - 1 = (j : Int) := by omega
  have hN16 : o.length ≤ 16 := by omega
  have HJ := (show Hid (j = 2 * f ∧ pt = (p : Int) + 1 ∧ q = 2 * (f : Int) + 1 ∧ o.length = 3 * f + 1) from ⟨hj, hpt, hq, hlen⟩)
  have hmk : ∀ u : World, (Instr.makeSlice 22 (.int .i64 0) (.int .i64 (o.length : Int))).run Try.prog u = .ok (.slice (some ⟨u.heap.size, 0, none⟩) 0 o.length) (u.alloc (.cells (madeCells #[.int .i64 0] o.length) 3)) := fun u => run_mk 0 o.length (Nat.zero_le _) (by omega) u
  have hdd : decide (q ≤ pt) = false := by simpa using hlt2
  have hpp : (p : Int) + 1 ≤ 100 := by omega
  clear hcell hrd h hpt hq hj hlen
  go_enter Try.func11, Try.ntmps11
  go_wp2_with (first | (go_at_call 14; refine (HO.out _).mono ?_; rintro e w ⟨rfl, rfl⟩; rw [HOO.out]) | (go_at_call 15; refine (HP.out _).mono ?_; rintro e w ⟨rfl, rfl⟩; first | rw [HA.out] | rw [HB.out]) | (go_at_call 7; refine (quorum_any _ _).mono ?_; rintro e w ⟨rfl, rfl⟩; rw [HQ.out]))
  clear hmk HO HP
  obtain ⟨g, hg⟩ : ∃ g, g = w.heap.size := ⟨_, rfl⟩
  have hB0 := below_alloc w (.cells (madeCells #[.int .i64 0] o.length) 3)
  have hr0 := row_made w o.length
  have hO0 := own_row hr0 0 (Nat.zero_le _) (by rw [ic_len, iz, List.length_replicate]; unfold maxLen; omega)
  rw [List.take_zero, ic_len, iz, List.length_replicate] at hO0
  rw [← hg] at hO0
  have hgw : w.heap.size ≤ g := by omega
  have hgl : g < (w.alloc (.cells (madeCells #[.int .i64 0] o.length) 3)).heap.size := by simp [hg]
  have HG := (show Hid (g = w.heap.size) from hg)
  rw [← hg]
  clear hr0 hg
  generalize w.alloc (.cells (madeCells #[.int .i64 0] o.length) 3) = w2 at *
  generalize hp0 : decide (p = 0) = p0
  have HP0 := (show Hid (decide (p = 0) = p0) from hp0)
  clear hp0
  go_loopw [11, 44] (fun t i wr => ∃ (k m : Nat), k ≤ o.length ∧ m ≤ k ∧ i = .int .i64 k ∧ t = .slice (some ⟨g, 0, none⟩) m o.length ∧ Hid ((kp p0 a b (o.take k)).length = m) ∧ Own wr 3 (.slice (some ⟨g, 0, none⟩) m o.length) (ic (kp p0 a b (o.take k))) ∧ Below w.heap.size w wr ∧ g < wr.heap.size) (fun _ i _ => o.length - (intOf i).toNat)
  case atStart => exact ⟨0, 0, Nat.zero_le _, Nat.le_refl _, rfl, rfl, (rfl : (kp p0 a b (o.take 0)).length = 0), hO0, hB0, hgl⟩
  case round =>
    obtain ⟨k, m, hk, hmk, rfl, rfl, hkl, hown, hbel, hgr⟩ := hrel
    by_cases hko : k < o.length
    · obtain ⟨x, hx⟩ : ∃ x, x = o.getD k 0 := ⟨_, rfl⟩
      have hcx : wr.cell? ⟨bb, off + k, none⟩ = some (.int .i64 x) := (hbel.cell (p := ⟨bb, off + k, none⟩) hbb).trans (by rw [hx]; exact HC.out k hko)
      have HX := (show Hid (o[k]? = some x) from getD_some hko hx)
      have i1 : (k : Int) < (o.length : Int) := by omega
      have HK := (show Hid _ from keep_at c p0 HX.out)
      have HS := (show Hid _ from kp_snoc p0 a b o k x HX.out)
      clear hx
      by_cases hkb : k = p + 1
      · have t1 : ((k : Int) != pt) = false := by have := HJ.out.2.1; simp; omega
        have HS2 := (show Hid (kp p0 a b (o.take (k + 1)) = kp p0 a b (o.take k)) from by
          have e := HS.out
          rwa [HK.out, hkb, decide_eq_false (by simp), Bool.false_and, if_neg (by simp), List.append_nil, ← hkb] at e)
        rw [← HS2.out] at hown hkl
        clear HS HK HS2 hkb
        go_wp2_with fail
        go_roundw
        case rel => exact ⟨k + 1, m, by omega, by omega, by go_num, rfl, hkl, hown, hbel, hgr⟩
        case measure => simp [intOf]; omega
      · have t1 : ((k : Int) != pt) = true := by have := HJ.out.2.1; simp; omega
        by_cases hka : k = p
        · have t2 : ((k : Int) != (p : Int)) = false := by simp [hka]
          by_cases hz : p0 = false
          · have t3 : ((p : Int) == 0) = false := by have := HP0.out; rw [hz] at this; simpa using this
            have HKV := (show Hid (keep p0 a b x = false) from by
              show keep p0 a b x = false
              rw [HK.out, decide_eq_true hkb, decide_eq_false (fun h => h hka), hz]; rfl)
            clear hz
            have HS2 := (show Hid (kp p0 a b (o.take (k + 1)) = kp p0 a b (o.take k)) from by
              have e := HS.out
              rwa [HKV.out, if_neg (by simp), List.append_nil] at e)
            rw [← HS2.out] at hown hkl
            clear HS HK HS2 HKV hkb hka
            go_wp2_with fail
            go_roundw
            case rel => exact ⟨k + 1, m, by omega, by omega, by go_num, rfl, hkl, hown, hbel, hgr⟩
            case measure => simp [intOf]; omega
          · have hz1 : p0 = true := by simpa using hz
            have t3 : ((p : Int) == 0) = true := by have := HP0.out; rw [hz1] at this; simpa using this
            have HKV := (show Hid (keep p0 a b x = true) from by
              show keep p0 a b x = true
              rw [HK.out, decide_eq_true hkb, hz1]; simp)
            clear hz hz1
            have HS2 := (show Hid (kp p0 a b (o.take (k + 1)) = kp p0 a b (o.take k) ++ [x]) from by
              have e := HS.out
              rwa [HKV.out, if_pos rfl] at e)
            clear HS HK HKV hkb hka
            go_wp2_with (at_builtin; refine app_room rfl _ _ rfl g m o.length (kp p0 a b (o.take k)) rfl hkl.out (World.ownsRow.alloc hown _) _ [x] rfl (rdi_one wr _ _) (by simp only [List.length_singleton]; omega) (by omega) ?_; intro w3 ho3 hg3)
            rw [← HS2.out] at ho3
            have HL3 := (show Hid ((kp p0 a b (o.take (k + 1))).length = m + 1) from by
              show (kp p0 a b (o.take (k + 1))).length = m + 1
              rw [HS2.out, List.length_append, hkl.out]; rfl)
            have hB3 : Below w.heap.size w w3 := (below_and hbel (Nat.le_refl _) (below_alloc _ _)).trans (grown_below hg3 (by simp; have := hbel.size; omega) (fun k hk => by cases hk; exact hgw))
            have hg4 : g < w3.heap.size := by have := hg3.size; simp at this; omega
            clear hg3
            go_wp2_with fail
            go_roundw
            case rel => exact ⟨k + 1, m + 1, by omega, by omega, by go_num, rfl, HL3, ho3, hB3, hg4⟩
            case measure => simp [intOf]; omega
        · have t2 : ((k : Int) != (p : Int)) = true := by simp; omega
          have HS2 := (show Hid (kp p0 a b (o.take (k + 1)) = kp p0 a b (o.take k) ++ [x]) from by
            have e := HS.out
            rwa [HK.out, decide_eq_true hkb, decide_eq_true hka, Bool.true_or, Bool.true_and, if_pos rfl] at e)
          clear HS HK hkb hka
          go_wp2_with (at_builtin; refine app_room rfl _ _ rfl g m o.length (kp p0 a b (o.take k)) rfl hkl.out (World.ownsRow.alloc hown _) _ [x] rfl (rdi_one wr _ _) (by simp only [List.length_singleton]; omega) (by omega) ?_; intro w3 ho3 hg3)
          rw [← HS2.out] at ho3
          have HL3 := (show Hid ((kp p0 a b (o.take (k + 1))).length = m + 1) from by
            show (kp p0 a b (o.take (k + 1))).length = m + 1
            rw [HS2.out, List.length_append, hkl.out]; rfl)
          have hB3 : Below w.heap.size w w3 := (below_and hbel (Nat.le_refl _) (below_alloc _ _)).trans (grown_below hg3 (by simp; have := hbel.size; omega) (fun k hk => by cases hk; exact hgw))
          have hg4 : g < w3.heap.size := by have := hg3.size; simp at this; omega
          clear hg3
          go_wp2_with fail
          go_roundw
          case rel => exact ⟨k + 1, m + 1, by omega, by omega, by go_num, rfl, HL3, ho3, hB3, hg4⟩
          case measure => simp [intOf]; omega
    · have i1 : ¬ (k : Int) < (o.length : Int) := by omega
      have hk2 : o.take k = o := List.take_of_length_le (by omega)
      rw [hk2] at hown hkl
      clear hk2
      have hsz := hbel.size
      by_cases hp : p = 0
      · have hp1 : ¬ (0 < (p : Int)) := by omega
        have hz : p0 = true := by rw [← HP0.out]; simpa using hp
        rw [hz] at hown hkl
        have e0 := c.len0 hp
        have hJ := HJ.out
        have hm : m + 1 ≤ o.length := by have := hkl.out; omega
        have HT := (show Hid _ from c.trn0 hp)
        clear hz hp e0 hJ
        go_wp2_with (at_builtin; refine app_room rfl _ _ rfl g m o.length (kp true a b o) rfl hkl.out (World.ownsRow.alloc hown _) _ [b] rfl (rdi_one wr _ _) hm (by omega) ?_; intro w3 ho3 hg3)
        go_ret2
        refine ⟨_, rfl, by rw [HT.out]; exact ho3, fr_at _ _ _ _ hgw, ?_⟩
        exact (below_and hbel (Nat.le_refl _) (below_alloc _ _)).trans (grown_below hg3 (by simp; omega) (fun k hk => by cases hk; exact hgw))
      · have hp1 : 0 < (p : Int) := by omega
        have hz : p0 = false := by rw [← HP0.out]; simpa using hp
        rw [hz] at hown hkl
        have e0 := c.len1
        have hJ := HJ.out
        have hm : m + 2 ≤ o.length := by have := hkl.out; omega
        have hjm : j ≤ m := by have := hkl.out; omega
        have HT := (show Hid (trn o a b = ins j a (kp false a b o) ++ [b]) from by
          show trn o a b = ins j a (kp false a b o) ++ [b]
          rw [hJ.1]; exact c.trn1 (by omega))
        clear hz hp e0 hJ
        have hI := insert_any (wr.alloc (.cells #[.int .i64 a] 3)) g o.length j wr.heap.size m (kp false a b o) a (World.ownsRow.alloc hown _) hkl.out hjm (by omega) (by omega) (by omega) (Row.new wr 3 [.int .i64 a])
        have HI := (show Hid (∀ _ : Unit, _) from fun _ => hI)
        clear hI
        go_wp2_with (first | (go_at_call 7; refine (quorum_any _ _).mono ?_; rintro e w5 ⟨rfl, rfl⟩; rw [HQ.out]) | (go_at_call 16; refine (HI.out ()).mono ?_; rintro e w4 ⟨rfl, ho4, hg4⟩) | (at_builtin; refine app_room rfl _ _ rfl g (m + 1) o.length (ins j a (kp false a b o)) rfl (by rw [ins_len, hkl.out]) (World.ownsRow.alloc ho4 _) _ [b] rfl (rdi_one w4 _ _) (by simp only [List.length_singleton]; omega) (by omega) ?_; intro w3 ho3 hg3))
        go_ret2
        refine ⟨_, rfl, by rw [HT.out]; exact ho3, fr_at _ _ _ _ hgw, ?_⟩
        have b4 : Below w.heap.size w w4 := (below_and hbel (Nat.le_refl _) (below_alloc _ _)).trans (grown_below hg4 (by simp; omega) (fun k hk => by cases hk; exact hgw))
        have := b4.size
        exact (below_and b4 (Nat.le_refl _) (below_alloc _ _)).trans (grown_below hg3 (by simp; omega) (fun k hk => by cases hk; exact hgw))

/-- ballot.Shift. -/
theorem shift_any (w : World) (v : Value) (o : List Int) (a b : Int) (hrd : Rdi w v o) :
    Calls Try.prog 11 #[v, .int .i64 a, .int .i64 b] w fun e w' => ∃ s, e = .returned (.tuple #[s, .int .i64 (shE o a b)]) ∧ Own w' 3 s (ic (shL o a b)) ∧ Fr w.heap.size s ∧ Below w.heap.size w w' := by
  by_cases h : can o a b = true
  · rw [shE_yes h, shL_yes h]
    exact shift_yes w v o a b hrd h
  · rw [shE_no h, shL_no h]
    refine (shift_not w v o a b hrd h).mono ?_
    rintro e w' ⟨rfl, rfl⟩
    exact ⟨_, rfl, Own.nil _ _, Fr.nil _, Below.refl _ _⟩
end Go.Proofs.Ytcajelodbfpkfab
