/- catenaryref04.Shift, where the chain can be turned so. -/
import Derived.Test.YtcajelodbfpkfaaB10
namespace Go.Proofs.Ytcajelodbfpkfaa
open Go.RowKit Oct Bal

set_option maxHeartbeats 2000000 in
theorem refShift_pos (w : World) (v : Value) (o : List Int) (a b : Int) (hrd : Rdi w v o) {p f : Nat} (c : Bal.Can o a b p f) (hp : 0 < p) :
    Calls Try.prog 30 #[v, .int .i64 a, .int .i64 b] w fun e w' => ∃ s, e = .returned (.tuple #[s, .int .i64 0]) ∧ Own w' 3 s (ic (trn o a b)) ∧ Fr w.heap.size s ∧ Below w.heap.size w w' := by
  have HO := (show Hid (∀ n, _) from fun n => refOrder_any w v o n hrd)
  have HP := (show Hid (∀ r, _) from fun r => refPlace_any w v o r hrd)
  have hlen := c.len
  have hf1 := c.f1
  have hf5 := c.f5
  have hlt := c.lt
  obtain ⟨bb, off, cap, rfl, hc1, hc2, hbb, hcell⟩ := hrd.at (by omega)
  have HC := (show Hid (∀ j, j < o.length → w.cell? ⟨bb, off + j, none⟩ = some (.int .i64 (o.getD j 0))) from hcell)
  obtain ⟨pt, hpt⟩ : ∃ pt : Int, pt = (p : Int) + 1 := ⟨_, rfl⟩
  obtain ⟨q, hq⟩ : ∃ q : Int, q = 2 * (f : Int) + 1 := ⟨_, rfl⟩
  obtain ⟨j, hj⟩ : ∃ j : Nat, j = 2 * f := ⟨_, rfl⟩
  have HA := (show Hid (plc o a = (p : Int)) from c.pa)
  have HB := (show Hid (plc o b = pt) from by rw [hpt]; exact c.pb)
  have HQ := (show Hid (quo (o.length : Int) = q) from by rw [hq]; exact c.qq)
  have HOO := (show Hid (isO o (o.length : Int) = true) from c.ord)
  have hm1 : ¬ ((p : Int) < 0) := by omega
  have hm2 : decide ((p : Int) < 0) = false := decide_eq_false hm1
  have hne : (pt != (p : Int) + 1) = false := by simpa using hpt
  have hlt2 : ¬ (q ≤ pt) := by omega
  have hdd : decide (q ≤ pt) = false := by simpa using hlt2
  have hq1 : q - 1 = (j : Int) := by omega
  have hwj : wrap64 (j : Int) = (j : Int) := IntWalk.wrap64_in _ ⟨by omega, by omega⟩
  have hN16 : o.length ≤ 16 := by omega
  have HJ := (show Hid (j = 2 * f ∧ pt = (p : Int) + 1 ∧ q = 2 * (f : Int) + 1 ∧ o.length = 3 * f + 1) from ⟨hj, hpt, hq, hlen⟩)
  have hpp : (p : Int) + 1 ≤ 100 := by omega
  have hp1 : 0 < (p : Int) := by omega
  have hpz : ((p : Int) == 0) = false := by rw [beq_eq_false_iff_ne]; omega
  clear hcell hrd hpt hq hj hlen
  go_enter Try.func30, Try.ntmps30
  go_wp2_with (first | (go_at_call 26; refine (HO.out _).mono ?_; rintro e w ⟨rfl, rfl⟩; rw [HOO.out]) | (go_at_call 28; refine (HP.out _).mono ?_; rintro e w ⟨rfl, rfl⟩; first | rw [HA.out] | rw [HB.out]) | (go_at_call 15; refine (refQuorum_any _ _).mono ?_; rintro e w ⟨rfl, rfl⟩; rw [HQ.out]))
  clear HO HP
  have hB0 := below_alloc w (.cells #[] 3)
  have hO0 := own_none w 3
  have hF0 : Fr w.heap.size (.slice (some ⟨w.heap.size, 0, none⟩) 0 0) := fr_at _ _ _ _ (Nat.le_refl _)
  generalize (.slice (some ⟨w.heap.size, 0, none⟩) 0 0 : Value) = t0 at *
  generalize w.alloc (.cells #[] 3) = w2 at *
  go_loopw [11, 43] (fun t i wr => ∃ (k : Nat) (out : List Int), k ≤ o.length ∧ i = .int .i64 k ∧ Own wr 3 t (ic out) ∧ Fr w.heap.size t ∧ Below w.heap.size w wr ∧ Hid (St false j a (kp false a b (o.take k)) out)) (fun _ i _ => o.length - (intOf i).toNat)
  case atStart => exact ⟨0, [], Nat.zero_le _, rfl, hO0, hF0, hB0, St.start _ _ _⟩
  case round =>
    obtain ⟨k, out, hk, rfl, hown, hfr, hbel, hst⟩ := hrel
    obtain ⟨ao, ca, rfl, hca⟩ := hown.form
    have hol : out.length ≤ 17 := by
      have h1 := hst.out.len
      have h2 := List.length_filter_le (keep false a b) (o.take k)
      rw [List.length_take] at h2
      have h3 : (kp false a b (o.take k)).length ≤ min k o.length := h2
      omega
    rw [ic_len] at *
    have hsz := hbel.size
    by_cases hko : k < o.length
    · obtain ⟨x, hx⟩ : ∃ x, x = o.getD k 0 := ⟨_, rfl⟩
      have hcx : wr.cell? ⟨bb, off + k, none⟩ = some (.int .i64 x) := (hbel.cell (p := ⟨bb, off + k, none⟩) hbb).trans (by rw [hx]; exact HC.out k hko)
      have HX := (show Hid (o[k]? = some x) from getD_some hko hx)
      have i1 : (k : Int) < (o.length : Int) := by omega
      have HS := (show Hid _ from kp_snoc false a b o k x HX.out)
      clear hx
      by_cases hl : ¬ out.length = j
      · have hlb : ((out.length : Int) == (j : Int)) = false := by rw [beq_eq_false_iff_ne]; omega
        have hlb3 : ¬ ((out.length : Int) = (j : Int)) := by omega
        have HPR := (show Hid (pre false j a out = out) from if_neg (fun h => hl h.2.1))
        clear hl
        by_cases hxb : x = b
        · have xb : (x != b) = false := by simpa using hxb
          have HN := (show Hid (St false j a (kp false a b (o.take (k + 1))) out) from by
              show St false j a (kp false a b (o.take (k + 1))) out
              rw [HS.out, if_neg (by simp [keep, hxb]), List.append_nil, ← HPR.out]
              exact hst.out.pre)
          clear hxb HS HPR hst
          go_wp2_with (first | (go_at_call 15; refine (refQuorum_any _ _).mono ?_; rintro e wr ⟨rfl, rfl⟩; rw [HQ.out]))
          go_wp2_with fail
          go_roundw
          case rel => exact ⟨k + 1, out, by omega, by go_num, hown, hfr, hbel, HN⟩
          case measure => simp [intOf]; omega
        · have xb : (x != b) = true := by simpa using hxb
          by_cases hxa : x = a
          · have xa : (x != a) = false := by simpa using hxa
            have HN := (show Hid (St false j a (kp false a b (o.take (k + 1))) out) from by
                show St false j a (kp false a b (o.take (k + 1))) out
                rw [HS.out, if_neg (by simp [keep, hxa]), List.append_nil, ← HPR.out]
                exact hst.out.pre)
            clear hxb hxa HS HPR hst
            go_wp2_with (first | (go_at_call 15; refine (refQuorum_any _ _).mono ?_; rintro e wr ⟨rfl, rfl⟩; rw [HQ.out]))
            go_wp2_with fail
            go_roundw
            case rel => exact ⟨k + 1, out, by omega, by go_num, hown, hfr, hbel, HN⟩
            case measure => simp [intOf]; omega
          · have xa : (x != a) = true := by simpa using hxa
            have HN := (show Hid (St false j a (kp false a b (o.take (k + 1))) (out ++ [x])) from by
                show St false j a (kp false a b (o.take (k + 1))) (out ++ [x])
                rw [HS.out, if_pos (by simp [keep, hxb, hxa]), ← HPR.out]
                exact hst.out.more (fun _ => hxa))
            clear hxb hxa HS HPR hst
            go_wp2_with (first | (go_at_call 15; refine (refQuorum_any _ _).mono ?_; rintro e wr ⟨rfl, rfl⟩; rw [HQ.out]) | (at_builtin; refine app_ints rfl _ _ rfl (.slice ao out.length ca) out rfl (World.ownsRow.alloc hown _) _ [x] rfl (rdi_one wr _ _) (by simp only [List.length_singleton]; omega) ?_; intro v2 w4 happ2; obtain ⟨ao2, ca2, rfl, hca2⟩ := happ2.own.form))
            have B4 : Below w.heap.size w w4 := (below_and hbel (Nat.le_refl _) (below_alloc _ _)).trans (happ2.below hfr (by simp; omega))
            have F4 := happ2.fr hfr (by simp; omega)
            have O4 := happ2.own
            clear happ2
            go_wp2_with fail
            go_roundw
            case rel => exact ⟨k + 1, (out ++ [x]), by omega, by go_num, O4, F4, B4, HN⟩
            case measure => simp [intOf]; omega
      · have hlb : ((out.length : Int) == (j : Int)) = true := by rw [beq_iff_eq]; omega
        have HPL := (show Hid (∀ _ : Unit, _) from fun _ => refPlace_any wr (.slice ao out.length ca) out a (hown.rdi))
        have hl2 : out.length = j := by omega
        clear hl
        by_cases hao : a ∈ out
        · have hpn : ¬ (plc out a < 0) := by
            have h1 := plc_lo out a
            have h2 : plc out a ≠ -1 := fun e => plc_none.1 e hao
            omega
          have HPR := (show Hid (pre false j a out = out) from if_neg (fun h => h.2.2 hao))
          clear hao hl2
          by_cases hxb : x = b
          · have xb : (x != b) = false := by simpa using hxb
            have HN := (show Hid (St false j a (kp false a b (o.take (k + 1))) out) from by
                show St false j a (kp false a b (o.take (k + 1))) out
                rw [HS.out, if_neg (by simp [keep, hxb]), List.append_nil, ← HPR.out]
                exact hst.out.pre)
            clear hxb HS HPR hst
            go_wp2_with (first | (go_at_call 15; refine (refQuorum_any _ _).mono ?_; rintro e wr ⟨rfl, rfl⟩; rw [HQ.out]) | (go_at_call 28; refine (HPL.out ()).mono ?_; rintro e wr ⟨rfl, rfl⟩))
            go_wp2_with fail
            go_roundw
            case rel => exact ⟨k + 1, out, by omega, by go_num, hown, hfr, hbel, HN⟩
            case measure => simp [intOf]; omega
          · have xb : (x != b) = true := by simpa using hxb
            by_cases hxa : x = a
            · have xa : (x != a) = false := by simpa using hxa
              have HN := (show Hid (St false j a (kp false a b (o.take (k + 1))) out) from by
                  show St false j a (kp false a b (o.take (k + 1))) out
                  rw [HS.out, if_neg (by simp [keep, hxa]), List.append_nil, ← HPR.out]
                  exact hst.out.pre)
              clear hxb hxa HS HPR hst
              go_wp2_with (first | (go_at_call 15; refine (refQuorum_any _ _).mono ?_; rintro e wr ⟨rfl, rfl⟩; rw [HQ.out]) | (go_at_call 28; refine (HPL.out ()).mono ?_; rintro e wr ⟨rfl, rfl⟩))
              go_wp2_with fail
              go_roundw
              case rel => exact ⟨k + 1, out, by omega, by go_num, hown, hfr, hbel, HN⟩
              case measure => simp [intOf]; omega
            · have xa : (x != a) = true := by simpa using hxa
              have HN := (show Hid (St false j a (kp false a b (o.take (k + 1))) (out ++ [x])) from by
                  show St false j a (kp false a b (o.take (k + 1))) (out ++ [x])
                  rw [HS.out, if_pos (by simp [keep, hxb, hxa]), ← HPR.out]
                  exact hst.out.more (fun _ => hxa))
              clear hxb hxa HS HPR hst
              go_wp2_with (first | (go_at_call 15; refine (refQuorum_any _ _).mono ?_; rintro e wr ⟨rfl, rfl⟩; rw [HQ.out]) | (go_at_call 28; refine (HPL.out ()).mono ?_; rintro e wr ⟨rfl, rfl⟩) | (at_builtin; refine app_ints rfl _ _ rfl (.slice ao out.length ca) out rfl (World.ownsRow.alloc hown _) _ [x] rfl (rdi_one wr _ _) (by simp only [List.length_singleton]; omega) ?_; intro v2 w4 happ2; obtain ⟨ao2, ca2, rfl, hca2⟩ := happ2.own.form))
              have B4 : Below w.heap.size w w4 := (below_and hbel (Nat.le_refl _) (below_alloc _ _)).trans (happ2.below hfr (by simp; omega))
              have F4 := happ2.fr hfr (by simp; omega)
              have O4 := happ2.own
              clear happ2
              go_wp2_with fail
              go_roundw
              case rel => exact ⟨k + 1, (out ++ [x]), by omega, by go_num, O4, F4, B4, HN⟩
              case measure => simp [intOf]; omega
        · have hpn : plc out a < 0 := by
            have h2 : plc out a = -1 := plc_none.2 hao
            omega
          have HPR := (show Hid (pre false j a out = out ++ [a]) from if_pos ⟨rfl, hl2, hao⟩)
          clear hao hl2
          by_cases hxb : x = b
          · have xb : (x != b) = false := by simpa using hxb
            have HN := (show Hid (St false j a (kp false a b (o.take (k + 1))) (out ++ [a])) from by
                show St false j a (kp false a b (o.take (k + 1))) (out ++ [a])
                rw [HS.out, if_neg (by simp [keep, hxb]), List.append_nil, ← HPR.out]
                exact hst.out.pre)
            clear hxb HS HPR hst
            go_wp2_with (first | (go_at_call 15; refine (refQuorum_any _ _).mono ?_; rintro e wr ⟨rfl, rfl⟩; rw [HQ.out]) | (go_at_call 28; refine (HPL.out ()).mono ?_; rintro e wr ⟨rfl, rfl⟩) | (at_builtin; refine app_ints rfl _ _ rfl (.slice ao out.length ca) out rfl (World.ownsRow.alloc hown _) _ [a] rfl (rdi_one wr _ _) (by simp only [List.length_singleton]; omega) ?_; intro v1 w3 happ1; obtain ⟨ao1, ca1, rfl, hca1⟩ := happ1.own.form))
            have B3 : Below w.heap.size w w3 := (below_and hbel (Nat.le_refl _) (below_alloc _ _)).trans (happ1.below hfr (by simp; omega))
            have F3 := happ1.fr hfr (by simp; omega)
            have s3 := B3.size
            have O3 := happ1.own
            clear happ1
            go_wp2_with fail
            go_roundw
            case rel => exact ⟨k + 1, (out ++ [a]), by omega, by go_num, O3, F3, B3, HN⟩
            case measure => simp [intOf]; omega
          · have xb : (x != b) = true := by simpa using hxb
            by_cases hxa : x = a
            · have xa : (x != a) = false := by simpa using hxa
              have HN := (show Hid (St false j a (kp false a b (o.take (k + 1))) (out ++ [a])) from by
                  show St false j a (kp false a b (o.take (k + 1))) (out ++ [a])
                  rw [HS.out, if_neg (by simp [keep, hxa]), List.append_nil, ← HPR.out]
                  exact hst.out.pre)
              clear hxb hxa HS HPR hst
              go_wp2_with (first | (go_at_call 15; refine (refQuorum_any _ _).mono ?_; rintro e wr ⟨rfl, rfl⟩; rw [HQ.out]) | (go_at_call 28; refine (HPL.out ()).mono ?_; rintro e wr ⟨rfl, rfl⟩) | (at_builtin; refine app_ints rfl _ _ rfl (.slice ao out.length ca) out rfl (World.ownsRow.alloc hown _) _ [a] rfl (rdi_one wr _ _) (by simp only [List.length_singleton]; omega) ?_; intro v1 w3 happ1; obtain ⟨ao1, ca1, rfl, hca1⟩ := happ1.own.form))
              have B3 : Below w.heap.size w w3 := (below_and hbel (Nat.le_refl _) (below_alloc _ _)).trans (happ1.below hfr (by simp; omega))
              have F3 := happ1.fr hfr (by simp; omega)
              have s3 := B3.size
              have O3 := happ1.own
              clear happ1
              go_wp2_with fail
              go_roundw
              case rel => exact ⟨k + 1, (out ++ [a]), by omega, by go_num, O3, F3, B3, HN⟩
              case measure => simp [intOf]; omega
            · have xa : (x != a) = true := by simpa using hxa
              have HN := (show Hid (St false j a (kp false a b (o.take (k + 1))) ((out ++ [a]) ++ [x])) from by
                  show St false j a (kp false a b (o.take (k + 1))) ((out ++ [a]) ++ [x])
                  rw [HS.out, if_pos (by simp [keep, hxb, hxa]), ← HPR.out]
                  exact hst.out.more (fun _ => hxa))
              clear hxb hxa HS HPR hst
              go_wp2_with (first | (go_at_call 15; refine (refQuorum_any _ _).mono ?_; rintro e wr ⟨rfl, rfl⟩; rw [HQ.out]) | (go_at_call 28; refine (HPL.out ()).mono ?_; rintro e wr ⟨rfl, rfl⟩) | (at_builtin; refine app_ints rfl _ _ rfl (.slice ao out.length ca) out rfl (World.ownsRow.alloc hown _) _ [a] rfl (rdi_one wr _ _) (by simp only [List.length_singleton]; omega) ?_; intro v1 w3 happ1; obtain ⟨ao1, ca1, rfl, hca1⟩ := happ1.own.form) | (at_builtin; refine app_ints rfl _ _ rfl (.slice ao1 (ic (out ++ [a])).length ca1) (out ++ [a]) rfl (World.ownsRow.alloc happ1.own _) _ [x] rfl (rdi_one w3 _ _) (by simp only [List.length_append, List.length_singleton]; omega) ?_; intro v2 w4 happ2; obtain ⟨ao2, ca2, rfl, hca2⟩ := happ2.own.form))
              have B3 : Below w.heap.size w w3 := (below_and hbel (Nat.le_refl _) (below_alloc _ _)).trans (happ1.below hfr (by simp; omega))
              have F3 := happ1.fr hfr (by simp; omega)
              have s3 := B3.size
              have B4 : Below w.heap.size w w4 := (below_and B3 (Nat.le_refl _) (below_alloc _ _)).trans (happ2.below F3 (by simp; omega))
              have F4 := happ2.fr F3 (by simp; omega)
              have O4 := happ2.own
              have e2 : out ++ [a] ++ [x] = out ++ [a, x] := by simp
              rw [e2] at O4 F4 HN
              clear happ1 happ2 e2
              go_wp2_with fail
              go_roundw
              case rel => exact ⟨k + 1, (out ++ [a, x]), by omega, by go_num, O4, F4, B4, HN⟩
              case measure => simp [intOf]; omega
    · have i1 : ¬ (k : Int) < (o.length : Int) := by omega
      have hk2 : o.take k = o := List.take_of_length_le (by omega)
      rw [hk2] at hst
      clear hk2
      have HT := (show Hid (trn o a b = (if a ∈ out then out else out ++ [a]) ++ [b]) from by
        show trn o a b = (if a ∈ out then out else out ++ [a]) ++ [b]
        have hJ := HJ.out
        have e := c.len1
        have hs : Out j a (kp false a b o) out := hst.out
        rw [hs.full (by omega), c.trn1 hp, hJ.1])
      have HPL := (show Hid (∀ _ : Unit, _) from fun _ => refPlace_any wr (.slice ao out.length ca) out a (hown.rdi))
      clear hst
      by_cases hao : a ∈ out
      · have hpn : ¬ (plc out a < 0) := by
          have h1 := plc_lo out a
          have h2 : plc out a ≠ -1 := fun e => plc_none.1 e hao
          omega
        have HT2 := (show Hid (trn o a b = out ++ [b]) from by have := HT.out; rwa [if_pos hao] at this)
        clear hao HT
        go_wp2_with (first | (go_at_call 28; refine (HPL.out ()).mono ?_; rintro e wr ⟨rfl, rfl⟩) | (at_builtin; refine app_ints rfl _ _ rfl (.slice ao out.length ca) out rfl (World.ownsRow.alloc hown _) _ [b] rfl (rdi_one _ _ _) (by simp only [List.length_singleton]; omega) ?_; intro v2 w4 happ2))
        go_ret2
        refine ⟨_, rfl, by rw [HT2.out]; exact happ2.own, happ2.fr hfr (by simp; omega), ?_⟩
        exact (below_and hbel (Nat.le_refl _) (below_alloc _ _)).trans (happ2.below hfr (by simp; omega))
      · have hpn : plc out a < 0 := by
          have h2 : plc out a = -1 := plc_none.2 hao
          omega
        have HT2 := (show Hid (trn o a b = out ++ [a] ++ [b]) from by have := HT.out; rwa [if_neg hao] at this)
        clear hao HT
        go_wp2_with (first | (go_at_call 28; refine (HPL.out ()).mono ?_; rintro e wr ⟨rfl, rfl⟩) | (at_builtin; refine app_ints rfl _ _ rfl (.slice ao out.length ca) out rfl (World.ownsRow.alloc hown _) _ [a] rfl (rdi_one wr _ _) (by simp only [List.length_singleton]; omega) ?_; intro v1 w3 happ1; obtain ⟨ao1, ca1, rfl, hca1⟩ := happ1.own.form) | (at_builtin; refine app_ints rfl _ _ rfl (.slice ao1 (ic (out ++ [a])).length ca1) (out ++ [a]) rfl (World.ownsRow.alloc happ1.own _) _ [b] rfl (rdi_one w3 _ _) (by simp only [List.length_append, List.length_singleton]; omega) ?_; intro v2 w4 happ2))
        go_ret2
        have B3 : Below w.heap.size w w3 := (below_and hbel (Nat.le_refl _) (below_alloc _ _)).trans (happ1.below hfr (by simp; omega))
        have F3 := happ1.fr hfr (by simp; omega)
        have s3 := B3.size
        refine ⟨_, rfl, by rw [HT2.out]; exact happ2.own, happ2.fr F3 (by simp; omega), ?_⟩
        exact (below_and B3 (Nat.le_refl _) (below_alloc _ _)).trans (happ2.below F3 (by simp; omega))
end Go.Proofs.Ytcajelodbfpkfaa
