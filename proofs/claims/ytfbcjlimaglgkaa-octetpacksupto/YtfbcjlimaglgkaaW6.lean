/- The walks over lists of texts: unpacking. -/
import Derived.Test.YtfbcjlimaglgkaaW5
namespace Go.Proofs.Ytfbcjlimaglgkaa
open Go.RowKit Oct

set_option maxHeartbeats 800000 in
/-- octet.Unpack. -/
theorem unpack_any (w : World) (v : Value) (l : List Int) (hv : Rd w v l) (hl : l.length ≤ 100000000) :
    Calls Try.prog 21 #[v] w fun e w' => ∃ v' us, e = .returned (.tuple #[v', .int .i64 (errU l)]) ∧ Own w' 23 v' us ∧ Els w' us (outU l) ∧ Fr w.heap.size v' ∧ Below w.heap.size w w' := by
  obtain ⟨ao, cap, rfl, hc⟩ := hv.form
  obtain ⟨er, her⟩ : ∃ er, er = errU l := ⟨_, rfl⟩
  obtain ⟨ou, hou⟩ : ∃ ou, ou = outU l := ⟨_, rfl⟩
  rw [← her, ← hou]
  have HE := (show Hid (er = errU l) from her)
  have HO := (show Hid (ou = outU l) from hou)
  have HV := (show Hid (Rd w (.slice ao l.length cap) l) from hv)
  clear her hou hv
  go_enter Try.func21, Try.ntmps21
  go_wp2_with fail
  go_loopw [4, 5] (fun o i wr => ∃ (p : Nat) (done : List (List Int)) (us : List Value), p ≤ l.length ∧ i = .int .i64 p ∧ tot done ≤ p ∧ Own wr 23 o us ∧ Els wr us done ∧ Fr w.heap.size o ∧ Below w.heap.size w wr ∧ Hid (UWay l p done)) (fun _ i _ => l.length - (intOf i).toNat)
  case atStart => exact ⟨0, [], [], Nat.zero_le _, rfl, Nat.le_refl _, Own.nil _ _, trivial, Fr.nil _, Below.refl _ _, UWay.start l⟩
  case round =>
    obtain ⟨p, done, us, hp, rfl, htd, hown, hels, hfr, hbel, hway⟩ := hrel
    by_cases hpl : p < l.length
    · have hrd := HV.out.below hbel
      have hG := getBytes_any wr _ l (p : Int) 2147483647 hrd (by omega)
      rcases getB_cases l p hrd.1 with hg | ⟨t, s, hg, _, hs, hps⟩
      · have hu := hway.out.no hpl hg
        have he : er = 11 := by rw [HE.out]; unfold errU; rw [if_pos hu]
        have ho : ou = [] := by rw [HO.out]; unfold outU; rw [hu]; rfl
        rw [hg] at hG
        have HG := (show Hid (∀ _ : Unit, _) from fun _ => hG)
        clear hG hg hu HE HO HV hrd hway
        subst he ho
        go_wp2_with (go_at_call 16; refine (HG.out ()).mono ?_; rintro e w1 ⟨o1, rfl, hown1, hfr1, hb1⟩)
        go_ret2
        exact ⟨_, [], rfl, Own.nil _ _, trivial, Fr.nil _, below_and hbel (Nat.le_refl _) hb1⟩
      · have hway' := (show Hid (UWay l s (done ++ [t])) from hway.out.go hpl hg (by omega))
        rw [hg] at hG
        have HG := (show Hid (∀ _ : Unit, _) from fun _ => hG)
        have hul := Nat.le_of_eq hels.len
        have hdl := len_tot done
        have htt : tot (done ++ [t]) ≤ s := by rw [tot_app]; simp only [tot]; omega
        have hsz := hbel.size
        clear hG hg hrd hway
        go_wp2_with (first | (go_at_call 16; refine (HG.out ()).mono ?_; rintro e w1 ⟨o1, rfl, hown1, hfr1, hb1⟩; have hsz1 := Nat.le_trans hsz hb1.size; obtain ⟨oa, oc, rfl, hoc⟩ := hown1.form) | (at_builtin; (refine app_list rfl _ _ rfl u4 us rfl ((hown.below hb1).below (below_alloc w1 (.cells #[.slice oa (bc t).length oc] 23))) _ [.slice oa (bc t).length oc] rfl (own_elem w1 (.slice oa (bc t).length oc) 23).rdv (fun u hu => by rw [List.mem_singleton.1 hu]; exact hown1.oneCell) (by simp only [List.length_cons, List.length_nil]; omega) ?_; intro o2 w2 happ)))
        have hE : Els w2 (us ++ [.slice oa (bc t).length oc]) (done ++ [t]) := Els.app ((hels.below hb1).snoc hown1 |>.below (below_alloc w1 (.cells #[.slice oa (bc t).length oc] 23))) ((hown.below hb1).below (below_alloc w1 (.cells #[.slice oa (bc t).length oc] 23))) happ
        have hB : Below w.heap.size w w2 := (below_and (below_and hbel (Nat.le_refl _) hb1) (Nat.le_refl _) (below_alloc w1 (.cells #[.slice oa (bc t).length oc] 23))).trans (happ.below hfr (by simp; omega))
        have hF := happ.fr hfr (by simp; omega)
        have hO := happ.own
        clear happ hown1 hfr1 hb1 hsz1 hels hown
        go_wp2_with fail
        go_roundw
        case rel => exact ⟨s, _, _, hs, rfl, htt, hO, hE, hF, hB, hway'⟩
        case measure => simp [intOf]; omega
    · have hu := hway.out.end (by omega)
      have he : er = 0 := by rw [HE.out]; unfold errU; rw [hu, if_neg (by simp)]
      have ho : ou = done := by rw [HO.out]; unfold outU; rw [hu]; rfl
      clear hu HE HO HV hway
      subst he ho
      go_wp2_with fail
      go_ret2
      exact ⟨_, us, rfl, hown, hels, hfr, hbel⟩

set_option maxHeartbeats 800000 in
/-- catenaryref01.Unpack. -/
theorem refUnpack_any (w : World) (v : Value) (l : List Int) (hv : Rd w v l) (hl : l.length ≤ 100000000) :
    Calls Try.prog 24 #[v] w fun e w' => ∃ v' us, e = .returned (.tuple #[v', .int .i64 (errU l)]) ∧ Own w' 23 v' us ∧ Els w' us (outU l) ∧ Fr w.heap.size v' ∧ Below w.heap.size w w' := by
  obtain ⟨ao, cap, rfl, hc⟩ := hv.form
  obtain ⟨er, her⟩ : ∃ er, er = errU l := ⟨_, rfl⟩
  obtain ⟨ou, hou⟩ : ∃ ou, ou = outU l := ⟨_, rfl⟩
  rw [← her, ← hou]
  have HE := (show Hid (er = errU l) from her)
  have HO := (show Hid (ou = outU l) from hou)
  have HV := (show Hid (Rd w (.slice ao l.length cap) l) from hv)
  clear her hou hv
  go_enter Try.func24, Try.ntmps24
  go_wp2_with fail
  go_loopw [4, 5] (fun o i wr => ∃ (p : Nat) (done : List (List Int)) (us : List Value), p ≤ l.length ∧ i = .int .i64 p ∧ tot done ≤ p ∧ Own wr 23 o us ∧ Els wr us done ∧ Fr w.heap.size o ∧ Below w.heap.size w wr ∧ Hid (UWay l p done)) (fun _ i _ => l.length - (intOf i).toNat)
  case atStart => exact ⟨0, [], [], Nat.zero_le _, rfl, Nat.le_refl _, own_zerol _ _, trivial, fr_at _ _ _ _ (Nat.le_refl _), below_alloc _ _, UWay.start l⟩
  case round =>
    obtain ⟨p, done, us, hp, rfl, htd, hown, hels, hfr, hbel, hway⟩ := hrel
    by_cases hpl : p < l.length
    · have hrd := HV.out.below hbel
      have hG := refGetBytes_any wr _ l (p : Int) 2147483647 hrd (by omega)
      rcases getB_cases l p hrd.1 with hg | ⟨t, s, hg, _, hs, hps⟩
      · have hu := hway.out.no hpl hg
        have he : er = 11 := by rw [HE.out]; unfold errU; rw [if_pos hu]
        have ho : ou = [] := by rw [HO.out]; unfold outU; rw [hu]; rfl
        rw [hg] at hG
        have HG := (show Hid (∀ _ : Unit, _) from fun _ => hG)
        clear hG hg hu HE HO HV hrd hway
        subst he ho
        go_wp2_with (go_at_call 17; refine (HG.out ()).mono ?_; rintro e w1 ⟨o1, rfl, hown1, hfr1, hb1⟩)
        go_ret2
        exact ⟨_, [], rfl, Own.nil _ _, trivial, Fr.nil _, below_and hbel (Nat.le_refl _) hb1⟩
      · have hway' := (show Hid (UWay l s (done ++ [t])) from hway.out.go hpl hg (by omega))
        rw [hg] at hG
        have HG := (show Hid (∀ _ : Unit, _) from fun _ => hG)
        have hul := Nat.le_of_eq hels.len
        have hdl := len_tot done
        have htt : tot (done ++ [t]) ≤ s := by rw [tot_app]; simp only [tot]; omega
        have hsz := hbel.size
        clear hG hg hrd hway
        go_wp2_with (first | (go_at_call 17; refine (HG.out ()).mono ?_; rintro e w1 ⟨o1, rfl, hown1, hfr1, hb1⟩; have hsz1 := Nat.le_trans hsz hb1.size; obtain ⟨oa, oc, rfl, hoc⟩ := hown1.form) | (at_builtin; (refine app_list rfl _ _ rfl u4 us rfl ((hown.below hb1).below (below_alloc w1 (.cells #[.slice oa (bc t).length oc] 23))) _ [.slice oa (bc t).length oc] rfl (own_elem w1 (.slice oa (bc t).length oc) 23).rdv (fun u hu => by rw [List.mem_singleton.1 hu]; exact hown1.oneCell) (by simp only [List.length_cons, List.length_nil]; omega) ?_; intro o2 w2 happ)))
        have hE : Els w2 (us ++ [.slice oa (bc t).length oc]) (done ++ [t]) := Els.app ((hels.below hb1).snoc hown1 |>.below (below_alloc w1 (.cells #[.slice oa (bc t).length oc] 23))) ((hown.below hb1).below (below_alloc w1 (.cells #[.slice oa (bc t).length oc] 23))) happ
        have hB : Below w.heap.size w w2 := (below_and (below_and hbel (Nat.le_refl _) hb1) (Nat.le_refl _) (below_alloc w1 (.cells #[.slice oa (bc t).length oc] 23))).trans (happ.below hfr (by simp; omega))
        have hF := happ.fr hfr (by simp; omega)
        have hO := happ.own
        clear happ hown1 hfr1 hb1 hsz1 hels hown
        go_wp2_with fail
        go_roundw
        case rel => exact ⟨s, _, _, hs, rfl, htt, hO, hE, hF, hB, hway'⟩
        case measure => simp [intOf]; omega
    · have hu := hway.out.end (by omega)
      have he : er = 0 := by rw [HE.out]; unfold errU; rw [hu, if_neg (by simp)]
      have ho : ou = done := by rw [HO.out]; unfold outU; rw [hu]; rfl
      clear hu HE HO HV hway
      subst he ho
      go_wp2_with fail
      go_ret2
      exact ⟨_, us, rfl, hown, hels, hfr, hbel⟩
end Go.Proofs.Ytfbcjlimaglgkaa
