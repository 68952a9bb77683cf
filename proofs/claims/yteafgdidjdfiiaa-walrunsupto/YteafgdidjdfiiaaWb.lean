/- Records found again: wal.Scan, the document's Scan. Made by mk12w.py. -/
import Derived.Test.YteafgdidjdfiiaaW5
import Derived.Test.YteafgdidjdfiiaaWa0
set_option linter.unusedVariables false
namespace Go.Proofs.Yteafgdidjdfiiaa
open Go.RowKit Oct

set_option maxHeartbeats 800000 in
theorem scan_any (w : World) (v : Value) (l : List Int) (hv : Rd w v l) (hl : l.length ≤ 100000000) :
    Calls Try.prog 8 #[v] w fun e w' => ∃ v' us, e = .returned (.tuple #[v', .int .i64 ((scn l).2 : Int)]) ∧ Own w' 22 v' us ∧ Els w' us (scn l).1 ∧ Fr w.heap.size v' ∧ Below w.heap.size w w' ∧ ∀ c ∈ us, Fr w.heap.size c := by
  obtain ⟨ao, cap, rfl, hc⟩ := hv.form
  obtain ⟨er, her⟩ : ∃ er, er = (scn l).2 := ⟨_, rfl⟩
  obtain ⟨ou, hou⟩ : ∃ ou, ou = (scn l).1 := ⟨_, rfl⟩
  rw [← her, ← hou]
  have HS := (show Hid (scn l = (ou, er)) by show _ = _; rw [her, hou])
  have HV := (show Hid (Rd w (.slice ao l.length cap) l) from hv)
  clear her hou hv
  go_enter Try.func8, Try.ntmps8
  go_wp2_with fail
  go_loopw [4, 5] (fun o i wr => ∃ (p : Nat) (done : List (List Int)) (us : List Value), p ≤ l.length ∧ i = .int .i64 p ∧ tot done ≤ p ∧ Own wr 22 o us ∧ Els wr us done ∧ Fr w.heap.size o ∧ Below w.heap.size w wr ∧ Hid (SWay l p done) ∧ Hid (∀ c ∈ us, Fr w.heap.size c)) (fun _ i _ => l.length - (intOf i).toNat)
  case atStart => exact ⟨0, [], [], Nat.zero_le _, rfl, Nat.le_refl _, Own.nil _ _, trivial, Fr.nil _, Below.refl _ _, SWay.start l, (show Hid (∀ c ∈ ([] : List Value), Fr w.heap.size c) from fun c hc => by cases hc)⟩
  case round =>
    obtain ⟨p, done, us, hp, rfl, htd, hown, hels, hfr, hbel, hway, hall⟩ := hrel
    by_cases hpl : p < l.length
    · have hrd := HV.out.below hbel
      have hG := getBytes_any wr _ l (p : Int) 2147483647 hrd (by omega)
      rcases getB_cases l p hrd.1 with hg | ⟨t, s, hg, _, hs, hps⟩
      · have hu := hway.out.no hpl hg
        rw [HS.out, Prod.mk.injEq] at hu
        obtain ⟨rfl, rfl⟩ := hu
        rw [hg] at hG
        have HG := (show Hid (∀ _ : Unit, _) from fun _ => hG)
        clear hG hg HS HV hrd hway
        go_wp2_with (go_at_call 30; refine (HG.out ()).mono ?_; rintro e w1 ⟨o1, rfl, hown1, hfr1, hb1⟩)
        go_ret2
        exact ⟨_, us, rfl, hown.below hb1, hels.below hb1, hfr, below_and hbel (Nat.le_refl _) hb1, hall.out⟩
      · have hway' := (show Hid (SWay l s (done ++ [t])) from hway.out.go hpl hg (by omega))
        rw [hg] at hG
        have HG := (show Hid (∀ _ : Unit, _) from fun _ => hG)
        have hul := Nat.le_of_eq hels.len
        have hdl := len_tot done
        have htt : tot (done ++ [t]) ≤ s := by rw [tot_app]; simp only [tot]; omega
        have hsz := hbel.size
        clear hG hg hrd hway
        go_wp2_with (first | (go_at_call 30; refine (HG.out ()).mono ?_; rintro e w1 ⟨o1, rfl, hown1, hfr1, hb1⟩; have hsz1 := Nat.le_trans hsz hb1.size; obtain ⟨oa, oc, rfl, hoc⟩ := hown1.form) | (at_builtin; (refine app_list rfl _ _ rfl u4 us rfl ((hown.below hb1).below (below_alloc w1 (.cells #[.slice oa (bc t).length oc] 22))) _ [.slice oa (bc t).length oc] rfl (own_elem w1 (.slice oa (bc t).length oc) 22).rdv (fun u hu => by rw [List.mem_singleton.1 hu]; exact hown1.oneCell) (by simp only [List.length_cons, List.length_nil]; omega) ?_; intro o2 w2 happ)))
        have hE : Els w2 (us ++ [.slice oa (bc t).length oc]) (done ++ [t]) := Els.app ((hels.below hb1).snoc hown1 |>.below (below_alloc w1 (.cells #[.slice oa (bc t).length oc] 22))) ((hown.below hb1).below (below_alloc w1 (.cells #[.slice oa (bc t).length oc] 22))) happ
        have hB : Below w.heap.size w w2 := (below_and (below_and hbel (Nat.le_refl _) hb1) (Nat.le_refl _) (below_alloc w1 (.cells #[.slice oa (bc t).length oc] 22))).trans (happ.below hfr (by simp; omega))
        have hF := happ.fr hfr (by simp; omega)
        have hO := happ.own
        have hall' := (show Hid (∀ c ∈ us ++ [.slice oa (bc t).length oc], Fr w.heap.size c) from fun c hc => by
          rcases List.mem_append.1 hc with hc | hc
          · exact hall.out c hc
          · rw [List.mem_singleton.1 hc]; exact hfr1.mono hsz)
        clear happ hown1 hfr1 hb1 hsz1 hels hown
        go_wp2_with fail
        go_roundw
        case rel => exact ⟨s, _, _, hs, rfl, htt, hO, hE, hF, hB, hway', hall'⟩
        case measure => simp [intOf]; omega
    · have hu := hway.out.end (by omega)
      rw [HS.out, Prod.mk.injEq] at hu
      obtain ⟨rfl, rfl⟩ := hu
      clear HS HV hway
      go_wp2_with fail
      go_ret2
      exact ⟨_, us, rfl, hown, hels, hfr, hbel, hall.out⟩

set_option maxHeartbeats 800000 in
theorem refScan_any (w : World) (v : Value) (l : List Int) (hv : Rd w v l) (hl : l.length ≤ 100000000) :
    Calls Try.prog 9 #[v] w fun e w' => ∃ v' us, e = .returned (.tuple #[v', .int .i64 ((scn l).2 : Int)]) ∧ Own w' 22 v' us ∧ Els w' us (scn l).1 ∧ Fr w.heap.size v' ∧ Below w.heap.size w w' ∧ ∀ c ∈ us, Fr w.heap.size c := by
  obtain ⟨ao, cap, rfl, hc⟩ := hv.form
  obtain ⟨er, her⟩ : ∃ er, er = (scn l).2 := ⟨_, rfl⟩
  obtain ⟨ou, hou⟩ : ∃ ou, ou = (scn l).1 := ⟨_, rfl⟩
  rw [← her, ← hou]
  have HS := (show Hid (scn l = (ou, er)) by show _ = _; rw [her, hou])
  have HV := (show Hid (Rd w (.slice ao l.length cap) l) from hv)
  clear her hou hv
  go_enter Try.func9, Try.ntmps9
  go_wp2_with fail
  go_loopw [4, 5] (fun o i wr => ∃ (p : Nat) (done : List (List Int)) (us : List Value), p ≤ l.length ∧ i = .int .i64 p ∧ tot done ≤ p ∧ Own wr 22 o us ∧ Els wr us done ∧ Fr w.heap.size o ∧ Below w.heap.size w wr ∧ Hid (SWay l p done) ∧ Hid (∀ c ∈ us, Fr w.heap.size c)) (fun _ i _ => l.length - (intOf i).toNat)
  case atStart => exact ⟨0, [], [], Nat.zero_le _, rfl, Nat.le_refl _, own_zerol _ _, trivial, fr_at _ _ _ _ (Nat.le_refl _), below_alloc _ _, SWay.start l, (show Hid (∀ c ∈ ([] : List Value), Fr w.heap.size c) from fun c hc => by cases hc)⟩
  case round =>
    obtain ⟨p, done, us, hp, rfl, htd, hown, hels, hfr, hbel, hway, hall⟩ := hrel
    by_cases hpl : p < l.length
    · have hrd := HV.out.below hbel
      have hG := refGetBytes_any wr _ l (p : Int) 2147483647 hrd (by omega)
      rcases getB_cases l p hrd.1 with hg | ⟨t, s, hg, _, hs, hps⟩
      · have hu := hway.out.no hpl hg
        rw [HS.out, Prod.mk.injEq] at hu
        obtain ⟨rfl, rfl⟩ := hu
        rw [hg] at hG
        have HG := (show Hid (∀ _ : Unit, _) from fun _ => hG)
        clear hG hg HS HV hrd hway
        go_wp2_with (go_at_call 31; refine (HG.out ()).mono ?_; rintro e w1 ⟨o1, rfl, hown1, hfr1, hb1⟩)
        go_ret2
        exact ⟨_, us, rfl, hown.below hb1, hels.below hb1, hfr, below_and hbel (Nat.le_refl _) hb1, hall.out⟩
      · have hway' := (show Hid (SWay l s (done ++ [t])) from hway.out.go hpl hg (by omega))
        rw [hg] at hG
        have HG := (show Hid (∀ _ : Unit, _) from fun _ => hG)
        have hul := Nat.le_of_eq hels.len
        have hdl := len_tot done
        have htt : tot (done ++ [t]) ≤ s := by rw [tot_app]; simp only [tot]; omega
        have hsz := hbel.size
        clear hG hg hrd hway
        go_wp2_with (first | (go_at_call 31; refine (HG.out ()).mono ?_; rintro e w1 ⟨o1, rfl, hown1, hfr1, hb1⟩; have hsz1 := Nat.le_trans hsz hb1.size; obtain ⟨oa, oc, rfl, hoc⟩ := hown1.form) | (at_builtin; (refine app_list rfl _ _ rfl u4 us rfl ((hown.below hb1).below (below_alloc w1 (.cells #[.slice oa (bc t).length oc] 22))) _ [.slice oa (bc t).length oc] rfl (own_elem w1 (.slice oa (bc t).length oc) 22).rdv (fun u hu => by rw [List.mem_singleton.1 hu]; exact hown1.oneCell) (by simp only [List.length_cons, List.length_nil]; omega) ?_; intro o2 w2 happ)))
        have hE : Els w2 (us ++ [.slice oa (bc t).length oc]) (done ++ [t]) := Els.app ((hels.below hb1).snoc hown1 |>.below (below_alloc w1 (.cells #[.slice oa (bc t).length oc] 22))) ((hown.below hb1).below (below_alloc w1 (.cells #[.slice oa (bc t).length oc] 22))) happ
        have hB : Below w.heap.size w w2 := (below_and (below_and hbel (Nat.le_refl _) hb1) (Nat.le_refl _) (below_alloc w1 (.cells #[.slice oa (bc t).length oc] 22))).trans (happ.below hfr (by simp; omega))
        have hF := happ.fr hfr (by simp; omega)
        have hO := happ.own
        have hall' := (show Hid (∀ c ∈ us ++ [.slice oa (bc t).length oc], Fr w.heap.size c) from fun c hc => by
          rcases List.mem_append.1 hc with hc | hc
          · exact hall.out c hc
          · rw [List.mem_singleton.1 hc]; exact hfr1.mono hsz)
        clear happ hown1 hfr1 hb1 hsz1 hels hown
        go_wp2_with fail
        go_roundw
        case rel => exact ⟨s, _, _, hs, rfl, htt, hO, hE, hF, hB, hway', hall'⟩
        case measure => simp [intOf]; omega
    · have hu := hway.out.end (by omega)
      rw [HS.out, Prod.mk.injEq] at hu
      obtain ⟨rfl, rfl⟩ := hu
      clear HS HV hway
      go_wp2_with fail
      go_ret2
      exact ⟨_, us, rfl, hown, hels, hfr, hbel, hall.out⟩

end Go.Proofs.Yteafgdidjdfiiaa
