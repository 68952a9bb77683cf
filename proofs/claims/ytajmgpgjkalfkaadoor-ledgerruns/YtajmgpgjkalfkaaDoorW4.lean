/- The walks over lists of texts: packing. -/
import Derived.Test.YtajmgpgjkalfkaaDoorW3
import Derived.Test.YtajmgpgjkalfkaaDoorLst
namespace Go.Proofs.YtajmgpgjkalfkaaDoor
open Go.RowKit Oct

theorem Rdl.byts {w : World} {v : Value} {ll : List (List Int)} (h : Rdl w v ll) : Byts ll := by
  obtain ⟨vs, h1, h2⟩ := h
  clear h1
  intro l hl
  obtain ⟨i, hi, e⟩ := List.getElem_of_mem hl
  have hlen := h2.len
  exact (h2.get (List.getElem?_eq_getElem (show i < vs.length by omega)) (by rw [List.getElem?_eq_getElem hi, e])).1

set_option maxHeartbeats 400000 in
/-- octet.Pack. -/
theorem pack_any (w : World) (v : Value) (ll : List (List Int)) (hv : Rdl w v ll) (ht : tot ll ≤ 10000000) :
    Calls Tryd.prog 37 #[v] w fun e w' => ∃ v', e = .returned v' ∧ Own w' 5 v' (bc (packL ll)) ∧ Fr w.heap.size v' ∧ Below w.heap.size w w' := by
  obtain ⟨vs, hvs, hall⟩ := hv
  have hlen1 := Nat.le_of_eq hall.len
  have hlen2 := Nat.le_of_eq hall.len.symm
  have hlt := len_tot ll
  by_cases hl : 0 < vs.length
  · obtain ⟨b, off, cap, rfl, hc1, hc2, hb, hcell⟩ := hvs.at hl
    have HC := (show Hid (∀ (j : Nat) (u : Value), vs[j]? = some u → w.cell? ⟨b, off + j, none⟩ = some u) from hcell)
    have HA := (show Hid (All2 (Rd w) vs ll) from hall)
    clear hcell hvs hall
    go_enter Tryd.func37, Tryd.ntmps37
    go_wp2_with fail
    go_loopw [3, 8] (fun o i wr => ∃ k : Nat, k ≤ vs.length ∧ i = .int .i64 k ∧ Own wr 5 o (bc (packL (ll.take k))) ∧ Fr w.heap.size o ∧ Below w.heap.size w wr) (fun _ i _ => vs.length - (intOf i).toNat)
    case atStart => exact ⟨0, Nat.zero_le _, rfl, Own.nil _ _, Fr.nil _, Below.refl _ _⟩
    case round =>
      obtain ⟨k, hk, rfl, hown, hfr, hbel⟩ := hrel
      by_cases hkl : k < vs.length
      · obtain ⟨p, hp⟩ : ∃ p, vs[k]? = some p := ⟨_, List.getElem?_eq_getElem hkl⟩
        obtain ⟨l, hl'⟩ : ∃ l, ll[k]? = some l := ⟨_, List.getElem?_eq_getElem (by omega)⟩
        have hcp : wr.cell? ⟨b, off + k, none⟩ = some p := (hbel.cell (p := ⟨b, off + k, none⟩) hb).trans (HC.out k p hp)
        have hrd := HA.out.get hp hl'
        have hrd' := hrd.below hbel
        have hpl := packL_snoc (ll.take k) l
        rw [← take_snoc' ll k l hl'] at hpl
        have h1 := packL_len (ll.take k)
        have h2 := tot_take ll k
        have h3 := mem_tot (List.mem_of_getElem? hl')
        have hap : l ≠ [] → ∀ g, u3.ownBlock = some g → p.ownBlock ≠ some g := fun hne g hg hpg => by
          have := hfr g hg
          have := hrd.lt hne g hpg
          omega
        have hT := appendText_any wr u3 p (packL (ll.take k)) l hown hrd' hap (by omega)
        rw [← hpl] at hT
        have HT := (show Hid (∀ _ : Unit, _) from fun _ => hT)
        have hsz := hbel.size
        clear hT hpl hap hrd hrd' hp hl' hown
        go_wp2_with (go_at_call 49; refine (HT.out ()).mono ?_; rintro e w1 ⟨o1, rfl, happ⟩)
        go_roundw
        case rel => exact ⟨k + 1, by omega, by go_num, happ.own, happ.fr hfr hsz, hbel.trans (happ.below hfr hsz)⟩
        case measure => simp [intOf]; omega
      · have hk' : k = ll.length := by omega
        rw [hk', List.take_length] at hown
        clear HC HA hk'
        go_wp2_with fail
        go_ret
        exact ⟨_, rfl, hown, hfr, hbel⟩
  · have hl0 : ll = [] := List.eq_nil_of_length_eq_zero (by omega)
    have hv0 : vs = [] := List.eq_nil_of_length_eq_zero (by omega)
    subst hl0 hv0
    obtain ⟨ao, cap, rfl, hc⟩ := hvs.form
    clear hvs hall
    go_enter Tryd.func37, Tryd.ntmps37
    go_wp2_with fail
    refine wp_loop_rounds 1 ?_; rw [rounds_succ]
    go_wp2_with fail
    go_ret
    exact ⟨_, rfl, Own.nil _ _, Fr.nil _, Below.refl _ _⟩

set_option maxHeartbeats 400000 in
/-- catenaryref01.Pack. -/
theorem refPack_any (w : World) (v : Value) (ll : List (List Int)) (hv : Rdl w v ll) (ht : tot ll ≤ 10000000) :
    Calls Tryd.prog 76 #[v] w fun e w' => ∃ v', e = .returned v' ∧ Own w' 5 v' (bc (packL ll)) ∧ Fr w.heap.size v' ∧ Below w.heap.size w w' := by
  obtain ⟨vs, hvs, hall⟩ := hv
  have hlen1 := Nat.le_of_eq hall.len
  have hlen2 := Nat.le_of_eq hall.len.symm
  have hlt := len_tot ll
  by_cases hl : 0 < vs.length
  · obtain ⟨b, off, cap, rfl, hc1, hc2, hb, hcell⟩ := hvs.at hl
    have HC := (show Hid (∀ (j : Nat) (u : Value), vs[j]? = some u → w.cell? ⟨b, off + j, none⟩ = some u) from hcell)
    have HA := (show Hid (All2 (Rd w) vs ll) from hall)
    clear hcell hvs hall
    go_enter Tryd.func76, Tryd.ntmps76
    go_wp2_with fail
    go_loopw [3, 9] (fun o i wr => ∃ k : Nat, k ≤ vs.length ∧ i = .int .i64 k ∧ Own wr 5 o (bc (packL (ll.take k))) ∧ Fr w.heap.size o ∧ Below w.heap.size w wr) (fun _ i _ => vs.length - (intOf i).toNat)
    case atStart => exact ⟨0, Nat.zero_le _, rfl, own_zero _ _, fr_at _ _ _ _ (Nat.le_refl _), below_alloc _ _⟩
    case round =>
      obtain ⟨k, hk, rfl, hown, hfr, hbel⟩ := hrel
      by_cases hkl : k < vs.length
      · obtain ⟨p, hp⟩ : ∃ p, vs[k]? = some p := ⟨_, List.getElem?_eq_getElem hkl⟩
        obtain ⟨l, hl'⟩ : ∃ l, ll[k]? = some l := ⟨_, List.getElem?_eq_getElem (by omega)⟩
        have hcp : wr.cell? ⟨b, off + k, none⟩ = some p := (hbel.cell (p := ⟨b, off + k, none⟩) hb).trans (HC.out k p hp)
        have hrd' := (HA.out.get hp hl').below hbel
        have hpl := packL_snoc (ll.take k) l
        rw [← take_snoc' ll k l hl', List.append_assoc] at hpl
        have h1 := packL_len (ll.take k)
        have h2 := tot_take ll k
        have h3 := mem_tot (List.mem_of_getElem? hl')
        have h4 := enc_len (l.length : Int)
        have hT := refBytes_any wr p l hrd' (by omega)
        have HT := (show Hid (∀ _ : Unit, _) from fun _ => hT)
        have HP := (show Hid (packL (ll.take (k + 1)) = packL (ll.take k) ++ (enc l.length ++ l)) from hpl)
        have hsz := hbel.size
        clear hT hpl hrd' hp hl'
        go_wp2_with (first | (go_at_call 44; refine (HT.out ()).mono ?_; rintro e w1 ⟨o1, rfl, hown1, hfr1, hb1⟩; have hsz1 := Nat.le_trans hsz hb1.size) | (at_builtin; refine app_bytes rfl _ _ rfl u3 (packL (ll.take k)) rfl (hown.below hb1) o1 (enc l.length ++ l) rfl hown1.rdv (by simp only [List.length_append]; omega) ?_; intro o2 w2 happ))
        go_roundw
        case rel => exact ⟨k + 1, by omega, by go_num, by rw [HP.out]; exact happ.own, happ.fr hfr hsz1, (below_and hbel (Nat.le_refl _) hb1).trans (happ.below hfr hsz1)⟩
        case measure => simp [intOf]; omega
      · have hk' : k = ll.length := by omega
        rw [hk', List.take_length] at hown
        clear HC HA hk'
        go_wp2_with fail
        go_ret
        exact ⟨_, rfl, hown, hfr, hbel⟩
  · have hl0 : ll = [] := List.eq_nil_of_length_eq_zero (by omega)
    have hv0 : vs = [] := List.eq_nil_of_length_eq_zero (by omega)
    subst hl0 hv0
    obtain ⟨ao, cap, rfl, hc⟩ := hvs.form
    clear hvs hall
    go_enter Tryd.func76, Tryd.ntmps76
    go_wp2_with fail
    refine wp_loop_rounds 1 ?_; rw [rounds_succ]
    go_wp2_with fail
    go_ret
    exact ⟨_, rfl, own_zero _ _, fr_at _ _ _ _ (Nat.le_refl _), below_alloc _ _⟩

end Go.Proofs.YtajmgpgjkalfkaaDoor
