/- The walks over lists of texts: copying, comparing, unpacking. -/
import Derived.Test.YteafgdidjdfiiaaW4
import Derived.Deep.QuietTactic
import Derived.BigQuiet
namespace Go.Proofs.Yteafgdidjdfiiaa
open Go.RowKit Oct

theorem Try.info23 : (Try.prog.info? 22).map (fun i => (i.zero, i.size, i.bytes)) = some (some (.slice none 0 0), 1, 24) := by kernel_rfl

/-- 'append(s, x...)' of texts, at this program. -/
theorem app_list {w : World} {ops : Array Oper} {rest : List Oper} {o : Oper} {a : Act} {Q : Exit → Act → World → Prop} (hgd : o.guard = none) (s x : Operand)
    (ho : o.op = .call { callee := .builtin .append, args := #[s, x], argTypes := #[24, 24] })
    (v : Value) (vs : List Value) (hs : a.eval s = v) (hown : Own w 22 v vs) (sv : Value) (us : List Value) (hx : a.eval x = sv) (hsrc : Rdv w sv us) (h1 : ∀ u ∈ us, u.oneCell' = true) (hb : vs.length + us.length ≤ 1000000000)
    (h : ∀ v' w', App w 22 v w' v' (vs ++ us) → wpList Try.prog ops Q rest (a.put o.dst v') w') : wpList Try.prog ops Q (o :: rest) a w := by
  obtain ⟨i0, hi, hz0, hz1, hz2⟩ := info_parts Try.info23
  exact wpList_app (wanted_none hgd) s x 24 ho 22 i0 (.slice none 0 0) 24 Try.underlying24 hi hz0 hz1 hz2 rfl v vs hs hown sv us hx hsrc h1 (by unfold maxLen; omega) (by omega) h

theorem Own.oneCell {w : World} {e : TypeId} {v : Value} {xs : List Value} (h : Own w e v xs) : v.oneCell' = true := by
  obtain ⟨ao, cap, rfl, _⟩ := h.form
  rfl
theorem own_elem (w : World) (x : Value) (e : TypeId) : Own (w.alloc (.cells #[x] e)) e (.slice (some ⟨w.heap.size, 0, none⟩) 1 1) [x] :=
  World.ownsRow_lit (base := 0) (size := 1) w #[x] 1 (Nat.zero_le _) (by decide) rfl
theorem own_zerol (w : World) (e : TypeId) : Own (w.alloc (.cells #[] e)) e (.slice (some ⟨w.heap.size, 0, none⟩) 0 0) [] :=
  World.ownsRow_lit (base := 0) (size := 1) w #[] 0 (Nat.zero_le _) (by decide) rfl

/-- Texts that the call itself made. -/
def Els (w : World) (vs : List Value) (ll : List (List Int)) : Prop := All2 (fun c l => Own w 5 c (bc l)) vs ll
theorem Els.below {w w' : World} {vs : List Value} {ll : List (List Int)} (h : Els w vs ll) (hb : Below w.heap.size w w') : Els w' vs ll := h.mono fun _ _ h => h.below hb
/-- They stay while a list of texts is appended to. -/
theorem Els.app {w w' : World} {v v' : Value} {vs us xs : List Value} {ll : List (List Int)} (h : Els w us ll) (hv : Own w 22 v vs) (ha : App w 22 v w' v' xs) : Els w' us ll :=
  h.mono fun _ _ h => h.grown ha.grown (hv.apart h (by decide))
theorem Els.rdl {w : World} {v : Value} {vs : List Value} {ll : List (List Int)} (h : Els w vs ll) (hv : Own w 22 v vs) (hb : Byts ll) : Rdl w v ll := by
  refine ⟨vs, hv.rdv, ?_⟩
  clear hv
  unfold Els at h
  induction ll generalizing vs with
  | nil => cases vs with
    | nil => trivial
    | cons x r => exact h.elim
  | cons l ll ih => cases vs with
    | nil => exact h.elim
    | cons x r => exact ⟨h.1.rd (hb l (by simp)), ih h.2 (fun y hy => hb y (by simp [hy]))⟩
theorem Els.snoc {w : World} {vs : List Value} {ll : List (List Int)} {c : Value} {l : List Int} (h : Els w vs ll) (hc : Own w 5 c (bc l)) : Els w (vs ++ [c]) (ll ++ [l]) := All2.app h ⟨hc, trivial⟩

theorem els_one {w : World} : ∀ {vs : List Value} {ll : List (List Int)}, Els w vs ll → ∀ u ∈ vs, u.oneCell' = true
  | [], _, _, u, hu => by cases hu
  | v :: vs, [], h, _, _ => h.elim
  | v :: vs, l :: ll, h, u, hu => by
    rcases List.mem_cons.1 hu with e | e
    · subst e; exact h.1.oneCell
    · exact els_one h.2 u e

set_option maxHeartbeats 400000 in
/-- catenaryref01.Copy. -/
theorem copy_any (w : World) (v : Value) (ll : List (List Int)) (hv : Rdl w v ll) (ht : tot ll ≤ 10000000) :
    Calls Try.prog 20 #[v] w fun e w' => ∃ v' us, e = .returned v' ∧ Own w' 22 v' us ∧ Els w' us ll ∧ Fr w.heap.size v' ∧ Below w.heap.size w w' := by
  obtain ⟨vs, hvs, hall⟩ := hv
  have hlen1 := Nat.le_of_eq hall.len
  have hlen2 := Nat.le_of_eq hall.len.symm
  have hlt := len_tot ll
  by_cases hl : 0 < vs.length
  · obtain ⟨b, off, cap, rfl, hc1, hc2, hb, hcell⟩ := hvs.at hl
    have HC := (show Hid (∀ (j : Nat) (u : Value), vs[j]? = some u → w.cell? ⟨b, off + j, none⟩ = some u) from hcell)
    have HA := (show Hid (All2 (Rd w) vs ll) from hall)
    clear hcell hvs hall
    go_enter Try.func20, Try.ntmps20
    go_wp2_with fail
    go_loopw [3, 9] (fun o i wr => ∃ (k : Nat) (us : List Value), k ≤ vs.length ∧ i = .int .i64 k ∧ Own wr 22 o us ∧ Els wr us (ll.take k) ∧ Fr w.heap.size o ∧ Below w.heap.size w wr) (fun _ i _ => vs.length - (intOf i).toNat)
    case atStart => exact ⟨0, [], Nat.zero_le _, rfl, own_zerol _ _, trivial, fr_at _ _ _ _ (Nat.le_refl _), below_alloc _ _⟩
    case round =>
      obtain ⟨k, us, hk, rfl, hown, hels, hfr, hbel⟩ := hrel
      by_cases hkl : k < vs.length
      · obtain ⟨p, hp⟩ : ∃ p, vs[k]? = some p := ⟨_, List.getElem?_eq_getElem hkl⟩
        obtain ⟨l, hl'⟩ : ∃ l, ll[k]? = some l := ⟨_, List.getElem?_eq_getElem (by omega)⟩
        have hcp : wr.cell? ⟨b, off + k, none⟩ = some p := (hbel.cell (p := ⟨b, off + k, none⟩) hb).trans (HC.out k p hp)
        have hrd' := (HA.out.get hp hl').below hbel
        have HT := (show Hid (ll.take (k + 1) = ll.take k ++ [l]) from take_snoc' ll k l hl')
        have h3 := mem_tot (List.mem_of_getElem? hl')
        have hul := Nat.le_of_eq hels.len
        rw [List.length_take] at hul
        have hsz := hbel.size
        clear hp hl'
        go_wp2_with (first | (at_builtin; refine app_copy rfl _ _ rfl rfl p l rfl hrd' (by omega) ?_; intro o1 w1 hown1 hfr1 hb1; have hsz1 := Nat.le_trans hsz hb1.size; obtain ⟨oa, oc, rfl, hoc⟩ := hown1.form) | (at_builtin; (refine app_list rfl _ _ rfl u3 us rfl ((hown.below hb1).below (below_alloc w1 (.cells #[.slice oa (bc l).length oc] 22))) _ [.slice oa (bc l).length oc] rfl (own_elem w1 (.slice oa (bc l).length oc) 22).rdv (fun u hu => by rw [List.mem_singleton.1 hu]; exact hown1.oneCell) (by simp only [List.length_cons, List.length_nil]; omega) ?_; intro o2 w2 happ)))
        have hE : Els w2 (us ++ [.slice oa (bc l).length oc]) (ll.take k ++ [l]) := Els.app ((hels.below hb1).snoc hown1 |>.below (below_alloc w1 (.cells #[.slice oa (bc l).length oc] 22))) ((hown.below hb1).below (below_alloc w1 (.cells #[.slice oa (bc l).length oc] 22))) happ
        have hB : Below w.heap.size w w2 := (below_and (below_and hbel (Nat.le_refl _) hb1) (Nat.le_refl _) (below_alloc w1 (.cells #[.slice oa (bc l).length oc] 22))).trans (happ.below hfr (by simp; omega))
        have hF := happ.fr hfr (by simp; omega)
        have hO := happ.own
        rw [← HT.out] at hE
        clear happ hown1 hfr1 hb1 hsz1 hels hown hrd' HT
        go_wp2_with fail
        go_roundw
        case rel => exact ⟨k + 1, _, by omega, by go_num, hO, hE, hF, hB⟩
        case measure => simp [intOf]; omega
      · have hk' : k = ll.length := by omega
        rw [hk', List.take_length] at hels
        clear HC HA hk'
        go_wp2_with fail
        go_ret
        exact ⟨_, us, rfl, hown, hels, hfr, hbel⟩
  · have hl0 : ll = [] := List.eq_nil_of_length_eq_zero (by omega)
    have hv0 : vs = [] := List.eq_nil_of_length_eq_zero (by omega)
    subst hl0 hv0
    obtain ⟨ao, cap, rfl, hc⟩ := hvs.form
    clear hvs hall
    go_enter Try.func20, Try.ntmps20
    go_wp2_with fail
    refine wp_loop_rounds 1 ?_; rw [rounds_succ]
    go_wp2_with fail
    go_ret
    exact ⟨_, [], rfl, own_zerol _ _, trivial, fr_at _ _ _ _ (Nat.le_refl _), below_alloc _ _⟩

theorem bel_drewN {B : Nat} {a w : World} (h : Below B a w) (n : Nat) : Below B a (w.drewN n) := h.trans ⟨rfl, rfl, rfl, Nat.le_refl _, fun _ _ => rfl⟩
theorem Rd.drewN {w : World} {v : Value} {l : List Int} (h : Rd w v l) (n : Nat) : Rd (w.drewN n) v l := h
theorem take_ne {α : Type} {a b : List α} {k : Nat} {x y : α} (ha : a[k]? = some x) (hb : b[k]? = some y) (h : x ≠ y) : a ≠ b := fun e => by
  subst e
  rw [ha] at hb
  exact h (Option.some.inj hb)

set_option maxHeartbeats 800000 in
/-- catenaryref01.SameList. -/
theorem sameList_any (w : World) (u v : Value) (la lb : List (List Int)) (hu : Rdl w u la) (hv : Rdl w v lb) (hta : la.length ≤ 1000000000) :
    Calls Try.prog 10 #[u, v] w fun e w' => e = .returned (.bool (decide (la = lb))) ∧ Below w.heap.size w w' := by
  obtain ⟨us, hus, hua⟩ := hu
  obtain ⟨vs, hvs, hva⟩ := hv
  have hul := hua.len
  have hvl := hva.len
  by_cases hlen : la.length = lb.length
  · by_cases hl : 0 < us.length
    · obtain ⟨b, off, cap, rfl, hc1, hc2, hb, hcell⟩ := hus.at hl
      obtain ⟨b', off', cap', rfl, hc1', hc2', hb', hcell'⟩ := hvs.at (by omega)
      have e1 : us.length = vs.length := by omega
      rw [← e1]
      have HC := (show Hid (∀ (j : Nat) (u : Value), us[j]? = some u → w.cell? ⟨b, off + j, none⟩ = some u) from hcell)
      have HC' := (show Hid (∀ (j : Nat) (u : Value), vs[j]? = some u → w.cell? ⟨b', off' + j, none⟩ = some u) from hcell')
      have HA := (show Hid (All2 (Rd w) us la) from hua)
      have HB := (show Hid (All2 (Rd w) vs lb) from hva)
      have HL := (show Hid (us.length = la.length ∧ vs.length = lb.length ∧ la.length = lb.length) from ⟨hul, hvl, hlen⟩)
      have hn : us.length ≤ 1000000000 := by omega
      obtain ⟨d, hd⟩ : ∃ d, d = decide (la = lb) := ⟨_, rfl⟩
      rw [← hd]
      have HD := (show Hid (d = decide (la = lb)) from hd)
      clear hcell hcell' hus hvs hua hva hul hvl hlen e1 hd hc1'
      have hne : ((us.length : Int) != (us.length : Int)) = false := by simp
      go_enter Try.func10, Try.ntmps10
      go_wp2_with fail
      go_loopw [13] (fun i wr => ∃ k : Nat, k ≤ us.length ∧ i = .int .i64 k ∧ Hid (la.take k = lb.take k) ∧ Below w.heap.size w wr) (fun i _ => us.length - (intOf i).toNat)
      case atStart => exact ⟨0, Nat.zero_le _, rfl, rfl, Below.refl _ _⟩
      case round =>
        obtain ⟨k, hk, rfl, htk, hbel⟩ := hrel
        by_cases hkl : k < us.length
        · have hL := HL.out
          obtain ⟨p, hp⟩ : ∃ p, us[k]? = some p := ⟨_, List.getElem?_eq_getElem hkl⟩
          obtain ⟨q, hq⟩ : ∃ q, vs[k]? = some q := ⟨_, List.getElem?_eq_getElem (by omega)⟩
          obtain ⟨l, hl1⟩ : ∃ l, la[k]? = some l := ⟨_, List.getElem?_eq_getElem (by omega)⟩
          obtain ⟨m, hm1⟩ : ∃ m, lb[k]? = some m := ⟨_, List.getElem?_eq_getElem (by omega)⟩
          have hcp : wr.cell? ⟨b, off + k, none⟩ = some p := (hbel.cell (p := ⟨b, off + k, none⟩) hb).trans (HC.out k p hp)
          have hcq : wr.cell? ⟨b', off' + k, none⟩ = some q := (hbel.cell (p := ⟨b', off' + k, none⟩) hb').trans (HC'.out k q hq)
          have hr1 := (HA.out.get hp hl1).below hbel
          have hr2 := (HB.out.get hq hm1).below hbel
          have i0 : (0 : Int) ≤ (k : Int) := by omega
          have i1 : (k : Int) < (us.length : Int) := by omega
          by_cases hlm : l = m
          · have hS := fun nq : Nat => same_any (wr.drewN nq) p q l m (hr1.drewN nq) (hr2.drewN nq)
            rw [decide_eq_true hlm] at hS
            have HS := (show Hid (∀ nq : Nat, Calls Try.prog 28 #[p, q] (wr.drewN nq) fun e w' => e = .returned (.bool true) ∧ w' = wr.drewN nq) from hS)
            have HT := (show Hid (la.take (k + 1) = lb.take (k + 1)) by
              show la.take (k + 1) = lb.take (k + 1)
              rw [take_snoc' la k l hl1, take_snoc' lb k m hm1, htk.out, hlm])
            clear hS hr1 hr2 hlm hp hq hl1 hm1 hL
            go_wp2_with fail
            go_quiet ((go_at_call 28; exact Calls.quiet_of_same (HS.out _)))
            go_wp2_with fail
            go_roundw
            case rel => exact ⟨k + 1, by omega, by go_num, HT, bel_drewN hbel _⟩
            case measure => simp [intOf]; omega
          · have hS := fun nq : Nat => same_any (wr.drewN nq) p q l m (hr1.drewN nq) (hr2.drewN nq)
            rw [decide_eq_false hlm] at hS
            have HS := (show Hid (∀ nq : Nat, Calls Try.prog 28 #[p, q] (wr.drewN nq) fun e w' => e = .returned (.bool false) ∧ w' = wr.drewN nq) from hS)
            have hdf : d = false := by rw [HD.out, decide_eq_false (take_ne hl1 hm1 hlm)]
            clear hS hr1 hr2 hlm hp hq hl1 hm1 hL HD
            subst hdf
            go_wp2_with fail
            go_quiet ((go_at_call 28; exact Calls.quiet_of_same (HS.out _)))
            go_wp2_with fail
            go_ret
            exact ⟨rfl, bel_drewN hbel _⟩
        · have hdt : d = true := by
            have hL := HL.out
            have e := htk.out
            rw [List.take_of_length_le (by omega), List.take_of_length_le (by omega)] at e
            rw [HD.out, decide_eq_true e]
          clear HD
          subst hdt
          go_wp2_with fail
          go_ret
          exact ⟨rfl, hbel⟩
    · have hl0 : la = [] := List.eq_nil_of_length_eq_zero (by omega)
      have hl1 : lb = [] := List.eq_nil_of_length_eq_zero (by omega)
      have hv0 : us = [] := List.eq_nil_of_length_eq_zero (by omega)
      have hv1 : vs = [] := List.eq_nil_of_length_eq_zero (by omega)
      subst hl0 hl1 hv0 hv1
      obtain ⟨ao, cap, rfl, hc⟩ := hus.form
      obtain ⟨ao', cap', rfl, hc'⟩ := hvs.form
      rw [decide_eq_true rfl]
      clear hus hvs hua hva hul hvl hlen
      go_enter Try.func10, Try.ntmps10
      go_wp2_with fail
      refine wp_loop_rounds 1 ?_; rw [rounds_succ]
      go_wp2_with fail
      go_ret
      exact ⟨rfl, Below.refl _ _⟩
  · obtain ⟨ao, cap, rfl, hc⟩ := hus.form
    obtain ⟨ao', cap', rfl, hc'⟩ := hvs.form
    rw [decide_eq_false (fun e => hlen (by rw [e]))]
    have hne : ((us.length : Int) != (vs.length : Int)) = true := by rw [bne_iff_ne]; omega
    clear hus hvs hua hva hul hvl hlen
    go_enter Try.func10, Try.ntmps10
    go_wp2_with fail
    go_ret
    exact ⟨rfl, Below.refl _ _⟩

end Go.Proofs.Yteafgdidjdfiiaa
