/- slices.Grow of nothing, slices.Concat of texts. -/
import Derived.Test.YtejkkhlblnepeaaDoorKp
import Derived.Test.YtejkkhlblnepeaaDoorKvr
import Derived.Test.YtejkkhlblnepeaaDoorW4
set_option linter.unusedVariables false
set_option linter.unusedSimpArgs false
namespace Go.Proofs.YtejkkhlblnepeaaDoor
open Go.RowKit Oct Kvl

/-- 'append(nil, make(S, m)...)' of bytes. -/
theorem wl_app_zeros0 {ops : Array Oper} {rest : List Oper} {o : Oper} {a : Act} {w : World} {Q : Exit → Act → World → Prop} (hgd : o.guard = none) (s x : Operand)
    (ho : o.op = .call { callee := .builtin .append, args := #[s, x], argTypes := #[22, 3] }) (hs : a.eval s = .slice none 0 0)
    (m : Nat) (hm : 0 < m) (hx : a.eval x = .int .i64 (m : Int)) (hmx : m ≤ 100000000)
    (h : ∀ NC w', Own w' 5 (.slice (some ⟨w.heap.size, 0, none⟩) 0 NC) (bc []) → m ≤ NC → NC ≤ maxLen → Below w.heap.size w w' → wpList Tryd.prog ops Q rest (a.put o.dst (.slice (some ⟨w.heap.size, 0, none⟩) m NC)) w') : wpList Tryd.prog ops Q (o :: rest) a w :=
  wpList_plain hgd fun _ hK => by
    obtain ⟨i, hi, hz, hsz, hby⟩ := info_parts Tryd.info5
    have hf : (Builtin.firstCells i.size 0 (.slice none 0 0)).run Tryd.prog w.drew = .ok ([] : List Value).toArray w.drew := by
      simp [Builtin.firstCells]
    have hr := Lib.run_append_grow_zeros (P := Tryd.prog) w 22 3 o.type 5 i (.int .u8 0) .i64 .i64 Tryd.underlying22 Tryd.underlying3 hi hz none 0 0 [] hf m hm (by omega) (by omega) (by omega)
      (by rw [hby]; omega) (growslice_fits (by omega) (by rw [hby]; omega))
    rw [Nat.zero_add] at hr
    have hge := grownCap_ge w m 0 5
    have hcm := grownCap_le_maxLen w m 0 5 (by unfold maxLen; omega)
    unfold Oper.wp
    simp [execOp, ho, resolve, invoke, builtin, hs, hx, hr, Result.andThen]
    refine hK _ _ (h (grownCap w m 0 5) _ ⟨by simp [bc], .inr ⟨w.heap.size, _, _, rfl, Nat.zero_le _, heap_alloc_new w.drew _, Nat.zero_le _, hcm, ?_, by simp [bc]⟩⟩ hge hcm ((show Below w.heap.size w w.drew from ⟨rfl, rfl, rfl, Nat.le_refl _, fun _ _ => rfl⟩).alloc (Nat.le_refl _) _))
    simp only [Array.size_append, size_zeroCells, Value.cells]
    simp
    omega

set_option maxHeartbeats 1000000 in
/-- slices.Grow of nothing. -/
theorem grow_any (w : World) (m : Nat) (hm : 0 < m) (hmx : m ≤ 100000000) :
    Calls Tryd.prog 36 #[.slice none 0 0, .int .i64 (m : Int)] w fun e w' => ∃ v', e = .returned v' ∧ Own w' 5 v' (bc []) ∧ Fr w.heap.size v' ∧ Below w.heap.size w w' := by
  have h0 : decide ((m : Int) < 0) = false := by simp
  have h1 : (0 : Int) < m := by omega
  go_enter Tryd.func36, Tryd.ntmps36
  go_wp2_with (at_builtin; refine wl_app_zeros0 rfl _ _ rfl rfl m hm rfl hmx ?_; intro NC w2 hown hn hmm hb2)
  go_ret
  exact ⟨_, rfl, hown, fr_at _ _ _ _ (Nat.le_refl _), hb2⟩
theorem grow_all (w : World) (m : Nat) (hmx : m ≤ 100000000) :
    Calls Tryd.prog 36 #[.slice none 0 0, .int .i64 (m : Int)] w fun e w' => ∃ v', e = .returned v' ∧ Own w' 5 v' (bc []) ∧ Fr w.heap.size v' ∧ Below w.heap.size w w' := by
  by_cases hm : 0 < m
  · exact grow_any w m hm hmx
  · obtain rfl : m = 0 := by omega
    go_enter Tryd.func36, Tryd.ntmps36
    go_wp2_with fail
    go_ret
    exact ⟨_, rfl, Own.nil _ _, Fr.nil _, Below.refl _ _⟩

theorem flat_take_len {ll : List (List Int)} {q : Nat} {l : List Int} (h : ll[q]? = some l) : (ll.take (q + 1)).flatten = (ll.take q).flatten ++ l := by
  rw [take_snoc' ll q l h]; simp
theorem flat_take_le (ll : List (List Int)) (q : Nat) : (ll.take q).flatten.length ≤ ll.flatten.length := by
  conv => rhs; rw [← List.take_append_drop q ll]
  rw [List.flatten_append, List.length_append]
  omega

set_option maxHeartbeats 2000000 in
/-- slices.Concat of texts. -/
theorem concat_all (w : World) (v : Value) (ll : List (List Int)) (hv : Rdl w v ll) (hl : 0 < ll.length) (hn : ll.length ≤ 1000000) (hm : ll.flatten.length ≤ 100000000) :
    Calls Tryd.prog 18 #[v] w fun e w' => ∃ v', e = .returned v' ∧ Own w' 5 v' (bc ll.flatten) ∧ Fr w.heap.size v' ∧ Below w.heap.size w w' := by
  obtain ⟨vs, hvs, hall⟩ := hv
  have hlen := hall.len
  obtain ⟨b, off, cap, rfl, hc1, hc2, hb, hcell⟩ := hvs.at (by omega)
  have HC := (show Hid (∀ (j : Nat) (u : Value), vs[j]? = some u → w.cell? ⟨b, off + j, none⟩ = some u) from hcell)
  have HA := (show Hid (All2 (Rd w) vs ll) from hall)
  clear hcell hvs hall
  obtain ⟨N, hN⟩ : ∃ N, N = vs.length := ⟨_, rfl⟩
  have HL := (show Hid (ll.length = N ∧ vs.length = N) from ⟨by omega, hN.symm⟩)
  have hN1 : 0 < N := by omega
  have hN2 : N ≤ 1000000 := by omega
  rw [← hN] at hc1 ⊢
  clear hN hlen hl hn
  have HM := (show Hid (ll.flatten.length ≤ 100000000) from hm)
  have HF := (show Hid (∀ q, (ll.take q).flatten.length ≤ ll.flatten.length) from flat_take_le ll)
  clear hm
  go_enter Tryd.func18, Tryd.ntmps18
  go_wp2_with fail
  go_loop [3, 11] (fun s i => ∃ q : Nat, q ≤ N ∧ i = .int .i64 q ∧ s = .int .i64 ((ll.take q).flatten.length : Int)) (fun _ i => N - (intOf i).toNat)
  case atStart => exact ⟨0, by omega, rfl, rfl⟩
  case round =>
    obtain ⟨q, hq, rfl, rfl⟩ := hrel
    by_cases hql : q < N
    · obtain ⟨p, hp⟩ : ∃ p, vs[q]? = some p := ⟨_, List.getElem?_eq_getElem (by have := HL.out; omega)⟩
      obtain ⟨l, hl'⟩ : ∃ l, ll[q]? = some l := ⟨_, List.getElem?_eq_getElem (by have := HL.out; omega)⟩
      have hcp := HC.out q p hp
      obtain ⟨ap, cp, rfl, hcp2⟩ := (HA.out.get hp hl').form
      have hfl := flat_take_len hl'
      have hle := HF.out (q + 1)
      have hM := HM.out
      have HFL := (show Hid ((ll.take (q + 1)).flatten.length = (ll.take q).flatten.length + l.length) by show _ = _; rw [hfl, List.length_append])
      rw [HFL.out] at hle
      have hsum : (((ll.take q).flatten.length : Nat) : Int) + (l.length : Int) ≤ 100000000 := by omega
      have hz : decide ((((ll.take q).flatten.length : Nat) : Int) + (l.length : Int) < 0) = false := by simp; omega
      clear hfl hle hM hp hl'
      generalize (ll.take q).flatten.length = s0 at *
      go_wp2_with fail
      go_round
      case rel => exact ⟨q + 1, by omega, by go_num, by rw [HFL.out]; go_num⟩
      case measure => simp [intOf]; omega
    · obtain rfl : q = N := by omega
      have hall2 : (ll.take q).flatten.length = ll.flatten.length := by rw [List.take_of_length_le (by have := HL.out; omega)]
      rw [hall2]
      have hG := grow_all w ll.flatten.length HM.out
      generalize ll.flatten.length = T at hG ⊢
      go_wp2_with fail
      refine hG.mono ?_
      rintro e w1 ⟨v1, rfl, hown1, hfr1, hb1⟩
      clear hG hall2
      go_wp2_with fail
      go_loopw [6, 27] (fun o i wr => ∃ k : Nat, k ≤ q ∧ i = .int .i64 k ∧ Own wr 5 o (bc (ll.take k).flatten) ∧ Fr w.heap.size o ∧ Below w.heap.size w wr) (fun _ i _ => q - (intOf i).toNat)
      case atStart => exact ⟨0, Nat.zero_le _, rfl, hown1, hfr1, hb1⟩
      case round =>
        obtain ⟨k, hk, rfl, hown, hfr, hbel⟩ := hrel
        by_cases hkl : k < q
        · obtain ⟨p, hp⟩ : ∃ p, vs[k]? = some p := ⟨_, List.getElem?_eq_getElem (by have := HL.out; omega)⟩
          obtain ⟨l, hl'⟩ : ∃ l, ll[k]? = some l := ⟨_, List.getElem?_eq_getElem (by have := HL.out; omega)⟩
          have hcp : wr.cell? ⟨b, off + k, none⟩ = some p := (hbel.cell (p := ⟨b, off + k, none⟩) hb).trans (HC.out k p hp)
          have hrd' := (HA.out.get hp hl').below hbel
          have hfl := flat_take_len hl'
          have HFL := (show Hid ((ll.take (k + 1)).flatten = (ll.take k).flatten ++ l) from hfl)
          have hbd : (ll.take k).flatten.length + l.length ≤ 140737488355328 := by
            have h1 := HF.out (k + 1)
            have h2 := HM.out
            rw [hfl, List.length_append] at h1
            omega
          have hsz := hbel.size
          clear hfl hp hl'
          go_wp2_with (at_builtin; refine app_bytes rfl _ _ rfl u6 (ll.take k).flatten rfl hown _ l rfl hrd'.2 hbd ?_; intro v2 w2 happ)
          go_roundw
          case rel => exact ⟨k + 1, by omega, by go_num, by rw [HFL.out]; exact happ.own, happ.fr hfr hsz, hbel.trans (happ.below hfr hsz)⟩
          case measure => simp [intOf]; omega
        · obtain rfl : k = q := by omega
          rw [List.take_of_length_le (by have := HL.out; omega)] at hown
          go_wp2_with fail
          go_ret
          exact ⟨_, rfl, hown, hfr, hbel⟩
theorem concat_any (w : World) (v : Value) (ll : List (List Int)) (hv : Rdl w v ll) (hl : 0 < ll.length) (hn : ll.length ≤ 1000) (h1 : 0 < ll.flatten.length) (hm : ll.flatten.length ≤ 100000000) :
    Calls Tryd.prog 18 #[v] w fun e w' => ∃ v', e = .returned v' ∧ Own w' 5 v' (bc ll.flatten) ∧ Fr w.heap.size v' ∧ Below w.heap.size w w' := concat_all w v ll hv hl (by omega) hm
end Go.Proofs.YtejkkhlblnepeaaDoor
