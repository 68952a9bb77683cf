/- The walks over package kv: Write. -/
import Derived.Test.YteafgdidjdfiiaaGreatW3
import Derived.Test.YteafgdidjdfiiaaGreatLst
import Derived.Test.YteafgdidjdfiiaaGreatJ03
import Derived.Test.YteafgdidjdfiiaaGreatKvr
import Derived.Deep.Cut
section
namespace Go.Proofs.YteafgdidjdfiiaaGreat
open Go.RowKit Oct

theorem Rdl.byts {w : World} {v : Value} {ll : List (List Int)} (h : Rdl w v ll) : Byts ll := by
  obtain ⟨vs, h1, h2⟩ := h
  clear h1
  intro l hl
  obtain ⟨i, hi, e⟩ := List.getElem_of_mem hl
  have hlen := h2.len
  exact (h2.get (List.getElem?_eq_getElem (show i < vs.length by omega)) (by rw [List.getElem?_eq_getElem hi, e])).1



end Go.Proofs.YteafgdidjdfiiaaGreat
end

section
set_option linter.unusedVariables false
set_option linter.unusedSimpArgs false
namespace Go.Proofs.YteafgdidjdfiiaaGreat
open Go.RowKit Oct Kvl

/-- 'append(nil, make(S, m)...)' of bytes. -/
theorem wl_app_zeros0 {ops : Array Oper} {rest : List Oper} {o : Oper} {a : Act} {w : World} {Q : Exit → Act → World → Prop} (hgd : o.guard = none) (s x : Operand)
    (ho : o.op = .call { callee := .builtin .append, args := #[s, x], argTypes := #[28, 3] }) (hs : a.eval s = .slice none 0 0)
    (m : Nat) (hm : 0 < m) (hx : a.eval x = .int .i64 (m : Int)) (hmx : m ≤ 100000000)
    (h : ∀ NC w', Own w' 5 (.slice (some ⟨w.heap.size, 0, none⟩) 0 NC) (bc []) → m ≤ NC → NC ≤ maxLen → Below w.heap.size w w' → wpList Tryz.prog ops Q rest (a.put o.dst (.slice (some ⟨w.heap.size, 0, none⟩) m NC)) w') : wpList Tryz.prog ops Q (o :: rest) a w :=
  wpList_plain hgd fun _ hK => by
    obtain ⟨i, hi, hz, hsz, hby⟩ := info_parts Tryz.info5
    have hf : (Builtin.firstCells i.size 0 (.slice none 0 0)).run Tryz.prog w.drew = .ok ([] : List Value).toArray w.drew := by
      simp [Builtin.firstCells]
    have hr := Lib.run_append_grow_zeros (P := Tryz.prog) w 28 3 o.type 5 i (.int .u8 0) .i64 .i64 Tryz.underlying28 Tryz.underlying3 hi hz none 0 0 [] hf m hm (by omega) (by omega) (by omega)
      (by rw [hby]; omega) (growslice_fits (by omega) (by rw [hby]; omega))
    rw [Nat.zero_add] at hr
    have hge := grownCap_ge w m 0 5
    have hcm := grownCap_le_maxLen w m 0 5 (by unfold maxLen; omega)
    unfold Oper.wp
    simp [execOp, ho, resolve, invoke, builtin, hs, hx, hr, Result.andThen]
    refine hK _ _ (h (grownCap w m 0 5) _ ⟨by simp [bc], .inr ⟨w.heap.size, _, _, rfl, Nat.zero_le _, heap_alloc_new w.drew _, Nat.zero_le _, hcm, ?_, by simp [bc]⟩⟩ hge hcm ((show Below w.heap.size w w.drew from ⟨rfl, rfl, rfl, Nat.le_refl _, fun _ _ => rfl⟩).alloc (Nat.le_refl _) _))
    simp only [Array.size_append, size_zeroCells, Value.cells]
    simp
    omega

set_option maxHeartbeats 1000000 in
/-- slices.Grow of nothing. -/
theorem grow_any (w : World) (m : Nat) (hm : 0 < m) (hmx : m ≤ 100000000) :
    Calls Tryz.prog 124 #[.slice none 0 0, .int .i64 (m : Int)] w fun e w' => ∃ v', e = .returned v' ∧ Own w' 5 v' (bc []) ∧ Fr w.heap.size v' ∧ Below w.heap.size w w' := by
  have h0 : decide ((m : Int) < 0) = false := by simp
  have h1 : (0 : Int) < m := by omega
  go_enter Tryz.func124, Tryz.ntmps124
  go_wp2_with (at_builtin; refine wl_app_zeros0 rfl _ _ rfl rfl m hm rfl hmx ?_; intro NC w2 hown hn hmm hb2)
  go_ret
  exact ⟨_, rfl, hown, fr_at _ _ _ _ (Nat.le_refl _), hb2⟩
theorem grow_all (w : World) (m : Nat) (hmx : m ≤ 100000000) :
    Calls Tryz.prog 124 #[.slice none 0 0, .int .i64 (m : Int)] w fun e w' => ∃ v', e = .returned v' ∧ Own w' 5 v' (bc []) ∧ Fr w.heap.size v' ∧ Below w.heap.size w w' := by
  by_cases hm : 0 < m
  · exact grow_any w m hm hmx
  · obtain rfl : m = 0 := by omega
    go_enter Tryz.func124, Tryz.ntmps124
    go_wp2_with fail
    go_ret
    exact ⟨_, rfl, Own.nil _ _, Fr.nil _, Below.refl _ _⟩

theorem flat_take_len {ll : List (List Int)} {q : Nat} {l : List Int} (h : ll[q]? = some l) : (ll.take (q + 1)).flatten = (ll.take q).flatten ++ l := by
  rw [take_snoc' ll q l h]; simp
theorem flat_take_le (ll : List (List Int)) (q : Nat) : (ll.take q).flatten.length ≤ ll.flatten.length := by
  conv => rhs; rw [← List.take_append_drop q ll]
  rw [List.flatten_append, List.length_append]
  omega

set_option maxHeartbeats 2000000 in
/-- slices.Concat of texts. -/
theorem concat_all (w : World) (v : Value) (ll : List (List Int)) (hv : Rdl w v ll) (hl : 0 < ll.length) (hn : ll.length ≤ 1000000) (hm : ll.flatten.length ≤ 100000000) :
    Calls Tryz.prog 116 #[v] w fun e w' => ∃ v', e = .returned v' ∧ Own w' 5 v' (bc ll.flatten) ∧ Fr w.heap.size v' ∧ Below w.heap.size w w' := by
  obtain ⟨vs, hvs, hall⟩ := hv
  have hlen := hall.len
  obtain ⟨b, off, cap, rfl, hc1, hc2, hb, hcell⟩ := hvs.at (by omega)
  have HC := (show Hid (∀ (j : Nat) (u : Value), vs[j]? = some u → w.cell? ⟨b, off + j, none⟩ = some u) from hcell)
  have HA := (show Hid (All2 (Rd w) vs ll) from hall)
  clear hcell hvs hall
  obtain ⟨N, hN⟩ : ∃ N, N = vs.length := ⟨_, rfl⟩
  have HL := (show Hid (ll.length = N ∧ vs.length = N) from ⟨by omega, hN.symm⟩)
  have hN1 : 0 < N := by omega
  have hN2 : N ≤ 1000000 := by omega
  rw [← hN] at hc1 ⊢
  clear hN hlen hl hn
  have HM := (show Hid (ll.flatten.length ≤ 100000000) from hm)
  have HF := (show Hid (∀ q, (ll.take q).flatten.length ≤ ll.flatten.length) from flat_take_le ll)
  clear hm
  go_enter Tryz.func116, Tryz.ntmps116
  go_wp2_with fail
  go_loop [3, 11] (fun s i => ∃ q : Nat, q ≤ N ∧ i = .int .i64 q ∧ s = .int .i64 ((ll.take q).flatten.length : Int)) (fun _ i => N - (intOf i).toNat)
  case atStart => exact ⟨0, by omega, rfl, rfl⟩
  case round =>
    obtain ⟨q, hq, rfl, rfl⟩ := hrel
    by_cases hql : q < N
    · obtain ⟨p, hp⟩ : ∃ p, vs[q]? = some p := ⟨_, List.getElem?_eq_getElem (by have := HL.out; omega)⟩
      obtain ⟨l, hl'⟩ : ∃ l, ll[q]? = some l := ⟨_, List.getElem?_eq_getElem (by have := HL.out; omega)⟩
      have hcp := HC.out q p hp
      obtain ⟨ap, cp, rfl, hcp2⟩ := (HA.out.get hp hl').form
      have hfl := flat_take_len hl'
      have hle := HF.out (q + 1)
      have hM := HM.out
      have HFL := (show Hid ((ll.take (q + 1)).flatten.length = (ll.take q).flatten.length + l.length) by show _ = _; rw [hfl, List.length_append])
      rw [HFL.out] at hle
      have hsum : (((ll.take q).flatten.length : Nat) : Int) + (l.length : Int) ≤ 100000000 := by omega
      have hz : decide ((((ll.take q).flatten.length : Nat) : Int) + (l.length : Int) < 0) = false := by simp; omega
      clear hfl hle hM hp hl'
      generalize (ll.take q).flatten.length = s0 at *
      go_wp2_with fail
      go_round
      case rel => exact ⟨q + 1, by omega, by go_num, by rw [HFL.out]; go_num⟩
      case measure => simp [intOf]; omega
    · obtain rfl : q = N := by omega
      have hall2 : (ll.take q).flatten.length = ll.flatten.length := by rw [List.take_of_length_le (by have := HL.out; omega)]
      rw [hall2]
      have hG := grow_all w ll.flatten.length HM.out
      generalize ll.flatten.length = T at hG ⊢
      go_wp2_with fail
      refine hG.mono ?_
      rintro e w1 ⟨v1, rfl, hown1, hfr1, hb1⟩
      clear hG hall2
      go_wp2_with fail
      go_loopw [6, 27] (fun o i wr => ∃ k : Nat, k ≤ q ∧ i = .int .i64 k ∧ Own wr 5 o (bc (ll.take k).flatten) ∧ Fr w.heap.size o ∧ Below w.heap.size w wr) (fun _ i _ => q - (intOf i).toNat)
      case atStart => exact ⟨0, Nat.zero_le _, rfl, hown1, hfr1, hb1⟩
      case round =>
        obtain ⟨k, hk, rfl, hown, hfr, hbel⟩ := hrel
        by_cases hkl : k < q
        · obtain ⟨p, hp⟩ : ∃ p, vs[k]? = some p := ⟨_, List.getElem?_eq_getElem (by have := HL.out; omega)⟩
          obtain ⟨l, hl'⟩ : ∃ l, ll[k]? = some l := ⟨_, List.getElem?_eq_getElem (by have := HL.out; omega)⟩
          have hcp : wr.cell? ⟨b, off + k, none⟩ = some p := (hbel.cell (p := ⟨b, off + k, none⟩) hb).trans (HC.out k p hp)
          have hrd' := (HA.out.get hp hl').below hbel
          have hfl := flat_take_len hl'
          have HFL := (show Hid ((ll.take (k + 1)).flatten = (ll.take k).flatten ++ l) from hfl)
          have hbd : (ll.take k).flatten.length + l.length ≤ 140737488355328 := by
            have h1 := HF.out (k + 1)
            have h2 := HM.out
            rw [hfl, List.length_append] at h1
            omega
          have hsz := hbel.size
          clear hfl hp hl'
          go_wp2_with (at_builtin; refine app_bytes rfl _ _ rfl u6 (ll.take k).flatten rfl hown _ l rfl hrd'.2 hbd ?_; intro v2 w2 happ)
          go_roundw
          case rel => exact ⟨k + 1, by omega, by go_num, by rw [HFL.out]; exact happ.own, happ.fr hfr hsz, hbel.trans (happ.below hfr hsz)⟩
          case measure => simp [intOf]; omega
        · obtain rfl : k = q := by omega
          rw [List.take_of_length_le (by have := HL.out; omega)] at hown
          go_wp2_with fail
          go_ret
          exact ⟨_, rfl, hown, hfr, hbel⟩
theorem concat_any (w : World) (v : Value) (ll : List (List Int)) (hv : Rdl w v ll) (hl : 0 < ll.length) (hn : ll.length ≤ 1000) (h1 : 0 < ll.flatten.length) (hm : ll.flatten.length ≤ 100000000) :
    Calls Tryz.prog 116 #[v] w fun e w' => ∃ v', e = .returned v' ∧ Own w' 5 v' (bc ll.flatten) ∧ Fr w.heap.size v' ∧ Below w.heap.size w w' := concat_all w v ll hv hl (by omega) hm
end Go.Proofs.YteafgdidjdfiiaaGreat
end

section
set_option linter.unusedVariables false
set_option linter.unusedSimpArgs false
namespace Go.Proofs.YteafgdidjdfiiaaGreat
open Go.RowKit Oct Kvl

theorem rdv_lit (w : World) (xs : List Value) (e : TypeId) (h : 0 < xs.length) (hm : xs.length ≤ 1000) : Rdv (w.alloc (.cells xs.toArray e)) (.slice (some ⟨w.heap.size, 0, none⟩) xs.length xs.length) xs := by
  refine ⟨some ⟨w.heap.size, 0, none⟩, xs.length, rfl, Nat.le_refl _, by unfold maxLen; omega, fun e => (by cases e), fun a ha j u hu => ?_⟩
  cases ha
  rw [Addr.add_mid, Nat.zero_add]
  exact (Row.new w e xs).cell hu
def errW (o : POp) : Int := if wok o then 0 else 71
def outW (o : POp) : List Int := if wok o then wrO o else []
theorem outW_byt {o : POp} (h1 : Byt o.2.1) (h2 : Byt o.2.2.1) (h3 : Byt o.2.2.2.1) : Byt (outW o) := by
  unfold outW
  split
  · rename_i h
    have hb : ∀ {t : List Int}, Byt t → t.length ≤ 64 → Byt (enc t.length ++ t) := fun ht hl => (enc_byt _ (by omega) (by omega)).app ht
    obtain ⟨⟨k1, k2⟩, ⟨n1, n2⟩, ha, hb', u1, u2⟩ := id h
    have ha := Nat.le_trans ha (mA_le _)
    have hb' := Nat.le_trans hb' (mB_le _)
    have hl : 0 ≤ lN o.1 := by unfold lN; split <;> omega
    have hm : mN o.1 ≤ 1000 := by unfold mN; split <;> omega
    rw [wrO_eq o h]
    exact (enc_byt _ (by omega) (by omega)).app ((hb h1 (by omega)).app ((hb h2 ha).app ((hb h3 hb').app (enc_byt _ (by omega) (by omega)))))
  · exact Byt.nil

set_option maxRecDepth 10000 in
set_option maxHeartbeats 4000000 in
/-- kv.Write. -/
theorem write_any (w : World) (r : List Value) (o : POp) (h : ROp Any w r o) :
    Calls Tryz.prog 111 #[.agg r.toArray] w fun e w' => ∃ v', e = .returned (.tuple #[v', .int .i64 (errW o)]) ∧ Own w' 5 v' (bc (outW o)) ∧ Fr w.heap.size v' ∧ Below w.heap.size w w' := by
  have le := Nat.le_refl w.heap.size
  have hall := h
  obtain ⟨vn, va, vb, rfl, rn, ra', rb'⟩ := h
  obtain ⟨w0, hw0⟩ : ∃ w0, w0 = w.alloc (.cells #[.int .i64 o.1, vn, va, vb, .int .i64 o.2.2.2.2] 127) := ⟨_, rfl⟩
  have x0 : Row w0 w.heap.size 127 [.int .i64 o.1, vn, va, vb, .int .i64 o.2.2.2.2] := by rw [hw0]; exact Row.new w 127 _
  have B0 : Below w.heap.size w w0 := by rw [hw0]; exact below_alloc _ _
  have hW := writable_any w0 _ o (mov_op _ _ _ _ _ _ hall B0.size (Mv.below B0))
  by_cases hw : wok o
  rotate_left
  · rw [decide_eq_false hw] at hW
    rw [errW, if_neg hw, outW, if_neg hw]
    go_enter Tryz.func111, Tryz.ntmps111
    go_upto_region 1 with fail
    rw [← hw0]
    clear hw0
    go_wp2_with (first
      | (refine wl_load rfl _ _ rfl w.heap.size rfl _ _ x0 _ Tryz.underlying127 rfl (by kernel_rfl) ?_)
      | (go_at_call 90; refine hW.mono ?_; rintro e w1 ⟨rfl, hb1⟩))
    go_ret2
    exact ⟨_, rfl, Own.nil _ _, Fr.nil _, below_and B0 le hb1⟩
  rw [decide_eq_true hw] at hW
  have hfl0 : wrO o = ([enc o.1, enc o.2.1.length ++ o.2.1, enc o.2.2.1.length ++ o.2.2.1, enc o.2.2.2.1.length ++ o.2.2.2.1, enc o.2.2.2.2] : List (List Int)).flatten := by rw [wrO_eq o hw]; simp
  rw [errW, if_pos hw, outW, if_pos hw, hfl0]
  clear hfl0
  obtain ⟨⟨k1, k2⟩, ⟨n1, n2⟩, na, nb, u1, u2⟩ := hw
  have na := Nat.le_trans na (mA_le _)
  have nb := Nat.le_trans nb (mB_le _)
  have hl : 0 ≤ lN o.1 := by unfold lN; split <;> omega
  have hm : mN o.1 ≤ 1000 := by unfold mN; split <;> omega
  have hu0 : 0 ≤ o.2.2.2.2 := by omega
  have hu1 : o.2.2.2.2 ≤ 1000 := by omega
  clear u1 u2 hl hm
  have i1 := fun u => int_any u o.1
  have i2 := fun u => int_any u o.2.2.2.2
  rw [errI_yes (by omega) (by omega), outI_yes (by omega) (by omega)] at i1 i2
  have I1 := (show Hid (∀ u : World, Calls Tryz.prog 25 #[.int .i64 o.1] u fun e w' => ∃ v, e = .returned (.tuple #[v, .int .i64 0]) ∧ Own w' 5 v (bc (enc o.1)) ∧ Fr u.heap.size v ∧ Below u.heap.size u w') from i1)
  have I2 := (show Hid (∀ u : World, Calls Tryz.prog 25 #[.int .i64 o.2.2.2.2] u fun e w' => ∃ v, e = .returned (.tuple #[v, .int .i64 0]) ∧ Own w' 5 v (bc (enc o.2.2.2.2)) ∧ Fr u.heap.size v ∧ Below u.heap.size u w') from i2)
  have bk := enc_byt o.1 (by omega) (by omega)
  have bu := enc_byt o.2.2.2.2 (by omega) (by omega)
  have ek := enc_len o.1
  have eu := enc_len o.2.2.2.2
  have en := enc_len (o.2.1.length : Int)
  have ea := enc_len (o.2.2.1.length : Int)
  have eb := enc_len (o.2.2.2.1.length : Int)
  clear i1 i2
  have HB := fun (t : Value) (l : List Int) (ht : RT Any w t l) (hl : l.length ≤ 64) => (show Hid (∀ u, Below w.heap.size w u → Calls Tryz.prog 27 #[t] u fun e w' => ∃ v', e = .returned v' ∧ Hid (∀ u', Below w'.heap.size w' u' → Rd u' v' (enc l.length ++ l)) ∧ Below u.heap.size u w') from fun u hu => (bytes_any u t l (ht.mv (Mv.below hu)).1 (by omega)).mono fun e w' ⟨v', e1, e2, e3, e4⟩ => ⟨v', e1, fun u' hu' => (e2.rd ((enc_byt _ (by omega) (by omega)).app ht.1.1)).below hu', e4⟩)
  have HBN := HB vn o.2.1 rn (by omega)
  have HBA := HB va o.2.2.1 ra' (by omega)
  have HBB := HB vb o.2.2.2.1 rb' (by omega)
  have hm1 : 0 < ([enc o.1, enc o.2.1.length ++ o.2.1, enc o.2.2.1.length ++ o.2.2.1, enc o.2.2.2.1.length ++ o.2.2.2.1, enc o.2.2.2.2] : List (List Int)).flatten.length := by simp only [List.flatten_cons, List.flatten_nil, List.length_append]; omega
  have hm2 : ([enc o.1, enc o.2.1.length ++ o.2.1, enc o.2.2.1.length ++ o.2.2.1, enc o.2.2.2.1.length ++ o.2.2.2.1, enc o.2.2.2.2] : List (List Int)).flatten.length ≤ 100000000 := by simp only [List.flatten_cons, List.flatten_nil, List.length_append, List.length_nil]; omega
  clear HB ek eu en ea eb
  generalize enc o.2.1.length ++ o.2.1 = TN at *
  generalize enc o.2.2.1.length ++ o.2.2.1 = TA at *
  generalize enc o.2.2.2.1.length ++ o.2.2.2.1 = TB at *
  generalize enc o.1 = TK at *
  generalize enc o.2.2.2.2 = TU at *
  have HM := (show Hid (0 < [TK, TN, TA, TB, TU].flatten.length ∧ [TK, TN, TA, TB, TU].flatten.length ≤ 100000000) from ⟨hm1, hm2⟩)
  clear hm1 hm2
  go_enter Tryz.func111, Tryz.ntmps111
  go_upto_region 1 with fail
  rw [← hw0]
  clear hw0
  go_upto_region 3 with (first
    | (refine wl_load rfl _ _ rfl w.heap.size rfl _ _ x0 _ Tryz.underlying127 rfl (by kernel_rfl) ?_)
    | (go_at_call 90; refine hW.mono ?_; rintro e w1 ⟨rfl, hb1⟩))
  have B1 := below_and B0 le hb1
  have x1 := x0.below hb1
  have c0 := x1.cell (j := 0) rfl
  go_upto_region 4 with (go_at_call 25; refine (I1.out _).mono ?_; rintro e w2 ⟨v2, rfl, p2, f2, hb2⟩)
  have B2 := below_and B1 le hb2
  have x2 := x1.below hb2
  have c4 := x2.cell (j := 4) rfl
  have p2 := p2.rd bk
  obtain ⟨ax2, cx2, rfl, hcx2⟩ := p2.form
  go_upto_region 5 with (go_at_call 25; refine (I2.out _).mono ?_; rintro e w3 ⟨v3, rfl, p3, f3, hb3⟩)
  have B3 := below_and B2 le hb3
  have x3 := x2.below hb3
  have p3 := p3.rd bu
  have p2 := p2.below hb3
  obtain ⟨ax3, cx3, rfl, hcx3⟩ := p3.form
  clear hW hb1 hb2 hb3 f2 f3 x0 x1 x2 B0 B1 B2 c0 c4 I1 I2
  have SK := (show Hid (∀ u, Below w3.heap.size w3 u → u.cell? ⟨w.heap.size, 1, none⟩ = some vn ∧ u.cell? ⟨w.heap.size, 2, none⟩ = some va ∧ u.cell? ⟨w.heap.size, 3, none⟩ = some vb) from fun u hu => ⟨(x3.below hu).cell (j := 1) rfl, (x3.below hu).cell (j := 2) rfl, (x3.below hu).cell (j := 3) rfl⟩)
  obtain ⟨a1, a2, a3⟩ := SK.out w3 (Below.refl _ _)
  have hdw : Below w3.heap.size w3 w3.drew := ⟨rfl, rfl, rfl, Nat.le_refl _, fun _ _ => rfl⟩
  have H1 := (show Hid (∀ u, Below w3.heap.size w3 u → Calls Tryz.prog 27 #[vn] u fun e w' => ∃ v', e = .returned v' ∧ Hid (∀ u', Below w'.heap.size w' u' → Rd u' v' TN) ∧ Below u.heap.size u w' ∧ Below w3.heap.size w3 w') from fun u hu => (HBN.out u (below_and B3 le hu)).mono fun e w' ⟨v', e1, e2, e3⟩ => ⟨v', e1, e2, e3, below_and hu (Nat.le_refl _) e3⟩)
  have H2 := (show Hid (∀ u, Below w3.heap.size w3 u → Calls Tryz.prog 27 #[va] u fun e w' => ∃ v', e = .returned v' ∧ Hid (∀ u', Below w'.heap.size w' u' → Rd u' v' TA) ∧ Below u.heap.size u w' ∧ Below w3.heap.size w3 w') from fun u hu => (HBA.out u (below_and B3 le hu)).mono fun e w' ⟨v', e1, e2, e3⟩ => ⟨v', e1, e2, e3, below_and hu (Nat.le_refl _) e3⟩)
  have H3 := (show Hid (∀ u, Below w3.heap.size w3 u → Calls Tryz.prog 27 #[vb] u fun e w' => ∃ v', e = .returned v' ∧ Hid (∀ u', Below w'.heap.size w' u' → Rd u' v' TB) ∧ Below u.heap.size u w' ∧ Below w3.heap.size w3 w') from fun u hu => (HBB.out u (below_and B3 le hu)).mono fun e w' ⟨v', e1, e2, e3⟩ => ⟨v', e1, e2, e3, below_and hu (Nat.le_refl _) e3⟩)
  have HCC := (show Hid (∀ (u : World) (tn ta tb : Value), Below w3.heap.size w3 u → Rd u tn TN → Rd u ta TA → Rd u tb TB → Calls Tryz.prog 116 #[.slice (some ⟨u.heap.size, 0, none⟩) 5 5] (u.alloc (.cells #[.slice ax2 TK.length cx2, tn, ta, tb, .slice ax3 TU.length cx3] 28)) fun e w' => ∃ v', e = .returned v' ∧ Own w' 5 v' (bc [TK, TN, TA, TB, TU].flatten) ∧ Fr w.heap.size v' ∧ Below w.heap.size w w' ∧ Below w3.heap.size w3 w') from fun u tn ta tb hu h1 h2 h3 => by
    have hbu := below_and B3 le hu
    have hba := below_alloc u (.cells ([.slice ax2 TK.length cx2, tn, ta, tb, .slice ax3 TU.length cx3] : List Value).toArray 28)
    have hR : Rdl (u.alloc (.cells ([.slice ax2 TK.length cx2, tn, ta, tb, .slice ax3 TU.length cx3] : List Value).toArray 28)) (.slice (some ⟨u.heap.size, 0, none⟩) 5 5) [TK, TN, TA, TB, TU] :=
      ⟨[.slice ax2 TK.length cx2, tn, ta, tb, .slice ax3 TU.length cx3], rdv_lit u _ _ (by simp) (by simp), (p2.below hu).below hba, h1.below hba, h2.below hba, h3.below hba, (p3.below hu).below hba, trivial⟩
    refine (concat_any _ _ _ hR (by simp) (by simp) HM.out.1 HM.out.2).mono fun e w' ⟨v', e1, e2, e3, e4⟩ => ⟨v', e1, e2, e3.mono (below_and hbu le hba).size, below_and (below_and hbu le hba) le e4, below_and (below_and hu (Nat.le_refl _) hba) (Nat.le_refl _) e4⟩)
  clear HBN HBA HBB
  go_wp2_with fail
  go_region_held3 (fun u => u.cell? ⟨w.heap.size, 1, none⟩ = some vn ∧ u.cell? ⟨w.heap.size, 2, none⟩ = some va ∧ u.cell? ⟨w.heap.size, 3, none⟩ = some vb)
    (first | exact SK.out _ (by assumption) | exact SK.out _ (below_and (by assumption) (Nat.le_refl _) (below_alloc _ _)) | go_keep)
    (first
      | (go_at_call 116; refine (HCC.out _ _ _ _ hB7 (r5.out _ (below_and hb6 (Nat.le_refl _) hb7)) (r6.out _ hb7) (r7.out _ (Below.refl _ _))).mono ?_; rintro e w8 ⟨v8, rfl, p8, f8, hb8, hB8⟩)
      | (go_at_call 27; have hm := mark2; refine (H3.out _ (by assumption)).mono ?_; rintro e w7 ⟨v7, rfl, r7, hb7, hB7⟩; obtain ⟨ax7, cx7, rfl, hcx7⟩ := (r7.out _ (Below.refl _ _)).form)
      | (go_at_call 27; have hm := mark1; refine (H2.out _ (by assumption)).mono ?_; rintro e w6 ⟨v6, rfl, r6, hb6, hB6⟩; have mark2 := trivial; obtain ⟨ax6, cx6, rfl, hcx6⟩ := (r6.out _ (Below.refl _ _)).form)
      | (go_at_call 27; refine (H1.out _ (by assumption)).mono ?_; rintro e w5 ⟨v5, rfl, r5, hb5, hB5⟩; have mark1 := trivial; obtain ⟨ax5, cx5, rfl, hcx5⟩ := (r5.out _ (Below.refl _ _)).form))
  all_goals (
    go_wp2_with fail
    go_ret2
    exact ⟨_, rfl, p8, f8, hb8⟩)
end Go.Proofs.YteafgdidjdfiiaaGreat
end
