/- The walks over package sha and its reference: turns of a word. -/
import Derived.Test.YtgbfmccecnfooaaGreatDoorCLAB
import Derived.Test.YtgbfmccecnfooaaGreatDoorCLAC
import Derived.Deep.QuietTactic
import Derived.BigQuiet
import Derived.Test.YtgbfmccecnfooaaGreatDoorCLAD
import Derived.Laws.Shifts
namespace Go.Proofs.YtgbfmccecnfooaaGreatDoor
section
open Go.RowKit Oct
theorem Rdl.byts {w : World} {v : Value} {ll : List (List Int)} (h : Rdl w v ll) : Byts ll := by
  obtain ⟨vs, h1, h2⟩ := h
  clear h1
  intro l hl
  obtain ⟨i, hi, e⟩ := List.getElem_of_mem hl
  have hlen := h2.len
  exact (h2.get (List.getElem?_eq_getElem (show i < vs.length by omega)) (by rw [List.getElem?_eq_getElem hi, e])).1
set_option maxHeartbeats 400000 in
/-- octet.Pack. -/
theorem pack_any (w : World) (v : Value) (ll : List (List Int)) (hv : Rdl w v ll) (ht : tot ll ≤ 10000000) :
    Calls Tryz.prog 128 #[v] w fun e w' => ∃ v', e = .returned v' ∧ Own w' 5 v' (bc (packL ll)) ∧ Fr w.heap.size v' ∧ Below w.heap.size w w' := by
  obtain ⟨vs, hvs, hall⟩ := hv
  have hlen1 := Nat.le_of_eq hall.len
  have hlen2 := Nat.le_of_eq hall.len.symm
  have hlt := len_tot ll
  by_cases hl : 0 < vs.length
  · obtain ⟨b, off, cap, rfl, hc1, hc2, hb, hcell⟩ := hvs.at hl
    have HC := (show Hid (∀ (j : Nat) (u : Value), vs[j]? = some u → w.cell? ⟨b, off + j, none⟩ = some u) from hcell)
    have HA := (show Hid (All2 (Rd w) vs ll) from hall)
    clear hcell hvs hall
    go_enter Tryz.func128, Tryz.ntmps128
    go_wp2_with fail
    go_loopw [3, 8] (fun o i wr => ∃ k : Nat, k ≤ vs.length ∧ i = .int .i64 k ∧ Own wr 5 o (bc (packL (ll.take k))) ∧ Fr w.heap.size o ∧ Below w.heap.size w wr) (fun _ i _ => vs.length - (intOf i).toNat)
    case atStart => exact ⟨0, Nat.zero_le _, rfl, Own.nil _ _, Fr.nil _, Below.refl _ _⟩
    case round =>
      obtain ⟨k, hk, rfl, hown, hfr, hbel⟩ := hrel
      by_cases hkl : k < vs.length
      · obtain ⟨p, hp⟩ : ∃ p, vs[k]? = some p := ⟨_, List.getElem?_eq_getElem hkl⟩
        obtain ⟨l, hl'⟩ : ∃ l, ll[k]? = some l := ⟨_, List.getElem?_eq_getElem (by omega)⟩
        have hcp : wr.cell? ⟨b, off + k, none⟩ = some p := (hbel.cell (p := ⟨b, off + k, none⟩) hb).trans (HC.out k p hp)
        have hrd := HA.out.get hp hl'
        have hrd' := hrd.below hbel
        have hpl := packL_snoc (ll.take k) l
        rw [← take_snoc' ll k l hl'] at hpl
        have h1 := packL_len (ll.take k)
        have h2 := tot_take ll k
        have h3 := mem_tot (List.mem_of_getElem? hl')
        have hap : l ≠ [] → ∀ g, u3.ownBlock = some g → p.ownBlock ≠ some g := fun hne g hg hpg => by
          have := hfr g hg
          have := hrd.lt hne g hpg
          omega
        have hT := appendText_any wr u3 p (packL (ll.take k)) l hown hrd' hap (by omega)
        rw [← hpl] at hT
        have HT := (show Hid (∀ _ : Unit, _) from fun _ => hT)
        have hsz := hbel.size
        clear hT hpl hap hrd hrd' hp hl' hown
        go_wp2_with (go_at_call 162; refine (HT.out ()).mono ?_; rintro e w1 ⟨o1, rfl, happ⟩)
        go_roundw
        case rel => exact ⟨k + 1, by omega, by go_num, happ.own, happ.fr hfr hsz, hbel.trans (happ.below hfr hsz)⟩
        case measure => simp [intOf]; omega
      · have hk' : k = ll.length := by omega
        rw [hk', List.take_length] at hown
        clear HC HA hk'
        go_wp2_with fail
        go_ret
        exact ⟨_, rfl, hown, hfr, hbel⟩
  · have hl0 : ll = [] := List.eq_nil_of_length_eq_zero (by omega)
    have hv0 : vs = [] := List.eq_nil_of_length_eq_zero (by omega)
    subst hl0 hv0
    obtain ⟨ao, cap, rfl, hc⟩ := hvs.form
    clear hvs hall
    go_enter Tryz.func128, Tryz.ntmps128
    go_wp2_with fail
    refine wp_loop_rounds 1 ?_; rw [rounds_succ]
    go_wp2_with fail
    go_ret
    exact ⟨_, rfl, Own.nil _ _, Fr.nil _, Below.refl _ _⟩
set_option maxHeartbeats 400000 in
/-- catenaryref01.Pack. -/
theorem refPack_any (w : World) (v : Value) (ll : List (List Int)) (hv : Rdl w v ll) (ht : tot ll ≤ 10000000) :
    Calls Tryz.prog 134 #[v] w fun e w' => ∃ v', e = .returned v' ∧ Own w' 5 v' (bc (packL ll)) ∧ Fr w.heap.size v' ∧ Below w.heap.size w w' := by
  obtain ⟨vs, hvs, hall⟩ := hv
  have hlen1 := Nat.le_of_eq hall.len
  have hlen2 := Nat.le_of_eq hall.len.symm
  have hlt := len_tot ll
  by_cases hl : 0 < vs.length
  · obtain ⟨b, off, cap, rfl, hc1, hc2, hb, hcell⟩ := hvs.at hl
    have HC := (show Hid (∀ (j : Nat) (u : Value), vs[j]? = some u → w.cell? ⟨b, off + j, none⟩ = some u) from hcell)
    have HA := (show Hid (All2 (Rd w) vs ll) from hall)
    clear hcell hvs hall
    go_enter Tryz.func134, Tryz.ntmps134
    go_wp2_with fail
    go_loopw [3, 9] (fun o i wr => ∃ k : Nat, k ≤ vs.length ∧ i = .int .i64 k ∧ Own wr 5 o (bc (packL (ll.take k))) ∧ Fr w.heap.size o ∧ Below w.heap.size w wr) (fun _ i _ => vs.length - (intOf i).toNat)
    case atStart => exact ⟨0, Nat.zero_le _, rfl, own_zero _ _, fr_at _ _ _ _ (Nat.le_refl _), below_alloc _ _⟩
    case round =>
      obtain ⟨k, hk, rfl, hown, hfr, hbel⟩ := hrel
      by_cases hkl : k < vs.length
      · obtain ⟨p, hp⟩ : ∃ p, vs[k]? = some p := ⟨_, List.getElem?_eq_getElem hkl⟩
        obtain ⟨l, hl'⟩ : ∃ l, ll[k]? = some l := ⟨_, List.getElem?_eq_getElem (by omega)⟩
        have hcp : wr.cell? ⟨b, off + k, none⟩ = some p := (hbel.cell (p := ⟨b, off + k, none⟩) hb).trans (HC.out k p hp)
        have hrd' := (HA.out.get hp hl').below hbel
        have hpl := packL_snoc (ll.take k) l
        rw [← take_snoc' ll k l hl', List.append_assoc] at hpl
        have h1 := packL_len (ll.take k)
        have h2 := tot_take ll k
        have h3 := mem_tot (List.mem_of_getElem? hl')
        have h4 := enc_len (l.length : Int)
        have hT := refBytes_any wr p l hrd' (by omega)
        have HT := (show Hid (∀ _ : Unit, _) from fun _ => hT)
        have HP := (show Hid (packL (ll.take (k + 1)) = packL (ll.take k) ++ (enc l.length ++ l)) from hpl)
        have hsz := hbel.size
        clear hT hpl hrd' hp hl'
        go_wp2_with (first | (go_at_call 67; refine (HT.out ()).mono ?_; rintro e w1 ⟨o1, rfl, hown1, hfr1, hb1⟩; have hsz1 := Nat.le_trans hsz hb1.size) | (at_builtin; refine app_bytes rfl _ _ rfl u3 (packL (ll.take k)) rfl (hown.below hb1) o1 (enc l.length ++ l) rfl hown1.rdv (by simp only [List.length_append]; omega) ?_; intro o2 w2 happ))
        go_roundw
        case rel => exact ⟨k + 1, by omega, by go_num, by rw [HP.out]; exact happ.own, happ.fr hfr hsz1, (below_and hbel (Nat.le_refl _) hb1).trans (happ.below hfr hsz1)⟩
        case measure => simp [intOf]; omega
      · have hk' : k = ll.length := by omega
        rw [hk', List.take_length] at hown
        clear HC HA hk'
        go_wp2_with fail
        go_ret
        exact ⟨_, rfl, hown, hfr, hbel⟩
  · have hl0 : ll = [] := List.eq_nil_of_length_eq_zero (by omega)
    have hv0 : vs = [] := List.eq_nil_of_length_eq_zero (by omega)
    subst hl0 hv0
    obtain ⟨ao, cap, rfl, hc⟩ := hvs.form
    clear hvs hall
    go_enter Tryz.func134, Tryz.ntmps134
    go_wp2_with fail
    refine wp_loop_rounds 1 ?_; rw [rounds_succ]
    go_wp2_with fail
    go_ret
    exact ⟨_, rfl, own_zero _ _, fr_at _ _ _ _ (Nat.le_refl _), below_alloc _ _⟩
end
section
open Go.RowKit Oct
theorem Tryz.info23 : (Tryz.prog.info? 24).map (fun i => (i.zero, i.size, i.bytes)) = some (some (.slice none 0 0), 1, 24) := by kernel_rfl
/-- 'append(s, x...)' of texts, at this program. -/
theorem app_list {w : World} {ops : Array Oper} {rest : List Oper} {o : Oper} {a : Act} {Q : Exit → Act → World → Prop} (hgd : o.guard = none) (s x : Operand)
    (ho : o.op = .call { callee := .builtin .append, args := #[s, x], argTypes := #[115, 115] })
    (v : Value) (vs : List Value) (hs : a.eval s = v) (hown : Own w 24 v vs) (sv : Value) (us : List Value) (hx : a.eval x = sv) (hsrc : Rdv w sv us) (h1 : ∀ u ∈ us, u.oneCell' = true) (hb : vs.length + us.length ≤ 1000000000)
    (h : ∀ v' w', App w 24 v w' v' (vs ++ us) → wpList Tryz.prog ops Q rest (a.put o.dst v') w') : wpList Tryz.prog ops Q (o :: rest) a w := by
  obtain ⟨i0, hi, hz0, hz1, hz2⟩ := info_parts Tryz.info23
  exact wpList_app (wanted_none hgd) s x 115 ho 24 i0 (.slice none 0 0) 24 Tryz.underlying115 hi hz0 hz1 hz2 rfl v vs hs hown sv us hx hsrc h1 (by unfold maxLen; omega) (by omega) h
/-- Texts that the call itself made. -/
def Els (w : World) (vs : List Value) (ll : List (List Int)) : Prop := All2 (fun c l => Own w 5 c (bc l)) vs ll
theorem Els.below {w w' : World} {vs : List Value} {ll : List (List Int)} (h : Els w vs ll) (hb : Below w.heap.size w w') : Els w' vs ll := h.mono fun _ _ h => h.below hb
/-- They stay while a list of texts is appended to. -/
theorem Els.app {w w' : World} {v v' : Value} {vs us xs : List Value} {ll : List (List Int)} (h : Els w us ll) (hv : Own w 24 v vs) (ha : App w 24 v w' v' xs) : Els w' us ll :=
  h.mono fun _ _ h => h.grown ha.grown (hv.apart h (by decide))
theorem bel_drewN {B : Nat} {a w : World} (h : Below B a w) (n : Nat) : Below B a (w.drewN n) := h.trans ⟨rfl, rfl, rfl, Nat.le_refl _, fun _ _ => rfl⟩
theorem Rd.drewN {w : World} {v : Value} {l : List Int} (h : Rd w v l) (n : Nat) : Rd (w.drewN n) v l := h
end
section
open Go.RowKit Oct Sha
theorem and31 (z : Int) (h0 : 0 ≤ z) (h1 : z < 18446744073709551616) : bits .and .u64 z 31 = z % 32 :=
  bits_mask .u64 64 (by decide) (fun n a b => by rw [IntKind.wrap_u64]; omega) 5 (by decide) z h0 h1
/-- A word turned left by a number under 0. -/
theorem rotl_any (w : World) (x : BitVec 32) (n : Nat) (h0 : 1 ≤ n) (h1 : n ≤ 31) :
    Calls Tryz.prog 200 #[.int .u32 (wi x), .int .i64 (-(n : Int))] w fun e w' => e = .returned (.int .u32 (wi (rotr x n))) ∧ w' = w := by
  obtain ⟨m, hm, hm0, hm1⟩ : ∃ m : Nat, m = 32 - n ∧ 1 ≤ m ∧ m ≤ 31 := ⟨32 - n, rfl, by omega, by omega⟩
  have hs : bits .and .u64 (IntKind.u64.wrap (-(n : Int))) 31 = (m : Int) := by
    have h : IntKind.u64.wrap (-(n : Int)) = 18446744073709551616 - (n : Int) := by rw [IntKind.wrap_u64]; omega
    rw [h, and31 _ (by omega) (by omega)]
    omega
  have hd : (32 : Int) - m = n := by omega
  rw [show rotr x n = (x <<< m) ||| (x >>> n) by rw [hm, rotr, BitVec.or_comm]]
  clear hm
  go_enter Tryz.func200, Tryz.ntmps200
  go_wp2_with fail
  go_ret
  exact ⟨ret_int (by rw [shl_wi, shr_wi, bits_or]), rfl⟩
theorem rotR_any (w : World) (x : BitVec 32) (n : Nat) (h0 : 1 ≤ n) (h1 : n ≤ 31) :
    Calls Tryz.prog 199 #[.int .u32 (wi x), .int .i64 (n : Int)] w fun e w' => e = .returned (.int .u32 (wi (rotr x n))) ∧ w' = w := by
  go_enter Tryz.func199, Tryz.ntmps199
  go_wp2_with fail
  refine (rotl_any _ x n h0 h1).mono ?_
  rintro e w' ⟨rfl, rfl⟩
  go_wp2_with fail
  go_ret
  exact ⟨rfl, rfl⟩
theorem turned_any (w : World) (x : BitVec 32) (i j k : Nat) (hi : 1 ≤ i ∧ i ≤ 31) (hj : 1 ≤ j ∧ j ≤ 31) (hk : 1 ≤ k ∧ k ≤ 31) :
    Calls Tryz.prog 198 #[.int .u32 (wi x), .int .i64 (i : Int), .int .i64 (j : Int), .int .i64 (k : Int)] w fun e w' => e = .returned (.int .u32 (wi (rotr x i ^^^ rotr x j ^^^ rotr x k))) ∧ w' = w := by
  go_enter Tryz.func198, Tryz.ntmps198
  go_wp2_with fail
  refine (rotR_any _ x i hi.1 hi.2).mono ?_
  rintro e w' ⟨rfl, rfl⟩
  go_wp2_with fail
  refine (rotR_any _ x j hj.1 hj.2).mono ?_
  rintro e w' ⟨rfl, rfl⟩
  go_wp2_with fail
  refine (rotR_any _ x k hk.1 hk.2).mono ?_
  rintro e w' ⟨rfl, rfl⟩
  go_wp2_with fail
  go_ret
  exact ⟨ret_int (by rw [bits_xor, bits_xor]), rfl⟩
theorem S1_any (w : World) (x : BitVec 32) :
    Calls Tryz.prog 198 #[.int .u32 (wi x), .int .i64 6, .int .i64 11, .int .i64 25] w fun e w' => e = .returned (.int .u32 (wi (S1 x))) ∧ w' = w :=
  turned_any w x 6 11 25 (by decide) (by decide) (by decide)
theorem S0_any (w : World) (x : BitVec 32) :
    Calls Tryz.prog 198 #[.int .u32 (wi x), .int .i64 2, .int .i64 13, .int .i64 22] w fun e w' => e = .returned (.int .u32 (wi (S0 x))) ∧ w' = w :=
  turned_any w x 2 13 22 (by decide) (by decide) (by decide)
theorem right_7 (w : World) (x : BitVec 32) : Calls Tryz.prog 199 #[.int .u32 (wi x), .int .i64 7] w fun e w' => e = .returned (.int .u32 (wi (rotr x 7))) ∧ w' = w := rotR_any w x 7 (by decide) (by decide)
theorem right_17 (w : World) (x : BitVec 32) : Calls Tryz.prog 199 #[.int .u32 (wi x), .int .i64 17] w fun e w' => e = .returned (.int .u32 (wi (rotr x 17))) ∧ w' = w := rotR_any w x 17 (by decide) (by decide)
theorem right_18 (w : World) (x : BitVec 32) : Calls Tryz.prog 199 #[.int .u32 (wi x), .int .i64 18] w fun e w' => e = .returned (.int .u32 (wi (rotr x 18))) ∧ w' = w := rotR_any w x 18 (by decide) (by decide)
theorem right_19 (w : World) (x : BitVec 32) : Calls Tryz.prog 199 #[.int .u32 (wi x), .int .i64 19] w fun e w' => e = .returned (.int .u32 (wi (rotr x 19))) ∧ w' = w := rotR_any w x 19 (by decide) (by decide)
theorem small0_any (w : World) (x : BitVec 32) : Calls Tryz.prog 197 #[.int .u32 (wi x)] w fun e w' => e = .returned (.int .u32 (wi (s0 x))) ∧ w' = w := by
  go_enter Tryz.func197, Tryz.ntmps197
  go_wp2_with fail
  refine (right_7 _ x).mono ?_
  rintro e w' ⟨rfl, rfl⟩
  go_wp2_with fail
  refine (right_18 _ x).mono ?_
  rintro e w' ⟨rfl, rfl⟩
  go_wp2_with fail
  go_ret
  exact ⟨ret_int (by rw [show (8 : Int) = 2 ^ 3 from rfl, shr_wi, bits_xor, bits_xor]; rfl), rfl⟩
theorem small1_any (w : World) (x : BitVec 32) : Calls Tryz.prog 196 #[.int .u32 (wi x)] w fun e w' => e = .returned (.int .u32 (wi (s1 x))) ∧ w' = w := by
  go_enter Tryz.func196, Tryz.ntmps196
  go_wp2_with fail
  refine (right_17 _ x).mono ?_
  rintro e w' ⟨rfl, rfl⟩
  go_wp2_with fail
  refine (right_19 _ x).mono ?_
  rintro e w' ⟨rfl, rfl⟩
  go_wp2_with fail
  go_ret
  exact ⟨ret_int (by rw [show (1024 : Int) = 2 ^ 10 from rfl, shr_wi, bits_xor, bits_xor]; rfl), rfl⟩
theorem turn_any (w : World) (x : BitVec 32) (n : Nat) (h0 : 1 ≤ n) (h1 : n ≤ 31) :
    Calls Tryz.prog 183 #[.int .u32 (wi x), .int .i64 (n : Int)] w fun e w' => e = .returned (.int .u32 (wi (rotr x n))) ∧ w' = w := by
  obtain ⟨m, hm, hm0, hm1⟩ : ∃ m : Nat, m = 32 - n ∧ 1 ≤ m ∧ m ≤ 31 := ⟨32 - n, rfl, by omega, by omega⟩
  have hd : (32 : Int) - n = m := by omega
  rw [show rotr x n = (x >>> n) ||| (x <<< m) by rw [hm, rotr]]
  clear hm
  go_enter Tryz.func183, Tryz.ntmps183
  go_wp2_with fail
  go_ret
  exact ⟨ret_int (by rw [shl_wi, shr_wi, bits_or]), rfl⟩
end
end Go.Proofs.YtgbfmccecnfooaaGreatDoor
