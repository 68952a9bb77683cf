/- catenarylaw12.WalCompacts: its walk. -/
import Derived.Test.YteafgdidjdfiiaaWAl
import Derived.Test.YteafgdidjdfiiaaWk
set_option linter.unusedVariables false
set_option linter.unusedSimpArgs false
namespace Go.Proofs.Yteafgdidjdfiiaa
open Go.RowKit Oct

theorem All2.rd_own {w : World} : ∀ {us : List Value} {L : List (List Int)}, Els w us L → Byts L → All2 (Rd w) us L
  | [], [], _, _ => trivial
  | c :: us, l :: L, h, hb => ⟨h.1.rd (hb l (by simp)), All2.rd_own h.2 (fun x hx => hb x (by simp [hx]))⟩
  | [], _ :: _, h, _ => h.elim
  | _ :: _, [], h, _ => h.elim
theorem rd_cells {w : World} : ∀ {us : List Value} {L : List (List Int)}, All2 (Rd w) us L → ∀ u ∈ us, u.oneCell' = true
  | [], _, _, u, hu => by cases hu
  | v :: vs, [], h, _, _ => h.elim
  | v :: vs, l :: ll, h, u, hu => by
    rcases List.mem_cons.1 hu with e | e
    · subst e
      obtain ⟨ao, cap, rfl, _⟩ := h.1.form
      rfl
    · exact rd_cells h.2 u e

set_option maxRecDepth 10000 in
set_option maxHeartbeats 4000000 in
theorem compactsW_any (w : World) (v0 v1 : Value) (l0 l1 : List (List Int)) (br : Bool) (h0 : Rdl w v0 l0) (h1 : Rdl w v1 l1) (z0 : tot l0 ≤ 1048576) (z1 : tot l1 ≤ 1048576) :
    Calls Try.prog 6 #[v0, v1, .bool br] w fun e w' => e = .returned (.bool true) ∧ Below w.heap.size w w' := by
  have le := Nat.le_refl w.heap.size
  have B0 := h0.byts
  have B1 := h1.byts
  obtain ⟨E0, hE0⟩ : ∃ E, E = v0 := ⟨_, rfl⟩
  obtain ⟨E1, hE1⟩ : ∃ E, E = v1 := ⟨_, rfl⟩
  have HR0 := (show Hid (∀ w', Below w.heap.size w w' → Rdl w' v0 l0) from fun w' hw => h0.below hw)
  have HR1 := (show Hid (∀ w', Below w.heap.size w w' → Rdl w' v1 l1) from fun w' hw => h1.below hw)
  have HZ := (show Hid (tot l0 ≤ 1048576 ∧ tot l1 ≤ 1048576) from ⟨z0, z1⟩)
  clear h0 h1 z0 z1 hE0 hE1
  go_enter Try.func6, Try.ntmps6
  go_upto_region 4 with (go_at_call 7; refine (walAlive_any w).mono ?_; rintro e w1 ⟨rfl, hb1⟩)
  obtain ⟨vs1, hvs1, hal1⟩ := HR1.out w1 hb1
  have hln1 := Nat.le_of_eq hal1.len
  have hln1' := len_tot l1
  have hC0 := copy_any w1 v0 l0 (HR0.out w1 hb1) (by have := HZ.out; omega)
  have HVS := (show Hid (∀ w', Below w1.heap.size w1 w' → Rdv w' v1 vs1 ∧ All2 (Rd w') vs1 l1) from fun w' hw => ⟨hvs1.below hw, hal1.mono fun _ _ h => h.below hw⟩)
  have HC0 := (show Hid (∀ _ : Unit, _) from fun _ => hC0)
  have HVO := (show Hid (∀ u ∈ vs1, u.oneCell' = true) from rd_cells hal1)
  have HLN := (show Hid (vs1.length ≤ 1048576) by show _ ≤ _; have := HZ.out; omega)
  clear hC0 hvs1 hal1 hln1 hln1'
  go_wp2_with (first
    | (go_at_call 20; refine (HC0.out ()).mono ?_; rintro e w2 ⟨o2, us2, rfl, ho2, he2, hf2, hb2⟩; have hul : us2.length ≤ 1048576 := (by have := (All2.len he2 : us2.length = _); have := len_tot l0; have := HZ.out; omega))
    | (at_builtin; refine app_list rfl _ _ rfl o2 us2 rfl ho2 v1 vs1 rfl (HVS.out w2 hb2).1 HVO.out (by have := HLN.out; omega) ?_; intro o3 w3 happ; obtain ⟨ao, co, eo, hco⟩ := happ.own.form; obtain ⟨M, hM⟩ : ∃ M, M = (us2 ++ vs1).length := ⟨_, rfl⟩; rw [← hM] at eo; have HM := (show Hid ((us2 ++ vs1).length = M) from hM.symm); clear hM; subst eo))
  have hB2 := below_and hb1 le hb2
  have hB3 : Below w.heap.size w w3 := hB2.trans (happ.below (hf2.mono hb1.size) hB2.size)
  have hR3 : Rdl w3 (.slice ao M co) (l0 ++ l1) := by
    have hb13 : Below w1.heap.size w1 w3 := hb2.trans (happ.below hf2 hb2.size)
    exact ⟨us2 ++ vs1, happ.own.rdv, All2.app (All2.rd_own (Els.app he2 ho2 happ) B0) (HVS.out w3 hb13).2⟩
  have hML : M = (l0 ++ l1).length := by
    obtain ⟨a', c', e, _, _⟩ := rdl_form hR3
    injection e
  obtain ⟨LL, hLL⟩ : ∃ LL, LL = l0 ++ l1 := ⟨_, rfl⟩
  rw [← hLL] at hR3 hML
  have HN := (show Hid (LL.length = M) from hML.symm)
  have HLL := (show Hid (LL = l0 ++ l1) from hLL)
  have hMb : (M : Int) ≤ 2097152 := by have := len_tot l0; have := len_tot l1; have := HZ.out; rw [hLL, List.length_append] at hML; omega
  have HT := (show Hid (∀ (k : Nat) (x : List Int), LL[k]? = some x → ∃ b off cap u, Value.slice ao M co = .slice (some ⟨b, off, none⟩) M cap ∧ M ≤ cap ∧ cap ≤ maxLen ∧ w3.cell? ⟨b, off + k, none⟩ = some u ∧ Rd w3 u x) from fun k x hx => by
    obtain ⟨b, off, cap, u, e, e1, e2, e3⟩ := rdl_at hR3 k x hx
    rw [← hML] at e e1
    exact ⟨b, off, cap, u, e, e1, e2, e3 w3 (Below.refl _ _)⟩)
  clear happ he2 ho2 hf2 hb2 hR3 hML hLL HM HVS HVO HLN hb1 hB2 hul hco HC0
  go_loopw [7, 25] (fun s i wr => ∃ k : Nat, k ≤ M ∧ i = .int .i64 k ∧ s = .int .i64 ((s5 (LL.take k)) : Int) ∧ s5 (LL.take k) ≤ 100005 ∧ wr = w3) (fun _ i _ => M - (intOf i).toNat)
  case atStart => exact ⟨0, by omega, rfl, rfl, by simp [s5], rfl⟩
  case round =>
    obtain ⟨k, hk, rfl, rfl, hs, hwr⟩ := hrel
    rw [hwr]
    clear hwr
    by_cases hkl : k < M
    · obtain ⟨x, hx⟩ : ∃ x, LL[k]? = some x := ⟨_, List.getElem?_eq_getElem (by have := HN.out; omega)⟩
      obtain ⟨tb, to, tc, u, et, ht1, ht2, hcu, hxr⟩ := HT.out k x hx
      injection et with et1 _ et3
      subst et1 et3
      have hki : (k : Int) < (M : Int) := by omega
      have hxlen := hxr.len
      obtain ⟨au, cu, hu, hcu2⟩ := hxr.form
      have hsn := s5_snoc hx
      obtain ⟨X, hX⟩ : ∃ X, X = x.length := ⟨_, rfl⟩
      obtain ⟨L, hL⟩ : ∃ L, L = s5 (LL.take k) := ⟨_, rfl⟩
      have HL' := (show Hid (s5 (LL.take (k + 1)) = L + X + 5) by show _ = _; rw [hsn, hX, hL])
      rw [← hX] at hu hxlen
      rw [← hL] at hs ⊢
      subst hu
      have hLb : (L : Int) ≤ 100005 := by omega
      clear hx hX hL hsn hcu2 hs hxr
      by_cases hfit : (100000 : Int) - L < X
      · go_wp2_with fail
        go_ret
        exact ⟨rfl, hB3⟩
      · have hfit' : decide ((100000 : Int) - L < X) = false := decide_eq_false hfit
        have hXb : (X : Int) ≤ 100000 := by omega
        clear hxlen
        go_wp2_with fail
        go_roundw
        case rel => exact ⟨k + 1, by omega, by go_num, by rw [HL'.out]; go_num, by rw [HL'.out]; omega, trivial⟩
        case measure => simp [intOf]; omega
    · have hki : decide ((k : Int) < (M : Int)) = false := by simp; omega
      obtain rfl : k = LL.length := by have := HN.out; omega
      rw [List.take_length] at hs ⊢
      have hsz : s5 l0 + s5 l1 ≤ 100005 := by rw [HLL.out, s5_app] at hs; exact hs
      have HS := (show Hid (tot l0 ≤ 100005 ∧ tot l1 ≤ 100005) from ⟨by have := s5_tot l0; omega, by have := s5_tot l1; omega⟩)
      have HP := (show Hid ((packL l0).length ≤ 4194304 ∧ (packL l1).length ≤ 4194304) from ⟨by have := packL_len l0; have := HS.out; omega, by have := packL_len l1; have := HS.out; omega⟩)
      clear hs hk hsz
      generalize s5 LL = TOT
      have hbk : w.heap.size ≤ w3.heap.size := hB3.size
      go_wp2_with fail
      refine (newD_any w3 4194304).mono ?_
      rintro e w4 ⟨b, rfl, hb, hd4, hb4⟩
      rw [nw_whD] at hd4
      have hB4 := below_and hB3 le hb4
      have hbw : w.heap.size ≤ b := Nat.le_trans hB3.size hb
      clear hB3 hb4 hb hbk
      go_wp2_with fail
      refine (openW_any w4 b _ _ hd4).mono ?_
      rintro e w5 ⟨v5, m5, o5, us5, rfl, hd5, hg5, hs5, hm5, _, ho5, he5, hf5, _⟩
      have e5 : opT (whD []) = (whD [], 0) := by kernel_rfl
      have e5' : opL (whD []) = [] := by kernel_rfl
      rw [e5] at hd5 hm5 ⊢
      rw [e5'] at he5
      obtain ⟨g, rfl, hgw, hr5⟩ := hm5 rfl
      obtain rfl := els_nil he5
      obtain ⟨a5, c5, rfl, _⟩ := ho5.form
      have hB5 : Below w.heap.size w w5 := hB4.trans (hg5.below hB4.size hbw (Fr.nil _))
      have hv5 : Fr w.heap.size v5 := hs5.fr (Fr.nil _) hB4.size
      have HC0 := (show Hid (∀ _ : Unit, _) from fun _ => copy_any w5 v0 l0 (HR0.out w5 hB5) (by have := HZ.out; omega))
      clear hm5 ho5 he5 hf5 hs5 hg5 hd4 e5 e5' hB4
      go_upto_region 17 with (first
        | (go_at_call 20; refine (HC0.out ()).mono ?_; rintro e w6 ⟨o6, us6, rfl, ho6, he6, hf6, hb6⟩; have hd6 := hd5.below hb6; have hr6 := hr5.below hb6)
        | (go_at_call 19; refine (compactW_any w6 g b _ o6 _ l0 hr6 hd6 (he6.rdl ho6 B0) (by have := HS.out; omega)).mono ?_; rintro e w7 ⟨v7, rfl, hd7, hg7, hs7⟩; rw [wh_re HP.out.1] at hd7; rw [wh_re HP.out.1]))
      have hB6 := below_and hB5 le hb6
      have hB7 : Below w.heap.size w w7 := hB6.trans (hg7.below hB6.size hbw hv5)
      have hv7 : Fr w.heap.size v7 := hs7.fr hv5 hB6.size
      have hr7 := hg7.lg hd6 hr6
      clear hd6 hr6 hg7 hs7 hB6 hb6 he6 ho6 hf6 hd5 hr5 hB5 hv5 HC0
      obtain ⟨f1, f2⟩ := op_whole B0 (by have := HS.out; omega)
      obtain ⟨g1, g2⟩ := op_whole B1 (by have := HS.out; omega)
      cases br with
      | true =>
        go_wp2_with fail
        refine (break_any w7 b _ _ 0 3 hd7 (by decide)).mono ?_
        rintro e w8 ⟨rfl, hd8, hg8⟩
        have hr8 := (Gr2.of (v := v7) hg8).lg hd7 hr7
        have hB8 : Below w.heap.size w w8 := hB7.trans (grown_below hg8 hB7.size (fun k hk => by cases hk; exact hbw))
        have hd8' : Dsk w8 b v7 (tkA (packL l0) 0 3) := hd8
        have HC1 := (show Hid (∀ _ : Unit, _) from fun _ => copy_any w8 v1 l1 (HR1.out w8 hB8) (by have := HZ.out; omega))
        clear hd8 hg8 hd7 hr7 hB7
        go_upto_region 20 with (first
          | (go_at_call 20; refine (HC1.out ()).mono ?_; rintro e w9 ⟨o9, us9, rfl, ho9, he9, hf9, hb9⟩; have hd9 := hd8'.below hb9; have hr9 := hr8.below hb9)
          | (go_at_call 19; refine (compactW_any w9 g b _ o9 _ l1 hr9 hd9 (he9.rdl ho9 B1) (by have := HS.out; omega)).mono ?_; rintro e w10 ⟨v10, rfl, hd10, hg10, hs10⟩; rw [tk_re HP.out.2] at hd10; rw [tk_re HP.out.2]))
        have hB9 := below_and hB8 le hb9
        have hB10 : Below w.heap.size w w10 := hB9.trans (hg10.below hB9.size hbw hv7)
        have hv10 : Fr w.heap.size v10 := hs10.fr hv7 hB9.size
        clear hd9 hr9 hg10 hs10 hB9 hb9 he9 ho9 hf9 hd8' hr8 hB8 hv7 HC1
        go_wp2_with fail
        refine (mend_any w10 b _ _ hd10).mono ?_
        rintro e w11 ⟨rfl, hd11, hg11⟩
        rw [me_tkB] at hd11
        have hB11 : Below w.heap.size w w11 := hB10.trans (grown_below hg11 hB10.size (fun k hk => by cases hk; exact hbw))
        clear hg11 hd10 hB10
        go_wp2_with fail
        refine (openW_any w11 b _ _ hd11).mono ?_
        rintro e w12 ⟨v12, m12, o12, us12, rfl, hd12, hg12, hs12, hm12, _, ho12, he12, hf12, _⟩
        rw [f1]
        rw [f2] at he12
        have hB12 : Below w.heap.size w w12 := hB11.trans (hg12.below hB11.size hbw hv10)
        have hSa := sameList_any w12 o12 v0 l0 l0 (he12.rdl ho12 B0) (HR0.out w12 hB12) (by have := len_tot l0; have := HS.out; omega)
        rw [decide_eq_true rfl] at hSa
        have HSa := (show Hid (∀ _ : Unit, _) from fun _ => hSa)
        clear hm12 ho12 he12 hf12 hs12 hg12 hd11 hSa f1 f2 g1 g2
        go_wp2_with (go_at_call 10; refine (HSa.out ()).mono ?_; rintro e w13 ⟨rfl, hb13⟩)
        go_ret
        exact ⟨rfl, below_and hB12 le hb13⟩
      | false =>
        have HC1 := (show Hid (∀ _ : Unit, _) from fun _ => copy_any w7 v1 l1 (HR1.out w7 hB7) (by have := HZ.out; omega))
        go_upto_region 20 with (first
          | (go_at_call 20; refine (HC1.out ()).mono ?_; rintro e w9 ⟨o9, us9, rfl, ho9, he9, hf9, hb9⟩; have hd9 := hd7.below hb9; have hr9 := hr7.below hb9)
          | (go_at_call 19; refine (compactW_any w9 g b _ o9 _ l1 hr9 hd9 (he9.rdl ho9 B1) (by have := HS.out; omega)).mono ?_; rintro e w10 ⟨v10, rfl, hd10, hg10, hs10⟩; rw [wh_re HP.out.2] at hd10; rw [wh_re HP.out.2]))
        have hB9 := below_and hB7 le hb9
        have hB10 : Below w.heap.size w w10 := hB9.trans (hg10.below hB9.size hbw hv7)
        have hv10 : Fr w.heap.size v10 := hs10.fr hv7 hB9.size
        clear hd9 hr9 hg10 hs10 hB9 hb9 he9 ho9 hf9 hd7 hr7 hB7 hv7 HC1
        go_wp2_with fail
        refine (mend_any w10 b _ _ hd10).mono ?_
        rintro e w11 ⟨rfl, hd11, hg11⟩
        rw [me_whD] at hd11
        have hB11 : Below w.heap.size w w11 := hB10.trans (grown_below hg11 hB10.size (fun k hk => by cases hk; exact hbw))
        clear hg11 hd10 hB10
        go_wp2_with fail
        refine (openW_any w11 b _ _ hd11).mono ?_
        rintro e w12 ⟨v12, m12, o12, us12, rfl, hd12, hg12, hs12, hm12, _, ho12, he12, hf12, _⟩
        rw [g1]
        rw [g2] at he12
        have hB12 : Below w.heap.size w w12 := hB11.trans (hg12.below hB11.size hbw hv10)
        have hSa := sameList_any w12 o12 v1 l1 l1 (he12.rdl ho12 B1) (HR1.out w12 hB12) (by have := len_tot l1; have := HS.out; omega)
        rw [decide_eq_true rfl] at hSa
        have HSa := (show Hid (∀ _ : Unit, _) from fun _ => hSa)
        clear hm12 ho12 he12 hf12 hs12 hg12 hd11 hSa f1 f2 g1 g2
        go_wp2_with (go_at_call 10; refine (HSa.out ()).mono ?_; rintro e w13 ⟨rfl, hb13⟩)
        go_ret
        exact ⟨rfl, below_and hB12 le hb13⟩
end Go.Proofs.Yteafgdidjdfiiaa
