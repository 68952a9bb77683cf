/- catenarylaw12.WalKeeps: its walk. Made by mk12k.py. -/
import Derived.Test.YteafgdidjdfiiaaWAl
import Derived.Test.YteafgdidjdfiiaaWk
set_option linter.unusedVariables false
set_option linter.unusedSimpArgs false
namespace Go.Proofs.Yteafgdidjdfiiaa
open Go.RowKit Oct

def more4 : List Int := [109, 111, 114, 101]
theorem els_at {w : World} {us : List Value} {L : List (List Int)} (h : Els w us L) (k : Nat) (l : List Int) (hl : L[k]? = some l) : ∃ c, us[k]? = some c ∧ Own w 5 c (bc l) := by
  have hlen : us.length = L.length := All2.len h
  have hk := (List.getElem?_eq_some_iff.1 hl).1
  have hc := List.getElem?_eq_getElem (show k < us.length by omega)
  exact ⟨_, hc, All2.get h hc hl⟩

set_option maxRecDepth 10000 in
set_option maxHeartbeats 4000000 in
theorem keepsW_any (w : World) (v0 : Value) (ll : List (List Int)) (a t : Int) (h0 : Rdl w v0 ll) (ha : a ≤ 9223372036854775807) :
    Calls Try.prog 5 #[v0, .int .i64 a, .int .i64 t] w fun e w' => e = .returned (.bool true) ∧ Below w.heap.size w w' := by
  have le := Nat.le_refl w.heap.size
  have hcv := run_cvtD
  obtain ⟨a0, c0, rfl, hNc, hc0⟩ := rdl_form h0
  obtain ⟨N, hN⟩ : ∃ N, N = ll.length := ⟨_, rfl⟩
  have HT := (show Hid (∀ (k : Nat) (x : List Int), ll[k]? = some x → ∃ b off cap u, Value.slice a0 N c0 = .slice (some ⟨b, off, none⟩) N cap ∧ N ≤ cap ∧ cap ≤ maxLen ∧ ∀ w', Below w.heap.size w w' → w'.cell? ⟨b, off + k, none⟩ = some u ∧ Rd w' u x) from fun k x hx => by
    obtain ⟨b, off, cap, u, e, e1, e2, e3⟩ := rdl_at h0 k x hx
    rw [← hN] at e e1
    exact ⟨b, off, cap, u, e, e1, e2, e3⟩)
  have HRD := (show Hid (∀ (G : Nat) (w' : World), Below w.heap.size w w' → G ≤ N → Rdl w' (.slice a0 G c0) (ll.take G)) from fun G w' hw hG => (rdl_take h0 G (by omega)).below hw)
  have HBY := (show Hid (Byts ll) from h0.byts)
  have hNm : (N : Int) ≤ 9223372036854775807 := by unfold maxLen at hc0; omega
  rw [← hN]
  rw [← hN] at hNc
  have HN := (show Hid (ll.length = N) from hN.symm)
  have HCUT := (show Hid (∀ G : Nat, G ≤ N → ∀ u : World, (Instr.slice 24 (.slice a0 N c0) none (some (.int .i64 (G : Int))) none).run Try.prog u = .ok (.slice a0 G c0) u) from fun G hG u => run_cutT a0 N c0 G hG hNc u)
  obtain ⟨A, hA⟩ : ∃ A : Nat, (A : Int) = max 0 a := ⟨(max 0 a).toNat, Int.toNat_of_nonneg (by omega)⟩
  have HA := (show Hid ((A : Int) = max 0 a) from hA)
  have hAm : (A : Int) ≤ 9223372036854775807 := by omega
  clear hN h0 hc0 hA hNc
  go_enter Try.func5, Try.ntmps5
  go_wp2_with (go_at_call 7; refine (walAlive_any w).mono ?_; rintro e w1 ⟨rfl, hb1⟩)
  go_loopw [7, 28] (fun s i wr => ∃ k : Nat, k ≤ N ∧ i = .int .i64 k ∧ s = .int .i64 ((s5 (ll.take k)) : Int) ∧ s5 (ll.take k) ≤ 100005 ∧ wr = w1) (fun _ i _ => N - (intOf i).toNat)
  case atStart => exact ⟨0, by omega, rfl, rfl, by simp [s5], rfl⟩
  case round =>
    obtain ⟨k, hk, rfl, rfl, hs, hwr⟩ := hrel
    rw [hwr]
    clear hwr
    by_cases hkl : k < N
    · obtain ⟨x, hx⟩ : ∃ x, ll[k]? = some x := ⟨_, List.getElem?_eq_getElem (by have := HN.out; omega)⟩
      obtain ⟨tb, to, tc, u, et, ht1, ht2, htx⟩ := HT.out k x hx
      injection et with et1 _ et3
      subst et1 et3
      have hki : (k : Int) < (N : Int) := by omega
      have hcu := (htx w1 hb1).1
      have hxlen := (htx w1 hb1).2.len
      obtain ⟨au, cu, hu, hcu2⟩ := (htx w1 hb1).2.form
      have hsn := s5_snoc hx
      obtain ⟨X, hX⟩ : ∃ X, X = x.length := ⟨_, rfl⟩
      obtain ⟨L, hL⟩ : ∃ L, L = s5 (ll.take k) := ⟨_, rfl⟩
      have HL' := (show Hid (s5 (ll.take (k + 1)) = L + X + 5) by show _ = _; rw [hsn, hX, hL])
      rw [← hX] at hu hxlen
      rw [← hL] at hs ⊢
      subst hu
      have hLb : (L : Int) ≤ 100005 := by omega
      clear hx htx hX hL hsn hcu2 hs
      by_cases hfit : (100000 : Int) - L < X
      · go_wp2_with fail
        go_ret
        exact ⟨rfl, hb1⟩
      · have hfit' : decide ((100000 : Int) - L < X) = false := decide_eq_false hfit
        have hXb : (X : Int) ≤ 100000 := by omega
        clear hxlen
        go_wp2_with fail
        go_roundw
        case rel => exact ⟨k + 1, by omega, by go_num, by rw [HL'.out]; go_num, by rw [HL'.out]; omega, trivial⟩
        case measure => simp [intOf]; omega
    · have hki : decide ((k : Int) < (N : Int)) = false := by simp; omega
      obtain rfl : k = ll.length := by have := HN.out; omega
      rw [List.take_length] at hs ⊢
      have HS := (show Hid (tot ll ≤ 100005) from Nat.le_trans (s5_tot ll) hs)
      have hNb : (N : Int) ≤ 100005 := by have := HS.out; have := len_tot ll; have := HN.out; omega
      have HPL := (show Hid (∀ k, (packL (ll.take k)).length ≤ 1000050) from fun k => by have := packL_len (ll.take k); have := tot_take ll k; have := HS.out; omega)
      clear hs hk
      generalize s5 ll = TOT
      go_wp2_with fail
      refine (newD_any w1 4194304).mono ?_
      rintro e w2 ⟨b, rfl, hb, hd2, hb2⟩
      rw [nw_whD] at hd2
      have hB2 := below_and hb1 le hb2
      have hbw : w.heap.size ≤ b := Nat.le_trans hb1.size hb
      go_wp2_with fail
      refine (openW_any w2 b _ _ hd2).mono ?_
      rintro e w3 ⟨v3, m3, o3, us3, rfl, hd3, hg3, hs3, hm3, _, ho3, he3, hf3, _⟩
      have e3 : opT (whD []) = (whD [], 0) := by kernel_rfl
      have e3' : opL (whD []) = [] := by kernel_rfl
      rw [e3] at hd3 hm3 ⊢
      rw [e3'] at he3
      obtain ⟨g, rfl, hgw, hr3⟩ := hm3 rfl
      obtain rfl := els_nil he3
      obtain ⟨a3, c3, rfl, _⟩ := ho3.form
      have hB3 : Below w.heap.size w w3 := hB2.trans (hg3.below hB2.size hbw (Fr.nil _))
      have hv3 : Fr w.heap.size v3 := hs3.fr (Fr.nil _) hB2.size
      clear hm3 ho3 he3 hf3 hs3 hg3 hd2 e3 e3' hb2 hB2 hb
      go_wp2_with fail
      refine (break_any w3 b _ _ a t hd3 ha).mono ?_
      rintro e w4 ⟨rfl, hd4, hg4⟩
      have hr4 := (Gr2.of (v := v3) hg4).lg hd3 hr3
      have hB4 : Below w.heap.size w w4 := hB3.trans (grown_below hg4 hB3.size (fun k hk => by cases hk; exact hbw))
      have hd4' : Dsk w4 b v3 (tkA (packL (ll.take 0)) ((A : Int) - (0 : Nat)) t) := by
        have e : tkA (packL (ll.take 0)) ((A : Int) - (0 : Nat)) t = bkD (whD []) a t := by
          unfold tkA bkD whD
          rw [← HA.out]
          simp [packL]
        rw [e]
        exact hd4
      clear hd4 hg4 hd3 hr3 hB3
      go_wp2_with fail
      go_loopw [14, 64] (fun s14 i wr => ∃ (k : Nat) (vd : Value), k ≤ N ∧ i = .int .i64 k ∧ s14 = .int .i64 k ∧ k ≤ A ∧ Dsk wr b vd (tkA (packL (ll.take k)) ((A : Int) - k) t) ∧ Row wr g 72 (lgc b) ∧ Fr w.heap.size vd ∧ Below w.heap.size w wr) (fun _ i _ => N - (intOf i).toNat)
      case atStart => exact ⟨0, v3, by omega, rfl, rfl, by omega, hd4', hr4, hv3, hB4⟩
      case round =>
        clear hd4' hr4 hv3 hB4
        obtain ⟨k, vd, hk, rfl, rfl, hkA, hd, hr, hv, hB⟩ := hrel
        by_cases hkl : k < N
        · obtain ⟨x, hx⟩ : ∃ x, ll[k]? = some x := ⟨_, List.getElem?_eq_getElem (by have := HN.out; omega)⟩
          obtain ⟨tb, to, tc, u, et, ht1, ht2, htx⟩ := HT.out k x hx
          injection et with et1 _ et3
          subst et1 et3
          have hki : (k : Int) < (N : Int) := by omega
          have hcu := (htx wr hB).1
          have hxr := (htx wr hB).2
          have hsn := packL_frm (ll.take k) x
          rw [← take_snoc' ll k x hx] at hsn
          have hxb : (packL (ll.take k)).length + (frm x).length ≤ 1000050 := by have := HPL.out (k + 1); rw [hsn, List.length_append] at this; exact this
          have hxl : x.length ≤ 100005 := by have := mem_tot (List.mem_of_getElem? hx); have := HS.out; omega
          have HSN := (show Hid (packL (ll.take (k + 1)) = packL (ll.take k) ++ frm x) from hsn)
          have HXX := (show Hid (ll[k]? = some x) from hx)
          have HXB := (show Hid ((packL (ll.take k)).length + (frm x).length ≤ 1000050) from hxb)
          have HXL := (show Hid (x.length ≤ 100005) from hxl)
          obtain ⟨au, cu, hu, hcu2⟩ := hxr.form
          clear hx htx hsn hxb hxl
          obtain ⟨X, hX⟩ : ∃ X, X = x.length := ⟨_, rfl⟩
          rw [← hX] at hu
          clear hX hcu2
          subst hu
          by_cases hkA' : k < A
          · have hpos : (0 : Int) < (A : Int) - k := by omega
            go_wp2_with (first
              | (at_builtin; refine app_copy rfl _ _ rfl rfl _ x rfl hxr (by have := HXL.out; omega) ?_; intro o4 w4 hown4 hfr4 hb4; have hd4 := hd.below hb4; have hr4 := hr.below hb4)
              | (go_at_call 17; refine (addW_any w4 g b _ o4 _ x hr4 hd4 (hown4.rd hxr.1) (by have := HXL.out; omega)).mono ?_; rintro e w5 ⟨v5, rfl, hd5, hg5, hs5⟩; rw [tk_tick (by have := HXB.out; omega) hpos, ← HSN.out] at hd5; rw [tk_tick (by have := HXB.out; omega) hpos]))
            have hB4 := below_and hB le hb4
            have hB5 : Below w.heap.size w w5 := hB4.trans (hg5.below hB4.size hbw hv)
            have hv5 : Fr w.heap.size v5 := hs5.fr hv hB4.size
            have hr5 := hg5.lg hd4 hr4
            go_roundw
            case rel => exact ⟨k + 1, v5, by omega, by go_num, by go_num, by omega, by rw [show (A : Int) - ((k + 1 : Nat) : Int) = (A : Int) - k - 1 by omega]; exact hd5, hr5, hv5, hB5⟩
            case measure => simp [intOf]; omega
          · obtain rfl : k = A := by omega
            rw [show ((k : Int) - (k : Int)) = 0 by omega] at hd
            go_upto_region 25 with (first
              | (at_builtin; refine app_copy rfl _ _ rfl rfl _ x rfl hxr (by have := HXL.out; omega) ?_; intro o4 w4 hown4 hfr4 hb4; have hd4 := hd.below hb4; have hr4 := hr.below hb4)
              | (go_at_call 17; refine (addW_any w4 g b _ o4 _ x hr4 hd4 (hown4.rd hxr.1) (by have := HXL.out; omega)).mono ?_; rintro e w5 ⟨v5, rfl, hd5, hg5, hs5⟩; rw [tk_tear (by have := HXB.out; omega)] at hd5; rw [tk_tear (by have := HXB.out; omega)]))
            have hB4 := below_and hB le hb4
            have hB5 : Below w.heap.size w w5 := hB4.trans (hg5.below hB4.size hbw hv)
            have hv5 : Fr w.heap.size v5 := hs5.fr hv hB4.size
            have hr5 := hg5.lg hd4 hr4
            have HK5 := (show Hid (Kps ll k _) from kps_torn HBY.out (by have := HS.out; omega) HXX.out t)
            obtain ⟨D, hD⟩ : ∃ D, D = tkB (packL (ll.take k) ++ (frm x).take (wit t (frm x).length).toNat) := ⟨_, rfl⟩
            rw [← hD] at hd5 HK5
            clear hD hd4 hr4 hB4 hown4 hfr4 hb4 hg5 hs5 hd hr hv hB hcu hxr HXB HXL HXX HSN hkA' hkl
            try go_simp
            go_wp2_with fail
            go_loopw [11, 14, 17] (fun s11 s14 s17 wr => ∃ (g T j : Nat) (vd : Value) (d : PDk), s11 = .pointer (some ⟨g, 0, none⟩) ∧ s14 = .int .i64 T ∧ s17 = .int .i64 j ∧ j ≤ 3 ∧ Row wr g 72 (lgc b) ∧ Dsk wr b vd d ∧ Fr w.heap.size vd ∧ Below w.heap.size w wr ∧ Hid (Kps ll T d) ∧ Hid (0 < j → d = whD (packL (ll.take T)))) (fun _ _ i _ => 3 - (intOf i).toNat)
            case atStart => exact ⟨g, k, 0, _, _, rfl, rfl, rfl, by omega, hr5, hd5, hv5, hB5, HK5, (show Hid (0 < 0 → _) from fun h => absurd h (Nat.lt_irrefl _))⟩
            case round =>
              clear hr5 hd5 hv5 hB5 HK5
              obtain ⟨g, T, j, vd, d, rfl, rfl, rfl, hj, hr, hd, hv, hB, HK, HW⟩ := hrel
              obtain ⟨G, hG1, hG2, hG3, hG4, hG5⟩ := HK.out
              have HGN := (show Hid (G ≤ N) by show _ ≤ _; have := HN.out; omega)
              have hTb : (T : Int) ≤ 100005 := by have := HN.out; omega
              have hGb : (G : Int) ≤ 100005 := by have := HN.out; omega
              by_cases hj3 : j < 3
              · have hji : (j : Int) < 3 := by omega
                have q1 : decide ((G : Int) < (T : Int)) = false := by simp; omega
                have q2 : decide ((T : Int) + 1 < (G : Int)) = false := by simp; omega
                have q3 : decide ((N : Int) < (G : Int)) = false := by have := HN.out; simp; omega
                have HGL := (show Hid ((ll.take G).length = G) by show _ = _; rw [List.length_take]; omega)
                have hcut := HCUT.out G HGN.out
                have hG3' : G ≤ N := HGN.out
                have q1' : (T : Int) ≤ (G : Int) := by omega
                have q2' : (G : Int) ≤ (T : Int) + 1 := by omega
                have q3' : (G : Int) ≤ (N : Int) := by omega
                clear HK HW hG3
                go_upto_region 29 with (go_at_call 24; refine (mend_any wr b _ _ hd).mono ?_; rintro e w6 ⟨rfl, hd6, hg6⟩)
                have hB6 : Below w.heap.size w w6 := hB.trans (grown_below hg6 hB.size (fun k hk => by cases hk; exact hbw))
                clear hg6 hd hr
                go_upto_region 30 with (go_at_call 15; refine (openW_any w6 b _ _ hd6).mono ?_; rintro e w7 ⟨v7, m7, o7, us7, rfl, hd7, hg7, hs7, hm7, _, ho7, he7, hf7, _⟩; rw [hG4] at hd7 hm7 ⊢; rw [hG5] at he7; obtain ⟨g7, rfl, _, hr7⟩ := hm7 rfl; have hul := (All2.len he7 : us7.length = _); rw [HGL.out] at hul; obtain ⟨a7, c7, e7, _⟩ := ho7.form; rw [hul] at e7; subst e7)
                have hB7 : Below w.heap.size w w7 := hB6.trans (hg7.below hB6.size hbw hv)
                have hv7 : Fr w.heap.size v7 := hs7.fr hv hB6.size
                have hSa := sameList_any w7 _ _ (ll.take G) (ll.take G) (he7.rdl ho7 (byts_take HBY.out G)) (HRD.out G w7 hB7 HGN.out) (by rw [HGL.out]; omega)
                rw [decide_eq_true rfl] at hSa
                have HSa := (show Hid (∀ _ : Unit, _) from fun _ => hSa)
                have HKG := (show Hid (Kps ll G (whD (packL (ll.take G)))) from kps_whole HBY.out (by have := HS.out; omega) (by have := HN.out; have := HGN.out; omega) rfl)
                clear hSa hm7 hul ho7 he7 hf7 hs7 hg7 hd6 hB6 hG4 hG5 hv
                go_upto_region 32 with (go_at_call 10; refine (HSa.out ()).mono ?_; rintro e w8 ⟨rfl, hb8⟩)
                have hd8 := hd7.below hb8
                have hr8 := hr7.below hb8
                have hB8 := below_and hB7 le hb8
                go_wp2_with fail
                go_roundw
                case rel => exact ⟨g7, G, j + 1, _, _, rfl, rfl, by go_num, by omega, hr8, hd8, hv7, hB8, HKG, (show Hid (0 < j + 1 → _) from fun _ => rfl)⟩
                case measure => simp [intOf]; omega
              · have hji : decide ((j : Int) < 3) = false := by simp; omega
                have hdw := HW.out (by omega)
                subst hdw
                have HTN := (show Hid (T ≤ N) by show _ ≤ _; have := HN.out; omega)
                have hbm : Byt more4 := byt_ofD (by decide)
                have hTL : (ll.take T).length = T := by rw [List.length_take]; have := HN.out; have := HTN.out; omega
                have e9 : apD (whD (packL (ll.take T))) (frm more4) = (whD (packL (ll.take T ++ [more4])), 0) := by
                  rw [packL_frm]
                  refine wh_ap ?_
                  have h1 := HPL.out T
                  have h2 : (frm more4).length = 5 := by kernel_rfl
                  omega
                have hbb : Byts (ll.take T ++ [more4]) := fun x hx => by
                  rcases List.mem_append.1 hx with h | h
                  · exact byts_take HBY.out T x h
                  · rw [List.mem_singleton.1 h]; exact hbm
                obtain ⟨f1, f2⟩ := op_whole hbb (by rw [tot_app]; have := tot_take ll T; have := HS.out; simp only [tot, more4, List.length_cons, List.length_nil]; omega)
                have HLT := (show Hid ((ll.take T ++ [more4]).length = T + 1 ∧ (ll.take T ++ [more4])[T]? = some more4) from ⟨by rw [List.length_append, hTL]; rfl, by rw [List.getElem?_append_right (by omega), hTL]; simp⟩)
                clear HK HW hG1 hG2 hG3 hG4 hG5 HGN hGb hj hj3 hTL hbb hbm
                go_wp2_with fail
                refine (add_lit wr g b _ _ [109, 111, 114, 101] (4, 5) (byt_ofD (by decide)) (by decide) (by decide) hr hd).mono ?_
                rintro e w6 ⟨v6, rfl, hd6, hg6, hs6⟩
                rw [show ([109, 111, 114, 101] : List Int) = more4 from rfl, e9] at hd6 ⊢
                have hB6 : Below w.heap.size w w6 := hB.trans (hg6.below hB.size hbw hv)
                have hv6 : Fr w.heap.size v6 := hs6.fr hv hB.size
                clear hg6 hs6 hd hr e9
                go_wp2_with fail
                refine (openW_any w6 b _ _ hd6).mono ?_
                rintro e w7 ⟨v7, m7, o7, us7, rfl, hd7, hg7, hs7, hm7, _, ho7, he7, hf7, _⟩
                rw [f1] at hd7 ⊢
                rw [f2] at he7
                have hB7 : Below w.heap.size w w7 := hB6.trans (hg7.below hB6.size hbw hv6)
                obtain ⟨c7, hc7, hoc⟩ := els_at he7 T more4 HLT.out.2
                have hul := (All2.len he7 : us7.length = _)
                rw [HLT.out.1] at hul
                obtain ⟨bb, off, cap, e7, hq1, hq2, _, hcell⟩ := ho7.rdv.at (by omega)
                rw [hul] at e7 hq1
                have hcell0 := hcell T c7 hc7
                have hs := run_str (hoc.rd (byt_ofD (by decide)))
                have he : strOfNums more4 = ⟨#[109, 111, 114, 101]⟩ := by kernel_rfl
                rw [he] at hs
                have hcp : T + 1 ≤ cap := hq1
                clear hm7 ho7 he7 hf7 hs7 hg7 hd6 f1 f2 hcell hul hc7 hq1 he
                subst e7
                have hlt : (T : Int) < ((T + 1 : Nat) : Int) := by omega
                have heq : (((T + 1 : Nat) : Int) == (T : Int) + 1) = true := by simp
                go_wp2_with fail
                go_ret
                exact ⟨rfl, hB7⟩
        · have hki : decide ((k : Int) < (N : Int)) = false := by simp; omega
          have hkN : k = ll.length := by have := HN.out; omega
          have HK5 := (show Hid (Kps ll k (tkA (packL (ll.take k)) ((A : Int) - k) t)) from kps_whole HBY.out (by have := HS.out; omega) (by omega) rfl)
          have hd5 := hd
          have hr5 := hr
          have hv5 := hv
          have hB5 := hB
          obtain ⟨D, hD⟩ : ∃ D, D = tkA (packL (ll.take k)) ((A : Int) - k) t := ⟨_, rfl⟩
          rw [← hD] at hd5 HK5
          clear hD hkN hd hr hv hB
          try go_simp
          go_wp2_with fail
          go_loopw [11, 14, 17] (fun s11 s14 s17 wr => ∃ (g T j : Nat) (vd : Value) (d : PDk), s11 = .pointer (some ⟨g, 0, none⟩) ∧ s14 = .int .i64 T ∧ s17 = .int .i64 j ∧ j ≤ 3 ∧ Row wr g 72 (lgc b) ∧ Dsk wr b vd d ∧ Fr w.heap.size vd ∧ Below w.heap.size w wr ∧ Hid (Kps ll T d) ∧ Hid (0 < j → d = whD (packL (ll.take T)))) (fun _ _ i _ => 3 - (intOf i).toNat)
          case atStart => exact ⟨g, k, 0, _, _, rfl, rfl, rfl, by omega, hr5, hd5, hv5, hB5, HK5, (show Hid (0 < 0 → _) from fun h => absurd h (Nat.lt_irrefl _))⟩
          case round =>
            clear hr5 hd5 hv5 hB5 HK5
            obtain ⟨g, T, j, vd, d, rfl, rfl, rfl, hj, hr, hd, hv, hB, HK, HW⟩ := hrel
            obtain ⟨G, hG1, hG2, hG3, hG4, hG5⟩ := HK.out
            have HGN := (show Hid (G ≤ N) by show _ ≤ _; have := HN.out; omega)
            have hTb : (T : Int) ≤ 100005 := by have := HN.out; omega
            have hGb : (G : Int) ≤ 100005 := by have := HN.out; omega
            by_cases hj3 : j < 3
            · have hji : (j : Int) < 3 := by omega
              have q1 : decide ((G : Int) < (T : Int)) = false := by simp; omega
              have q2 : decide ((T : Int) + 1 < (G : Int)) = false := by simp; omega
              have q3 : decide ((N : Int) < (G : Int)) = false := by have := HN.out; simp; omega
              have HGL := (show Hid ((ll.take G).length = G) by show _ = _; rw [List.length_take]; omega)
              have hcut := HCUT.out G HGN.out
              have hG3' : G ≤ N := HGN.out
              have q1' : (T : Int) ≤ (G : Int) := by omega
              have q2' : (G : Int) ≤ (T : Int) + 1 := by omega
              have q3' : (G : Int) ≤ (N : Int) := by omega
              clear HK HW hG3
              go_upto_region 29 with (go_at_call 24; refine (mend_any wr b _ _ hd).mono ?_; rintro e w6 ⟨rfl, hd6, hg6⟩)
              have hB6 : Below w.heap.size w w6 := hB.trans (grown_below hg6 hB.size (fun k hk => by cases hk; exact hbw))
              clear hg6 hd hr
              go_upto_region 30 with (go_at_call 15; refine (openW_any w6 b _ _ hd6).mono ?_; rintro e w7 ⟨v7, m7, o7, us7, rfl, hd7, hg7, hs7, hm7, _, ho7, he7, hf7, _⟩; rw [hG4] at hd7 hm7 ⊢; rw [hG5] at he7; obtain ⟨g7, rfl, _, hr7⟩ := hm7 rfl; have hul := (All2.len he7 : us7.length = _); rw [HGL.out] at hul; obtain ⟨a7, c7, e7, _⟩ := ho7.form; rw [hul] at e7; subst e7)
              have hB7 : Below w.heap.size w w7 := hB6.trans (hg7.below hB6.size hbw hv)
              have hv7 : Fr w.heap.size v7 := hs7.fr hv hB6.size
              have hSa := sameList_any w7 _ _ (ll.take G) (ll.take G) (he7.rdl ho7 (byts_take HBY.out G)) (HRD.out G w7 hB7 HGN.out) (by rw [HGL.out]; omega)
              rw [decide_eq_true rfl] at hSa
              have HSa := (show Hid (∀ _ : Unit, _) from fun _ => hSa)
              have HKG := (show Hid (Kps ll G (whD (packL (ll.take G)))) from kps_whole HBY.out (by have := HS.out; omega) (by have := HN.out; have := HGN.out; omega) rfl)
              clear hSa hm7 hul ho7 he7 hf7 hs7 hg7 hd6 hB6 hG4 hG5 hv
              go_upto_region 32 with (go_at_call 10; refine (HSa.out ()).mono ?_; rintro e w8 ⟨rfl, hb8⟩)
              have hd8 := hd7.below hb8
              have hr8 := hr7.below hb8
              have hB8 := below_and hB7 le hb8
              go_wp2_with fail
              go_roundw
              case rel => exact ⟨g7, G, j + 1, _, _, rfl, rfl, by go_num, by omega, hr8, hd8, hv7, hB8, HKG, (show Hid (0 < j + 1 → _) from fun _ => rfl)⟩
              case measure => simp [intOf]; omega
            · have hji : decide ((j : Int) < 3) = false := by simp; omega
              have hdw := HW.out (by omega)
              subst hdw
              have HTN := (show Hid (T ≤ N) by show _ ≤ _; have := HN.out; omega)
              have hbm : Byt more4 := byt_ofD (by decide)
              have hTL : (ll.take T).length = T := by rw [List.length_take]; have := HN.out; have := HTN.out; omega
              have e9 : apD (whD (packL (ll.take T))) (frm more4) = (whD (packL (ll.take T ++ [more4])), 0) := by
                rw [packL_frm]
                refine wh_ap ?_
                have h1 := HPL.out T
                have h2 : (frm more4).length = 5 := by kernel_rfl
                omega
              have hbb : Byts (ll.take T ++ [more4]) := fun x hx => by
                rcases List.mem_append.1 hx with h | h
                · exact byts_take HBY.out T x h
                · rw [List.mem_singleton.1 h]; exact hbm
              obtain ⟨f1, f2⟩ := op_whole hbb (by rw [tot_app]; have := tot_take ll T; have := HS.out; simp only [tot, more4, List.length_cons, List.length_nil]; omega)
              have HLT := (show Hid ((ll.take T ++ [more4]).length = T + 1 ∧ (ll.take T ++ [more4])[T]? = some more4) from ⟨by rw [List.length_append, hTL]; rfl, by rw [List.getElem?_append_right (by omega), hTL]; simp⟩)
              clear HK HW hG1 hG2 hG3 hG4 hG5 HGN hGb hj hj3 hTL hbb hbm
              go_wp2_with fail
              refine (add_lit wr g b _ _ [109, 111, 114, 101] (4, 5) (byt_ofD (by decide)) (by decide) (by decide) hr hd).mono ?_
              rintro e w6 ⟨v6, rfl, hd6, hg6, hs6⟩
              rw [show ([109, 111, 114, 101] : List Int) = more4 from rfl, e9] at hd6 ⊢
              have hB6 : Below w.heap.size w w6 := hB.trans (hg6.below hB.size hbw hv)
              have hv6 : Fr w.heap.size v6 := hs6.fr hv hB.size
              clear hg6 hs6 hd hr e9
              go_wp2_with fail
              refine (openW_any w6 b _ _ hd6).mono ?_
              rintro e w7 ⟨v7, m7, o7, us7, rfl, hd7, hg7, hs7, hm7, _, ho7, he7, hf7, _⟩
              rw [f1] at hd7 ⊢
              rw [f2] at he7
              have hB7 : Below w.heap.size w w7 := hB6.trans (hg7.below hB6.size hbw hv6)
              obtain ⟨c7, hc7, hoc⟩ := els_at he7 T more4 HLT.out.2
              have hul := (All2.len he7 : us7.length = _)
              rw [HLT.out.1] at hul
              obtain ⟨bb, off, cap, e7, hq1, hq2, _, hcell⟩ := ho7.rdv.at (by omega)
              rw [hul] at e7 hq1
              have hcell0 := hcell T c7 hc7
              have hs := run_str (hoc.rd (byt_ofD (by decide)))
              have he : strOfNums more4 = ⟨#[109, 111, 114, 101]⟩ := by kernel_rfl
              rw [he] at hs
              have hcp : T + 1 ≤ cap := hq1
              clear hm7 ho7 he7 hf7 hs7 hg7 hd6 f1 f2 hcell hul hc7 hq1 he
              subst e7
              have hlt : (T : Int) < ((T + 1 : Nat) : Int) := by omega
              have heq : (((T + 1 : Nat) : Int) == (T : Int) + 1) = true := by simp
              go_wp2_with fail
              go_ret
              exact ⟨rfl, hB7⟩
end Go.Proofs.Yteafgdidjdfiiaa
