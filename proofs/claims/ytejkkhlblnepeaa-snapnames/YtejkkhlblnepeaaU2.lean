/- snap.Encode. (Made by mk10.py.) -/
import Derived.Test.YtejkkhlblnepeaaU1
set_option linter.unusedVariables false
set_option linter.unusedSimpArgs false
namespace Go.Proofs.Ytejkkhlblnepeaa
open Go.RowKit Oct Kvl

theorem RL.each {α : Type} {R : (Nat → Prop) → World → List Value → α → Prop} (hR : Mov R) {k : Nat} {w : World} {v : Value} {ys : List α} (h : RL R k Any w v ys) : ∀ (q : Nat) (y : α), ys[q]? = some y →
    ∃ bb off cap, v = .slice (some ⟨bb, off, none⟩) ys.length cap ∧ cap ≤ maxLen ∧ ys.length ≤ cap ∧ ∃ r, R Any w r y ∧ ∀ u, Below w.heap.size w u → u.rangeAt bb (off + q * k) r ∧ R Any u r y := fun q y hy => by
  have hl : 0 < ys.length := by have := (List.getElem?_eq_some_iff.1 hy).1; omega
  obtain ⟨bb, off, cap, e, hc, hm, _, hb, hx'⟩ := h.at hl
  obtain ⟨r, _, hr, hR'⟩ := hx' q y hy
  exact ⟨bb, off, cap, e, hm, hc, r, hR', fun u hu => ⟨rangeAt_block hr (hu.block bb hb), hR _ _ _ _ _ _ hR' hu.size (Mv.below hu)⟩⟩
theorem RApp.wfA {w : World} {G : Nat → Prop} {r : List Value} {a : PApp} (h : RApp G w r a) : Kvl.wfA a := by
  refine ⟨fun e he => ?_, h.wf⟩
  obtain ⟨_, _, _, _, _, h2, _⟩ := h
  obtain ⟨rows, _, hall⟩ := h2
  obtain ⟨i, hi, rfl⟩ := List.getElem_of_mem he
  have hl := hall.len
  obtain ⟨_, p, q, _, _, h3⟩ := hall.get (List.getElem?_eq_getElem (by omega : i < rows.length)) (List.getElem?_eq_getElem hi)
  exact ⟨p, q, h3⟩
theorem OB.ltB {B b : Nat} {w : World} {l : List Int} (h : OB B b w l) : b < w.heap.size := by
  obtain ⟨v, h1, _⟩ := h
  exact h1.lt
theorem OB.sizeB {B b : Nat} {w : World} {l : List Int} (h : OB B b w l) : B ≤ w.heap.size := by
  obtain ⟨v, _, _, _, _, h1⟩ := h
  exact h1
theorem Row.belB {w w' : World} {B k : Nat} {t : TypeId} {xs : List Value} (h : Row w k t xs) (hb : Below B w w') (hk : k < B) : Row w' k t xs := (hb.block k hk).trans h
theorem takeLen {α : Type} {l : List α} {q K N : Nat} {c : Cdc α} (L : List Int) (hL : L.length ≤ N) (hK : ∀ e ∈ l, (c.wr e).length ≤ K) (hl : l.length ≤ 64) (hN : N + 64 * K ≤ 900000) : (L ++ wrN c (l.take q)).length ≤ 900000 := by
  have h1 := wrN_len (l.take q) (fun e he => hK e (List.mem_of_mem_take he))
  have h2 : (l.take q).length ≤ 64 := by rw [List.length_take]; omega
  have h3 : (l.take q).length * K ≤ 64 * K := Nat.mul_le_mul_right _ h2
  rw [List.length_append]
  omega

set_option maxRecDepth 10000 in
set_option maxHeartbeats 8000000 in
/-- snap.Encode. -/
theorem snapEncode_any (w : World) (row : List Value) (a : PApp) (h : RApp Any w row a) :
    Calls Try.prog 8 #[.agg row.toArray] w fun e w' => ∃ v, e = .returned (.tuple #[v, .int .i64 (snE a)]) ∧ Own w' 5 v (bc (snB a)) ∧ Fr w.heap.size v ∧ Below w.heap.size w w' := by
  have le := Nat.le_refl w.heap.size
  have hall := h
  have hwf := h.wfA
  obtain ⟨ve, vl, vs, rfl, h1, h2, h3⟩ := h
  obtain ⟨ae, ce, rfl, hce⟩ := h1.form
  obtain ⟨al, cl, rfl, hcl⟩ := h2.form
  obtain ⟨an, cn, rfl, hcn⟩ := h3.form
  obtain ⟨w0, hw0⟩ : ∃ w0, w0 = w.alloc (.cells #[.int .i64 a.1, .slice ae a.2.1.length ce, .slice al a.2.2.1.length cl, .slice an a.2.2.2.length cn] 27) := ⟨_, rfl⟩
  have xa : Row w0 w.heap.size 27 [.int .i64 a.1, .slice ae a.2.1.length ce, .slice al a.2.2.1.length cl, .slice an a.2.2.2.length cn] := by rw [hw0]; exact Row.new w 27 _
  have B0 : Below w.heap.size w w0 := by rw [hw0]; exact below_alloc _ _
  have hR := rightA_any w0 _ a (hall.below B0)
  have hmf : ∀ (fn : Fn) (first cap : Array Value) (w : World), (Instr.makeFunc fn first cap).run Try.prog w = .ok (.func fn first cap) w := fun _ _ _ _ => rfl
  by_cases hg : rgtA a
  rotate_left
  · rw [show snE a = 101 from if_neg hg, show snB a = [] from if_neg hg]
    rw [decide_eq_false hg] at hR
    clear h1 h2 h3 hwf hg
    go_enter Try.func8, Try.ntmps8
    go_upto_region 1 with fail
    rw [← hw0]
    clear hw0
    go_wp2_with (first
      | (refine wl_load rfl _ _ rfl w.heap.size rfl _ _ xa _ Try.underlying27 rfl (by kernel_rfl) ?_)
      | (go_at_call 16; refine hR.mono ?_; rintro e w1 ⟨rfl, hb1⟩))
    go_ret2
    exact ⟨_, rfl, Own.nil _ _, Fr.nil _, below_and B0 le hb1⟩
  rw [show snE a = 0 from if_pos hg, show snB a = wrA a from if_pos hg]
  rw [decide_eq_true hg] at hR
  have HE := (show Hid (∀ (q : Nat) (y : PEnt), a.2.1[q]? = some y → ∃ bb off cap, Value.slice ae a.2.1.length ce = .slice (some ⟨bb, off, none⟩) a.2.1.length cap ∧ cap ≤ maxLen ∧ a.2.1.length ≤ cap ∧ ∃ r, REnt Any w r y ∧ ∀ u, Below w.heap.size w u → u.rangeAt bb (off + q * 2) r ∧ REnt Any u r y) from h1.each mov_ent)
  have HL := (show Hid (∀ (q : Nat) (y : PEnt), a.2.2.1[q]? = some y → ∃ bb off cap, Value.slice al a.2.2.1.length cl = .slice (some ⟨bb, off, none⟩) a.2.2.1.length cap ∧ cap ≤ maxLen ∧ a.2.2.1.length ≤ cap ∧ ∃ r, RLea Any w r y ∧ ∀ u, Below w.heap.size w u → u.rangeAt bb (off + q * 3) r ∧ RLea Any u r y) from h2.each mov_lea)
  have HN := (show Hid (∀ (q : Nat) (y : PEnt), a.2.2.2[q]? = some y → ∃ bb off cap, Value.slice an a.2.2.2.length cn = .slice (some ⟨bb, off, none⟩) a.2.2.2.length cap ∧ cap ≤ maxLen ∧ a.2.2.2.length ≤ cap ∧ ∃ r, RSes Any w r y ∧ ∀ u, Below w.heap.size w u → u.rangeAt bb (off + q * 4) r ∧ RSes Any u r y) from h3.each mov_ses)
  have HW := (show Hid (wrA a = outI a.1 ++ ((outI a.2.1.length ++ wrN (cEn 16 64) a.2.1) ++ ((outI a.2.2.1.length ++ wrN (cLe 16) a.2.2.1) ++ (outI a.2.2.2.length ++ wrN (cSe 64) a.2.2.2)))) from wrA_eq a)
  have HG := (show Hid (rgtA a) from hg)
  have HK1 := (show Hid (∀ e ∈ a.2.1, ((cEn 16 64).wr e).length ≤ 110) from fun e he => Nat.le_trans (wrE_len (hg.2.1.2.2 e he)) (by omega))
  have HK2 := (show Hid (∀ e ∈ a.2.2.1, ((cLe 16).wr e).length ≤ 110) from fun e he => Nat.le_trans (wrL_len (hg.2.2.1.2.2 e he)) (by omega))
  have HK3 := (show Hid (∀ e ∈ a.2.2.2, ((cSe 64).wr e).length ≤ 110) from fun e he => wrS_len (chk_all hg.2.2.2 e he))
  have HT1 := (show Hid (∀ e ∈ a.2.1, e.1.length ≤ 64 ∧ e.2.length ≤ 64) from fun e he => by obtain ⟨_, _, _⟩ := hg.2.1.2.2 e he; omega)
  have HT2 := (show Hid (∀ e ∈ a.2.2.1, e.1.length ≤ 64) from fun e he => by obtain ⟨⟨_, _⟩, _⟩ := hg.2.2.1.2.2 e he; omega)
  have HT3 := (show Hid (∀ e ∈ a.2.2.2, (sv e).length ≤ 64) from fun e he => by obtain ⟨_, _, _, _⟩ := chk_all hg.2.2.2 e he; omega)
  have n1 : a.2.1.length ≤ 64 := hg.2.1.1
  have n2 : a.2.2.1.length ≤ 64 := by have := hg.2.2.1.1; omega
  have n3 : a.2.2.2.length ≤ 64 := by have := rgn_len hg.2.2.2; omega
  generalize wrA a = WA at *
  obtain ⟨slot, es, ls, ss⟩ := a
  dsimp only at *
  obtain ⟨N1, hN1⟩ : ∃ N1, N1 = es.length := ⟨_, rfl⟩
  obtain ⟨N2, hN2⟩ : ∃ N2, N2 = ls.length := ⟨_, rfl⟩
  obtain ⟨N3, hN3⟩ : ∃ N3, N3 = ss.length := ⟨_, rfl⟩
  simp only [← hN1, ← hN2, ← hN3] at hw0 xa hR HE HL HN HW n1 n2 n3 ⊢
  have HN1 := (show Hid (N1 = es.length) from hN1)
  have HN2 := (show Hid (N2 = ls.length) from hN2)
  have HN3 := (show Hid (N3 = ss.length) from hN3)
  clear h1 h2 h3 hg hwf hall hN1 hN2 hN3 hce hcl hcn
  go_enter Try.func8, Try.ntmps8
  go_upto_region 1 with fail
  rw [← hw0]
  clear hw0
  go_upto_region 3 with (first
    | (refine wl_load rfl _ _ rfl w.heap.size rfl _ _ xa _ Try.underlying27 rfl (by kernel_rfl) ?_)
    | (go_at_call 16; refine hR.mono ?_; rintro e w1 ⟨rfl, hb1⟩))
  have xa := xa.below hb1
  have B1 := below_and B0 le hb1
  clear hb1 hR B0
  go_upto_region 4 with fail
  obtain ⟨w2, hw2⟩ : ∃ w2, w2 = w1.alloc (.cells #[.slice none 0 0] 29) := ⟨_, rfl⟩
  rw [← hw2]
  have hO : OB w1.heap.size w1.heap.size w2 [] := ⟨.slice none 0 0, by rw [hw2]; exact Row.new w1 29 [.slice none 0 0], Own.nil _ _, Fr.nil _, Nat.le_refl _, by rw [hw2]; simp⟩
  have hb2 : Below w1.heap.size w1 w2 := by rw [hw2]; exact below_alloc _ _
  have B2 := below_and B1 le hb2
  have hlt := xa.lt
  have xa := xa.below hb2
  have hBB : w.heap.size ≤ w1.heap.size := B1.size
  clear hw2 hb2 B1
  generalize w1.heap.size = B at hO hlt hBB ⊢
  have hO' : OB B B w2 [] := hO
  clear hO
  have HX := (show Hid (∀ u, Below B w2 u → Row u w.heap.size 27 [.int .i64 slot, .slice ae N1 ce, .slice al N2 cl, .slice an N3 cn] ∧ Below w.heap.size w u) from fun u hu => ⟨xa.belB hu hlt, B2.trans (hu.mono hBB)⟩)
  clear xa B2 hlt
  have c0 := (HX.out w2 (Below.refl _ _)).1.cell (j := 0) rfl
  have hC := encNum_any B B w2 [] slot hO' (by simp)
  go_upto_region 7 with (go_at_call 17; refine hC.mono ?_; rintro e w3 ⟨rfl, hO3, hb3, hk3⟩)
  rw [List.nil_append] at hO3
  have c1 := (HX.out w3 hb3).1.cell (j := 1) rfl
  have hC := encNum_any B B w3 _ (N1 : Int) hO3 (by have := outI_len slot; omega)
  clear c0 hO' hk3
  go_upto_region 8 with (go_at_call 17; refine hC.mono ?_; rintro e w4 ⟨rfl, hO4, hb4, hk4⟩)
  have hb24 : Below B w2 w4 := hb3.trans hb4
  obtain ⟨L1, hL1⟩ : ∃ L1, L1 = outI slot ++ outI (N1 : Int) := ⟨_, rfl⟩
  have HL1 := (show Hid (L1 = outI slot ++ outI (N1 : Int)) from hL1)
  have g1 : L1.length ≤ 20 := by have := outI_len slot; have := outI_len (N1 : Int); rw [hL1, List.length_append]; omega
  rw [← hL1] at hO4
  clear c1 hC hO3 hk4 hb3 hb4 hL1
  have c1 := (HX.out w4 hb24).1.cell (j := 1) rfl
  go_wp2_with fail
  go_loopw [30] (fun i wr => ∃ q : Nat, q ≤ N1 ∧ i = .int .i64 q ∧ OB B B wr (L1 ++ wrN (cEn 16 64) (es.take q)) ∧ Below B w2 wr) (fun i _ => N1 - (intOf i).toNat)
  case atStart => exact ⟨0, Nat.zero_le _, rfl, by simpa [wrN] using hO4, hb24⟩
  case round =>
    clear hO4 c1
    obtain ⟨q, hq, rfl, hO, hbr⟩ := hrel
    obtain ⟨xr, Br⟩ := HX.out wr hbr
    by_cases hql : q < N1
    · obtain ⟨y, hy⟩ : ∃ y, es[q]? = some y := ⟨_, List.getElem?_eq_getElem (by have := HN1.out; omega)⟩
      obtain ⟨bb, off, cap, e, hcm, hcn, rw0, HR0, HR⟩ := HE.out q y hy
      injection e with e1 e2 e3
      subst e1 e3
      clear e2
      have hym := List.mem_of_getElem? hy
      have HA := (show Hid (∀ X, X = (cEn 16 64).wr y → (L1 ++ wrN (cEn 16 64) (es.take q)) ++ X = L1 ++ wrN (cEn 16 64) (es.take (q + 1))) from fun X hX => by rw [wrN_take (cEn 16 64) hy, hX, List.append_assoc])
      have hlen : (L1 ++ wrN (cEn 16 64) (es.take q)).length ≤ 900000 := takeLen L1 g1 HK1.out (by have := HN1.out; omega) (by omega)
      obtain ⟨s, t, rfl, hs, ht⟩ := HR0
      have HRR := (show Hid (∀ u, Below w.heap.size w u → RT Any u s y.1 ∧ RT Any u t y.2) from fun u hu => by obtain ⟨_, s2, t2, e, p1, p2⟩ := HR u hu; injection e with e1 e; injection e with e2 _; subst e1 e2; exact ⟨p1, p2⟩)
      have hrng := (HR wr Br).1
      have hone : ∀ x ∈ ([s, t] : List Value), x.oneCell' = true := (by intro x hx; simp only [List.mem_cons, List.not_mem_nil, or_false] at hx; rcases hx with rfl | rfl; exact hs.one; exact ht.one)
      have hrow0 := Row.new wr 54 [.slice none 0 0, .slice none 0 0]
      have hqi : (q : Int) < (N1 : Int) := by omega
      have hltr := hO.ltB
      clear HR hy
      go_upto_region 11 with (first
        | (refine wpList_load_mid rfl _ _ rfl bb (off + q * 2) rfl [s, t] _ hrng Try.underlying54 rfl (by kernel_rfl) ?_)
        | (refine wl_store rfl _ _ _ rfl wr.heap.size [s, t] rfl rfl _ _ hrow0 rfl (by kernel_rfl) hone ?_; intro w5 hr5 hg5))
      have hr5 := hr5.out
      have hb5 : Below wr.heap.size wr w5 := (below_alloc wr (.cells ([.slice none 0 0, .slice none 0 0] : List Value).toArray 54)).trans (grown_below hg5 (by simp) (fun k hk => by cases hk; exact Nat.le_refl _))
      have hO5 := hO.below hb5
      have hB5 : Below B w2 w5 := hbr.trans (hb5.mono hO.sizeB)
      obtain ⟨gb, hgb⟩ : ∃ gb, gb = wr.heap.size := ⟨_, rfl⟩
      rw [← hgb] at hr5 hltr ⊢
      have hne : gb ≠ B := Nat.ne_of_gt hltr
      clear hrng hone hrow0 hg5 hgb hb5 hO hltr xr Br
      have c0' := hr5.cell (j := 0) rfl
      have hC := encText_any B B w5 _ s _ hO5 (HRR.out w5 (HX.out w5 hB5).2).1.1 (by simp only [List.length_append] at *; omega) (Nat.le_trans ((HT1.out y hym).1) (by omega))
      go_upto_region 12 with (go_at_call 19; refine hC.mono ?_; rintro e w6 ⟨rfl, hO6, hb6, hk6⟩)
      have hB6 := hB5.trans hb6
      have hr6 := hk6 _ _ _ (by decide) hne hr5
      clear c0' hC hO5 hb6 hk6 hr5
      have c1' := hr6.cell (j := 1) rfl
      have hC := encText_any B B w6 _ t _ hO6 (HRR.out w6 (HX.out w6 hB6).2).2.1 (by simp only [List.length_append] at *; have := enc_len ((y.1.length : Int)); have := (HT1.out y hym).1; omega) (Nat.le_trans ((HT1.out y hym).2) (by omega))
      go_upto_region 13 with (go_at_call 19; refine hC.mono ?_; rintro e w7 ⟨rfl, hO7, hb7, hk7⟩)
      have hB7 := hB6.trans hb7
      have hr7 := hk7 _ _ _ (by decide) hne hr6
      clear c1' hC hO6 hb7 hk7 hr6
      have hOz : OB B B w7 (L1 ++ wrN (cEn 16 64) (es.take (q + 1))) := by
        rw [← HA.out ((enc y.1.length ++ y.1) ++ (enc y.2.length ++ y.2)) rfl]
        simpa only [List.append_assoc] using hO7
      go_wp2_with fail
      go_roundw
      case rel => exact ⟨q + 1, by omega, by go_num, hOz, hB7⟩
      case measure => simp [intOf]; omega
    · have hqd : decide ((q : Int) < N1) = false := by simp; omega
      rw [List.take_of_length_le (by have := HN1.out; omega)] at hO
      have c2' := xr.cell (j := 2) rfl
      have hlen := takeLen (l := es) (q := es.length) (c := (cEn 16 64)) L1 g1 HK1.out (by have := HN1.out; omega) (by omega)
      rw [List.take_length] at hlen
      have hC := encNum_any B B wr _ (N2 : Int) hO (by omega)
      go_upto_region 15 with (go_at_call 17; refine hC.mono ?_; rintro e w14 ⟨rfl, hO4, hb4, hk4⟩)
      have hb24 := hbr.trans hb4
      obtain ⟨L2, hL1⟩ : ∃ L, L = (L1 ++ wrN (cEn 16 64) es) ++ outI (N2 : Int) := ⟨_, rfl⟩
      have HL2 := (show Hid (L2 = (L1 ++ wrN (cEn 16 64) es) ++ outI (N2 : Int)) from hL1)
      have g2 : L2.length ≤ 8000 := by
        have := outI_len (N2 : Int)
        have hw := wrN_len es HK1.out
        have := HN1.out
        have hm : es.length * 110 ≤ 64 * 110 := Nat.mul_le_mul_right _ (by omega)
        rw [hL1, List.length_append, List.length_append]
        omega
      rw [← hL1] at hO4
      clear c2' hC hO hk4 hb4 hL1 hlen xr Br hbr
      have c1 := (HX.out w14 hb24).1.cell (j := 2) rfl
      go_wp2_with fail
      go_loopw [51] (fun i wr => ∃ q : Nat, q ≤ N2 ∧ i = .int .i64 q ∧ OB B B wr (L2 ++ wrN (cLe 16) (ls.take q)) ∧ Below B w2 wr) (fun i _ => N2 - (intOf i).toNat)
      case atStart => exact ⟨0, Nat.zero_le _, rfl, by simpa [wrN] using hO4, hb24⟩
      case round =>
        clear hO4 c1
        obtain ⟨q, hq, rfl, hO, hbr⟩ := hrel
        obtain ⟨xr, Br⟩ := HX.out wr hbr
        by_cases hql : q < N2
        · obtain ⟨y, hy⟩ : ∃ y, ls[q]? = some y := ⟨_, List.getElem?_eq_getElem (by have := HN2.out; omega)⟩
          obtain ⟨bb, off, cap, e, hcm, hcn, rw0, HR0, HR⟩ := HL.out q y hy
          injection e with e1 e2 e3
          subst e1 e3
          clear e2
          have hym := List.mem_of_getElem? hy
          have HA := (show Hid (∀ X, X = (cLe 16).wr y → (L2 ++ wrN (cLe 16) (ls.take q)) ++ X = L2 ++ wrN (cLe 16) (ls.take (q + 1))) from fun X hX => by rw [wrN_take (cLe 16) hy, hX, List.append_assoc])
          have hlen : (L2 ++ wrN (cLe 16) (ls.take q)).length ≤ 900000 := takeLen L2 g2 HK2.out (by have := HN2.out; omega) (by omega)
          obtain ⟨s, p, q', rfl, hs, hpq⟩ := HR0
          have HRR := (show Hid (∀ u, Below w.heap.size w u → RT Any u s y.1) from fun u hu => by obtain ⟨_, s2, p2, q2, e, p1, _⟩ := HR u hu; injection e with e1 e; subst e1; exact p1)
          have hrng := (HR wr Br).1
          have hone : ∀ x ∈ ([s, .int .i64 p, .int .i64 q'] : List Value), x.oneCell' = true := (by intro x hx; simp only [List.mem_cons, List.not_mem_nil, or_false] at hx; rcases hx with rfl | rfl | rfl; exact hs.one; rfl; rfl)
          have hrow0 := Row.new wr 56 [.slice none 0 0, .int .i64 0, .int .i64 0]
          have hqi : (q : Int) < (N2 : Int) := by omega
          have hltr := hO.ltB
          clear HR hy
          go_upto_region 18 with (first
            | (refine wpList_load_mid rfl _ _ rfl bb (off + q * 3) rfl [s, .int .i64 p, .int .i64 q'] _ hrng Try.underlying56 rfl (by kernel_rfl) ?_)
            | (refine wl_store rfl _ _ _ rfl wr.heap.size [s, .int .i64 p, .int .i64 q'] rfl rfl _ _ hrow0 rfl (by kernel_rfl) hone ?_; intro w5 hr5 hg5))
          have hr5 := hr5.out
          have hb5 : Below wr.heap.size wr w5 := (below_alloc wr (.cells ([.slice none 0 0, .int .i64 0, .int .i64 0] : List Value).toArray 56)).trans (grown_below hg5 (by simp) (fun k hk => by cases hk; exact Nat.le_refl _))
          have hO5 := hO.below hb5
          have hB5 : Below B w2 w5 := hbr.trans (hb5.mono hO.sizeB)
          obtain ⟨gb, hgb⟩ : ∃ gb, gb = wr.heap.size := ⟨_, rfl⟩
          rw [← hgb] at hr5 hltr ⊢
          have hne : gb ≠ B := Nat.ne_of_gt hltr
          clear hrng hone hrow0 hg5 hgb hb5 hO hltr xr Br
          have c0' := hr5.cell (j := 0) rfl
          have hC := encText_any B B w5 _ s _ hO5 (HRR.out w5 (HX.out w5 hB5).2).1 (by simp only [List.length_append] at *; omega) (Nat.le_trans (HT2.out y hym) (by omega))
          go_upto_region 19 with (go_at_call 19; refine hC.mono ?_; rintro e w6 ⟨rfl, hO6, hb6, hk6⟩)
          have hB6 := hB5.trans hb6
          have hr6 := hk6 _ _ _ (by decide) hne hr5
          clear c0' hC hO5 hb6 hk6 hr5
          have c1' := hr6.cell (j := 1) rfl
          have hC := encNum_any B B w6 _ p hO6 (by simp only [List.length_append] at *; have := enc_len ((y.1.length : Int)); have := HT2.out y hym; omega)
          go_upto_region 20 with (go_at_call 17; refine hC.mono ?_; rintro e w7 ⟨rfl, hO7, hb7, hk7⟩)
          have hB7 := hB6.trans hb7
          have hr7 := hk7 _ _ _ (by decide) hne hr6
          clear c1' hC hO6 hb7 hk7 hr6
          have c2' := hr7.cell (j := 2) rfl
          have hC := encNum_any B B w7 _ q' hO7 (by simp only [List.length_append] at *; have := enc_len ((y.1.length : Int)); have := HT2.out y hym; have := outI_len p; omega)
          go_upto_region 21 with (go_at_call 17; refine hC.mono ?_; rintro e w8 ⟨rfl, hO8, hb8, hk8⟩)
          have hB8 := hB7.trans hb8
          have hr8 := hk8 _ _ _ (by decide) hne hr7
          clear c2' hC hO7 hb8 hk8 hr7
          have hOz : OB B B w8 (L2 ++ wrN (cLe 16) (ls.take (q + 1))) := by
            rw [← HA.out ((enc y.1.length ++ y.1) ++ (outI p ++ outI q')) (by rw [wrL_eq, hpq]; rfl)]
            simpa only [List.append_assoc] using hO8
          go_wp2_with fail
          go_roundw
          case rel => exact ⟨q + 1, by omega, by go_num, hOz, hB8⟩
          case measure => simp [intOf]; omega
        · have hqd : decide ((q : Int) < N2) = false := by simp; omega
          rw [List.take_of_length_le (by have := HN2.out; omega)] at hO
          have c2' := xr.cell (j := 3) rfl
          have hlen := takeLen (l := ls) (q := ls.length) (c := (cLe 16)) L2 g2 HK2.out (by have := HN2.out; omega) (by omega)
          rw [List.take_length] at hlen
          have hC := encNum_any B B wr _ (N3 : Int) hO (by omega)
          go_upto_region 23 with (go_at_call 17; refine hC.mono ?_; rintro e w24 ⟨rfl, hO4, hb4, hk4⟩)
          have hb24 := hbr.trans hb4
          obtain ⟨L3, hL1⟩ : ∃ L, L = (L2 ++ wrN (cLe 16) ls) ++ outI (N3 : Int) := ⟨_, rfl⟩
          have HL3 := (show Hid (L3 = (L2 ++ wrN (cLe 16) ls) ++ outI (N3 : Int)) from hL1)
          have g3 : L3.length ≤ 16000 := by
            have := outI_len (N3 : Int)
            have hw := wrN_len ls HK2.out
            have := HN2.out
            have hm : ls.length * 110 ≤ 64 * 110 := Nat.mul_le_mul_right _ (by omega)
            rw [hL1, List.length_append, List.length_append]
            omega
          rw [← hL1] at hO4
          clear c2' hC hO hk4 hb4 hL1 hlen xr Br hbr
          have c1 := (HX.out w24 hb24).1.cell (j := 3) rfl
          go_wp2_with fail
          go_loopw [76] (fun i wr => ∃ q : Nat, q ≤ N3 ∧ i = .int .i64 q ∧ OB B B wr (L3 ++ wrN (cSe 64) (ss.take q)) ∧ Below B w2 wr) (fun i _ => N3 - (intOf i).toNat)
          case atStart => exact ⟨0, Nat.zero_le _, rfl, by simpa [wrN] using hO4, hb24⟩
          case round =>
            clear hO4 c1
            obtain ⟨q, hq, rfl, hO, hbr⟩ := hrel
            obtain ⟨xr, Br⟩ := HX.out wr hbr
            by_cases hql : q < N3
            · obtain ⟨y, hy⟩ : ∃ y, ss[q]? = some y := ⟨_, List.getElem?_eq_getElem (by have := HN3.out; omega)⟩
              obtain ⟨bb, off, cap, e, hcm, hcn, rw0, HR0, HR⟩ := HN.out q y hy
              injection e with e1 e2 e3
              subst e1 e3
              clear e2
              have hym := List.mem_of_getElem? hy
              have HA := (show Hid (∀ X, X = (cSe 64).wr y → (L3 ++ wrN (cSe 64) (ss.take q)) ++ X = L3 ++ wrN (cSe 64) (ss.take (q + 1))) from fun X hX => by rw [wrN_take (cSe 64) hy, hX, List.append_assoc])
              have hlen : (L3 ++ wrN (cSe 64) (ss.take q)).length ≤ 900000 := takeLen L3 g3 HK3.out (by have := HN3.out; omega) (by omega)
              obtain ⟨c, d, k, s, t, rfl, hs, rfl⟩ := HR0
              have HRR := (show Hid (∀ u, Below w.heap.size w u → RT Any u s t) from fun u hu => by obtain ⟨_, c2, d2, k2, s2, t2, e, p1, e2⟩ := HR u hu; simp only [List.cons.injEq, and_true] at e; obtain ⟨_, _, _, e4⟩ := e; subst e4; simp only [Prod.mk.injEq, List.cons.injEq] at e2; obtain ⟨_, _, _, e5⟩ := e2; subst e5; exact p1)
              have hrng := (HR wr Br).1
              have hone : ∀ x ∈ ([.int .i64 c, .int .i64 d, .int .i64 k, s] : List Value), x.oneCell' = true := (by intro x hx; simp only [List.mem_cons, List.not_mem_nil, or_false] at hx; rcases hx with rfl | rfl | rfl | rfl; rfl; rfl; rfl; exact hs.one)
              have hrow0 := Row.new wr 48 [.int .i64 0, .int .i64 0, .int .i64 0, .slice none 0 0]
              have hqi : (q : Int) < (N3 : Int) := by omega
              have hltr := hO.ltB
              clear HR hy
              go_upto_region 26 with (first
                | (refine wpList_load_mid rfl _ _ rfl bb (off + q * 4) rfl [.int .i64 c, .int .i64 d, .int .i64 k, s] _ hrng Try.underlying48 rfl (by kernel_rfl) ?_)
                | (refine wl_store rfl _ _ _ rfl wr.heap.size [.int .i64 c, .int .i64 d, .int .i64 k, s] rfl rfl _ _ hrow0 rfl (by kernel_rfl) hone ?_; intro w5 hr5 hg5))
              have hr5 := hr5.out
              have hb5 : Below wr.heap.size wr w5 := (below_alloc wr (.cells ([.int .i64 0, .int .i64 0, .int .i64 0, .slice none 0 0] : List Value).toArray 48)).trans (grown_below hg5 (by simp) (fun k hk => by cases hk; exact Nat.le_refl _))
              have hO5 := hO.below hb5
              have hB5 : Below B w2 w5 := hbr.trans (hb5.mono hO.sizeB)
              obtain ⟨gb, hgb⟩ : ∃ gb, gb = wr.heap.size := ⟨_, rfl⟩
              rw [← hgb] at hr5 hltr ⊢
              have hne : gb ≠ B := Nat.ne_of_gt hltr
              clear hrng hone hrow0 hg5 hgb hb5 hO hltr xr Br
              have c0' := hr5.cell (j := 0) rfl
              have hC := encNum_any B B w5 _ c hO5 (by simp only [List.length_append] at *; omega)
              go_upto_region 27 with (go_at_call 17; refine hC.mono ?_; rintro e w6 ⟨rfl, hO6, hb6, hk6⟩)
              have hB6 := hB5.trans hb6
              have hr6 := hk6 _ _ _ (by decide) hne hr5
              clear c0' hC hO5 hb6 hk6 hr5
              have c1' := hr6.cell (j := 1) rfl
              have hC := encNum_any B B w6 _ d hO6 (by simp only [List.length_append] at *; have := outI_len c; omega)
              go_upto_region 28 with (go_at_call 17; refine hC.mono ?_; rintro e w7 ⟨rfl, hO7, hb7, hk7⟩)
              have hB7 := hB6.trans hb7
              have hr7 := hk7 _ _ _ (by decide) hne hr6
              clear c1' hC hO6 hb7 hk7 hr6
              have c2' := hr7.cell (j := 2) rfl
              have hC := encNum_any B B w7 _ k hO7 (by simp only [List.length_append] at *; have := outI_len c; have := outI_len d; omega)
              go_upto_region 29 with (go_at_call 17; refine hC.mono ?_; rintro e w8 ⟨rfl, hO8, hb8, hk8⟩)
              have hB8 := hB7.trans hb8
              have hr8 := hk8 _ _ _ (by decide) hne hr7
              clear c2' hC hO7 hb8 hk8 hr7
              have c3' := hr8.cell (j := 3) rfl
              have hC := encText_any B B w8 _ s _ hO8 (HRR.out w8 (HX.out w8 hB8).2).1 (by simp only [List.length_append] at *; have := outI_len c; have := outI_len d; have := outI_len k; omega) (Nat.le_trans (HT3.out _ hym) (by omega))
              go_upto_region 30 with (go_at_call 19; refine hC.mono ?_; rintro e w9 ⟨rfl, hO9, hb9, hk9⟩)
              have hB9 := hB8.trans hb9
              have hr9 := hk9 _ _ _ (by decide) hne hr8
              clear c3' hC hO8 hb9 hk9 hr8
              have hOz : OB B B w9 (L3 ++ wrN (cSe 64) (ss.take (q + 1))) := by
                rw [← HA.out (outI c ++ (outI d ++ (outI k ++ (enc t.length ++ t)))) rfl]
                simpa only [List.append_assoc] using hO9
              go_wp2_with fail
              go_roundw
              case rel => exact ⟨q + 1, by omega, by go_num, hOz, hB9⟩
              case measure => simp [intOf]; omega
            · have hqd : decide ((q : Int) < N3) = false := by simp; omega
              rw [List.take_of_length_le (by have := HN3.out; omega)] at hO
              obtain ⟨v, hv, hown, hfr, _, _⟩ := hO
              have cv := hv.cell (j := 0) rfl
              have hown' : Own wr 5 v (bc WA) := by
                rw [HW.out]
                rw [HL3.out, HL2.out, HL1.out] at hown
                simpa only [List.append_assoc] using hown
              clear hown
              go_wp2_with fail
              go_ret2
              exact ⟨_, rfl, hown', hfr.mono hBB, Br⟩
end Go.Proofs.Ytejkkhlblnepeaa
