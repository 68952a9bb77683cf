/- catenarylaw17.WindowUp: its walk. Written by mk19u.py. -/
import Derived.Test.YtjloehkolnjnhaaXUBM
import Derived.Test.YtjloehkolnjnhaaXUBO
import Derived.Test.YtjloehkolnjnhaaXUBP
import Derived.Test.YtjloehkolnjnhaaXUBQ
import Derived.Test.YtjloehkolnjnhaaXUBR
import Derived.Test.YtjloehkolnjnhaaXUBX
import Derived.Test.YtjloehkolnjnhaaXUBB
import Derived.Test.YtjloehkolnjnhaaXUBG
import Derived.Test.YtjloehkolnjnhaaXUBW
import Derived.Deep.CutRange
import Derived.Deep.RegionHeld3
import Derived.Deep.MidRow
set_option linter.unusedSimpArgs false
set_option linter.unusedVariables false
namespace Go.Proofs.Ytjloehkolnjnhaa
section
open Go.RowKit Oct Kvl Bal
theorem do_any {G GD : Nat → Prop} {b m : Nat} {low : Int} {kn : List (Int × PSl)} (w : World) (h : Wnd G w b m low kn) (hg0 : Gd G b m w.heap.size) (cs : List Value) (ld : Int) (sls : List PSl) (hD : RDw GD w cs ld sls) (hG : ∀ j, GD j → NB b m j ∧ j < w.heap.size)
    (r : List Value) (a : PWAct) (ha : RWAct GD w r a) (hk : -9223372036854775808 ≤ a.2.1 ∧ a.2.1 ≤ 9223372036854775807) (hz : szP a.2) :
    Calls Try.prog 9 #[.pointer (some ⟨b, 0, none⟩), .agg cs.toArray, .agg r.toArray] w fun e w' => ∃ cs', e = .returned (.tuple #[.agg cs'.toArray, .int .i64 (stA low kn a).2, .int .i64 (stB ld sls a).2]) ∧
      RDw GD w' cs' (stB ld sls a).1.1 (stB ld sls a).1.2 ∧ Wnd G w' b m (stA low kn a).1.1 (stA low kn a).1.2 ∧ Gw w w' b m := by
  obtain ⟨o, g, c, rfl, h1, h2, h3⟩ := ha
  obtain ⟨kd, k, bl, x, ct⟩ := a
  have bt : ∀ n : Int, kd = n → (kd == n) = true := fun n e => by simp [e]
  have bf : ∀ n : Int, kd ≠ n → (kd == n) = false := fun n e => by simp [e]
  by_cases k0 : kd = 0
  · unfold stA stB
    rw [if_pos k0, if_pos k0]
    exact do_vote w h hg0 cs ld sls hD hG kd bl k hk o g x h1 h2 c ct h3 hz.1 hz.2 (bt 0 k0) (bf 1 (by simp only [k0]; decide)) (bf 2 (by simp only [k0]; decide)) (bf 3 (by simp only [k0]; decide))
  by_cases k1 : kd = 1
  · unfold stA stB
    rw [if_neg k0, if_pos k1, if_neg k0, if_pos k1]
    exact do_prep w h hg0 cs ld sls hD hG kd bl k hk o g x h1 h2 c ct h3 hz.1 hz.2 (bf 0 k0) (bt 1 k1) (bf 2 (by simp only [k1]; decide)) (bf 3 (by simp only [k1]; decide))
  by_cases k2 : kd = 2
  · unfold stA stB
    rw [if_neg k0, if_neg k1, if_pos k2, if_neg k0, if_neg k1, if_pos k2]
    exact do_done w h hg0 cs ld sls hD hG kd bl k hk o g x h1 h2 c ct h3 hz.1 hz.2 (bf 0 k0) (bf 1 k1) (bt 2 k2) (bf 3 (by simp only [k2]; decide))
  by_cases k3 : kd = 3
  · unfold stA stB
    rw [if_neg k0, if_neg k1, if_neg k2, if_pos k3, if_neg k0, if_neg k1, if_neg k2, if_pos k3]
    exact do_cut w h hg0 cs ld sls hD hG kd bl k hk o g x h1 h2 c ct h3 hz.1 hz.2 (bf 0 k0) (bf 1 k1) (bf 2 k2) (bt 3 k3)
  · unfold stA stB
    rw [if_neg k0, if_neg k1, if_neg k2, if_neg k3, if_neg k0, if_neg k1, if_neg k2, if_neg k3]
    exact do_none w h hg0 cs ld sls hD hG kd bl k hk o g x h1 h2 c ct h3 hz.1 hz.2 ⟨k0, k1, k2, k3⟩
end
section
open Go.RowKit Oct Kvl Bal Go.Shelf Go.Sort
theorem Try.infSlW : (Try.prog.info? 33).map (fun i => (i.zero, i.size, i.bytes)) = some (some (.agg zSl.toArray), 23, 296) := by kernel_rfl
theorem one_Au {kd k b1 b2 x1 x2 : Int} {o s c : Value} (h1 : o.oneCell' = true) (h2 : s.oneCell' = true) (h3 : c.oneCell' = true) : ∀ u ∈ [Value.int .i64 kd, .int .i64 k, .int .i64 b1, .int .i64 b2, .int .i64 x1, .int .i64 x2, o, s, c], u.oneCell' = true := by
  intro u hu
  simp only [List.mem_cons, List.not_mem_nil, or_false] at hu
  rcases hu with rfl | rfl | rfl | rfl | rfl | rfl | rfl | rfl | rfl <;> first | rfl | assumption
theorem map_take_succ {α β : Type} {f : α → β} {l : List α} {q : Nat} {x : α} (h : l[q]? = some x) : (l.take (q + 1)).map f = (l.take q).map f ++ [f x] := by
  rw [List.take_add_one, h, List.map_append]
  rfl
set_option maxRecDepth 10000 in
set_option maxHeartbeats 8000000 in
theorem upW_any (W : World) (L : Int) (vv : Value) (ys : List PWAct) (up : Int) (hvs : RL RWAct 9 Any W vv ys) (hz : ∀ a ∈ ys, szWA a) :
    Calls Try.prog 5 #[.int .i64 L, vv, .int .i64 up] W fun e w' => e = .returned (.bool true) ∧ Below W.heap.size W w' := by
  obtain ⟨aa, ca, rfl, _⟩ := hvs.form
  have hlv : (ys.length : Int) ≤ 9223372036854775807 := by
    by_cases h0 : 0 < ys.length
    · obtain ⟨_, _, _, _, h1, h2, _⟩ := hvs.at h0
      unfold maxLen at h2
      omega
    · omega
  go_enter Try.func5, Try.ntmps5
  go_upto_region 4 with (first
    | (go_at_call 7; refine (newW_any w1 L).mono ?_; rintro e w2 ⟨rfl, h2, b2⟩)
    | (go_at_call 6; refine (windowAlive_any W).mono ?_; rintro e w1 ⟨rfl, b1⟩))
  have hs1 := b1.size
  have BW2 := below_and b1 (Nat.le_refl _) b2
  have hlt2 := h2.lt
  clear b1 b2
  generalize hm : w1.heap.size = m at *
  generalize hbb : m + 1 = b at *
  have hmb : m < b := by omega
  clear hm hbb
  by_cases hl100 : ys.length ≤ 100
  case neg =>
    have hgt : decide ((100 : Int) < (ys.length : Int)) = true := by simp; omega
    go_wp2_with fail
    go_ret
    exact ⟨rfl, BW2⟩
  have hgt : decide ((100 : Int) < (ys.length : Int)) = false := by simp; omega
  go_wp2_with fail
  clear hgt
  go_loopw [33] (fun j wr => ∃ (n : Nat) (low : Int) (kn : List (Int × PSl)), n ≤ ys.length ∧ j = .int .i64 n ∧ Wnd (NB b m) wr b m low kn ∧ Below W.heap.size W wr) (fun j _ => ys.length - (intOf j).toNat)
  case atStart => exact ⟨0, _, _, by omega, rfl, h2, BW2⟩
  case round =>
    clear h2 BW2
    obtain ⟨n, low, kn, hn, rfl, hW, hB⟩ := hrel
    by_cases hnl : n < ys.length
    case pos =>
      obtain ⟨⟨kd, k, ⟨b1, b2⟩, ⟨x1, x2, xo, xs⟩, ct⟩, hA⟩ : ∃ A, ys[n]? = some A := ⟨_, List.getElem?_eq_getElem hnl⟩
      have hzA := hz _ (List.mem_of_getElem? hA)
      obtain ⟨bv, off, cap, hve, _, _, _, hbv, hat⟩ := hvs.at (by omega)
      obtain ⟨rvv, _, hrng, o, s, c, rfl, t1, t2, t3⟩ := hat n _ hA
      injection hve with hv1 hv2 hv3
      subst hv1 hv3
      simp only at t1 t2 t3 hrng
      clear hv2 hat hA
      have hrng := rangeAt_block hrng (hB.block bv hbv)
      have hrow0 := Row.new wr 41 [.int .i64 0, .int .i64 0, .int .i64 0, .int .i64 0, .int .i64 0, .int .i64 0, .slice none 0 0, .slice none 0 0, .slice none 0 0]
      have hon : ∀ u ∈ [Value.int .i64 kd, .int .i64 k, .int .i64 b1, .int .i64 b2, .int .i64 x1, .int .i64 x2, o, s, c], u.oneCell' = true := one_Au t1.one t2.one t3.one
      go_upto_region 9 with (first
        | (refine wpList_load_mid rfl _ _ rfl bv (off + n * 9) rfl [.int .i64 kd, .int .i64 k, .int .i64 b1, .int .i64 b2, .int .i64 x1, .int .i64 x2, o, s, c] _ hrng Try.underlying41 rfl (by kernel_rfl) ?_)
        | (refine wl_store rfl _ _ _ rfl wr.heap.size [.int .i64 kd, .int .i64 k, .int .i64 b1, .int .i64 b2, .int .i64 x1, .int .i64 x2, o, s, c] rfl rfl _ _ hrow0 rfl (by kernel_rfl) hon ?_; intro w8 rA g8))
      have b8 : Below wr.heap.size wr w8 := (below_alloc wr (.cells ([.int .i64 0, .int .i64 0, .int .i64 0, .int .i64 0, .int .i64 0, .int .i64 0, .slice none 0 0, .slice none 0 0, .slice none 0 0] : List Value).toArray 41)).trans (grown_below g8 (by simp) (fun k hk => by cases hk; exact Nat.le_refl _))
      have rA := rA.out
      have hW8 := hW.below b8
      have hB8 := below_and hB (Nat.le_refl _) b8
      have hcb : wr.heap.size ≠ b ∧ wr.heap.size ≠ m := by
        have := hW.lt
        omega
      obtain ⟨cA, hcA⟩ : ∃ c, c = wr.heap.size := ⟨_, rfl⟩
      rw [← hcA] at rA hcb ⊢
      clear hrng hrow0 g8 hon hcA hW b8 hB
      have kA0 := rA.cell (j := 0) rfl
      by_cases hk3 : kd < 3
      case neg =>
        have d3 : decide (kd < 3) = false := by simp; omega
        go_wp2_with fail
        go_roundw
        case rel => exact ⟨n + 1, _, _, by omega, by go_num, hW8, hB8⟩
        case measure => simp [intOf]; omega
      have d3 : decide (kd < 3) = true := by simp; omega
      go_upto_region 10 with fail
      clear d3 kA0
      have hk := hzA.2
      have hzP := hzA.1
      have HDO := (show Hid (∀ u cs, Below w8.heap.size w8 u → RDw (fun j => j < W.heap.size) u cs (bndW L) (List.replicate 16 s0) → Calls Try.prog 9 #[.pointer (some ⟨b, 0, none⟩), .agg cs.toArray, .agg #[.int .i64 kd, .int .i64 k, .int .i64 b1, .int .i64 b2, .int .i64 x1, .int .i64 x2, o, s, c]] u fun e w' => ∃ (cs' : List Value) (er : Int), e = .returned (.tuple #[.agg cs'.toArray, .int .i64 (stA low kn (kd, k, (b1, b2), (x1, x2, xo, xs), ct)).2, .int .i64 er]) ∧ Wnd (NB b m) w' b m (stA low kn (kd, k, (b1, b2), (x1, x2, xo, xs), ct)).1.1 (stA low kn (kd, k, (b1, b2), (x1, x2, xo, xs), ct)).1.2 ∧ Gw u w' b m) from fun u cs hu hD => by
        have hBu := below_and hB8 (Nat.le_refl _) hu
        have hmv : Mv (fun j => j < W.heap.size) (fun j => j < W.heap.size) W u := fun j hj hlt => ⟨hBu.block j hlt, hj⟩
        have hwu := hBu.size
        have hlu := (hW8.below hu).lt
        refine (do_any (G := NB b m) (GD := fun j => j < W.heap.size) u (hW8.below hu) (Gd.nbs hlu.1 hlu.2) cs _ _ hD (fun j hj => ⟨⟨by omega, by omega⟩, by omega⟩) [.int .i64 kd, .int .i64 k, .int .i64 b1, .int .i64 b2, .int .i64 x1, .int .i64 x2, o, s, c] (kd, k, (b1, b2), (x1, x2, xo, xs), ct) ⟨_, _, _, rfl, (t1.lowW).mv hmv, (t2.lowW).mv hmv, (t3.lowW).mv mov_vote hwu hmv⟩ hk hzP).mono ?_
        rintro e w' ⟨cs', rfl, h1, h2, h3⟩
        exact ⟨cs', _, rfl, h2, h3⟩)
      have HNEW := (show Hid (∀ u, Calls Try.prog 8 #[.int .i64 L] u fun e w' => ∃ cs, e = .returned (.agg cs.toArray) ∧ (∀ G u, RDw G u cs (bndW L) (List.replicate 16 s0)) ∧ Below u.heap.size u w') from fun u => refNewW_any u L)
      have B0 : Below w8.heap.size w8 w8.drew := ⟨rfl, rfl, rfl, Nat.le_refl _, fun _ _ => rfl⟩
      have S0 := rA.below B0
      try go_simp
      refine wp_region_held_drew (S := fun u => Row u cA 41 [.int .i64 kd, .int .i64 k, .int .i64 b1, .int .i64 b2, .int .i64 x1, .int .i64 x2, o, s, c]) (by kernel_rfl) S0 (fun hHeld => ?_)
      clear hHeld
      refine wpAnyH_take (i := 0) (v := .pointer (some ⟨b, 0, none⟩)) rfl (by kernel_rfl) (by kernel_rfl) (by kernel_rfl) (fun _ _ _ h => h) (Or.inl ⟨by kernel_rfl, fun u hSu => by go_simp⟩) S0 ?_
      simp only [Act.put, List.setIfInBounds_toArray, List.set_cons_zero, List.set_cons_succ]
      refine wpAnyH_take (i := 1) (v := .int .i64 L) rfl (by kernel_rfl) (by kernel_rfl) (by kernel_rfl) (fun _ _ _ h => h) (Or.inl ⟨by kernel_rfl, fun u hSu => by go_simp⟩) S0 ?_
      simp only [Act.put, List.setIfInBounds_toArray, List.set_cons_zero, List.set_cons_succ]
      refine wpAnyH_take (i := 3) (v := .agg [.int .i64 kd, .int .i64 k, .int .i64 b1, .int .i64 b2, .int .i64 x1, .int .i64 x2, o, s, c].toArray) rfl (by kernel_rfl) (by kernel_rfl) (by kernel_rfl) (fun _ _ _ h => h) (yieldsIf_load_mid (by kernel_rfl) _ _ rfl cA 0 (by go_simp) [.int .i64 kd, .int .i64 k, .int .i64 b1, .int .i64 b2, .int .i64 x1, .int .i64 x2, o, s, c] _ (fun u hu => hu.rng) Try.underlying41 rfl (by kernel_rfl)) S0 ?_
      simp only [Act.put, List.setIfInBounds_toArray, List.set_cons_zero, List.set_cons_succ]
      refine wpAnyH_ready (rs := [2]) (by kernel_rfl) (by simp) ?_
      refine AllReadyH.cons (o := _) rfl (fun K hK => ?_) AllReadyH.nil
      go_simp
      refine (HNEW.out w8.drew).mono ?_
      rintro e u1 ⟨cs, rfl, hDN, bb1⟩
      have B1 : Below w8.heap.size w8 u1 := below_and B0 (Nat.le_refl _) bb1
      have S1 := S0.below bb1
      try go_simp
      refine hK.out _ _ S1 (fun hHeld => ?_)
      clear hK K hHeld
      refine wpAnyH_ready (rs := [4]) (by kernel_rfl) (by simp) ?_
      refine AllReadyH.cons (o := _) rfl (fun K hK => ?_) AllReadyH.nil
      go_simp
      refine (HDO.out u1 cs B1 (hDN _ _)).mono ?_
      rintro e u2 ⟨cs', er, rfl, hW2, hG2⟩
      have S2 := S1.gw hG2 hcb.1 hcb.2
      try go_simp
      refine hK.out _ _ S2 (fun hHeld => ?_)
      clear hK K hHeld
      refine wpAnyH_done (by kernel_rfl) ?_ _
      have hs8 := hB8.size
      have hBW2 := (below_and hB8 (Nat.le_refl _) B1).trans (hG2.below (Nat.le_trans hs8 B1.size) (by omega) hs1)
      clear HDO HNEW
      go_wp2_with fail
      go_roundw
      case rel => exact ⟨n + 1, _, _, by omega, by go_num, hW2, hBW2⟩
      case measure => simp [intOf]; omega
    clear hvs hz hlv hl100
    have hS := slotsW_any wr hW
    have hlenk := okW_len hW.ok
    go_upto_region 14 with (first
      | (go_at_call 10; refine (lowW_any wr hW).mono ?_; rintro e w0 ⟨rfl, h0⟩; have h0 := h0.symm; subst h0)
      | (go_at_call 16; refine hS.mono ?_; rintro e w3 ⟨v, ss, rfl, hperm, hown, b3⟩; have hml := List.length_mergeSort (le := fun x y : Int => decide (x ≤ y)) ss; have hLi := LB.ofInts hown hml; obtain ⟨va, vc, rfl⟩ := hLi.fmL))
    have hssk : ss.length = kn.length := by
      have := hperm.length_eq
      unfold keysW at this
      rw [List.length_map] at this
      exact this
    have hss : ss.length ≤ 16 := by omega
    have HSK := (show Hid (ss.length = kn.length) from hssk)
    clear hssk hlenk
    generalize hks : ss.mergeSort (fun x y => decide (x ≤ y)) = ks at *
    have HM := (show Hid (ks.length = ss.length) from hml)
    have hml2 : (ks.length : Int) = (ss.length : Int) := by rw [hml]
    have BW3 := below_and hB (Nat.le_refl _) b3
    have hW3 := hW.below b3
    clear hS hown hml hks
    obtain ⟨w4, hw4⟩ : ∃ u, u = w3.alloc (.cells #[] 33) := ⟨_, rfl⟩
    have b4 : Below w3.heap.size w3 w4 := by rw [hw4]; exact below_alloc _ _
    have hL4 := LB.fresh RSl 33 23 w3.heap.size w3 (Nat.le_refl _)
    rw [← hw4] at hL4
    have hsz4 : w3.heap.size < w4.heap.size := by rw [hw4]; simp
    go_upto_region 15 with fail
    rw [← hw4]
    clear hw4
    have hlt3 := hW3.lt
    have hWB : Wnd (GL (NB b m) w3.heap.size) w4 b m low kn := hW3.mv b4.size (b4.block b hlt3.1) (b4.block m hlt3.2) (fun k hk hlt => ⟨b4.block k hlt, hk, hlt⟩)
    have hLl : ∀ g, (Value.slice va ks.length vc).ownBlock = some g → g < w3.heap.size ∧ g ≠ b ∧ g ≠ m := fun g e => ⟨hLi.lt g e, by have h1 := hLi.fr g e; have h2 := hW.lt; omega⟩
    have hLi4 := hLi.below mov_int b4
    have hRi := hLi4.rl mov_int
    have BW4 := below_and BW3 (Nat.le_refl _) b4
    have hWs3 := BW3.size
    clear hLi hW hW3 hB b3 BW3 b4 hLi4
    generalize hBg : w3.heap.size = B at *
    clear hBg
    have hDS : decide ((0 : Int) ≤ 0) = true := rfl
    go_wp2_with fail
    go_loopw [12, 53] (fun bv j wr => ∃ q : Nat, q ≤ ss.length ∧ j = .int .i64 q ∧ LB RSl 33 23 B wr bv ((ks.take q).map (atL kn)) ∧ ((ks.take q).map (atL kn)).length ≤ q ∧ Below B w4 wr) (fun _ j _ => ss.length - (intOf j).toNat)
    case atStart => exact ⟨0, by omega, rfl, hL4, Nat.le_refl _, Below.refl _ _⟩
    case round =>
      clear hL4
      obtain ⟨q, hq, rfl, hL, hll, hB4⟩ := hrel
      obtain ⟨PL, hPL⟩ : ∃ PL, PL = (ks.take q).map (atL kn) := ⟨_, rfl⟩
      rw [← hPL] at hL hll
      obtain ⟨la, lc, rfl⟩ := hL.fmL
      have HPL := (show Hid (PL = (ks.take q).map (atL kn)) from hPL)
      clear hPL
      have hWr : Wnd (GL (NB b m) B) wr b m low kn := hWB.mv hB4.size (hB4.block b hlt3.1) (hB4.block m hlt3.2) (fun k hk hlt => ⟨hB4.block k hk.2, hk⟩)
      have hBr := hB4.size
      by_cases hql : q < ss.length
      case pos =>
        obtain ⟨k, hk⟩ : ∃ k, ks[q]? = some k := ⟨_, List.getElem?_eq_getElem (by rw [HM.out]; exact hql)⟩
        obtain ⟨g, off, cap, hve, _, _, _, hg, hci⟩ := hRi.intAt hk
        injection hve with hv1 hv2 hv3
        have hgB : g < B := by
          have := hLl g
          rw [hv1] at this
          exact (this rfl).1
        subst hv1 hv3
        have hkc := hci wr (hB4.block g hgB)
        have hAT := atW_any wr hWr k
        have hst := map_take_succ (f := atL kn) hk
        rw [← HPL.out] at hst
        have HST := (show Hid (_ = _) from hst)
        have hLlt := hL.lt
        clear hv2 hci hst hk
        go_wp2_with (first
          | (go_at_call 12; refine hAT.mono ?_; rintro e w6 ⟨r6, rfl, hr6, b6⟩; have hL6 := hL.below mov_sl b6; have h6s := b6.size; have hr6o := one_RSl hr6; obtain ⟨zo1, zg1, zo2, zg2, zc1, zo3, zg3, zv1, rfl, f1, f2, f3, f4, f5, f6, f7, f8⟩ := hr6)
          | (at_builtin; go_loud (refine wl_pushS mov_sl rfl _ _ _ rfl 33 23 296 _ Try.underlying63 Try.infSlW rfl (by decide) B (.slice la PL.length lc) PL rfl hL6 [.int .i64 (atL kn k).voted.1, .int .i64 (atL kn k).voted.2, .int .i64 (atL kn k).vote.1, .int .i64 (atL kn k).vote.2.1, zo1, zg1, .int .i64 (atL kn k).pred.1, .int .i64 (atL kn k).pred.2, .int .i64 (atL kn k).prep.1, .int .i64 (atL kn k).prep.2.1, zo2, zg2, zc1, .int .i64 (atL kn k).done.1, .int .i64 (atL kn k).done.2.1, zo3, zg3, .int .i64 (atL kn k).bal.1, .int .i64 (atL kn k).bal.2, zv1, .bool (atL kn k).hv, .bool (atL kn k).hp, .bool (atL kn k).hd] (atL kn k) wr.heap.size ⟨_, _, _, _, _, _, _, _, rfl, f1, f2, f3, f4, f5, f6, f7, f8⟩ rfl hr6o (by omega) hLlt rfl (by omega) (by omega) (by decide) ?_; intro v7 w7 hL7 g7 hS7)))
        have hB6 := hB4.trans (b6.mono (by omega))
        have hB7 := hB6.trans (grown_below g7 (by omega) (fun k hk => hL6.fr k hk))
        go_roundw
        case rel => exact ⟨q + 1, by omega, by go_num, by rw [HST.out]; exact hL7, by rw [HST.out]; simp; omega, hB7⟩
        case measure => simp [intOf]; omega
      have hqk : ks.take q = ks := List.take_of_length_le (by have := HM.out; omega)
      have hPe : PL = ks.map (atL kn) := by rw [HPL.out, hqk]
      have hln : PL.length = ss.length := by rw [hPe, List.length_map, HM.out]
      have HPE := (show Hid (PL = ks.map (atL kn) ∧ PL.length = ss.length) from ⟨hPe, hln⟩)
      have hLf := hL
      clear hPe hln
      have hBW := BW4.trans (hB4.mono (by omega))
      have hWs := hBW.size
      have hCu := cutP_any wr hWr (fun j hj => hj.1) up
      clear hL hll hqk
      go_upto_region 21 with (go_at_call 23; refine hCu.mono ?_; rintro e w7 ⟨rfl, h7, g7⟩)
      clear hCu hWr
      have hB7 : Below W.heap.size W w7 := hBW.trans (g7.below hWs (by omega) hs1)
      by_cases hcut : up ≤ low ∨ 1000000 < up
      · have hst : stC low kn up = (low, kn) := by unfold stC; rw [if_pos hcut]
        rw [hst] at h7
        have hS7 := slotsW_any w7 h7
        have HL := HSK
        clear hst
        have hd : (decide (up ≤ low) = true) ∨ (decide (up ≤ low) = false ∧ decide (1000000 < up) = true) := by
          by_cases h1 : up ≤ low
          · exact .inl (by simpa using h1)
          · exact .inr ⟨by simpa using h1, by simp; omega⟩
        rcases hd with d1 | ⟨d1, d2⟩ <;> (
          go_wp2_with (first
            | (go_at_call 10; refine (lowW_any w7 h7).mono ?_; rintro e w0 ⟨rfl, h0⟩; have h0 := h0.symm; subst h0)
            | (go_at_call 16; refine hS7.mono ?_; rintro e w9 ⟨v9, s9, rfl, hp9, hown9, b9⟩; have hm9 := List.length_mergeSort (le := fun x y : Int => decide (x ≤ y)) s9; have hL9 := LB.ofInts hown9 hm9; have hn9 : s9.length = ss.length := (by have := hp9.length_eq; unfold keysW at this; rw [List.length_map] at this; rw [this, HL.out]); obtain ⟨xa, xc, rfl⟩ := hL9.fmL))
          go_ret
          exact ⟨by simp [hn9], below_and hB7 (Nat.le_refl _) b9⟩)
      have hst : stC low kn up = (up, cutW kn up) := by unfold stC; rw [if_neg hcut]
      rw [hst] at h7
      have hlo := h7.ok.lo
      clear hst
      have d1 : decide (up ≤ low) = false := by simp; omega
      have d2 : decide (1000000 < up) = false := by simp; omega
      go_upto_region 23 with fail
      clear d1 d2
      have hL7 := hLf.gw mov_sl g7 hlt3.1 hlt3.2
      have hRs := hL7.rl mov_sl
      have HCI := (show Hid (∀ i x, ks[i]? = some x → ∃ g off cap, Value.slice va ks.length vc = .slice (some ⟨g, off, none⟩) ks.length cap ∧ ∀ u : World, Below w7.heap.size w7 u → u.cell? ⟨g, off + i, none⟩ = some (.int .i64 x)) from fun i x hi => by
        obtain ⟨g, off, cap, hve, _, _, _, hg, hci⟩ := hRi.intAt hi
        refine ⟨g, off, cap, hve, fun u hu => hci u ?_⟩
        have hgB : g < B ∧ g ≠ b ∧ g ≠ m := by
          have := hLl g
          rw [hve] at this
          exact this rfl
        have e1 := hB4.size
        have e2 := g7.size
        rw [hu.block g (by omega), g7.block g (by omega) hgB.2.1 hgB.2.2, hB4.block g hgB.1])
      clear hRi hLl hWB hLf hL7 hB4 BW4 hBW
      have hNLe : PL.length = ss.length := HPE.out.2
      have hPe := HPE.out.1
      have HME := (show Hid (∀ p k, ks[p]? = some k → PL[p]? = some (atL kn k)) from fun p k hk => by rw [hPe, List.getElem?_map, hk]; rfl)
      clear hPe
      generalize hNl : PL.length = NL at *
      have HNL := (show Hid (NL = ss.length) from hNLe)
      have HPN := (show Hid (PL.length = NL) from hNl)
      clear hNl hNLe
      go_wp2_with fail
      go_loopw [88] (fun j wr => ∃ q : Nat, q ≤ ss.length ∧ j = .int .i64 q ∧ Below w7.heap.size w7 wr) (fun j _ => ss.length - (intOf j).toNat)
      case atStart => exact ⟨0, by omega, rfl, Below.refl _ _⟩
      case round =>
        obtain ⟨p, hp, rfl, hBr⟩ := hrel
        have h8 := h7.below hBr
        by_cases hpl : p < ss.length
        case neg =>
          have i0 : inW up up = false := by unfold inW; rw [decide_eq_false (by omega)]; rfl
          have i1 : inW up (up + 1) = true := inW_iff.2 ⟨by omega, by omega⟩
          have i2 : inW up (up + 16) = true := inW_iff.2 ⟨by omega, by omega⟩
          have i3 : inW up (up + 17) = false := by unfold inW; rw [decide_eq_false (p := up + 17 ≤ up + 16) (by omega), Bool.and_false]
          have q1 : wrap64 (up + 1) = up + 1 := IntWalk.wrap64_in _ ⟨by omega, by omega⟩
          have q2 : wrap64 (up + 16) = up + 16 := IntWalk.wrap64_in _ ⟨by omega, by omega⟩
          have q3 : wrap64 (up + 17) = up + 17 := IntWalk.wrap64_in _ ⟨by omega, by omega⟩
          go_wp2_with (first
            | (go_at_call 10; refine (lowW_any wr h8).mono ?_; rintro e w0 ⟨rfl, h0⟩; have h0 := h0.symm; subst h0)
            | (go_at_call 14; refine (inW_any wr h8 _).mono ?_; rintro e w0 ⟨rfl, h0⟩; have h0 := h0.symm; subst h0; first | rw [i0] | rw [i1] | rw [i2] | rw [i3]))
          go_ret
          exact ⟨by simp, below_and hB7 (Nat.le_refl _) hBr⟩
        obtain ⟨k, hk⟩ : ∃ k, ks[p]? = some k := ⟨_, List.getElem?_eq_getElem (by rw [HM.out]; exact hpl)⟩
        obtain ⟨g, off, cap, hve, hci⟩ := HCI.out p k hk
        injection hve with hv1 hv2 hv3
        subst hv1 hv3
        have hkc := hci wr hBr
        have hmk := HME.out p k hk
        obtain ⟨g2, off2, cap2, hve2, _, _, _, hg2, hat2⟩ := hRs.at (by have := HNL.out; have := HPN.out; omega)
        obtain ⟨r2, hr2l, hrng2, hsl2⟩ := hat2 p _ hmk
        injection hve2 with hv4 hv5 hv6
        subst hv4 hv6
        have hrng2 := rangeAt_block hrng2 (hBr.block g2 hg2)
        have hsl2 : RSl Any wr r2 (atL kn k) := mov_sl _ _ _ _ _ _ hsl2 hBr.size (fun j hj hlt => ⟨hBr.block j hlt, trivial⟩)
        have hATc := atW_any wr h8 k
        clear hv2 hci hat2 hmk hv5 hk
        have hrow0 := Row.new wr 33 [.int .i64 0, .int .i64 0, .int .i64 0, .int .i64 0, .slice none 0 0, .slice none 0 0, .int .i64 0, .int .i64 0, .int .i64 0, .int .i64 0, .slice none 0 0, .slice none 0 0, .slice none 0 0, .int .i64 0, .int .i64 0, .slice none 0 0, .slice none 0 0, .int .i64 0, .int .i64 0, .slice none 0 0, .bool false, .bool false, .bool false]
        have hone := one_RSl hsl2
        have hi23 : (Try.prog.info? 33).map (·.size) = some r2.length := by rw [hr2l]; kernel_rfl
        have dp : decide ((p : Int) < (NL : Int)) = true := by have := HNL.out; simp; omega
        have dp2 : p < NL := by have := HNL.out; omega
        go_upto_region 27 with (first
          | (refine wpList_load_mid rfl _ _ rfl g2 (off2 + p * 23) rfl r2 _ hrng2 Try.underlying33 rfl hi23 ?_)
          | (refine wl_store rfl _ _ _ rfl wr.heap.size r2 rfl rfl _ _ hrow0 (by rw [hr2l]; rfl) hi23 hone ?_; intro w8 r8 g8))
        have b8 : Below wr.heap.size wr w8 := (below_alloc wr (.cells ([.int .i64 0, .int .i64 0, .int .i64 0, .int .i64 0, .slice none 0 0, .slice none 0 0, .int .i64 0, .int .i64 0, .int .i64 0, .int .i64 0, .slice none 0 0, .slice none 0 0, .slice none 0 0, .int .i64 0, .int .i64 0, .slice none 0 0, .slice none 0 0, .int .i64 0, .int .i64 0, .slice none 0 0, .bool false, .bool false, .bool false] : List Value).toArray 33)).trans (grown_below g8 (by simp) (fun k hk => by cases hk; exact Nat.le_refl _))
        have r8 := r8.out
        obtain ⟨cS, hcS⟩ : ∃ c, c = wr.heap.size := ⟨_, rfl⟩
        rw [← hcS] at r8 ⊢
        have hBr8 := below_and hBr (Nat.le_refl _) b8
        have hsl8 := mov_sl _ _ _ _ _ _ hsl2 b8.size (Mv.below b8)
        clear hrow0 g8 hrng2 hkc dp hATc hsl2
        have hcS8 : w7.heap.size ≤ cS := by rw [hcS]; exact hBr.size
        clear hcS b8
        have hac := at_cut (low := up) (k := k) (l := kn)
        by_cases hku : k ≤ up
        · rw [if_neg (by omega)] at hac
          have dk : decide (k ≤ up) = true := by simpa using hku
          have hbz : ∀ u, (Instr.build 33 #[]).run Try.prog u = .ok (.agg zSl.toArray) u := fun u => by kernel_rfl
          go_upto_region 29 with (refine wl_store rfl _ _ _ rfl cS zSl rfl rfl _ _ r8 (by rw [hr2l]; rfl) (by kernel_rfl) (one_RSl (RSl.zero Any w8)) ?_; intro w9 r9 g9)
          have r9 := r9.out
          have hB9 := hBr8.trans (grown_below g9 hBr8.size (fun k hk => by cases hk; omega))
          have hz9 := RSl.zero Any w9
          have hlz : (zSl : List Value).length = 23 := rfl
          rw [← hac] at hz9
          generalize zSl = zz at *
          have h9 := h7.below hB9
          have hAT := fun u hu => atW_any u (h9.below hu) k
          have HAT := (show Hid (∀ u, Below w9.heap.size w9 u → Calls Try.prog 12 #[.pointer (some ⟨b, 0, none⟩), .int .i64 k] u fun e w' => ∃ r, e = .returned (.agg r.toArray) ∧ RSl (From u.heap.size) w' r (atL (cutW kn up) k) ∧ Below u.heap.size u w') from hAT)
          have HZ := (show Hid (RSl Any w9 zz (atL (cutW kn up) k)) from hz9)
          have hiz : (Try.prog.info? 33).map (·.size) = some zz.length := by rw [hlz]; kernel_rfl
          clear hAT hz9 hac h8 h9 hsl8
          have B0 : Below w9.heap.size w9 w9.drew := ⟨rfl, rfl, rfl, Nat.le_refl _, fun _ _ => rfl⟩
          have S0 := r9.below B0
          try go_simp
          refine wp_region_held_drew (S := fun u => Row u cS 33 zz) (by kernel_rfl) S0 (fun hHeld => ?_)
          clear hHeld
          refine wpAnyH_take (i := 0) (v := .pointer (some ⟨b, 0, none⟩)) rfl (by kernel_rfl) (by kernel_rfl) (by kernel_rfl) (fun _ _ _ h => h) (Or.inl ⟨by kernel_rfl, fun u hSu => by go_simp⟩) S0 ?_
          simp only [Act.put, List.setIfInBounds_toArray, List.set_cons_zero, List.set_cons_succ]
          refine wpAnyH_take (i := 1) (v := .int .i64 k) rfl (by kernel_rfl) (by kernel_rfl) (by kernel_rfl) (fun _ _ _ h => h) (Or.inl ⟨by kernel_rfl, fun u hSu => by go_simp⟩) S0 ?_
          simp only [Act.put, List.setIfInBounds_toArray, List.set_cons_zero, List.set_cons_succ]
          refine wpAnyH_take (i := 3) (v := .agg zz.toArray) rfl (by kernel_rfl) (by kernel_rfl) (by kernel_rfl) (fun _ _ _ h => h) (yieldsIf_load_mid (by kernel_rfl) _ _ rfl cS 0 (by go_simp) zz _ (fun u hu => hu.rng) Try.underlying33 rfl hiz) S0 ?_
          simp only [Act.put, List.setIfInBounds_toArray, List.set_cons_zero, List.set_cons_succ]
          refine wpAnyH_ready (rs := [2]) (by kernel_rfl) (by simp) ?_
          refine AllReadyH.cons (o := _) rfl (fun K hK => ?_) AllReadyH.nil
          go_simp
          refine (HAT.out w9.drew B0).mono ?_
          rintro e u1 ⟨ra, rfl, hra, bb1⟩
          have B1 : Below w9.heap.size w9 u1 := below_and B0 (Nat.le_refl _) bb1
          have S1 := S0.below bb1
          try go_simp
          refine hK.out _ _ S1 (fun hHeld => ?_)
          clear hK K hHeld
          refine wpAnyH_ready (rs := [4]) (by kernel_rfl) (by simp) ?_
          refine AllReadyH.cons (o := _) rfl (fun K hK => ?_) AllReadyH.nil
          go_simp
          refine (sameSl_eq u1 ra zz _ (mov_sl _ _ _ _ _ _ hra (Nat.le_refl _) Mv.any) (mov_sl _ _ _ _ _ _ HZ.out B1.size (Mv.below B1))).mono ?_
          rintro e u2 ⟨rfl, bb2⟩
          have S2 := S1.below bb2
          try go_simp
          refine hK.out _ _ S2 (fun hHeld => ?_)
          clear hK K hHeld
          refine wpAnyH_take (i := 5) (v := .bool false) rfl (by kernel_rfl) (by kernel_rfl) (by kernel_rfl) (fun _ _ _ h => h) (Or.inl ⟨by kernel_rfl, fun u hSu => by go_simp⟩) S2 ?_
          simp only [Act.put, List.setIfInBounds_toArray, List.set_cons_zero, List.set_cons_succ]
          refine wpAnyH_done (by kernel_rfl) ?_ _
          have hB2 := below_and (below_and hB9 (Nat.le_refl _) B1) (Nat.le_refl _) bb2
          go_wp2_with fail
          go_roundw
          case rel => exact ⟨p + 1, by omega, by go_num, hB2⟩
          case measure => simp [intOf]; omega
        · rw [if_pos (by omega)] at hac
          have dk : decide (k ≤ up) = false := by simpa using hku
          go_upto_region 29 with fail
          have r9 := r8
          have hB9 := hBr8
          have hz9 := hsl8
          have hlz := hr2l
          rw [← hac] at hz9
          generalize hw89 : w8 = w9 at *
          generalize hrz : r2 = zz at *
          have h9 := h7.below hB9
          have hAT := fun u hu => atW_any u (h9.below hu) k
          have HAT := (show Hid (∀ u, Below w9.heap.size w9 u → Calls Try.prog 12 #[.pointer (some ⟨b, 0, none⟩), .int .i64 k] u fun e w' => ∃ r, e = .returned (.agg r.toArray) ∧ RSl (From u.heap.size) w' r (atL (cutW kn up) k) ∧ Below u.heap.size u w') from hAT)
          have HZ := (show Hid (RSl Any w9 zz (atL (cutW kn up) k)) from hz9)
          have hiz : (Try.prog.info? 33).map (·.size) = some zz.length := by rw [hlz]; kernel_rfl
          clear hAT hz9 hac h8 h9 hsl8
          have B0 : Below w9.heap.size w9 w9.drew := ⟨rfl, rfl, rfl, Nat.le_refl _, fun _ _ => rfl⟩
          have S0 := r9.below B0
          try go_simp
          refine wp_region_held_drew (S := fun u => Row u cS 33 zz) (by kernel_rfl) S0 (fun hHeld => ?_)
          clear hHeld
          refine wpAnyH_take (i := 0) (v := .pointer (some ⟨b, 0, none⟩)) rfl (by kernel_rfl) (by kernel_rfl) (by kernel_rfl) (fun _ _ _ h => h) (Or.inl ⟨by kernel_rfl, fun u hSu => by go_simp⟩) S0 ?_
          simp only [Act.put, List.setIfInBounds_toArray, List.set_cons_zero, List.set_cons_succ]
          refine wpAnyH_take (i := 1) (v := .int .i64 k) rfl (by kernel_rfl) (by kernel_rfl) (by kernel_rfl) (fun _ _ _ h => h) (Or.inl ⟨by kernel_rfl, fun u hSu => by go_simp⟩) S0 ?_
          simp only [Act.put, List.setIfInBounds_toArray, List.set_cons_zero, List.set_cons_succ]
          refine wpAnyH_take (i := 3) (v := .agg zz.toArray) rfl (by kernel_rfl) (by kernel_rfl) (by kernel_rfl) (fun _ _ _ h => h) (yieldsIf_load_mid (by kernel_rfl) _ _ rfl cS 0 (by go_simp) zz _ (fun u hu => hu.rng) Try.underlying33 rfl hiz) S0 ?_
          simp only [Act.put, List.setIfInBounds_toArray, List.set_cons_zero, List.set_cons_succ]
          refine wpAnyH_ready (rs := [2]) (by kernel_rfl) (by simp) ?_
          refine AllReadyH.cons (o := _) rfl (fun K hK => ?_) AllReadyH.nil
          go_simp
          refine (HAT.out w9.drew B0).mono ?_
          rintro e u1 ⟨ra, rfl, hra, bb1⟩
          have B1 : Below w9.heap.size w9 u1 := below_and B0 (Nat.le_refl _) bb1
          have S1 := S0.below bb1
          try go_simp
          refine hK.out _ _ S1 (fun hHeld => ?_)
          clear hK K hHeld
          refine wpAnyH_ready (rs := [4]) (by kernel_rfl) (by simp) ?_
          refine AllReadyH.cons (o := _) rfl (fun K hK => ?_) AllReadyH.nil
          go_simp
          refine (sameSl_eq u1 ra zz _ (mov_sl _ _ _ _ _ _ hra (Nat.le_refl _) Mv.any) (mov_sl _ _ _ _ _ _ HZ.out B1.size (Mv.below B1))).mono ?_
          rintro e u2 ⟨rfl, bb2⟩
          have S2 := S1.below bb2
          try go_simp
          refine hK.out _ _ S2 (fun hHeld => ?_)
          clear hK K hHeld
          refine wpAnyH_take (i := 5) (v := .bool false) rfl (by kernel_rfl) (by kernel_rfl) (by kernel_rfl) (fun _ _ _ h => h) (Or.inl ⟨by kernel_rfl, fun u hSu => by go_simp⟩) S2 ?_
          simp only [Act.put, List.setIfInBounds_toArray, List.set_cons_zero, List.set_cons_succ]
          refine wpAnyH_done (by kernel_rfl) ?_ _
          have hB2 := below_and (below_and hB9 (Nat.le_refl _) B1) (Nat.le_refl _) bb2
          go_wp2_with fail
          go_roundw
          case rel => exact ⟨p + 1, by omega, by go_num, hB2⟩
          case measure => simp [intOf]; omega
end
end Go.Proofs.Ytjloehkolnjnhaa
