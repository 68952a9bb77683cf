/- catenarylaw13.BagCopies: its walk. -/
import Derived.Test.YtikfldigjieloaaBa4
import Derived.Test.YtikfldigjieloaaLst
import Derived.Deep.CutBlock
set_option linter.unusedVariables false
set_option linter.unusedSimpArgs false
namespace Go.Proofs.Ytikfldigjieloaa
open Go.RowKit Oct Kvl

theorem keepP {w u : World} {p : Addr} {v : Value} (hb : Below w.heap.size w u) (h : w.cell? p = some v) : u.cell? p = some v := (hb.cell (World.block_lt_of_cell? w p h)).trans h
theorem own_sliceP {w : World} {e : TypeId} {v : Value} {xs : List Value} (h : Own w e v xs) : ∃ ao n cap, v = .slice ao n cap := by
  obtain ⟨ao, cap, h, _⟩ := h.form
  exact ⟨ao, _, cap, h⟩
theorem getD_at {ys : List PPk} {k : Nat} (h : k < ys.length) : ys[k]? = some (ys.getD k pk0) := by rw [List.getD, List.getElem?_eq_getElem h]; rfl
theorem getD_left {ys zs : List PPk} {k : Nat} (h : k < ys.length) : (ys ++ zs).getD k pk0 = ys.getD k pk0 := by simp only [List.getD]; rw [List.getElem?_append_left h]
theorem getD_last {ys : List PPk} {x : PPk} : (ys ++ [x]).getD ys.length pk0 = x := by simp only [List.getD]; rw [List.getElem?_append_right (Nat.le_refl _), Nat.sub_self]; rfl
/-- What is left behind a copy of n and the loss of n. -/
theorem left_at {ys : List PPk} {x : PPk} {n k : Nat} (hn : n < ys.length) (hk : k < ys.length) : ((ys ++ [x]).take n ++ (ys ++ [x]).drop (n + 1)).getD k pk0 = if k < n then ys.getD k pk0 else if k + 1 < ys.length then ys.getD (k + 1) pk0 else x := by
  have ht : ((ys ++ [x]).take n).length = n := by rw [List.length_take, List.length_append]; simp; omega
  by_cases h : k < n
  · rw [if_pos h, getD_left (by omega)]
    simp only [List.getD]
    rw [List.getElem?_take, if_pos h, List.getElem?_append_left hk]
  · rw [if_neg h]
    simp only [List.getD]
    rw [List.getElem?_append_right (by omega), ht, List.getElem?_drop, show n + 1 + (k - n) = k + 1 by omega]
    by_cases h2 : k + 1 < ys.length
    · rw [if_pos h2, List.getElem?_append_left h2]
    · rw [if_neg h2, List.getElem?_append_right (by omega), show k + 1 - ys.length = 0 by omega]
      rfl

set_option maxRecDepth 10000 in
set_option maxHeartbeats 2000000 in
theorem copiesG_any (w : World) (v0 : Value) (ys : List PPk) (i : Int) (h0 : RL RPk 3 Any w v0 ys) (z0 : szL 40 (fun x : PPk => szT x.2.2) ys) :
    Calls Try.prog 6 #[v0, .int .i64 i] w fun e w' => e = .returned (.bool true) ∧ Below w.heap.size w w' := by
  have le := Nat.le_refl w.heap.size
  have hA := pks_at h0 z0
  obtain ⟨a0, c0, rfl, hc0⟩ := h0.form
  obtain ⟨N, hN⟩ : ∃ N, N = ys.length := ⟨_, rfl⟩
  rw [← hN] at hA ⊢
  have HA := (show Hid (∀ (k : Nat), k < N → ∃ b off cap s, Value.slice a0 N c0 = .slice (some ⟨b, off, none⟩) N cap ∧ N ≤ cap ∧ cap ≤ maxLen ∧ s.oneCell' = true ∧ szT (ys.getD k pk0).2.2 ∧
    ∀ w', Below w.heap.size w w' → w'.rangeAt b (off + k * 3) [.int .i64 (ys.getD k pk0).1, .int .i64 (ys.getD k pk0).2.1, s] ∧ RT Any w' s (ys.getD k pk0).2.2) from hA)
  have HN := (show Hid (ys.length = N) from hN.symm)
  clear hN hA h0 hc0 z0
  by_cases h300 : (300 : Int) < N
  · go_enter Try.func6, Try.ntmps6
    go_wp2_with (go_at_call 7; refine (bagAlive_any w).mono ?_; rintro e w1 ⟨rfl, hb1⟩)
    go_ret
    exact ⟨rfl, hb1⟩
  have h300' : decide ((300 : Int) < N) = false := decide_eq_false h300
  by_cases hi0 : i < 0
  · go_enter Try.func6, Try.ntmps6
    go_wp2_with (go_at_call 7; refine (bagAlive_any w).mono ?_; rintro e w1 ⟨rfl, hb1⟩)
    go_ret
    exact ⟨rfl, hb1⟩
  have hi0' : decide (i < 0) = false := decide_eq_false hi0
  by_cases hiN : (N : Int) ≤ i
  · go_enter Try.func6, Try.ntmps6
    go_wp2_with (go_at_call 7; refine (bagAlive_any w).mono ?_; rintro e w1 ⟨rfl, hb1⟩)
    go_ret
    exact ⟨rfl, hb1⟩
  obtain ⟨n, rfl⟩ : ∃ n : Nat, i = (n : Int) := ⟨i.toNat, by omega⟩
  have hn : n < N := by omega
  have hni : (n : Int) < (N : Int) := by omega
  have hiN' : decide ((N : Int) ≤ (n : Int)) = false := decide_eq_false hiN
  have hNb : (N : Int) ≤ 300 := by omega
  obtain ⟨tb, tof, tc, s0, et, ht1, ht2, _, _, htx⟩ := HA.out n hn
  injection et with et1 _ et3
  subst et1 et3
  have HA : Hid (∀ (k : Nat), k < N → ∃ s, s.oneCell' = true ∧ szT (ys.getD k pk0).2.2 ∧ ∀ w', Below w.heap.size w w' → w'.rangeAt tb (tof + k * 3) [.int .i64 (ys.getD k pk0).1, .int .i64 (ys.getD k pk0).2.1, s] ∧ RT Any w' s (ys.getD k pk0).2.2) := fun k hk => by
    obtain ⟨b, off, cap, s, e, h1, h2, h3, h4, h5⟩ := HA.out k hk
    injection e with e1 _ _
    injection e1 with e1
    injection e1 with e1 e2
    subst e1 e2
    exact ⟨s, h3, h4, h5⟩
  clear htx hiN hi0 h300
  go_enter Try.func6, Try.ntmps6
  go_upto_region 5 with (go_at_call 7; refine (bagAlive_any w).mono ?_; rintro e w1 ⟨rfl, hb1⟩)
  go_upto_region 6 with (go_at_call 8; refine (newX_any w w1 hb1).mono ?_; rintro e w2 ⟨b, rfl, hb2⟩)
  clear hb1
  have hb2 : Bx w w2 b (ys.take 0) := hb2
  go_wp2_with fail
  go_loopw [34] (fun j wr => ∃ k : Nat, k ≤ N ∧ j = .int .i64 k ∧ Bx w wr b (ys.take k)) (fun j _ => N - (intOf j).toNat)
  case atStart => exact ⟨0, by omega, rfl, hb2⟩
  case round =>
    clear hb2
    obtain ⟨k, hk, rfl, hB⟩ := hrel
    by_cases hkl : k < N
    · obtain ⟨s, hs1, hzk, hx⟩ := HA.out k hkl
      have hki : (k : Int) < (N : Int) := by omega
      have hrng := (hx wr hB.bel).1
      have HX := (show Hid (∀ w', Below w.heap.size w w' → RT Any w' s (ys.getD k pk0).2.2) from fun w' hw => (hx w' hw).2)
      have HT := (show Hid (ys.take (k + 1) = ys.take k ++ [ys.getD k pk0]) from take_snoc' ys k _ (getD_at (by rw [HN.out]; exact hkl)))
      have HL := (show Hid ((ys.take k).length < 4096) by show _ < _; rw [List.length_take]; omega)
      generalize ys.getD k pk0 = x at *
      obtain ⟨p, q, l⟩ := x
      simp only at hrng HX HT hzk
      obtain ⟨as', cs', rfl, _⟩ := (HX.out wr hB.bel).form
      have hrow0 := Row.new wr 29 [.int .i64 0, .int .i64 0, .slice none 0 0]
      clear hx
      go_upto_region 9 with (first
        | (refine wpList_load_mid rfl _ _ rfl tb (tof + k * 3) rfl [.int .i64 p, .int .i64 q, .slice as' l.length cs'] _ hrng Try.underlying29 rfl (by kernel_rfl) ?_)
        | (refine wl_store rfl _ _ _ rfl wr.heap.size [.int .i64 p, .int .i64 q, .slice as' l.length cs'] rfl rfl _ _ hrow0 rfl (by kernel_rfl) (onP3 rfl) ?_; intro w5 hr5 hg5))
      have hb5 : Below wr.heap.size wr w5 := (below_alloc wr (.cells ([.int .i64 0, .int .i64 0, .slice none 0 0] : List Value).toArray 29)).trans (grown_below hg5 (by simp) (fun k hk => by cases hk; exact Nat.le_refl _))
      have hr5 := hr5.out
      have hl5 : wr.heap.size < w5.heap.size := hr5.lt
      have hs5 := (HX.out w5 (below_and hB.bel le hb5)).1
      have p0 := hr5.cell (j := 0) rfl
      have p1 := hr5.cell (j := 1) rfl
      have p2 := hr5.cell (j := 2) rfl
      have SK := (show Hid (∀ u : World, u.heap[wr.heap.size]? = w5.heap[wr.heap.size]? → u.cell? ⟨wr.heap.size, 0, none⟩ = some (.int .i64 p) ∧ u.cell? ⟨wr.heap.size, 1, none⟩ = some (.int .i64 q) ∧ u.cell? ⟨wr.heap.size, 2, none⟩ = some (.slice as' l.length cs')) from fun u hu => ⟨(World.cell?_of_block (a := ⟨wr.heap.size, 0, none⟩) hu).trans p0, (World.cell?_of_block (a := ⟨wr.heap.size, 1, none⟩) hu).trans p1, (World.cell?_of_block (a := ⟨wr.heap.size, 2, none⟩) hu).trans p2⟩)
      have HP := (show Hid (∀ u s', Below w5.heap.size w5 u → RT Any u s' l → Calls Try.prog 9 #[.pointer (some ⟨b, 0, none⟩), .agg ([.int .i64 p, .int .i64 q, s'] : List Value).toArray] u fun e w' => e = .returned (.int .i64 0) ∧ Bx w w' b (ys.take k ++ [(p, q, l)]) ∧ w'.heap[wr.heap.size]? = w5.heap[wr.heap.size]?) from fun u s' hu hs' => (putX_at w wr u b _ hB (below_and hb5 (Nat.le_refl _) hu) HL.out _ (p, q, l) ⟨s', rfl, hs'⟩ hzk).mono fun e w' ⟨h1, h2, h3⟩ => ⟨h1, h2, (h3 _ (Nat.le_refl _) (by have := hu.size; omega)).trans (hu.block _ hl5)⟩)
      have hln : ([] : List Int).length + l.length ≤ 140737488355328 := by simp only [List.length_nil]; unfold szT at hzk; omega
      clear hrng hrow0 hg5 hB
      go_region_held3 (fun u => u.cell? ⟨wr.heap.size, 0, none⟩ = some (.int .i64 p) ∧ u.cell? ⟨wr.heap.size, 1, none⟩ = some (.int .i64 q) ∧ u.cell? ⟨wr.heap.size, 2, none⟩ = some (.slice as' l.length cs'))
        (first | exact SK.out _ (by assumption) | go_keep)
        (first
          | (refine step_bytes (by rfl) _ _ (by rfl) (.slice (some ⟨w5.heap.size, 0, none⟩) 0 0) [] (by rfl) (own_zero w5 5).drew (.slice as' l.length cs') l (by rfl) (hs5.below (below_alloc w5 _)).2.drew hln ?_; intro v6 w6 happ6; have hb6 : Below w5.heap.size w5 w6 := ((below_alloc w5 _).drew).trans (happ6.below (fr_at _ _ _ _ (Nat.le_refl _)) (by simp)); have hR6 : RT Any w6 v6 l := ⟨Own.rd (l := l) (by simpa using happ6.own) hs5.1, fun _ _ _ => trivial⟩; obtain ⟨ao6, n6, c6, rfl⟩ := own_sliceP happ6.own; have hk6 : w6.heap[wr.heap.size]? = w5.heap[wr.heap.size]? := hb6.block _ hl5)
          | (go_at_call 9; refine (HP.out w6 _ hb6 hR6).mono ?_; rintro e w8 ⟨rfl, hb8, hk8⟩))
      rw [← HT.out] at hb8
      go_wp2_with fail
      go_roundw
      case rel => exact ⟨k + 1, by omega, by go_num, hb8⟩
      case measure => simp [intOf]; omega
    · obtain rfl : k = N := by omega
      have hkk : decide ((k : Int) < (k : Int)) = false := by simp
      have hl0 : ys.length = k := HN.out
      have hB : Bx w wr b ys := by
        have e : ys.take k = ys := by rw [← hl0, List.take_length]
        rwa [e] at hB
      obtain ⟨sn, hsn1, hzn, hxn⟩ := HA.out n hn
      obtain ⟨X, hX⟩ : ∃ X, X = ys.getD n pk0 := ⟨_, rfl⟩
      have HCp := (show Hid (Calls Try.prog 11 #[.pointer (some ⟨b, 0, none⟩), .int .i64 (n : Int)] wr fun e w' => e = .returned (.int .i64 0) ∧ Bx w w' b (ys ++ [X])) from by
        rw [hX]
        exact (copyX_ok w wr b ys hB n (by omega) (by omega)).mono fun e w' h => ⟨h.1, h.2.1⟩)
      have HLn := (show Hid (∀ u, Bx w u b (ys ++ [X]) → Calls Try.prog 12 #[.pointer (some ⟨b, 0, none⟩)] u fun e w' => e = .returned (.int .i64 ((k : Int) + 1)) ∧ w' = u) from fun u h => by
        have := lenX_any w u b _ h
        rw [List.length_append, hl0] at this
        exact this)
      have HAt := (show Hid (∀ u, Bx w u b (ys ++ [X]) → Calls Try.prog 10 #[.pointer (some ⟨b, 0, none⟩), .int .i64 (k : Int)] u fun e w' => ∃ s, e = .returned (.tuple #[.agg ([.int .i64 X.1, .int .i64 X.2.1, s] : List Value).toArray, .int .i64 0]) ∧ OT (From u.heap.size) w' s X.2.2 ∧ Below u.heap.size u w' ∧ Bx w w' b (ys ++ [X])) from fun u h => by
        have := atX_ok w u b _ h k (by rw [List.length_append, hl0]; simp)
        have e : (ys ++ [X]).getD k pk0 = X := by rw [← hl0]; exact getD_last
        rwa [e] at this)
      have HTk := (show Hid (∀ u, Bx w u b (ys ++ [X]) → Calls Try.prog 15 #[.pointer (some ⟨b, 0, none⟩), .int .i64 (n : Int)] u fun e w' => ∃ s, e = .returned (.tuple #[.agg ([.int .i64 X.1, .int .i64 X.2.1, s] : List Value).toArray, .int .i64 0]) ∧ OT (From u.heap.size) w' s X.2.2 ∧ Bx w w' b ((ys ++ [X]).take n ++ (ys ++ [X]).drop (n + 1))) from fun u h => by
        have := takeX_ok w u b _ h n (by rw [List.length_append, hl0]; simp; omega)
        have e : (ys ++ [X]).getD n pk0 = X := by rw [getD_left (by omega), hX]
        rw [e] at this
        exact this.mono fun e w' ⟨s, h1, h2, h3, _⟩ => ⟨s, h1, h2, h3⟩)
      have HLe := (show Hid (∀ q, q < k → ((ys ++ [X]).take n ++ (ys ++ [X]).drop (n + 1)).getD q pk0 = if q < n then ys.getD q pk0 else if q + 1 < k then ys.getD (q + 1) pk0 else X) from fun q hq => by
        rw [left_at (by omega) (by omega), hl0])
      have HLl := (show Hid (((ys ++ [X]).take n ++ (ys ++ [X]).drop (n + 1)).length = k) by
        show _ = _
        rw [List.length_append, List.length_take, List.length_drop, List.length_append, hl0]
        simp
        omega)
      generalize (ys ++ [X]).take n ++ (ys ++ [X]).drop (n + 1) = zs at *
      have HX := (show Hid (∀ w', Below w.heap.size w w' → w'.rangeAt tb (tof + n * 3) [.int .i64 X.1, .int .i64 X.2.1, sn] ∧ RT Any w' sn X.2.2) from by rw [hX]; exact hxn)
      have HXX := (show Hid (X = ys.getD n pk0) from hX)
      clear hX hxn hzn hl0 hB
      obtain ⟨p, q, l⟩ := X
      simp only at HCp HLn HAt HTk HX
      have hwk : IntKind.i64.wrap ((k : Int) + 1) = (k : Int) + 1 := wrapP (by omega) (by omega)
      obtain ⟨as', cs', rfl, _⟩ := (HX.out w (Below.refl _ _)).2.form
      go_upto_region 13 with (first
        | (go_at_call 11; refine HCp.out.mono ?_; rintro e w3 ⟨rfl, hb3⟩)
        | (go_at_call 12; refine (HLn.out w3 hb3).mono ?_; rintro e w3 ⟨rfl, rfl⟩))
      go_upto_region 14 with (first
        | (go_at_call 10; refine (HAt.out w3 hb3).mono ?_; rintro e w4 ⟨s4, rfl, o4, hb34, hb4⟩; have rn := Row.new w4 29 [.int .i64 0, .int .i64 0, .slice none 0 0])
        | (refine wl_store rfl _ _ _ rfl w4.heap.size [.int .i64 p, .int .i64 q, s4] rfl rfl _ _ rn rfl (by kernel_rfl) (onP3 o4.one) ?_; intro w5 hr5 hg5))
      have hb45 : Below w4.heap.size w4 w5 := (below_alloc w4 (.cells ([.int .i64 0, .int .i64 0, .slice none 0 0] : List Value).toArray 29)).trans (grown_below hg5 (by simp) (fun k hk => by cases hk; exact Nat.le_refl _))
      have hb5 := hb4.below hb45
      have hr5 := hr5.out
      have o5 := o4.mv (Mv.belowG hb45)
      obtain ⟨a4, c4, rfl, _⟩ := o5.rt.form
      have p0 := hr5.cell (j := 0) rfl
      have p1 := hr5.cell (j := 1) rfl
      have p2 := hr5.cell (j := 2) rfl
      obtain ⟨hrn, hsn⟩ := HX.out w5 hb5.bel
      have q0 := hrn 0 _ rfl
      have q1 := hrn 1 _ rfl
      have q2 := hrn 2 _ rfl
      rw [Nat.add_zero] at q0
      have SK := (show Hid (∀ u : World, Below w5.heap.size w5 u → (u.cell? ⟨w4.heap.size, 0, none⟩ = some (.int .i64 p) ∧ u.cell? ⟨w4.heap.size, 1, none⟩ = some (.int .i64 q) ∧ u.cell? ⟨w4.heap.size, 2, none⟩ = some (.slice a4 l.length c4)) ∧ u.cell? ⟨tb, tof + n * 3, none⟩ = some (.int .i64 p) ∧ u.cell? ⟨tb, tof + n * 3 + 1, none⟩ = some (.int .i64 q) ∧ u.cell? ⟨tb, tof + n * 3 + 2, none⟩ = some (.slice as' l.length cs')) from fun u hu => ⟨⟨keepP hu p0, keepP hu p1, keepP hu p2⟩, keepP hu q0, keepP hu q1, keepP hu q2⟩)
      have hdw := bel_drewP w5
      have HSm := (show Hid (∀ u, Below w5.heap.size w5 u → Calls Try.prog 17 #[.agg ([.int .i64 p, .int .i64 q, .slice a4 l.length c4] : List Value).toArray, .agg ([.int .i64 p, .int .i64 q, .slice as' l.length cs'] : List Value).toArray] u fun e w' => e = .returned (.bool true) ∧ Below w5.heap.size w5 w') from fun u hu => (samePk_eq u _ _ (p, q, l) ⟨_, rfl, (o5.rt.mv (fun _ _ _ => ⟨rfl, trivial⟩)).mv (Mv.below hu)⟩ ⟨_, rfl, hsn.mv (Mv.below hu)⟩).mono fun e w' ⟨h1, h2⟩ => ⟨h1, below_and hu (Nat.le_refl _) h2⟩)
      clear rn hg5 hrn hb34 hb4 hb45
      go_cut [79] from 69 to 79 (fun s79 wx => s79 = .bool false ∧ Below w5.heap.size w5 wx)
      case first =>
        go_region_held3 (fun u => (u.cell? ⟨w4.heap.size, 0, none⟩ = some (.int .i64 p) ∧ u.cell? ⟨w4.heap.size, 1, none⟩ = some (.int .i64 q) ∧ u.cell? ⟨w4.heap.size, 2, none⟩ = some (.slice a4 l.length c4)) ∧ u.cell? ⟨tb, tof + n * 3, none⟩ = some (.int .i64 p) ∧ u.cell? ⟨tb, tof + n * 3 + 1, none⟩ = some (.int .i64 q) ∧ u.cell? ⟨tb, tof + n * 3 + 2, none⟩ = some (.slice as' l.length cs'))
          (first | (with_reducible exact SK.out _ hb6) | (with_reducible exact SK.out _ hdw) | (with_reducible exact SK.out _ (Below.refl _ _)) | go_keep)
          (first | (go_at_call 17; refine (HSm.out _ (by first | (with_reducible exact hdw) | (with_reducible exact Below.refl _ _))).mono ?_; rintro e w6 ⟨rfl, hb6⟩))
        all_goals (
          go_wp2_with fail
          go_meet
          exact ⟨rfl, hb6⟩)
      case rest =>
        obtain ⟨rfl, hbc⟩ := hcut
        have hBc := hb5.below hbc
        clear SK HSm hdw p0 p1 p2 q0 q1 q2 hr5 o4 o5 hsn hb5 hbc HCp HAt HLn
        go_upto_region 17 with (first
          | (go_at_call 15; refine (HTk.out wc hBc).mono ?_; rintro e w6 ⟨s6, rfl, o6, hb6⟩; have rn := Row.new w6 29 [.int .i64 0, .int .i64 0, .slice none 0 0])
          | (refine wl_store rfl _ _ _ rfl w6.heap.size [.int .i64 p, .int .i64 q, s6] rfl rfl _ _ rn rfl (by kernel_rfl) (onP3 o6.one) ?_; intro w7 hr7 hg7))
        have hb67 : Below w6.heap.size w6 w7 := (below_alloc w6 (.cells ([.int .i64 0, .int .i64 0, .slice none 0 0] : List Value).toArray 29)).trans (grown_below hg7 (by simp) (fun k hk => by cases hk; exact Nat.le_refl _))
        have hb7 := hb6.below hb67
        have hr7 := hr7.out
        have o7 := o6.mv (Mv.belowG hb67)
        obtain ⟨a6, c6, rfl, _⟩ := o7.rt.form
        have p0 := hr7.cell (j := 0) rfl
        have p1 := hr7.cell (j := 1) rfl
        have p2 := hr7.cell (j := 2) rfl
        obtain ⟨hrn, hsn⟩ := HX.out w7 hb7.bel
        have q0 := hrn 0 _ rfl
        have q1 := hrn 1 _ rfl
        have q2 := hrn 2 _ rfl
        rw [Nat.add_zero] at q0
        have SK := (show Hid (∀ u : World, Below w7.heap.size w7 u → (u.cell? ⟨w6.heap.size, 0, none⟩ = some (.int .i64 p) ∧ u.cell? ⟨w6.heap.size, 1, none⟩ = some (.int .i64 q) ∧ u.cell? ⟨w6.heap.size, 2, none⟩ = some (.slice a6 l.length c6)) ∧ u.cell? ⟨tb, tof + n * 3, none⟩ = some (.int .i64 p) ∧ u.cell? ⟨tb, tof + n * 3 + 1, none⟩ = some (.int .i64 q) ∧ u.cell? ⟨tb, tof + n * 3 + 2, none⟩ = some (.slice as' l.length cs')) from fun u hu => ⟨⟨keepP hu p0, keepP hu p1, keepP hu p2⟩, keepP hu q0, keepP hu q1, keepP hu q2⟩)
        have hdw := bel_drewP w7
        have HSm := (show Hid (∀ u, Below w7.heap.size w7 u → Calls Try.prog 17 #[.agg ([.int .i64 p, .int .i64 q, .slice a6 l.length c6] : List Value).toArray, .agg ([.int .i64 p, .int .i64 q, .slice as' l.length cs'] : List Value).toArray] u fun e w' => e = .returned (.bool true) ∧ Below w7.heap.size w7 w') from fun u hu => (samePk_eq u _ _ (p, q, l) ⟨_, rfl, (o7.rt.mv (fun _ _ _ => ⟨rfl, trivial⟩)).mv (Mv.below hu)⟩ ⟨_, rfl, hsn.mv (Mv.below hu)⟩).mono fun e w' ⟨h1, h2⟩ => ⟨h1, below_and hu (Nat.le_refl _) h2⟩)
        have HLn := (show Hid (∀ u, Below w7.heap.size w7 u → Calls Try.prog 12 #[.pointer (some ⟨b, 0, none⟩)] u fun e w' => e = .returned (.int .i64 (k : Int)) ∧ w' = u) from fun u h => by
          have := lenX_any w u b _ (hb7.below h)
          rwa [HLl.out] at this)
        clear rn hg7 hrn hb67 hb6 hBc HTk
        go_cut [103] from 86 to 103 (fun s103 wx => s103 = .bool false ∧ Below w7.heap.size w7 wx)
        case first =>
          go_region_held3 (fun u => (u.cell? ⟨w6.heap.size, 0, none⟩ = some (.int .i64 p) ∧ u.cell? ⟨w6.heap.size, 1, none⟩ = some (.int .i64 q) ∧ u.cell? ⟨w6.heap.size, 2, none⟩ = some (.slice a6 l.length c6)) ∧ u.cell? ⟨tb, tof + n * 3, none⟩ = some (.int .i64 p) ∧ u.cell? ⟨tb, tof + n * 3 + 1, none⟩ = some (.int .i64 q) ∧ u.cell? ⟨tb, tof + n * 3 + 2, none⟩ = some (.slice as' l.length cs'))
            (first | (with_reducible exact SK.out _ hb8) | (with_reducible exact SK.out _ hdw) | (with_reducible exact SK.out _ (Below.refl _ _)) | go_keep)
            (first
              | (go_at_call 12; refine (HLn.out _ (by first | (with_reducible exact hb8) | (with_reducible exact hdw) | (with_reducible exact Below.refl _ _))).mono ?_; rintro e w9 ⟨rfl, rfl⟩)
              | (go_at_call 17; refine (HSm.out _ (by first | (with_reducible exact hdw) | (with_reducible exact Below.refl _ _))).mono ?_; rintro e w8 ⟨rfl, hb8⟩))
          all_goals (
            go_wp2_with fail
            go_meet
            exact ⟨rfl, hb8⟩)
        case rest =>
          obtain ⟨rfl, hbc⟩ := hcut
          have hBc := hb7.below hbc
          clear SK HSm hdw p0 p1 p2 q0 q1 q2 hr7 o6 o7 hsn hb7 hbc HLn
          go_wp2_with fail
          go_loopw [106] (fun j wr => ∃ m : Nat, m ≤ k ∧ j = .int .i64 m ∧ Bx w wr b zs) (fun j _ => k - (intOf j).toNat)
          case atStart => exact ⟨0, by omega, rfl, hBc⟩
          case round =>
            clear hBc
            obtain ⟨m, hm, rfl, hB⟩ := hrel
            by_cases hml : m < k
            · have hmi : (m : Int) < (k : Int) := by omega
              have hA := atX_ok w wr b zs hB m (by rw [HLl.out]; exact hml)
              obtain ⟨Y, hY⟩ : ∃ Y, Y = zs.getD m pk0 := ⟨_, rfl⟩
              rw [← hY] at hA
              have hw : ∃ (o : Nat) (s : Value), s.oneCell' = true ∧ (∀ w', Below w.heap.size w w' → w'.rangeAt tb (tof + o * 3) [.int .i64 Y.1, .int .i64 Y.2.1, s] ∧ RT Any w' s Y.2.2) ∧ ((m < n ∧ o = m) ∨ (¬ m < n ∧ m + 1 < k ∧ o = m + 1) ∨ (¬ m < n ∧ ¬ m + 1 < k ∧ o = n ∧ Y = (p, q, l) ∧ s = .slice as' l.length cs')) := by
                rw [hY, HLe.out m hml]
                by_cases c1 : m < n
                · rw [if_pos c1]
                  obtain ⟨s, h1, _, h3⟩ := HA.out m hml
                  exact ⟨m, s, h1, h3, .inl ⟨c1, rfl⟩⟩
                · rw [if_neg c1]
                  by_cases c2 : m + 1 < k
                  · rw [if_pos c2]
                    obtain ⟨s, h1, _, h3⟩ := HA.out (m + 1) c2
                    exact ⟨m + 1, s, h1, h3, .inr (.inl ⟨c1, c2, rfl⟩)⟩
                  · rw [if_neg c2]
                    exact ⟨n, _, rfl, HX.out, .inr (.inr ⟨c1, c2, rfl, rfl, rfl⟩)⟩
              obtain ⟨o, s, hs1, hxo, hcs⟩ := hw
              have HXO := (show Hid (∀ w', Below w.heap.size w w' → w'.rangeAt tb (tof + o * 3) [.int .i64 Y.1, .int .i64 Y.2.1, s] ∧ RT Any w' s Y.2.2) from hxo)
              have HM := (show Hid (m + 1 ≤ k) by show _ ≤ _; omega)
              clear hY hxo
              obtain ⟨p', q', l'⟩ := Y
              simp only at hA HXO
              go_upto_region 23 with (first
                | (go_at_call 10; refine hA.mono ?_; rintro e w4 ⟨s4, rfl, o4, hb34, hb4⟩; have rn := Row.new w4 29 [.int .i64 0, .int .i64 0, .slice none 0 0])
                | (refine wl_store rfl _ _ _ rfl w4.heap.size [.int .i64 p', .int .i64 q', s4] rfl rfl _ _ rn rfl (by kernel_rfl) (onP3 o4.one) ?_; intro w5 hr5 hg5))
              have hb45 : Below w4.heap.size w4 w5 := (below_alloc w4 (.cells ([.int .i64 0, .int .i64 0, .slice none 0 0] : List Value).toArray 29)).trans (grown_below hg5 (by simp) (fun k hk => by cases hk; exact Nat.le_refl _))
              have hb5 := hb4.below hb45
              have hr5 := hr5.out
              have o5 := o4.mv (Mv.belowG hb45)
              obtain ⟨a4, c4, rfl, _⟩ := o5.rt.form
              have hl45 : w4.heap.size < w5.heap.size := hr5.lt
              have rn5 := Row.new w5 29 [.int .i64 0, .int .i64 0, .slice none 0 0]
              have hrn := (HX.out w5 hb5.bel).1
              clear rn hg5 hb34 hb4 hb45 hB hA
              go_upto_region 24 with (first
                | (refine wpList_load_mid rfl _ _ rfl tb (tof + n * 3) rfl [.int .i64 p, .int .i64 q, .slice as' l.length cs'] _ hrn Try.underlying29 rfl (by kernel_rfl) ?_)
                | (refine wl_store rfl _ _ _ rfl w5.heap.size [.int .i64 p, .int .i64 q, .slice as' l.length cs'] rfl rfl _ _ rn5 rfl (by kernel_rfl) (onP3 rfl) ?_; intro w6 hr6 hg6))
              have hb56 : Below w5.heap.size w5 w6 := (below_alloc w5 (.cells ([.int .i64 0, .int .i64 0, .slice none 0 0] : List Value).toArray 29)).trans (grown_below hg6 (by simp) (fun k hk => by cases hk; exact Nat.le_refl _))
              have hb6 := hb5.below hb56
              have r46 := hr5.below hb56
              have o6 := o5.mv (Mv.belowG hb56)
              have r56 := hr6.out
              have hro := (HXO.out w6 hb6.bel).1
              have HSm := (show Hid (∀ u, Below w6.heap.size w6 u ∨ w6.grownBy u (some w5.heap.size) → Below w.heap.size w u → Calls Try.prog 17 #[.agg ([.int .i64 p', .int .i64 q', .slice a4 l'.length c4] : List Value).toArray, .agg ([.int .i64 p', .int .i64 q', s] : List Value).toArray] u fun e w' => e = .returned (.bool true) ∧ Below u.heap.size u w') from fun u hu hb => by
                have o7 : RT Any u (.slice a4 l'.length c4) l' := by
                  rcases hu with hu | hu
                  · exact (o6.rt.mv (fun _ _ _ => ⟨rfl, trivial⟩)).mv (Mv.below hu)
                  · exact ((o6.ne r56 (by decide)).mv (G' := Any) fun j hj hl => ⟨hu.block j hl (fun e => hj.2 (by injection e)), trivial⟩).rt
                exact samePk_eq u _ _ (p', q', l') ⟨_, rfl, o7⟩ ⟨_, rfl, (HXO.out u hb).2⟩)
              have hws := hb6.bel.size
              have hw5 : w.heap.size ≤ w5.heap.size := hb5.bel.size
              have HB6 := (show Hid (Bx w w6 b zs) from hb6)
              have HG6 := (show Hid (∀ u, w6.grownBy u (some w5.heap.size) → Bx w u b zs) from fun u hu => by
                obtain ⟨vb, h5⟩ := hb5
                have h6 := h5.below hb56
                exact ⟨vb, h6.bg.box r56 (by decide) hu (by have := h5.bg.lt; omega) (fun e => by have := h5.bg.lst.lt _ e; omega), h6.bel.trans (grown_below hu hws (fun j hj => by cases hj; exact hw5)), h6.fr, h6.hb⟩)
              clear rn5 hg6 hr6 hrn hb5 hr5 o4 o5 hb6 hb56
              obtain ⟨as2, cs2, hss, _⟩ := (HXO.out w (Below.refl _ _)).2.form
              rcases hcs with ⟨c1, rfl⟩ | ⟨c1, c2, rfl⟩ | ⟨c1, c2, rfl, hYe, hse⟩
              · subst hss
                have c1' : (o : Int) < (n : Int) := by omega
                go_wp2_with (first
                  | (refine wpList_load_mid rfl _ _ rfl tb (tof + o * 3) rfl [.int .i64 p', .int .i64 q', .slice as2 l'.length cs2] _ hro Try.underlying29 rfl (by kernel_rfl) ?_)
                  | (refine wl_store rfl _ _ _ rfl w5.heap.size [.int .i64 p', .int .i64 q', .slice as2 l'.length cs2] rfl rfl _ _ r56 rfl (by kernel_rfl) (onP3 rfl) ?_; intro w7 hr7 hg7; have r47 := r46.grown hg7 (fun e => by injection e with e; omega); have r57 := hr7.out; have hb7 := HG6.out w7 hg7)
                  | (refine wl_load rfl _ _ rfl w4.heap.size rfl _ _ r47 _ Try.underlying29 rfl (by kernel_rfl) ?_)
                  | (refine wl_load rfl _ _ rfl w5.heap.size rfl _ _ r57 _ Try.underlying29 rfl (by kernel_rfl) ?_)
                  | (go_at_call 17; refine (HSm.out w7 (.inr hg7) hb7.bel).mono ?_; rintro e w8 ⟨rfl, hb8⟩))
                go_roundw
                case rel => exact ⟨o + 1, HM.out, by go_num, hb7.below hb8⟩
                case measure => simp [intOf]; omega
              · subst hss
                have c1' : decide ((m : Int) < (n : Int)) = false := by simp; omega
                have c2' : (m : Int) + 1 < (k : Int) := by omega
                have hwm : IntKind.i64.wrap ((m : Int) + 1) = (m : Int) + 1 := wrapP (by omega) (by omega)
                have htn : ((m : Int) + 1).toNat = m + 1 := by omega
                have hm0 : (0 : Int) ≤ (m : Int) + 1 := by omega
                go_wp2_with (first
                  | (refine wpList_load_mid rfl _ _ rfl tb (tof + (m + 1) * 3) rfl [.int .i64 p', .int .i64 q', .slice as2 l'.length cs2] _ hro Try.underlying29 rfl (by kernel_rfl) ?_)
                  | (refine wl_store rfl _ _ _ rfl w5.heap.size [.int .i64 p', .int .i64 q', .slice as2 l'.length cs2] rfl rfl _ _ r56 rfl (by kernel_rfl) (onP3 rfl) ?_; intro w7 hr7 hg7; have r47 := r46.grown hg7 (fun e => by injection e with e; omega); have r57 := hr7.out; have hb7 := HG6.out w7 hg7)
                  | (refine wl_load rfl _ _ rfl w4.heap.size rfl _ _ r47 _ Try.underlying29 rfl (by kernel_rfl) ?_)
                  | (refine wl_load rfl _ _ rfl w5.heap.size rfl _ _ r57 _ Try.underlying29 rfl (by kernel_rfl) ?_)
                  | (go_at_call 17; refine (HSm.out w7 (.inr hg7) hb7.bel).mono ?_; rintro e w8 ⟨rfl, hb8⟩))
                go_roundw
                case rel => exact ⟨m + 1, HM.out, by go_num, hb7.below hb8⟩
                case measure => simp [intOf]; omega
              · injection hYe with e1 e2
                injection e2 with e2 e3
                clear hss
                subst e1 e2 e3 hse
                have c1' : decide ((m : Int) < (o : Int)) = false := by simp; omega
                have c2' : decide ((m : Int) + 1 < (k : Int)) = false := by simp; omega
                have hwm : IntKind.i64.wrap ((m : Int) + 1) = (m : Int) + 1 := wrapP (by omega) (by omega)
                have hb7 := HB6.out
                go_wp2_with (first
                  | (refine wl_load rfl _ _ rfl w4.heap.size rfl _ _ r46 _ Try.underlying29 rfl (by kernel_rfl) ?_)
                  | (refine wl_load rfl _ _ rfl w5.heap.size rfl _ _ r56 _ Try.underlying29 rfl (by kernel_rfl) ?_)
                  | (go_at_call 17; refine (HSm.out w6 (.inl (Below.refl _ _)) hb7.bel).mono ?_; rintro e w8 ⟨rfl, hb8⟩))
                go_roundw
                case rel => exact ⟨m + 1, HM.out, by go_num, hb7.below hb8⟩
                case measure => simp [intOf]; omega
            · have hmd : decide ((m : Int) < (k : Int)) = false := by simp; omega
              go_wp2_with fail
              go_ret
              exact ⟨rfl, hB.bel⟩
end Go.Proofs.Ytikfldigjieloaa
