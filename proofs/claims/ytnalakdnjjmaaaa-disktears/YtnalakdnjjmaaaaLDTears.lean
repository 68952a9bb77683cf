/- catenarylaw11.DiskTears: its walk. -/
import Derived.Test.YtnalakdnjjmaaaaLDRoom
set_option linter.unusedVariables false
set_option linter.unusedSimpArgs false
namespace Go.Proofs.Ytnalakdnjjmaaaa
open Go.RowKit Oct

/-- The first k texts, one behind the other. -/
def flk (ll : List (List Int)) (k : Nat) : List Int := (ll.take k).flatten
theorem flk_snoc {ll : List (List Int)} {k : Nat} {x : List Int} (h : ll[k]? = some x) : flk ll (k + 1) = flk ll k ++ x := by
  unfold flk
  rw [List.take_add_one, h]
  simp
theorem flk_le (ll : List (List Int)) (k : Nat) : (flk ll k).length ≤ ll.flatten.length := by
  unfold flk
  conv => rhs; rw [← List.take_append_drop k ll]
  rw [List.flatten_append, List.length_append]
  omega
theorem flk_all (ll : List (List Int)) : flk ll ll.length = ll.flatten := by unfold flk; rw [List.take_length]
theorem flk_byt {ll : List (List Int)} (h : ∀ x ∈ ll, Byt x) (k : Nat) : Byt (flk ll k) := fun z hz => by
  obtain ⟨q, hq, hzq⟩ := List.mem_flatten.1 hz
  exact h q (List.mem_of_mem_take hq) z hzq
/-- A disk that is to break after n writes, one that broke. -/
def tdA (l : List Int) (n t : Int) : PDk := ⟨l, 4194304, false, true, n, t⟩
def tdB (l : List Int) : PDk := ⟨l, 4194304, true, false, 0, 0⟩
theorem tdA_no {l : List Int} {n t m : Int} (h : m ≤ 4194304) : noD (tdA l n t) m = 0 := by
  unfold noD tdA
  rw [if_neg (by simp), if_neg (by simp only; omega)]
theorem ap_tick {l x : List Int} {n t : Int} (h : l.length + x.length ≤ 4194304) (hn : 0 < n) : apD (tdA l n t) x = (tdA (l ++ x) (n - 1) t, 0) := by
  have h0 : noD (tdA l n t) ((tdA l n t).l.length + x.length) = 0 := tdA_no (by simp only [tdA]; omega)
  have hn0 : n ≠ 0 := by omega
  unfold apD
  rw [if_neg (fun h => h h0), if_neg (by simp [brD, tdA, hn0])]
  simp [coD, tdA, hn0]
theorem ap_tear {l x : List Int} {t : Int} (h : l.length + x.length ≤ 4194304) : apD (tdA l 0 t) x = (tdB (l ++ x.take (wit t x.length).toNat), 115) := by
  have h0 : noD (tdA l 0 t) ((tdA l 0 t).l.length + x.length) = 0 := tdA_no (by simp only [tdA]; omega)
  unfold apD
  rw [if_neg (fun h => h h0), if_pos (by simp [brD, tdA])]
  rfl
theorem ap_dead {l x : List Int} : apD (tdB l) x = (tdB l, 115) := by
  have h0 : noD (tdB l) ((tdB l).l.length + x.length) = 115 := by unfold noD tdB; rw [if_pos rfl]
  unfold apD
  rw [h0, if_pos (by decide)]

theorem nw_full : nwD 4194304 = ⟨[], 4194304, false, false, 0, 0⟩ := by kernel_rfl
/-- Where the second loop stands. -/
def Trn (A : Nat) (t : Int) (ll : List (List Int)) (wr : World) (b B k : Nat) (vw s12 : Value) : Prop :=
  ∃ vd, Fr B vd ∧ Fr B vw ∧ (∀ g, vd.ownBlock = some g → vw.ownBlock ≠ some g) ∧
    ((k ≤ A ∧ s12 = .int .i64 (-1) ∧ Dsk wr b vd (tdA (flk ll k) ((A : Int) - k) t) ∧ Own wr 5 vw (bc (flk ll k))) ∨
      (A < k ∧ s12 = .int .i64 (A : Int) ∧ (∃ x, ll[A]? = some x ∧ Dsk wr b vd (tdB (flk ll A ++ x.take (wit t x.length).toNat))) ∧ Own wr 5 vw (bc (flk ll A))))

set_option maxRecDepth 10000 in
set_option maxHeartbeats 4000000 in
theorem tearsD_any (w : World) (v0 : Value) (ll : List (List Int)) (a t : Int) (h0 : RL RTx 1 Any w v0 ll) (z0 : szL 24 szT ll) (ha : a ≤ 9223372036854775807) :
    Calls Try.prog 5 #[v0, .int .i64 a, .int .i64 t] w fun e w' => e = .returned (.bool true) ∧ Below w.heap.size w w' := by
  have le := Nat.le_refl w.heap.size
  have h0A := h0
  obtain ⟨a0, c0, rfl, hc0⟩ := h0.form
  obtain ⟨N, hN⟩ : ∃ N, N = ll.length := ⟨_, rfl⟩
  have HT := (show Hid (∀ (k : Nat) (x : List Int), ll[k]? = some x → ∃ b off cap u, Value.slice a0 N c0 = .slice (some ⟨b, off, none⟩) N cap ∧ N ≤ cap ∧ cap ≤ maxLen ∧ x.length ≤ 140737488351232 ∧ ∀ w', Below w.heap.size w w' → w'.cell? ⟨b, off + k, none⟩ = some u ∧ Rd w' u x) from fun k x hx => by
    obtain ⟨b, off, cap, u, e, e1, e2, e3⟩ := texts_at h0A k x hx
    rw [← hN] at e e1
    exact ⟨b, off, cap, u, e, e1, e2, z0.2 x (List.mem_of_getElem? hx), e3⟩)
  have HBY := (show Hid (∀ x ∈ ll, Byt x) from fun x hx => by
    obtain ⟨i, hi, e⟩ := List.getElem_of_mem hx
    obtain ⟨_, _, _, u, _, _, _, _, h⟩ := HT.out i x (by rw [List.getElem?_eq_getElem hi, e])
    exact (h w (Below.refl _ _)).2.1)
  have hNm : (N : Int) ≤ 9223372036854775807 := by
    rcases Nat.eq_zero_or_pos N with h | h
    · omega
    · obtain ⟨_, _, cap, _, e, e1, _⟩ := h0A.at (by omega)
      unfold maxLen at e1
      omega
  rw [← hN]
  have HN := (show Hid (ll.length = N) from hN.symm)
  obtain ⟨A, hA⟩ : ∃ A : Nat, (A : Int) = max 0 a := ⟨(max 0 a).toNat, Int.toNat_of_nonneg (by omega)⟩
  have HA := (show Hid ((A : Int) = max 0 a) from hA)
  have hAm : (A : Int) ≤ 9223372036854775807 := by omega
  clear hN h0 h0A hc0 z0 hA
  go_enter Try.func5, Try.ntmps5
  go_wp2_with (go_at_call 8; refine (diskAlive_any w).mono ?_; rintro e w1 ⟨rfl, hb1⟩)
  go_loopw [7, 22] (fun s i wr => ∃ k : Nat, k ≤ N ∧ i = .int .i64 k ∧ s = .int .i64 ((flk ll k).length : Int) ∧ (flk ll k).length ≤ 1000000 ∧ wr = w1) (fun _ i _ => N - (intOf i).toNat)
  case atStart => exact ⟨0, by omega, rfl, rfl, by simp [flk], rfl⟩
  case round =>
    obtain ⟨k, hk, rfl, rfl, hs, hwr⟩ := hrel
    rw [hwr]
    clear hwr
    by_cases hkl : k < N
    · obtain ⟨x, hx⟩ : ∃ x, ll[k]? = some x := ⟨_, List.getElem?_eq_getElem (by have := HN.out; omega)⟩
      obtain ⟨tb, to, tc, u, et, ht1, ht2, hxl, htx⟩ := HT.out k x hx
      injection et with et1 _ et3
      subst et1 et3
      have hki : (k : Int) < (N : Int) := by omega
      have hcu := (htx w1 hb1).1
      obtain ⟨au, cu, hu, hcu2⟩ := (htx w1 hb1).2.form
      have hsn := flk_snoc hx
      obtain ⟨X, hX⟩ : ∃ X, X = x.length := ⟨_, rfl⟩
      obtain ⟨L, hL⟩ : ∃ L, L = (flk ll k).length := ⟨_, rfl⟩
      have HL' := (show Hid ((flk ll (k + 1)).length = L + X) by show _ = _; rw [hsn, List.length_append, hX, hL])
      rw [← hX] at hu hxl
      rw [← hL] at hs ⊢
      subst hu
      have hXb : (X : Int) ≤ 140737488351232 := by omega
      have hLb : (L : Int) ≤ 1000000 := by omega
      clear hx htx hX hL hsn hcu2 hxl hs
      by_cases hfit : (1000000 : Int) - L < X
      · go_wp2_with fail
        go_ret
        exact ⟨rfl, hb1⟩
      · have hfit' : decide ((1000000 : Int) - L < X) = false := decide_eq_false hfit
        go_wp2_with fail
        go_roundw
        case rel => exact ⟨k + 1, by omega, by go_num, by rw [HL'.out]; go_num, by rw [HL'.out]; omega, trivial⟩
        case measure => simp [intOf]; omega
    · have hki : decide ((k : Int) < (N : Int)) = false := by simp; omega
      obtain rfl : k = ll.length := by have := HN.out; omega
      rw [flk_all] at hs
      have HS := (show Hid (ll.flatten.length ≤ 1000000) from hs)
      clear hs hk
      have HK := (show Hid (∀ k, (flk ll k).length ≤ 1000000) from fun k => Nat.le_trans (flk_le ll k) HS.out)
      have HBK := (show Hid (∀ k, Byt (flk ll k)) from fun k => flk_byt HBY.out k)
      generalize (flk ll ll.length).length = TOT
      go_wp2_with fail
      refine (newD_any w1 4194304).mono ?_
      rintro e w2 ⟨b, rfl, hb, hd2, hb2⟩
      rw [nw_full] at hd2
      go_wp2_with fail
      refine (break_any w2 b _ _ a t hd2 ha).mono ?_
      rintro e w3 ⟨rfl, hd3, hg3⟩
      go_wp2_with fail
      have hB2 := below_and hb1 le hb2
      have hbw : w.heap.size ≤ b := Nat.le_trans hb1.size hb
      have hB3 : Below w.heap.size w w3 := hB2.trans (grown_below hg3 hB2.size (fun k hk => by cases hk; exact hbw))
      have hd3' : Dsk w3 b (.slice none 0 0) (tdA (flk ll 0) ((A : Int) - (0 : Nat)) t) := by
        have e : tdA (flk ll 0) ((A : Int) - (0 : Nat)) t = bkD ⟨[], 4194304, false, false, 0, 0⟩ a t := by
          unfold tdA bkD flk
          rw [← HA.out]
          simp
        rw [e]
        exact hd3
      have hal := below_alloc w3 (.cells #[] 5)
      have hd4 := hd3'.below hal
      have hB4 := below_and hB3 le hal
      have how4 := own_zero w3 5
      have hfw4 : Fr w.heap.size (.slice (some ⟨w3.heap.size, 0, none⟩) 0 0) := fr_at _ _ _ _ hB3.size
      clear hd3 hd3' hg3 hd2 hb2 hB2 hb hal hB3 hb1
      go_loopw [11, 12, 46] (fun vw s12 i wr => ∃ k : Nat, k ≤ N ∧ i = .int .i64 k ∧ Trn A t ll wr b w.heap.size k vw s12 ∧ Below w.heap.size w wr) (fun _ _ i _ => N - (intOf i).toNat)
      case atStart => exact ⟨0, by omega, rfl, ⟨_, Fr.nil _, hfw4, fun g hg => absurd hg nil_ne, .inl ⟨Nat.zero_le _, rfl, hd4, how4⟩⟩, hB4⟩
      case round =>
        clear hd4 how4 hfw4 hB4
        obtain ⟨k, hk, rfl, hT, hB⟩ := hrel
        by_cases hkl : k < N
        · obtain ⟨x, hx⟩ : ∃ x, ll[k]? = some x := ⟨_, List.getElem?_eq_getElem (by have := HN.out; omega)⟩
          obtain ⟨tb, to, tc, u, et, ht1, ht2, hxl, htx⟩ := HT.out k x hx
          injection et with et1 _ et3
          subst et1 et3
          have hki : (k : Int) < (N : Int) := by omega
          have hcu := (htx wr hB).1
          have hxr := (htx wr hB).2
          have hsn := flk_snoc hx
          have hxb : (flk ll k).length + x.length ≤ 1000000 := by have := HK.out (k + 1); rw [hsn, List.length_append] at this; exact this
          have HSN := (show Hid (flk ll (k + 1) = flk ll k ++ x) from hsn)
          have HXX := (show Hid (ll[k]? = some x) from hx)
          have HXB := (show Hid ((flk ll k).length + x.length ≤ 1000000) from hxb)
          have HUL := (show Hid (∀ w', Below w.heap.size w w' → Rd w' u x) from fun w' hw => (htx w' hw).2)
          obtain ⟨au, cu, hu, hcu2⟩ := hxr.form
          clear hx htx hsn hxb hxl
          obtain ⟨X, hX⟩ : ∃ X, X = x.length := ⟨_, rfl⟩
          rw [← hX] at hu
          have HXL := (show Hid (x.length = X) from hX.symm)
          clear hX hcu2
          subst hu
          obtain ⟨vd, hfd, hfv, hap, hT⟩ := hT
          rcases hT with ⟨hkA, rfl, hd, how⟩ | ⟨hkA, rfl, ⟨xA, hxA, hd⟩, how⟩
          · by_cases hkA' : k < A
            · have hpos : (0 : Int) < (A : Int) - k := by omega
              go_upto_region 21 with (first
                | (at_builtin; refine app_copy rfl _ _ rfl rfl _ x rfl hxr (by have := HXB.out; omega) ?_; intro o4 w4 hown4 hfr4 hb4; have hd4 := hd.below hb4)
                | (go_at_call 11; refine (appendD_any w4 b _ o4 _ x hd4 (hown4.rd hxr.1) (fun _ => hd4.nu hown4) (fun _ q hq e => by have := hfr4 q e; have := hd.own.lt q hq; omega) (by have := HXB.out; omega)).mono ?_; rintro e w5 ⟨v5, rfl, hd5, hg5, hs5⟩; rw [ap_tick (by have := HXB.out; omega) hpos] at hd5 ⊢))
              have hB4 := below_and hB le hb4
              have how4 := how.below hb4
              have hB5 : Below w.heap.size w w5 := hB4.trans (hg5.below hB4.size hbw hfd)
              have how5 := hg5.own how4 (hd4.nu how4) hap
              have hf5 : Fr w.heap.size v5 := by rcases hs5 with h | h; exact fun q hq => hfd q (h ▸ hq); exact h.mono hB4.size
              have hap5 : ∀ g, v5.ownBlock = some g → u11.ownBlock ≠ some g := by
                rcases hs5 with h | h
                · exact fun g hg => hap g (h ▸ hg)
                · exact fun g hg e => by have := h g hg; have := how4.lt g e; omega
              have hx5 := HUL.out w5 hB5
              clear hd4 hB4 how4 hown4 hfr4 hb4 hs5 hg5
              go_wp2_with (at_builtin; refine app_bytes rfl _ _ rfl _ (flk ll k) rfl how5 _ x rfl hx5.2 (by have := HXB.out; omega) ?_; intro o6 w6 happ6)
              have hB6 : Below w.heap.size w w6 := hB5.trans (happ6.below hfv hB5.size)
              have hd6 := hd5.grown happ6.grown (hd5.nu how5) (fun g hg e => hap5 g e hg)
              have hf6 := happ6.fr hfv hB5.size
              have hap6 : ∀ g, v5.ownBlock = some g → o6.ownBlock ≠ some g := by
                rcases happ6.spot with h | h
                · exact fun g hg e => hap5 g hg (h ▸ e)
                · exact fun g hg e => by have := h g e; have := hd5.own.lt g hg; omega
              have how6 := happ6.own
              rw [← HSN.out] at hd6 how6
              go_roundw
              case rel => exact ⟨k + 1, by omega, by go_num, ⟨_, hf5, hf6, hap6, .inl ⟨by omega, rfl, by rw [show (A : Int) - ((k + 1 : Nat) : Int) = (A : Int) - k - 1 by omega]; exact hd6, how6⟩⟩, hB6⟩
              case measure => simp [intOf]; omega
            · obtain rfl : k = A := by omega
              rw [show ((k : Int) - (k : Int)) = 0 by omega] at hd
              go_upto_region 21 with (first
                | (at_builtin; refine app_copy rfl _ _ rfl rfl _ x rfl hxr (by have := HXB.out; omega) ?_; intro o4 w4 hown4 hfr4 hb4; have hd4 := hd.below hb4)
                | (go_at_call 11; refine (appendD_any w4 b _ o4 _ x hd4 (hown4.rd hxr.1) (fun _ => hd4.nu hown4) (fun _ q hq e => by have := hfr4 q e; have := hd.own.lt q hq; omega) (by have := HXB.out; omega)).mono ?_; rintro e w5 ⟨v5, rfl, hd5, hg5, hs5⟩; rw [ap_tear (by have := HXB.out; omega)] at hd5 ⊢))
              have hB4 := below_and hB le hb4
              have how4 := how.below hb4
              have hB5 : Below w.heap.size w w5 := hB4.trans (hg5.below hB4.size hbw hfd)
              have how5 := hg5.own how4 (hd4.nu how4) hap
              have hf5 : Fr w.heap.size v5 := by rcases hs5 with h | h; exact fun q hq => hfd q (h ▸ hq); exact h.mono hB4.size
              have hap5 : ∀ g, v5.ownBlock = some g → u11.ownBlock ≠ some g := by
                rcases hs5 with h | h
                · exact fun g hg => hap g (h ▸ hg)
                · exact fun g hg e => by have := h g hg; have := how4.lt g e; omega
              clear hd4 hB4 how4 hown4 hfr4 hb4 hs5 hg5
              go_wp2_with fail
              go_roundw
              case rel => exact ⟨k + 1, by omega, by go_num, ⟨_, hf5, hfv, hap5, .inr ⟨by omega, rfl, ⟨x, HXX.out, hd5⟩, how5⟩⟩, hB5⟩
              case measure => simp [intOf]; omega
          · have hA0 : (0 : Int) ≤ (A : Int) := by omega
            have HXA := (show Hid (ll[A]? = some xA) from hxA)
            clear hxA
            go_upto_region 21 with (first
                | (at_builtin; refine app_copy rfl _ _ rfl rfl _ x rfl hxr (by have := HXB.out; omega) ?_; intro o4 w4 hown4 hfr4 hb4; have hd4 := hd.below hb4)
                | (go_at_call 11; refine (appendD_any w4 b _ o4 _ x hd4 (hown4.rd hxr.1) (fun _ => hd4.nu hown4) (fun _ q hq e => by have := hfr4 q e; have := hd.own.lt q hq; omega) (by have := HXB.out; omega)).mono ?_; rintro e w5 ⟨v5, rfl, hd5, hg5, hs5⟩; rw [ap_dead] at hd5 ⊢))
            have hB4 := below_and hB le hb4
            have how4 := how.below hb4
            have hB5 : Below w.heap.size w w5 := hB4.trans (hg5.below hB4.size hbw hfd)
            have how5 := hg5.own how4 (hd4.nu how4) hap
            have hf5 : Fr w.heap.size v5 := by rcases hs5 with h | h; exact fun q hq => hfd q (h ▸ hq); exact h.mono hB4.size
            have hap5 : ∀ g, v5.ownBlock = some g → u11.ownBlock ≠ some g := by
                rcases hs5 with h | h
                · exact fun g hg => hap g (h ▸ hg)
                · exact fun g hg e => by have := h g hg; have := how4.lt g e; omega
            clear hd4 hB4 how4 hown4 hfr4 hb4 hs5 hg5
            go_wp2_with fail
            go_roundw
            case rel => exact ⟨k + 1, by omega, by go_num, ⟨_, hf5, hfv, hap5, .inr ⟨by omega, rfl, ⟨xA, HXA.out, hd5⟩, how5⟩⟩, hB5⟩
            case measure => simp [intOf]; omega
        · have hki : decide ((k : Int) < (N : Int)) = false := by simp; omega
          have hkN : k = N := by omega
          obtain ⟨vd, hfd, hfv, hap, hT⟩ := hT
          have hbN := HBK.out
          have hlk := HK.out k
          rcases hT with ⟨hkA, rfl, hd, how⟩ | ⟨hkA, rfl, ⟨xA, hxA, hd⟩, how⟩
          · have HNA := (show Hid (N ≤ A) by show _ ≤ _; omega)
            clear hkN hkA
            have hHA := HA.out
            go_upto_region 30 with (go_at_call 22; refine (bytesD_any wr b _ _ hd).mono ?_; rintro e w3 ⟨v3, rfl, ho3, hf3, hb3⟩)
            have hB3 := below_and hB le hb3
            have how3 := how.below hb3
            have HS3 := (show Hid (∀ _ : Unit, _) from fun _ => same_any w3 _ _ _ _ (ho3.rd (HBK.out k)) (how3.rd (HBK.out k)))
            by_cases h0a : 0 ≤ a
            · have hge : (N : Int) ≤ a := by have := HNA.out; omega
              clear hHA
              go_wp2_with (go_at_call 21; refine (HS3.out ()).mono ?_; rintro e w4 ⟨rfl, rfl⟩; rw [decide_eq_true (show (tdA (flk ll k) ((A : Int) - k) t).l = flk ll k from rfl)])
              go_ret
              exact ⟨rfl, hB3⟩
            · have hge : (N : Int) ≤ 0 := by have := HNA.out; omega
              have h0a' : a < 0 := by omega
              have HN0 := (show Hid (N = 0) by show _ = _; omega)
              clear hHA
              go_wp2_with (go_at_call 21; refine (HS3.out ()).mono ?_; rintro e w4 ⟨rfl, rfl⟩; rw [decide_eq_true (show (tdA (flk ll k) ((A : Int) - k) t).l = flk ll k from rfl)])
              go_ret
              exact ⟨congrArg (fun x => Ending.returned (.bool x)) (decide_eq_true HN0.out), hB3⟩
          · obtain ⟨tb, to, tc, u, et, ht1, ht2, hxl, htx⟩ := HT.out A xA hxA
            injection et with et1 _ et3
            subst et1 et3
            have hsn := flk_snoc hxA
            have hxb : (flk ll A).length + xA.length ≤ 1000000 := by have := HK.out (A + 1); rw [hsn, List.length_append] at this; exact this
            have hwd := wit_bd (n := t) (m := (xA.length : Int)) (by omega)
            obtain ⟨q, hq⟩ : ∃ q : Nat, wit t xA.length = (q : Int) := ⟨_, (Int.toNat_of_nonneg hwd.1).symm⟩
            rw [hq, Int.toNat_natCast] at hd
            obtain ⟨X, hX⟩ : ∃ X, X = xA.length := ⟨_, rfl⟩
            obtain ⟨L, hL⟩ : ∃ L, L = (flk ll A).length := ⟨_, rfl⟩
            have hqX : q ≤ X := by omega
            have hqi : (q : Int) ≤ X := by omega
            have hXb : (X : Int) ≤ 1000000 := by omega
            have hLb : (L : Int) ≤ 1000000 := by omega
            have HXL := (show Hid (xA.length = X) from hX.symm)
            have HLL := (show Hid ((flk ll A).length = L) from hL.symm)
            have HQ := (show Hid (wit t X = (q : Int)) by show _ = _; rw [hX]; exact hq)
            have HD := (show Hid ((flk ll A ++ xA.take q).length = L + q) by show _ = _; rw [List.length_append, List.length_take, ← hL, ← hX]; omega)
            have HXR := (show Hid (∀ w', Below w.heap.size w w' → w'.cell? ⟨tb, to + A, none⟩ = some u ∧ Rd w' u xA) from htx)
            have hAN : (A : Int) < (N : Int) := by omega
            obtain ⟨au, cu, hu, hcu2⟩ := (HXR.out wr hB).2.form
            rw [← hX] at hu
            obtain ⟨ar, cr, har, hcr, hcr2, hfront⟩ := (HXR.out wr hB).2.front q (by omega)
            rw [hu, ← hX] at har
            injection har with ha1 _ ha3
            subst ha1 ha3
            have hcut := run_cutD au X cu q hqX (by omega)
            subst hu
            obtain ⟨aw, cw, ew, _⟩ := how.form
            rw [bc_len, ← hL] at ew
            have HFR := (show Hid (∀ w', Below w.heap.size w w' → Rd w' (.slice au q cu) (xA.take q)) from fun w' hw => by
              obtain ⟨ar, cr, har, _, _, hf⟩ := (HXR.out w' hw).2.front q (by have := HXL.out; omega)
              injection har with ha1 _ ha3
              subst ha1 ha3
              exact hf)
            clear hxA hxl htx hsn hxb hwd hq hX hL hcr hcr2 hfront hcu2 hkN hkA hlk
            subst ew
            have hA0 : (0 : Int) ≤ (A : Int) := by omega
            go_upto_region 32 with (go_at_call 22; refine (bytesD_any wr b _ _ hd).mono ?_; rintro e w3 ⟨v3, rfl, ho3, hf3, hb3⟩; have ho3 : Own w3 5 v3 (bc (flk ll A ++ xA.take q)) := ho3; obtain ⟨av3, cv3, e3, _⟩ := ho3.form; rw [bc_len, HD.out] at e3; subst e3)
            have hB3 := below_and hB le hb3
            have how3 := how.below hb3
            have hcu := (HXR.out w3 hB3).1
            have hfr := HFR.out w3 hB3
            rw [show ((L : Int) + (q : Int) - (L : Int)) = (q : Int) by omega]
            have hqn : (0 : Int) ≤ (q : Int) := by omega
            have HS3 := (show Hid (∀ (w4 : World) (o : Value), App w3 5 (.slice aw L cw) w4 o (bc (flk ll A ++ xA.take q)) → Calls Try.prog 21 #[.slice av3 (L + q) cv3, o] w4 fun e w' => e = .returned (.bool true) ∧ w' = w4) from fun w4 o happ => by
              have hby : Byt (flk ll A ++ xA.take q) := (HBK.out A).app ((HXR.out w3 hB3).2.1.take q)
              have := same_any w4 _ o _ _ ((ho3.grown happ.grown (fun g hg e => by have h1 := hf3 g e; have h2 := how.lt g (by rw [ownB_len _ _ _ L cw]; exact hg); omega)).rd hby) (happ.own.rd hby)
              rwa [decide_eq_true rfl] at this)
            have HSZ := (show Hid ((flk ll A).length + (xA.take q).length ≤ 140737488355328) by show _ ≤ _; rw [List.length_take, HXL.out, HLL.out]; omega)
            by_cases h0a : a < 0
            · have heq : ((A : Int) == 0) = true := by have := HA.out; simp; omega
              by_cases ht0 : t < 0
              · have hq1 : ((q : Int) == t) = false := by simp; omega
                have hq2 : ((q : Int) == 0) = true := by have := HQ.out; unfold wit at this; simp; omega
                go_wp2_with (first
                  | (at_builtin; refine app_bytes_w rfl _ _ rfl _ (flk ll A) rfl how3 _ (xA.take q) rfl hfr.2 HSZ.out ?_; intro o4 w4 happ4; have hcu4 := (HXR.out w4 (hB3.trans (happ4.below hfv hB3.size))).1)
                  | (go_at_call 21; refine (HS3.out _ _ happ4).mono ?_; rintro e w4 ⟨rfl, rfl⟩))
                go_ret
                exact ⟨rfl, hB3.trans (happ4.below hfv hB3.size)⟩
              by_cases htX : t ≤ X
              · have hq1 : ((q : Int) == t) = true := by have := HQ.out; unfold wit at this; simp; omega
                go_wp2_with (first
                  | (at_builtin; refine app_bytes_w rfl _ _ rfl _ (flk ll A) rfl how3 _ (xA.take q) rfl hfr.2 HSZ.out ?_; intro o4 w4 happ4; have hcu4 := (HXR.out w4 (hB3.trans (happ4.below hfv hB3.size))).1)
                  | (go_at_call 21; refine (HS3.out _ _ happ4).mono ?_; rintro e w4 ⟨rfl, rfl⟩))
                go_ret
                exact ⟨rfl, hB3.trans (happ4.below hfv hB3.size)⟩
              · have hq1 : ((q : Int) == t) = false := by simp; omega
                have hq2 : ((q : Int) == (X : Int)) = true := by have := HQ.out; unfold wit at this; simp; omega
                have hq3 : decide (t < 0) = false := by simp; omega
                have hq4 : (X : Int) < t := by omega
                go_wp2_with (first
                  | (at_builtin; refine app_bytes_w rfl _ _ rfl _ (flk ll A) rfl how3 _ (xA.take q) rfl hfr.2 HSZ.out ?_; intro o4 w4 happ4; have hcu4 := (HXR.out w4 (hB3.trans (happ4.below hfv hB3.size))).1)
                  | (go_at_call 21; refine (HS3.out _ _ happ4).mono ?_; rintro e w4 ⟨rfl, rfl⟩))
                go_ret
                exact ⟨rfl, hB3.trans (happ4.below hfv hB3.size)⟩
            · have heq : ((A : Int) == a) = true := by have := HA.out; simp; omega
              have h0a' : 0 ≤ a := by omega
              by_cases ht0 : t < 0
              · have hq1 : ((q : Int) == t) = false := by simp; omega
                have hq2 : ((q : Int) == 0) = true := by have := HQ.out; unfold wit at this; simp; omega
                go_wp2_with (first
                  | (at_builtin; refine app_bytes_w rfl _ _ rfl _ (flk ll A) rfl how3 _ (xA.take q) rfl hfr.2 HSZ.out ?_; intro o4 w4 happ4; have hcu4 := (HXR.out w4 (hB3.trans (happ4.below hfv hB3.size))).1)
                  | (go_at_call 21; refine (HS3.out _ _ happ4).mono ?_; rintro e w4 ⟨rfl, rfl⟩))
                go_ret
                exact ⟨rfl, hB3.trans (happ4.below hfv hB3.size)⟩
              by_cases htX : t ≤ X
              · have hq1 : ((q : Int) == t) = true := by have := HQ.out; unfold wit at this; simp; omega
                go_wp2_with (first
                  | (at_builtin; refine app_bytes_w rfl _ _ rfl _ (flk ll A) rfl how3 _ (xA.take q) rfl hfr.2 HSZ.out ?_; intro o4 w4 happ4; have hcu4 := (HXR.out w4 (hB3.trans (happ4.below hfv hB3.size))).1)
                  | (go_at_call 21; refine (HS3.out _ _ happ4).mono ?_; rintro e w4 ⟨rfl, rfl⟩))
                go_ret
                exact ⟨rfl, hB3.trans (happ4.below hfv hB3.size)⟩
              · have hq1 : ((q : Int) == t) = false := by simp; omega
                have hq2 : ((q : Int) == (X : Int)) = true := by have := HQ.out; unfold wit at this; simp; omega
                have hq3 : decide (t < 0) = false := by simp; omega
                have hq4 : (X : Int) < t := by omega
                go_wp2_with (first
                  | (at_builtin; refine app_bytes_w rfl _ _ rfl _ (flk ll A) rfl how3 _ (xA.take q) rfl hfr.2 HSZ.out ?_; intro o4 w4 happ4; have hcu4 := (HXR.out w4 (hB3.trans (happ4.below hfv hB3.size))).1)
                  | (go_at_call 21; refine (HS3.out _ _ happ4).mono ?_; rintro e w4 ⟨rfl, rfl⟩))
                go_ret
                exact ⟨rfl, hB3.trans (happ4.below hfv hB3.size)⟩
end Go.Proofs.Ytnalakdnjjmaaaa
