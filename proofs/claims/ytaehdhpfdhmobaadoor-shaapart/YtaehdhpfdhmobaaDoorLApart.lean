/- catenarylaw02.ShaApart: its walk. -/
import Derived.Test.YtaehdhpfdhmobaaDoorSAlive
namespace Go.Proofs.YtaehdhpfdhmobaaDoor
open Go.RowKit Oct Sha

/-- Same, of like texts. -/
theorem same_as (w : World) (u v : Value) (l : List Int) (ha : Rd w u l) (hb : Rd w v l) : Calls Tryd.prog 8 #[u, v] w fun e w' => e = .returned (.bool true) ∧ w' = w := by
  have := same_any w u v l l ha hb
  rwa [decide_eq_true rfl] at this
theorem hs_keep {w w' : World} {b B : Nat} {l : List Int} {v : Value} (h : Hs w b l) (hg : w.grownBy w' v.ownBlock) (hf : Fr B v) (hb : b < B) : Hs w' b l := h.grown hg (fun e => by have := hf b e; omega)
/-- One place of a row of the call's own is written over. -/
theorem Own.put {w : World} {e : TypeId} {g n cap : Nat} {L : List Int} (h : Own w e (.slice (some ⟨g, 0, none⟩) n cap) (bc L)) (k : Nat) (z : Int) : Own (w.setCell ⟨g, k, none⟩ (.int .u8 z)) e (.slice (some ⟨g, 0, none⟩) n cap) (bc (L.set k z)) := by
  rcases h.2 with ⟨hc, _⟩ | ⟨g', cap', cur, hc, h0, hg, h1, h2, h3, h4⟩
  · cases hc
  · injection hc with e1 e2 e3
    injection e1 with e1
    injection e1 with e1
    subst e1 e3
    refine ⟨by simp [bc], .inr ⟨g, cap, cur.setIfInBounds k (.int .u8 z), by rw [bc_len, List.length_set, e2, bc_len], h0, heap_setCell_same w g k cur e _ hg, by rw [bc_len, List.length_set, ← bc_len]; exact h1, h2, by simpa using h3, ?_⟩⟩
    rw [bc_len, List.length_set, Array.toList_setIfInBounds, List.take_set, ← bc_len, h4]
    simp [bc]
theorem Own.at0 {w : World} {e : TypeId} {ao : Option Addr} {n cap : Nat} {xs : List Value} (h : Own w e (.slice ao n cap) xs) (hl : 0 < xs.length) : ∃ g, ao = some ⟨g, 0, none⟩ := by
  rcases h.2 with ⟨_, h0⟩ | ⟨g', cap', cur, hc, _⟩
  · omega
  · injection hc with e1 e2 e3
    exact ⟨g', e1⟩

theorem Own.bform {w : World} {e : TypeId} {v : Value} {l : List Int} (h : Own w e v (bc l)) : ∃ ao cap, v = .slice ao l.length cap ∧ cap ≤ maxLen := by
  have := h.form
  rwa [bc_len] at this
/-- What is written to one text. -/
theorem write_one (w : World) (b : Nat) (l : List Int) (v : Value) (x : List Int) (hh : Hs w b l) (hr : Rd w v x) (hap : 0 < x.length → ∀ k, v.ownBlock = some k → k ≠ b) (hb0 : b ≠ 0) (ht : Tab w) (hlen : l.length + x.length < 1152921504606846976) :
    Calls Tryd.prog 12 #[.pointer (some ⟨b, 0, none⟩), .slice (some ⟨w.heap.size, 0, none⟩) 1 1] (w.alloc (.cells #[v] 23)) fun e w' => e = .returned (.tuple #[]) ∧ Hs w' b (l ++ x) ∧ w.grownBy w' (some b) := by
  have hal := below_alloc w (.cells #[v] 23)
  have hblt := hh.lt
  refine (write_any _ b l _ [v] [x] (hh.below hal) (rdv_els w [v] 23 (by simp) (by simp)) ⟨hr.below hal, trivial⟩ (fun k hk => by simp [Value.ownBlock] at hk; omega) ?_ hb0 (ht.below hal) (by simpa using hlen)).mono ?_
  · intro i u y hi hy hy0 k hk
    cases i with
    | zero => simp at hi hy; subst hi hy; exact hap hy0 k hk
    | succ i => simp at hi
  · rintro e w' ⟨h1, h2, h3⟩
    rw [List.flatten_singleton] at h2
    exact ⟨h1, h2, grown_trans (grown_of_below hal _) h3 (.inl rfl)⟩

set_option maxRecDepth 10000 in
set_option maxHeartbeats 2000000 in
theorem apart_any (w : World) (va : Value) (a : List Int) (vb : Value) (b : List Int) (hra : Rd w va a) (hrb : Rd w vb b) (hla : a.length ≤ 140737488351232) (hlb : b.length ≤ 140737488351232) (ht : Tab w) :
    Calls Tryd.prog 6 #[va, vb] w fun e w' => e = .returned (.bool true) ∧ Below w.heap.size w w' := by
  have hba := hra.1
  have hbb := hrb.1
  have le := Nat.le_refl w.heap.size
  have hpos := ht.pos
  go_enter Tryd.func6, Tryd.ntmps6
  go_wp2_with fail
  refine (alive_any w ht).mono ?_
  rintro e w1 ⟨rfl, hB1⟩
  go_wp2_with fail
  refine (new_any w1).mono ?_
  rintro e w2 ⟨bh, rfl, hbh, hh2, hb2⟩
  have hB2 := below_and hB1 le hb2
  have hz1 := hB1.size
  have hz2 := hh2.lt
  clear hB1
  go_wp2_with fail
  refine (new_any w2).mono ?_
  rintro e w3 ⟨bg, rfl, hbg, hg3, hb3⟩
  have hB3 := below_and hB2 le hb3
  have hh3 := hh2.below hb3
  have hz3 := hg3.lt
  have hz23 := hb3.size
  have hra3 := hra.below hB3
  clear hB2 hh2 hb2 hb3
  go_wp2_with (at_builtin; refine app_copy rfl _ _ rfl rfl va a rfl hra3 (by omega) ?_; intro own w4 hown hfr hb4; obtain ⟨ao, cap, rfl, hcap⟩ := hown.bform)
  have hB4 := below_and hB3 le hb4
  have hh4 := hh3.below hb4
  have hg4 := hg3.below hb4
  have hz4 := hb4.size
  have HWR := (show Hid (∀ _ : Unit, _) from fun _ => write_one w4 bh [] _ a hh4 (hown.rd hba) (fun _ k hk => by have := hfr k hk; omega) (by omega) (ht.below hB4) (by simp; omega))
  clear hB3 hh3 hg3 hra3 hb4
  refine (HWR.out ()).mono ?_
  rintro e w5 ⟨rfl, hh5, hgr5⟩
  rw [List.nil_append] at hh5
  have hB5 : Below w.heap.size w w5 := hB4.trans (grown_below hgr5 hB4.size (fun k hk => by cases hk; omega))
  have hg5 := hg4.grown hgr5 (by simp; omega)
  have hown5 := hown.grown hgr5 (fun k hk => by cases hk; exact fun e => by have := hfr _ e; omega)
  have hz5 := hgr5.size
  have hai : (a.length : Int) ≤ 140737488351232 := by omega
  clear hB4 hh4 hg4 hown hgr5 HWR
  go_wp2_with fail
  go_loopw [30] (fun i wr => ∃ (k : Nat) (L : List Int), k ≤ a.length ∧ L.length = a.length ∧ i = .int .i64 k ∧ Own wr 5 (.slice ao a.length cap) (bc L) ∧ w5.grownBy wr (Value.slice ao a.length cap).ownBlock) (fun i _ => a.length - (intOf i).toNat)
  case atStart => exact ⟨0, a, by omega, rfl, rfl, hown5, grown_refl _ _⟩
  case round =>
    clear hown5
    obtain ⟨k, L, hk, hL, rfl, hok, hgk⟩ := hrel
    by_cases hka : k < a.length
    · have hki : (k : Int) < (a.length : Int) := by omega
      obtain ⟨g, rfl⟩ := hok.at0 (by rw [bc_len]; omega)
      have hck : wr.cell? ⟨g, k, none⟩ = some (.int .u8 (L.getD k 0)) := by
        have := World.ownsRow.cells hok (g := g) rfl k _ (bc_getD L k (by omega))
        rwa [Addr.add_mid, Nat.zero_add] at this
      have hfk : wr.frozen? ⟨g, k, none⟩ = false := by
        rcases hok.2 with ⟨hc, _⟩ | ⟨g', cap', cur, hc, _, hg, _⟩
        · cases hc
        · injection hc with e1
          injection e1 with e1
          injection e1 with e1
          subst e1
          exact frozen_of_row wr g k cur _ hg
      obtain ⟨y, hy⟩ : ∃ y, y = L.getD k 0 := ⟨_, rfl⟩
      rw [← hy] at hck
      have HP := (show Hid (∀ z, Own (wr.setCell ⟨g, k, none⟩ (.int .u8 z)) 5 (.slice (some ⟨g, 0, none⟩) a.length cap) (bc (L.set k z))) from fun z => hok.put k z)
      have hL1 : L.length ≤ a.length := by omega
      have hL2 : a.length ≤ L.length := by omega
      clear hy hok hL
      go_wp2_with fail
      go_roundw
      case rel => exact ⟨k + 1, L.set k _, by omega, by rw [List.length_set]; omega, by go_num, HP.out _, grown_trans hgk (grown_set _ _ _ _) (.inl rfl)⟩
      case measure => simp [intOf]; omega
    · have hki : ¬ (k : Int) < (a.length : Int) := by omega
      have hB6 : Below w.heap.size w wr := hB5.trans (grown_below hgk hB5.size (fun k hk => by have := hfr k hk; omega))
      have hh6 := hs_keep hh5 hgk hfr (by omega)
      have hg6 := hs_keep hg5 hgk hfr hz3
      have hz6 := hgk.size
      have hrb6 := hrb.below hB6
      clear hok hgk hB5 hh5 hg5 hL
      go_wp2_with (at_builtin; refine app_copy rfl _ _ rfl rfl vb b rfl hrb6 (by omega) ?_; intro own2 w7 hown7 hfr7 hb7; obtain ⟨ao2, cap2, rfl, hcap2⟩ := hown7.bform)
      have hB7 := below_and hB6 le hb7
      have hh7 := hh6.below hb7
      have hg7 := hg6.below hb7
      have hz7 := hb7.size
      have HWR := (show Hid (∀ _ : Unit, _) from fun _ => write_one w7 bg [] _ b hg7 (hown7.rd hbb) (fun _ k hk => by have := hfr7 k hk; omega) (by omega) (ht.below hB7) (by simp; omega))
      clear hB6 hh6 hg6 hrb6 hb7 hown7
      refine (HWR.out ()).mono ?_
      rintro e w8 ⟨rfl, hg8, hgr8⟩
      rw [List.nil_append] at hg8
      have hB8 : Below w.heap.size w w8 := hB7.trans (grown_below hgr8 hB7.size (fun k hk => by cases hk; omega))
      have hh8 := hh7.grown hgr8 (by simp; omega)
      have hz8 := hgr8.size
      clear hB7 hh7 hg7 hgr8 HWR hfr7
      go_wp2_with fail
      refine (hsum_any w8 bh a hh8 (ht.below hB8) (by omega)).mono ?_
      rintro e w9 ⟨s1, rfl, hs1, hfs1, hb9⟩
      have hB9 := below_and hB8 le hb9
      have hh9 := hh8.below hb9
      have hg9 := hg8.below hb9
      have hz9 := hb9.size
      have hbh8 := hh8.lt
      have hbg8 := hg8.lt
      obtain ⟨L0, hL0⟩ : ∃ L0, L0 = shaL a := ⟨_, rfl⟩
      have hL0l : L0.length = 32 := by rw [hL0]; rfl
      rw [← hL0] at hs1
      obtain ⟨so, scap, hsv, hscap⟩ := hs1.bform
      rw [hL0l] at hsv
      subst hsv
      clear hB8 hh8 hg8 hb9 hL0
      go_wp2_with fail
      go_loopw [50] (fun i wr => ∃ (k : Nat) (L : List Int), k ≤ 32 ∧ L.length = 32 ∧ i = .int .i64 k ∧ Own wr 5 (.slice so 32 scap) (bc L) ∧ w9.grownBy wr (Value.slice so 32 scap).ownBlock) (fun i _ => 32 - (intOf i).toNat)
      case atStart => exact ⟨0, L0, by omega, hL0l, rfl, hs1, grown_refl _ _⟩
      case round =>
        clear hs1 hL0l
        obtain ⟨j, L, hj, hL, rfl, hok, hgk⟩ := hrel
        by_cases hja : j < 32
        · have hji : (j : Int) < 32 := by omega
          obtain ⟨g, rfl⟩ := hok.at0 (by rw [bc_len]; omega)
          have hck : wr.cell? ⟨g, j, none⟩ = some (.int .u8 (L.getD j 0)) := by
            have := World.ownsRow.cells hok (g := g) rfl j _ (bc_getD L j (by omega))
            rwa [Addr.add_mid, Nat.zero_add] at this
          have hfk : wr.frozen? ⟨g, j, none⟩ = false := by
            rcases hok.2 with ⟨hc, _⟩ | ⟨g', cap', cur, hc, _, hg, _⟩
            · cases hc
            · injection hc with e1
              injection e1 with e1
              injection e1 with e1
              subst e1
              exact frozen_of_row wr g j cur _ hg
          obtain ⟨y, hy⟩ : ∃ y, y = L.getD j 0 := ⟨_, rfl⟩
          rw [← hy] at hck
          have HP := (show Hid (∀ z, Own (wr.setCell ⟨g, j, none⟩ (.int .u8 z)) 5 (.slice (some ⟨g, 0, none⟩) 32 scap) (bc (L.set j z))) from fun z => hok.put j z)
          have hL1 : L.length ≤ 32 := by omega
          have hL2 : 32 ≤ L.length := by omega
          clear hy hok hL
          go_wp2_with fail
          go_roundw
          case rel => exact ⟨j + 1, L.set j _, by omega, by rw [List.length_set]; omega, by go_num, HP.out _, grown_trans hgk (grown_set _ _ _ _) (.inl rfl)⟩
          case measure => simp [intOf]; omega
        · have hji : ¬ (j : Int) < 32 := by omega
          have hB10 : Below w.heap.size w wr := hB9.trans (grown_below hgk hB9.size (fun k hk => by have := hfs1 k hk; omega))
          have hh10 := hs_keep hh9 hgk hfs1 hbh8
          have hg10 := hs_keep hg9 hgk hfs1 hbg8
          clear hok hgk hB9 hh9 hg9 hL hfs1 hfr
          go_wp2_with fail
          refine (hsum_any _ bh a hh10 (ht.below hB10) (by omega)).mono ?_
          rintro e w11 ⟨r1, rfl, hr1, hf1, hb11⟩
          have hB11 := below_and hB10 le hb11
          have hg11 := hg10.below hb11
          have hra11 := hra.below hB11
          clear hB10 hh10 hg10 hb11 hf1
          go_wp2_with (at_builtin; refine app_copy rfl _ _ rfl rfl va a rfl hra11 (by omega) ?_; intro o12 w12 hown12 hfr12 hb12)
          have hB12 := below_and hB11 le hb12
          have hg12 := hg11.below hb12
          have hr12 := hr1.below hb12
          clear hB11 hg11 hr1 hra11 hb12 hfr12
          refine (sum_any w12 o12 a (hown12.rd hba) (ht.below hB12) (by omega)).mono ?_
          rintro e w13 ⟨r2, rfl, hr2, hf2, hb13⟩
          have hB13 := below_and hB12 le hb13
          have hg13 := hg12.below hb13
          have hr13 := hr12.below hb13
          clear hB12 hg12 hr12 hb13 hf2 hown12
          go_wp2_with fail
          refine (same_as w13 r1 r2 _ (hr13.rd (shaL_byt a)) (hr2.rd (shaL_byt a))).mono ?_
          rintro e w13' ⟨rfl, rfl⟩
          clear hr13 hr2
          go_wp2_with fail
          refine (hsum_any _ bg b hg13 (ht.below hB13) (by omega)).mono ?_
          rintro e w14 ⟨r3, rfl, hr3, hf3, hb14⟩
          have hB14 := below_and hB13 le hb14
          have hrb14 := hrb.below hB14
          clear hB13 hg13 hb14 hf3
          go_wp2_with (at_builtin; refine app_copy_w (by rfl) _ _ rfl rfl vb b rfl hrb14 (by omega) ?_; intro o15 w15 hown15 hfr15 hb15)
          have hB15 := below_and hB14 le hb15
          have hr15 := hr3.below hb15
          clear hB14 hr3 hrb14 hb15 hfr15
          refine (sum_any w15 o15 b (hown15.rd hbb) (ht.below hB15) (by omega)).mono ?_
          rintro e w16 ⟨r4, rfl, hr4, hf4, hb16⟩
          have hB16 := below_and hB15 le hb16
          have hr16 := hr15.below hb16
          clear hB15 hr15 hb16 hf4 hown15
          go_wp2_with fail
          refine (same_as w16 r3 r4 _ (hr16.rd (shaL_byt b)) (hr4.rd (shaL_byt b))).mono ?_
          rintro e w16' ⟨rfl, rfl⟩
          go_wp2_with fail
          go_ret
          exact ⟨rfl, hB16⟩
end Go.Proofs.YtaehdhpfdhmobaaDoor
