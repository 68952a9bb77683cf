/- catenarytop.WholeMeets: its walk. -/
import Derived.Test.YthnjeglfgfjpkabDoorTM
import Derived.Test.YthnjeglfgfjpkabDoorKAlive
import Derived.Deep.RegionHeld3
set_option linter.unusedVariables false
namespace Go.Proofs.YthnjeglfgfjpkabDoor
open Go.RowKit Oct Sha Bal

def meetS : List Int := signL (repL 3) (sL ⟨#[118, 111, 116, 101]⟩) [numsL [2, 0, 0, 1], []]
theorem meet_yes : verL (repL 3) meetS (sL ⟨#[118, 111, 116, 101]⟩) [numsL [2, 0, 0, 1], []] = true := verL_same _ _ (by decide) (by decide)
theorem meet_no : verL (repL 3) meetS (sL ⟨#[118, 111, 116, 101]⟩) [numsL [2, 0, 0, 1], [1]] = false := by kernel_rfl
theorem meet_len : meetS.length = 32 := signL_len _ _ (by decide) (by decide)
theorem rd_one (w : World) (x : Int) (h0 : 0 ≤ x) (h1 : x ≤ 255) : Rd (w.alloc (.cells #[.int .u8 x] 5)) (.slice (some ⟨w.heap.size, 0, none⟩) 1 1) [x] := rd_lit w [x] 5 (0, 0) (fun y hy => by rw [List.mem_singleton.1 hy]; exact ⟨h0, h1⟩) (by simp) (by simp)
theorem rd_nil (w : World) : Rd w (.slice none 0 0) [] := (Own.nil w 5).rd (l := []) Byt.nil

set_option maxRecDepth 100000 in
set_option maxHeartbeats 8000000 in
theorem meets_any (w : World) (n : Int) (va vb : Value) (xs ys : List PVote) (ha : RL RVote 2 Any w va xs) (hb : RL RVote 2 Any w vb ys) (za : szL 32 szV xs) (zb : szL 32 szV ys) (hT : Tab w) :
    Calls Tryd.prog 4 #[.int .i64 n, va, vb] w fun e w' => e = .returned (.bool true) ∧ Below w.heap.size w w' := by
  have le := Nat.le_refl w.heap.size
  obtain ⟨ao, ac, rfl, hac⟩ := ha.form
  obtain ⟨bo, bc', rfl, hbc⟩ := hb.form
  have HS := (show Hid (∀ _ : Unit, _) from fun _ => vMake_any w 2 0 0 1 3 _ [] (rd_nil w) (by decide) hT)
  have HL := (show Hid (meetS.length = 32) from meet_len)
  go_enter Tryd.func4, Tryd.ntmps4
  go_wp2_with fail
  refine (HS.out ()).mono ?_
  rintro e w1 ⟨v1, rfl, r1, B1⟩
  have r1 : Rd w1 v1 meetS := r1.1
  clear HS
  obtain ⟨a1, c1, rfl, hc1⟩ := r1.form
  rw [HL.out] at r1 ⊢
  obtain ⟨w2, hw2⟩ : ∃ w2, w2 = w1.alloc (.cells #[.int .i64 3, .slice a1 32 c1] 33) := ⟨_, rfl⟩
  have b2 : Below w1.heap.size w1 w2 := hw2 ▸ below_alloc _ _
  have rv2 : Row w2 w1.heap.size 33 [.int .i64 3, .slice a1 32 c1] := by rw [hw2]; exact Row.new _ _ _
  have r2 := r1.below b2
  have B2 := below_and B1 le b2
  clear r1 B1 b2
  have hV := vRight_any w2 2 0 0 1 3 _ [] (rd_nil w2) (by decide) (.slice a1 32 c1) meetS r2 (hT.below B2)
  rw [meet_yes] at hV
  have HV := (show Hid (∀ _ : Unit, _) from fun _ => hV)
  clear hV
  go_wp2_with fail
  rw [← hw2]
  clear hw2
  refine (HV.out ()).mono ?_
  rintro e w3 ⟨rfl, hb3⟩
  clear HV
  have rv3 := rv2.below hb3
  have r3 := r2.below hb3
  have B3 := below_and B2 le hb3
  have hV := vRight_any _ 2 0 0 1 3 _ [1] (rd_one w3 1 (by decide) (by decide)) (by decide) (.slice a1 32 c1) meetS (r3.below (below_alloc _ _)) ((hT.below B3).below (below_alloc _ _))
  rw [meet_no] at hV
  have HV := (show Hid (∀ _ : Unit, _) from fun _ => hV)
  have q0 := (rv3.below (below_alloc w3 (.cells #[.int .u8 1] 5))).cell (j := 0) rfl
  have q1 := (rv3.below (below_alloc w3 (.cells #[.int .u8 1] 5))).cell (j := 1) rfl
  clear hV rv2 r2 B2 hb3
  go_wp2_with fail
  refine (HV.out ()).mono ?_
  rintro e w4 ⟨rfl, hb4⟩
  have B4 := below_and B3 le (below_and (below_alloc w3 _) (Nat.le_refl _) hb4)
  clear HV q0 q1 r3 rv3 hb4 B3
  go_wp2_with fail
  have A4 := ha.mv mov_vote (Nat.le_trans B4.size (below_alloc w4 (.cells #[.int .u8 1] 5)).size) (Mv.below (below_and B4 le (below_alloc w4 (.cells #[.int .u8 1] 5))))
  refine (copyVotes_any _ _ xs A4 za).mono ?_
  rintro e w5 ⟨o5, rfl, ro5, hb5⟩
  have ro5 := ro5.mv mov_vote (Nat.le_refl _) Mv.any
  have rd5 := (rd_one w4 1 (by decide) (by decide)).below hb5
  have B5 := below_and B4 le (below_and (below_alloc w4 _) (Nat.le_refl _) hb5)
  clear A4 hb5 B4
  have hC := vCert_any w5 2 0 0 1 _ [1] n o5 xs rd5 (by decide) ro5 (hT.below B5)
  cases hD : certL (rightV 2 0 0 1 [1]) n xs
  · rw [hD] at hC
    have HC := (show Hid (∀ _ : Unit, _) from fun _ => hC)
    clear hC hD
    go_wp2_with fail
    refine (HC.out ()).mono ?_
    rintro e w6 ⟨rfl, hb6⟩
    go_wp2_with fail
    go_ret
    exact ⟨rfl, below_and B5 le hb6⟩
  rw [hD] at hC
  have HC := (show Hid (∀ _ : Unit, _) from fun _ => hC)
  have HD := (show Hid (certL (rightV 2 0 0 1 [1]) n xs = true) from hD)
  clear hC hD
  go_wp2_with fail
  refine (HC.out ()).mono ?_
  rintro e w6 ⟨rfl, hb6⟩
  have B6 := below_and B5 le hb6
  clear HC hb6 B5 ro5 rd5
  go_wp2_with fail
  have A6 := hb.mv mov_vote (Nat.le_trans B6.size (below_alloc w6 (.cells #[.int .u8 2] 5)).size) (Mv.below (below_and B6 le (below_alloc w6 (.cells #[.int .u8 2] 5))))
  refine (copyVotes_any _ _ ys A6 zb).mono ?_
  rintro e w7 ⟨o7, rfl, ro7, hb7⟩
  have ro7 := ro7.mv mov_vote (Nat.le_refl _) Mv.any
  have rd7 := (rd_one w6 2 (by decide) (by decide)).below hb7
  have B7 := below_and B6 le (below_and (below_alloc w6 _) (Nat.le_refl _) hb7)
  clear A6 hb7 B6
  have hC := vCert_any w7 2 0 0 1 _ [2] n o7 ys rd7 (by decide) ro7 (hT.below B7)
  cases hE : certL (rightV 2 0 0 1 [2]) n ys
  · rw [hE] at hC
    have HC := (show Hid (∀ _ : Unit, _) from fun _ => hC)
    clear hC hE
    go_wp2_with fail
    refine (HC.out ()).mono ?_
    rintro e w8 ⟨rfl, hb8⟩
    go_wp2_with fail
    go_ret
    exact ⟨rfl, below_and B7 le hb8⟩
  rw [hE] at hC
  have HC := (show Hid (∀ _ : Unit, _) from fun _ => hC)
  obtain ⟨hr, hm, hx1, hy1⟩ := meets HD.out hE
  have HP := (show Hid (fau n + 1 ≤ (pairs xs ys : Int)) from hm)
  have HW := (show Hid (∀ u : World, Calls Tryd.prog 19 #[.int .i64 n] u fun e w' => e = .returned (.int .i64 (fau n + 1)) ∧ w' = u) from fun u => wea_yes hr ▸ Bb.weak_any u n)
  have HF := (show Hid (∀ u : World, Calls Tryd.prog 20 #[.int .i64 n] u fun e w' => e = .returned (.int .i64 (fau n)) ∧ w' = u) from fun u => Bb.faults_any u n)
  have h5 := fau_five (n := n)
  have hxl : 0 < xs.length := by
    have := HD.out
    simp only [certL, Bool.and_eq_true, decide_eq_true_eq] at this
    have h1 := quo_yes hr
    have h2 := fau_ge hr
    omega
  have hyl : 0 < ys.length := by
    simp only [certL, Bool.and_eq_true, decide_eq_true_eq] at hE
    have h1 := quo_yes hr
    have h2 := fau_ge hr
    omega
  clear hC hE hr hm HD
  generalize fau n = f at *
  go_wp2_with fail
  refine (HC.out ()).mono ?_
  rintro e w8 ⟨rfl, hb8⟩
  have B8 := below_and B7 le hb8
  clear HC hb8 B7 ro7 rd7
  obtain ⟨b1, o1, c1', e1, hc1', hm1, _, hbl1, hX⟩ := ha.at hxl
  obtain ⟨b2, o2, c2', e2, hc2', hm2, _, hbl2, hY⟩ := hb.at hyl
  cases e1
  cases e2
  have HX := (show Hid (∀ (i : Nat) (a : PVote), xs[i]? = some a → ∃ r, r.length = 2 ∧ w.rangeAt b1 (o1 + i * 2) r ∧ RVote Any w r a) from hX)
  have HY := (show Hid (∀ (i : Nat) (a : PVote), ys[i]? = some a → ∃ r, r.length = 2 ∧ w.rangeAt b2 (o2 + i * 2) r ∧ RVote Any w r a) from hY)
  clear hX hY ha hb hT za zb
  go_wp2_with fail
  go_loopw [8, 43] (fun o i wr => ∃ (q : Nat) (N : Int), q ≤ xs.length ∧ o = .int .i64 N ∧ i = .int .i64 q ∧ Hid (N = (pairs (xs.take q) ys : Int)) ∧ Below w8.heap.size w8 wr) (fun _ i _ => xs.length - (intOf i).toNat)
  case atStart => exact ⟨0, 0, by omega, rfl, rfl, by show _ = _; rw [List.take_zero]; rfl, Below.refl _ _⟩
  case round =>
    obtain ⟨q, N, hq, rfl, rfl, HN, hbw⟩ := hrel
    have hB := below_and B8 le hbw
    by_cases hql : q < xs.length
    · obtain ⟨a, ha⟩ : ∃ a, xs[q]? = some a := ⟨_, List.getElem?_eq_getElem hql⟩
      obtain ⟨r, _, hrng, g, rfl, hg⟩ := HX.out q a ha
      have hrng := rangeAt_block hrng (hB.block b1 hbl1)
      have hso := hg.one
      have HS := (show Hid (pairs (xs.take (q + 1)) ys = pairs (xs.take q) ys + hits a.1 ys) from pairs_take xs ys q a ha)
      have hpl := pairs_le (xs.take q) ys
      have hpm : (xs.take q).length * ys.length ≤ 11 * 11 := Nat.mul_le_mul (by rw [List.length_take]; omega) hy1
      have hN0 : 0 ≤ N ∧ N ≤ 121 := by have := HN.out; omega
      have hrow0 := Row.new wr 33 [.int .i64 0, .slice none 0 0]
      clear ha hpl hpm hg
      go_wp2_with (first
        | (refine wpList_load_mid rfl _ _ rfl b1 (o1 + q * 2) rfl [.int .i64 a.1, g] _ hrng Tryd.underlying33 rfl (by kernel_rfl) ?_)
        | (refine wl_store rfl _ _ _ rfl wr.heap.size [.int .i64 a.1, g] rfl rfl _ _ hrow0 rfl (by kernel_rfl) (one2 hso) ?_; intro w9 hr9 hg9))
      have hr9 := hr9.out
      have hb9 : Below wr.heap.size wr w9 := (below_alloc wr (.cells ([.int .i64 0, .slice none 0 0] : List Value).toArray 33)).trans (grown_below hg9 (by simp) (fun k hk => by cases hk; exact Nat.le_refl _))
      have hB9 := below_and hB le hb9
      have hbw9 := below_and hbw (Nat.le_refl _) hb9
      clear hrow0 hg9 hrng hb9 hbw hB
      generalize wr.heap.size = X0 at hr9 ⊢
      go_loopw [8, 49] (fun o i wi => ∃ (t : Nat) (M : Int), t ≤ ys.length ∧ o = .int .i64 M ∧ i = .int .i64 t ∧ Hid (M = N + (hits a.1 (ys.take t) : Int)) ∧ Below w9.heap.size w9 wi) (fun _ i _ => ys.length - (intOf i).toNat)
      case atStart => exact ⟨0, N, by omega, rfl, rfl, by show _ = _; rw [List.take_zero]; simp [hits], Below.refl _ _⟩
      case round =>
        obtain ⟨t, M, ht, rfl, rfl, HM, hbi⟩ := hrel
        have hBi := below_and hB9 le hbi
        by_cases htl : t < ys.length
        · obtain ⟨c, hc⟩ : ∃ c, ys[t]? = some c := ⟨_, List.getElem?_eq_getElem htl⟩
          obtain ⟨r', _, hrng', g', rfl, hg'⟩ := HY.out t c hc
          have hrng' := rangeAt_block hrng' (hBi.block b2 hbl2)
          have hso' := hg'.one
          have HT := (show Hid (hits a.1 (ys.take (t + 1)) = hits a.1 (ys.take t) + (if a.1 = c.1 then 1 else 0)) from hits_take a.1 ys t c hc)
          have hhl := hits_le a.1 (ys.take t)
          rw [List.length_take] at hhl
          have hM0 : 0 ≤ M ∧ M ≤ 132 := by have := HM.out; omega
          have hrow0 := Row.new wr 33 [.int .i64 0, .slice none 0 0]
          clear hhl hc hg'
          by_cases hac : a.1 = c.1
          · have HM2 := (show Hid (M + 1 = N + (hits a.1 (ys.take (t + 1)) : Int)) by show _ = _; have h1 := HT.out; rw [if_pos hac] at h1; have h2 := HM.out; omega)
            have hbe : (a.1 == c.1) = true := by rw [hac]; simp
            clear HT HM hac
            go_wp2_with (first
            | (refine wpList_load_mid rfl _ _ rfl b2 (o2 + t * 2) rfl [.int .i64 c.1, g'] _ hrng' Tryd.underlying33 rfl (by kernel_rfl) ?_)
            | (refine wl_store rfl _ _ _ rfl wr.heap.size [.int .i64 c.1, g'] rfl rfl _ _ hrow0 rfl (by kernel_rfl) (one2 hso') ?_; intro w10 hr10 hg10; have hb10 : Below wr.heap.size wr w10 := (below_alloc wr (.cells ([.int .i64 0, .slice none 0 0] : List Value).toArray 33)).trans (grown_below hg10 (by simp) (fun k hk => by cases hk; exact Nat.le_refl _)); have q0 := hr10.out.cell (j := 0) rfl; have p0 := ((hr9.below hbi).below hb10).cell (j := 0) rfl))
            go_roundw
            case rel => exact ⟨t + 1, M + 1, by omega, by go_num, by go_num, HM2, below_and hbi (Nat.le_refl _) hb10⟩
            case measure => simp [intOf]; omega
          · have HM2 := (show Hid (M = N + (hits a.1 (ys.take (t + 1)) : Int)) by show _ = _; have h1 := HT.out; rw [if_neg hac] at h1; have h2 := HM.out; omega)
            have hbe : (a.1 == c.1) = false := by rw [beq_eq_false_iff_ne]; exact hac
            clear HT HM hac
            go_wp2_with (first
            | (refine wpList_load_mid rfl _ _ rfl b2 (o2 + t * 2) rfl [.int .i64 c.1, g'] _ hrng' Tryd.underlying33 rfl (by kernel_rfl) ?_)
            | (refine wl_store rfl _ _ _ rfl wr.heap.size [.int .i64 c.1, g'] rfl rfl _ _ hrow0 rfl (by kernel_rfl) (one2 hso') ?_; intro w10 hr10 hg10; have hb10 : Below wr.heap.size wr w10 := (below_alloc wr (.cells ([.int .i64 0, .slice none 0 0] : List Value).toArray 33)).trans (grown_below hg10 (by simp) (fun k hk => by cases hk; exact Nat.le_refl _)); have q0 := hr10.out.cell (j := 0) rfl; have p0 := ((hr9.below hbi).below hb10).cell (j := 0) rfl))
            go_roundw
            case rel => exact ⟨t + 1, M, by omega, rfl, by go_num, HM2, below_and hbi (Nat.le_refl _) hb10⟩
            case measure => simp [intOf]; omega
        · rw [List.take_of_length_le (by omega)] at HM
          have HN2 := (show Hid (M = (pairs (xs.take (q + 1)) ys : Int)) by show _ = _; have h1 := HS.out; have h2 := HM.out; have h3 := HN.out; omega)
          clear HM
          go_wp2_with fail
          go_roundw
          case rel => exact ⟨q + 1, M, by omega, rfl, by go_num, HN2, below_and hbw9 (Nat.le_refl _) hbi⟩
          case measure => simp [intOf]; omega
    · have hNN := HN.out
      rw [List.take_of_length_le (by omega)] at hNN
      have h1 : f + 1 ≤ N := by have := HP.out; omega
      have h2 : f < N := by omega
      clear HN HP hNN
      go_wp2_with fail
      refine (HW.out _).mono ?_
      rintro e w' ⟨rfl, rfl⟩
      go_wp2_with fail
      refine (HF.out _).mono ?_
      rintro e w' ⟨rfl, rfl⟩
      go_wp2_with fail
      go_ret
      exact ⟨rfl, hB⟩
end Go.Proofs.YthnjeglfgfjpkabDoor
