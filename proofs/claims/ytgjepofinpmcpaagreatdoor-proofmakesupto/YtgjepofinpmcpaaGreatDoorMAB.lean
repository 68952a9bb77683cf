/- The walks over the document's own answers: numbers (catenaryref01.Int, GetInt). -/
import Derived.Test.YtgjepofinpmcpaaGreatDoorMAA
namespace Go.Proofs.YtgjepofinpmcpaaGreatDoor
open Go.RowKit Oct
theorem zNj (w : World) (x : Int) (e : TypeId) : Own (w.alloc (.cells #[.int .u8 x] e)) e (.slice (some ⟨w.heap.size, 0, none⟩) 1 1) (bc [x]) :=
  World.ownsRow_lit (base := 0) (size := 1) w #[.int .u8 x] 1 (Nat.zero_le _) (by decide) rfl
theorem zNg : ∀ (f : Nat) (n : Int) (w : World), 0 ≤ n → n < 128 ^ (f + 1) → n ≤ 2147483647 →
    Calls Tryz.prog 85 #[.int .i64 n] w fun e w' => ∃ v, e = .returned (.tuple #[v, .int .i64 0]) ∧ Own w' 5 v (bc (enc n)) ∧ Fr w.heap.size v ∧ Below w.heap.size w w' := by
  intro f
  induction f with
  | zero =>
    intro n w h0 h1 h2
    have hn : n < 128 := by omega
    rw [zFw n hn]
    clear h1
    go_enter Tryz.func85, Tryz.ntmps85
    go_wp2_with fail
    go_ret2
    exact ⟨_, rfl, zNj w n _, zBx _ _ _ _ zN, zA0 _ _⟩
  | succ f ih =>
    intro n w h0 h1 h2
    by_cases hn : n < 128
    · rw [zFw n hn]
      clear h1 ih
      go_enter Tryz.func85, Tryz.ntmps85
      go_wp2_with fail
      go_ret2
      exact ⟨_, rfl, zNj w n _, zBx _ _ _ _ zN, zA0 _ _⟩
    · have e : (128 : Int) ^ (f + 1 + 1) = 128 ^ (f + 1) * 128 := Int.pow_succ ..
      rw [e] at h1
      have ih' := ih (n / 128) w (by omega) (by omega) (by omega)
      have HI := (show Hid (∀ _ : Unit, _) from fun _ => ih')
      rw [zLu n (by omega) (by omega)]
      have hl := zB7 (n / 128)
      clear ih ih' e h1
      go_enter Tryz.func85, Tryz.ntmps85
      go_wp2_with (first | (go_at_call 85; refine (HI.out ()).mono ?_; rintro e w1 ⟨r, rfl, hown, hfr, hb⟩) | (at_builtin; refine zAx rfl _ _ rfl _ [n % 128 + 128] rfl (zNj w1 (n % 128 + 128) 5) r (enc (n / 128)) rfl (hown.below (zA0 w1 _)).rdv (by simp only [List.length_cons, List.length_nil]; omega) ?_; intro v2 w2 happ))
      go_ret2
      refine ⟨_, rfl, happ.own, ?_, ?_⟩
      · exact happ.fr (zBx _ _ _ _ hb.size) (by have := hb.size; simp; omega)
      · exact (hb.trans ((zA0 w1 _).mono hb.size)).trans (happ.below (zBx _ _ _ _ hb.size) (by have := hb.size; simp; omega))
theorem zDr (w : World) (n : Int) :
    Calls Tryz.prog 85 #[.int .i64 n] w fun e w' => ∃ v, e = .returned (.tuple #[v, .int .i64 (zRd n)]) ∧ Own w' 5 v (bc (zCm n)) ∧ Fr w.heap.size v ∧ Below w.heap.size w w' := by
  by_cases h0 : n < 0
  · rw [zI4 (.inl h0), zLe (.inl h0)]
    go_enter Tryz.func85, Tryz.ntmps85
    go_wp2_with fail
    go_ret2
    exact ⟨_, rfl, Own.nil _ _, Fr.nil _, Below.refl _ _⟩
  by_cases h1 : 2147483647 < n
  · rw [zI4 (.inr h1), zLe (.inr h1)]
    go_enter Tryz.func85, Tryz.ntmps85
    go_wp2_with fail
    go_ret2
    exact ⟨_, rfl, Own.nil _ _, Fr.nil _, Below.refl _ _⟩
  · rw [zF0 (by omega) (by omega), zCj (by omega) (by omega)]
    exact zNg 4 n w (by omega) (by omega) (by omega)
theorem mul_val (x y q : Int) (hq0 : 1 ≤ q) (hq : q ≤ 268435456) (y0 : 0 ≤ y) (y1 : y < q) : wrap64 (y + wrap64 (x % 128 * q)) = y + x % 128 * q := by
  have m1 : 0 ≤ x % 128 * q := Int.mul_nonneg (by omega) (by omega)
  have m2 : x % 128 * q ≤ 128 * 268435456 := Int.mul_le_mul (by omega) hq (by omega) (by omega)
  generalize x % 128 * q = r at *
  rw [IntWalk.wrap64_in r ⟨by omega, by omega⟩, IntWalk.wrap64_in (y + r) ⟨by omega, by omega⟩]
theorem pow_bd (k : Nat) (hk : k ≤ 4) : 1 ≤ (128 : Int) ^ k ∧ (128 : Int) ^ k ≤ 268435456 := by
  rcases (show k = 0 ∨ k = 1 ∨ k = 2 ∨ k = 3 ∨ k = 4 from by omega) with h | h | h | h | h <;> subst h <;> decide
set_option maxHeartbeats 400000 in
theorem zMd (w : World) (v : Value) (l : List Int) (p : Nat) (hrd : Rd w v l) (hlen : l.length ≤ 281474976710656) (hp : p ≤ l.length) :
    Calls Tryz.prog 80 #[v, .int .i64 p] w fun e w' => e = .returned (.tuple #[.int .i64 (zE6 l p).1, .int .i64 (zE6 l p).2.1, .int .i64 (zE6 l p).2.2]) ∧ Below w.heap.size w w' := by
  by_cases hl : 0 < l.length
  · have hbyt := hrd.1
    obtain ⟨b, off, cap, rfl, hc1, hc2, hb, hcell⟩ := hrd.at hl
    have HC := (show Hid (∀ j, j < l.length → w.cell? ⟨b, off + j, none⟩ = some (.int .u8 (l.getD j 0))) from hcell)
    clear hcell hrd
    obtain ⟨g, hg⟩ : ∃ g, g = zE6 l p := ⟨_, rfl⟩
    rw [← hg]
    have HG := (show Hid (g = zE6 l p) from hg)
    clear hg
    go_enter Tryz.func80, Tryz.ntmps80
    go_wp2_with fail
    go_loop [7, 8, 9] (fun n q i => ∃ k : Nat, k ≤ 5 ∧ i = .int .i64 ((p : Int) + k) ∧ n = .int .i64 (val ((l.drop p).take k)) ∧ q = .int .i64 (128 ^ k) ∧ Hid (zLh (l.drop p) k)) (fun _ _ i => 5 + p - (intOf i).toNat)
    case atStart => exact ⟨0, by omega, by simp, rfl, rfl, zLh.zero _⟩
    case round =>
      obtain ⟨k, hk, rfl, rfl, rfl, hm⟩ := hrel
      by_cases hk5 : k < 5
      · by_cases hpk : p + k < l.length
        · obtain ⟨x, hx⟩ : ∃ x, x = l.getD (p + k) 0 := ⟨_, rfl⟩
          have hcx : w.cell? ⟨b, off + (p + k), none⟩ = some (.int .u8 x) := by rw [hx]; exact HC.out _ hpk
          have hxb := hbyt.getD (p + k)
          rw [← hx] at hxb
          have hx' : (l.drop p).getD k 0 = x := by rw [hx]; simp [List.getD]
          have hdl : k < (l.drop p).length := by rw [List.length_drop]; omega
          have hvt := zLd (l.drop p) k hdl
          rw [hx'] at hvt
          have hv := zH1 ((l.drop p).take k)
          rw [List.length_take, Nat.min_eq_left (by omega)] at hv
          have hq := pow_bd k (by omega)
          have hmul := mul_val x (val ((l.drop p).take k)) (128 ^ k) hq.1 hq.2 hv.1 hv.2
          rw [← hvt] at hmul
          have HX := (show Hid ((l.drop p).getD k 0 = x) from hx')
          clear hx hx' hvt
          by_cases hx : 128 ≤ x
          · go_wp2_with fail
            go_round
            case rel =>
              refine ⟨_, _, _, _, _, _, ?_, rfl, rfl, rfl, rfl, rfl, rfl⟩
              exact ⟨k + 1, by omega, by go_num, rfl, by rw [Int.pow_succ], hm.out.succ hdl (by rw [HX.out]; omega)⟩
            case measure => simp [intOf]; omega
          · have hcnt := zNp 5 k (l.drop p) hm.out hk5 hdl (by rw [HX.out]; omega)
            have hnum : num (l.drop p) = if 1 < k + 1 ∧ x = 0 then none else if 2147483647 < val ((l.drop p).take (k + 1)) then none else some (val ((l.drop p).take (k + 1)), k + 1) := by
              unfold num; rw [hcnt, if_neg (by omega), Nat.add_sub_cancel, HX.out]
            have hown1 := len_own (l.drop p) k (hbyt.drop p) hm.out hdl (by rw [HX.out]; omega) (by omega)
            have hown2 := zSa (l.drop p) k hdl (by omega)
            have hv2 := zH1 ((l.drop p).take (k + 1))
            rw [HX.out] at hown1 hown2
            clear hcnt
            generalize val ((l.drop p).take (k + 1)) = z at *
            by_cases hz : 2147483647 < z
            · have hgv : g = (0, 0, 11) := by
                rw [HG.out]
                refine zBu p hp ?_
                rw [hnum]
                split
                · rfl
                · rfl
              clear HG hnum hown1 hown2 HC HX hm
              subst hgv
              have hI := zDr w z
              rw [zI4 (.inr hz)] at hI
              have HI := (show Hid (∀ _ : Unit, _) from fun _ => hI)
              clear hI
              go_wp2_with (go_at_call 85; refine (HI.out ()).mono ?_; rintro e w1 ⟨r, rfl, hown, hfr, hb1⟩)
              go_ret3
              exact ⟨rfl, hb1⟩
            · have hI := zDr w z
              rw [zF0 (by omega) (by omega), zCj (by omega) (by omega)] at hI
              have HI := (show Hid (∀ _ : Unit, _) from fun _ => hI)
              clear hI
              by_cases hx0 : 1 < k + 1 ∧ x = 0
              · have hgv : g = (0, 0, 11) := by
                  rw [HG.out]
                  exact zBu p hp (by rw [hnum, if_pos hx0])
                have hne := hown2 (by omega) hx0.2
                clear HG hnum hown1 hown2 HC HX hm hx0
                subst hgv
                generalize enc z = ez at *
                have hne' : ((ez.length : Int) != (p : Int) + k - p + 1) = true := by rw [bne_iff_ne]; omega
                go_wp2_with (go_at_call 85; refine (HI.out ()).mono ?_; rintro e w1 ⟨r, rfl, hown, hfr, hb1⟩; obtain ⟨ao, rc, rfl, hrc⟩ := hown.form; rw [zAn])
                go_ret3
                exact ⟨rfl, hb1⟩
              · have hgv : g = (z, (p : Int) + (k + 1 : Nat), 0) := by
                  rw [HG.out]
                  exact zD3 p hp (by rw [hnum, if_neg hx0, if_neg hz])
                have heq := hown1 (by omega)
                clear HG hnum hown1 hown2 HC HX hm hx0
                subst hgv
                generalize enc z = ez at *
                have heq' : ((ez.length : Int) != (p : Int) + k - p + 1) = false := by rw [bne_eq_false_iff_eq]; omega
                clear heq
                go_wp2_with (go_at_call 85; refine (HI.out ()).mono ?_; rintro e w1 ⟨r, rfl, hown, hfr, hb1⟩; obtain ⟨ao, rc, rfl, hrc⟩ := hown.form; rw [zAn])
                go_ret3
                exact ⟨by simp [Int.add_assoc], hb1⟩
        · have hgv : g = (0, 0, 11) := by
            rw [HG.out]
            exact zBu p hp (by unfold num; rw [zI0 5 k (l.drop p) hm.out hk (by rw [List.length_drop]; omega), if_pos rfl])
          clear HG HC hm
          subst hgv
          have hd : decide ((p : Int) + k < l.length) = false := by simp; omega
          go_wp2_with fail
          go_ret3
          exact ⟨rfl, Below.refl _ _⟩
      · have hgv : g = (0, 0, 11) := by
          rw [HG.out]
          exact zBu p hp (by unfold num; rw [zI0 5 k (l.drop p) hm.out hk (by omega), if_pos rfl])
        clear HG HC hm
        subst hgv
        by_cases hpk : p + k < l.length
        · go_wp2_with fail
          go_ret3
          exact ⟨rfl, Below.refl _ _⟩
        · have hd : decide ((p : Int) + k < l.length) = false := by simp; omega
          go_wp2_with fail
          go_ret3
          exact ⟨rfl, Below.refl _ _⟩
  · have hp0 : p = 0 := by omega
    subst hp0
    have hl0 : l = [] := List.eq_nil_of_length_eq_zero (by omega)
    subst hl0
    obtain ⟨ao, cap, rfl, hc⟩ := hrd.empty rfl
    clear hrd
    have hgv : zE6 [] 0 = (0, 0, 11) := by decide
    have hgv' : zE6 [] ((0 : Nat) : Int) = (0, 0, 11) := hgv
    rw [hgv']
    clear hgv hgv'
    go_enter Tryz.func80, Tryz.ntmps80
    go_wp2_with fail
    refine wp_loop_rounds 1 ?_; rw [rounds_succ]
    go_wp2_with fail
    go_ret3
    exact ⟨rfl, Below.refl _ _⟩
theorem zG5 (w : World) (v : Value) (l : List Int) (p : Int) (hrd : Rd w v l) (hlen : l.length ≤ 281474976710656) :
    Calls Tryz.prog 80 #[v, .int .i64 p] w fun e w' => e = .returned (.tuple #[.int .i64 (zE6 l p).1, .int .i64 (zE6 l p).2.1, .int .i64 (zE6 l p).2.2]) ∧ Below w.heap.size w w' := by
  by_cases h0 : 0 ≤ p ∧ p ≤ (l.length : Int)
  · obtain ⟨q, rfl⟩ := Int.eq_ofNat_of_zero_le h0.1
    exact zMd w v l q hrd hlen (by omega)
  · obtain ⟨ao, n, cap, rfl⟩ : ∃ ao n cap, v = .slice ao n cap := by obtain ⟨_, ao, cap, rfl, _⟩ := hrd; exact ⟨_, _, _, rfl⟩
    obtain rfl : n = l.length := by obtain ⟨_, ao', cap', e, _⟩ := hrd; injection e with _ e _; rw [e, zAn]
    clear hrd
    rw [zKb (by omega)]
    by_cases h1 : p < 0
    · clear h0
      go_enter Tryz.func80, Tryz.ntmps80
      go_wp2_with fail
      go_ret3
      exact ⟨rfl, Below.refl _ _⟩
    · have h2 : (l.length : Int) < p := by omega
      clear h0
      go_enter Tryz.func80, Tryz.ntmps80
      go_wp2_with fail
      go_ret3
      exact ⟨rfl, Below.refl _ _⟩
end Go.Proofs.YtgjepofinpmcpaaGreatDoor
