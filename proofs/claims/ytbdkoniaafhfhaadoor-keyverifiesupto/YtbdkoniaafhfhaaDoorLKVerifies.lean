/- catenarylaw03.KeyVerifies: its walk. -/
import Derived.Test.YtbdkoniaafhfhaaDoorLKSigns
namespace Go.Proofs.YtbdkoniaafhfhaaDoor
open Go.RowKit Oct Sha

set_option maxHeartbeats 1600000 in
theorem verifies_any (w : World) (k : Int) (sv : Value) (sig : List Int) (pv : Value) (ll : List (List Int)) (hsv : Rd w sv sig) (hp : Rdl w pv ll) (hs : sig.length ≤ 1048576) (ht : tot ll ≤ 1048576) (hT : Tab w) :
    Calls Tryd.prog 6 #[.int .i64 k, sv, pv] w fun e w' => e = .returned (.bool true) ∧ Below w.heap.size w w' := by
  have le := Nat.le_refl w.heap.size
  have hby := hp.byts
  have hsb := signL_byt k (sL (⟨#[120]⟩ : ByteArray)) ll
  have hxs : (⟨#[120]⟩ : ByteArray).size ≤ 4000000 := by decide
  obtain ⟨r, hr⟩ : ∃ r : Bool, r = (decide (0 ≤ k) && decide (k ≤ 127)) := ⟨_, rfl⟩
  obtain ⟨d, hd⟩ : ∃ d : Bool, d = verL k sig (sL (⟨#[120]⟩ : ByteArray)) ll := ⟨_, rfl⟩
  have hv2 : verL k (signL k (sL (⟨#[120]⟩ : ByteArray)) ll) (sL (⟨#[120]⟩ : ByteArray)) ll = r := by
    by_cases h : 0 ≤ k ∧ k ≤ 127
    · rw [verL_same _ _ h.1 h.2, hr]; simp [h.1, h.2]
    · rw [verL, if_neg h, hr]; by_cases h0 : 0 ≤ k <;> by_cases h1 : k ≤ 127 <;> simp [h0, h1] <;> exact h ⟨h0, h1⟩
  have hl2 : (((signL k (sL (⟨#[120]⟩ : ByteArray)) ll).length : Int) == 32) = r := by
    by_cases h : 0 ≤ k ∧ k ≤ 127
    · rw [signL_len _ _ h.1 h.2, hr]; simp [h.1, h.2]
    · rw [signL, if_neg h, hr]; by_cases h0 : 0 ≤ k <;> by_cases h1 : k ≤ 127 <;> simp [h0, h1] <;> exact h ⟨h0, h1⟩
  have hdd : (d == d) = true := by simp
  have HV := (show Hid (∀ (u : World) (a b : Value), Rd u a sig → Rdl u b ll → Tab u → Calls Tryd.prog 22 #[.int .i64 k, a, .string (⟨#[120]⟩ : ByteArray), b] u fun e w' => e = .returned (.bool d) ∧ Below u.heap.size u w') from fun u a b h1 h2 h3 => by rw [hd]; exact verify_any u k a sig (⟨#[120]⟩ : ByteArray) b ll h1 h2 hxs (by omega) h3)
  have HW := (show Hid (∀ (u : World) (a b : Value), Rd u a (signL k (sL (⟨#[120]⟩ : ByteArray)) ll) → Rdl u b ll → Tab u → Calls Tryd.prog 22 #[.int .i64 k, a, .string (⟨#[120]⟩ : ByteArray), b] u fun e w' => e = .returned (.bool r) ∧ Below u.heap.size u w') from fun u a b h1 h2 h3 => by have := verify_any u k a (signL k (sL (⟨#[120]⟩ : ByteArray)) ll) (⟨#[120]⟩ : ByteArray) b ll h1 h2 hxs (by omega) h3; rwa [hv2] at this)
  have HR := (show Hid (∀ (u : World) (a b : Value), Rd u a sig → Rdl u b ll → Calls Tryd.prog 23 #[.int .i64 k, a, .string (⟨#[120]⟩ : ByteArray), b] u fun e w' => e = .returned (.bool d) ∧ Below u.heap.size u w') from fun u a b h1 h2 => by rw [hd]; exact refVerify_any u k a sig (⟨#[120]⟩ : ByteArray) b ll h1 h2 hxs (by omega))
  have HS := (show Hid (∀ (u : World) (b : Value), Rdl u b ll → Tab u → Calls Tryd.prog 12 #[.int .i64 k, .string (⟨#[120]⟩ : ByteArray), b] u fun e w' => ∃ v', e = .returned v' ∧ Own w' 5 v' (bc (signL k (sL (⟨#[120]⟩ : ByteArray)) ll)) ∧ Fr u.heap.size v' ∧ Below u.heap.size u w') from fun u b h1 h2 => sign_any u k (⟨#[120]⟩ : ByteArray) b ll h1 hxs (by omega) h2)
  generalize signL k (sL (⟨#[120]⟩ : ByteArray)) ll = X at hsb hv2 hl2 HW HS
  have hc : (0 ≤ k ∧ k ≤ 127 ∧ r = true) ∨ (k < 0 ∧ r = false) ∨ (0 ≤ k ∧ decide (k ≤ 127) = false ∧ r = false) := by
    by_cases h0 : 0 ≤ k <;> by_cases h1 : k ≤ 127
    · exact .inl ⟨h0, h1, by rw [hr]; simp [h0, h1]⟩
    · exact .inr (.inr ⟨h0, decide_eq_false h1, by rw [hr]; simp [h1]⟩)
    · exact .inr (.inl ⟨by omega, by rw [hr]; simp [h0]⟩)
    · exact .inr (.inl ⟨by omega, by rw [hr]; simp [h0]⟩)
  clear hv2 hd hr hxs
  rcases hc with ⟨h0, h1, rfl⟩ | ⟨h0, rfl⟩ | ⟨h0, h1, rfl⟩
  all_goals
    go_enter Tryd.func6, Tryd.ntmps6
    go_wp2_with fail
    refine (alive_any w hT).mono ?_
    rintro e w1 ⟨rfl, hb1⟩
    have p1 := hp.below hb1
    have g1 := hsv.below hb1
    have T1 := hT.below hb1
    clear hp hsv
    go_wp2_with fail
    refine (copy_any w1 pv ll p1 (by omega)).mono ?_
    rintro e w2 ⟨oc, uc, rfl, hoc, hec, hfc, hb2⟩
    have p2 := p1.below hb2
    have g2 := g1.below hb2
    have T2 := T1.below hb2
    have B2 := below_and hb1 le hb2
    have o2 := hec.rdl hoc hby
    clear hoc hec hfc hb1 hb2 p1 g1 T1
    go_wp2_with fail
    refine (HS.out w2 oc o2 T2).mono ?_
    rintro e w3 ⟨vs, rfl, hvs, hfs, hb3⟩
    have p3 := p2.below hb3
    have g3 := g2.below hb3
    have o3 := o2.below hb3
    have T3 := T2.below hb3
    have s3 := hvs.rd hsb
    obtain ⟨sa, sc, rfl, hsc⟩ := s3.form
    have B3 := below_and B2 le hb3
    clear hvs hfs hb3 p2 g2 o2 T2 B2 HS
    go_wp2_with (at_builtin; refine app_copy_w (by rfl) _ _ rfl rfl sv sig rfl g3 (by omega) ?_; intro vc w4 hvc hfc4 hb4)
    have c4 := hvc.rd g3.1
    refine (HV.out w4 vc oc c4 (o3.below hb4) (T3.below hb4)).mono ?_
    rintro e w5 ⟨rfl, hb5⟩
    have b35 := below_and hb4 (Nat.le_refl _) hb5
    have p5 := p3.below b35
    have g5 := g3.below b35
    have o5 := o3.below b35
    have s5 := s3.below b35
    have T5 := T3.below b35
    have B5 := below_and B3 le b35
    clear hvc hfc4 hb4 hb5 c4 b35 p3 g3 o3 s3 T3 B3 HV
    go_wp2_with fail
    refine (HR.out w5 sv pv g5 p5).mono ?_
    rintro e w6 ⟨rfl, hb6⟩
    have o6 := o5.below hb6
    have s6 := s5.below hb6
    have T6 := T5.below hb6
    have B6 := below_and B5 le hb6
    clear hb6 p5 g5 o5 s5 T5 B5 HR
    go_wp2_with fail
    refine (HW.out w6 _ oc s6 o6 T6).mono ?_
    rintro e w7 ⟨rfl, hb7⟩
    have B7 := below_and B6 le hb7
    clear hb7 o6 s6 T6 B6 HW
    go_wp2_with fail
    go_ret
    exact ⟨rfl, B7⟩
end Go.Proofs.YtbdkoniaafhfhaaDoor
