/- The document's own answer for layer 3: what is signed, signatures, digests. -/
import Derived.Test.YtmfmfjndigjlfaaDoorK2
import Derived.Test.YtmfmfjndigjlfaaDoorR4
namespace Go.Proofs.YtmfmfjndigjlfaaDoor
open Go.RowKit Oct Sha

theorem own_els (w : World) (xs : List Value) (e : TypeId) (h : xs.length ≤ 1000) : Own (w.alloc (.cells xs.toArray e)) e (.slice (some ⟨w.heap.size, 0, none⟩) xs.length xs.length) xs :=
  World.ownsRow_lit (base := 0) (size := 1) w xs.toArray xs.length (Nat.zero_le _) (by unfold maxLen; omega) (by simp)

set_option maxHeartbeats 400000 in
/-- catenaryref03.Text. -/
theorem refText_any (w : World) (k : Int) (s : ByteArray) (pv : Value) (ll : List (List Int)) (hp : Rdl w pv ll) (hs : s.size ≤ 4000000) (ht : tot ll ≤ 4000000) :
    Calls Tryd.prog 40 #[.int .i64 k, .string s, pv] w fun e w' => ∃ v', e = .returned v' ∧ Own w' 5 v' (bc (textL k (sL s) ll)) ∧ Fr w.heap.size v' ∧ Below w.heap.size w w' := by
  by_cases hk0 : k < 0
  · rw [textL_no _ _ (.inl hk0)]
    go_enter Tryd.func40, Tryd.ntmps40
    go_wp2_with fail
    go_ret
    exact ⟨_, rfl, Own.nil _ _, Fr.nil _, Below.refl _ _⟩
  by_cases hk1 : 127 < k
  · rw [textL_no _ _ (.inr hk1)]
    go_enter Tryd.func40, Tryd.ntmps40
    go_wp2_with fail
    go_ret
    exact ⟨_, rfl, Own.nil _ _, Fr.nil _, Below.refl _ _⟩
  · have h0 : 0 ≤ k := by omega
    have h1 : k ≤ 127 := by omega
    rw [textL_yes _ _ h0 h1]
    have hI := refInt_any w k
    rw [errI_yes (by omega) (by omega), outI_yes (by omega) (by omega)] at hI
    have hcv := run_cvt
    have htt := tot_three k (sL s) ll
    rw [sL_len] at htt
    obtain ⟨vp, hvp, hap⟩ := hp
    have l1 := len_tot ll
    have l3 := Nat.le_of_eq hap.len
    have l5 : vp.length ≤ 10000000 := by omega
    clear l1 l3
    go_enter Tryd.func40, Tryd.ntmps40
    go_wp2_with fail
    refine hI.mono ?_
    rintro e w1 ⟨v1, rfl, hown, hfr, hb1⟩
    clear hI
    have r1 := hown.rd (enc_byt k h0 (by omega))
    obtain ⟨a1, c1, rfl, hc1⟩ := r1.form
    have q1 := rd_lit w1 signW 5 (4, 5) (byt_of (by decide)) (by decide) (by decide)
    have b1 := below_alloc w1 (.cells (bc signW).toArray 5 (4, 5))
    go_wp2_with (first
      | (refine wl_str (by rfl) _ (by rfl) s (by rfl) (by unfold maxLen; omega) ?_; intro v2 w2 hr2 hf2 hb2; obtain ⟨a2, c2, rfl, hc2⟩ := hr2.form; have B2 : Below w1.heap.size w1 w2 := below_and b1 (Nat.le_refl _) hb2; have b3 := below_alloc w2 (.cells [.slice (some ⟨w1.heap.size, 0, none⟩) 4 4, .slice a1 (enc k).length c1, .slice a2 (sL s).length c2].toArray 24); have B3 := below_and (below_and hb1 (Nat.le_refl _) B2) (Nat.le_refl _) b3)
      | (at_builtin; refine app_list rfl _ _ rfl _ [.slice (some ⟨w1.heap.size, 0, none⟩) 4 4, .slice a1 (enc k).length c1, .slice a2 (sL s).length c2] rfl (own_els w2 [.slice (some ⟨w1.heap.size, 0, none⟩) 4 4, .slice a1 (enc k).length c1, .slice a2 (sL s).length c2] 24 (by simp)) _ vp rfl (hvp.below B3) (rds_one hap) (by simp only [List.length_cons, List.length_nil]; omega) ?_; intro v5 w5 happ5))
    have q2 := q1.below hb2
    have r2 := r1.below B2
    have f3 : Fr w.heap.size (.slice (some ⟨w2.heap.size, 0, none⟩) 3 3) := fr_at _ _ _ _ (Nat.le_trans hb1.size B2.size)
    have b5 : Below w.heap.size w w5 := B3.trans (happ5.below f3 B3.size)
    have B35 : Below w2.heap.size w2 w5 := b3.trans (happ5.below (fr_at _ _ _ _ (Nat.le_refl _)) b3.size)
    refine (refPack_any w5 v5 ([signW, enc k, sL s] ++ ll) ⟨_, happ5.own.rdv, All2.app ⟨q2.below B35, r2.below B35, hr2.below B35, trivial⟩ (rds_below hap b5)⟩ (by omega)).mono ?_
    rintro e w6 ⟨v6, rfl, ho6, hf6, hb6⟩
    go_wp2_with fail
    go_ret
    exact ⟨_, rfl, ho6, hf6.mono b5.size, below_and b5 (Nat.le_refl _) hb6⟩

set_option maxHeartbeats 400000 in
/-- catenaryref03.Sign. -/
theorem refSign_any (w : World) (k : Int) (s : ByteArray) (pv : Value) (ll : List (List Int)) (hp : Rdl w pv ll) (hs : s.size ≤ 4000000) (ht : tot ll ≤ 4000000) :
    Calls Tryd.prog 36 #[.int .i64 k, .string s, pv] w fun e w' => ∃ v', e = .returned v' ∧ Own w' 5 v' (bc (signL k (sL s) ll)) ∧ Fr w.heap.size v' ∧ Below w.heap.size w w' := by
  have hbt := textL_byt k s ll hp.byts (by omega)
  have hX := refText_any w k s pv ll hp hs ht
  by_cases hk : k < 0 ∨ 127 < k
  · rw [signL_no _ _ hk]
    rw [textL_no _ _ hk] at hX
    clear hbt
    go_enter Tryd.func36, Tryd.ntmps36
    go_wp2_with fail
    refine hX.mono ?_
    rintro e w1 ⟨v1, rfl, hown, hfr, hb1⟩
    obtain ⟨a1, c1, rfl, hc1⟩ := hown.form
    clear hX
    go_wp2_with fail
    go_ret
    exact ⟨_, rfl, Own.nil _ _, Fr.nil _, hb1⟩
  · have h0 : 0 ≤ k := by omega
    have h1 : k ≤ 127 := by omega
    clear hk
    rw [signL_yes _ _ h0 h1]
    rw [textL_yes _ _ h0 h1] at hX hbt
    have hpos : 0 < (packL ([signW, enc k, sL s] ++ ll)).length := pack_pos _ _
    have hple := packL_len ([signW, enc k, sL s] ++ ll)
    have htt := tot_three k (sL s) ll
    rw [sL_len] at htt
    generalize packL ([signW, enc k, sL s] ++ ll) = X at hX hbt hpos hple ⊢
    have hne : ((X.length : Int) == 0) = false := by rw [beq_eq_false_iff_ne]; omega
    have hlen : X.length ≤ 1000000000 := by omega
    clear htt hple
    go_enter Tryd.func36, Tryd.ntmps36
    go_wp2_with fail
    refine hX.mono ?_
    rintro e w1 ⟨v1, rfl, hown, hfr, hb1⟩
    clear hX
    have r1 := hown.rd hbt
    obtain ⟨a1, c1, rfl, hc1⟩ := r1.form
    go_wp2_with fail
    refine (refSum_any w1 _ X r1 (by omega)).mono ?_
    rintro e w2 ⟨v2, rfl, ho2, hf2, hb2⟩
    go_wp2_with fail
    go_ret
    exact ⟨_, rfl, ho2, hf2.mono hb1.size, below_and hb1 (Nat.le_refl _) hb2⟩


set_option maxHeartbeats 400000 in
/-- catenaryref03.Verify. -/
theorem refVerify_any (w : World) (k : Int) (sv : Value) (sig : List Int) (s : ByteArray) (pv : Value) (ll : List (List Int)) (hsv : Rd w sv sig) (hp : Rdl w pv ll) (hs : s.size ≤ 4000000) (ht : tot ll ≤ 4000000) :
    Calls Tryd.prog 51 #[.int .i64 k, sv, .string s, pv] w fun e w' => e = .returned (.bool (verL k sig (sL s) ll)) ∧ Below w.heap.size w w' := by
  by_cases h0 : 0 ≤ k
  · by_cases h1 : k ≤ 127
    · rw [verL, if_pos ⟨h0, h1⟩]
      have hS := refSign_any w k s pv ll hp hs ht
      have hbt := signL_byt k (sL s) ll
      generalize signL k (sL s) ll = X at hS hbt ⊢
      obtain ⟨d, hd⟩ : ∃ d, d = decide (sig = X) := ⟨_, rfl⟩
      rw [← hd]
      have HD := (show Hid (d = decide (sig = X)) from hd)
      clear hd
      go_enter Tryd.func51, Tryd.ntmps51
      go_wp2_with fail
      refine hS.mono ?_
      rintro e w1 ⟨v1, rfl, ho1, hf1, hb1⟩
      clear hS
      have hE := same_any w1 sv v1 sig X (hsv.below hb1) (ho1.rd hbt)
      rw [← HD.out] at hE
      go_wp2_with fail
      refine hE.mono ?_
      rintro e w2 ⟨rfl, rfl⟩
      clear hE
      go_wp2_with fail
      go_ret
      exact ⟨rfl, hb1⟩
    · rw [verL, if_neg (by omega)]
      have hd1 : decide (k ≤ 127) = false := by simpa using h1
      go_enter Tryd.func51, Tryd.ntmps51
      go_wp2_with fail
      go_ret
      exact ⟨rfl, Below.refl _ _⟩
  · rw [verL, if_neg (by omega)]
    have hd0 : decide (0 ≤ k) = false := by simpa using h0
    go_enter Tryd.func51, Tryd.ntmps51
    go_wp2_with fail
    go_ret
    exact ⟨rfl, Below.refl _ _⟩
end Go.Proofs.YtmfmfjndigjlfaaDoor
