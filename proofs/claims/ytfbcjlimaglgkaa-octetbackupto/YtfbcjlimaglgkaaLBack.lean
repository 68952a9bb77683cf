/- catenarylaw01.OctetBack: its walk. -/
import Derived.Test.YtfbcjlimaglgkaaAlive
namespace Go.Proofs.Ytfbcjlimaglgkaa
open Go.RowKit Oct

theorem getI_back (a b : List Int) (n : Int) (h0 : 0 ≤ n) (h1 : n ≤ 2147483647) : getI (a ++ enc n ++ b) (a.length : Int) = (n, (a.length : Int) + ((enc n).length : Int), 0) := by
  refine getI_some a.length (by simp) ?_
  rw [List.append_assoc, List.drop_left]
  exact num_enc n b h0 h1

theorem Rd.form {w : World} {v : Value} {l : List Int} (h : Rd w v l) : ∃ ao cap, v = .slice ao l.length cap ∧ cap ≤ maxLen := by
  obtain ⟨_, ao, cap, rfl, _, h2, _⟩ := h
  exact ⟨ao, cap, by rw [bc_len], h2⟩
theorem Rd.front {w : World} {b off cap : Nat} {l : List Int} (h : Rd w (.slice (some ⟨b, off, none⟩) l.length cap) l) (n : Nat) (hn : n ≤ l.length) : Rd w (.slice (some ⟨b, off, none⟩) n cap) (l.take n) := by
  obtain ⟨hb, ao, c, e, h1, h2, h3, h4⟩ := h
  rw [bc_len] at e h1
  injection e with e1 _ e3
  subst e1 e3
  have hlen : (bc (l.take n)).length = n := by rw [bc_len, List.length_take]; omega
  refine ⟨hb.take _, some ⟨b, off, none⟩, cap, by rw [hlen], by rw [hlen]; omega, h2, fun e => (by cases e), fun a ha j u hu => h4 a ha j u ?_⟩
  have hj : j < n := by
    rcases Nat.lt_or_ge j n with h | h
    · exact h
    · rw [List.getElem?_eq_none (by omega)] at hu; cases hu
  rw [bc_getD _ _ (by rw [List.length_take]; omega)] at hu
  rw [bc_getD _ _ (by omega), ← hu]
  simp [List.getD, hj]

set_option maxHeartbeats 800000 in
theorem back_any (w : World) (n : Int) (v1 v2 : Value) (l1 l2 : List Int) (h1 : Rd w v1 l1) (h2 : Rd w v2 l2) (hl1 : l1.length ≤ 1048576) (hl2 : l2.length ≤ 1048576) :
    Calls Try.prog 6 #[.int .i64 n, v1, v2] w fun e w' => e = .returned (.bool true) ∧ Below w.heap.size w w' := by
  have le := Nat.le_refl w.heap.size
  obtain ⟨ao1, cap1, rfl, hc1⟩ := h1.form
  cases hnum : num l2 with
  | none =>
    have hg := getI_none (l := l2) 0 (Nat.zero_le _) (by rw [List.drop_zero]; exact hnum)
    go_enter Try.func6, Try.ntmps6
    go_wp2_with fail
    refine (alive_any w).mono ?_
    rintro e w1 ⟨rfl, hb1⟩
    have h1a := h1.below hb1
    have h2a := h2.below hb1
    go_wp2_with (at_builtin; refine app_copy rfl _ _ rfl rfl v2 l2 rfl h2a (by omega) ?_; intro own w2 hown hfr hb2)
    have hGI := getInt_any w2 own l2 ((0 : Nat) : Int) (hown.rd h2.1) (by omega)
    rw [hg] at hGI
    have h1w := h1a.below hb2
    have h2w := h2a.below hb2
    have hbw := below_and hb1 le hb2
    clear h1 h2 h1a h2a hb1 hb2 hown hfr hg hnum
    refine hGI.mono ?_
    rintro e w2' ⟨rfl, rfl⟩
    clear hGI
    go_wp2_with fail
    by_cases hn0 : n < 0
    · have hI := int_any w2' n
      rw [errI_no (.inl hn0), outI_no (.inl hn0)] at hI
      refine hI.mono ?_
      rintro e w9 ⟨ip, rfl, hip, hf9, hb9⟩
      clear hI
      go_wp2_with fail
      go_ret
      exact ⟨rfl, below_and hbw le hb9⟩
    by_cases hn1 : 2147483647 < n
    · have hI := int_any w2' n
      rw [errI_no (.inr hn1), outI_no (.inr hn1)] at hI
      refine hI.mono ?_
      rintro e w9 ⟨ip, rfl, hip, hf9, hb9⟩
      clear hI
      have hd : decide (n < 0) = false := by simp; omega
      go_wp2_with fail
      go_ret
      exact ⟨rfl, below_and hbw le hb9⟩
    have hI := int_any w2' n
    rw [errI_yes (by omega) (by omega), outI_yes (by omega) (by omega)] at hI
    refine hI.mono ?_
    rintro e w3 ⟨ip, rfl, hip, hf3, hb3⟩
    clear hI hf3
    have hbyt3 := enc_byt n (by omega) (by omega)
    have hl5 := enc_len5 n (by omega) (by omega)
    have hG := getI_back l1 l2 n (by omega) (by omega)
    have r1 := h1w.below hb3
    have r2 := h2w.below hb3
    have hb3' := below_and hbw le hb3
    clear h1w h2w hb3 hbw
    obtain ⟨ipa, ipc, rfl, hipc⟩ := hip.form
    rw [bc_len]
    have r3 := hip.rd hbyt3
    rw [bc_len] at r3
    clear hip hbyt3
    generalize enc n = en at *
    go_wp2_with (first | (at_builtin; refine app_copy rfl _ _ rfl rfl _ l1 rfl r1 (by omega) ?_; intro o1 w4 hown1 hfr1 hb4; have r3' := r3.below hb4; have r2' := r2.below hb4) | (at_builtin; refine app_bytes rfl (.tmp 74) _ rfl o1 l1 rfl hown1 _ en rfl r3'.2 (by omega) ?_; intro o2 w5 happ2; have hb5 := happ2.below hfr1 hb4.size; have hfr2 := happ2.fr hfr1 hb4.size; have r2s := r2.below (hb4.trans hb5); have hs5 := Nat.le_trans hb4.size hb5.size) | (at_builtin; refine app_bytes rfl (.tmp 76) _ rfl o2 (l1 ++ en) rfl happ2.own _ l2 rfl r2s.2 (by simp only [List.length_append]; omega) ?_; intro o3 w6 happ3; have hb6 := happ3.below hfr2 hs5))
    have r6 := happ3.own.rd (((r1.1.app r3.1)).app r2.1)
    have hb6' : Below w.heap.size w w6 := below_and hb3' le ((hb4.trans hb5).trans hb6)
    clear happ3 happ2 hb4 hb5 hb6 r1 r2 r2' r2s r3 r3' hown1 hfr1 hfr2 hb3' hs5
    have hGI := getInt_any w6 o3 _ (l1.length : Int) r6 (by simp only [List.length_append]; omega)
    rw [hG] at hGI
    clear r6 hG
    refine hGI.mono ?_
    rintro e w7 ⟨rfl, rfl⟩
    clear hGI
    have h5d : decide ((en.length : Int) ≤ 5) = true := by simp; omega
    go_wp2_with fail
    go_ret
    exact ⟨rfl, hb6'⟩
  | some mk =>
    obtain ⟨m, k⟩ := mk
    have hg := getI_some (l := l2) 0 (Nat.zero_le _) (by rw [List.drop_zero]; exact hnum)
    obtain ⟨m0, m1, k1, k5, kl, ht⟩ := num_some h2.1 hnum
    obtain ⟨b, off, cap, rfl, hcc, hcm, hbb, _⟩ := h2.at (by omega)
    have hg0 : ((0 : Nat) : Int) + (k : Int) = (k : Int) := by omega
    rw [hg0] at hg
    go_enter Try.func6, Try.ntmps6
    go_wp2_with fail
    refine (alive_any w).mono ?_
    rintro e w1 ⟨rfl, hb1⟩
    have h1a := h1.below hb1
    have h2a := h2.below hb1
    go_wp2_with (at_builtin; refine app_copy rfl _ _ rfl rfl _ l2 rfl h2a (by omega) ?_; intro own w2 hown hfr hb2)
    have hGI := getInt_any w2 own l2 ((0 : Nat) : Int) (hown.rd h2.1) (by omega)
    rw [hg] at hGI
    have h1b := h1a.below hb2
    have h2b := h2a.below hb2
    have hbb2 := below_and hb1 le hb2
    clear h1 h2 h1a h2a hb1 hb2 hown hfr hg hg0 hnum
    refine hGI.mono ?_
    rintro e w2' ⟨rfl, rfl⟩
    clear hGI
    go_wp2_with fail
    have hI := int_any w2' m
    rw [errI_yes m0 m1, outI_yes m0 m1] at hI
    refine hI.mono ?_
    rintro e w3 ⟨im, rfl, him, hf3, hb3⟩
    clear hI hf3
    have h1w := h1b.below hb3
    have h2w := h2b.below hb3
    have hbw := below_and hbb2 le hb3
    clear h1b h2b hbb2 hb3
    have hs := same_any w3 im (.slice (some ⟨b, off, none⟩) k cap) _ _ (him.rd (enc_byt m m0 (by omega))) (h2w.front k kl)
    rw [decide_eq_true ht.symm] at hs
    clear him ht
    have H1 := (show Hid (∀ _ : Unit, _) from fun _ => hs)
    clear hs
    go_wp2_with fail
    refine (H1.out ()).mono ?_
    rintro e w3' ⟨rfl, rfl⟩
    clear H1
    go_wp2_with fail
    by_cases hn0 : n < 0
    · have hI := int_any w3' n
      rw [errI_no (.inl hn0), outI_no (.inl hn0)] at hI
      refine hI.mono ?_
      rintro e w9 ⟨ip, rfl, hip, hf9, hb9⟩
      clear hI
      go_wp2_with fail
      go_ret
      exact ⟨rfl, below_and hbw le hb9⟩
    by_cases hn1 : 2147483647 < n
    · have hI := int_any w3' n
      rw [errI_no (.inr hn1), outI_no (.inr hn1)] at hI
      refine hI.mono ?_
      rintro e w9 ⟨ip, rfl, hip, hf9, hb9⟩
      clear hI
      have hd : decide (n < 0) = false := by simp; omega
      go_wp2_with fail
      go_ret
      exact ⟨rfl, below_and hbw le hb9⟩
    have hI := int_any w3' n
    rw [errI_yes (by omega) (by omega), outI_yes (by omega) (by omega)] at hI
    refine hI.mono ?_
    rintro e w3 ⟨ip, rfl, hip, hf3, hb3⟩
    clear hI hf3
    have hbyt3 := enc_byt n (by omega) (by omega)
    have hl5 := enc_len5 n (by omega) (by omega)
    have hG := getI_back l1 l2 n (by omega) (by omega)
    have r1 := h1w.below hb3
    have r2 := h2w.below hb3
    have hb3' := below_and hbw le hb3
    clear h1w h2w hb3 hbw
    obtain ⟨ipa, ipc, rfl, hipc⟩ := hip.form
    rw [bc_len]
    have r3 := hip.rd hbyt3
    rw [bc_len] at r3
    clear hip hbyt3
    generalize enc n = en at *
    go_wp2_with (first | (at_builtin; refine app_copy rfl _ _ rfl rfl _ l1 rfl r1 (by omega) ?_; intro o1 w4 hown1 hfr1 hb4; have r3' := r3.below hb4; have r2' := r2.below hb4) | (at_builtin; refine app_bytes rfl (.tmp 74) _ rfl o1 l1 rfl hown1 _ en rfl r3'.2 (by omega) ?_; intro o2 w5 happ2; have hb5 := happ2.below hfr1 hb4.size; have hfr2 := happ2.fr hfr1 hb4.size; have r2s := r2.below (hb4.trans hb5); have hs5 := Nat.le_trans hb4.size hb5.size) | (at_builtin; refine app_bytes rfl (.tmp 76) _ rfl o2 (l1 ++ en) rfl happ2.own _ l2 rfl r2s.2 (by simp only [List.length_append]; omega) ?_; intro o3 w6 happ3; have hb6 := happ3.below hfr2 hs5))
    have r6 := happ3.own.rd (((r1.1.app r3.1)).app r2.1)
    have hb6' : Below w.heap.size w w6 := below_and hb3' le ((hb4.trans hb5).trans hb6)
    clear happ3 happ2 hb4 hb5 hb6 r1 r2 r2' r2s r3 r3' hown1 hfr1 hfr2 hb3' hs5
    have hGI := getInt_any w6 o3 _ (l1.length : Int) r6 (by simp only [List.length_append]; omega)
    rw [hG] at hGI
    clear r6 hG
    refine hGI.mono ?_
    rintro e w7 ⟨rfl, rfl⟩
    clear hGI
    have h5d : decide ((en.length : Int) ≤ 5) = true := by simp; omega
    go_wp2_with fail
    go_ret
    exact ⟨rfl, hb6'⟩
end Go.Proofs.Ytfbcjlimaglgkaa
