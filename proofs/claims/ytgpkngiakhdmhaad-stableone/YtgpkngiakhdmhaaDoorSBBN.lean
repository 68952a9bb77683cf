/- vote.Cert. -/
import Derived.Test.YtgpkngiakhdmhaaDoorSBBJ
import Derived.Test.YtgpkngiakhdmhaaDoorSBBA
import Derived.Deep.Cut
import Derived.Test.YtgpkngiakhdmhaaDoorSBAN
import Derived.Test.YtgpkngiakhdmhaaDoorSBBC
set_option linter.unusedVariables false
namespace Go.Proofs.YtgpkngiakhdmhaaDoor
section
open Go.RowKit Oct Sha
def signW : List Int := [115, 105, 103, 110]
/-- What a key signs. -/
def textL (k : Int) (d : List Int) (ll : List (List Int)) : List Int := if 0 ≤ k ∧ k ≤ 127 then packL ([signW, enc k, d] ++ ll) else []
def signL (k : Int) (d : List Int) (ll : List (List Int)) : List Int := if 0 ≤ k ∧ k ≤ 127 then shaL (packL ([signW, enc k, d] ++ ll)) else []
def verL (k : Int) (sig : List Int) (d : List Int) (ll : List (List Int)) : Bool := if 0 ≤ k ∧ k ≤ 127 then decide (sig = signL k d ll) else false
theorem textL_yes {k : Int} (d : List Int) (ll : List (List Int)) (h0 : 0 ≤ k) (h1 : k ≤ 127) : textL k d ll = packL ([signW, enc k, d] ++ ll) := if_pos ⟨h0, h1⟩
theorem textL_no {k : Int} (d : List Int) (ll : List (List Int)) (h : k < 0 ∨ 127 < k) : textL k d ll = [] := if_neg (by omega)
theorem signL_yes {k : Int} (d : List Int) (ll : List (List Int)) (h0 : 0 ≤ k) (h1 : k ≤ 127) : signL k d ll = shaL (packL ([signW, enc k, d] ++ ll)) := if_pos ⟨h0, h1⟩
theorem signL_no {k : Int} (d : List Int) (ll : List (List Int)) (h : k < 0 ∨ 127 < k) : signL k d ll = [] := if_neg (by omega)
theorem signL_byt (k : Int) (d : List Int) (ll : List (List Int)) : Byt (signL k d ll) := by
  unfold signL
  split
  · exact shaL_byt _
  · exact Byt.nil
theorem pack_pos (l : List Int) (ll : List (List Int)) : 0 < (packL (l :: ll)).length := by
  simp only [packL, List.length_append]
  have := (enc_len (l.length : Int)).1
  omega
theorem tot_three (k : Int) (d : List Int) (ll : List (List Int)) : tot ([signW, enc k, d] ++ ll) ≤ 17 + d.length + tot ll := by
  have := enc_len k
  simp only [tot_app, tot, signW, List.length_cons, List.length_nil]
  omega
theorem rds_one {w : World} : ∀ {vs : List Value} {ll : List (List Int)}, All2 (Rd w) vs ll → ∀ u ∈ vs, u.oneCell' = true
  | [], _, _, u, hu => by cases hu
  | v :: vs, [], h, _, _ => h.elim
  | v :: vs, l :: ll, h, u, hu => by
    rcases List.mem_cons.1 hu with e | e
    · subst e
      obtain ⟨ao, cap, rfl, _⟩ := h.1.form
      rfl
    · exact rds_one h.2 u e
theorem rds_below {w w' : World} {vs : List Value} {ll : List (List Int)} (h : All2 (Rd w) vs ll) (hb : Below w.heap.size w w') : All2 (Rd w') vs ll := h.mono fun _ _ h => h.below hb
theorem run_mkl (m n : Nat) (hn : m + n ≤ 1000000000) (u : World) : (Instr.makeSlice 75 (.int .i64 0) (.int .i64 ((m : Int) + (n : Int)))).run Tryd.prog u =
    .ok (.slice (some ⟨u.heap.size, 0, none⟩) 0 (m + n)) (u.alloc (.cells (madeCells #[.slice none 0 0] (m + n)) 26)) := by
  obtain ⟨i0, hi, hz0, hz1, hz2⟩ := info_parts Tryd.info23
  have h := run_make (P := Tryd.prog) u 75 26 i0 (.slice none 0 0) Tryd.underlying75 hi hz0 .i64 .i64 0 ((m : Int) + (n : Int)) (by omega) (by omega) (by rw [hz2]; omega) (by omega)
  rw [show ((m : Int) + (n : Int)).toNat = m + n by omega] at h
  simpa [hz1, Value.cells] using h
theorem own_madel (w : World) (n : Nat) (hn : n ≤ 1000000000) : Own (w.alloc (.cells (madeCells #[.slice none 0 0] n) 26)) 26 (.slice (some ⟨w.heap.size, 0, none⟩) 0 n) [] :=
  ⟨rfl, .inr ⟨w.heap.size, n, madeCells #[.slice none 0 0] n, rfl, Nat.zero_le _, heap_alloc_new w _, Nat.zero_le _, by unfold maxLen; omega, by simp [madeCells], rfl⟩⟩
set_option maxHeartbeats 400000 in
/-- key.packBehind. -/
theorem packBehind_any (w : World) (pv fv : Value) (lp lf : List (List Int)) (hp : Rdl w pv lp) (hf : Rdl w fv lf) (ht : tot (lf ++ lp) ≤ 10000000) :
    Calls Tryd.prog 69 #[pv, fv] w fun e w' => ∃ v', e = .returned v' ∧ Own w' 5 v' (bc (packL (lf ++ lp))) ∧ Fr w.heap.size v' ∧ Below w.heap.size w w' := by
  obtain ⟨vp, hvp, hap⟩ := hp
  obtain ⟨vf, hvf, haf⟩ := hf
  obtain ⟨ap, cp, rfl, hcp⟩ := hvp.form
  obtain ⟨af, cf, rfl, hcf⟩ := hvf.form
  have ht' := tot_app lf lp
  have l1 := len_tot lp
  have l2 := len_tot lf
  have l3 := Nat.le_of_eq hap.len
  have l4 := Nat.le_of_eq haf.len
  have l5 : vp.length ≤ 10000000 := by omega
  have l6 : vf.length ≤ 10000000 := by omega
  clear ht' l1 l2 l3 l4
  have hmk := run_mkl vf.length vp.length (by omega)
  obtain ⟨O, hO⟩ : ∃ O, O = Obj.cells (madeCells #[.slice none 0 0] (vf.length + vp.length)) 26 := ⟨_, rfl⟩
  have how : Own (w.alloc O) 26 (.slice (some ⟨w.heap.size, 0, none⟩) 0 (vf.length + vp.length)) [] := hO ▸ own_madel w _ (by omega)
  rw [← hO] at hmk
  clear hO
  have b0 := below_alloc w O
  have hfr : Fr w.heap.size (.slice (some ⟨w.heap.size, 0, none⟩) 0 (vf.length + vp.length)) := fr_at _ _ _ _ (Nat.le_refl _)
  go_enter Tryd.func69, Tryd.ntmps69
  go_wp2_with (first
    | (at_builtin; refine app_list rfl _ _ rfl _ [] rfl how _ vf rfl (hvf.below b0) (rds_one haf) (by simp only [List.length_nil]; omega) ?_; intro v1 w1 happ1; have b1 : Below w.heap.size w w1 := b0.trans (happ1.below hfr b0.size); have f1 := happ1.fr hfr b0.size)
    | (at_builtin; refine app_list rfl _ _ rfl v1 ([] ++ vf) rfl happ1.own _ vp rfl (hvp.below b1) (rds_one hap) (by simp only [List.nil_append]; omega) ?_; intro v2 w2 happ2; have b2 : Below w.heap.size w w2 := b1.trans (happ2.below f1 b1.size)))
  have ho2 := happ2.own
  rw [List.nil_append] at ho2
  refine (pack_any w2 v2 (lf ++ lp) ⟨vf ++ vp, ho2.rdv, All2.app (rds_below haf b2) (rds_below hap b2)⟩ ht).mono ?_
  rintro e w3 ⟨v3, rfl, ho3, hf3, hb3⟩
  go_wp2_with fail
  go_ret
  exact ⟨_, rfl, ho3, hf3.mono b2.size, below_and b2 (Nat.le_refl _) hb3⟩
set_option maxHeartbeats 400000 in
/-- key.Text. -/
theorem text_any (w : World) (k : Int) (s : ByteArray) (pv : Value) (ll : List (List Int)) (hp : Rdl w pv ll) (hs : s.size ≤ 4000000) (ht : tot ll ≤ 4000000) :
    Calls Tryd.prog 58 #[.int .i64 k, .string s, pv] w fun e w' => ∃ v', e = .returned v' ∧ Own w' 5 v' (bc (textL k (sL s) ll)) ∧ Fr w.heap.size v' ∧ Below w.heap.size w w' := by
  by_cases hk : k < 0 ∨ 127 < k
  · rw [textL_no _ _ hk]
    go_enter Tryd.func58, Tryd.ntmps58
    go_wp2_with fail
    refine (isKey_no w k hk).mono ?_
    rintro e w' ⟨rfl, rfl⟩
    go_wp2_with fail
    go_ret
    exact ⟨_, rfl, Own.nil _ _, Fr.nil _, Below.refl _ _⟩
  · have h0 : 0 ≤ k := by omega
    have h1 : k ≤ 127 := by omega
    clear hk
    rw [textL_yes _ _ h0 h1]
    have hI := int_any w k
    rw [errI_yes (by omega) (by omega), outI_yes (by omega) (by omega)] at hI
    have hcv := run_cvt
    have htt := tot_three k (sL s) ll
    rw [sL_len] at htt
    go_enter Tryd.func58, Tryd.ntmps58
    go_wp2_with fail
    refine (isKey_yes w k h0 h1).mono ?_
    rintro e w' ⟨rfl, rfl⟩
    go_wp2_with fail
    refine hI.mono ?_
    rintro e w1 ⟨v1, rfl, hown, hfr, hb1⟩
    clear hI
    have r1 := hown.rd (enc_byt k h0 (by omega))
    obtain ⟨a1, c1, rfl, hc1⟩ := r1.form
    have q1 := rd_lit w1 signW 5 (4, 5) (byt_of (by decide)) (by decide) (by decide)
    have b1 := below_alloc w1 (.cells (bc signW).toArray 5 (4, 5))
    go_wp2_with (refine wl_str (by rfl) _ (by rfl) s (by rfl) (by unfold maxLen; omega) ?_; intro v2 w2 hr2 hf2 hb2; obtain ⟨a2, c2, rfl, hc2⟩ := hr2.form)
    have B2 : Below w1.heap.size w1 w2 := below_and b1 (Nat.le_refl _) hb2
    have q2 := q1.below hb2
    have r2 := r1.below B2
    have b3 := below_alloc w2 (.cells #[.slice (some ⟨w1.heap.size, 0, none⟩) 4 4, .slice a1 (enc k).length c1, .slice a2 (sL s).length c2] 26)
    have B3 := below_and (below_and hb1 (Nat.le_refl _) B2) (Nat.le_refl _) b3
    refine (packBehind_any _ pv _ ll [signW, enc k, sL s] (hp.below B3) ⟨[.slice (some ⟨w1.heap.size, 0, none⟩) 4 4, .slice a1 (enc k).length c1, .slice a2 (sL s).length c2], rdv_els w2 [.slice (some ⟨w1.heap.size, 0, none⟩) 4 4, .slice a1 (enc k).length c1, .slice a2 (sL s).length c2] 26 (by simp) (by simp), q2.below b3, r2.below b3, hr2.below b3, trivial⟩ (by omega)).mono ?_
    rintro e w4 ⟨v4, rfl, ho4, hf4, hb4⟩
    go_wp2_with fail
    go_ret
    exact ⟨_, rfl, ho4, hf4.mono B3.size, below_and B3 (Nat.le_refl _) hb4⟩
theorem textL_byt (k : Int) (s : ByteArray) (ll : List (List Int)) (hb : Byts ll) (h : s.size + tot ll ≤ 100000000) : Byt (textL k (sL s) ll) := by
  by_cases hk : k < 0 ∨ 127 < k
  · rw [textL_no _ _ hk]; exact Byt.nil
  · rw [textL_yes _ _ (by omega) (by omega)]
    have htt := tot_three k (sL s) ll
    rw [sL_len] at htt
    refine packL_byt (fun l hl => ?_) (by omega)
    rcases List.mem_append.1 hl with h | h
    · simp only [List.mem_cons, List.not_mem_nil, or_false] at h
      rcases h with rfl | rfl | rfl
      · exact byt_of (by decide)
      · exact enc_byt k (by omega) (by omega)
      · exact sL_byt s
    · exact hb l h
set_option maxHeartbeats 400000 in
/-- key.Sign. -/
theorem sign_any (w : World) (k : Int) (s : ByteArray) (pv : Value) (ll : List (List Int)) (hp : Rdl w pv ll) (hs : s.size ≤ 4000000) (ht : tot ll ≤ 4000000) (hT : Tab w) :
    Calls Tryd.prog 40 #[.int .i64 k, .string s, pv] w fun e w' => ∃ v', e = .returned v' ∧ Own w' 5 v' (bc (signL k (sL s) ll)) ∧ Fr w.heap.size v' ∧ Below w.heap.size w w' := by
  have hbt := textL_byt k s ll hp.byts (by omega)
  have hX := text_any w k s pv ll hp hs ht
  by_cases hk : k < 0 ∨ 127 < k
  · rw [signL_no _ _ hk]
    rw [textL_no _ _ hk] at hX
    clear hbt
    go_enter Tryd.func40, Tryd.ntmps40
    go_wp2_with fail
    refine hX.mono ?_
    rintro e w1 ⟨v1, rfl, hown, hfr, hb1⟩
    obtain ⟨a1, c1, rfl, hc1⟩ := hown.form
    clear hX
    go_wp2_with fail
    go_ret
    exact ⟨_, rfl, Own.nil _ _, Fr.nil _, hb1⟩
  · have h0 : 0 ≤ k := by omega
    have h1 : k ≤ 127 := by omega
    clear hk
    rw [signL_yes _ _ h0 h1]
    rw [textL_yes _ _ h0 h1] at hX hbt
    have hpos : 0 < (packL ([signW, enc k, sL s] ++ ll)).length := pack_pos _ _
    have hple := packL_len ([signW, enc k, sL s] ++ ll)
    have htt := tot_three k (sL s) ll
    rw [sL_len] at htt
    generalize packL ([signW, enc k, sL s] ++ ll) = X at hX hbt hpos hple ⊢
    have hne : ((X.length : Int) == 0) = false := by rw [beq_eq_false_iff_ne]; omega
    have hlen : X.length ≤ 1000000000 := by omega
    clear htt hple
    go_enter Tryd.func40, Tryd.ntmps40
    go_wp2_with fail
    refine hX.mono ?_
    rintro e w1 ⟨v1, rfl, hown, hfr, hb1⟩
    clear hX
    have r1 := hown.rd hbt
    obtain ⟨a1, c1, rfl, hc1⟩ := r1.form
    go_wp2_with fail
    refine (sum_any w1 _ X r1 (hT.below hb1) (by omega)).mono ?_
    rintro e w2 ⟨v2, rfl, ho2, hf2, hb2⟩
    go_wp2_with fail
    go_ret
    exact ⟨_, rfl, ho2, hf2.mono hb1.size, below_and hb1 (Nat.le_refl _) hb2⟩
set_option maxHeartbeats 400000 in
/-- key.Verify. -/
theorem verify_any (w : World) (k : Int) (sv : Value) (sig : List Int) (s : ByteArray) (pv : Value) (ll : List (List Int)) (hsv : Rd w sv sig) (hp : Rdl w pv ll) (hs : s.size ≤ 4000000) (ht : tot ll ≤ 4000000) (hT : Tab w) :
    Calls Tryd.prog 35 #[.int .i64 k, sv, .string s, pv] w fun e w' => e = .returned (.bool (verL k sig (sL s) ll)) ∧ Below w.heap.size w w' := by
  by_cases hk : k < 0 ∨ 127 < k
  · rw [verL, if_neg (by omega)]
    go_enter Tryd.func35, Tryd.ntmps35
    go_wp2_with fail
    refine (isKey_no w k hk).mono ?_
    rintro e w' ⟨rfl, rfl⟩
    go_wp2_with fail
    go_ret
    exact ⟨rfl, Below.refl _ _⟩
  · have h0 : 0 ≤ k := by omega
    have h1 : k ≤ 127 := by omega
    clear hk
    rw [verL, if_pos ⟨h0, h1⟩]
    have hS := sign_any w k s pv ll hp hs ht hT
    have hbt := signL_byt k (sL s) ll
    generalize signL k (sL s) ll = X at hS hbt ⊢
    obtain ⟨d, hd⟩ : ∃ d, d = decide (sig = X) := ⟨_, rfl⟩
    rw [← hd]
    have HD := (show Hid (d = decide (sig = X)) from hd)
    clear hd
    go_enter Tryd.func35, Tryd.ntmps35
    go_wp2_with fail
    refine (isKey_yes w k h0 h1).mono ?_
    rintro e w' ⟨rfl, rfl⟩
    go_wp2_with fail
    refine hS.mono ?_
    rintro e w1 ⟨v1, rfl, ho1, hf1, hb1⟩
    clear hS
    have hE := equal_any w1 sv v1 sig X (hsv.below hb1) (ho1.rd hbt)
    rw [← HD.out] at hE
    go_wp2_with fail
    refine hE.mono ?_
    rintro e w2 ⟨rfl, rfl⟩
    clear hE
    go_wp2_with fail
    go_ret
    exact ⟨rfl, hb1⟩
end
section
open Go.RowKit Oct Sha
set_option maxRecDepth 10000 in
set_option maxHeartbeats 1000000 in
/-- vote.voteParts. -/
theorem voteParts_any (w : World) (k x y s : Int) (v : Value) (l : List Int) (hv : Rd w v l) :
    Calls Tryd.prog 37 #[.int .i64 k, .agg #[.int .i64 x, .int .i64 y], .int .i64 s, v] w fun e w' => ∃ v', e = .returned v' ∧ Rdl w' v' [numsL [k, x, y, s], l] ∧ Below w.heap.size w w' := by
  obtain ⟨ao, cap, rfl, hcap⟩ := hv.form
  go_enter Tryd.func37, Tryd.ntmps37
  go_wp2_with fail
  have hr := rdv_els (w.alloc (.cells #[.int .i64 x, .int .i64 y] 39)) (nc [k, x, y, s]) 3 (by simp [nc]) (by simp [nc])
  rw [show (w.alloc (.cells #[.int .i64 x, .int .i64 y] 39)).heap.size = w.heap.size + 1 by simp] at hr
  have b0 : Below w.heap.size w ((w.alloc (.cells #[.int .i64 x, .int .i64 y] 39)).alloc (.cells (nc [k, x, y, s]).toArray 3)) := below_and (below_alloc w _) (Nat.le_refl _) (below_alloc _ _)
  refine (nums_any _ _ [k, x, y, s] hr (by simp) (by simp)).mono ?_
  rintro e w1 ⟨v1, rfl, ho1, hf1, hb1⟩
  have B1 := below_and b0 (Nat.le_refl _) hb1
  have r1 := ho1.rd (numsL_byt _)
  have v1' := hv.below B1
  clear hr b0 hb1 ho1 hf1
  obtain ⟨a1, c1, rfl, hc1⟩ := r1.form
  go_wp2_with fail
  go_ret
  exact ⟨_, rfl, ⟨[.slice a1 (numsL [k, x, y, s]).length c1, .slice ao l.length cap], rdv_els w1 [.slice a1 (numsL [k, x, y, s]).length c1, .slice ao l.length cap] 26 (by simp) (by simp), r1.below (below_alloc _ _), v1'.below (below_alloc _ _), trivial⟩, below_and B1 (Nat.le_refl _) (below_alloc _ _)⟩
set_option maxRecDepth 10000 in
set_option maxHeartbeats 2000000 in
/-- vote.Make. -/
theorem vMake_any (w : World) (k x y s i : Int) (v : Value) (l : List Int) (hv : Rd w v l) (hl : l.length ≤ 3000000) (hT : Tab w) :
    Calls Tryd.prog 29 #[.int .i64 k, .agg #[.int .i64 x, .int .i64 y], .int .i64 s, v, .int .i64 i] w fun e w' => ∃ v', e = .returned (.agg #[.int .i64 i, v']) ∧ RT (From w.heap.size) w' v' (signL (repL i) (sL ⟨#[118, 111, 116, 101]⟩) [numsL [k, x, y, s], l]) ∧ Below w.heap.size w w' := by
  obtain ⟨ao, cap, rfl, hcap⟩ := hv.form
  obtain ⟨w0, hw0⟩ : ∃ w0, w0 = (w.alloc (.cells #[.int .i64 x, .int .i64 y] 39)).alloc (.cells #[.int .i64 0, .slice none 0 0] 28) := ⟨_, rfl⟩
  have ra : Row w0 w.heap.size 39 [.int .i64 x, .int .i64 y] := by rw [hw0]; exact (Row.new w 39 _).below (below_alloc _ _)
  have rb : Row w0 (w.heap.size + 1) 28 [.int .i64 0, .slice none 0 0] := by rw [hw0, show w.heap.size + 1 = (w.alloc (.cells #[.int .i64 x, .int .i64 y] 39)).heap.size by simp]; exact Row.new _ 28 _
  have B0 : Below w.heap.size w w0 := by rw [hw0]; exact below_and (below_alloc _ _) (Nat.le_refl _) (below_alloc _ _)
  have hdw : Below w0.heap.size w0 w0.drew := ⟨rfl, rfl, rfl, Nat.le_refl _, fun _ _ => rfl⟩
  go_enter Tryd.func29, Tryd.ntmps29
  go_upto_region 1 with fail
  rw [← hw0]
  clear hw0
  have v0 := hv.below B0
  have SK := (show Hid (∀ u, Below w0.heap.size w0 u → u.cell? ⟨w.heap.size, 0, none⟩ = some (.int .i64 x) ∧ u.cell? ⟨w.heap.size, 1, none⟩ = some (.int .i64 y)) from fun u hu => ⟨(ra.below hu).cell (j := 0) rfl, (ra.below hu).cell (j := 1) rfl⟩)
  obtain ⟨a0, a1⟩ := SK.out w0 (Below.refl _ _)
  have HR := (show Hid (∀ u : World, Calls Tryd.prog 36 #[.int .i64 i] u fun e w' => e = .returned (.int .i64 (repL i)) ∧ w' = u) from fun u => replica_any u i)
  have HT := (show Hid (tot [numsL [k, x, y, s], l] ≤ 4000000) by show _ ≤ _; simp only [tot, numsL_len, List.length_cons, List.length_nil]; omega)
  go_wp2_with fail
  go_region_held3 (fun u => u.cell? ⟨w.heap.size, 0, none⟩ = some (.int .i64 x) ∧ u.cell? ⟨w.heap.size, 1, none⟩ = some (.int .i64 y))
    (first | exact SK.out _ (by assumption) | go_keep)
    (first
      | (go_at_call 40; refine (sign_any w3 (repL i) ⟨#[118, 111, 116, 101]⟩ v3 _ r3 (by decide) HT.out (hT.below (below_and B0 (Nat.le_refl _) hb3))).mono ?_; rintro e w4 ⟨v4, rfl, ho4, hf4, hb4⟩; have hB4 : Below w0.heap.size w0 w4 := below_and hb3 (Nat.le_refl _) hb4)
      | (go_at_call 37; refine (voteParts_any w0.drew k x y s _ l (v0.below hdw)).mono ?_; rintro e w3 ⟨v3, rfl, r3, hb3'⟩; have hb3 : Below w0.heap.size w0 w3 := below_and hdw (Nat.le_refl _) hb3')
      | (go_at_call 36; refine (HR.out _).mono ?_; rintro e w2 ⟨rfl, rfl⟩))
  have B4 := below_and B0 (Nat.le_refl _) hB4
  have rb4 := rb.below hB4
  have hlt3 : w.heap.size + 1 < w3.heap.size := Nat.lt_of_lt_of_le rb.lt hb3.size
  have hRT := RT.own ho4 (signL_byt _ _ _) hf4
  clear ho4 hf4
  obtain ⟨a4, c4, rfl, hc4⟩ := hRT.form
  go_wp2_with (refine wl_store rfl _ _ _ rfl (w.heap.size + 1) [.int .i64 i, .slice a4 _ c4] rfl rfl _ _ rb4 rfl (by kernel_rfl) (fun u hu => by simp only [List.mem_cons, List.not_mem_nil, or_false] at hu; rcases hu with rfl | rfl <;> rfl) ?_; intro w5 hr5 hg5)
  have hr5 := hr5.out
  refine bodyPost_ret (v := .agg ([.int .i64 i, .slice a4 _ c4] : List Value).toArray) (results_cell_row rfl _ _ (w.heap.size + 1) _ _ (0, 0) _ (by rfl) hr5 Tryd.underlying28 rfl (by kernel_rfl)) rfl ?_
  exact ⟨_, rfl, hRT.mv (Mv.from hg5 hlt3 (by omega)), B4.trans (grown_below hg5 B4.size (fun k hk => by cases hk; omega))⟩
set_option maxRecDepth 10000 in
set_option maxHeartbeats 2000000 in
/-- vote.Right. -/
theorem vRight_any (w : World) (k x y s i : Int) (v : Value) (l : List Int) (hv : Rd w v l) (hl : l.length ≤ 3000000) (gv : Value) (g : List Int) (hg : Rd w gv g) (hT : Tab w) :
    Calls Tryd.prog 27 #[.int .i64 k, .agg #[.int .i64 x, .int .i64 y], .int .i64 s, v, .agg #[.int .i64 i, gv]] w fun e w' => e = .returned (.bool (verL (repL i) g (sL ⟨#[118, 111, 116, 101]⟩) [numsL [k, x, y, s], l])) ∧ Below w.heap.size w w' := by
  obtain ⟨ao, cap, rfl, hcap⟩ := hv.form
  obtain ⟨ag, gap, rfl, hgap⟩ := hg.form
  obtain ⟨w0, hw0⟩ : ∃ w0, w0 = (w.alloc (.cells #[.int .i64 x, .int .i64 y] 39)).alloc (.cells #[.int .i64 i, .slice ag g.length gap] 28) := ⟨_, rfl⟩
  have ra : Row w0 w.heap.size 39 [.int .i64 x, .int .i64 y] := by rw [hw0]; exact (Row.new w 39 _).below (below_alloc _ _)
  have rb : Row w0 (w.heap.size + 1) 28 [.int .i64 i, .slice ag g.length gap] := by rw [hw0, show w.heap.size + 1 = (w.alloc (.cells #[.int .i64 x, .int .i64 y] 39)).heap.size by simp]; exact Row.new _ 28 _
  have B0 : Below w.heap.size w w0 := by rw [hw0]; exact below_and (below_alloc _ _) (Nat.le_refl _) (below_alloc _ _)
  have hdw : Below w0.heap.size w0 w0.drew := ⟨rfl, rfl, rfl, Nat.le_refl _, fun _ _ => rfl⟩
  go_enter Tryd.func27, Tryd.ntmps27
  go_upto_region 1 with fail
  rw [← hw0]
  clear hw0
  have v0 := hv.below B0
  have g0 := hg.below B0
  have SK := (show Hid (∀ u, Below w0.heap.size w0 u → u.cell? ⟨w.heap.size, 0, none⟩ = some (.int .i64 x) ∧ u.cell? ⟨w.heap.size, 1, none⟩ = some (.int .i64 y) ∧ u.cell? ⟨w.heap.size + 1, 0, none⟩ = some (.int .i64 i) ∧ u.cell? ⟨w.heap.size + 1, 1, none⟩ = some (.slice ag g.length gap)) from fun u hu => ⟨(ra.below hu).cell (j := 0) rfl, (ra.below hu).cell (j := 1) rfl, (rb.below hu).cell (j := 0) rfl, (rb.below hu).cell (j := 1) rfl⟩)
  obtain ⟨a0, a1, a2, a3⟩ := SK.out w0 (Below.refl _ _)
  have HR := (show Hid (∀ u : World, Calls Tryd.prog 36 #[.int .i64 i] u fun e w' => e = .returned (.int .i64 (repL i)) ∧ w' = u) from fun u => replica_any u i)
  have HT := (show Hid (tot [numsL [k, x, y, s], l] ≤ 4000000) by show _ ≤ _; simp only [tot, numsL_len, List.length_cons, List.length_nil]; omega)
  go_wp2_with fail
  go_region_held3 (fun u => u.cell? ⟨w.heap.size, 0, none⟩ = some (.int .i64 x) ∧ u.cell? ⟨w.heap.size, 1, none⟩ = some (.int .i64 y) ∧ u.cell? ⟨w.heap.size + 1, 0, none⟩ = some (.int .i64 i) ∧ u.cell? ⟨w.heap.size + 1, 1, none⟩ = some (.slice ag g.length gap))
    (first | exact SK.out _ (by assumption) | go_keep)
    (first
      | (go_at_call 35; refine (verify_any w3 (repL i) _ g ⟨#[118, 111, 116, 101]⟩ v3 _ (g0.below hb3) r3 (by decide) HT.out (hT.below (below_and B0 (Nat.le_refl _) hb3))).mono ?_; rintro e w4 ⟨rfl, hb4⟩; have hB4 : Below w0.heap.size w0 w4 := below_and hb3 (Nat.le_refl _) hb4)
      | (go_at_call 37; refine (voteParts_any w0.drew k x y s _ l (v0.below hdw)).mono ?_; rintro e w3 ⟨v3, rfl, r3, hb3'⟩; have hb3 : Below w0.heap.size w0 w3 := below_and hdw (Nat.le_refl _) hb3')
      | (go_at_call 36; refine (HR.out _).mono ?_; rintro e w2 ⟨rfl, rfl⟩))
  have B4 := below_and B0 (Nat.le_refl _) hB4
  go_wp2_with fail
  go_ret
  exact ⟨rfl, B4⟩
end
section
open Go.RowKit Oct Sha Bal
def rightV (k x y s : Int) (l : List Int) (v : PVote) : Bool := verL (repL v.1) v.2 (sL ⟨#[118, 111, 116, 101]⟩) [numsL [k, x, y, s], l]
end
end Go.Proofs.YtgpkngiakhdmhaaDoor
