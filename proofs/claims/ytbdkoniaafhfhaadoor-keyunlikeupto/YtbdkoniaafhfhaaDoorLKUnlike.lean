/- catenarylaw03.KeyUnlike: its walk. -/
import Derived.Test.YtbdkoniaafhfhaaDoorKAlive
import Derived.Deep.RegionHeld3
namespace Go.Proofs.YtbdkoniaafhfhaaDoor
open Go.RowKit Oct Sha

theorem textL_eq {k0 k1 : Int} {s0 s1 : ByteArray} {la lb : List (List Int)} (a0 : 0 ≤ k0) (a1 : k0 ≤ 127) (b0 : 0 ≤ k1) (b1 : k1 ≤ 127) (h0 : s0.size + tot la ≤ 100000000) (h1 : s1.size + tot lb ≤ 100000000)
    (h : textL k0 (sL s0) la = textL k1 (sL s1) lb) : k0 = k1 ∧ s0 = s1 ∧ la = lb := by
  rw [textL_yes _ _ a0 a1, textL_yes _ _ b0 b1] at h
  have t0 := tot_three k0 (sL s0) la
  have t1 := tot_three k1 (sL s1) lb
  rw [sL_len] at t0 t1
  have e := packL_inj (by omega) (by omega) h
  simp only [List.cons_append, List.nil_append, List.cons.injEq, true_and] at e
  obtain ⟨e1, e2, e3⟩ := e
  rw [enc_small _ (by omega), enc_small _ (by omega)] at e1
  exact ⟨by simpa using e1, sL_inj e2, e3⟩

/-- The three arguments in their boxes. -/
def Six (w : World) (n m q : Nat) (k0 k1 : Int) (s0 s1 : ByteArray) (v0 v1 : Value) : Prop :=
  Row w n 38 [.int .i64 k0, .int .i64 k1] ∧ Row w m 39 [.string s0, .string s1] ∧ Row w q 40 [v0, v1]
theorem Six.below {w w' : World} {n m q : Nat} {k0 k1 : Int} {s0 s1 : ByteArray} {v0 v1 : Value} (h : Six w n m q k0 k1 s0 s1 v0 v1) (hb : Below w.heap.size w w') : Six w' n m q k0 k1 s0 s1 v0 v1 :=
  ⟨h.1.below hb, h.2.1.below hb, h.2.2.below hb⟩
/-- What a walk reads in them. -/
theorem Six.cells {w : World} {n m q : Nat} {k0 k1 : Int} {s0 s1 : ByteArray} {v0 v1 : Value} (h : Six w n m q k0 k1 s0 s1 v0 v1) :
    (w.cell? ⟨n, 0, none⟩ = some (.int .i64 k0) ∧ w.cell? ⟨m, 0, none⟩ = some (.string s0) ∧ w.cell? ⟨q, 0, none⟩ = some v0) ∧
    (w.cell? ⟨n, 1, none⟩ = some (.int .i64 k1) ∧ w.cell? ⟨m, 1, none⟩ = some (.string s1) ∧ w.cell? ⟨q, 1, none⟩ = some v1) :=
  ⟨⟨h.1.cell rfl, h.2.1.cell rfl, h.2.2.cell rfl⟩, h.1.cell rfl, h.2.1.cell rfl, h.2.2.cell rfl⟩
theorem Six.new (w : World) (k0 k1 : Int) (s0 s1 : ByteArray) (v0 v1 : Value) :
    Six (((w.alloc (.cells #[.int .i64 k0, .int .i64 k1] 38)).alloc (.cells #[.string s0, .string s1] 39)).alloc (.cells #[v0, v1] 40)) w.heap.size (w.heap.size + 1) (w.heap.size + 1 + 1) k0 k1 s0 s1 v0 v1 := by
  have r1 := Row.new w 38 [.int .i64 k0, .int .i64 k1]
  have r2 := Row.new (w.alloc (.cells #[.int .i64 k0, .int .i64 k1] 38)) 39 [.string s0, .string s1]
  have r3 := Row.new ((w.alloc (.cells #[.int .i64 k0, .int .i64 k1] 38)).alloc (.cells #[.string s0, .string s1] 39)) 40 [v0, v1]
  have e1 : (w.alloc (.cells #[.int .i64 k0, .int .i64 k1] 38)).heap.size = w.heap.size + 1 := by simp
  have e2 : ((w.alloc (.cells #[.int .i64 k0, .int .i64 k1] 38)).alloc (.cells #[.string s0, .string s1] 39)).heap.size = w.heap.size + 1 + 1 := by simp
  refine ⟨(r1.below (below_alloc _ _)).below (below_alloc _ _), ?_, ?_⟩
  · rw [← e1]; exact r2.below (below_alloc _ _)
  · rw [← e2]; exact r3

set_option maxRecDepth 100000 in
set_option maxHeartbeats 1600000 in
theorem unlike_any (w : World) (k0 k1 : Int) (s0 s1 : ByteArray) (v0 v1 : Value) (la lb : List (List Int)) (h0 : Rdl w v0 la) (h1 : Rdl w v1 lb) (hs0 : s0.size ≤ 1048576) (hs1 : s1.size ≤ 1048576) (ht0 : tot la ≤ 1048576) (ht1 : tot lb ≤ 1048576) (hT : Tab w) :
    Calls Tryd.prog 7 #[.agg #[.int .i64 k0, .int .i64 k1], .agg #[.string s0, .string s1], .agg #[v0, v1]] w fun e w' => e = .returned (.bool true) ∧ Below w.heap.size w w' := by
  have le := Nat.le_refl w.heap.size
  have by0 := h0.byts
  have by1 := h1.byts
  have tb0 := textL_byt k0 s0 la by0 (by omega)
  have tb1 := textL_byt k1 s1 lb by1 (by omega)
  have l0 := len_tot la
  obtain ⟨a0, n0, c0, rfl⟩ : ∃ a n c, v0 = .slice a n c := by obtain ⟨vs, h, _⟩ := h0; obtain ⟨a, c, rfl, _⟩ := h.form; exact ⟨_, _, _, rfl⟩
  obtain ⟨a1, n1, c1, rfl⟩ : ∃ a n c, v1 = .slice a n c := by obtain ⟨vs, h, _⟩ := h1; obtain ⟨a, c, rfl, _⟩ := h.form; exact ⟨_, _, _, rfl⟩
  have sx0 := Six.new w k0 k1 s0 s1 (.slice a0 n0 c0) (.slice a1 n1 c1)
  have B0 := below_and (below_two w (.cells #[.int .i64 k0, .int .i64 k1] 38) (.cells #[.string s0, .string s1] 39)) le (below_alloc _ (.cells #[.slice a0 n0 c0, .slice a1 n1 c1] 40))
  go_enter Tryd.func7, Tryd.ntmps7
  go_wp2_with fail
  generalize (((w.alloc (.cells #[.int .i64 k0, .int .i64 k1] 38)).alloc (.cells #[.string s0, .string s1] 39)).alloc (.cells #[.slice a0 n0 c0, .slice a1 n1 c1] 40)) = w0 at *
  refine (alive_any w0 (hT.below B0)).mono ?_
  rintro e w1 ⟨rfl, hb1⟩
  have B1 := below_and B0 le hb1
  have sx1 := sx0.below hb1
  have p1 := h0.below B1
  have q1 := h1.below B1
  clear sx0 hb1 B0 h0 h1
  have hT1 := hT.below B1
  generalize w.heap.size + 1 + 1 = N2 at sx1 ⊢
  generalize w.heap.size + 1 = N1 at sx1 ⊢
  obtain ⟨N0, hN0⟩ : ∃ N0, N0 = w.heap.size := ⟨_, rfl⟩
  have HN := (show Hid (N0 = w.heap.size) from hN0)
  rw [← hN0] at sx1 ⊢
  clear hN0
  obtain ⟨⟨e0, e1, e2⟩, e3, e4, e5⟩ := sx1.cells
  go_wp2_with fail
  go_region_held3 (fun w' => w'.cell? ⟨N0, 0, none⟩ = some (.int .i64 k0) ∧ w'.cell? ⟨N1, 0, none⟩ = some (.string s0) ∧ w'.cell? ⟨N2, 0, none⟩ = some (.slice a0 n0 c0))
    (first | exact (sx1.below hb2').cells.1 | exact ((sx1.below hb2').below hb3).cells.1 | go_keep)
    (first
      | (go_at_call 11; refine (copy_any w1.drew _ la p1 (by omega)).mono ?_; rintro e w2 ⟨oc, uc, rfl, hoc, hec, hfc, hb2⟩; have hb2' : Below w1.heap.size w1 w2 := ⟨hb2.os, hb2.tape, hb2.output, hb2.size, hb2.block⟩)
      | (go_at_call 13; refine (text_any w2 k0 s0 oc la (hec.rdl hoc by0) (by omega) (by omega)).mono ?_; rintro e w3 ⟨vx, rfl, hvx, hfx, hb3⟩))
  have hb13 : Below w1.heap.size w1 w3 := below_and hb2' (Nat.le_refl _) hb3
  have sx3 := sx1.below hb13
  have p3 := p1.below hb13
  have q3 := q1.below hb13
  have B3 := below_and B1 le hb13
  have x3 := hvx.rd tb0
  clear hoc hec hfc hb2 hb2' hvx hfx hb3 hb13 sx1 p1 q1 B1 e0 e1 e2 e3 e4 e5 hT1
  obtain ⟨⟨e0, e1, e2⟩, e3, e4, e5⟩ := sx3.cells
  go_wp2_with fail
  go_region_held3 (fun w' => w'.cell? ⟨N0, 1, none⟩ = some (.int .i64 k1) ∧ w'.cell? ⟨N1, 1, none⟩ = some (.string s1) ∧ w'.cell? ⟨N2, 1, none⟩ = some (.slice a1 n1 c1))
    (first | exact (sx3.below hb4').cells.2 | exact ((sx3.below hb4').below hb5).cells.2 | go_keep)
    (first
      | (go_at_call 11; refine (copy_any w3.drew _ lb q3 (by omega)).mono ?_; rintro e w4 ⟨od, ud, rfl, hod, hed, hfd, hb4⟩; have hb4' : Below w3.heap.size w3 w4 := ⟨hb4.os, hb4.tape, hb4.output, hb4.size, hb4.block⟩)
      | (go_at_call 13; refine (text_any w4 k1 s1 od lb (hed.rdl hod by1) (by omega) (by omega)).mono ?_; rintro e w5 ⟨vy, rfl, hvy, hfy, hb5⟩))
  have hb35 : Below w3.heap.size w3 w5 := below_and hb4' (Nat.le_refl _) hb5
  have sx5 := sx3.below hb35
  have p5 := p3.below hb35
  have q5 := q3.below hb35
  have B5 := below_and B3 le hb35
  have x5 := x3.below hb35
  have y5 := hvy.rd tb1
  clear hod hed hfd hb4 hb4' hvy hfy hb5 hb35 sx3 p3 q3 B3 x3 e0 e1 e2 e3 e4 e5
  obtain ⟨⟨e0, e1, e2⟩, e3, e4, e5⟩ := sx5.cells
  obtain ⟨ax, cx, rfl, hcx⟩ := x5.form
  by_cases hk0 : k0 < 0
  · have hl : (textL k0 (sL s0) la).length = 0 := by rw [textL_no _ _ (.inl hk0)]; rfl
    rw [hl]
    go_wp2_with fail
    go_ret
    exact ⟨rfl, B5⟩
  by_cases hk1 : 127 < k0
  · have hl : (textL k0 (sL s0) la).length = 0 := by rw [textL_no _ _ (.inr hk1)]; rfl
    rw [hl]
    have hk1' : decide (k0 ≤ 127) = false := decide_eq_false (by omega)
    go_wp2_with fail
    go_ret
    exact ⟨rfl, B5⟩
  have hk2 : 0 ≤ k0 := by omega
  have hk3 : k0 ≤ 127 := by omega
  by_cases hj0 : k1 < 0
  · go_wp2_with fail
    go_ret
    exact ⟨rfl, B5⟩
  by_cases hj1 : 127 < k1
  · go_wp2_with fail
    go_ret
    exact ⟨rfl, B5⟩
  have hj2 : 0 ≤ k1 := by omega
  have hj3 : k1 ≤ 127 := by omega
  have hS := same_any w5 _ vy _ _ x5 y5
  have HE := (show Hid (textL k0 (sL s0) la = textL k1 (sL s1) lb → k0 = k1 ∧ s0 = s1 ∧ la = lb) from fun h => textL_eq hk2 hk3 hj2 hj3 (by omega) (by omega) h)
  by_cases hkk : k0 = k1
  · by_cases hss : s0 = s1
    · have hd : decide (textL k0 (sL s0) la = textL k1 (sL s1) lb) = decide (la = lb) := by
        by_cases h : la = lb
        · rw [decide_eq_true h, decide_eq_true (by rw [hkk, hss, h])]
        · rw [decide_eq_false h, decide_eq_false (fun e => h (HE.out e).2.2)]
      rw [hd] at hS
      obtain ⟨d, hdd⟩ : ∃ d, d = decide (la = lb) := ⟨_, rfl⟩
      have hL := sameList_any w5 _ _ la lb p5 q5 (by omega)
      rw [← hdd] at hS hL
      have HS := (show Hid (∀ (u : World), Below w5.heap.size w5 u → Calls Tryd.prog 14 #[.slice ax (textL k0 (sL s0) la).length cx, vy] u fun e w' => e = .returned (.bool d) ∧ w' = u) from fun u hu => by
        have := same_any u _ vy _ _ (x5.below hu) (y5.below hu)
        rwa [hd, ← hdd] at this)
      have HL := (show Hid (∀ _ : Unit, _) from fun _ => hL)
      have h1 : (k0 == k1) = true := by rw [hkk]; simp
      have h2 : (s0.toList == s1.toList) = true := by rw [hss]; simp
      have h3 : (d == d) = true := by simp
      clear hd hdd hS hL HE hkk hss
      go_wp2_with fail
      refine (HL.out ()).mono ?_
      rintro e w6 ⟨rfl, hb6⟩
      go_wp2_with fail
      refine (HS.out w6 hb6).mono ?_
      rintro e w7 ⟨rfl, rfl⟩
      go_wp2_with fail
      go_ret
      exact ⟨rfl, below_and B5 le hb6⟩
    · rw [decide_eq_false (fun e => hss (HE.out e).2.1)] at hS
      have HS := (show Hid (∀ _ : Unit, _) from fun _ => hS)
      have h1 : (k0 == k1) = true := by rw [hkk]; simp
      have h2 : (s0.toList == s1.toList) = false := by
        rw [beq_eq_false_iff_ne]
        intro e
        rw [ByteArray.toList_eq, ByteArray.toList_eq] at e
        refine hss (sL_inj ?_)
        unfold sL
        rw [e]
      clear hS HE hkk hss
      go_wp2_with fail
      refine (HS.out ()).mono ?_
      rintro e w7 ⟨rfl, rfl⟩
      go_wp2_with fail
      go_ret
      exact ⟨rfl, B5⟩
  · rw [decide_eq_false (fun e => hkk (HE.out e).1)] at hS
    have HS := (show Hid (∀ _ : Unit, _) from fun _ => hS)
    have h1 : (k0 == k1) = false := by rw [beq_eq_false_iff_ne]; exact hkk
    clear hS HE hkk
    go_wp2_with fail
    refine (HS.out ()).mono ?_
    rintro e w7 ⟨rfl, rfl⟩
    go_wp2_with fail
    go_ret
    exact ⟨rfl, B5⟩
end Go.Proofs.YtbdkoniaafhfhaaDoor
