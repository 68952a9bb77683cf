/- slices.SortStableFunc over votes; vote.Sort. -/
import Derived.Test.YtgpkngiakhdmhaaDoorSBBQ
import Derived.Test.YtgpkngiakhdmhaaDoorSBBK
set_option linter.unusedSimpArgs false
set_option linter.unusedVariables false
namespace Go.Proofs.YtgpkngiakhdmhaaDoor
section
open Go.RowKit Oct Stb
/-- What the bisection of a merge finds. -/
theorem symPlain {A B : List VC} {q e q0 e0 q1 e1 : Nat} (hA : Srt kv A) (hB : Srt kv B) (hq : q ≤ A.length) (he : e ≤ B.length)
    (hL : (q = 0 ∨ e = B.length) ∨ ∃ u v, 0 < q ∧ A[q - 1]? = some u ∧ B[e]? = some v ∧ kv u ≤ kv v) (hR : (q = A.length ∨ e = 0) ∨ ∃ u v, 0 < e ∧ A[q]? = some u ∧ B[e - 1]? = some v ∧ kv v < kv u) :
    (∀ x ∈ A.drop q, ∀ y ∈ B.take e, kv y < kv x) ∧ (∀ x ∈ A.take q, ∀ y ∈ B.drop e, kv x ≤ kv y) := by
  refine ⟨fun x hx y hy => ?_, fun x hx y hy => ?_⟩
  · obtain ⟨t, ht⟩ := List.getElem?_of_mem hx
    rw [List.getElem?_drop] at ht
    obtain ⟨r, hr⟩ := List.getElem?_of_mem hy
    rw [List.getElem?_take] at hr
    split at hr
    · rcases hR with (h | h) | ⟨u, v, h0, hu, hv, huv⟩
      · have := (List.getElem?_eq_some_iff.1 ht).1; omega
      · omega
      · have h1 := hA.get (i := q) (j := q + t) (by omega) hu ht
        have h2 := hB.get (i := r) (j := e - 1) (by omega) hr hv
        omega
    · cases hr
  · obtain ⟨r, hr⟩ := List.getElem?_of_mem hx
    rw [List.getElem?_take] at hr
    obtain ⟨t, ht⟩ := List.getElem?_of_mem hy
    rw [List.getElem?_drop] at ht
    split at hr
    · rcases hL with (h | h) | ⟨u, v, h0, hu, hv, huv⟩
      · omega
      · have := (List.getElem?_eq_some_iff.1 ht).1; omega
      · have h1 := hA.get (i := r) (j := q - 1) (by omega) hr hu
        have h2 := hB.get (i := e) (j := e + t) (by omega) hv ht
        omega
    · cases hr
def SymOk (N : Nat) : Prop := ∀ (w : World) (g n cap a m b : Nat) (P A B S : List VC) (rest : List Value), A.length + B.length ≤ N → P.length = a → a + A.length = m → m + B.length = b → 0 < A.length → 0 < B.length → Srt kv A → Srt kv B → Row w g 28 (vfl (P ++ A ++ B ++ S) ++ rest) → (P ++ A ++ B ++ S).length = n → n ≤ cap → cap ≤ maxLen → n ≤ 281474976710656 → (∀ z ∈ P ++ A ++ B ++ S, IsS z.1) →
    Calls Tryd.prog 62 #[.slice (some ⟨g, 0, none⟩) n cap, .int .i64 a, .int .i64 m, .int .i64 b, .func (.func 33) #[] #[]] w fun e w' => e = .returned (.tuple #[]) ∧ (∃ C, Srt kv C ∧ Sam kv (A ++ B) C ∧ Row w' g 28 (vfl (P ++ C ++ S) ++ rest)) ∧ w.grownBy w' (some g)
set_option maxRecDepth 10000 in
set_option maxHeartbeats 4000000 in
theorem symG_any (N : Nat) (IH : SymOk N) (w : World) (g n cap a m b : Nat) (P A B S : List VC) (rest : List Value) (hN : A.length + B.length ≤ N + 1) (ha : P.length = a) (hma : a + A.length = m) (hb : m + B.length = b) (hA2 : 2 ≤ A.length) (hB2 : 2 ≤ B.length) (hsA : Srt kv A) (hsB : Srt kv B) (hR : Row w g 28 (vfl (P ++ A ++ B ++ S) ++ rest)) (hn : (P ++ A ++ B ++ S).length = n) (hc : n ≤ cap) (hm : cap ≤ maxLen) (hn48 : n ≤ 281474976710656) (hone : ∀ z ∈ P ++ A ++ B ++ S, IsS z.1) :
    Calls Tryd.prog 62 #[.slice (some ⟨g, 0, none⟩) n cap, .int .i64 a, .int .i64 m, .int .i64 b, .func (.func 33) #[] #[]] w fun e w' => e = .returned (.tuple #[]) ∧ (∃ C, Srt kv C ∧ Sam kv (A ++ B) C ∧ Row w' g 28 (vfl (P ++ C ++ S) ++ rest)) ∧ w.grownBy w' (some g) := by
  have hLn : P.length + A.length + B.length + S.length = n := by rw [← hn]; simp only [List.length_append]
  have hbn : b ≤ n := by omega
  have hcmp := (show Hid (∀ u (x y : VC), Calls Tryd.prog 33 #[.agg #[.int .i64 x.2.1, x.1], .agg #[.int .i64 y.2.1, y.1]] u fun e w' => e = .returned (.int .i64 (cmpI x.2.1 y.2.1)) ∧ Below u.heap.size u w') from cmpV_any)
  have HO := (show Hid (∀ z ∈ P ++ A ++ B ++ S, IsS z.1) from hone)
  have HL := (show Hid (P.length = a ∧ a + A.length = m ∧ m + B.length = b ∧ b + S.length = n) from ⟨ha, hma, hb, by omega⟩)
  have HSS := (show Hid (Srt kv A ∧ Srt kv B) from ⟨hsA, hsB⟩)
  have HI := (show Hid (SymOk N) from IH)
  have HN := (show Hid (A.length + B.length ≤ N + 1 ∧ 2 ≤ A.length ∧ 2 ≤ B.length) from ⟨hN, hA2, hB2⟩)
  obtain ⟨D, hD⟩ : ∃ D, D = A.length := ⟨_, rfl⟩
  obtain ⟨F, hF⟩ : ∃ F, F = B.length := ⟨_, rfl⟩
  have ww : IntKind.i64.wrap ((m : Int) - a) = (D : Int) := by rw [IntWalk.i64_in _ (by omega)]; omega
  have hD1 : ((D : Int) == 1) = false := by simp; omega
  have hD2 : ¬ (D = 1) := by omega
  have wb : IntKind.i64.wrap ((b : Int) - m) = (F : Int) := by rw [IntWalk.i64_in _ (by omega)]; omega
  have hF1 : ((F : Int) == 1) = false := by simp; omega
  have hF2 : ¬ (F = 1) := by omega
  obtain ⟨M, hM⟩ : ∃ M, M = (a + b) / 2 := ⟨_, rfl⟩
  have hMi : ((a : Int) + (b : Int)) / 2 = (M : Int) := by omega
  obtain ⟨T, hT⟩ : ∃ T, T = M + m := ⟨_, rfl⟩
  have wT : IntKind.i64.wrap ((M : Int) + m) = (T : Int) := by rw [IntWalk.i64_in _ (by omega)]; omega
  obtain ⟨p, hp⟩ : ∃ p, p + 1 = T := ⟨T - 1, by omega⟩
  have wp : IntKind.i64.wrap ((T : Int) - 1) = (p : Int) := by rw [IntWalk.i64_in _ (by omega)]; omega
  have HM := (show Hid (M = (a + b) / 2 ∧ T = M + m ∧ p + 1 = T ∧ a < M ∧ M < b ∧ a + 2 ≤ m ∧ m + 2 ≤ b) from ⟨hM, hT, hp, by omega, by omega, by omega, by omega⟩)
  have HR := (show Hid (Row w g 28 (vfl (P ++ A ++ B ++ S) ++ rest)) from hR)
  have hTn : (T : Int) ≤ 562949953421312 := by omega
  have hMn : (M : Int) ≤ n := by omega
  -- start, r
  obtain ⟨s0, r0, hs0r0, has0, hr0m, hpr, hps, hE0, hE1, hcase⟩ : ∃ s0 r0 : Nat, s0 ≤ r0 ∧ a ≤ s0 ∧ r0 ≤ m ∧ r0 + m ≤ T ∧ T ≤ b + s0 ∧ (s0 = a ∨ T = b + s0) ∧ (r0 = m ∨ T = m + r0) ∧ ((M < m ∧ T = b + s0 ∧ r0 = M) ∨ (¬ M < m ∧ s0 = a ∧ r0 = m)) := by
    by_cases h : M < m
    · exact ⟨T - b, M, by omega, by omega, by omega, by omega, by omega, .inr (by omega), .inr (by omega), .inl ⟨h, by omega, rfl⟩⟩
    · exact ⟨a, m, by omega, by omega, by omega, by omega, by omega, .inl rfl, .inl rfl, .inr ⟨h, rfl, rfl⟩⟩
  have HC := (show Hid ((s0 = a ∨ T = b + s0) ∧ (r0 = m ∨ T = m + r0) ∧ r0 + m ≤ T ∧ T ≤ b + s0 ∧ r0 ≤ m ∧ a ≤ s0) from ⟨hE0, hE1, hpr, hps, hr0m, has0⟩)
  have HCS := (show Hid ((M < m ∧ T = b + s0 ∧ r0 = M) ∨ (¬ M < m ∧ s0 = a ∧ r0 = m)) from hcase)
  clear IH hN ha hma hb hA2 hB2 hsA hsB hR hn hone hLn hD hF hM hT hp hE0 hE1 hcase hpr hps
  go_enter Tryd.func62, Tryd.ntmps62
  go_upto_if 140 with fail
  go_cut [20, 21] from 25 (fun s20 s21 wx => s20 = .int .i64 (s0 : Int) ∧ s21 = .int .i64 (r0 : Int) ∧ wx = w)
  case first =>
    rcases HCS.out with ⟨h, h1, h2⟩ | ⟨h, h1, h2⟩
    · have hMm : (M : Int) < (m : Int) := by omega
      have wS : IntKind.i64.wrap ((T : Int) - b) = (s0 : Int) := by rw [IntWalk.i64_in _ (by omega)]; omega
      clear h1
      subst h2
      go_wp2_with fail
      go_meet
      exact ⟨rfl, rfl, rfl⟩
    · have hMm : decide ((M : Int) < (m : Int)) = false := by simp; omega
      subst h1 h2
      go_wp2_with fail
      go_meet
      exact ⟨rfl, rfl, rfl⟩
  case rest =>
    obtain ⟨rfl, rfl, ewc⟩ := hcut
    rw [ewc]
    clear ewc
    go_wp2_with fail
    go_loopw [20, 21] (fun i j wr => ∃ I J : Nat, i = .int .i64 I ∧ j = .int .i64 J ∧ s0 ≤ I ∧ I ≤ J ∧ J ≤ r0 ∧ Hid ((I = s0 ∨ ∃ u v, a < I ∧ A[I - 1 - a]? = some u ∧ B[T - I - m]? = some v ∧ kv u ≤ kv v) ∧ (J = r0 ∨ ∃ u v, A[J - a]? = some u ∧ B[T - 1 - J - m]? = some v ∧ m + J < T ∧ kv v < kv u) ∧ Row wr g 28 (vfl (P ++ A ++ B ++ S) ++ rest)) ∧ w.grownBy wr (some g)) (fun i j _ => (intOf j).toNat - (intOf i).toNat)
    case atStart => exact ⟨s0, r0, rfl, rfl, Nat.le_refl _, hs0r0, Nat.le_refl _, ⟨.inl rfl, .inl rfl, HR.out⟩, grown_refl _ _⟩
    case round =>
      clear HR
      obtain ⟨I, J, rfl, rfl, hsI, hIJ, hJr, hS, hG⟩ := hrel
      by_cases hlt : I < J
      · obtain ⟨h, hh⟩ : ∃ h, h = (I + J) / 2 := ⟨_, rfl⟩
        have hhi : ((I : Int) + (J : Int)) / 2 = (h : Int) := by omega
        have hhJ : h < J := by omega
        have hIh : I ≤ h := by omega
        have hah : a ≤ h := by omega
        have hhm : h < m := by omega
        obtain ⟨c, hcp⟩ : ∃ c, c + h = p := ⟨p - h, by have := HM.out; have := HC.out; omega⟩
        have hmc : m ≤ c := by have := HM.out; have := HC.out; omega
        have hcb : c < b := by have := HM.out; have := HC.out; omega
        have wc' : IntKind.i64.wrap ((p : Int) - h) = (c : Int) := by rw [IntWalk.i64_in _ (by omega)]; omega
        obtain ⟨y, hy⟩ : ∃ y, A[h - a]? = some y := ⟨_, List.getElem?_eq_getElem (by have := HL.out; omega)⟩
        obtain ⟨x, hx⟩ : ∃ x, B[c - m]? = some x := ⟨_, List.getElem?_eq_getElem (by have := HL.out; omega)⟩
        have HY := (show Hid (A[h - a]? = some y ∧ B[c - m]? = some x) from ⟨hy, hx⟩)
        obtain ⟨i1, i2, i3⟩ := hS.out
        have oy := HO.out y (by have := List.mem_of_getElem? hy; simp [this])
        have ox := HO.out x (by have := List.mem_of_getElem? hx; simp [this])
        obtain ⟨y1, y2⟩ := y
        obtain ⟨ay, ny, cy, rfl⟩ : IsS y1 := oy
        obtain ⟨x1, x2⟩ := x
        obtain ⟨ax, nx, cx, rfl⟩ : IsS x1 := ox
        obtain ⟨cx0, cx1⟩ := vfl_get (t := c) (y := (.slice ax nx cx, x2)) i3 (by have := HL.out; rw [List.getElem?_append_left (by simp only [List.length_append]; omega), List.getElem?_append_right (by rw [List.length_append]; omega), List.length_append, show c - (P.length + A.length) = c - m by omega]; exact hx)
        obtain ⟨cy0, cy1⟩ := vfl_get (t := h) (y := (.slice ay ny cy, y2)) i3 (by have := HL.out; rw [List.getElem?_append_left (by simp only [List.length_append]; omega), List.getElem?_append_left (by rw [List.length_append]; omega), List.getElem?_append_right (by omega), show h - P.length = h - a by omega]; exact hy)
        simp only at cx0 cx1 cy0 cy1
        have SK := (show Hid (∀ u, Below wr.heap.size wr u → u.cell? ⟨g, c * 2, none⟩ = some (.int .i64 x2.1) ∧ u.cell? ⟨g, c * 2 + 1, none⟩ = some (.slice ax nx cx) ∧ u.cell? ⟨g, h * 2, none⟩ = some (.int .i64 y2.1) ∧ u.cell? ⟨g, h * 2 + 1, none⟩ = some (.slice ay ny cy)) from fun u hu => ⟨keepC hu cx0, keepC hu cx1, keepC hu cy0, keepC hu cy1⟩)
        have hC1 := (show Hid (∀ u, Calls Tryd.prog 33 #[.agg #[.int .i64 x2.1, .slice ax nx cx], .agg #[.int .i64 y2.1, .slice ay ny cy]] u fun e w' => e = .returned (.int .i64 (cmpI x2.1 y2.1)) ∧ Below u.heap.size u w') from fun u => hcmp.out u (.slice ax nx cx, x2) (.slice ay ny cy, y2))
        have hdw : Below wr.heap.size wr wr.drew := ⟨rfl, rfl, rfl, Nat.le_refl _, fun _ _ => rfl⟩
        have hhn : h < n := by omega
        have hcn : c < n := by omega
        have HIJ := (show Hid ((I = s0 ∨ ∃ u v, a < I ∧ A[I - 1 - a]? = some u ∧ B[T - I - m]? = some v ∧ kv u ≤ kv v) ∧ (J = r0 ∨ ∃ u v, A[J - a]? = some u ∧ B[T - 1 - J - m]? = some v ∧ m + J < T ∧ kv v < kv u)) from ⟨i1, i2⟩)
        have HR := (show Hid (Row wr g 28 (vfl (P ++ A ++ B ++ S) ++ rest)) from i3)
        have HH := (show Hid (c + h + 1 = T) by show _ = _; have := HM.out; omega)
        clear hy hx i1 i2 i3 hS hh hcp
        go_wp2_with fail
        go_region_held3 (fun u => u.cell? ⟨g, c * 2, none⟩ = some (.int .i64 x2.1) ∧ u.cell? ⟨g, c * 2 + 1, none⟩ = some (.slice ax nx cx) ∧ u.cell? ⟨g, h * 2, none⟩ = some (.int .i64 y2.1) ∧ u.cell? ⟨g, h * 2 + 1, none⟩ = some (.slice ay ny cy))
          (first | exact SK.out _ (by assumption) | go_keep)
          (first | (go_at_call 33; refine (hC1.out _).mono ?_; rintro e w6 ⟨rfl, hb6⟩; have hb6' := below_and hdw (Nat.le_refl _) hb6))
        have K6 := grown_trans hG (grown_of_below hb6' (some g)) (.inl rfl)
        have HR6 := (show Hid (Row w6 g 28 (vfl (P ++ A ++ B ++ S) ++ rest)) from HR.out.below hb6')
        by_cases hk : x2.1 < y2.1
        · have hd : decide (cmpI x2.1 y2.1 < 0) = true := decide_eq_true (cmpI_lt.2 hk)
          rw [hd]
          clear hd hb6 hb6' hdw SK hC1 HR cx0 cx1 cy0 cy1
          go_wp2_with fail
          go_roundw
          case rel =>
            refine ⟨I, h, rfl, by go_num, hsI, hIh, by omega, ⟨HIJ.out.1, .inr ⟨(.slice ay ny cy, y2), (.slice ax nx cx, x2), HY.out.1, ?_, ?_, hk⟩, HR6.out⟩, K6⟩
            · have := HH.out
              rw [show T - 1 - h - m = c - m by omega]
              exact HY.out.2
            · have := HH.out; omega
          case measure => simp [intOf]; omega
        · have hd : decide (cmpI x2.1 y2.1 < 0) = false := decide_eq_false fun h => hk (cmpI_lt.1 h)
          rw [hd]
          clear hd hb6 hb6' hdw SK hC1 HR cx0 cx1 cy0 cy1
          go_wp2_with fail
          go_roundw
          case rel =>
            refine ⟨h + 1, J, by go_num, rfl, by omega, by omega, hJr, ⟨.inr ⟨(.slice ay ny cy, y2), (.slice ax nx cx, x2), by omega, ?_, ?_, ?_⟩, HIJ.out.2, HR6.out⟩, K6⟩
            · rw [show h + 1 - 1 - a = h - a by omega]
              exact HY.out.1
            · have := HH.out
              rw [show T - (h + 1) - m = c - m by omega]
              exact HY.out.2
            · show y2.1 ≤ x2.1
              omega
          case measure => simp [intOf]; omega
      · obtain rfl : I = J := by omega
        obtain ⟨i1, i2, i3⟩ := hS.out
        obtain ⟨q, hq⟩ : ∃ q, a + q = I := ⟨I - a, by have := HC.out; omega⟩
        obtain ⟨En, hEn⟩ : ∃ En, En + I = T := ⟨T - I, by have := HC.out; have := HM.out; omega⟩
        obtain ⟨e, he⟩ : ∃ e, m + e = En := ⟨En - m, by have := HC.out; omega⟩
        have hqA : q ≤ A.length := by have := HL.out; have := HC.out; omega
        have heB : e ≤ B.length := by have := HL.out; have := HC.out; omega
        obtain ⟨h1, h2⟩ := symPlain (q := q) (e := e) (q0 := 0) (e0 := 0) (q1 := 0) (e1 := 0) HSS.out.1 HSS.out.2 hqA heB (by
          rcases i1 with h | ⟨u, v, h0, hu, hv, huv⟩
          · left
            have := HC.out.1
            have := HL.out
            omega
          · right
            exact ⟨u, v, by omega, by rw [show q - 1 = I - 1 - a by omega]; exact hu, by rw [show e = T - I - m by omega]; exact hv, huv⟩) (by
          rcases i2 with h | ⟨u, v, hu, hv, h0, huv⟩
          · left
            have := HC.out.2.1
            have := HL.out
            omega
          · right
            exact ⟨u, v, by omega, by rw [show q = I - a by omega]; exact hu, by rw [show e - 1 = T - 1 - I - m by omega]; exact hv, huv⟩)
        have lA1 : (A.take q).length = q := by rw [List.length_take]; omega
        have lA2 : (A.drop q).length = A.length - q := List.length_drop
        have lB1 : (B.take e).length = e := by rw [List.length_take]; omega
        have lB2 : (B.drop e).length = B.length - e := List.length_drop
        have eA : A = A.take q ++ A.drop q := (List.take_append_drop q A).symm
        have eB : B = B.take e ++ B.drop e := (List.take_append_drop e B).symm
        have hsA := HSS.out.1
        have hsB := HSS.out.2
        have hoA := HO.out
        rw [eA] at hsA
        rw [eB] at hsB
        have row0 : Row wr g 28 (vfl ((P ++ A.take q) ++ A.drop q ++ B.take e ++ (B.drop e ++ S)) ++ rest) := by
          have : P ++ A ++ B ++ S = (P ++ A.take q) ++ A.drop q ++ B.take e ++ (B.drop e ++ S) := by
            conv => lhs; rw [eA, eB]
            simp only [List.append_assoc]
          rw [← this]
          exact i3
        have hoo : ∀ z ∈ (P ++ A.take q) ++ A.drop q ++ B.take e ++ (B.drop e ++ S), IsS z.1 := fun z hz => by
          refine hoA z ?_
          have : P ++ A ++ B ++ S = (P ++ A.take q) ++ A.drop q ++ B.take e ++ (B.drop e ++ S) := by
            conv => lhs; rw [eA, eB]
            simp only [List.append_assoc]
          rw [this]
          exact hz
        have HMS := (show Hid (∀ L R : List VC, Srt kv L → Sam kv (A.take q ++ B.take e) L → Srt kv R → Sam kv (A.drop q ++ B.drop e) R → Srt kv (L ++ R) ∧ Sam kv (A ++ B) (L ++ R)) from fun L R a1 a2 a3 a4 => by
          have := mergeStep hsA hsB h1 h2 a1 a2 a3 a4
          rwa [← eA, ← eB] at this)
        have HLE := (show Hid (a + q = I ∧ En + I = T ∧ m + e = En ∧ (A.take q).length = q ∧ (A.drop q).length + I = m ∧ (B.take e).length = e ∧ (B.drop e).length + En = b ∧ a + (A.take q).length + (B.take e).length = M ∧ (A.take q).length + (B.take e).length ≤ N ∧ (A.drop q).length + (B.drop e).length ≤ N ∧ P.length = a ∧ b + S.length = n) from ⟨hq, hEn, he, lA1, by have := HL.out; omega, lB1, by have := HL.out; omega, by have := HM.out; omega, by have := HM.out; have := HN.out; have := HL.out; omega, by have := HM.out; have := HN.out; have := HL.out; omega, HL.out.1, HL.out.2.2.2⟩)
        have HSP := (show Hid (Srt kv (A.take q) ∧ Srt kv (A.drop q) ∧ Srt kv (B.take e) ∧ Srt kv (B.drop e)) from ⟨hsA.l, hsA.r, hsB.l, hsB.r⟩)
        have HOO := (show Hid (∀ z ∈ (P ++ A.take q) ++ A.drop q ++ B.take e ++ (B.drop e ++ S), IsS z.1) from hoo)
        have HRW := (show Hid (Row wr g 28 (vfl ((P ++ A.take q) ++ A.drop q ++ B.take e ++ (B.drop e ++ S)) ++ rest)) from row0)
        have HAB := (show Hid (A = A.take q ++ A.drop q ∧ B = B.take e ++ B.drop e) from ⟨eA, eB⟩)
        clear h1 h2 lA1 lA2 lB1 lB2 eA eB hsA hsB hoA row0 hoo hqA heB hq hEn he i1 i2 i3 hS
        generalize A.take q = A1 at *
        generalize A.drop q = A2 at *
        generalize B.take e = B1 at *
        generalize B.drop e = B2 at *
        have wE : IntKind.i64.wrap ((T : Int) - I) = (En : Int) := by have := HLE.out; rw [IntWalk.i64_in _ (by omega)]; omega
        have hIi : I ≤ m := by have := HLE.out; omega
        have hEb : En ≤ b := by have := HLE.out; omega
        go_upto_region 39 with fail
        go_cut [185] from 175 (fun s185 wx => wx = wr ∧ ∃ c : Bool, s185 = .bool c ∧ (c = true → I < m ∧ m < En) ∧ (c = false → ¬ (I < m ∧ m < En)))
        case first =>
          by_cases c1 : I < m
          · have c1' : (I : Int) < (m : Int) := by omega
            by_cases c2 : m < En
            · have c2' : (m : Int) < (En : Int) := by omega
              go_wp2_with fail
              go_meet
              exact ⟨rfl, true, rfl, fun _ => ⟨c1, c2⟩, fun h => by cases h⟩
            · have c2' : decide ((m : Int) < (En : Int)) = false := by simp; omega
              go_wp2_with fail
              go_meet
              exact ⟨rfl, false, rfl, (fun h => by cases h), fun _ h => c2 h.2⟩
          · have c1' : decide ((I : Int) < (m : Int)) = false := by simp; omega
            go_wp2_with fail
            go_meet
            exact ⟨rfl, false, rfl, (fun h => by cases h), fun _ h => c1 h.1⟩
        case rest =>
        obtain ⟨ewc, c, rfl, hct, hcf⟩ := hcut
        rw [ewc]
        clear ewc
        go_upto_if 185 with fail
        go_cut [] from 175 (fun wx => Hid (Row wx g 28 (vfl (P ++ A1 ++ B1 ++ (A2 ++ (B2 ++ S))) ++ rest)) ∧ w.grownBy wx (some g))
        case first =>
          cases c with
          | true =>
            obtain ⟨c1, c2⟩ := hct rfl
            have hRo := rotate_any wr g n cap I m En (.func (.func 33) #[] #[]) (P ++ A1) A2 B1 (B2 ++ S) rest (by have := HLE.out; rw [List.length_append]; omega) (by have := HLE.out; omega) (by have := HLE.out; omega) (by have := HLE.out; omega) (by have := HLE.out; omega) HRW.out (by have := HLE.out; simp only [List.length_append]; omega) hc hm HOO.out
            clear hct hcf
            go_wp2_with (go_at_call 73; refine hRo.mono ?_; rintro e u1 ⟨rfl, h1, k1⟩)
            go_meet
            exact ⟨(show Row _ _ _ _ by simpa using h1), grown_trans hG k1 (.inl rfl)⟩
          | false =>
            have hno := hcf rfl
            have hr : Row wr g 28 (vfl (P ++ A1 ++ B1 ++ (A2 ++ (B2 ++ S))) ++ rest) := by
              have h0 := HRW.out
              rcases Nat.eq_zero_or_pos A2.length with h | h
              · obtain rfl : A2 = [] := List.eq_nil_of_length_eq_zero h
                simpa using h0
              · obtain rfl : B1 = [] := List.eq_nil_of_length_eq_zero (by have := HLE.out; omega)
                simpa using h0
            have Hr := (show Hid (Row wr g 28 (vfl (P ++ A1 ++ B1 ++ (A2 ++ (B2 ++ S))) ++ rest)) from hr)
            clear hct hcf hr hno
            go_wp2_with fail
            go_meet
            exact ⟨Hr, hG⟩
        case rest =>
        clear hct hcf HRW hG c
        obtain ⟨HRW, hG⟩ := hcut
        rename World => w7
        have HOO := (show Hid (∀ z ∈ P ++ A1 ++ B1 ++ (A2 ++ (B2 ++ S)), IsS z.1) from fun z hz => HOO.out z (by simp only [List.mem_append] at hz ⊢; rcases hz with ((h | h) | h) | h | h | h <;> simp [h]))
        have hIM : I ≤ M := by have := HLE.out; omega
        go_upto_region 41 with fail
        go_cut [199] from 175 (fun s185 wx => wx = w7 ∧ ∃ c : Bool, s185 = .bool c ∧ (c = true → a < I ∧ I < M) ∧ (c = false → ¬ (a < I ∧ I < M)))
        case first =>
          by_cases c1 : a < I
          · have c1' : (a : Int) < (I : Int) := by omega
            by_cases c2 : I < M
            · have c2' : (I : Int) < (M : Int) := by omega
              go_wp2_with fail
              go_meet
              exact ⟨rfl, true, rfl, fun _ => ⟨c1, c2⟩, fun h => by cases h⟩
            · have c2' : decide ((I : Int) < (M : Int)) = false := by simp; omega
              go_wp2_with fail
              go_meet
              exact ⟨rfl, false, rfl, (fun h => by cases h), fun _ h => c2 h.2⟩
          · have c1' : decide ((a : Int) < (I : Int)) = false := by simp; omega
            go_wp2_with fail
            go_meet
            exact ⟨rfl, false, rfl, (fun h => by cases h), fun _ h => c1 h.1⟩
        case rest =>
        obtain ⟨ewc, c, rfl, hct, hcf⟩ := hcut
        rw [ewc]
        clear ewc
        go_upto_if 199 with fail
        go_cut [] from 175 (fun wx => (∃ L, Hid (Srt kv L ∧ Sam kv (A1 ++ B1) L ∧ Row wx g 28 (vfl (P ++ L ++ (A2 ++ (B2 ++ S))) ++ rest))) ∧ w.grownBy wx (some g))
        case first =>
          cases c with
          | true =>
            obtain ⟨c1, c2⟩ := hct rfl
            have hRo := HI.out w7 g n cap a I M P A1 B1 (A2 ++ (B2 ++ S)) rest (by have := HLE.out; omega) (by have := HLE.out; omega) (by have := HLE.out; omega) (by have := HLE.out; omega) (by have := HLE.out; omega) (by have := HLE.out; omega) HSP.out.1 HSP.out.2.2.1 HRW.out (by have := HLE.out; simp only [List.length_append]; omega) hc hm hn48 HOO.out
            clear hct hcf
            go_wp2_with (go_at_call 62; refine hRo.mono ?_; rintro e u1 ⟨rfl, ⟨L, h1, h2, h3⟩, k1⟩)
            go_meet
            exact ⟨⟨L, h1, h2, h3⟩, grown_trans hG k1 (.inl rfl)⟩
          | false =>
            have hno := hcf rfl
            have hs : Srt kv (A1 ++ B1) := by
              rcases Nat.eq_zero_or_pos A1.length with h | h
              · obtain rfl : A1 = [] := List.eq_nil_of_length_eq_zero h
                exact HSP.out.2.2.1
              · obtain rfl : B1 = [] := List.eq_nil_of_length_eq_zero (by have := HLE.out; omega)
                rw [List.append_nil]
                exact HSP.out.1
            have Hr := (show Hid (Srt kv (A1 ++ B1) ∧ Sam kv (A1 ++ B1) (A1 ++ B1) ∧ Row w7 g 28 (vfl (P ++ (A1 ++ B1) ++ (A2 ++ (B2 ++ S))) ++ rest)) from ⟨hs, Sam.refl _, by have := HRW.out; rw [← List.append_assoc P]; exact this⟩)
            clear hct hcf hs hno
            go_wp2_with fail
            go_meet
            exact ⟨⟨_, Hr⟩, hG⟩
        case rest =>
        clear hct hcf HRW hG c
        obtain ⟨⟨L, HLL⟩, hG⟩ := hcut
        rename World => w8
        have HLn := (show Hid (L.length = A1.length + B1.length ∧ ∀ z ∈ L, IsS z.1) from ⟨by rw [HLL.out.2.1.1, List.length_append], fun z hz => HOO.out z (by have := HLL.out.2.1.mem.1 hz; simp only [List.mem_append] at this ⊢; rcases this with h | h <;> simp [h])⟩)
        have hME : M ≤ En := by have := HLE.out; have := HM.out; omega
        go_upto_region 43 with fail
        go_cut [213] from 175 (fun s185 wx => wx = w8 ∧ ∃ c : Bool, s185 = .bool c ∧ (c = true → M < En ∧ En < b) ∧ (c = false → ¬ (M < En ∧ En < b)))
        case first =>
          by_cases c1 : M < En
          · have c1' : (M : Int) < (En : Int) := by omega
            by_cases c2 : En < b
            · have c2' : (En : Int) < (b : Int) := by omega
              go_wp2_with fail
              go_meet
              exact ⟨rfl, true, rfl, fun _ => ⟨c1, c2⟩, fun h => by cases h⟩
            · have c2' : decide ((En : Int) < (b : Int)) = false := by simp; omega
              go_wp2_with fail
              go_meet
              exact ⟨rfl, false, rfl, (fun h => by cases h), fun _ h => c2 h.2⟩
          · have c1' : decide ((M : Int) < (En : Int)) = false := by simp; omega
            go_wp2_with fail
            go_meet
            exact ⟨rfl, false, rfl, (fun h => by cases h), fun _ h => c1 h.1⟩
        case rest =>
        obtain ⟨ewc, c, rfl, hct, hcf⟩ := hcut
        rw [ewc]
        clear ewc
        cases c with
        | true =>
          obtain ⟨c1, c2⟩ := hct rfl
          have hRo := HI.out w8 g n cap M En b (P ++ L) A2 B2 S rest (by have := HLE.out; omega) (by have := HLE.out; have := HLn.out.1; rw [List.length_append]; omega) (by have := HLE.out; have := HM.out; omega) (by have := HLE.out; omega) (by have := HLE.out; have := HM.out; omega) (by have := HLE.out; omega) HSP.out.2.1 HSP.out.2.2.2 (by have := HLL.out.2.2; simp only [← List.append_assoc] at this ⊢; exact this) (by have := HLE.out; have := HLn.out.1; have := HM.out; simp only [List.length_append]; omega) hc hm hn48 (fun z hz => by
            simp only [List.mem_append] at hz
            rcases hz with ((((h | h) | h) | h) | h)
            · exact HOO.out z (by simp [h])
            · exact HLn.out.2 z h
            · exact HOO.out z (by simp [h])
            · exact HOO.out z (by simp [h])
            · exact HOO.out z (by simp [h]))
          clear hct hcf
          go_wp2_with (go_at_call 62; refine hRo.mono ?_; rintro e u1 ⟨rfl, ⟨R, h1, h2, h3⟩, k1⟩)
          go_end0
          obtain ⟨f1, f2⟩ := HMS.out L R HLL.out.1 HLL.out.2.1 h1 h2
          exact ⟨rfl, ⟨L ++ R, f1, f2, by rw [← List.append_assoc P]; exact h3⟩, grown_trans hG k1 (.inl rfl)⟩
        | false =>
          have hno := hcf rfl
          have hs : Srt kv (A2 ++ B2) := by
            rcases Nat.eq_zero_or_pos A2.length with h | h
            · obtain rfl : A2 = [] := List.eq_nil_of_length_eq_zero h
              exact HSP.out.2.2.2
            · obtain rfl : B2 = [] := List.eq_nil_of_length_eq_zero (by have := HLE.out; have := HM.out; omega)
              rw [List.append_nil]
              exact HSP.out.2.1
          obtain ⟨f1, f2⟩ := HMS.out L (A2 ++ B2) HLL.out.1 HLL.out.2.1 hs (Sam.refl _)
          have FIN := (show Hid (∃ C, Srt kv C ∧ Sam kv (A ++ B) C ∧ Row w8 g 28 (vfl (P ++ C ++ S) ++ rest)) from ⟨L ++ (A2 ++ B2), f1, f2, by have := HLL.out.2.2; simpa using this⟩)
          clear hct hcf hs hno f1 f2
          go_wp2_with fail
          go_end0
          exact ⟨rfl, FIN.out, hG⟩
theorem sym_all : ∀ N, SymOk N
  | 0 => fun w g n cap a m b P A B S rest h _ _ _ h0 => by omega
  | N + 1 => fun w g n cap a m b P A B S rest hN ha hma hb hA0 hB0 hsA hsB hR hn hc hm hn48 hone => by
    by_cases hA1 : A.length = 1
    · obtain ⟨x, rfl⟩ := List.length_eq_one_iff.1 hA1
      have := symL_any w g n cap a m b x P B S rest ha (by simpa using hma) hb hsB (by simpa using hR) (by simpa using hn) hc hm hn48 (fun z hz => hone z (by simpa using hz))
      exact this
    · by_cases hB1 : B.length = 1
      · obtain ⟨x, rfl⟩ := List.length_eq_one_iff.1 hB1
        have := symR_any w g n cap a m b x P A S rest ha hma (by omega) (by simpa using hb) hsA (by simpa using hR) (by simpa using hn) hc hm hn48 (fun z hz => hone z (by simpa using hz))
        exact this
      · exact symG_any N (sym_all N) w g n cap a m b P A B S rest hN ha hma hb (by omega) (by omega) hsA hsB hR hn hc hm hn48 hone
end
section
open Go.RowKit Oct Stb
/-- Full blocks, each sorted. -/
def FB (bs : Nat) (bl : List (List VC)) : Prop := ∀ x ∈ bl, x.length = bs ∧ Srt kv x
theorem FB.len {bs : Nat} : ∀ {bl : List (List VC)}, FB bs bl → bl.flatten.length = bl.length * bs
  | [], _ => by simp
  | x :: bl, h => by
    rw [List.flatten_cons, List.length_append, (h x (by simp)).1, FB.len (fun y hy => h y (by simp [hy])), List.length_cons, Nat.add_mul]
    omega
theorem FB.snoc {bs : Nat} {bl : List (List VC)} {x : List VC} (h : FB bs bl) (hx : x.length = bs ∧ Srt kv x) : FB bs (bl ++ [x]) := fun y hy => by
  rcases List.mem_append.1 hy with hy | hy
  · exact h y hy
  · rw [List.mem_singleton.1 hy]; exact hx
theorem FB.two {bs t : Nat} {bl : List (List VC)} (h : FB bs bl) (ht : t < bs) (h2 : 2 * bs ≤ bl.flatten.length + t) : ∃ X Y bl', bl = X :: Y :: bl' := by
  rw [h.len] at h2
  rcases bl with _ | ⟨X, _ | ⟨Y, bl'⟩⟩
  · simp at h2; omega
  · simp at h2; omega
  · exact ⟨X, Y, bl', rfl⟩
theorem FB.one {bs t : Nat} {bl : List (List VC)} (h : FB bs bl) (ht : t < bs) (h1 : bs < bl.flatten.length + t) (h2 : bl.flatten.length + t < 2 * bs) : ∃ X, bl = [X] := by
  rw [h.len] at h1 h2
  rcases bl with _ | ⟨X, _ | ⟨Y, bl'⟩⟩
  · simp at h1; omega
  · exact ⟨X, rfl⟩
  · rw [List.length_cons, List.length_cons, Nat.add_mul, Nat.add_mul] at h2; omega
theorem FB.few {bs : Nat} {bl : List (List VC)} {t : List VC} (h : FB bs bl) (ht : t.length < bs) (hs : Srt kv t) (h2 : bl.flatten.length + t.length ≤ bs) : Srt kv (bl.flatten ++ t) := by
  have hl := h.len
  rcases bl with _ | ⟨X, _ | ⟨Y, bl'⟩⟩
  · simpa using hs
  · obtain ⟨x1, x2⟩ := h X (by simp)
    rw [hl] at h2
    simp at h2
    obtain rfl : t = [] := List.eq_nil_of_length_eq_zero (by omega)
    simpa using x2
  · rw [hl, List.length_cons, List.length_cons, Nat.add_mul, Nat.add_mul] at h2; omega
theorem flat_snocV (bl : List (List VC)) (x : List VC) : (bl ++ [x]).flatten = bl.flatten ++ x := by simp
/-- The same votes lie there. -/
theorem Stb.Sam.is {L C : List VC} (h : Sam kv L C) (ho : ∀ z ∈ L, IsS z.1) : ∀ z ∈ C, IsS z.1 := fun z hz => ho z (h.mem.1 hz)
set_option maxRecDepth 10000 in
set_option maxHeartbeats 4000000 in
theorem stable_any (w : World) (g n cap : Nat) (L : List VC) (rest : List Value) (hR : Row w g 28 (vfl L ++ rest)) (hn : L.length = n) (hc : n ≤ cap) (hm : cap ≤ maxLen) (hn48 : n ≤ 281474976710656) (hone : ∀ z ∈ L, IsS z.1) :
    Calls Tryd.prog 42 #[.slice (some ⟨g, 0, none⟩) n cap, .int .i64 n, .func (.func 33) #[] #[]] w fun e w' => e = .returned (.tuple #[]) ∧ (∃ C, Srt kv C ∧ Sam kv L C ∧ Row w' g 28 (vfl C ++ rest)) ∧ w.grownBy w' (some g) := by
  have HO := (show Hid (∀ z ∈ L, IsS z.1) from hone)
  have HL := (show Hid (L.length = n) from hn)
  have HR := (show Hid (∃ (bl : List (List VC)) (r : List VC), FB 20 bl ∧ bl.length * 20 = 0 ∧ Sam kv L (bl.flatten ++ r) ∧ Row w g 28 (vfl (bl.flatten ++ r) ++ rest)) from ⟨[], L, (fun x hx => by cases hx), rfl, Sam.refl _, hR⟩)
  clear hR hn hone
  go_enter Tryd.func42, Tryd.ntmps42
  go_wp2_with fail
  go_loopw [7, 8] (fun i j wr => ∃ a : Nat, i = .int .i64 a ∧ j = .int .i64 ((a : Int) + 20) ∧ a ≤ n ∧ Hid (∃ (bl : List (List VC)) (r : List VC), FB 20 bl ∧ bl.length * 20 = a ∧ Sam kv L (bl.flatten ++ r) ∧ Row wr g 28 (vfl (bl.flatten ++ r) ++ rest)) ∧ w.grownBy wr (some g)) (fun i _ _ => n - (intOf i).toNat)
  case atStart => exact ⟨0, rfl, rfl, Nat.zero_le _, HR, grown_refl _ _⟩
  case round =>
    clear HR
    obtain ⟨a, rfl, rfl, han, hS, hG⟩ := hrel
    obtain ⟨bl, r, f1, f2, f3, f4⟩ := hS.out
    have hfl := f1.len
    have hrl : bl.flatten.length + r.length = n := by have := f3.1; rw [List.length_append, HL.out] at this; exact this
    by_cases hb : a + 20 ≤ n
    · have hbi : (a : Int) + 20 ≤ (n : Int) := by omega
      obtain ⟨b, hbb⟩ : ∃ b, b = a + 20 := ⟨_, rfl⟩
      have hI := insSort_any wr g n cap a b bl.flatten (r.take 20) (r.drop 20) rest (by omega) (by rw [List.length_take]; omega) (by rw [List.append_assoc, List.take_append_drop]; exact f4) (by rw [List.append_assoc, List.take_append_drop, List.length_append]; exact hrl) hc hm hn48 (by rw [List.append_assoc, List.take_append_drop]; exact f3.is HO.out)
      have NX := (show Hid (∀ (A' : List VC) (u : World), Srt kv A' → Sam kv (r.take 20) A' → Row u g 28 (vfl (bl.flatten ++ A' ++ r.drop 20) ++ rest) → ∃ (bl : List (List VC)) (r : List VC), FB 20 bl ∧ bl.length * 20 = a + 20 ∧ Sam kv L (bl.flatten ++ r) ∧ Row u g 28 (vfl (bl.flatten ++ r) ++ rest)) from fun A' u h1 h2 h3 => ⟨bl ++ [A'], r.drop 20, f1.snoc ⟨by rw [h2.1, List.length_take]; omega, h1⟩, by simp; omega, by
        rw [flat_snocV]
        have s := ((Sam.refl (k := kv) bl.flatten).app h2).app (Sam.refl (k := kv) (r.drop 20))
        rw [List.append_assoc, List.take_append_drop] at s
        exact f3.trans s, by rw [flat_snocV]; exact h3⟩)
      have wb : IntKind.i64.wrap ((a : Int) + 20 + 20) = (a : Int) + 20 + 20 := IntWalk.i64_in _ (by omega)
      have hIb : Calls Tryd.prog 61 #[.slice (some ⟨g, 0, none⟩) n cap, .int .i64 a, .int .i64 ((a : Int) + 20), .func (.func 33) #[] #[]] wr fun e w' => e = .returned (.tuple #[]) ∧ (∃ A', Srt kv A' ∧ Sam kv (r.take 20) A' ∧ Row w' g 28 (vfl (bl.flatten ++ A' ++ r.drop 20) ++ rest)) ∧ wr.grownBy w' (some g) := by
        rw [hbb] at hI
        exact hI
      clear hbb hI f1 f2 f3 f4 hfl hrl hS
      go_wp2_with (go_at_call 61; refine hIb.mono ?_; rintro e u1 ⟨rfl, ⟨A', h1, h2, h3⟩, k1⟩)
      go_roundw
      case rel => exact ⟨a + 20, by go_num, by go_num, hb, NX.out A' u1 h1 h2 h3, grown_trans hG k1 (.inl rfl)⟩
      case measure => simp [intOf]; omega
    · have hbi : decide ((a : Int) + 20 ≤ (n : Int)) = false := by simp; omega
      have hI := insSort_any wr g n cap a n bl.flatten r [] rest (by omega) (by omega) (by rw [List.append_nil]; exact f4) (by rw [List.append_nil, List.length_append]; exact hrl) hc hm hn48 (by rw [List.append_nil]; exact f3.is HO.out)
      have NX := (show Hid (∀ (A' : List VC) (u : World), Srt kv A' → Sam kv r A' → Row u g 28 (vfl (bl.flatten ++ A' ++ []) ++ rest) → ∃ (bl : List (List VC)) (t : List VC), FB 20 bl ∧ t.length < 20 ∧ Srt kv t ∧ Sam kv L (bl.flatten ++ t) ∧ Row u g 28 (vfl (bl.flatten ++ t) ++ rest)) from fun A' u h1 h2 h3 => ⟨bl, A', f1, by rw [h2.1]; omega, h1, f3.trans ((Sam.refl _).app h2), by rw [List.append_nil] at h3; exact h3⟩)
      clear f1 f2 f3 f4 hfl hrl hS
      go_upto_region 7 with (go_at_call 61; refine hI.mono ?_; rintro e u1 ⟨rfl, ⟨A', h1, h2, h3⟩, k1⟩)
      have ST := (show Hid (∃ (bl : List (List VC)) (t : List VC), FB 20 bl ∧ t.length < 20 ∧ Srt kv t ∧ Sam kv L (bl.flatten ++ t) ∧ Row u1 g 28 (vfl (bl.flatten ++ t) ++ rest)) from NX.out A' u1 h1 h2 h3)
      have hG1 := grown_trans hG k1 (.inl rfl)
      clear NX h1 h2 h3 k1 hG hI
      go_wp2_with fail
      go_loopw [6] (fun z wr => ∃ bs : Nat, z = .int .i64 bs ∧ 20 ≤ bs ∧ bs ≤ 2 * n + 20 ∧ Hid (∃ (bl : List (List VC)) (t : List VC), FB bs bl ∧ t.length < bs ∧ Srt kv t ∧ Sam kv L (bl.flatten ++ t) ∧ Row wr g 28 (vfl (bl.flatten ++ t) ++ rest)) ∧ w.grownBy wr (some g)) (fun z _ => n - (intOf z).toNat)
      case atStart => exact ⟨20, rfl, Nat.le_refl _, by omega, ST, hG1⟩
      case round =>
        clear ST hG1
        obtain ⟨bs, rfl, hbs, hbn, hS, hG⟩ := hrel
        by_cases hlt : bs < n
        · have hlti : (bs : Int) < (n : Int) := by omega
          have w2 : IntKind.i64.wrap (2 * (bs : Int)) = 2 * (bs : Int) := IntWalk.i64_in _ (by omega)
          have w2' : IntKind.i64.wrap ((bs : Int) * 2) = 2 * (bs : Int) := by rw [Int.mul_comm]; exact w2
          have ST := (show Hid (∃ (cl bl : List (List VC)) (t : List VC), FB (2 * bs) cl ∧ FB bs bl ∧ cl.length * (2 * bs) = 0 ∧ t.length < bs ∧ Srt kv t ∧ Sam kv L (cl.flatten ++ (bl.flatten ++ t)) ∧ Row wr g 28 (vfl (cl.flatten ++ (bl.flatten ++ t)) ++ rest)) from by
            obtain ⟨bl, t, f1, f2, f3, f4, f5⟩ := hS.out
            exact ⟨[], bl, t, (fun x hx => by cases hx), f1, by simp, f2, f3, f4, f5⟩)
          clear hS
          go_wp2_with fail
          go_loopw [7, 8] (fun i j wx => ∃ a : Nat, i = .int .i64 a ∧ j = .int .i64 ((a : Int) + 2 * (bs : Int)) ∧ a ≤ n ∧ Hid (∃ (cl bl : List (List VC)) (t : List VC), FB (2 * bs) cl ∧ FB bs bl ∧ cl.length * (2 * bs) = a ∧ t.length < bs ∧ Srt kv t ∧ Sam kv L (cl.flatten ++ (bl.flatten ++ t)) ∧ Row wx g 28 (vfl (cl.flatten ++ (bl.flatten ++ t)) ++ rest)) ∧ w.grownBy wx (some g)) (fun i _ _ => n - (intOf i).toNat)
          case atStart => exact ⟨0, rfl, by go_num, Nat.zero_le _, ST, hG⟩
          case round =>
            clear ST hG
            obtain ⟨a, rfl, rfl, han, hS, hG⟩ := hrel
            obtain ⟨cl, bl, t, f1, f2, f3, f4, f5, f6, f7⟩ := hS.out
            have hcl := f1.len
            have hbl := f2.len
            have hrl : cl.flatten.length + (bl.flatten.length + t.length) = n := by have := f6.1; rw [List.length_append, List.length_append, HL.out] at this; exact this
            by_cases hb : a + 2 * bs ≤ n
            · have hbi : (a : Int) + 2 * (bs : Int) ≤ (n : Int) := by omega
              obtain ⟨X, Y, bl', rfl⟩ : ∃ X Y bl', bl = X :: Y :: bl' := f2.two f4 (by omega)
              obtain ⟨x1, x2⟩ := f2 X (by simp)
              obtain ⟨y1, y2⟩ := f2 Y (by simp)
              have e0 : cl.flatten ++ ((X :: Y :: bl').flatten ++ t) = cl.flatten ++ X ++ Y ++ (bl'.flatten ++ t) := by simp
              rw [e0] at f6 f7
              have hI := sym_all (X.length + Y.length) wr g n cap a (a + bs) (a + 2 * bs) cl.flatten X Y (bl'.flatten ++ t) rest (Nat.le_refl _) (by omega) (by omega) (by omega) (by omega) (by omega) x2 y2 f7 (by have := f6.1; rw [HL.out] at this; exact this) hc hm hn48 (f6.is HO.out)
              have NX := (show Hid (∀ (A' : List VC) (u : World), Srt kv A' → Sam kv (X ++ Y) A' → Row u g 28 (vfl (cl.flatten ++ A' ++ (bl'.flatten ++ t)) ++ rest) → ∃ (cl bl : List (List VC)) (t : List VC), FB (2 * bs) cl ∧ FB bs bl ∧ cl.length * (2 * bs) = a + 2 * bs ∧ t.length < bs ∧ Srt kv t ∧ Sam kv L (cl.flatten ++ (bl.flatten ++ t)) ∧ Row u g 28 (vfl (cl.flatten ++ (bl.flatten ++ t)) ++ rest)) from fun A' u h1 h2 h3 => ⟨cl ++ [A'], bl', t, f1.snoc ⟨by rw [h2.1, List.length_append]; omega, h1⟩, (fun x hx => f2 x (by simp [hx])), by rw [List.length_append, Nat.add_mul, f3]; simp, f4, f5, by
                rw [flat_snocV]
                have s := ((Sam.refl (k := kv) cl.flatten).app h2).app (Sam.refl (k := kv) (bl'.flatten ++ t))
                rw [← List.append_assoc cl.flatten] at s
                exact f6.trans s, by rw [flat_snocV]; exact h3⟩)
              have wab : IntKind.i64.wrap ((a : Int) + bs) = ((a + bs : Nat) : Int) := by rw [IntWalk.i64_in _ (by omega)]; omega
              have wb2 : IntKind.i64.wrap ((a : Int) + 2 * (bs : Int) + 2 * (bs : Int)) = (a : Int) + 2 * (bs : Int) + 2 * (bs : Int) := IntWalk.i64_in _ (by omega)
              have eb : ((a + 2 * bs : Nat) : Int) = (a : Int) + 2 * (bs : Int) := by omega
              rw [eb] at hI
              obtain ⟨m, hmm⟩ : ∃ m, m = a + bs := ⟨_, rfl⟩
              rw [← hmm] at hI wab
              clear hmm eb e0 x1 x2 y1 y2 f1 f2 f3 f4 f5 f6 f7 hcl hbl hrl hS
              go_wp2_with (go_at_call 62; refine hI.mono ?_; rintro e u1 ⟨rfl, ⟨A', h1, h2, h3⟩, k1⟩)
              go_roundw
              case rel => exact ⟨a + 2 * bs, by go_num, by go_num, hb, NX.out A' u1 h1 h2 h3, grown_trans hG k1 (.inl rfl)⟩
              case measure => simp [intOf]; omega
            · have hbi : decide ((a : Int) + 2 * (bs : Int) ≤ (n : Int)) = false := by simp; omega
              have wab : IntKind.i64.wrap ((a : Int) + bs) = ((a + bs : Nat) : Int) := by rw [IntWalk.i64_in _ (by omega)]; omega
              by_cases hmn : a + bs < n
              · obtain ⟨X, rfl⟩ : ∃ X, bl = [X] := f2.one f4 (by omega) (by omega)
                obtain ⟨x1, x2⟩ := f2 X (by simp)
                have e0 : cl.flatten ++ ([X].flatten ++ t) = cl.flatten ++ X ++ t ++ [] := by simp
                rw [e0] at f6 f7
                have hXl : [X].flatten.length = bs := by simp [x1]
                have hI := sym_all (X.length + t.length) wr g n cap a (a + bs) n cl.flatten X t [] rest (Nat.le_refl _) (by omega) (by omega) (by omega) (by omega) (by omega) x2 f5 f7 (by have := f6.1; rw [HL.out] at this; exact this) hc hm hn48 (f6.is HO.out)
                have NX := (show Hid (∀ (A' : List VC) (u : World), Srt kv A' → Sam kv (X ++ t) A' → Row u g 28 (vfl (cl.flatten ++ A' ++ []) ++ rest) → ∃ (bl : List (List VC)) (t : List VC), FB (2 * bs) bl ∧ t.length < 2 * bs ∧ Srt kv t ∧ Sam kv L (bl.flatten ++ t) ∧ Row u g 28 (vfl (bl.flatten ++ t) ++ rest)) from fun A' u h1 h2 h3 => ⟨cl, A', f1, by rw [h2.1, List.length_append]; omega, h1, by
                  have s := (Sam.refl (k := kv) cl.flatten).app h2
                  rw [← List.append_assoc] at s
                  rw [List.append_nil] at f6
                  exact f6.trans s, by rw [List.append_nil] at h3; exact h3⟩)
                obtain ⟨m, hmm⟩ : ∃ m, m = a + bs := ⟨_, rfl⟩
                have hmi : (m : Int) < (n : Int) := by omega
                rw [← hmm] at hI wab
                clear hmm e0 x1 x2 f1 f2 f3 f4 f5 f6 f7 hcl hbl hrl hS hXl hmn
                go_wp2_with (go_at_call 62; refine hI.mono ?_; rintro e u1 ⟨rfl, ⟨A', h1, h2, h3⟩, k1⟩)
                go_roundw
                case rel => exact ⟨2 * bs, by go_num, by omega, by omega, NX.out A' u1 h1 h2 h3, grown_trans hG k1 (.inl rfl)⟩
                case measure => simp [intOf]; omega
              · have hmi : decide (((a + bs : Nat) : Int) < (n : Int)) = false := by simp; omega
                have NX := (show Hid (∃ (bl : List (List VC)) (t : List VC), FB (2 * bs) bl ∧ t.length < 2 * bs ∧ Srt kv t ∧ Sam kv L (bl.flatten ++ t) ∧ Row wr g 28 (vfl (bl.flatten ++ t) ++ rest)) from by
                  have hs : Srt kv (bl.flatten ++ t) ∧ (bl.flatten ++ t).length < 2 * bs := ⟨f2.few f4 f5 (by omega), by rw [List.length_append]; omega⟩
                  exact ⟨cl, bl.flatten ++ t, f1, hs.2, hs.1, f6, f7⟩)
                obtain ⟨m, hmm⟩ : ∃ m, m = a + bs := ⟨_, rfl⟩
                rw [← hmm] at hmi wab
                have hmn' : ¬ m < n := by omega
                clear hmm f1 f2 f3 f4 f5 f6 f7 hcl hbl hrl hS hmn
                go_wp2_with fail
                go_roundw
                case rel => exact ⟨2 * bs, by go_num, by omega, by omega, NX, hG⟩
                case measure => simp [intOf]; omega
        · have hlti : decide ((bs : Int) < (n : Int)) = false := by simp; omega
          have FIN := (show Hid (∃ C, Srt kv C ∧ Sam kv L C ∧ Row wr g 28 (vfl C ++ rest)) from by
            obtain ⟨bl, t, f1, f2, f3, f4, f5⟩ := hS.out
            have hbl := f1.len
            have hrl : bl.flatten.length + t.length = n := by have := f4.1; rw [List.length_append, HL.out] at this; exact this
            have hs : Srt kv (bl.flatten ++ t) := f1.few f2 f3 (by omega)
            exact ⟨_, hs, f4, f5⟩)
          clear hS
          go_wp2_with fail
          go_end0
          exact ⟨rfl, FIN.out, hG⟩
end
section
open Go.RowKit Oct Stb
/-- Votes with where their signatures lie. -/
theorem vc_of {Q : Value → PVote → Prop} : ∀ {rows : List (List Value)} {ys : List PVote}, All2 (fun r x => ∃ s, r = [.int .i64 x.1, s] ∧ Q s x) rows ys → ∃ L : List VC, L.map (·.2) = ys ∧ rows.flatten = vfl L ∧ (∀ z ∈ L, Q z.1 z.2)
  | [], [], _ => ⟨[], rfl, rfl, fun z hz => by cases hz⟩
  | r :: rows, y :: ys, h => by
    obtain ⟨⟨s, rfl, hq⟩, h2⟩ := h
    obtain ⟨L, e1, e2, e3⟩ := vc_of h2
    refine ⟨(s, y) :: L, by simp [e1], by rw [List.flatten_cons, e2, vfl_cons]; rfl, fun z hz => ?_⟩
    rcases List.mem_cons.1 hz with rfl | hz
    · exact hq
    · exact e3 z hz
  | [], _ :: _, h => h.elim
  | _ :: _, [], h => h.elim
/-- A row of votes is a list that can be read. -/
theorem rl_vc {G : Nat → Prop} {w : World} {g n cap : Nat} {C : List VC} {rest : List Value} (hR : Row w g 28 (vfl C ++ rest)) (hn : C.length = n) (hc : n ≤ cap) (hm : cap ≤ maxLen) (hg : G g) (hq : ∀ z ∈ C, RT G w z.1 z.2.2) : RL RVote 2 G w (.slice (some ⟨g, 0, none⟩) n cap) (C.map (·.2)) := by
  refine ⟨C.map vce, ⟨fun r hr => ?_, ?_⟩, All2.of_get (by simp) fun i r x hr hx => ?_⟩
  · obtain ⟨z, _, rfl⟩ := List.mem_map.1 hr
    rfl
  · rcases Nat.eq_zero_or_pos n with h | h
    · subst h
      obtain rfl : C = [] := List.eq_nil_of_length_eq_zero hn
      exact .inl ⟨_, cap, rfl, rfl, hm⟩
    · refine .inr ⟨g, 0, cap, by rw [List.length_map, hn], by rw [List.length_map]; omega, hm, by rw [List.length_map]; omega, hg, hR.lt, fun i r hr => ?_⟩
      rw [List.getElem?_map] at hr
      cases hz : C[i]? with
      | none => rw [hz] at hr; cases hr
      | some z =>
        rw [hz] at hr
        injection hr with hr
        obtain ⟨c0, c1⟩ := vfl_get hR hz
        intro j u hj
        rw [← hr] at hj
        match j, hj with
        | 0, hj => injection hj with hj; rw [← hj, Nat.zero_add]; exact c0
        | 1, hj => injection hj with hj; rw [← hj, Nat.zero_add]; exact c1
        | j + 2, hj => simp [vce] at hj
  · rw [List.getElem?_map] at hr hx
    cases hz : C[i]? with
    | none => rw [hz] at hr; cases hr
    | some z =>
      rw [hz] at hr hx
      injection hr with hr
      injection hx with hx
      subst hr hx
      exact ⟨z.1, rfl, hq z (List.mem_of_getElem? hz)⟩
def ks (x : PVote) : Int := x.1
theorem insNil_any (w : World) (f : Value) : Calls Tryd.prog 61 #[.slice none 0 0, .int .i64 0, .int .i64 0, f] w fun e w' => e = .returned (.tuple #[]) ∧ w' = w := by
  go_enter Tryd.func61, Tryd.ntmps61
  go_wp2_with fail
  refine wp_loop_rounds 1 ?_; rw [rounds_succ]
  go_wp2_with fail
  go_end0
  exact ⟨rfl, rfl⟩
theorem stableNil_any (w : World) (f : Value) : Calls Tryd.prog 42 #[.slice none 0 0, .int .i64 0, f] w fun e w' => e = .returned (.tuple #[]) ∧ w' = w := by
  go_enter Tryd.func42, Tryd.ntmps42
  go_wp2_with fail
  refine wp_loop_rounds 1 ?_; rw [rounds_succ]
  go_wp2_with (go_at_call 61; refine (insNil_any w f).mono ?_; rintro e w ⟨rfl, rfl⟩)
  refine wp_loop_rounds 1 ?_; rw [rounds_succ]
  go_wp2_with fail
  go_end0
  exact ⟨rfl, rfl⟩
theorem ssfNil_any (w : World) (f : Value) : Calls Tryd.prog 32 #[.slice none 0 0, f] w fun e w' => e = .returned (.tuple #[]) ∧ w' = w := by
  go_enter Tryd.func32, Tryd.ntmps32
  go_wp2_with (go_at_call 42; refine (stableNil_any w f).mono ?_; rintro e w ⟨rfl, rfl⟩)
  go_end0
  exact ⟨rfl, rfl⟩
theorem ssf_any (w : World) (g n cap : Nat) (L : List VC) (rest : List Value) (hR : Row w g 28 (vfl L ++ rest)) (hn : L.length = n) (hc : n ≤ cap) (hm : cap ≤ maxLen) (hn48 : n ≤ 281474976710656) (hone : ∀ z ∈ L, IsS z.1) :
    Calls Tryd.prog 32 #[.slice (some ⟨g, 0, none⟩) n cap, .func (.func 33) #[] #[]] w fun e w' => e = .returned (.tuple #[]) ∧ (∃ C, Srt kv C ∧ Sam kv L C ∧ Row w' g 28 (vfl C ++ rest)) ∧ w.grownBy w' (some g) := by
  have hS := stable_any w g n cap L rest hR hn hc hm hn48 hone
  clear hR hn
  go_enter Tryd.func32, Tryd.ntmps32
  go_wp2_with (go_at_call 42; refine hS.mono ?_; rintro e w1 ⟨rfl, h1, h2⟩)
  go_end0
  exact ⟨rfl, h1, h2⟩
/-- vote.Sort. -/
theorem vSort_any (w : World) (v : Value) (ys : List PVote) (h : RL RVote 2 Any w v ys) (hz : szL 32 szV ys) :
    Calls Tryd.prog 26 #[v] w fun e w' => ∃ v' zs, e = .returned v' ∧ RL RVote 2 (From w.heap.size) w' v' zs ∧ Srt ks zs ∧ Sam ks ys zs ∧ Below w.heap.size w w' := by
  have hC := cvotesL_any w v ys h hz
  have hz1 := hz.1
  obtain ⟨av, cv, rfl, _⟩ := h.form
  clear h
  go_enter Tryd.func26, Tryd.ntmps26
  go_upto_region 2 with (go_at_call 31; refine hC.mono ?_; rintro e w1 ⟨v1, rfl, hL1, hb1⟩)
  obtain ⟨rows, h0, hown, hfr, hall⟩ := hL1
  have hlen := hall.len
  rcases hown.2 with ⟨rfl, hy0⟩ | ⟨g, cap, cur, rfl, _, hrow, hc1, hc2, hc3, hc4⟩
  · obtain rfl : ys = [] := List.eq_nil_of_length_eq_zero (by omega)
    have hN := ssfNil_any w1 (.func (.func 33) #[] #[])
    clear hown hfr hall hlen h0 hy0
    go_wp2_with (go_at_call 32; refine hN.mono ?_; rintro e w1 ⟨rfl, rfl⟩)
    go_ret
    exact ⟨_, [], rfl, RL.nil _ _ _ _, List.Pairwise.nil, Sam.refl _, hb1⟩
  · obtain ⟨L, e1, e2, e3⟩ := vc_of (Q := fun s x => RT (fun b => w.heap.size ≤ b ∧ (Value.slice (some ⟨g, 0, none⟩) rows.length cap).ownBlock ≠ some b) w1 s x.2) hall
    have hLl : L.length = rows.length := by have := congrArg List.length e1; rw [List.length_map] at this; omega
    have hcur : cur.toList = vfl L ++ cur.toList.drop (rows.length * 2) := by
      rw [← e2, ← hc4, List.take_append_drop]
    have hR1 : Row w1 g 28 (vfl L ++ cur.toList.drop (rows.length * 2)) := by
      rw [← hcur]
      unfold Row
      simpa using hrow
    have hgw : w.heap.size ≤ g := hfr g rfl
    have hS := ssf_any w1 g rows.length cap L _ hR1 hLl hc1 hc2 (by omega) (fun z hz => by
      obtain ⟨a, c, e, _⟩ := (e3 z hz).form
      exact ⟨a, _, c, e⟩)
    generalize rows.length = n at *
    have FIN := (show Hid (∀ (C : List VC) (u : World), Srt kv C → Sam kv L C → Row u g 28 (vfl C ++ cur.toList.drop (n * 2)) → w1.grownBy u (some g) → RL RVote 2 (From w.heap.size) u (.slice (some ⟨g, 0, none⟩) n cap) (C.map (·.2)) ∧ Srt ks (C.map (·.2)) ∧ Sam ks ys (C.map (·.2)) ∧ Below w.heap.size w u) from fun C u h1 h2 h3 h4 => by
      refine ⟨rl_vc h3 (by rw [h2.1]; exact hLl) hc1 hc2 hgw fun z hz => ?_, Srt.map (fun _ => rfl) h1, ?_, hb1.trans (grown_below h4 hb1.size (fun k hk => by cases hk; exact hgw))⟩
      · exact (e3 z (h2.mem.1 hz)).mv fun k hk hl => ⟨h4.block k hl (fun e => hk.2 (by injection e with e; rw [e]; rfl)), hk.1⟩
      · have := Sam.map (f := fun z : VC => z.2) (k' := ks) (fun _ => rfl) h2
        rwa [e1] at this)
    clear hrow hcur hR1 e1 e2 e3 hall hown h0 hfr hc4 hlen hLl hc3
    go_wp2_with (go_at_call 32; refine hS.mono ?_; rintro e w2 ⟨rfl, ⟨C, h1, h2, h3⟩, h4⟩)
    go_ret
    obtain ⟨f1, f2, f3, f4⟩ := FIN.out C w2 h1 h2 h3 h4
    exact ⟨_, _, rfl, f1, f2, f3, f4⟩
end
end Go.Proofs.YtgpkngiakhdmhaaDoor
