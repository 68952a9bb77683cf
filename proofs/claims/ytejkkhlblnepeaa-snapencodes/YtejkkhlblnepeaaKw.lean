/- The document's Less and Right. -/
import Derived.Test.YtejkkhlblnepeaaKv
import Derived.BigQuiet
import Derived.Deep.QuietTactic
set_option linter.unusedVariables false
set_option linter.unusedSimpArgs false
namespace Go.Proofs.Ytejkkhlblnepeaa
open Go.RowKit Oct Kvl

theorem less_bytes : ∀ {a b : List Int}, Byt a → Byt b → Op.bytesLess (a.map fun n => UInt8.ofNat n.toNat) (b.map fun n => UInt8.ofNat n.toNat) = decide (cmpL a b < 0)
  | [], [], _, _ => rfl
  | [], _ :: _, _, _ => rfl
  | _ :: _, [], _, _ => rfl
  | x :: a, y :: b, ha, hb => by
    have hx := ha x (by simp)
    have hy := hb y (by simp)
    have ih := less_bytes (a := a) (b := b) (fun z hz => ha z (by simp [hz])) (fun z hz => hb z (by simp [hz]))
    have e1 : (UInt8.ofNat x.toNat < UInt8.ofNat y.toNat) ↔ x < y := u8_lt hx hy
    have e2 : (UInt8.ofNat y.toNat < UInt8.ofNat x.toNat) ↔ y < x := u8_lt hy hx
    have e3 : (UInt8.ofNat x.toNat == UInt8.ofNat y.toNat) = decide (x = y) := by
      rw [Bool.eq_iff_iff]
      simp only [beq_iff_eq, decide_eq_true_eq]
      refine ⟨fun h => ?_, fun h => by rw [h]⟩
      rw [h] at e1 e2
      have := UInt8.lt_irrefl (UInt8.ofNat y.toNat)
      have n1 : ¬ x < y := fun hh => this (e1.2 hh)
      have n2 : ¬ y < x := fun hh => this (e2.2 hh)
      omega
    show (decide (UInt8.ofNat x.toNat < UInt8.ofNat y.toNat) || ((UInt8.ofNat x.toNat == UInt8.ofNat y.toNat) && Op.bytesLess (a.map fun n => UInt8.ofNat n.toNat) (b.map fun n => UInt8.ofNat n.toNat))) = _
    rw [ih, e3]
    show _ = decide ((if x < y then -1 else if y < x then 1 else cmpL a b) < 0)
    by_cases h1 : x < y
    · simp [e1.2 h1, h1]
    · by_cases h2 : y < x
      · have h3 : ¬ x = y := by omega
        simp [h1, h2, h3, e1]
      · have h3 : x = y := by omega
        subst h3
        simp
theorem str_less {a b : List Int} (ha : Byt a) (hb : Byt b) : Op.bytesLess (strOfNums a).toList (strOfNums b).toList = decide (cmpL a b < 0) := by
  rw [ByteArray.toList_eq, ByteArray.toList_eq, strOfNums_data, strOfNums_data]
  exact less_bytes ha hb
theorem less_any (w : World) (u v : Value) (a b : List Int) (ha : Rd w u a) (hb : Rd w v b) :
    Calls Try.prog 61 #[u, v] w fun e w' => e = .returned (.bool (decide (cmpL a b < 0))) ∧ w' = w := by
  have h1 := run_str ha
  have h2 := run_str hb
  have h3 := str_less ha.1 hb.1
  clear ha hb
  rw [← h3]
  clear h3
  go_enter Try.func61, Try.ntmps61
  go_wp2_with fail
  go_ret
  exact ⟨rfl, rfl⟩

theorem nil_low {m : List Int} (h : 1 ≤ m.length) : cmpL [] m < 0 := by
  cases m with
  | nil => simp at h
  | cons a b => simp [cmpL]
theorem chk_yes {n : List Int} {x : PEnt} {r : List PEnt} (h : cmpL n x.1 < 0) (h1 : x.1.length ≤ 16) (h2 : x.2.length ≤ 64) : chk n (x :: r) ↔ chk x.1 r := by
  rw [chk_cons]
  exact ⟨fun h => h.2, fun h' => ⟨⟨h, low_ne h, h1, h2⟩, h'⟩⟩
/-- The Name ahead of entry q. -/
def ahd (ys : List PEnt) : Nat → List Int
  | 0 => []
  | q + 1 => match ys[q]? with | some x => x.1 | none => []

set_option maxRecDepth 10000 in
set_option maxHeartbeats 800000 in
/-- The document's Right. -/
theorem refRight_any (w : World) (v : Value) (ys : List PEnt) (h : RL REnt 2 Any w v ys) :
    Calls Try.prog 42 #[v] w fun e w' => e = .returned (.bool (decide (rgtL ys))) ∧ Below w.heap.size w w' := by
  by_cases h64 : 64 < ys.length
  · rw [decide_eq_false (fun h => by have := h.1; omega)]
    obtain ⟨ao, cap, rfl, hm⟩ := h.form
    have hd : (64 : Int) < ys.length := by omega
    go_enter Try.func42, Try.ntmps42
    go_wp2_with fail
    go_ret
    exact ⟨rfl, Below.refl _ _⟩
  have hd : decide ((64 : Int) < ys.length) = false := by simp; omega
  by_cases hl : 0 < ys.length
  rotate_left
  · obtain rfl : ys = [] := List.eq_nil_of_length_eq_zero (by omega)
    obtain ⟨ao, cap, rfl, _⟩ := h.form
    go_enter Try.func42, Try.ntmps42
    go_wp2_with fail
    refine wp_loop_rounds 1 ?_; rw [rounds_succ]
    go_wp2_with fail
    go_ret
    exact ⟨ret_bool (by decide), Below.refl _ _⟩
  obtain ⟨b, off, cap, rfl, hc, hm, _, hb, hx⟩ := h.at hl
  have HX := (show Hid (∀ (i : Nat) (a : PEnt), ys[i]? = some a → ∃ r, r.length = 2 ∧ w.rangeAt b (off + i * 2) r ∧ REnt Any w r a) from hx)
  have HR := (show Hid (rgtL ys ↔ chk [] ys) from rgt_chk (by omega))
  have hlm : (ys.length : Int) ≤ 9223372036854775807 := by omega
  clear hx h h64
  obtain ⟨n, hn⟩ : ∃ n, n = ys.length := ⟨_, rfl⟩
  rw [← hn] at hlm hl hc hd ⊢
  have HN := (show Hid (ys.length = n) from hn.symm)
  clear hn
  go_enter Try.func42, Try.ntmps42
  go_wp2_with fail
  go_loopw [10] (fun i wr => ∃ (q : Nat), q ≤ n ∧ i = .int .i64 q ∧ Below w.heap.size w wr ∧ Hid (chk [] ys ↔ chk (ahd ys q) (ys.drop q))) (fun i _ => n - (intOf i).toNat)
  case atStart => exact ⟨0, by omega, rfl, Below.refl _ _, Iff.rfl⟩
  case round =>
    obtain ⟨q, hq, rfl, hB, hI⟩ := hrel
    by_cases hql : q < n
    · obtain ⟨x, hx⟩ : ∃ x, ys[q]? = some x := ⟨_, List.getElem?_eq_getElem (by have := HN.out; omega)⟩
      obtain ⟨r, _, hrng, s1, s2, rfl, t1, t2⟩ := HX.out q x hx
      have hrng := rangeAt_block hrng (hB.block b hb)
      obtain ⟨a1, c1, rfl, hc1⟩ := t1.form
      obtain ⟨a2, c2, rfl, hc2⟩ := t2.form
      have hrow0 := Row.new wr 54 [.slice none 0 0, .slice none 0 0]
      have HD := (show Hid (ys.drop q = x :: ys.drop (q + 1)) from drop_cons hx)
      have HA := (show Hid (ahd ys (q + 1) = x.1) by show (match ys[q]? with | some x => x.1 | none => []) = _; rw [hx])
      have hone := onE2 t1.one t2.one
      clear hx
      obtain ⟨L1, hL1⟩ : ∃ L, x.1.length = L := ⟨_, rfl⟩
      obtain ⟨L2, hL2⟩ : ∃ L, x.2.length = L := ⟨_, rfl⟩
      rw [hL1] at t1 hrng hone
      rw [hL2] at t2 hrng hone
      have HL := (show Hid (x.1.length = L1 ∧ x.2.length = L2) from ⟨hL1, hL2⟩)
      clear hL1 hL2
      go_upto_region 6 with (first
        | (refine wpList_load_mid rfl _ _ rfl b (off + q * 2) rfl [.slice a1 L1 c1, .slice a2 L2 c2] _ hrng Try.underlying54 rfl (by kernel_rfl) ?_)
        | (refine wl_store rfl _ _ _ rfl wr.heap.size [.slice a1 L1 c1, .slice a2 L2 c2] rfl rfl _ _ hrow0 rfl (by kernel_rfl) hone ?_; intro w5 hr5 hg5))
      have hb5 : Below wr.heap.size wr w5 := (below_alloc wr _).trans (grown_below hg5 (by simp) (fun k hk => by cases hk; exact Nat.le_refl _))
      have e0 := hr5.out.cell (j := 0) rfl
      have e1 := hr5.out.cell (j := 1) rfl
      have B5 : Below w.heap.size w w5 := below_and hB (Nat.le_refl _) hb5
      clear hg5 hrow0 hrng hone
      try go_simp
      have bad : ¬ (cmpL (ahd ys q) x.1 < 0 ∧ rgt1 x) → Ending.returned (.bool false) = .returned (.bool (decide (rgtL ys))) := fun hn => ret_bool (decide_eq_false fun h => by
        have := hI.out.1 (HR.out.1 h)
        rw [HD.out, chk_cons] at this
        exact hn this.1).symm
      have BAD := (show Hid (¬ (cmpL (ahd ys q) x.1 < 0 ∧ rgt1 x) → Ending.returned (.bool false) = .returned (.bool (decide (rgtL ys)))) from bad)
      clear bad
      by_cases g1 : L1 = 0
      · have HB := BAD.out fun h => by have := h.2.1; rw [HL.out.1] at this; omega
        subst g1
        go_big_quiet (fail)
        go_wp2_with fail
        go_ret
        exact ⟨HB, bel_dnE B5 _⟩
      have g1' : ((L1 : Int) == 0) = false := by simp; omega
      by_cases g2 : 16 < L1
      · have g2' : (16 : Int) < L1 := by omega
        have HB := BAD.out fun h => by have := h.2.2.1; rw [HL.out.1] at this; omega
        clear g1 g2
        go_big_quiet (fail)
        go_wp2_with fail
        go_ret
        exact ⟨HB, bel_dnE B5 _⟩
      have g2' : decide ((16 : Int) < L1) = false := by simp; omega
      by_cases g3 : 64 < L2
      · have g3' : (64 : Int) < L2 := by omega
        have HB := BAD.out fun h => by have := h.2.2.2; rw [HL.out.2] at this; omega
        clear g1 g2 g3
        go_big_quiet (fail)
        go_wp2_with fail
        go_ret
        exact ⟨HB, bel_dnE B5 _⟩
      have g3' : decide ((64 : Int) < L2) = false := by simp; omega
      cases q with
      | zero =>
        go_big_quiet (fail)
        go_wp2_with fail
        go_roundw
        case rel =>
          refine ⟨1, by omega, by go_num, bel_dnE B5 _, ?_⟩
          have h1 := hI.out
          rw [show ahd ys 0 = [] from rfl, HD.out, chk_yes (nil_low (by rw [HL.out.1]; omega)) (by rw [HL.out.1]; omega) (by rw [HL.out.2]; omega)] at h1
          show chk [] ys ↔ chk (ahd ys (0 + 1)) (ys.drop (0 + 1))
          rw [HA.out]
          exact h1
        case measure => simp [intOf]; omega
      | succ p =>
        obtain ⟨x', hx'⟩ : ∃ x, ys[p]? = some x := ⟨_, List.getElem?_eq_getElem (by have := HN.out; omega)⟩
        obtain ⟨r', _, hrng', s1', s2', rfl, t1', t2'⟩ := HX.out p x' hx'
        have HA' := (show Hid (ahd ys (p + 1) = x'.1) by show (match ys[p]? with | some x => x.1 | none => []) = _; rw [hx'])
        have m0 : w5.cell? ⟨b, off + p * 2, none⟩ = some s1' := (B5.cell (p := ⟨b, off + p * 2, none⟩) hb).trans (hrng' 0 _ rfl)
        have HS := (show Hid (∀ u, Below w.heap.size w u → Calls Try.prog 61 #[s1', .slice a1 L1 c1] u fun e w' => e = .returned (.bool (decide (cmpL x'.1 x.1 < 0))) ∧ w' = u) from fun u hu => less_any u _ _ _ _ (t1'.mv (Mv.below hu)).1 (t1.mv (Mv.below hu)).1)
        have g4' : decide ((0 : Int) < ((p + 1 : Nat) : Int)) = true := by simp
        clear hx'
        by_cases hlt : cmpL x'.1 x.1 < 0
        · rw [decide_eq_true hlt] at HS
          go_big_quiet ((go_at_call 61; exact quiet_as (HS.out _ (bel_dnE B5 _)) rfl))
          go_wp2_with fail
          go_roundw
          case rel =>
            refine ⟨p + 1 + 1, by omega, by go_num, bel_dnE B5 _, ?_⟩
            have h1 := hI.out
            rw [HA'.out, HD.out, chk_yes hlt (by rw [HL.out.1]; omega) (by rw [HL.out.2]; omega)] at h1
            rw [HA.out]
            exact h1
          case measure => simp [intOf]; omega
        · have HB := BAD.out fun h => hlt (by have := h.1; rw [HA'.out] at this; exact this)
          rw [decide_eq_false hlt] at HS
          go_big_quiet ((go_at_call 61; exact quiet_as (HS.out _ (bel_dnE B5 _)) rfl))
          go_wp2_with fail
          go_ret
          exact ⟨HB, bel_dnE B5 _⟩
    · go_wp2_with fail
      go_ret
      refine ⟨ret_bool (decide_eq_true ?_).symm, hB⟩
      rw [HR.out, hI.out, List.drop_of_length_le (by have := HN.out; omega)]
      exact ⟨trivial, fun e he => by cases he⟩
end Go.Proofs.Ytejkkhlblnepeaa
