/- ballot.Shift. -/
import Derived.Test.YtcajelodbfpkfabB7
namespace Go.Proofs.Ytcajelodbfpkfab
open Go.RowKit Oct Bal

/-- slices.Insert of one int into a row with room. -/
theorem insert_any (w : World) (g cap i vb N : Nat) (l : List Int) (x : Int) (hown : Own w 3 (.slice (some ⟨g, 0, none⟩) N cap) (ic l)) (hN : l.length = N) (hi : i ≤ N) (hroom : N + 1 ≤ cap) (hcap : cap ≤ 1000000)
    (hne : vb ≠ g) (hv : Row w vb 3 [.int .i64 x]) :
    Calls Try.prog 16 #[.slice (some ⟨g, 0, none⟩) N cap, .int .i64 (i : Int), .slice (some ⟨vb, 0, none⟩) 1 1] w fun e w' =>
      e = .returned (.slice (some ⟨g, 0, none⟩) (N + 1) cap) ∧ Own w' 3 (.slice (some ⟨g, 0, none⟩) (N + 1) cap) (ic (ins i x l)) ∧ w.grownBy w' (some g) := by
  subst hN
  by_cases h : i < l.length
  · rcases hown.2 with ⟨hx, _⟩ | ⟨g', vc, cur, hx, _, hg, n1, n2, n3, n4⟩
    · cases hx
    · rw [ic_len] at hx
      cases hx
      refine insert_mid w g cap i vb l x cur.toList hg (by rw [Array.length_toList, n3]; omega) (by rw [ic_len, Nat.mul_one] at n4; exact n4) h hroom hcap hne hv
  · obtain rfl : i = l.length := by omega
    rw [ins_end x l rfl]
    exact insert_end w g cap l x hown hroom hcap vb hv

/-- Where a place is, as a walk tells it. -/
theorem keep_at {o : List Int} {a b x : Int} {p f k : Nat} (c : Bal.Can o a b p f) (p0 : Bool) (hx : o[k]? = some x) : keep p0 a b x = (decide (k ≠ p + 1) && (decide (k ≠ p) || p0)) := by
  have h1 := get_iff c.nod hx c.ga
  have h2 := get_iff c.nod hx c.gb
  unfold keep
  simp only [ne_eq, h1, h2]

def shE (o : List Int) (a b : Int) : Int := if can o a b = true then 0 else 41
def shL (o : List Int) (a b : Int) : List Int := if can o a b = true then trn o a b else []
theorem shE_no {o : List Int} {a b : Int} (h : ¬ can o a b = true) : shE o a b = 41 := if_neg h
theorem shL_no {o : List Int} {a b : Int} (h : ¬ can o a b = true) : shL o a b = [] := if_neg h
theorem shE_yes {o : List Int} {a b : Int} (h : can o a b = true) : shE o a b = 0 := if_pos h
theorem shL_yes {o : List Int} {a b : Int} (h : can o a b = true) : shL o a b = trn o a b := if_pos h

set_option maxHeartbeats 400000 in
theorem shift_not (w : World) (v : Value) (o : List Int) (a b : Int) (hrd : Rdi w v o) (h : ¬ can o a b = true) :
    Calls Try.prog 11 #[v, .int .i64 a, .int .i64 b] w fun e w' => e = .returned (.tuple #[.slice none 0 0, .int .i64 41]) ∧ w' = w := by
  have HO := (show Hid (∀ n, _) from fun n => order_any w v o n hrd)
  have HP := (show Hid (∀ r, _) from fun r => place_any w v o r hrd)
  obtain ⟨ao, cap, rfl, hc⟩ := hrd.form
  clear hrd
  by_cases ho : isO o o.length = true
  · have h' : ¬ (plc o a ≠ -1 ∧ plc o b = plc o a + 1 ∧ plc o b < quo o.length) := fun e => h (can_iff.2 ⟨ho, e⟩)
    have hlo := plc_lo o a
    have hhi : plc o a < o.length := by
      by_cases e : plc o a = -1
      · omega
      · obtain ⟨k, e1, e2, _⟩ := plc_get e
        have : k < o.length := by
          rcases Nat.lt_or_ge k o.length with h | h
          · exact h
          · rw [List.getElem?_eq_none h] at e2; cases e2
        omega
    have hn := rgt_le (isO_iff.1 ho).1
    have HH := (show Hid (¬ (plc o a ≠ -1 ∧ plc o b = plc o a + 1 ∧ plc o b < quo o.length)) from h')
    clear h h'
    by_cases h1 : plc o a = -1
    · go_enter Try.func11, Try.ntmps11
      go_wp2_with (first | (go_at_call 14; refine (HO.out _).mono ?_; rintro e w ⟨rfl, rfl⟩) | (go_at_call 15; refine (HP.out _).mono ?_; rintro e w ⟨rfl, rfl⟩))
      go_ret2
      exact ⟨rfl, rfl⟩
    have h1b : (plc o a == -1) = false := by simpa using h1
    by_cases h2 : plc o b = plc o a + 1
    · have h2b : (plc o b != plc o a + 1) = false := by simpa using h2
      have h3 : quo o.length ≤ plc o b := by
        have := HH.out
        rcases Int.lt_or_le (plc o b) (quo o.length) with h | h
        · exact absurd ⟨h1, h2, h⟩ this
        · exact h
      clear h1 h2
      go_enter Try.func11, Try.ntmps11
      go_wp2_with (first | (go_at_call 14; refine (HO.out _).mono ?_; rintro e w ⟨rfl, rfl⟩) | (go_at_call 15; refine (HP.out _).mono ?_; rintro e w ⟨rfl, rfl⟩) | (go_at_call 7; refine (quorum_any _ _).mono ?_; rintro e w ⟨rfl, rfl⟩))
      go_ret2
      exact ⟨rfl, rfl⟩
    · have h2b : (plc o b != plc o a + 1) = true := by simpa using h2
      clear h1 h2
      go_enter Try.func11, Try.ntmps11
      go_wp2_with (first | (go_at_call 14; refine (HO.out _).mono ?_; rintro e w ⟨rfl, rfl⟩) | (go_at_call 15; refine (HP.out _).mono ?_; rintro e w ⟨rfl, rfl⟩))
      go_ret2
      exact ⟨rfl, rfl⟩
  · rw [Bool.not_eq_true] at ho
    clear h
    go_enter Try.func11, Try.ntmps11
    go_wp2_with (go_at_call 14; refine (HO.out _).mono ?_; rintro e w ⟨rfl, rfl⟩)
    go_ret2
    exact ⟨rfl, rfl⟩
end Go.Proofs.Ytcajelodbfpkfab
