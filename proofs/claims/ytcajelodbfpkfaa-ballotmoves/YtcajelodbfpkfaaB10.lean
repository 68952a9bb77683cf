/- catenaryref04.Shift. -/
import Derived.Test.YtcajelodbfpkfaaBAlive
namespace Go.Proofs.Ytcajelodbfpkfaa
open Go.RowKit Oct Bal

set_option maxHeartbeats 400000 in
theorem refShift_not (w : World) (v : Value) (o : List Int) (a b : Int) (hrd : Rdi w v o) (h : ¬ can o a b = true) :
    Calls Try.prog 30 #[v, .int .i64 a, .int .i64 b] w fun e w' => e = .returned (.tuple #[.slice none 0 0, .int .i64 41]) ∧ w' = w := by
  have HO := (show Hid (∀ n, _) from fun n => refOrder_any w v o n hrd)
  have HP := (show Hid (∀ r, _) from fun r => refPlace_any w v o r hrd)
  obtain ⟨ao, cap, rfl, hc⟩ := hrd.form
  clear hrd
  by_cases ho : isO o o.length = true
  · have h' : ¬ (plc o a ≠ -1 ∧ plc o b = plc o a + 1 ∧ plc o b < quo o.length) := fun e => h (can_iff.2 ⟨ho, e⟩)
    have hlo := plc_lo o a
    have hhi : plc o a < o.length := by
      by_cases e : plc o a = -1
      · omega
      · obtain ⟨k, e1, e2, _⟩ := plc_get e
        have : k < o.length := by
          rcases Nat.lt_or_ge k o.length with h | h
          · exact h
          · rw [List.getElem?_eq_none h] at e2; cases e2
        omega
    have hn := rgt_le (isO_iff.1 ho).1
    have HH := (show Hid (¬ (plc o a ≠ -1 ∧ plc o b = plc o a + 1 ∧ plc o b < quo o.length)) from h')
    clear h h'
    by_cases h1 : plc o a = -1
    · go_enter Try.func30, Try.ntmps30
      go_wp2_with (first | (go_at_call 26; refine (HO.out _).mono ?_; rintro e w ⟨rfl, rfl⟩) | (go_at_call 28; refine (HP.out _).mono ?_; rintro e w ⟨rfl, rfl⟩))
      go_ret2
      exact ⟨rfl, rfl⟩
    have h1b : ¬ (plc o a < 0) := by omega
    by_cases h2 : plc o b = plc o a + 1
    · have h2b : (plc o b != plc o a + 1) = false := by simpa using h2
      have h3 : quo o.length ≤ plc o b := by
        have := HH.out
        rcases Int.lt_or_le (plc o b) (quo o.length) with h | h
        · exact absurd ⟨h1, h2, h⟩ this
        · exact h
      clear h1 h2
      go_enter Try.func30, Try.ntmps30
      go_wp2_with (first | (go_at_call 26; refine (HO.out _).mono ?_; rintro e w ⟨rfl, rfl⟩) | (go_at_call 28; refine (HP.out _).mono ?_; rintro e w ⟨rfl, rfl⟩) | (go_at_call 15; refine (refQuorum_any _ _).mono ?_; rintro e w ⟨rfl, rfl⟩))
      go_ret2
      exact ⟨rfl, rfl⟩
    · have h2b : (plc o b != plc o a + 1) = true := by simpa using h2
      clear h1 h2
      go_enter Try.func30, Try.ntmps30
      go_wp2_with (first | (go_at_call 26; refine (HO.out _).mono ?_; rintro e w ⟨rfl, rfl⟩) | (go_at_call 28; refine (HP.out _).mono ?_; rintro e w ⟨rfl, rfl⟩))
      go_ret2
      exact ⟨rfl, rfl⟩
  · rw [Bool.not_eq_true] at ho
    clear h
    go_enter Try.func30, Try.ntmps30
    go_wp2_with (go_at_call 26; refine (HO.out _).mono ?_; rintro e w ⟨rfl, rfl⟩)
    go_ret2
    exact ⟨rfl, rfl⟩

/-- The state of the document's own way, for either place of the accuser. -/
def St (p0 : Bool) (Q1 : Nat) (a : Int) (F out : List Int) : Prop := if p0 = true then out = F else Out Q1 a F out
theorem St.start (p0 : Bool) (Q1 : Nat) (a : Int) : St p0 Q1 a [] [] := by
  unfold St
  split
  · rfl
  · exact Out.start Q1 a
theorem Out.len {Q1 : Nat} {a : Int} {F out : List Int} (h : Out Q1 a F out) : out.length ≤ F.length + 1 := by
  rcases h with ⟨rfl, _, _⟩ | ⟨_, rfl⟩
  · omega
  · rw [ins_len]; omega
theorem St.len {p0 : Bool} {Q1 : Nat} {a : Int} {F out : List Int} (h : St p0 Q1 a F out) : out.length ≤ F.length + 1 := by
  unfold St at h
  split at h
  · rw [h]; omega
  · exact Out.len h
/-- Ahead of an element: is the accuser put in now? -/
def pre (p0 : Bool) (Q1 : Nat) (a : Int) (out : List Int) : List Int := if p0 = false ∧ out.length = Q1 ∧ a ∉ out then out ++ [a] else out
theorem St.pre {p0 : Bool} {Q1 : Nat} {a : Int} {F out : List Int} (h : St p0 Q1 a F out) : St p0 Q1 a F (pre p0 Q1 a out) := by
  unfold Go.Proofs.Ytcajelodbfpkfaa.pre
  split
  · rename_i hc
    unfold St at h ⊢
    rw [hc.1] at h ⊢
    simp only [Bool.false_eq_true, if_false] at h ⊢
    rcases h with ⟨rfl, h1, h2⟩ | ⟨h1, rfl⟩
    · exact Out.put hc.2.1
    · exact absurd (ins_mem _ _ _) hc.2.2
  · exact h
theorem St.more {p0 : Bool} {Q1 : Nat} {a x : Int} {F out : List Int} (h : St p0 Q1 a F out) (hx : p0 = false → x ≠ a) : St p0 Q1 a (F ++ [x]) (Go.Proofs.Ytcajelodbfpkfaa.pre p0 Q1 a out ++ [x]) := by
  have h2 := h.pre
  unfold St at h2 ⊢
  split
  · rename_i hp; rw [if_pos hp] at h2; rw [h2]
  · rename_i hp
    rw [if_neg hp] at h2
    have hp' : p0 = false := by simpa using hp
    refine h2.more (hx hp') ?_
    unfold Go.Proofs.Ytcajelodbfpkfaa.pre
    split
    · intro hh; exact hh.2 (by simp)
    · rename_i hc; intro hh; exact hc ⟨hp', hh⟩
end Go.Proofs.Ytcajelodbfpkfaa
