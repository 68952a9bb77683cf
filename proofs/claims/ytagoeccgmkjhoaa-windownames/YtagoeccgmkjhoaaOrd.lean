/- Ballots, plain: the numbers of clusters, places, orders, the turned order; nothing of any program. -/
namespace Go.Proofs.Ytagoeccgmkjhoaa
namespace Bal

/-- f of n = 3 f + 1; else 0. -/
def fau (n : Int) : Int := if n = 4 then 1 else if n = 7 then 2 else if n = 10 then 3 else if n = 13 then 4 else if n = 16 then 5 else 0
def rgt (n : Int) : Bool := decide (n = 4 ∨ n = 7 ∨ n = 10 ∨ n = 13 ∨ n = 16)
def quo (n : Int) : Int := if rgt n = true then 2 * fau n + 1 else 0
def wea (n : Int) : Int := if rgt n = true then fau n + 1 else 0
theorem rgt_iff {n : Int} : rgt n = true ↔ (n = 4 ∨ n = 7 ∨ n = 10 ∨ n = 13 ∨ n = 16) := by simp [rgt]
theorem rgt_no {n : Int} (h : ¬ rgt n = true) : rgt n = false := by simpa using h
theorem fau_pos {n : Int} : 0 < fau n ↔ rgt n = true := by
  rw [rgt_iff]
  unfold fau
  constructor
  · intro h
    repeat' split at h
    all_goals omega
  · intro h
    rcases h with rfl | rfl | rfl | rfl | rfl <;> decide
theorem fau_no {n : Int} (h : ¬ rgt n = true) : fau n = 0 := by
  rw [rgt_iff] at h
  unfold fau
  repeat' split
  all_goals omega
theorem fau_three {n : Int} (h : rgt n = true) : n = 3 * fau n + 1 := by
  rw [rgt_iff] at h
  rcases h with rfl | rfl | rfl | rfl | rfl <;> decide
theorem fau_five {n : Int} : 0 ≤ fau n ∧ fau n ≤ 5 := by
  unfold fau
  repeat' split
  all_goals omega
theorem quo_yes {n : Int} (h : rgt n = true) : quo n = 2 * fau n + 1 := by rw [quo, if_pos h]
theorem quo_no {n : Int} (h : ¬ rgt n = true) : quo n = 0 := by rw [quo, if_neg h]
theorem wea_yes {n : Int} (h : rgt n = true) : wea n = fau n + 1 := by rw [wea, if_pos h]
theorem wea_no {n : Int} (h : ¬ rgt n = true) : wea n = 0 := by rw [wea, if_neg h]
theorem rgt_le {n : Int} (h : rgt n = true) : 4 ≤ n ∧ n ≤ 16 := by
  rw [rgt_iff] at h
  omega
theorem fau_ge {n : Int} (h : rgt n = true) : 1 ≤ fau n := by
  have := fau_pos.2 h
  omega

/-- Which of two pairs is lower. -/
def cm (x y : Int) : Int := if x < y then -1 else if y < x then 1 else 0
def cmp2 (a b c d : Int) : Int := if a = c then cm b d else cm a c
theorem cm_neg (x y : Int) : cm y x = - cm x y := by
  unfold cm
  repeat' split
  all_goals omega
theorem cm_bd (x y : Int) : -1 ≤ cm x y ∧ cm x y ≤ 1 := by
  unfold cm
  repeat' split
  all_goals omega
theorem cm_zero (x y : Int) : cm x y = 0 ↔ x = y := by
  unfold cm
  repeat' split
  all_goals omega
theorem cmp2_neg (a b c d : Int) : cmp2 c d a b = - cmp2 a b c d := by
  unfold cmp2
  by_cases h : a = c
  · rw [if_pos h, if_pos h.symm]; exact cm_neg _ _
  · rw [if_neg h, if_neg (fun e => h e.symm)]; exact cm_neg _ _
theorem cmp2_bd (a b c d : Int) : -1 ≤ cmp2 a b c d ∧ cmp2 a b c d ≤ 1 := by
  unfold cmp2
  split <;> exact cm_bd _ _
theorem cmp2_zero (a b c d : Int) : cmp2 a b c d = 0 ↔ a = c ∧ b = d := by
  unfold cmp2
  split
  · rename_i h; rw [cm_zero]; simp [h]
  · rename_i h; rw [cm_zero]; simp [h]
theorem cmp2_self (a b : Int) : cmp2 a b a b = 0 := (cmp2_zero a b a b).2 ⟨rfl, rfl⟩
theorem cmp2_trans (a b c d e f : Int) (h1 : cmp2 a b c d ≤ 0) (h2 : cmp2 c d e f ≤ 0) : cmp2 a b e f ≤ 0 ∧ (cmp2 a b e f = 0 ↔ cmp2 a b c d = 0 ∧ cmp2 c d e f = 0) := by
  unfold cmp2 cm at *
  repeat' split at h1
  all_goals repeat' split at h2
  all_goals repeat' split
  all_goals omega

/-- View modulo n. -/
def hed (v n : Int) : Int := if rgt n = true ∧ 0 ≤ v then v % n else -1
theorem hed_yes {v n : Int} (h : rgt n = true) (h0 : 0 ≤ v) : hed v n = v % n := by rw [hed, if_pos ⟨h, h0⟩]
theorem hed_no {v n : Int} (h : ¬ (rgt n = true ∧ 0 ≤ v)) : hed v n = -1 := by rw [hed, if_neg h]
theorem hed_bd {v n : Int} (h : rgt n = true) : 0 ≤ v % n ∧ v % n < n := by
  have := rgt_le h
  exact ⟨Int.emod_nonneg _ (by omega), Int.emod_lt_of_pos _ (by omega)⟩

/-- The first place of r. -/
def plc : List Int → Int → Int
  | [], _ => -1
  | x :: l, r => if x = r then 0 else if plc l r = -1 then -1 else plc l r + 1
theorem plc_lo (l : List Int) (r : Int) : -1 ≤ plc l r := by
  induction l with
  | nil => simp [plc]
  | cons x l ih => unfold plc; repeat' split
                   all_goals omega
theorem plc_none {l : List Int} {r : Int} : plc l r = -1 ↔ r ∉ l := by
  induction l with
  | nil => simp [plc]
  | cons x l ih =>
    unfold plc
    have := plc_lo l r
    by_cases h : x = r
    · simp [h]
    · by_cases h2 : plc l r = -1
      · rw [if_neg h, if_pos h2]
        have := ih.1 h2
        simp only [List.mem_cons, not_or, true_iff]
        exact ⟨fun e => h e.symm, this⟩
      · rw [if_neg h, if_neg h2]
        constructor
        · intro e; omega
        · intro e
          exact absurd (ih.2 (fun hm => e (by simp [hm]))) h2
/-- The first place is where it is told by a walk: none ahead of k is r, the k-th is. -/
theorem plc_hit {l : List Int} {r : Int} {k : Nat} (hk : l[k]? = some r) (hn : r ∉ l.take k) : plc l r = k := by
  induction l generalizing k with
  | nil => simp at hk
  | cons x l ih =>
    cases k with
    | zero => simp at hk; subst hk; simp [plc]
    | succ k =>
      simp at hk hn
      have e := ih hk hn.2
      unfold plc
      rw [if_neg (fun e => hn.1 e.symm), if_neg (by omega), e]
      omega
theorem plc_get {l : List Int} {r : Int} (h : plc l r ≠ -1) : ∃ k : Nat, plc l r = k ∧ l[k]? = some r ∧ r ∉ l.take k := by
  induction l with
  | nil => simp [plc] at h
  | cons x l ih =>
    by_cases hx : x = r
    · exact ⟨0, by simp [plc, hx], by simp [hx], by simp⟩
    · have h2 : plc l r ≠ -1 := fun e => h (by unfold plc; rw [if_neg hx, if_pos e])
      obtain ⟨k, h3, h4, h5⟩ := ih h2
      refine ⟨k + 1, ?_, by simpa using h4, ?_⟩
      · unfold plc; rw [if_neg hx, if_neg h2, h3]; omega
      · simp only [List.take_succ_cons, List.mem_cons, not_or]
        exact ⟨fun e => hx e.symm, h5⟩

/-- 0, 1, .. n - 1. -/
def rng (n : Nat) : List Int := (List.range n).map Int.ofNat
theorem rng_len (n : Nat) : (rng n).length = n := by simp [rng]
theorem mem_rng {n : Nat} {r : Int} : r ∈ rng n ↔ 0 ≤ r ∧ r < n := by
  simp only [rng, List.mem_map, List.mem_range]
  constructor
  · rintro ⟨k, hk, rfl⟩; simp; omega
  · intro h; exact ⟨r.toNat, by omega, by simp; omega⟩
theorem rng_nodup (n : Nat) : (rng n).Nodup := by
  unfold rng
  rw [List.Nodup, List.pairwise_map]
  exact List.nodup_range.imp fun h e => h (Int.ofNat.inj e)

theorem perm_of_sub : ∀ (s l : List Int), s.Nodup → (∀ x ∈ s, x ∈ l) → l.length ≤ s.length → l.Perm s
  | [], l, _, _, h => by
    have : l = [] := List.eq_nil_of_length_eq_zero (by simpa using h)
    subst this; exact List.Perm.refl _
  | x :: s, l, hn, hs, h => by
    have hx : x ∈ l := hs x (by simp)
    have hp := List.perm_cons_erase hx
    rw [List.nodup_cons] at hn
    refine hp.trans (List.Perm.cons x (perm_of_sub s (l.erase x) hn.2 (fun y hy => ?_) ?_))
    · have hy' : y ≠ x := fun e => hn.1 (e ▸ hy)
      exact (List.mem_erase_of_ne hy').2 (hs y (by simp [hy]))
    · rw [List.length_erase_of_mem hx]
      simp at h
      omega
theorem len_of_sub : ∀ (s l : List Int), s.Nodup → (∀ x ∈ s, x ∈ l) → s.length ≤ l.length
  | [], l, _, _ => by simp
  | x :: s, l, hn, hs => by
    have hx : x ∈ l := hs x (by simp)
    rw [List.nodup_cons] at hn
    have := len_of_sub s (l.erase x) hn.2 (fun y hy => by
      have hy' : y ≠ x := fun e => hn.1 (e ▸ hy)
      exact (List.mem_erase_of_ne hy').2 (hs y (by simp [hy])))
    rw [List.length_erase_of_mem hx] at this
    have hl : 0 < l.length := List.length_pos_of_mem hx
    simp
    omega

/-- An order of n. -/
def isO (l : List Int) (n : Int) : Bool := decide (rgt n = true ∧ (l.length : Int) = n ∧ ∀ r ∈ rng n.toNat, r ∈ l)
theorem isO_iff {l : List Int} {n : Int} : isO l n = true ↔ rgt n = true ∧ (l.length : Int) = n ∧ ∀ r ∈ rng n.toNat, r ∈ l := by simp [isO]
theorem isO_perm {l : List Int} {n : Int} (h : isO l n = true) : l.Perm (rng n.toNat) := by
  rw [isO_iff] at h
  exact perm_of_sub _ _ (rng_nodup _) h.2.2 (by rw [rng_len]; omega)
theorem isO_nodup {l : List Int} {n : Int} (h : isO l n = true) : l.Nodup := (isO_perm h).nodup_iff.2 (rng_nodup _)
theorem isO_of_perm {l m : List Int} {n : Int} (h : isO l n = true) (hp : m.Perm l) : isO m n = true := by
  rw [isO_iff] at h ⊢
  exact ⟨h.1, by rw [hp.length_eq]; exact h.2.1, fun r hr => hp.mem_iff.2 (h.2.2 r hr)⟩
theorem isO_count {l : List Int} {n : Int} (h : isO l n = true) {r : Int} (h0 : 0 ≤ r) (h1 : r < n) : l.count r = 1 := by
  have hm := (isO_iff.1 h).2.2 r (mem_rng.2 ⟨h0, by omega⟩)
  have h2 := List.nodup_iff_count.1 (isO_nodup h) r
  have h3 := List.count_pos_iff.2 hm
  omega
theorem isO_no {l : List Int} {n : Int} {r : Int} (h0 : 0 ≤ r) (h1 : r < n) (h : r ∉ l) : isO l n = false := by
  rw [← Bool.not_eq_true, isO_iff]
  rintro ⟨_, _, h2⟩
  exact h (h2 r (mem_rng.2 ⟨h0, by omega⟩))

end Bal
end Go.Proofs.Ytagoeccgmkjhoaa
