/- Names with values, plain: texts in order, entries in order, what an operation does; nothing of any program. -/
import Derived.Test.YtagoeccgmkjhoaaOct
set_option linter.unusedVariables false
set_option linter.unusedSimpArgs false
namespace Go.Proofs.Ytagoeccgmkjhoaa
namespace Kvl

abbrev PEnt := List Int × List Int
abbrev POp := Int × List Int × List Int × List Int × Int

/-- Texts by their bytes: -1, 0, 1. -/
def cmpL : List Int → List Int → Int
  | [], [] => 0
  | [], _ :: _ => -1
  | _ :: _, [] => 1
  | a :: as0, b :: bs => if a < b then -1 else if b < a then 1 else cmpL as0 bs

theorem cmp_rng : ∀ a b : List Int, cmpL a b = -1 ∨ cmpL a b = 0 ∨ cmpL a b = 1
  | [], [] => by simp [cmpL]
  | [], _ :: _ => by simp [cmpL]
  | _ :: _, [] => by simp [cmpL]
  | a :: as0, b :: bs => by
    unfold cmpL
    split
    · simp
    · split
      · simp
      · exact cmp_rng as0 bs
theorem cmp_self : ∀ a : List Int, cmpL a a = 0
  | [] => rfl
  | a :: as0 => by simp [cmpL, cmp_self as0]
theorem cmp_eq : ∀ {a b : List Int}, cmpL a b = 0 → a = b
  | [], [], _ => rfl
  | [], _ :: _, h => by simp [cmpL] at h
  | _ :: _, [], h => by simp [cmpL] at h
  | a :: as0, b :: bs, h => by
    unfold cmpL at h
    split at h
    · simp at h
    · split at h
      · simp at h
      · rw [cmp_eq h, show a = b by omega]
theorem cmp_zero {a b : List Int} : cmpL a b = 0 ↔ a = b := ⟨cmp_eq, fun h => by rw [h, cmp_self]⟩
theorem cmp_neg : ∀ a b : List Int, cmpL b a = - cmpL a b
  | [], [] => by simp [cmpL]
  | [], _ :: _ => by simp [cmpL]
  | _ :: _, [] => by simp [cmpL]
  | a :: as0, b :: bs => by
    have ih := cmp_neg as0 bs
    unfold cmpL
    by_cases h1 : a < b
    · rw [if_pos h1, if_neg (by omega), if_pos h1]; rfl
    · by_cases h2 : b < a
      · rw [if_pos h2, if_neg h1, if_pos h2]
      · rw [if_neg h1, if_neg h2, if_neg h1, if_neg h2]; exact ih
theorem cmp_trans : ∀ {a b c : List Int}, cmpL a b < 0 → cmpL b c < 0 → cmpL a c < 0
  | [], [], _, h, _ => by simp [cmpL] at h
  | [], _ :: _, [], _, h => by simp [cmpL] at h
  | [], _ :: _, _ :: _, _, _ => by simp [cmpL]
  | _ :: _, [], _, h, _ => by simp [cmpL] at h
  | _ :: _, _ :: _, [], _, h => by simp [cmpL] at h
  | a :: as0, b :: bs, c :: cs, h1, h2 => by
    unfold cmpL at h1 h2 ⊢
    by_cases x1 : a < b
    · by_cases x2 : b < c
      · rw [if_pos (by omega)]; decide
      · by_cases x3 : c < b
        · rw [if_neg x2, if_pos x3] at h2; simp at h2
        · rw [if_pos (by omega)]; decide
    · by_cases x4 : b < a
      · rw [if_neg x1, if_pos x4] at h1; simp at h1
      · rw [if_neg x1, if_neg x4] at h1
        by_cases x2 : b < c
        · rw [if_pos (by omega)]; decide
        · by_cases x3 : c < b
          · rw [if_neg x2, if_pos x3] at h2; simp at h2
          · rw [if_neg x2, if_neg x3] at h2
            rw [if_neg (by omega), if_neg (by omega)]
            exact cmp_trans h1 h2
theorem cmp_lt_ne {a b : List Int} (h : cmpL a b < 0) : a ≠ b := fun e => by rw [e, cmp_self] at h; omega
theorem cmp_gt {a b : List Int} (h : ¬ cmpL a b < 0) (hn : a ≠ b) : cmpL b a < 0 := by
  have h1 := cmp_neg a b
  have h2 : cmpL a b ≠ 0 := fun e => hn (cmp_eq e)
  omega
theorem cmp_le_trans {a b c : List Int} (h1 : cmpL a b < 0) (h2 : ¬ cmpL c b < 0) : cmpL a c < 0 := by
  by_cases e : c = b
  · rw [e]; exact h1
  · exact cmp_trans h1 (cmp_gt h2 e)

/-! Entries. -/
def rgt1 (e : PEnt) : Prop := 1 ≤ e.1.length ∧ e.1.length ≤ 16 ∧ e.2.length ≤ 64
instance (e : PEnt) : Decidable (rgt1 e) := by unfold rgt1; infer_instance
/-- Each Name above the one ahead of it. -/
def up : List Int → List PEnt → Prop
  | _, [] => True
  | n, x :: r => cmpL n x.1 < 0 ∧ up x.1 r
instance upDec : (n : List Int) → (l : List PEnt) → Decidable (up n l)
  | _, [] => isTrue trivial
  | n, x :: r => @instDecidableAnd _ _ _ (upDec x.1 r)
def rgtL (l : List PEnt) : Prop := l.length ≤ 64 ∧ up [] l ∧ ∀ e ∈ l, rgt1 e
instance (l : List PEnt) : Decidable (rgtL l) := by unfold rgtL; infer_instance

theorem up_low : ∀ {l : List PEnt} {n : List Int}, up n l → ∀ e ∈ l, cmpL n e.1 < 0
  | [], _, _, e, h => by cases h
  | x :: r, n, h, e, he => by
    rcases List.mem_cons.1 he with rfl | he
    · exact h.1
    · exact cmp_trans h.1 (up_low h.2 e he)
theorem up_of : ∀ {l : List PEnt} {m n : List Int}, up m l → (∀ e ∈ l, cmpL n e.1 < 0) → up n l
  | [], _, _, _, _ => trivial
  | x :: r, m, n, h, hn => ⟨hn x (by simp), h.2⟩
theorem up_mono {l : List PEnt} {m n : List Int} (h : up m l) (hn : cmpL n m < 0) : up n l := up_of h fun e he => cmp_trans hn (up_low h e he)

def getR (n : List Int) : List PEnt → Option (List Int)
  | [] => none
  | x :: r => if cmpL x.1 n < 0 then getR n r else if x.1 = n then some x.2 else none
def putR (n v : List Int) : List PEnt → List PEnt
  | [] => [(n, v)]
  | x :: r => if cmpL x.1 n < 0 then x :: putR n v r else if x.1 = n then (n, v) :: r else (n, v) :: x :: r
def delR (n : List Int) : List PEnt → List PEnt
  | [] => []
  | x :: r => if cmpL x.1 n < 0 then x :: delR n r else if x.1 = n then r else x :: r

theorem get_none {n m : List Int} : ∀ {l : List PEnt}, up m l → ¬ cmpL m n < 0 → getR n l = none
  | [], _, _ => rfl
  | x :: r, h, hn => by
    have h1 : cmpL n x.1 < 0 := by
      by_cases e : m = n
      · rw [← e]; exact h.1
      · exact cmp_trans (cmp_gt hn e) h.1
    have h2 := cmp_neg n x.1
    unfold getR
    rw [if_neg (by omega), if_neg (fun e => cmp_lt_ne h1 e.symm)]
theorem put_up {n v : List Int} : ∀ {l : List PEnt} {m : List Int}, up m l → cmpL m n < 0 → up m (putR n v l)
  | [], _, _, hn => ⟨hn, trivial⟩
  | x :: r, m, h, hn => by
    unfold putR
    by_cases h1 : cmpL x.1 n < 0
    · rw [if_pos h1]; exact ⟨h.1, put_up h.2 h1⟩
    · by_cases h2 : x.1 = n
      · rw [if_neg h1, if_pos h2]; exact ⟨hn, h2 ▸ h.2⟩
      · rw [if_neg h1, if_neg h2]; exact ⟨hn, cmp_gt h1 h2, h.2⟩
theorem del_up {n : List Int} : ∀ {l : List PEnt} {m : List Int}, up m l → up m (delR n l)
  | [], _, _ => trivial
  | x :: r, m, h => by
    unfold delR
    by_cases h1 : cmpL x.1 n < 0
    · rw [if_pos h1]; exact ⟨h.1, del_up h.2⟩
    · by_cases h2 : x.1 = n
      · rw [if_neg h1, if_pos h2]; exact up_mono h.2 h.1
      · rw [if_neg h1, if_neg h2]; exact h
theorem put_mem {n v : List Int} : ∀ {l : List PEnt}, ∀ e ∈ putR n v l, e = (n, v) ∨ e ∈ l
  | [], e, h => by unfold putR at h; exact .inl (by simpa using h)
  | x :: r, e, h => by
    unfold putR at h
    split at h
    · rcases List.mem_cons.1 h with rfl | h
      · exact .inr (by simp)
      · rcases put_mem e h with h | h
        · exact .inl h
        · exact .inr (by simp [h])
    · split at h
      · rcases List.mem_cons.1 h with rfl | h
        · exact .inl rfl
        · exact .inr (by simp [h])
      · rcases List.mem_cons.1 h with rfl | h
        · exact .inl rfl
        · exact .inr h
theorem del_mem {n : List Int} : ∀ {l : List PEnt}, ∀ e ∈ delR n l, e ∈ l
  | [], e, h => by cases h
  | x :: r, e, h => by
    unfold delR at h
    split at h
    · rcases List.mem_cons.1 h with rfl | h
      · simp
      · simp [del_mem e h]
    · split at h
      · simp [h]
      · exact h
theorem put_len {n v : List Int} : ∀ {l : List PEnt}, (putR n v l).length = if getR n l = none then l.length + 1 else l.length
  | [] => rfl
  | x :: r => by
    have ih := put_len (n := n) (v := v) (l := r)
    unfold putR getR
    by_cases h1 : cmpL x.1 n < 0
    · rw [if_pos h1, if_pos h1, List.length_cons, ih, List.length_cons]; split <;> rfl
    · by_cases h2 : x.1 = n
      · rw [if_neg h1, if_pos h2, if_neg h1, if_pos h2]; simp
      · rw [if_neg h1, if_neg h2, if_neg h1, if_neg h2]; simp
theorem del_len {n : List Int} : ∀ {l : List PEnt}, (delR n l).length ≤ l.length
  | [] => Nat.le_refl _
  | x :: r => by
    have ih := del_len (n := n) (l := r)
    unfold delR
    split
    · simpa using ih
    · split <;> simp
theorem get_put {n v k : List Int} : ∀ {l : List PEnt} {m : List Int}, up m l → getR k (putR n v l) = if k = n then some v else getR k l
  | [], _, _ => by
    by_cases h : k = n
    · subst h; simp [putR, getR, cmp_self]
    · rw [if_neg h]
      unfold putR getR getR
      split
      · rfl
      · rw [if_neg (fun e => h e.symm)]
  | x :: r, m, h => by
    have ih := get_put (n := n) (v := v) (k := k) h.2
    unfold putR
    by_cases h1 : cmpL x.1 n < 0
    · rw [if_pos h1]
      unfold getR
      by_cases h3 : cmpL x.1 k < 0
      · rw [if_pos h3, if_pos h3, ih]
      · rw [if_neg h3, if_neg h3]
        by_cases h4 : k = n
        · subst h4; exact absurd h1 h3
        · rw [if_neg h4]
    · by_cases h2 : x.1 = n
      · rw [if_neg h1, if_pos h2]
        subst h2
        unfold getR
        by_cases h4 : k = x.1
        · subst h4; simp [cmp_self]
        · simp only [if_neg (fun e => h4 e.symm : ¬ x.1 = k), if_neg h4]
      · rw [if_neg h1, if_neg h2]
        by_cases h4 : k = n
        · subst h4; rw [if_pos rfl, getR]; simp [cmp_self]
        · rw [if_neg h4]
          show (if cmpL n k < 0 then getR k (x :: r) else if n = k then some v else none) = _
          by_cases h5 : cmpL n k < 0
          · rw [if_pos h5]
          · rw [if_neg h5, if_neg (fun e => h4 e.symm)]
            have h6 := cmp_gt h5 (fun e => h4 e.symm)
            have h7 := cmp_trans h6 (cmp_gt h1 h2)
            exact (get_none (m := k) (l := x :: r) ⟨h7, h.2⟩ (by rw [cmp_self]; omega)).symm
theorem get_del {n k : List Int} : ∀ {l : List PEnt} {m : List Int}, up m l → getR k (delR n l) = if k = n then none else getR k l
  | [], _, _ => by simp [delR, getR]
  | x :: r, m, h => by
    have ih := get_del (n := n) (k := k) h.2
    unfold delR
    by_cases h1 : cmpL x.1 n < 0
    · rw [if_pos h1]
      unfold getR
      by_cases h3 : cmpL x.1 k < 0
      · rw [if_pos h3, if_pos h3, ih]
      · rw [if_neg h3, if_neg h3]
        by_cases h4 : k = n
        · subst h4; exact absurd h1 h3
        · rw [if_neg h4]
    · by_cases h2 : x.1 = n
      · rw [if_neg h1, if_pos h2]
        subst h2
        by_cases h4 : k = x.1
        · subst h4
          rw [if_pos rfl]
          exact get_none h.2 (by rw [cmp_self]; omega)
        · rw [if_neg h4]
          unfold getR
          by_cases h5 : cmpL x.1 k < 0
          · rw [if_pos h5]; cases r <;> rfl
          · rw [if_neg h5, if_neg (fun e => h4 e.symm)]
            have := get_none (n := k) h.2 h5
            unfold getR at this
            exact this
      · rw [if_neg h1, if_neg h2]
        by_cases h4 : k = n
        · subst h4
          rw [if_pos rfl, getR, if_neg h1, if_neg h2]
        · rw [if_neg h4]
/-- What is got says all. -/
theorem get_ext : ∀ {a b : List PEnt} {m : List Int}, up m a → up m b → (∀ k, getR k a = getR k b) → a = b
  | [], [], _, _, _, _ => rfl
  | [], y :: b, _, _, hb, h => by
    have := h y.1
    simp [getR, cmp_self] at this
  | x :: a, [], _, ha, _, h => by
    have := h x.1
    simp [getR, cmp_self] at this
  | x :: a, y :: b, m, ha, hb, h => by
    have hx := h x.1
    have hy := h y.1
    have e : x.1 = y.1 := by
      simp only [getR, cmp_self] at hx hy
      by_cases h1 : cmpL x.1 y.1 < 0
      · have h2 := cmp_neg x.1 y.1
        simp [show ¬ cmpL y.1 x.1 < 0 by omega] at hx
        exact hx.1.symm
      · by_cases h3 : x.1 = y.1
        · exact h3
        · rw [if_neg h1, if_neg h3] at hy
          simp at hy
    have e2 : x.2 = y.2 := by
      simp only [getR, cmp_self, e] at hx
      simpa using hx
    have er : a = b := by
      refine get_ext ha.2 (e ▸ hb.2) fun k => ?_
      have hk := h k
      unfold getR at hk
      rw [e] at hk
      by_cases h1 : cmpL y.1 k < 0
      · rw [if_pos h1, if_pos h1] at hk; exact hk
      · rw [get_none (m := x.1) ha.2 (e ▸ h1), get_none hb.2 h1]
    rw [er, Prod.ext_iff.2 ⟨e, e2⟩]

/-! Operations. -/
def mA (k : Int) : Nat := if k = 2 ∨ k = 3 then 64 else 0
def mB (k : Int) : Nat := if k = 3 then 64 else 0
def lN (k : Int) : Int := if k = 5 ∨ k = 6 then 1 else 0
def mN (k : Int) : Int := if k = 5 ∨ k = 6 then 1000 else 0
/-- Can it be written? -/
def wok (o : POp) : Prop := (1 ≤ o.1 ∧ o.1 ≤ 8) ∧ (1 ≤ o.2.1.length ∧ o.2.1.length ≤ 16) ∧ o.2.2.1.length ≤ mA o.1 ∧ o.2.2.2.1.length ≤ mB o.1 ∧ lN o.1 ≤ o.2.2.2.2 ∧ o.2.2.2.2 ≤ mN o.1
instance (o : POp) : Decidable (wok o) := by unfold wok; infer_instance
def doR (l : List PEnt) (o : POp) : List PEnt × Int × List Int :=
  match getR o.2.1 l with
  | none => if o.1 = 2 then (if 64 ≤ l.length then (l, 3, []) else (putR o.2.1 o.2.2.1 l, 0, [])) else (l, 1, [])
  | some v => if o.1 = 1 then (l, 0, v) else if o.1 = 2 then (putR o.2.1 o.2.2.1 l, 0, []) else if o.1 = 3 then (if v = o.2.2.1 then (putR o.2.1 o.2.2.2.1 l, 0, []) else (l, 2, v)) else (delR o.2.1 l, 0, [])
def doL (l : List PEnt) (o : POp) : List PEnt × Int × List Int := if rgtL l ∧ wok o ∧ o.1 ≤ 4 then doR l o else (l, 5, [])
theorem do_bad {l : List PEnt} {o : POp} (h : ¬ (rgtL l ∧ wok o ∧ o.1 ≤ 4)) : doL l o = (l, 5, []) := if_neg h
theorem do_yes {l : List PEnt} {o : POp} (h1 : rgtL l) (h2 : wok o) (h3 : o.1 ≤ 4) : doL l o = doR l o := if_pos ⟨h1, h2, h3⟩

theorem empty_low {n : List Int} (h : 1 ≤ n.length) : cmpL [] n < 0 := by
  cases n with
  | nil => simp at h
  | cons a b => simp [cmpL]
theorem put_rgt {l : List PEnt} {n v : List Int} (h : rgtL l) (hn1 : 1 ≤ n.length) (hn2 : n.length ≤ 16) (hv : v.length ≤ 64) (hl : l.length < 64 ∨ getR n l ≠ none) : rgtL (putR n v l) := by
  obtain ⟨h1, h2, h3⟩ := h
  refine ⟨?_, put_up h2 (empty_low hn1), fun e he => ?_⟩
  · rw [put_len]
    split
    · rename_i h; rcases hl with hl | hl
      · omega
      · exact absurd h hl
    · exact h1
  · rcases put_mem e he with rfl | he
    · exact ⟨hn1, hn2, hv⟩
    · exact h3 e he
theorem del_rgt {l : List PEnt} {n : List Int} (h : rgtL l) : rgtL (delR n l) :=
  ⟨Nat.le_trans del_len h.1, del_up h.2.1, fun e he => h.2.2 e (del_mem e he)⟩
theorem mA_le (k : Int) : mA k ≤ 64 := by unfold mA; split <;> omega
theorem mB_le (k : Int) : mB k ≤ 64 := by unfold mB; split <;> omega

theorem doR_rgt {l : List PEnt} {o : POp} (h : rgtL l) (hw : wok o) : rgtL (doR l o).1 := by
  obtain ⟨_, ⟨n1, n2⟩, ha, hb, _⟩ := hw
  have ha := Nat.le_trans ha (mA_le _)
  have hb := Nat.le_trans hb (mB_le _)
  unfold doR
  cases hg : getR o.2.1 l with
  | none =>
    simp only
    split
    · split
      · exact h
      · exact put_rgt h n1 n2 ha (.inl (by omega))
    · exact h
  | some v =>
    have hs : getR o.2.1 l ≠ none := by rw [hg]; simp
    simp only
    split
    · exact h
    · split
      · exact put_rgt h n1 n2 ha (.inr hs)
      · split
        · split
          · exact put_rgt h n1 n2 hb (.inr hs)
          · exact h
        · exact del_rgt h
theorem doL_rgt {l : List PEnt} {o : POp} (h : rgtL l) : rgtL (doL l o).1 := by
  unfold doL
  split
  · rename_i hc; exact doR_rgt h hc.2.1
  · exact h
/-- No other name is touched. -/
theorem doR_other {l : List PEnt} {o : POp} {k : List Int} (h : rgtL l) (hk : k ≠ o.2.1) : getR k (doR l o).1 = getR k l := by
  unfold doR
  cases hg : getR o.2.1 l with
  | none =>
    simp only
    split
    · split
      · rfl
      · rw [get_put h.2.1, if_neg hk]
    · rfl
  | some v =>
    simp only
    split
    · rfl
    · split
      · rw [get_put h.2.1, if_neg hk]
      · split
        · split
          · rw [get_put h.2.1, if_neg hk]
          · rfl
        · rw [get_del h.2.1, if_neg hk]
theorem doL_other {l : List PEnt} {o : POp} {k : List Int} (h : rgtL l) (hk : k ≠ o.2.1) : getR k (doL l o).1 = getR k l := by
  unfold doL
  split
  · exact doR_other h hk
  · rfl
end Kvl
end Go.Proofs.Ytagoeccgmkjhoaa
