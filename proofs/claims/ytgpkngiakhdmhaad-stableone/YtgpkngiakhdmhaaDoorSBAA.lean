/- Numbers as groups of seven bits, lowest group first: the plain mathematics of it, without any program. -/

namespace Go.Proofs.YtgpkngiakhdmhaaDoor
namespace Oct
/-- The groups of a number: at most f + 1 of them. -/
def encF : Nat → Int → List Int
  | 0, n => [n]
  | f + 1, n => if 128 ≤ n then (n % 128 + 128) :: encF f (n / 128) else [n]
/-- The groups of a number below 2 to the power 63. -/
def enc (n : Int) : List Int := encF 9 n
/-- How many groups the number at the head of a list has; 0: it is cut off, or has more than f. -/
def cnt : Nat → List Int → Nat
  | 0, _ => 0
  | _ + 1, [] => 0
  | f + 1, x :: r => if x < 128 then 1 else if cnt f r = 0 then 0 else cnt f r + 1
/-- What groups stand for. -/
def val : List Int → Int
  | [] => 0
  | x :: r => x % 128 + 128 * val r
/-- The number at the head of a list, and how many bytes it takes. -/
def num (l : List Int) : Option (Int × Nat) :=
  if cnt 5 l = 0 then none
  else if 1 < cnt 5 l ∧ l.getD (cnt 5 l - 1) 0 = 0 then none
  else if 2147483647 < val (l.take (cnt 5 l)) then none
  else some (val (l.take (cnt 5 l)), cnt 5 l)
/-- Every one of them is a byte. -/
def Byt (l : List Int) : Prop := ∀ x ∈ l, 0 ≤ x ∧ x ≤ 255
theorem Byt.nil : Byt [] := fun _ h => by cases h
theorem Byt.app {a b : List Int} (ha : Byt a) (hb : Byt b) : Byt (a ++ b) := fun x hx => by
  rcases List.mem_append.1 hx with h | h
  · exact ha x h
  · exact hb x h
theorem Byt.left {a b : List Int} (h : Byt (a ++ b)) : Byt a := fun x hx => h x (List.mem_append.2 (.inl hx))
theorem Byt.right {a b : List Int} (h : Byt (a ++ b)) : Byt b := fun x hx => h x (List.mem_append.2 (.inr hx))
theorem Byt.take {a : List Int} (h : Byt a) (k : Nat) : Byt (a.take k) := fun x hx => h x (List.mem_of_mem_take hx)
theorem Byt.drop {a : List Int} (h : Byt a) (k : Nat) : Byt (a.drop k) := fun x hx => h x (List.mem_of_mem_drop hx)
theorem Byt.one {x : Int} (h0 : 0 ≤ x) (h1 : x ≤ 255) : Byt [x] := fun y hy => by simp at hy; subst hy; exact ⟨h0, h1⟩
theorem Byt.getD {l : List Int} (h : Byt l) (j : Nat) : 0 ≤ l.getD j 0 ∧ l.getD j 0 ≤ 255 := by
  rcases Nat.lt_or_ge j l.length with hj | hj
  · have := h (l.getD j 0) (by simp [List.getD, List.getElem?_eq_getElem hj])
    exact this
  · simp [List.getD, List.getElem?_eq_none hj]
theorem encF_small (f : Nat) (n : Int) (h : n < 128) : encF f n = [n] := by
  cases f with
  | zero => rfl
  | succ f => simp [encF]; omega
theorem encF_great (f : Nat) (n : Int) (h : 128 ≤ n) : encF (f + 1) n = (n % 128 + 128) :: encF f (n / 128) := by
  simp [encF]; omega
/-- One round of writing: the fuel does not matter while it is enough. -/
theorem encF_fuel : ∀ (f g : Nat) (n : Int), 0 ≤ n → n < 128 ^ (f + 1) → f ≤ g → encF g n = encF f n
  | 0, g, n, h0, h, _ => by rw [encF_small _ _ (by omega), encF_small _ _ (by omega)]
  | f + 1, 0, n, _, _, h => by omega
  | f + 1, g + 1, n, h0, h, hg => by
    by_cases hn : 128 ≤ n
    · have e : (128 : Int) ^ (f + 1 + 1) = 128 ^ (f + 1) * 128 := Int.pow_succ ..
      rw [encF_great _ _ hn, encF_great _ _ hn, encF_fuel f g (n / 128) (by omega) (by omega) (by omega)]
    · rw [encF_small _ _ (by omega), encF_small _ _ (by omega)]
theorem encF_byt : ∀ (f : Nat) (n : Int), 0 ≤ n → n < 128 ^ (f + 1) → Byt (encF f n)
  | 0, n, h0, h => by rw [encF_small _ _ (by omega)]; exact Byt.one h0 (by omega)
  | f + 1, n, h0, h => by
    by_cases hn : 128 ≤ n
    · have e : (128 : Int) ^ (f + 1 + 1) = 128 ^ (f + 1) * 128 := Int.pow_succ ..
      rw [encF_great _ _ hn]
      exact Byt.app (Byt.one (x := n % 128 + 128) (by omega) (by omega)) (encF_byt f (n / 128) (by omega) (by omega))
    · rw [encF_small _ _ (by omega)]; exact Byt.one h0 (by omega)
theorem encF_len : ∀ (f : Nat) (n : Int), 1 ≤ (encF f n).length ∧ (encF f n).length ≤ f + 1
  | 0, n => by simp [encF]
  | f + 1, n => by
    by_cases hn : 128 ≤ n
    · rw [encF_great _ _ hn]; have := encF_len f (n / 128); simp; omega
    · rw [encF_small _ _ (by omega)]; simp
theorem enc_small (n : Int) (h : n < 128) : enc n = [n] := encF_small _ _ h
theorem enc_great (n : Int) (h : 128 ≤ n) (h1 : n ≤ 9223372036854775807) : enc n = (n % 128 + 128) :: enc (n / 128) := by
  unfold enc
  rw [encF_great _ _ h, encF_fuel 8 9 (n / 128) (by omega) (by omega) (by omega)]
theorem enc_byt (n : Int) (h0 : 0 ≤ n) (h1 : n ≤ 9223372036854775807) : Byt (enc n) := encF_byt 9 n h0 (by omega)
theorem enc_len (n : Int) : 1 ≤ (enc n).length ∧ (enc n).length ≤ 10 := encF_len 9 n
/-! Reading -/
theorem cnt_le : ∀ (f : Nat) (l : List Int), cnt f l ≤ f ∧ cnt f l ≤ l.length
  | 0, l => by simp [cnt]
  | f + 1, [] => by simp [cnt]
  | f + 1, x :: r => by
    have := cnt_le f r
    simp only [cnt]
    split
    · simp
    · split <;> simp <;> omega
/-- The first i bytes say each that another one follows. -/
def More (l : List Int) (i : Nat) : Prop := ∀ j, j < i → j < l.length ∧ 128 ≤ l.getD j 0
theorem More.zero (l : List Int) : More l 0 := fun _ h => absurd h (Nat.not_lt_zero _)
theorem More.succ {l : List Int} {i : Nat} (h : More l i) (hi : i < l.length) (hg : 128 ≤ l.getD i 0) : More l (i + 1) := fun j hj => by
  rcases Nat.lt_or_ge j i with hh | hh
  · exact h j hh
  · have : j = i := by omega
    subst this; exact ⟨hi, hg⟩
theorem More.tail {x : Int} {r : List Int} {i : Nat} (h : More (x :: r) (i + 1)) : 128 ≤ x ∧ More r i :=
  ⟨by simpa using (h 0 (by omega)).2, fun j hj => by have := h (j + 1) (by omega); simpa using this⟩
theorem val_bd : ∀ (l : List Int), 0 ≤ val l ∧ val l < 128 ^ l.length
  | [] => by simp [val]
  | x :: r => by
    have := val_bd r
    simp only [val, List.length_cons]
    rw [Int.pow_succ]
    omega
/-- Groups whose last is below 128 and not a needless 0 are the number's own. -/
theorem enc_val : ∀ (f : Nat) (l : List Int) (k : Nat), Byt l → More l k → k < l.length → l.length = k + 1 → l.getD k 0 < 128 → k ≤ f → (k = 0 ∨ l.getD k 0 ≠ 0) → encF f (val l) = l
  | f, [x], 0, hb, _, _, _, hg, _, _ => by
    have := hb x (by simp)
    simp at hg
    have e : val [x] = x := by simp [val]; omega
    rw [e, encF_small _ _ hg]
  | 0, _, k + 1, _, _, _, _, _, h, _ => by omega
  | f + 1, x :: r, k + 1, hb, hm, hl, hl', hg, hf, hz => by
    obtain ⟨h1, h2⟩ := hm.tail
    have hx := hb x (by simp)
    have hbr : Byt r := fun y hy => hb y (by simp [hy])
    have hg' : r.getD k 0 < 128 := by simpa using hg
    have hz' : r.getD k 0 ≠ 0 := by simpa using hz
    have e := enc_val f r k hbr h2 (by simpa using hl) (by simpa using hl') hg' (by omega) (.inr hz')
    have hv := val_bd r
    have hpos : 1 ≤ val r := by
      rcases Int.lt_or_le 0 (val r) with h | h
      · omega
      · exfalso
        have h0 : val r = 0 := by omega
        rw [h0] at e
        rw [encF_small _ _ (by omega)] at e
        have hr : r = [0] := e.symm
        subst hr
        simp at hl'
        subst hl'
        simp at hz'
    have h2 : 128 ≤ val (x :: r) := by simp only [val]; omega
    rw [encF_great _ _ h2]
    have e1 : val (x :: r) / 128 = val r := by simp only [val]; omega
    have e2 : val (x :: r) % 128 + 128 = x := by simp only [val]; omega
    rw [e1, e2, e]
  | f, [], k, _, _, h, _, _, _, _ => by simp at h
  | f, x :: y :: r, 0, _, _, _, h, _, _, _ => by simp at h
theorem val_enc : ∀ (f : Nat) (n : Int), 0 ≤ n → n < 128 ^ (f + 1) → val (encF f n) = n
  | 0, n, h0, h => by rw [encF_small _ _ (by omega)]; simp [val]; omega
  | f + 1, n, h0, h => by
    by_cases hn : 128 ≤ n
    · have e : (128 : Int) ^ (f + 1 + 1) = 128 ^ (f + 1) * 128 := Int.pow_succ ..
      rw [encF_great _ _ hn]
      simp only [val]
      rw [val_enc f (n / 128) (by omega) (by omega)]
      omega
    · rw [encF_small _ _ (by omega)]; simp [val]; omega
/-- The groups of a number, with whatever behind: their count. -/
theorem cnt_enc : ∀ (f g : Nat) (n : Int) (r : List Int), 0 ≤ n → n < 128 ^ (f + 1) → f + 1 ≤ g → cnt g (encF f n ++ r) = (encF f n).length
  | f, 0, n, r, _, _, h => by omega
  | 0, g + 1, n, r, h0, h, _ => by
    rw [encF_small _ _ (by omega)]
    simp [cnt]; omega
  | f + 1, g + 1, n, r, h0, h, hg => by
    by_cases hn : 128 ≤ n
    · have e : (128 : Int) ^ (f + 1 + 1) = 128 ^ (f + 1) * 128 := Int.pow_succ ..
      rw [encF_great _ _ hn]
      have e2 := cnt_enc f g (n / 128) r (by omega) (by omega) (by omega)
      have h1 := (encF_len f (n / 128)).1
      simp only [List.cons_append, cnt, List.length_cons]
      rw [if_neg (by omega), e2, if_neg (by omega)]
    · rw [encF_small _ _ (by omega)]
      simp [cnt]; omega
/-- The last group of a number of more than one group is not 0. -/
theorem last_enc : ∀ (f : Nat) (n : Int), 1 ≤ n → (encF f n).getD ((encF f n).length - 1) 0 ≠ 0
  | 0, n, h => by simp [encF]; omega
  | f + 1, n, h => by
    by_cases hn : 128 ≤ n
    · rw [encF_great _ _ hn]
      have e := last_enc f (n / 128) (by omega)
      have h1 := (encF_len f (n / 128)).1
      obtain ⟨k, hk⟩ : ∃ k, (encF f (n / 128)).length = k + 1 := ⟨_, (Nat.sub_add_cancel h1).symm⟩
      rw [hk] at e
      simp only [List.length_cons, hk, Nat.add_sub_cancel, List.getD_cons_succ] at e ⊢
      exact e
    · rw [encF_small _ _ (by omega)]; simp; omega
/-- (B) A number's bytes, with whatever behind, are read as the number. -/
theorem num_enc (n : Int) (r : List Int) (h0 : 0 ≤ n) (h1 : n ≤ 2147483647) : num (enc n ++ r) = some (n, (enc n).length) := by
  have e5 : enc n = encF 4 n := encF_fuel 4 9 n h0 (by omega) (by omega)
  have hc : cnt 5 (enc n ++ r) = (enc n).length := by rw [e5]; exact cnt_enc 4 5 n r h0 (by omega) (by omega)
  have hl := enc_len n
  have hv : val ((enc n ++ r).take (enc n).length) = n := by
    rw [List.take_left, e5]; exact val_enc 4 n h0 (by omega)
  unfold num
  rw [hc, if_neg (by omega), if_neg, hv, if_neg (by omega)]
  intro h
  obtain ⟨h2, h3⟩ := h
  have hn : 1 ≤ n := by
    rcases Int.lt_or_le n 128 with h | h
    · rw [enc_small n h] at h2; simp at h2
    · omega
  have := last_enc 9 n hn
  have e3 : (enc n ++ r).getD ((enc n).length - 1) 0 = (enc n).getD ((enc n).length - 1) 0 := by
    simp only [List.getD]
    rw [List.getElem?_append_left (by omega)]
  rw [e3] at h3
  exact this h3
/-- How a list stands at its number: the groups ahead of the last say that more follows. -/
theorem cnt_more : ∀ (f : Nat) (l : List Int), cnt f l ≠ 0 → More l (cnt f l - 1) ∧ l.getD (cnt f l - 1) 0 < 128
  | 0, l, h => by simp [cnt] at h
  | f + 1, [], h => by simp [cnt] at h
  | f + 1, x :: r, h => by
    by_cases hx : x < 128
    · have e : cnt (f + 1) (x :: r) = 1 := by simp [cnt, hx]
      rw [e]
      exact ⟨More.zero _, by simpa using hx⟩
    · by_cases hr : cnt f r = 0
      · exact absurd (by simp [cnt, hr, hx]) h
      · have e : cnt (f + 1) (x :: r) = cnt f r + 1 := by simp [cnt, hr, hx]
        obtain ⟨h1, h2⟩ := cnt_more f r hr
        rw [e, Nat.add_sub_cancel]
        obtain ⟨k, hk⟩ : ∃ k, cnt f r = k + 1 := ⟨_, (Nat.sub_add_cancel (Nat.pos_of_ne_zero hr)).symm⟩
        rw [hk, Nat.add_sub_cancel] at h1 h2
        rw [hk]
        refine ⟨fun j hj => ?_, by simpa using h2⟩
        cases j with
        | zero => exact ⟨by simp, by simp; omega⟩
        | succ j => have := h1 j (by omega); simpa using this
/-- (A) What is read as a number is just the number's bytes. -/
theorem num_some {l : List Int} {n : Int} {k : Nat} (hb : Byt l) (h : num l = some (n, k)) :
    0 ≤ n ∧ n ≤ 2147483647 ∧ 1 ≤ k ∧ k ≤ 5 ∧ k ≤ l.length ∧ l.take k = enc n := by
  unfold num at h
  by_cases h0 : cnt 5 l = 0
  · rw [if_pos h0] at h; cases h
  rw [if_neg h0] at h
  by_cases h1 : 1 < cnt 5 l ∧ l.getD (cnt 5 l - 1) 0 = 0
  · rw [if_pos h1] at h; cases h
  rw [if_neg h1] at h
  by_cases h2 : 2147483647 < val (l.take (cnt 5 l))
  · rw [if_pos h2] at h; cases h
  rw [if_neg h2] at h
  simp only [Option.some.injEq, Prod.mk.injEq] at h
  obtain ⟨rfl, rfl⟩ := h
  have hc := cnt_le 5 l
  have hv := val_bd (l.take (cnt 5 l))
  refine ⟨hv.1, by omega, by omega, hc.1, hc.2, ?_⟩
  obtain ⟨m1, m2⟩ := cnt_more 5 l h0
  have hlen : (l.take (cnt 5 l)).length = cnt 5 l := by rw [List.length_take]; omega
  have hg : ∀ j, j < cnt 5 l → (l.take (cnt 5 l)).getD j 0 = l.getD j 0 := fun j hj => by
    simp [List.getD, hj]
  have e := enc_val 9 (l.take (cnt 5 l)) (cnt 5 l - 1) (hb.take _)
    (fun j hj => by rw [hg j (by omega), hlen]; exact ⟨by omega, (m1 j hj).2⟩) (by omega) (by omega)
    (by rw [hg _ (by omega)]; exact m2) (by omega)
    (by rw [hg _ (by omega)]; omega)
  exact e.symm
/-! The calls' answers -/
/-- May the number be written? -/
def okI (n : Int) : Bool := decide (0 ≤ n ∧ n ≤ 2147483647)
def errI (n : Int) : Int := if okI n = true then 0 else 14
def outI (n : Int) : List Int := if okI n = true then enc n else []
theorem okI_yes {n : Int} (h0 : 0 ≤ n) (h1 : n ≤ 2147483647) : okI n = true := by simp [okI]; omega
theorem okI_no {n : Int} (h : n < 0 ∨ 2147483647 < n) : okI n = false := by simp [okI]; omega
theorem okI_bd {n : Int} (h : okI n = true) : 0 ≤ n ∧ n ≤ 2147483647 := by simpa [okI] using h
theorem errI_yes {n : Int} (h0 : 0 ≤ n) (h1 : n ≤ 2147483647) : errI n = 0 := by simp [errI, okI_yes h0 h1]
theorem errI_no {n : Int} (h : n < 0 ∨ 2147483647 < n) : errI n = 14 := by simp [errI, okI_no h]
theorem outI_yes {n : Int} (h0 : 0 ≤ n) (h1 : n ≤ 2147483647) : outI n = enc n := by simp [outI, okI_yes h0 h1]
theorem outI_no {n : Int} (h : n < 0 ∨ 2147483647 < n) : outI n = [] := by simp [outI, okI_no h]
/-- The number at a place, the place behind it, the error's number. -/
def getI (l : List Int) (p : Int) : Int × Int × Int :=
  if p < 0 ∨ (l.length : Int) < p then (0, 0, 11)
  else match num (l.drop p.toNat) with
    | none => (0, 0, 11)
    | some (n, k) => (n, p + k, 0)
theorem getI_out {l : List Int} {p : Int} (h : p < 0 ∨ (l.length : Int) < p) : getI l p = (0, 0, 11) := by simp [getI, h]
theorem getI_in {l : List Int} (p : Nat) (h : p ≤ l.length) : getI l p = match num (l.drop p) with
    | none => (0, 0, 11)
    | some (n, k) => (n, (p : Int) + k, 0) := by
  unfold getI
  rw [if_neg (by omega), Int.toNat_natCast]
theorem getI_none {l : List Int} (p : Nat) (h : p ≤ l.length) (hn : num (l.drop p) = none) : getI l p = (0, 0, 11) := by rw [getI_in p h, hn]
theorem getI_some {l : List Int} (p : Nat) (h : p ≤ l.length) {n : Int} {k : Nat} (hn : num (l.drop p) = some (n, k)) : getI l p = (n, (p : Int) + k, 0) := by rw [getI_in p h, hn]
/-- The text at a place, the place behind it, the error's number. -/
def getB (l : List Int) (p most : Int) : List Int × Int × Int :=
  if (getI l p).2.2 ≠ 0 ∨ most < (getI l p).1 ∨ (l.length : Int) - (getI l p).2.1 < (getI l p).1 then ([], 0, 11)
  else ((l.drop (getI l p).2.1.toNat).take (getI l p).1.toNat, (getI l p).2.1 + (getI l p).1, 0)
/-- Either there is no number, or there is one, with its bytes. -/
theorem getI_cases (l : List Int) (p : Int) (hb : Byt l) : getI l p = (0, 0, 11) ∨
    ∃ (n k q : Nat), p = (q : Int) ∧ getI l p = ((n : Int), ((q + k : Nat) : Int), 0) ∧ n ≤ 2147483647 ∧ 1 ≤ k ∧ k ≤ 5 ∧ q + k ≤ l.length ∧ (l.drop q).take k = enc n := by
  by_cases h : p < 0 ∨ (l.length : Int) < p
  · exact .inl (getI_out h)
  · obtain ⟨q, rfl⟩ := Int.eq_ofNat_of_zero_le (show 0 ≤ p by omega)
    cases hn : num (l.drop q) with
    | none => exact .inl (getI_none q (by omega) hn)
    | some nk =>
      obtain ⟨n, k⟩ := nk
      obtain ⟨n0, n1, k1, k5, kl, ht⟩ := num_some (hb.drop q) hn
      obtain ⟨m, rfl⟩ := Int.eq_ofNat_of_zero_le n0
      rw [List.length_drop] at kl
      refine .inr ⟨m, k, q, rfl, ?_, by omega, k1, k5, by omega, ht⟩
      rw [getI_some q (by omega) hn]
      simp
theorem getB_byt (l : List Int) (p most : Int) (h : Byt l) : Byt (getB l p most).1 := by
  unfold getB
  split
  · exact Byt.nil
  · exact (h.drop _).take _
#print axioms num_some
#print axioms num_enc
end Oct
end Go.Proofs.YtgpkngiakhdmhaaDoor
