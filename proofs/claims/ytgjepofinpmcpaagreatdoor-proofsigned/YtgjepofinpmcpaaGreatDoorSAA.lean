/- The walks over package octet: numbers. -/
import Derived.WalkKit
import Derived.Laws.AppendOwnNone
import Derived.Laws.BytesArg
import Derived.Test.YtgjepofinpmcpaaGreatDoorProg
import Derived.WalkSpells
import Derived.WalkLawsBesides
import Derived.KernelRfl
namespace Go.Proofs.YtgjepofinpmcpaaGreatDoor
section
namespace Oct
/-- The groups of a number: at most f + 1 of them. -/
def encF : Nat → Int → List Int
  | 0, n => [n]
  | f + 1, n => if 128 ≤ n then (n % 128 + 128) :: encF f (n / 128) else [n]
/-- The groups of a number below 2 to the power 63. -/
def enc (n : Int) : List Int := encF 9 n
/-- How many groups the number at the head of a list has; 0: it is cut off, or has more than f. -/
def cnt : Nat → List Int → Nat
  | 0, _ => 0
  | _ + 1, [] => 0
  | f + 1, x :: r => if x < 128 then 1 else if cnt f r = 0 then 0 else cnt f r + 1
/-- What groups stand for. -/
def val : List Int → Int
  | [] => 0
  | x :: r => x % 128 + 128 * val r
/-- The number at the head of a list, and how many bytes it takes. -/
def num (l : List Int) : Option (Int × Nat) :=
  if cnt 5 l = 0 then none
  else if 1 < cnt 5 l ∧ l.getD (cnt 5 l - 1) 0 = 0 then none
  else if 2147483647 < val (l.take (cnt 5 l)) then none
  else some (val (l.take (cnt 5 l)), cnt 5 l)
/-- Every one of them is a byte. -/
def Byt (l : List Int) : Prop := ∀ x ∈ l, 0 ≤ x ∧ x ≤ 255
theorem Byt.nil : Byt [] := fun _ h => by cases h
theorem Byt.app {a b : List Int} (ha : Byt a) (hb : Byt b) : Byt (a ++ b) := fun x hx => by
  rcases List.mem_append.1 hx with h | h
  · exact ha x h
  · exact hb x h
theorem Byt.left {a b : List Int} (h : Byt (a ++ b)) : Byt a := fun x hx => h x (List.mem_append.2 (.inl hx))
theorem Byt.right {a b : List Int} (h : Byt (a ++ b)) : Byt b := fun x hx => h x (List.mem_append.2 (.inr hx))
theorem Byt.take {a : List Int} (h : Byt a) (k : Nat) : Byt (a.take k) := fun x hx => h x (List.mem_of_mem_take hx)
theorem Byt.drop {a : List Int} (h : Byt a) (k : Nat) : Byt (a.drop k) := fun x hx => h x (List.mem_of_mem_drop hx)
theorem Byt.one {x : Int} (h0 : 0 ≤ x) (h1 : x ≤ 255) : Byt [x] := fun y hy => by simp at hy; subst hy; exact ⟨h0, h1⟩
theorem Byt.getD {l : List Int} (h : Byt l) (j : Nat) : 0 ≤ l.getD j 0 ∧ l.getD j 0 ≤ 255 := by
  rcases Nat.lt_or_ge j l.length with hj | hj
  · have := h (l.getD j 0) (by simp [List.getD, List.getElem?_eq_getElem hj])
    exact this
  · simp [List.getD, List.getElem?_eq_none hj]
theorem encF_small (f : Nat) (n : Int) (h : n < 128) : encF f n = [n] := by
  cases f with
  | zero => rfl
  | succ f => simp [encF]; omega
theorem encF_great (f : Nat) (n : Int) (h : 128 ≤ n) : encF (f + 1) n = (n % 128 + 128) :: encF f (n / 128) := by
  simp [encF]; omega
/-- One round of writing: the fuel does not matter while it is enough. -/
theorem encF_fuel : ∀ (f g : Nat) (n : Int), 0 ≤ n → n < 128 ^ (f + 1) → f ≤ g → encF g n = encF f n
  | 0, g, n, h0, h, _ => by rw [encF_small _ _ (by omega), encF_small _ _ (by omega)]
  | f + 1, 0, n, _, _, h => by omega
  | f + 1, g + 1, n, h0, h, hg => by
    by_cases hn : 128 ≤ n
    · have e : (128 : Int) ^ (f + 1 + 1) = 128 ^ (f + 1) * 128 := Int.pow_succ ..
      rw [encF_great _ _ hn, encF_great _ _ hn, encF_fuel f g (n / 128) (by omega) (by omega) (by omega)]
    · rw [encF_small _ _ (by omega), encF_small _ _ (by omega)]
theorem encF_byt : ∀ (f : Nat) (n : Int), 0 ≤ n → n < 128 ^ (f + 1) → Byt (encF f n)
  | 0, n, h0, h => by rw [encF_small _ _ (by omega)]; exact Byt.one h0 (by omega)
  | f + 1, n, h0, h => by
    by_cases hn : 128 ≤ n
    · have e : (128 : Int) ^ (f + 1 + 1) = 128 ^ (f + 1) * 128 := Int.pow_succ ..
      rw [encF_great _ _ hn]
      exact Byt.app (Byt.one (x := n % 128 + 128) (by omega) (by omega)) (encF_byt f (n / 128) (by omega) (by omega))
    · rw [encF_small _ _ (by omega)]; exact Byt.one h0 (by omega)
theorem encF_len : ∀ (f : Nat) (n : Int), 1 ≤ (encF f n).length ∧ (encF f n).length ≤ f + 1
  | 0, n => by simp [encF]
  | f + 1, n => by
    by_cases hn : 128 ≤ n
    · rw [encF_great _ _ hn]; have := encF_len f (n / 128); simp; omega
    · rw [encF_small _ _ (by omega)]; simp
theorem enc_small (n : Int) (h : n < 128) : enc n = [n] := encF_small _ _ h
theorem enc_great (n : Int) (h : 128 ≤ n) (h1 : n ≤ 9223372036854775807) : enc n = (n % 128 + 128) :: enc (n / 128) := by
  unfold enc
  rw [encF_great _ _ h, encF_fuel 8 9 (n / 128) (by omega) (by omega) (by omega)]
theorem enc_byt (n : Int) (h0 : 0 ≤ n) (h1 : n ≤ 9223372036854775807) : Byt (enc n) := encF_byt 9 n h0 (by omega)
theorem enc_len (n : Int) : 1 ≤ (enc n).length ∧ (enc n).length ≤ 10 := encF_len 9 n
theorem enc_len5 (n : Int) (h0 : 0 ≤ n) (h1 : n ≤ 2147483647) : (enc n).length ≤ 5 := by
  unfold enc
  rw [encF_fuel 4 9 n h0 (by omega) (by omega)]
  exact (encF_len 4 n).2
/-! Reading -/
theorem cnt_le : ∀ (f : Nat) (l : List Int), cnt f l ≤ f ∧ cnt f l ≤ l.length
  | 0, l => by simp [cnt]
  | f + 1, [] => by simp [cnt]
  | f + 1, x :: r => by
    have := cnt_le f r
    simp only [cnt]
    split
    · simp
    · split <;> simp <;> omega
/-- The first i bytes say each that another one follows. -/
def More (l : List Int) (i : Nat) : Prop := ∀ j, j < i → j < l.length ∧ 128 ≤ l.getD j 0
theorem More.zero (l : List Int) : More l 0 := fun _ h => absurd h (Nat.not_lt_zero _)
theorem More.succ {l : List Int} {i : Nat} (h : More l i) (hi : i < l.length) (hg : 128 ≤ l.getD i 0) : More l (i + 1) := fun j hj => by
  rcases Nat.lt_or_ge j i with hh | hh
  · exact h j hh
  · have : j = i := by omega
    subst this; exact ⟨hi, hg⟩
theorem More.tail {x : Int} {r : List Int} {i : Nat} (h : More (x :: r) (i + 1)) : 128 ≤ x ∧ More r i :=
  ⟨by simpa using (h 0 (by omega)).2, fun j hj => by have := h (j + 1) (by omega); simpa using this⟩
theorem cnt_hit : ∀ (f i : Nat) (l : List Int), More l i → i < f → i < l.length → l.getD i 0 < 128 → cnt f l = i + 1
  | 0, i, l, _, h, _, _ => by omega
  | f + 1, i, [], _, _, h, _ => by simp at h
  | f + 1, 0, x :: r, _, _, _, h => by simp at h; simp [cnt, h]
  | f + 1, i + 1, x :: r, h, hi, hl, hg => by
    obtain ⟨h1, h2⟩ := h.tail
    have e := cnt_hit f i r h2 (by omega) (by simpa using hl) (by simpa using hg)
    simp only [cnt]
    rw [if_neg (by omega), e]
    simp
theorem cnt_end : ∀ (f i : Nat) (l : List Int), More l i → i ≤ f → (i = f ∨ l.length ≤ i) → cnt f l = 0
  | 0, i, l, _, _, _ => rfl
  | f + 1, i, [], _, _, _ => rfl
  | f + 1, 0, x :: r, _, _, h => by simp at h
  | f + 1, i + 1, x :: r, h, hi, hl => by
    obtain ⟨h1, h2⟩ := h.tail
    have e := cnt_end f i r h2 (by omega) (by simp at hl; omega)
    simp only [cnt]
    rw [if_neg (by omega), e]
    simp
theorem val_snoc : ∀ (l : List Int) (x : Int), val (l ++ [x]) = val l + x % 128 * 128 ^ l.length
  | [], x => by simp [val]
  | y :: r, x => by
    have e := val_snoc r x
    simp only [List.cons_append, val, List.length_cons]
    rw [e, Int.pow_succ, Int.mul_add, Int.add_assoc]
    congr 2
    rw [Int.mul_left_comm, Int.mul_comm 128]
theorem take_snoc (l : List Int) (k : Nat) (h : k < l.length) : l.take (k + 1) = l.take k ++ [l.getD k 0] := by
  rw [List.take_succ_eq_append_getElem h]
  simp [List.getD, List.getElem?_eq_getElem h]
theorem val_take (l : List Int) (k : Nat) (h : k < l.length) : val (l.take (k + 1)) = val (l.take k) + l.getD k 0 % 128 * 128 ^ k := by
  rw [take_snoc l k h, val_snoc, List.length_take, Nat.min_eq_left (by omega)]
theorem val_bd : ∀ (l : List Int), 0 ≤ val l ∧ val l < 128 ^ l.length
  | [] => by simp [val]
  | x :: r => by
    have := val_bd r
    simp only [val, List.length_cons]
    rw [Int.pow_succ]
    omega
/-- Groups whose last is below 128 and not a needless 0 are the number's own. -/
theorem enc_val : ∀ (f : Nat) (l : List Int) (k : Nat), Byt l → More l k → k < l.length → l.length = k + 1 → l.getD k 0 < 128 → k ≤ f → (k = 0 ∨ l.getD k 0 ≠ 0) → encF f (val l) = l
  | f, [x], 0, hb, _, _, _, hg, _, _ => by
    have := hb x (by simp)
    simp at hg
    have e : val [x] = x := by simp [val]; omega
    rw [e, encF_small _ _ hg]
  | 0, _, k + 1, _, _, _, _, _, h, _ => by omega
  | f + 1, x :: r, k + 1, hb, hm, hl, hl', hg, hf, hz => by
    obtain ⟨h1, h2⟩ := hm.tail
    have hx := hb x (by simp)
    have hbr : Byt r := fun y hy => hb y (by simp [hy])
    have hg' : r.getD k 0 < 128 := by simpa using hg
    have hz' : r.getD k 0 ≠ 0 := by simpa using hz
    have e := enc_val f r k hbr h2 (by simpa using hl) (by simpa using hl') hg' (by omega) (.inr hz')
    have hv := val_bd r
    have hpos : 1 ≤ val r := by
      rcases Int.lt_or_le 0 (val r) with h | h
      · omega
      · exfalso
        have h0 : val r = 0 := by omega
        rw [h0] at e
        rw [encF_small _ _ (by omega)] at e
        have hr : r = [0] := e.symm
        subst hr
        simp at hl'
        subst hl'
        simp at hz'
    have h2 : 128 ≤ val (x :: r) := by simp only [val]; omega
    rw [encF_great _ _ h2]
    have e1 : val (x :: r) / 128 = val r := by simp only [val]; omega
    have e2 : val (x :: r) % 128 + 128 = x := by simp only [val]; omega
    rw [e1, e2, e]
  | f, [], k, _, _, h, _, _, _, _ => by simp at h
  | f, x :: y :: r, 0, _, _, _, h, _, _, _ => by simp at h
theorem val_enc : ∀ (f : Nat) (n : Int), 0 ≤ n → n < 128 ^ (f + 1) → val (encF f n) = n
  | 0, n, h0, h => by rw [encF_small _ _ (by omega)]; simp [val]; omega
  | f + 1, n, h0, h => by
    by_cases hn : 128 ≤ n
    · have e : (128 : Int) ^ (f + 1 + 1) = 128 ^ (f + 1) * 128 := Int.pow_succ ..
      rw [encF_great _ _ hn]
      simp only [val]
      rw [val_enc f (n / 128) (by omega) (by omega)]
      omega
    · rw [encF_small _ _ (by omega)]; simp [val]; omega
/-- The groups of a number, with whatever behind: their count. -/
theorem cnt_enc : ∀ (f g : Nat) (n : Int) (r : List Int), 0 ≤ n → n < 128 ^ (f + 1) → f + 1 ≤ g → cnt g (encF f n ++ r) = (encF f n).length
  | f, 0, n, r, _, _, h => by omega
  | 0, g + 1, n, r, h0, h, _ => by
    rw [encF_small _ _ (by omega)]
    simp [cnt]; omega
  | f + 1, g + 1, n, r, h0, h, hg => by
    by_cases hn : 128 ≤ n
    · have e : (128 : Int) ^ (f + 1 + 1) = 128 ^ (f + 1) * 128 := Int.pow_succ ..
      rw [encF_great _ _ hn]
      have e2 := cnt_enc f g (n / 128) r (by omega) (by omega) (by omega)
      have h1 := (encF_len f (n / 128)).1
      simp only [List.cons_append, cnt, List.length_cons]
      rw [if_neg (by omega), e2, if_neg (by omega)]
    · rw [encF_small _ _ (by omega)]
      simp [cnt]; omega
/-- The last group of a number of more than one group is not 0. -/
theorem last_enc : ∀ (f : Nat) (n : Int), 1 ≤ n → (encF f n).getD ((encF f n).length - 1) 0 ≠ 0
  | 0, n, h => by simp [encF]; omega
  | f + 1, n, h => by
    by_cases hn : 128 ≤ n
    · rw [encF_great _ _ hn]
      have e := last_enc f (n / 128) (by omega)
      have h1 := (encF_len f (n / 128)).1
      obtain ⟨k, hk⟩ : ∃ k, (encF f (n / 128)).length = k + 1 := ⟨_, (Nat.sub_add_cancel h1).symm⟩
      rw [hk] at e
      simp only [List.length_cons, hk, Nat.add_sub_cancel, List.getD_cons_succ] at e ⊢
      exact e
    · rw [encF_small _ _ (by omega)]; simp; omega
/-- (B) A number's bytes, with whatever behind, are read as the number. -/
theorem num_enc (n : Int) (r : List Int) (h0 : 0 ≤ n) (h1 : n ≤ 2147483647) : num (enc n ++ r) = some (n, (enc n).length) := by
  have e5 : enc n = encF 4 n := encF_fuel 4 9 n h0 (by omega) (by omega)
  have hc : cnt 5 (enc n ++ r) = (enc n).length := by rw [e5]; exact cnt_enc 4 5 n r h0 (by omega) (by omega)
  have hl := enc_len n
  have hv : val ((enc n ++ r).take (enc n).length) = n := by
    rw [List.take_left, e5]; exact val_enc 4 n h0 (by omega)
  unfold num
  rw [hc, if_neg (by omega), if_neg, hv, if_neg (by omega)]
  intro h
  obtain ⟨h2, h3⟩ := h
  have hn : 1 ≤ n := by
    rcases Int.lt_or_le n 128 with h | h
    · rw [enc_small n h] at h2; simp at h2
    · omega
  have := last_enc 9 n hn
  have e3 : (enc n ++ r).getD ((enc n).length - 1) 0 = (enc n).getD ((enc n).length - 1) 0 := by
    simp only [List.getD]
    rw [List.getElem?_append_left (by omega)]
  rw [e3] at h3
  exact this h3
/-- How a list stands at its number: the groups ahead of the last say that more follows. -/
theorem cnt_more : ∀ (f : Nat) (l : List Int), cnt f l ≠ 0 → More l (cnt f l - 1) ∧ l.getD (cnt f l - 1) 0 < 128
  | 0, l, h => by simp [cnt] at h
  | f + 1, [], h => by simp [cnt] at h
  | f + 1, x :: r, h => by
    by_cases hx : x < 128
    · have e : cnt (f + 1) (x :: r) = 1 := by simp [cnt, hx]
      rw [e]
      exact ⟨More.zero _, by simpa using hx⟩
    · by_cases hr : cnt f r = 0
      · exact absurd (by simp [cnt, hr, hx]) h
      · have e : cnt (f + 1) (x :: r) = cnt f r + 1 := by simp [cnt, hr, hx]
        obtain ⟨h1, h2⟩ := cnt_more f r hr
        rw [e, Nat.add_sub_cancel]
        obtain ⟨k, hk⟩ : ∃ k, cnt f r = k + 1 := ⟨_, (Nat.sub_add_cancel (Nat.pos_of_ne_zero hr)).symm⟩
        rw [hk, Nat.add_sub_cancel] at h1 h2
        rw [hk]
        refine ⟨fun j hj => ?_, by simpa using h2⟩
        cases j with
        | zero => exact ⟨by simp, by simp; omega⟩
        | succ j => have := h1 j (by omega); simpa using this
/-- (A) What is read as a number is just the number's bytes. -/
theorem num_some {l : List Int} {n : Int} {k : Nat} (hb : Byt l) (h : num l = some (n, k)) :
    0 ≤ n ∧ n ≤ 2147483647 ∧ 1 ≤ k ∧ k ≤ 5 ∧ k ≤ l.length ∧ l.take k = enc n := by
  unfold num at h
  by_cases h0 : cnt 5 l = 0
  · rw [if_pos h0] at h; cases h
  rw [if_neg h0] at h
  by_cases h1 : 1 < cnt 5 l ∧ l.getD (cnt 5 l - 1) 0 = 0
  · rw [if_pos h1] at h; cases h
  rw [if_neg h1] at h
  by_cases h2 : 2147483647 < val (l.take (cnt 5 l))
  · rw [if_pos h2] at h; cases h
  rw [if_neg h2] at h
  simp only [Option.some.injEq, Prod.mk.injEq] at h
  obtain ⟨rfl, rfl⟩ := h
  have hc := cnt_le 5 l
  have hv := val_bd (l.take (cnt 5 l))
  refine ⟨hv.1, by omega, by omega, hc.1, hc.2, ?_⟩
  obtain ⟨m1, m2⟩ := cnt_more 5 l h0
  have hlen : (l.take (cnt 5 l)).length = cnt 5 l := by rw [List.length_take]; omega
  have hg : ∀ j, j < cnt 5 l → (l.take (cnt 5 l)).getD j 0 = l.getD j 0 := fun j hj => by
    simp [List.getD, hj]
  have e := enc_val 9 (l.take (cnt 5 l)) (cnt 5 l - 1) (hb.take _)
    (fun j hj => by rw [hg j (by omega), hlen]; exact ⟨by omega, (m1 j hj).2⟩) (by omega) (by omega)
    (by rw [hg _ (by omega)]; exact m2) (by omega)
    (by rw [hg _ (by omega)]; omega)
  exact e.symm
/-! The calls' answers -/
/-- May the number be written? -/
def okI (n : Int) : Bool := decide (0 ≤ n ∧ n ≤ 2147483647)
def errI (n : Int) : Int := if okI n = true then 0 else 14
def outI (n : Int) : List Int := if okI n = true then enc n else []
theorem okI_yes {n : Int} (h0 : 0 ≤ n) (h1 : n ≤ 2147483647) : okI n = true := by simp [okI]; omega
theorem okI_no {n : Int} (h : n < 0 ∨ 2147483647 < n) : okI n = false := by simp [okI]; omega
theorem okI_bd {n : Int} (h : okI n = true) : 0 ≤ n ∧ n ≤ 2147483647 := by simpa [okI] using h
theorem errI_yes {n : Int} (h0 : 0 ≤ n) (h1 : n ≤ 2147483647) : errI n = 0 := by simp [errI, okI_yes h0 h1]
theorem errI_no {n : Int} (h : n < 0 ∨ 2147483647 < n) : errI n = 14 := by simp [errI, okI_no h]
theorem outI_yes {n : Int} (h0 : 0 ≤ n) (h1 : n ≤ 2147483647) : outI n = enc n := by simp [outI, okI_yes h0 h1]
theorem outI_no {n : Int} (h : n < 0 ∨ 2147483647 < n) : outI n = [] := by simp [outI, okI_no h]
theorem outI_byt (n : Int) : Byt (outI n) := by
  unfold outI
  split
  · next h => have := okI_bd h; exact enc_byt n this.1 (by omega)
  · exact Byt.nil
/-- The number at a place, the place behind it, the error's number. -/
def getI (l : List Int) (p : Int) : Int × Int × Int :=
  if p < 0 ∨ (l.length : Int) < p then (0, 0, 11)
  else match num (l.drop p.toNat) with
    | none => (0, 0, 11)
    | some (n, k) => (n, p + k, 0)
theorem getI_out {l : List Int} {p : Int} (h : p < 0 ∨ (l.length : Int) < p) : getI l p = (0, 0, 11) := by simp [getI, h]
theorem getI_in {l : List Int} (p : Nat) (h : p ≤ l.length) : getI l p = match num (l.drop p) with
    | none => (0, 0, 11)
    | some (n, k) => (n, (p : Int) + k, 0) := by
  unfold getI
  rw [if_neg (by omega), Int.toNat_natCast]
theorem getI_none {l : List Int} (p : Nat) (h : p ≤ l.length) (hn : num (l.drop p) = none) : getI l p = (0, 0, 11) := by rw [getI_in p h, hn]
theorem getI_some {l : List Int} (p : Nat) (h : p ≤ l.length) {n : Int} {k : Nat} (hn : num (l.drop p) = some (n, k)) : getI l p = (n, (p : Int) + k, 0) := by rw [getI_in p h, hn]
/-- The text at a place, the place behind it, the error's number. -/
def getB (l : List Int) (p most : Int) : List Int × Int × Int :=
  if (getI l p).2.2 ≠ 0 ∨ most < (getI l p).1 ∨ (l.length : Int) - (getI l p).2.1 < (getI l p).1 then ([], 0, 11)
  else ((l.drop (getI l p).2.1.toNat).take (getI l p).1.toNat, (getI l p).2.1 + (getI l p).1, 0)
/-- Either there is no number, or there is one, with its bytes. -/
theorem getI_cases (l : List Int) (p : Int) (hb : Byt l) : getI l p = (0, 0, 11) ∨
    ∃ (n k q : Nat), p = (q : Int) ∧ getI l p = ((n : Int), ((q + k : Nat) : Int), 0) ∧ n ≤ 2147483647 ∧ 1 ≤ k ∧ k ≤ 5 ∧ q + k ≤ l.length ∧ (l.drop q).take k = enc n := by
  by_cases h : p < 0 ∨ (l.length : Int) < p
  · exact .inl (getI_out h)
  · obtain ⟨q, rfl⟩ := Int.eq_ofNat_of_zero_le (show 0 ≤ p by omega)
    cases hn : num (l.drop q) with
    | none => exact .inl (getI_none q (by omega) hn)
    | some nk =>
      obtain ⟨n, k⟩ := nk
      obtain ⟨n0, n1, k1, k5, kl, ht⟩ := num_some (hb.drop q) hn
      obtain ⟨m, rfl⟩ := Int.eq_ofNat_of_zero_le n0
      rw [List.length_drop] at kl
      refine .inr ⟨m, k, q, rfl, ?_, by omega, k1, k5, by omega, ht⟩
      rw [getI_some q (by omega) hn]
      simp
theorem getB_byt (l : List Int) (p most : Int) (h : Byt l) : Byt (getB l p most).1 := by
  unfold getB
  split
  · exact Byt.nil
  · exact (h.drop _).take _
#print axioms num_some
#print axioms num_enc
end Oct
end
section
open Go.RowKit Oct
/-- Bytes as cells. -/
def bc (l : List Int) : List Value := l.map (Value.int .u8)
theorem bc_len (l : List Int) : (bc l).length = l.length := by simp [bc]
theorem bc_app (a b : List Int) : bc (a ++ b) = bc a ++ bc b := by simp [bc]
theorem bc_one (l : List Int) : ∀ u ∈ bc l, u.oneCell' = true := ints_oneCell .u8 l
theorem bc_at (l : List Int) (j : Nat) : (bc l)[j]? = (l[j]?).map (Value.int .u8) := by simp [bc]
theorem bc_getD (l : List Int) (j : Nat) (h : j < l.length) : (bc l)[j]? = some (.int .u8 (l.getD j 0)) := by
  simp [bc, List.getD, List.getElem?_eq_getElem h]
/-- A slice that reads as the cells xs (each element one cell). -/
def Rdv (w : World) (v : Value) (xs : List Value) : Prop :=
  ∃ ao cap, v = .slice ao xs.length cap ∧ xs.length ≤ cap ∧ cap ≤ maxLen ∧ (ao = none → xs = [] ∧ cap = 0) ∧
    ∀ a, ao = some a → ∀ j u, xs[j]? = some u → w.cell? (a.add j) = some u
/-- A slice of bytes that reads l. -/
def Rd (w : World) (v : Value) (l : List Int) : Prop := Byt l ∧ Rdv w v (bc l)
/-- A slice that lies at the head of a row that may be written (or nil). -/
def Own (w : World) (e : TypeId) (v : Value) (xs : List Value) : Prop := w.ownsRow 0 e 1 v xs.length xs
/-- From block B on. -/
def Fr (B : Nat) (v : Value) : Prop := ∀ k, v.ownBlock = some k → B ≤ k
theorem Fr.mono {B C : Nat} {v : Value} (h : Fr B v) (hc : C ≤ B) : Fr C v := fun k hk => Nat.le_trans hc (h k hk)
theorem Fr.nil (B : Nat) : Fr B (.slice none 0 0) := fun k hk => by simp [Value.ownBlock] at hk
theorem addr_block (a : Addr) (j : Nat) : (a.add j).block = a.block := by unfold Addr.add; split <;> rfl
theorem Rdv.keep {w w' : World} {v : Value} {xs : List Value} (h : Rdv w v xs) (hb : xs ≠ [] → ∀ k, v.ownBlock = some k → k < w.heap.size → w'.heap[k]? = w.heap[k]?) : Rdv w' v xs := by
  obtain ⟨ao, cap, rfl, h1, h2, h3, h4⟩ := h
  refine ⟨ao, cap, rfl, h1, h2, h3, fun a ha j u hu => ?_⟩
  have hc := h4 a ha j u hu
  subst ha
  have hlt := World.block_lt_of_cell? w (a.add j) hc
  rw [addr_block] at hlt
  have e := hb (fun e => by rw [e] at hu; simp at hu) a.block rfl hlt
  rw [← addr_block a j] at e
  exact (World.cell?_of_block (w := w) (w' := w') (a := a.add j) e).trans hc
theorem Rdv.below {w w' : World} {v : Value} {xs : List Value} (h : Rdv w v xs) (hb : Below w.heap.size w w') : Rdv w' v xs :=
  h.keep fun _ k _ hk => hb.block k hk
theorem Rdv.grown {w w' : World} {v : Value} {xs : List Value} {row : Option Nat} (h : Rdv w v xs) (hg : w.grownBy w' row) (hr : xs ≠ [] → ∀ k, row = some k → v.ownBlock ≠ some k) : Rdv w' v xs :=
  h.keep fun hx k hk hlt => hg.block k hlt (fun e => hr hx k e.symm hk)
theorem Rdv.lt {w : World} {v : Value} {xs : List Value} (h : Rdv w v xs) (hx : xs ≠ []) : ∀ k, v.ownBlock = some k → k < w.heap.size := by
  obtain ⟨ao, cap, rfl, h1, h2, h3, h4⟩ := h
  intro k hk
  cases ao with
  | none => simp [Value.ownBlock] at hk
  | some a =>
    simp [Value.ownBlock] at hk
    subst hk
    cases xs with
    | nil => exact absurd rfl hx
    | cons x r =>
      have hc := h4 a rfl 0 x rfl
      have := World.block_lt_of_cell? w (a.add 0) hc
      rwa [addr_block] at this
theorem Rd.below {w w' : World} {v : Value} {l : List Int} (h : Rd w v l) (hb : Below w.heap.size w w') : Rd w' v l := ⟨h.1, h.2.below hb⟩
theorem Rd.grown {w w' : World} {v : Value} {l : List Int} {row : Option Nat} (h : Rd w v l) (hg : w.grownBy w' row) (hr : l ≠ [] → ∀ k, row = some k → v.ownBlock ≠ some k) : Rd w' v l :=
  ⟨h.1, h.2.grown hg fun hx => hr fun e => hx (by rw [e]; rfl)⟩
theorem Rd.lt {w : World} {v : Value} {l : List Int} (h : Rd w v l) (hx : l ≠ []) : ∀ k, v.ownBlock = some k → k < w.heap.size := h.2.lt fun e => hx (by simpa [bc] using e)
theorem Own.lt {w : World} {e : TypeId} {v : Value} {xs : List Value} (h : Own w e v xs) : ∀ k, v.ownBlock = some k → k < w.heap.size := fun k hk => (World.ownsRow.lt h k hk).2
theorem Own.below {w w' : World} {e : TypeId} {v : Value} {xs : List Value} (h : Own w e v xs) (hb : Below w.heap.size w w') : Own w' e v xs :=
  World.ownsRow.kept (row := none) h ⟨hb.os, hb.tape, hb.output, hb.size, fun k hk _ => hb.block k hk⟩ (by cases hv : v.ownBlock <;> simp)
theorem Own.grown {w w' : World} {e : TypeId} {v : Value} {xs : List Value} {row : Option Nat} (h : Own w e v xs) (hg : w.grownBy w' row) (hr : ∀ k, row = some k → v.ownBlock ≠ some k) : Own w' e v xs :=
  World.ownsRow.kept h hg (by
    cases hv : v.ownBlock with
    | none => exact .inl rfl
    | some k => exact .inr fun e => hr k e.symm hv)
theorem Own.rdv {w : World} {e : TypeId} {v : Value} {xs : List Value} (h : Own w e v xs) : Rdv w v xs := by
  rcases h.2 with ⟨rfl, h0⟩ | ⟨g, cap, cur, rfl, _, hg, h1, h2, h3, h4⟩
  · have : xs = [] := List.eq_nil_of_length_eq_zero h0
    subst this
    exact ⟨none, 0, rfl, Nat.le_refl _, Nat.zero_le _, fun _ => ⟨rfl, rfl⟩, fun a ha => by cases ha⟩
  · exact ⟨some ⟨g, 0, none⟩, cap, rfl, h1, h2, fun ha => (by cases ha), fun a ha j u hu => by cases ha; exact World.ownsRow.cells h (g := g) rfl j u hu⟩
theorem Own.rd {w : World} {e : TypeId} {v : Value} {l : List Int} (h : Own w e v (bc l)) (hb : Byt l) : Rd w v l := ⟨hb, h.rdv⟩
theorem Own.form {w : World} {e : TypeId} {v : Value} {xs : List Value} (h : Own w e v xs) : ∃ ao cap, v = .slice ao xs.length cap ∧ cap ≤ maxLen := by
  obtain ⟨ao, cap, h1, _, h2, _⟩ := h.rdv
  exact ⟨ao, cap, h1, h2⟩
/-- Rows of unlike elements are unlike rows. -/
theorem Own.apart {w : World} {e e' : TypeId} {v v' : Value} {xs xs' : List Value} (h : Own w e v xs) (h' : Own w e' v' xs') (he : e ≠ e') : ∀ k, v.ownBlock = some k → v'.ownBlock ≠ some k := by
  intro k hk hk'
  rcases h.2 with ⟨rfl, _⟩ | ⟨g, _, cur, rfl, _, hg, _⟩
  · simp [Value.ownBlock] at hk
  rcases h'.2 with ⟨rfl, _⟩ | ⟨g', _, cur', rfl, _, hg', _⟩
  · simp [Value.ownBlock] at hk'
  simp [Value.ownBlock] at hk hk'
  subst hk hk'
  rw [hg] at hg'
  simp at hg'
  exact he hg'.2
theorem Own.nil (w : World) (e : TypeId) : Own w e (.slice none 0 0) [] := World.ownsRow_nil w 0 e 1
theorem grown_below {w w' : World} {row : Option Nat} (hg : w.grownBy w' row) {B : Nat} (hB : B ≤ w.heap.size) (hr : ∀ k, row = some k → B ≤ k) : Below B w w' :=
  (Below.refl B w).grown hg hB hr
/-- One thing behind the other: what the second may write is what the first may write, or new. -/
theorem grown_trans {w w1 w2 : World} {r r1 : Option Nat} (h : w.grownBy w1 r) (h' : w1.grownBy w2 r1) (hr : r1 = r ∨ ∀ k, r1 = some k → w.heap.size ≤ k) : w.grownBy w2 r :=
  ⟨h'.os.trans h.os, h'.tape.trans h.tape, h'.output.trans h.output, Nat.le_trans h.size h'.size, fun k hk hne => by
    have := h.size
    refine (h'.block k (by omega) fun e => ?_).trans (h.block k hk hne)
    rcases hr with rfl | hr
    · exact hne e
    · have := hr k e.symm; omega⟩
theorem grown_of_below {w w' : World} (h : Below w.heap.size w w') (r : Option Nat) : w.grownBy w' r := ⟨h.os, h.tape, h.output, h.size, fun k hk _ => h.block k hk⟩
/-- What an append does: v' reads xs; of what was there only v's own row may have turned; v' lies in that row or in new memory. -/
structure App (w : World) (e : TypeId) (v : Value) (w' : World) (v' : Value) (xs : List Value) : Prop where
  own : Own w' e v' xs
  grown : w.grownBy w' v.ownBlock
  spot : v'.ownBlock = v.ownBlock ∨ Fr w.heap.size v'
theorem App.trans {w w1 w2 : World} {e : TypeId} {v v1 v2 : Value} {xs ys : List Value} (h : App w e v w1 v1 xs) (h' : App w1 e v1 w2 v2 ys) : App w e v w2 v2 ys :=
  ⟨h'.own, grown_trans h.grown h'.grown (by rcases h.spot with h1 | h1; exact .inl h1; exact .inr h1), by
    have hs := h.grown.size
    rcases h'.spot with h2 | h2
    · rcases h.spot with h1 | h1
      · exact .inl (h2.trans h1)
      · exact .inr fun k hk => h1 k (h2 ▸ hk)
    · exact .inr (h2.mono hs)⟩
/-- New blocks between. -/
theorem App.pre {w w0 w' : World} {e : TypeId} {v v' : Value} {xs : List Value} (hb : Below w.heap.size w w0) (h : App w0 e v w' v' xs) : App w e v w' v' xs :=
  ⟨h.own, grown_trans (grown_of_below hb _) h.grown (.inl rfl), by
    rcases h.spot with h1 | h1
    · exact .inl h1
    · exact .inr (h1.mono hb.size)⟩
theorem App.fr {w w' : World} {e : TypeId} {v v' : Value} {xs : List Value} (h : App w e v w' v' xs) {B : Nat} (hv : Fr B v) (hB : B ≤ w.heap.size) : Fr B v' := by
  rcases h.spot with h1 | h1
  · exact fun k hk => hv k (h1 ▸ hk)
  · exact h1.mono hB
theorem App.below {w w' : World} {e : TypeId} {v v' : Value} {xs : List Value} (h : App w e v w' v' xs) {B : Nat} (hv : Fr B v) (hB : B ≤ w.heap.size) : Below B w w' :=
  grown_below h.grown hB hv
theorem owns_base {w : World} {base : Nat} {e : TypeId} {v : Value} {n : Nat} {xs : List Value} (h : w.ownsRow base e 1 v n xs) : w.ownsRow 0 e 1 v n xs :=
  ⟨h.1, by rcases h.2 with h | ⟨g, cap, cur, h1, _, h2⟩; exact .inl h; exact .inr ⟨g, cap, cur, h1, Nat.zero_le _, h2⟩⟩
/-- A slice that is not empty lies at a plain address. -/
theorem Rdv.at {w : World} {v : Value} {xs : List Value} (h : Rdv w v xs) (hl : 0 < xs.length) : ∃ b off cap, v = .slice (some ⟨b, off, none⟩) xs.length cap ∧ xs.length ≤ cap ∧ cap ≤ maxLen ∧ b < w.heap.size ∧
    ∀ (j : Nat) (u : Value), xs[j]? = some u → w.cell? ⟨b, off + j, none⟩ = some u := by
  obtain ⟨ao, cap, rfl, h1, h2, h3, h4⟩ := h
  cases ao with
  | none => have := (h3 rfl).1; subst this; simp at hl
  | some a =>
    obtain ⟨b, off, spot⟩ := a
    have hc := h4 _ rfl 0 _ (List.getElem?_eq_getElem hl)
    have hs : spot = none := by
      cases spot with
      | none => rfl
      | some q =>
        exfalso
        simp only [Addr.add, if_true, World.cell?] at hc
        split at hc <;> simp at hc
    subst hs
    refine ⟨b, off, cap, rfl, h1, h2, World.block_lt_of_cell? w _ hc, fun j u hj => ?_⟩
    have := h4 _ rfl j u hj
    have e : (⟨b, off, none⟩ : Addr).add j = ⟨b, off + j, none⟩ := by unfold Addr.add; split <;> simp_all
    rwa [e] at this
theorem Rdv.form {w : World} {v : Value} {xs : List Value} (h : Rdv w v xs) : ∃ ao cap, v = .slice ao xs.length cap ∧ cap ≤ maxLen := by
  obtain ⟨ao, cap, h1, _, h2, _⟩ := h
  exact ⟨ao, cap, h1, h2⟩
/-- A slice of bytes that is not empty lies at a plain address. -/
theorem Rd.at {w : World} {v : Value} {l : List Int} (h : Rd w v l) (hl : 0 < l.length) : ∃ b off cap, v = .slice (some ⟨b, off, none⟩) l.length cap ∧ l.length ≤ cap ∧ cap ≤ maxLen ∧ b < w.heap.size ∧
    ∀ j, j < l.length → w.cell? ⟨b, off + j, none⟩ = some (.int .u8 (l.getD j 0)) := by
  obtain ⟨hb, ao, cap, rfl, h1, h2, h3, h4⟩ := h
  rw [bc_len] at h1
  cases ao with
  | none => have := (h3 rfl).1; simp [bc] at this; subst this; simp at hl
  | some a =>
    obtain ⟨b, off, spot⟩ := a
    have hc := h4 _ rfl 0 _ (bc_getD l 0 hl)
    have hs : spot = none := by
      cases spot with
      | none => rfl
      | some q =>
        exfalso
        simp only [Addr.add, if_true, World.cell?] at hc
        split at hc <;> simp at hc
    subst hs
    refine ⟨b, off, cap, by rw [bc_len], h1, h2, World.block_lt_of_cell? w _ hc, fun j hj => ?_⟩
    have := h4 _ rfl j _ (bc_getD l j hj)
    have e : (⟨b, off, none⟩ : Addr).add j = ⟨b, off + j, none⟩ := by unfold Addr.add; split <;> simp_all
    rwa [e] at this
/-- An empty one: whatever its address. -/
theorem Rd.empty {w : World} {v : Value} {l : List Int} (h : Rd w v l) (hl : l.length = 0) : ∃ ao cap, v = .slice ao 0 cap ∧ cap ≤ maxLen := by
  obtain ⟨hb, ao, cap, rfl, h1, h2, h3, h4⟩ := h
  exact ⟨ao, cap, by rw [bc_len, hl], h2⟩
theorem Rd.len {w : World} {v : Value} {l : List Int} (h : Rd w v l) : (l.length : Int) ≤ 9223372036854775807 := by
  obtain ⟨hb, ao, cap, rfl, h1, h2, h3, h4⟩ := h
  rw [bc_len] at h1
  unfold maxLen at h2
  omega
/-- One by one. -/
def All2 {α β : Type} (R : α → β → Prop) : List α → List β → Prop
  | [], [] => True
  | a :: as0, b :: bs => R a b ∧ All2 R as0 bs
  | _, _ => False
theorem All2.len {α β : Type} {R : α → β → Prop} : ∀ {as0 : List α} {bs : List β}, All2 R as0 bs → as0.length = bs.length
  | [], [], _ => rfl
  | _ :: _, _ :: _, h => by simp [All2.len h.2]
  | [], _ :: _, h => h.elim
  | _ :: _, [], h => h.elim
theorem All2.get {α β : Type} {R : α → β → Prop} : ∀ {as0 : List α} {bs : List β}, All2 R as0 bs → ∀ {i : Nat} {a : α} {b : β}, as0[i]? = some a → bs[i]? = some b → R a b
  | [], [], _, i, a, b, ha, _ => by simp at ha
  | x :: as0, y :: bs, h, 0, a, b, ha, hb => by simp at ha hb; subst ha hb; exact h.1
  | x :: as0, y :: bs, h, i + 1, a, b, ha, hb => All2.get h.2 (by simpa using ha) (by simpa using hb)
  | [], _ :: _, h, _, _, _, _, _ => h.elim
  | _ :: _, [], h, _, _, _, _, _ => h.elim
theorem All2.mono {α β : Type} {R S : α → β → Prop} (hRS : ∀ a b, R a b → S a b) : ∀ {as0 : List α} {bs : List β}, All2 R as0 bs → All2 S as0 bs
  | [], [], _ => trivial
  | _ :: _, _ :: _, h => ⟨hRS _ _ h.1, All2.mono hRS h.2⟩
  | [], _ :: _, h => h.elim
  | _ :: _, [], h => h.elim
theorem All2.app {α β : Type} {R : α → β → Prop} : ∀ {as0 : List α} {bs : List β} {cs : List α} {ds : List β}, All2 R as0 bs → All2 R cs ds → All2 R (as0 ++ cs) (bs ++ ds)
  | [], [], _, _, _, h => h
  | _ :: _, _ :: _, _, _, h, h' => ⟨h.1, All2.app h.2 h'⟩
  | [], _ :: _, _, _, h, _ => h.elim
  | _ :: _, [], _, _, h, _ => h.elim
/-- A list of texts that reads ll. -/
def Rdl (w : World) (v : Value) (ll : List (List Int)) : Prop := ∃ vs, Rdv w v vs ∧ All2 (Rd w) vs ll
theorem Rdl.below {w w' : World} {v : Value} {ll : List (List Int)} (h : Rdl w v ll) (hb : Below w.heap.size w w') : Rdl w' v ll := by
  obtain ⟨vs, h1, h2⟩ := h
  exact ⟨vs, h1.below hb, h2.mono fun _ _ h => h.below hb⟩
theorem rdv_one (w : World) (x : Int) (e : TypeId) : Rdv (w.alloc (.cells #[.int .u8 x] e)) (.slice (some ⟨w.heap.size, 0, none⟩) 1 1) (bc [x]) :=
  Own.rdv (e := e) (World.ownsRow_lit (base := 0) (size := 1) w #[.int .u8 x] 1 (Nat.zero_le _) (by decide) rfl)
section
variable {P : Program}
theorem run_app (w : World) (t ty e : TypeId) (i : TypeInfo) (z : Value) (bytes : Nat) (ht : P.underlying t = some (.slice e)) (hi : P.info? e = some i) (hz : i.zero = some z)
    (hsize : i.size = 1) (hby : i.bytes = bytes) (hzs : z.cells.size = 1) (v : Value) (xs : List Value) (hown : Own w e v xs) (sv : Value) (news : List Value) (hsrc : Rdv w sv news)
    (h1 : ∀ u ∈ news, u.oneCell' = true) (hm : xs.length + news.length ≤ maxLen) (hb : (xs.length + news.length) * bytes ≤ 140737488355328) :
    ∃ v' w', (Builtin.append_ #[t, t] ty #[v, sv]).run P w = .ok v' w' ∧ App w e v w' v' (xs ++ news) := by
  obtain ⟨ao, cap, rfl, c1, c2, c3, c4⟩ := hsrc
  cases ao with
  | none =>
    obtain ⟨rfl, rfl⟩ := c3 rfl
    refine ⟨v, w, run_append_owned_none (P := P) w 0 t ty e i 1 ht hi v _ xs hown, ?_⟩
    rw [List.append_nil]
    exact ⟨hown, grown_of_below (Below.refl _ _) _, .inl rfl⟩
  | some a =>
    have hnews := c4 a rfl
    have hl : news.length = news.length * 1 := by omega
    rcases hown.2 with ⟨rfl, h0⟩ | ⟨g, vc, cur, rfl, _, hg, n1, n2, n3, n4⟩
    · have hx : xs = [] := List.eq_nil_of_length_eq_zero h0
      subst hx
      obtain ⟨v', w', hr, o1, o2, _⟩ := run_append_own (P := P) w w.heap.size t ty e i z 1 bytes ht hi hz hsize hby hzs (by decide) (.slice none 0 0) 0 [] (World.ownsRow_nil w w.heap.size e 1) a news.length cap news hl hnews h1
        (by simpa using hm) (by simpa using hb) (Nat.le_refl _)
      refine ⟨v', w', hr, ?_⟩
      have o3 := owns_base o1
      rw [Nat.zero_add, List.nil_append] at o3
      exact ⟨o3, o2, .inr fun k hk => (o1.lt k hk).1⟩
    · obtain ⟨v', w', hr, o1, o2, _⟩ := run_append_own (P := P) w 0 t ty e i z 1 bytes ht hi hz hsize hby hzs (by decide) _ _ xs hown a news.length cap news hl hnews h1 hm hb (Nat.zero_le _)
      refine ⟨v', w', hr, ?_⟩
      rw [← List.length_append] at o1
      refine ⟨o1, o2, ?_⟩
      by_cases hroom : xs.length + news.length ≤ vc
      · left
        have hr2 := run_append_room (P := P) w t ty e i ht hi g xs.length vc cur hg a news.length cap news (by rw [hsize]; exact hl) hnews h1 hroom (by rw [hsize, n3]; omega)
        rw [hr2] at hr
        injection hr with e1 _
        rw [← e1]
        rfl
      · right
        have holds : ∀ j u, xs[j]? = some u → w.cell? ((⟨g, 0, none⟩ : Addr).add j) = some u := World.ownsRow.cells hown (g := g) rfl
        have hr2 := run_append_grow (P := P) w t ty e i z ht hi hz ⟨g, 0, none⟩ xs.length vc xs (by rw [hsize]; omega) holds a news.length cap news (by rw [hsize]; exact hl) hnews (by omega)
          (by have := hm; simp only [maxLen] at this; omega) (growslice_fits (by omega) (by rw [hby]; exact hb))
        rw [hr2] at hr
        injection hr with e1 _
        rw [← e1]
        intro k hk
        simp [Value.ownBlock] at hk
        omega
/-- An operation that is carried out: it has no guard, or its guard says yes. -/
theorem wpList_wanted {ops : Array Oper} {Q : Exit → Act → World → Prop} {a : Act} {w : World} {rest : List Oper} {o : Oper} (hw : Region.wanted o (yielded ops a.tmps) = true)
    (h : ∀ K : Act → World → Prop, (∀ a w, wpList P ops Q rest a w → K a w) → o.wp P a w K Q) : wpList P ops Q (o :: rest) a w :=
  wpList_step fun K hK => by rw [if_pos hw]; exact h K hK
theorem wanted_none {ops : Array Oper} {a : Act} {o : Oper} (hgd : o.guard = none) : Region.wanted o (yielded ops a.tmps) = true := by simp [Region.wanted, hgd]
/-- THE LAW FOR THE WALK: 's = append(s, x...)', s the call's own, x whatever can be read. -/
theorem wpList_app {w : World} {ops : Array Oper} {rest : List Oper} {o : Oper} {a : Act} {Q : Exit → Act → World → Prop} (hgd : Region.wanted o (yielded ops a.tmps) = true) (s x : Operand) (t : TypeId)
    (ho : o.op = .call { callee := .builtin .append, args := #[s, x], argTypes := #[t, t] })
    (e : TypeId) (i : TypeInfo) (z : Value) (bytes : Nat) (ht : P.underlying t = some (.slice e)) (hi : P.info? e = some i) (hz : i.zero = some z)
    (hsize : i.size = 1) (hby : i.bytes = bytes) (hzs : z.cells.size = 1) (v : Value) (xs : List Value) (hs : a.eval s = v) (hown : Own w e v xs) (sv : Value) (news : List Value) (hx : a.eval x = sv) (hsrc : Rdv w sv news)
    (h1 : ∀ u ∈ news, u.oneCell' = true) (hm : xs.length + news.length ≤ maxLen) (hb : (xs.length + news.length) * bytes ≤ 140737488355328)
    (h : ∀ v' w', App w e v w' v' (xs ++ news) → wpList P ops Q rest (a.put o.dst v') w') : wpList P ops Q (o :: rest) a w := by
  refine wpList_wanted hgd fun K hK => ?_
  obtain ⟨v', w', hr, h2⟩ := run_app (P := P) w t o.type e i z bytes ht hi hz hsize hby hzs v xs hown sv news hsrc h1 hm hb
  unfold Oper.wp
  simp [execOp, ho, resolve, invoke, builtin, hs, hx, hr, Result.andThen]
  exact hK _ _ (h v' w' h2)
end
theorem Own.drew {w : World} {e : TypeId} {v : Value} {xs : List Value} (h : Own w e v xs) : Own w.drew e v xs := h
theorem Rdv.drew {w : World} {v : Value} {xs : List Value} (h : Rdv w v xs) : Rdv w.drew v xs := h
theorem Rd.drew {w : World} {v : Value} {l : List Int} (h : Rd w v l) : Rd w.drew v l := h
#print axioms wpList_app
end
section
open Go.RowKit Oct
theorem Tryz.info5 : (Tryz.prog.info? 5).map (fun i => (i.zero, i.size, i.bytes)) = some (some (.int .u8 0), 1, 1) := by kernel_rfl
/-- 'append(s, x...)' of bytes, at this program. -/
theorem app_bytes_w {w : World} {ops : Array Oper} {rest : List Oper} {o : Oper} {a : Act} {Q : Exit → Act → World → Prop} (hgd : Region.wanted o (yielded ops a.tmps) = true) (s x : Operand)
    (ho : o.op = .call { callee := .builtin .append, args := #[s, x], argTypes := #[23, 23] })
    (v : Value) (l : List Int) (hs : a.eval s = v) (hown : Own w 5 v (bc l)) (sv : Value) (m : List Int) (hx : a.eval x = sv) (hsrc : Rdv w sv (bc m)) (hb : l.length + m.length ≤ 140737488355328)
    (h : ∀ v' w', App w 5 v w' v' (bc (l ++ m)) → wpList Tryz.prog ops Q rest (a.put o.dst v') w') : wpList Tryz.prog ops Q (o :: rest) a w := by
  obtain ⟨i0, hi, hz0, hz1, hz2⟩ := info_parts Tryz.info5
  refine wpList_app hgd s x 23 ho 5 i0 (.int .u8 0) 1 Tryz.underlying23 hi hz0 hz1 hz2 rfl v (bc l) hs hown sv (bc m) hx hsrc (bc_one _) (by rw [bc_len, bc_len]; unfold maxLen; omega) (by rw [bc_len, bc_len]; omega) ?_
  rw [← bc_app]
  exact h
theorem app_bytes {w : World} {ops : Array Oper} {rest : List Oper} {o : Oper} {a : Act} {Q : Exit → Act → World → Prop} (hgd : o.guard = none) (s x : Operand)
    (ho : o.op = .call { callee := .builtin .append, args := #[s, x], argTypes := #[23, 23] })
    (v : Value) (l : List Int) (hs : a.eval s = v) (hown : Own w 5 v (bc l)) (sv : Value) (m : List Int) (hx : a.eval x = sv) (hsrc : Rdv w sv (bc m)) (hb : l.length + m.length ≤ 140737488355328)
    (h : ∀ v' w', App w 5 v w' v' (bc (l ++ m)) → wpList Tryz.prog ops Q rest (a.put o.dst v') w') : wpList Tryz.prog ops Q (o :: rest) a w :=
  app_bytes_w (wanted_none hgd) s x ho v l hs hown sv m hx hsrc hb h
theorem app_start {w : World} {e : TypeId} {v : Value} {xs : List Value} (h : Own w e v xs) : App w e v w v xs := ⟨h, grown_of_below (Below.refl _ _) _, .inl rfl⟩
theorem ret_int {k : IntKind} {a b : Int} (h : a = b) : Ending.returned (.int k a) = .returned (.int k b) := by rw [h]
theorem below_alloc (w : World) (o : Obj) : Below w.heap.size w (w.alloc o) := (Below.refl _ _).alloc (Nat.le_refl _) o
theorem own_zero (w : World) (e : TypeId) : Own (w.alloc (.cells #[] e)) e (.slice (some ⟨w.heap.size, 0, none⟩) 0 0) (bc []) :=
  World.ownsRow_lit (base := 0) (size := 1) w #[] 0 (Nat.zero_le _) (by decide) rfl
theorem fr_at (B g n c : Nat) (h : B ≤ g) : Fr B (.slice (some ⟨g, 0, none⟩) n c) := fun k hk => by simp [Value.ownBlock] at hk; omega
/-- 'append([]byte{}, x...)': a copy. -/
theorem app_copy_w {w : World} {ops : Array Oper} {rest : List Oper} {o : Oper} {a : Act} {Q : Exit → Act → World → Prop} (hgd : Region.wanted o (yielded ops a.tmps) = true) (s x : Operand)
    (ho : o.op = .call { callee := .builtin .append, args := #[s, x], argTypes := #[23, 23] })
    (hs : a.eval s = .slice (some ⟨w.heap.size, 0, none⟩) 0 0) (sv : Value) (m : List Int) (hx : a.eval x = sv) (hsrc : Rd w sv m) (hb : m.length ≤ 140737488355328)
    (h : ∀ v' w', Own w' 5 v' (bc m) → Fr w.heap.size v' → Below w.heap.size w w' → wpList Tryz.prog ops Q rest (a.put o.dst v') w') : wpList Tryz.prog ops Q (o :: rest) a (w.alloc (.cells #[] 5)) := by
  refine app_bytes_w hgd s x ho (.slice (some ⟨w.heap.size, 0, none⟩) 0 0) [] hs (own_zero w 5) sv m hx (hsrc.below (below_alloc w _)).2 (by simp only [List.length_nil]; omega) ?_
  intro v' w' happ
  rw [List.nil_append] at happ
  have hp := happ.pre (below_alloc w _)
  exact h v' w' hp.own (happ.fr (fr_at _ _ _ _ (Nat.le_refl _)) (by simp)) ((below_alloc w _).trans (happ.below (fr_at _ _ _ _ (Nat.le_refl _)) (by simp)))
theorem app_copy {w : World} {ops : Array Oper} {rest : List Oper} {o : Oper} {a : Act} {Q : Exit → Act → World → Prop} (hgd : o.guard = none) (s x : Operand)
    (ho : o.op = .call { callee := .builtin .append, args := #[s, x], argTypes := #[23, 23] })
    (hs : a.eval s = .slice (some ⟨w.heap.size, 0, none⟩) 0 0) (sv : Value) (m : List Int) (hx : a.eval x = sv) (hsrc : Rd w sv m) (hb : m.length ≤ 140737488355328)
    (h : ∀ v' w', Own w' 5 v' (bc m) → Fr w.heap.size v' → Below w.heap.size w w' → wpList Tryz.prog ops Q rest (a.put o.dst v') w') : wpList Tryz.prog ops Q (o :: rest) a (w.alloc (.cells #[] 5)) :=
  app_copy_w (wanted_none hgd) s x ho hs sv m hx hsrc hb h
/-- Two stretches of a run, one behind the other. -/
theorem below_and {B : Nat} {w w1 w2 : World} (h : Below B w w1) (hB : B ≤ w.heap.size) (h' : Below w1.heap.size w1 w2) : Below B w w2 := h.trans (h'.mono (Nat.le_trans hB h.size))
set_option maxHeartbeats 400000 in
theorem appendInt_any (w : World) (v : Value) (l : List Int) (n : Int) (hown : Own w 5 v (bc l)) (h0 : 0 ≤ n) (h1 : n ≤ 9223372036854775807) (hl : l.length ≤ 140737488355300) :
    Calls Tryz.prog 119 #[v, .int .i64 n] w fun e w' => ∃ v', e = .returned v' ∧ App w 5 v w' v' (bc (l ++ enc n)) := by
  go_enter Tryz.func119, Tryz.ntmps119
  go_wp2_with fail
  go_loopw [0, 1] (fun s m wr => ∃ (q : Int) (done : List Int), 0 ≤ q ∧ q ≤ n ∧ m = .int .i64 q ∧ done ++ enc q = l ++ enc n ∧ App w 5 v wr s (bc done)) (fun _ m _ => (intOf m).toNat)
  case atStart => exact ⟨n, l, h0, Int.le_refl _, rfl, rfl, app_start hown⟩
  case round =>
    obtain ⟨q, done, hq0, hq1, rfl, hd, happ⟩ := hrel
    have hdl : done.length ≤ l.length + 10 := by
      have h2 := congrArg List.length hd
      have h3 := enc_len q
      have h4 := enc_len n
      simp only [List.length_append] at h2
      omega
    have HD := (show Hid (done ++ enc q = l ++ enc n) from hd)
    clear hd
    by_cases hq : 128 ≤ q
    · go_wp2_with (at_builtin; refine app_bytes rfl _ _ rfl u0 done rfl (World.ownsRow.alloc happ.own _) _ [q % 128 + 128] rfl (rdv_one wr _ _) (by simp only [List.length_cons, List.length_nil]; omega) ?_; intro v1 w1 happ1)
      go_roundw
      case rel => exact ⟨q / 128, done ++ [q % 128 + 128], by omega, by omega, rfl, by rw [List.append_assoc, List.singleton_append, ← enc_great q hq (by omega)]; exact HD.out, happ.trans (happ1.pre (below_alloc _ _))⟩
      case measure => simp [intOf]; omega
    · go_wp2_with (at_builtin; refine app_bytes rfl _ _ rfl u0 done rfl (World.ownsRow.alloc happ.own _) _ [q] rfl (rdv_one wr _ _) (by simp only [List.length_cons, List.length_nil]; omega) ?_; intro v1 w1 happ1)
      go_ret
      refine ⟨_, rfl, ?_⟩
      rw [← HD.out, enc_small q (by omega)]
      exact happ.trans (happ1.pre (below_alloc _ _))
/-- octet.Int. -/
theorem int_any (w : World) (n : Int) :
    Calls Tryz.prog 90 #[.int .i64 n] w fun e w' => ∃ v, e = .returned (.tuple #[v, .int .i64 (errI n)]) ∧ Own w' 5 v (bc (outI n)) ∧ Fr w.heap.size v ∧ Below w.heap.size w w' := by
  by_cases h0 : n < 0
  · have e1 := errI_no (.inl h0)
    have e2 := outI_no (.inl h0)
    rw [e1, e2]
    clear e1 e2
    go_enter Tryz.func90, Tryz.ntmps90
    go_wp2_with fail
    go_ret2
    exact ⟨_, rfl, Own.nil _ _, Fr.nil _, Below.refl _ _⟩
  by_cases h1 : 2147483647 < n
  · have e1 := errI_no (.inr h1)
    have e2 := outI_no (.inr h1)
    rw [e1, e2]
    clear e1 e2
    go_enter Tryz.func90, Tryz.ntmps90
    go_wp2_with fail
    go_ret2
    exact ⟨_, rfl, Own.nil _ _, Fr.nil _, Below.refl _ _⟩
  · rw [errI_yes (by omega) (by omega), outI_yes (by omega) (by omega)]
    go_enter Tryz.func90, Tryz.ntmps90
    go_wp2_with (go_at_call 119; refine (appendInt_any _ (.slice none 0 0) [] n (Own.nil _ _) (by omega) (by omega) (by simp)).mono ?_; rintro e w' ⟨v', rfl, happ⟩)
    go_ret2
    rw [List.nil_append] at happ
    exact ⟨_, rfl, happ.own, happ.fr (Fr.nil _) (Nat.le_refl _), happ.below (Fr.nil _) (Nat.le_refl _)⟩
/-- octet.groupsAt. -/
theorem groupsAt_any (w : World) (v : Value) (l : List Int) (p : Nat) (hrd : Rd w v l) (hlen : l.length ≤ 281474976710656) (hp : p ≤ l.length) :
    Calls Tryz.prog 109 #[v, .int .i64 p] w fun e w' => e = .returned (.int .i64 (cnt 5 (l.drop p))) ∧ w' = w := by
  by_cases hl : 0 < l.length
  · have hbyt := hrd.1
    obtain ⟨b, off, cap, rfl, hc1, hc2, hb, hcell⟩ := hrd.at hl
    have HC := (show Hid (∀ j, j < l.length → w.cell? ⟨b, off + j, none⟩ = some (.int .u8 (l.getD j 0))) from hcell)
    clear hcell hrd
    go_enter Tryz.func109, Tryz.ntmps109
    go_wp2_with fail
    go_loop [6] (fun i => ∃ k : Nat, k ≤ 5 ∧ i = .int .i64 k ∧ Hid (More (l.drop p) k)) (fun i => 5 - (intOf i).toNat)
    case atStart => exact ⟨0, by omega, rfl, More.zero _⟩
    case round =>
      obtain ⟨k, hk, rfl, hm⟩ := hrel
      by_cases hk5 : k < 5
      · by_cases hpk : p + k < l.length
        · obtain ⟨x, hx⟩ : ∃ x, x = l.getD (p + k) 0 := ⟨_, rfl⟩
          have hcx : w.cell? ⟨b, off + (p + k), none⟩ = some (.int .u8 x) := by rw [hx]; exact HC.out _ hpk
          have hxb := hbyt.getD (p + k)
          rw [← hx] at hxb
          have hx' : (l.drop p).getD k 0 = x := by rw [hx]; simp [List.getD]
          have HX := (show Hid ((l.drop p).getD k 0 = x) from hx')
          clear hx'
          have hdl : k < (l.drop p).length := by rw [List.length_drop]; omega
          clear hx
          by_cases hx : x < 128
          · go_wp2_with fail
            go_ret
            exact ⟨ret_int (by rw [cnt_hit 5 k (l.drop p) hm.out hk5 hdl (by rw [HX.out]; exact hx)]; omega), rfl⟩
          · go_wp2_with fail
            go_round
            case rel => exact ⟨k + 1, by omega, by go_num, hm.out.succ hdl (by rw [HX.out]; omega)⟩
            case measure => simp [intOf]; omega
        · go_wp2_with fail
          go_ret
          exact ⟨ret_int (by rw [cnt_end 5 k (l.drop p) hm.out hk (by rw [List.length_drop]; omega)]; rfl), rfl⟩
      · go_wp2_with fail
        go_ret
        exact ⟨ret_int (by rw [cnt_end 5 k (l.drop p) hm.out hk (by omega)]; rfl), rfl⟩
  · have hp0 : p = 0 := by omega
    subst hp0
    have hl0 : l = [] := List.eq_nil_of_length_eq_zero (by omega)
    subst hl0
    obtain ⟨ao, cap, rfl, hc⟩ := hrd.empty rfl
    clear hrd
    go_enter Tryz.func109, Tryz.ntmps109
    go_wp2_with fail
    refine wp_loop_rounds 1 ?_; rw [rounds_succ]
    go_wp2_with fail
    go_ret
    exact ⟨rfl, rfl⟩
theorem shift_val (x y : Int) (k : Nat) (hk : k ≤ 4) (y0 : 0 ≤ y) (y1 : y < 128 ^ k) : wrap64 (y + wrap64 (x % 128 * 2 ^ (7 * k))) = y + x % 128 * 128 ^ k := by
  have e : ((2 : Int) ^ (7 * k)) = 128 ^ k := by rw [Int.pow_mul]; rfl
  rw [e]
  have hp : (128 : Int) ^ k ≤ 128 ^ 4 ∧ 1 ≤ (128 : Int) ^ k := by
    rcases (show k = 0 ∨ k = 1 ∨ k = 2 ∨ k = 3 ∨ k = 4 from by omega) with h | h | h | h | h <;> subst h <;> decide
  generalize (128 : Int) ^ k = q at *
  obtain ⟨hp1, hp2⟩ := hp
  have m1 : 0 ≤ x % 128 * q := Int.mul_nonneg (by omega) (by omega)
  have m2 : x % 128 * q ≤ 128 * 128 ^ 4 := Int.mul_le_mul (by omega) hp1 (by omega) (by omega)
  generalize x % 128 * q = r at *
  rw [IntWalk.wrap64_in r ⟨by omega, by omega⟩, IntWalk.wrap64_in (y + r) ⟨by omega, by omega⟩]
/-- octet.joinGroups. -/
theorem joinGroups_any (w : World) (v : Value) (l : List Int) (hrd : Rd w v l) (hlen : l.length ≤ 5) :
    Calls Tryz.prog 110 #[v] w fun e w' => e = .returned (.int .i64 (val l)) ∧ w' = w := by
  by_cases hl : 0 < l.length
  · have hbyt := hrd.1
    obtain ⟨b, off, cap, rfl, hc1, hc2, hb, hcell⟩ := hrd.at hl
    have HC := (show Hid (∀ j, j < l.length → w.cell? ⟨b, off + j, none⟩ = some (.int .u8 (l.getD j 0))) from hcell)
    clear hcell hrd
    go_enter Tryz.func110, Tryz.ntmps110
    go_wp2_with fail
    go_loop [3, 8] (fun n i => ∃ k : Nat, k ≤ l.length ∧ i = .int .i64 k ∧ n = .int .i64 (val (l.take k))) (fun _ i => l.length - (intOf i).toNat)
    case atStart => exact ⟨0, by omega, rfl, rfl⟩
    case round =>
      obtain ⟨k, hk, rfl, rfl⟩ := hrel
      have hv := val_bd (l.take k)
      rw [List.length_take, Nat.min_eq_left hk] at hv
      by_cases hkl : k < l.length
      · obtain ⟨x, hx⟩ : ∃ x, x = l.getD k 0 := ⟨_, rfl⟩
        have hcx : w.cell? ⟨b, off + k, none⟩ = some (.int .u8 x) := by rw [hx]; exact HC.out _ hkl
        have hxb := hbyt.getD k
        rw [← hx] at hxb
        have hvt := val_take l k hkl
        rw [← hx] at hvt
        have HV := (show Hid (val (l.take (k + 1)) = val (l.take k) + x % 128 * 128 ^ k) from hvt)
        clear hx hvt
        generalize val (l.take k) = y at *
        have hk4 : k ≤ 4 := by omega
        go_wp2_with fail
        go_round
        case rel => exact ⟨k + 1, by omega, by go_num, by rw [shift_val x y k hk4 hv.1 hv.2, HV.out]⟩
        case measure => simp [intOf]; omega
      · go_wp2_with fail
        go_ret
        have e : k = l.length := by omega
        subst e
        rw [List.take_length]
        exact ⟨rfl, rfl⟩
  · have hl0 : l = [] := List.eq_nil_of_length_eq_zero (by omega)
    subst hl0
    obtain ⟨ao, cap, rfl, hc⟩ := hrd.empty rfl
    clear hrd
    go_enter Tryz.func110, Tryz.ntmps110
    go_wp2_with fail
    refine wp_loop_rounds 1 ?_; rw [rounds_succ]
    go_wp2_with fail
    go_ret
    exact ⟨rfl, rfl⟩
/-- A part of a slice of bytes. -/
theorem Rd.part {w : World} {b off : Nat} {l : List Int} (hb : Byt l) (hc : ∀ j, j < l.length → w.cell? ⟨b, off + j, none⟩ = some (.int .u8 (l.getD j 0)))
    (lo n : Nat) (h : lo + n ≤ l.length) (c : Nat) (hc1 : n ≤ c) (hc2 : c ≤ maxLen) : Rd w (.slice (some ⟨b, off + lo, none⟩) n c) ((l.drop lo).take n) := by
  have hlen : (bc ((l.drop lo).take n)).length = n := by rw [bc_len, List.length_take, List.length_drop]; omega
  refine ⟨(hb.drop _).take _, some ⟨b, off + lo, none⟩, c, by rw [hlen], by rw [hlen]; exact hc1, hc2, fun e => (by cases e), fun a ha j u hu => ?_⟩
  cases ha
  have hj : j < n := by
    rcases Nat.lt_or_ge j n with h | h
    · exact h
    · rw [List.getElem?_eq_none (by omega)] at hu; cases hu
  have e : (⟨b, off + lo, none⟩ : Addr).add j = ⟨b, off + (lo + j), none⟩ := by unfold Addr.add; split <;> simp_all [Nat.add_assoc]
  rw [e, hc (lo + j) (by omega)]
  rw [bc_getD _ _ (by rw [List.length_take, List.length_drop]; omega)] at hu
  rw [← hu]
  simp [List.getD, hj]
set_option maxHeartbeats 400000 in
/-- octet.GetInt, inside the bytes. -/
theorem getInt_in (w : World) (v : Value) (l : List Int) (p : Nat) (hrd : Rd w v l) (hlen : l.length ≤ 281474976710656) (hp : p ≤ l.length) :
    Calls Tryz.prog 65 #[v, .int .i64 p] w fun e w' => e = .returned (.tuple #[.int .i64 (getI l p).1, .int .i64 (getI l p).2.1, .int .i64 (getI l p).2.2]) ∧ w' = w := by
  have hcl := cnt_le 5 (l.drop p)
  rw [List.length_drop] at hcl
  obtain ⟨ao, n, cap, rfl⟩ : ∃ ao n cap, v = .slice ao n cap := by obtain ⟨_, ao, cap, rfl, _⟩ := hrd; exact ⟨_, _, _, rfl⟩
  obtain rfl : n = l.length := by obtain ⟨_, ao', cap', e, _⟩ := hrd; injection e with _ e _; rw [e, bc_len]
  by_cases h0 : cnt 5 (l.drop p) = 0
  · rw [getI_none p hp (by unfold num; rw [if_pos h0])]
    go_enter Tryz.func65, Tryz.ntmps65
    go_wp2_with (go_at_call 109; refine (groupsAt_any _ _ l p hrd hlen hp).mono ?_; rintro e w' ⟨rfl, rfl⟩)
    go_ret3
    exact ⟨rfl, rfl⟩
  · have hbyt := hrd.1
    obtain ⟨b, off, cap', e, hc1, hc2, hb, hcell⟩ := hrd.at (by omega)
    injection e with e1 _ e2
    subst e1 e2
    obtain ⟨k, hk⟩ : ∃ k, cnt 5 (l.drop p) = k := ⟨_, rfl⟩
    have hnum : num (l.drop p) = if 1 < k ∧ (l.drop p).getD (k - 1) 0 = 0 then none else if 2147483647 < val ((l.drop p).take k) then none else some (val ((l.drop p).take k), k) := by
      unfold num; rw [if_neg h0, hk]
    have hgr := groupsAt_any w _ l p hrd hlen hp
    rw [hk] at hgr hcl h0
    have hy : (l.drop p).getD (k - 1) 0 = l.getD (p + k - 1) 0 := by simp [List.getD]; congr 2; omega
    have hcy : w.cell? ⟨b, off + (p + k - 1), none⟩ = some (.int .u8 (l.getD (p + k - 1) 0)) := hcell _ (by omega)
    have hyb := hbyt.getD (p + k - 1)
    rw [hy] at hnum
    clear hy
    generalize l.getD (p + k - 1) 0 = y at *
    have hpart : Rd w (.slice (some ⟨b, off + p, none⟩) k (cap - p)) ((l.drop p).take k) := Rd.part hbyt hcell p k (by omega) _ (by omega) (by unfold maxLen at *; omega)
    have hjoin := joinGroups_any w _ _ hpart (by rw [List.length_take]; omega)
    clear hcell hpart hbyt hrd hk
    have hvb := val_bd ((l.drop p).take k)
    rw [List.length_take] at hvb
    generalize val ((l.drop p).take k) = z at *
    have HG := (show Hid (∀ _ : Unit, Calls Tryz.prog 109 #[.slice (some ⟨b, off, none⟩) l.length cap, .int .i64 p] w fun e w' => e = .returned (.int .i64 k) ∧ w' = w) from fun _ => hgr)
    have HJ := (show Hid (∀ _ : Unit, Calls Tryz.prog 110 #[.slice (some ⟨b, off + p, none⟩) k (cap - p)] w fun e w' => e = .returned (.int .i64 z) ∧ w' = w) from fun _ => hjoin)
    clear hgr hjoin
    by_cases hk1 : 1 < k
    · by_cases hy0 : y = 0
      · rw [getI_none p hp (by rw [hnum, if_pos ⟨hk1, hy0⟩])]
        clear hnum
        subst hy0
        go_enter Tryz.func65, Tryz.ntmps65
        go_wp2_with (go_at_call 109; refine (HG.out ()).mono ?_; rintro e w' ⟨rfl, rfl⟩)
        go_ret3
        exact ⟨rfl, rfl⟩
      · have hyy : (y == 0) = false := by simp [hy0]
        by_cases hz : 2147483647 < z
        · rw [getI_none p hp (by rw [hnum, if_neg (fun h => hy0 h.2), if_pos hz])]
          clear hnum hy0
          go_enter Tryz.func65, Tryz.ntmps65
          go_wp2_with (first | (go_at_call 109; refine (HG.out ()).mono ?_; rintro e w' ⟨rfl, rfl⟩) | (go_at_call 110; refine (HJ.out ()).mono ?_; rintro e w' ⟨rfl, rfl⟩))
          go_ret3
          exact ⟨rfl, rfl⟩
        · rw [getI_some p hp (by rw [hnum, if_neg (fun h => hy0 h.2), if_neg hz])]
          clear hnum hy0
          go_enter Tryz.func65, Tryz.ntmps65
          go_wp2_with (first | (go_at_call 109; refine (HG.out ()).mono ?_; rintro e w' ⟨rfl, rfl⟩) | (go_at_call 110; refine (HJ.out ()).mono ?_; rintro e w' ⟨rfl, rfl⟩))
          go_ret3
          exact ⟨rfl, rfl⟩
    · have hk2 : k = 1 := by omega
      have hkd : decide ((1 : Int) < (k : Int)) = false := by simp; omega
      by_cases hz : 2147483647 < z
      · rw [getI_none p hp (by rw [hnum, if_neg (fun h => hk1 h.1), if_pos hz])]
        clear hnum hk2
        go_enter Tryz.func65, Tryz.ntmps65
        go_wp2_with (first | (go_at_call 109; refine (HG.out ()).mono ?_; rintro e w' ⟨rfl, rfl⟩) | (go_at_call 110; refine (HJ.out ()).mono ?_; rintro e w' ⟨rfl, rfl⟩))
        go_ret3
        exact ⟨rfl, rfl⟩
      · rw [getI_some p hp (by rw [hnum, if_neg (fun h => hk1 h.1), if_neg hz])]
        clear hnum hk2
        go_enter Tryz.func65, Tryz.ntmps65
        go_wp2_with (first | (go_at_call 109; refine (HG.out ()).mono ?_; rintro e w' ⟨rfl, rfl⟩) | (go_at_call 110; refine (HJ.out ()).mono ?_; rintro e w' ⟨rfl, rfl⟩))
        go_ret3
        exact ⟨rfl, rfl⟩
/-- octet.GetInt. -/
theorem getInt_any (w : World) (v : Value) (l : List Int) (p : Int) (hrd : Rd w v l) (hlen : l.length ≤ 281474976710656) :
    Calls Tryz.prog 65 #[v, .int .i64 p] w fun e w' => e = .returned (.tuple #[.int .i64 (getI l p).1, .int .i64 (getI l p).2.1, .int .i64 (getI l p).2.2]) ∧ w' = w := by
  by_cases h0 : 0 ≤ p ∧ p ≤ (l.length : Int)
  · obtain ⟨q, rfl⟩ := Int.eq_ofNat_of_zero_le h0.1
    exact getInt_in w v l q hrd hlen (by omega)
  · obtain ⟨ao, n, cap, rfl⟩ : ∃ ao n cap, v = .slice ao n cap := by obtain ⟨_, ao, cap, rfl, _⟩ := hrd; exact ⟨_, _, _, rfl⟩
    obtain rfl : n = l.length := by obtain ⟨_, ao', cap', e, _⟩ := hrd; injection e with _ e _; rw [e, bc_len]
    clear hrd
    rw [getI_out (by omega)]
    by_cases h1 : p < 0
    · clear h0
      go_enter Tryz.func65, Tryz.ntmps65
      go_wp2_with fail
      go_ret3
      exact ⟨rfl, rfl⟩
    · have h2 : (l.length : Int) < p := by omega
      clear h0
      go_enter Tryz.func65, Tryz.ntmps65
      go_wp2_with fail
      go_ret3
      exact ⟨rfl, rfl⟩
/-- Two texts are the same just if their bytes are. -/
theorem str_eq {a b : List Int} (ha : Byt a) (hb : Byt b) : ((strOfNums a).toList == (strOfNums b).toList) = decide (a = b) := by
  rw [Bool.eq_iff_iff]
  simp only [beq_iff_eq, decide_eq_true_eq]
  refine ⟨fun h1 => ?_, fun h => by rw [h]⟩
  rw [ByteArray.toList_eq, ByteArray.toList_eq, strOfNums_data, strOfNums_data] at h1
  induction a generalizing b with
  | nil => cases b with
    | nil => rfl
    | cons y b => simp at h1
  | cons x a ih => cases b with
    | nil => simp at h1
    | cons y b =>
      simp only [List.map_cons, List.cons.injEq] at h1
      have hx := ha x (by simp)
      have hy := hb y (by simp)
      have e := congrArg UInt8.toNat h1.1
      simp at e
      rw [ih (fun z hz => ha z (by simp [hz])) (fun z hz => hb z (by simp [hz])) h1.2]
      congr 1
      omega
/-- What 'string(b)' makes of a slice of bytes. -/
theorem run_str {w : World} {v : Value} {l : List Int} (h : Rd w v l) : (convert 23 9 v).run Tryz.prog w = .ok (.string (strOfNums l)) w := by
  by_cases hl : 0 < l.length
  · obtain ⟨b, off, cap, rfl, hc1, hc2, hb, hcell⟩ := h.at hl
    exact run_convert_bytes_arg w 23 5 Tryz.underlying23 Tryz.underlying5 b off l.length cap l rfl hcell 9 Tryz.underlying9
  · have hl0 : l = [] := List.eq_nil_of_length_eq_zero (by omega)
    subst hl0
    obtain ⟨ao, cap, rfl, hc⟩ := h.empty rfl
    have e : strOfNums [] = ByteArray.empty := rfl
    rw [e]
    cases ao with
    | none => exact run_convert_bytes_nil w 23 5 Tryz.underlying23 Tryz.underlying5 0 cap 9 Tryz.underlying9
    | some a =>
      rw [run_convert_bytes_string w 23 9 5 (some a) 0 cap Tryz.underlying23 Tryz.underlying5 Tryz.underlying9, run_bytesToString w a 0 cap [] (by simp [loadCells, loadCellsFrom])]
      rfl
/-- catenaryref01.Same. -/
theorem same_any (w : World) (u v : Value) (a b : List Int) (ha : Rd w u a) (hb : Rd w v b) :
    Calls Tryz.prog 11 #[u, v] w fun e w' => e = .returned (.bool (decide (a = b))) ∧ w' = w := by
  have h1 := run_str ha
  have h2 := run_str hb
  have h3 := str_eq ha.1 hb.1
  clear ha hb
  rw [← h3]
  clear h3
  go_enter Tryz.func11, Tryz.ntmps11
  go_wp2_with fail
  go_ret
  exact ⟨rfl, rfl⟩
end
end Go.Proofs.YtgjepofinpmcpaaGreatDoor
