/- The walks over package octet: numbers. -/
import Derived.WalkKit
import Derived.Laws.AppendOwnNone
import Derived.Laws.BytesArg
import Derived.Test.YtgjepofinpmcpaaGreatDoorProg
import Derived.WalkSpells
import Derived.WalkLawsBesides
import Derived.KernelRfl
namespace Go.Proofs.YtgjepofinpmcpaaGreatDoor
section
theorem zN {n : Nat} : n ≤ n := Nat.le_refl n
namespace Oct
def zIy : Nat → Int → List Int
  | 0, n => [n]
  | f + 1, n => if 128 ≤ n then (n % 128 + 128) :: zIy f (n / 128) else [n]
def enc (n : Int) : List Int := zIy 9 n
def cnt : Nat → List Int → Nat
  | 0, _ => 0
  | _ + 1, [] => 0
  | f + 1, x :: r => if x < 128 then 1 else if cnt f r = 0 then 0 else cnt f r + 1
def val : List Int → Int
  | [] => 0
  | x :: r => x % 128 + 128 * val r
def num (l : List Int) : Option (Int × Nat) :=
  if cnt 5 l = 0 then none
  else if 1 < cnt 5 l ∧ l.getD (cnt 5 l - 1) 0 = 0 then none
  else if 2147483647 < val (l.take (cnt 5 l)) then none
  else some (val (l.take (cnt 5 l)), cnt 5 l)
def Byt (l : List Int) : Prop := ∀ x ∈ l, 0 ≤ x ∧ x ≤ 255
theorem Byt.nil : Byt [] := fun _ h => by cases h
theorem Byt.app {a b : List Int} (ha : Byt a) (hb : Byt b) : Byt (a ++ b) := fun x hx => by
  rcases List.mem_append.1 hx with h | h
  · exact ha x h
  · exact hb x h
theorem Byt.left {a b : List Int} (h : Byt (a ++ b)) : Byt a := fun x hx => h x (List.mem_append.2 (.inl hx))
theorem Byt.right {a b : List Int} (h : Byt (a ++ b)) : Byt b := fun x hx => h x (List.mem_append.2 (.inr hx))
theorem Byt.take {a : List Int} (h : Byt a) (k : Nat) : Byt (a.take k) := fun x hx => h x (List.mem_of_mem_take hx)
theorem Byt.drop {a : List Int} (h : Byt a) (k : Nat) : Byt (a.drop k) := fun x hx => h x (List.mem_of_mem_drop hx)
theorem Byt.one {x : Int} (h0 : 0 ≤ x) (h1 : x ≤ 255) : Byt [x] := fun y hy => by simp at hy; subst hy; exact ⟨h0, h1⟩
theorem Byt.getD {l : List Int} (h : Byt l) (j : Nat) : 0 ≤ l.getD j 0 ∧ l.getD j 0 ≤ 255 := by
  rcases Nat.lt_or_ge j l.length with hj | hj
  · have := h (l.getD j 0) (by simp [List.getD, List.getElem?_eq_getElem hj])
    exact this
  · simp [List.getD, List.getElem?_eq_none hj]
theorem zB4 (f : Nat) (n : Int) (h : n < 128) : zIy f n = [n] := by
  cases f with
  | zero => rfl
  | succ f => simp [zIy]; omega
theorem zBv (f : Nat) (n : Int) (h : 128 ≤ n) : zIy (f + 1) n = (n % 128 + 128) :: zIy f (n / 128) := by
  simp [zIy]; omega
theorem zEi : ∀ (f g : Nat) (n : Int), 0 ≤ n → n < 128 ^ (f + 1) → f ≤ g → zIy g n = zIy f n
  | 0, g, n, h0, h, _ => by rw [zB4 _ _ (by omega), zB4 _ _ (by omega)]
  | f + 1, 0, n, _, _, h => by omega
  | f + 1, g + 1, n, h0, h, hg => by
    by_cases hn : 128 ≤ n
    · have e : (128 : Int) ^ (f + 1 + 1) = 128 ^ (f + 1) * 128 := Int.pow_succ ..
      rw [zBv _ _ hn, zBv _ _ hn, zEi f g (n / 128) (by omega) (by omega) (by omega)]
    · rw [zB4 _ _ (by omega), zB4 _ _ (by omega)]
theorem zOi : ∀ (f : Nat) (n : Int), 0 ≤ n → n < 128 ^ (f + 1) → Byt (zIy f n)
  | 0, n, h0, h => by rw [zB4 _ _ (by omega)]; exact Byt.one h0 (by omega)
  | f + 1, n, h0, h => by
    by_cases hn : 128 ≤ n
    · have e : (128 : Int) ^ (f + 1 + 1) = 128 ^ (f + 1) * 128 := Int.pow_succ ..
      rw [zBv _ _ hn]
      exact Byt.app (Byt.one (x := n % 128 + 128) (by omega) (by omega)) (zOi f (n / 128) (by omega) (by omega))
    · rw [zB4 _ _ (by omega)]; exact Byt.one h0 (by omega)
theorem zEv : ∀ (f : Nat) (n : Int), 1 ≤ (zIy f n).length ∧ (zIy f n).length ≤ f + 1
  | 0, n => by simp [zIy]
  | f + 1, n => by
    by_cases hn : 128 ≤ n
    · rw [zBv _ _ hn]; have := zEv f (n / 128); simp; omega
    · rw [zB4 _ _ (by omega)]; simp
theorem zFw (n : Int) (h : n < 128) : enc n = [n] := zB4 _ _ h
theorem zLu (n : Int) (h : 128 ≤ n) (h1 : n ≤ 9223372036854775807) : enc n = (n % 128 + 128) :: enc (n / 128) := by
  unfold enc
  rw [zBv _ _ h, zEi 8 9 (n / 128) (by omega) (by omega) (by omega)]
theorem zGm (n : Int) (h0 : 0 ≤ n) (h1 : n ≤ 9223372036854775807) : Byt (enc n) := zOi 9 n h0 (by omega)
theorem zB7 (n : Int) : 1 ≤ (enc n).length ∧ (enc n).length ≤ 10 := zEv 9 n
theorem enc_len5 (n : Int) (h0 : 0 ≤ n) (h1 : n ≤ 2147483647) : (enc n).length ≤ 5 := by
  unfold enc
  rw [zEi 4 9 n h0 (by omega) (by omega)]
  exact (zEv 4 n).2
/-! Reading -/
theorem zS4 : ∀ (f : Nat) (l : List Int), cnt f l ≤ f ∧ cnt f l ≤ l.length
  | 0, l => by simp [cnt]
  | f + 1, [] => by simp [cnt]
  | f + 1, x :: r => by
    have := zS4 f r
    simp only [cnt]
    split
    · simp
    · split <;> simp <;> omega
def zLh (l : List Int) (i : Nat) : Prop := ∀ j, j < i → j < l.length ∧ 128 ≤ l.getD j 0
theorem zLh.zero (l : List Int) : zLh l 0 := fun _ h => absurd h (Nat.not_lt_zero _)
theorem zLh.succ {l : List Int} {i : Nat} (h : zLh l i) (hi : i < l.length) (hg : 128 ≤ l.getD i 0) : zLh l (i + 1) := fun j hj => by
  rcases Nat.lt_or_ge j i with hh | hh
  · exact h j hh
  · have : j = i := by omega
    subst this; exact ⟨hi, hg⟩
theorem zLh.tail {x : Int} {r : List Int} {i : Nat} (h : zLh (x :: r) (i + 1)) : 128 ≤ x ∧ zLh r i :=
  ⟨by simpa using (h 0 (by omega)).2, fun j hj => by have := h (j + 1) (by omega); simpa using this⟩
theorem zNp : ∀ (f i : Nat) (l : List Int), zLh l i → i < f → i < l.length → l.getD i 0 < 128 → cnt f l = i + 1
  | 0, i, l, _, h, _, _ => by omega
  | f + 1, i, [], _, _, h, _ => by simp at h
  | f + 1, 0, x :: r, _, _, _, h => by simp at h; simp [cnt, h]
  | f + 1, i + 1, x :: r, h, hi, hl, hg => by
    obtain ⟨h1, h2⟩ := h.tail
    have e := zNp f i r h2 (by omega) (by simpa using hl) (by simpa using hg)
    simp only [cnt]
    rw [if_neg (by omega), e]
    simp
theorem zI0 : ∀ (f i : Nat) (l : List Int), zLh l i → i ≤ f → (i = f ∨ l.length ≤ i) → cnt f l = 0
  | 0, i, l, _, _, _ => rfl
  | f + 1, i, [], _, _, _ => rfl
  | f + 1, 0, x :: r, _, _, h => by simp at h
  | f + 1, i + 1, x :: r, h, hi, hl => by
    obtain ⟨h1, h2⟩ := h.tail
    have e := zI0 f i r h2 (by omega) (by simp at hl; omega)
    simp only [cnt]
    rw [if_neg (by omega), e]
    simp
theorem zPm : ∀ (l : List Int) (x : Int), val (l ++ [x]) = val l + x % 128 * 128 ^ l.length
  | [], x => by simp [val]
  | y :: r, x => by
    have e := zPm r x
    simp only [List.cons_append, val, List.length_cons]
    rw [e, Int.pow_succ, Int.mul_add, Int.add_assoc]
    congr 2
    rw [Int.mul_left_comm, Int.mul_comm 128]
theorem zSv (l : List Int) (k : Nat) (h : k < l.length) : l.take (k + 1) = l.take k ++ [l.getD k 0] := by
  rw [List.take_succ_eq_append_getElem h]
  simp [List.getD, List.getElem?_eq_getElem h]
theorem zLd (l : List Int) (k : Nat) (h : k < l.length) : val (l.take (k + 1)) = val (l.take k) + l.getD k 0 % 128 * 128 ^ k := by
  rw [zSv l k h, zPm, List.length_take, Nat.min_eq_left (by omega)]
theorem zH1 : ∀ (l : List Int), 0 ≤ val l ∧ val l < 128 ^ l.length
  | [] => by simp [val]
  | x :: r => by
    have := zH1 r
    simp only [val, List.length_cons]
    rw [Int.pow_succ]
    omega
theorem zNq : ∀ (f : Nat) (l : List Int) (k : Nat), Byt l → zLh l k → k < l.length → l.length = k + 1 → l.getD k 0 < 128 → k ≤ f → (k = 0 ∨ l.getD k 0 ≠ 0) → zIy f (val l) = l
  | f, [x], 0, hb, _, _, _, hg, _, _ => by
    have := hb x (by simp)
    simp at hg
    have e : val [x] = x := by simp [val]; omega
    rw [e, zB4 _ _ hg]
  | 0, _, k + 1, _, _, _, _, _, h, _ => by omega
  | f + 1, x :: r, k + 1, hb, hm, hl, hl', hg, hf, hz => by
    obtain ⟨h1, h2⟩ := hm.tail
    have hx := hb x (by simp)
    have hbr : Byt r := fun y hy => hb y (by simp [hy])
    have hg' : r.getD k 0 < 128 := by simpa using hg
    have hz' : r.getD k 0 ≠ 0 := by simpa using hz
    have e := zNq f r k hbr h2 (by simpa using hl) (by simpa using hl') hg' (by omega) (.inr hz')
    have hv := zH1 r
    have hpos : 1 ≤ val r := by
      rcases Int.lt_or_le 0 (val r) with h | h
      · omega
      · exfalso
        have h0 : val r = 0 := by omega
        rw [h0] at e
        rw [zB4 _ _ (by omega)] at e
        have hr : r = [0] := e.symm
        subst hr
        simp at hl'
        subst hl'
        simp at hz'
    have h2 : 128 ≤ val (x :: r) := by simp only [val]; omega
    rw [zBv _ _ h2]
    have e1 : val (x :: r) / 128 = val r := by simp only [val]; omega
    have e2 : val (x :: r) % 128 + 128 = x := by simp only [val]; omega
    rw [e1, e2, e]
  | f, [], k, _, _, h, _, _, _, _ => by simp at h
  | f, x :: y :: r, 0, _, _, _, h, _, _, _ => by simp at h
theorem zTg : ∀ (f : Nat) (n : Int), 0 ≤ n → n < 128 ^ (f + 1) → val (zIy f n) = n
  | 0, n, h0, h => by rw [zB4 _ _ (by omega)]; simp [val]; omega
  | f + 1, n, h0, h => by
    by_cases hn : 128 ≤ n
    · have e : (128 : Int) ^ (f + 1 + 1) = 128 ^ (f + 1) * 128 := Int.pow_succ ..
      rw [zBv _ _ hn]
      simp only [val]
      rw [zTg f (n / 128) (by omega) (by omega)]
      omega
    · rw [zB4 _ _ (by omega)]; simp [val]; omega
theorem zTq : ∀ (f g : Nat) (n : Int) (r : List Int), 0 ≤ n → n < 128 ^ (f + 1) → f + 1 ≤ g → cnt g (zIy f n ++ r) = (zIy f n).length
  | f, 0, n, r, _, _, h => by omega
  | 0, g + 1, n, r, h0, h, _ => by
    rw [zB4 _ _ (by omega)]
    simp [cnt]; omega
  | f + 1, g + 1, n, r, h0, h, hg => by
    by_cases hn : 128 ≤ n
    · have e : (128 : Int) ^ (f + 1 + 1) = 128 ^ (f + 1) * 128 := Int.pow_succ ..
      rw [zBv _ _ hn]
      have e2 := zTq f g (n / 128) r (by omega) (by omega) (by omega)
      have h1 := (zEv f (n / 128)).1
      simp only [List.cons_append, cnt, List.length_cons]
      rw [if_neg (by omega), e2, if_neg (by omega)]
    · rw [zB4 _ _ (by omega)]
      simp [cnt]; omega
theorem zOp : ∀ (f : Nat) (n : Int), 1 ≤ n → (zIy f n).getD ((zIy f n).length - 1) 0 ≠ 0
  | 0, n, h => by simp [zIy]; omega
  | f + 1, n, h => by
    by_cases hn : 128 ≤ n
    · rw [zBv _ _ hn]
      have e := zOp f (n / 128) (by omega)
      have h1 := (zEv f (n / 128)).1
      obtain ⟨k, hk⟩ : ∃ k, (zIy f (n / 128)).length = k + 1 := ⟨_, (Nat.sub_add_cancel h1).symm⟩
      rw [hk] at e
      simp only [List.length_cons, hk, Nat.add_sub_cancel, List.getD_cons_succ] at e ⊢
      exact e
    · rw [zB4 _ _ (by omega)]; simp; omega
theorem zKc (n : Int) (r : List Int) (h0 : 0 ≤ n) (h1 : n ≤ 2147483647) : num (enc n ++ r) = some (n, (enc n).length) := by
  have e5 : enc n = zIy 4 n := zEi 4 9 n h0 (by omega) (by omega)
  have hc : cnt 5 (enc n ++ r) = (enc n).length := by rw [e5]; exact zTq 4 5 n r h0 (by omega) (by omega)
  have hl := zB7 n
  have hv : val ((enc n ++ r).take (enc n).length) = n := by
    rw [List.take_left, e5]; exact zTg 4 n h0 (by omega)
  unfold num
  rw [hc, if_neg (by omega), if_neg, hv, if_neg (by omega)]
  intro h
  obtain ⟨h2, h3⟩ := h
  have hn : 1 ≤ n := by
    rcases Int.lt_or_le n 128 with h | h
    · rw [zFw n h] at h2; simp at h2
    · omega
  have := zOp 9 n hn
  have e3 : (enc n ++ r).getD ((enc n).length - 1) 0 = (enc n).getD ((enc n).length - 1) 0 := by
    simp only [List.getD]
    rw [List.getElem?_append_left (by omega)]
  rw [e3] at h3
  exact this h3
theorem zOf : ∀ (f : Nat) (l : List Int), cnt f l ≠ 0 → zLh l (cnt f l - 1) ∧ l.getD (cnt f l - 1) 0 < 128
  | 0, l, h => by simp [cnt] at h
  | f + 1, [], h => by simp [cnt] at h
  | f + 1, x :: r, h => by
    by_cases hx : x < 128
    · have e : cnt (f + 1) (x :: r) = 1 := by simp [cnt, hx]
      rw [e]
      exact ⟨zLh.zero _, by simpa using hx⟩
    · by_cases hr : cnt f r = 0
      · exact absurd (by simp [cnt, hr, hx]) h
      · have e : cnt (f + 1) (x :: r) = cnt f r + 1 := by simp [cnt, hr, hx]
        obtain ⟨h1, h2⟩ := zOf f r hr
        rw [e, Nat.add_sub_cancel]
        obtain ⟨k, hk⟩ : ∃ k, cnt f r = k + 1 := ⟨_, (Nat.sub_add_cancel (Nat.pos_of_ne_zero hr)).symm⟩
        rw [hk, Nat.add_sub_cancel] at h1 h2
        rw [hk]
        refine ⟨fun j hj => ?_, by simpa using h2⟩
        cases j with
        | zero => exact ⟨by simp, by simp; omega⟩
        | succ j => have := h1 j (by omega); simpa using this
theorem zF3 {l : List Int} {n : Int} {k : Nat} (hb : Byt l) (h : num l = some (n, k)) :
    0 ≤ n ∧ n ≤ 2147483647 ∧ 1 ≤ k ∧ k ≤ 5 ∧ k ≤ l.length ∧ l.take k = enc n := by
  unfold num at h
  by_cases h0 : cnt 5 l = 0
  · rw [if_pos h0] at h; cases h
  rw [if_neg h0] at h
  by_cases h1 : 1 < cnt 5 l ∧ l.getD (cnt 5 l - 1) 0 = 0
  · rw [if_pos h1] at h; cases h
  rw [if_neg h1] at h
  by_cases h2 : 2147483647 < val (l.take (cnt 5 l))
  · rw [if_pos h2] at h; cases h
  rw [if_neg h2] at h
  simp only [Option.some.injEq, Prod.mk.injEq] at h
  obtain ⟨rfl, rfl⟩ := h
  have hc := zS4 5 l
  have hv := zH1 (l.take (cnt 5 l))
  refine ⟨hv.1, by omega, by omega, hc.1, hc.2, ?_⟩
  obtain ⟨m1, m2⟩ := zOf 5 l h0
  have hlen : (l.take (cnt 5 l)).length = cnt 5 l := by rw [List.length_take]; omega
  have hg : ∀ j, j < cnt 5 l → (l.take (cnt 5 l)).getD j 0 = l.getD j 0 := fun j hj => by
    simp [List.getD, hj]
  have e := zNq 9 (l.take (cnt 5 l)) (cnt 5 l - 1) (hb.take _)
    (fun j hj => by rw [hg j (by omega), hlen]; exact ⟨by omega, (m1 j hj).2⟩) (by omega) (by omega)
    (by rw [hg _ (by omega)]; exact m2) (by omega)
    (by rw [hg _ (by omega)]; omega)
  exact e.symm
/-! The calls' answers -/
def okI (n : Int) : Bool := decide (0 ≤ n ∧ n ≤ 2147483647)
def zRd (n : Int) : Int := if okI n = true then 0 else 14
def zCm (n : Int) : List Int := if okI n = true then enc n else []
theorem zBm {n : Int} (h0 : 0 ≤ n) (h1 : n ≤ 2147483647) : okI n = true := by simp [okI]; omega
theorem okI_no {n : Int} (h : n < 0 ∨ 2147483647 < n) : okI n = false := by simp [okI]; omega
theorem zGc {n : Int} (h : okI n = true) : 0 ≤ n ∧ n ≤ 2147483647 := by simpa [okI] using h
theorem zF0 {n : Int} (h0 : 0 ≤ n) (h1 : n ≤ 2147483647) : zRd n = 0 := by simp [zRd, zBm h0 h1]
theorem zI4 {n : Int} (h : n < 0 ∨ 2147483647 < n) : zRd n = 14 := by simp [zRd, okI_no h]
theorem zCj {n : Int} (h0 : 0 ≤ n) (h1 : n ≤ 2147483647) : zCm n = enc n := by simp [zCm, zBm h0 h1]
theorem zLe {n : Int} (h : n < 0 ∨ 2147483647 < n) : zCm n = [] := by simp [zCm, okI_no h]
theorem zHg (n : Int) : Byt (zCm n) := by
  unfold zCm
  split
  · next h => have := zGc h; exact zGm n this.1 (by omega)
  · exact Byt.nil
def zE6 (l : List Int) (p : Int) : Int × Int × Int :=
  if p < 0 ∨ (l.length : Int) < p then (0, 0, 11)
  else match num (l.drop p.toNat) with
    | none => (0, 0, 11)
    | some (n, k) => (n, p + k, 0)
theorem zKb {l : List Int} {p : Int} (h : p < 0 ∨ (l.length : Int) < p) : zE6 l p = (0, 0, 11) := by simp [zE6, h]
theorem zSm {l : List Int} (p : Nat) (h : p ≤ l.length) : zE6 l p = match num (l.drop p) with
    | none => (0, 0, 11)
    | some (n, k) => (n, (p : Int) + k, 0) := by
  unfold zE6
  rw [if_neg (by omega), Int.toNat_natCast]
theorem zBu {l : List Int} (p : Nat) (h : p ≤ l.length) (hn : num (l.drop p) = none) : zE6 l p = (0, 0, 11) := by rw [zSm p h, hn]
theorem zD3 {l : List Int} (p : Nat) (h : p ≤ l.length) {n : Int} {k : Nat} (hn : num (l.drop p) = some (n, k)) : zE6 l p = (n, (p : Int) + k, 0) := by rw [zSm p h, hn]
theorem len_own (l : List Int) (k : Nat) (hb : Byt l) (hm : zLh l k) (hl : k < l.length) (hx : l.getD k 0 < 128) (hk : k ≤ 4) (hz : k = 0 ∨ l.getD k 0 ≠ 0) : (enc (val (l.take (k + 1)))).length = k + 1 := by
  have hlen : (l.take (k + 1)).length = k + 1 := by rw [List.length_take]; omega
  have hg : ∀ j, j < k + 1 → (l.take (k + 1)).getD j 0 = l.getD j 0 := fun j hj => by simp [List.getD, hj]
  have e := zNq 9 (l.take (k + 1)) k (hb.take _) (fun j hj => by rw [hg j (by omega), hlen]; exact ⟨by omega, (hm j hj).2⟩) (by omega) hlen (by rw [hg _ (by omega)]; exact hx) (by omega) (by rw [hg _ (by omega)]; exact hz)
  unfold enc
  rw [e, hlen]
theorem zSa (l : List Int) (k : Nat) (hl : k < l.length) (hk : k ≤ 4) (h1 : 1 ≤ k) (hz : l.getD k 0 = 0) : (enc (val (l.take (k + 1)))).length ≠ k + 1 := by
  rw [zLd l k hl, hz]
  have hb := zH1 (l.take k)
  rw [List.length_take, Nat.min_eq_left (by omega)] at hb
  obtain ⟨j, rfl⟩ : ∃ j, k = j + 1 := ⟨k - 1, by omega⟩
  have e : val (l.take (j + 1)) + 0 % 128 * 128 ^ (j + 1) = val (l.take (j + 1)) := by simp
  rw [e]
  unfold enc
  rw [zEi j 9 _ hb.1 hb.2 (by omega)]
  have := (zEv j (val (l.take (j + 1)))).2
  omega
def zD9 (l : List Int) (p most : Int) : List Int × Int × Int :=
  if (zE6 l p).2.2 ≠ 0 ∨ most < (zE6 l p).1 ∨ (l.length : Int) - (zE6 l p).2.1 < (zE6 l p).1 then ([], 0, 11)
  else ((l.drop (zE6 l p).2.1.toNat).take (zE6 l p).1.toNat, (zE6 l p).2.1 + (zE6 l p).1, 0)
theorem zGo (l : List Int) (p : Int) (hb : Byt l) : zE6 l p = (0, 0, 11) ∨
    ∃ (n k q : Nat), p = (q : Int) ∧ zE6 l p = ((n : Int), ((q + k : Nat) : Int), 0) ∧ n ≤ 2147483647 ∧ 1 ≤ k ∧ k ≤ 5 ∧ q + k ≤ l.length ∧ (l.drop q).take k = enc n := by
  by_cases h : p < 0 ∨ (l.length : Int) < p
  · exact .inl (zKb h)
  · obtain ⟨q, rfl⟩ := Int.eq_ofNat_of_zero_le (show 0 ≤ p by omega)
    cases hn : num (l.drop q) with
    | none => exact .inl (zBu q (by omega) hn)
    | some nk =>
      obtain ⟨n, k⟩ := nk
      obtain ⟨n0, n1, k1, k5, kl, ht⟩ := zF3 (hb.drop q) hn
      obtain ⟨m, rfl⟩ := Int.eq_ofNat_of_zero_le n0
      rw [List.length_drop] at kl
      refine .inr ⟨m, k, q, rfl, ?_, by omega, k1, k5, by omega, ht⟩
      rw [zD3 q (by omega) hn]
      simp
theorem zK9 (l : List Int) (p most : Int) (h : Byt l) : Byt (zD9 l p most).1 := by
  unfold zD9
  split
  · exact Byt.nil
  · exact (h.drop _).take _
end Oct
end
section
open Go.RowKit Oct
def bc (l : List Int) : List Value := l.map (Value.int .u8)
theorem zAn (l : List Int) : (bc l).length = l.length := by simp [bc]
theorem zPr (a b : List Int) : bc (a ++ b) = bc a ++ bc b := by simp [bc]
theorem zJi (l : List Int) : ∀ u ∈ bc l, u.oneCell' = true := ints_oneCell .u8 l
theorem bc_at (l : List Int) (j : Nat) : (bc l)[j]? = (l[j]?).map (Value.int .u8) := by simp [bc]
theorem zDz (l : List Int) (j : Nat) (h : j < l.length) : (bc l)[j]? = some (.int .u8 (l.getD j 0)) := by
  simp [bc, List.getD, List.getElem?_eq_getElem h]
def Rdv (w : World) (v : Value) (xs : List Value) : Prop :=
  ∃ ao cap, v = .slice ao xs.length cap ∧ xs.length ≤ cap ∧ cap ≤ maxLen ∧ (ao = none → xs = [] ∧ cap = 0) ∧
    ∀ a, ao = some a → ∀ j u, xs[j]? = some u → w.cell? (a.add j) = some u
def Rd (w : World) (v : Value) (l : List Int) : Prop := Byt l ∧ Rdv w v (bc l)
def Own (w : World) (e : TypeId) (v : Value) (xs : List Value) : Prop := w.ownsRow 0 e 1 v xs.length xs
def Fr (B : Nat) (v : Value) : Prop := ∀ k, v.ownBlock = some k → B ≤ k
theorem Fr.mono {B C : Nat} {v : Value} (h : Fr B v) (hc : C ≤ B) : Fr C v := fun k hk => Nat.le_trans hc (h k hk)
theorem Fr.nil (B : Nat) : Fr B (.slice none 0 0) := fun k hk => by simp [Value.ownBlock] at hk
theorem zGj (a : Addr) (j : Nat) : (a.add j).block = a.block := by unfold Addr.add; split <;> rfl
theorem Rdv.keep {w w' : World} {v : Value} {xs : List Value} (h : Rdv w v xs) (hb : xs ≠ [] → ∀ k, v.ownBlock = some k → k < w.heap.size → w'.heap[k]? = w.heap[k]?) : Rdv w' v xs := by
  obtain ⟨ao, cap, rfl, h1, h2, h3, h4⟩ := h
  refine ⟨ao, cap, rfl, h1, h2, h3, fun a ha j u hu => ?_⟩
  have hc := h4 a ha j u hu
  subst ha
  have hlt := World.block_lt_of_cell? w (a.add j) hc
  rw [zGj] at hlt
  have e := hb (fun e => by rw [e] at hu; simp at hu) a.block rfl hlt
  rw [← zGj a j] at e
  exact (World.cell?_of_block (w := w) (w' := w') (a := a.add j) e).trans hc
theorem Rdv.below {w w' : World} {v : Value} {xs : List Value} (h : Rdv w v xs) (hb : Below w.heap.size w w') : Rdv w' v xs :=
  h.keep fun _ k _ hk => hb.block k hk
theorem Rdv.grown {w w' : World} {v : Value} {xs : List Value} {row : Option Nat} (h : Rdv w v xs) (hg : w.grownBy w' row) (hr : xs ≠ [] → ∀ k, row = some k → v.ownBlock ≠ some k) : Rdv w' v xs :=
  h.keep fun hx k hk hlt => hg.block k hlt (fun e => hr hx k e.symm hk)
theorem Rdv.lt {w : World} {v : Value} {xs : List Value} (h : Rdv w v xs) (hx : xs ≠ []) : ∀ k, v.ownBlock = some k → k < w.heap.size := by
  obtain ⟨ao, cap, rfl, h1, h2, h3, h4⟩ := h
  intro k hk
  cases ao with
  | none => simp [Value.ownBlock] at hk
  | some a =>
    simp [Value.ownBlock] at hk
    subst hk
    cases xs with
    | nil => exact absurd rfl hx
    | cons x r =>
      have hc := h4 a rfl 0 x rfl
      have := World.block_lt_of_cell? w (a.add 0) hc
      rwa [zGj] at this
theorem Rd.below {w w' : World} {v : Value} {l : List Int} (h : Rd w v l) (hb : Below w.heap.size w w') : Rd w' v l := ⟨h.1, h.2.below hb⟩
theorem Rd.grown {w w' : World} {v : Value} {l : List Int} {row : Option Nat} (h : Rd w v l) (hg : w.grownBy w' row) (hr : l ≠ [] → ∀ k, row = some k → v.ownBlock ≠ some k) : Rd w' v l :=
  ⟨h.1, h.2.grown hg fun hx => hr fun e => hx (by rw [e]; rfl)⟩
theorem Rd.lt {w : World} {v : Value} {l : List Int} (h : Rd w v l) (hx : l ≠ []) : ∀ k, v.ownBlock = some k → k < w.heap.size := h.2.lt fun e => hx (by simpa [bc] using e)
theorem Own.lt {w : World} {e : TypeId} {v : Value} {xs : List Value} (h : Own w e v xs) : ∀ k, v.ownBlock = some k → k < w.heap.size := fun k hk => (World.ownsRow.lt h k hk).2
theorem Own.below {w w' : World} {e : TypeId} {v : Value} {xs : List Value} (h : Own w e v xs) (hb : Below w.heap.size w w') : Own w' e v xs :=
  World.ownsRow.kept (row := none) h ⟨hb.os, hb.tape, hb.output, hb.size, fun k hk _ => hb.block k hk⟩ (by cases hv : v.ownBlock <;> simp)
theorem Own.grown {w w' : World} {e : TypeId} {v : Value} {xs : List Value} {row : Option Nat} (h : Own w e v xs) (hg : w.grownBy w' row) (hr : ∀ k, row = some k → v.ownBlock ≠ some k) : Own w' e v xs :=
  World.ownsRow.kept h hg (by
    cases hv : v.ownBlock with
    | none => exact .inl rfl
    | some k => exact .inr fun e => hr k e.symm hv)
theorem Own.rdv {w : World} {e : TypeId} {v : Value} {xs : List Value} (h : Own w e v xs) : Rdv w v xs := by
  rcases h.2 with ⟨rfl, h0⟩ | ⟨g, cap, cur, rfl, _, hg, h1, h2, h3, h4⟩
  · have : xs = [] := List.eq_nil_of_length_eq_zero h0
    subst this
    exact ⟨none, 0, rfl, zN, Nat.zero_le _, fun _ => ⟨rfl, rfl⟩, fun a ha => by cases ha⟩
  · exact ⟨some ⟨g, 0, none⟩, cap, rfl, h1, h2, fun ha => (by cases ha), fun a ha j u hu => by cases ha; exact World.ownsRow.cells h (g := g) rfl j u hu⟩
theorem Own.rd {w : World} {e : TypeId} {v : Value} {l : List Int} (h : Own w e v (bc l)) (hb : Byt l) : Rd w v l := ⟨hb, h.rdv⟩
theorem Own.form {w : World} {e : TypeId} {v : Value} {xs : List Value} (h : Own w e v xs) : ∃ ao cap, v = .slice ao xs.length cap ∧ cap ≤ maxLen := by
  obtain ⟨ao, cap, h1, _, h2, _⟩ := h.rdv
  exact ⟨ao, cap, h1, h2⟩
theorem Own.apart {w : World} {e e' : TypeId} {v v' : Value} {xs xs' : List Value} (h : Own w e v xs) (h' : Own w e' v' xs') (he : e ≠ e') : ∀ k, v.ownBlock = some k → v'.ownBlock ≠ some k := by
  intro k hk hk'
  rcases h.2 with ⟨rfl, _⟩ | ⟨g, _, cur, rfl, _, hg, _⟩
  · simp [Value.ownBlock] at hk
  rcases h'.2 with ⟨rfl, _⟩ | ⟨g', _, cur', rfl, _, hg', _⟩
  · simp [Value.ownBlock] at hk'
  simp [Value.ownBlock] at hk hk'
  subst hk hk'
  rw [hg] at hg'
  simp at hg'
  exact he hg'.2
theorem Own.nil (w : World) (e : TypeId) : Own w e (.slice none 0 0) [] := World.ownsRow_nil w 0 e 1
theorem zA5 {w w' : World} {row : Option Nat} (hg : w.grownBy w' row) {B : Nat} (hB : B ≤ w.heap.size) (hr : ∀ k, row = some k → B ≤ k) : Below B w w' :=
  (Below.refl B w).grown hg hB hr
theorem zA2 {w w1 w2 : World} {r r1 : Option Nat} (h : w.grownBy w1 r) (h' : w1.grownBy w2 r1) (hr : r1 = r ∨ ∀ k, r1 = some k → w.heap.size ≤ k) : w.grownBy w2 r :=
  ⟨h'.os.trans h.os, h'.tape.trans h.tape, h'.output.trans h.output, Nat.le_trans h.size h'.size, fun k hk hne => by
    have := h.size
    refine (h'.block k (by omega) fun e => ?_).trans (h.block k hk hne)
    rcases hr with rfl | hr
    · exact hne e
    · have := hr k e.symm; omega⟩
theorem zA8 {w w' : World} (h : Below w.heap.size w w') (r : Option Nat) : w.grownBy w' r := ⟨h.os, h.tape, h.output, h.size, fun k hk _ => h.block k hk⟩
structure App (w : World) (e : TypeId) (v : Value) (w' : World) (v' : Value) (xs : List Value) : Prop where
  own : Own w' e v' xs
  grown : w.grownBy w' v.ownBlock
  spot : v'.ownBlock = v.ownBlock ∨ Fr w.heap.size v'
theorem App.trans {w w1 w2 : World} {e : TypeId} {v v1 v2 : Value} {xs ys : List Value} (h : App w e v w1 v1 xs) (h' : App w1 e v1 w2 v2 ys) : App w e v w2 v2 ys :=
  ⟨h'.own, zA2 h.grown h'.grown (by rcases h.spot with h1 | h1; exact .inl h1; exact .inr h1), by
    have hs := h.grown.size
    rcases h'.spot with h2 | h2
    · rcases h.spot with h1 | h1
      · exact .inl (h2.trans h1)
      · exact .inr fun k hk => h1 k (h2 ▸ hk)
    · exact .inr (h2.mono hs)⟩
theorem App.pre {w w0 w' : World} {e : TypeId} {v v' : Value} {xs : List Value} (hb : Below w.heap.size w w0) (h : App w0 e v w' v' xs) : App w e v w' v' xs :=
  ⟨h.own, zA2 (zA8 hb _) h.grown (.inl rfl), by
    rcases h.spot with h1 | h1
    · exact .inl h1
    · exact .inr (h1.mono hb.size)⟩
theorem App.fr {w w' : World} {e : TypeId} {v v' : Value} {xs : List Value} (h : App w e v w' v' xs) {B : Nat} (hv : Fr B v) (hB : B ≤ w.heap.size) : Fr B v' := by
  rcases h.spot with h1 | h1
  · exact fun k hk => hv k (h1 ▸ hk)
  · exact h1.mono hB
theorem App.below {w w' : World} {e : TypeId} {v v' : Value} {xs : List Value} (h : App w e v w' v' xs) {B : Nat} (hv : Fr B v) (hB : B ≤ w.heap.size) : Below B w w' :=
  zA5 h.grown hB hv
theorem zMi {w : World} {base : Nat} {e : TypeId} {v : Value} {n : Nat} {xs : List Value} (h : w.ownsRow base e 1 v n xs) : w.ownsRow 0 e 1 v n xs :=
  ⟨h.1, by rcases h.2 with h | ⟨g, cap, cur, h1, _, h2⟩; exact .inl h; exact .inr ⟨g, cap, cur, h1, Nat.zero_le _, h2⟩⟩
theorem Rdv.at {w : World} {v : Value} {xs : List Value} (h : Rdv w v xs) (hl : 0 < xs.length) : ∃ b off cap, v = .slice (some ⟨b, off, none⟩) xs.length cap ∧ xs.length ≤ cap ∧ cap ≤ maxLen ∧ b < w.heap.size ∧
    ∀ (j : Nat) (u : Value), xs[j]? = some u → w.cell? ⟨b, off + j, none⟩ = some u := by
  obtain ⟨ao, cap, rfl, h1, h2, h3, h4⟩ := h
  cases ao with
  | none => have := (h3 rfl).1; subst this; simp at hl
  | some a =>
    obtain ⟨b, off, spot⟩ := a
    have hc := h4 _ rfl 0 _ (List.getElem?_eq_getElem hl)
    have hs : spot = none := by
      cases spot with
      | none => rfl
      | some q =>
        exfalso
        simp only [Addr.add, if_true, World.cell?] at hc
        split at hc <;> simp at hc
    subst hs
    refine ⟨b, off, cap, rfl, h1, h2, World.block_lt_of_cell? w _ hc, fun j u hj => ?_⟩
    have := h4 _ rfl j u hj
    have e : (⟨b, off, none⟩ : Addr).add j = ⟨b, off + j, none⟩ := by unfold Addr.add; split <;> simp_all
    rwa [e] at this
theorem Rdv.form {w : World} {v : Value} {xs : List Value} (h : Rdv w v xs) : ∃ ao cap, v = .slice ao xs.length cap ∧ cap ≤ maxLen := by
  obtain ⟨ao, cap, h1, _, h2, _⟩ := h
  exact ⟨ao, cap, h1, h2⟩
theorem Rd.at {w : World} {v : Value} {l : List Int} (h : Rd w v l) (hl : 0 < l.length) : ∃ b off cap, v = .slice (some ⟨b, off, none⟩) l.length cap ∧ l.length ≤ cap ∧ cap ≤ maxLen ∧ b < w.heap.size ∧
    ∀ j, j < l.length → w.cell? ⟨b, off + j, none⟩ = some (.int .u8 (l.getD j 0)) := by
  obtain ⟨hb, ao, cap, rfl, h1, h2, h3, h4⟩ := h
  rw [zAn] at h1
  cases ao with
  | none => have := (h3 rfl).1; simp [bc] at this; subst this; simp at hl
  | some a =>
    obtain ⟨b, off, spot⟩ := a
    have hc := h4 _ rfl 0 _ (zDz l 0 hl)
    have hs : spot = none := by
      cases spot with
      | none => rfl
      | some q =>
        exfalso
        simp only [Addr.add, if_true, World.cell?] at hc
        split at hc <;> simp at hc
    subst hs
    refine ⟨b, off, cap, by rw [zAn], h1, h2, World.block_lt_of_cell? w _ hc, fun j hj => ?_⟩
    have := h4 _ rfl j _ (zDz l j hj)
    have e : (⟨b, off, none⟩ : Addr).add j = ⟨b, off + j, none⟩ := by unfold Addr.add; split <;> simp_all
    rwa [e] at this
theorem Rd.empty {w : World} {v : Value} {l : List Int} (h : Rd w v l) (hl : l.length = 0) : ∃ ao cap, v = .slice ao 0 cap ∧ cap ≤ maxLen := by
  obtain ⟨hb, ao, cap, rfl, h1, h2, h3, h4⟩ := h
  exact ⟨ao, cap, by rw [zAn, hl], h2⟩
theorem Rd.len {w : World} {v : Value} {l : List Int} (h : Rd w v l) : (l.length : Int) ≤ 9223372036854775807 := by
  obtain ⟨hb, ao, cap, rfl, h1, h2, h3, h4⟩ := h
  rw [zAn] at h1
  unfold maxLen at h2
  omega
def zC0 {α β : Type} (R : α → β → Prop) : List α → List β → Prop
  | [], [] => True
  | a :: as0, b :: bs => R a b ∧ zC0 R as0 bs
  | _, _ => False
theorem zC0.len {α β : Type} {R : α → β → Prop} : ∀ {as0 : List α} {bs : List β}, zC0 R as0 bs → as0.length = bs.length
  | [], [], _ => rfl
  | _ :: _, _ :: _, h => by simp [zC0.len h.2]
  | [], _ :: _, h => h.elim
  | _ :: _, [], h => h.elim
theorem zC0.get {α β : Type} {R : α → β → Prop} : ∀ {as0 : List α} {bs : List β}, zC0 R as0 bs → ∀ {i : Nat} {a : α} {b : β}, as0[i]? = some a → bs[i]? = some b → R a b
  | [], [], _, i, a, b, ha, _ => by simp at ha
  | x :: as0, y :: bs, h, 0, a, b, ha, hb => by simp at ha hb; subst ha hb; exact h.1
  | x :: as0, y :: bs, h, i + 1, a, b, ha, hb => zC0.get h.2 (by simpa using ha) (by simpa using hb)
  | [], _ :: _, h, _, _, _, _, _ => h.elim
  | _ :: _, [], h, _, _, _, _, _ => h.elim
theorem zC0.mono {α β : Type} {R S : α → β → Prop} (hRS : ∀ a b, R a b → S a b) : ∀ {as0 : List α} {bs : List β}, zC0 R as0 bs → zC0 S as0 bs
  | [], [], _ => trivial
  | _ :: _, _ :: _, h => ⟨hRS _ _ h.1, zC0.mono hRS h.2⟩
  | [], _ :: _, h => h.elim
  | _ :: _, [], h => h.elim
theorem zC0.app {α β : Type} {R : α → β → Prop} : ∀ {as0 : List α} {bs : List β} {cs : List α} {ds : List β}, zC0 R as0 bs → zC0 R cs ds → zC0 R (as0 ++ cs) (bs ++ ds)
  | [], [], _, _, _, h => h
  | _ :: _, _ :: _, _, _, h, h' => ⟨h.1, zC0.app h.2 h'⟩
  | [], _ :: _, _, _, h, _ => h.elim
  | _ :: _, [], _, _, h, _ => h.elim
def Rdl (w : World) (v : Value) (ll : List (List Int)) : Prop := ∃ vs, Rdv w v vs ∧ zC0 (Rd w) vs ll
theorem Rdl.below {w w' : World} {v : Value} {ll : List (List Int)} (h : Rdl w v ll) (hb : Below w.heap.size w w') : Rdl w' v ll := by
  obtain ⟨vs, h1, h2⟩ := h
  exact ⟨vs, h1.below hb, h2.mono fun _ _ h => h.below hb⟩
theorem zCy (w : World) (x : Int) (e : TypeId) : Rdv (w.alloc (.cells #[.int .u8 x] e)) (.slice (some ⟨w.heap.size, 0, none⟩) 1 1) (bc [x]) :=
  Own.rdv (e := e) (World.ownsRow_lit (base := 0) (size := 1) w #[.int .u8 x] 1 (Nat.zero_le _) (by decide) rfl)
section
variable {P : Program}
theorem zSj (w : World) (t ty e : TypeId) (i : TypeInfo) (z : Value) (bytes : Nat) (ht : P.underlying t = some (.slice e)) (hi : P.info? e = some i) (hz : i.zero = some z)
    (hsize : i.size = 1) (hby : i.bytes = bytes) (hzs : z.cells.size = 1) (v : Value) (xs : List Value) (hown : Own w e v xs) (sv : Value) (news : List Value) (hsrc : Rdv w sv news)
    (h1 : ∀ u ∈ news, u.oneCell' = true) (hm : xs.length + news.length ≤ maxLen) (hb : (xs.length + news.length) * bytes ≤ 140737488355328) :
    ∃ v' w', (Builtin.append_ #[t, t] ty #[v, sv]).run P w = .ok v' w' ∧ App w e v w' v' (xs ++ news) := by
  obtain ⟨ao, cap, rfl, c1, c2, c3, c4⟩ := hsrc
  cases ao with
  | none =>
    obtain ⟨rfl, rfl⟩ := c3 rfl
    refine ⟨v, w, run_append_owned_none (P := P) w 0 t ty e i 1 ht hi v _ xs hown, ?_⟩
    rw [List.append_nil]
    exact ⟨hown, zA8 (Below.refl _ _) _, .inl rfl⟩
  | some a =>
    have hnews := c4 a rfl
    have hl : news.length = news.length * 1 := by omega
    rcases hown.2 with ⟨rfl, h0⟩ | ⟨g, vc, cur, rfl, _, hg, n1, n2, n3, n4⟩
    · have hx : xs = [] := List.eq_nil_of_length_eq_zero h0
      subst hx
      obtain ⟨v', w', hr, o1, o2, _⟩ := run_append_own (P := P) w w.heap.size t ty e i z 1 bytes ht hi hz hsize hby hzs (by decide) (.slice none 0 0) 0 [] (World.ownsRow_nil w w.heap.size e 1) a news.length cap news hl hnews h1
        (by simpa using hm) (by simpa using hb) zN
      refine ⟨v', w', hr, ?_⟩
      have o3 := zMi o1
      rw [Nat.zero_add, List.nil_append] at o3
      exact ⟨o3, o2, .inr fun k hk => (o1.lt k hk).1⟩
    · obtain ⟨v', w', hr, o1, o2, _⟩ := run_append_own (P := P) w 0 t ty e i z 1 bytes ht hi hz hsize hby hzs (by decide) _ _ xs hown a news.length cap news hl hnews h1 hm hb (Nat.zero_le _)
      refine ⟨v', w', hr, ?_⟩
      rw [← List.length_append] at o1
      refine ⟨o1, o2, ?_⟩
      by_cases hroom : xs.length + news.length ≤ vc
      · left
        have hr2 := run_append_room (P := P) w t ty e i ht hi g xs.length vc cur hg a news.length cap news (by rw [hsize]; exact hl) hnews h1 hroom (by rw [hsize, n3]; omega)
        rw [hr2] at hr
        injection hr with e1 _
        rw [← e1]
        rfl
      · right
        have holds : ∀ j u, xs[j]? = some u → w.cell? ((⟨g, 0, none⟩ : Addr).add j) = some u := World.ownsRow.cells hown (g := g) rfl
        have hr2 := run_append_grow (P := P) w t ty e i z ht hi hz ⟨g, 0, none⟩ xs.length vc xs (by rw [hsize]; omega) holds a news.length cap news (by rw [hsize]; exact hl) hnews (by omega)
          (by have := hm; simp only [maxLen] at this; omega) (growslice_fits (by omega) (by rw [hby]; exact hb))
        rw [hr2] at hr
        injection hr with e1 _
        rw [← e1]
        intro k hk
        simp [Value.ownBlock] at hk
        omega
theorem zE0 {ops : Array Oper} {Q : Exit → Act → World → Prop} {a : Act} {w : World} {rest : List Oper} {o : Oper} (hw : Region.wanted o (yielded ops a.tmps) = true)
    (h : ∀ K : Act → World → Prop, (∀ a w, wpList P ops Q rest a w → K a w) → o.wp P a w K Q) : wpList P ops Q (o :: rest) a w :=
  wpList_step fun K hK => by rw [if_pos hw]; exact h K hK
theorem zE1 {ops : Array Oper} {a : Act} {o : Oper} (hgd : o.guard = none) : Region.wanted o (yielded ops a.tmps) = true := by simp [Region.wanted, hgd]
theorem zEr {w : World} {ops : Array Oper} {rest : List Oper} {o : Oper} {a : Act} {Q : Exit → Act → World → Prop} (hgd : Region.wanted o (yielded ops a.tmps) = true) (s x : Operand) (t : TypeId)
    (ho : o.op = .call { callee := .builtin .append, args := #[s, x], argTypes := #[t, t] })
    (e : TypeId) (i : TypeInfo) (z : Value) (bytes : Nat) (ht : P.underlying t = some (.slice e)) (hi : P.info? e = some i) (hz : i.zero = some z)
    (hsize : i.size = 1) (hby : i.bytes = bytes) (hzs : z.cells.size = 1) (v : Value) (xs : List Value) (hs : a.eval s = v) (hown : Own w e v xs) (sv : Value) (news : List Value) (hx : a.eval x = sv) (hsrc : Rdv w sv news)
    (h1 : ∀ u ∈ news, u.oneCell' = true) (hm : xs.length + news.length ≤ maxLen) (hb : (xs.length + news.length) * bytes ≤ 140737488355328)
    (h : ∀ v' w', App w e v w' v' (xs ++ news) → wpList P ops Q rest (a.put o.dst v') w') : wpList P ops Q (o :: rest) a w := by
  refine zE0 hgd fun K hK => ?_
  obtain ⟨v', w', hr, h2⟩ := zSj (P := P) w t o.type e i z bytes ht hi hz hsize hby hzs v xs hown sv news hsrc h1 hm hb
  unfold Oper.wp
  simp [execOp, ho, resolve, invoke, builtin, hs, hx, hr, Result.andThen]
  exact hK _ _ (h v' w' h2)
theorem wp_app {w : World} {o : Oper} {a : Act} {K : Act → World → Prop} {Q : Exit → Act → World → Prop} (s x : Operand) (t : TypeId)
    (ho : o.op = .call { callee := .builtin .append, args := #[s, x], argTypes := #[t, t] })
    (e : TypeId) (i : TypeInfo) (z : Value) (bytes : Nat) (ht : P.underlying t = some (.slice e)) (hi : P.info? e = some i) (hz : i.zero = some z)
    (hsize : i.size = 1) (hby : i.bytes = bytes) (hzs : z.cells.size = 1) (v : Value) (xs : List Value) (hs : a.eval s = v) (hown : Own w e v xs) (sv : Value) (news : List Value) (hx : a.eval x = sv) (hsrc : Rdv w sv news)
    (h1 : ∀ u ∈ news, u.oneCell' = true) (hm : xs.length + news.length ≤ maxLen) (hb : (xs.length + news.length) * bytes ≤ 140737488355328)
    (h : ∀ v' w', App w e v w' v' (xs ++ news) → K (a.put o.dst v') w') : o.wp P a w K Q := by
  obtain ⟨v', w', hr, h2⟩ := zSj (P := P) w t o.type e i z bytes ht hi hz hsize hby hzs v xs hown sv news hsrc h1 hm hb
  unfold Oper.wp
  simp [execOp, ho, resolve, invoke, builtin, hs, hx, hr, Result.andThen]
  exact h v' w' h2
end
theorem Own.drew {w : World} {e : TypeId} {v : Value} {xs : List Value} (h : Own w e v xs) : Own w.drew e v xs := h
theorem Rdv.drew {w : World} {v : Value} {xs : List Value} (h : Rdv w v xs) : Rdv w.drew v xs := h
theorem Rd.drew {w : World} {v : Value} {l : List Int} (h : Rd w v l) : Rd w.drew v l := h
end
section
open Go.RowKit Oct
theorem Tryz.info5 : (Tryz.prog.info? 5).map (fun i => (i.zero, i.size, i.bytes)) = some (some (.int .u8 0), 1, 1) := by kernel_rfl
theorem zHt {w : World} {ops : Array Oper} {rest : List Oper} {o : Oper} {a : Act} {Q : Exit → Act → World → Prop} (hgd : Region.wanted o (yielded ops a.tmps) = true) (s x : Operand)
    (ho : o.op = .call { callee := .builtin .append, args := #[s, x], argTypes := #[23, 23] })
    (v : Value) (l : List Int) (hs : a.eval s = v) (hown : Own w 5 v (bc l)) (sv : Value) (m : List Int) (hx : a.eval x = sv) (hsrc : Rdv w sv (bc m)) (hb : l.length + m.length ≤ 140737488355328)
    (h : ∀ v' w', App w 5 v w' v' (bc (l ++ m)) → wpList Tryz.prog ops Q rest (a.put o.dst v') w') : wpList Tryz.prog ops Q (o :: rest) a w := by
  obtain ⟨i0, hi, hz0, hz1, hz2⟩ := info_parts Tryz.info5
  refine zEr hgd s x 23 ho 5 i0 (.int .u8 0) 1 Tryz.underlying23 hi hz0 hz1 hz2 rfl v (bc l) hs hown sv (bc m) hx hsrc (zJi _) (by rw [zAn, zAn]; unfold maxLen; omega) (by rw [zAn, zAn]; omega) ?_
  rw [← zPr]
  exact h
theorem zAx {w : World} {ops : Array Oper} {rest : List Oper} {o : Oper} {a : Act} {Q : Exit → Act → World → Prop} (hgd : o.guard = none) (s x : Operand)
    (ho : o.op = .call { callee := .builtin .append, args := #[s, x], argTypes := #[23, 23] })
    (v : Value) (l : List Int) (hs : a.eval s = v) (hown : Own w 5 v (bc l)) (sv : Value) (m : List Int) (hx : a.eval x = sv) (hsrc : Rdv w sv (bc m)) (hb : l.length + m.length ≤ 140737488355328)
    (h : ∀ v' w', App w 5 v w' v' (bc (l ++ m)) → wpList Tryz.prog ops Q rest (a.put o.dst v') w') : wpList Tryz.prog ops Q (o :: rest) a w :=
  zHt (zE1 hgd) s x ho v l hs hown sv m hx hsrc hb h
theorem zDq {w : World} {ops : Array Oper} {o : Oper} {a : Act} {K : Act → World → Prop} {Q : Exit → Act → World → Prop} {E : Prop} (hgd : o.guard = none) (s x : Operand)
    (ho : o.op = .call { callee := .builtin .append, args := #[s, x], argTypes := #[23, 23] })
    (v : Value) (l : List Int) (hs : a.eval s = v) (hown : Own w 5 v (bc l)) (sv : Value) (m : List Int) (hx : a.eval x = sv) (hsrc : Rdv w sv (bc m)) (hb : l.length + m.length ≤ 140737488355328)
    (h : ∀ v' w', App w 5 v w' v' (bc (l ++ m)) → K (a.put o.dst v') w') : if Region.wanted o (yielded ops a.tmps) = true then Oper.wp Tryz.prog o a w K Q else E := by
  have hw : Region.wanted o (yielded ops a.tmps) = true := by simp [Region.wanted, hgd]
  rw [if_pos hw]
  obtain ⟨i0, hi, hz0, hz1, hz2⟩ := info_parts Tryz.info5
  refine wp_app s x 23 ho 5 i0 (.int .u8 0) 1 Tryz.underlying23 hi hz0 hz1 hz2 rfl v (bc l) hs hown sv (bc m) hx hsrc (zJi _) (by rw [zAn, zAn]; unfold maxLen; omega) (by rw [zAn, zAn]; omega) ?_
  rw [← zPr]
  exact h
theorem zM8 {w : World} {e : TypeId} {v : Value} {xs : List Value} (h : Own w e v xs) : App w e v w v xs := ⟨h, zA8 (Below.refl _ _) _, .inl rfl⟩
theorem zDj {k : IntKind} {a b : Int} (h : a = b) : Ending.returned (.int k a) = .returned (.int k b) := by rw [h]
theorem zA0 (w : World) (o : Obj) : Below w.heap.size w (w.alloc o) := (Below.refl _ _).alloc zN o
theorem zE3 (w : World) (e : TypeId) : Own (w.alloc (.cells #[] e)) e (.slice (some ⟨w.heap.size, 0, none⟩) 0 0) (bc []) :=
  World.ownsRow_lit (base := 0) (size := 1) w #[] 0 (Nat.zero_le _) (by decide) rfl
theorem zBx (B g n c : Nat) (h : B ≤ g) : Fr B (.slice (some ⟨g, 0, none⟩) n c) := fun k hk => by simp [Value.ownBlock] at hk; omega
theorem zR9 {w : World} {ops : Array Oper} {rest : List Oper} {o : Oper} {a : Act} {Q : Exit → Act → World → Prop} (hgd : Region.wanted o (yielded ops a.tmps) = true) (s x : Operand)
    (ho : o.op = .call { callee := .builtin .append, args := #[s, x], argTypes := #[23, 23] })
    (hs : a.eval s = .slice (some ⟨w.heap.size, 0, none⟩) 0 0) (sv : Value) (m : List Int) (hx : a.eval x = sv) (hsrc : Rd w sv m) (hb : m.length ≤ 140737488355328)
    (h : ∀ v' w', Own w' 5 v' (bc m) → Fr w.heap.size v' → Below w.heap.size w w' → wpList Tryz.prog ops Q rest (a.put o.dst v') w') : wpList Tryz.prog ops Q (o :: rest) a (w.alloc (.cells #[] 5)) := by
  refine zHt hgd s x ho (.slice (some ⟨w.heap.size, 0, none⟩) 0 0) [] hs (zE3 w 5) sv m hx (hsrc.below (zA0 w _)).2 (by simp only [List.length_nil]; omega) ?_
  intro v' w' happ
  rw [List.nil_append] at happ
  have hp := happ.pre (zA0 w _)
  exact h v' w' hp.own (happ.fr (zBx _ _ _ _ zN) (by simp)) ((zA0 w _).trans (happ.below (zBx _ _ _ _ zN) (by simp)))
theorem zCi {w : World} {ops : Array Oper} {rest : List Oper} {o : Oper} {a : Act} {Q : Exit → Act → World → Prop} (hgd : o.guard = none) (s x : Operand)
    (ho : o.op = .call { callee := .builtin .append, args := #[s, x], argTypes := #[23, 23] })
    (hs : a.eval s = .slice (some ⟨w.heap.size, 0, none⟩) 0 0) (sv : Value) (m : List Int) (hx : a.eval x = sv) (hsrc : Rd w sv m) (hb : m.length ≤ 140737488355328)
    (h : ∀ v' w', Own w' 5 v' (bc m) → Fr w.heap.size v' → Below w.heap.size w w' → wpList Tryz.prog ops Q rest (a.put o.dst v') w') : wpList Tryz.prog ops Q (o :: rest) a (w.alloc (.cells #[] 5)) :=
  zR9 (zE1 hgd) s x ho hs sv m hx hsrc hb h
theorem zA1 {B : Nat} {w w1 w2 : World} (h : Below B w w1) (hB : B ≤ w.heap.size) (h' : Below w1.heap.size w1 w2) : Below B w w2 := h.trans (h'.mono (Nat.le_trans hB h.size))
set_option maxHeartbeats 400000 in
theorem zGd (w : World) (v : Value) (l : List Int) (n : Int) (hown : Own w 5 v (bc l)) (h0 : 0 ≤ n) (h1 : n ≤ 9223372036854775807) (hl : l.length ≤ 140737488355300) :
    Calls Tryz.prog 119 #[v, .int .i64 n] w fun e w' => ∃ v', e = .returned v' ∧ App w 5 v w' v' (bc (l ++ enc n)) := by
  go_enter Tryz.func119, Tryz.ntmps119
  go_wp2_with fail
  go_loopw [0, 1] (fun s m wr => ∃ (q : Int) (done : List Int), 0 ≤ q ∧ q ≤ n ∧ m = .int .i64 q ∧ done ++ enc q = l ++ enc n ∧ App w 5 v wr s (bc done)) (fun _ m _ => (intOf m).toNat)
  case atStart => exact ⟨n, l, h0, Int.le_refl _, rfl, rfl, zM8 hown⟩
  case round =>
    obtain ⟨q, done, hq0, hq1, rfl, hd, happ⟩ := hrel
    have hdl : done.length ≤ l.length + 10 := by
      have h2 := congrArg List.length hd
      have h3 := zB7 q
      have h4 := zB7 n
      simp only [List.length_append] at h2
      omega
    have HD := (show Hid (done ++ enc q = l ++ enc n) from hd)
    clear hd
    by_cases hq : 128 ≤ q
    · go_wp2_with (at_builtin; refine zAx rfl _ _ rfl u0 done rfl (World.ownsRow.alloc happ.own _) _ [q % 128 + 128] rfl (zCy wr _ _) (by simp only [List.length_cons, List.length_nil]; omega) ?_; intro v1 w1 happ1)
      go_roundw
      case rel => exact ⟨q / 128, done ++ [q % 128 + 128], by omega, by omega, rfl, by rw [List.append_assoc, List.singleton_append, ← zLu q hq (by omega)]; exact HD.out, happ.trans (happ1.pre (zA0 _ _))⟩
      case measure => simp [intOf]; omega
    · go_wp2_with (at_builtin; refine zAx rfl _ _ rfl u0 done rfl (World.ownsRow.alloc happ.own _) _ [q] rfl (zCy wr _ _) (by simp only [List.length_cons, List.length_nil]; omega) ?_; intro v1 w1 happ1)
      go_ret
      refine ⟨_, rfl, ?_⟩
      rw [← HD.out, zFw q (by omega)]
      exact happ.trans (happ1.pre (zA0 _ _))
theorem zRu (w : World) (n : Int) :
    Calls Tryz.prog 90 #[.int .i64 n] w fun e w' => ∃ v, e = .returned (.tuple #[v, .int .i64 (zRd n)]) ∧ Own w' 5 v (bc (zCm n)) ∧ Fr w.heap.size v ∧ Below w.heap.size w w' := by
  by_cases h0 : n < 0
  · have e1 := zI4 (.inl h0)
    have e2 := zLe (.inl h0)
    rw [e1, e2]
    clear e1 e2
    go_enter Tryz.func90, Tryz.ntmps90
    go_wp2_with fail
    go_ret2
    exact ⟨_, rfl, Own.nil _ _, Fr.nil _, Below.refl _ _⟩
  by_cases h1 : 2147483647 < n
  · have e1 := zI4 (.inr h1)
    have e2 := zLe (.inr h1)
    rw [e1, e2]
    clear e1 e2
    go_enter Tryz.func90, Tryz.ntmps90
    go_wp2_with fail
    go_ret2
    exact ⟨_, rfl, Own.nil _ _, Fr.nil _, Below.refl _ _⟩
  · rw [zF0 (by omega) (by omega), zCj (by omega) (by omega)]
    go_enter Tryz.func90, Tryz.ntmps90
    go_wp2_with (go_at_call 119; refine (zGd _ (.slice none 0 0) [] n (Own.nil _ _) (by omega) (by omega) (by simp)).mono ?_; rintro e w' ⟨v', rfl, happ⟩)
    go_ret2
    rw [List.nil_append] at happ
    exact ⟨_, rfl, happ.own, happ.fr (Fr.nil _) zN, happ.below (Fr.nil _) zN⟩
theorem zH2 (w : World) (v : Value) (l : List Int) (p : Nat) (hrd : Rd w v l) (hlen : l.length ≤ 281474976710656) (hp : p ≤ l.length) :
    Calls Tryz.prog 109 #[v, .int .i64 p] w fun e w' => e = .returned (.int .i64 (cnt 5 (l.drop p))) ∧ w' = w := by
  by_cases hl : 0 < l.length
  · have hbyt := hrd.1
    obtain ⟨b, off, cap, rfl, hc1, hc2, hb, hcell⟩ := hrd.at hl
    have HC := (show Hid (∀ j, j < l.length → w.cell? ⟨b, off + j, none⟩ = some (.int .u8 (l.getD j 0))) from hcell)
    clear hcell hrd
    go_enter Tryz.func109, Tryz.ntmps109
    go_wp2_with fail
    go_loop [6] (fun i => ∃ k : Nat, k ≤ 5 ∧ i = .int .i64 k ∧ Hid (zLh (l.drop p) k)) (fun i => 5 - (intOf i).toNat)
    case atStart => exact ⟨0, by omega, rfl, zLh.zero _⟩
    case round =>
      obtain ⟨k, hk, rfl, hm⟩ := hrel
      by_cases hk5 : k < 5
      · by_cases hpk : p + k < l.length
        · obtain ⟨x, hx⟩ : ∃ x, x = l.getD (p + k) 0 := ⟨_, rfl⟩
          have hcx : w.cell? ⟨b, off + (p + k), none⟩ = some (.int .u8 x) := by rw [hx]; exact HC.out _ hpk
          have hxb := hbyt.getD (p + k)
          rw [← hx] at hxb
          have hx' : (l.drop p).getD k 0 = x := by rw [hx]; simp [List.getD]
          have HX := (show Hid ((l.drop p).getD k 0 = x) from hx')
          clear hx'
          have hdl : k < (l.drop p).length := by rw [List.length_drop]; omega
          clear hx
          by_cases hx : x < 128
          · go_wp2_with fail
            go_ret
            exact ⟨zDj (by rw [zNp 5 k (l.drop p) hm.out hk5 hdl (by rw [HX.out]; exact hx)]; omega), rfl⟩
          · go_wp2_with fail
            go_round
            case rel => exact ⟨k + 1, by omega, by go_num, hm.out.succ hdl (by rw [HX.out]; omega)⟩
            case measure => simp [intOf]; omega
        · go_wp2_with fail
          go_ret
          exact ⟨zDj (by rw [zI0 5 k (l.drop p) hm.out hk (by rw [List.length_drop]; omega)]; rfl), rfl⟩
      · go_wp2_with fail
        go_ret
        exact ⟨zDj (by rw [zI0 5 k (l.drop p) hm.out hk (by omega)]; rfl), rfl⟩
  · have hp0 : p = 0 := by omega
    subst hp0
    have hl0 : l = [] := List.eq_nil_of_length_eq_zero (by omega)
    subst hl0
    obtain ⟨ao, cap, rfl, hc⟩ := hrd.empty rfl
    clear hrd
    go_enter Tryz.func109, Tryz.ntmps109
    go_wp2_with fail
    refine wp_loop_rounds 1 ?_; rw [rounds_succ]
    go_wp2_with fail
    go_ret
    exact ⟨rfl, rfl⟩
theorem zV1 (x y : Int) (k : Nat) (hk : k ≤ 4) (y0 : 0 ≤ y) (y1 : y < 128 ^ k) : wrap64 (y + wrap64 (x % 128 * 2 ^ (7 * k))) = y + x % 128 * 128 ^ k := by
  have e : ((2 : Int) ^ (7 * k)) = 128 ^ k := by rw [Int.pow_mul]; rfl
  rw [e]
  have hp : (128 : Int) ^ k ≤ 128 ^ 4 ∧ 1 ≤ (128 : Int) ^ k := by
    rcases (show k = 0 ∨ k = 1 ∨ k = 2 ∨ k = 3 ∨ k = 4 from by omega) with h | h | h | h | h <;> subst h <;> decide
  generalize (128 : Int) ^ k = q at *
  obtain ⟨hp1, hp2⟩ := hp
  have m1 : 0 ≤ x % 128 * q := Int.mul_nonneg (by omega) (by omega)
  have m2 : x % 128 * q ≤ 128 * 128 ^ 4 := Int.mul_le_mul (by omega) hp1 (by omega) (by omega)
  generalize x % 128 * q = r at *
  rw [IntWalk.wrap64_in r ⟨by omega, by omega⟩, IntWalk.wrap64_in (y + r) ⟨by omega, by omega⟩]
theorem zJ2 (w : World) (v : Value) (l : List Int) (hrd : Rd w v l) (hlen : l.length ≤ 5) :
    Calls Tryz.prog 110 #[v] w fun e w' => e = .returned (.int .i64 (val l)) ∧ w' = w := by
  by_cases hl : 0 < l.length
  · have hbyt := hrd.1
    obtain ⟨b, off, cap, rfl, hc1, hc2, hb, hcell⟩ := hrd.at hl
    have HC := (show Hid (∀ j, j < l.length → w.cell? ⟨b, off + j, none⟩ = some (.int .u8 (l.getD j 0))) from hcell)
    clear hcell hrd
    go_enter Tryz.func110, Tryz.ntmps110
    go_wp2_with fail
    go_loop [3, 8] (fun n i => ∃ k : Nat, k ≤ l.length ∧ i = .int .i64 k ∧ n = .int .i64 (val (l.take k))) (fun _ i => l.length - (intOf i).toNat)
    case atStart => exact ⟨0, by omega, rfl, rfl⟩
    case round =>
      obtain ⟨k, hk, rfl, rfl⟩ := hrel
      have hv := zH1 (l.take k)
      rw [List.length_take, Nat.min_eq_left hk] at hv
      by_cases hkl : k < l.length
      · obtain ⟨x, hx⟩ : ∃ x, x = l.getD k 0 := ⟨_, rfl⟩
        have hcx : w.cell? ⟨b, off + k, none⟩ = some (.int .u8 x) := by rw [hx]; exact HC.out _ hkl
        have hxb := hbyt.getD k
        rw [← hx] at hxb
        have hvt := zLd l k hkl
        rw [← hx] at hvt
        have HV := (show Hid (val (l.take (k + 1)) = val (l.take k) + x % 128 * 128 ^ k) from hvt)
        clear hx hvt
        generalize val (l.take k) = y at *
        have hk4 : k ≤ 4 := by omega
        go_wp2_with fail
        go_round
        case rel => exact ⟨k + 1, by omega, by go_num, by rw [zV1 x y k hk4 hv.1 hv.2, HV.out]⟩
        case measure => simp [intOf]; omega
      · go_wp2_with fail
        go_ret
        have e : k = l.length := by omega
        subst e
        rw [List.take_length]
        exact ⟨rfl, rfl⟩
  · have hl0 : l = [] := List.eq_nil_of_length_eq_zero (by omega)
    subst hl0
    obtain ⟨ao, cap, rfl, hc⟩ := hrd.empty rfl
    clear hrd
    go_enter Tryz.func110, Tryz.ntmps110
    go_wp2_with fail
    refine wp_loop_rounds 1 ?_; rw [rounds_succ]
    go_wp2_with fail
    go_ret
    exact ⟨rfl, rfl⟩
theorem Rd.part {w : World} {b off : Nat} {l : List Int} (hb : Byt l) (hc : ∀ j, j < l.length → w.cell? ⟨b, off + j, none⟩ = some (.int .u8 (l.getD j 0)))
    (lo n : Nat) (h : lo + n ≤ l.length) (c : Nat) (hc1 : n ≤ c) (hc2 : c ≤ maxLen) : Rd w (.slice (some ⟨b, off + lo, none⟩) n c) ((l.drop lo).take n) := by
  have hlen : (bc ((l.drop lo).take n)).length = n := by rw [zAn, List.length_take, List.length_drop]; omega
  refine ⟨(hb.drop _).take _, some ⟨b, off + lo, none⟩, c, by rw [hlen], by rw [hlen]; exact hc1, hc2, fun e => (by cases e), fun a ha j u hu => ?_⟩
  cases ha
  have hj : j < n := by
    rcases Nat.lt_or_ge j n with h | h
    · exact h
    · rw [List.getElem?_eq_none (by omega)] at hu; cases hu
  have e : (⟨b, off + lo, none⟩ : Addr).add j = ⟨b, off + (lo + j), none⟩ := by unfold Addr.add; split <;> simp_all [Nat.add_assoc]
  rw [e, hc (lo + j) (by omega)]
  rw [zDz _ _ (by rw [List.length_take, List.length_drop]; omega)] at hu
  rw [← hu]
  simp [List.getD, hj]
set_option maxHeartbeats 400000 in
theorem zUm (w : World) (v : Value) (l : List Int) (p : Nat) (hrd : Rd w v l) (hlen : l.length ≤ 281474976710656) (hp : p ≤ l.length) :
    Calls Tryz.prog 65 #[v, .int .i64 p] w fun e w' => e = .returned (.tuple #[.int .i64 (zE6 l p).1, .int .i64 (zE6 l p).2.1, .int .i64 (zE6 l p).2.2]) ∧ w' = w := by
  have hcl := zS4 5 (l.drop p)
  rw [List.length_drop] at hcl
  obtain ⟨ao, n, cap, rfl⟩ : ∃ ao n cap, v = .slice ao n cap := by obtain ⟨_, ao, cap, rfl, _⟩ := hrd; exact ⟨_, _, _, rfl⟩
  obtain rfl : n = l.length := by obtain ⟨_, ao', cap', e, _⟩ := hrd; injection e with _ e _; rw [e, zAn]
  by_cases h0 : cnt 5 (l.drop p) = 0
  · rw [zBu p hp (by unfold num; rw [if_pos h0])]
    go_enter Tryz.func65, Tryz.ntmps65
    go_wp2_with (go_at_call 109; refine (zH2 _ _ l p hrd hlen hp).mono ?_; rintro e w' ⟨rfl, rfl⟩)
    go_ret3
    exact ⟨rfl, rfl⟩
  · have hbyt := hrd.1
    obtain ⟨b, off, cap', e, hc1, hc2, hb, hcell⟩ := hrd.at (by omega)
    injection e with e1 _ e2
    subst e1 e2
    obtain ⟨k, hk⟩ : ∃ k, cnt 5 (l.drop p) = k := ⟨_, rfl⟩
    have hnum : num (l.drop p) = if 1 < k ∧ (l.drop p).getD (k - 1) 0 = 0 then none else if 2147483647 < val ((l.drop p).take k) then none else some (val ((l.drop p).take k), k) := by
      unfold num; rw [if_neg h0, hk]
    have hgr := zH2 w _ l p hrd hlen hp
    rw [hk] at hgr hcl h0
    have hy : (l.drop p).getD (k - 1) 0 = l.getD (p + k - 1) 0 := by simp [List.getD]; congr 2; omega
    have hcy : w.cell? ⟨b, off + (p + k - 1), none⟩ = some (.int .u8 (l.getD (p + k - 1) 0)) := hcell _ (by omega)
    have hyb := hbyt.getD (p + k - 1)
    rw [hy] at hnum
    clear hy
    generalize l.getD (p + k - 1) 0 = y at *
    have hpart : Rd w (.slice (some ⟨b, off + p, none⟩) k (cap - p)) ((l.drop p).take k) := Rd.part hbyt hcell p k (by omega) _ (by omega) (by unfold maxLen at *; omega)
    have hjoin := zJ2 w _ _ hpart (by rw [List.length_take]; omega)
    clear hcell hpart hbyt hrd hk
    have hvb := zH1 ((l.drop p).take k)
    rw [List.length_take] at hvb
    generalize val ((l.drop p).take k) = z at *
    have HG := (show Hid (∀ _ : Unit, Calls Tryz.prog 109 #[.slice (some ⟨b, off, none⟩) l.length cap, .int .i64 p] w fun e w' => e = .returned (.int .i64 k) ∧ w' = w) from fun _ => hgr)
    have HJ := (show Hid (∀ _ : Unit, Calls Tryz.prog 110 #[.slice (some ⟨b, off + p, none⟩) k (cap - p)] w fun e w' => e = .returned (.int .i64 z) ∧ w' = w) from fun _ => hjoin)
    clear hgr hjoin
    by_cases hk1 : 1 < k
    · by_cases hy0 : y = 0
      · rw [zBu p hp (by rw [hnum, if_pos ⟨hk1, hy0⟩])]
        clear hnum
        subst hy0
        go_enter Tryz.func65, Tryz.ntmps65
        go_wp2_with (go_at_call 109; refine (HG.out ()).mono ?_; rintro e w' ⟨rfl, rfl⟩)
        go_ret3
        exact ⟨rfl, rfl⟩
      · have hyy : (y == 0) = false := by simp [hy0]
        by_cases hz : 2147483647 < z
        · rw [zBu p hp (by rw [hnum, if_neg (fun h => hy0 h.2), if_pos hz])]
          clear hnum hy0
          go_enter Tryz.func65, Tryz.ntmps65
          go_wp2_with (first | (go_at_call 109; refine (HG.out ()).mono ?_; rintro e w' ⟨rfl, rfl⟩) | (go_at_call 110; refine (HJ.out ()).mono ?_; rintro e w' ⟨rfl, rfl⟩))
          go_ret3
          exact ⟨rfl, rfl⟩
        · rw [zD3 p hp (by rw [hnum, if_neg (fun h => hy0 h.2), if_neg hz])]
          clear hnum hy0
          go_enter Tryz.func65, Tryz.ntmps65
          go_wp2_with (first | (go_at_call 109; refine (HG.out ()).mono ?_; rintro e w' ⟨rfl, rfl⟩) | (go_at_call 110; refine (HJ.out ()).mono ?_; rintro e w' ⟨rfl, rfl⟩))
          go_ret3
          exact ⟨rfl, rfl⟩
    · have hk2 : k = 1 := by omega
      have hkd : decide ((1 : Int) < (k : Int)) = false := by simp; omega
      by_cases hz : 2147483647 < z
      · rw [zBu p hp (by rw [hnum, if_neg (fun h => hk1 h.1), if_pos hz])]
        clear hnum hk2
        go_enter Tryz.func65, Tryz.ntmps65
        go_wp2_with (first | (go_at_call 109; refine (HG.out ()).mono ?_; rintro e w' ⟨rfl, rfl⟩) | (go_at_call 110; refine (HJ.out ()).mono ?_; rintro e w' ⟨rfl, rfl⟩))
        go_ret3
        exact ⟨rfl, rfl⟩
      · rw [zD3 p hp (by rw [hnum, if_neg (fun h => hk1 h.1), if_neg hz])]
        clear hnum hk2
        go_enter Tryz.func65, Tryz.ntmps65
        go_wp2_with (first | (go_at_call 109; refine (HG.out ()).mono ?_; rintro e w' ⟨rfl, rfl⟩) | (go_at_call 110; refine (HJ.out ()).mono ?_; rintro e w' ⟨rfl, rfl⟩))
        go_ret3
        exact ⟨rfl, rfl⟩
theorem zJv (w : World) (v : Value) (l : List Int) (p : Int) (hrd : Rd w v l) (hlen : l.length ≤ 281474976710656) :
    Calls Tryz.prog 65 #[v, .int .i64 p] w fun e w' => e = .returned (.tuple #[.int .i64 (zE6 l p).1, .int .i64 (zE6 l p).2.1, .int .i64 (zE6 l p).2.2]) ∧ w' = w := by
  by_cases h0 : 0 ≤ p ∧ p ≤ (l.length : Int)
  · obtain ⟨q, rfl⟩ := Int.eq_ofNat_of_zero_le h0.1
    exact zUm w v l q hrd hlen (by omega)
  · obtain ⟨ao, n, cap, rfl⟩ : ∃ ao n cap, v = .slice ao n cap := by obtain ⟨_, ao, cap, rfl, _⟩ := hrd; exact ⟨_, _, _, rfl⟩
    obtain rfl : n = l.length := by obtain ⟨_, ao', cap', e, _⟩ := hrd; injection e with _ e _; rw [e, zAn]
    clear hrd
    rw [zKb (by omega)]
    by_cases h1 : p < 0
    · clear h0
      go_enter Tryz.func65, Tryz.ntmps65
      go_wp2_with fail
      go_ret3
      exact ⟨rfl, rfl⟩
    · have h2 : (l.length : Int) < p := by omega
      clear h0
      go_enter Tryz.func65, Tryz.ntmps65
      go_wp2_with fail
      go_ret3
      exact ⟨rfl, rfl⟩
theorem str_eq {a b : List Int} (ha : Byt a) (hb : Byt b) : ((strOfNums a).toList == (strOfNums b).toList) = decide (a = b) := by
  rw [Bool.eq_iff_iff]
  simp only [beq_iff_eq, decide_eq_true_eq]
  refine ⟨fun h1 => ?_, fun h => by rw [h]⟩
  rw [ByteArray.toList_eq, ByteArray.toList_eq, strOfNums_data, strOfNums_data] at h1
  induction a generalizing b with
  | nil => cases b with
    | nil => rfl
    | cons y b => simp at h1
  | cons x a ih => cases b with
    | nil => simp at h1
    | cons y b =>
      simp only [List.map_cons, List.cons.injEq] at h1
      have hx := ha x (by simp)
      have hy := hb y (by simp)
      have e := congrArg UInt8.toNat h1.1
      simp at e
      rw [ih (fun z hz => ha z (by simp [hz])) (fun z hz => hb z (by simp [hz])) h1.2]
      congr 1
      omega
theorem zEg {w : World} {v : Value} {l : List Int} (h : Rd w v l) : (convert 23 9 v).run Tryz.prog w = .ok (.string (strOfNums l)) w := by
  by_cases hl : 0 < l.length
  · obtain ⟨b, off, cap, rfl, hc1, hc2, hb, hcell⟩ := h.at hl
    exact run_convert_bytes_arg w 23 5 Tryz.underlying23 Tryz.underlying5 b off l.length cap l rfl hcell 9 Tryz.underlying9
  · have hl0 : l = [] := List.eq_nil_of_length_eq_zero (by omega)
    subst hl0
    obtain ⟨ao, cap, rfl, hc⟩ := h.empty rfl
    have e : strOfNums [] = ByteArray.empty := rfl
    rw [e]
    cases ao with
    | none => exact run_convert_bytes_nil w 23 5 Tryz.underlying23 Tryz.underlying5 0 cap 9 Tryz.underlying9
    | some a =>
      rw [run_convert_bytes_string w 23 9 5 (some a) 0 cap Tryz.underlying23 Tryz.underlying5 Tryz.underlying9, run_bytesToString w a 0 cap [] (by simp [loadCells, loadCellsFrom])]
      rfl
theorem zKv (w : World) (u v : Value) (a b : List Int) (ha : Rd w u a) (hb : Rd w v b) :
    Calls Tryz.prog 11 #[u, v] w fun e w' => e = .returned (.bool (decide (a = b))) ∧ w' = w := by
  have h1 := zEg ha
  have h2 := zEg hb
  have h3 := str_eq ha.1 hb.1
  clear ha hb
  rw [← h3]
  clear h3
  go_enter Tryz.func11, Tryz.ntmps11
  go_wp2_with fail
  go_ret
  exact ⟨rfl, rfl⟩
end
end Go.Proofs.YtgjepofinpmcpaaGreatDoor
