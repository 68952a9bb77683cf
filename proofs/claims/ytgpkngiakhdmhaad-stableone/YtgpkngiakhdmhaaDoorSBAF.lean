/- Lists of texts: the plain mathematics. -/
import Derived.Test.YtgpkngiakhdmhaaDoorSBAA
namespace Go.Proofs.YtgpkngiakhdmhaaDoor
namespace Oct
/-- Texts as one. -/
def packL : List (List Int) → List Int
  | [] => []
  | l :: r => enc l.length ++ l ++ packL r
theorem packL_app : ∀ (a b : List (List Int)), packL (a ++ b) = packL a ++ packL b
  | [], b => rfl
  | l :: r, b => by simp [packL, packL_app r b]
theorem packL_snoc (a : List (List Int)) (l : List Int) : packL (a ++ [l]) = packL a ++ enc l.length ++ l := by rw [packL_app]; simp [packL]
/-- How much a list of texts holds. -/
def tot : List (List Int) → Nat
  | [] => 0
  | l :: r => l.length + 1 + tot r
theorem tot_app : ∀ (a b : List (List Int)), tot (a ++ b) = tot a + tot b
  | [], b => by simp [tot]
  | l :: r, b => by simp [tot, tot_app r b]; omega
theorem packL_len : ∀ (ll : List (List Int)), (packL ll).length ≤ 10 * tot ll
  | [] => by simp [packL]
  | l :: r => by
    have h1 := packL_len r
    have h2 := enc_len (l.length : Int)
    simp only [packL, tot, List.length_append]
    omega
theorem len_tot : ∀ (ll : List (List Int)), ll.length ≤ tot ll
  | [] => by simp [tot]
  | l :: r => by have := len_tot r; simp [tot]; omega
theorem mem_tot : ∀ {ll : List (List Int)} {l : List Int}, l ∈ ll → l.length < tot ll
  | [], _, h => by cases h
  | x :: r, l, h => by
    rcases List.mem_cons.1 h with e | e
    · subst e; simp [tot]; omega
    · have := mem_tot e; simp [tot]; omega
theorem take_snoc' {α : Type} (l : List α) (k : Nat) (x : α) (h : l[k]? = some x) : l.take (k + 1) = l.take k ++ [x] := by
  obtain ⟨hk, e⟩ := List.getElem?_eq_some_iff.1 h
  rw [List.take_succ_eq_append_getElem hk, e]
theorem tot_take (ll : List (List Int)) (k : Nat) : tot (ll.take k) ≤ tot ll := by
  have := tot_app (ll.take k) (ll.drop k)
  rw [List.take_append_drop] at this
  omega
/-- Every text is of bytes. -/
def Byts (ll : List (List Int)) : Prop := ∀ l ∈ ll, Byt l
theorem packL_byt : ∀ {ll : List (List Int)}, Byts ll → tot ll ≤ 1000000000 → Byt (packL ll)
  | [], _, _ => Byt.nil
  | l :: r, h, ht => by
    simp only [tot] at ht
    exact ((enc_byt _ (by omega) (by omega)).app (h l (by simp))).app (packL_byt (fun x hx => h x (by simp [hx])) (by omega))
/-! Unpacking -/
/-- The text at a place, in full: no text; or its bytes stand there. -/
theorem getB_cases (l : List Int) (p : Nat) (hb : Byt l) : getB l p 2147483647 = ([], 0, 11) ∨
    ∃ (t : List Int) (s : Nat), getB l p 2147483647 = (t, (s : Int), 0) ∧ l.drop p = enc t.length ++ t ++ l.drop s ∧ s ≤ l.length ∧ p + t.length + 1 ≤ s := by
  rcases getI_cases l p hb with hg | ⟨n, k, q, hpq, hg, hn, k1, k5, kl, ht⟩
  · left; unfold getB; rw [hg]; simp
  · have hq : p = q := by omega
    subst hq
    by_cases hr : (l.length : Int) - ((p + k : Nat) : Int) < (n : Int)
    · left; unfold getB; rw [hg, if_pos (.inr (.inr hr))]
    · right
      have hlen : ((l.drop (p + k)).take n).length = n := by rw [List.length_take, List.length_drop]; omega
      refine ⟨(l.drop (p + k)).take n, p + k + n, ?_, ?_, by omega, by omega⟩
      · unfold getB
        rw [hg, if_neg (by simp; omega)]
        simp only [Int.toNat_natCast]
        simp
      · rw [hlen, ← ht, List.append_assoc]
        have e1 : l.drop (p + k + n) = (l.drop (p + k)).drop n := by rw [List.drop_drop]
        have e2 : l.drop (p + k) = (l.drop p).drop k := by rw [List.drop_drop]
        rw [e1, List.take_append_drop, e2, List.take_append_drop]
def unpF : Nat → List Int → Int → Option (List (List Int))
  | 0, _, _ => some []
  | f + 1, l, p => if p < (l.length : Int) then (if (getB l p 2147483647).2.2 = 0 then (unpF f l (getB l p 2147483647).2.1).map ((getB l p 2147483647).1 :: ·) else none) else some []
/-- The texts that were packed, if they were. -/
def unp (l : List Int) : Option (List (List Int)) := unpF (l.length + 1) l 0
theorem unpF_end (f : Nat) (l : List Int) (p : Nat) (h : l.length ≤ p) : unpF (f + 1) l p = some [] := by
  simp only [unpF]; rw [if_neg (by omega)]
theorem unpF_no (f : Nat) (l : List Int) (p : Nat) (h : p < l.length) (hg : getB l p 2147483647 = ([], 0, 11)) : unpF (f + 1) l p = none := by
  simp only [unpF]; rw [if_pos (by omega), hg, if_neg (by decide)]
theorem unpF_go (f : Nat) (l : List Int) (p : Nat) (h : p < l.length) {t : List Int} {s : Nat} (hg : getB l p 2147483647 = (t, (s : Int), 0)) : unpF (f + 1) l p = (unpF f l s).map (t :: ·) := by
  simp only [unpF]; rw [if_pos (by omega), hg, if_pos rfl]
theorem unpF_some : ∀ (f : Nat) (l : List Int) (p : Nat) (ll : List (List Int)), Byt l → p ≤ l.length → l.length - p < f → unpF f l p = some ll → packL ll = l.drop p ∧ Byts ll ∧ tot ll + p ≤ l.length
  | 0, l, p, ll, _, _, h, _ => by omega
  | f + 1, l, p, ll, hb, hp, hf, h => by
    by_cases hpl : p < l.length
    · rcases getB_cases l p hb with hg | ⟨t, s, hg, hd, hs, hps⟩
      · rw [unpF_no f l p hpl hg] at h; cases h
      · rw [unpF_go f l p hpl hg] at h
        obtain ⟨r, hr, rfl⟩ := Option.map_eq_some_iff.1 h
        obtain ⟨i1, i2, i3⟩ := unpF_some f l s r hb hs (by omega) hr
        have hbt : Byt t := by
          have := getB_byt l p 2147483647 hb
          rw [hg] at this
          exact this
        refine ⟨?_, ?_, ?_⟩
        · simp only [packL]; rw [i1, hd]
        · intro x hx
          rcases List.mem_cons.1 hx with e | e
          · subst e; exact hbt
          · exact i2 x e
        · simp only [tot]; omega
    · rw [unpF_end f l p (by omega)] at h
      cases h
      refine ⟨?_, fun x hx => by (cases hx), by simp [tot]; omega⟩
      rw [List.drop_eq_nil_of_le (by omega)]; rfl
theorem unp_some {l : List Int} {ll : List (List Int)} (hb : Byt l) (h : unp l = some ll) : packL ll = l ∧ Byts ll ∧ tot ll ≤ l.length := by
  obtain ⟨h1, h2, h3⟩ := unpF_some (l.length + 1) l 0 ll hb (Nat.zero_le _) (by omega) h
  exact ⟨by simpa using h1, h2, by omega⟩
/-- A text with its length ahead is read. -/
theorem getB_at (a t b : List Int) (ht : t.length ≤ 2147483647) : getB (a ++ (enc t.length ++ t ++ b)) (a.length : Int) 2147483647 = (t, ((a.length + (enc t.length).length + t.length : Nat) : Int), 0) := by
  have hl := enc_len (t.length : Int)
  have hg : getI (a ++ (enc t.length ++ t ++ b)) (a.length : Int) = ((t.length : Int), ((a.length + (enc t.length).length : Nat) : Int), 0) := by
    have := getI_some (l := a ++ (enc t.length ++ t ++ b)) a.length (by simp) (n := (t.length : Int)) (k := (enc t.length).length) (by
      rw [List.drop_left, List.append_assoc]
      exact num_enc _ _ (by omega) (by omega))
    rw [this]
    simp
  unfold getB
  rw [hg, if_neg (by simp; omega)]
  simp only [Int.toNat_natCast]
  have e : (a ++ (enc t.length ++ t ++ b)).drop (a.length + (enc t.length).length) = t ++ b := by
    rw [← List.drop_drop, List.drop_left, List.append_assoc, List.drop_left]
  rw [e, List.take_left]
  simp
theorem unpF_pack : ∀ (ll : List (List Int)) (f : Nat) (a : List Int), tot ll ≤ 2147483647 → (packL ll).length < f → unpF f (a ++ packL ll) (a.length : Int) = some ll
  | [], f, a, _, hf => by
    obtain ⟨g, rfl⟩ : ∃ g, f = g + 1 := ⟨f - 1, by omega⟩
    exact unpF_end g _ _ (by simp [packL])
  | t :: r, f, a, ht, hf => by
    obtain ⟨g, rfl⟩ : ∃ g, f = g + 1 := ⟨f - 1, by omega⟩
    have hl := enc_len (t.length : Int)
    simp only [tot] at ht
    simp only [packL, List.length_append] at hf
    have hg := getB_at a t (packL r) (by omega)
    have e := unpF_go g (a ++ packL (t :: r)) a.length (by simp only [packL, List.length_append]; omega) hg
    rw [e]
    have e2 : a ++ packL (t :: r) = (a ++ enc t.length ++ t) ++ packL r := by simp [packL]
    have e3 : a.length + (enc t.length).length + t.length = (a ++ enc (t.length : Int) ++ t).length := by simp only [List.length_append]
    rw [e2, e3, unpF_pack r g (a ++ enc t.length ++ t) (by omega) (by omega)]
    rfl
theorem unp_pack (ll : List (List Int)) (ht : tot ll ≤ 2147483647) : unp (packL ll) = some ll := by
  have := unpF_pack ll ((packL ll).length + 1) [] ht (by omega)
  simpa [unp] using this
/-- Unlike lists have unlike packs. -/
theorem packL_inj {a b : List (List Int)} (ha : tot a ≤ 2147483647) (hb : tot b ≤ 2147483647) (h : packL a = packL b) : a = b := by
  have h1 := unp_pack a ha
  have h2 := unp_pack b hb
  rw [h] at h1
  rw [h1] at h2
  exact Option.some.inj h2
/-- How far the unpacking has come. -/
def UWay (l : List Int) (p : Nat) (done : List (List Int)) : Prop := ∃ f, l.length - p < f ∧ (unpF f l p).map (done ++ ·) = unp l
theorem UWay.start (l : List Int) : UWay l 0 [] := ⟨l.length + 1, by omega, by
  show (unp l).map ([] ++ ·) = unp l
  cases unp l <;> rfl⟩
theorem UWay.no {l : List Int} {p : Nat} {done : List (List Int)} (h : UWay l p done) (hp : p < l.length) (hg : getB l p 2147483647 = ([], 0, 11)) : unp l = none := by
  obtain ⟨f, hf, e⟩ := h
  obtain ⟨g, rfl⟩ : ∃ g, f = g + 1 := ⟨f - 1, by omega⟩
  rw [unpF_no g l p hp hg] at e
  rw [← e]
  rfl
#print axioms unp_some
#print axioms packL_inj
end Oct
end Go.Proofs.YtgpkngiakhdmhaaDoor
