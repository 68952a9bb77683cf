/- Records one behind the other, plain: what scanning finds. -/
import Derived.Test.YteafgdidjdfiiaaLst
set_option linter.unusedVariables false
namespace Go.Proofs.Yteafgdidjdfiiaa
open Oct

/-- A record with its length ahead. -/
def frm (t : List Int) : List Int := enc t.length ++ t
theorem packL_frm (a : List (List Int)) (t : List Int) : packL (a ++ [t]) = packL a ++ frm t := by rw [packL_snoc, List.append_assoc]; rfl
theorem frm_pos (t : List Int) : 1 ≤ (frm t).length := by have := enc_len (t.length : Int); unfold frm; rw [List.length_append]; omega
/-- The whole records from a place on, and where they end. -/
def scnF : Nat → List Int → Nat → List (List Int) × Nat
  | 0, _, p => ([], p)
  | f + 1, l, p => if p < l.length then (if (getB l p 2147483647).2.2 = 0 then ((getB l p 2147483647).1 :: (scnF f l (getB l p 2147483647).2.1.toNat).1, (scnF f l (getB l p 2147483647).2.1.toNat).2) else ([], p)) else ([], p)
def scn (l : List Int) : List (List Int) × Nat := scnF (l.length + 1) l 0
theorem scnF_end (f : Nat) (l : List Int) (p : Nat) (h : l.length ≤ p) : scnF (f + 1) l p = ([], p) := by
  unfold scnF
  rw [if_neg (by omega)]
theorem scnF_no (f : Nat) (l : List Int) (p : Nat) (h : p < l.length) (hg : getB l p 2147483647 = ([], 0, 11)) : scnF (f + 1) l p = ([], p) := by
  unfold scnF
  rw [if_pos h, hg]
  rfl
theorem scnF_go (f : Nat) (l : List Int) (p : Nat) (h : p < l.length) {t : List Int} {s : Nat} (hg : getB l p 2147483647 = (t, (s : Int), 0)) : scnF (f + 1) l p = (t :: (scnF f l s).1, (scnF f l s).2) := by
  conv => lhs; unfold scnF
  rw [if_pos h, hg]
  simp
/-- Where a loop over them stands. -/
def SWay (l : List Int) (p : Nat) (done : List (List Int)) : Prop := ∃ f, l.length - p < f ∧ (done ++ (scnF f l p).1, (scnF f l p).2) = scn l
theorem SWay.start (l : List Int) : SWay l 0 [] := ⟨l.length + 1, by omega, rfl⟩
theorem SWay.end {l : List Int} {p : Nat} {done : List (List Int)} (h : SWay l p done) (hp : l.length ≤ p) : scn l = (done, p) := by
  obtain ⟨f, hf, e⟩ := h
  obtain ⟨g, rfl⟩ : ∃ g, f = g + 1 := ⟨f - 1, by omega⟩
  rw [← e, scnF_end g l p hp]
  simp
theorem SWay.no {l : List Int} {p : Nat} {done : List (List Int)} (h : SWay l p done) (hp : p < l.length) (hg : getB l p 2147483647 = ([], 0, 11)) : scn l = (done, p) := by
  obtain ⟨f, hf, e⟩ := h
  obtain ⟨g, rfl⟩ : ∃ g, f = g + 1 := ⟨f - 1, by omega⟩
  rw [← e, scnF_no g l p hp hg]
  simp
theorem SWay.go {l : List Int} {p : Nat} {done : List (List Int)} (h : SWay l p done) (hp : p < l.length) {t : List Int} {s : Nat} (hg : getB l p 2147483647 = (t, (s : Int), 0)) (hs : p < s) : SWay l s (done ++ [t]) := by
  obtain ⟨f, hf, e⟩ := h
  obtain ⟨g, rfl⟩ : ∃ g, f = g + 1 := ⟨f - 1, by omega⟩
  rw [scnF_go g l p hp hg] at e
  refine ⟨g, by omega, ?_⟩
  rw [← e]
  simp
/-- What the records take is just their bytes. -/
theorem scnF_take : ∀ (f : Nat) (l : List Int) (p : Nat), Byt l → p ≤ l.length → l.length - p < f → p ≤ (scnF f l p).2 ∧ (scnF f l p).2 ≤ l.length ∧ l.drop p = packL (scnF f l p).1 ++ l.drop (scnF f l p).2 ∧ Byts (scnF f l p).1 ∧ tot (scnF f l p).1 + p ≤ (scnF f l p).2
  | 0, l, p, hb, hp, hf => by omega
  | f + 1, l, p, hb, hp, hf => by
    rcases Nat.lt_or_ge p l.length with h | h
    · rcases getB_cases l p hb with hg | ⟨t, s, hg, hd, hs, hps⟩
      · rw [scnF_no f l p h hg]
        exact ⟨Nat.le_refl _, hp, by simp [packL], (fun x hx => by cases hx), by simp [tot]⟩
      · rw [scnF_go f l p h hg]
        obtain ⟨i1, i2, i3, i4, i5⟩ := scnF_take f l s hb hs (by omega)
        have hbt : Byt t := by
          have : Byt (enc t.length ++ t ++ l.drop s) := by rw [← hd]; exact hb.drop p
          exact this.left.right
        refine ⟨by simp only; omega, i2, ?_, ?_, ?_⟩
        · simp only [packL]
          rw [hd, i3]
          simp [List.append_assoc]
        · intro x hx
          rcases List.mem_cons.1 hx with rfl | hx
          · exact hbt
          · exact i4 x hx
        · simp only [tot]
          omega
    · rw [scnF_end f l p h]
      exact ⟨Nat.le_refl _, hp, by simp [packL], (fun x hx => by cases hx), by simp [tot]⟩
theorem scn_take {l : List Int} (hb : Byt l) : (scn l).2 ≤ l.length ∧ packL (scn l).1 = l.take (scn l).2 ∧ Byts (scn l).1 ∧ tot (scn l).1 ≤ (scn l).2 := by
  obtain ⟨_, h2, h3, h4, h5⟩ := scnF_take (l.length + 1) l 0 hb (Nat.zero_le _) (by omega)
  refine ⟨h2, ?_, h4, h5⟩
  show packL (scnF (l.length + 1) l 0).1 = l.take (scnF (l.length + 1) l 0).2
  have h3' : l = packL (scnF (l.length + 1) l 0).1 ++ l.drop (scnF (l.length + 1) l 0).2 := h3
  have e := List.take_append_drop (scnF (l.length + 1) l 0).2 l
  exact (List.append_cancel_right (h3'.symm.trans e.symm))
/-- A frame that is cut off is no record. -/
theorem getB_torn (a t z : List Int) (ht : t.length ≤ 2147483647) (hz : Byt z) (ha : Byt a) (hp : ∃ r, r ≠ [] ∧ z ++ r = frm t) : getB (a ++ z) (a.length : Int) 2147483647 = ([], 0, 11) := by
  obtain ⟨r, hr, he⟩ := hp
  rcases getB_cases (a ++ z) a.length (ha.app hz) with hg | ⟨u, s, hg, hd, hs, hps⟩
  · exact hg
  · exfalso
    rw [List.drop_left] at hd
    have h1 : num (frm t) = some ((t.length : Int), (enc t.length).length) := num_enc _ _ (by omega) (by omega)
    have hu : u.length ≤ 2147483647 := by
      have h0 := congrArg List.length hd
      have h2 := congrArg List.length he
      have h3 := enc_len5 (t.length : Int) (by omega) (by omega)
      simp only [List.length_append, frm] at h0 h2
      have h4 : 0 < r.length := List.length_pos_iff.2 hr
      have h5 := enc_len (u.length : Int)
      rcases getI_cases (a ++ z) a.length (ha.app hz) with hgi | ⟨n, k, q, hpq, hgi, hn, _⟩
      · unfold getB at hg
        rw [hgi] at hg
        simp at hg
      · unfold getB at hg
        rw [hgi] at hg
        split at hg
        · simp at hg
        · simp only [Prod.mk.injEq] at hg
          have := congrArg List.length hg.1
          rw [List.length_take] at this
          simp only [Int.toNat_natCast] at this
          omega
    have h2 : num (enc u.length ++ (u ++ ((a ++ z).drop s ++ r))) = some ((u.length : Int), (enc u.length).length) := num_enc _ _ (by omega) (by omega)
    have h3 : enc u.length ++ (u ++ ((a ++ z).drop s ++ r)) = frm t := by
      rw [← he]
      conv => rhs; rw [hd]
      simp [List.append_assoc]
    rw [h3, h1] at h2
    simp only [Option.some.injEq, Prod.mk.injEq] at h2
    have h4 := congrArg List.length h3
    have h5 : 0 < r.length := List.length_pos_iff.2 hr
    have h6 : (u.length : Int) = t.length := h2.1.symm
    have h7 := h2.2
    unfold frm at h4
    simp only [List.length_append] at h4
    omega
/-- Records, and a frame that may be cut off: what scanning finds. -/
theorem scnF_pack : ∀ (ll : List (List Int)) (f : Nat) (a z : List Int), Byt a → Byts ll → Byt z → tot ll ≤ 1000000000 → (packL ll ++ z).length < f → (z = [] ∨ getB (a ++ (packL ll ++ z)) ((a ++ packL ll).length : Int) 2147483647 = ([], 0, 11)) → scnF f (a ++ (packL ll ++ z)) a.length = (ll, (a ++ packL ll).length)
  | [], f, a, z, ha, hl, hz, ht, hf, hh => by
    obtain ⟨g, rfl⟩ : ∃ g, f = g + 1 := ⟨f - 1, by omega⟩
    simp only [packL, List.nil_append, List.append_nil] at hh hf ⊢
    rcases hh with rfl | hh
    · exact scnF_end g _ _ (by simp)
    · rcases Nat.lt_or_ge a.length (a ++ z).length with h | h
      · exact scnF_no g _ _ h hh
      · exact scnF_end g _ _ h
  | t :: ll, f, a, z, ha, hl, hz, ht, hf, hh => by
    obtain ⟨g, rfl⟩ : ∃ g, f = g + 1 := ⟨f - 1, by omega⟩
    simp only [tot] at ht
    have hbt := hl t (by simp)
    have hle := enc_len (t.length : Int)
    have e : a ++ (packL (t :: ll) ++ z) = a ++ (enc t.length ++ t ++ (packL ll ++ z)) := by simp [packL, List.append_assoc]
    have hg := getB_at a t (packL ll ++ z) (by omega)
    have e2 : a ++ (enc t.length ++ t ++ (packL ll ++ z)) = (a ++ (enc t.length ++ t)) ++ (packL ll ++ z) := by simp [List.append_assoc]
    have hlen : (a ++ (enc t.length ++ t)).length = a.length + (enc t.length).length + t.length := by simp only [List.length_append]; omega
    have ih := scnF_pack ll g (a ++ (enc t.length ++ t)) z (ha.app ((enc_byt _ (by omega) (by omega)).app hbt)) (fun x hx => hl x (by simp [hx])) hz (by omega) (by
      simp only [packL, List.length_append] at hf ⊢
      omega) (by
      rcases hh with h | h
      · exact .inl h
      · right
        have e3 : a ++ packL (t :: ll) = a ++ (enc t.length ++ t) ++ packL ll := by simp [packL, List.append_assoc]
        rw [e, e2, e3] at h
        exact h)
    rw [e, scnF_go g _ _ (by simp only [List.length_append]; omega) hg, ← hlen, e2, ih]
    simp [packL, List.append_assoc]
theorem scn_pack {ll : List (List Int)} (hl : Byts ll) (ht : tot ll ≤ 1000000000) : scn (packL ll) = (ll, (packL ll).length) := by
  have := scnF_pack ll ((packL ll).length + 1) [] [] Byt.nil hl Byt.nil ht (by simp) (.inl rfl)
  simpa [scn] using this
/-- Behind records a part of a frame: none, some, or all of it. -/
theorem scn_torn {ll : List (List Int)} {t : List Int} (hl : Byts ll) (hb : Byt t) (ht : tot ll + t.length + 1 ≤ 1000000000) (k : Nat) :
    scn (packL ll ++ (frm t).take k) = if k < (frm t).length then (ll, (packL ll).length) else (ll ++ [t], (packL (ll ++ [t])).length) := by
  have hbf : Byt (frm t) := (enc_byt _ (by omega) (by omega)).app hb
  split
  · rename_i hk
    have hpb := packL_byt hl (by omega : tot ll ≤ 1000000000)
    have hg := getB_torn (packL ll) t ((frm t).take k) (by omega) (hbf.take k) hpb ⟨(frm t).drop k, by
      intro e
      have := congrArg List.length e
      rw [List.length_drop] at this
      simp at this
      omega, List.take_append_drop _ _⟩
    have := scnF_pack ll ((packL ll ++ (frm t).take k).length + 1) [] ((frm t).take k) Byt.nil hl (hbf.take k) (by omega) (by simp) (.inr (by simpa using hg))
    simpa [scn] using this
  · rename_i hk
    rw [List.take_of_length_le (by omega), ← packL_frm]
    exact scn_pack (fun x hx => by
      rcases List.mem_append.1 hx with h | h
      · exact hl x h
      · simp at h; subst h; exact hb) (by rw [tot_app]; simp only [tot]; omega)
end Go.Proofs.Yteafgdidjdfiiaa
