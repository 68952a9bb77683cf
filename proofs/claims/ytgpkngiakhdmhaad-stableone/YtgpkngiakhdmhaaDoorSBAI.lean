/- Names with values, plain: texts in order, entries in order, what an operation does; nothing of any program. -/
import Derived.Test.YtgpkngiakhdmhaaDoorSBAA
set_option linter.unusedSimpArgs false
set_option linter.unusedVariables false
namespace Go.Proofs.YtgpkngiakhdmhaaDoor
namespace Kvl
abbrev PEnt := List Int × List Int
abbrev POp := Int × List Int × List Int × List Int × Int
/-- Texts by their bytes: -1, 0, 1. -/
def cmpL : List Int → List Int → Int
  | [], [] => 0
  | [], _ :: _ => -1
  | _ :: _, [] => 1
  | a :: as0, b :: bs => if a < b then -1 else if b < a then 1 else cmpL as0 bs
theorem cmp_eq : ∀ {a b : List Int}, cmpL a b = 0 → a = b
  | [], [], _ => rfl
  | [], _ :: _, h => by simp [cmpL] at h
  | _ :: _, [], h => by simp [cmpL] at h
  | a :: as0, b :: bs, h => by
    unfold cmpL at h
    split at h
    · simp at h
    · split at h
      · simp at h
      · rw [cmp_eq h, show a = b by omega]
theorem cmp_neg : ∀ a b : List Int, cmpL b a = - cmpL a b
  | [], [] => by simp [cmpL]
  | [], _ :: _ => by simp [cmpL]
  | _ :: _, [] => by simp [cmpL]
  | a :: as0, b :: bs => by
    have ih := cmp_neg as0 bs
    unfold cmpL
    by_cases h1 : a < b
    · rw [if_pos h1, if_neg (by omega), if_pos h1]; rfl
    · by_cases h2 : b < a
      · rw [if_pos h2, if_neg h1, if_pos h2]
      · rw [if_neg h1, if_neg h2, if_neg h1, if_neg h2]; exact ih
theorem cmp_gt {a b : List Int} (h : ¬ cmpL a b < 0) (hn : a ≠ b) : cmpL b a < 0 := by
  have h1 := cmp_neg a b
  have h2 : cmpL a b ≠ 0 := fun e => hn (cmp_eq e)
  omega
/-! Entries. -/
def rgt1 (e : PEnt) : Prop := 1 ≤ e.1.length ∧ e.1.length ≤ 16 ∧ e.2.length ≤ 64
instance (e : PEnt) : Decidable (rgt1 e) := by unfold rgt1; infer_instance
/-- Each Name above the one ahead of it. -/
def up : List Int → List PEnt → Prop
  | _, [] => True
  | n, x :: r => cmpL n x.1 < 0 ∧ up x.1 r
instance upDec : (n : List Int) → (l : List PEnt) → Decidable (up n l)
  | _, [] => isTrue trivial
  | n, x :: r => @instDecidableAnd _ _ _ (upDec x.1 r)
def rgtL (l : List PEnt) : Prop := l.length ≤ 64 ∧ up [] l ∧ ∀ e ∈ l, rgt1 e
instance (l : List PEnt) : Decidable (rgtL l) := by unfold rgtL; infer_instance
def getR (n : List Int) : List PEnt → Option (List Int)
  | [] => none
  | x :: r => if cmpL x.1 n < 0 then getR n r else if x.1 = n then some x.2 else none
def putR (n v : List Int) : List PEnt → List PEnt
  | [] => [(n, v)]
  | x :: r => if cmpL x.1 n < 0 then x :: putR n v r else if x.1 = n then (n, v) :: r else (n, v) :: x :: r
theorem put_up {n v : List Int} : ∀ {l : List PEnt} {m : List Int}, up m l → cmpL m n < 0 → up m (putR n v l)
  | [], _, _, hn => ⟨hn, trivial⟩
  | x :: r, m, h, hn => by
    unfold putR
    by_cases h1 : cmpL x.1 n < 0
    · rw [if_pos h1]; exact ⟨h.1, put_up h.2 h1⟩
    · by_cases h2 : x.1 = n
      · rw [if_neg h1, if_pos h2]; exact ⟨hn, h2 ▸ h.2⟩
      · rw [if_neg h1, if_neg h2]; exact ⟨hn, cmp_gt h1 h2, h.2⟩
theorem put_mem {n v : List Int} : ∀ {l : List PEnt}, ∀ e ∈ putR n v l, e = (n, v) ∨ e ∈ l
  | [], e, h => by unfold putR at h; exact .inl (by simpa using h)
  | x :: r, e, h => by
    unfold putR at h
    split at h
    · rcases List.mem_cons.1 h with rfl | h
      · exact .inr (by simp)
      · rcases put_mem e h with h | h
        · exact .inl h
        · exact .inr (by simp [h])
    · split at h
      · rcases List.mem_cons.1 h with rfl | h
        · exact .inl rfl
        · exact .inr (by simp [h])
      · rcases List.mem_cons.1 h with rfl | h
        · exact .inl rfl
        · exact .inr h
/-! Operations. -/
def mA (k : Int) : Nat := if k = 2 ∨ k = 3 then 64 else 0
def mB (k : Int) : Nat := if k = 3 then 64 else 0
def lN (k : Int) : Int := if k = 5 ∨ k = 6 then 1 else 0
def mN (k : Int) : Int := if k = 5 ∨ k = 6 then 1000 else 0
/-- Can it be written? -/
def wok (o : POp) : Prop := (1 ≤ o.1 ∧ o.1 ≤ 8) ∧ (1 ≤ o.2.1.length ∧ o.2.1.length ≤ 16) ∧ o.2.2.1.length ≤ mA o.1 ∧ o.2.2.2.1.length ≤ mB o.1 ∧ lN o.1 ≤ o.2.2.2.2 ∧ o.2.2.2.2 ≤ mN o.1
instance (o : POp) : Decidable (wok o) := by unfold wok; infer_instance
end Kvl
end Go.Proofs.YtgpkngiakhdmhaaDoor
