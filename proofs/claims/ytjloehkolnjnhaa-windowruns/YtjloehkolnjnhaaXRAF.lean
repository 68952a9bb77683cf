/- Names with values, plain: the place of a name; the document's way of putting; what the laws ask. -/
import Derived.Test.YtjloehkolnjnhaaXRAC
import Derived.Test.YtjloehkolnjnhaaXRAA
set_option linter.unusedSimpArgs false
set_option linter.unusedVariables false
namespace Go.Proofs.Ytjloehkolnjnhaa
section
open Go.RowKit Oct
/-- bytes.Equal. -/
theorem equalB_any (w : World) (u v : Value) (a b : List Int) (ha : Rd w u a) (hb : Rd w v b) :
    Calls Try.prog 55 #[u, v] w fun e w' => e = .returned (.bool (decide (a = b))) ∧ w' = w := by
  have h1 := run_str ha
  have h2 := run_str hb
  have h3 := str_eq ha.1 hb.1
  clear ha hb
  rw [← h3]
  clear h3
  go_enter Try.func55, Try.ntmps55
  go_wp2_with fail
  go_ret
  exact ⟨rfl, rfl⟩
end
section
namespace Kvl
abbrev PEnt := List Int × List Int
abbrev POp := Int × List Int × List Int × List Int × Int
/-- Texts by their bytes: -1, 0, 1. -/
def cmpL : List Int → List Int → Int
  | [], [] => 0
  | [], _ :: _ => -1
  | _ :: _, [] => 1
  | a :: as0, b :: bs => if a < b then -1 else if b < a then 1 else cmpL as0 bs
/-! Entries. -/
def rgt1 (e : PEnt) : Prop := 1 ≤ e.1.length ∧ e.1.length ≤ 16 ∧ e.2.length ≤ 64
instance (e : PEnt) : Decidable (rgt1 e) := by unfold rgt1; infer_instance
/-- Each Name above the one ahead of it. -/
def up : List Int → List PEnt → Prop
  | _, [] => True
  | n, x :: r => cmpL n x.1 < 0 ∧ up x.1 r
instance upDec : (n : List Int) → (l : List PEnt) → Decidable (up n l)
  | _, [] => isTrue trivial
  | n, x :: r => @instDecidableAnd _ _ _ (upDec x.1 r)
def rgtL (l : List PEnt) : Prop := l.length ≤ 64 ∧ up [] l ∧ ∀ e ∈ l, rgt1 e
instance (l : List PEnt) : Decidable (rgtL l) := by unfold rgtL; infer_instance
def getR (n : List Int) : List PEnt → Option (List Int)
  | [] => none
  | x :: r => if cmpL x.1 n < 0 then getR n r else if x.1 = n then some x.2 else none
def putR (n v : List Int) : List PEnt → List PEnt
  | [] => [(n, v)]
  | x :: r => if cmpL x.1 n < 0 then x :: putR n v r else if x.1 = n then (n, v) :: r else (n, v) :: x :: r
theorem put_mem {n v : List Int} : ∀ {l : List PEnt}, ∀ e ∈ putR n v l, e = (n, v) ∨ e ∈ l
  | [], e, h => by unfold putR at h; exact .inl (by simpa using h)
  | x :: r, e, h => by
    unfold putR at h
    split at h
    · rcases List.mem_cons.1 h with rfl | h
      · exact .inr (by simp)
      · rcases put_mem e h with h | h
        · exact .inl h
        · exact .inr (by simp [h])
    · split at h
      · rcases List.mem_cons.1 h with rfl | h
        · exact .inl rfl
        · exact .inr (by simp [h])
      · rcases List.mem_cons.1 h with rfl | h
        · exact .inl rfl
        · exact .inr h
/-! Operations. -/
def mA (k : Int) : Nat := if k = 2 ∨ k = 3 then 64 else 0
def mB (k : Int) : Nat := if k = 3 then 64 else 0
def lN (k : Int) : Int := if k = 5 ∨ k = 6 then 1 else 0
def mN (k : Int) : Int := if k = 5 ∨ k = 6 then 1000 else 0
/-- Can it be written? -/
def wok (o : POp) : Prop := (1 ≤ o.1 ∧ o.1 ≤ 8) ∧ (1 ≤ o.2.1.length ∧ o.2.1.length ≤ 16) ∧ o.2.2.1.length ≤ mA o.1 ∧ o.2.2.2.1.length ≤ mB o.1 ∧ lN o.1 ≤ o.2.2.2.2 ∧ o.2.2.2.2 ≤ mN o.1
instance (o : POp) : Decidable (wok o) := by unfold wok; infer_instance
end Kvl
end
section
namespace Kvl
/-- Where the entry of a name is, or would be. -/
def pos (n : List Int) : List PEnt → Nat
  | [] => 0
  | x :: r => if cmpL x.1 n < 0 then pos n r + 1 else 0
theorem put_new {n v : List Int} : ∀ {l : List PEnt}, getR n l = none → putR n v l = l.take (pos n l) ++ (n, v) :: l.drop (pos n l)
  | [], _ => rfl
  | x :: r, h => by
    unfold getR at h
    unfold putR pos
    by_cases h1 : cmpL x.1 n < 0
    · rw [if_pos h1] at h
      rw [if_pos h1, if_pos h1, put_new h]; simp
    · rw [if_neg h1] at h
      by_cases h2 : x.1 = n
      · rw [if_pos h2] at h; simp at h
      · rw [if_neg h1, if_neg h2, if_neg h1]; simp
theorem put_old {n v u : List Int} : ∀ {l : List PEnt}, getR n l = some u → putR n v l = l.set (pos n l) (n, v)
  | [], h => by simp [getR] at h
  | x :: r, h => by
    unfold getR at h
    unfold putR pos
    by_cases h1 : cmpL x.1 n < 0
    · rw [if_pos h1] at h
      rw [if_pos h1, if_pos h1, put_old h]; simp
    · rw [if_neg h1] at h
      by_cases h2 : x.1 = n
      · rw [if_neg h1, if_pos h2, if_neg h1]; simp
      · rw [if_neg h2] at h; simp at h
/-! The document's way. -/
/-- The first place of a name. -/
def fst (n : List Int) : List PEnt → Option Nat
  | [] => none
  | x :: r => if x.1 = n then some 0 else (fst n r).map (· + 1)
/-! What the laws ask. -/
end Kvl
end
end Go.Proofs.Ytjloehkolnjnhaa
