/- Names with values, plain: texts in order, entries in order, what an operation does; nothing of any program. -/
import Derived.Test.YtgjepofinpmcpaaGreatDoorSAL
import Derived.Deep.Cut
import Derived.Test.YtgjepofinpmcpaaGreatDoorSAN
import Derived.Test.YtgjepofinpmcpaaGreatDoorSAA
set_option linter.unusedSimpArgs false
set_option linter.unusedVariables false
namespace Go.Proofs.YtgjepofinpmcpaaGreatDoor
section
open Go.RowKit Oct
section
variable {P : Program}
end
/-! How great what comes in may be. -/
def szT (l : List Int) : Prop := l.length ≤ 140737488351232
def szL {α : Type} (b : Nat) (p : α → Prop) (ys : List α) : Prop := ys.length * b ≤ 140737488351232 ∧ ∀ y ∈ ys, p y
def szV (x : PVote) : Prop := szT x.2
def szQ (x : PReq) : Prop := szT x.2.2.1 ∧ szT x.2.2.2
def szP (x : PPrep) : Prop := szQ x.2.2.1 ∧ szL 32 szV x.2.2.2
def szR (x : PRep) : Prop := szT x.2.2.2.1 ∧ szL 32 szV x.2.2.2.2.1 ∧ szL 112 szP x.2.2.2.2.2.1 ∧ szT x.2.2.2.2.2.2
structure szM (m : PMsg) : Prop where
  req : szQ m.req
  oth : szQ m.oth
  data : szT m.data
  sig : szT m.sig
  cert : szL 32 szV m.cert
  votes : szL 32 szV m.votes
  order : szL 8 (fun _ => True) m.order
  picks : szL 64 szQ m.picks
  reps : szL 128 szR m.reps
theorem rowA {w : World} {b : Nat} {t : TypeId} {xs : List Value} (h : Row w b t xs) (o : Obj) : Row (w.alloc o) b t xs := h.below (below_alloc w o)
theorem one4 {a b : Int} {u v : Value} (hu : u.oneCell' = true) (hv : v.oneCell' = true) : ∀ x ∈ [Value.int .i64 a, Value.int .i64 b, u, v], x.oneCell' = true := by
  intro x hx
  simp only [List.mem_cons, List.not_mem_nil, or_false] at hx
  rcases hx with rfl | rfl | rfl | rfl <;> first | rfl | assumption
end
section
open Go.RowKit Oct
section
variable {P : Program}
end
end
section
namespace Kvl
abbrev PEnt := List Int × List Int
abbrev POp := Int × List Int × List Int × List Int × Int
/-- Texts by their bytes: -1, 0, 1. -/
def cmpL : List Int → List Int → Int
  | [], [] => 0
  | [], _ :: _ => -1
  | _ :: _, [] => 1
  | a :: as0, b :: bs => if a < b then -1 else if b < a then 1 else cmpL as0 bs
theorem cmp_self : ∀ a : List Int, cmpL a a = 0
  | [] => rfl
  | a :: as0 => by simp [cmpL, cmp_self as0]
theorem cmp_eq : ∀ {a b : List Int}, cmpL a b = 0 → a = b
  | [], [], _ => rfl
  | [], _ :: _, h => by simp [cmpL] at h
  | _ :: _, [], h => by simp [cmpL] at h
  | a :: as0, b :: bs, h => by
    unfold cmpL at h
    split at h
    · simp at h
    · split at h
      · simp at h
      · rw [cmp_eq h, show a = b by omega]
theorem cmp_zero {a b : List Int} : cmpL a b = 0 ↔ a = b := ⟨cmp_eq, fun h => by rw [h, cmp_self]⟩
theorem cmp_neg : ∀ a b : List Int, cmpL b a = - cmpL a b
  | [], [] => by simp [cmpL]
  | [], _ :: _ => by simp [cmpL]
  | _ :: _, [] => by simp [cmpL]
  | a :: as0, b :: bs => by
    have ih := cmp_neg as0 bs
    unfold cmpL
    by_cases h1 : a < b
    · rw [if_pos h1, if_neg (by omega), if_pos h1]; rfl
    · by_cases h2 : b < a
      · rw [if_pos h2, if_neg h1, if_pos h2]
      · rw [if_neg h1, if_neg h2, if_neg h1, if_neg h2]; exact ih
/-! Entries. -/
def rgt1 (e : PEnt) : Prop := 1 ≤ e.1.length ∧ e.1.length ≤ 16 ∧ e.2.length ≤ 64
instance (e : PEnt) : Decidable (rgt1 e) := by unfold rgt1; infer_instance
/-- Each Name above the one ahead of it. -/
def up : List Int → List PEnt → Prop
  | _, [] => True
  | n, x :: r => cmpL n x.1 < 0 ∧ up x.1 r
instance upDec : (n : List Int) → (l : List PEnt) → Decidable (up n l)
  | _, [] => isTrue trivial
  | n, x :: r => @instDecidableAnd _ _ _ (upDec x.1 r)
def rgtL (l : List PEnt) : Prop := l.length ≤ 64 ∧ up [] l ∧ ∀ e ∈ l, rgt1 e
instance (l : List PEnt) : Decidable (rgtL l) := by unfold rgtL; infer_instance
def getR (n : List Int) : List PEnt → Option (List Int)
  | [] => none
  | x :: r => if cmpL x.1 n < 0 then getR n r else if x.1 = n then some x.2 else none
def putR (n v : List Int) : List PEnt → List PEnt
  | [] => [(n, v)]
  | x :: r => if cmpL x.1 n < 0 then x :: putR n v r else if x.1 = n then (n, v) :: r else (n, v) :: x :: r
/-! Operations. -/
def mA (k : Int) : Nat := if k = 2 ∨ k = 3 then 64 else 0
def mB (k : Int) : Nat := if k = 3 then 64 else 0
def lN (k : Int) : Int := if k = 5 ∨ k = 6 then 1 else 0
def mN (k : Int) : Int := if k = 5 ∨ k = 6 then 1000 else 0
/-- Can it be written? -/
def wok (o : POp) : Prop := (1 ≤ o.1 ∧ o.1 ≤ 8) ∧ (1 ≤ o.2.1.length ∧ o.2.1.length ≤ 16) ∧ o.2.2.1.length ≤ mA o.1 ∧ o.2.2.2.1.length ≤ mB o.1 ∧ lN o.1 ≤ o.2.2.2.2 ∧ o.2.2.2.2 ≤ mN o.1
instance (o : POp) : Decidable (wok o) := by unfold wok; infer_instance
end Kvl
end
end Go.Proofs.YtgjepofinpmcpaaGreatDoor
