/- Lists of records that are being built, inside regions that draw their order; how great plain records may be; copies of texts and requests. -/
import Derived.Test.YtjloehkolnjnhaaDoorXNAT
import Derived.Deep.Cut
set_option linter.unusedVariables false
namespace Go.Proofs.YtjloehkolnjnhaaDoor
open Go.RowKit Oct
section
variable {P : Program}
end
/-! How great what comes in may be. -/
def szT (l : List Int) : Prop := l.length ≤ 140737488351232
def szL {α : Type} (b : Nat) (p : α → Prop) (ys : List α) : Prop := ys.length * b ≤ 140737488351232 ∧ ∀ y ∈ ys, p y
def szV (x : PVote) : Prop := szT x.2
def szQ (x : PReq) : Prop := szT x.2.2.1 ∧ szT x.2.2.2
def szP (x : PPrep) : Prop := szQ x.2.2.1 ∧ szL 32 szV x.2.2.2
def szR (x : PRep) : Prop := szT x.2.2.2.1 ∧ szL 32 szV x.2.2.2.2.1 ∧ szL 112 szP x.2.2.2.2.2.1 ∧ szT x.2.2.2.2.2.2
structure szM (m : PMsg) : Prop where
  req : szQ m.req
  oth : szQ m.oth
  data : szT m.data
  sig : szT m.sig
  cert : szL 32 szV m.cert
  votes : szL 32 szV m.votes
  order : szL 8 (fun _ => True) m.order
  picks : szL 64 szQ m.picks
  reps : szL 128 szR m.reps
theorem rowA {w : World} {b : Nat} {t : TypeId} {xs : List Value} (h : Row w b t xs) (o : Obj) : Row (w.alloc o) b t xs := h.below (below_alloc w o)
theorem one4 {a b : Int} {u v : Value} (hu : u.oneCell' = true) (hv : v.oneCell' = true) : ∀ x ∈ [Value.int .i64 a, Value.int .i64 b, u, v], x.oneCell' = true := by
  intro x hx
  simp only [List.mem_cons, List.not_mem_nil, or_false] at hx
  rcases hx with rfl | rfl | rfl | rfl <;> first | rfl | assumption
end Go.Proofs.YtjloehkolnjnhaaDoor
