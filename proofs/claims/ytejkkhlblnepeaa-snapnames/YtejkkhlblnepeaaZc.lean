/- Leases in memory; the walks over package clone: a lease; slices.Clone of leases. -/
import Derived.Test.YtejkkhlblnepeaaKi
import Derived.Test.YtejkkhlblnepeaaZp
set_option linter.unusedVariables false
set_option linter.unusedSimpArgs false
namespace Go.Proofs.Ytejkkhlblnepeaa
open Go.RowKit Oct Kvl

def RLea (G : Nat → Prop) (w : World) (r : List Value) (x : PEnt) : Prop := ∃ a p q, r = [a, .int .i64 p, .int .i64 q] ∧ RT G w a x.1 ∧ x.2 = [p, q]
theorem mov_lea : Mov RLea := fun _ _ _ _ _ _ h _ hm => by
  obtain ⟨a, p, q, e, h1, h2⟩ := h
  exact ⟨a, p, q, e, h1.mv hm, h2⟩
theorem onL3 {u : Value} {p q : Int} (hu : u.oneCell' = true) : ∀ x ∈ [u, Value.int .i64 p, Value.int .i64 q], x.oneCell' = true := by
  intro x hx
  simp only [List.mem_cons, List.not_mem_nil, or_false] at hx
  rcases hx with rfl | rfl | rfl <;> first | assumption | rfl
theorem one_RS {G : Nat → Prop} {w : World} {r : List Value} {x : PEnt} (h : RLea G w r x) : ∀ v ∈ r, v.oneCell' = true := by
  obtain ⟨a, p, q, rfl, h1, h2⟩ := h
  exact onL3 h1.one
def OLea (G : Nat → Prop) (w : World) (r : List Value) (x : PEnt) : Prop := ∃ a p q, r = [a, .int .i64 p, .int .i64 q] ∧ OT G w a x.1 ∧ x.2 = [p, q]
theorem mov_olea : Mov OLea := fun _ _ _ _ _ _ h _ hm => by
  obtain ⟨a, p, q, e, h1, h2⟩ := h
  exact ⟨a, p, q, e, h1.mv hm, h2⟩
theorem OLea.lea {G : Nat → Prop} {w : World} {r : List Value} {x : PEnt} (h : OLea G w r x) : RLea G w r x := by
  obtain ⟨a, p, q, e, h1, h2⟩ := h
  exact ⟨a, p, q, e, h1.rt, h2⟩
theorem RL.lea {G : Nat → Prop} {w : World} {v : Value} {ys : List PEnt} (h : RL OLea 3 G w v ys) : RL RLea 3 G w v ys := by
  obtain ⟨rows, h1, h2⟩ := h
  exact ⟨rows, h1, h2.mono fun _ _ h => h.lea⟩
def szS (x : PEnt) : Prop := szT x.1

theorem Try.infL : (Try.prog.info? 56).map (fun i => (i.zero, i.size, i.bytes)) = some (some (.agg #[.slice none 0 0, .int .i64 0, .int .i64 0]), 3, 40) := by kernel_rfl
theorem Try.sizL : (Try.prog.info? 56).map (·.size) = some 3 := by kernel_rfl


end Go.Proofs.Ytejkkhlblnepeaa
