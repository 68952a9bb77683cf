/- Sessions and results in memory; the walks over package clone: a result, a session. -/
import Derived.Test.YtejkkhlblnepeaaZc
import Derived.Test.YtejkkhlblnepeaaXp
set_option linter.unusedVariables false
set_option linter.unusedSimpArgs false
namespace Go.Proofs.Ytejkkhlblnepeaa
open Go.RowKit Oct Kvl

def RSes (G : Nat → Prop) (w : World) (r : List Value) (x : PEnt) : Prop := ∃ c d k a l, r = [.int .i64 c, .int .i64 d, .int .i64 k, a] ∧ RT G w a l ∧ x = ([c], d :: k :: l)
theorem mov_ses : Mov RSes := fun _ _ _ _ _ _ h _ hm => by
  obtain ⟨c, d, k, a, l, e, h1, h2⟩ := h
  exact ⟨c, d, k, a, l, e, h1.mv hm, h2⟩
theorem onN4 {c d k : Int} {u : Value} (hu : u.oneCell' = true) : ∀ x ∈ [Value.int .i64 c, Value.int .i64 d, Value.int .i64 k, u], x.oneCell' = true := by
  intro x hx
  simp only [List.mem_cons, List.not_mem_nil, or_false] at hx
  rcases hx with rfl | rfl | rfl | rfl <;> first | assumption | rfl
theorem one_RN {G : Nat → Prop} {w : World} {r : List Value} {x : PEnt} (h : RSes G w r x) : ∀ v ∈ r, v.oneCell' = true := by
  obtain ⟨c, d, k, a, l, rfl, h1, h2⟩ := h
  exact onN4 h1.one
def OSes (G : Nat → Prop) (w : World) (r : List Value) (x : PEnt) : Prop := ∃ c d k a l, r = [.int .i64 c, .int .i64 d, .int .i64 k, a] ∧ OT G w a l ∧ x = ([c], d :: k :: l)
theorem mov_oses : Mov OSes := fun _ _ _ _ _ _ h _ hm => by
  obtain ⟨c, d, k, a, l, e, h1, h2⟩ := h
  exact ⟨c, d, k, a, l, e, h1.mv hm, h2⟩
theorem OSes.ses {G : Nat → Prop} {w : World} {r : List Value} {x : PEnt} (h : OSes G w r x) : RSes G w r x := by
  obtain ⟨c, d, k, a, l, e, h1, h2⟩ := h
  exact ⟨c, d, k, a, l, e, h1.rt, h2⟩
theorem RL.ses {G : Nat → Prop} {w : World} {v : Value} {ys : List PEnt} (h : RL OSes 4 G w v ys) : RL RSes 4 G w v ys := by
  obtain ⟨rows, h1, h2⟩ := h
  exact ⟨rows, h1, h2.mono fun _ _ h => h.ses⟩
theorem RL.wf {G : Nat → Prop} {w : World} {v : Value} {ys : List PEnt} (h : RL RSes 4 G w v ys) : wfN ys := fun e he => by
  obtain ⟨rows, h1, h2⟩ := h
  obtain ⟨i, hi, rfl⟩ := List.getElem_of_mem he
  obtain ⟨c, d, k, a, l, _, _, e2⟩ := h2.get (List.getElem?_eq_getElem (by rw [h2.len]; exact hi)) (List.getElem?_eq_getElem hi)
  exact ⟨c, d, k, l, e2⟩
def szN (x : PEnt) : Prop := szT (sv x)

theorem Try.infN : (Try.prog.info? 48).map (fun i => (i.zero, i.size, i.bytes)) = some (some (.agg #[.int .i64 0, .int .i64 0, .int .i64 0, .slice none 0 0]), 4, 48) := by kernel_rfl
theorem Try.sizN : (Try.prog.info? 48).map (·.size) = some 4 := by kernel_rfl
theorem on2 {k : Int} {u : Value} (hu : u.oneCell' = true) : ∀ x ∈ [Value.int .i64 k, u], x.oneCell' = true := by
  intro x hx
  simp only [List.mem_cons, List.not_mem_nil, or_false] at hx
  rcases hx with rfl | rfl <;> first | assumption | rfl


end Go.Proofs.Ytejkkhlblnepeaa
