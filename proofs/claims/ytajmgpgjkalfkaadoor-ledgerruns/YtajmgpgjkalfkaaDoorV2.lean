/- The walks over package sha: what a hash wants besides rows. -/
import Derived.Test.YtajmgpgjkalfkaaDoorV1
import Derived.Test.YtajmgpgjkalfkaaDoorRw
import Derived.BigQuiet
import Derived.Deep.QuietTactic
namespace Go.Proofs.YtajmgpgjkalfkaaDoor
open Go.RowKit Oct Sha

variable {P : Program}

/-- 'clear(s)', s in a row of bytes. -/
theorem run_clear (w : World) (T ty elem : TypeId) (i : TypeInfo) (hu : P.underlying T = some (.slice elem)) (hi : P.info? elem = some i) (hz : i.zero = some (.int .u8 0))
    (dp : Option Addr) (n cap g off : Nat) (cur : List Value) (t : TypeId) (hg : Row w g t cur) (hpos : 0 < n → dp = some ⟨g, off, none⟩) (hfit : off + n ≤ cur.length) :
    ∃ w', (Builtin.clear_ #[T] ty #[.slice dp n cap]).run P w = .ok (.tuple #[]) w' ∧ Row w' g t (splice cur off (bc (List.replicate n 0))) ∧ w.grownBy w' (some g) := by
  by_cases h0 : n = 0
  · subst h0
    refine ⟨w, ?_, by simpa [splice, bc] using hg, grown_refl _ _⟩
    cases dp <;> simp [Builtin.clear_, run_underlying hu]
  · obtain rfl := hpos (by omega)
    have hzc : (Builtin.zeroCells #[Value.int .u8 0] n).toList = bc (List.replicate n 0) := by
      apply List.ext_getElem
      · simp [Builtin.zeroCells, bc]
      · intro k h1 h2
        simp [Builtin.zeroCells, bc, Nat.mod_one]
    have hst := run_storeCells_at P g off t (bc (List.replicate n 0)) 0 cur.toArray w hg (by simp [bc]; omega) (bc_one _)
    refine ⟨_, ?_, hg.setRow _, grown_setRow _ _ _⟩
    obtain ⟨m, rfl⟩ : ∃ m, n = m + 1 := ⟨n - 1, by omega⟩
    simp [Builtin.clear_, run_underlying hu, zeroValue, typeInfo, hi, hz, Value.cells, hzc, hst, splice]
theorem wl_clear {ops : Array Oper} {rest : List Oper} {o : Oper} {a : Act} {w : World} {Q : Exit → Act → World → Prop} (hgd : o.guard = none) (s : Operand) (T : TypeId)
    (ho : o.op = .call { callee := .builtin .clear, args := #[s], argTypes := #[T] }) (elem : TypeId) (i : TypeInfo) (hu : P.underlying T = some (.slice elem)) (hi : P.info? elem = some i) (hz : i.zero = some (.int .u8 0))
    (dp : Option Addr) (n cap g off : Nat) (hs : a.eval s = .slice dp n cap) (cur : List Value) (t : TypeId) (hg : Row w g t cur) (hpos : 0 < n → dp = some ⟨g, off, none⟩) (hfit : off + n ≤ cur.length)
    (k : ∀ w', Hid (Row w' g t (splice cur off (bc (List.replicate n 0)))) → w.grownBy w' (some g) → wpList P ops Q rest (a.put o.dst (.tuple #[])) w') : wpList P ops Q (o :: rest) a w :=
  wpList_plain hgd fun _ hK => by
    obtain ⟨w', hrun, h2, h3⟩ := run_clear (P := P) w T o.type elem i hu hi hz dp n cap g off cur t hg hpos hfit
    unfold Oper.wp
    simp [execOp, ho, resolve, invoke, builtin, hs, hrun, Result.andThen]
    exact hK _ _ (k w' h2 h3)
theorem wv_one (ws : List (BitVec 32)) : ∀ u ∈ ws.map wv, u.oneCell' = true := by
  intro u hu
  obtain ⟨x, _, rfl⟩ := List.mem_map.1 hu
  rfl
end Go.Proofs.YtajmgpgjkalfkaaDoor
