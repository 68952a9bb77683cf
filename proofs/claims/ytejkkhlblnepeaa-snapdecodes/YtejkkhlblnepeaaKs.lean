/- The walks over package kv: Read. -/
import Derived.Test.YtejkkhlblnepeaaKr
set_option linter.unusedVariables false
set_option linter.unusedSimpArgs false
namespace Go.Proofs.Ytejkkhlblnepeaa
open Go.RowKit Oct Kvl

theorem results_ct {P : Program} {fn : Func} {p t : Tmp} {ty : TypeId} (h : fn.results = #[.cell p ty, .tmp t]) (tmps : Array Value) (w : World) (g : Nat) (tt : TypeId) (cs : Array Value) (fr : Nat × Nat) (d : TypeDesc)
    (hp : tmps.getD p undef = .pointer (some ⟨g, 0, none⟩)) (hg : w.heap[g]? = some (.cells cs tt fr))
    (hu : P.underlying ty = some d) (hd : (match d with | .struct _ | .array _ _ => true | _ => false) = true) (hi : (P.info? ty).map (·.size) = some cs.size) :
    (results fn tmps).run P w = .ok (.tuple #[.agg cs, tmps.getD t undef]) w := by
  have hp' : tmps[p]?.getD undef = .pointer (some ⟨g, 0, none⟩) := by simpa using hp
  simp [results, h, hp', asAddr, run_loadVar_row w g tt ty cs fr d hg hu hd hi]
theorem getI_err (l : List Int) (p : Int) : ∃ b : Bool, (getI l p).2.2 = if b = true then 11 else 0 := by
  unfold getI
  split
  · exact ⟨true, rfl⟩
  · split
    · exact ⟨true, rfl⟩
    · exact ⟨false, rfl⟩
theorem getB_err (l : List Int) (p m : Int) : ∃ b : Bool, (getB l p m).2.2 = if b = true then 11 else 0 := by
  unfold getB
  split
  · exact ⟨true, rfl⟩
  · exact ⟨false, rfl⟩
def opR (l : List Int) : POp := match rdO l with | none => (0, [], [], [], 0) | some o => o
def errR (l : List Int) : Int := match rdO l with | none => 71 | some _ => 0
theorem one5z : ∀ y ∈ [Value.int .i64 0, .slice none 0 0, .slice none 0 0, .slice none 0 0, Value.int .i64 0], y.oneCell' = true := one5 rfl rfl rfl

end Go.Proofs.Ytejkkhlblnepeaa
