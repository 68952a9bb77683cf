/- The walks over package lease: Do. -/
import Derived.Test.YtejkkhlblnepeabHC
section
set_option linter.unusedVariables false
set_option linter.unusedSimpArgs false
namespace Go.Proofs.Ytejkkhlblnepeab
open Go.RowKit Oct Kvl

theorem set2_keep {u : World} {b : Nat} {x y v : Value} {a : Addr} (h : u.cell? a = some v) (hn : ¬ (a.block = b)) : ((u.setCell ⟨b, 0, none⟩ x).setCell ⟨b, 1, none⟩ y).cell? a = some v :=
  grown_cellE (grown_trans (grown_set u b 0 x) (grown_set _ b 1 y) (.inl rfl)) h (fun e => hn (Option.some.inj e).symm)
end Go.Proofs.Ytejkkhlblnepeab
end
