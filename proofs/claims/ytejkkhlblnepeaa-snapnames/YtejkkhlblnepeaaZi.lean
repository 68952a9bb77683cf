/- slices.Delete of one lease. -/
import Derived.Test.YtejkkhlblnepeaaZe
import Derived.Laws.IdiomCopy
set_option linter.unusedVariables false
set_option linter.unusedSimpArgs false
namespace Go.Proofs.Ytejkkhlblnepeaa
open Go.RowKit Oct Kvl

/-- The cells behind what is taken out, then the last record cleared. -/
theorem splice_delS (cur L zs : List Value) (i n : Nat) (hi : i < n) (hL : L.length = n * 3) (hc : n * 3 ≤ cur.length) (ht : cur.take (n * 3) = L) (hz : zs.length = 3) :
    (splice (splice cur (i * 3) (L.drop ((i + 1) * 3))) ((n - 1) * 3) zs).take ((n - 1) * 3) = L.take (i * 3) ++ L.drop ((i + 1) * 3) := by
  have hd : (L.drop ((i + 1) * 3)).length = (n - 1) * 3 - i * 3 := by rw [List.length_drop, hL]; omega
  have e1 : cur.take (i * 3) = L.take (i * 3) := by rw [← ht, List.take_take, Nat.min_eq_left (by omega)]
  have hl : (L.take (i * 3)).length = i * 3 := by rw [List.length_take]; omega
  have e2 : (splice cur (i * 3) (L.drop ((i + 1) * 3))).take ((n - 1) * 3) = L.take (i * 3) ++ L.drop ((i + 1) * 3) := by
    unfold splice
    rw [e1, ← List.append_assoc, List.take_append_of_le_length (by rw [List.length_append, hl, hd]; omega), List.take_of_length_le (by rw [List.length_append, hl, hd]; omega)]
  generalize splice cur (i * 3) (L.drop ((i + 1) * 3)) = C at *
  have hC : (C.take ((n - 1) * 3)).length = (n - 1) * 3 := by rw [e2, List.length_append, hl, hd]; omega
  unfold splice
  rw [List.take_append_of_le_length (by rw [hC]; omega), List.take_of_length_le (by rw [hC]; omega), e2]

end Go.Proofs.Ytejkkhlblnepeaa
