/- What the bound of an upto statement gives. -/
import Derived.Test.YtgpkngiakhdmhaaDoorRows
import Derived.Test.YtgpkngiakhdmhaaDoorSBAP
import Derived.Test.YtgpkngiakhdmhaaDoorSBAF
namespace Go.Proofs.YtgpkngiakhdmhaaDoor
open Go.ChangeShapes Go.RowKit Oct
theorem bulk_one {H : Type} (d : DataW H) : 1 ≤ Rows.uptoBulk d := by
  cases d with
  | lit l => cases l <;> simp [Rows.uptoBulk]
  | nil => simp [Rows.uptoBulk]
  | ptr d => simp [Rows.uptoBulk]
  | slice elems spare => simp [Rows.uptoBulk]
  | agg parts => simp [Rows.uptoBulk]
  | iface t d => simp [Rows.uptoBulk]
  | map entries => simp [Rows.uptoBulk]
  | held h => simp [Rows.uptoBulk]
theorem bulk_len {H : Type} (l : List (DataW H)) : l.length ≤ Rows.uptoBulkAll l := by
  induction l with
  | nil => simp [Rows.uptoBulkAll]
  | cons x r ih => have := bulk_one x; simp only [Rows.uptoBulkAll, List.length_cons]; omega
theorem bulk_bytes {H : Type} {d : DataW H} {l : List Int} (h : IsBytes d l) : l.length + 1 ≤ Rows.uptoBulk d := by
  rcases h with ⟨rfl, rfl⟩ | ⟨sp, rfl⟩
  · simp [Rows.uptoBulk]
  · have h1 := bulk_len (H := H) (lits .u8 l)
    simp only [lits, List.length_map] at h1
    simp only [Rows.uptoBulk, lits]
    omega
end Go.Proofs.YtgpkngiakhdmhaaDoor
