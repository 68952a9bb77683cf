/- The walks over first orders. -/
import Derived.Test.YtcajelodbfpkfabB5
namespace Go.Proofs.Ytcajelodbfpkfab
open Go.RowKit Oct Bal

theorem below_setR {B : Nat} {w wr wr' : World} {b : Nat} (h : Below B w wr) (hB : B ≤ w.heap.size) (hg : wr.grownBy wr' (some b)) (hb : B ≤ b) : Below B w wr' :=
  h.trans (grown_below hg (Nat.le_trans hB h.size) (fun k hk => by cases hk; exact hb))
theorem rdi_nil (w : World) : Rdi w (.slice none 0 0) [] := (Own.nil w 0).rdv
end Go.Proofs.Ytcajelodbfpkfab
