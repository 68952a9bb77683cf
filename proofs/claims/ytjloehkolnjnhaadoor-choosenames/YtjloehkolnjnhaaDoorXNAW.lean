/- The walks over package msg: the letters of fields; strings. -/
import Derived.Test.YtjloehkolnjnhaaDoorXNAQ
import Derived.Lib.Bytealg
import Derived.Laws.Externs
namespace Go.Proofs.YtjloehkolnjnhaaDoor
open Go.RowKit Oct
/-- The letter of a field. -/
def lb : Nat → UInt8
  | 0 => 66 | 1 => 83 | 2 => 70 | 3 => 84 | 4 => 73 | 5 => 67 | 6 => 82 | 7 => 79 | 8 => 68 | 9 => 71 | 10 => 69 | 11 => 86 | 12 => 78 | 13 => 80 | _ => 76
def lt (i : Nat) : Int := ((lb i).toNat : Int)
end Go.Proofs.YtjloehkolnjnhaaDoor
