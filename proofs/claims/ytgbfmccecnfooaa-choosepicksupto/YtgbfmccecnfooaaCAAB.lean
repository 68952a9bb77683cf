/- Ballots, plain: the numbers of clusters, places, orders, the turned order; nothing of any program. -/

namespace Go.Proofs.Ytgbfmccecnfooaa
namespace Bal
/-- Which of two pairs is lower. -/
def cm (x y : Int) : Int := if x < y then -1 else if y < x then 1 else 0
def cmp2 (a b c d : Int) : Int := if a = c then cm b d else cm a c
end Bal
end Go.Proofs.Ytgbfmccecnfooaa
