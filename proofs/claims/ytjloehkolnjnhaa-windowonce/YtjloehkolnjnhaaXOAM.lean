/- Windows, plain: what is known of a slot; a window as a list of slots by their numbers; the document's sixteen. -/
import Derived.Test.YtjloehkolnjnhaaXOAH
import Derived.Test.YtjloehkolnjnhaaXOAB
set_option linter.unusedVariables false
namespace Go.Proofs.Ytjloehkolnjnhaa
open Go.RowKit Oct Bal
/-- What is known of a slot. -/
structure PSl where
  voted : PBal
  vote : PReq
  pred : PBal
  prep : PReq
  cert : List PVote
  done : PReq
  bal : PBal
  votes : List PVote
  hv : Bool
  hp : Bool
  hd : Bool
def q0 : PReq := (0, 0, [], [])
def s0 : PSl := ⟨(0, 0), q0, (0, 0), q0, [], q0, (0, 0), [], false, false, false⟩
/-- A zero slot's cells. -/
def zSl : List Value := [.int .i64 0, .int .i64 0, .int .i64 0, .int .i64 0, .slice none 0 0, .slice none 0 0, .int .i64 0, .int .i64 0, .int .i64 0, .int .i64 0, .slice none 0 0, .slice none 0 0, .slice none 0 0, .int .i64 0, .int .i64 0, .slice none 0 0, .slice none 0 0, .int .i64 0, .int .i64 0, .slice none 0 0, .bool false, .bool false, .bool false]
/-- May r be chosen in b, where old was in the ballot was? -/
def fitL (was b : PBal) (old r : PReq) : Bool := decide (cmp2 was.1 was.2 b.1 b.2 < 0) || (decide (cmp2 was.1 was.2 b.1 b.2 = 0) && decide (old = r))
def voteS (s : PSl) (b : PBal) (r : PReq) : Option PSl := if s.hv && !fitL s.voted b s.vote r then none else some { s with hv := true, voted := b, vote := r }
def prepS (s : PSl) (b : PBal) (r : PReq) (c : List PVote) : Option PSl := if s.hp && !fitL s.pred b s.prep r then none else some { s with hp := true, pred := b, prep := r, cert := c }
def doneS (s : PSl) (b : PBal) (r : PReq) (c : List PVote) : Option PSl := if s.hd && !decide (s.done = r) then none else if s.hd then some s else some { s with hd := true, done := r, bal := b, votes := c }
def known (s : PSl) : Bool := s.hv || s.hp || s.hd
theorem voteS_known {s t : PSl} {b : PBal} {r : PReq} (h : voteS s b r = some t) : known t = true := by
  unfold voteS at h
  split at h
  · cases h
  · cases h; rfl
theorem prepS_known {s t : PSl} {b : PBal} {r : PReq} {c : List PVote} (h : prepS s b r c = some t) : known t = true := by
  unfold prepS at h
  split at h
  · cases h
  · cases h; simp [known]
theorem doneS_known {s t : PSl} {b : PBal} {r : PReq} {c : List PVote} (h : doneS s b r c = some t) : known t = true := by
  unfold doneS at h
  split at h
  · cases h
  · split at h
    · rename_i h2
      cases h; simp [known, h2]
    · cases h; simp [known]
def bndW (n : Int) : Int := if n < 0 then 0 else if 1000000 < n then 1000000 else n
theorem bndW_rng (n : Int) : 0 ≤ bndW n ∧ bndW n ≤ 1000000 := by
  unfold bndW; repeat' split
  all_goals omega
def inW (low k : Int) : Bool := decide (low < k) && decide (k ≤ low + 16)
end Go.Proofs.Ytjloehkolnjnhaa
