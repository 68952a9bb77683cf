/- Windows, plain: what is known of a slot; a window as a list of slots by their numbers; the document's sixteen. -/
import Derived.Test.YtjloehkolnjnhaaXUAH
import Derived.Test.YtjloehkolnjnhaaXUAD
import Derived.Deep.MidRow
import Derived.Test.YtjloehkolnjnhaaXUAB
set_option linter.unusedVariables false
namespace Go.Proofs.Ytjloehkolnjnhaa
section
open Go.RowKit Oct
section
variable {P : Program}
/-- A part of a row is loaded. -/
theorem wl_part {ops : Array Oper} {rest : List Oper} {o : Oper} {a : Act} {w : World} {Q : Exit → Act → World → Prop} (hgd : o.guard = none) (ty : TypeId) (x : Operand) (ho : o.op = .load ty x)
    (b off : Nat) (hx : a.eval x = .pointer (some ⟨b, off, none⟩)) (t : TypeId) (xs : List Value) (h : Row w b t xs) (cs : List Value) (hcs : (xs.drop off).take cs.length = cs) (d : TypeDesc) (hu : P.underlying ty = some d) (hd : d.isRow = true)
    (hi : (P.info? ty).map (·.size) = some cs.length) (k : wpList P ops Q rest (a.put o.dst (.agg cs.toArray)) w) : wpList P ops Q (o :: rest) a w :=
  wpList_load_mid hgd ty x ho b off hx cs d (fun j v hj => by
    have := h.src off cs.length j v (by rw [hcs]; exact hj)
    rw [Addr.add_mid] at this
    exact this) hu hd hi k
end
theorem World.rangeAt.blk {w w' : World} {b o : Nat} {cs : List Value} (h : w.rangeAt b o cs) (e : w'.heap[b]? = w.heap[b]?) : w'.rangeAt b o cs := rangeAt_block h e
theorem one_RVote {G : Nat → Prop} {w : World} {r : List Value} {x : PVote} (h : RVote G w r x) : ∀ v ∈ r, v.oneCell' = true := by
  obtain ⟨s, rfl, h1⟩ := h
  intro v hv
  simp only [List.mem_cons, List.not_mem_nil, or_false] at hv
  rcases hv with rfl | rfl
  · rfl
  · exact h1.one
theorem one_RPrep {G : Nat → Prop} {w : World} {r : List Value} {x : PPrep} (h : RPrep G w r x) : ∀ v ∈ r, v.oneCell' = true := by
  obtain ⟨o, g, c, rfl, h1, h2, h3⟩ := h
  intro v hv
  simp only [List.mem_cons, List.not_mem_nil, or_false] at hv
  rcases hv with rfl | rfl | rfl | rfl | rfl | rfl | rfl | rfl <;> first | rfl | exact h1.one | exact h2.one | exact h3.one
end
section
open Go.RowKit Oct Bal
/-- What is known of a slot. -/
structure PSl where
  voted : PBal
  vote : PReq
  pred : PBal
  prep : PReq
  cert : List PVote
  done : PReq
  bal : PBal
  votes : List PVote
  hv : Bool
  hp : Bool
  hd : Bool
def q0 : PReq := (0, 0, [], [])
def s0 : PSl := ⟨(0, 0), q0, (0, 0), q0, [], q0, (0, 0), [], false, false, false⟩
/-- A zero slot's cells. -/
def zSl : List Value := [.int .i64 0, .int .i64 0, .int .i64 0, .int .i64 0, .slice none 0 0, .slice none 0 0, .int .i64 0, .int .i64 0, .int .i64 0, .int .i64 0, .slice none 0 0, .slice none 0 0, .slice none 0 0, .int .i64 0, .int .i64 0, .slice none 0 0, .slice none 0 0, .int .i64 0, .int .i64 0, .slice none 0 0, .bool false, .bool false, .bool false]
/-- May r be chosen in b, where old was in the ballot was? -/
def fitL (was b : PBal) (old r : PReq) : Bool := decide (cmp2 was.1 was.2 b.1 b.2 < 0) || (decide (cmp2 was.1 was.2 b.1 b.2 = 0) && decide (old = r))
def voteS (s : PSl) (b : PBal) (r : PReq) : Option PSl := if s.hv && !fitL s.voted b s.vote r then none else some { s with hv := true, voted := b, vote := r }
def prepS (s : PSl) (b : PBal) (r : PReq) (c : List PVote) : Option PSl := if s.hp && !fitL s.pred b s.prep r then none else some { s with hp := true, pred := b, prep := r, cert := c }
def doneS (s : PSl) (b : PBal) (r : PReq) (c : List PVote) : Option PSl := if s.hd && !decide (s.done = r) then none else if s.hd then some s else some { s with hd := true, done := r, bal := b, votes := c }
def known (s : PSl) : Bool := s.hv || s.hp || s.hd
theorem voteS_known {s t : PSl} {b : PBal} {r : PReq} (h : voteS s b r = some t) : known t = true := by
  unfold voteS at h
  split at h
  · cases h
  · cases h; rfl
theorem prepS_known {s t : PSl} {b : PBal} {r : PReq} {c : List PVote} (h : prepS s b r c = some t) : known t = true := by
  unfold prepS at h
  split at h
  · cases h
  · cases h; simp [known]
theorem doneS_known {s t : PSl} {b : PBal} {r : PReq} {c : List PVote} (h : doneS s b r c = some t) : known t = true := by
  unfold doneS at h
  split at h
  · cases h
  · split at h
    · rename_i h2
      cases h; simp [known, h2]
    · cases h; simp [known]
def bndW (n : Int) : Int := if n < 0 then 0 else if 1000000 < n then 1000000 else n
theorem bndW_rng (n : Int) : 0 ≤ bndW n ∧ bndW n ≤ 1000000 := by
  unfold bndW; repeat' split
  all_goals omega
def inW (low k : Int) : Bool := decide (low < k) && decide (k ≤ low + 16)
end
end Go.Proofs.Ytjloehkolnjnhaa
