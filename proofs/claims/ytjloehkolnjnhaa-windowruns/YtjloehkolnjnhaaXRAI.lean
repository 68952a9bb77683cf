/- The shelf's structures for 'slices.Sorted(maps.Keys(m))', laid at this program: what the shelf's own command prints. Written by mk18s.py. -/
import Derived.Test.YtjloehkolnjnhaaXRAG
import Derived.Test.YtjloehkolnjnhaaXRAB
import Derived.Shelf.SlIterI.Nil
import Derived.Shelf.SortM.Plain
import Derived.Shelf.SortM.SortNone
import Derived.Test.YtjloehkolnjnhaaProg
set_option linter.unusedVariables false
namespace Go.Proofs.Ytjloehkolnjnhaa
section
open Go.RowKit Oct Bal
/-- What is known of a slot. -/
structure PSl where
  voted : PBal
  vote : PReq
  pred : PBal
  prep : PReq
  cert : List PVote
  done : PReq
  bal : PBal
  votes : List PVote
  hv : Bool
  hp : Bool
  hd : Bool
def q0 : PReq := (0, 0, [], [])
def s0 : PSl := ⟨(0, 0), q0, (0, 0), q0, [], q0, (0, 0), [], false, false, false⟩
/-- A zero slot's cells. -/
def zSl : List Value := [.int .i64 0, .int .i64 0, .int .i64 0, .int .i64 0, .slice none 0 0, .slice none 0 0, .int .i64 0, .int .i64 0, .int .i64 0, .int .i64 0, .slice none 0 0, .slice none 0 0, .slice none 0 0, .int .i64 0, .int .i64 0, .slice none 0 0, .slice none 0 0, .int .i64 0, .int .i64 0, .slice none 0 0, .bool false, .bool false, .bool false]
/-- May r be chosen in b, where old was in the ballot was? -/
def fitL (was b : PBal) (old r : PReq) : Bool := decide (cmp2 was.1 was.2 b.1 b.2 < 0) || (decide (cmp2 was.1 was.2 b.1 b.2 = 0) && decide (old = r))
def voteS (s : PSl) (b : PBal) (r : PReq) : Option PSl := if s.hv && !fitL s.voted b s.vote r then none else some { s with hv := true, voted := b, vote := r }
def prepS (s : PSl) (b : PBal) (r : PReq) (c : List PVote) : Option PSl := if s.hp && !fitL s.pred b s.prep r then none else some { s with hp := true, pred := b, prep := r, cert := c }
def doneS (s : PSl) (b : PBal) (r : PReq) (c : List PVote) : Option PSl := if s.hd && !decide (s.done = r) then none else if s.hd then some s else some { s with hd := true, done := r, bal := b, votes := c }
def known (s : PSl) : Bool := s.hv || s.hp || s.hd
theorem voteS_known {s t : PSl} {b : PBal} {r : PReq} (h : voteS s b r = some t) : known t = true := by
  unfold voteS at h
  split at h
  · cases h
  · cases h; rfl
theorem prepS_known {s t : PSl} {b : PBal} {r : PReq} {c : List PVote} (h : prepS s b r c = some t) : known t = true := by
  unfold prepS at h
  split at h
  · cases h
  · cases h; simp [known]
theorem doneS_known {s t : PSl} {b : PBal} {r : PReq} {c : List PVote} (h : doneS s b r c = some t) : known t = true := by
  unfold doneS at h
  split at h
  · cases h
  · split at h
    · rename_i h2
      cases h; simp [known, h2]
    · cases h; simp [known]
def bndW (n : Int) : Int := if n < 0 then 0 else if 1000000 < n then 1000000 else n
theorem bndW_rng (n : Int) : 0 ≤ bndW n ∧ bndW n ≤ 1000000 := by
  unfold bndW; repeat' split
  all_goals omega
def inW (low k : Int) : Bool := decide (low < k) && decide (k ≤ low + 16)
end
section
open Go.RowKit Go.Maps Go.Sort Go.Shelf
def keysW_l_ren : Go.Shelf.Ren := ⟨fun | 7 => 36 | 10 => 49 | n => n, fun | 23 => 67 | 26 => 3 | 3 => 33 | 28 => 81 | 0 => 0 | 27 => 80 | 33 => 49 | 4 => 4 | n => n, fun | n => n⟩
theorem keysW_l : Go.Proofs.SlLaysZI.n7 Try.prog keysW_l_ren where
  mixed := by kernel_rfl
  f7 := ⟨ "maps.Keys[map[int]catenary/api.Slot,int,catenary/api.Slot]", by decide, Try.func36.trans (congrArg some (by kernel_rfl))⟩
  f10 := ⟨ "maps.Keys[map[int]catenary/api.Slot,int,catenary/api.Slot]$1", by decide, Try.func49.trans (congrArg some (by kernel_rfl))⟩
  t0 := Try.underlying0
  a0 := Try.isAgg0
  z0 := Try.sizeOf0
  v0 := Try.zeroValue0
  t4 := Try.underlying4
  a4 := Try.isAgg4
  z4 := Try.sizeOf4
  v4 := Try.zeroValue4
  t23 := Try.underlying67
  a23 := Try.isAgg67
  z23 := Try.sizeOf67
  v23 := Try.zeroValue67
  t26 := Try.underlying3
  a26 := Try.isAgg3
  z26 := Try.sizeOf3
  v26 := Try.zeroValue3
  t27 := Try.underlying80
  a27 := Try.isAgg80
  z27 := Try.sizeOf80
  v27 := Try.zeroValue80
  t28 := Try.underlying81
  a28 := Try.isAgg81
  z28 := Try.sizeOf81
  v28 := Try.zeroValue81
  t33 := Try.underlying49
  a33 := Try.isAgg49
  z33 := Try.sizeOf49
  v33 := Try.zeroValue49
def sortedW_l_ren : Go.Shelf.Ren := ⟨fun | 6 => 35 | 8 => 47 | 9 => 48 | 11 => 56 | 13 => 58 | 12 => 57 | 23 => 69 | 24 => 70 | 14 => 60 | 15 => 61 | 16 => 62 | 17 => 63 | 18 => 64 | 19 => 65 | 20 => 66 | 21 => 67 | 22 => 68 | 25 => 71 | 26 => 72 | 27 => 73 | 28 => 74 | 29 => 75 | 30 => 50 | 31 => 76 | n => n, fun | 26 => 3 | 28 => 81 | 24 => 51 | 0 => 0 | 3 => 3 | 37 => 99 | 48 => 110 | 50 => 112 | 4 => 4 | 40 => 102 | 39 => 101 | 45 => 107 | 5 => 5 | 9 => 9 | 51 => 113 | 55 => 117 | 57 => 119 | 58 => 120 | 33 => 49 | n => n, fun | n => n⟩
theorem sortedW_l : Go.Proofs.SlLaysZI.n6 Try.prog sortedW_l_ren where
  mixed := by kernel_rfl
  f6 := ⟨ "slices.Sorted[int]", by decide, Try.func35.trans (congrArg some (by kernel_rfl))⟩
  f8 := ⟨ "slices.Collect[int]", by decide, Try.func47.trans (congrArg some (by kernel_rfl))⟩
  f11 := ⟨ "slices.AppendSeq[[]int,int]", by decide, Try.func56.trans (congrArg some (by kernel_rfl))⟩
  t0 := Try.underlying0
  a0 := Try.isAgg0
  z0 := Try.sizeOf0
  v0 := Try.zeroValue0
  t24 := Try.underlying51
  a24 := Try.isAgg51
  z24 := Try.sizeOf51
  v24 := Try.zeroValue51
  t26 := Try.underlying3
  a26 := Try.isAgg3
  z26 := Try.sizeOf3
  v26 := Try.zeroValue3
  t28 := Try.underlying81
  a28 := Try.isAgg81
  z28 := Try.sizeOf81
  v28 := Try.zeroValue81
  i26 := by kernel_rfl
def sortW_l_ren : Go.Shelf.Ren := ⟨fun | 5 => 48 | 8 => 58 | 7 => 57 | 19 => 69 | 20 => 70 | 10 => 60 | 11 => 61 | 12 => 62 | 13 => 63 | 14 => 64 | 15 => 65 | 16 => 66 | 17 => 67 | 18 => 68 | 30 => 71 | 31 => 72 | 32 => 73 | 33 => 74 | 34 => 75 | 35 => 50 | 40 => 76 | n => n, fun | 23 => 51 | 25 => 3 | 3 => 3 | 32 => 99 | 22 => 51 | 0 => 0 | 44 => 110 | 46 => 112 | 4 => 4 | 36 => 102 | 35 => 101 | 41 => 107 | 5 => 5 | 9 => 9 | 53 => 113 | 57 => 117 | 63 => 119 | 64 => 120 | n => n, fun | n => n⟩
theorem sortW_l : Go.Proofs.SlLaysM.n5 Try.prog sortW_l_ren where
  mixed := by kernel_rfl
  f5 := ⟨ "slices.Sort[[]int,int]", by decide, Try.func48.trans (congrArg some (by kernel_rfl))⟩
  f7 := ⟨ "slices.pdqsortOrdered[int]", by decide, Try.func57.trans (congrArg some (by kernel_rfl))⟩
  f8 := Try.func58.trans (congrArg some (by kernel_rfl))
  f10 := ⟨ "slices.insertionSortOrdered[int]", by decide, Try.func60.trans (congrArg some (by kernel_rfl))⟩
  f11 := ⟨ "slices.heapSortOrdered[int]", by decide, Try.func61.trans (congrArg some (by kernel_rfl))⟩
  f12 := ⟨ "slices.breakPatternsOrdered[int]", by decide, Try.func62.trans (congrArg some (by kernel_rfl))⟩
  f13 := ⟨ "slices.choosePivotOrdered[int]", by decide, Try.func63.trans (congrArg some (by kernel_rfl))⟩
  f14 := ⟨ "slices.reverseRangeOrdered[int]", by decide, Try.func64.trans (congrArg some (by kernel_rfl))⟩
  f15 := ⟨ "slices.partialInsertionSortOrdered[int]", by decide, Try.func65.trans (congrArg some (by kernel_rfl))⟩
  f16 := ⟨ "cmp.Less[int]", by decide, Try.func66.trans (congrArg some (by kernel_rfl))⟩
  f17 := ⟨ "slices.partitionEqualOrdered[int]", by decide, Try.func67.trans (congrArg some (by kernel_rfl))⟩
  f18 := ⟨ "slices.partitionOrdered[int]", by decide, Try.func68.trans (congrArg some (by kernel_rfl))⟩
  f19 := Try.func69.trans (congrArg some (by kernel_rfl))
  f20 := Try.func70.trans (congrArg some (by kernel_rfl))
  f30 := ⟨ "slices.siftDownOrdered[int]", by decide, Try.func71.trans (congrArg some (by kernel_rfl))⟩
  f31 := Try.func72.trans (congrArg some (by kernel_rfl))
  f32 := Try.func73.trans (congrArg some (by kernel_rfl))
  f33 := ⟨ "slices.medianAdjacentOrdered[int]", by decide, Try.func74.trans (congrArg some (by kernel_rfl))⟩
  f34 := ⟨ "slices.medianOrdered[int]", by decide, Try.func75.trans (congrArg some (by kernel_rfl))⟩
  f35 := ⟨ "cmp.isNaN[int]", by decide, Try.func50.trans (congrArg some (by kernel_rfl))⟩
  f40 := ⟨ "slices.order2Ordered[int]", by decide, Try.func76.trans (congrArg some (by kernel_rfl))⟩
  t0 := Try.underlying0
  a0 := Try.isAgg0
  z0 := Try.sizeOf0
  v0 := Try.zeroValue0
  t3 := Try.underlying3
  a3 := Try.isAgg3
  z3 := Try.sizeOf3
  v3 := Try.zeroValue3
  t4 := Try.underlying4
  a4 := Try.isAgg4
  z4 := Try.sizeOf4
  v4 := Try.zeroValue4
  t5 := Try.underlying5
  a5 := Try.isAgg5
  z5 := Try.sizeOf5
  v5 := Try.zeroValue5
  t9 := Try.underlying9
  a9 := Try.isAgg9
  z9 := Try.sizeOf9
  v9 := Try.zeroValue9
  t22 := Try.underlying51
  a22 := Try.isAgg51
  z22 := Try.sizeOf51
  v22 := Try.zeroValue51
  t23 := Try.underlying51
  a23 := Try.isAgg51
  z23 := Try.sizeOf51
  v23 := Try.zeroValue51
  t25 := Try.underlying3
  a25 := Try.isAgg3
  z25 := Try.sizeOf3
  v25 := Try.zeroValue3
  t32 := Try.underlying99
  a32 := Try.isAgg99
  z32 := Try.sizeOf99
  v32 := Try.zeroValue99
  t35 := Try.underlying101
  a35 := Try.isAgg101
  z35 := Try.sizeOf101
  v35 := Try.zeroValue101
  t36 := Try.underlying102
  a36 := Try.isAgg102
  z36 := Try.sizeOf102
  v36 := Try.zeroValue102
  t41 := Try.underlying107
  a41 := Try.isAgg107
  z41 := Try.sizeOf107
  v41 := Try.zeroValue107
  t44 := Try.underlying110
  a44 := Try.isAgg110
  z44 := Try.sizeOf110
  v44 := Try.zeroValue110
  t46 := Try.underlying112
  a46 := Try.isAgg112
  z46 := Try.sizeOf112
  v46 := Try.zeroValue112
  t53 := Try.underlying113
  a53 := Try.isAgg113
  z53 := Try.sizeOf113
  v53 := Try.zeroValue113
  t57 := Try.underlying117
  a57 := Try.isAgg117
  z57 := Try.sizeOf117
  v57 := Try.zeroValue117
  t63 := Try.underlying119
  a63 := Try.isAgg119
  z63 := Try.sizeOf119
  v63 := Try.zeroValue119
  t64 := Try.underlying120
  a64 := Try.isAgg120
  z64 := Try.sizeOf120
  v64 := Try.zeroValue120
/-- slices.Sort's two contracts at this program. -/
theorem sortsW (m : Nat) : AnyZI.SortsIn Try.prog sortedW_l_ren Fence.wide m :=
  ⟨fun blk off cap ss W hH hblk hsz => callsIn_wide.2 (AnyM.slices_Sort_int sortW_l blk off cap ss W hH hblk hsz),
   fun p cap W => callsIn_wide.2 (AnyM.slices_Sort_int_none sortW_l p cap W)⟩
end
end Go.Proofs.Ytjloehkolnjnhaa
