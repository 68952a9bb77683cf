/- What the types of records are, where no reader of messages is about (D2, D3, D4 say it else). -/
import Derived.Test.YtagoeccgmkjhoaaLc
namespace Go.Proofs.Ytagoeccgmkjhoaa
open Go.RowKit Oct

theorem Try.inf_votes : (Try.prog.info? 91).map (fun i => (i.zero, i.size, i.bytes)) = some (some (.agg #[.int .i64 0, .slice none 0 0]), 2, 32) := by kernel_rfl
theorem Try.inf_ints : (Try.prog.info? 3).map (fun i => (i.zero, i.size, i.bytes)) = some (some (.int .i64 0), 1, 8) := by kernel_rfl
theorem Try.inf_reqs : (Try.prog.info? 30).map (fun i => (i.zero, i.size, i.bytes)) = some (some (.agg #[.int .i64 0, .int .i64 0, .slice none 0 0, .slice none 0 0]), 4, 64) := by kernel_rfl
theorem Try.inf_preps : (Try.prog.info? 39).map (fun i => (i.zero, i.size, i.bytes)) = some (some (.agg #[.int .i64 0, .int .i64 0, .int .i64 0, .int .i64 0, .int .i64 0, .slice none 0 0, .slice none 0 0, .slice none 0 0]), 8, 112) := by kernel_rfl
theorem Try.inf_reps : (Try.prog.info? 59).map (fun i => (i.zero, i.size, i.bytes)) = some (some (.agg #[.int .i64 0, .int .i64 0, .int .i64 0, .int .i64 0, .slice none 0 0, .slice none 0 0, .slice none 0 0, .slice none 0 0]), 8, 128) := by kernel_rfl
theorem len_RVote {G : Nat → Prop} {w : World} {r : List Value} {x : PVote} (h : RVote G w r x) : r.length = 2 := by obtain ⟨s, rfl, _⟩ := h; rfl
theorem len_RReq {G : Nat → Prop} {w : World} {r : List Value} {x : PReq} (h : RReq G w r x) : r.length = 4 := by obtain ⟨o, g, rfl, _⟩ := h; rfl
theorem len_RPrep {G : Nat → Prop} {w : World} {r : List Value} {x : PPrep} (h : RPrep G w r x) : r.length = 8 := by obtain ⟨o, g, c, rfl, _⟩ := h; rfl
theorem len_RRep {G : Nat → Prop} {w : World} {r : List Value} {x : PRep} (h : RRep G w r x) : r.length = 8 := by obtain ⟨d, s, p, g, rfl, _⟩ := h; rfl
end Go.Proofs.Ytagoeccgmkjhoaa
