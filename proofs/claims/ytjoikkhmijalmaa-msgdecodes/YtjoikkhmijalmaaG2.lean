/- The document's reading: how many. -/
import Derived.Test.YtjoikkhmijalmaaG1
set_option linter.unusedVariables false
set_option linter.unusedSimpArgs false
namespace Go.Proofs.Ytjoikkhmijalmaa
open Go.RowKit Oct

/-- How many, at most 64. -/
def cM : Cdc Int := ⟨fun _ => true, fun _ => [], fun l => (cN.rd l).bind fun x => if 64 < x.1 then none else some x⟩
theorem cM_small {l : List Int} {p q : Nat} {bad bad' : Bool} {a : Int} (h : (stL l p bad).bind cN.rd = (stL l q bad').map fun r => (a, r)) (ha : ¬ 64 < a) : (stL l p bad).bind cM.rd = (stL l q bad').map fun r => (a, r) := by
  show (stL l p bad).bind (fun l => (cN.rd l).bind fun x => if 64 < x.1 then none else some x) = _
  rw [← Option.bind_assoc, h]
  cases stL l q bad' with
  | none => rfl
  | some r => simp [ha]
theorem cM_great {l : List Int} {p q : Nat} {bad bad' : Bool} {a : Int} (h : (stL l p bad).bind cN.rd = (stL l q bad').map fun r => (a, r)) (ha : 64 < a) : (stL l p bad).bind cM.rd = none := by
  show (stL l p bad).bind (fun l => (cN.rd l).bind fun x => if 64 < x.1 then none else some x) = _
  rw [← Option.bind_assoc, h]
  cases stL l q bad' with
  | none => rfl
  | some r => simp [ha]

set_option maxRecDepth 10000 in
set_option maxHeartbeats 2000000 in
theorem getMany_any (w : World) (bv : Value) (l : List Int) (p : Nat) (bad : Bool) (hrd : Rd w bv l) (hp : p ≤ l.length) (hl : l.length ≤ 1048576) :
    Calls Try.prog 61 #[.agg #[bv, .int .i64 (p : Int), .bool bad]] w (GPost cM VN w bv l p bad) := by
  obtain ⟨ab, cb, rfl, hcb⟩ := hrd.2.form
  obtain ⟨w2, hw2⟩ : ∃ w2, w2 = (w.alloc (.cells #[.slice ab (bc l).length cb, .int .i64 (p : Int), .bool bad] 52)).alloc (.cells #[.slice none 0 0, .int .i64 0, .bool false] 52) := ⟨_, rfl⟩
  have ra : Row w2 w.heap.size 52 [.slice ab (bc l).length cb, .int .i64 (p : Int), .bool bad] := by rw [hw2]; exact row_alloc (Row.new w _ _) _
  have rr : Row w2 (w.heap.size + 1) 52 [.slice none 0 0, .int .i64 0, .bool false] := by
    rw [hw2]
    have := Row.new (w.alloc (.cells #[.slice ab (bc l).length cb, .int .i64 (p : Int), .bool bad] 52)) 52 [.slice none 0 0, .int .i64 0, .bool false]
    simpa using this
  have hB : Below w.heap.size w w2 := by rw [hw2]; exact ((Below.refl _ w).alloc (Nat.le_refl _) _).alloc (by simp) _
  have hG := getNum_any w2 _ l p bad (hrd.below hB) hp hl
  go_enter Try.func61, Try.ntmps61
  go_upto_region 1 with fail
  rw [← hw2]
  clear hw2
  go_upto_region 2 with (first
    | (refine wl_load rfl _ _ rfl w.heap.size rfl _ _ ra _ Try.underlying52 rfl (by kernel_rfl) ?_)
    | (go_at_call 15; refine hG.mono ?_; rintro e w3 ⟨a, v3, q, bad', rfl, hq, hb3, rfl, he⟩; have ra3 := ra.below hb3; have rr3 := rr.below hb3)
    | (refine wl_store rfl _ _ _ rfl w.heap.size [.slice ab (bc l).length cb, .int .i64 (q : Int), .bool bad'] rfl rfl _ _ ra3 rfl (by kernel_rfl) (one_in rfl) ?_; intro w4 hr4 hg4))
  have rr4 := rr3.grown hg4 (fun h => by injection h; omega)
  have B3 := below_and hB (Nat.le_refl _) hb3
  have hs3 : w.heap.size ≤ w3.heap.size := B3.size
  have B4 := below_grown B3 hg4 (Nat.le_refl _) hs3
  have hs4 : w.heap.size ≤ w4.heap.size := B4.size
  have HE := (show Hid ((stL l p bad).bind cN.rd = (stL l q bad').map fun r => (a, r)) from he)
  have c0 := hr4.out.cell (j := 0) rfl
  have c1 := hr4.out.cell (j := 1) rfl
  clear ra rr hG ra3 rr3 he hg4 hb3 B3
  by_cases ha : 64 < a
  · go_wp2_with (refine wl_store rfl _ _ _ rfl (w.heap.size + 1) [.slice ab (bc l).length cb, .int .i64 (q : Int), .bool true] rfl rfl _ _ rr4 rfl (by kernel_rfl) (one_in rfl) ?_; intro w5 hr5 hg5)
    refine bodyPost_ret (results_ct rfl _ _ (w.heap.size + 1) _ _ (0, 0) _ (by rfl) hr5.out Try.underlying52 rfl (by kernel_rfl)) rfl ?_
    exact ⟨0, _, q, true, rfl, hq, below_grown B4 hg5 (by omega) hs4, rfl, cM_great HE.out ha⟩
  · go_wp2_with (first
      | (refine wl_load rfl _ _ rfl w.heap.size rfl _ _ hr4.out _ Try.underlying52 rfl (by kernel_rfl) ?_)
      | (refine wl_store rfl _ _ _ rfl (w.heap.size + 1) [.slice ab (bc l).length cb, .int .i64 (q : Int), .bool bad'] rfl rfl _ _ rr4 rfl (by kernel_rfl) (one_in rfl) ?_; intro w5 hr5 hg5))
    refine bodyPost_ret (results_ct rfl _ _ (w.heap.size + 1) _ _ (0, 0) _ (by rfl) hr5.out Try.underlying52 rfl (by kernel_rfl)) rfl ?_
    exact ⟨a, _, q, bad', rfl, hq, below_grown B4 hg5 (by omega) hs4, rfl, cM_small HE.out (by omega)⟩
end Go.Proofs.Ytjoikkhmijalmaa
