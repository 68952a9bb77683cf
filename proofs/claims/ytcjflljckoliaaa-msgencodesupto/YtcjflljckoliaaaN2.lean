/- The document's writing: how many, requests. -/
import Derived.Test.YtcjflljckoliaaaN1
set_option linter.unusedVariables false
namespace Go.Proofs.Ytcjflljckoliaaa
open Go.RowKit Oct

/-- How many. -/
def cM : Cdc Int := ⟨fun n => okI n && decide (n ≤ 64), outI, fun _ => none⟩

theorem App.after {w w4 w5 : World} {sv v4 : Value} {X : List Value} (h : App w 5 sv w4 v4 X) {b : Nat} (hb : w.heap.size ≤ b) (hg : w4.grownBy w5 (some b)) (hn : v4.ownBlock ≠ some b) : App w 5 sv w5 v4 X :=
  ⟨h.own.grown hg (fun k hk => by cases hk; exact hn), grown_trans h.grown hg (.inr fun k hk => by cases hk; exact hb), h.spot⟩
theorem one2b {ao : Option Addr} {n c : Nat} {b : Bool} : ∀ x ∈ [Value.slice ao n c, Value.bool b], x.oneCell' = true := by
  intro x hx
  simp only [List.mem_cons, List.not_mem_nil, or_false] at hx
  rcases hx with rfl | rfl <;> rfl

set_option maxRecDepth 10000 in
set_option maxHeartbeats 2000000 in
theorem refMany_any (w : World) (sv : Value) (bad : Bool) (L : List Int) (n : Int) (hown : Own w 5 sv (bc L)) (hl : L.length ≤ 140737488355300) :
    Calls Try.prog 51 #[.agg #[sv, .bool bad], .int .i64 n] w (OPost cM n w sv bad L) := by
  obtain ⟨w2, hw2⟩ : ∃ w2, w2 = (w.alloc (.cells #[sv, .bool bad] 65)).alloc (.cells #[.slice none 0 0, .bool false] 65) := ⟨_, rfl⟩
  have ra : Row w2 w.heap.size 65 [sv, .bool bad] := by rw [hw2]; exact row_alloc (Row.new w _ _) _
  have rr : Row w2 (w.heap.size + 1) 65 [.slice none 0 0, .bool false] := by
    rw [hw2]
    have := Row.new (w.alloc (.cells #[sv, .bool bad] 65)) 65 [.slice none 0 0, .bool false]
    simpa using this
  have hB : Below w.heap.size w w2 := by rw [hw2]; exact ((Below.refl _ w).alloc (Nat.le_refl _) _).alloc (by simp) _
  have hoL := hown.below hB
  have hne1 := own_row_ne ra hoL (by decide)
  have hne2 := own_row_ne rr hoL (by decide)
  have c0 := ra.cell (j := 0) rfl
  have c1 := ra.cell (j := 1) rfl
  have hI := refNum_any w2 sv bad L n hoL hl
  go_enter Try.func51, Try.ntmps51
  go_upto_region 1 with fail
  rw [← hw2]
  clear hw2
  go_wp2_with fail
  refine hI.mono ?_
  rintro e w3 ⟨v3, rfl, happ3⟩
  obtain ⟨ao3, n3, k3, rfl⟩ := own_slice happ3.own
  have ra3 := ra.grown happ3.grown hne1
  have rr3 := rr.grown happ3.grown hne2
  have hap3 := App.pre hB happ3
  have HB := (show Hid ((bad || !cM.ok n) = ((bad || !cN.ok n) || decide (64 < n))) by
    show (bad || !(okI n && decide (n ≤ 64))) = ((bad || !okI n) || decide (64 < n))
    by_cases h : n ≤ 64
    · have : ¬ 64 < n := by omega
      simp [h, this]
    · have : 64 < n := by omega
      simp [h, this])
  clear hI c0 c1 happ3 ra rr hown hoL hl
  generalize (bad || !cN.ok n) = b3 at *
  have ending : ∀ (w4 w5 w6 : World) (b4 : Bool) (xs ys zs : List Value), Row w4 w.heap.size 65 xs → Row w5 w.heap.size 65 ys → Row w6 (w.heap.size + 1) 65 zs → w3.grownBy w4 (some w.heap.size) → w4.grownBy w5 (some w.heap.size) → w5.grownBy w6 (some (w.heap.size + 1)) →
      App w 5 sv w6 (.slice ao3 n3 k3) (bc (L ++ cN.wr n)) := by
    intro w4 w5 w6 b4 xs ys zs r4 r5 r6 g4 g5 g6
    have a4 := App.after hap3 (Nat.le_refl _) g4 (own_row_ne ra3 hap3.own (by decide))
    have a5 := App.after a4 (Nat.le_refl _) g5 (own_row_ne r4 a4.own (by decide))
    exact App.after a5 (Nat.le_succ _) g6 (own_row_ne ((rr3.grown g4 (fun e => by injection e; omega)).grown g5 (fun e => by injection e; omega)) a5.own (by decide))
  have HE := (show Hid (∀ _ : Unit, _) from fun _ => ending)
  clear ending
  cases b3 with
  | false =>
    go_wp2_with (first
      | (refine wl_store rfl _ _ _ rfl w.heap.size [.slice ao3 n3 k3, .bool false] rfl rfl _ _ ra3 rfl (by kernel_rfl) one2b ?_; intro w4 hr4 hg4; have ra4 := hr4.out; have c1 := ra4.cell (j := 1) rfl; have rr4 := rr3.grown hg4 (fun e => by injection e; omega); clear hr4)
      | (refine wl_set rfl _ _ _ rfl w.heap.size 1 _ rfl rfl _ _ ra4 (show 1 < 2 by decide) (by kernel_rfl) rfl ?_; intro w5 hr5 hg5; have ra5 : Row w5 w.heap.size 65 [.slice ao3 n3 k3, .bool (decide (64 < n))] := hr5.out; have rr5 := rr4.grown hg5 (fun e => by injection e; omega); clear hr5)
      | (refine wl_load rfl _ _ rfl w.heap.size rfl _ _ ra5 _ Try.underlying65 rfl (by kernel_rfl) ?_)
      | (refine wl_store rfl _ _ _ rfl (w.heap.size + 1) [.slice ao3 n3 k3, .bool (decide (64 < n))] rfl rfl _ _ rr5 rfl (by kernel_rfl) one2b ?_; intro w6 hr6 hg6))
    have hr6 := hr6.out
    refine bodyPost_ret (v := .agg ([.slice ao3 n3 k3, .bool (decide (64 < n))] : List Value).toArray) (results_cell_row rfl _ _ (w.heap.size + 1) _ _ (0, 0) _ (by rfl) hr6 Try.underlying65 rfl (by kernel_rfl)) rfl ?_
    refine ⟨_, ?_, HE.out () w4 w5 w6 true _ _ _ ra4 ra5 hr6 hg4 hg5 hg6⟩
    rw [HB.out]
    rfl
  | true =>
    go_wp2_with (first
      | (refine wl_store rfl _ _ _ rfl w.heap.size [.slice ao3 n3 k3, .bool true] rfl rfl _ _ ra3 rfl (by kernel_rfl) one2b ?_; intro w4 hr4 hg4; have ra4 := hr4.out; have c1 := ra4.cell (j := 1) rfl; have rr4 := rr3.grown hg4 (fun e => by injection e; omega); clear hr4)
      | (refine wl_set rfl _ _ _ rfl w.heap.size 1 _ rfl rfl _ _ ra4 (show 1 < 2 by decide) (by kernel_rfl) rfl ?_; intro w5 hr5 hg5; have ra5 : Row w5 w.heap.size 65 [.slice ao3 n3 k3, .bool true] := hr5.out; have rr5 := rr4.grown hg5 (fun e => by injection e; omega); clear hr5)
      | (refine wl_load rfl _ _ rfl w.heap.size rfl _ _ ra5 _ Try.underlying65 rfl (by kernel_rfl) ?_)
      | (refine wl_store rfl _ _ _ rfl (w.heap.size + 1) [.slice ao3 n3 k3, .bool true] rfl rfl _ _ rr5 rfl (by kernel_rfl) one2b ?_; intro w6 hr6 hg6))
    have hr6 := hr6.out
    refine bodyPost_ret (v := .agg ([.slice ao3 n3 k3, .bool true] : List Value).toArray) (results_cell_row rfl _ _ (w.heap.size + 1) _ _ (0, 0) _ (by rfl) hr6 Try.underlying65 rfl (by kernel_rfl)) rfl ?_
    refine ⟨_, ?_, HE.out () w4 w5 w6 true _ _ _ ra4 ra5 hr6 hg4 hg5 hg6⟩
    rw [HB.out]
    rfl
end Go.Proofs.Ytcjflljckoliaaa
