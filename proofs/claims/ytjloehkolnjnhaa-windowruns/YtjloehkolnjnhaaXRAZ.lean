/- The document's windows: At. Written by mk18d.py. -/
import Derived.Test.YtjloehkolnjnhaaXRAW
set_option linter.unusedSimpArgs false
set_option linter.unusedVariables false
namespace Go.Proofs.Ytjloehkolnjnhaa
open Go.RowKit Oct Kvl Bal
set_option maxRecDepth 20000 in
set_option maxHeartbeats 4000000 in
theorem refAtW_any {G : Nat → Prop} (w : World) (cs : List Value) (low : Int) (sls : List PSl) (h : RDw G w cs low sls) (k : Int) (hk : -9223372036854775808 ≤ k ∧ k ≤ 9223372036854775807) :
    Calls Try.prog 13 #[.agg cs.toArray, .int .i64 k] w fun e w' => ∃ r, e = .returned (.agg r.toArray) ∧ (∀ (G' : Nat → Prop) (u : World), RDw G' u cs low sls → RSl G' u r (atD low sls k)) ∧ Below w.heap.size w w' := by
  obtain ⟨w1, hw1⟩ : ∃ w1, w1 = w.alloc (.cells cs.toArray 36) := ⟨_, rfl⟩
  obtain ⟨w2, hw2⟩ : ∃ w2, w2 = w1.alloc (.cells zSl.toArray 33) := ⟨_, rfl⟩
  have e1 : w1.heap.size = w.heap.size + 1 := by rw [hw1]; simp
  have B1 : Below w.heap.size w w1 := by rw [hw1]; exact below_alloc _ _
  have B2 : Below w1.heap.size w1 w2 := by rw [hw2]; exact below_alloc _ _
  have B := below_and B1 (Nat.le_refl _) B2
  have R1 : Row w1 w.heap.size 36 cs := by rw [hw1]; exact Row.new _ _ _
  have R1 := R1.below B2
  have R2 : Row w2 (w.heap.size + 1) 33 zSl := by rw [hw2, ← e1]; exact Row.new _ _ _
  have hw : w2 = (w.alloc (.cells cs.toArray 36)).alloc (.cells zSl.toArray 33) := by rw [hw2, hw1]
  have hs2 : w.heap.size + 1 < w2.heap.size := R2.lt
  clear hw1 hw2 e1 B1 B2
  have c0 := R1.cell (j := 0) h.head
  have hlen := h.len
  have hl := h.1
  have hinf := Try.inf36
  have hinf2 : (Try.prog.info? 36).map (·.size) = some cs.length := by rw [hlen]; exact hinf
  have hI := refInW_any w2 cs low sls (h.mv B.size (Mv.belowG B)) k hk
  go_enter Try.func13, Try.ntmps13
  go_upto_region 1 with fail
  unfold zSl at hw
  rw [← hw]
  clear hw
  cases hin : inW low k with
  | false =>
    rw [hin] at hI
    have hat : atD low sls k = s0 := by unfold atD; rw [hin]; rfl
    have HAT := (show Hid (atD low sls k = s0) from hat)
    clear hat
    go_wp2_with (first
      | (refine wl_load rfl _ _ rfl w.heap.size rfl _ _ R1 _ Try.underlying36 rfl hinf2 ?_)
      | (go_at_call 15; refine hI.mono ?_; rintro e w3 ⟨rfl, b3⟩; have R3 := R2.below b3)
      | (refine wl_store rfl _ _ _ rfl (w.heap.size + 1) zSl rfl rfl _ _ R3 rfl (by kernel_rfl) (one_RSl (RSl.zero Any w)) ?_; intro w4 R4 g4))
    refine bodyPost_ret (v := .agg zSl.toArray) (results_cell_row rfl _ _ (w.heap.size + 1) _ _ (0, 0) _ (by rfl) R4.out Try.underlying33 rfl (by kernel_rfl)) rfl ?_
    have B3 := below_and B (Nat.le_refl _) b3
    exact ⟨_, rfl, fun G' u _ => (by rw [HAT.out]; exact RSl.zero _ _), B3.trans (grown_below g4 B3.size (fun k hk => by cases hk; omega))⟩
  | true =>
    rw [hin] at hI
    have hin' : low < k ∧ k ≤ low + 16 := by simpa [inW] using hin
    obtain ⟨i, hi⟩ : ∃ i : Nat, (i : Int) = k - low - 1 := ⟨(k - low - 1).toNat, by omega⟩
    have hi16 : i < 16 := by omega
    obtain ⟨r, s, hs, hr, hcut, _⟩ := h.at hi16
    have hat : atD low sls k = s := by
      unfold atD
      rw [hin, if_pos rfl, show (k - low - 1).toNat = i by omega, hs]
      rfl
    have HAT := (show Hid (atD low sls k = s) from hat)
    have hrl := hr.len
    have hcut2 : (cs.drop (1 + i * 23)).take r.length = r := by rw [hrl]; exact hcut
    have hwr : wrap64 (k - low) = k - low := IntWalk.wrap64_in _ ⟨by omega, by omega⟩
    have hwr2 : wrap64 (k - low - 1) = (i : Int) := by rw [← hi]; exact IntWalk.wrap64_in _ ⟨by omega, by omega⟩
    have hi0 : ¬ ((i : Int) < 0) := by omega
    have hi1 : (i : Int) < 16 := by omega
    have hinfS : (Try.prog.info? 33).map (·.size) = some r.length := by rw [hrl]; kernel_rfl
    have hone := one_RSl hr
    have hr16 : zSl.length = r.length := by rw [hrl]; rfl
    have HS := (show Hid (sls[i]? = some s) from hs)
    have HC := (show Hid ((cs.drop (1 + i * 23)).take 23 = r) from hcut)
    clear hat hin hs hcut hin' hrl
    replace hi := (show Hid _ from hi)
    go_wp2_with (first
      | (refine wl_load rfl _ _ rfl w.heap.size rfl _ _ R1 _ Try.underlying36 rfl hinf2 ?_)
      | (go_at_call 15; refine hI.mono ?_; rintro e w3 ⟨rfl, b3⟩; have R3 := R2.below b3; have S3 := R1.below b3; have c3 := S3.cell (j := 0) h.head)
      | (refine wl_part rfl _ _ rfl w.heap.size (1 + i * 23) rfl _ _ S3 r hcut2 _ Try.underlying33 rfl hinfS ?_)
      | (refine wl_store rfl _ _ _ rfl (w.heap.size + 1) r rfl rfl _ _ R3 hr16 hinfS hone ?_; intro w4 R4 g4))
    refine bodyPost_ret (v := .agg r.toArray) (results_cell_row rfl _ _ (w.heap.size + 1) _ _ (0, 0) _ (by rfl) R4.out Try.underlying33 rfl (by rw [List.size_toArray]; exact hinfS)) rfl ?_
    have B3 := below_and B (Nat.le_refl _) b3
    exact ⟨_, rfl, fun G' u h' => (by obtain ⟨r', s', hs', hr', hc', _⟩ := h'.at hi16; rw [HAT.out]; rw [HS.out] at hs'; cases hs'; rw [HC.out] at hc'; rw [hc']; exact hr'), B3.trans (grown_below g4 B3.size (fun k hk => by cases hk; omega))⟩
end Go.Proofs.Ytjloehkolnjnhaa
