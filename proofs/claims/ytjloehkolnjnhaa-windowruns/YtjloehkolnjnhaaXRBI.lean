/- The document's windows: Cut. -/
import Derived.Test.YtjloehkolnjnhaaXRBE
set_option linter.unusedSimpArgs false
set_option linter.unusedVariables false
namespace Go.Proofs.Ytjloehkolnjnhaa
open Go.RowKit Oct Kvl Bal
/-- The window that went up, by the document. -/
def upD (low : Int) (sls : List PSl) (l2 : Int) (q : Nat) : List PSl := (List.range 16).map fun i : Nat => if i < q then atD low sls (l2 + 1 + (i : Int)) else s0
def dC (low : Int) (sls : List PSl) (l2 : Int) : Int × List PSl := if l2 ≤ low ∨ 1000000 < l2 then (low, sls) else (l2, upD low sls l2 16)
theorem upD_zero (low : Int) (sls : List PSl) (l2 : Int) : upD low sls l2 0 = List.replicate 16 s0 := rfl
theorem upD_step (low : Int) (sls : List PSl) (l2 : Int) {q : Nat} (hq : q < 16) : (upD low sls l2 q).set q (atD low sls (l2 + 1 + (q : Int))) = upD low sls l2 (q + 1) := by
  refine List.ext_getElem? fun i => ?_
  unfold upD
  rw [List.getElem?_set]
  simp only [List.getElem?_map, List.length_map, List.length_range]
  by_cases hi : i < 16
  · rw [List.getElem?_range hi]
    by_cases e : q = i
    · subst e
      simp [hi]
    · simp only [if_neg e, Option.map_some]
      by_cases h1 : i < q
      · rw [if_pos h1, if_pos (by omega)]
      · rw [if_neg h1, if_neg (by omega)]
  · have : (List.range 16)[i]? = none := by simp; omega
    rw [this, if_neg (by omega)]
    rfl
set_option maxRecDepth 20000 in
set_option maxHeartbeats 8000000 in
theorem refCutW_any {G : Nat → Prop} (w : World) (cs : List Value) (low : Int) (sls : List PSl) (h : RDw G w cs low sls) (l2 : Int) (hk : -9223372036854775808 ≤ l2 ∧ l2 ≤ 9223372036854775807) :
    Calls Try.prog 32 #[.agg cs.toArray, .int .i64 l2] w fun e w' => ∃ cs', e = .returned (.agg cs'.toArray) ∧ RDw G w cs' (dC low sls l2).1 (dC low sls l2).2 ∧ Below w.heap.size w w' := by
  obtain ⟨zc, hzl, hzv⟩ := zW_ex
  obtain ⟨w1, hw1⟩ : ∃ w1, w1 = w.alloc (.cells cs.toArray 36) := ⟨_, rfl⟩
  have e1 : w1.heap.size = w.heap.size + 1 := by rw [hw1]; simp
  have B1 : Below w.heap.size w w1 := by rw [hw1]; exact below_alloc _ _
  have R1 : Row w1 w.heap.size 36 cs := by rw [hw1]; exact Row.new _ _ _
  obtain ⟨w2, hw2⟩ : ∃ u, u = w1.alloc (.cells zc.toArray 36) := ⟨_, rfl⟩
  have B2 : Below w1.heap.size w1 w2 := by rw [hw2]; exact below_alloc _ _
  have RR : Row w2 (w.heap.size + 1) 36 zc := by rw [hw2, ← e1]; exact Row.new _ _ _
  have R1 := R1.below B2
  have B := below_and B1 (Nat.le_refl _) B2
  have hw : w2 = (w.alloc (.cells cs.toArray 36)).alloc (.cells zc.toArray 36) := by rw [hw2, hw1]
  have hN2 : w.heap.size + 1 < w2.heap.size := RR.lt
  clear hw1 hw2 e1 B1 B2
  have c0 := R1.cell (j := 0) h.head
  have hlen := h.len
  have hone := h.one
  have hinf : (Try.prog.info? 36).map (·.size) = some cs.length := by rw [hlen]; exact Try.inf36
  have hzc : zc.length = cs.length := by rw [hzl, hlen]
  have hl0 := h.1
  have HH := (show Hid (RDw G w cs low sls) from h)
  clear h
  by_cases hno : l2 ≤ low ∨ 1000000 < l2
  · have HST := (show Hid (dC low sls l2 = (low, sls)) from (show dC low sls l2 = (low, sls) from if_pos hno))
    have hb : (decide (l2 ≤ low) = true) ∨ (decide (l2 ≤ low) = false ∧ decide (1000000 < l2) = true) := by
      by_cases h1 : l2 ≤ low
      · exact .inl (by simpa using h1)
      · exact .inr ⟨by simpa using h1, by simp; omega⟩
    clear hno
    rcases hb with d1 | ⟨d1, d2⟩
    all_goals (
    go_enter Try.func32, Try.ntmps32
    go_upto_region 1 with fail
    rw [← hw]
    clear hw
    go_upto_region 2 with fail
    go_wp2_with (first
      | (refine wl_load rfl _ _ rfl w.heap.size rfl _ _ R1 _ Try.underlying36 rfl hinf ?_)
      | (refine wl_store rfl _ _ _ rfl (w.heap.size + 1) cs rfl rfl _ _ RR hzc hinf hone ?_; intro w9 R9 g9))
    refine bodyPost_ret (v := .agg cs.toArray) (results_cell_row rfl _ _ (w.heap.size + 1) _ _ (0, 0) _ (by rfl) R9.out Try.underlying36 rfl (by rw [List.size_toArray]; exact hinf)) rfl ?_
    exact ⟨cs, rfl, by rw [HST.out]; exact HH.out, B.trans (grown_below g9 B.size (fun k hk => by cases hk; omega))⟩)
  have HST := (show Hid (dC low sls l2 = (l2, upD low sls l2 16)) from (show dC low sls l2 = (l2, upD low sls l2 16) from if_neg hno))
  have hl2 : low < l2 ∧ l2 ≤ 1000000 := by omega
  have d1 : decide (l2 ≤ low) = false := by simp; omega
  have d2 : decide (1000000 < l2) = false := by simp; omega
  clear hno hk
  have hb2 : bndW l2 = l2 := by unfold bndW; rw [if_neg (by omega), if_neg (by omega)]
  have hnew : RDw G w (Value.int .i64 l2 :: zRest) l2 (upD low sls l2 0) := by
    have := RDw.zero G w l2
    rw [hb2] at this
    rw [upD_zero]
    exact this
  have HN := (show Hid (RDw G w (Value.int .i64 l2 :: zRest) l2 (upD low sls l2 0)) from hnew)
  have hone2 := hnew.one
  have hlen2 := hnew.len
  have hinf2 : (Try.prog.info? 36).map (·.size) = some (Value.int .i64 l2 :: zRest).length := by rw [hlen2]; exact Try.inf36
  have hzc2 : zc.length = (Value.int .i64 l2 :: zRest).length := by rw [hzl, hlen2]
  clear hnew hlen2 hb2
  go_enter Try.func32, Try.ntmps32
  go_upto_region 1 with fail
  rw [← hw]
  clear hw
  go_upto_region 3 with fail
  have RZ := Row.new w2 36 zc
  have BZ := below_alloc w2 (.cells zc.toArray 36)
  go_upto_region 4 with (first
    | (refine wl_buildW rfl 36 0 _ rfl (.int .i64 l2) (.agg (Value.int .i64 l2 :: zRest).toArray) rfl (bldW l2 _) ?_)
    | (refine wl_store rfl _ _ _ rfl w2.heap.size (Value.int .i64 l2 :: zRest) rfl rfl _ _ RZ hzc2 hinf2 hone2 ?_; intro w3 R3 g3))
  have R3 := R3.out
  have B3 : Below w2.heap.size w2 w3 := BZ.trans (grown_below g3 BZ.size (fun k hk => by cases hk; exact Nat.le_refl _))
  have BB := below_and B (Nat.le_refl _) B3
  have R1 := R1.below B3
  have RR := RR.below B3
  have hs3 := R3.lt
  clear RZ BZ g3 B3 hzc2 hinf2 hone2 c0 d1 d2
  have hzl' := (show Hid _ from hzl)
  clear hzl hzv hzc
  go_wp2_with fail
  go_loopw [6] (fun i wr => ∃ q : Nat, q ≤ 16 ∧ i = .int .i64 q ∧ ∃ cq, Row wr w2.heap.size 36 cq ∧ RDw G w cq l2 (upD low sls l2 q) ∧ Below w.heap.size w wr ∧ Row wr w.heap.size 36 cs ∧ Row wr (w.heap.size + 1) 36 zc) (fun i _ => 16 - (intOf i).toNat)
  case atStart => exact ⟨0, by omega, rfl, _, R3, HN.out, BB, R1, RR⟩
  case round =>
    clear R3 R1 RR BB HN
    obtain ⟨q, hq, rfl, cq, RQ, hD, hB, R1, RR⟩ := hrel
    by_cases hql : q < 16
    · have hw1 : wrap64 (l2 + 1) = l2 + 1 := IntWalk.wrap64_in _ ⟨by omega, by omega⟩
      have hw2 : wrap64 (l2 + 1 + (q : Int)) = l2 + 1 + (q : Int) := IntWalk.wrap64_in _ ⟨by omega, by omega⟩
      have hA := refAtW_any wr cs low sls (HH.out.mv hB.size (Mv.belowG hB)) (l2 + 1 + (q : Int)) (by omega)
      have hql' : (q : Int) < 16 := by omega
      have hq0 : ¬ ((q : Int) < 0) := by omega
      obtain ⟨_, _, _, _, _, hput⟩ := hD.at hql
      have hlq := hD.len
      have hst := upD_step low sls l2 hql
      have HPUT := (show Hid (∀ r' s', RSl G w r' s' → RDw G w (splice cq (1 + q * 23) r') l2 ((upD low sls l2 q).set q s')) from hput)
      have HSTEP := (show Hid ((upD low sls l2 q).set q (atD low sls (l2 + 1 + (q : Int))) = upD low sls l2 (q + 1)) from hst)
      clear hput hst hD
      go_wp2_with (first
        | (refine wl_load rfl _ _ rfl w.heap.size rfl _ _ R1 _ Try.underlying36 rfl hinf ?_)
        | (go_at_call 13; refine hA.mono ?_; rintro e w5 ⟨r, rfl, hr, b5⟩; have hrw := hr G w HH.out; have hrl := hrw.len; have RQ5 := RQ.below b5; have hfit : 1 + q * 23 + r.length ≤ cq.length := by rw [hrl, hlq]; omega)
        | (refine wl_put rfl _ _ _ rfl w2.heap.size (1 + q * 23) r rfl rfl _ _ RQ5 hfit (by rw [hrl]; kernel_rfl) (one_RSl hrw) ?_; intro w6 R6 g6))
      have hB5 := below_and hB (Nat.le_refl _) b5
      have hB6 := hB5.trans (grown_below g6 hB5.size (fun k hk => by cases hk; omega))
      have R16 := (R1.below b5).grown g6 (fun e => by have := Option.some.inj e; omega)
      have RR6 := (RR.below b5).grown g6 (fun e => by have := Option.some.inj e; omega)
      have hD6 := HPUT.out r _ hrw
      rw [HSTEP.out] at hD6
      go_roundw
      case rel => exact ⟨q + 1, by omega, by go_num, _, R6.out, hD6, hB6, R16, RR6⟩
      case measure => simp [intOf]; omega
    · obtain rfl : q = 16 := by omega
      have hlq := hD.len
      have hoq := hD.one
      have hinq : (Try.prog.info? 36).map (·.size) = some cq.length := by rw [hlq]; exact Try.inf36
      have hzq : zc.length = cq.length := by rw [hzl'.out, hlq]
      go_wp2_with (first
        | (refine wl_load rfl _ _ rfl w2.heap.size rfl _ _ RQ _ Try.underlying36 rfl hinq ?_)
        | (refine wl_store rfl _ _ _ rfl (w.heap.size + 1) cq rfl rfl _ _ RR hzq hinq hoq ?_; intro w9 R9 g9))
      refine bodyPost_ret (v := .agg cq.toArray) (results_cell_row rfl _ _ (w.heap.size + 1) _ _ (0, 0) _ (by rfl) R9.out Try.underlying36 rfl (by rw [List.size_toArray]; exact hinq)) rfl ?_
      exact ⟨cq, rfl, by rw [HST.out]; exact hD, hB.trans (grown_below g9 hB.size (fun k hk => by cases hk; omega))⟩
end Go.Proofs.Ytjloehkolnjnhaa
