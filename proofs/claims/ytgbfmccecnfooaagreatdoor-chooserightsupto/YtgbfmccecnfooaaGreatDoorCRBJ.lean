/- The document's Encode. -/
import Derived.Test.YtgbfmccecnfooaaGreatDoorCRBD
import Derived.Test.YtgbfmccecnfooaaGreatDoorCRBE
set_option linter.unusedSimpArgs false
set_option linter.unusedVariables false
namespace Go.Proofs.YtgbfmccecnfooaaGreatDoor
section
open Go.RowKit Oct
theorem fld_boxes (w : World) (sv : Value) (bad : Bool) (m : PMsg) (s : SV) : ∃ a2 w2, Row w2 w.heap.size 157 [sv, .bool bad] ∧ Row w2 (w.heap.size + 1) 72 (mc m s) ∧ Row w2 (w.heap.size + 2) 157 [.slice none 0 0, .bool false] ∧ Below w.heap.size w w2 ∧
    a2 = (w.alloc (.cells #[sv, .bool bad] 157)).alloc (.cells (mc m s).toArray 72) ∧ w2 = a2.alloc (.cells #[.slice none 0 0, .bool false] 157) := by
  refine ⟨_, _, row_alloc (row_alloc (Row.new w _ _) _) _, ?_, ?_, (((Below.refl _ w).alloc (Nat.le_refl _) _).alloc (by simp) _).alloc (by simp; omega) _, rfl, rfl⟩
  · have := row_alloc (Row.new (w.alloc (.cells #[sv, .bool bad] 157)) 72 (mc m s)) (.cells #[.slice none 0 0, .bool false] 157)
    simpa using this
  · have := Row.new ((w.alloc (.cells #[sv, .bool bad] 157)).alloc (.cells (mc m s).toArray 72)) 157 [.slice none 0 0, .bool false]
    simpa using this
set_option maxRecDepth 10000 in
set_option maxHeartbeats 4000000 in
theorem refField_1 (w0 w : World) (sv : Value) (bad : Bool) (L : List Int) (m : PMsg) (s : SV) (hB0 : Below w0.heap.size w0 w) (hf : Fr w0.heap.size sv) (hown : Own w 5 sv (bc L)) (hs : SOk Any w0 m s) (hl : L.length + bM m * 20 ≤ 140718000000000) (hz : bM m ≤ 1100000) :
    Calls Tryz.prog 132 #[.agg #[sv, .bool bad], .agg (mc m s).toArray, .int .i64 1] w (OPost (cF 1) (get m 1) w sv bad L) := by
  obtain ⟨a2, w2, ra, rb, rr, hB, hw2, hw3⟩ := fld_boxes w sv bad m s
  have hBw0 := below_and hB0 (Nat.le_refl _) hB
  have hoL := hown.below hB
  have hne0 := own_row_ne ra hoL (by decide)
  have hne1 := own_row_ne rb hoL (by decide)
  have hne2 := own_row_ne rr hoL (by decide)
  simp only [bM] at hl hz
  have hN := refNum_any w2 sv bad L m.slot hoL (by omega)
  have c1 := rb.cell (j := 3) rfl
  go_enter Tryz.func132, Tryz.ntmps132
  go_upto_region 1 with fail
  rw [← hw2, ← hw3]
  clear hw2 hw3
  go_wp2_with (first
    | (refine wl_load rfl _ _ rfl w.heap.size rfl _ _ ra _ Tryz.underlying157 rfl (by kernel_rfl) ?_)
    | (go_at_call 131; refine hN.mono ?_; rintro e w3 ⟨v3, rfl, q3⟩; obtain ⟨ao3, n3, c3, rfl⟩ := own_slice q3.own; have rr3 := rr.grown q3.grown hne2)
    | (refine wl_store rfl _ _ _ rfl (w.heap.size + 2) [.slice ao3 n3 c3, .bool (bad || !cN.ok m.slot)] rfl rfl _ _ rr3 rfl (by kernel_rfl) one2b ?_; intro w9 hr9 hg9))
  have hr9 := hr9.out
  refine bodyPost_ret (v := .agg ([.slice ao3 n3 c3, .bool (bad || !cN.ok m.slot)] : List Value).toArray) (results_cell_row rfl _ _ (w.heap.size + 2) _ _ (0, 0) _ (by rfl) hr9 Tryz.underlying157 rfl (by kernel_rfl)) rfl ?_
  exact ⟨_, rfl, App.after (App.pre hB q3) (by omega) hg9 (own_row_ne rr3 q3.own (by decide))⟩
set_option maxRecDepth 10000 in
set_option maxHeartbeats 4000000 in
theorem refField_2 (w0 w : World) (sv : Value) (bad : Bool) (L : List Int) (m : PMsg) (s : SV) (hB0 : Below w0.heap.size w0 w) (hf : Fr w0.heap.size sv) (hown : Own w 5 sv (bc L)) (hs : SOk Any w0 m s) (hl : L.length + bM m * 20 ≤ 140718000000000) (hz : bM m ≤ 1100000) :
    Calls Tryz.prog 132 #[.agg #[sv, .bool bad], .agg (mc m s).toArray, .int .i64 2] w (OPost (cF 2) (get m 2) w sv bad L) := by
  obtain ⟨a2, w2, ra, rb, rr, hB, hw2, hw3⟩ := fld_boxes w sv bad m s
  have hBw0 := below_and hB0 (Nat.le_refl _) hB
  have hoL := hown.below hB
  have hne0 := own_row_ne ra hoL (by decide)
  have hne1 := own_row_ne rb hoL (by decide)
  have hne2 := own_row_ne rr hoL (by decide)
  simp only [bM] at hl hz
  have hN := refNum_any w2 sv bad L m.frm hoL (by omega)
  have c1 := rb.cell (j := 4) rfl
  go_enter Tryz.func132, Tryz.ntmps132
  go_upto_region 1 with fail
  rw [← hw2, ← hw3]
  clear hw2 hw3
  go_wp2_with (first
    | (refine wl_load rfl _ _ rfl w.heap.size rfl _ _ ra _ Tryz.underlying157 rfl (by kernel_rfl) ?_)
    | (go_at_call 131; refine hN.mono ?_; rintro e w3 ⟨v3, rfl, q3⟩; obtain ⟨ao3, n3, c3, rfl⟩ := own_slice q3.own; have rr3 := rr.grown q3.grown hne2)
    | (refine wl_store rfl _ _ _ rfl (w.heap.size + 2) [.slice ao3 n3 c3, .bool (bad || !cN.ok m.frm)] rfl rfl _ _ rr3 rfl (by kernel_rfl) one2b ?_; intro w9 hr9 hg9))
  have hr9 := hr9.out
  refine bodyPost_ret (v := .agg ([.slice ao3 n3 c3, .bool (bad || !cN.ok m.frm)] : List Value).toArray) (results_cell_row rfl _ _ (w.heap.size + 2) _ _ (0, 0) _ (by rfl) hr9 Tryz.underlying157 rfl (by kernel_rfl)) rfl ?_
  exact ⟨_, rfl, App.after (App.pre hB q3) (by omega) hg9 (own_row_ne rr3 q3.own (by decide))⟩
set_option maxRecDepth 10000 in
set_option maxHeartbeats 4000000 in
theorem refField_3 (w0 w : World) (sv : Value) (bad : Bool) (L : List Int) (m : PMsg) (s : SV) (hB0 : Below w0.heap.size w0 w) (hf : Fr w0.heap.size sv) (hown : Own w 5 sv (bc L)) (hs : SOk Any w0 m s) (hl : L.length + bM m * 20 ≤ 140718000000000) (hz : bM m ≤ 1100000) :
    Calls Tryz.prog 132 #[.agg #[sv, .bool bad], .agg (mc m s).toArray, .int .i64 3] w (OPost (cF 3) (get m 3) w sv bad L) := by
  obtain ⟨a2, w2, ra, rb, rr, hB, hw2, hw3⟩ := fld_boxes w sv bad m s
  have hBw0 := below_and hB0 (Nat.le_refl _) hB
  have hoL := hown.below hB
  have hne0 := own_row_ne ra hoL (by decide)
  have hne1 := own_row_ne rb hoL (by decide)
  have hne2 := own_row_ne rr hoL (by decide)
  simp only [bM] at hl hz
  have hN := refNum_any w2 sv bad L m.to hoL (by omega)
  have c1 := rb.cell (j := 5) rfl
  go_enter Tryz.func132, Tryz.ntmps132
  go_upto_region 1 with fail
  rw [← hw2, ← hw3]
  clear hw2 hw3
  go_wp2_with (first
    | (refine wl_load rfl _ _ rfl w.heap.size rfl _ _ ra _ Tryz.underlying157 rfl (by kernel_rfl) ?_)
    | (go_at_call 131; refine hN.mono ?_; rintro e w3 ⟨v3, rfl, q3⟩; obtain ⟨ao3, n3, c3, rfl⟩ := own_slice q3.own; have rr3 := rr.grown q3.grown hne2)
    | (refine wl_store rfl _ _ _ rfl (w.heap.size + 2) [.slice ao3 n3 c3, .bool (bad || !cN.ok m.to)] rfl rfl _ _ rr3 rfl (by kernel_rfl) one2b ?_; intro w9 hr9 hg9))
  have hr9 := hr9.out
  refine bodyPost_ret (v := .agg ([.slice ao3 n3 c3, .bool (bad || !cN.ok m.to)] : List Value).toArray) (results_cell_row rfl _ _ (w.heap.size + 2) _ _ (0, 0) _ (by rfl) hr9 Tryz.underlying157 rfl (by kernel_rfl)) rfl ?_
  exact ⟨_, rfl, App.after (App.pre hB q3) (by omega) hg9 (own_row_ne rr3 q3.own (by decide))⟩
set_option maxRecDepth 10000 in
set_option maxHeartbeats 4000000 in
theorem refField_4 (w0 w : World) (sv : Value) (bad : Bool) (L : List Int) (m : PMsg) (s : SV) (hB0 : Below w0.heap.size w0 w) (hf : Fr w0.heap.size sv) (hown : Own w 5 sv (bc L)) (hs : SOk Any w0 m s) (hl : L.length + bM m * 20 ≤ 140718000000000) (hz : bM m ≤ 1100000) :
    Calls Tryz.prog 132 #[.agg #[sv, .bool bad], .agg (mc m s).toArray, .int .i64 4] w (OPost (cF 4) (get m 4) w sv bad L) := by
  obtain ⟨a2, w2, ra, rb, rr, hB, hw2, hw3⟩ := fld_boxes w sv bad m s
  have hBw0 := below_and hB0 (Nat.le_refl _) hB
  have hoL := hown.below hB
  have hne0 := own_row_ne ra hoL (by decide)
  have hne1 := own_row_ne rb hoL (by decide)
  have hne2 := own_row_ne rr hoL (by decide)
  simp only [bM] at hl hz
  have hN := refNum_any w2 sv bad L m.idx hoL (by omega)
  have c1 := rb.cell (j := 6) rfl
  go_enter Tryz.func132, Tryz.ntmps132
  go_upto_region 1 with fail
  rw [← hw2, ← hw3]
  clear hw2 hw3
  go_wp2_with (first
    | (refine wl_load rfl _ _ rfl w.heap.size rfl _ _ ra _ Tryz.underlying157 rfl (by kernel_rfl) ?_)
    | (go_at_call 131; refine hN.mono ?_; rintro e w3 ⟨v3, rfl, q3⟩; obtain ⟨ao3, n3, c3, rfl⟩ := own_slice q3.own; have rr3 := rr.grown q3.grown hne2)
    | (refine wl_store rfl _ _ _ rfl (w.heap.size + 2) [.slice ao3 n3 c3, .bool (bad || !cN.ok m.idx)] rfl rfl _ _ rr3 rfl (by kernel_rfl) one2b ?_; intro w9 hr9 hg9))
  have hr9 := hr9.out
  refine bodyPost_ret (v := .agg ([.slice ao3 n3 c3, .bool (bad || !cN.ok m.idx)] : List Value).toArray) (results_cell_row rfl _ _ (w.heap.size + 2) _ _ (0, 0) _ (by rfl) hr9 Tryz.underlying157 rfl (by kernel_rfl)) rfl ?_
  exact ⟨_, rfl, App.after (App.pre hB q3) (by omega) hg9 (own_row_ne rr3 q3.own (by decide))⟩
set_option maxRecDepth 10000 in
set_option maxHeartbeats 4000000 in
theorem refField_5 (w0 w : World) (sv : Value) (bad : Bool) (L : List Int) (m : PMsg) (s : SV) (hB0 : Below w0.heap.size w0 w) (hf : Fr w0.heap.size sv) (hown : Own w 5 sv (bc L)) (hs : SOk Any w0 m s) (hl : L.length + bM m * 20 ≤ 140718000000000) (hz : bM m ≤ 1100000) :
    Calls Tryz.prog 132 #[.agg #[sv, .bool bad], .agg (mc m s).toArray, .int .i64 5] w (OPost (cF 5) (get m 5) w sv bad L) := by
  obtain ⟨a2, w2, ra, rb, rr, hB, hw2, hw3⟩ := fld_boxes w sv bad m s
  have hBw0 := below_and hB0 (Nat.le_refl _) hB
  have hoL := hown.below hB
  have hne0 := own_row_ne ra hoL (by decide)
  have hne1 := own_row_ne rb hoL (by decide)
  have hne2 := own_row_ne rr hoL (by decide)
  simp only [bM] at hl hz
  have hN := refNum_any w2 sv bad L m.cnt hoL (by omega)
  have c1 := rb.cell (j := 7) rfl
  go_enter Tryz.func132, Tryz.ntmps132
  go_upto_region 1 with fail
  rw [← hw2, ← hw3]
  clear hw2 hw3
  go_wp2_with (first
    | (refine wl_load rfl _ _ rfl w.heap.size rfl _ _ ra _ Tryz.underlying157 rfl (by kernel_rfl) ?_)
    | (go_at_call 131; refine hN.mono ?_; rintro e w3 ⟨v3, rfl, q3⟩; obtain ⟨ao3, n3, c3, rfl⟩ := own_slice q3.own; have rr3 := rr.grown q3.grown hne2)
    | (refine wl_store rfl _ _ _ rfl (w.heap.size + 2) [.slice ao3 n3 c3, .bool (bad || !cN.ok m.cnt)] rfl rfl _ _ rr3 rfl (by kernel_rfl) one2b ?_; intro w9 hr9 hg9))
  have hr9 := hr9.out
  refine bodyPost_ret (v := .agg ([.slice ao3 n3 c3, .bool (bad || !cN.ok m.cnt)] : List Value).toArray) (results_cell_row rfl _ _ (w.heap.size + 2) _ _ (0, 0) _ (by rfl) hr9 Tryz.underlying157 rfl (by kernel_rfl)) rfl ?_
  exact ⟨_, rfl, App.after (App.pre hB q3) (by omega) hg9 (own_row_ne rr3 q3.own (by decide))⟩
set_option maxRecDepth 10000 in
set_option maxHeartbeats 4000000 in
theorem refField_6 (w0 w : World) (sv : Value) (bad : Bool) (L : List Int) (m : PMsg) (s : SV) (hB0 : Below w0.heap.size w0 w) (hf : Fr w0.heap.size sv) (hown : Own w 5 sv (bc L)) (hs : SOk Any w0 m s) (hl : L.length + bM m * 20 ≤ 140718000000000) (hz : bM m ≤ 1100000) :
    Calls Tryz.prog 132 #[.agg #[sv, .bool bad], .agg (mc m s).toArray, .int .i64 6] w (OPost (cF 6) (get m 6) w sv bad L) := by
  obtain ⟨a2, w2, ra, rb, rr, hB, hw2, hw3⟩ := fld_boxes w sv bad m s
  have hBw0 := below_and hB0 (Nat.le_refl _) hB
  have hoL := hown.below hB
  have hne0 := own_row_ne ra hoL (by decide)
  have hne1 := own_row_ne rb hoL (by decide)
  have hne2 := own_row_ne rr hoL (by decide)
  simp only [bM] at hl hz
  have y1 : m.req.2.2.1.length ≤ 2147483647 := by simp only [bQ, bT] at hz; omega
  have y2 : m.req.2.2.2.length ≤ 2147483647 := by simp only [bQ, bT] at hz; omega
  have hN := refReq_any w0 w2 sv bad L [.int .i64 m.req.1, .int .i64 m.req.2.1, s.o, s.g] m.req hBw0 hf hoL ⟨_, _, rfl, hs.o, hs.g⟩ (by omega) y1 y2
  have hrng : w2.rangeAt (w.heap.size + 1) 8 [.int .i64 m.req.1, .int .i64 m.req.2.1, s.o, s.g] := fun j v hj => by
    match j, hj with
    | 0, hj => cases hj; exact rb.cell (j := 8) rfl
    | 1, hj => cases hj; exact rb.cell (j := 9) rfl
    | 2, hj => cases hj; exact rb.cell (j := 10) rfl
    | 3, hj => cases hj; exact rb.cell (j := 11) rfl
    | j + 4, hj => simp at hj
  go_enter Tryz.func132, Tryz.ntmps132
  go_upto_region 1 with fail
  rw [← hw2, ← hw3]
  clear hw2 hw3
  go_wp2_with (first
    | (refine wl_load rfl _ _ rfl w.heap.size rfl _ _ ra _ Tryz.underlying157 rfl (by kernel_rfl) ?_)
    | (refine wpList_load_mid rfl _ _ rfl (w.heap.size + 1) 8 rfl [.int .i64 m.req.1, .int .i64 m.req.2.1, s.o, s.g] _ hrng Tryz.underlying62 rfl (by kernel_rfl) ?_)
    | (go_at_call 163; refine hN.mono ?_; rintro e w3 ⟨v3, rfl, q3⟩; obtain ⟨ao3, n3, c3, rfl⟩ := own_slice q3.own; have rr3 := rr.grown q3.grown hne2)
    | (refine wl_store rfl _ _ _ rfl (w.heap.size + 2) [.slice ao3 n3 c3, .bool (bad || !cReq.ok m.req)] rfl rfl _ _ rr3 rfl (by kernel_rfl) one2b ?_; intro w9 hr9 hg9))
  have hr9 := hr9.out
  refine bodyPost_ret (v := .agg ([.slice ao3 n3 c3, .bool (bad || !cReq.ok m.req)] : List Value).toArray) (results_cell_row rfl _ _ (w.heap.size + 2) _ _ (0, 0) _ (by rfl) hr9 Tryz.underlying157 rfl (by kernel_rfl)) rfl ?_
  exact ⟨_, rfl, App.after (App.pre hB q3) (by omega) hg9 (own_row_ne rr3 q3.own (by decide))⟩
set_option maxRecDepth 10000 in
set_option maxHeartbeats 4000000 in
theorem refField_7 (w0 w : World) (sv : Value) (bad : Bool) (L : List Int) (m : PMsg) (s : SV) (hB0 : Below w0.heap.size w0 w) (hf : Fr w0.heap.size sv) (hown : Own w 5 sv (bc L)) (hs : SOk Any w0 m s) (hl : L.length + bM m * 20 ≤ 140718000000000) (hz : bM m ≤ 1100000) :
    Calls Tryz.prog 132 #[.agg #[sv, .bool bad], .agg (mc m s).toArray, .int .i64 7] w (OPost (cF 7) (get m 7) w sv bad L) := by
  obtain ⟨a2, w2, ra, rb, rr, hB, hw2, hw3⟩ := fld_boxes w sv bad m s
  have hBw0 := below_and hB0 (Nat.le_refl _) hB
  have hoL := hown.below hB
  have hne0 := own_row_ne ra hoL (by decide)
  have hne1 := own_row_ne rb hoL (by decide)
  have hne2 := own_row_ne rr hoL (by decide)
  simp only [bM] at hl hz
  have y1 : m.oth.2.2.1.length ≤ 2147483647 := by simp only [bQ, bT] at hz; omega
  have y2 : m.oth.2.2.2.length ≤ 2147483647 := by simp only [bQ, bT] at hz; omega
  have hN := refReq_any w0 w2 sv bad L [.int .i64 m.oth.1, .int .i64 m.oth.2.1, s.o', s.g'] m.oth hBw0 hf hoL ⟨_, _, rfl, hs.o', hs.g'⟩ (by omega) y1 y2
  have hrng : w2.rangeAt (w.heap.size + 1) 12 [.int .i64 m.oth.1, .int .i64 m.oth.2.1, s.o', s.g'] := fun j v hj => by
    match j, hj with
    | 0, hj => cases hj; exact rb.cell (j := 12) rfl
    | 1, hj => cases hj; exact rb.cell (j := 13) rfl
    | 2, hj => cases hj; exact rb.cell (j := 14) rfl
    | 3, hj => cases hj; exact rb.cell (j := 15) rfl
    | j + 4, hj => simp at hj
  go_enter Tryz.func132, Tryz.ntmps132
  go_upto_region 1 with fail
  rw [← hw2, ← hw3]
  clear hw2 hw3
  go_wp2_with (first
    | (refine wl_load rfl _ _ rfl w.heap.size rfl _ _ ra _ Tryz.underlying157 rfl (by kernel_rfl) ?_)
    | (refine wpList_load_mid rfl _ _ rfl (w.heap.size + 1) 12 rfl [.int .i64 m.oth.1, .int .i64 m.oth.2.1, s.o', s.g'] _ hrng Tryz.underlying62 rfl (by kernel_rfl) ?_)
    | (go_at_call 163; refine hN.mono ?_; rintro e w3 ⟨v3, rfl, q3⟩; obtain ⟨ao3, n3, c3, rfl⟩ := own_slice q3.own; have rr3 := rr.grown q3.grown hne2)
    | (refine wl_store rfl _ _ _ rfl (w.heap.size + 2) [.slice ao3 n3 c3, .bool (bad || !cReq.ok m.oth)] rfl rfl _ _ rr3 rfl (by kernel_rfl) one2b ?_; intro w9 hr9 hg9))
  have hr9 := hr9.out
  refine bodyPost_ret (v := .agg ([.slice ao3 n3 c3, .bool (bad || !cReq.ok m.oth)] : List Value).toArray) (results_cell_row rfl _ _ (w.heap.size + 2) _ _ (0, 0) _ (by rfl) hr9 Tryz.underlying157 rfl (by kernel_rfl)) rfl ?_
  exact ⟨_, rfl, App.after (App.pre hB q3) (by omega) hg9 (own_row_ne rr3 q3.own (by decide))⟩
set_option maxRecDepth 10000 in
set_option maxHeartbeats 4000000 in
theorem refField_8 (w0 w : World) (sv : Value) (bad : Bool) (L : List Int) (m : PMsg) (s : SV) (hB0 : Below w0.heap.size w0 w) (hf : Fr w0.heap.size sv) (hown : Own w 5 sv (bc L)) (hs : SOk Any w0 m s) (hl : L.length + bM m * 20 ≤ 140718000000000) (hz : bM m ≤ 1100000) :
    Calls Tryz.prog 132 #[.agg #[sv, .bool bad], .agg (mc m s).toArray, .int .i64 8] w (OPost (cF 8) (get m 8) w sv bad L) := by
  obtain ⟨a2, w2, ra, rb, rr, hB, hw2, hw3⟩ := fld_boxes w sv bad m s
  have hBw0 := below_and hB0 (Nat.le_refl _) hB
  have hoL := hown.below hB
  have hne0 := own_row_ne ra hoL (by decide)
  have hne1 := own_row_ne rb hoL (by decide)
  have hne2 := own_row_ne rr hoL (by decide)
  simp only [bM] at hl hz
  have y1 : m.data.length ≤ 2147483647 := by simp only [bT] at hz; omega
  have hN := refText_any w2 sv bad L s.d m.data hoL (hs.d.mv (Mv.below hBw0)).1 (by omega) y1
  have c1 := rb.cell (j := 16) rfl
  go_enter Tryz.func132, Tryz.ntmps132
  go_upto_region 1 with fail
  rw [← hw2, ← hw3]
  clear hw2 hw3
  go_wp2_with (first
    | (refine wl_load rfl _ _ rfl w.heap.size rfl _ _ ra _ Tryz.underlying157 rfl (by kernel_rfl) ?_)
    | (go_at_call 164; refine hN.mono ?_; rintro e w3 ⟨v3, rfl, q3⟩; obtain ⟨ao3, n3, c3, rfl⟩ := own_slice q3.own; have rr3 := rr.grown q3.grown hne2)
    | (refine wl_store rfl _ _ _ rfl (w.heap.size + 2) [.slice ao3 n3 c3, .bool (bad || !cT.ok m.data)] rfl rfl _ _ rr3 rfl (by kernel_rfl) one2b ?_; intro w9 hr9 hg9))
  have hr9 := hr9.out
  refine bodyPost_ret (v := .agg ([.slice ao3 n3 c3, .bool (bad || !cT.ok m.data)] : List Value).toArray) (results_cell_row rfl _ _ (w.heap.size + 2) _ _ (0, 0) _ (by rfl) hr9 Tryz.underlying157 rfl (by kernel_rfl)) rfl ?_
  exact ⟨_, rfl, App.after (App.pre hB q3) (by omega) hg9 (own_row_ne rr3 q3.own (by decide))⟩
set_option maxRecDepth 10000 in
set_option maxHeartbeats 4000000 in
theorem refField_9 (w0 w : World) (sv : Value) (bad : Bool) (L : List Int) (m : PMsg) (s : SV) (hB0 : Below w0.heap.size w0 w) (hf : Fr w0.heap.size sv) (hown : Own w 5 sv (bc L)) (hs : SOk Any w0 m s) (hl : L.length + bM m * 20 ≤ 140718000000000) (hz : bM m ≤ 1100000) :
    Calls Tryz.prog 132 #[.agg #[sv, .bool bad], .agg (mc m s).toArray, .int .i64 9] w (OPost (cF 9) (get m 9) w sv bad L) := by
  obtain ⟨a2, w2, ra, rb, rr, hB, hw2, hw3⟩ := fld_boxes w sv bad m s
  have hBw0 := below_and hB0 (Nat.le_refl _) hB
  have hoL := hown.below hB
  have hne0 := own_row_ne ra hoL (by decide)
  have hne1 := own_row_ne rb hoL (by decide)
  have hne2 := own_row_ne rr hoL (by decide)
  simp only [bM] at hl hz
  have y1 : m.sig.length ≤ 2147483647 := by simp only [bT] at hz; omega
  have hN := refText_any w2 sv bad L s.s m.sig hoL (hs.s.mv (Mv.below hBw0)).1 (by omega) y1
  have c1 := rb.cell (j := 17) rfl
  go_enter Tryz.func132, Tryz.ntmps132
  go_upto_region 1 with fail
  rw [← hw2, ← hw3]
  clear hw2 hw3
  go_wp2_with (first
    | (refine wl_load rfl _ _ rfl w.heap.size rfl _ _ ra _ Tryz.underlying157 rfl (by kernel_rfl) ?_)
    | (go_at_call 164; refine hN.mono ?_; rintro e w3 ⟨v3, rfl, q3⟩; obtain ⟨ao3, n3, c3, rfl⟩ := own_slice q3.own; have rr3 := rr.grown q3.grown hne2)
    | (refine wl_store rfl _ _ _ rfl (w.heap.size + 2) [.slice ao3 n3 c3, .bool (bad || !cT.ok m.sig)] rfl rfl _ _ rr3 rfl (by kernel_rfl) one2b ?_; intro w9 hr9 hg9))
  have hr9 := hr9.out
  refine bodyPost_ret (v := .agg ([.slice ao3 n3 c3, .bool (bad || !cT.ok m.sig)] : List Value).toArray) (results_cell_row rfl _ _ (w.heap.size + 2) _ _ (0, 0) _ (by rfl) hr9 Tryz.underlying157 rfl (by kernel_rfl)) rfl ?_
  exact ⟨_, rfl, App.after (App.pre hB q3) (by omega) hg9 (own_row_ne rr3 q3.own (by decide))⟩
set_option maxRecDepth 10000 in
set_option maxHeartbeats 4000000 in
theorem refField_10 (w0 w : World) (sv : Value) (bad : Bool) (L : List Int) (m : PMsg) (s : SV) (hB0 : Below w0.heap.size w0 w) (hf : Fr w0.heap.size sv) (hown : Own w 5 sv (bc L)) (hs : SOk Any w0 m s) (hl : L.length + bM m * 20 ≤ 140718000000000) (hz : bM m ≤ 1100000) :
    Calls Tryz.prog 132 #[.agg #[sv, .bool bad], .agg (mc m s).toArray, .int .i64 10] w (OPost (cF 10) (get m 10) w sv bad L) := by
  obtain ⟨a2, w2, ra, rb, rr, hB, hw2, hw3⟩ := fld_boxes w sv bad m s
  have hBw0 := below_and hB0 (Nat.le_refl _) hB
  have hoL := hown.below hB
  have hne0 := own_row_ne ra hoL (by decide)
  have hne1 := own_row_ne rb hoL (by decide)
  have hne2 := own_row_ne rr hoL (by decide)
  simp only [bM] at hl hz
  have hN := refVotes_any w0 w2 sv bad L s.c m.cert hBw0 hf hoL hs.c (by omega) (by omega)
  have c1 := rb.cell (j := 18) rfl
  go_enter Tryz.func132, Tryz.ntmps132
  go_upto_region 1 with fail
  rw [← hw2, ← hw3]
  clear hw2 hw3
  go_wp2_with (first
    | (refine wl_load rfl _ _ rfl w.heap.size rfl _ _ ra _ Tryz.underlying157 rfl (by kernel_rfl) ?_)
    | (go_at_call 165; refine hN.mono ?_; rintro e w3 ⟨v3, rfl, q3⟩; obtain ⟨ao3, n3, c3, rfl⟩ := own_slice q3.own; have rr3 := rr.grown q3.grown hne2)
    | (refine wl_store rfl _ _ _ rfl (w.heap.size + 2) [.slice ao3 n3 c3, .bool (bad || !(cL cVote).ok m.cert)] rfl rfl _ _ rr3 rfl (by kernel_rfl) one2b ?_; intro w9 hr9 hg9))
  have hr9 := hr9.out
  refine bodyPost_ret (v := .agg ([.slice ao3 n3 c3, .bool (bad || !(cL cVote).ok m.cert)] : List Value).toArray) (results_cell_row rfl _ _ (w.heap.size + 2) _ _ (0, 0) _ (by rfl) hr9 Tryz.underlying157 rfl (by kernel_rfl)) rfl ?_
  exact ⟨_, rfl, App.after (App.pre hB q3) (by omega) hg9 (own_row_ne rr3 q3.own (by decide))⟩
set_option maxRecDepth 10000 in
set_option maxHeartbeats 4000000 in
theorem refField_11 (w0 w : World) (sv : Value) (bad : Bool) (L : List Int) (m : PMsg) (s : SV) (hB0 : Below w0.heap.size w0 w) (hf : Fr w0.heap.size sv) (hown : Own w 5 sv (bc L)) (hs : SOk Any w0 m s) (hl : L.length + bM m * 20 ≤ 140718000000000) (hz : bM m ≤ 1100000) :
    Calls Tryz.prog 132 #[.agg #[sv, .bool bad], .agg (mc m s).toArray, .int .i64 11] w (OPost (cF 11) (get m 11) w sv bad L) := by
  obtain ⟨a2, w2, ra, rb, rr, hB, hw2, hw3⟩ := fld_boxes w sv bad m s
  have hBw0 := below_and hB0 (Nat.le_refl _) hB
  have hoL := hown.below hB
  have hne0 := own_row_ne ra hoL (by decide)
  have hne1 := own_row_ne rb hoL (by decide)
  have hne2 := own_row_ne rr hoL (by decide)
  simp only [bM] at hl hz
  have hN := refVotes_any w0 w2 sv bad L s.v m.votes hBw0 hf hoL hs.v (by omega) (by omega)
  have c1 := rb.cell (j := 19) rfl
  go_enter Tryz.func132, Tryz.ntmps132
  go_upto_region 1 with fail
  rw [← hw2, ← hw3]
  clear hw2 hw3
  go_wp2_with (first
    | (refine wl_load rfl _ _ rfl w.heap.size rfl _ _ ra _ Tryz.underlying157 rfl (by kernel_rfl) ?_)
    | (go_at_call 165; refine hN.mono ?_; rintro e w3 ⟨v3, rfl, q3⟩; obtain ⟨ao3, n3, c3, rfl⟩ := own_slice q3.own; have rr3 := rr.grown q3.grown hne2)
    | (refine wl_store rfl _ _ _ rfl (w.heap.size + 2) [.slice ao3 n3 c3, .bool (bad || !(cL cVote).ok m.votes)] rfl rfl _ _ rr3 rfl (by kernel_rfl) one2b ?_; intro w9 hr9 hg9))
  have hr9 := hr9.out
  refine bodyPost_ret (v := .agg ([.slice ao3 n3 c3, .bool (bad || !(cL cVote).ok m.votes)] : List Value).toArray) (results_cell_row rfl _ _ (w.heap.size + 2) _ _ (0, 0) _ (by rfl) hr9 Tryz.underlying157 rfl (by kernel_rfl)) rfl ?_
  exact ⟨_, rfl, App.after (App.pre hB q3) (by omega) hg9 (own_row_ne rr3 q3.own (by decide))⟩
end
section
open Go.RowKit Oct
theorem cRep_len (y : PRep) : (cRep.wr y).length ≤ 20 * bR y := by
  show ((outI y.1.1 ++ outI y.1.2) ++ (outI y.2.1 ++ (outI y.2.2.1 ++ (cT.wr y.2.2.2.1 ++ ((cL cVote).wr y.2.2.2.2.1 ++ ((cL cPrep).wr y.2.2.2.2.2.1 ++ cT.wr y.2.2.2.2.2.2)))))).length ≤ _
  have h1 := outI_len y.1.1
  have h2 := outI_len y.1.2
  have h3 := outI_len y.2.1
  have h4 := outI_len y.2.2.1
  have h5 := cT_b y.2.2.2.1
  have h6 := cT_b y.2.2.2.2.2.2
  have h7 := cL_len cVote cVote_len y.2.2.2.2.1
  have h8 := cL_len cPrep cPrep_len y.2.2.2.2.2.1
  simp only [List.length_append, bR]
  omega
set_option maxRecDepth 10000 in
set_option maxHeartbeats 4000000 in
theorem refField_0 (w0 w : World) (sv : Value) (bad : Bool) (L : List Int) (m : PMsg) (s : SV) (hB0 : Below w0.heap.size w0 w) (hf : Fr w0.heap.size sv) (hown : Own w 5 sv (bc L)) (hs : SOk Any w0 m s) (hl : L.length + bM m * 20 ≤ 140718000000000) (hz : bM m ≤ 1100000) :
    Calls Tryz.prog 132 #[.agg #[sv, .bool bad], .agg (mc m s).toArray, .int .i64 0] w (OPost (cF 0) (get m 0) w sv bad L) := by
  obtain ⟨a2, w2, ra, rb, rr, hB, hw2, hw3⟩ := fld_boxes w sv bad m s
  have hBw0 := below_and hB0 (Nat.le_refl _) hB
  have hoL := hown.below hB
  have hne0 := own_row_ne ra hoL (by decide)
  have hne1 := own_row_ne rb hoL (by decide)
  have hne2 := own_row_ne rr hoL (by decide)
  simp only [bM] at hl hz
  have HK := (show Hid (∀ u, w2.grownBy u sv.ownBlock → (u.cell? ⟨w.heap.size, 0, none⟩ = some sv ∧ u.cell? ⟨w.heap.size, 1, none⟩ = some (.bool bad)) ∧ u.cell? ⟨w.heap.size + 1, 1, none⟩ = some (.int .i64 m.bal.1) ∧ u.cell? ⟨w.heap.size + 1, 2, none⟩ = some (.int .i64 m.bal.2)) from fun u hu => ⟨⟨(ra.grown hu hne0).cell (j := 0) rfl, (ra.grown hu hne0).cell (j := 1) rfl⟩, (rb.grown hu hne1).cell (j := 1) rfl, (rb.grown hu hne1).cell (j := 2) rfl⟩)
  have hdw : Below w2.heap.size w2 w2.drew := ⟨rfl, rfl, rfl, Nat.le_refl _, fun _ _ => rfl⟩
  have gd : w2.grownBy w2.drew sv.ownBlock := grown_of_below hdw _
  have HN1 := (show Hid (∀ _ : Unit, _) from fun _ => refNum_any w2.drew sv bad L m.bal.1 hoL.drew (by omega))
  have HL2 := (show Hid ((L ++ cN.wr m.bal.1).length ≤ 140737488355300) by show _ ≤ _; rw [List.length_append]; have := cN_len m.bal.1; omega)
  go_enter Tryz.func132, Tryz.ntmps132
  go_upto_region 1 with fail
  rw [← hw2, ← hw3]
  clear hw2 hw3
  go_wp2_with fail
  go_region_held3 (fun u => (u.cell? ⟨w.heap.size, 0, none⟩ = some sv ∧ u.cell? ⟨w.heap.size, 1, none⟩ = some (.bool bad)) ∧ u.cell? ⟨w.heap.size + 1, 1, none⟩ = some (.int .i64 m.bal.1) ∧ u.cell? ⟨w.heap.size + 1, 2, none⟩ = some (.int .i64 m.bal.2))
    (first | exact HK.out _ (by assumption) | exact ⟨⟨set2_keepN (HK.out w4 gg4).1.1 (by show ¬ (w.heap.size = w.heap.size + 1 + 1); omega), set2_keepN (HK.out w4 gg4).1.2 (by show ¬ (w.heap.size = w.heap.size + 1 + 1); omega)⟩, set2_keepN (HK.out w4 gg4).2.1 (by show ¬ (w.heap.size + 1 = w.heap.size + 1 + 1); omega), set2_keepN (HK.out w4 gg4).2.2 (by show ¬ (w.heap.size + 1 = w.heap.size + 1 + 1); omega)⟩ | go_keep)
    (first
      | (go_at_call 131; refine (refNum_any w3 _ _ _ _ a3.own HL2.out).mono ?_; rintro e w4 ⟨v4, rfl, q4⟩; have a4 := a3.trans q4; have gg4 := a4.grown'; obtain ⟨ao4, n4, c4, rfl⟩ := own_slice a4.own; have rr4 := rr.grown gg4 hne2; have d0 := rr4.cell (j := 0) rfl; have d1 := rr4.cell (j := 1) rfl; have z0 := rr4.frozen 0; have z1 := rr4.frozen 1)
      | (go_at_call 131; refine (HN1.out ()).mono ?_; rintro e w3 ⟨v3, rfl, q3⟩; have a3 := App.pre hdw q3; have gg3 := a3.grown'))
  have hap := App.pre hB a4
  have ho := App.box hap (by omega) rr4 (.slice ao4 n4 c4) (.bool ((bad || !cN.ok m.bal.1) || !cN.ok m.bal.2))
  have hr := (rr4.set 0 (.slice ao4 n4 c4)).set 1 (.bool ((bad || !cN.ok m.bal.1) || !cN.ok m.bal.2))
  go_wp2_with fail
  refine bodyPost_ret (v := .agg ([.slice ao4 n4 c4, .bool ((bad || !cN.ok m.bal.1) || !cN.ok m.bal.2)] : List Value).toArray) (results_cell_row rfl _ _ (w.heap.size + 2) _ _ (0, 0) _ (by rfl) hr Tryz.underlying157 rfl (by kernel_rfl)) rfl ?_
  refine OPost.end ho ?_ ?_
  · show _ = L ++ (cN.wr m.bal.1 ++ cN.wr m.bal.2)
    rw [List.append_assoc]
  · show _ = (bad || !(cN.ok m.bal.1 && cN.ok m.bal.2))
    simp [Bool.or_assoc]
set_option maxRecDepth 10000 in
set_option maxHeartbeats 4000000 in
theorem refField_12 (w0 w : World) (sv : Value) (bad : Bool) (L : List Int) (m : PMsg) (s : SV) (hB0 : Below w0.heap.size w0 w) (hf : Fr w0.heap.size sv) (hown : Own w 5 sv (bc L)) (hs : SOk Any w0 m s) (hl : L.length + bM m * 20 ≤ 140718000000000) (hz : bM m ≤ 1100000) :
    Calls Tryz.prog 132 #[.agg #[sv, .bool bad], .agg (mc m s).toArray, .int .i64 12] w (OPost (cF 12) (get m 12) w sv bad L) := by
  obtain ⟨a2, w2, ra, rb, rr, hB, hw2, hw3⟩ := fld_boxes w sv bad m s
  have hBw0 := below_and hB0 (Nat.le_refl _) hB
  have hoL := hown.below hB
  have hne0 := own_row_ne ra hoL (by decide)
  have hne1 := own_row_ne rb hoL (by decide)
  have hne2 := own_row_ne rr hoL (by decide)
  simp only [bM] at hl hz
  obtain ⟨al, cl, hfe, hcl⟩ := hs.n.form
  have c1 := rb.cell (j := 20) rfl
  rw [hfe] at c1
  have HX := (show Hid (0 < m.order.length → ∃ b off, al = some ⟨b, off, none⟩ ∧ b < w0.heap.size ∧ ∀ (i : Nat) (a : Int), m.order[i]? = some a → ∃ r, r.length = 1 ∧ w0.rangeAt b (off + i * 1) r ∧ RInt Any w0 r a) from fun h0 => by
    obtain ⟨b, off, c', e, _, _, _, hbb, hx⟩ := hs.n.at h0
    rw [hfe] at e
    injection e with e1 e2 e3
    exact ⟨b, off, e1, hbb, hx⟩)
  have hM := refMany_any w2 sv bad L (m.order.length : Int) hoL (by omega)
  have hlen := len_bS (f := (fun _ : Int => 1)) (fun y => by omega) m.order
  have hlz : m.order.length ≤ 2000000 := by simp only [bL] at hz; omega
  have HLE := (show Hid (∀ (q : Nat) (a : Int), m.order[q]? = some a → (Lq cN L m.order q).length + 20 * (fun _ : Int => 1) a ≤ 140718900000000 ∧ (fun _ : Int => 1) a ≤ 1100000) from fun q a ha => by have h1 := Lq_len cN (f := (fun _ : Int => 1)) (fun n => Nat.le_trans (cN_len n) (by decide)) L m.order q; have h2 := bS_mem (f := (fun _ : Int => 1)) (List.mem_of_getElem? ha); simp only [bL] at *; omega)
  have HBA := (show Hid (Bq cN bad m.order m.order.length = (bad || !(cL cN).ok m.order)) from Bq_all _ _ _ (by omega))
  clear hlen
  go_enter Tryz.func132, Tryz.ntmps132
  go_upto_region 1 with fail
  rw [← hw2, ← hw3]
  clear hw2 hw3
  go_upto_region 28 with (first
    | (refine wl_load rfl _ _ rfl w.heap.size rfl _ _ ra _ Tryz.underlying157 rfl (by kernel_rfl) ?_)
    | (go_at_call 166; refine hM.mono ?_; rintro e w3 ⟨v3, rfl, q3⟩; obtain ⟨ao3, n3, c3, rfl⟩ := own_slice q3.own; have ra3 := ra.grown q3.grown hne0)
    | (refine wl_store rfl _ _ _ rfl w.heap.size [.slice ao3 n3 c3, .bool (bad || !cMn.ok (m.order.length : Int))] rfl rfl _ _ ra3 rfl (by kernel_rfl) one2b ?_; intro w4 hr4 hg4))
  have hr4 := hr4.out
  have rb4 := (rb.grown q3.grown hne1).grown hg4 (fun e => by injection e with e; omega)
  have rr4 := (rr.grown q3.grown hne2).grown hg4 (fun e => by injection e with e; omega)
  have ha4 := App.after (App.pre hB q3) (Nat.le_refl _) hg4 (own_row_ne ra3 q3.own (by decide))
  rw [Lq_zero cN] at ha4
  rw [Bq_zero cN] at hr4
  have c2 := rb4.cell (j := 20) rfl
  rw [hfe] at c2
  clear hg4 q3 ra3 hM c1 ra rb rr hne0 hne1 hne2 hoL hcl hl hz hown hfe hs
  go_wp2_with fail
  go_loopw [101] (fun i wr => ∃ (q : Nat) (ak : Option Addr) (nk ck : Nat), q ≤ m.order.length ∧ i = .int .i64 q ∧ Row wr w.heap.size 157 [.slice ak nk ck, .bool (Bq cN bad m.order q)] ∧ Row wr (w.heap.size + 2) 157 [.slice none 0 0, .bool false] ∧ App w 5 sv wr (.slice ak nk ck) (bc (Lq cN L m.order q))) (fun i _ => m.order.length - (intOf i).toNat)
  case atStart => exact ⟨0, ao3, n3, c3, by omega, rfl, hr4, rr4, ha4⟩
  case round =>
    clear hr4 rr4 ha4 c2 rb4
    obtain ⟨q, ak, nk, ck, hq, rfl, ra, rr, ap⟩ := hrel
    by_cases hql : q < m.order.length
    · obtain ⟨bb, off, rfl, hbb, hx⟩ := HX.out (by omega)
      obtain ⟨a, ha⟩ : ∃ a, m.order[q]? = some a := ⟨_, List.getElem?_eq_getElem hql⟩
      obtain ⟨hle, hbz⟩ := HLE.out q a ha
      have HSL := (show Hid (Lq cN L m.order q ++ cN.wr a = Lq cN L m.order (q + 1)) from Lq_succ _ _ _ ha)
      have HSB := (show Hid ((Bq cN bad m.order q || !cN.ok a) = Bq cN bad m.order (q + 1)) from Bq_succ _ _ _ ha)
      have hBr := hB0.trans (ap.below hf hB0.size)
      have hlt := rr.lt
      obtain ⟨r, _, hrng, rfl⟩ := hx q a ha
      have d0 : wr.cell? ⟨bb, off + q, none⟩ = some (.int .i64 a) := by have := rangeAt_block hrng (hBr.block bb hbb) 0 _ rfl; simpa using this
      have hN := refNum_any wr (.slice ak nk ck) (Bq cN bad m.order q) (Lq cN L m.order q) a ap.own (by omega)
      have hn0 := own_row_ne ra ap.own (by decide)
      have hn2 := own_row_ne rr ap.own (by decide)
      have rrx := rr
      have apx := ap
      clear ha hx hrng
      go_wp2_with (first
        | (refine wl_load rfl _ _ rfl w.heap.size rfl _ _ ra _ Tryz.underlying157 rfl (by kernel_rfl) ?_)
        | (go_at_call 131; refine hN.mono ?_; rintro e w6 ⟨v6, rfl, q6⟩; obtain ⟨ao6, n6, c6, rfl⟩ := own_slice q6.own; have ra6 := ra.grown q6.grown hn0)
        | (refine wl_store rfl _ _ _ rfl w.heap.size [.slice ao6 n6 c6, .bool (Bq cN bad m.order q || !cN.ok a)] rfl rfl _ _ ra6 rfl (by kernel_rfl) one2b ?_; intro w7 hr7 hg7))
      have hr7 := hr7.out
      have rr7 := (rrx.grown q6.grown hn2).grown hg7 (fun e => by injection e with e; omega)
      have ap7 := App.after (apx.trans q6) (Nat.le_refl _) hg7 (own_row_ne ra6 q6.own (by decide))
      rw [HSL.out] at ap7
      rw [HSB.out] at hr7
      go_roundw
      case rel => exact ⟨q + 1, ao6, n6, c6, by omega, by go_num, hr7, rr7, ap7⟩
      case measure => simp [intOf]; omega
    · obtain rfl : q = m.order.length := by omega
      have hqd : decide ((m.order.length : Int) < m.order.length) = false := by simp
      rw [HBA.out] at ra
      rw [Lq_all] at ap
      go_wp2_with (first
        | (refine wl_load rfl _ _ rfl w.heap.size rfl _ _ ra _ Tryz.underlying157 rfl (by kernel_rfl) ?_)
        | (refine wl_store rfl _ _ _ rfl (w.heap.size + 2) [.slice ak nk ck, .bool (bad || !(cL cN).ok m.order)] rfl rfl _ _ rr rfl (by kernel_rfl) one2b ?_; intro w6 hr6 hg6))
      have hr6 := hr6.out
      refine bodyPost_ret (v := .agg ([.slice ak nk ck, .bool (bad || !(cL cN).ok m.order)] : List Value).toArray) (results_cell_row rfl _ _ (w.heap.size + 2) _ _ (0, 0) _ (by rfl) hr6 Tryz.underlying157 rfl (by kernel_rfl)) rfl ?_
      exact ⟨_, rfl, App.after ap (by omega) hg6 (own_row_ne rr ap.own (by decide))⟩
set_option maxRecDepth 10000 in
set_option maxHeartbeats 4000000 in
theorem refField_13 (w0 w : World) (sv : Value) (bad : Bool) (L : List Int) (m : PMsg) (s : SV) (hB0 : Below w0.heap.size w0 w) (hf : Fr w0.heap.size sv) (hown : Own w 5 sv (bc L)) (hs : SOk Any w0 m s) (hl : L.length + bM m * 20 ≤ 140718000000000) (hz : bM m ≤ 1100000) :
    Calls Tryz.prog 132 #[.agg #[sv, .bool bad], .agg (mc m s).toArray, .int .i64 13] w (OPost (cF 13) (get m 13) w sv bad L) := by
  obtain ⟨a2, w2, ra, rb, rr, hB, hw2, hw3⟩ := fld_boxes w sv bad m s
  have hBw0 := below_and hB0 (Nat.le_refl _) hB
  have hoL := hown.below hB
  have hne0 := own_row_ne ra hoL (by decide)
  have hne1 := own_row_ne rb hoL (by decide)
  have hne2 := own_row_ne rr hoL (by decide)
  simp only [bM] at hl hz
  obtain ⟨al, cl, hfe, hcl⟩ := hs.p.form
  have c1 := rb.cell (j := 21) rfl
  rw [hfe] at c1
  have HX := (show Hid (0 < m.picks.length → ∃ b off, al = some ⟨b, off, none⟩ ∧ b < w0.heap.size ∧ ∀ (i : Nat) (a : PReq), m.picks[i]? = some a → ∃ r, r.length = 4 ∧ w0.rangeAt b (off + i * 4) r ∧ RReq Any w0 r a) from fun h0 => by
    obtain ⟨b, off, c', e, _, _, _, hbb, hx⟩ := hs.p.at h0
    rw [hfe] at e
    injection e with e1 e2 e3
    exact ⟨b, off, e1, hbb, hx⟩)
  have hM := refMany_any w2 sv bad L (m.picks.length : Int) hoL (by omega)
  have hlen := len_bS (f := bQ) (fun y => by simp only [bQ]; omega) m.picks
  have hlz : m.picks.length ≤ 2000000 := by simp only [bL] at hz; omega
  have HLE := (show Hid (∀ (q : Nat) (a : PReq), m.picks[q]? = some a → (Lq cReq L m.picks q).length + 20 * bQ a ≤ 140718900000000 ∧ bQ a ≤ 1100000) from fun q a ha => by have h1 := Lq_len cReq (f := bQ) cReq_len L m.picks q; have h2 := bS_mem (f := bQ) (List.mem_of_getElem? ha); simp only [bL] at *; omega)
  have HBA := (show Hid (Bq cReq bad m.picks m.picks.length = (bad || !(cL cReq).ok m.picks)) from Bq_all _ _ _ (by omega))
  clear hlen
  go_enter Tryz.func132, Tryz.ntmps132
  go_upto_region 1 with fail
  rw [← hw2, ← hw3]
  clear hw2 hw3
  go_upto_region 36 with (first
    | (refine wl_load rfl _ _ rfl w.heap.size rfl _ _ ra _ Tryz.underlying157 rfl (by kernel_rfl) ?_)
    | (go_at_call 166; refine hM.mono ?_; rintro e w3 ⟨v3, rfl, q3⟩; obtain ⟨ao3, n3, c3, rfl⟩ := own_slice q3.own; have ra3 := ra.grown q3.grown hne0)
    | (refine wl_store rfl _ _ _ rfl w.heap.size [.slice ao3 n3 c3, .bool (bad || !cMn.ok (m.picks.length : Int))] rfl rfl _ _ ra3 rfl (by kernel_rfl) one2b ?_; intro w4 hr4 hg4))
  have hr4 := hr4.out
  have rb4 := (rb.grown q3.grown hne1).grown hg4 (fun e => by injection e with e; omega)
  have rr4 := (rr.grown q3.grown hne2).grown hg4 (fun e => by injection e with e; omega)
  have ha4 := App.after (App.pre hB q3) (Nat.le_refl _) hg4 (own_row_ne ra3 q3.own (by decide))
  rw [Lq_zero cReq] at ha4
  rw [Bq_zero cReq] at hr4
  have c2 := rb4.cell (j := 21) rfl
  rw [hfe] at c2
  clear hg4 q3 ra3 hM c1 ra rb rr hne0 hne1 hne2 hoL hcl hl hz hown hfe hs
  go_wp2_with fail
  go_loopw [120] (fun i wr => ∃ (q : Nat) (ak : Option Addr) (nk ck : Nat), q ≤ m.picks.length ∧ i = .int .i64 q ∧ Row wr w.heap.size 157 [.slice ak nk ck, .bool (Bq cReq bad m.picks q)] ∧ Row wr (w.heap.size + 2) 157 [.slice none 0 0, .bool false] ∧ App w 5 sv wr (.slice ak nk ck) (bc (Lq cReq L m.picks q))) (fun i _ => m.picks.length - (intOf i).toNat)
  case atStart => exact ⟨0, ao3, n3, c3, by omega, rfl, hr4, rr4, ha4⟩
  case round =>
    clear hr4 rr4 ha4 c2 rb4
    obtain ⟨q, ak, nk, ck, hq, rfl, ra, rr, ap⟩ := hrel
    by_cases hql : q < m.picks.length
    · obtain ⟨bb, off, rfl, hbb, hx⟩ := HX.out (by omega)
      obtain ⟨a, ha⟩ : ∃ a, m.picks[q]? = some a := ⟨_, List.getElem?_eq_getElem hql⟩
      obtain ⟨hle, hbz⟩ := HLE.out q a ha
      have HSL := (show Hid (Lq cReq L m.picks q ++ cReq.wr a = Lq cReq L m.picks (q + 1)) from Lq_succ _ _ _ ha)
      have HSB := (show Hid ((Bq cReq bad m.picks q || !cReq.ok a) = Bq cReq bad m.picks (q + 1)) from Bq_succ _ _ _ ha)
      have hBr := hB0.trans (ap.below hf hB0.size)
      have hlt := rr.lt
      obtain ⟨r, _, hrng, so, sg, rfl, hso, hsg⟩ := hx q a ha
      have hrng := rangeAt_block hrng (hBr.block bb hbb)
      have hrow0 := Row.new wr 62 [.int .i64 0, .int .i64 0, .slice none 0 0, .slice none 0 0]
      have y1 : a.2.2.1.length ≤ 2147483647 := by simp only [bQ, bT] at hbz; omega
      have y2 : a.2.2.2.length ≤ 2147483647 := by simp only [bQ, bT] at hbz; omega
      have HQ := (show Hid (RReq Any w0 [.int .i64 a.1, .int .i64 a.2.1, so, sg] a) from ⟨_, _, rfl, hso, hsg⟩)
      have o1 := hso.one
      have o2 := hsg.one
      have hone : ∀ z ∈ ([.int .i64 a.1, .int .i64 a.2.1, so, sg] : List Value), z.oneCell' = true := by
        intro z hz
        simp only [List.mem_cons, List.not_mem_nil, or_false] at hz
        rcases hz with rfl | rfl | rfl | rfl <;> first | rfl | assumption
      clear ha hx hso hsg
      go_upto_region 39 with (first
        | (refine wpList_load_mid rfl _ _ rfl bb (off + q * 4) rfl [.int .i64 a.1, .int .i64 a.2.1, so, sg] _ hrng Tryz.underlying62 rfl (by kernel_rfl) ?_)
        | (refine wl_store rfl _ _ _ rfl wr.heap.size [.int .i64 a.1, .int .i64 a.2.1, so, sg] rfl rfl _ _ hrow0 rfl (by kernel_rfl) hone ?_; intro w5 hr5 hg5))
      have hb5 : Below wr.heap.size wr w5 := (below_alloc wr (.cells ([.int .i64 0, .int .i64 0, .slice none 0 0, .slice none 0 0] : List Value).toArray 62)).trans (grown_below hg5 (by simp) (fun k hk => by cases hk; exact Nat.le_refl _))
      have rv := hr5.out
      have ap5 : App w 5 sv w5 (.slice ak nk ck) (bc (Lq cReq L m.picks q)) := ⟨ap.own.below hb5, grown_trans ap.grown (grown_of_below hb5 none) (.inr fun k hk => by cases hk), ap.spot⟩
      have ra5 := ra.below hb5
      have rrx := rr.below hb5
      have apx := ap5
      have hB5 := below_and hBr (Nat.le_refl _) hb5
      have hf5 : Fr w0.heap.size (.slice ak nk ck) := ap.fr hf hB0.size
      have hN := refReq_any w0 w5 (.slice ak nk ck) (Bq cReq bad m.picks q) (Lq cReq L m.picks q) [.int .i64 a.1, .int .i64 a.2.1, so, sg] a hB5 hf5 ap5.own HQ.out (by omega) y1 y2
      have hn0 := own_row_ne ra5 ap5.own (by decide)
      have hn2 := own_row_ne rrx ap5.own (by decide)
      clear hrng hrow0 hone hg5 hr5 ra rr ap hb5
      try go_simp
      go_wp2_with (first
        | (refine wl_load rfl _ _ rfl w.heap.size rfl _ _ ra5 _ Tryz.underlying157 rfl (by kernel_rfl) ?_)
        | (refine wl_load rfl _ _ rfl wr.heap.size rfl _ _ rv _ Tryz.underlying62 rfl (by kernel_rfl) ?_)
        | (go_at_call 163; refine hN.mono ?_; rintro e w6 ⟨v6, rfl, q6⟩; obtain ⟨ao6, n6, c6, rfl⟩ := own_slice q6.own; have ra6 := ra5.grown q6.grown hn0)
        | (refine wl_store rfl _ _ _ rfl w.heap.size [.slice ao6 n6 c6, .bool (Bq cReq bad m.picks q || !cReq.ok a)] rfl rfl _ _ ra6 rfl (by kernel_rfl) one2b ?_; intro w7 hr7 hg7))
      have hr7 := hr7.out
      have rr7 := (rrx.grown q6.grown hn2).grown hg7 (fun e => by injection e with e; omega)
      have ap7 := App.after (apx.trans q6) (Nat.le_refl _) hg7 (own_row_ne ra6 q6.own (by decide))
      rw [HSL.out] at ap7
      rw [HSB.out] at hr7
      go_roundw
      case rel => exact ⟨q + 1, ao6, n6, c6, by omega, by go_num, hr7, rr7, ap7⟩
      case measure => simp [intOf]; omega
    · obtain rfl : q = m.picks.length := by omega
      have hqd : decide ((m.picks.length : Int) < m.picks.length) = false := by simp
      rw [HBA.out] at ra
      rw [Lq_all] at ap
      go_wp2_with (first
        | (refine wl_load rfl _ _ rfl w.heap.size rfl _ _ ra _ Tryz.underlying157 rfl (by kernel_rfl) ?_)
        | (refine wl_store rfl _ _ _ rfl (w.heap.size + 2) [.slice ak nk ck, .bool (bad || !(cL cReq).ok m.picks)] rfl rfl _ _ rr rfl (by kernel_rfl) one2b ?_; intro w6 hr6 hg6))
      have hr6 := hr6.out
      refine bodyPost_ret (v := .agg ([.slice ak nk ck, .bool (bad || !(cL cReq).ok m.picks)] : List Value).toArray) (results_cell_row rfl _ _ (w.heap.size + 2) _ _ (0, 0) _ (by rfl) hr6 Tryz.underlying157 rfl (by kernel_rfl)) rfl ?_
      exact ⟨_, rfl, App.after ap (by omega) hg6 (own_row_ne rr ap.own (by decide))⟩
set_option maxRecDepth 10000 in
set_option maxHeartbeats 4000000 in
theorem refField_14 (w0 w : World) (sv : Value) (bad : Bool) (L : List Int) (m : PMsg) (s : SV) (hB0 : Below w0.heap.size w0 w) (hf : Fr w0.heap.size sv) (hown : Own w 5 sv (bc L)) (hs : SOk Any w0 m s) (hl : L.length + bM m * 20 ≤ 140718000000000) (hz : bM m ≤ 1100000) :
    Calls Tryz.prog 132 #[.agg #[sv, .bool bad], .agg (mc m s).toArray, .int .i64 14] w (OPost (cF 14) (get m 14) w sv bad L) := by
  obtain ⟨a2, w2, ra, rb, rr, hB, hw2, hw3⟩ := fld_boxes w sv bad m s
  have hBw0 := below_and hB0 (Nat.le_refl _) hB
  have hoL := hown.below hB
  have hne0 := own_row_ne ra hoL (by decide)
  have hne1 := own_row_ne rb hoL (by decide)
  have hne2 := own_row_ne rr hoL (by decide)
  simp only [bM] at hl hz
  obtain ⟨al, cl, hfe, hcl⟩ := hs.l.form
  have c1 := rb.cell (j := 22) rfl
  rw [hfe] at c1
  have HX := (show Hid (0 < m.reps.length → ∃ b off, al = some ⟨b, off, none⟩ ∧ b < w0.heap.size ∧ ∀ (i : Nat) (a : PRep), m.reps[i]? = some a → ∃ r, r.length = 8 ∧ w0.rangeAt b (off + i * 8) r ∧ RRep Any w0 r a) from fun h0 => by
    obtain ⟨b, off, c', e, _, _, _, hbb, hx⟩ := hs.l.at h0
    rw [hfe] at e
    injection e with e1 e2 e3
    exact ⟨b, off, e1, hbb, hx⟩)
  have hM := refMany_any w2 sv bad L (m.reps.length : Int) hoL (by omega)
  have hlen := len_bS (f := bR) (fun y => by simp only [bR]; omega) m.reps
  have hlz : m.reps.length ≤ 2000000 := by simp only [bL] at hz; omega
  have HLE := (show Hid (∀ (q : Nat) (a : PRep), m.reps[q]? = some a → (Lq cRep L m.reps q).length + 20 * bR a ≤ 140718900000000 ∧ bR a ≤ 1100000) from fun q a ha => by have h1 := Lq_len cRep (f := bR) cRep_len L m.reps q; have h2 := bS_mem (f := bR) (List.mem_of_getElem? ha); simp only [bL] at *; omega)
  have HBA := (show Hid (Bq cRep bad m.reps m.reps.length = (bad || !(cL cRep).ok m.reps)) from Bq_all _ _ _ (by omega))
  clear hlen
  go_enter Tryz.func132, Tryz.ntmps132
  go_upto_region 1 with fail
  rw [← hw2, ← hw3]
  clear hw2 hw3
  go_upto_region 43 with (first
    | (refine wl_load rfl _ _ rfl w.heap.size rfl _ _ ra _ Tryz.underlying157 rfl (by kernel_rfl) ?_)
    | (go_at_call 166; refine hM.mono ?_; rintro e w3 ⟨v3, rfl, q3⟩; obtain ⟨ao3, n3, c3, rfl⟩ := own_slice q3.own; have ra3 := ra.grown q3.grown hne0)
    | (refine wl_store rfl _ _ _ rfl w.heap.size [.slice ao3 n3 c3, .bool (bad || !cMn.ok (m.reps.length : Int))] rfl rfl _ _ ra3 rfl (by kernel_rfl) one2b ?_; intro w4 hr4 hg4))
  have hr4 := hr4.out
  have rb4 := (rb.grown q3.grown hne1).grown hg4 (fun e => by injection e with e; omega)
  have rr4 := (rr.grown q3.grown hne2).grown hg4 (fun e => by injection e with e; omega)
  have ha4 := App.after (App.pre hB q3) (Nat.le_refl _) hg4 (own_row_ne ra3 q3.own (by decide))
  rw [Lq_zero cRep] at ha4
  rw [Bq_zero cRep] at hr4
  have c2 := rb4.cell (j := 22) rfl
  rw [hfe] at c2
  clear hg4 q3 ra3 hM c1 ra rb rr hne0 hne1 hne2 hoL hcl hl hz hown hfe hs
  go_wp2_with fail
  go_loopw [137] (fun i wr => ∃ (q : Nat) (ak : Option Addr) (nk ck : Nat), q ≤ m.reps.length ∧ i = .int .i64 q ∧ Row wr w.heap.size 157 [.slice ak nk ck, .bool (Bq cRep bad m.reps q)] ∧ Row wr (w.heap.size + 2) 157 [.slice none 0 0, .bool false] ∧ App w 5 sv wr (.slice ak nk ck) (bc (Lq cRep L m.reps q))) (fun i _ => m.reps.length - (intOf i).toNat)
  case atStart => exact ⟨0, ao3, n3, c3, by omega, rfl, hr4, rr4, ha4⟩
  case round =>
    clear hr4 rr4 ha4 c2 rb4
    obtain ⟨q, ak, nk, ck, hq, rfl, ra, rr, ap⟩ := hrel
    by_cases hql : q < m.reps.length
    · obtain ⟨bb, off, rfl, hbb, hx⟩ := HX.out (by omega)
      obtain ⟨a, ha⟩ : ∃ a, m.reps[q]? = some a := ⟨_, List.getElem?_eq_getElem hql⟩
      obtain ⟨hle, hbz⟩ := HLE.out q a ha
      have HSL := (show Hid (Lq cRep L m.reps q ++ cRep.wr a = Lq cRep L m.reps (q + 1)) from Lq_succ _ _ _ ha)
      have HSB := (show Hid ((Bq cRep bad m.reps q || !cRep.ok a) = Bq cRep bad m.reps (q + 1)) from Bq_succ _ _ _ ha)
      have hBr := hB0.trans (ap.below hf hB0.size)
      have hlt := rr.lt
      obtain ⟨r, _, hrng, so, sg, sp, sq, rfl, hso, hsg, hsp, hsq⟩ := hx q a ha
      have hrng := rangeAt_block hrng (hBr.block bb hbb)
      have hrow0 := Row.new wr 28 [.int .i64 0, .int .i64 0, .int .i64 0, .int .i64 0, .slice none 0 0, .slice none 0 0, .slice none 0 0, .slice none 0 0]
      have HQ := (show Hid (RRep Any w0 [.int .i64 a.1.1, .int .i64 a.1.2, .int .i64 a.2.1, .int .i64 a.2.2.1, so, sg, sp, sq] a) from ⟨_, _, _, _, rfl, hso, hsg, hsp, hsq⟩)
      have o1 := hso.one
      have o2 := hsg.one
      have o3 := hsp.one
      have o4 := hsq.one
      have hone : ∀ z ∈ ([.int .i64 a.1.1, .int .i64 a.1.2, .int .i64 a.2.1, .int .i64 a.2.2.1, so, sg, sp, sq] : List Value), z.oneCell' = true := by
        intro z hz
        simp only [List.mem_cons, List.not_mem_nil, or_false] at hz
        rcases hz with rfl | rfl | rfl | rfl | rfl | rfl | rfl | rfl <;> first | rfl | assumption
      clear ha hx hso hsg hsp hsq
      go_upto_region 46 with (first
        | (refine wpList_load_mid rfl _ _ rfl bb (off + q * 8) rfl [.int .i64 a.1.1, .int .i64 a.1.2, .int .i64 a.2.1, .int .i64 a.2.2.1, so, sg, sp, sq] _ hrng Tryz.underlying28 rfl (by kernel_rfl) ?_)
        | (refine wl_store rfl _ _ _ rfl wr.heap.size [.int .i64 a.1.1, .int .i64 a.1.2, .int .i64 a.2.1, .int .i64 a.2.2.1, so, sg, sp, sq] rfl rfl _ _ hrow0 rfl (by kernel_rfl) hone ?_; intro w5 hr5 hg5))
      have hb5 : Below wr.heap.size wr w5 := (below_alloc wr (.cells ([.int .i64 0, .int .i64 0, .int .i64 0, .int .i64 0, .slice none 0 0, .slice none 0 0, .slice none 0 0, .slice none 0 0] : List Value).toArray 28)).trans (grown_below hg5 (by simp) (fun k hk => by cases hk; exact Nat.le_refl _))
      have rv := hr5.out
      have ap5 : App w 5 sv w5 (.slice ak nk ck) (bc (Lq cRep L m.reps q)) := ⟨ap.own.below hb5, grown_trans ap.grown (grown_of_below hb5 none) (.inr fun k hk => by cases hk), ap.spot⟩
      have ra5 := ra.below hb5
      have rrx := rr.below hb5
      have apx := ap5
      have hB5 := below_and hBr (Nat.le_refl _) hb5
      have hf5 : Fr w0.heap.size (.slice ak nk ck) := ap.fr hf hB0.size
      have hN := refReport_any w0 w5 (.slice ak nk ck) (Bq cRep bad m.reps q) (Lq cRep L m.reps q) [.int .i64 a.1.1, .int .i64 a.1.2, .int .i64 a.2.1, .int .i64 a.2.2.1, so, sg, sp, sq] a hB5 hf5 ap5.own HQ.out (by omega) (by omega)
      have hn0 := own_row_ne ra5 ap5.own (by decide)
      have hn2 := own_row_ne rrx ap5.own (by decide)
      clear hrng hrow0 hone hg5 hr5 ra rr ap hb5
      try go_simp
      go_wp2_with (first
        | (refine wl_load rfl _ _ rfl w.heap.size rfl _ _ ra5 _ Tryz.underlying157 rfl (by kernel_rfl) ?_)
        | (refine wl_load rfl _ _ rfl wr.heap.size rfl _ _ rv _ Tryz.underlying28 rfl (by kernel_rfl) ?_)
        | (go_at_call 167; refine hN.mono ?_; rintro e w6 ⟨v6, rfl, q6⟩; obtain ⟨ao6, n6, c6, rfl⟩ := own_slice q6.own; have ra6 := ra5.grown q6.grown hn0)
        | (refine wl_store rfl _ _ _ rfl w.heap.size [.slice ao6 n6 c6, .bool (Bq cRep bad m.reps q || !cRep.ok a)] rfl rfl _ _ ra6 rfl (by kernel_rfl) one2b ?_; intro w7 hr7 hg7))
      have hr7 := hr7.out
      have rr7 := (rrx.grown q6.grown hn2).grown hg7 (fun e => by injection e with e; omega)
      have ap7 := App.after (apx.trans q6) (Nat.le_refl _) hg7 (own_row_ne ra6 q6.own (by decide))
      rw [HSL.out] at ap7
      rw [HSB.out] at hr7
      go_roundw
      case rel => exact ⟨q + 1, ao6, n6, c6, by omega, by go_num, hr7, rr7, ap7⟩
      case measure => simp [intOf]; omega
    · obtain rfl : q = m.reps.length := by omega
      have hqd : decide ((m.reps.length : Int) < m.reps.length) = false := by simp
      rw [HBA.out] at ra
      rw [Lq_all] at ap
      go_wp2_with (first
        | (refine wl_load rfl _ _ rfl w.heap.size rfl _ _ ra _ Tryz.underlying157 rfl (by kernel_rfl) ?_)
        | (refine wl_store rfl _ _ _ rfl (w.heap.size + 2) [.slice ak nk ck, .bool (bad || !(cL cRep).ok m.reps)] rfl rfl _ _ rr rfl (by kernel_rfl) one2b ?_; intro w6 hr6 hg6))
      have hr6 := hr6.out
      refine bodyPost_ret (v := .agg ([.slice ak nk ck, .bool (bad || !(cL cRep).ok m.reps)] : List Value).toArray) (results_cell_row rfl _ _ (w.heap.size + 2) _ _ (0, 0) _ (by rfl) hr6 Tryz.underlying157 rfl (by kernel_rfl)) rfl ?_
      exact ⟨_, rfl, App.after ap (by omega) hg6 (own_row_ne rr ap.own (by decide))⟩
/-- The document's field. -/
theorem refField_any (w0 w : World) (sv : Value) (bad : Bool) (L : List Int) (m : PMsg) (s : SV) (i : Nat) (hi : i < 15) (hB0 : Below w0.heap.size w0 w) (hf : Fr w0.heap.size sv) (hown : Own w 5 sv (bc L)) (hs : SOk Any w0 m s) (hl : L.length + bM m * 20 ≤ 140718000000000) (hz : bM m ≤ 1100000) :
    Calls Tryz.prog 132 #[.agg #[sv, .bool bad], .agg (mc m s).toArray, .int .i64 (i : Int)] w (OPost (cF i) (get m i) w sv bad L) := by
  rcases lt15 hi with rfl | rfl | rfl | rfl | rfl | rfl | rfl | rfl | rfl | rfl | rfl | rfl | rfl | rfl | rfl
  · exact refField_0 w0 w sv bad L m s hB0 hf hown hs hl hz
  · exact refField_1 w0 w sv bad L m s hB0 hf hown hs hl hz
  · exact refField_2 w0 w sv bad L m s hB0 hf hown hs hl hz
  · exact refField_3 w0 w sv bad L m s hB0 hf hown hs hl hz
  · exact refField_4 w0 w sv bad L m s hB0 hf hown hs hl hz
  · exact refField_5 w0 w sv bad L m s hB0 hf hown hs hl hz
  · exact refField_6 w0 w sv bad L m s hB0 hf hown hs hl hz
  · exact refField_7 w0 w sv bad L m s hB0 hf hown hs hl hz
  · exact refField_8 w0 w sv bad L m s hB0 hf hown hs hl hz
  · exact refField_9 w0 w sv bad L m s hB0 hf hown hs hl hz
  · exact refField_10 w0 w sv bad L m s hB0 hf hown hs hl hz
  · exact refField_11 w0 w sv bad L m s hB0 hf hown hs hl hz
  · exact refField_12 w0 w sv bad L m s hB0 hf hown hs hl hz
  · exact refField_13 w0 w sv bad L m s hB0 hf hown hs hl hz
  · exact refField_14 w0 w sv bad L m s hB0 hf hown hs hl hz
end
section
open Go.RowKit Oct
theorem cN_byt (n : Int) : Byt (cN.wr n) := outI_byt n
theorem wrN_byt {α : Type} {c : Cdc α} : ∀ {ys : List α}, (∀ y ∈ ys, Byt (c.wr y)) → Byt (wrN c ys)
  | [], _ => by simp only [wrN]; exact Byt.nil
  | y :: ys, h => by rw [wrN_cons]; exact (h y (by simp)).app (wrN_byt fun z hz => h z (by simp [hz]))
theorem cL_byt {α : Type} {c : Cdc α} {ys : List α} (h : ∀ y ∈ ys, Byt (c.wr y)) : Byt ((cL c).wr ys) := (outI_byt _).app (wrN_byt h)
theorem RL.each {α : Type} {R : (Nat → Prop) → World → List Value → α → Prop} {k : Nat} {G : Nat → Prop} {w : World} {v : Value} {ys : List α} (h : RL R k G w v ys) : ∀ y ∈ ys, ∃ r, R G w r y := by
  obtain ⟨rows, h1, h2⟩ := h
  intro y hy
  obtain ⟨i, hi, rfl⟩ := List.getElem_of_mem hy
  exact ⟨_, h2.get (List.getElem?_eq_getElem (by rw [h2.len]; exact hi)) (List.getElem?_eq_getElem hi)⟩
theorem vote_byt {G : Nat → Prop} {w : World} {r : List Value} {x : PVote} (h : RVote G w r x) (hz : bV x ≤ 2000000) : Byt (cVote.wr x) := by
  obtain ⟨s, _, h1⟩ := h
  exact (cN_byt _).app (cT_wr_byt h1.1.1 (by simp only [bV, bT] at hz; omega))
theorem votes_byt {G : Nat → Prop} {w : World} {v : Value} {ys : List PVote} (h : RL RVote 2 G w v ys) (hz : bL bV ys ≤ 2000000) : Byt ((cL cVote).wr ys) :=
  cL_byt fun y hy => by
    obtain ⟨r, hr⟩ := h.each y hy
    exact vote_byt hr (by have := bS_mem (f := bV) hy; simp only [bL] at hz; omega)
theorem req_byt {G : Nat → Prop} {w : World} {r : List Value} {x : PReq} (h : RReq G w r x) (hz : bQ x ≤ 2000000) : Byt (cReq.wr x) := by
  obtain ⟨o, g, _, h1, h2⟩ := h
  exact (cN_byt _).app ((cN_byt _).app ((cT_wr_byt h1.1.1 (by simp only [bQ, bT] at hz; omega)).app (cT_wr_byt h2.1.1 (by simp only [bQ, bT] at hz; omega))))
theorem prep_byt {G : Nat → Prop} {w : World} {r : List Value} {x : PPrep} (h : RPrep G w r x) (hz : bP x ≤ 2000000) : Byt (cPrep.wr x) := by
  obtain ⟨o, g, c, _, h1, h2, h3⟩ := h
  simp only [bP] at hz
  exact (cN_byt _).app (((cN_byt _).app (cN_byt _)).app ((req_byt (G := G) (w := w) (r := [.int .i64 x.2.2.1.1, .int .i64 x.2.2.1.2.1, o, g]) ⟨o, g, rfl, h1, h2⟩ (by omega)).app (votes_byt h3 (by omega))))
theorem rep_byt {G : Nat → Prop} {w : World} {r : List Value} {x : PRep} (h : RRep G w r x) (hz : bR x ≤ 2000000) : Byt (cRep.wr x) := by
  obtain ⟨d, s, p, g, _, h1, h2, h3, h4⟩ := h
  simp only [bR] at hz
  refine ((cN_byt _).app (cN_byt _)).app ((cN_byt _).app ((cN_byt _).app ((cT_wr_byt h1.1.1 ?_).app ((votes_byt h2 (by omega)).app ((cL_byt fun y hy => ?_).app (cT_wr_byt h4.1.1 ?_))))))
  · simp only [bT] at hz; omega
  · obtain ⟨r, hr⟩ := h3.each y hy
    exact prep_byt hr (by have := bS_mem (f := bP) hy; simp only [bL] at hz; omega)
  · simp only [bT] at hz; omega
theorem SOk.byt {G : Nat → Prop} {w : World} {m : PMsg} {s : SV} (h : SOk G w m s) (hz : bM m ≤ 1100000) {i : Nat} (hi : i < 15) : Byt (wrF m i) := by
  simp only [bM] at hz
  rcases lt15 hi with rfl | rfl | rfl | rfl | rfl | rfl | rfl | rfl | rfl | rfl | rfl | rfl | rfl | rfl | rfl
  · exact (cN_byt _).app (cN_byt _)
  · exact cN_byt _
  · exact cN_byt _
  · exact cN_byt _
  · exact cN_byt _
  · exact cN_byt _
  · exact req_byt (r := [.int .i64 m.req.1, .int .i64 m.req.2.1, s.o, s.g]) ⟨_, _, rfl, h.o, h.g⟩ (by omega)
  · exact req_byt (r := [.int .i64 m.oth.1, .int .i64 m.oth.2.1, s.o', s.g']) ⟨_, _, rfl, h.o', h.g'⟩ (by omega)
  · exact cT_wr_byt h.d.1.1 (by simp only [bT] at hz; omega)
  · exact cT_wr_byt h.s.1.1 (by simp only [bT] at hz; omega)
  · exact votes_byt h.c (by omega)
  · exact votes_byt h.v (by omega)
  · exact cL_byt fun y _ => cN_byt y
  · exact cL_byt fun y hy => by
      obtain ⟨r, hr⟩ := h.p.each y hy
      exact req_byt hr (by have := bS_mem (f := bQ) hy; simp only [bL] at hz; omega)
  · exact cL_byt fun y hy => by
      obtain ⟨r, hr⟩ := h.l.each y hy
      exact rep_byt hr (by have := bS_mem (f := bR) hy; simp only [bL] at hz; omega)
theorem wrFs_byt {G : Nat → Prop} {w : World} {m : PMsg} {s : SV} (h : SOk G w m s) (hz : bM m ≤ 1100000) : ∀ {fs : List Nat}, (∀ i ∈ fs, i < 15) → Byt (wrFs m fs)
  | [], _ => by simp only [wrFs]; exact Byt.nil
  | i :: fs, hf => by rw [wrFs_cons]; exact (h.byt hz (hf i (by simp))).app (wrFs_byt h hz fun j hj => hf j (by simp [hj]))
end
section
open Go.RowKit Oct
/-- The fields of a kind below q. -/
def Fq (k : Int) (q : Nat) : List Nat := (List.range q).filter fun i => (fl k).contains i
theorem Fq_succ (k : Int) (q : Nat) : Fq k (q + 1) = Fq k q ++ (if (fl k).contains q = true then [q] else []) := by
  unfold Fq
  rw [List.range_succ, List.filter_append, List.filter_cons]
  rfl
theorem Fq_all (k : Int) : Fq k 15 = fl k := by
  rcases fl_cases k with h | h | h | h | h | h | h | h | h | h | h | h | h | h | h | h | h | h | h | h
  all_goals first | (subst h; decide) | (unfold Fq; rw [h]; rfl)
theorem Fq_len (k : Int) (q : Nat) : (Fq k q).length ≤ q := by
  have := List.length_filter_le (fun i => (fl k).contains i) (List.range q)
  rw [List.length_range] at this
  exact this
theorem wrF_len (m : PMsg) {i : Nat} (h : i < 15) : (wrF m i).length ≤ 20 * bM m := by
  have e1 : ∀ n : Int, (cN.wr n).length ≤ 10 := cN_len
  have hI : ((cL cN).wr m.order).length ≤ 20 * bL (fun _ => 1) m.order := cL_len cN (fun n => Nat.le_trans (cN_len n) (by decide)) m.order
  rcases lt15 h with rfl | rfl | rfl | rfl | rfl | rfl | rfl | rfl | rfl | rfl | rfl | rfl | rfl | rfl | rfl
  · show (cN.wr m.bal.1 ++ cN.wr m.bal.2).length ≤ _
    have := e1 m.bal.1
    have := e1 m.bal.2
    rw [List.length_append]
    simp only [bM]
    omega
  · show (cN.wr m.slot).length ≤ _
    have := e1 m.slot
    simp only [bM]
    omega
  · show (cN.wr m.frm).length ≤ _
    have := e1 m.frm
    simp only [bM]
    omega
  · show (cN.wr m.to).length ≤ _
    have := e1 m.to
    simp only [bM]
    omega
  · show (cN.wr m.idx).length ≤ _
    have := e1 m.idx
    simp only [bM]
    omega
  · show (cN.wr m.cnt).length ≤ _
    have := e1 m.cnt
    simp only [bM]
    omega
  · show (cReq.wr m.req).length ≤ _
    have := cReq_len m.req
    simp only [bM]
    omega
  · show (cReq.wr m.oth).length ≤ _
    have := cReq_len m.oth
    simp only [bM]
    omega
  · show (cT.wr m.data).length ≤ _
    have := cT_b m.data
    simp only [bM]
    omega
  · show (cT.wr m.sig).length ≤ _
    have := cT_b m.sig
    simp only [bM]
    omega
  · show ((cL cVote).wr m.cert).length ≤ _
    have := cL_len cVote cVote_len m.cert
    simp only [bM]
    omega
  · show ((cL cVote).wr m.votes).length ≤ _
    have := cL_len cVote cVote_len m.votes
    simp only [bM]
    omega
  · show ((cL cN).wr m.order).length ≤ _
    simp only [bM]
    omega
  · show ((cL cReq).wr m.picks).length ≤ _
    have := cL_len cReq cReq_len m.picks
    simp only [bM]
    omega
  · show ((cL cRep).wr m.reps).length ≤ _
    have := cL_len cRep cRep_len m.reps
    simp only [bM]
    omega
theorem wrFs_len (m : PMsg) : ∀ {fs : List Nat}, (∀ i ∈ fs, i < 15) → (wrFs m fs).length ≤ fs.length * (20 * bM m)
  | [], _ => by simp [wrFs]
  | i :: fs, h => by
    have h1 := wrF_len m (h i (by simp))
    have h2 := wrFs_len m (fs := fs) (fun j hj => h j (by simp [hj]))
    rw [wrFs_cons, List.length_append, List.length_cons, Nat.add_mul]
    omega
/-- What is written of the first q fields. -/
def Lo (m : PMsg) (q : Nat) : List Int := outI m.kind ++ wrFs m (Fq m.kind q)
def Bo (m : PMsg) (q : Nat) : Bool := (Fq m.kind q).any fun i => !okF m i
theorem Lo_len (m : PMsg) {q : Nat} (hq : q ≤ 15) (hz : bM m ≤ 1100000) : (Lo m q).length ≤ 400000000 := by
  have h1 := outI_len m.kind
  have h2 := wrFs_len m (fs := Fq m.kind q) (fun i hi => by have := List.mem_range.1 (List.mem_filter.1 hi).1; omega)
  have h3 := Fq_len m.kind q
  have h4 : (Fq m.kind q).length * (20 * bM m) ≤ 15 * (20 * bM m) := Nat.mul_le_mul_right _ (by omega)
  unfold Lo
  rw [List.length_append]
  omega
theorem Lo_yes (m : PMsg) {q : Nat} (h : (fl m.kind).contains q = true) : Lo m q ++ (cF q).wr (get m q) = Lo m (q + 1) := by
  unfold Lo
  rw [Fq_succ, if_pos h, wrFs_snoc, List.append_assoc]
  rfl
theorem Bo_yes (m : PMsg) {q : Nat} (h : (fl m.kind).contains q = true) : (Bo m q || !(cF q).ok (get m q)) = Bo m (q + 1) := by
  unfold Bo
  rw [Fq_succ, if_pos h, List.any_append]
  simp [okF]
theorem Lo_no (m : PMsg) {q : Nat} (h : (fl m.kind).contains q = false) : Lo m (q + 1) = Lo m q := by
  unfold Lo
  rw [Fq_succ, h]
  simp
theorem Bo_no (m : PMsg) {q : Nat} (h : (fl m.kind).contains q = false) : Bo m (q + 1) = Bo m q := by
  unfold Bo
  rw [Fq_succ, h]
  simp
theorem Lo_all (m : PMsg) : Lo m 15 = byM m := by unfold Lo byM; rw [Fq_all]
theorem enc_empty {m : PMsg} (h : (fl m.kind).isEmpty = true) : encE m = 51 := by
  unfold encE
  rw [if_pos (by simp [badM, h])]
theorem enc_field {m : PMsg} {q : Nat} (hq : q < 15) (h : (fl m.kind).contains q = false) (hz : zF m q = false) : encE m = 51 := by
  unfold encE
  rw [if_pos]
  cases hb : badM m with
  | true => rfl
  | false =>
    have := (badM_no hb).2.1 q hq (by simpa using h)
    have := (zF_iff m hq).2 this
    rw [hz] at this
    cases this
theorem enc_bad {m : PMsg} (h : Bo m 15 = true) : encE m = 51 := by
  unfold encE
  rw [if_pos]
  cases hb : badM m with
  | true => rfl
  | false =>
    have := (badM_no hb).2.2
    unfold Bo at h
    rw [Fq_all, List.any_eq_true] at h
    obtain ⟨i, hi, hn⟩ := h
    rw [this i hi] at hn
    cases hn
theorem enc_good {m : PMsg} (h0 : (fl m.kind).isEmpty = false) (h1 : ∀ j, j < 15 → (fl m.kind).contains j = false → zF m j = true) (h2 : Bo m 15 = false) : badM m = false := by
  refine badM_of (by intro e; rw [e] at h0; cases h0) (fun i hi hn => (zF_iff m hi).1 (h1 i hi (by simpa using hn))) (fun i hi => ?_)
  unfold Bo at h2
  rw [Fq_all, List.any_eq_false] at h2
  have := h2 i hi
  simpa using this
theorem encB_no {m : PMsg} (h : encE m ≠ 0) : encB m = [] := by unfold encB; rw [if_neg h]
theorem marks_at (k : Int) {q : Nat} (h : q < 15) : (marks k)[q]? = some (.bool ((fl k).contains q)) := by
  unfold marks
  rw [List.getElem?_map, List.getElem?_range h]
  rfl
theorem marks_one (k : Int) : ∀ v ∈ marks k, v.oneCell' = true := by
  intro v hv
  unfold marks at hv
  obtain ⟨i, _, rfl⟩ := List.mem_map.1 hv
  rfl
set_option maxRecDepth 10000 in
set_option maxHeartbeats 4000000 in
/-- The document's Encode. -/
theorem refEncode_any (w : World) (m : PMsg) (s : SV) (hs : SOk Any w m s) (hz : bM m ≤ 1100000) :
    Calls Tryz.prog 93 #[.agg (mc m s).toArray] w fun e w' => ∃ v', e = .returned (.tuple #[v', .int .i64 (encE m)]) ∧ Rd w' v' (encB m) ∧ Below w.heap.size w w' := by
  have le := Nat.le_refl w.heap.size
  obtain ⟨w1, hw1⟩ : ∃ w1, w1 = w.alloc (.cells (mc m s).toArray 72) := ⟨_, rfl⟩
  have x1 : Row w1 w.heap.size 72 (mc m s) := by rw [hw1]; exact Row.new w _ _
  have B1 : Below w.heap.size w w1 := by rw [hw1]; exact below_alloc _ _
  have c0 := x1.cell (j := 0) rfl
  have hK := refKnown_any w1 m.kind
  have NIL := (show Hid (∀ {u : World}, Below w.heap.size w u → encE m = 51 → ∃ v', Ending.returned (.tuple #[.slice none 0 0, .int .i64 51]) = .returned (.tuple #[v', .int .i64 (encE m)]) ∧ Rd u v' (encB m) ∧ Below w.heap.size w u) from fun {u} hu e => ⟨_, by rw [e], by rw [encB_no (by rw [e]; decide)]; exact (Own.nil u 5).rd (l := []) Byt.nil, hu⟩)
  go_enter Tryz.func93, Tryz.ntmps93
  go_upto_region 1 with fail
  rw [← hw1]
  clear hw1
  by_cases he : (fl m.kind).isEmpty = true
  · have HE := (show Hid (encE m = 51) from enc_empty he)
    rw [he] at hK
    go_wp2_with (go_at_call 129; refine hK.mono ?_; rintro e w1 ⟨rfl, rfl⟩)
    go_ret2
    exact NIL.out B1 HE.out
  have he' : (fl m.kind).isEmpty = false := by simpa using he
  rw [he'] at hK
  have hne : fl m.kind ≠ [] := by intro e; rw [e] at he'; cases he'
  have hkd := fl_kind hne
  have HF := refFields_any w1 m.kind hne
  clear he
  obtain ⟨mk, hmk⟩ : ∃ mk, mk = marks m.kind := ⟨_, rfl⟩
  have hml : mk.length = 15 := by rw [hmk]; rfl
  have hmo : ∀ v ∈ mk, v.oneCell' = true := by rw [hmk]; exact marks_one _
  have HMK := (show Hid (∀ q, q < 15 → mk[q]? = some (.bool ((fl m.kind).contains q))) from fun q hq => by rw [hmk]; exact marks_at _ hq)
  rw [← hmk] at HF
  clear hmk
  go_upto_region 3 with (go_at_call 129; refine hK.mono ?_; rintro e w1 ⟨rfl, rfl⟩)
  go_upto_region 4 with (first
    | (go_at_call 130; refine HF.mono ?_; rintro e w2 ⟨rfl, hb2⟩; have n2 := Row.new w2 154 no15)
    | (refine wl_store rfl _ _ _ rfl w2.heap.size mk rfl rfl _ _ n2 (by rw [hml]; rfl) (by rw [hml]; kernel_rfl) hmo ?_; intro w3 hr3 hg3))
  have q3 : Below w2.heap.size w2 w3 := (below_alloc w2 (.cells no15.toArray 154)).trans (grown_below hg3 (by simp) (fun k hk => by cases hk; exact Nat.le_refl _))
  have q13 := below_and hb2 (Nat.le_refl _) q3
  have B3 := below_and B1 le q13
  have x3 := x1.below q13
  have h3 := hr3.out
  obtain ⟨bh, hbh⟩ : ∃ bh, bh = w2.heap.size := ⟨_, rfl⟩
  have hbhl : w.heap.size < bh := by rw [hbh]; exact Nat.lt_of_lt_of_le x1.lt hb2.size
  rw [← hbh] at h3 ⊢
  clear hbh hr3 hg3 n2 hb2 q3 q13 hK HF x1 B1 c0
  have c0 := x3.cell (j := 0) rfl
  have hN := refNum_any w3 (.slice none 0 0) false [] m.kind (Own.nil w3 5) (by simp)
  have hkk : cN.ok m.kind = true := okI_yes hkd.1 hkd.2
  go_upto_region 5 with (first
    | (go_at_call 131; refine hN.mono ?_; rintro e w4 ⟨v4, rfl, q4⟩; obtain ⟨ao4, n4, c4, rfl⟩ := own_slice q4.own))
  obtain ⟨w5, hw5⟩ : ∃ w5, w5 = w4.alloc (.cells #[.slice ao4 n4 c4, .bool false] 157) := ⟨_, rfl⟩
  have r5 : Row w5 w4.heap.size 157 [.slice ao4 n4 c4, .bool false] := by rw [hw5]; exact Row.new w4 _ _
  have q5 : Below w4.heap.size w4 w5 := by rw [hw5]; exact below_alloc _ _
  rw [← hw5]
  clear hw5
  have hb4 : Below w3.heap.size w3 w4 := q4.below (Fr.nil _) (Nat.le_refl _)
  have q35 := below_and hb4 (Nat.le_refl _) q5
  have B5 := below_and B3 le q35
  have x5 := x3.below q35
  have h5 := h3.below q35
  have o5 := q4.own.below q5
  have f5 : Fr w3.heap.size (.slice ao4 n4 c4) := q4.fr (Fr.nil _) (Nat.le_refl _)
  obtain ⟨bo, hbo⟩ : ∃ bo, bo = w4.heap.size := ⟨_, rfl⟩
  have hbol : w3.heap.size ≤ bo := by rw [hbo]; exact hb4.size
  have hbhl3 : bh < w3.heap.size := h3.lt
  rw [← hbo] at r5 ⊢
  have hs3 : w3.heap.size ≤ w5.heap.size := q35.size
  have r5 : Row w5 bo 157 [.slice ao4 n4 c4, .bool (Bo m 0)] := r5
  have o5 : Own w5 5 (.slice ao4 n4 c4) (bc (Lo m 0)) := by
    have e : ([] ++ cN.wr m.kind : List Int) = Lo m 0 := by
      unfold Lo
      show outI m.kind = outI m.kind ++ wrFs m []
      simp [wrFs]
    rw [← e]
    exact o5
  clear hbo q4 hb4 q5 q35 hN c0 x3 h3 hne hml hmo
  go_wp2_with fail
  go_loopw [6] (fun i wr => ∃ (q : Nat) (ak : Option Addr) (nk ck : Nat), q ≤ 15 ∧ i = .int .i64 q ∧ Row wr bo 157 [.slice ak nk ck, .bool (Bo m q)] ∧ Own wr 5 (.slice ak nk ck) (bc (Lo m q)) ∧ Fr w3.heap.size (.slice ak nk ck) ∧ Row wr w.heap.size 72 (mc m s) ∧ Row wr bh 154 mk ∧ Below w.heap.size w wr ∧ w3.heap.size ≤ wr.heap.size ∧ Hid (∀ j, j < q → (fl m.kind).contains j = false → zF m j = true)) (fun i _ => 15 - (intOf i).toNat)
  case atStart => exact ⟨0, ao4, n4, c4, by omega, rfl, r5, o5, f5, x5, h5, B5, hs3, fun j hj => by omega⟩
  case round =>
    clear r5 o5 f5 x5 h5 B5 hs3
    obtain ⟨q, ak, nk, ck, hq, rfl, ra, ho, hfr, rx, rh, hB, hs3, HZ⟩ := hrel
    have hwf : Fr w.heap.size (.slice ak nk ck) := hfr.mono (by omega)
    by_cases hql : q < 15
    · have ch := rh.cell (HMK.out q hql)
      have hq15 : (q : Int) < 15 := by omega
      have hlo := Lo_len m hq hz
      have hn0 := own_row_ne ra ho (by decide)
      have hn1 := own_row_ne rx ho (by decide)
      have hn2 := own_row_ne rh ho (by decide)
      cases hc : (fl m.kind).contains q with
      | true =>
        rw [hc] at ch
        have HL1 := (show Hid (Lo m q ++ (cF q).wr (get m q) = Lo m (q + 1)) from Lo_yes m hc)
        have HB1 := (show Hid ((Bo m q || !(cF q).ok (get m q)) = Bo m (q + 1)) from Bo_yes m hc)
        have HZ1 := (show Hid (∀ j, j < q + 1 → (fl m.kind).contains j = false → zF m j = true) from fun j hj hf => by
          rcases Nat.lt_or_ge j q with h1 | h1
          · exact HZ.out j h1 hf
          · obtain rfl : j = q := by omega
            rw [hc] at hf
            cases hf)
        have hF := refField_any w wr (.slice ak nk ck) (Bo m q) (Lo m q) m s q hql hB hwf ho hs (by omega) hz
        clear hc
        go_wp2_with (first
          | (refine wl_load rfl _ _ rfl bo rfl _ _ ra _ Tryz.underlying157 rfl (by kernel_rfl) ?_)
          | (refine wl_load rfl _ _ rfl w.heap.size rfl _ _ rx _ Tryz.underlying72 rfl (by kernel_rfl) ?_)
          | (go_at_call 132; refine hF.mono ?_; rintro e w6 ⟨v6, rfl, q6⟩; obtain ⟨ao6, n6, c6, rfl⟩ := own_slice q6.own; have ra6 := ra.grown q6.grown hn0)
          | (refine wl_store rfl _ _ _ rfl bo [.slice ao6 n6 c6, .bool (Bo m q || !(cF q).ok (get m q))] rfl rfl _ _ ra6 rfl (by kernel_rfl) one2b ?_; intro w7 hr7 hg7))
        have hr7 := hr7.out
        have hb6 := q6.below hfr hs3
        have B6 : Below w.heap.size w w6 := hB.trans (hb6.mono (by omega))
        have B7 : Below w.heap.size w w7 := B6.trans (grown_below hg7 B6.size (fun k hk => by cases hk; omega))
        have o7 := q6.own.grown hg7 (fun k hk => by cases hk; exact own_row_ne ra6 q6.own (by decide))
        have rx7 := (rx.grown q6.grown hn1).grown hg7 (fun e => by injection e with e; omega)
        have rh7 := (rh.grown q6.grown hn2).grown hg7 (fun e => by injection e with e; omega)
        have f7 := q6.fr hfr hs3
        have s7 : w3.heap.size ≤ w7.heap.size := Nat.le_trans hs3 (Nat.le_trans q6.grown.size hg7.size)
        rw [HL1.out] at o7
        rw [HB1.out] at hr7
        go_roundw
        case rel => exact ⟨q + 1, ao6, n6, c6, by omega, by go_num, hr7, o7, f7, rx7, rh7, B7, s7, HZ1⟩
        case measure => simp [intOf]; omega
      | false =>
        rw [hc] at ch
        have HC := (show Hid ((fl m.kind).contains q = false) from hc)
        have hF1 := refField_any w wr (.slice none 0 0) false [] m s q hql hB (Fr.nil _) (Own.nil wr _) hs (by simp only [List.length_nil]; omega) hz
        have HF2 := (show Hid (∀ u, Below w.heap.size w u → Calls Tryz.prog 132 #[.agg #[.slice none 0 0, .bool false], .agg (mc zeroM sv0).toArray, .int .i64 (q : Int)] u (OPost (cF q) (get zeroM q) u (.slice none 0 0) false [])) from fun u hu => refField_any w u (.slice none 0 0) false [] zeroM sv0 q hql hu (Fr.nil _) (Own.nil u _) (SOk.zero Any w 0) (by decide) (by decide))
        clear hc hn0 hn1 hn2 hwf hlo
        go_upto_region 11 with (first
          | (refine wl_load rfl _ _ rfl w.heap.size rfl _ _ rx _ Tryz.underlying72 rfl (by kernel_rfl) ?_)
          | (go_at_call 132; refine (HF2.out w6 B6).mono ?_; rintro e w7 ⟨v7, rfl, q7⟩; obtain ⟨ao7, n7, c7, rfl⟩ := own_slice q7.own)
          | (go_at_call 132; refine hF1.mono ?_; rintro e w6 ⟨v6, rfl, q6⟩; obtain ⟨ao6, n6, c6, rfl⟩ := own_slice q6.own; have hb6 : Below wr.heap.size wr w6 := q6.below (Fr.nil _) (Nat.le_refl _); have B6 := below_and hB le hb6))
        obtain ⟨w8, hw8⟩ : ∃ w8, w8 = (w7.alloc (.cells #[.slice ao6 n6 c6, .bool (!(cF q).ok (get m q))] 157)).alloc (.cells #[.slice ao7 n7 c7, .bool (!(cF q).ok (get zeroM q))] 157) := ⟨_, rfl⟩
        have ry : Row w8 w7.heap.size 157 [.slice ao6 n6 c6, .bool (!(cF q).ok (get m q))] := by rw [hw8]; exact row_alloc (Row.new w7 _ _) _
        have rz : Row w8 (w7.heap.size + 1) 157 [.slice ao7 n7 c7, .bool (!(cF q).ok (get zeroM q))] := by
          rw [hw8]
          have := Row.new (w7.alloc (.cells #[.slice ao6 n6 c6, .bool (!(cF q).ok (get m q))] 157)) 157 [.slice ao7 n7 c7, .bool (!(cF q).ok (get zeroM q))]
          simpa using this
        have q8 : Below w7.heap.size w7 w8 := by rw [hw8]; exact below_and (below_alloc _ _) (Nat.le_refl _) (below_alloc _ _)
        rw [← hw8]
        clear hw8
        have hb7 : Below w6.heap.size w6 w7 := q7.below (Fr.nil _) (Nat.le_refl _)
        have q68 := below_and hb7 (Nat.le_refl _) q8
        have qr8 := below_and hb6 (Nat.le_refl _) q68
        have B8 := below_and hB le qr8
        have r6 : Rd w8 (.slice ao6 n6 c6) (wrF m q) := (q6.own.rd (hs.byt hz hql)).below q68
        have r7 : Rd w8 (.slice ao7 n7 c7) (wrF zeroM q) := (q7.own.rd ((SOk.zero Any w 0).byt (by decide) hql)).below q8
        have ra8 := ra.below qr8
        have rx8 := rx.below qr8
        have rh8 := rh.below qr8
        have o8 := ho.below qr8
        have s8 : w3.heap.size ≤ w8.heap.size := Nat.le_trans hs3 qr8.size
        have hS := same_any w8 _ _ _ _ r6 r7
        have HZR := (show Hid (zF m q = (okF m q && decide (wrF m q = wrF zeroM q))) from zF_ref m hql)
        have y0 := ry.cell (j := 0) rfl
        have y1 := ry.cell (j := 1) rfl
        have z0 := rz.cell (j := 0) rfl
        have HL1 := (show Hid (Lo m (q + 1) = Lo m q) from Lo_no m HC.out)
        have HB1 := (show Hid (Bo m (q + 1) = Bo m q) from Bo_no m HC.out)
        clear q6 q7 hb6 hb7 q8 q68 qr8 hF1 HF2 ra rx rh ho r6 r7 ry rz B6 ch
        cases hok : (cF q).ok (get m q) with
        | false =>
          rw [hok] at y1
          have HE := (show Hid (encE m = 51) from enc_field hql HC.out (by rw [HZR.out]; unfold okF; rw [hok]; rfl))
          clear hok
          go_wp2_with fail
          go_ret2
          exact NIL.out B8 HE.out
        | true =>
          rw [hok] at y1
          by_cases hsm : wrF m q = wrF zeroM q
          · rw [decide_eq_true hsm] at hS
            have HZ1 := (show Hid (∀ j, j < q + 1 → (fl m.kind).contains j = false → zF m j = true) from fun j hj hf => by
              rcases Nat.lt_or_ge j q with h1 | h1
              · exact HZ.out j h1 hf
              · obtain rfl : j = q := by omega
                rw [HZR.out, decide_eq_true hsm]
                unfold okF
                rw [hok]
                rfl)
            clear hok hsm
            go_wp2_with (go_at_call 22; refine hS.mono ?_; rintro e w8 ⟨rfl, rfl⟩)
            go_roundw
            case rel => exact ⟨q + 1, ak, nk, ck, by omega, by go_num, by rw [HB1.out]; exact ra8, by rw [HL1.out]; exact o8, hfr, rx8, rh8, B8, s8, HZ1⟩
            case measure => simp [intOf]; omega
          · rw [decide_eq_false hsm] at hS
            have HE := (show Hid (encE m = 51) from enc_field hql HC.out (by rw [HZR.out, decide_eq_false hsm, Bool.and_false]))
            clear hok hsm
            go_wp2_with (go_at_call 22; refine hS.mono ?_; rintro e w8 ⟨rfl, rfl⟩)
            go_ret2
            exact NIL.out B8 HE.out
    · obtain rfl : q = 15 := by omega
      have hform : nk = (byM m).length := by
        obtain ⟨ao', cap', e, _⟩ := ho.form
        injection e with _ e _
        rw [e, bc_len, Lo_all]
      subst hform
      have d0 := ra.cell (j := 0) rfl
      have d1 := ra.cell (j := 1) rfl
      have hlo := Lo_len m hq hz
      rw [Lo_all] at hlo
      cases hb : Bo m 15 with
      | true =>
        rw [hb] at d1
        have HE := (show Hid (encE m = 51) from enc_bad hb)
        clear hb
        go_wp2_with fail
        go_ret2
        exact NIL.out hB HE.out
      | false =>
        rw [hb] at d1
        have HG := (show Hid (badM m = false) from enc_good he' HZ.out hb)
        have hby : Byt (byM m) := (outI_byt _).app (wrFs_byt hs hz fun i hi => nice_lt (fl_nice _) i hi)
        rw [Lo_all] at ho
        have HRD := (show Hid (Rd wr (.slice ak (byM m).length ck) (byM m)) from ho.rd hby)
        have HEE := (show Hid (encE m = if 1048576 < (byM m).length then 53 else 0) by show _ = _; unfold encE; rw [HG.out]; rfl)
        have HEB := (show Hid (encE m = 0 → encB m = byM m) from fun e => by unfold encB; rw [if_pos e])
        clear hb ho hby
        by_cases hbig : 1048576 < (byM m).length
        · have hbig' : (1048576 : Int) < (byM m).length := by omega
          go_wp2_with fail
          go_ret2
          have e : encE m = 53 := by rw [HEE.out, if_pos hbig]
          exact ⟨_, by rw [e]; rfl, by rw [encB_no (by rw [e]; decide)]; exact (Own.nil wr 5).rd (l := []) Byt.nil, hB⟩
        · have hbig' : decide ((1048576 : Int) < (byM m).length) = false := by simp; omega
          go_wp2_with fail
          go_ret2
          have e : encE m = 0 := by rw [HEE.out, if_neg hbig]
          exact ⟨_, by rw [e]; rfl, by rw [HEB.out e]; exact HRD.out, hB⟩
end
end Go.Proofs.YtgbfmccecnfooaaGreatDoor
