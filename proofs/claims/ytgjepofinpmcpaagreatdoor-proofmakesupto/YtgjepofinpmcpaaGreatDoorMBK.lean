/- The document's writing: fields. -/
import Derived.Test.YtgjepofinpmcpaaGreatDoorMBH
set_option linter.unusedSimpArgs false
set_option linter.unusedVariables false
namespace Go.Proofs.YtgjepofinpmcpaaGreatDoor
open Go.RowKit Oct
theorem zBh (w : World) (sv : Value) (bad : Bool) (m : PMsg) (s : SV) : ∃ a2 w2, Row w2 w.heap.size 109 [sv, .bool bad] ∧ Row w2 (w.heap.size + 1) 40 (mc m s) ∧ Row w2 (w.heap.size + 2) 109 [.slice none 0 0, .bool false] ∧ Below w.heap.size w w2 ∧
    a2 = (w.alloc (.cells #[sv, .bool bad] 109)).alloc (.cells (mc m s).toArray 40) ∧ w2 = a2.alloc (.cells #[.slice none 0 0, .bool false] 109) := by
  refine ⟨_, _, zA4 (zA4 (Row.new w _ _) _) _, ?_, ?_, (((Below.refl _ w).alloc zN _).alloc (by simp) _).alloc (by simp; omega) _, rfl, rfl⟩
  · have := zA4 (Row.new (w.alloc (.cells #[sv, .bool bad] 109)) 40 (mc m s)) (.cells #[.slice none 0 0, .bool false] 109)
    simpa using this
  · have := Row.new ((w.alloc (.cells #[sv, .bool bad] 109)).alloc (.cells (mc m s).toArray 40)) 109 [.slice none 0 0, .bool false]
    simpa using this
set_option maxRecDepth 10000 in
set_option maxHeartbeats 4000000 in
theorem zQp (w0 w : World) (sv : Value) (bad : Bool) (L : List Int) (m : PMsg) (s : SV) (hB0 : Below w0.heap.size w0 w) (hf : Fr w0.heap.size sv) (hown : Own w 5 sv (bc L)) (hs : SOk Any w0 m s) (hl : L.length + bM m * 20 ≤ 140718000000000) (hz : bM m ≤ 1100000) :
    Calls Tryz.prog 60 #[.agg #[sv, .bool bad], .agg (mc m s).toArray, .int .i64 1] w (zCb (cF 1) (get m 1) w sv bad L) := by
  obtain ⟨a2, w2, ra, rb, rr, hB, hw2, hw3⟩ := zBh w sv bad m s
  have hBw0 := zA1 hB0 zN hB
  have hoL := hown.below hB
  have hne0 := zA6 ra hoL (by decide)
  have hne1 := zA6 rb hoL (by decide)
  have hne2 := zA6 rr hoL (by decide)
  simp only [bM] at hl hz
  have hN := zAq w2 sv bad L m.slot hoL (by omega)
  have c1 := rb.cell (j := 3) rfl
  go_enter Tryz.func60, Tryz.ntmps60
  go_upto_region 1 with fail
  rw [← hw2, ← hw3]
  clear hw2 hw3
  go_wp2_with (first
    | (refine zAa rfl _ _ rfl w.heap.size rfl _ _ ra _ Tryz.underlying109 rfl (by kernel_rfl) ?_)
    | (go_at_call 59; refine hN.mono ?_; rintro e w3 ⟨v3, rfl, q3⟩; obtain ⟨ao3, n3, c3, rfl⟩ := zAg q3.own; have rr3 := rr.grown q3.grown hne2)
    | (refine zA7 rfl _ _ _ rfl (w.heap.size + 2) [.slice ao3 n3 c3, .bool (bad || !cN.ok m.slot)] rfl rfl _ _ rr3 rfl (by kernel_rfl) zC9 ?_; intro w9 hr9 hg9))
  have hr9 := hr9.out
  refine bodyPost_ret (v := .agg ([.slice ao3 n3 c3, .bool (bad || !cN.ok m.slot)] : List Value).toArray) (results_cell_row rfl _ _ (w.heap.size + 2) _ _ (0, 0) _ (by rfl) hr9 Tryz.underlying109 rfl (by kernel_rfl)) rfl ?_
  exact ⟨_, rfl, App.after (App.pre hB q3) (by omega) hg9 (zA6 rr3 q3.own (by decide))⟩
set_option maxRecDepth 10000 in
set_option maxHeartbeats 4000000 in
theorem zRa (w0 w : World) (sv : Value) (bad : Bool) (L : List Int) (m : PMsg) (s : SV) (hB0 : Below w0.heap.size w0 w) (hf : Fr w0.heap.size sv) (hown : Own w 5 sv (bc L)) (hs : SOk Any w0 m s) (hl : L.length + bM m * 20 ≤ 140718000000000) (hz : bM m ≤ 1100000) :
    Calls Tryz.prog 60 #[.agg #[sv, .bool bad], .agg (mc m s).toArray, .int .i64 2] w (zCb (cF 2) (get m 2) w sv bad L) := by
  obtain ⟨a2, w2, ra, rb, rr, hB, hw2, hw3⟩ := zBh w sv bad m s
  have hBw0 := zA1 hB0 zN hB
  have hoL := hown.below hB
  have hne0 := zA6 ra hoL (by decide)
  have hne1 := zA6 rb hoL (by decide)
  have hne2 := zA6 rr hoL (by decide)
  simp only [bM] at hl hz
  have hN := zAq w2 sv bad L m.frm hoL (by omega)
  have c1 := rb.cell (j := 4) rfl
  go_enter Tryz.func60, Tryz.ntmps60
  go_upto_region 1 with fail
  rw [← hw2, ← hw3]
  clear hw2 hw3
  go_wp2_with (first
    | (refine zAa rfl _ _ rfl w.heap.size rfl _ _ ra _ Tryz.underlying109 rfl (by kernel_rfl) ?_)
    | (go_at_call 59; refine hN.mono ?_; rintro e w3 ⟨v3, rfl, q3⟩; obtain ⟨ao3, n3, c3, rfl⟩ := zAg q3.own; have rr3 := rr.grown q3.grown hne2)
    | (refine zA7 rfl _ _ _ rfl (w.heap.size + 2) [.slice ao3 n3 c3, .bool (bad || !cN.ok m.frm)] rfl rfl _ _ rr3 rfl (by kernel_rfl) zC9 ?_; intro w9 hr9 hg9))
  have hr9 := hr9.out
  refine bodyPost_ret (v := .agg ([.slice ao3 n3 c3, .bool (bad || !cN.ok m.frm)] : List Value).toArray) (results_cell_row rfl _ _ (w.heap.size + 2) _ _ (0, 0) _ (by rfl) hr9 Tryz.underlying109 rfl (by kernel_rfl)) rfl ?_
  exact ⟨_, rfl, App.after (App.pre hB q3) (by omega) hg9 (zA6 rr3 q3.own (by decide))⟩
set_option maxRecDepth 10000 in
set_option maxHeartbeats 4000000 in
theorem zQ4 (w0 w : World) (sv : Value) (bad : Bool) (L : List Int) (m : PMsg) (s : SV) (hB0 : Below w0.heap.size w0 w) (hf : Fr w0.heap.size sv) (hown : Own w 5 sv (bc L)) (hs : SOk Any w0 m s) (hl : L.length + bM m * 20 ≤ 140718000000000) (hz : bM m ≤ 1100000) :
    Calls Tryz.prog 60 #[.agg #[sv, .bool bad], .agg (mc m s).toArray, .int .i64 3] w (zCb (cF 3) (get m 3) w sv bad L) := by
  obtain ⟨a2, w2, ra, rb, rr, hB, hw2, hw3⟩ := zBh w sv bad m s
  have hBw0 := zA1 hB0 zN hB
  have hoL := hown.below hB
  have hne0 := zA6 ra hoL (by decide)
  have hne1 := zA6 rb hoL (by decide)
  have hne2 := zA6 rr hoL (by decide)
  simp only [bM] at hl hz
  have hN := zAq w2 sv bad L m.to hoL (by omega)
  have c1 := rb.cell (j := 5) rfl
  go_enter Tryz.func60, Tryz.ntmps60
  go_upto_region 1 with fail
  rw [← hw2, ← hw3]
  clear hw2 hw3
  go_wp2_with (first
    | (refine zAa rfl _ _ rfl w.heap.size rfl _ _ ra _ Tryz.underlying109 rfl (by kernel_rfl) ?_)
    | (go_at_call 59; refine hN.mono ?_; rintro e w3 ⟨v3, rfl, q3⟩; obtain ⟨ao3, n3, c3, rfl⟩ := zAg q3.own; have rr3 := rr.grown q3.grown hne2)
    | (refine zA7 rfl _ _ _ rfl (w.heap.size + 2) [.slice ao3 n3 c3, .bool (bad || !cN.ok m.to)] rfl rfl _ _ rr3 rfl (by kernel_rfl) zC9 ?_; intro w9 hr9 hg9))
  have hr9 := hr9.out
  refine bodyPost_ret (v := .agg ([.slice ao3 n3 c3, .bool (bad || !cN.ok m.to)] : List Value).toArray) (results_cell_row rfl _ _ (w.heap.size + 2) _ _ (0, 0) _ (by rfl) hr9 Tryz.underlying109 rfl (by kernel_rfl)) rfl ?_
  exact ⟨_, rfl, App.after (App.pre hB q3) (by omega) hg9 (zA6 rr3 q3.own (by decide))⟩
set_option maxRecDepth 10000 in
set_option maxHeartbeats 4000000 in
theorem zRb (w0 w : World) (sv : Value) (bad : Bool) (L : List Int) (m : PMsg) (s : SV) (hB0 : Below w0.heap.size w0 w) (hf : Fr w0.heap.size sv) (hown : Own w 5 sv (bc L)) (hs : SOk Any w0 m s) (hl : L.length + bM m * 20 ≤ 140718000000000) (hz : bM m ≤ 1100000) :
    Calls Tryz.prog 60 #[.agg #[sv, .bool bad], .agg (mc m s).toArray, .int .i64 4] w (zCb (cF 4) (get m 4) w sv bad L) := by
  obtain ⟨a2, w2, ra, rb, rr, hB, hw2, hw3⟩ := zBh w sv bad m s
  have hBw0 := zA1 hB0 zN hB
  have hoL := hown.below hB
  have hne0 := zA6 ra hoL (by decide)
  have hne1 := zA6 rb hoL (by decide)
  have hne2 := zA6 rr hoL (by decide)
  simp only [bM] at hl hz
  have hN := zAq w2 sv bad L m.idx hoL (by omega)
  have c1 := rb.cell (j := 6) rfl
  go_enter Tryz.func60, Tryz.ntmps60
  go_upto_region 1 with fail
  rw [← hw2, ← hw3]
  clear hw2 hw3
  go_wp2_with (first
    | (refine zAa rfl _ _ rfl w.heap.size rfl _ _ ra _ Tryz.underlying109 rfl (by kernel_rfl) ?_)
    | (go_at_call 59; refine hN.mono ?_; rintro e w3 ⟨v3, rfl, q3⟩; obtain ⟨ao3, n3, c3, rfl⟩ := zAg q3.own; have rr3 := rr.grown q3.grown hne2)
    | (refine zA7 rfl _ _ _ rfl (w.heap.size + 2) [.slice ao3 n3 c3, .bool (bad || !cN.ok m.idx)] rfl rfl _ _ rr3 rfl (by kernel_rfl) zC9 ?_; intro w9 hr9 hg9))
  have hr9 := hr9.out
  refine bodyPost_ret (v := .agg ([.slice ao3 n3 c3, .bool (bad || !cN.ok m.idx)] : List Value).toArray) (results_cell_row rfl _ _ (w.heap.size + 2) _ _ (0, 0) _ (by rfl) hr9 Tryz.underlying109 rfl (by kernel_rfl)) rfl ?_
  exact ⟨_, rfl, App.after (App.pre hB q3) (by omega) hg9 (zA6 rr3 q3.own (by decide))⟩
set_option maxRecDepth 10000 in
set_option maxHeartbeats 4000000 in
theorem zQx (w0 w : World) (sv : Value) (bad : Bool) (L : List Int) (m : PMsg) (s : SV) (hB0 : Below w0.heap.size w0 w) (hf : Fr w0.heap.size sv) (hown : Own w 5 sv (bc L)) (hs : SOk Any w0 m s) (hl : L.length + bM m * 20 ≤ 140718000000000) (hz : bM m ≤ 1100000) :
    Calls Tryz.prog 60 #[.agg #[sv, .bool bad], .agg (mc m s).toArray, .int .i64 5] w (zCb (cF 5) (get m 5) w sv bad L) := by
  obtain ⟨a2, w2, ra, rb, rr, hB, hw2, hw3⟩ := zBh w sv bad m s
  have hBw0 := zA1 hB0 zN hB
  have hoL := hown.below hB
  have hne0 := zA6 ra hoL (by decide)
  have hne1 := zA6 rb hoL (by decide)
  have hne2 := zA6 rr hoL (by decide)
  simp only [bM] at hl hz
  have hN := zAq w2 sv bad L m.cnt hoL (by omega)
  have c1 := rb.cell (j := 7) rfl
  go_enter Tryz.func60, Tryz.ntmps60
  go_upto_region 1 with fail
  rw [← hw2, ← hw3]
  clear hw2 hw3
  go_wp2_with (first
    | (refine zAa rfl _ _ rfl w.heap.size rfl _ _ ra _ Tryz.underlying109 rfl (by kernel_rfl) ?_)
    | (go_at_call 59; refine hN.mono ?_; rintro e w3 ⟨v3, rfl, q3⟩; obtain ⟨ao3, n3, c3, rfl⟩ := zAg q3.own; have rr3 := rr.grown q3.grown hne2)
    | (refine zA7 rfl _ _ _ rfl (w.heap.size + 2) [.slice ao3 n3 c3, .bool (bad || !cN.ok m.cnt)] rfl rfl _ _ rr3 rfl (by kernel_rfl) zC9 ?_; intro w9 hr9 hg9))
  have hr9 := hr9.out
  refine bodyPost_ret (v := .agg ([.slice ao3 n3 c3, .bool (bad || !cN.ok m.cnt)] : List Value).toArray) (results_cell_row rfl _ _ (w.heap.size + 2) _ _ (0, 0) _ (by rfl) hr9 Tryz.underlying109 rfl (by kernel_rfl)) rfl ?_
  exact ⟨_, rfl, App.after (App.pre hB q3) (by omega) hg9 (zA6 rr3 q3.own (by decide))⟩
set_option maxRecDepth 10000 in
set_option maxHeartbeats 4000000 in
theorem zQb (w0 w : World) (sv : Value) (bad : Bool) (L : List Int) (m : PMsg) (s : SV) (hB0 : Below w0.heap.size w0 w) (hf : Fr w0.heap.size sv) (hown : Own w 5 sv (bc L)) (hs : SOk Any w0 m s) (hl : L.length + bM m * 20 ≤ 140718000000000) (hz : bM m ≤ 1100000) :
    Calls Tryz.prog 60 #[.agg #[sv, .bool bad], .agg (mc m s).toArray, .int .i64 6] w (zCb (cF 6) (get m 6) w sv bad L) := by
  obtain ⟨a2, w2, ra, rb, rr, hB, hw2, hw3⟩ := zBh w sv bad m s
  have hBw0 := zA1 hB0 zN hB
  have hoL := hown.below hB
  have hne0 := zA6 ra hoL (by decide)
  have hne1 := zA6 rb hoL (by decide)
  have hne2 := zA6 rr hoL (by decide)
  simp only [bM] at hl hz
  have y1 : m.req.2.2.1.length ≤ 2147483647 := by simp only [bQ, bT] at hz; omega
  have y2 : m.req.2.2.2.length ≤ 2147483647 := by simp only [bQ, bT] at hz; omega
  have hN := zEx w0 w2 sv bad L [.int .i64 m.req.1, .int .i64 m.req.2.1, s.o, s.g] m.req hBw0 hf hoL ⟨_, _, rfl, hs.o, hs.g⟩ (by omega) y1 y2
  have hrng : w2.rangeAt (w.heap.size + 1) 8 [.int .i64 m.req.1, .int .i64 m.req.2.1, s.o, s.g] := fun j v hj => by
    match j, hj with
    | 0, hj => cases hj; exact rb.cell (j := 8) rfl
    | 1, hj => cases hj; exact rb.cell (j := 9) rfl
    | 2, hj => cases hj; exact rb.cell (j := 10) rfl
    | 3, hj => cases hj; exact rb.cell (j := 11) rfl
    | j + 4, hj => simp at hj
  go_enter Tryz.func60, Tryz.ntmps60
  go_upto_region 1 with fail
  rw [← hw2, ← hw3]
  clear hw2 hw3
  go_wp2_with (first
    | (refine zAa rfl _ _ rfl w.heap.size rfl _ _ ra _ Tryz.underlying109 rfl (by kernel_rfl) ?_)
    | (refine wpList_load_mid rfl _ _ rfl (w.heap.size + 1) 8 rfl [.int .i64 m.req.1, .int .i64 m.req.2.1, s.o, s.g] _ hrng Tryz.underlying34 rfl (by kernel_rfl) ?_)
    | (go_at_call 101; refine hN.mono ?_; rintro e w3 ⟨v3, rfl, q3⟩; obtain ⟨ao3, n3, c3, rfl⟩ := zAg q3.own; have rr3 := rr.grown q3.grown hne2)
    | (refine zA7 rfl _ _ _ rfl (w.heap.size + 2) [.slice ao3 n3 c3, .bool (bad || !zBc.ok m.req)] rfl rfl _ _ rr3 rfl (by kernel_rfl) zC9 ?_; intro w9 hr9 hg9))
  have hr9 := hr9.out
  refine bodyPost_ret (v := .agg ([.slice ao3 n3 c3, .bool (bad || !zBc.ok m.req)] : List Value).toArray) (results_cell_row rfl _ _ (w.heap.size + 2) _ _ (0, 0) _ (by rfl) hr9 Tryz.underlying109 rfl (by kernel_rfl)) rfl ?_
  exact ⟨_, rfl, App.after (App.pre hB q3) (by omega) hg9 (zA6 rr3 q3.own (by decide))⟩
set_option maxRecDepth 10000 in
set_option maxHeartbeats 4000000 in
theorem zQv (w0 w : World) (sv : Value) (bad : Bool) (L : List Int) (m : PMsg) (s : SV) (hB0 : Below w0.heap.size w0 w) (hf : Fr w0.heap.size sv) (hown : Own w 5 sv (bc L)) (hs : SOk Any w0 m s) (hl : L.length + bM m * 20 ≤ 140718000000000) (hz : bM m ≤ 1100000) :
    Calls Tryz.prog 60 #[.agg #[sv, .bool bad], .agg (mc m s).toArray, .int .i64 7] w (zCb (cF 7) (get m 7) w sv bad L) := by
  obtain ⟨a2, w2, ra, rb, rr, hB, hw2, hw3⟩ := zBh w sv bad m s
  have hBw0 := zA1 hB0 zN hB
  have hoL := hown.below hB
  have hne0 := zA6 ra hoL (by decide)
  have hne1 := zA6 rb hoL (by decide)
  have hne2 := zA6 rr hoL (by decide)
  simp only [bM] at hl hz
  have y1 : m.oth.2.2.1.length ≤ 2147483647 := by simp only [bQ, bT] at hz; omega
  have y2 : m.oth.2.2.2.length ≤ 2147483647 := by simp only [bQ, bT] at hz; omega
  have hN := zEx w0 w2 sv bad L [.int .i64 m.oth.1, .int .i64 m.oth.2.1, s.o', s.g'] m.oth hBw0 hf hoL ⟨_, _, rfl, hs.o', hs.g'⟩ (by omega) y1 y2
  have hrng : w2.rangeAt (w.heap.size + 1) 12 [.int .i64 m.oth.1, .int .i64 m.oth.2.1, s.o', s.g'] := fun j v hj => by
    match j, hj with
    | 0, hj => cases hj; exact rb.cell (j := 12) rfl
    | 1, hj => cases hj; exact rb.cell (j := 13) rfl
    | 2, hj => cases hj; exact rb.cell (j := 14) rfl
    | 3, hj => cases hj; exact rb.cell (j := 15) rfl
    | j + 4, hj => simp at hj
  go_enter Tryz.func60, Tryz.ntmps60
  go_upto_region 1 with fail
  rw [← hw2, ← hw3]
  clear hw2 hw3
  go_wp2_with (first
    | (refine zAa rfl _ _ rfl w.heap.size rfl _ _ ra _ Tryz.underlying109 rfl (by kernel_rfl) ?_)
    | (refine wpList_load_mid rfl _ _ rfl (w.heap.size + 1) 12 rfl [.int .i64 m.oth.1, .int .i64 m.oth.2.1, s.o', s.g'] _ hrng Tryz.underlying34 rfl (by kernel_rfl) ?_)
    | (go_at_call 101; refine hN.mono ?_; rintro e w3 ⟨v3, rfl, q3⟩; obtain ⟨ao3, n3, c3, rfl⟩ := zAg q3.own; have rr3 := rr.grown q3.grown hne2)
    | (refine zA7 rfl _ _ _ rfl (w.heap.size + 2) [.slice ao3 n3 c3, .bool (bad || !zBc.ok m.oth)] rfl rfl _ _ rr3 rfl (by kernel_rfl) zC9 ?_; intro w9 hr9 hg9))
  have hr9 := hr9.out
  refine bodyPost_ret (v := .agg ([.slice ao3 n3 c3, .bool (bad || !zBc.ok m.oth)] : List Value).toArray) (results_cell_row rfl _ _ (w.heap.size + 2) _ _ (0, 0) _ (by rfl) hr9 Tryz.underlying109 rfl (by kernel_rfl)) rfl ?_
  exact ⟨_, rfl, App.after (App.pre hB q3) (by omega) hg9 (zA6 rr3 q3.own (by decide))⟩
set_option maxRecDepth 10000 in
set_option maxHeartbeats 4000000 in
theorem zQ0 (w0 w : World) (sv : Value) (bad : Bool) (L : List Int) (m : PMsg) (s : SV) (hB0 : Below w0.heap.size w0 w) (hf : Fr w0.heap.size sv) (hown : Own w 5 sv (bc L)) (hs : SOk Any w0 m s) (hl : L.length + bM m * 20 ≤ 140718000000000) (hz : bM m ≤ 1100000) :
    Calls Tryz.prog 60 #[.agg #[sv, .bool bad], .agg (mc m s).toArray, .int .i64 8] w (zCb (cF 8) (get m 8) w sv bad L) := by
  obtain ⟨a2, w2, ra, rb, rr, hB, hw2, hw3⟩ := zBh w sv bad m s
  have hBw0 := zA1 hB0 zN hB
  have hoL := hown.below hB
  have hne0 := zA6 ra hoL (by decide)
  have hne1 := zA6 rb hoL (by decide)
  have hne2 := zA6 rr hoL (by decide)
  simp only [bM] at hl hz
  have y1 : m.data.length ≤ 2147483647 := by simp only [bT] at hz; omega
  have hN := zC1 w2 sv bad L s.d m.data hoL (hs.d.mv (Mv.below hBw0)).1 (by omega) y1
  have c1 := rb.cell (j := 16) rfl
  go_enter Tryz.func60, Tryz.ntmps60
  go_upto_region 1 with fail
  rw [← hw2, ← hw3]
  clear hw2 hw3
  go_wp2_with (first
    | (refine zAa rfl _ _ rfl w.heap.size rfl _ _ ra _ Tryz.underlying109 rfl (by kernel_rfl) ?_)
    | (go_at_call 102; refine hN.mono ?_; rintro e w3 ⟨v3, rfl, q3⟩; obtain ⟨ao3, n3, c3, rfl⟩ := zAg q3.own; have rr3 := rr.grown q3.grown hne2)
    | (refine zA7 rfl _ _ _ rfl (w.heap.size + 2) [.slice ao3 n3 c3, .bool (bad || !cT.ok m.data)] rfl rfl _ _ rr3 rfl (by kernel_rfl) zC9 ?_; intro w9 hr9 hg9))
  have hr9 := hr9.out
  refine bodyPost_ret (v := .agg ([.slice ao3 n3 c3, .bool (bad || !cT.ok m.data)] : List Value).toArray) (results_cell_row rfl _ _ (w.heap.size + 2) _ _ (0, 0) _ (by rfl) hr9 Tryz.underlying109 rfl (by kernel_rfl)) rfl ?_
  exact ⟨_, rfl, App.after (App.pre hB q3) (by omega) hg9 (zA6 rr3 q3.own (by decide))⟩
set_option maxRecDepth 10000 in
set_option maxHeartbeats 4000000 in
theorem zR3 (w0 w : World) (sv : Value) (bad : Bool) (L : List Int) (m : PMsg) (s : SV) (hB0 : Below w0.heap.size w0 w) (hf : Fr w0.heap.size sv) (hown : Own w 5 sv (bc L)) (hs : SOk Any w0 m s) (hl : L.length + bM m * 20 ≤ 140718000000000) (hz : bM m ≤ 1100000) :
    Calls Tryz.prog 60 #[.agg #[sv, .bool bad], .agg (mc m s).toArray, .int .i64 9] w (zCb (cF 9) (get m 9) w sv bad L) := by
  obtain ⟨a2, w2, ra, rb, rr, hB, hw2, hw3⟩ := zBh w sv bad m s
  have hBw0 := zA1 hB0 zN hB
  have hoL := hown.below hB
  have hne0 := zA6 ra hoL (by decide)
  have hne1 := zA6 rb hoL (by decide)
  have hne2 := zA6 rr hoL (by decide)
  simp only [bM] at hl hz
  have y1 : m.sig.length ≤ 2147483647 := by simp only [bT] at hz; omega
  have hN := zC1 w2 sv bad L s.s m.sig hoL (hs.s.mv (Mv.below hBw0)).1 (by omega) y1
  have c1 := rb.cell (j := 17) rfl
  go_enter Tryz.func60, Tryz.ntmps60
  go_upto_region 1 with fail
  rw [← hw2, ← hw3]
  clear hw2 hw3
  go_wp2_with (first
    | (refine zAa rfl _ _ rfl w.heap.size rfl _ _ ra _ Tryz.underlying109 rfl (by kernel_rfl) ?_)
    | (go_at_call 102; refine hN.mono ?_; rintro e w3 ⟨v3, rfl, q3⟩; obtain ⟨ao3, n3, c3, rfl⟩ := zAg q3.own; have rr3 := rr.grown q3.grown hne2)
    | (refine zA7 rfl _ _ _ rfl (w.heap.size + 2) [.slice ao3 n3 c3, .bool (bad || !cT.ok m.sig)] rfl rfl _ _ rr3 rfl (by kernel_rfl) zC9 ?_; intro w9 hr9 hg9))
  have hr9 := hr9.out
  refine bodyPost_ret (v := .agg ([.slice ao3 n3 c3, .bool (bad || !cT.ok m.sig)] : List Value).toArray) (results_cell_row rfl _ _ (w.heap.size + 2) _ _ (0, 0) _ (by rfl) hr9 Tryz.underlying109 rfl (by kernel_rfl)) rfl ?_
  exact ⟨_, rfl, App.after (App.pre hB q3) (by omega) hg9 (zA6 rr3 q3.own (by decide))⟩
set_option maxRecDepth 10000 in
set_option maxHeartbeats 4000000 in
theorem zNn (w0 w : World) (sv : Value) (bad : Bool) (L : List Int) (m : PMsg) (s : SV) (hB0 : Below w0.heap.size w0 w) (hf : Fr w0.heap.size sv) (hown : Own w 5 sv (bc L)) (hs : SOk Any w0 m s) (hl : L.length + bM m * 20 ≤ 140718000000000) (hz : bM m ≤ 1100000) :
    Calls Tryz.prog 60 #[.agg #[sv, .bool bad], .agg (mc m s).toArray, .int .i64 10] w (zCb (cF 10) (get m 10) w sv bad L) := by
  obtain ⟨a2, w2, ra, rb, rr, hB, hw2, hw3⟩ := zBh w sv bad m s
  have hBw0 := zA1 hB0 zN hB
  have hoL := hown.below hB
  have hne0 := zA6 ra hoL (by decide)
  have hne1 := zA6 rb hoL (by decide)
  have hne2 := zA6 rr hoL (by decide)
  simp only [bM] at hl hz
  have hN := zD5 w0 w2 sv bad L s.c m.cert hBw0 hf hoL hs.c (by omega) (by omega)
  have c1 := rb.cell (j := 18) rfl
  go_enter Tryz.func60, Tryz.ntmps60
  go_upto_region 1 with fail
  rw [← hw2, ← hw3]
  clear hw2 hw3
  go_wp2_with (first
    | (refine zAa rfl _ _ rfl w.heap.size rfl _ _ ra _ Tryz.underlying109 rfl (by kernel_rfl) ?_)
    | (go_at_call 103; refine hN.mono ?_; rintro e w3 ⟨v3, rfl, q3⟩; obtain ⟨ao3, n3, c3, rfl⟩ := zAg q3.own; have rr3 := rr.grown q3.grown hne2)
    | (refine zA7 rfl _ _ _ rfl (w.heap.size + 2) [.slice ao3 n3 c3, .bool (bad || !(cL zAi).ok m.cert)] rfl rfl _ _ rr3 rfl (by kernel_rfl) zC9 ?_; intro w9 hr9 hg9))
  have hr9 := hr9.out
  refine bodyPost_ret (v := .agg ([.slice ao3 n3 c3, .bool (bad || !(cL zAi).ok m.cert)] : List Value).toArray) (results_cell_row rfl _ _ (w.heap.size + 2) _ _ (0, 0) _ (by rfl) hr9 Tryz.underlying109 rfl (by kernel_rfl)) rfl ?_
  exact ⟨_, rfl, App.after (App.pre hB q3) (by omega) hg9 (zA6 rr3 q3.own (by decide))⟩
set_option maxRecDepth 10000 in
set_option maxHeartbeats 4000000 in
theorem zNh (w0 w : World) (sv : Value) (bad : Bool) (L : List Int) (m : PMsg) (s : SV) (hB0 : Below w0.heap.size w0 w) (hf : Fr w0.heap.size sv) (hown : Own w 5 sv (bc L)) (hs : SOk Any w0 m s) (hl : L.length + bM m * 20 ≤ 140718000000000) (hz : bM m ≤ 1100000) :
    Calls Tryz.prog 60 #[.agg #[sv, .bool bad], .agg (mc m s).toArray, .int .i64 11] w (zCb (cF 11) (get m 11) w sv bad L) := by
  obtain ⟨a2, w2, ra, rb, rr, hB, hw2, hw3⟩ := zBh w sv bad m s
  have hBw0 := zA1 hB0 zN hB
  have hoL := hown.below hB
  have hne0 := zA6 ra hoL (by decide)
  have hne1 := zA6 rb hoL (by decide)
  have hne2 := zA6 rr hoL (by decide)
  simp only [bM] at hl hz
  have hN := zD5 w0 w2 sv bad L s.v m.votes hBw0 hf hoL hs.v (by omega) (by omega)
  have c1 := rb.cell (j := 19) rfl
  go_enter Tryz.func60, Tryz.ntmps60
  go_upto_region 1 with fail
  rw [← hw2, ← hw3]
  clear hw2 hw3
  go_wp2_with (first
    | (refine zAa rfl _ _ rfl w.heap.size rfl _ _ ra _ Tryz.underlying109 rfl (by kernel_rfl) ?_)
    | (go_at_call 103; refine hN.mono ?_; rintro e w3 ⟨v3, rfl, q3⟩; obtain ⟨ao3, n3, c3, rfl⟩ := zAg q3.own; have rr3 := rr.grown q3.grown hne2)
    | (refine zA7 rfl _ _ _ rfl (w.heap.size + 2) [.slice ao3 n3 c3, .bool (bad || !(cL zAi).ok m.votes)] rfl rfl _ _ rr3 rfl (by kernel_rfl) zC9 ?_; intro w9 hr9 hg9))
  have hr9 := hr9.out
  refine bodyPost_ret (v := .agg ([.slice ao3 n3 c3, .bool (bad || !(cL zAi).ok m.votes)] : List Value).toArray) (results_cell_row rfl _ _ (w.heap.size + 2) _ _ (0, 0) _ (by rfl) hr9 Tryz.underlying109 rfl (by kernel_rfl)) rfl ?_
  exact ⟨_, rfl, App.after (App.pre hB q3) (by omega) hg9 (zA6 rr3 q3.own (by decide))⟩
end Go.Proofs.YtgjepofinpmcpaaGreatDoor
