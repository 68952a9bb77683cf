/- catenarylaw16.ProofEnough: its walk. Written by mk17n.py. -/
import Derived.Test.YtgjepofinpmcpaaGreatDoorJBS
import Derived.Test.YtgjepofinpmcpaaGreatDoorJBT
import Derived.Test.YtgjepofinpmcpaaGreatDoorJBD
import Derived.Deep.Cut
import Derived.Deep.RegionHeld3
set_option linter.unusedVariables false
set_option linter.unusedSimpArgs false
namespace Go.Proofs.YtgjepofinpmcpaaGreatDoor
open Go.RowKit Oct Kvl

theorem xok_not {x y s i : Int} (h : ¬ (0 ≤ x ∧ x ≤ 2147483647 ∧ 0 ≤ y ∧ y ≤ 2147483647 ∧ 0 ≤ s ∧ s ≤ 2147483647 ∧ 0 ≤ i ∧ i ≤ 15)) : ¬ XOk x y s i := fun h' => h ⟨h'.x0, h'.x1, h'.y0, h'.y1, h'.s0, h'.s1, h'.i0, h'.i1⟩
theorem qok_not {r : PReq} (h : ¬ (0 ≤ r.1 ∧ r.1 ≤ 2147483647 ∧ 0 ≤ r.2.1 ∧ r.2.1 ≤ 2147483647 ∧ (r.2.2.1.length : Int) ≤ 65536 ∧ (r.2.2.2.length : Int) ≤ 65536)) : ¬ QOk r := fun h' => h ⟨h'.c0, h'.c1, h'.s0, h'.s1, by have := h'.o; omega, by have := h'.g; omega⟩
/-- What the first k requests have to be. -/
def okK (r0 r1 : PReq) (k : Nat) : Prop := (1 ≤ k → QOk r0) ∧ (2 ≤ k → QOk r1)
theorem okK_0 (r0 r1 : PReq) : okK r0 r1 0 := ⟨fun h => absurd h (by decide), fun h => absurd h (by decide)⟩
theorem okK_1 {r0 r1 : PReq} : okK r0 r1 1 ↔ QOk r0 := ⟨fun h => h.1 (by decide), fun h => ⟨fun _ => h, fun h => absurd h (by decide)⟩⟩
theorem okK_2 {r0 r1 : PReq} : okK r0 r1 2 ↔ okK r0 r1 1 ∧ QOk r1 := ⟨fun h => ⟨okK_1.2 (h.1 (by decide)), h.2 (by decide)⟩, fun h => ⟨fun _ => okK_1.1 h.1, fun _ => h.2⟩⟩

theorem ixR (a0 a1 a2 a3 b0 b1 b2 b3 : Value) (u : World) : (Instr.index 48 (.agg #[a0, a1, a2, a3, b0, b1, b2, b3]) (.int .i64 0)).run Tryz.prog u = .ok (.agg #[a0, a1, a2, a3]) u ∧ (Instr.index 48 (.agg #[a0, a1, a2, a3, b0, b1, b2, b3]) (.int .i64 1)).run Tryz.prog u = .ok (.agg #[b0, b1, b2, b3]) u := by
  have ht : Tryz.prog.underlying 48 = some (.array 2 34) := by kernel_rfl
  have h1 : (Tryz.prog.info? 34).map (·.size) = some 4 := by kernel_rfl
  cases hq : Tryz.prog.info? 34 with
  | none => rw [hq] at h1; cases h1
  | some i0 =>
    rw [hq] at h1
    have h2 : i0.size = 4 := by simpa using h1
    exact ⟨by simp [Instr.index, part, run_underlying ht, sizeOf, typeInfo, hq, h2, asIntOf], by simp [Instr.index, part, run_underlying ht, sizeOf, typeInfo, hq, h2, asIntOf]⟩
theorem copyQ2_any (w : World) (o p : Value) (r : PReq) (t : RT Any w o r.2.2.1) (u : RT Any w p r.2.2.2) (hz : tot [r.2.2.1, r.2.2.2] ≤ 2000000) :
    Calls Tryz.prog 16 #[.agg #[.int .i64 r.1, .int .i64 r.2.1, o, p]] w fun e w' => ∃ ao co ap cp, e = .returned (.agg #[.int .i64 r.1, .int .i64 r.2.1, .slice ao r.2.2.1.length co, .slice ap r.2.2.2.length cp]) ∧
      RT Any w' (.slice ao r.2.2.1.length co) r.2.2.1 ∧ RT Any w' (.slice ap r.2.2.2.length cp) r.2.2.2 ∧ Below w.heap.size w w' := by
  refine (copyQ_any w o p r t u hz).mono ?_
  rintro e w' ⟨ao, co, ap, cp, rfl, ⟨vo, vg, h, h1, h2⟩, hb⟩
  simp only [List.cons.injEq, and_true, true_and] at h
  obtain ⟨rfl, rfl⟩ := h
  exact ⟨ao, co, ap, cp, rfl, h1.mv Mv.any, h2.mv Mv.any, hb⟩
theorem body_q {r0 r1 : PReq} (h0 : QOk r0) (h1 : QOk r1) (h : r0 ≠ r1) : body r0 ≠ body r1 := fun e =>
  h ((body_inj (Nat.le_trans h0.tot (by decide)) (Nat.le_trans h1.tot (by decide)) ⟨by have := h0.c0; omega, by have := h0.c1; omega⟩ ⟨by have := h0.s0; omega, by have := h0.s1; omega⟩ ⟨by have := h1.c0; omega, by have := h1.c1; omega⟩ ⟨by have := h1.s0; omega, by have := h1.s1; omega⟩).1 e)

set_option maxRecDepth 10000 in
set_option maxHeartbeats 8000000 in
theorem prEnough_any (W : World) (x y s0 s1 : Int) (o0 p0 o1 p1 : Value) (r0 r1 : PReq) (t0 : RT Any W o0 r0.2.2.1) (u0 : RT Any W p0 r0.2.2.2) (t1 : RT Any W o1 r1.2.2.1) (u1 : RT Any W p1 r1.2.2.2) (hT : Tab W) :
    Calls Tryz.prog 6 #[.agg #[.int .i64 x, .int .i64 y], .agg #[.int .i64 s0, .int .i64 s1], .agg #[.int .i64 r0.1, .int .i64 r0.2.1, o0, p0, .int .i64 r1.1, .int .i64 r1.2.1, o1, p1]] W fun e w' => e = .returned (.bool true) ∧ Below W.heap.size W w' := by
  obtain ⟨ao0, co0, rfl, _⟩ := t0.form
  obtain ⟨ap0, cp0, rfl, _⟩ := u0.form
  obtain ⟨ao1, co1, rfl, _⟩ := t1.form
  obtain ⟨ap1, cp1, rfl, _⟩ := u1.form
  obtain ⟨w1, hw1⟩ : ∃ w1, w1 = W.alloc (.cells #[.int .i64 x, .int .i64 y] 32) := ⟨_, rfl⟩
  obtain ⟨w2, hw2⟩ : ∃ w2, w2 = w1.alloc (.cells #[.int .i64 s0, .int .i64 s1] 47) := ⟨_, rfl⟩
  obtain ⟨w3, hw3⟩ : ∃ w3, w3 = w2.alloc (.cells #[.int .i64 r0.1, .int .i64 r0.2.1, .slice ao0 r0.2.2.1.length co0, .slice ap0 r0.2.2.2.length cp0, .int .i64 r1.1, .int .i64 r1.2.1, .slice ao1 r1.2.2.1.length co1, .slice ap1 r1.2.2.2.length cp1] 48) := ⟨_, rfl⟩
  have e1 : w1.heap.size = W.heap.size + 1 := by rw [hw1]; simp
  have e2 : w2.heap.size = W.heap.size + 2 := by rw [hw2]; simp [e1]
  have B1 : Below W.heap.size W w1 := by rw [hw1]; exact below_alloc _ _
  have B2 : Below w1.heap.size w1 w2 := by rw [hw2]; exact below_alloc _ _
  have B3 : Below w2.heap.size w2 w3 := by rw [hw3]; exact below_alloc _ _
  have ra : Row w1 W.heap.size 32 [.int .i64 x, .int .i64 y] := by rw [hw1]; exact Row.new _ _ _
  have rb : Row w2 (W.heap.size + 1) 47 [.int .i64 s0, .int .i64 s1] := by rw [hw2, ← e1]; exact Row.new _ _ _
  have rc : Row w3 (W.heap.size + 2) 48 [.int .i64 r0.1, .int .i64 r0.2.1, .slice ao0 r0.2.2.1.length co0, .slice ap0 r0.2.2.2.length cp0, .int .i64 r1.1, .int .i64 r1.2.1, .slice ao1 r1.2.2.1.length co1, .slice ap1 r1.2.2.2.length cp1] := by rw [hw3, ← e2]; exact Row.new _ _ _
  have ra := (ra.below B2).below B3
  have rb := rb.below B3
  have BW : Below W.heap.size W w3 := below_and (below_and B1 (Nat.le_refl _) B2) (Nat.le_refl _) B3
  have hw : w3 = ((W.alloc (.cells #[.int .i64 x, .int .i64 y] 32)).alloc (.cells #[.int .i64 s0, .int .i64 s1] 47)).alloc (.cells #[.int .i64 r0.1, .int .i64 r0.2.1, .slice ao0 r0.2.2.1.length co0, .slice ap0 r0.2.2.2.length cp0, .int .i64 r1.1, .int .i64 r1.2.1, .slice ao1 r1.2.2.1.length co1, .slice ap1 r1.2.2.2.length cp1] 48) := by rw [hw3, hw2, hw1]
  clear hw1 hw2 hw3 e1 e2 B1 B2 B3
  have hT3 := hT.below BW
  go_enter Tryz.func6, Tryz.ntmps6
  go_upto_region 1 with fail
  rw [← hw]
  clear hw
  obtain ⟨cB, hcB⟩ : ∃ c, c = W.heap.size := ⟨_, rfl⟩
  obtain ⟨cS, hcS⟩ : ∃ c, c = W.heap.size + 1 := ⟨_, rfl⟩
  obtain ⟨cR, hcR⟩ : ∃ c, c = W.heap.size + 2 := ⟨_, rfl⟩
  try rw [show W.heap.size + 1 + 1 = cR from hcR.symm]
  rw [← hcS] at rb ⊢
  rw [← hcR] at rc
  rw [← hcB] at ra ⊢
  clear hcB hcS hcR
  go_upto_region 3 with (go_at_call 8; refine (proofAlive_any w3 hT3).mono ?_; rintro e w4 ⟨rfl, b4⟩)
  have BW := below_and BW (Nat.le_refl _) b4
  have ra := ra.below b4
  have rb := rb.below b4
  have rc := rc.below b4
  have hT4 := hT3.below b4
  have a0 := ra.cell (j := 0) rfl
  have a1 := ra.cell (j := 1) rfl
  have k0 := rb.cell (j := 0) rfl
  have k1 := rb.cell (j := 1) rfl
  clear b4 hT3
  go_wp2_with fail
  go_region
  go_upto_region 4 with fail
  clear k0 k1 rb
  go_cut [9] from 24 (fun s9 wx => wx = w4.drew ∧ ∃ c : Bool, s9 = .bool c ∧ (c = true ↔ XOk x y s0 s1))
  case first =>
    by_cases h0 : 0 ≤ x
    case neg =>
      have hno : ¬ XOk x y s0 s1 := fun h => h0 h.x0
      go_wp2_with fail
      go_meet
      exact ⟨rfl, _, rfl, by simp [hno]⟩
    by_cases h1 : x ≤ 2147483647
    case neg =>
      have hno : ¬ XOk x y s0 s1 := fun h => h1 h.x1
      go_wp2_with fail
      go_meet
      exact ⟨rfl, _, rfl, by simp [hno]⟩
    by_cases h2 : 0 ≤ y
    case neg =>
      have hno : ¬ XOk x y s0 s1 := fun h => h2 h.y0
      go_wp2_with fail
      go_meet
      exact ⟨rfl, _, rfl, by simp [hno]⟩
    by_cases h3 : y ≤ 2147483647
    case neg =>
      have hno : ¬ XOk x y s0 s1 := fun h => h3 h.y1
      go_wp2_with fail
      go_meet
      exact ⟨rfl, _, rfl, by simp [hno]⟩
    by_cases h4 : 0 ≤ s0
    case neg =>
      have hno : ¬ XOk x y s0 s1 := fun h => h4 h.s0
      go_wp2_with fail
      go_meet
      exact ⟨rfl, _, rfl, by simp [hno]⟩
    by_cases h5 : s0 ≤ 2147483647
    case neg =>
      have hno : ¬ XOk x y s0 s1 := fun h => h5 h.s1
      go_wp2_with fail
      go_meet
      exact ⟨rfl, _, rfl, by simp [hno]⟩
    by_cases h6 : 0 ≤ s1
    case neg =>
      have hno : ¬ XOk x y s0 s1 := fun h => h6 h.i0
      go_wp2_with fail
      go_meet
      exact ⟨rfl, _, rfl, by simp [hno]⟩
    by_cases h7 : s1 ≤ 15
    case neg =>
      have hno : ¬ XOk x y s0 s1 := fun h => h7 h.i1
      go_wp2_with fail
      go_meet
      exact ⟨rfl, _, rfl, by simp [hno]⟩
    have hyes : XOk x y s0 s1 := ⟨h0, h1, h2, h3, h4, h5, h6, h7⟩
    go_wp2_with fail
    go_meet
    exact ⟨rfl, _, rfl, by simp [hyes]⟩
  case rest =>
    obtain ⟨ewc, c, rfl, hc⟩ := hcut
    have b5 : Below w4.heap.size w4 wc := by rw [ewc]; exact below_drew w4
    have BW := below_and BW (Nat.le_refl _) b5
    have ra := ra.below b5
    have rc := rc.below b5
    have hT5 := hT4.below b5
    have HC := (show Hid (c = true ↔ XOk x y s0 s1) from hc)
    clear ewc b5 hT4 a0 a1 hc
    go_wp2_with (refine wl_load rfl _ _ rfl cR rfl _ _ rc _ Tryz.underlying48 rfl (by kernel_rfl) ?_)
    go_loopw [9, 59] (fun s9 i wr => ∃ (k : Nat) (c' : Bool), k ≤ 2 ∧ i = .int .i64 k ∧ s9 = .bool c' ∧ Hid (c' = true ↔ XOk x y s0 s1 ∧ okK r0 r1 k) ∧ Below wc.heap.size wc wr) (fun _ i _ => 2 - (intOf i).toNat)
    case atStart => exact ⟨0, c, by omega, rfl, rfl, (show _ ↔ _ from ⟨fun h => ⟨HC.out.1 h, okK_0 _ _⟩, fun h => HC.out.2 h.1⟩), Below.refl _ _⟩
    case round =>
      obtain ⟨k, c', hk, rfl, rfl, HC', hB⟩ := hrel
      rcases (show k = 0 ∨ k = 1 ∨ k = 2 by omega) with rfl | rfl | rfl
      · have hix := (ixR (.int .i64 r0.1) (.int .i64 r0.2.1) (.slice ao0 r0.2.2.1.length co0) (.slice ap0 r0.2.2.2.length cp0) (.int .i64 r1.1) (.int .i64 r1.2.1) (.slice ao1 r1.2.2.1.length co1) (.slice ap1 r1.2.2.2.length cp1) wr).1
        go_upto_region 8 with fail
        obtain ⟨w7, hw7⟩ : ∃ w7, w7 = wr.alloc (.cells #[.int .i64 r0.1, .int .i64 r0.2.1, .slice ao0 r0.2.2.1.length co0, .slice ap0 r0.2.2.2.length cp0] 34) := ⟨_, rfl⟩
        rw [← hw7]
        have b7 : Below wr.heap.size wr w7 := by rw [hw7]; exact below_alloc _ _
        have rx : Row w7 wr.heap.size 34 [.int .i64 r0.1, .int .i64 r0.2.1, .slice ao0 r0.2.2.1.length co0, .slice ap0 r0.2.2.2.length cp0] := by rw [hw7]; exact Row.new _ _ _
        obtain ⟨cX, hcX⟩ : ∃ c, c = wr.heap.size := ⟨_, rfl⟩
        rw [← hcX] at rx ⊢
        clear hw7 hcX hix
        have q0 := rx.cell (j := 0) rfl
        have q1 := rx.cell (j := 1) rfl
        have q2 := rx.cell (j := 2) rfl
        have q3 := rx.cell (j := 3) rfl
        have hB8 := below_and hB (Nat.le_refl _) b7
        cases c' with
        | false =>
          have HK := (show Hid (false = true ↔ XOk x y s0 s1 ∧ okK r0 r1 1) from ⟨fun h => (by cases h), fun h => HC'.out.2 ⟨h.1, okK_0 _ _⟩⟩)
          go_wp2_with fail
          go_roundw
          case rel => exact ⟨1, false, by omega, by go_num, rfl, HK, hB8⟩
          case measure => simp [intOf]
        | true =>
          obtain ⟨hX, hK⟩ := HC'.out.1 rfl
          by_cases h0 : 0 ≤ r0.1
          case neg =>
            have hno : ¬ QOk r0 := fun h => h0 (by have := h.c0; omega)
            have HK := (show Hid (false = true ↔ XOk x y s0 s1 ∧ okK r0 r1 1) from ⟨fun h => (by cases h), fun h => absurd (okK_1.1 h.2) hno⟩)
            clear HC' hno
            go_wp2_with fail
            go_roundw
            case rel => exact ⟨1, _, by omega, by go_num, rfl, HK, hB8⟩
            case measure => simp [intOf]
          by_cases h1 : r0.1 ≤ 2147483647
          case neg =>
            have hno : ¬ QOk r0 := fun h => h1 (by have := h.c1; omega)
            have HK := (show Hid (false = true ↔ XOk x y s0 s1 ∧ okK r0 r1 1) from ⟨fun h => (by cases h), fun h => absurd (okK_1.1 h.2) hno⟩)
            clear HC' hno
            go_wp2_with fail
            go_roundw
            case rel => exact ⟨1, _, by omega, by go_num, rfl, HK, hB8⟩
            case measure => simp [intOf]
          by_cases h2 : 0 ≤ r0.2.1
          case neg =>
            have hno : ¬ QOk r0 := fun h => h2 (by have := h.s0; omega)
            have HK := (show Hid (false = true ↔ XOk x y s0 s1 ∧ okK r0 r1 1) from ⟨fun h => (by cases h), fun h => absurd (okK_1.1 h.2) hno⟩)
            clear HC' hno
            go_wp2_with fail
            go_roundw
            case rel => exact ⟨1, _, by omega, by go_num, rfl, HK, hB8⟩
            case measure => simp [intOf]
          by_cases h3 : r0.2.1 ≤ 2147483647
          case neg =>
            have hno : ¬ QOk r0 := fun h => h3 (by have := h.s1; omega)
            have HK := (show Hid (false = true ↔ XOk x y s0 s1 ∧ okK r0 r1 1) from ⟨fun h => (by cases h), fun h => absurd (okK_1.1 h.2) hno⟩)
            clear HC' hno
            go_wp2_with fail
            go_roundw
            case rel => exact ⟨1, _, by omega, by go_num, rfl, HK, hB8⟩
            case measure => simp [intOf]
          by_cases h4 : (r0.2.2.1.length : Int) ≤ 65536
          case neg =>
            have hno : ¬ QOk r0 := fun h => h4 (by have := h.o; omega)
            have HK := (show Hid (false = true ↔ XOk x y s0 s1 ∧ okK r0 r1 1) from ⟨fun h => (by cases h), fun h => absurd (okK_1.1 h.2) hno⟩)
            clear HC' hno
            go_wp2_with fail
            go_roundw
            case rel => exact ⟨1, _, by omega, by go_num, rfl, HK, hB8⟩
            case measure => simp [intOf]
          by_cases h5 : (r0.2.2.2.length : Int) ≤ 65536
          case neg =>
            have hno : ¬ QOk r0 := fun h => h5 (by have := h.g; omega)
            have HK := (show Hid (false = true ↔ XOk x y s0 s1 ∧ okK r0 r1 1) from ⟨fun h => (by cases h), fun h => absurd (okK_1.1 h.2) hno⟩)
            clear HC' hno
            go_wp2_with fail
            go_roundw
            case rel => exact ⟨1, _, by omega, by go_num, rfl, HK, hB8⟩
            case measure => simp [intOf]
          have hyes : QOk r0 := ⟨h0, h1, h2, h3, by omega, by omega⟩
          have HK := (show Hid (true = true ↔ XOk x y s0 s1 ∧ okK r0 r1 1) from ⟨fun _ => ⟨hX, okK_1.2 hyes⟩, fun _ => rfl⟩)
          clear HC' hyes
          go_wp2_with fail
          go_roundw
          case rel => exact ⟨1, _, by omega, by go_num, rfl, HK, hB8⟩
          case measure => simp [intOf]
      · have hix := (ixR (.int .i64 r0.1) (.int .i64 r0.2.1) (.slice ao0 r0.2.2.1.length co0) (.slice ap0 r0.2.2.2.length cp0) (.int .i64 r1.1) (.int .i64 r1.2.1) (.slice ao1 r1.2.2.1.length co1) (.slice ap1 r1.2.2.2.length cp1) wr).2
        go_upto_region 8 with fail
        obtain ⟨w7, hw7⟩ : ∃ w7, w7 = wr.alloc (.cells #[.int .i64 r1.1, .int .i64 r1.2.1, .slice ao1 r1.2.2.1.length co1, .slice ap1 r1.2.2.2.length cp1] 34) := ⟨_, rfl⟩
        rw [← hw7]
        have b7 : Below wr.heap.size wr w7 := by rw [hw7]; exact below_alloc _ _
        have rx : Row w7 wr.heap.size 34 [.int .i64 r1.1, .int .i64 r1.2.1, .slice ao1 r1.2.2.1.length co1, .slice ap1 r1.2.2.2.length cp1] := by rw [hw7]; exact Row.new _ _ _
        obtain ⟨cX, hcX⟩ : ∃ c, c = wr.heap.size := ⟨_, rfl⟩
        rw [← hcX] at rx ⊢
        clear hw7 hcX hix
        have q0 := rx.cell (j := 0) rfl
        have q1 := rx.cell (j := 1) rfl
        have q2 := rx.cell (j := 2) rfl
        have q3 := rx.cell (j := 3) rfl
        have hB8 := below_and hB (Nat.le_refl _) b7
        cases c' with
        | false =>
          have HK := (show Hid (false = true ↔ XOk x y s0 s1 ∧ okK r0 r1 2) from ⟨fun h => (by cases h), fun h => HC'.out.2 ⟨h.1, (okK_2.1 h.2).1⟩⟩)
          go_wp2_with fail
          go_roundw
          case rel => exact ⟨2, false, by omega, by go_num, rfl, HK, hB8⟩
          case measure => simp [intOf]
        | true =>
          obtain ⟨hX, hK⟩ := HC'.out.1 rfl
          by_cases h0 : 0 ≤ r1.1
          case neg =>
            have hno : ¬ QOk r1 := fun h => h0 (by have := h.c0; omega)
            have HK := (show Hid (false = true ↔ XOk x y s0 s1 ∧ okK r0 r1 2) from ⟨fun h => (by cases h), fun h => absurd ((okK_2.1 h.2).2) hno⟩)
            clear HC' hno
            go_wp2_with fail
            go_roundw
            case rel => exact ⟨2, _, by omega, by go_num, rfl, HK, hB8⟩
            case measure => simp [intOf]
          by_cases h1 : r1.1 ≤ 2147483647
          case neg =>
            have hno : ¬ QOk r1 := fun h => h1 (by have := h.c1; omega)
            have HK := (show Hid (false = true ↔ XOk x y s0 s1 ∧ okK r0 r1 2) from ⟨fun h => (by cases h), fun h => absurd ((okK_2.1 h.2).2) hno⟩)
            clear HC' hno
            go_wp2_with fail
            go_roundw
            case rel => exact ⟨2, _, by omega, by go_num, rfl, HK, hB8⟩
            case measure => simp [intOf]
          by_cases h2 : 0 ≤ r1.2.1
          case neg =>
            have hno : ¬ QOk r1 := fun h => h2 (by have := h.s0; omega)
            have HK := (show Hid (false = true ↔ XOk x y s0 s1 ∧ okK r0 r1 2) from ⟨fun h => (by cases h), fun h => absurd ((okK_2.1 h.2).2) hno⟩)
            clear HC' hno
            go_wp2_with fail
            go_roundw
            case rel => exact ⟨2, _, by omega, by go_num, rfl, HK, hB8⟩
            case measure => simp [intOf]
          by_cases h3 : r1.2.1 ≤ 2147483647
          case neg =>
            have hno : ¬ QOk r1 := fun h => h3 (by have := h.s1; omega)
            have HK := (show Hid (false = true ↔ XOk x y s0 s1 ∧ okK r0 r1 2) from ⟨fun h => (by cases h), fun h => absurd ((okK_2.1 h.2).2) hno⟩)
            clear HC' hno
            go_wp2_with fail
            go_roundw
            case rel => exact ⟨2, _, by omega, by go_num, rfl, HK, hB8⟩
            case measure => simp [intOf]
          by_cases h4 : (r1.2.2.1.length : Int) ≤ 65536
          case neg =>
            have hno : ¬ QOk r1 := fun h => h4 (by have := h.o; omega)
            have HK := (show Hid (false = true ↔ XOk x y s0 s1 ∧ okK r0 r1 2) from ⟨fun h => (by cases h), fun h => absurd ((okK_2.1 h.2).2) hno⟩)
            clear HC' hno
            go_wp2_with fail
            go_roundw
            case rel => exact ⟨2, _, by omega, by go_num, rfl, HK, hB8⟩
            case measure => simp [intOf]
          by_cases h5 : (r1.2.2.2.length : Int) ≤ 65536
          case neg =>
            have hno : ¬ QOk r1 := fun h => h5 (by have := h.g; omega)
            have HK := (show Hid (false = true ↔ XOk x y s0 s1 ∧ okK r0 r1 2) from ⟨fun h => (by cases h), fun h => absurd ((okK_2.1 h.2).2) hno⟩)
            clear HC' hno
            go_wp2_with fail
            go_roundw
            case rel => exact ⟨2, _, by omega, by go_num, rfl, HK, hB8⟩
            case measure => simp [intOf]
          have hyes : QOk r1 := ⟨h0, h1, h2, h3, by omega, by omega⟩
          have HK := (show Hid (true = true ↔ XOk x y s0 s1 ∧ okK r0 r1 2) from ⟨fun _ => ⟨hX, okK_2.2 ⟨hK, hyes⟩⟩, fun _ => rfl⟩)
          clear HC' hyes
          go_wp2_with fail
          go_roundw
          case rel => exact ⟨2, _, by omega, by go_num, rfl, HK, hB8⟩
          case measure => simp [intOf]
      · have BWr := below_and BW (Nat.le_refl _) hB
        cases c' with
        | false =>
          clear HC'
          go_wp2_with fail
          go_ret
          exact ⟨rfl, BWr⟩
        | true =>
          obtain ⟨hX, hK⟩ := HC'.out.1 rfl
          have hq0 := hK.1 (by decide)
          have hq1 := hK.2 (by decide)
          have ra := ra.below hB
          have rc := rc.below hB
          have hTr := hT5.below hB
          have t0 := t0.mv (Mv.below BWr)
          have u0 := u0.mv (Mv.below BWr)
          have t1 := t1.mv (Mv.below BWr)
          have u1 := u1.mv (Mv.below BWr)
          obtain ⟨w6, hw6⟩ : ∃ w6 : World, w6 = wr := ⟨_, rfl⟩
          rw [← hw6] at BWr ra rc hTr t0 u0 t1 u1 ⊢
          clear hw6 HC' HC hK hT5 hB BW hk
          go_upto_region 12 with fail
          have SK := (show Hid (∀ u, Below w6.heap.size w6 u → u.cell? ⟨cB, 0, none⟩ = some (.int .i64 x) ∧ u.cell? ⟨cB, 1, none⟩ = some (.int .i64 y) ∧ u.cell? ⟨cR, 0, none⟩ = some (.int .i64 r0.1) ∧ u.cell? ⟨cR, 1, none⟩ = some (.int .i64 r0.2.1) ∧ u.cell? ⟨cR, 2, none⟩ = some (.slice ao0 r0.2.2.1.length co0) ∧ u.cell? ⟨cR, 3, none⟩ = some (.slice ap0 r0.2.2.2.length cp0) ∧ u.cell? ⟨cR, 4, none⟩ = some (.int .i64 r1.1) ∧ u.cell? ⟨cR, 5, none⟩ = some (.int .i64 r1.2.1) ∧ u.cell? ⟨cR, 6, none⟩ = some (.slice ao1 r1.2.2.1.length co1) ∧ u.cell? ⟨cR, 7, none⟩ = some (.slice ap1 r1.2.2.2.length cp1)) from fun u hu => ⟨(ra.below hu).cell (j := 0) rfl, (ra.below hu).cell (j := 1) rfl, (rc.below hu).cell (j := 0) rfl, (rc.below hu).cell (j := 1) rfl, (rc.below hu).cell (j := 2) rfl, (rc.below hu).cell (j := 3) rfl, (rc.below hu).cell (j := 4) rfl, (rc.below hu).cell (j := 5) rfl, (rc.below hu).cell (j := 6) rfl, (rc.below hu).cell (j := 7) rfl⟩)
          have hdw : Below w6.heap.size w6 w6.drew := below_drew w6
          have HQ0 := (show Hid (∀ _ : Unit, _) from fun _ => copyQ2_any w6.drew _ _ r0 (t0.mv (Mv.below hdw)) (u0.mv (Mv.below hdw)) hq0.tot)
          have HQ1 := (show Hid (∀ u, Below w6.heap.size w6 u → _) from fun u hu => copyQ2_any u _ _ r1 (t1.mv (Mv.below hu)) (u1.mv (Mv.below hu)) hq1.tot)
          have HEV := (show Hid (∀ u, Below w6.heap.size w6 u → ∀ o0 p0 o1 p1, RT Any u o0 r0.2.2.1 → RT Any u p0 r0.2.2.2 → RT Any u o1 r1.2.2.1 → RT Any u p1 r1.2.2.2 → Calls Tryz.prog 15 #[.agg #[.int .i64 x, .int .i64 y], .int .i64 s0, .int .i64 s1, .agg #[.int .i64 r0.1, .int .i64 r0.2.1, o0, p0], .agg #[.int .i64 r1.1, .int .i64 r1.2.1, o1, p1]] u fun e w' => ∃ v', e = .returned v' ∧ RL RMs 23 Any w' v' (evsL x y s0 s1 r0 r1) ∧ Below u.heap.size u w') from fun u hu o0 p0 o1 p1 h0 h1 h2 h3 => evidence_any u x y s0 s1 o0 p0 o1 p1 r0 r1 h0 h1 h2 h3 hq0.tot hq1.tot (hTr.below hu))
          obtain ⟨q0, q1, q2, q3, q4, q5, q6, q7, q8, q9⟩ := SK.out w6 (Below.refl _ _)
          go_wp2_with fail
          go_region_held3 (fun u => u.cell? ⟨cB, 0, none⟩ = some (.int .i64 x) ∧ u.cell? ⟨cB, 1, none⟩ = some (.int .i64 y) ∧ u.cell? ⟨cR, 0, none⟩ = some (.int .i64 r0.1) ∧ u.cell? ⟨cR, 1, none⟩ = some (.int .i64 r0.2.1) ∧ u.cell? ⟨cR, 2, none⟩ = some (.slice ao0 r0.2.2.1.length co0) ∧ u.cell? ⟨cR, 3, none⟩ = some (.slice ap0 r0.2.2.2.length cp0) ∧ u.cell? ⟨cR, 4, none⟩ = some (.int .i64 r1.1) ∧ u.cell? ⟨cR, 5, none⟩ = some (.int .i64 r1.2.1) ∧ u.cell? ⟨cR, 6, none⟩ = some (.slice ao1 r1.2.2.1.length co1) ∧ u.cell? ⟨cR, 7, none⟩ = some (.slice ap1 r1.2.2.2.length cp1))
            (first | exact SK.out _ B9 | exact SK.out _ B8 | exact SK.out _ B7 | exact SK.out _ hdw | go_keep)
            (first
              | (go_at_call 15; refine (HEV.out w8 B8 _ _ _ _ (c7.mv (Mv.below b8)) (d7.mv (Mv.below b8)) c8 d8).mono ?_; rintro e w9 ⟨v9, rfl, h9, b9⟩; have B9 : Below w6.heap.size w6 w9 := below_and B8 (Nat.le_refl _) b9)
              | (go_at_call 16; refine (HQ1.out w7 B7).mono ?_; rintro e w8 ⟨ae8, ce8, af8, cf8, rfl, c8, d8, b8⟩; have B8 : Below w6.heap.size w6 w8 := below_and B7 (Nat.le_refl _) b8)
              | (go_at_call 16; refine (HQ0.out ()).mono ?_; rintro e w7 ⟨ae7, ce7, af7, cf7, rfl, c7, d7, b7⟩; have B7 : Below w6.heap.size w6 w7 := hdw.trans b7))
          have BW9 := below_and BWr (Nat.le_refl _) B9
          have rc9 := rc.below B9
          have HSR := sameReq_any w9 [.int .i64 r0.1, .int .i64 r0.2.1, .slice ao0 r0.2.2.1.length co0, .slice ap0 r0.2.2.2.length cp0] [.int .i64 r1.1, .int .i64 r1.2.1, .slice ao1 r1.2.2.1.length co1, .slice ap1 r1.2.2.2.length cp1] r0 r1 ⟨_, _, rfl, t0.mv (Mv.below B9), u0.mv (Mv.below B9)⟩ ⟨_, _, rfl, t1.mv (Mv.below B9), u1.mv (Mv.below B9)⟩
          have hT9 := hTr.below B9
          clear SK HQ0 HQ1 HEV q0 q1 q2 q3 q4 q5 q6 q7 q8 q9 c7 d7 c8 d8 b7 b8 b9 B7 B8 hdw ra hTr
          have k0 := rc9.cell (j := 0) rfl
          have k1 := rc9.cell (j := 1) rfl
          have k2 := rc9.cell (j := 2) rfl
          have k3 := rc9.cell (j := 3) rfl
          have k4 := rc9.cell (j := 4) rfl
          have k5 := rc9.cell (j := 5) rfl
          have k6 := rc9.cell (j := 6) rfl
          have k7 := rc9.cell (j := 7) rfl
          by_cases hr : r0 = r1
          · rw [decide_eq_true hr] at HSR
            rw [evs_same hX (by rw [hr])] at h9
            obtain ⟨a9, c9, rfl, _⟩ := h9.form
            clear hr
            go_wp2_with (go_at_call 17; refine HSR.mono ?_; rintro e w10 ⟨rfl, b10⟩)
            go_ret
            exact ⟨rfl, below_and BW9 (Nat.le_refl _) b10⟩
          · rw [decide_eq_false hr] at HSR
            have hn := body_q hq0 hq1 hr
            rw [evs_other hX hn] at h9
            have HCW := (show Hid (∀ n, chkW (byM (evE x y s0 s1 r0 r1)) n = (if (Bal.rgt n && decide (s1 < n)) = true then s1 else 0) ∧ chkE (byM (evE x y s0 s1 r0 r1)) n = (if (Bal.rgt n && decide (s1 < n)) = true then 0 else 161)) from chkW_ev hX hq0 hq1 hn)
            obtain ⟨hmE, hmB⟩ := mk_ev hX hq0 hq1 hn
            generalize evE x y s0 s1 r0 r1 = M at *
            obtain ⟨yb, yo, yc, rfl, _, _, _, hyl, hya⟩ := h9.at (by simp)
            obtain ⟨ry, _, hrng, sy, rfl, hsy⟩ := hya 0 _ rfl
            have hrng : w9.rangeAt yb yo (mc M sy) := by simpa using hrng
            clear h9 hya hr hn
            simp only [List.length_cons, List.length_nil, Nat.zero_add]
            go_upto_region 15 with (go_at_call 17; refine HSR.mono ?_; rintro e w10 ⟨rfl, b10⟩)
            have BW10 := below_and BW9 (Nat.le_refl _) b10
            have HMK := make_any w10 M sy (hsy.below b10) (hT9.below b10)
            unfold MkP at HMK
            rw [hmE, hmB] at HMK
            have hrng := rangeAt_block hrng (b10.block yb hyl)
            clear HSR hmE hmB hsy k0 k1 k2 k3 k4 k5 k6 k7 rc9
            go_upto_region 18 with (first
              | (refine wpList_load_mid rfl _ _ rfl yb yo rfl (mc M sy) _ hrng Tryz.underlying40 rfl (by kernel_rfl) ?_)
              | (go_at_call 12; refine HMK.mono ?_; rintro e w11 ⟨v11, rfl, t11, b11⟩))
            have BW11 := below_and BW10 (Nat.le_refl _) b11
            have hT11 := (hT9.below b10).below b11
            clear HMK hrng BW10 BW9 b10 b11 hT9
            go_wp2_with fail
            go_loopw [15] (fun i wr => ∃ k : Nat, 4 ≤ k ∧ k ≤ 17 ∧ i = .int .i64 k ∧ Below w11.heap.size w11 wr) (fun i _ => 17 - (intOf i).toNat)
            case atStart => exact ⟨4, by omega, by omega, rfl, Below.refl _ _⟩
            case round =>
              obtain ⟨k, hk4, hk17, rfl, hB⟩ := hrel
              by_cases hk16 : k ≤ 16
              · have i1 : (k : Int) ≤ 16 := by omega
                have HCK := check_any wr v11 (byM M) (t11.mv (Mv.below hB)) (k : Int) (hT11.below hB)
                unfold CkP at HCK
                have HW := HCW.out (k : Int)
                have HR := (show Hid (∀ u, Calls Tryz.prog 18 #[.int .i64 (k : Int)] u fun e w' => e = .returned (.bool (Bal.rgt (k : Int))) ∧ w' = u) from fun u => Bb.right_any u (k : Int))
                rw [HW.1, HW.2] at HCK
                clear HW
                generalize Bal.rgt (k : Int) = R at *
                cases R with
                | false =>
                  simp only [Bool.false_and, Bool.false_eq_true, if_false] at HCK
                  go_wp2_with (first
                    | (go_at_call 9; refine HCK.mono ?_; rintro e w12 ⟨rfl, b12⟩)
                    | (go_at_call 18; refine (HR.out w12).mono ?_; rintro e w12 ⟨rfl, rfl⟩))
                  go_roundw
                  case rel => exact ⟨k + 1, by omega, by omega, by go_num, below_and hB (Nat.le_refl _) b12⟩
                  case measure => simp [intOf]; omega
                | true =>
                  by_cases hs : s1 < (k : Int)
                  · rw [decide_eq_true hs] at HCK
                    simp only [Bool.true_and, if_true] at HCK
                    go_wp2_with (first
                      | (go_at_call 9; refine HCK.mono ?_; rintro e w12 ⟨rfl, b12⟩)
                      | (go_at_call 18; refine (HR.out w12).mono ?_; rintro e w12 ⟨rfl, rfl⟩))
                    go_roundw
                    case rel => exact ⟨k + 1, by omega, by omega, by go_num, below_and hB (Nat.le_refl _) b12⟩
                    case measure => simp [intOf]; omega
                  · rw [decide_eq_false hs] at HCK
                    simp only [Bool.and_false, Bool.false_eq_true, if_false] at HCK
                    go_wp2_with (first
                      | (go_at_call 9; refine HCK.mono ?_; rintro e w12 ⟨rfl, b12⟩)
                      | (go_at_call 18; refine (HR.out w12).mono ?_; rintro e w12 ⟨rfl, rfl⟩))
                    go_roundw
                    case rel => exact ⟨k + 1, by omega, by omega, by go_num, below_and hB (Nat.le_refl _) b12⟩
                    case measure => simp [intOf]; omega
              · have i1 : ¬ (k : Int) ≤ 16 := by omega
                have BWe := below_and BW11 (Nat.le_refl _) hB
                clear hk16
                go_wp2_with fail
                go_ret
                exact ⟨rfl, BWe⟩
end Go.Proofs.YtgjepofinpmcpaaGreatDoor
