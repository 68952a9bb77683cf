/- catenarylaw07.KvReads: its walk. -/
import Derived.Test.YtmfmfjndigjlfabKv
import Derived.Test.YtmfmfjndigjlfabLKvWrites
set_option linter.unusedVariables false
set_option linter.unusedSimpArgs false
namespace Go.Proofs.Ytmfmfjndigjlfab
open Go.RowKit Oct Kvl

set_option maxRecDepth 10000 in
set_option maxHeartbeats 4000000 in
theorem reads_any (w : World) (bv : Value) (l : List Int) (hb : Rd w bv l) (hl : l.length ≤ 140737488355300) :
    Calls Try.prog 4 #[bv] w fun e w' => e = .returned (.bool true) ∧ Below w.heap.size w w' := by
  have le := Nat.le_refl w.heap.size
  have C1 := (show Hid (∀ u bv, Rd u bv l → Calls Try.prog 13 #[bv] u fun e w' => ∃ r', e = .returned (.tuple #[.agg r'.toArray, .int .i64 (errR l)]) ∧ ROp (From u.heap.size) w' r' (opR l) ∧ Below u.heap.size u w') from fun u bv hb => read_any u bv _ hb hl)
  have C2 := (show Hid (∀ u bv, Rd u bv l → Calls Try.prog 15 #[bv] u fun e w' => ∃ r', e = .returned (.tuple #[.agg r'.toArray, .int .i64 (errR l)]) ∧ ROp (From u.heap.size) w' r' (opR l) ∧ Below u.heap.size u w') from fun u bv hb => refRead_any u bv _ hb hl)
  have C3 := (show Hid (∀ u r', ROp Any u r' (opR l) → Calls Try.prog 9 #[.agg r'.toArray] u fun e w' => ∃ v', e = .returned (.tuple #[v', .int .i64 (errW (opR l))]) ∧ Own w' 5 v' (bc (outW (opR l))) ∧ Fr u.heap.size v' ∧ Below u.heap.size u w') from fun u r' hr => write_any u r' _ hr)
  have C4 := (show Hid (∀ u r1 r2, ROp Any u r1 (opR l) → ROp Any u r2 (opR l) → Calls Try.prog 14 #[.agg r1.toArray, .agg r2.toArray] u fun e w' => e = .returned (.bool true) ∧ Below u.heap.size u w') from fun u r1 r2 h1 h2 => sameOp_eq u r1 r2 _ h1 h2)
  have hE : (errR l != errR l) = false := by simp
  have hcs : errR l = 71 ∨ (errR l = 0 ∧ errW (opR l) = 0 ∧ outW (opR l) = l) := by
    cases h : rdO l with
    | none => exact .inl (by unfold errR; rw [h])
    | some o =>
      obtain ⟨h1, h2⟩ := wr_rd hb.1 h
      refine .inr ⟨by unfold errR; rw [h], ?_, ?_⟩
      · unfold errW opR; rw [h]; exact if_pos h2
      · unfold outW opR; rw [h]; rw [← h1]; exact if_pos h2
  have HCS := (show Hid (errR l = 71 ∨ (errR l = 0 ∧ errW (opR l) = 0 ∧ outW (opR l) = l)) from hcs)
  clear hcs
  obtain ⟨ao, cap, rfl, hcap⟩ := hb.form
  generalize errR l = E at *
  generalize opR l = O at *
  generalize errW O = E2 at *
  go_enter Try.func4, Try.ntmps4
  go_upto_region 3 with (go_at_call 8; refine (kvAlive_any w).mono ?_; rintro e w1 ⟨rfl, hb1⟩)
  have p1 := hb.below hb1
  go_upto_region 4 with (first
    | (at_builtin; refine app_copy rfl _ _ rfl rfl _ l rfl p1 (by omega) ?_; intro v2 w2 q2 f2 hb2)
    | (go_at_call 13; refine (C1.out w2 v2 (q2.rd hb.1)).mono ?_; rintro e w3 ⟨r3, rfl, p3, hb3⟩; have z3 := p3; obtain ⟨un, ua, ub, rfl, sn, sa, sb⟩ := p3; obtain ⟨an, cn, rfl, hcn⟩ := sn.form; obtain ⟨aa, ca, rfl, hca⟩ := sa.form; obtain ⟨ab, cb, rfl, hcb⟩ := sb.form))
  obtain ⟨w4, hw4⟩ : ∃ w4, w4 = w3.alloc (.cells #[.int .i64 O.1, .slice an O.2.1.length cn, .slice aa O.2.2.1.length ca, .slice ab O.2.2.2.1.length cb, .int .i64 O.2.2.2.2] 24) := ⟨_, rfl⟩
  have y4 : Row w4 w3.heap.size 24 [.int .i64 O.1, .slice an O.2.1.length cn, .slice aa O.2.2.1.length ca, .slice ab O.2.2.2.1.length cb, .int .i64 O.2.2.2.2] := by rw [hw4]; exact Row.new w3 24 _
  have hb4 : Below w3.heap.size w3 w4 := by rw [hw4]; exact below_alloc _ _
  rw [← hw4]
  have B4 : Below w.heap.size w w4 := below_and (below_and (below_and hb1 le hb2) le hb3) le hb4
  have z4 := mov_op _ _ _ _ _ _ (mov_op _ _ _ _ _ _ z3 (Nat.le_refl _) Mv.any) hb4.size (Mv.below hb4)
  have R2 := C2.out w4 _ (hb.below B4)
  have H4 := (show Hid (ROp Any w4 [.int .i64 O.1, .slice an O.2.1.length cn, .slice aa O.2.2.1.length ca, .slice ab O.2.2.2.1.length cb, .int .i64 O.2.2.2.2] O) from z4)
  clear hw4 hb4 hb3 hb2 hb1 q2 f2 z3 z4 p1 sn sa sb C1 C2 hcn hca hcb
  obtain ⟨b3, hb3⟩ : ∃ b, b = w3.heap.size := ⟨_, rfl⟩
  rw [← hb3] at y4 ⊢
  clear hb3
  go_upto_region 5 with (go_at_call 15; refine R2.mono ?_; rintro e w5 ⟨r5, rfl, p5, hb5⟩; have z5 := p5; obtain ⟨tn, ta, tb, rfl, sn, sa, sb⟩ := p5; obtain ⟨bn, dn, rfl, hcn⟩ := sn.form; obtain ⟨ba, da, rfl, hca⟩ := sa.form; obtain ⟨bb, db, rfl, hcb⟩ := sb.form)
  obtain ⟨w6, hw6⟩ : ∃ w6, w6 = w5.alloc (.cells #[.int .i64 O.1, .slice bn O.2.1.length dn, .slice ba O.2.2.1.length da, .slice bb O.2.2.2.1.length db, .int .i64 O.2.2.2.2] 24) := ⟨_, rfl⟩
  have y6 : Row w6 w5.heap.size 24 [.int .i64 O.1, .slice bn O.2.1.length dn, .slice ba O.2.2.1.length da, .slice bb O.2.2.2.1.length db, .int .i64 O.2.2.2.2] := by rw [hw6]; exact Row.new w5 24 _
  have hb6 : Below w5.heap.size w5 w6 := by rw [hw6]; exact below_alloc _ _
  rw [← hw6]
  have hb46 := below_and hb5 (Nat.le_refl _) hb6
  have B6 : Below w.heap.size w w6 := below_and B4 le hb46
  have z6 := mov_op _ _ _ _ _ _ (mov_op _ _ _ _ _ _ z5 (Nat.le_refl _) Mv.any) hb6.size (Mv.below hb6)
  have x6 := y4.below hb46
  have H6 := (show Hid (ROp Any w6 [.int .i64 O.1, .slice an O.2.1.length cn, .slice aa O.2.2.1.length ca, .slice ab O.2.2.2.1.length cb, .int .i64 O.2.2.2.2] O) from mov_op _ _ _ _ _ _ H4.out hb46.size (Mv.below hb46))
  have S6 := C4.out w6 _ _ H6.out z6
  clear hw6 hb6 hb5 hb46 z5 z6 sn sa sb R2 hcn hca hcb y4
  obtain ⟨b5, hb5⟩ : ∃ b, b = w5.heap.size := ⟨_, rfl⟩
  rw [← hb5] at y6 ⊢
  clear hb5
  go_upto_region 7 with (first
    | (refine wl_load_w (by rfl) _ _ rfl b3 rfl _ _ x6 _ Try.underlying24 rfl (by kernel_rfl) ?_)
    | (refine wl_load_w (by rfl) _ _ rfl b5 rfl _ _ y6 _ Try.underlying24 rfl (by kernel_rfl) ?_)
    | (go_at_call 14; refine S6.mono ?_; rintro e w7 ⟨rfl, hb7⟩))
  have B7 := below_and B6 le hb7
  have x7 := x6.below hb7
  have W7 := C3.out w7 _ (mov_op _ _ _ _ _ _ H6.out hb7.size (Mv.below hb7))
  clear S6 x6 y6 H4 C4 C3 hb7 B6
  rcases HCS.out with rfl | ⟨rfl, rfl, hT⟩
  · go_wp2_with (first
      | (refine wl_load rfl _ _ rfl b3 rfl _ _ x7 _ Try.underlying24 rfl (by kernel_rfl) ?_)
      | (go_at_call 9; refine W7.mono ?_; rintro e w8 ⟨v8, rfl, p8, f8, hb8⟩))
    go_ret
    exact ⟨rfl, below_and B7 le hb8⟩
  · rw [hT] at W7
    clear hT
    go_upto_region 8 with (first
      | (refine wl_load rfl _ _ rfl b3 rfl _ _ x7 _ Try.underlying24 rfl (by kernel_rfl) ?_)
      | (go_at_call 9; refine W7.mono ?_; rintro e w8 ⟨v8, rfl, p8, f8, hb8⟩))
    have B8 := below_and B7 le hb8
    have S8 := same_any w8 _ _ _ _ (p8.rd hb.1) (hb.below B8)
    simp only [decide_true] at S8
    go_wp2_with (go_at_call 12; refine S8.mono ?_; rintro e w9 ⟨rfl, rfl⟩)
    go_ret
    exact ⟨rfl, B8⟩
end Go.Proofs.Ytmfmfjndigjlfab
