/- catenarylaw07.KvWrites: its walk. -/
import Derived.Test.YtmfmfjndigjlfabKu
set_option linter.unusedVariables false
set_option linter.unusedSimpArgs false
namespace Go.Proofs.Ytmfmfjndigjlfab
open Go.RowKit Oct Kvl

theorem outW_len (o : POp) : (outW o).length ≤ 1000 := by
  unfold outW
  split
  · rename_i hw
    rw [wrO_pack o hw, packL_op]
    obtain ⟨⟨k1, k2⟩, ⟨n1, n2⟩, na, nb, u1, u2⟩ := hw
    have na := Nat.le_trans na (mA_le _)
    have nb := Nat.le_trans nb (mB_le _)
    have ek := enc_len o.1
    have eu := enc_len o.2.2.2.2
    have en := enc_len (o.2.1.length : Int)
    have ea := enc_len (o.2.2.1.length : Int)
    have eb := enc_len (o.2.2.2.1.length : Int)
    simp only [List.length_append]
    omega
  · simp

set_option maxRecDepth 10000 in
set_option maxHeartbeats 4000000 in
theorem writes_any (w : World) (r : List Value) (o : POp) (h1 : ROp Any w r o) (z1 : szO o) :
    Calls Try.prog 3 #[.agg r.toArray] w fun e w' => e = .returned (.bool true) ∧ Below w.heap.size w w' := by
  have le := Nat.le_refl w.heap.size
  have hall := h1
  obtain ⟨vn, va, vb, rfl, rn, ra', rb'⟩ := h1
  have hby := outW_byt rn.1.1 ra'.1.1 rb'.1.1
  have hln := outW_len o
  obtain ⟨w0, hw0⟩ : ∃ w0, w0 = w.alloc (.cells #[.int .i64 o.1, vn, va, vb, .int .i64 o.2.2.2.2] 24) := ⟨_, rfl⟩
  have x0 : Row w0 w.heap.size 24 [.int .i64 o.1, vn, va, vb, .int .i64 o.2.2.2.2] := by rw [hw0]; exact Row.new w 24 _
  have B0 : Below w.heap.size w w0 := by rw [hw0]; exact below_alloc _ _
  have HR := (show Hid (∀ u, Below w.heap.size w u → ROp Any u [.int .i64 o.1, vn, va, vb, .int .i64 o.2.2.2.2] o) from fun u hu => mov_op _ _ _ _ _ _ hall hu.size (Mv.below hu))
  have C1 := (show Hid (∀ u, Below w.heap.size w u → Calls Try.prog 10 #[.agg #[.int .i64 o.1, vn, va, vb, .int .i64 o.2.2.2.2]] u fun e w' => ∃ r', e = .returned (.agg r'.toArray) ∧ ROp (From u.heap.size) w' r' o ∧ Below u.heap.size u w') from fun u hu => copyOp_any u _ o (HR.out u hu) z1)
  have C2 := (show Hid (∀ u, Below w.heap.size w u → Calls Try.prog 11 #[.agg #[.int .i64 o.1, vn, va, vb, .int .i64 o.2.2.2.2]] u fun e w' => ∃ v', e = .returned (.tuple #[v', .int .i64 (errW o)]) ∧ Own w' 5 v' (bc (outW o)) ∧ Fr u.heap.size v' ∧ Below u.heap.size u w') from fun u hu => refWrite_any u _ o (HR.out u hu))
  have C3 := (show Hid (∀ u r', ROp Any u r' o → Calls Try.prog 9 #[.agg r'.toArray] u fun e w' => ∃ v', e = .returned (.tuple #[v', .int .i64 (errW o)]) ∧ Own w' 5 v' (bc (outW o)) ∧ Fr u.heap.size v' ∧ Below u.heap.size u w') from fun u r' hr => write_any u r' o hr)
  have C4 := (show Hid (∀ u bv, Rd u bv (outW o) → Calls Try.prog 13 #[bv] u fun e w' => ∃ r', e = .returned (.tuple #[.agg r'.toArray, .int .i64 (errR (outW o))]) ∧ ROp (From u.heap.size) w' r' (opR (outW o)) ∧ Below u.heap.size u w') from fun u bv hb => read_any u bv _ hb (by omega))
  have hE : (errW o != errW o) = false := by simp
  have hcs : (errW o = 71 ∧ errR (outW o) = 71) ∨ (errW o = 0 ∧ errR (outW o) = 0 ∧ opR (outW o) = o) := by
    by_cases hw : wok o
    · refine .inr ⟨by unfold errW; rw [if_pos hw], ?_, ?_⟩
      · unfold errR outW; rw [if_pos hw, rd_wr hw]
      · unfold opR outW; rw [if_pos hw, rd_wr hw]
    · refine .inl ⟨by unfold errW; rw [if_neg hw], ?_⟩
      unfold errR outW; rw [if_neg hw, rd_nil]
  have HCS := (show Hid ((errW o = 71 ∧ errR (outW o) = 71) ∨ (errW o = 0 ∧ errR (outW o) = 0 ∧ opR (outW o) = o)) from hcs)
  clear hcs hall rn ra' rb' z1 hln
  generalize errW o = E at *
  generalize outW o = T at *
  generalize errR T = E2 at *
  generalize opR T = O2 at *
  go_enter Try.func3, Try.ntmps3
  go_upto_region 1 with fail
  rw [← hw0]
  clear hw0
  go_upto_region 3 with (go_at_call 8; refine (kvAlive_any w0).mono ?_; rintro e w1 ⟨rfl, hb1⟩)
  have B1 := below_and B0 le hb1
  have x1 := x0.below hb1
  have C1' := C1.out w1 B1
  go_upto_region 4 with (first
    | (refine wl_load rfl _ _ rfl w.heap.size rfl _ _ x1 _ Try.underlying24 rfl (by kernel_rfl) ?_)
    | (go_at_call 10; refine C1'.mono ?_; rintro e w2 ⟨r2, rfl, p2, hb2⟩)
    | (go_at_call 9; refine (C3.out w2 r2 (mov_op _ _ _ _ _ _ p2 (Nat.le_refl _) Mv.any)).mono ?_; rintro e w3 ⟨v3, rfl, p3, f3, hb3⟩))
  have B2 := below_and B1 le hb2
  have B3 := below_and B2 le hb3
  have x3 := (x1.below hb2).below hb3
  have p3 := p3.rd hby
  obtain ⟨a3, c3, rfl, hc3⟩ := p3.form
  have C2' := C2.out w3 B3
  clear C1' C1 C3 x0 x1 B0 B1 B2 hb1 hb2 hb3 p2 f3
  go_upto_region 5 with (first
    | (refine wl_load rfl _ _ rfl w.heap.size rfl _ _ x3 _ Try.underlying24 rfl (by kernel_rfl) ?_)
    | (go_at_call 11; refine C2'.mono ?_; rintro e w4 ⟨v4, rfl, p4, f4, hb4⟩))
  have B4 := below_and B3 le hb4
  have x4 := x3.below hb4
  have p3 := p3.below hb4
  have p4 := p4.rd hby
  obtain ⟨a4, c4, rfl, hc4⟩ := p4.form
  have hS := same_any w4 _ _ _ _ p3 p4
  simp only [decide_true] at hS
  clear C2' C2 x3 B3 hb4 f4
  go_upto_region 7 with (go_at_call 12; refine hS.mono ?_; rintro e w5 ⟨rfl, rfl⟩)
  have C4' := C4.out _ _ p3
  clear hS C4
  go_upto_region 8 with (go_at_call 13; refine C4'.mono ?_; rintro e w6 ⟨r6, rfl, p6, hb6⟩; have q6 := p6; obtain ⟨un, ua, ub, rfl, sn, sa, sb⟩ := p6; obtain ⟨an, cn, rfl, hcn⟩ := sn.form; obtain ⟨aa, ca, rfl, hca⟩ := sa.form; obtain ⟨ab, cb, rfl, hcb⟩ := sb.form)
  obtain ⟨w7, hw7⟩ : ∃ w7, w7 = w6.alloc (.cells #[.int .i64 O2.1, .slice an O2.2.1.length cn, .slice aa O2.2.2.1.length ca, .slice ab O2.2.2.2.1.length cb, .int .i64 O2.2.2.2.2] 24) := ⟨_, rfl⟩
  have y7 : Row w7 w6.heap.size 24 [.int .i64 O2.1, .slice an O2.2.1.length cn, .slice aa O2.2.2.1.length ca, .slice ab O2.2.2.2.1.length cb, .int .i64 O2.2.2.2.2] := by rw [hw7]; exact Row.new w6 24 _
  have hb7 : Below w6.heap.size w6 w7 := by rw [hw7]; exact below_alloc _ _
  rw [← hw7]
  have B7 := below_and (below_and B4 le hb6) le hb7
  have x7 := (x4.below hb6).below hb7
  have q7 := mov_op _ _ _ _ _ _ (mov_op _ _ _ _ _ _ q6 (Nat.le_refl _) Mv.any) hb7.size (Mv.below hb7)
  rcases HCS.out with ⟨rfl, rfl⟩ | ⟨rfl, rfl, rfl⟩
  · clear hw7
    go_wp2_with fail
    go_ret
    exact ⟨rfl, B7⟩
  · have hO := sameOp_eq w7 _ _ O2 q7 (HR.out _ B7)
    clear hw7
    go_wp2_with (first
      | (refine wl_load_w (by rfl) _ _ rfl w6.heap.size rfl _ _ y7 _ Try.underlying24 rfl (by kernel_rfl) ?_)
      | (refine wl_load_w (by rfl) _ _ rfl w.heap.size rfl _ _ x7 _ Try.underlying24 rfl (by kernel_rfl) ?_)
      | (go_at_call 14; refine hO.mono ?_; rintro e w8 ⟨rfl, hb8⟩))
    go_ret
    exact ⟨rfl, below_and B7 le hb8⟩
end Go.Proofs.Ytmfmfjndigjlfab
