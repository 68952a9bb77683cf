/- Package proof: Make. -/
import Derived.Test.YtgjepofinpmcpaaGreatDoorCBN
import Derived.Test.YtgjepofinpmcpaaGreatDoorCAB
import Derived.Test.YtgjepofinpmcpaaGreatDoorCAH
import Derived.Test.YtgjepofinpmcpaaGreatDoorCAW
import Derived.Test.YtgjepofinpmcpaaGreatDoorCBO
import Derived.Test.YtgjepofinpmcpaaGreatDoorCAY
section
set_option linter.unusedVariables false
set_option linter.unusedSimpArgs false
namespace Go.Proofs.YtgjepofinpmcpaaGreatDoor
open Go.RowKit Oct Kvl

/-- Is it the signature of the accused for this body? -/
def vtd (m : PMsg) (r : PReq) (g : List Int) : Bool := rgtV m.idx m.bal.1 m.bal.2 m.slot r (m.frm, g)
def shw (m : PMsg) : Bool := decide (cmpL (body m.req) (body m.oth) < 0) && vtd m m.req m.sig && vtd m m.oth m.data
def may (m : PMsg) (n : Int) : Bool := decide (m.kind = 13) && Bal.rgt n && decide (0 ≤ m.frm) && decide (m.frm < n) && (decide (m.idx = 2) || decide (m.idx = 3))
def chkL (l : List Int) (n : Int) : Bool := decide (decE l = 0) && may (decM l) n && shw (decM l)
def chkW (l : List Int) (n : Int) : Int := if chkL l n = true then (decM l).frm else 0
def chkE (l : List Int) (n : Int) : Int := if chkL l n = true then 0 else 161
theorem chk_no {l : List Int} {n : Int} (h : chkL l n = false) : chkW l n = 0 ∧ chkE l n = 161 := by unfold chkW chkE; rw [h]; exact ⟨rfl, rfl⟩
theorem chk_yes {l : List Int} {n : Int} (h : chkL l n = true) : chkW l n = (decM l).frm ∧ chkE l n = 0 := by unfold chkW chkE; rw [h]; exact ⟨rfl, rfl⟩
theorem dec_two (l : List Int) (hb : Byt l) : (decE l ≠ 0 ∧ decM l = zeroM) ∨ (decE l = 0 ∧ badM (decM l) = false ∧ byM (decM l) = l ∧ l.length ≤ 1048576) := by
  unfold decM decE
  by_cases hl : 1048576 < l.length
  · simp [hl]
  · simp only [if_neg hl]
    cases hr : rdM l with
    | none => left; simp
    | some m =>
      obtain ⟨h1, h2⟩ := rdM_bwd hb hr
      exact .inr ⟨by simp, h1, h2, by omega⟩
/-- Texts of a message that can be written are short. -/
theorem bad_short {m : PMsg} (h : badM m = false) : (m.req.2.2.1.length ≤ 65536 ∧ m.req.2.2.2.length ≤ 65536) ∧ (m.oth.2.2.1.length ≤ 65536 ∧ m.oth.2.2.2.length ≤ 65536) ∧ m.data.length ≤ 65536 ∧ m.sig.length ≤ 65536 := by
  obtain ⟨_, h1, h2⟩ := badM_no h
  refine ⟨?_, ?_, ?_, ?_⟩
  · by_cases hi : 6 ∈ fl m.kind
    · have := h2 6 hi
      simp [okF, cF, Oct.get, tag, freq, unR, cReq, cP, cT, cN] at this
      omega
    · have := h1 6 (by decide) hi
      simp [Oct.get, freq, zeroM] at this
      rw [this]
      simp
  · by_cases hi : 7 ∈ fl m.kind
    · have := h2 7 hi
      simp [okF, cF, Oct.get, tag, freq, unR, cReq, cP, cT, cN] at this
      omega
    · have := h1 7 (by decide) hi
      simp [Oct.get, freq, zeroM] at this
      rw [this]
      simp
  · by_cases hi : 8 ∈ fl m.kind
    · have := h2 8 hi
      simp [okF, cF, Oct.get, tag, ftxt, unT, cT] at this
      omega
    · have := h1 8 (by decide) hi
      simp [Oct.get, ftxt, zeroM] at this
      rw [this]
      simp
  · by_cases hi : 9 ∈ fl m.kind
    · have := h2 9 hi
      simp [okF, cF, Oct.get, tag, ftxt, unT, cT] at this
      omega
    · have := h1 9 (by decide) hi
      simp [Oct.get, ftxt, zeroM] at this
      rw [this]
      simp
/-- What was read is short. -/
theorem dec_short {l : List Int} (hb : Byt l) (h0 : decE l = 0) : tot [(decM l).req.2.2.1, (decM l).req.2.2.2] ≤ 2000000 ∧ tot [(decM l).oth.2.2.1, (decM l).oth.2.2.2] ≤ 2000000 := by
  rcases dec_two l hb with ⟨h, _⟩ | ⟨_, h, _, _⟩
  · exact absurd h0 h
  · obtain ⟨h1, h2, _, _⟩ := bad_short h
    simp only [tot]
    omega
end Go.Proofs.YtgjepofinpmcpaaGreatDoor
end

section
set_option linter.unusedVariables false
set_option linter.unusedSimpArgs false
namespace Go.Proofs.YtgjepofinpmcpaaGreatDoor
open Go.RowKit Oct Kvl

theorem boxP (w : World) (m : PMsg) (s : SV) : ∃ w1, w1 = w.alloc (.cells (mc m s).toArray 40) ∧ Row w1 w.heap.size 40 (mc m s) ∧ Below w.heap.size w w1 := ⟨_, rfl, Row.new w _ _, below_alloc _ _⟩

set_option maxRecDepth 10000 in
set_option maxHeartbeats 2000000 in
theorem maySay_any (w : World) (m : PMsg) (s : SV) (n : Int) :
    Calls Tryz.prog 22 #[.agg (mc m s).toArray, .int .i64 n] w fun e w' => e = .returned (.bool (may m n)) ∧ Below w.heap.size w w' := by
  obtain ⟨w1, hw1, r1, B1⟩ := boxP w m s
  have c0 := r1.cell (j := 0) rfl
  have c4 := r1.cell (j := 4) rfl
  have c6 := r1.cell (j := 6) rfl
  have HR := Bb.right_any w1 n
  obtain ⟨M, hM⟩ : ∃ M, M = may m n := ⟨_, rfl⟩
  rw [← hM]
  unfold may at hM
  obtain ⟨R, hR⟩ : ∃ R, R = Bal.rgt n := ⟨_, rfl⟩
  rw [← hR] at HR hM
  clear hR
  obtain ⟨K, hK⟩ : ∃ K, K = m.kind := ⟨_, rfl⟩
  obtain ⟨F, hF⟩ : ∃ F, F = m.frm := ⟨_, rfl⟩
  obtain ⟨I, hI⟩ : ∃ I, I = m.idx := ⟨_, rfl⟩
  rw [← hK] at c0 hM
  rw [← hF] at c4 hM
  rw [← hI] at c6 hM
  clear hK hF hI
  by_cases hk : K = 13
  case neg =>
    replace hM : M = false := by rw [hM]; simp [hk]
    subst hM
    go_enter Tryz.func22, Tryz.ntmps22
    go_upto_region 1 with fail
    rw [← hw1]
    clear hw1
    go_wp2_with fail
    go_ret
    exact ⟨rfl, B1⟩
  subst hk
  cases R with
  | false =>
    replace hM : M = false := by rw [hM]; simp
    subst hM
    go_enter Tryz.func22, Tryz.ntmps22
    go_upto_region 1 with fail
    rw [← hw1]
    clear hw1
    go_wp2_with (go_at_call 18; refine HR.mono ?_; rintro e w2 ⟨rfl, rfl⟩)
    go_ret
    exact ⟨rfl, B1⟩
  | true =>
    by_cases h0 : 0 ≤ F
    case neg =>
      replace hM : M = false := by rw [hM]; simp [h0]
      subst hM
      go_enter Tryz.func22, Tryz.ntmps22
      go_upto_region 1 with fail
      rw [← hw1]
      clear hw1
      go_wp2_with (go_at_call 18; refine HR.mono ?_; rintro e w2 ⟨rfl, rfl⟩)
      go_ret
      exact ⟨rfl, B1⟩
    by_cases h1 : F < n
    case neg =>
      replace hM : M = false := by rw [hM]; simp [h1]
      subst hM
      go_enter Tryz.func22, Tryz.ntmps22
      go_upto_region 1 with fail
      rw [← hw1]
      clear hw1
      go_wp2_with (go_at_call 18; refine HR.mono ?_; rintro e w2 ⟨rfl, rfl⟩)
      go_ret
      exact ⟨rfl, B1⟩
    by_cases h2 : I = 2
    · replace hM : M = true := by rw [hM]; simp [h0, h1, h2]
      subst hM
      go_enter Tryz.func22, Tryz.ntmps22
      go_upto_region 1 with fail
      rw [← hw1]
      clear hw1
      go_wp2_with (go_at_call 18; refine HR.mono ?_; rintro e w2 ⟨rfl, rfl⟩)
      go_ret
      exact ⟨rfl, B1⟩
    by_cases h3 : I = 3
    · replace hM : M = true := by rw [hM]; simp [h0, h1, h2, h3]
      subst hM
      go_enter Tryz.func22, Tryz.ntmps22
      go_upto_region 1 with fail
      rw [← hw1]
      clear hw1
      go_wp2_with (go_at_call 18; refine HR.mono ?_; rintro e w2 ⟨rfl, rfl⟩)
      go_ret
      exact ⟨rfl, B1⟩
    · replace hM : M = false := by rw [hM]; simp [h2, h3]
      subst hM
      go_enter Tryz.func22, Tryz.ntmps22
      go_upto_region 1 with fail
      rw [← hw1]
      clear hw1
      go_wp2_with (go_at_call 18; refine HR.mono ?_; rintro e w2 ⟨rfl, rfl⟩)
      go_ret
      exact ⟨by show Ending.returned (.bool (I == 2 || I == 3)) = _; simp [h2, h3], B1⟩

set_option maxRecDepth 10000 in
set_option maxHeartbeats 2000000 in
theorem voted_any (w : World) (m : PMsg) (s : SV) (r : PReq) (v : Value) (hv : Rd w v (body r)) (hl : (body r).length ≤ 3000000) (gv : Value) (g : List Int) (hg : Rd w gv g) (hT : Tab w) :
    Calls Tryz.prog 45 #[.agg (mc m s).toArray, v, gv] w fun e w' => e = .returned (.bool (vtd m r g)) ∧ Below w.heap.size w w' := by
  obtain ⟨w1, hw1, r1, B1⟩ := boxP w m s
  have c1 := r1.cell (j := 1) rfl
  have c2 := r1.cell (j := 2) rfl
  have c3 := r1.cell (j := 3) rfl
  have c4 := r1.cell (j := 4) rfl
  have c6 := r1.cell (j := 6) rfl
  have HR := vRight_any w1 m.idx m.bal.1 m.bal.2 m.slot m.frm v (body r) (hv.below B1) hl gv g (hg.below B1) (hT.below B1)
  have HR : Calls Tryz.prog 62 #[.int .i64 m.idx, .agg #[.int .i64 m.bal.1, .int .i64 m.bal.2], .int .i64 m.slot, v, .agg #[.int .i64 m.frm, gv]] w1 fun e w' => e = .returned (.bool (vtd m r g)) ∧ Below w1.heap.size w1 w' := HR
  obtain ⟨ag, cg, rfl, _⟩ := hg.form
  generalize vtd m r g = D at *
  clear hv hg hl
  go_enter Tryz.func45, Tryz.ntmps45
  go_upto_region 1 with fail
  rw [← hw1]
  clear hw1
  go_wp2_with (go_at_call 62; refine HR.mono ?_; rintro e w2 ⟨rfl, b2⟩)
  go_ret
  exact ⟨rfl, below_and B1 (Nat.le_refl _) b2⟩
end Go.Proofs.YtgjepofinpmcpaaGreatDoor
end

section
set_option linter.unusedVariables false
set_option linter.unusedSimpArgs false
namespace Go.Proofs.YtgjepofinpmcpaaGreatDoor
open Go.RowKit Oct Kvl

set_option maxRecDepth 10000 in
set_option maxHeartbeats 4000000 in
theorem showsBoth_any (w : World) (m : PMsg) (s : SV) (hs : SOk Any w m s) (z1 : tot [m.req.2.2.1, m.req.2.2.2] ≤ 2000000) (z2 : tot [m.oth.2.2.1, m.oth.2.2.2] ≤ 2000000) (hT : Tab w) :
    Calls Tryz.prog 23 #[.agg (mc m s).toArray] w fun e w' => e = .returned (.bool (shw m)) ∧ Below w.heap.size w w' := by
  obtain ⟨w1, hw1, r1, B1⟩ := boxP w m s
  have hs1 := hs.below B1
  have hT1 := hT.below B1
  have hdw : Below w1.heap.size w1 w1.drew := ⟨rfl, rfl, rfl, Nat.le_refl _, fun _ _ => rfl⟩
  have HB1 := (show Hid (∀ u, Below w1.heap.size w1 u → Calls Tryz.prog 21 #[.agg #[.int .i64 m.req.1, .int .i64 m.req.2.1, s.o, s.g]] u fun e w' => ∃ v', e = .returned v' ∧ Own w' 5 v' (bc (body m.req)) ∧ Fr u.heap.size v' ∧ Below u.heap.size u w') from
    fun u hu => body_any u [.int .i64 m.req.1, .int .i64 m.req.2.1, s.o, s.g] m.req ⟨_, _, rfl, (hs1.below hu).o, (hs1.below hu).g⟩ (Nat.le_trans z1 (by decide)))
  have HB2 := (show Hid (∀ u, Below w1.heap.size w1 u → Calls Tryz.prog 21 #[.agg #[.int .i64 m.oth.1, .int .i64 m.oth.2.1, s.o', s.g']] u fun e w' => ∃ v', e = .returned v' ∧ Own w' 5 v' (bc (body m.oth)) ∧ Fr u.heap.size v' ∧ Below u.heap.size u w') from
    fun u hu => body_any u [.int .i64 m.oth.1, .int .i64 m.oth.2.1, s.o', s.g'] m.oth ⟨_, _, rfl, (hs1.below hu).o', (hs1.below hu).g'⟩ (Nat.le_trans z2 (by decide)))
  have SK := (show Hid (∀ u, Below w1.heap.size w1 u → u.cell? ⟨w.heap.size, 8, none⟩ = some (.int .i64 m.req.1) ∧ u.cell? ⟨w.heap.size, 9, none⟩ = some (.int .i64 m.req.2.1) ∧ u.cell? ⟨w.heap.size, 10, none⟩ = some s.o ∧ u.cell? ⟨w.heap.size, 11, none⟩ = some s.g ∧ u.cell? ⟨w.heap.size, 12, none⟩ = some (.int .i64 m.oth.1) ∧ u.cell? ⟨w.heap.size, 13, none⟩ = some (.int .i64 m.oth.2.1) ∧ u.cell? ⟨w.heap.size, 14, none⟩ = some s.o' ∧ u.cell? ⟨w.heap.size, 15, none⟩ = some s.g') from
    fun u hu => ⟨(r1.below hu).cell (j := 8) rfl, (r1.below hu).cell (j := 9) rfl, (r1.below hu).cell (j := 10) rfl, (r1.below hu).cell (j := 11) rfl, (r1.below hu).cell (j := 12) rfl, (r1.below hu).cell (j := 13) rfl, (r1.below hu).cell (j := 14) rfl, (r1.below hu).cell (j := 15) rfl⟩)
  obtain ⟨q0, q1, q2, q3, q4, q5, q6, q7⟩ := SK.out w1 (Below.refl _ _)
  obtain ⟨D, hD⟩ : ∃ D, D = shw m := ⟨_, rfl⟩
  rw [← hD]
  have HD := (show Hid (D = shw m) from hD)
  clear hD
  go_enter Tryz.func23, Tryz.ntmps23
  go_upto_region 1 with fail
  rw [← hw1]
  clear hw1
  go_wp2_with fail
  go_region_held3 (fun u => u.cell? ⟨w.heap.size, 8, none⟩ = some (.int .i64 m.req.1) ∧ u.cell? ⟨w.heap.size, 9, none⟩ = some (.int .i64 m.req.2.1) ∧ u.cell? ⟨w.heap.size, 10, none⟩ = some s.o ∧ u.cell? ⟨w.heap.size, 11, none⟩ = some s.g ∧ u.cell? ⟨w.heap.size, 12, none⟩ = some (.int .i64 m.oth.1) ∧ u.cell? ⟨w.heap.size, 13, none⟩ = some (.int .i64 m.oth.2.1) ∧ u.cell? ⟨w.heap.size, 14, none⟩ = some s.o' ∧ u.cell? ⟨w.heap.size, 15, none⟩ = some s.g')
    (first | exact SK.out _ B3 | exact SK.out _ B2 | exact SK.out _ hdw | go_keep)
    (first
      | (go_at_call 21; refine (HB2.out w2 B2).mono ?_; rintro e w3 ⟨v3, rfl, o3, f3, b3⟩; have B3 : Below w1.heap.size w1 w3 := below_and B2 (Nat.le_refl _) b3)
      | (go_at_call 21; refine (HB1.out w1.drew hdw).mono ?_; rintro e w2 ⟨v2, rfl, o2, f2, b2⟩; have B2 : Below w1.heap.size w1 w2 := below_and hdw (Nat.le_refl _) b2))
  have y1 : Byt (body m.req) := body_byt hs.o.1.1 hs.g.1.1 z1
  have y2 : Byt (body m.oth) := body_byt hs.o'.1.1 hs.g'.1.1 z2
  have R2 := (o2.rd y1).below b3
  have R3 := o3.rd y2
  have HC := compare_any w3 v2 v3 _ _ R2 R3
  have r3 := r1.below B3
  have c17 := r3.cell (j := 17) rfl
  have HV1 := voted_any w3 m s m.req v2 R2 (body_len z1) s.s m.sig (hs1.below B3).s.1 (hT1.below B3)
  have HV2 := (show Hid (∀ u, Below w3.heap.size w3 u → Calls Tryz.prog 45 #[.agg (mc m s).toArray, v3, s.d] u fun e w' => e = .returned (.bool (vtd m m.oth m.data)) ∧ Below u.heap.size u w') from
    fun u hu => voted_any u m s m.oth v3 (R3.below hu) (body_len z2) s.d m.data ((hs1.below B3).below hu).d.1 ((hT1.below B3).below hu))
  have BB := below_and B1 (Nat.le_refl _) B3
  have hD : D = (decide (cmpL (body m.req) (body m.oth) < 0) && vtd m m.req m.sig && vtd m m.oth m.data) := HD.out
  clear HD
  generalize cmpL (body m.req) (body m.oth) = C at *
  generalize vtd m m.req m.sig = V1 at *
  generalize vtd m m.oth m.data = V2 at *
  clear HB1 HB2 SK q0 q1 q2 q3 q4 q5 q6 q7 R2 R3 y1 y2 o2 o3 f2 f3 hs hs1 z1 z2 hT hT1 b2 b3 B2 hdw
  by_cases hc : C < 0
  case neg =>
    rw [decide_eq_false hc, Bool.false_and, Bool.false_and] at hD
    subst hD
    go_wp2_with (go_at_call 44; refine HC.mono ?_; rintro e w4 ⟨rfl, rfl⟩)
    go_ret
    exact ⟨rfl, BB⟩
  rw [decide_eq_true hc, Bool.true_and] at hD
  cases V1 with
  | false =>
    rw [Bool.false_and] at hD
    subst hD
    go_wp2_with (first
      | (go_at_call 44; refine HC.mono ?_; rintro e w4 ⟨rfl, rfl⟩)
      | (refine wl_load_w (by kernel_rfl) _ _ rfl w.heap.size rfl _ _ r3 _ Tryz.underlying40 rfl (by kernel_rfl) ?_)
      | (go_at_call 45; refine HV1.mono ?_; rintro e w5 ⟨rfl, b5⟩))
    go_ret
    exact ⟨rfl, below_and BB (Nat.le_refl _) b5⟩
  | true =>
    rw [Bool.true_and] at hD
    subst hD
    go_wp2_with (first
      | (go_at_call 44; refine HC.mono ?_; rintro e w4 ⟨rfl, rfl⟩)
      | (refine wl_load_w (by kernel_rfl) _ _ rfl w.heap.size rfl _ _ r5 _ Tryz.underlying40 rfl (by kernel_rfl) ?_)
      | (refine wl_load_w (by kernel_rfl) _ _ rfl w.heap.size rfl _ _ r3 _ Tryz.underlying40 rfl (by kernel_rfl) ?_)
      | (go_at_call 45; refine (HV2.out w5 b5).mono ?_; rintro e w6 ⟨rfl, b6⟩)
      | (go_at_call 45; refine HV1.mono ?_; rintro e w5 ⟨rfl, b5⟩; have r5 := r3.below b5; have c16 := r5.cell (j := 16) rfl))
    go_ret
    exact ⟨rfl, below_and (below_and BB (Nat.le_refl _) b5) (Nat.le_refl _) b6⟩
def CkP (l : List Int) (n : Int) (w : World) (e : Ending) (w' : World) : Prop := e = .returned (.tuple #[.int .i64 (chkW l n), .int .i64 (chkE l n)]) ∧ Below w.heap.size w w'

set_option maxRecDepth 10000 in
set_option maxHeartbeats 4000000 in
/-- proof.Check. -/
theorem check_any (w : World) (bv : Value) (l : List Int) (hb : RT Any w bv l) (n : Int) (hT : Tab w) : Calls Tryz.prog 9 #[bv, .int .i64 n] w (CkP l n w) := by
  have hby := hb.1.1
  have HZ := (show Hid (decE l = 0 → tot [(decM l).req.2.2.1, (decM l).req.2.2.2] ≤ 2000000 ∧ tot [(decM l).oth.2.2.1, (decM l).oth.2.2.2] ≤ 2000000) from dec_short hby)
  have HL := (show Hid (chkL l n = (decide (decE l = 0) && may (decM l) n && shw (decM l))) from rfl)
  have HD := decode_any w bv l hb
  go_enter Tryz.func9, Tryz.ntmps9
  go_upto_region 2 with (first
    | (go_at_call 19; refine HD.mono ?_; rintro e w1 ⟨s1, rfl, hs1', b1⟩; have hs1 := hs1'.mv (Nat.le_refl _) Mv.any; have hone := hs1.one; have hrow := Row.new w1 40 (mc zeroM sv0))
    | (refine wl_store rfl _ _ _ rfl w1.heap.size (mc (decM l) s1) rfl rfl _ _ hrow rfl (by kernel_rfl) hone ?_; intro w2 r2 g2))
  have b2 : Below w1.heap.size w1 w2 := (below_alloc w1 (.cells (mc zeroM sv0).toArray 40)).trans (grown_below g2 (by simp) (fun k hk => by cases hk; exact Nat.le_refl _))
  have B2 := below_and b1 (Nat.le_refl _) b2
  have hs2 := hs1.below b2
  have hT2 := hT.below B2
  have r2 := r2.out
  obtain ⟨cM, hcM⟩ : ∃ c, c = w1.heap.size := ⟨_, rfl⟩
  rw [← hcM] at r2 ⊢
  clear HD hb hby hT hrow hone hs1 hs1' b2 g2 b1 hcM
  have HS := (show Hid (decE l = 0 → ∀ u, Below w2.heap.size w2 u → Calls Tryz.prog 23 #[.agg (mc (decM l) s1).toArray] u fun e w' => e = .returned (.bool (shw (decM l))) ∧ Below u.heap.size u w') from
    fun h0 u hu => showsBoth_any u (decM l) s1 (hs2.below hu) (HZ.out h0).1 (HZ.out h0).2 (hT2.below hu))
  have HM := maySay_any w2 (decM l) s1 n
  have HY := (show Hid (chkL l n = true → chkW l n = (decM l).frm ∧ chkE l n = 0) from chk_yes)
  by_cases h0 : decE l = 0
  case neg =>
    have hL := chk_no (l := l) (n := n) (by rw [HL.out, decide_eq_false h0]; rfl)
    have h0' : (decE l != 0) = true := by simpa using h0
    generalize decE l = E at *
    clear HS HM HL HZ HY
    go_wp2_with fail
    go_ret2
    exact ⟨by rw [hL.1, hL.2]; rfl, B2⟩
  rw [decide_eq_true h0, Bool.true_and] at HL
  have HS := (show Hid (∀ u, Below w2.heap.size w2 u → Calls Tryz.prog 23 #[.agg (mc (decM l) s1).toArray] u fun e w' => e = .returned (.bool (shw (decM l))) ∧ Below u.heap.size u w') from HS.out h0)
  rw [h0]
  clear HZ h0
  generalize decM l = m at *
  obtain ⟨A, hA⟩ : ∃ A, A = may m n := ⟨_, rfl⟩
  rw [← hA] at HM HL
  clear hA
  obtain ⟨C, hC⟩ : ∃ C, C = shw m := ⟨_, rfl⟩
  rw [← hC] at HS HL
  clear hC
  cases A with
  | false =>
    have hL := chk_no (l := l) (n := n) (by rw [HL.out]; rfl)
    go_wp2_with (first
      | (refine wl_load_w (by kernel_rfl) _ _ rfl cM rfl _ _ r2 _ Tryz.underlying40 rfl (by kernel_rfl) ?_)
      | (go_at_call 22; refine HM.mono ?_; rintro e w3 ⟨rfl, b3⟩))
    go_ret2
    exact ⟨by rw [hL.1, hL.2]; rfl, below_and B2 (Nat.le_refl _) b3⟩
  | true =>
    cases C with
    | false =>
      have hL := chk_no (l := l) (n := n) (by rw [HL.out]; rfl)
      go_wp2_with (first
        | (refine wl_load_w (by kernel_rfl) _ _ rfl cM rfl _ _ r3 _ Tryz.underlying40 rfl (by kernel_rfl) ?_)
        | (refine wl_load_w (by kernel_rfl) _ _ rfl cM rfl _ _ r2 _ Tryz.underlying40 rfl (by kernel_rfl) ?_)
        | (go_at_call 22; refine HM.mono ?_; rintro e w3 ⟨rfl, b3⟩; have r3 := r2.below b3)
        | (go_at_call 23; (refine (HS.out w3 b3).mono ?_; rintro e w4 ⟨rfl, b4⟩)))
      go_ret2
      exact ⟨by rw [hL.1, hL.2]; rfl, below_and (below_and B2 (Nat.le_refl _) b3) (Nat.le_refl _) b4⟩
    | true =>
      have hL := HY.out (by rw [HL.out]; rfl)
      go_wp2_with (first
        | (refine wl_load_w (by kernel_rfl) _ _ rfl cM rfl _ _ r3 _ Tryz.underlying40 rfl (by kernel_rfl) ?_)
        | (refine wl_load_w (by kernel_rfl) _ _ rfl cM rfl _ _ r2 _ Tryz.underlying40 rfl (by kernel_rfl) ?_)
        | (go_at_call 22; refine HM.mono ?_; rintro e w3 ⟨rfl, b3⟩; have r3 := r2.below b3)
        | (go_at_call 23; (refine (HS.out w3 b3).mono ?_; rintro e w4 ⟨rfl, b4⟩; have c4 := (r3.below b4).cell (j := 4) rfl)))
      go_ret2
      exact ⟨by rw [hL.1, hL.2]; rfl, below_and (below_and B2 (Nat.le_refl _) b3) (Nat.le_refl _) b4⟩
end Go.Proofs.YtgjepofinpmcpaaGreatDoor
end

section
set_option linter.unusedVariables false
set_option linter.unusedSimpArgs false
namespace Go.Proofs.YtgjepofinpmcpaaGreatDoor
open Go.RowKit Oct Kvl

def mkL (m : PMsg) : Bool := decide (encE m = 0) && chkL (encB m) 16
def mkB (m : PMsg) : List Int := if mkL m = true then encB m else []
def mkE (m : PMsg) : Int := if mkL m = true then 0 else 161
theorem mk_no {m : PMsg} (h : mkL m = false) : mkB m = [] ∧ mkE m = 161 := by unfold mkB mkE; rw [h]; exact ⟨rfl, rfl⟩
theorem mk_yes {m : PMsg} (h : mkL m = true) : mkB m = encB m ∧ mkE m = 0 := by unfold mkB mkE; rw [h]; exact ⟨rfl, rfl⟩
/-- What Make answers. -/
def MkP (m : PMsg) (w : World) (e : Ending) (w' : World) : Prop := ∃ v, e = .returned (.tuple #[v, .int .i64 (mkE m)]) ∧ RT Any w' v (mkB m) ∧ Below w.heap.size w w'
theorem MkP.no {m : PMsg} {w w' : World} (h : mkL m = false) (hb : Below w.heap.size w w') : MkP m w (.returned (.tuple #[.slice none 0 0, .int .i64 161])) w' := by
  obtain ⟨h1, h2⟩ := mk_no h
  exact ⟨_, by rw [h2], by rw [h1]; exact RT.nil _ _, hb⟩

set_option maxRecDepth 10000 in
set_option maxHeartbeats 4000000 in
/-- proof.Make. -/
theorem make_any (w : World) (m : PMsg) (s : SV) (hs : SOk Any w m s) (hT : Tab w) : Calls Tryz.prog 12 #[.agg (mc m s).toArray] w (MkP m w) := by
  obtain ⟨w1, hw1, r1, B1⟩ := boxP w m s
  have HE := encode_any w1 m s (hs.below B1)
  have HL := (show Hid (mkL m = (decide (encE m = 0) && chkL (encB m) 16)) from rfl)
  have HCE := (show Hid (chkE (encB m) 16 = if chkL (encB m) 16 = true then 0 else 161) from rfl)
  have HY := (show Hid (mkL m = true → mkB m = encB m ∧ mkE m = 0) from mk_yes)
  go_enter Tryz.func12, Tryz.ntmps12
  go_upto_region 1 with fail
  rw [← hw1]
  clear hw1
  go_upto_region 2 with (first
    | (refine wl_load rfl _ _ rfl w.heap.size rfl _ _ r1 _ Tryz.underlying40 rfl (by kernel_rfl) ?_)
    | (go_at_call 28; refine HE.mono ?_; rintro e w2 ⟨v2, rfl, o2, y2, f2, b2⟩))
  have B2 := below_and B1 (Nat.le_refl _) b2
  have R2 : RT Any w2 v2 (encB m) := ⟨o2.rd y2, fun _ _ _ => trivial⟩
  have HC := check_any w2 v2 (encB m) R2 16 (hT.below B2)
  clear HE r1 B1 b2 o2 y2 f2 hT hs
  by_cases h0 : encE m = 0
  case neg =>
    have hN : mkL m = false := by rw [HL.out, decide_eq_false h0]; rfl
    have h0' : (encE m != 0) = true := by simpa using h0
    have HP := (show Hid (MkP m w (.returned (.tuple #[.slice none 0 0, .int .i64 161])) w2) from MkP.no hN B2)
    generalize encE m = E at *
    clear HC HL HCE HY hN R2
    go_wp2_with fail
    go_ret2
    exact HP.out
  rw [decide_eq_true h0, Bool.true_and] at HL
  rw [h0]
  clear h0
  cases hK : chkL (encB m) 16 with
  | false =>
    have hN : mkL m = false := by rw [HL.out, hK]
    have HP := (show Hid (∀ w', Below w.heap.size w w' → MkP m w (.returned (.tuple #[.slice none 0 0, .int .i64 161])) w') from fun w' => MkP.no hN)
    unfold CkP at HC
    rw [(chk_no hK).1, (chk_no hK).2] at HC
    clear HL HCE HY hN R2 hK
    go_wp2_with (go_at_call 9; refine HC.mono ?_; rintro e w3 ⟨rfl, b3⟩)
    go_ret2
    exact HP.out _ (below_and B2 (Nat.le_refl _) b3)
  | true =>
    have hN : mkL m = true := by rw [HL.out, hK]
    have hY := HY.out hN
    have HP := (show Hid (∀ w', Below w2.heap.size w2 w' → MkP m w (.returned (.tuple #[v2, .int .i64 0])) w') from fun w' hb => ⟨v2, by rw [hY.2], by rw [hY.1]; exact R2.mv (Mv.below hb), below_and B2 (Nat.le_refl _) hb⟩)
    unfold CkP at HC
    rw [(chk_yes hK).2] at HC
    generalize chkW (encB m) 16 = W1 at *
    clear HL HCE HY hN R2 hK hY
    go_wp2_with (go_at_call 9; refine HC.mono ?_; rintro e w3 ⟨rfl, b3⟩)
    go_ret2
    exact HP.out _ b3
end Go.Proofs.YtgjepofinpmcpaaGreatDoor
end
