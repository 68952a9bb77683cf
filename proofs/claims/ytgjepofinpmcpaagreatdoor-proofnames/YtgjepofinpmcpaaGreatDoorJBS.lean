/- Evidences of two votes are proofs; proofAlive. -/
import Derived.Test.YtgjepofinpmcpaaGreatDoorJBP
import Derived.Test.YtgjepofinpmcpaaGreatDoorJBQ
set_option linter.unusedVariables false
set_option linter.unusedSimpArgs false
namespace Go.Proofs.YtgjepofinpmcpaaGreatDoor
open Go.RowKit Oct Kvl

/-- A request that can be written. -/
structure QOk (r : PReq) : Prop where
  c0 : 0 ≤ r.1
  c1 : r.1 ≤ 2147483647
  s0 : 0 ≤ r.2.1
  s1 : r.2.1 ≤ 2147483647
  o : r.2.2.1.length ≤ 65536
  g : r.2.2.2.length ≤ 65536
theorem QOk.tot {r : PReq} (h : QOk r) : tot [r.2.2.1, r.2.2.2] ≤ 2000000 := by
  have := h.o
  have := h.g
  simp only [Oct.tot]
  omega
/-- Places that can be written. -/
structure XOk (x y s i : Int) : Prop where
  x0 : 0 ≤ x
  x1 : x ≤ 2147483647
  y0 : 0 ≤ y
  y1 : y ≤ 2147483647
  s0 : 0 ≤ s
  s1 : s ≤ 2147483647
  i0 : 0 ≤ i
  i1 : i ≤ 15
theorem sgn_len {k x y s : Int} {r : PReq} {i : Int} (h0 : 0 ≤ i) (h1 : i ≤ 15) : (sgn k x y s r i).length = 32 := by
  unfold sgn
  rw [signL_len _ _ (by rw [rep_in h0 h1]; omega) (by rw [rep_in h0 h1]; omega)]
theorem okI_in {n : Int} (h0 : 0 ≤ n) (h1 : n ≤ 2147483647) : okI n = true := okI_yes h0 h1
theorem outI_5 {n : Int} (h0 : 0 ≤ n) (h1 : n ≤ 2147483647) : (outI n).length ≤ 5 := by rw [outI_yes h0 h1]; exact enc_len5 n h0 h1
theorem req_ok {r : PReq} (h : QOk r) : cReq.ok r = true ∧ (cReq.wr r).length ≤ 140000 := by
  have a := okI_yes h.c0 h.c1
  have b := okI_yes h.s0 h.s1
  have p := outI_5 h.c0 h.c1
  have q := outI_5 h.s0 h.s1
  have e1 := enc_len r.2.2.1.length
  have e2 := enc_len r.2.2.2.length
  have := h.o
  have := h.g
  refine ⟨?_, ?_⟩
  · simp [cReq, cP, cN, cT, a, b]
    omega
  · simp only [cReq, cP, cN, cT, List.length_append]
    omega
theorem ev0_good {x y s i : Int} {ra rb : PReq} {ga gb : List Int} (hx : XOk x y s i) (ha : QOk ra) (hb : QOk rb) (la : ga.length = 32) (lb : gb.length = 32) :
    badM (ev0 (2, x, y, s, i) ra ga rb gb) = false ∧ (byM (ev0 (2, x, y, s, i) ra ga rb gb)).length ≤ 1048576 := by
  obtain ⟨a1, a2⟩ := req_ok ha
  obtain ⟨b1, b2⟩ := req_ok hb
  refine ⟨badM_of (show fl 13 ≠ [] by decide) ?_ ?_, ?_⟩
  · intro j hj hn
    have hn : j ∉ [0, 1, 2, 4, 6, 7, 8, 9] := hn
    rcases lt15 hj with rfl | rfl | rfl | rfl | rfl | rfl | rfl | rfl | rfl | rfl | rfl | rfl | rfl | rfl | rfl <;> first | rfl | exact absurd (by decide) hn
  · intro j hj
    have hj : j ∈ [0, 1, 2, 4, 6, 7, 8, 9] := hj
    simp only [List.mem_cons, List.not_mem_nil, or_false] at hj
    rcases hj with rfl | rfl | rfl | rfl | rfl | rfl | rfl | rfl
    · show (okI x && okI y) = true
      rw [okI_yes hx.x0 hx.x1, okI_yes hx.y0 hx.y1]; rfl
    · exact okI_yes hx.s0 hx.s1
    · exact okI_yes (n := i) hx.i0 (by have := hx.i1; omega)
    · exact okI_yes (n := 2) (by decide) (by decide)
    · exact a1
    · exact b1
    · show decide (gb.length ≤ 65536) = true
      rw [lb]; rfl
    · show decide (ga.length ≤ 65536) = true
      rw [la]; rfl
  · have e : byM (ev0 (2, x, y, s, i) ra ga rb gb) = outI 13 ++ ((outI x ++ outI y) ++ (outI s ++ (outI i ++ (outI 2 ++ (cReq.wr ra ++ (cReq.wr rb ++ ((enc gb.length ++ gb) ++ ((enc ga.length ++ ga) ++ [])))))))) := rfl
    rw [e]
    have p0 := outI_5 (n := 13) (by decide) (by decide)
    have p1 := outI_5 hx.x0 hx.x1
    have p2 := outI_5 hx.y0 hx.y1
    have p3 := outI_5 hx.s0 hx.s1
    have p4 := outI_5 hx.i0 (by have := hx.i1; omega)
    have p5 := outI_5 (n := 2) (by decide) (by decide)
    have p6 := enc_len gb.length
    have p7 := enc_len ga.length
    simp only [List.length_append, List.length_nil]
    omega
theorem ev0_shw {x y s i : Int} {ra rb : PReq} (hx : XOk x y s i) (hc : cmpL (body ra) (body rb) < 0) : shw (ev0 (2, x, y, s, i) ra (sgn 2 x y s ra i) rb (sgn 2 x y s rb i)) = true := by
  have h1 : rgtV 2 x y s ra (i, sgn 2 x y s ra i) = true := sgn_rgt 2 x y s ra hx.i0 hx.i1
  have h2 : rgtV 2 x y s rb (i, sgn 2 x y s rb i) = true := sgn_rgt 2 x y s rb hx.i0 hx.i1
  show (decide (cmpL (body ra) (body rb) < 0) && rgtV 2 x y s ra (i, sgn 2 x y s ra i) && rgtV 2 x y s rb (i, sgn 2 x y s rb i)) = true
  rw [h1, h2, decide_eq_true hc]
  rfl
/-- The evidence of two votes. -/
def evE (x y s i : Int) (r0 r1 : PReq) : PMsg := evL (2, x, y, s, i) r0 (sgn 2 x y s r0 i) r1 (sgn 2 x y s r1 i)
theorem evE_good {x y s i : Int} {r0 r1 : PReq} (hx : XOk x y s i) (h0 : QOk r0) (h1 : QOk r1) (hn : body r0 ≠ body r1) :
    badM (evE x y s i r0 r1) = false ∧ (byM (evE x y s i r0 r1)).length ≤ 1048576 ∧ shw (evE x y s i r0 r1) = true := by
  unfold evE evL
  by_cases hc : 0 < cmpL (body r0) (body r1)
  · rw [if_pos hc]
    obtain ⟨a, b⟩ := ev0_good hx h1 h0 (sgn_len (k := 2) (x := x) (y := y) (s := s) (r := r1) hx.i0 hx.i1) (sgn_len (k := 2) (x := x) (y := y) (s := s) (r := r0) hx.i0 hx.i1)
    exact ⟨a, b, ev0_shw hx (by rw [cmp_neg]; omega)⟩
  · rw [if_neg hc]
    obtain ⟨a, b⟩ := ev0_good hx h0 h1 (sgn_len (k := 2) (x := x) (y := y) (s := s) (r := r0) hx.i0 hx.i1) (sgn_len (k := 2) (x := x) (y := y) (s := s) (r := r1) hx.i0 hx.i1)
    refine ⟨a, b, ev0_shw hx ?_⟩
    have : cmpL (body r0) (body r1) ≠ 0 := fun e => hn (cmp_zero.1 e)
    omega
theorem evE_frm (x y s i : Int) (r0 r1 : PReq) : (evE x y s i r0 r1).kind = 13 ∧ (evE x y s i r0 r1).frm = i ∧ (evE x y s i r0 r1).idx = 2 := by
  unfold evE evL ev0
  split <;> exact ⟨rfl, rfl, rfl⟩
theorem may_ev (x y s i : Int) (r0 r1 : PReq) (hi : 0 ≤ i) (n : Int) : may (evE x y s i r0 r1) n = (Bal.rgt n && decide (i < n)) := by
  obtain ⟨a, b, c⟩ := evE_frm x y s i r0 r1
  unfold may
  rw [a, b, c]
  simp [hi]
theorem dec_by {m : PMsg} (h : badM m = false) (hl : (byM m).length ≤ 1048576) : decE (byM m) = 0 ∧ decM (byM m) = m := by
  unfold decE decM
  have h' : ¬ 1048576 < (byM m).length := by omega
  rw [if_neg h', if_neg h', rdM_fwd h]
  exact ⟨rfl, rfl⟩
theorem chk_ev {x y s i : Int} {r0 r1 : PReq} (hx : XOk x y s i) (h0 : QOk r0) (h1 : QOk r1) (hn : body r0 ≠ body r1) (n : Int) :
    chkL (byM (evE x y s i r0 r1)) n = (Bal.rgt n && decide (i < n)) := by
  obtain ⟨a, b, c⟩ := evE_good hx h0 h1 hn
  obtain ⟨d, e⟩ := dec_by a b
  unfold chkL
  rw [d, e, c, may_ev _ _ _ _ _ _ hx.i0]
  simp
/-- Make takes it. -/
theorem mk_ev {x y s i : Int} {r0 r1 : PReq} (hx : XOk x y s i) (h0 : QOk r0) (h1 : QOk r1) (hn : body r0 ≠ body r1) :
    mkE (evE x y s i r0 r1) = 0 ∧ mkB (evE x y s i r0 r1) = byM (evE x y s i r0 r1) := by
  obtain ⟨a, b, c⟩ := evE_good hx h0 h1 hn
  have hE : encE (evE x y s i r0 r1) = 0 := by unfold encE; rw [if_neg (by rw [a]; decide), if_neg (by omega)]
  have hB : encB (evE x y s i r0 r1) = byM (evE x y s i r0 r1) := by unfold encB; rw [if_pos hE]
  have hm : mkL (evE x y s i r0 r1) = true := by
    unfold mkL
    rw [hE, hB, chk_ev hx h0 h1 hn]
    have := hx.i1
    simp [Bal.rgt]
    omega
  obtain ⟨p, q⟩ := mk_yes hm
  exact ⟨q, by rw [p, hB]⟩
theorem chkW_ev {x y s i : Int} {r0 r1 : PReq} (hx : XOk x y s i) (h0 : QOk r0) (h1 : QOk r1) (hn : body r0 ≠ body r1) (n : Int) :
    chkW (byM (evE x y s i r0 r1)) n = (if (Bal.rgt n && decide (i < n)) = true then i else 0) ∧ chkE (byM (evE x y s i r0 r1)) n = (if (Bal.rgt n && decide (i < n)) = true then 0 else 161) := by
  obtain ⟨a, b, c⟩ := evE_good hx h0 h1 hn
  obtain ⟨d, e⟩ := dec_by a b
  unfold chkW chkE
  rw [chk_ev hx h0 h1 hn, e, (evE_frm x y s i r0 r1).2.1]
  exact ⟨rfl, rfl⟩
/-- What the ledger tells of two votes. -/
theorem evs_same {x y s i : Int} {r0 r1 : PReq} (hx : XOk x y s i) (hb : body r0 = body r1) : evsL x y s i r0 r1 = [] := by
  have e : lsE x y s i r0 = [⟨(2, x, y, s, i), r0, sgn 2 x y s r0 i, false⟩] := by
    unfold lsE
    rw [note_one (.inl rfl) (sgn_rgt _ _ _ _ _ hx.i0 hx.i1)]
    rfl
  unfold evsL
  rw [e, note_one (.inl rfl) (sgn_rgt _ _ _ _ _ hx.i0 hx.i1)]
  rw [meet_old (j := 0) (z := ⟨(2, x, y, s, i), r0, sgn 2 x y s r0 i, false⟩) (by simp [keysL, fnd]) rfl (.inr hb)]
theorem evs_other {x y s i : Int} {r0 r1 : PReq} (hx : XOk x y s i) (hb : body r0 ≠ body r1) : evsL x y s i r0 r1 = [evE x y s i r0 r1] := by
  have e : lsE x y s i r0 = [⟨(2, x, y, s, i), r0, sgn 2 x y s r0 i, false⟩] := by
    unfold lsE
    rw [note_one (.inl rfl) (sgn_rgt _ _ _ _ _ hx.i0 hx.i1)]
    rfl
  unfold evsL
  rw [e, note_one (.inl rfl) (sgn_rgt _ _ _ _ _ hx.i0 hx.i1)]
  rw [meet_new (j := 0) (z := ⟨(2, x, y, s, i), r0, sgn 2 x y s r0 i, false⟩) (by simp [keysL, fnd]) rfl (by simp; exact hb)]
  rfl
theorem xok_al : XOk 0 0 1 3 := ⟨by decide, by decide, by decide, by decide, by decide, by decide, by decide, by decide⟩
theorem qok_0 : QOk r00 := ⟨by decide, by decide, by decide, by decide, by decide, by decide⟩
theorem qok_1 : QOk r11 := ⟨by decide, by decide, by decide, by decide, by decide, by decide⟩
theorem chk_nil (n : Int) : chkW [] n = 0 ∧ chkE [] n = 161 := chk_no (by rfl)

set_option maxRecDepth 10000 in
set_option maxHeartbeats 4000000 in
theorem proofAlive_any (w : World) (hT : Tab w) : Calls Tryz.prog 8 #[] w fun e w' => e = .returned (.bool true) ∧ Below w.heap.size w w' := by
  have HE := evidence_any w 0 0 1 3 (.slice none 0 0) (.slice none 0 0) (.slice none 0 0) (.slice none 0 0) r00 r11 (RT.nil _ _) (RT.nil _ _) (RT.nil _ _) (RT.nil _ _) (by decide) (by decide) hT
  rw [evs_other xok_al r_ne] at HE
  have HE : Calls Tryz.prog 15 #[.agg #[.int .i64 0, .int .i64 0], .int .i64 1, .int .i64 3, .agg #[.int .i64 0, .int .i64 0, .slice none 0 0, .slice none 0 0], .agg #[.int .i64 1, .int .i64 1, .slice none 0 0, .slice none 0 0]] w fun e w' => ∃ v', e = .returned v' ∧ RL RMs 23 Any w' v' [evE 0 0 1 3 r00 r11] ∧ Below w.heap.size w w' := HE
  obtain ⟨hmE, hmB⟩ := mk_ev xok_al qok_0 qok_1 r_ne
  obtain ⟨hcW, hcE⟩ := chkW_ev xok_al qok_0 qok_1 r_ne 4
  rw [show (if (Bal.rgt 4 && decide ((3 : Int) < 4)) = true then (3 : Int) else 0) = 3 by rfl] at hcW
  rw [show (if (Bal.rgt 4 && decide ((3 : Int) < 4)) = true then (0 : Int) else 161) = 0 by rfl] at hcE
  generalize evE 0 0 1 3 r00 r11 = M at *
  go_enter Tryz.func8, Tryz.ntmps8
  go_upto_region 2 with (go_at_call 15; refine HE.mono ?_; rintro e w1 ⟨v1, rfl, h1, b1⟩)
  obtain ⟨yb, yo, yc, rfl, _, _, _, _, hya⟩ := h1.at (by simp)
  obtain ⟨ry, _, hrng, sy, rfl, hsy⟩ := hya 0 _ rfl
  have hrng : w1.rangeAt yb yo (mc M sy) := by simpa using hrng
  simp only [List.length_cons, List.length_nil, Nat.zero_add]
  have HMK := make_any w1 M sy hsy (hT.below b1)
  unfold MkP at HMK
  rw [hmE, hmB] at HMK
  have HCK := (show Hid (∀ u v, Below w1.heap.size w1 u → RT Any u v (byM M) → Calls Tryz.prog 9 #[v, .int .i64 4] u fun e w' => e = .returned (.tuple #[.int .i64 3, .int .i64 0]) ∧ Below u.heap.size u w') from fun u v hu hv => by
    have := check_any u v (byM M) hv 4 ((hT.below b1).below hu)
    unfold CkP at this
    rw [hcW, hcE] at this
    exact this)
  have HCN := (show Hid (∀ u, Below w1.heap.size w1 u → Calls Tryz.prog 9 #[.slice none 0 0, .int .i64 4] u fun e w' => e = .returned (.tuple #[.int .i64 0, .int .i64 161]) ∧ Below u.heap.size u w') from fun u hu => by
    have := check_any u (.slice none 0 0) [] (RT.nil _ _) 4 ((hT.below b1).below hu)
    unfold CkP at this
    rw [(chk_nil 4).1, (chk_nil 4).2] at this
    exact this)
  clear HE h1 hya hmE hmB hcW hcE hsy hT
  go_upto_region 5 with (first
    | (refine wpList_load_mid rfl _ _ rfl yb yo rfl (mc M sy) _ hrng Tryz.underlying40 rfl (by kernel_rfl) ?_)
    | (go_at_call 12; refine HMK.mono ?_; rintro e w2 ⟨v2, rfl, t2, b2⟩))
  have HCK := HCK.out w2 v2 b2 t2
  clear HMK hrng t2
  go_upto_region 6 with (go_at_call 9; refine HCK.mono ?_; rintro e w3 ⟨rfl, b3⟩)
  have HCN := HCN.out w3 (below_and b2 (Nat.le_refl _) b3)
  clear HCK
  go_wp2_with (go_at_call 9; refine HCN.mono ?_; rintro e w4 ⟨rfl, b4⟩)
  go_ret
  exact ⟨rfl, below_and (below_and (below_and b1 (Nat.le_refl _) b2) (Nat.le_refl _) b3) (Nat.le_refl _) b4⟩
end Go.Proofs.YtgjepofinpmcpaaGreatDoor
