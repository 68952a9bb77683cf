/- The document's Note: its walk. Written by mk16z.py. -/
import Derived.Test.YtajmgpgjkalfkaaDoorJK
import Derived.Test.YtajmgpgjkalfkaaDoorJL
import Derived.Test.YtajmgpgjkalfkaaDoorJM
import Derived.Test.YtajmgpgjkalfkaaDoorJF
import Derived.Test.YtajmgpgjkalfkaaDoorJH
section
set_option linter.unusedVariables false
set_option linter.unusedSimpArgs false
namespace Go.Proofs.YtajmgpgjkalfkaaDoor
open Go.RowKit Oct Kvl

/-- A message whose texts lie in an elder world. -/
def RMe (w0 : World) (_ : Nat → Prop) (_ : World) (r : List Value) (M : PMsg) : Prop := ∃ s, r = mc M s ∧ SOk Any w0 M s
theorem mov_me (w0 : World) : Mov (RMe w0) := fun _ _ _ _ _ _ h _ _ => h
theorem one_RMe {w0 : World} {G : Nat → Prop} {w : World} {r : List Value} {M : PMsg} (h : RMe w0 G w r M) : ∀ v ∈ r, v.oneCell' = true := by obtain ⟨s, rfl, h⟩ := h; exact h.one
/-- Lists of unlike things lie apart. -/
theorem LB.ne2 {α β : Type} {R : (Nat → Prop) → World → List Value → α → Prop} {R' : (Nat → Prop) → World → List Value → β → Prop} {t t' : TypeId} {k k' B B' : Nat} {w : World} {v v' : Value} {ys : List α} {zs : List β} (h : LB R t k B w v ys) (h' : LB R' t' k' B' w v' zs) (he : t ≠ t') : ∀ g, v.ownBlock = some g → v'.ownBlock ≠ some g := by
  intro g hg hg'
  obtain ⟨rows, _, h1, _, _⟩ := h
  obtain ⟨rows', _, h1', _, _⟩ := h'
  rcases h1.2 with ⟨rfl, _⟩ | ⟨q, _, cur, rfl, _, hq, _⟩
  · simp [Value.ownBlock] at hg
  · rcases h1'.2 with ⟨rfl, _⟩ | ⟨q', _, cur', rfl, _, hq', _⟩
    · simp [Value.ownBlock] at hg'
    · simp [Value.ownBlock] at hg hg'
      subst hg hg'
      rw [hq] at hq'
      simp at hq'
      exact he hq'.2
theorem LB.grownV {α : Type} {R : (Nat → Prop) → World → List Value → α → Prop} (hR : Mov R) {t : TypeId} {k B : Nat} {w w' : World} {v u : Value} {ys : List α} (h : LB R t k B w v ys) (hg : w.grownBy w' u.ownBlock) (hn : ∀ g, u.ownBlock = some g → v.ownBlock ≠ some g) (hM : ∀ r y, R (fun b => B ≤ b ∧ v.ownBlock ≠ some b) w r y → R (fun b => B ≤ b ∧ v.ownBlock ≠ some b) w' r y) : LB R t k B w' v ys := by
  obtain ⟨rows, h0, h1, h2, h3⟩ := h
  refine ⟨rows, h0, World.ownsRow.kept (row := u.ownBlock) h1 hg ?_, h2, h3.mono fun r y hr => hM r y hr⟩
  cases hu : u.ownBlock with
  | none => cases hv : v.ownBlock <;> simp
  | some g =>
    have := hn g hu
    cases hv : v.ownBlock with
    | none => simp
    | some q => rw [hv] at this; simpa using fun e => this (by rw [e])
/-- The document's Note under way: n votes are done. -/
structure NZ (w0 w2 : World) (ls : List PSn) (k x y s : Int) (r : PReq) (vs : List PVote) (n : Nat) (v o : Value) (wr : World) : Prop where
  lb : LB (RSe w0) 68 11 w2.heap.size wr v (noteV ls k x y s r (vs.take n)).1
  ev : LB (RMe w0) 48 23 w2.heap.size wr o (noteV ls k x y s r (vs.take n)).2
  bel : Below w2.heap.size w2 wr
section
variable {w0 w2 : World} {ls : List PSn} {k x y s : Int} {r : PReq} {vs : List PVote} {n : Nat} {v o : Value} {wr wx : World}
theorem NZ.below (h : NZ w0 w2 ls k x y s r vs n v o wr) (hb : Below wr.heap.size wr wx) : NZ w0 w2 ls k x y s r vs n v o wx :=
  ⟨h.lb.below (mov_se w0) hb, h.ev.below (mov_me w0) hb, below_and h.bel (Nat.le_refl _) hb⟩
theorem NZ.skip (h : NZ w0 w2 ls k x y s r vs n v o wr) {V : PVote} (hV : vs[n]? = some V) (hn : rgtV k x y s r V = false) : NZ w0 w2 ls k x y s r vs (n + 1) v o wr := by
  have e : noteV ls k x y s r (vs.take (n + 1)) = noteV ls k x y s r (vs.take n) := by rw [noteV_take hV, stp_no hn]
  exact ⟨by rw [e]; exact h.lb, by rw [e]; exact h.ev, h.bel⟩
theorem NZ.same (h : NZ w0 w2 ls k x y s r vs n v o wr) {V : PVote} (hV : vs[n]? = some V) (hy : rgtV k x y s r V = true) (hm : meetL (noteV ls k x y s r (vs.take n)).1 (k, x, y, s, V.1) r V.2 = ((noteV ls k x y s r (vs.take n)).1, [])) : NZ w0 w2 ls k x y s r vs (n + 1) v o wr := by
  have e : noteV ls k x y s r (vs.take (n + 1)) = noteV ls k x y s r (vs.take n) := by rw [noteV_take hV, stp_yes hy, hm]; simp
  exact ⟨by rw [e]; exact h.lb, by rw [e]; exact h.ev, h.bel⟩
theorem NZ.new {v' : Value} (h : NZ w0 w2 ls k x y s r vs n v o wr) {V : PVote} (hV : vs[n]? = some V) (hy : rgtV k x y s r V = true) {z : PSn} (hm : meetL (noteV ls k x y s r (vs.take n)).1 (k, x, y, s, V.1) r V.2 = ((noteV ls k x y s r (vs.take n)).1 ++ [z], []))
    (hL : LB (RSe w0) 68 11 w2.heap.size wx v' ((noteV ls k x y s r (vs.take n)).1 ++ [z])) (hg : wr.grownBy wx v.ownBlock) : NZ w0 w2 ls k x y s r vs (n + 1) v' o wx := by
  have e : noteV ls k x y s r (vs.take (n + 1)) = ((noteV ls k x y s r (vs.take n)).1 ++ [z], (noteV ls k x y s r (vs.take n)).2) := by rw [noteV_take hV, stp_yes hy, hm]; simp
  exact ⟨by rw [e]; exact hL, by rw [e]; exact h.ev.grownV (mov_me w0) hg (h.lb.ne2 h.ev (by decide)) (fun _ _ hr => hr), h.bel.trans (grown_below hg h.bel.size h.lb.fr)⟩
theorem NZ.told {o' : Value} {wy : World} (h : NZ w0 w2 ls k x y s r vs n v o wr) {V : PVote} (hV : vs[n]? = some V) (hy : rgtV k x y s r V = true) {ls' : List PSn} {M : PMsg} (hm : meetL (noteV ls k x y s r (vs.take n)).1 (k, x, y, s, V.1) r V.2 = (ls', [M]))
    (hL : LB (RSe w0) 68 11 w2.heap.size wy v ls') (hE : LB (RMe w0) 48 23 w2.heap.size wy o' ((noteV ls k x y s r (vs.take n)).2 ++ [M])) (hb : Below w2.heap.size w2 wy) : NZ w0 w2 ls k x y s r vs (n + 1) v o' wy := by
  have e : noteV ls k x y s r (vs.take (n + 1)) = (ls', (noteV ls k x y s r (vs.take n)).2 ++ [M]) := by rw [noteV_take hV, stp_yes hy, hm]
  exact ⟨by rw [e]; exact hL, by rw [e]; exact hE, hb⟩
end
end Go.Proofs.YtajmgpgjkalfkaaDoor
end

section
set_option linter.unusedVariables false
set_option linter.unusedSimpArgs false
namespace Go.Proofs.YtajmgpgjkalfkaaDoor
open Go.RowKit Oct Kvl

set_option maxRecDepth 10000 in
set_option maxHeartbeats 4000000 in
theorem refNoteZ_any (w0 w : World) (hb0 : Below w0.heap.size w0 w) (v : Value) (ls : List PSn) (h : LSe w0 Any w v ls) (hnn : NNs v) (hok : OkL ls) (k x y s : Int) (o p : Value) (r : PReq) (t1 : RT Any w0 o r.2.2.1) (t2 : RT Any w0 p r.2.2.2) (hr : tot [r.2.2.1, r.2.2.2] ≤ 2000000)
    (vv : Value) (vs : List PVote) (hvs : RL RVote 2 Any w0 vv vs) (hsz : ∀ v ∈ vs, szT v.2) (hvl : vs.length ≤ 10000000) :
    Calls Tryd.prog 15 #[v, .int .i64 k, .agg #[.int .i64 x, .int .i64 y], .int .i64 s, .agg #[.int .i64 r.1, .int .i64 r.2.1, o, p], vv] w fun e w' => ∃ v' o', e = .returned (.tuple #[v', o']) ∧ NNs v' ∧ LSe w0 (From w.heap.size) w' v' (noteL ls k x y s r vs).1 ∧ RL (RMe w0) 23 (From w.heap.size) w' o' (noteL ls k x y s r vs).2 ∧ Below w.heap.size w w' := by
  obtain ⟨ao, co, rfl, _⟩ := t1.form
  obtain ⟨ap, cp, rfl, _⟩ := t2.form
  obtain ⟨av, cv, rfl, _⟩ := hvs.form
  obtain ⟨w1, hw1⟩ : ∃ w1, w1 = w.alloc (.cells #[.int .i64 x, .int .i64 y] 28) := ⟨_, rfl⟩
  obtain ⟨w2, hw2⟩ : ∃ w2, w2 = w1.alloc (.cells #[.int .i64 r.1, .int .i64 r.2.1, .slice ao r.2.2.1.length co, .slice ap r.2.2.2.length cp] 31) := ⟨_, rfl⟩
  have e1 : w1.heap.size = w.heap.size + 1 := by rw [hw1]; simp
  have e2 : w2.heap.size = w.heap.size + 2 := by rw [hw2]; simp [e1]
  have B1 : Below w.heap.size w w1 := by rw [hw1]; exact below_alloc _ _
  have B2 : Below w1.heap.size w1 w2 := by rw [hw2]; exact below_alloc _ _
  have ra : Row w1 w.heap.size 28 [.int .i64 x, .int .i64 y] := by rw [hw1]; exact Row.new _ _ _
  have rq : Row w2 (w.heap.size + 1) 31 [.int .i64 r.1, .int .i64 r.2.1, .slice ao r.2.2.1.length co, .slice ap r.2.2.2.length cp] := by rw [hw2, ← e1]; exact Row.new _ _ _
  have ra := ra.below B2
  have B : Below w.heap.size w w2 := below_and B1 (Nat.le_refl _) B2
  have BB := below_and hb0 (Nat.le_refl _) B
  have hw : w2 = (w.alloc (.cells #[.int .i64 x, .int .i64 y] 28)).alloc (.cells #[.int .i64 r.1, .int .i64 r.2.1, .slice ao r.2.2.1.length co, .slice ap r.2.2.2.length cp] 31) := by rw [hw2, hw1]
  have hww : w.heap.size ≤ w2.heap.size := by omega
  clear hw1 hw2 e1 B1 B2
  have h := h.below B
  obtain ⟨ad, nl, cl, rfl⟩ := hnn
  obtain ⟨a', c', e', _⟩ := RL.form h
  injection e' with e3 e4 e5
  subst e3 e5
  have hll := hok.len
  have hlvi : (vs.length : Int) ≤ 10000000 := by omega
  have H2 := (show Hid (LSe w0 Any w2 (.slice (some ad) nl cl) ls) from h)
  have HLL := (show Hid (ls.length ≤ 10000) from Nat.le_trans hll (by decide))
  clear e4 h hll
  go_enter Tryd.func15, Tryd.ntmps15
  go_upto_region 1 with fail
  rw [← hw]
  clear hw
  obtain ⟨cB, hcB⟩ : ∃ c, c = w.heap.size := ⟨_, rfl⟩
  obtain ⟨cR, hcR⟩ : ∃ c, c = w.heap.size + 1 := ⟨_, rfl⟩
  rw [← hcR] at rq ⊢
  rw [← hcB] at ra
  have hgo : (.pointer (some ⟨w.heap.size, 0, none⟩) : Value) = .pointer (some ⟨cB, 0, none⟩) := by rw [hcB]
  rw [hgo]
  clear hcB hcR hgo e2
  go_upto_region 2 with (at_builtin; refine wl_allZ rfl _ _ rfl rfl _ ls rfl H2.out HLL.out ⟨_, _, _, rfl⟩ ?_; intro v3 w3 hL3 hb3 hN3)
  have hf := LB.fresh (RMe w0) 48 23 w2.heap.size w3 hb3.size
  obtain ⟨w4, hw4⟩ : ∃ w4, w4 = w3.alloc (.cells #[] 48) := ⟨_, rfl⟩
  have b4 : Below w3.heap.size w3 w4 := by rw [hw4]; exact below_alloc _ _
  rw [← hw4] at hf
  have hNZ : NZ w0 w2 ls k x y s r vs 0 v3 (.slice (some ⟨w3.heap.size, 0, none⟩) 0 0) w4 := ⟨hL3.below (mov_se w0) b4, hf, below_and hb3 (Nat.le_refl _) b4⟩
  obtain ⟨ad3, n3, c3, rfl⟩ := hN3
  go_upto_region 3 with fail
  rw [← hw4]
  clear hw4 b4 hf hL3 hb3
  by_cases hk : k = 2 ∨ k = 3
  case neg =>
    have hD : noteL ls k x y s r vs = (ls, []) := by unfold noteL; rw [if_neg hk]
    have HD := (show Hid (_ = _) from hD)
    have k2 : (k != 2) = true := by simpa using fun e => hk (.inl e)
    have k3 : (k != 3) = true := by simpa using fun e => hk (.inr e)
    have hlb := hNZ.lb.rl (mov_se w0)
    have hle := hNZ.ev.rl (mov_me w0)
    have hbl := hNZ.bel
    clear hk hD
    go_wp2_with fail
    go_ret2
    rw [HD.out]
    exact ⟨_, _, rfl, ⟨_, _, _, rfl⟩, hlb.mv (mov_se w0) (Nat.le_refl _) (Mv.weak hww), hle.mv (mov_me w0) (Nat.le_refl _) (Mv.weak hww), B.trans (below_of_le hbl hww)⟩
  have hD : noteL ls k x y s r vs = noteV ls k x y s r vs := by unfold noteL; rw [if_pos hk]
  have HD := (show Hid (_ = _) from hD)
  clear hD
  try go_simp
  go_cut [27] from 22 (fun s27 wx => s27 = .bool false ∧ wx = w4)
  case first =>
    rcases hk with rfl | rfl
    all_goals (
      go_wp2_with fail
      go_meet
      case rel => exact ⟨rfl, rfl⟩)
  case rest =>
  obtain ⟨rfl, hcw⟩ := hcut
  rw [hcw]
  clear hcw hk
  go_wp2_with fail
  go_loopw [0, 14, 32] (fun l o j wr => ∃ n : Nat, n ≤ vs.length ∧ j = .int .i64 n ∧ NNs l ∧ NNs o ∧ NZ w0 w2 ls k x y s r vs n l o wr) (fun _ _ j _ => vs.length - (intOf j).toNat)
  case atStart => exact ⟨0, by omega, rfl, ⟨_, _, _, rfl⟩, ⟨_, _, _, rfl⟩, hNZ⟩
  case round =>
    clear hNZ
    obtain ⟨n, hn, rfl, ⟨adl, nl', cl', rfl⟩, ⟨ado, no', co', rfl⟩, hZ⟩ := hrel
    by_cases hnl : n < vs.length
    case neg =>
      have e : vs.take n = vs := List.take_of_length_le (by omega)
      have hl1 := hZ.lb.rl (mov_se w0)
      have hl2 := hZ.ev.rl (mov_me w0)
      have hbl := hZ.bel
      rw [e] at hl1 hl2
      have H1 := (show Hid (_ ∧ _) from And.intro hl1 hl2)
      clear hl1 hl2 hZ e
      go_wp2_with fail
      go_ret2
      rw [HD.out]
      exact ⟨_, _, rfl, ⟨_, _, _, rfl⟩, H1.out.1.mv (mov_se w0) (Nat.le_refl _) (Mv.weak hww), H1.out.2.mv (mov_me w0) (Nat.le_refl _) (Mv.weak hww), B.trans (below_of_le hbl hww)⟩
    obtain ⟨V, hV⟩ : ∃ V, vs[n]? = some V := ⟨_, List.getElem?_eq_getElem hnl⟩
    have hzV := hsz V (List.mem_of_getElem? hV)
    obtain ⟨bv, off, cap, hve, _, _, _, hbv, hat⟩ := hvs.at (by omega)
    obtain ⟨rvv, _, hrng, gv, rfl, hgv⟩ := hat n V hV
    injection hve with hv1 hv2 hv3
    subst hv1 hv3
    clear hv2 hat
    have HV := (show Hid (vs[n]? = some V) from hV)
    clear hV
    obtain ⟨ag, cg, rfl, _⟩ := hgv.form
    have Bwr := below_and BB (Nat.le_refl _) hZ.bel
    have hrng := rangeAt_block hrng (Bwr.block bv hbv)
    have hrow0 := Row.new wr 53 [.int .i64 0, .slice none 0 0]
    have ra := ra.below hZ.bel
    have rq := rq.below hZ.bel
    go_upto_region 8 with (first
      | (refine wpList_load_mid rfl _ _ rfl bv (off + n * 2) rfl [.int .i64 V.1, .slice ag V.2.length cg] _ hrng Tryd.underlying53 rfl (by kernel_rfl) ?_)
      | (refine wl_store rfl _ _ _ rfl wr.heap.size [.int .i64 V.1, .slice ag V.2.length cg] rfl rfl _ _ hrow0 rfl (by kernel_rfl) (one2 rfl) ?_; intro w5 rv g5))
    have b5 : Below wr.heap.size wr w5 := (below_alloc wr (.cells ([.int .i64 0, .slice none 0 0] : List Value).toArray 53)).trans (grown_below g5 (by simp) (fun k hk => by cases hk; exact Nat.le_refl _))
    have rv := rv.out
    obtain ⟨cV, hcV⟩ : ∃ c, c = wr.heap.size := ⟨_, rfl⟩
    rw [← hcV] at rv ⊢
    clear hrng hrow0 g5 hcV
    have ra := ra.below b5
    have rq := rq.below b5
    have hZ5 := hZ.below b5
    have Bw5 := below_and Bwr (Nat.le_refl _) b5
    clear hZ Bwr b5
    have SK5 := (show Hid (∀ u, Below w5.heap.size w5 u → u.cell? ⟨cB, 0, none⟩ = some (.int .i64 x) ∧ u.cell? ⟨cB, 1, none⟩ = some (.int .i64 y) ∧ u.cell? ⟨cR, 0, none⟩ = some (.int .i64 r.1) ∧ u.cell? ⟨cR, 1, none⟩ = some (.int .i64 r.2.1) ∧ u.cell? ⟨cR, 2, none⟩ = some (.slice ao r.2.2.1.length co) ∧ u.cell? ⟨cR, 3, none⟩ = some (.slice ap r.2.2.2.length cp) ∧ u.cell? ⟨cV, 0, none⟩ = some (.int .i64 V.1) ∧ u.cell? ⟨cV, 1, none⟩ = some (.slice ag V.2.length cg)) from fun u hu => ⟨(ra.below hu).cell (j := 0) rfl, (ra.below hu).cell (j := 1) rfl, (rq.below hu).cell (j := 0) rfl, (rq.below hu).cell (j := 1) rfl, (rq.below hu).cell (j := 2) rfl, (rq.below hu).cell (j := 3) rfl, (rv.below hu).cell (j := 0) rfl, (rv.below hu).cell (j := 1) rfl⟩)
    obtain ⟨q0, q1, q2, q3, q4, q5, q6, q7⟩ := SK5.out w5 (Below.refl _ _)
    have hd5 : Below w5.heap.size w5 w5.drew := ⟨rfl, rfl, rfl, Nat.le_refl _, fun _ _ => rfl⟩
    have hbb : Byt (body r) := body_byt t1.1.1 t2.1.1 hr
    have HBL := (show Hid ((body r).length ≤ 3000000) from body_len hr)
    have HB5 := (show Hid (∀ _ : Unit, _) from fun _ => refBody_any w5.drew [.int .i64 r.1, .int .i64 r.2.1, .slice ao r.2.2.1.length co, .slice ap r.2.2.2.length cp] r ⟨_, _, rfl, t1.mv (Mv.below (below_and Bw5 (Nat.le_refl _) hd5)), t2.mv (Mv.below (below_and Bw5 (Nat.le_refl _) hd5))⟩ (Nat.le_trans hr (by decide)))
    try go_simp
    go_region_held3 (fun u => u.cell? ⟨cB, 0, none⟩ = some (.int .i64 x) ∧ u.cell? ⟨cB, 1, none⟩ = some (.int .i64 y) ∧ u.cell? ⟨cR, 0, none⟩ = some (.int .i64 r.1) ∧ u.cell? ⟨cR, 1, none⟩ = some (.int .i64 r.2.1) ∧ u.cell? ⟨cR, 2, none⟩ = some (.slice ao r.2.2.1.length co) ∧ u.cell? ⟨cR, 3, none⟩ = some (.slice ap r.2.2.2.length cp) ∧ u.cell? ⟨cV, 0, none⟩ = some (.int .i64 V.1) ∧ u.cell? ⟨cV, 1, none⟩ = some (.slice ag V.2.length cg))
      (first | exact SK5.out _ b7 | exact SK5.out _ b6 | exact SK5.out _ hd5 | go_keep)
      (first
        | (go_at_call 25; refine (refVRight_any w6 k x y s V.1 v6 (body r) (o6.rd hbb) HBL.out _ V.2 (hgv.mv (Mv.below (below_and Bw5 (Nat.le_refl _) b6))).1).mono ?_; rintro e w7 ⟨rfl, b7'⟩; have b7 : Below w5.heap.size w5 w7 := below_and b6 (Nat.le_refl _) b7')
        | (go_at_call 26; refine (HB5.out ()).mono ?_; rintro e w6 ⟨v6, rfl, o6, f6, b6'⟩; have b6 : Below w5.heap.size w5 w6 := hd5.trans b6'))
    have hZ7 := hZ5.below b7
    have ra := ra.below b7
    have rq := rq.below b7
    have rv := rv.below b7
    have Bw7 := below_and Bw5 (Nat.le_refl _) b7
    clear SK5 HB5 q0 q1 q2 q3 q4 q5 q6 q7 hZ5 Bw5 o6 f6 b6' b6 b7' b7 hd5
    rcases Bool.eq_false_or_eq_true (verL (repL V.1) V.2 (sL ⟨#[118, 111, 116, 101]⟩) [numsL [k, x, y, s], body r]) with hR | hR
    case inr =>
      rw [hR]
      have hZe := hZ7.skip HV.out hR
      clear hR
      go_wp2_with fail
      go_roundw
      case rel => exact ⟨n + 1, by omega, by go_num, ⟨_, _, _, rfl⟩, ⟨_, _, _, rfl⟩, hZe⟩
      case measure => simp [intOf]; omega
    rw [hR]
    have HR := (show Hid (rgtV k x y s r V = true) from hR)
    clear hR
    have hokL : OkL (noteV ls k x y s r (vs.take n)).1 := hok.noteV k x y s hr (fun v hv => hsz v (List.mem_of_mem_take hv))
    have hL7 := (hZ7.lb.rl (mov_se w0)).mv (mov_se w0) (Nat.le_refl _) (Mv.any)
    obtain ⟨_, _, ef, _⟩ := RL.form hL7
    injection ef with ef1 efn ef3
    clear ef1 ef3
    have HN := (show Hid (nl' = (noteV ls k x y s r (vs.take n)).1.length) from efn)
    have hn8 : (nl' : Int) ≤ 8192 := by have := hokL.len; omega
    clear efn
    have HF := refFind_any w0 w7 _ _ hL7 (Nat.le_trans hokL.len (by decide)) k x y s V.1
    clear hL7
    have k0 := ra.cell (j := 0) rfl; have k1 := ra.cell (j := 1) rfl; have k2 := rv.cell (j := 0) rfl
    cases hf : fnd (k, x, y, s, V.1) (keysL (noteV ls k x y s r (vs.take n)).1) with
    | none =>
      rw [fI_none hf] at HF
      have HM := (show Hid (_ = _) from meet_none (r := r) (g := V.2) hf)
      clear hf
      go_upto_region 11 with (go_at_call 27; refine HF.mono ?_; rintro e w8 ⟨rfl, b8⟩)
      have hZ8 := hZ7.below b8
      have ra := ra.below b8
      have rq := rq.below b8
      have rv := rv.below b8
      clear k0 k1 k2 HF hZ7
      by_cases h8 : nl' < 8192
      · have hM := HM.out
        rw [if_pos (by rw [← HN.out]; exact h8)] at hM
        have HM := (show Hid (_ = _) from hM)
        clear hM
        have hlt8 : decide ((nl' : Int) < 8192) = true := by simp; omega
        have hRS : RSe w0 (From w8.heap.size) w8 [.int .i64 k, .int .i64 s, .int .i64 V.1, .int .i64 x, .int .i64 y, .int .i64 r.1, .int .i64 r.2.1, .slice ao r.2.2.1.length co, .slice ap r.2.2.2.length cp, .slice ag V.2.length cg, .bool false] ⟨(k, x, y, s, V.1), r, V.2, false⟩ := ⟨_, _, _, rfl, t1, t2, hgv⟩
        have hon : ∀ u ∈ ([.int .i64 k, .int .i64 s, .int .i64 V.1, .int .i64 x, .int .i64 y, .int .i64 r.1, .int .i64 r.2.1, .slice ao r.2.2.1.length co, .slice ap r.2.2.2.length cp, .slice ag V.2.length cg, .bool false] : List Value), u.oneCell' = true := one_RSe hRS
        have hw8 : w2.heap.size ≤ w8.heap.size := hZ8.bel.size
        have hlb8 := hZ8.lb
        have hllt := hlb8.lt
        have hbnd : ((noteV ls k x y s r (vs.take n)).1.length + 1) * 136 ≤ 140737488355328 := by have := hokL.len; omega
        have k0 := ra.cell (j := 0) rfl; have k1 := ra.cell (j := 1) rfl; have k2 := rv.cell (j := 0) rfl; have k3 := rv.cell (j := 1) rfl
        go_upto_region 16 with (first
          | (refine wl_load rfl _ _ rfl cR rfl _ _ rq _ Tryd.underlying31 rfl (by kernel_rfl) ?_)
          | (at_builtin; refine wl_pushS (mov_se w0) rfl _ _ _ rfl 68 11 136 _ Tryd.underlying26 Tryd.infSn rfl (by decide) w2.heap.size (.slice (some adl) nl' cl') _ rfl hlb8 [.int .i64 k, .int .i64 s, .int .i64 V.1, .int .i64 x, .int .i64 y, .int .i64 r.1, .int .i64 r.2.1, .slice ao r.2.2.1.length co, .slice ap r.2.2.2.length cp, .slice ag V.2.length cg, .bool false] ⟨(k, x, y, s, V.1), r, V.2, false⟩ w8.heap.size hRS rfl hon hw8 hllt rfl hw8 hbnd (by decide) ?_; intro v9 w9 hL9 hg9 hS9; obtain ⟨ad9, n9, c9, rfl⟩ := hL9.nns (by simp)))
        have hZe := hZ8.new HV.out HR.out HM.out hL9 hg9
        clear k0 k1 k2 k3 hL9 hg9 hS9 hlb8 hllt hRS hon
        go_wp2_with fail
        go_roundw
        case rel => exact ⟨n + 1, by omega, by go_num, ⟨_, _, _, rfl⟩, ⟨_, _, _, rfl⟩, hZe⟩
        case measure => simp [intOf]; omega
      · have hM := HM.out
        rw [if_neg (by rw [← HN.out]; exact h8)] at hM
        have hlt8 : decide ((nl' : Int) < 8192) = false := by simp; omega
        have hZe := hZ8.same HV.out HR.out hM
        clear hM HM
        go_wp2_with fail
        go_roundw
        case rel => exact ⟨n + 1, by omega, by go_num, ⟨_, _, _, rfl⟩, ⟨_, _, _, rfl⟩, hZe⟩
        case measure => simp [intOf]; omega
    | some j =>
      rw [fI_some hf] at HF
      obtain ⟨z, hz, hzk⟩ := fnd_at hf
      have hjl := (List.getElem?_eq_some_iff.1 hz).1
      have hji : (j : Int) < (nl' : Int) := by have := HN.out; omega
      have hzok := hokL.ok z (List.mem_of_getElem? hz)
      obtain ⟨zq, zr, zs, zt⟩ := z
      simp only at hzk
      subst hzk
      have hzt := hzok.1
      simp only at hzt
      have HF2 := (show Hid (_ = _) from hf)
      have HZ := (show Hid (_ = _) from hz)
      clear hf hz hzok hjl
      go_upto_region 13 with (go_at_call 27; refine HF.mono ?_; rintro e w8 ⟨rfl, b8⟩)
      have hZ8 := hZ7.below b8
      have ra := ra.below b8
      have rq := rq.below b8
      have rv := rv.below b8
      have Bw8 := below_and Bw7 (Nat.le_refl _) b8
      clear k0 k1 k2 HF hZ7
      obtain ⟨g, cap2, cur, bo_, bp_, bg_, ev2, hc1, hc2, hBg, hrow, hjc, hcur, z1, z2, z3, hset⟩ := hZ8.lb.toldZ HZ.out
      injection ev2 with ev3 ev4 ev5
      injection ev3 with ev3
      subst ev3 ev5
      clear ev4
      simp only at z1 z2 z3
      obtain ⟨bo, do_, rfl, _⟩ := z1.form
      obtain ⟨bp, dp, rfl, _⟩ := z2.form
      obtain ⟨bg, dg, rfl, _⟩ := z3.form
      have HS := (show Hid (∀ w2', w8.grownBy w2' (some g) → _ → _) from hset)
      have hcl : cur.length = cur.length := rfl
      have c5 : w8.cell? ⟨g, j * 11 + 5, none⟩ = some (.int .i64 zr.1) := hrow.cell (hcur 5 _ rfl)
      have c6 : w8.cell? ⟨g, j * 11 + 6, none⟩ = some (.int .i64 zr.2.1) := hrow.cell (hcur 6 _ rfl)
      have c7 : w8.cell? ⟨g, j * 11 + 7, none⟩ = some (.slice bo zr.2.2.1.length do_) := hrow.cell (hcur 7 _ rfl)
      have c8 : w8.cell? ⟨g, j * 11 + 8, none⟩ = some (.slice bp zr.2.2.2.length dp) := hrow.cell (hcur 8 _ rfl)
      have c10 : w8.cell? ⟨g, j * 11 + 10, none⟩ = some (.bool zt) := hrow.cell (hcur 10 _ rfl)
      clear hset hcl
      cases zt with
      | true =>
        have hZe := hZ8.same HV.out HR.out (meet_old HF2.out HZ.out (.inl rfl))
        try go_simp
        go_big_quiet (fail)
        have hZe := hZe.below (bel_dn (Below.refl _ _) nq)
        clear c5 c6 c7 c8 c10
        go_wp2_with fail
        go_roundw
        case rel => exact ⟨n + 1, by omega, by go_num, ⟨_, _, _, rfl⟩, ⟨_, _, _, rfl⟩, hZe⟩
        case measure => simp [intOf]; omega
      | false =>
        have hbz : Byt (body zr) := body_byt z1.1.1 z2.1.1 hzt
        have SK8 := (show Hid (∀ u, Below w8.heap.size w8 u → u.cell? ⟨cR, 0, none⟩ = some (.int .i64 r.1) ∧ u.cell? ⟨cR, 1, none⟩ = some (.int .i64 r.2.1) ∧ u.cell? ⟨cR, 2, none⟩ = some (.slice ao r.2.2.1.length co) ∧ u.cell? ⟨cR, 3, none⟩ = some (.slice ap r.2.2.2.length cp) ∧ u.cell? ⟨g, j * 11 + 5, none⟩ = some (.int .i64 zr.1) ∧ u.cell? ⟨g, j * 11 + 6, none⟩ = some (.int .i64 zr.2.1) ∧ u.cell? ⟨g, j * 11 + 7, none⟩ = some (.slice bo zr.2.2.1.length do_) ∧ u.cell? ⟨g, j * 11 + 8, none⟩ = some (.slice bp zr.2.2.2.length dp) ∧ u.cell? ⟨g, j * 11 + 10, none⟩ = some (.bool false)) from fun u hu => ⟨(rq.below hu).cell (j := 0) rfl, (rq.below hu).cell (j := 1) rfl, (rq.below hu).cell (j := 2) rfl, (rq.below hu).cell (j := 3) rfl, (hrow.below hu).cell (hcur 5 _ rfl), (hrow.below hu).cell (hcur 6 _ rfl), (hrow.below hu).cell (hcur 7 _ rfl), (hrow.below hu).cell (hcur 8 _ rfl), (hrow.below hu).cell (hcur 10 _ rfl)⟩)
        obtain ⟨q0, q1, q2, q3, _⟩ := SK8.out w8 (Below.refl _ _)
        have hd8 : Below w8.heap.size w8 w8.drew := ⟨rfl, rfl, rfl, Nat.le_refl _, fun _ _ => rfl⟩
        have HB8 := (show Hid (∀ _ : Unit, _) from fun _ => refBody_any w8.drew [.int .i64 zr.1, .int .i64 zr.2.1, .slice bo zr.2.2.1.length do_, .slice bp zr.2.2.2.length dp] zr ⟨_, _, rfl, z1.mv (Mv.below (below_and Bw8 (Nat.le_refl _) hd8)), z2.mv (Mv.below (below_and Bw8 (Nat.le_refl _) hd8))⟩ (Nat.le_trans hzt (by decide)))
        try go_simp
        go_region_held3 (fun u => u.cell? ⟨cR, 0, none⟩ = some (.int .i64 r.1) ∧ u.cell? ⟨cR, 1, none⟩ = some (.int .i64 r.2.1) ∧ u.cell? ⟨cR, 2, none⟩ = some (.slice ao r.2.2.1.length co) ∧ u.cell? ⟨cR, 3, none⟩ = some (.slice ap r.2.2.2.length cp) ∧ u.cell? ⟨g, j * 11 + 5, none⟩ = some (.int .i64 zr.1) ∧ u.cell? ⟨g, j * 11 + 6, none⟩ = some (.int .i64 zr.2.1) ∧ u.cell? ⟨g, j * 11 + 7, none⟩ = some (.slice bo zr.2.2.1.length do_) ∧ u.cell? ⟨g, j * 11 + 8, none⟩ = some (.slice bp zr.2.2.2.length dp) ∧ u.cell? ⟨g, j * 11 + 10, none⟩ = some (.bool false))
          (first | exact SK8.out _ bb2 | exact SK8.out _ bb1 | exact SK8.out _ hd8 | go_keep)
          (first
            | (go_at_call 28; refine (same_any wb2 _ _ _ _ ((ob1.rd hbz).below bb2') (ob2.rd hbb)).mono ?_; rintro e wb2 ⟨rfl, rfl⟩)
            | (go_at_call 26; refine (refBody_any wb1 [.int .i64 r.1, .int .i64 r.2.1, .slice ao r.2.2.1.length co, .slice ap r.2.2.2.length cp] r ⟨_, _, rfl, t1.mv (Mv.below (below_and Bw8 (Nat.le_refl _) bb1)), t2.mv (Mv.below (below_and Bw8 (Nat.le_refl _) bb1))⟩ (Nat.le_trans hr (by decide))).mono ?_; rintro e wb2 ⟨vb2, rfl, ob2, fb2, bb2'⟩; have bb2 : Below w8.heap.size w8 wb2 := below_and bb1 (Nat.le_refl _) bb2')
            | (go_at_call 26; refine (HB8.out ()).mono ?_; rintro e wb1 ⟨vb1, rfl, ob1, fb1, bb1'⟩; have bb1 : Below w8.heap.size w8 wb1 := hd8.trans bb1'))
        have hZb := hZ8.below bb2
        have ra := ra.below bb2
        have rq := rq.below bb2
        have rv := rv.below bb2
        have hrowb := hrow.below bb2
        have Bwb := below_and Bw8 (Nat.le_refl _) bb2
        by_cases hbe : body zr = body r
        · have hde : decide (body zr = body r) = true := decide_eq_true hbe
          have hZe := hZb.same HV.out HR.out (meet_old HF2.out HZ.out (.inr hbe))
          rw [hde]
          clear hbe hde SK8 HB8 q0 q1 q2 q3 c5 c6 c7 c8 c10
          go_wp2_with fail
          go_roundw
          case rel => exact ⟨n + 1, by omega, by go_num, ⟨_, _, _, rfl⟩, ⟨_, _, _, rfl⟩, hZe⟩
          case measure => simp [intOf]; omega
        rw [decide_eq_false hbe]
        have HM := (show Hid (_ = _) from meet_new (r := r) (g := V.2) HF2.out HZ.out (by simp; exact hbe))
        clear hbe SK8 HB8 q0 q1 q2 q3 c5 c6 c7 c8 c10 ob1 ob2 fb1 fb2 hd8
        go_upto_region 15 with (refine wl_set rfl _ _ _ rfl g (j * 11 + 10) (.bool true) rfl rfl _ _ hrowb hjc (by kernel_rfl) rfl ?_; intro w9 R9 g9)
        have hnb : ∀ {c : Nat} {t : TypeId} {xs : List Value}, Row wb2 c t xs → 68 ≠ t → (some g : Option Nat) ≠ some c := fun hc ht => hZb.lb.nrow hc ht
        have ra := ra.grown g9 (hnb ra (by decide))
        have rq := rq.grown g9 (hnb rq (by decide))
        have rv := rv.grown g9 (hnb rv (by decide))
        have R9 := R9.out
        have hLt := HS.out w9 (grown_trans (grown_of_below bb2 _) g9 (.inl rfl)) R9
        have hE9 : LB (RMe w0) 48 23 w2.heap.size w9 (.slice (some ado) no' co') _ := hZb.ev.grownV (u := .slice (some ⟨g, 0, none⟩) nl' cl') (mov_me w0) g9 (hZb.lb.ne2 hZb.ev (by decide)) (fun _ _ hr => hr)
        have hB9 := hZb.bel.trans (grown_below g9 hZb.bel.size (fun q hq => by have := Option.some.inj hq; omega))
        have Bw9 : Below w0.heap.size w0 w9 := BB.trans (below_of_le hB9 BB.size)
        obtain ⟨M, hM⟩ : ∃ M, M = evL (k, x, y, s, V.1) zr zs r V.2 := ⟨_, rfl⟩
        have hm9 : ∀ i u, i < 10 → (snc ⟨(k, x, y, s, V.1), zr, zs, false⟩ (.slice bo zr.2.2.1.length do_) (.slice bp zr.2.2.2.length dp) (.slice bg zs.length dg))[i]? = some u → (cur.set (j * 11 + 10) (.bool true))[j * 11 + i]? = some u := fun i u hi hu => by rw [List.getElem?_set_ne (by omega)]; exact hcur i u hu
        have hm10 : (cur.set (j * 11 + 10) (.bool true))[j * 11 + 10]? = some (.bool true) := List.getElem?_set_self hjc
        have SK9 := (show Hid (∀ u, Below w9.heap.size w9 u → u.cell? ⟨cR, 0, none⟩ = some (.int .i64 r.1) ∧ u.cell? ⟨cR, 1, none⟩ = some (.int .i64 r.2.1) ∧ u.cell? ⟨cR, 2, none⟩ = some (.slice ao r.2.2.1.length co) ∧ u.cell? ⟨cR, 3, none⟩ = some (.slice ap r.2.2.2.length cp) ∧ u.cell? ⟨cV, 1, none⟩ = some (.slice ag V.2.length cg) ∧ u.cell? ⟨g, j * 11, none⟩ = some (.int .i64 k) ∧ u.cell? ⟨g, j * 11 + 1, none⟩ = some (.int .i64 s) ∧ u.cell? ⟨g, j * 11 + 2, none⟩ = some (.int .i64 V.1) ∧ u.cell? ⟨g, j * 11 + 3, none⟩ = some (.int .i64 x) ∧ u.cell? ⟨g, j * 11 + 4, none⟩ = some (.int .i64 y) ∧ u.cell? ⟨g, j * 11 + 5, none⟩ = some (.int .i64 zr.1) ∧ u.cell? ⟨g, j * 11 + 6, none⟩ = some (.int .i64 zr.2.1) ∧ u.cell? ⟨g, j * 11 + 7, none⟩ = some (.slice bo zr.2.2.1.length do_) ∧ u.cell? ⟨g, j * 11 + 8, none⟩ = some (.slice bp zr.2.2.2.length dp) ∧ u.cell? ⟨g, j * 11 + 9, none⟩ = some (.slice bg zs.length dg) ∧ u.cell? ⟨g, j * 11 + 10, none⟩ = some (.bool true)) from fun u hu => ⟨(rq.below hu).cell (j := 0) rfl, (rq.below hu).cell (j := 1) rfl, (rq.below hu).cell (j := 2) rfl, (rq.below hu).cell (j := 3) rfl, (rv.below hu).cell (j := 1) rfl, (R9.below hu).cell (hm9 0 _ (by decide) rfl), (R9.below hu).cell (hm9 1 _ (by decide) rfl), (R9.below hu).cell (hm9 2 _ (by decide) rfl), (R9.below hu).cell (hm9 3 _ (by decide) rfl), (R9.below hu).cell (hm9 4 _ (by decide) rfl), (R9.below hu).cell (hm9 5 _ (by decide) rfl), (R9.below hu).cell (hm9 6 _ (by decide) rfl), (R9.below hu).cell (hm9 7 _ (by decide) rfl), (R9.below hu).cell (hm9 8 _ (by decide) rfl), (R9.below hu).cell (hm9 9 _ (by decide) rfl), (R9.below hu).cell hm10⟩)
        have SKX := (show Hid (∀ u' u, Below w9.heap.size w9 u' → u'.grownBy u (.slice (some ado) no' co' : Value).ownBlock → u.cell? ⟨cR, 0, none⟩ = some (.int .i64 r.1) ∧ u.cell? ⟨cR, 1, none⟩ = some (.int .i64 r.2.1) ∧ u.cell? ⟨cR, 2, none⟩ = some (.slice ao r.2.2.1.length co) ∧ u.cell? ⟨cR, 3, none⟩ = some (.slice ap r.2.2.2.length cp) ∧ u.cell? ⟨cV, 1, none⟩ = some (.slice ag V.2.length cg) ∧ u.cell? ⟨g, j * 11, none⟩ = some (.int .i64 k) ∧ u.cell? ⟨g, j * 11 + 1, none⟩ = some (.int .i64 s) ∧ u.cell? ⟨g, j * 11 + 2, none⟩ = some (.int .i64 V.1) ∧ u.cell? ⟨g, j * 11 + 3, none⟩ = some (.int .i64 x) ∧ u.cell? ⟨g, j * 11 + 4, none⟩ = some (.int .i64 y) ∧ u.cell? ⟨g, j * 11 + 5, none⟩ = some (.int .i64 zr.1) ∧ u.cell? ⟨g, j * 11 + 6, none⟩ = some (.int .i64 zr.2.1) ∧ u.cell? ⟨g, j * 11 + 7, none⟩ = some (.slice bo zr.2.2.1.length do_) ∧ u.cell? ⟨g, j * 11 + 8, none⟩ = some (.slice bp zr.2.2.2.length dp) ∧ u.cell? ⟨g, j * 11 + 9, none⟩ = some (.slice bg zs.length dg) ∧ u.cell? ⟨g, j * 11 + 10, none⟩ = some (.bool true)) from fun u' u hu hg => by
          have hnr : ∀ {c : Nat} {t : TypeId} {xs : List Value}, Row w9 c t xs → 48 ≠ t → (.slice (some ado) no' co' : Value).ownBlock ≠ some c := fun hc ht => hE9.nrow hc ht
          exact ⟨((rq.below hu).grown hg (hnr rq (by decide))).cell (j := 0) rfl, ((rq.below hu).grown hg (hnr rq (by decide))).cell (j := 1) rfl, ((rq.below hu).grown hg (hnr rq (by decide))).cell (j := 2) rfl, ((rq.below hu).grown hg (hnr rq (by decide))).cell (j := 3) rfl, ((rv.below hu).grown hg (hnr rv (by decide))).cell (j := 1) rfl, ((R9.below hu).grown hg (hnr R9 (by decide))).cell (hm9 0 _ (by decide) rfl), ((R9.below hu).grown hg (hnr R9 (by decide))).cell (hm9 1 _ (by decide) rfl), ((R9.below hu).grown hg (hnr R9 (by decide))).cell (hm9 2 _ (by decide) rfl), ((R9.below hu).grown hg (hnr R9 (by decide))).cell (hm9 3 _ (by decide) rfl), ((R9.below hu).grown hg (hnr R9 (by decide))).cell (hm9 4 _ (by decide) rfl), ((R9.below hu).grown hg (hnr R9 (by decide))).cell (hm9 5 _ (by decide) rfl), ((R9.below hu).grown hg (hnr R9 (by decide))).cell (hm9 6 _ (by decide) rfl), ((R9.below hu).grown hg (hnr R9 (by decide))).cell (hm9 7 _ (by decide) rfl), ((R9.below hu).grown hg (hnr R9 (by decide))).cell (hm9 8 _ (by decide) rfl), ((R9.below hu).grown hg (hnr R9 (by decide))).cell (hm9 9 _ (by decide) rfl), ((R9.below hu).grown hg (hnr R9 (by decide))).cell hm10⟩)
        have hd9 : Below w9.heap.size w9 w9.drew := ⟨rfl, rfl, rfl, Nat.le_refl _, fun _ _ => rfl⟩
        have HEV := (show Hid (∀ _ : Unit, _) from fun _ => refEvidence_any w0 w9.drew (below_and Bw9 (Nat.le_refl _) hd9) ⟨(k, x, y, s, V.1), zr, zs, true⟩ _ _ _ z1 z2 z3 r _ _ _ V.2 t1 t2 hgv hzt hr)
        simp only [← hM] at HEV
        have HMd := (show Hid (M = evL (k, x, y, s, V.1) zr zs r V.2) from hM)
        clear hM
        obtain ⟨q0, q1, q2, q3, q4, q5, q6, q7, q8, q9, q10, q11, q12, q13, q14, q15⟩ := SK9.out w9 (Below.refl _ _)
        have hwl : (noteV ls k x y s r (vs.take n)).2.length ≤ 10000000 := Nat.le_trans (noteV_len hok k x y s hr (fun v hv => hsz v (List.mem_of_mem_take hv))) (by rw [List.length_take]; omega)
        have hwl2 : ((noteV ls k x y s r (vs.take n)).2.length + 1) * 360 ≤ 140737488355328 := by omega
        have HWL := (show Hid (((noteV ls k x y s r (vs.take n)).2.length + 1) * 360 ≤ 140737488355328) from hwl2)
        clear hwl2
        clear hwl
        try go_simp
        go_region_held3 (fun u => u.cell? ⟨cR, 0, none⟩ = some (.int .i64 r.1) ∧ u.cell? ⟨cR, 1, none⟩ = some (.int .i64 r.2.1) ∧ u.cell? ⟨cR, 2, none⟩ = some (.slice ao r.2.2.1.length co) ∧ u.cell? ⟨cR, 3, none⟩ = some (.slice ap r.2.2.2.length cp) ∧ u.cell? ⟨cV, 1, none⟩ = some (.slice ag V.2.length cg) ∧ u.cell? ⟨g, j * 11, none⟩ = some (.int .i64 k) ∧ u.cell? ⟨g, j * 11 + 1, none⟩ = some (.int .i64 s) ∧ u.cell? ⟨g, j * 11 + 2, none⟩ = some (.int .i64 V.1) ∧ u.cell? ⟨g, j * 11 + 3, none⟩ = some (.int .i64 x) ∧ u.cell? ⟨g, j * 11 + 4, none⟩ = some (.int .i64 y) ∧ u.cell? ⟨g, j * 11 + 5, none⟩ = some (.int .i64 zr.1) ∧ u.cell? ⟨g, j * 11 + 6, none⟩ = some (.int .i64 zr.2.1) ∧ u.cell? ⟨g, j * 11 + 7, none⟩ = some (.slice bo zr.2.2.1.length do_) ∧ u.cell? ⟨g, j * 11 + 8, none⟩ = some (.slice bp zr.2.2.2.length dp) ∧ u.cell? ⟨g, j * 11 + 9, none⟩ = some (.slice bg zs.length dg) ∧ u.cell? ⟨g, j * 11 + 10, none⟩ = some (.bool true))
          (first | exact hSX | exact SK9.out _ bal | exact SK9.out _ b10 | exact SK9.out _ hd9 | go_keep)
          (first
            | (refine step_pushS (mov_me w0) (by rfl) _ _ _ (by rfl) 48 23 360 _ Tryd.underlying37 Tryd.inf_msg rfl (by decide) w2.heap.size (.slice (some ado) no' co') _ (by rfl) hE10 [.int .i64 M.kind, .int .i64 M.bal.1, .int .i64 M.bal.2, .int .i64 M.slot, .int .i64 M.frm, .int .i64 M.to, .int .i64 M.idx, .int .i64 M.cnt, .int .i64 M.req.1, .int .i64 M.req.2.1, .slice f0 M.req.2.2.1.length d0, .slice f1 M.req.2.2.2.length d1, .int .i64 M.oth.1, .int .i64 M.oth.2.1, .slice f2 M.oth.2.2.1.length d2, .slice f3 M.oth.2.2.2.length d3, .slice f4 M.data.length d4, .slice f5 M.sig.length d5, .slice f6 M.cert.length d6, .slice f7 M.votes.length d7, .slice f8 M.order.length d8, .slice f9 M.picks.length d9, .slice f10 M.reps.length d10] M w10.heap.size hRM rfl hon hw10 hE10.lt (by rfl) hw10 HWL.out (by decide) ?_; intro v11 w11 hL11 hg11 hS11; have hSX := SKX.out w10 w11 b10 hg11; obtain ⟨ad11, n11, c11, rfl⟩ := hL11.nns (by simp))
            | (go_at_call 29; refine (HEV.out ()).mono ?_; rintro e w10 ⟨⟨so, sg, so2, sg2, sd, ss, sc, sv, sn, sp, sl⟩, rfl, hsv, b10'⟩; obtain ⟨f0, d0, h0, _⟩ := hsv.o.form; simp only at h0; subst h0; obtain ⟨f1, d1, h1, _⟩ := hsv.g.form; simp only at h1; subst h1; obtain ⟨f2, d2, h2, _⟩ := hsv.o'.form; simp only at h2; subst h2; obtain ⟨f3, d3, h3, _⟩ := hsv.g'.form; simp only at h3; subst h3; obtain ⟨f4, d4, h4, _⟩ := hsv.d.form; simp only at h4; subst h4; obtain ⟨f5, d5, h5, _⟩ := hsv.s.form; simp only at h5; subst h5; obtain ⟨f6, d6, h6, _⟩ := hsv.c.form; simp only at h6; subst h6; obtain ⟨f7, d7, h7, _⟩ := hsv.v.form; simp only at h7; subst h7; obtain ⟨f8, d8, h8, _⟩ := hsv.n.form; simp only at h8; subst h8; obtain ⟨f9, d9, h9, _⟩ := hsv.p.form; simp only at h9; subst h9; obtain ⟨f10, d10, h10, _⟩ := hsv.l.form; simp only at h10; subst h10; simp only [mc]; have b10 : Below w9.heap.size w9 w10 := hd9.trans b10'; have hE10 := hE9.below (mov_me w0) b10; have hw10 : w2.heap.size ≤ w10.heap.size := Nat.le_trans hB9.size b10.size; have hRM : RMe w0 (From w10.heap.size) w10 [.int .i64 M.kind, .int .i64 M.bal.1, .int .i64 M.bal.2, .int .i64 M.slot, .int .i64 M.frm, .int .i64 M.to, .int .i64 M.idx, .int .i64 M.cnt, .int .i64 M.req.1, .int .i64 M.req.2.1, .slice f0 M.req.2.2.1.length d0, .slice f1 M.req.2.2.2.length d1, .int .i64 M.oth.1, .int .i64 M.oth.2.1, .slice f2 M.oth.2.2.1.length d2, .slice f3 M.oth.2.2.2.length d3, .slice f4 M.data.length d4, .slice f5 M.sig.length d5, .slice f6 M.cert.length d6, .slice f7 M.votes.length d7, .slice f8 M.order.length d8, .slice f9 M.picks.length d9, .slice f10 M.reps.length d10] M := ⟨_, rfl, hsv⟩; have hon := one_RMe hRM; have bal : Below w9.heap.size w9 (w10.alloc (.cells #[.int .i64 M.kind, .int .i64 M.bal.1, .int .i64 M.bal.2, .int .i64 M.slot, .int .i64 M.frm, .int .i64 M.to, .int .i64 M.idx, .int .i64 M.cnt, .int .i64 M.req.1, .int .i64 M.req.2.1, .slice f0 M.req.2.2.1.length d0, .slice f1 M.req.2.2.2.length d1, .int .i64 M.oth.1, .int .i64 M.oth.2.1, .slice f2 M.oth.2.2.1.length d2, .slice f3 M.oth.2.2.2.length d3, .slice f4 M.data.length d4, .slice f5 M.sig.length d5, .slice f6 M.cert.length d6, .slice f7 M.votes.length d7, .slice f8 M.order.length d8, .slice f9 M.picks.length d9, .slice f10 M.reps.length d10] 48)) := below_and b10 (Nat.le_refl _) (below_alloc _ _)))
        have hLe := (hLt.below (mov_se w0) b10).grownV (u := .slice (some ado) no' co') (mov_se w0) hg11 (fun q hq hq' => hE10.ne2 (hLt.below (mov_se w0) b10) (by decide) q hq hq') (fun _ _ hr => hr)
        have hBe := (below_and hB9 (Nat.le_refl _) b10).trans (grown_below hg11 (Nat.le_trans hB9.size b10.size) hE10.fr)
        have hmm := HM.out
        rw [← HMd.out] at hmm
        have hZe := hZb.told HV.out HR.out hmm hLe hL11 hBe
        clear SK9 SKX HEV hmm HMd q0 q1 q2 q3 q4 q5 q6 q7 q8 q9 q10 q11 q12 q13 q14 q15
        go_wp2_with fail
        go_roundw
        case rel => exact ⟨n + 1, by omega, by go_num, ⟨_, _, _, rfl⟩, ⟨_, _, _, rfl⟩, hZe⟩
        case measure => simp [intOf]; omega
end Go.Proofs.YtajmgpgjkalfkaaDoor
end
