/- Note of one vote; ledgerAlive. -/
import Derived.Test.YtajmgpgjkalfkaaDoorJF
import Derived.Test.YtajmgpgjkalfkaaDoorK2
import Derived.Test.YtajmgpgjkalfkaaDoorJG
section
set_option linter.unusedVariables false
set_option linter.unusedSimpArgs false
namespace Go.Proofs.YtajmgpgjkalfkaaDoor
open Go.RowKit Oct Kvl

/-- What a signer's signature is. -/
def sgn (k x y s : Int) (r : PReq) (i : Int) : List Int := signL (repL i) (sL ⟨#[118, 111, 116, 101]⟩) [numsL [k, x, y, s], body r]

set_option maxRecDepth 10000 in
set_option maxHeartbeats 2000000 in
theorem made_any (w : World) (x y s i : Int) (rc : List Value) (r : PReq) (hr : RReq Any w rc r) (hz : tot [r.2.2.1, r.2.2.2] ≤ 2000000) (hT : Tab w) :
    Calls Tryd.prog 18 #[.agg #[.int .i64 x, .int .i64 y], .int .i64 s, .agg rc.toArray, .int .i64 i] w fun e w' => ∃ v', e = .returned (.agg #[.int .i64 i, v']) ∧ RT (From w.heap.size) w' v' (sgn 2 x y s r i) ∧ Below w.heap.size w w' := by
  obtain ⟨o, p, rfl, t1, t2⟩ := hr
  obtain ⟨ao, co, rfl, _⟩ := t1.form
  obtain ⟨ap, cp, rfl, _⟩ := t2.form
  obtain ⟨w1, hw1⟩ : ∃ w1, w1 = w.alloc (.cells #[.int .i64 x, .int .i64 y] 28) := ⟨_, rfl⟩
  obtain ⟨w2, hw2⟩ : ∃ w2, w2 = w1.alloc (.cells #[.int .i64 r.1, .int .i64 r.2.1, .slice ao r.2.2.1.length co, .slice ap r.2.2.2.length cp] 31) := ⟨_, rfl⟩
  obtain ⟨w0, hw0⟩ : ∃ w0, w0 = w2.alloc (.cells #[.int .i64 0, .slice none 0 0] 53) := ⟨_, rfl⟩
  have e1 : w1.heap.size = w.heap.size + 1 := by rw [hw1]; simp
  have e2 : w2.heap.size = w.heap.size + 2 := by rw [hw2]; simp [e1]
  have B1 : Below w.heap.size w w1 := by rw [hw1]; exact below_alloc _ _
  have B2 : Below w1.heap.size w1 w2 := by rw [hw2]; exact below_alloc _ _
  have B3 : Below w2.heap.size w2 w0 := by rw [hw0]; exact below_alloc _ _
  have ra : Row w1 w.heap.size 28 [.int .i64 x, .int .i64 y] := by rw [hw1]; exact Row.new _ _ _
  have rq : Row w2 (w.heap.size + 1) 31 [.int .i64 r.1, .int .i64 r.2.1, .slice ao r.2.2.1.length co, .slice ap r.2.2.2.length cp] := by rw [hw2, ← e1]; exact Row.new _ _ _
  have rb : Row w0 (w.heap.size + 2) 53 [.int .i64 0, .slice none 0 0] := by rw [hw0, ← e2]; exact Row.new _ _ _
  have ra := (ra.below B2).below B3
  have rq := rq.below B3
  have B0 : Below w.heap.size w w0 := below_and (below_and B1 (Nat.le_refl _) B2) (Nat.le_refl _) B3
  have hw : w0 = ((w.alloc (.cells #[.int .i64 x, .int .i64 y] 28)).alloc (.cells #[.int .i64 r.1, .int .i64 r.2.1, .slice ao r.2.2.1.length co, .slice ap r.2.2.2.length cp] 31)).alloc (.cells #[.int .i64 0, .slice none 0 0] 53) := by rw [hw0, hw2, hw1]
  clear hw0 hw1 hw2 e1 e2 B1 B2 B3
  have hdw : Below w0.heap.size w0 w0.drew := ⟨rfl, rfl, rfl, Nat.le_refl _, fun _ _ => rfl⟩
  have HB := (show Hid (∀ _ : Unit, _) from fun _ => body_any w0.drew _ r ⟨_, _, rfl, (t1.mv (Mv.below B0)).mv (Mv.below hdw), (t2.mv (Mv.below B0)).mv (Mv.below hdw)⟩ (Nat.le_trans hz (by decide)))
  have HBL := (show Hid ((body r).length ≤ 3000000) from body_len hz)
  have hbb : Byt (body r) := body_byt t1.1.1 t2.1.1 hz
  have hT0 := hT.below B0
  go_enter Tryd.func18, Tryd.ntmps18
  go_upto_region 1 with fail
  rw [← hw]
  clear hw
  have SK := (show Hid (∀ u, Below w0.heap.size w0 u → u.cell? ⟨w.heap.size, 0, none⟩ = some (.int .i64 x) ∧ u.cell? ⟨w.heap.size, 1, none⟩ = some (.int .i64 y) ∧ u.cell? ⟨w.heap.size + 1, 0, none⟩ = some (.int .i64 r.1) ∧ u.cell? ⟨w.heap.size + 1, 1, none⟩ = some (.int .i64 r.2.1) ∧ u.cell? ⟨w.heap.size + 1, 2, none⟩ = some (.slice ao r.2.2.1.length co) ∧ u.cell? ⟨w.heap.size + 1, 3, none⟩ = some (.slice ap r.2.2.2.length cp)) from
    fun u hu => ⟨(ra.below hu).cell (j := 0) rfl, (ra.below hu).cell (j := 1) rfl, (rq.below hu).cell (j := 0) rfl, (rq.below hu).cell (j := 1) rfl, (rq.below hu).cell (j := 2) rfl, (rq.below hu).cell (j := 3) rfl⟩)
  obtain ⟨a0, a1, a2, a3, a4, a5⟩ := SK.out w0 (Below.refl _ _)
  have SKS := (show Hid (∀ u', Below w0.heap.size w0 u' → ∀ (v1 v2 : Value) (u : World), u = (u'.setCell ⟨w.heap.size + 1 + 1, 0, none⟩ v1).setCell ⟨w.heap.size + 1 + 1, 1, none⟩ v2 → u.cell? ⟨w.heap.size, 0, none⟩ = some (.int .i64 x) ∧ u.cell? ⟨w.heap.size, 1, none⟩ = some (.int .i64 y) ∧ u.cell? ⟨w.heap.size + 1, 0, none⟩ = some (.int .i64 r.1) ∧ u.cell? ⟨w.heap.size + 1, 1, none⟩ = some (.int .i64 r.2.1) ∧ u.cell? ⟨w.heap.size + 1, 2, none⟩ = some (.slice ao r.2.2.1.length co) ∧ u.cell? ⟨w.heap.size + 1, 3, none⟩ = some (.slice ap r.2.2.2.length cp)) from fun u' hu v1 v2 u eu => by
    have hg : u'.grownBy u (some (w.heap.size + 2)) := by rw [eu]; exact grown_trans (grown_set _ _ _ _) (grown_set _ _ _ _) (.inl rfl)
    have q1 := (ra.below hu).grown hg (fun e => by have := Option.some.inj e; omega)
    have q2 := (rq.below hu).grown hg (fun e => by have := Option.some.inj e; omega)
    exact ⟨q1.cell (j := 0) rfl, q1.cell (j := 1) rfl, q2.cell (j := 0) rfl, q2.cell (j := 1) rfl, q2.cell (j := 2) rfl, q2.cell (j := 3) rfl⟩)
  have hne0 : ¬ (w.heap.size = w.heap.size + 1 + 1) := by omega
  have hne1 : ¬ (w.heap.size + 1 = w.heap.size + 1 + 1) := by omega
  go_wp2_with fail
  go_region_held3 (fun u => u.cell? ⟨w.heap.size, 0, none⟩ = some (.int .i64 x) ∧ u.cell? ⟨w.heap.size, 1, none⟩ = some (.int .i64 y) ∧ u.cell? ⟨w.heap.size + 1, 0, none⟩ = some (.int .i64 r.1) ∧ u.cell? ⟨w.heap.size + 1, 1, none⟩ = some (.int .i64 r.2.1) ∧ u.cell? ⟨w.heap.size + 1, 2, none⟩ = some (.slice ao r.2.2.1.length co) ∧ u.cell? ⟨w.heap.size + 1, 3, none⟩ = some (.slice ap r.2.2.2.length cp))
    (first | exact SKS.out w4 hB4 _ _ _ rfl | exact SK.out _ (by assumption) | go_keep)
    (first
      | (go_at_call 32; refine (vMake_any w3 2 x y s i v3 (body r) (ho3.rd hbb) HBL.out (hT0.below hb3)).mono ?_; rintro e w4 ⟨v4, rfl, hRT, hb4⟩; have hB4 : Below w0.heap.size w0 w4 := below_and hb3 (Nat.le_refl _) hb4; obtain ⟨a4, c4, rfl, hc4⟩ := hRT.form; have p0 := (rb.below hB4).cell (j := 0) rfl; have p1 := (rb.below hB4).cell (j := 1) rfl; have pf := (rb.below hB4).frozen 0; have pf1 := (rb.below hB4).frozen 1)
      | (go_at_call 21; refine (HB.out ()).mono ?_; rintro e w3 ⟨v3, rfl, ho3, hf3, hb3'⟩; have hb3 : Below w0.heap.size w0 w3 := hdw.trans hb3'))
  have B4 := below_and B0 (Nat.le_refl _) hB4
  have hlt3 : w.heap.size + 2 < w3.heap.size := Nat.lt_of_lt_of_le rb.lt hb3.size
  have hRT : RT (From w3.heap.size) w4 _ (sgn 2 x y s r i) := hRT
  have hr5 := (((rb.below hB4).set 0 (.int .i64 i)).set 1 (.slice a4 (sgn 2 x y s r i).length c4))
  have hg5 := grown_trans (grown_set w4 (w.heap.size + 2) 0 (.int .i64 i)) (grown_set _ (w.heap.size + 2) 1 (.slice a4 (sgn 2 x y s r i).length c4)) (.inl rfl)
  go_wp2_with fail
  refine bodyPost_ret (v := .agg ([.int .i64 i, .slice a4 (sgn 2 x y s r i).length c4] : List Value).toArray) (results_cell_row rfl _ _ (w.heap.size + 2) _ _ (0, 0) _ (by rfl) hr5 Tryd.underlying53 rfl (by kernel_rfl)) rfl ?_
  exact ⟨_, rfl, hRT.mv (Mv.from hg5 hlt3 (by omega)), B4.trans (grown_below hg5 B4.size (fun k hk => by cases hk; omega))⟩
end Go.Proofs.YtajmgpgjkalfkaaDoor
end

section
namespace Go.Proofs.YtajmgpgjkalfkaaDoor
open Go.RowKit Oct Sha

theorem shaL_len (l : List Int) : (shaL l).length = 32 := out_len _
theorem signL_len {k : Int} (d : List Int) (ll : List (List Int)) (h0 : 0 ≤ k) (h1 : k ≤ 127) : (signL k d ll).length = 32 := by rw [signL_yes _ _ h0 h1, shaL_len]
theorem verL_same {k : Int} (d : List Int) (ll : List (List Int)) (h0 : 0 ≤ k) (h1 : k ≤ 127) : verL k (signL k d ll) d ll = true := by rw [verL, if_pos ⟨h0, h1⟩, decide_eq_true rfl]

/-- A list of one text, written out. -/
theorem rdl_one (w : World) (x : Int) (h0 : 0 ≤ x) (h1 : x ≤ 255) : Rdl ((w.alloc (.cells #[.int .u8 x] 5 (1, 2))).alloc (.cells #[.slice (some ⟨w.heap.size, 0, none⟩) 1 1] 29)) (.slice (some ⟨w.heap.size + 1, 0, none⟩) 1 1) [[x]] := by
  rw [show w.heap.size + 1 = (w.alloc (.cells #[.int .u8 x] 5 (1, 2))).heap.size by simp]
  exact ⟨[.slice (some ⟨w.heap.size, 0, none⟩) 1 1], rdv_els _ [.slice (some ⟨w.heap.size, 0, none⟩) 1 1] 29 (by simp) (by simp),
    (rd_lit w [x] 5 (1, 2) (fun y hy => by rw [List.mem_singleton.1 hy]; exact ⟨h0, h1⟩) (by simp) (by simp)).below (below_alloc _ _), trivial⟩
theorem below_two (w : World) (o p : Obj) : Below w.heap.size w ((w.alloc o).alloc p) := below_and (below_alloc w o) (Nat.le_refl _) (below_alloc _ p)

end Go.Proofs.YtajmgpgjkalfkaaDoor
end

section
set_option linter.unusedVariables false
set_option linter.unusedSimpArgs false
namespace Go.Proofs.YtajmgpgjkalfkaaDoor
open Go.RowKit Oct Kvl

theorem sgn_sz (k x y s : Int) (r : PReq) (i : Int) : szT (sgn k x y s r i) := by
  unfold szT sgn
  by_cases h : 0 ≤ repL i ∧ repL i ≤ 127
  · rw [signL_len _ _ h.1 h.2]; decide
  · rw [signL_no _ _ (by omega)]; decide
theorem rep_in {i : Int} (h0 : 0 ≤ i) (h1 : i ≤ 15) : repL i = i := by unfold repL; rw [if_pos ⟨h0, h1⟩]
theorem sgn_rgt (k x y s : Int) (r : PReq) {i : Int} (h0 : 0 ≤ i) (h1 : i ≤ 15) : rgtV k x y s r (i, sgn k x y s r i) = true := by
  unfold rgtV sgn
  exact verL_same _ _ (by rw [rep_in h0 h1]; omega) (by rw [rep_in h0 h1]; omega)
theorem note_one {ls : List PSn} {k x y s : Int} {r : PReq} {v : PVote} (hk : k = 2 ∨ k = 3) (hv : rgtV k x y s r v = true) : noteL ls k x y s r [v] = meetL ls (k, x, y, s, v.1) r v.2 := by
  unfold noteL noteV
  rw [if_pos hk]
  simp [stpL, hv]
theorem note_not {ls : List PSn} {k x y s : Int} {r : PReq} {v : PVote} (hv : rgtV k x y s r v = false) : noteL ls k x y s r [v] = (ls, []) := by
  unfold noteL noteV
  by_cases hk : k = 2 ∨ k = 3
  · rw [if_pos hk]
    simp [stpL, hv]
  · rw [if_neg hk]
theorem note_nil (ls : List PSn) (k x y s : Int) (r : PReq) : noteL ls k x y s r [] = (ls, []) := by
  unfold noteL noteV
  split <;> rfl
theorem rl_onev {G : Nat → Prop} {w : World} {i : Int} {v : Value} {g : List Int} (h : RT G w v g) (hG : G w.heap.size) : RL RVote 2 G (w.alloc (.cells #[.int .i64 i, v] 53)) (.slice (some ⟨w.heap.size, 0, none⟩) 1 1) [(i, g)] := by
  refine ⟨[[.int .i64 i, v]], ⟨by simp, .inr ⟨w.heap.size, 0, 1, rfl, by simp, by unfold maxLen; decide, by simp, hG, by simp, ?_⟩⟩, ⟨⟨v, rfl, h.mv (Mv.belowG (below_alloc _ _))⟩, trivial⟩⟩
  intro q r hq
  have hR := Row.new w 53 [.int .i64 i, v]
  cases q with
  | zero =>
    simp at hq
    subst hq
    intro j u hj
    simpa using hR.cell hj
  | succ q => simp at hq

/-- What Note answers, seen from an earlier world. -/
theorem note1_any (w : World) (b m : Nat) (ls : List PSn) (h : Lg (NM m) w b m ls) (k x y s i : Int) (rc : List Value) (r : PReq) (hrq : RReq (NM m) w rc r) (hr : tot [r.2.2.1, r.2.2.2] ≤ 2000000) (v : Value) (g : List Int) (hv : RT (NM m) w v g) (hg : szT g) (hT : Tab w) :
    Calls Tryd.prog 12 #[.pointer (some ⟨b, 0, none⟩), .int .i64 k, .agg #[.int .i64 x, .int .i64 y], .int .i64 s, .agg rc.toArray, .slice (some ⟨w.heap.size, 0, none⟩) 1 1] (w.alloc (.cells #[.int .i64 i, v] 53)) fun e w' => NtP w b m (noteL ls k x y s r [(i, g)]) e w' := by
  have B := below_alloc w (.cells #[.int .i64 i, v] 53)
  refine (noteG_any _ b m ls (h.below B) k x y s rc r (mov_req _ _ _ _ _ _ hrq B.size (Mv.belowG B)) hr _ [(i, g)] (rl_onev hv (fun e => by have := h.lt.2; omega)) (by simpa using hg) (by simp) (hT.below B)).mono ?_
  rintro e w' ⟨v', e1, e2, e3, e4⟩
  exact ⟨v', e1, e2.mv mov_ms (Nat.le_refl _) (Mv.weak B.size), e3, grown_trans (grown_of_below B _) e4 (.inl rfl)⟩

def r00 : PReq := (0, 0, [], [])
def r11 : PReq := (1, 1, [], [])
def q13 : PK := (2, 0, 0, 1, 3)
theorem r_ne : ¬ (body r00 = body r11) := by decide
def lsA : List PSn := [⟨q13, r00, sgn 2 0 0 1 r00 3, false⟩]
def lsB : List PSn := [⟨q13, r00, sgn 2 0 0 1 r00 3, true⟩]
theorem al_1 : noteL [] 2 0 0 1 r00 [(3, sgn 2 0 0 1 r00 3)] = (lsA, []) := by
  rw [note_one (.inl rfl) (sgn_rgt _ _ _ _ _ (by decide) (by decide))]
  rfl
theorem al_2 : noteL lsA 2 0 0 1 r11 [(3, sgn 2 0 0 1 r11 3)] = (lsB, [evL q13 r00 (sgn 2 0 0 1 r00 3) r11 (sgn 2 0 0 1 r11 3)]) := by
  rw [note_one (.inl rfl) (sgn_rgt _ _ _ _ _ (by decide) (by decide))]
  exact meet_new (j := 0) (z := ⟨q13, r00, sgn 2 0 0 1 r00 3, false⟩) rfl rfl (by simp; exact r_ne)
theorem al_3 : noteL lsB 2 0 0 1 r11 [(3, sgn 2 0 0 1 r11 3)] = (lsB, []) := by
  rw [note_one (.inl rfl) (sgn_rgt _ _ _ _ _ (by decide) (by decide))]
  exact meet_old (j := 0) (z := ⟨q13, r00, sgn 2 0 0 1 r00 3, true⟩) rfl rfl (.inl rfl)
theorem ev_frm (q : PK) (r1 : PReq) (s1 : List Int) (r2 : PReq) (s2 : List Int) : (evL q r1 s1 r2 s2).frm = q.2.2.2.2 ∧ (evL q r1 s1 r2 s2).idx = q.1 ∧ (evL q r1 s1 r2 s2).slot = q.2.2.2.1 ∧ (evL q r1 s1 r2 s2).bal = (q.2.1, q.2.2.1) := by
  unfold evL ev0
  split <;> exact ⟨rfl, rfl, rfl, rfl⟩
theorem rnil (G : Nat → Prop) (w : World) (a c : Int) : RReq G w [.int .i64 a, .int .i64 c, .slice none 0 0, .slice none 0 0] (a, c, [], []) := ⟨_, _, rfl, RT.nil _ _, RT.nil _ _⟩

theorem toNM {m B : Nat} {w : World} (hm : m < B) : Mv (From B) (NM m) w w := fun k hk _ => ⟨rfl, fun e => by unfold From at hk; omega⟩
theorem below_of_le {B C : Nat} {w w' : World} (h : Below C w w') (hB : B ≤ C) : Below B w w' := ⟨h.os, h.tape, h.output, h.size, fun k hk => h.block k (by omega)⟩

set_option maxRecDepth 10000 in
set_option maxHeartbeats 4000000 in
theorem ledgerAlive_any (w : World) (hT : Tab w) : Calls Tryd.prog 8 #[] w fun e w' => e = .returned (.bool true) ∧ Below w.heap.size w w' := by
  go_enter Tryd.func8, Tryd.ntmps8
  go_upto_region 2 with (go_at_call 9; refine (newG_any w).mono ?_; rintro e w1 ⟨rfl, h1, hb1⟩)
  have hm0 : w.heap.size ≤ w.heap.size := Nat.le_refl _
  have hl := h1.lt
  have hT1 := hT.below hb1
  generalize hm : w.heap.size = m at *
  generalize hbb : m + 1 = b at *
  have hmb : m < b := by omega
  have hmw : w.heap.size ≤ m := Nat.le_of_eq hm
  clear hm hbb hm0
  go_upto_region 5 with fail
  obtain ⟨w2, hw2⟩ : ∃ w2, w2 = w1.alloc (.cells #[.int .i64 1, .int .i64 1, .slice none 0 0, .slice none 0 0] 31) := ⟨_, rfl⟩
  rw [← hw2]
  have b2 : Below w1.heap.size w1 w2 := by rw [hw2]; exact below_alloc _ _
  have rr : Row w2 w1.heap.size 31 [.int .i64 1, .int .i64 1, .slice none 0 0, .slice none 0 0] := by rw [hw2]; exact Row.new _ _ _
  have hB2 := hb1.trans (below_of_le b2 (Nat.le_of_lt hl.2))
  have h2 := h1.below b2
  have hT2 := hT1.below b2
  generalize w1.heap.size = c at *
  clear hw2 b2 h1 hT1 hb1 hl
  have hmc := h2.nrow rr
  go_upto_region 6 with (first
    | (go_at_call 18; refine (made_any w2 0 0 1 3 _ r00 (rnil Any _ 0 0) (by decide) hT2).mono ?_; rintro e w3 ⟨v3, rfl, f3, b3⟩; obtain ⟨a3, c3, rfl, _⟩ := f3.form; have hN := note1_any w3 b m [] (h2.below b3) 2 0 0 1 3 _ r00 (rnil _ _ 0 0) (by decide) _ _ (f3.mv (toNM h2.lt.2)) (sgn_sz _ _ _ _ _ _) (hT2.below b3); rw [al_1] at hN)
    | (go_at_call 12; refine hN.mono ?_; rintro e w4 ⟨v4, rfl, e4, l4, g4⟩; obtain ⟨a4, c4, rfl, _⟩ := e4.form))
  have g4 := grown_trans (grown_of_below b3 _) g4 (.inl rfl)
  have rr4 := rr.grown g4 hmc
  have hT4 := hT2.grown g4 (h2.ntab hT2)
  have hB4 := hB2.trans (grown_below g4 (Nat.le_of_lt h2.lt.2) (fun q hq => by have := Option.some.inj hq; omega))
  clear e4 rr h2 hT2 g4 b3 f3 hN hB2
  have SK4 := (show Hid (∀ u, w4.grownBy u (some m) → u.cell? ⟨c, 0, none⟩ = some (.int .i64 1) ∧ u.cell? ⟨c, 1, none⟩ = some (.int .i64 1) ∧ u.cell? ⟨c, 2, none⟩ = some (.slice none 0 0) ∧ u.cell? ⟨c, 3, none⟩ = some (.slice none 0 0)) from fun u hu => ⟨(rr4.grown hu hmc).cell (j := 0) rfl, (rr4.grown hu hmc).cell (j := 1) rfl, (rr4.grown hu hmc).cell (j := 2) rfl, (rr4.grown hu hmc).cell (j := 3) rfl⟩)
  have hd4 : Below w4.heap.size w4 w4.drew := ⟨rfl, rfl, rfl, Nat.le_refl _, fun _ _ => rfl⟩
  have gd4 : w4.grownBy w4.drew (some m) := grown_of_below hd4 _
  have HMD4 := (show Hid (∀ _ : Unit, _) from fun _ => made_any w4.drew 0 0 1 3 _ r11 (rnil Any _ 1 1) (by decide) (hT4.below hd4))
  go_wp2_with fail
  go_region_held3 (fun u => u.cell? ⟨c, 0, none⟩ = some (.int .i64 1) ∧ u.cell? ⟨c, 1, none⟩ = some (.int .i64 1) ∧ u.cell? ⟨c, 2, none⟩ = some (.slice none 0 0) ∧ u.cell? ⟨c, 3, none⟩ = some (.slice none 0 0))
    (first | exact SK4.out _ gx4 | exact SK4.out _ gb4 | exact SK4.out _ ga4 | exact SK4.out _ gd4 | go_keep)
    (first
      | (go_at_call 12; refine hN4.mono ?_; rintro e wx4 ⟨vx4, rfl, ex4, lx4, gx4'⟩; have gx4 : w4.grownBy wx4 (some m) := grown_trans ga4 gx4' (.inl rfl); obtain ⟨ax4, cx4, rfl, _⟩ := ex4.form)
      | (go_at_call 18; refine (HMD4.out ()).mono ?_; rintro e wa4 ⟨va4, rfl, fa4, ba4⟩; obtain ⟨aa4, ca4, rfl, _⟩ := fa4.form; have bb4 : Below w4.heap.size w4 wa4 := hd4.trans ba4; have ga4 : w4.grownBy wa4 (some m) := grown_of_below bb4 _; have gb4 : w4.grownBy (wa4.alloc (.cells #[.int .i64 3, .slice aa4 (sgn 2 0 0 1 r11 3).length ca4] 53)) (some m) := grown_trans ga4 (grown_of_below (below_alloc _ _) _) (.inl rfl); have hN4 := note1_any wa4 b m lsA (l4.below bb4) 2 0 0 1 3 _ r11 (rnil _ _ 1 1) (by decide) _ _ (fa4.mv (toNM l4.lt.2)) (sgn_sz _ _ _ _ _ _) (hT4.below bb4); rw [al_2] at hN4))
  have rr5 := rr4.grown gx4 hmc
  have hT5 := hT4.grown gx4 (l4.ntab hT4)
  have hB5 := hB4.trans (grown_below gx4 (Nat.le_of_lt l4.lt.2) (fun q hq => by have := Option.some.inj hq; omega))
  obtain ⟨yb, yo, yc, hye, _, _, hyg, hyl, hya⟩ := ex4.at (by simp)
  injection hye with hya1 hya2 hya3
  subst hya1 hya3
  clear hya2
  obtain ⟨ry, _, hrng, sy, rfl, hsy⟩ := hya 0 _ rfl
  have cy := hrng 4 (.int .i64 3) (by rw [show (Value.int .i64 3) = .int .i64 (evL q13 r00 (sgn 2 0 0 1 r00 3) r11 (sgn 2 0 0 1 r11 3)).frm by rw [(ev_frm _ _ _ _ _).1]; rfl]; rfl)
  have hyb : (some m : Option Nat) ≠ some yb := fun e => by have := Option.some.inj e; have := bb4.size; have := l4.lt.2; unfold From at hyg; omega
  have l5 := lx4
  clear hrng hsy hya ex4 lx4 SK4 gd4 HMD4 hN4 ga4 gb4 fa4 ba4 bb4 gx4' rr4 hT4 hB4 l4 hd4
  have SK5 := (show Hid (∀ u, wx4.grownBy u (some m) → u.cell? ⟨c, 0, none⟩ = some (.int .i64 1) ∧ u.cell? ⟨c, 1, none⟩ = some (.int .i64 1) ∧ u.cell? ⟨c, 2, none⟩ = some (.slice none 0 0) ∧ u.cell? ⟨c, 3, none⟩ = some (.slice none 0 0)) from fun u hu => ⟨(rr5.grown hu hmc).cell (j := 0) rfl, (rr5.grown hu hmc).cell (j := 1) rfl, (rr5.grown hu hmc).cell (j := 2) rfl, (rr5.grown hu hmc).cell (j := 3) rfl⟩)
  have hd5 : Below wx4.heap.size wx4 wx4.drew := ⟨rfl, rfl, rfl, Nat.le_refl _, fun _ _ => rfl⟩
  have gd5 : wx4.grownBy wx4.drew (some m) := grown_of_below hd5 _
  have HMD5 := (show Hid (∀ _ : Unit, _) from fun _ => made_any wx4.drew 0 0 1 3 _ r11 (rnil Any _ 1 1) (by decide) (hT5.below hd5))
  go_wp2_with fail
  go_region_held3 (fun u => u.cell? ⟨c, 0, none⟩ = some (.int .i64 1) ∧ u.cell? ⟨c, 1, none⟩ = some (.int .i64 1) ∧ u.cell? ⟨c, 2, none⟩ = some (.slice none 0 0) ∧ u.cell? ⟨c, 3, none⟩ = some (.slice none 0 0))
    (first | exact SK5.out _ gx5 | exact SK5.out _ gb5 | exact SK5.out _ ga5 | exact SK5.out _ gd5 | go_keep)
    (first
      | (go_at_call 12; refine hN5.mono ?_; rintro e wx5 ⟨vx5, rfl, ex5, lx5, gx5'⟩; have gx5 : wx4.grownBy wx5 (some m) := grown_trans ga5 gx5' (.inl rfl); obtain ⟨ax5, cx5, rfl, _⟩ := ex5.form)
      | (go_at_call 18; refine (HMD5.out ()).mono ?_; rintro e wa5 ⟨va5, rfl, fa5, ba5⟩; obtain ⟨aa5, ca5, rfl, _⟩ := fa5.form; have bb5 : Below wx4.heap.size wx4 wa5 := hd5.trans ba5; have ga5 : wx4.grownBy wa5 (some m) := grown_of_below bb5 _; have gb5 : wx4.grownBy (wa5.alloc (.cells #[.int .i64 3, .slice aa5 (sgn 2 0 0 1 r11 3).length ca5] 53)) (some m) := grown_trans ga5 (grown_of_below (below_alloc _ _) _) (.inl rfl); have hN5 := note1_any wa5 b m lsB (l5.below bb5) 2 0 0 1 3 _ r11 (rnil _ _ 1 1) (by decide) _ _ (fa5.mv (toNM l5.lt.2)) (sgn_sz _ _ _ _ _ _) (hT5.below bb5); rw [al_3] at hN5))
  have hB6 := hB5.trans (grown_below gx5 (Nat.le_of_lt l5.lt.2) (fun q hq => by have := Option.some.inj hq; omega))
  have cy6 : wx5.cell? ⟨yb, yo + 4, none⟩ = some (.int .i64 3) := by
    have cy : wx4.cell? ⟨yb, yo + 4, none⟩ = some (.int .i64 3) := by simpa using cy
    rw [World.cell?_of_block (w := wx4) (w' := wx5) (a := ⟨yb, yo + 4, none⟩) (gx5.block yb hyl (fun e => hyb e.symm))]
    exact cy
  have hL := lenG_any wx5 b m lsB lx5
  rw [show ((lsB.length : Nat) : Int) = 1 from rfl] at hL
  clear cy SK5 HMD5 hN5
  go_wp2_with (go_at_call 17; refine hL.mono ?_; rintro e w9 ⟨rfl, rfl⟩)
  go_ret
  exact ⟨rfl, below_of_le hB6 hmw⟩
end Go.Proofs.YtajmgpgjkalfkaaDoor
end
