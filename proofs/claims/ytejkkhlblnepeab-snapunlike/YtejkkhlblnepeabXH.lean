/- The document's Same, of two states alike. -/
import Derived.Test.YtejkkhlblnepeabXB
import Derived.Test.YtejkkhlblnepeabHF
import Derived.Deep.Cut
import Derived.Deep.RegionHeld3
section
set_option linter.unusedVariables false
set_option linter.unusedSimpArgs false
namespace Go.Proofs.Ytejkkhlblnepeab
open Go.RowKit Oct Kvl

/-- What lies in blocks from u to v. -/
def Rng (u v : Nat) : Nat → Prop := fun k => u ≤ k ∧ k < v
theorem rl_rng {α : Type} {R : (Nat → Prop) → World → List Value → α → Prop} (hR : ∀ G w r a, R G w r a → R (fun k => G k ∧ k < w.heap.size) w r a) {k : Nat} {G : Nat → Prop} {w : World} {v : Value} {ys : List α} (h : RL R k G w v ys) : RL R k (fun k => G k ∧ k < w.heap.size) w v ys := by
  obtain ⟨rows, ⟨h1, h2⟩, h3⟩ := h
  refine ⟨rows, ⟨h1, ?_⟩, h3.mono fun r a h => hR _ _ _ _ h⟩
  rcases h2 with h2 | ⟨b, off, cap, e1, e2, e3, e4, e5, e6, e7⟩
  · exact .inl h2
  · exact .inr ⟨b, off, cap, e1, e2, e3, e4, ⟨e5, e6⟩, e6, e7⟩
theorem rt_rng {G : Nat → Prop} {w : World} {v : Value} {l : List Int} (h : RT G w v l) : RT (fun k => G k ∧ k < w.heap.size) w v l := ⟨h.1, fun hx k hk => ⟨h.2 hx k hk, h.1.lt hx k hk⟩⟩
theorem ent_rng (G : Nat → Prop) (w : World) (r : List Value) (a : PEnt) (h : REnt G w r a) : REnt (fun k => G k ∧ k < w.heap.size) w r a := by
  obtain ⟨x, y, e, h1, h2⟩ := h
  exact ⟨x, y, e, rt_rng h1, rt_rng h2⟩
theorem lea_rng (G : Nat → Prop) (w : World) (r : List Value) (a : PEnt) (h : RLea G w r a) : RLea (fun k => G k ∧ k < w.heap.size) w r a := by
  obtain ⟨x, p, q, e, h1, h2⟩ := h
  exact ⟨x, p, q, e, rt_rng h1, h2⟩
theorem bel_set4 {B b : Nat} {w u : World} {x0 x1 x2 x3 : Value} (h : Below B w u) (hw : B ≤ w.heap.size) (hb : B ≤ b) : Below B w ((((u.setCell ⟨b, 0, none⟩ x0).setCell ⟨b, 1, none⟩ x1).setCell ⟨b, 2, none⟩ x2).setCell ⟨b, 3, none⟩ x3) :=
  h.trans (grown_below (grown_trans (grown_trans (grown_trans (grown_set u b 0 x0) (grown_set _ b 1 x1) (.inl rfl)) (grown_set _ b 2 x2) (.inl rfl)) (grown_set _ b 3 x3) (.inl rfl)) (Nat.le_trans hw h.size) (fun k hk => by cases hk; exact hb))
theorem set4_row {w : World} {b : Nat} {t : TypeId} {x0 x1 x2 x3 v0 v1 v2 v3 : Value} (h : Row w b t [x0, x1, x2, x3]) : Row ((((w.setCell ⟨b, 0, none⟩ v0).setCell ⟨b, 1, none⟩ v1).setCell ⟨b, 2, none⟩ v2).setCell ⟨b, 3, none⟩ v3) b t [v0, v1, v2, v3] ∧ w.grownBy ((((w.setCell ⟨b, 0, none⟩ v0).setCell ⟨b, 1, none⟩ v1).setCell ⟨b, 2, none⟩ v2).setCell ⟨b, 3, none⟩ v3) (some b) :=
  ⟨(((h.set 0 v0).set 1 v1).set 2 v2).set 3 v3, grown_trans (grown_trans (grown_trans (grown_set w b 0 v0) (grown_set _ b 1 v1) (.inl rfl)) (grown_set _ b 2 v2) (.inl rfl)) (grown_set _ b 3 v3) (.inl rfl)⟩

theorem mvG {N b lo : Nat} {w w' : World} {row : Option Nat} (hg : w.grownBy w' row) (hr : ∀ k, row = some k → k = b ∨ N ≤ k) : Mv (fun k => lo ≤ k ∧ k < N ∧ k ≠ b) (fun k => lo ≤ k ∧ k < N ∧ k ≠ b) w w' := fun k hk hlt => ⟨hg.block k hlt (fun e => by rcases hr k e.symm with h | h; exact hk.2.2 h; have := hk.2.1; omega), hk⟩
theorem set4_keep {u : World} {b : Nat} {x y z t v : Value} {a : Addr} (h : u.cell? a = some v) (hn : ¬ (a.block = b)) : ((((u.setCell ⟨b, 0, none⟩ x).setCell ⟨b, 1, none⟩ y).setCell ⟨b, 2, none⟩ z).setCell ⟨b, 3, none⟩ t).cell? a = some v :=
  grown_cellE (grown_trans (grown_trans (grown_trans (grown_set u b 0 x) (grown_set _ b 1 y) (.inl rfl)) (grown_set _ b 2 z) (.inl rfl)) (grown_set _ b 3 t) (.inl rfl)) h (fun e => hn (Option.some.inj e).symm)
set_option maxRecDepth 10000 in
set_option maxHeartbeats 8000000 in
/-- The document's Copy. -/
theorem refCopyA_any (w : World) (r : List Value) (a : PApp) (h : RApp Any w r a) (hz : szA a) :
    Calls Try.prog 6 #[.agg r.toArray] w fun e w' => ∃ r', e = .returned (.agg r'.toArray) ∧ RApp (From w.heap.size) w' r' a ∧ Below w.heap.size w w' := by
  have le := Nat.le_refl w.heap.size
  obtain ⟨ve, vl, vs, rfl, h1, h2, h3⟩ := h
  obtain ⟨z1, z2, z3⟩ := hz
  obtain ⟨asv, cs, rfl, hcs⟩ := h3.form
  obtain ⟨w2, hw2⟩ : ∃ w2, w2 = (w.alloc (.cells #[.int .i64 a.1, ve, vl, .slice asv a.2.2.2.length cs] 26)).alloc (.cells #[.int .i64 0, .slice none 0 0, .slice none 0 0, .slice none 0 0] 26) := ⟨_, rfl⟩
  have ra : Row w2 w.heap.size 26 [.int .i64 a.1, ve, vl, .slice asv a.2.2.2.length cs] := by rw [hw2]; exact rowA (Row.new w 26 _) _
  have rr : Row w2 (w.heap.size + 1) 26 [.int .i64 0, .slice none 0 0, .slice none 0 0, .slice none 0 0] := by
    rw [hw2]
    have := Row.new (w.alloc (.cells #[.int .i64 a.1, ve, vl, .slice asv a.2.2.2.length cs] 26)) 26 [.int .i64 0, .slice none 0 0, .slice none 0 0, .slice none 0 0]
    simpa using this
  have hB : Below w.heap.size w w2 := by rw [hw2]; exact ((Below.refl _ w).alloc (Nat.le_refl _) _).alloc (by simp) _
  have hsz : w2.heap.size = w.heap.size + 2 := by rw [hw2]; simp
  go_enter Try.func6, Try.ntmps6
  go_upto_region 1 with fail
  rw [← hw2]
  clear hw2
  have HS := (show Hid (w2.heap.size = w.heap.size + 2) from hsz)
  clear hsz
  have HC1 := (show Hid (∀ u, Below w2.heap.size w2 u → Calls Try.prog 15 #[ve] u fun e w' => ∃ ai ci, e = .returned (.slice ai a.2.1.length ci) ∧ Hid (∀ z : World, w'.heap.size ≤ z.heap.size → (∀ j, u.heap.size ≤ j → j < w'.heap.size → z.heap[j]? = w'.heap[j]?) → RL REnt 2 (Rng u.heap.size w'.heap.size) z (.slice ai a.2.1.length ci) a.2.1) ∧ Below u.heap.size u w' ∧ Below w2.heap.size w2 w') from fun u hu => (refCopy_any u ve _ (h1.mv mov_ent (below_and hB le hu).size (Mv.below (below_and hB le hu))) z1).mono fun e w' ⟨v', e1, e2, e3⟩ => by
    obtain ⟨ai, ci, rfl, _⟩ := (e2.rl mov_ent).form
    exact ⟨ai, ci, e1, fun z hz hk => (rl_rng ent_rng (e2.rl mov_ent)).mv mov_ent hz (fun j hj hlt => ⟨hk j hj.1 hj.2, hj⟩), e3, below_and hu (Nat.le_refl _) e3⟩)
  have HC2 := (show Hid (∀ u, Below w2.heap.size w2 u → Calls Try.prog 16 #[vl] u fun e w' => ∃ ai ci, e = .returned (.slice ai a.2.2.1.length ci) ∧ Hid (∀ z : World, w'.heap.size ≤ z.heap.size → (∀ j, u.heap.size ≤ j → j < w'.heap.size → z.heap[j]? = w'.heap[j]?) → RL RLea 3 (Rng u.heap.size w'.heap.size) z (.slice ai a.2.2.1.length ci) a.2.2.1) ∧ Below u.heap.size u w' ∧ Below w2.heap.size w2 w') from fun u hu => (refCopyS_any u vl _ (h2.mv mov_lea (below_and hB le hu).size (Mv.below (below_and hB le hu))) z2).mono fun e w' ⟨v', e1, e2, e3⟩ => by
    obtain ⟨ai, ci, rfl, _⟩ := (e2.rl mov_lea).form
    exact ⟨ai, ci, e1, fun z hz hk => (rl_rng lea_rng (e2.rl mov_lea)).mv mov_lea hz (fun j hj hlt => ⟨hk j hj.1 hj.2, hj⟩), e3, below_and hu (Nat.le_refl _) e3⟩)
  have SK := (show Hid (∀ u, Below w2.heap.size w2 u → u.cell? ⟨w.heap.size, 0, none⟩ = some (.int .i64 a.1) ∧ u.cell? ⟨w.heap.size, 1, none⟩ = some ve ∧ u.cell? ⟨w.heap.size, 2, none⟩ = some vl) from fun u hu => ⟨(ra.below hu).cell (j := 0) rfl, (ra.below hu).cell (j := 1) rfl, (ra.below hu).cell (j := 2) rfl⟩)
  obtain ⟨m0, m1, m2⟩ := SK.out w2 (Below.refl _ _)
  have n2 : ¬ (w.heap.size = w2.heap.size) := Nat.ne_of_lt ra.lt
  have hdw : Below w2.heap.size w2 w2.drew := ⟨rfl, rfl, rfl, Nat.le_refl _, fun _ _ => rfl⟩
  generalize hL1 : a.2.1.length = L1 at *
  generalize hL2 : a.2.2.1.length = L2 at *
  try go_simp
  go_cut [3] from 6 (fun s3 wx => ∃ (b : Nat) (ve' vl' : Value), s3 = .pointer (some ⟨b, 0, none⟩) ∧ Row wx b 26 [.int .i64 a.1, ve', vl', .slice none 0 0] ∧ RL REnt 2 (fun k => w2.heap.size ≤ k ∧ k < wx.heap.size ∧ k ≠ b) wx ve' a.2.1 ∧ RL RLea 3 (fun k => w2.heap.size ≤ k ∧ k < wx.heap.size ∧ k ≠ b) wx vl' a.2.2.1 ∧ w2.heap.size ≤ b ∧ Below w2.heap.size w2 wx)
  case first =>
    go_wp2_with fail
    go_region_held3 (fun u => u.cell? ⟨w.heap.size, 0, none⟩ = some (.int .i64 a.1) ∧ u.cell? ⟨w.heap.size, 1, none⟩ = some ve ∧ u.cell? ⟨w.heap.size, 2, none⟩ = some vl)
      (first | (with_reducible exact SK.out w4 hB4) | (with_reducible exact SK.out (w4.alloc _) (below_and hB4 (Nat.le_refl _) (below_alloc _ _))) | (with_reducible exact SK.out w3 hB3) | (with_reducible exact ⟨set4_keep (SK.out w4 hB4).1 n3, set4_keep (SK.out w4 hB4).2.1 n3, set4_keep (SK.out w4 hB4).2.2 n3⟩) | (with_reducible exact ⟨set4_keep (SK.out w4 hB4).1 n2, set4_keep (SK.out w4 hB4).2.1 n2, set4_keep (SK.out w4 hB4).2.2 n2⟩) | go_keep)
      (first
        | (go_at_call 15; refine (HC1.out _ (by first | (with_reducible assumption) | (with_reducible exact Below.drew (by assumption)) | (with_reducible exact below_and (by assumption) (Nat.le_refl _) (below_alloc _ _)) | (with_reducible exact Below.drew (below_and (by assumption) (Nat.le_refl _) (below_alloc _ _))) | (with_reducible exact below_and (Below.drew (by assumption)) (Nat.le_refl _) (below_alloc _ _)))).mono ?_; rintro e w3 ⟨a3, c3, rfl, rc, hb3, hB3⟩; have n3 : ¬ (w.heap.size = w3.heap.size) := (by have := hB3.size; have := ra.lt; omega); (first | (with_reducible have q := (Row.new _ 26 [.int .i64 0, .slice none 0 0, .slice none 0 0, .slice none 0 0]).below hb3; have qc0 := q.cell (j := 0) rfl; have qc1 := q.cell (j := 1) rfl; have qc2 := q.cell (j := 2) rfl; have qc3 := q.cell (j := 3) rfl; have qf0 := q.frozen 0; have qf1 := q.frozen 1; have qf2 := q.frozen 2; have qf3 := q.frozen 3) | (with_reducible have q := (Row.new _ 26 [.int .i64 0, .slice none 0 0, .slice none 0 0, .slice none 0 0]).drew.below hb3; have qc0 := q.cell (j := 0) rfl; have qc1 := q.cell (j := 1) rfl; have qc2 := q.cell (j := 2) rfl; have qc3 := q.cell (j := 3) rfl; have qf0 := q.frozen 0; have qf1 := q.frozen 1; have qf2 := q.frozen 2; have qf3 := q.frozen 3) | (have q := q.below hb3; have qc0 := q.cell (j := 0) rfl; have qc1 := q.cell (j := 1) rfl; have qc2 := q.cell (j := 2) rfl; have qc3 := q.cell (j := 3) rfl; have qf0 := q.frozen 0; have qf1 := q.frozen 1; have qf2 := q.frozen 2; have qf3 := q.frozen 3) | skip))
        | (go_at_call 16; refine (HC2.out _ (by first | (with_reducible assumption) | (with_reducible exact Below.drew (by assumption)) | (with_reducible exact below_and (by assumption) (Nat.le_refl _) (below_alloc _ _)) | (with_reducible exact Below.drew (below_and (by assumption) (Nat.le_refl _) (below_alloc _ _))) | (with_reducible exact below_and (Below.drew (by assumption)) (Nat.le_refl _) (below_alloc _ _)))).mono ?_; rintro e w4 ⟨a4, c4, rfl, rd, hb4, hB4⟩; (first | (with_reducible have q := (Row.new _ 26 [.int .i64 0, .slice none 0 0, .slice none 0 0, .slice none 0 0]).below hb4; have qc0 := q.cell (j := 0) rfl; have qc1 := q.cell (j := 1) rfl; have qc2 := q.cell (j := 2) rfl; have qc3 := q.cell (j := 3) rfl; have qf0 := q.frozen 0; have qf1 := q.frozen 1; have qf2 := q.frozen 2; have qf3 := q.frozen 3) | (with_reducible have q := (Row.new _ 26 [.int .i64 0, .slice none 0 0, .slice none 0 0, .slice none 0 0]).drew.below hb4; have qc0 := q.cell (j := 0) rfl; have qc1 := q.cell (j := 1) rfl; have qc2 := q.cell (j := 2) rfl; have qc3 := q.cell (j := 3) rfl; have qf0 := q.frozen 0; have qf1 := q.frozen 1; have qf2 := q.frozen 2; have qf3 := q.frozen 3) | (have q := q.below hb4; have qc0 := q.cell (j := 0) rfl; have qc1 := q.cell (j := 1) rfl; have qc2 := q.cell (j := 2) rfl; have qc3 := q.cell (j := 3) rfl; have qf0 := q.frozen 0; have qf1 := q.frozen 1; have qf2 := q.frozen 2; have qf3 := q.frozen 3) | skip)))
    all_goals (
      have hb34 : Below w3.heap.size w3 w4 := by first | exact hb4 | exact below_and (below_alloc _ _) (Nat.le_refl _) hb4
      first
        | (obtain ⟨w6, hw6⟩ : ∃ w6, w6 = w4.alloc (.cells #[.int .i64 a.1, .slice a3 L1 c3, .slice a4 L2 c4, .slice none 0 0] 26) := ⟨_, rfl⟩; rw [← hw6]; have y6 : Row w6 w4.heap.size 26 [.int .i64 a.1, .slice a3 L1 c3, .slice a4 L2 c4, .slice none 0 0] := (by rw [hw6]; exact Row.new w4 _ _); have g6 : w4.grownBy w6 (some w4.heap.size) := (by rw [hw6]; exact grown_of_below (below_alloc _ _) _); have hlo : w2.heap.size ≤ w4.heap.size := hB4.size; clear hw6; obtain ⟨bA, hbA⟩ : ∃ b, b = w4.heap.size := ⟨_, rfl⟩)
        | (have q6 := set4_row (v0 := .int .i64 a.1) (v1 := .slice a3 L1 c3) (v2 := .slice a4 L2 c4) (v3 := .slice none 0 0) q; obtain ⟨w6, hw6⟩ : ∃ w6, w6 = (((w4.setCell ⟨w3.heap.size, 0, none⟩ (.int .i64 a.1)).setCell ⟨w3.heap.size, 1, none⟩ (.slice a3 L1 c3)).setCell ⟨w3.heap.size, 2, none⟩ (.slice a4 L2 c4)).setCell ⟨w3.heap.size, 3, none⟩ (.slice none 0 0) := ⟨_, rfl⟩; rw [← hw6] at q6 ⊢; obtain ⟨y6, g6⟩ := q6; have hlo : w2.heap.size ≤ w3.heap.size := hB3.size; clear hw6; obtain ⟨bA, hbA⟩ : ∃ b, b = w3.heap.size := ⟨_, rfl⟩)
        | (have q6 := set4_row (v0 := .int .i64 a.1) (v1 := .slice a3 L1 c3) (v2 := .slice a4 L2 c4) (v3 := .slice none 0 0) q; obtain ⟨w6, hw6⟩ : ∃ w6, w6 = (((w4.setCell ⟨w2.heap.size, 0, none⟩ (.int .i64 a.1)).setCell ⟨w2.heap.size, 1, none⟩ (.slice a3 L1 c3)).setCell ⟨w2.heap.size, 2, none⟩ (.slice a4 L2 c4)).setCell ⟨w2.heap.size, 3, none⟩ (.slice none 0 0) := ⟨_, rfl⟩; rw [← hw6] at q6 ⊢; obtain ⟨y6, g6⟩ := q6; have hlo : w2.heap.size ≤ w2.heap.size := Nat.le_refl _; clear hw6; obtain ⟨bA, hbA⟩ : ∃ b, b = w2.heap.size := ⟨_, rfl⟩)
      have z3 := hb3.size
      have z4 := hb4.size
      have z6 := g6.size
      have z34 := hb34.size
      have hB0 := hB.size
      try simp at z3
      try simp at z4
      have hb6 : Below w2.heap.size w2 w6 := hB4.trans (grown_below g6 hB4.size (fun k hk => by cases hk; exact hlo))
      have r6 := (rc.out w6 (Nat.le_trans z34 z6) (fun j h1 h2 => (g6.block j (Nat.lt_of_lt_of_le h2 z34) (fun e => by injection e with e; (try simp at h1); omega)).trans (hb34.block j h2))).mv mov_ent (Nat.le_refl _) (G' := fun k => w2.heap.size ≤ k ∧ k < w6.heap.size ∧ k ≠ bA) (fun k hk _ => ⟨rfl, by obtain ⟨h1, h2⟩ := hk; (try simp at h1); omega⟩)
      have s6 := (rd.out w6 z6 (fun j h1 h2 => g6.block j h2 (fun e => by injection e with e; (try simp at h1); omega))).mv mov_lea (Nat.le_refl _) (G' := fun k => w2.heap.size ≤ k ∧ k < w6.heap.size ∧ k ≠ bA) (fun k hk _ => ⟨rfl, by obtain ⟨h1, h2⟩ := hk; (try simp at h1); omega⟩)
      subst hbA
      go_wp2_with fail
      go_meet
      case rel => exact ⟨_, _, _, rfl, y6, r6, s6, hlo, hb6⟩)
  case rest =>
    clear HC1 HC2 SK m0 m1 m2 hdw n2
    obtain ⟨b, ve', vl', rfl, yb, re, rl', hlo, hbc⟩ := hcut
    have hs2 := HS.out
    have rac := ra.below hbc
    have rrc := rr.below hbc
    have Tc := below_and hB le hbc
    have h3c := h3.mv mov_ses Tc.size (Mv.below Tc)
    have c3 := rac.cell (j := 3) rfl
    generalize hys : a.2.2.2 = ys at *
    have fin : ∀ {w8 w9 : World} {vs' : Value}, Row w8 b 26 [.int .i64 a.1, ve', vl', vs'] → RL REnt 2 (fun k => w2.heap.size ≤ k ∧ k < wc.heap.size ∧ k ≠ b) w8 ve' a.2.1 → RL RLea 3 (fun k => w2.heap.size ≤ k ∧ k < wc.heap.size ∧ k ≠ b) w8 vl' a.2.2.1 → LB RSes 49 4 wc.heap.size w8 vs' ys → Below w.heap.size w w8 → w8.grownBy w9 (some (w.heap.size + 1)) → ∃ r', Ending.returned (.agg #[.int .i64 a.1, ve', vl', vs']) = .returned (.agg r'.toArray) ∧ RApp (From w.heap.size) w9 r' a ∧ Below w.heap.size w w9 := by
      intro w8 w9 vs' y8 e8 l8 s8 B8 g9
      refine ⟨_, rfl, ⟨_, _, _, rfl, e8.mv mov_ent g9.size ?_, l8.mv mov_lea g9.size ?_, ?_⟩, B8.trans (grown_below g9 B8.size (fun k hk => by cases hk; omega))⟩
      · exact fun k hk hlt => ⟨g9.block k hlt (fun e => by injection e with e; have := hk.1; omega), by have := hk.1; unfold From; omega⟩
      · exact fun k hk hlt => ⟨g9.block k hlt (fun e => by injection e with e; have := hk.1; omega), by have := hk.1; unfold From; omega⟩
      · rw [hys]
        exact (s8.rl mov_ses).mv mov_ses g9.size (Mv.from g9 (by have := yb.lt; omega) (by have := Tc.size; omega))
    have FIN := (show Hid (∀ {w8 w9 : World} {vs' : Value}, Row w8 b 26 [.int .i64 a.1, ve', vl', vs'] → RL REnt 2 (fun k => w2.heap.size ≤ k ∧ k < wc.heap.size ∧ k ≠ b) w8 ve' a.2.1 → RL RLea 3 (fun k => w2.heap.size ≤ k ∧ k < wc.heap.size ∧ k ≠ b) w8 vl' a.2.2.1 → LB RSes 49 4 wc.heap.size w8 vs' ys → Below w.heap.size w w8 → w8.grownBy w9 (some (w.heap.size + 1)) → ∃ r', Ending.returned (.agg #[.int .i64 a.1, ve', vl', vs']) = .returned (.agg r'.toArray) ∧ RApp (From w.heap.size) w9 r' a ∧ Below w.heap.size w w9) from fin)
    have hone : ∀ {w8 : World} {vs' : Value}, LB RSes 49 4 wc.heap.size w8 vs' ys → ∀ x ∈ [Value.int .i64 a.1, ve', vl', vs'], x.oneCell' = true := fun h => onA4 re.one rl'.one h.form
    have HON := (show Hid (∀ {w8 : World} {vs' : Value}, LB RSes 49 4 wc.heap.size w8 vs' ys → ∀ x ∈ [Value.int .i64 a.1, ve', vl', vs'], x.oneCell' = true) from hone)
    clear fin hone
    by_cases hl : 0 < ys.length
    rotate_left
    · obtain rfl : ys = [] := List.eq_nil_of_length_eq_zero (by omega)
      go_wp2_with fail
      refine wp_loop_rounds 1 ?_; rw [rounds_succ]
      have n0 := LB.nil RSes 49 4 wc.heap.size wc
      have hon := HON.out n0
      go_wp2_with (first
        | (refine wl_load rfl _ _ rfl b rfl _ _ yb _ Try.underlying26 rfl (by kernel_rfl) ?_)
        | (refine wl_store rfl _ _ _ rfl (w.heap.size + 1) [.int .i64 a.1, ve', vl', .slice none 0 0] rfl rfl _ _ rrc rfl (by kernel_rfl) hon ?_; intro w9 hr9 hg9))
      refine bodyPost_ret (v := .agg ([.int .i64 a.1, ve', vl', .slice none 0 0] : List Value).toArray) (results_cell_row rfl _ _ (w.heap.size + 1) _ _ (0, 0) _ (by rfl) hr9.out Try.underlying26 rfl (by kernel_rfl)) rfl ?_
      exact FIN.out yb re rl' n0 Tc hg9
    obtain ⟨bb, off, cap, e, hc, hm, _, hbb, hx⟩ := h3c.at hl
    injection e with e1 e2 e3
    subst e1 e3
    have HX := (show Hid (∀ (i : Nat) (a : PEnt), ys[i]? = some a → ∃ r, r.length = 4 ∧ w.rangeAt bb (off + i * 4) r ∧ RSes Any w r a) from fun i a' ha => by
      obtain ⟨b0, o0, c0, e0, _, _, _, hb0, hx0⟩ := h3.at hl
      injection e0 with e1 e2 e3
      injection e1 with e1
      injection e1 with e1 e4
      subst e1 e4
      exact hx0 i a' ha)
    have hbw : bb < w.heap.size := by
      obtain ⟨b0, o0, c0, e0, _, _, _, hb0, hx0⟩ := h3.at hl
      injection e0 with e1 e2 e3
      injection e1 with e1
      injection e1 with e1 e4
      omega
    have HZ := (show Hid (∀ y ∈ ys, szN y) from z3.2)
    have hz1 := z3.1
    have hlm : (ys.length : Int) ≤ 9223372036854775807 := by unfold maxLen at hm; omega
    have hlt := yb.lt
    have hb2 : w.heap.size + 2 ≤ b := by omega
    have hcb : b < wc.heap.size := hlt
    clear hx h3 h3c hm z1 z2 z3 h1 h2 rac
    go_wp2_with fail
    go_loopw [18] (fun i wr => ∃ (q : Nat) (vs' : Value), q ≤ ys.length ∧ i = .int .i64 q ∧ Row wr b 26 [.int .i64 a.1, ve', vl', vs'] ∧ RL REnt 2 (fun k => w2.heap.size ≤ k ∧ k < wc.heap.size ∧ k ≠ b) wr ve' a.2.1 ∧ RL RLea 3 (fun k => w2.heap.size ≤ k ∧ k < wc.heap.size ∧ k ≠ b) wr vl' a.2.2.1 ∧ LB RSes 49 4 wc.heap.size wr vs' (ys.take q) ∧ Below w.heap.size w wr ∧ Row wr (w.heap.size + 1) 26 [.int .i64 0, .slice none 0 0, .slice none 0 0, .slice none 0 0] ∧ wc.heap.size ≤ wr.heap.size) (fun i _ => ys.length - (intOf i).toNat)
    case atStart => exact ⟨0, _, by omega, rfl, yb, re, rl', LB.nil _ _ _ _ _, Tc, rrc, Nat.le_refl _⟩
    case round =>
      clear c3 yb re rl' Tc rrc hbb
      obtain ⟨q, vs', hq, rfl, yr, er, lr, sr, Br, rrr, hwr⟩ := hrel
      by_cases hql : q < ys.length
      · obtain ⟨x, hx⟩ : ∃ x, ys[q]? = some x := ⟨_, List.getElem?_eq_getElem hql⟩
        obtain ⟨r, _, hrng, c1, d1, k1, s1, l1, rfl, t1, t2⟩ := HX.out q x hx
        have hza : szT l1 := by have h := HZ.out x (List.mem_of_getElem? hx); rw [t2] at h; exact h
        have hrng := rangeAt_block hrng (Br.block bb hbw)
        have HA := (show Hid (ys.take (q + 1) = ys.take q ++ [x]) from take_snoc' ys q x hx)
        have HT := (show Hid (x = ([c1], d1 :: k1 :: l1)) from t2)
        have hrow0 := Row.new wr 49 [.int .i64 0, .int .i64 0, .int .i64 0, .slice none 0 0]
        have htl := take_lenE hq
        have hs1 := t1.one
        clear hx t2
        go_upto_region 5 with (first
          | (refine wpList_load_mid rfl _ _ rfl bb (off + q * 4) rfl [.int .i64 c1, .int .i64 d1, .int .i64 k1, s1] _ hrng Try.underlying49 rfl (by kernel_rfl) ?_)
          | (refine wl_store rfl _ _ _ rfl wr.heap.size [.int .i64 c1, .int .i64 d1, .int .i64 k1, s1] rfl rfl _ _ hrow0 rfl (by kernel_rfl) (onN4 hs1) ?_; intro w5 hr5 hg5))
        have hb5 : Below wr.heap.size wr w5 := (below_alloc wr (.cells ([.int .i64 0, .int .i64 0, .int .i64 0, .slice none 0 0] : List Value).toArray 49)).trans (grown_below hg5 (by simp) (fun k hk => by cases hk; exact Nat.le_refl _))
        have hr5 := hr5.out
        have B5 := below_and Br le hb5
        have hs5 := (t1.mv (Mv.below B5)).1
        have p0 := (rowA hr5 (.cells #[] 5)).cell (j := 3) rfl
        have hltv := sr.lt
        have hfrv := sr.fr
        clear hrng hrow0 hg5
        go_upto_region 6 with (first
          | (at_builtin; refine app_copy rfl _ _ rfl rfl _ l1 rfl hs5 (Nat.le_trans hza (by decide)) ?_; intro v6 w6 hown6 hfr6 hb6; have r6 := hr5.below hb6)
          | (refine wl_set rfl _ _ _ rfl wr.heap.size 3 _ rfl rfl _ _ r6 (show 3 < 4 by decide) (by kernel_rfl) (own1 hown6) ?_; intro w7 hr7 hg7))
        have r7 : Row w7 wr.heap.size 49 [.int .i64 c1, .int .i64 d1, .int .i64 k1, v6] := hr7.out
        have f6 : RT (From w5.heap.size) w6 v6 l1 := RT.own hown6 hs5.1 hfr6
        obtain ⟨ax6, cx6, rfl, _⟩ := f6.form
        have hlt5 := hr5.lt
        have f7 := f6.mv (Mv.from (L := w5.heap.size) hg7 (by omega) (Nat.le_refl _))
        have hb06 := below_and hb5 (Nat.le_refl _) hb6
        have hb7 : Below wr.heap.size wr w7 := hb06.trans (grown_below hg7 hb06.size (fun k hk => by cases hk; exact Nat.le_refl _))
        have B7 := below_and Br le hb7
        have hL7 := sr.below mov_ses hb7
        have y7 := yr.below hb7
        have e7 := er.mv mov_ent hb7.size (Mv.belowG hb7)
        have l7 := lr.mv mov_lea hb7.size (Mv.belowG hb7)
        have rr7 := rrr.below hb7
        have hRc : RSes (From w5.heap.size) w7 [.int .i64 c1, .int .i64 d1, .int .i64 k1, .slice ax6 l1.length cx6] x := ⟨_, _, _, _, _, rfl, f7, HT.out⟩
        have hlt7 : ∀ g, vs'.ownBlock = some g → g < w5.heap.size := fun g hg => Nat.lt_of_lt_of_le (hltv g hg) hb5.size
        have hbs := hb5.size
        have hb7s := hb7.size
        have cb3 := y7.cell (j := 3) rfl
        clear hr7 hg7 hb6 hown6 hfr6 f6 p0 hb06
        go_wp2_with (first
          | (refine wl_load rfl _ _ rfl wr.heap.size rfl _ _ r7 _ Try.underlying49 rfl (by kernel_rfl) ?_)
          | (at_builtin; refine wl_push mov_ses rfl _ _ _ rfl 49 4 48 _ Try.underlying24 Try.infN rfl (by decide) wc.heap.size vs' (ys.take q) rfl hL7 [.int .i64 c1, .int .i64 d1, .int .i64 k1, .slice ax6 l1.length cx6] x w5.heap.size hRc rfl (one_RN hRc) (by omega) hlt7 rfl (by omega) (by rw [htl]; omega) (by decide) ?_; intro v8 w8 hLB8 hg8; have y8 := y7.grown hg8 (fun e => by have := hfrv b e; omega))
          | (refine wl_set rfl _ _ _ rfl b 3 _ rfl rfl _ _ y8 (show 3 < 4 by decide) (by kernel_rfl) hLB8.form ?_; intro w9 hr9 hg9))
        rw [← HA.out] at hLB8
        go_roundw
        case rel =>
          have y9 : Row w9 b 26 [.int .i64 a.1, ve', vl', v8] := hr9.out
          have B8 := B7.trans (grown_below hg8 B7.size (fun k hk => by have := hfrv k hk; omega))
          refine ⟨q + 1, v8, by omega, by go_num, y9, (e7.mv mov_ent hg8.size (mvG hg8 fun k hk => .inr (hfrv k hk))).mv mov_ent hg9.size (mvG hg9 fun k hk => .inl (by injection hk with hk; exact hk.symm)), (l7.mv mov_lea hg8.size (mvG hg8 fun k hk => .inr (hfrv k hk))).mv mov_lea hg9.size (mvG hg9 fun k hk => .inl (by injection hk with hk; exact hk.symm)), hLB8.grown mov_ses hg9 (by omega), B8.trans (grown_below hg9 B8.size (fun k hk => by cases hk; omega)), (rr7.grown hg8 (fun e => by have := hfrv _ e; omega)).grown hg9 (fun e => by injection e with e; omega), Nat.le_trans hwr (Nat.le_trans hb7s (Nat.le_trans hg8.size hg9.size))⟩
        case measure => simp [intOf]; omega
      · obtain rfl : q = ys.length := by omega
        rw [List.take_length] at sr
        have hon := HON.out sr
        have hqd : decide ((ys.length : Int) < ys.length) = false := by simp
        go_wp2_with (first
          | (refine wl_load rfl _ _ rfl b rfl _ _ yr _ Try.underlying26 rfl (by kernel_rfl) ?_)
          | (refine wl_store rfl _ _ _ rfl (w.heap.size + 1) [.int .i64 a.1, ve', vl', vs'] rfl rfl _ _ rrr rfl (by kernel_rfl) hon ?_; intro w9 hr9 hg9))
        refine bodyPost_ret (v := .agg ([.int .i64 a.1, ve', vl', vs'] : List Value).toArray) (results_cell_row rfl _ _ (w.heap.size + 1) _ _ (0, 0) _ (by rfl) hr9.out Try.underlying26 rfl (by kernel_rfl)) rfl ?_
        exact FIN.out yr er lr sr Br hg9
end Go.Proofs.Ytejkkhlblnepeab
end

section
set_option linter.unusedVariables false
set_option linter.unusedSimpArgs false
namespace Go.Proofs.Ytejkkhlblnepeab
open Go.RowKit Oct Kvl

set_option maxRecDepth 10000 in
set_option maxHeartbeats 8000000 in
/-- The document's Same. -/
theorem sameA_eq (w : World) (r1 r2 : List Value) (a : PApp) (h : RApp Any w r1 a) (k : RApp Any w r2 a) :
    Calls Try.prog 9 #[.agg r1.toArray, .agg r2.toArray] w fun e w' => e = .returned (.bool true) ∧ Below w.heap.size w w' := by
  have le := Nat.le_refl w.heap.size
  obtain ⟨ve, vl, vs, rfl, h1, h2, h3⟩ := h
  obtain ⟨ue, ul, us, rfl, k1, k2, k3⟩ := k
  obtain ⟨asv, cs, rfl, hcs⟩ := h3.form
  obtain ⟨asu, cu, rfl, hcu⟩ := k3.form
  obtain ⟨w2, hw2⟩ : ∃ w2, w2 = (w.alloc (.cells #[.int .i64 a.1, ve, vl, .slice asv a.2.2.2.length cs] 26)).alloc (.cells #[.int .i64 a.1, ue, ul, .slice asu a.2.2.2.length cu] 26) := ⟨_, rfl⟩
  have ra : Row w2 w.heap.size 26 [.int .i64 a.1, ve, vl, .slice asv a.2.2.2.length cs] := by rw [hw2]; exact rowA (Row.new w 26 _) _
  have rb : Row w2 (w.heap.size + 1) 26 [.int .i64 a.1, ue, ul, .slice asu a.2.2.2.length cu] := by
    rw [hw2]
    have := Row.new (w.alloc (.cells #[.int .i64 a.1, ve, vl, .slice asv a.2.2.2.length cs] 26)) 26 [.int .i64 a.1, ue, ul, .slice asu a.2.2.2.length cu]
    simpa using this
  have hB : Below w.heap.size w w2 := by rw [hw2]; exact ((Below.refl _ w).alloc (Nat.le_refl _) _).alloc (by simp) _
  have hsz : w2.heap.size = w.heap.size + 2 := by rw [hw2]; simp
  have hS1 := sameE_eq w2 ve ue _ (h1.mv mov_ent hB.size (Mv.below hB)) (k1.mv mov_ent hB.size (Mv.below hB))
  have HS2 := (show Hid (∀ u, Below w.heap.size w u → Calls Try.prog 22 #[vl, ul] u fun e w' => e = .returned (.bool true) ∧ Below u.heap.size u w') from fun u hu => sameS_eq u vl ul _ (h2.mv mov_lea hu.size (Mv.below hu)) (k2.mv mov_lea hu.size (Mv.below hu)))
  have hn1 : (a.1 != a.1) = false := by simp
  have hlm : (a.2.2.2.length : Int) ≤ 9223372036854775807 := by
    have := h3.at
    rcases Nat.eq_zero_or_pos a.2.2.2.length with h0 | h0
    · omega
    · obtain ⟨_, _, cap, _, hc, hm, _⟩ := h3.at h0
      unfold maxLen at hm
      omega
  generalize hys : a.2.2.2 = ys at *
  obtain ⟨N, hN⟩ : ∃ N, N = ys.length := ⟨_, rfl⟩
  have hn2 : ((N : Int) != N) = false := by simp
  rw [← hN] at ra rb hw2 hlm ⊢
  have HH3 := (show Hid (RL RSes 4 Any w (.slice asv N cs) ys) by rw [hN]; exact h3)
  have HK3 := (show Hid (RL RSes 4 Any w (.slice asu N cu) ys) by rw [hN]; exact k3)
  have HN := (show Hid (ys.length = N) from hN.symm)
  have c0 := ra.cell (j := 0) rfl
  have c1 := ra.cell (j := 1) rfl
  have d0 := rb.cell (j := 0) rfl
  have d1 := rb.cell (j := 1) rfl
  clear h1 h2 h3 k1 k2 k3 hN
  go_enter Try.func9, Try.ntmps9
  go_upto_region 1 with fail
  rw [← hw2]
  clear hw2
  go_upto_region 3 with (first
    | (go_at_call 21; refine hS1.mono ?_; rintro e w3 ⟨rfl, hb3⟩; have B3 := below_and hB le hb3; have c2 := (ra.below hb3).cell (j := 2) rfl; have d2 := (rb.below hb3).cell (j := 2) rfl)
    | (go_at_call 22; refine (HS2.out w3 B3).mono ?_; rintro e w4 ⟨rfl, hb4⟩; have c3 := ((ra.below hb3).below hb4).cell (j := 3) rfl; have d3 := ((rb.below hb3).below hb4).cell (j := 3) rfl))
  have b24 := below_and hb3 (Nat.le_refl _) hb4
  have B4 := below_and hB le b24
  have ra4 := ra.below b24
  have rb4 := rb.below b24
  clear c0 c1 d0 d1 c2 d2 hS1 HS2 hb3 hb4 B3 ra rb hB
  rcases Nat.eq_zero_or_pos N with h0 | hl
  · subst h0
    go_wp2_with fail
    refine wp_loop_rounds 1 ?_; rw [rounds_succ]
    go_wp2_with fail
    go_ret
    exact ⟨rfl, B4⟩
  have hl' : 0 < ys.length := by rw [HN.out]; exact hl
  obtain ⟨bb, off, cap, e, hc, hm, _, hbb, hx⟩ := HH3.out.at hl'
  injection e with e1 e2 e3
  obtain ⟨bk, ofk, capk, e', hck, hmk, _, hbk, hxk⟩ := HK3.out.at hl'
  injection e' with e1' e2' e3'
  subst e1 e3 e1' e3'
  have HX := (show Hid (∀ (i : Nat) (a : PEnt), ys[i]? = some a → ∃ r, r.length = 4 ∧ w.rangeAt bb (off + i * 4) r ∧ RSes Any w r a) from hx)
  have HY := (show Hid (∀ (i : Nat) (a : PEnt), ys[i]? = some a → ∃ r, r.length = 4 ∧ w.rangeAt bk (ofk + i * 4) r ∧ RSes Any w r a) from hxk)
  clear hx hxk HH3 HK3 e2 e2' hl' hm hmk hc hck hys
  go_wp2_with fail
  go_loopw [40] (fun i wr => ∃ q : Nat, q ≤ N ∧ i = .int .i64 q ∧ Below w4.heap.size w4 wr) (fun i _ => N - (intOf i).toNat)
  case atStart => exact ⟨0, by omega, rfl, Below.refl _ _⟩
  case round =>
    clear c3 d3
    obtain ⟨q, hq, rfl, hBr⟩ := hrel
    by_cases hql : q < N
    · obtain ⟨x, hx⟩ : ∃ x, ys[q]? = some x := ⟨_, List.getElem?_eq_getElem (by have := HN.out; omega)⟩
      obtain ⟨r, _, hrng, c1, d1, k1, s1, l1, rfl, t1, t2⟩ := HX.out q x hx
      obtain ⟨r', _, hrng', c1', d1', k1', s1', l1', rfl, t1', t2'⟩ := HY.out q x hx
      rw [t2] at t2'
      injection t2' with e1 e2
      injection e1 with e1 _
      injection e2 with e2 e3
      injection e3 with e3 e4
      subst e1 e2 e3 e4
      have Br := below_and B4 le hBr
      have hrng := rangeAt_block hrng (Br.block bb hbb)
      have HRK := (show Hid (∀ u, Below w4.heap.size w4 u → w.heap.size ≤ w.heap.size → u.rangeAt bk (ofk + q * 4) [.int .i64 c1, .int .i64 d1, .int .i64 k1, s1']) from fun u hu _ => rangeAt_block hrng' ((below_and B4 le hu).block bk hbk))
      obtain ⟨a1, cp1, rfl, hc1⟩ := t1.form
      obtain ⟨a2, cp2, rfl, hc2⟩ := t1'.form
      have hrow0 := Row.new wr 49 [.int .i64 0, .int .i64 0, .int .i64 0, .slice none 0 0]
      have hone := onN4 (c := c1) (d := d1) (k := k1) t1.one
      have hd1 : (c1 != c1) = false := by simp
      have hd2 : (d1 != d1) = false := by simp
      have HSR := (show Hid (∀ u, Below w4.heap.size w4 u → Calls Try.prog 23 #[.agg #[.int .i64 k1, .slice a1 l1.length cp1], .agg #[.int .i64 k1, .slice a2 l1.length cp2]] u fun e w' => e = .returned (.bool true) ∧ Below u.heap.size u w' ∧ Below w4.heap.size w4 w') from fun u hu => (sameR_eq u k1 _ _ l1 (t1.mv (Mv.below (below_and B4 le hu))).1 (t1'.mv (Mv.below (below_and B4 le hu))).1).mono fun e w' ⟨e1, e2⟩ => ⟨e1, e2, below_and hu (Nat.le_refl _) e2⟩)
      clear hx t2 t1 t1' hrng'
      have hqi : (q : Int) < (N : Int) := by omega
      go_upto_region 6 with (first
        | (refine wpList_load_mid rfl _ _ rfl bb (off + q * 4) rfl [.int .i64 c1, .int .i64 d1, .int .i64 k1, .slice a1 l1.length cp1] _ hrng Try.underlying49 rfl (by kernel_rfl) ?_)
        | (refine wl_store rfl _ _ _ rfl wr.heap.size [.int .i64 c1, .int .i64 d1, .int .i64 k1, .slice a1 l1.length cp1] rfl rfl _ _ hrow0 rfl (by kernel_rfl) hone ?_; intro w5 hr5 hg5))
      have hr5 := hr5.out
      have hb5 : Below wr.heap.size wr w5 := (below_alloc wr (.cells ([.int .i64 0, .int .i64 0, .int .i64 0, .slice none 0 0] : List Value).toArray 49)).trans (grown_below hg5 (by simp) (fun k hk => by cases hk; exact Nat.le_refl _))
      have B45 := below_and hBr (Nat.le_refl _) hb5
      obtain ⟨gb, hgb⟩ : ∃ gb, gb = wr.heap.size := ⟨_, rfl⟩
      rw [← hgb] at hr5 ⊢
      have SK := (show Hid (∀ u, Below w5.heap.size w5 u → u.cell? ⟨gb, 0, none⟩ = some (.int .i64 c1) ∧ u.cell? ⟨gb, 1, none⟩ = some (.int .i64 d1) ∧ u.cell? ⟨gb, 2, none⟩ = some (.int .i64 k1) ∧ u.cell? ⟨gb, 3, none⟩ = some (.slice a1 l1.length cp1) ∧ u.cell? ⟨w.heap.size + 1, 3, none⟩ = some (.slice (some ⟨bk, ofk, none⟩) N cu) ∧ u.cell? ⟨bk, ofk + q * 4, none⟩ = some (.int .i64 c1) ∧ u.cell? ⟨bk, ofk + q * 4 + 1, none⟩ = some (.int .i64 d1) ∧ u.cell? ⟨bk, ofk + q * 4 + 2, none⟩ = some (.int .i64 k1) ∧ u.cell? ⟨bk, ofk + q * 4 + 3, none⟩ = some (.slice a2 l1.length cp2)) from fun u hu => ⟨(hr5.below hu).cell (j := 0) rfl, (hr5.below hu).cell (j := 1) rfl, (hr5.below hu).cell (j := 2) rfl, (hr5.below hu).cell (j := 3) rfl, ((rb4.below B45).below hu).cell (j := 3) rfl, HRK.out u (below_and B45 (Nat.le_refl _) hu) le 0 _ rfl, HRK.out u (below_and B45 (Nat.le_refl _) hu) le 1 _ rfl, HRK.out u (below_and B45 (Nat.le_refl _) hu) le 2 _ rfl, HRK.out u (below_and B45 (Nat.le_refl _) hu) le 3 _ rfl⟩)
      have HSR2 := (show Hid (∀ u, Below w5.heap.size w5 u → Calls Try.prog 23 #[.agg #[.int .i64 k1, .slice a1 l1.length cp1], .agg #[.int .i64 k1, .slice a2 l1.length cp2]] u fun e w' => e = .returned (.bool true) ∧ Below u.heap.size u w' ∧ Below w5.heap.size w5 w') from fun u hu => (HSR.out u (below_and B45 (Nat.le_refl _) hu)).mono fun e w' ⟨e1, e2, e3⟩ => ⟨e1, e2, below_and hu (Nat.le_refl _) e2⟩)
      obtain ⟨m0, m1, m2, m3, m4, m5, m6, m7, m8⟩ := SK.out w5 (Below.refl _ _)
      have hdw : Below w5.heap.size w5 w5.drew := ⟨rfl, rfl, rfl, Nat.le_refl _, fun _ _ => rfl⟩
      clear HSR HRK hrng hone hrow0 hg5 hgb
      generalize l1.length = L1 at *
      go_region_held3 (fun u => u.cell? ⟨gb, 0, none⟩ = some (.int .i64 c1) ∧ u.cell? ⟨gb, 1, none⟩ = some (.int .i64 d1) ∧ u.cell? ⟨gb, 2, none⟩ = some (.int .i64 k1) ∧ u.cell? ⟨gb, 3, none⟩ = some (.slice a1 L1 cp1) ∧ u.cell? ⟨w.heap.size + 1, 3, none⟩ = some (.slice (some ⟨bk, ofk, none⟩) N cu) ∧ u.cell? ⟨bk, ofk + q * 4, none⟩ = some (.int .i64 c1) ∧ u.cell? ⟨bk, ofk + q * 4 + 1, none⟩ = some (.int .i64 d1) ∧ u.cell? ⟨bk, ofk + q * 4 + 2, none⟩ = some (.int .i64 k1) ∧ u.cell? ⟨bk, ofk + q * 4 + 3, none⟩ = some (.slice a2 L1 cp2))
        (first | (with_reducible exact SK.out w8 hB8) | (with_reducible exact SK.out _ hdw) | go_keep)
        (first | (go_at_call 23; refine (HSR2.out _ (by first | assumption | exact Below.refl _ _)).mono ?_; rintro e w8 ⟨rfl, hb8, hB8⟩))
      go_wp2_with fail
      go_roundw
      case rel => exact ⟨q + 1, by omega, by go_num, below_and B45 (Nat.le_refl _) hB8⟩
      case measure => simp [intOf]; omega
    · have hqd : decide ((q : Int) < N) = false := by simp; omega
      go_wp2_with fail
      go_ret
      exact ⟨rfl, below_and B4 le hBr⟩
end Go.Proofs.Ytejkkhlblnepeab
end
