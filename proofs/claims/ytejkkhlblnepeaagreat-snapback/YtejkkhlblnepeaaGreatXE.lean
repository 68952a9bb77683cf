/- The walk over session.do. -/
import Derived.Test.YtejkkhlblnepeaaGreatXC
import Derived.Test.YtejkkhlblnepeaaGreatKs
section
set_option linter.unusedVariables false
set_option linter.unusedSimpArgs false
namespace Go.Proofs.YtejkkhlblnepeaaGreat
open Go.RowKit Oct Kvl

/-- The end of session.do: x is entries, leases, code, value; the state lies in block b. -/
def Rdo (b B : Nat) (w : World) (n : Int) (vs : Value) (ss : List PEnt) (x : List PEnt × List PEnt × Int × List Int) (e : Ending) (w' : World) : Prop :=
  ∃ ve' vl' vv, e = .returned (.agg #[.int .i64 x.2.2.1, vv]) ∧ OT (From w.heap.size) w' vv x.2.2.2 ∧ LB OEnt 82 2 B w' ve' x.1 ∧ LB OLea 84 3 B w' vl' x.2.1 ∧ LB OSes 43 4 B w' vs ss ∧ Row w' b 26 [.int .i64 n, ve', vl', vs] ∧ w.grownBy w' (some b)

theorem sz_ents {es : List PEnt} (h : rgtL es) : szL 48 szE es := ⟨by have := h.1; omega, fun y hy => by
  obtain ⟨h1, h2, h3⟩ := h.2.2 y hy
  exact ⟨by unfold szT; omega, by unfold szT; omega⟩⟩
theorem sz_leas {ls : List PEnt} (h : rgtS ls) : szL 40 szS ls := ⟨by have := h.1; omega, fun y hy => by
  obtain ⟨h1, h2, h3⟩ := h.2.2 y hy
  show y.1.length ≤ _
  omega⟩
theorem sz_sess {ss : List PEnt} (h : rgtN ss) : szL 48 szN ss := ⟨by have := rgn_len h; omega, fun y hy => by
  obtain ⟨h1, h2, h3, h4⟩ := chk_all h y hy
  show (sv y).length ≤ _
  omega⟩
theorem sz_op {o : POp} (h : wok o) : szO o := by
  obtain ⟨_, ⟨n1, n2⟩, ha, hb, _⟩ := h
  have ha := Nat.le_trans ha (mA_le _)
  have hb := Nat.le_trans hb (mB_le _)
  exact ⟨by unfold szT; omega, by unfold szT; omega, by unfold szT; omega⟩

/-- A field of the state and a result are set. -/
theorem do_set {w4 : World} {b b3 : Nat} {L : List Value} {z0 z1 : Value} (rb : Row w4 b 26 L) (rz : Row w4 b3 34 [z0, z1]) (hne : b ≠ b3) (j : Nat) (v c x : Value) :
    Row (((w4.setCell ⟨b, j, none⟩ v).setCell ⟨b3, 0, none⟩ c).setCell ⟨b3, 1, none⟩ x) b 26 (L.set j v) ∧ Row (((w4.setCell ⟨b, j, none⟩ v).setCell ⟨b3, 0, none⟩ c).setCell ⟨b3, 1, none⟩ x) b3 34 [c, x] ∧
      (∀ k, k < w4.heap.size → k ≠ b → k ≠ b3 → (((w4.setCell ⟨b, j, none⟩ v).setCell ⟨b3, 0, none⟩ c).setCell ⟨b3, 1, none⟩ x).heap[k]? = w4.heap[k]?) ∧ w4.heap.size ≤ (((w4.setCell ⟨b, j, none⟩ v).setCell ⟨b3, 0, none⟩ c).setCell ⟨b3, 1, none⟩ x).heap.size ∧
      (((w4.setCell ⟨b, j, none⟩ v).setCell ⟨b3, 0, none⟩ c).setCell ⟨b3, 1, none⟩ x).os = w4.os ∧ (((w4.setCell ⟨b, j, none⟩ v).setCell ⟨b3, 0, none⟩ c).setCell ⟨b3, 1, none⟩ x).tape = w4.tape ∧ (((w4.setCell ⟨b, j, none⟩ v).setCell ⟨b3, 0, none⟩ c).setCell ⟨b3, 1, none⟩ x).output = w4.output := by
  have g1 := grown_set w4 b j v
  have g2 := grown_set (w4.setCell ⟨b, j, none⟩ v) b3 0 c
  have g3 := grown_set ((w4.setCell ⟨b, j, none⟩ v).setCell ⟨b3, 0, none⟩ c) b3 1 x
  refine ⟨((rb.set j v).grown g2 (fun e => by injection e with e; exact hne e.symm)).grown g3 (fun e => by injection e with e; exact hne e.symm), (((rz.grown g1 (fun e => by injection e with e; exact hne e)).set 0 c).set 1 x), fun k hk h1 h2 => ?_, Nat.le_trans g1.size (Nat.le_trans g2.size g3.size), g3.os.trans (g2.os.trans g1.os), g3.tape.trans (g2.tape.trans g1.tape), g3.output.trans (g2.output.trans g1.output)⟩
  exact (g3.block k (Nat.lt_of_lt_of_le hk (Nat.le_trans g1.size g2.size)) (fun e => h2 (by injection e))).trans ((g2.block k (Nat.lt_of_lt_of_le hk g1.size) (fun e => h2 (by injection e))).trans (g1.block k hk (fun e => h1 (by injection e))))

set_option maxRecDepth 10000 in
set_option maxHeartbeats 8000000 in
/-- session.do. -/
theorem doN_any (w : World) (b B : Nat) (n : Int) (ve vl vs : Value) (es ls ss : List PEnt) (h1 : LB OEnt 82 2 B w ve es) (h2 : LB OLea 84 3 B w vl ls) (h3 : LB OSes 43 4 B w vs ss) (hrow : Row w b 26 [.int .i64 n, ve, vl, vs]) (hB : B ≤ w.heap.size)
    (g1 : rgtL es) (g2 : rgtS ls) (r : List Value) (x : PReq) (hx : RReq Any w r x) (hz : szQ x) :
    Calls Tryz.prog 61 #[.pointer (some ⟨b, 0, none⟩), .agg r.toArray] w (Rdo b B w n vs ss (opA es ls x n)) := by
  have le := Nat.le_refl w.heap.size
  obtain ⟨vo, vg, rfl, ho, hg⟩ := hx
  obtain ⟨w0, hw0⟩ : ∃ w0, w0 = (w.alloc (.cells #[.int .i64 x.1, .int .i64 x.2.1, vo, vg] 29)).alloc (.cells #[.int .i64 0, .slice none 0 0] 34) := ⟨_, rfl⟩
  have ra : Row w0 w.heap.size 29 [.int .i64 x.1, .int .i64 x.2.1, vo, vg] := by rw [hw0]; exact rowA (Row.new w 29 _) _
  have rr : Row w0 (w.heap.size + 1) 34 [.int .i64 0, .slice none 0 0] := by
    rw [hw0]
    have := Row.new (w.alloc (.cells #[.int .i64 x.1, .int .i64 x.2.1, vo, vg] 29)) 34 [.int .i64 0, .slice none 0 0]
    simpa using this
  have B0 : Below w.heap.size w w0 := by rw [hw0]; exact ((Below.refl _ w).alloc (Nat.le_refl _) _).alloc (by simp) _
  have hs0 : w0.heap.size = w.heap.size + 2 := by rw [hw0]; simp
  have hR := read_any w0 vo _ (ho.mv (Mv.below B0)).1 (Nat.le_trans hz.1 (by decide))
  have c2 := ra.cell (j := 2) rfl
  have hbw := hrow.lt
  have hby := ho.1.1
  clear ho hg
  generalize hop : x.2.2.1 = op at *
  go_enter Tryz.func61, Tryz.ntmps61
  go_upto_region 1 with fail
  rw [← hw0]
  clear hw0
  go_upto_region 2 with (first
    | (go_at_call 93; refine hR.mono ?_; rintro e w1 ⟨r1, rfl, o1, hb1⟩; have o1' := o1; obtain ⟨un, ua, ub, rfl, sn, sa, sb⟩ := o1; have n1 := Row.new w1 56 [.int .i64 0, .slice none 0 0, .slice none 0 0, .slice none 0 0, .int .i64 0])
    | (refine wl_store rfl _ _ _ rfl w1.heap.size [.int .i64 (opR op).1, un, ua, ub, .int .i64 (opR op).2.2.2.2] rfl rfl _ _ n1 rfl (by kernel_rfl) (one5 sn.one sa.one sb.one) ?_; intro w2 hr2 hg2))
  have y2 := hr2.out
  have b12 : Below w1.heap.size w1 w2 := (below_alloc w1 _).trans (grown_below hg2 (by simp) (fun k hk => by cases hk; exact Nat.le_refl _))
  have b02 := below_and hb1 (Nat.le_refl _) b12
  have T2 := below_and B0 le b02
  have o2 := mov_op _ (From w0.heap.size) _ _ _ _ o1' b12.size (Mv.belowG b12)
  have HO := (show Hid (ROp (From w0.heap.size) w2 [.int .i64 (opR op).1, un, ua, ub, .int .i64 (opR op).2.2.2.2] (opR op)) from o2)
  obtain ⟨b2, hb2⟩ : ∃ b2, b2 = w1.heap.size := ⟨_, rfl⟩
  rw [← hb2] at y2 ⊢
  have hb2l : w0.heap.size ≤ b2 := by rw [hb2]; exact hb1.size
  have ra2 := ra.below b02
  have rr2 := rr.below b02
  have q1 := h1.below mov_oent T2
  have q2 := h2.below mov_olea T2
  have q3 := h3.below mov_oses T2
  have r2 := hrow.below T2
  clear hR c2 hr2 hg2 n1 sn sa sb o2 o1' hb1 b12 b02 hb2 ra rr h1 h2 h3 hrow B0
  cases hrd : rdO op with
  | none =>
    have he : errR op = 71 := by unfold errR; rw [hrd]
    have hD : opA es ls x n = (es, ls, 5, []) := by unfold opA; rw [hop, hrd]
    have HD := (show Hid (opA es ls x n = (es, ls, 5, [])) from hD)
    rw [he]
    clear hD he hrd HO
    go_wp2_with (refine wl_store rfl _ _ _ rfl (w.heap.size + 1) [.int .i64 5, .slice none 0 0] rfl rfl _ _ rr2 rfl (by kernel_rfl) (one_res rfl) ?_; intro w7 hr7 hg7)
    refine bodyPost_ret (v := .agg ([.int .i64 5, .slice none 0 0] : List Value).toArray) (results_cell_row rfl _ _ (w.heap.size + 1) _ _ (0, 0) _ (by rfl) hr7.out Tryz.underlying34 rfl (by kernel_rfl)) rfl ?_
    rw [HD.out]
    exact ⟨_, _, _, rfl, OT.nil _ _, q1.grownR rr2 (by decide) (by decide) hg7, q2.grownL rr2 (by decide) (by decide) hg7, q3.grownN rr2 (by decide) (by decide) hg7, r2.grown hg7 (fun e => by injection e with e; omega), grown_of_below (T2.trans (grown_below hg7 T2.size (fun k hk => by cases hk; omega))) _⟩
  | some o =>
    have hrd' := hrd
    have he : errR op = 0 := by unfold errR; rw [hrd]
    have hor : opR op = o := by unfold opR; rw [hrd]
    have hwo : wok o := (wr_rd hby hrd).2
    rw [he]
    rw [hor] at y2 HO
    have HZO := (show Hid (szO o) from sz_op hwo)
    obtain ⟨w3, hw3⟩ : ∃ w3, w3 = w2.alloc (.cells #[.int .i64 0, .slice none 0 0] 34) := ⟨_, rfl⟩
    have z3 : Row w3 w2.heap.size 34 [.int .i64 0, .slice none 0 0] := by rw [hw3]; exact Row.new w2 _ _
    have b23 : Below w2.heap.size w2 w3 := by rw [hw3]; exact below_alloc _ _
    go_upto_region 5 with fail
    rw [← hw3]
    clear hw3
    have y3 := y2.below b23
    have ra3 := ra2.below b23
    have rr3 := rr2.below b23
    have q13 := q1.below mov_oent b23
    have q23 := q2.below mov_olea b23
    have q33 := q3.below mov_oses b23
    have r3 := r2.below b23
    have T3 := below_and T2 le b23
    have o3 : ROp Any w3 [.int .i64 o.1, un, ua, ub, .int .i64 o.2.2.2.2] o := mov_op _ _ _ _ _ _ (mov_op _ _ _ _ _ _ HO.out b23.size (Mv.belowG b23)) (Nat.le_refl _) Mv.any
    obtain ⟨b3, hb3⟩ : ∃ b3, b3 = w2.heap.size := ⟨_, rfl⟩
    rw [← hb3] at z3 ⊢
    have hb3w : w.heap.size + 2 ≤ b3 := by rw [hb3]; have := y2.lt; omega
    have hbb3 : b ≠ b3 := by omega
    have d0 := y3.cell (j := 0) rfl
    have hdw : Below w3.heap.size w3 w3.drew := ⟨rfl, rfl, rfl, Nat.le_refl _, fun _ _ => rfl⟩
    clear HO y2 ra2 rr2 q1 q2 q3 r2 b23 T2 hor he hrd hb3
    have fin : ∀ {x' : List PEnt × List PEnt × Int × List Int} {w4 w7 w8 : World} {ve' vl' vv : Value}, opA es ls x n = x' → OT (From w3.heap.size) w4 vv x'.2.2.2 → LB OEnt 82 2 B w4 ve' x'.1 → LB OLea 84 3 B w4 vl' x'.2.1 → Below w3.heap.size w3 w4 → Row w7 b 26 [.int .i64 n, ve', vl', vs] → (∀ k, k < w4.heap.size → k ≠ b → k ≠ b3 → w7.heap[k]? = w4.heap[k]?) → w4.heap.size ≤ w7.heap.size → w7.os = w4.os → w7.tape = w4.tape → w7.output = w4.output → w7.grownBy w8 (some (w.heap.size + 1)) → Rdo b B w n vs ss (opA es ls x n) (.returned (.agg #[.int .i64 x'.2.2.1, vv])) w8 := by
      intro x' w4 w7 w8 ve' vl' vv e t4 l4 m4 b34 r7 hk hs e1 e2 e3 g8
      have r4 := r3.below b34
      have z4 := z3.below b34
      have rr4 := rr3.below b34
      have rr7 : Row w7 (w.heap.size + 1) 34 [.int .i64 0, .slice none 0 0] := (hk _ rr4.lt (by omega) (by omega)).trans rr4
      have nb : ∀ {C : Nat} {u : Value} {l : List Int} {G : Nat → Prop}, OT G w4 u l → OT G w7 u l := fun {C u l G} ho => by
        have h1 := ho.ne r4 (by decide)
        have h2 := ho.ne z4 (by decide)
        exact ⟨ho.1.at_block fun k hk' => hk k (ho.1.lt k hk') (h1.2.2 k hk').2 (h2.2.2 k hk').2, ho.2.1, ho.2.2⟩
      have hl4 : LB OEnt 82 2 B w7 ve' x'.1 := by
        have n1 := l4.apart r4 (by decide)
        have n2 := l4.apart z4 (by decide)
        obtain ⟨rows, r0, hown, hfr, hall⟩ := l4
        refine ⟨rows, r0, ⟨hown.1, ?_⟩, hfr, hall.mono fun q y hq => ?_⟩
        · rcases hown.2 with h0 | ⟨g, cap, cur, f1, f2, f3, f4⟩
          · exact .inl h0
          · exact .inr ⟨g, cap, cur, f1, f2, (hk g (Array.getElem?_eq_some_iff.1 f3).1 (fun e => n1 (by rw [f1, ← e]; rfl)) (fun e => n2 (by rw [f1, ← e]; rfl))).trans f3, f4⟩
        · obtain ⟨p, q, rfl, o1, o2⟩ := hq
          exact ⟨p, q, rfl, nb (C := 0) o1, nb (C := 0) o2⟩
      have hm4 : LB OLea 84 3 B w7 vl' x'.2.1 := by
        have n1 := m4.apart r4 (by decide)
        have n2 := m4.apart z4 (by decide)
        obtain ⟨rows, r0, hown, hfr, hall⟩ := m4
        refine ⟨rows, r0, ⟨hown.1, ?_⟩, hfr, hall.mono fun q y hq => ?_⟩
        · rcases hown.2 with h0 | ⟨g, cap, cur, f1, f2, f3, f4⟩
          · exact .inl h0
          · exact .inr ⟨g, cap, cur, f1, f2, (hk g (Array.getElem?_eq_some_iff.1 f3).1 (fun e => n1 (by rw [f1, ← e]; rfl)) (fun e => n2 (by rw [f1, ← e]; rfl))).trans f3, f4⟩
        · obtain ⟨p, q', q, rfl, o1, o2⟩ := hq
          exact ⟨p, q', q, rfl, nb (C := 0) o1, o2⟩
      have q34 := q33.below mov_oses b34
      have hq4 : LB OSes 43 4 B w7 vs ss := by
        have n1 := q34.apart r4 (by decide)
        have n2 := q34.apart z4 (by decide)
        obtain ⟨rows, r0, hown, hfr, hall⟩ := q34
        refine ⟨rows, r0, ⟨hown.1, ?_⟩, hfr, hall.mono fun q y hq => ?_⟩
        · rcases hown.2 with h0 | ⟨g, cap, cur, f1, f2, f3, f4⟩
          · exact .inl h0
          · exact .inr ⟨g, cap, cur, f1, f2, (hk g (Array.getElem?_eq_some_iff.1 f3).1 (fun e => n1 (by rw [f1, ← e]; rfl)) (fun e => n2 (by rw [f1, ← e]; rfl))).trans f3, f4⟩
        · obtain ⟨cc, dd, kk, aa, ll, rfl, o1, o2⟩ := hq
          exact ⟨cc, dd, kk, aa, ll, rfl, nb (C := 0) o1, o2⟩
      have g3w : w.grownBy w3 (some b) := grown_of_below T3 _
      have g4w : w.grownBy w4 (some b) := grown_of_below (below_and T3 le b34) _
      rw [e]
      have hs3 := T3.size
      refine ⟨ve', vl', vv, rfl, ((nb (C := 0) t4).mv (Mv.from g8 (by have := rr3.lt; omega) (by omega))), hl4.grownR rr7 (by decide) (by decide) g8, hm4.grownL rr7 (by decide) (by decide) g8, hq4.grownN rr7 (by decide) (by decide) g8, r7.grown g8 (fun e => by injection e with e; omega), ?_⟩
      have g7w : w.grownBy w7 (some b) := ⟨e1.trans g4w.os, e2.trans g4w.tape, e3.trans g4w.output, Nat.le_trans g4w.size hs, fun k hk' hne => (hk k (Nat.lt_of_lt_of_le hk' g4w.size) (fun e => hne (by rw [e])) (by omega)).trans (g4w.block k hk' hne)⟩
      exact grown_trans g7w g8 (.inr fun k hk' => by cases hk'; omega)
    have FIN := (show Hid (∀ {x' : List PEnt × List PEnt × Int × List Int} {w4 w7 w8 : World} {ve' vl' vv : Value}, opA es ls x n = x' → OT (From w3.heap.size) w4 vv x'.2.2.2 → LB OEnt 82 2 B w4 ve' x'.1 → LB OLea 84 3 B w4 vl' x'.2.1 → Below w3.heap.size w3 w4 → Row w7 b 26 [.int .i64 n, ve', vl', vs] → (∀ k, k < w4.heap.size → k ≠ b → k ≠ b3 → w7.heap[k]? = w4.heap[k]?) → w4.heap.size ≤ w7.heap.size → w7.os = w4.os → w7.tape = w4.tape → w7.output = w4.output → w7.grownBy w8 (some (w.heap.size + 1)) → Rdo b B w n vs ss (opA es ls x n) (.returned (.agg #[.int .i64 x'.2.2.1, vv])) w8) from fin)
    clear fin
    by_cases hk4 : o.1 ≤ 4
    · obtain ⟨D, hDD⟩ : ∃ D, D = doL es o := ⟨_, rfl⟩
      have HD := (show Hid (opA es ls x n = (D.1, ls, D.2)) by
        show _ = _
        unfold opA
        rw [hop, hrd']
        simp only [if_pos hk4, hDD])
      have HDo := (show Hid (∀ u, Below w3.heap.size w3 u → Calls Tryz.prog 94 #[ve, .agg #[.int .i64 o.1, un, ua, ub, .int .i64 o.2.2.2.2]] u fun e w' => ∃ ai ni ci ax cx, e = .returned (.tuple #[.slice ai ni ci, .agg #[.int .i64 D.2.1, .slice ax D.2.2.length cx]]) ∧ LB OEnt 82 2 B w' (.slice ai ni ci) D.1 ∧ OT (From w3.heap.size) w' (.slice ax D.2.2.length cx) D.2.2 ∧ Below w3.heap.size w3 w') from fun u hu => by
        rw [hDD]
        refine (do_any u ve es ((Re.rl q13).mv mov_ent hu.size (Mv.below hu)) (sz_ents g1) _ o (mov_op _ _ _ _ _ _ o3 hu.size (Mv.below hu)) HZO.out).mono ?_
        rintro e w' ⟨v', vv, rfl, l1, t1, hb'⟩
        obtain ⟨ai, ci, rfl, _⟩ := (Re.rl l1).form
        obtain ⟨ax, cx, rfl, _⟩ := t1.rt.form
        exact ⟨ai, _, ci, ax, cx, rfl, l1.weak mov_oent (Nat.le_trans hB (Nat.le_trans T3.size hu.size)), t1.mv (Mv.weak hu.size), below_and hu (Nat.le_refl _) hb'⟩)
      have hd : decide (o.1 ≤ 4) = true := by simp [hk4]
      clear hrd' hDD hk4
      go_upto_region 6 with fail
      have SK := (show Hid (∀ u, Below w3.heap.size w3 u → (u.cell? ⟨b, 1, none⟩ = some ve ∧ u.frozen? ⟨b, 1, none⟩ = false) ∧ u.cell? ⟨b2, 0, none⟩ = some (.int .i64 o.1) ∧ u.cell? ⟨b2, 1, none⟩ = some un ∧ u.cell? ⟨b2, 2, none⟩ = some ua ∧ u.cell? ⟨b2, 3, none⟩ = some ub ∧ u.cell? ⟨b2, 4, none⟩ = some (.int .i64 o.2.2.2.2) ∧ (u.cell? ⟨b3, 0, none⟩ = some (.int .i64 0) ∧ u.cell? ⟨b3, 1, none⟩ = some (.slice none 0 0) ∧ u.frozen? ⟨b3, 0, none⟩ = false ∧ u.frozen? ⟨b3, 1, none⟩ = false)) from fun u hu => ⟨⟨(r3.below hu).cell (j := 1) rfl, (r3.below hu).frozen 1⟩, (y3.below hu).cell (j := 0) rfl, (y3.below hu).cell (j := 1) rfl, (y3.below hu).cell (j := 2) rfl, (y3.below hu).cell (j := 3) rfl, (y3.below hu).cell (j := 4) rfl, (z3.below hu).cell (j := 0) rfl, (z3.below hu).cell (j := 1) rfl, (z3.below hu).frozen 0, (z3.below hu).frozen 1⟩)
      obtain ⟨⟨C1, F1⟩, D0, D1, D2, D3, D4, E0, E1, F2, F3⟩ := SK.out w3 (Below.refl _ _)
      go_region_law (go_simp; go_at_call 94; refine (HDo.out _ (by first | exact Below.refl _ _ | exact hdw)).mono ?_; rintro e w4 ⟨ai, ni, ci, ax, cx, rfl, hL4, ht4, hb4⟩; obtain ⟨⟨C1, F1⟩, D0, D1, D2, D3, D4, E0, E1, F2, F3⟩ := SK.out w4 hb4)
      all_goals (
        have r4 := r3.below hb4
        obtain ⟨r7, z7, hk7, hs7, e1, e2, e3⟩ := do_set r4 (z3.below hb4) hbb3 1 (.slice ai ni ci) (.int .i64 D.2.1) (.slice ax D.2.2.length cx)
        have rr7 := (hk7 _ (rr3.below hb4).lt (by omega) (by omega)).trans (rr3.below hb4)
        generalize ((w4.setCell ⟨b, 1, none⟩ (.slice ai ni ci)).setCell ⟨b3, 0, none⟩ (.int .i64 D.2.1)).setCell ⟨b3, 1, none⟩ (.slice ax D.2.2.length cx) = w7 at *
        have R7 := (show Hid _ from hk7)
        clear hk7 C1 F1 D0 D1 D2 D3 D4 E0 E1 F2 F3 d0
        go_wp2_with (first
          | (refine wl_load rfl _ _ rfl b3 rfl _ _ z7 _ Tryz.underlying34 rfl (by kernel_rfl) ?_)
          | (refine wl_store rfl _ _ _ rfl (w.heap.size + 1) [.int .i64 D.2.1, .slice ax D.2.2.length cx] rfl rfl _ _ rr7 rfl (by kernel_rfl) (one_res rfl) ?_; intro w8 hr8 hg8))
        refine bodyPost_ret (v := .agg ([.int .i64 D.2.1, .slice ax D.2.2.length cx] : List Value).toArray) (results_cell_row rfl _ _ (w.heap.size + 1) _ _ (0, 0) _ (by rfl) hr8.out Tryz.underlying34 rfl (by kernel_rfl)) rfl ?_
        exact FIN.out HD.out ht4 hL4 (q23.below mov_olea hb4) hb4 r7 R7.out hs7 e1 e2 e3 hg8)
    · obtain ⟨D, hDD⟩ : ∃ D, D = doS ls o x.1 n := ⟨_, rfl⟩
      have HD := (show Hid (opA es ls x n = (es, D.1, D.2)) by
        show _ = _
        unfold opA
        rw [hop, hrd']
        simp only [if_neg hk4, hDD])
      have HDo := (show Hid (∀ u, Below w3.heap.size w3 u → Calls Tryz.prog 95 #[vl, .agg #[.int .i64 o.1, un, ua, ub, .int .i64 o.2.2.2.2], .int .i64 x.1, .int .i64 n] u fun e w' => ∃ ai ni ci ax cx, e = .returned (.tuple #[.slice ai ni ci, .agg #[.int .i64 D.2.1, .slice ax D.2.2.length cx]]) ∧ LB OLea 84 3 B w' (.slice ai ni ci) D.1 ∧ OT (From w3.heap.size) w' (.slice ax D.2.2.length cx) D.2.2 ∧ Below w3.heap.size w3 w') from fun u hu => by
        rw [hDD]
        refine (doS_any u vl ls ((Rz.rl q23).mv mov_lea hu.size (Mv.below hu)) (sz_leas g2) _ o (mov_op _ _ _ _ _ _ o3 hu.size (Mv.below hu)) HZO.out x.1 n).mono ?_
        rintro e w' ⟨v', vv, rfl, l1, t1, hb'⟩
        obtain ⟨ai, ci, rfl, _⟩ := (Rz.rl l1).form
        obtain ⟨ax, cx, rfl, _⟩ := t1.rt.form
        exact ⟨ai, _, ci, ax, cx, rfl, l1.weak mov_olea (Nat.le_trans hB (Nat.le_trans T3.size hu.size)), t1.mv (Mv.weak hu.size), below_and hu (Nat.le_refl _) hb'⟩)
      have hd : decide (o.1 ≤ 4) = false := by simp; omega
      clear hrd' hDD hk4
      go_upto_region 7 with fail
      have SK := (show Hid (∀ u, Below w3.heap.size w3 u → (u.cell? ⟨b, 2, none⟩ = some vl ∧ u.frozen? ⟨b, 2, none⟩ = false ∧ u.cell? ⟨b, 0, none⟩ = some (.int .i64 n) ∧ u.cell? ⟨w.heap.size, 0, none⟩ = some (.int .i64 x.1)) ∧ u.cell? ⟨b2, 0, none⟩ = some (.int .i64 o.1) ∧ u.cell? ⟨b2, 1, none⟩ = some un ∧ u.cell? ⟨b2, 2, none⟩ = some ua ∧ u.cell? ⟨b2, 3, none⟩ = some ub ∧ u.cell? ⟨b2, 4, none⟩ = some (.int .i64 o.2.2.2.2) ∧ (u.cell? ⟨b3, 0, none⟩ = some (.int .i64 0) ∧ u.cell? ⟨b3, 1, none⟩ = some (.slice none 0 0) ∧ u.frozen? ⟨b3, 0, none⟩ = false ∧ u.frozen? ⟨b3, 1, none⟩ = false)) from fun u hu => ⟨⟨(r3.below hu).cell (j := 2) rfl, (r3.below hu).frozen 2, (r3.below hu).cell (j := 0) rfl, (ra3.below hu).cell (j := 0) rfl⟩, (y3.below hu).cell (j := 0) rfl, (y3.below hu).cell (j := 1) rfl, (y3.below hu).cell (j := 2) rfl, (y3.below hu).cell (j := 3) rfl, (y3.below hu).cell (j := 4) rfl, (z3.below hu).cell (j := 0) rfl, (z3.below hu).cell (j := 1) rfl, (z3.below hu).frozen 0, (z3.below hu).frozen 1⟩)
      obtain ⟨⟨C1, F1, N0, X0⟩, D0, D1, D2, D3, D4, E0, E1, F2, F3⟩ := SK.out w3 (Below.refl _ _)
      go_region_law (go_simp; go_at_call 95; refine (HDo.out _ (by first | exact Below.refl _ _ | exact hdw)).mono ?_; rintro e w4 ⟨ai, ni, ci, ax, cx, rfl, hL4, ht4, hb4⟩; obtain ⟨⟨C1, F1, N0, X0⟩, D0, D1, D2, D3, D4, E0, E1, F2, F3⟩ := SK.out w4 hb4)
      all_goals (
        have r4 := r3.below hb4
        obtain ⟨r7, z7, hk7, hs7, e1, e2, e3⟩ := do_set r4 (z3.below hb4) hbb3 2 (.slice ai ni ci) (.int .i64 D.2.1) (.slice ax D.2.2.length cx)
        have rr7 := (hk7 _ (rr3.below hb4).lt (by omega) (by omega)).trans (rr3.below hb4)
        generalize ((w4.setCell ⟨b, 2, none⟩ (.slice ai ni ci)).setCell ⟨b3, 0, none⟩ (.int .i64 D.2.1)).setCell ⟨b3, 1, none⟩ (.slice ax D.2.2.length cx) = w7 at *
        have R7 := (show Hid _ from hk7)
        clear hk7 C1 F1 N0 X0 D0 D1 D2 D3 D4 E0 E1 F2 F3 d0
        go_wp2_with (first
          | (refine wl_load rfl _ _ rfl b3 rfl _ _ z7 _ Tryz.underlying34 rfl (by kernel_rfl) ?_)
          | (refine wl_store rfl _ _ _ rfl (w.heap.size + 1) [.int .i64 D.2.1, .slice ax D.2.2.length cx] rfl rfl _ _ rr7 rfl (by kernel_rfl) (one_res rfl) ?_; intro w8 hr8 hg8))
        refine bodyPost_ret (v := .agg ([.int .i64 D.2.1, .slice ax D.2.2.length cx] : List Value).toArray) (results_cell_row rfl _ _ (w.heap.size + 1) _ _ (0, 0) _ (by rfl) hr8.out Tryz.underlying34 rfl (by kernel_rfl)) rfl ?_
        exact FIN.out HD.out ht4 (q13.below mov_oent hb4) hL4 hb4 r7 R7.out hs7 e1 e2 e3 hg8)
end Go.Proofs.YtejkkhlblnepeaaGreat
end
