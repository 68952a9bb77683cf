/- Records one behind the other, plain: what scanning finds. -/
import Derived.Test.YteafgdidjdfiiaaGreatJ12
import Derived.Test.YteafgdidjdfiiaaGreatJ08
import Derived.Deep.QuietTactic
import Derived.BigQuiet
import Derived.Test.YteafgdidjdfiiaaGreatLst
section
set_option linter.unusedVariables false
set_option linter.unusedSimpArgs false
namespace Go.Proofs.YteafgdidjdfiiaaGreat
open Go.RowKit Oct Kvl

theorem onQ4 {n m : Int} {a b : Value} (ha : a.oneCell' = true) (hb : b.oneCell' = true) : ∀ x ∈ [Value.int .i64 n, Value.int .i64 m, a, b], x.oneCell' = true := by
  intro x hx
  simp only [List.mem_cons, List.not_mem_nil, or_false] at hx
  rcases hx with rfl | rfl | rfl | rfl <;> first | assumption | rfl
/-- What stands while a run goes on. -/
def runI (a : PApp) (ys : List PReq) (q : Nat) (b : PApp) : Prop := rgtA b ∧ wfN b.2.2.2 ∧ runA a ys = runA b (ys.drop q)
theorem runI_step {a b : PApp} {ys : List PReq} {q : Nat} {y : PReq} (h : runI a ys q b) (hy : ys[q]? = some y) (hg : goA b) : runI a ys (q + 1) (stepA b y).1 := by
  obtain ⟨h1, h2, h3⟩ := h
  refine ⟨stepA_rgt h2 hg, stepA_wf h2, ?_⟩
  rw [h3, drop_cons hy, runA_go hg]
theorem runI_end {a b : PApp} {ys : List PReq} {q : Nat} (h : runI a ys q b) (hg : ¬ goA b) : runA a ys = b := by rw [h.2.2, runA_stay hg]
theorem runI_done {a b : PApp} {ys : List PReq} {q : Nat} (h : runI a ys q b) (hq : ys.length ≤ q) : runA a ys = b := by
  rw [h.2.2, List.drop_of_length_le hq]; rfl

set_option maxRecDepth 10000 in
set_option maxHeartbeats 8000000 in
/-- session.Run. -/
theorem run_any (w : World) (row : List Value) (a : PApp) (h : RApp Any w row a) (hza : szA a) (lv : Value) (ys : List PReq) (hx : RL RReq 4 Any w lv ys) (hz : ∀ y ∈ ys, szQ y) :
    Calls Tryz.prog 15 #[.agg row.toArray, lv] w fun e w' => ∃ row', e = .returned (.agg row'.toArray) ∧ OApp w.heap.size w' row' (runA a ys) ∧ Below w.heap.size w w' := by
  have le := Nat.le_refl w.heap.size
  have hall := h
  obtain ⟨ve, vl, vs, rfl, h1, h2, h3⟩ := h
  clear h1 h2 h3
  obtain ⟨w0, hw0⟩ : ∃ w0, w0 = (w.alloc (.cells #[.int .i64 a.1, ve, vl, vs] 27)).alloc (.cells #[.int .i64 0, .slice none 0 0, .slice none 0 0, .slice none 0 0] 27) := ⟨_, rfl⟩
  have ra : Row w0 w.heap.size 27 [.int .i64 a.1, ve, vl, vs] := by rw [hw0]; exact rowA (Row.new w 27 _) _
  have rs : Row w0 (w.heap.size + 1) 27 [.int .i64 0, .slice none 0 0, .slice none 0 0, .slice none 0 0] := by
    rw [hw0]
    have := Row.new (w.alloc (.cells #[.int .i64 a.1, ve, vl, vs] 27)) 27 [.int .i64 0, .slice none 0 0, .slice none 0 0, .slice none 0 0]
    simpa using this
  have B0 : Below w.heap.size w w0 := by rw [hw0]; exact below_and (below_alloc _ _) le (below_alloc _ _)
  have hs0 : w0.heap.size = w.heap.size + 2 := by rw [hw0]; simp
  have hC := cloneApp_any w0 _ a (hall.below B0) hza
  have HA := (show Hid (∀ u, Below w.heap.size w u → RApp Any u [.int .i64 a.1, ve, vl, vs] a) from fun u hu => hall.below hu)
  have hwf := hall.wf
  clear hall
  go_enter Tryz.func15, Tryz.ntmps15
  go_upto_region 1 with fail
  rw [← hw0]
  clear hw0
  go_upto_region 2 with (first
    | (refine wl_load rfl _ _ rfl w.heap.size rfl _ _ ra _ Tryz.underlying27 rfl (by kernel_rfl) ?_)
    | (go_at_call 16; refine hC.mono ?_; rintro e w1 ⟨r1, rfl, o1, hb1⟩; have o1' := o1; obtain ⟨ve1, vl1, vs1, rfl, u1, u2, u3⟩ := o1; have n1 := Row.new w1 27 [.int .i64 0, .slice none 0 0, .slice none 0 0, .slice none 0 0])
    | (refine wl_store rfl _ _ _ rfl w1.heap.size [.int .i64 a.1, ve1, vl1, vs1] rfl rfl _ _ n1 rfl (by kernel_rfl) (onA4 u1.form u2.form u3.form) ?_; intro w2 hr2 hg2))
  have y2 := hr2.out
  have b12 : Below w1.heap.size w1 w2 := (below_alloc w1 _).trans (grown_below hg2 (by simp) (fun k hk => by cases hk; exact Nat.le_refl _))
  have b02 := below_and hb1 (Nat.le_refl _) b12
  have T2 := below_and B0 le b02
  have o2 := (o1'.below b12).weak (C := w0.heap.size) (by omega)
  obtain ⟨b, hb⟩ : ∃ b, b = w1.heap.size := ⟨_, rfl⟩
  rw [← hb] at y2 ⊢
  have hbl : w0.heap.size ≤ b := by rw [hb]; exact hb1.size
  have ra2 := ra.below b02
  have hone := o2.app.one
  clear hC o1' u1 u2 u3 n1 hr2 hg2 b12 hb1 hb
  have hR := rightA_any w2 _ a (HA.out w2 T2)
  have fin : ∀ {w5 w6 : World} {row' : List Value} {bq : PApp}, runA a ys = bq → OApp w0.heap.size w5 row' bq → Below w0.heap.size w0 w5 → w5.grownBy w6 (some (w.heap.size + 1)) → ∃ row'', Ending.returned (.agg row'.toArray) = .returned (.agg row''.toArray) ∧ OApp w.heap.size w6 row'' (runA a ys) ∧ Below w.heap.size w w6 := by
    intro w5 w6 row' bq e o5 b5 g6
    rw [e]
    have T5 := below_and B0 le b5
    exact ⟨_, rfl, (o5.grown g6 (by omega)).weak (by omega), T5.trans (grown_below g6 T5.size (fun k hk => by cases hk; omega))⟩
  have FIN := (show Hid (∀ {w5 w6 : World} {row' : List Value} {bq : PApp}, runA a ys = bq → OApp w0.heap.size w5 row' bq → Below w0.heap.size w0 w5 → w5.grownBy w6 (some (w.heap.size + 1)) → ∃ row'', Ending.returned (.agg row'.toArray) = .returned (.agg row''.toArray) ∧ OApp w.heap.size w6 row'' (runA a ys) ∧ Below w.heap.size w w6) from fin)
  clear fin
  by_cases hr : rgtA a
  rotate_left
  · rw [decide_eq_false hr] at hR
    have HN := (show Hid (runA a ys = a) from runA_stay (fun h => hr h.1) ys)
    clear hr
    go_wp2_with (first
      | (refine wl_load rfl _ _ rfl w.heap.size rfl _ _ ra2 _ Tryz.underlying27 rfl (by kernel_rfl) ?_)
      | (go_at_call 17; refine hR.mono ?_; rintro e w3 ⟨rfl, hb3⟩; have y3 := y2.below hb3; have rs3 := (rs.below b02).below hb3)
      | (refine wl_load rfl _ _ rfl b rfl _ _ y3 _ Tryz.underlying27 rfl (by kernel_rfl) ?_)
      | (refine wl_store rfl _ _ _ rfl (w.heap.size + 1) [.int .i64 a.1, ve1, vl1, vs1] rfl rfl _ _ rs3 rfl (by kernel_rfl) hone ?_; intro w4 hr4 hg4))
    refine bodyPost_ret (v := .agg ([.int .i64 a.1, ve1, vl1, vs1] : List Value).toArray) (results_cell_row rfl _ _ (w.heap.size + 1) _ _ (0, 0) _ (by rfl) hr4.out Tryz.underlying27 rfl (by kernel_rfl)) rfl ?_
    exact FIN.out HN.out (o2.below hb3) (below_and b02 (Nat.le_refl _) hb3) hg4
  rw [decide_eq_true hr] at hR
  have I0 := (show Hid (runI a ys 0 a) from ⟨hr, hwf, rfl⟩)
  obtain ⟨al, cl, rfl, hcl⟩ := hx.form
  have hlm : (ys.length : Int) ≤ 9223372036854775807 := by
    rcases Nat.eq_zero_or_pos ys.length with h0 | h0
    · omega
    · obtain ⟨_, _, cap, _, hc, hm, _⟩ := hx.at h0
      unfold maxLen at hm
      omega
  obtain ⟨N, hN⟩ : ∃ N, N = ys.length := ⟨_, rfl⟩
  have HH2 := (show Hid (∀ (q : Nat) (y : PReq), ys[q]? = some y → ∃ bb off cap, Value.slice al N cl = .slice (some ⟨bb, off, none⟩) N cap ∧ ∃ o g, o.oneCell' = true ∧ g.oneCell' = true ∧ RReq (fun k => k < w0.heap.size) w [.int .i64 y.1, .int .i64 y.2.1, o, g] y ∧ szQ y ∧ ∀ u, Below w.heap.size w u → u.rangeAt bb (off + q * 4) [.int .i64 y.1, .int .i64 y.2.1, o, g]) from fun q y hy => by
    have hl : 0 < ys.length := by have := (List.getElem?_eq_some_iff.1 hy).1; omega
    obtain ⟨bb, off, cap, e, hc, hm, _, hb, hx'⟩ := hx.at hl
    obtain ⟨r, _, hr, o, g, rfl, t1, t2⟩ := hx' q y hy
    exact ⟨bb, off, cap, by rw [hN]; exact e, o, g, t1.one, t2.one, req_low ⟨o, g, rfl, t1, t2⟩ B0.size, hz y (List.mem_of_getElem? hy), fun u hu => rangeAt_block hr (hu.block bb hb)⟩)
  rw [← hN] at hlm ⊢
  have HN := (show Hid (ys.length = N) from hN.symm)
  clear hN hx hz hr hwf hcl
  go_upto_region 4 with (first
    | (refine wl_load rfl _ _ rfl w.heap.size rfl _ _ ra2 _ Tryz.underlying27 rfl (by kernel_rfl) ?_)
    | (go_at_call 17; refine hR.mono ?_; rintro e w3 ⟨rfl, hb3⟩))
  have b03 := below_and b02 (Nat.le_refl _) hb3
  have y3 := y2.below hb3
  have o3 := o2.below hb3
  clear hR ra2 ra y2 o2 hb3 b02 T2 HA hone hza
  go_wp2_with fail
  go_loopw [16] (fun i wr => ∃ (q : Nat) (bq : PApp) (row : List Value), q ≤ N ∧ i = .int .i64 q ∧ OApp w0.heap.size wr row bq ∧ Row wr b 27 row ∧ Below w0.heap.size w0 wr ∧ Hid (runI a ys q bq)) (fun i _ => N - (intOf i).toNat)
  case atStart => exact ⟨0, a, _, by omega, rfl, o3, y3, b03, I0⟩
  case round =>
    clear o3 y3 b03 I0
    obtain ⟨q, bq, row, hq, rfl, oq, yq, bq0, HI⟩ := hrel
    have rsq := rs.below bq0
    have Bq := below_and B0 le bq0
    have hoq := oq.app.one
    have oq' := oq
    obtain ⟨veq, vlq, vsq, rfl, u1, u2, u3⟩ := oq'
    clear u1 u2 u3
    by_cases hql : q < N
    · obtain ⟨y, hy⟩ : ∃ y, ys[q]? = some y := ⟨_, List.getElem?_eq_getElem (by have := HN.out; omega)⟩
      obtain ⟨bb, off, cap, e, so, sg, s1, s2, hsr, hzy, HR⟩ := HH2.out q y hy
      injection e with e1 e2 e3
      subst e1 e3
      have hrng := HR wr Bq
      have hone := onQ4 (n := y.1) (m := y.2.1) s1 s2
      have hrow0 := Row.new wr 34 [.int .i64 0, .int .i64 0, .slice none 0 0, .slice none 0 0]
      have hqi : (q : Int) < (N : Int) := by omega
      have HY := (show Hid (ys[q]? = some y) from hy)
      clear HR e2 hy
      go_upto_region 7 with (first
        | (refine wpList_load_mid rfl _ _ rfl bb (off + q * 4) rfl [.int .i64 y.1, .int .i64 y.2.1, so, sg] _ hrng Tryz.underlying34 rfl (by kernel_rfl) ?_)
        | (refine wl_store rfl _ _ _ rfl wr.heap.size [.int .i64 y.1, .int .i64 y.2.1, so, sg] rfl rfl _ _ hrow0 rfl (by kernel_rfl) hone ?_; intro w5 hr5 hg5))
      have hr5 := hr5.out
      have hb5 : Below wr.heap.size wr w5 := (below_alloc wr (.cells ([.int .i64 0, .int .i64 0, .slice none 0 0, .slice none 0 0] : List Value).toArray 34)).trans (grown_below hg5 (by simp) (fun k hk => by cases hk; exact Nat.le_refl _))
      have y5 := yq.below hb5
      have o5 := oq.below hb5
      have hb05 := below_and bq0 (Nat.le_refl _) hb5
      obtain ⟨gb, hgb⟩ : ∃ gb, gb = wr.heap.size := ⟨_, rfl⟩
      rw [← hgb] at hr5 ⊢
      clear hrng hone hrow0 hg5 yq oq hgb
      have hE := isAtEnd_any w5 bq.1 veq vlq vsq
      by_cases hn : 1000000 ≤ bq.1
      · rw [decide_eq_true hn] at hE
        have HNG := (show Hid (runA a ys = bq) from runI_end HI.out (fun h => by have := h.2; omega))
        clear hn
        go_wp2_with (first
          | (refine wl_load rfl _ _ rfl b rfl _ _ y5 _ Tryz.underlying27 rfl (by kernel_rfl) ?_)
          | (go_at_call 18; refine hE.mono ?_; rintro e w6 ⟨rfl, hb6⟩; have y6 := y5.below hb6; have rs6 := (rsq.below hb5).below hb6)
          | (refine wl_load rfl _ _ rfl b rfl _ _ y6 _ Tryz.underlying27 rfl (by kernel_rfl) ?_)
          | (refine wl_store rfl _ _ _ rfl (w.heap.size + 1) [.int .i64 bq.1, veq, vlq, vsq] rfl rfl _ _ rs6 rfl (by kernel_rfl) hoq ?_; intro w7 hr7 hg7))
        refine bodyPost_ret (v := .agg ([.int .i64 bq.1, veq, vlq, vsq] : List Value).toArray) (results_cell_row rfl _ _ (w.heap.size + 1) _ _ (0, 0) _ (by rfl) hr7.out Tryz.underlying27 rfl (by kernel_rfl)) rfl ?_
        exact FIN.out HNG.out (o5.below hb6) (below_and hb05 (Nat.le_refl _) hb6) hg7
      · rw [decide_eq_false hn] at hE
        have hgo : goA bq := ⟨HI.out.1, by omega⟩
        have HNX := (show Hid (runI a ys (q + 1) (stepA bq y).1) from runI_step HI.out HY.out hgo)
        have HST := (show Hid (∀ u, Below w5.heap.size w5 u → Calls Tryz.prog 19 #[.pointer (some ⟨b, 0, none⟩), .agg #[.int .i64 y.1, .int .i64 y.2.1, so, sg]] u (Rst b w0.heap.size u (stepA bq y))) from fun u hu => step_any u b w0.heap.size _ bq (o5.below hu) (y5.below hu) (Nat.le_trans hb05.size hu.size) hbl hgo _ y (mov_req _ _ _ _ _ _ (mov_req _ _ _ _ _ _ hsr B0.size (fun k hk hlt => ⟨B0.block k hlt, hk⟩)) (Nat.le_trans hb05.size hu.size) (Mv.low (below_and hb05 (Nat.le_refl _) hu))) hzy)
        clear hn hgo
        generalize stepA bq y = S at *
        go_wp2_with (first
          | (refine wl_load rfl _ _ rfl b rfl _ _ y5 _ Tryz.underlying27 rfl (by kernel_rfl) ?_)
          | (go_at_call 18; refine hE.mono ?_; rintro e w6 ⟨rfl, hb6⟩; have g6 := hr5.below hb6)
          | (refine wl_load rfl _ _ rfl gb rfl _ _ g6 _ Tryz.underlying34 rfl (by kernel_rfl) ?_)
          | (go_at_call 19; refine (HST.out w6 hb6).mono ?_; rintro e w7 ⟨vv7, row7, rfl, t7, o7, y7, T7⟩))
        go_roundw
        case rel => exact ⟨q + 1, S.1, row7, by omega, by go_num, o7, y7, (below_and hb05 (Nat.le_refl _) hb6).trans T7, HNX⟩
        case measure => simp [intOf]; omega
    · have hqd : decide ((q : Int) < N) = false := by simp; omega
      have HNG := (show Hid (runA a ys = bq) from runI_done HI.out (by have := HN.out; omega))
      go_wp2_with (first
        | (refine wl_load rfl _ _ rfl b rfl _ _ yq _ Tryz.underlying27 rfl (by kernel_rfl) ?_)
        | (refine wl_store rfl _ _ _ rfl (w.heap.size + 1) [.int .i64 bq.1, veq, vlq, vsq] rfl rfl _ _ rsq rfl (by kernel_rfl) hoq ?_; intro w7 hr7 hg7))
      refine bodyPost_ret (v := .agg ([.int .i64 bq.1, veq, vlq, vsq] : List Value).toArray) (results_cell_row rfl _ _ (w.heap.size + 1) _ _ (0, 0) _ (by rfl) hr7.out Tryz.underlying27 rfl (by kernel_rfl)) rfl ?_
      exact FIN.out HNG.out oq bq0 hg7
end Go.Proofs.YteafgdidjdfiiaaGreat
end

section
namespace Go.Proofs.YteafgdidjdfiiaaGreat
open Go.RowKit Oct

theorem Tryz.info23 : (Tryz.prog.info? 28).map (fun i => (i.zero, i.size, i.bytes)) = some (some (.slice none 0 0), 1, 24) := by kernel_rfl

/-- 'append(s, x...)' of texts, at this program. -/
theorem app_list {w : World} {ops : Array Oper} {rest : List Oper} {o : Oper} {a : Act} {Q : Exit → Act → World → Prop} (hgd : o.guard = none) (s x : Operand)
    (ho : o.op = .call { callee := .builtin .append, args := #[s, x], argTypes := #[38, 38] })
    (v : Value) (vs : List Value) (hs : a.eval s = v) (hown : Own w 28 v vs) (sv : Value) (us : List Value) (hx : a.eval x = sv) (hsrc : Rdv w sv us) (h1 : ∀ u ∈ us, u.oneCell' = true) (hb : vs.length + us.length ≤ 1000000000)
    (h : ∀ v' w', App w 28 v w' v' (vs ++ us) → wpList Tryz.prog ops Q rest (a.put o.dst v') w') : wpList Tryz.prog ops Q (o :: rest) a w := by
  obtain ⟨i0, hi, hz0, hz1, hz2⟩ := info_parts Tryz.info23
  exact wpList_app (wanted_none hgd) s x 38 ho 28 i0 (.slice none 0 0) 24 Tryz.underlying38 hi hz0 hz1 hz2 rfl v vs hs hown sv us hx hsrc h1 (by unfold maxLen; omega) (by omega) h

theorem Own.oneCell {w : World} {e : TypeId} {v : Value} {xs : List Value} (h : Own w e v xs) : v.oneCell' = true := by
  obtain ⟨ao, cap, rfl, _⟩ := h.form
  rfl
theorem own_elem (w : World) (x : Value) (e : TypeId) : Own (w.alloc (.cells #[x] e)) e (.slice (some ⟨w.heap.size, 0, none⟩) 1 1) [x] :=
  World.ownsRow_lit (base := 0) (size := 1) w #[x] 1 (Nat.zero_le _) (by decide) rfl
theorem own_zerol (w : World) (e : TypeId) : Own (w.alloc (.cells #[] e)) e (.slice (some ⟨w.heap.size, 0, none⟩) 0 0) [] :=
  World.ownsRow_lit (base := 0) (size := 1) w #[] 0 (Nat.zero_le _) (by decide) rfl

/-- Texts that the call itself made. -/
def Els (w : World) (vs : List Value) (ll : List (List Int)) : Prop := All2 (fun c l => Own w 5 c (bc l)) vs ll
theorem Els.below {w w' : World} {vs : List Value} {ll : List (List Int)} (h : Els w vs ll) (hb : Below w.heap.size w w') : Els w' vs ll := h.mono fun _ _ h => h.below hb
/-- They stay while a list of texts is appended to. -/
theorem Els.app {w w' : World} {v v' : Value} {vs us xs : List Value} {ll : List (List Int)} (h : Els w us ll) (hv : Own w 28 v vs) (ha : App w 28 v w' v' xs) : Els w' us ll :=
  h.mono fun _ _ h => h.grown ha.grown (hv.apart h (by decide))
theorem Els.rdl {w : World} {v : Value} {vs : List Value} {ll : List (List Int)} (h : Els w vs ll) (hv : Own w 28 v vs) (hb : Byts ll) : Rdl w v ll := by
  refine ⟨vs, hv.rdv, ?_⟩
  clear hv
  unfold Els at h
  induction ll generalizing vs with
  | nil => cases vs with
    | nil => trivial
    | cons x r => exact h.elim
  | cons l ll ih => cases vs with
    | nil => exact h.elim
    | cons x r => exact ⟨h.1.rd (hb l (by simp)), ih h.2 (fun y hy => hb y (by simp [hy]))⟩
theorem Els.snoc {w : World} {vs : List Value} {ll : List (List Int)} {c : Value} {l : List Int} (h : Els w vs ll) (hc : Own w 5 c (bc l)) : Els w (vs ++ [c]) (ll ++ [l]) := All2.app h ⟨hc, trivial⟩

theorem els_one {w : World} : ∀ {vs : List Value} {ll : List (List Int)}, Els w vs ll → ∀ u ∈ vs, u.oneCell' = true
  | [], _, _, u, hu => by cases hu
  | v :: vs, [], h, _, _ => h.elim
  | v :: vs, l :: ll, h, u, hu => by
    rcases List.mem_cons.1 hu with e | e
    · subst e; exact h.1.oneCell
    · exact els_one h.2 u e


theorem bel_drewN {B : Nat} {a w : World} (h : Below B a w) (n : Nat) : Below B a (w.drewN n) := h.trans ⟨rfl, rfl, rfl, Nat.le_refl _, fun _ _ => rfl⟩
theorem Rd.drewN {w : World} {v : Value} {l : List Int} (h : Rd w v l) (n : Nat) : Rd (w.drewN n) v l := h
theorem take_ne {α : Type} {a b : List α} {k : Nat} {x y : α} (ha : a[k]? = some x) (hb : b[k]? = some y) (h : x ≠ y) : a ≠ b := fun e => by
  subst e
  rw [ha] at hb
  exact h (Option.some.inj hb)


end Go.Proofs.YteafgdidjdfiiaaGreat
end

section
set_option linter.unusedVariables false
namespace Go.Proofs.YteafgdidjdfiiaaGreat
open Oct

/-- A record with its length ahead. -/
def frm (t : List Int) : List Int := enc t.length ++ t
theorem packL_frm (a : List (List Int)) (t : List Int) : packL (a ++ [t]) = packL a ++ frm t := by rw [packL_snoc, List.append_assoc]; rfl
theorem frm_pos (t : List Int) : 1 ≤ (frm t).length := by have := enc_len (t.length : Int); unfold frm; rw [List.length_append]; omega
/-- The whole records from a place on, and where they end. -/
def scnF : Nat → List Int → Nat → List (List Int) × Nat
  | 0, _, p => ([], p)
  | f + 1, l, p => if p < l.length then (if (getB l p 2147483647).2.2 = 0 then ((getB l p 2147483647).1 :: (scnF f l (getB l p 2147483647).2.1.toNat).1, (scnF f l (getB l p 2147483647).2.1.toNat).2) else ([], p)) else ([], p)
def scn (l : List Int) : List (List Int) × Nat := scnF (l.length + 1) l 0
theorem scnF_end (f : Nat) (l : List Int) (p : Nat) (h : l.length ≤ p) : scnF (f + 1) l p = ([], p) := by
  unfold scnF
  rw [if_neg (by omega)]
theorem scnF_no (f : Nat) (l : List Int) (p : Nat) (h : p < l.length) (hg : getB l p 2147483647 = ([], 0, 11)) : scnF (f + 1) l p = ([], p) := by
  unfold scnF
  rw [if_pos h, hg]
  rfl
theorem scnF_go (f : Nat) (l : List Int) (p : Nat) (h : p < l.length) {t : List Int} {s : Nat} (hg : getB l p 2147483647 = (t, (s : Int), 0)) : scnF (f + 1) l p = (t :: (scnF f l s).1, (scnF f l s).2) := by
  conv => lhs; unfold scnF
  rw [if_pos h, hg]
  simp
/-- Where a loop over them stands. -/
def SWay (l : List Int) (p : Nat) (done : List (List Int)) : Prop := ∃ f, l.length - p < f ∧ (done ++ (scnF f l p).1, (scnF f l p).2) = scn l
theorem SWay.start (l : List Int) : SWay l 0 [] := ⟨l.length + 1, by omega, rfl⟩
theorem SWay.end {l : List Int} {p : Nat} {done : List (List Int)} (h : SWay l p done) (hp : l.length ≤ p) : scn l = (done, p) := by
  obtain ⟨f, hf, e⟩ := h
  obtain ⟨g, rfl⟩ : ∃ g, f = g + 1 := ⟨f - 1, by omega⟩
  rw [← e, scnF_end g l p hp]
  simp
theorem SWay.no {l : List Int} {p : Nat} {done : List (List Int)} (h : SWay l p done) (hp : p < l.length) (hg : getB l p 2147483647 = ([], 0, 11)) : scn l = (done, p) := by
  obtain ⟨f, hf, e⟩ := h
  obtain ⟨g, rfl⟩ : ∃ g, f = g + 1 := ⟨f - 1, by omega⟩
  rw [← e, scnF_no g l p hp hg]
  simp
theorem SWay.go {l : List Int} {p : Nat} {done : List (List Int)} (h : SWay l p done) (hp : p < l.length) {t : List Int} {s : Nat} (hg : getB l p 2147483647 = (t, (s : Int), 0)) (hs : p < s) : SWay l s (done ++ [t]) := by
  obtain ⟨f, hf, e⟩ := h
  obtain ⟨g, rfl⟩ : ∃ g, f = g + 1 := ⟨f - 1, by omega⟩
  rw [scnF_go g l p hp hg] at e
  refine ⟨g, by omega, ?_⟩
  rw [← e]
  simp
/-- What the records take is just their bytes. -/
theorem scnF_take : ∀ (f : Nat) (l : List Int) (p : Nat), Byt l → p ≤ l.length → l.length - p < f → p ≤ (scnF f l p).2 ∧ (scnF f l p).2 ≤ l.length ∧ l.drop p = packL (scnF f l p).1 ++ l.drop (scnF f l p).2 ∧ Byts (scnF f l p).1 ∧ tot (scnF f l p).1 + p ≤ (scnF f l p).2
  | 0, l, p, hb, hp, hf => by omega
  | f + 1, l, p, hb, hp, hf => by
    rcases Nat.lt_or_ge p l.length with h | h
    · rcases getB_cases l p hb with hg | ⟨t, s, hg, hd, hs, hps⟩
      · rw [scnF_no f l p h hg]
        exact ⟨Nat.le_refl _, hp, by simp [packL], (fun x hx => by cases hx), by simp [tot]⟩
      · rw [scnF_go f l p h hg]
        obtain ⟨i1, i2, i3, i4, i5⟩ := scnF_take f l s hb hs (by omega)
        have hbt : Byt t := by
          have : Byt (enc t.length ++ t ++ l.drop s) := by rw [← hd]; exact hb.drop p
          exact this.left.right
        refine ⟨by simp only; omega, i2, ?_, ?_, ?_⟩
        · simp only [packL]
          rw [hd, i3]
          simp [List.append_assoc]
        · intro x hx
          rcases List.mem_cons.1 hx with rfl | hx
          · exact hbt
          · exact i4 x hx
        · simp only [tot]
          omega
    · rw [scnF_end f l p h]
      exact ⟨Nat.le_refl _, hp, by simp [packL], (fun x hx => by cases hx), by simp [tot]⟩
theorem scn_take {l : List Int} (hb : Byt l) : (scn l).2 ≤ l.length ∧ packL (scn l).1 = l.take (scn l).2 ∧ Byts (scn l).1 ∧ tot (scn l).1 ≤ (scn l).2 := by
  obtain ⟨_, h2, h3, h4, h5⟩ := scnF_take (l.length + 1) l 0 hb (Nat.zero_le _) (by omega)
  refine ⟨h2, ?_, h4, h5⟩
  show packL (scnF (l.length + 1) l 0).1 = l.take (scnF (l.length + 1) l 0).2
  have h3' : l = packL (scnF (l.length + 1) l 0).1 ++ l.drop (scnF (l.length + 1) l 0).2 := h3
  have e := List.take_append_drop (scnF (l.length + 1) l 0).2 l
  exact (List.append_cancel_right (h3'.symm.trans e.symm))
/-- A frame that is cut off is no record. -/
theorem getB_torn (a t z : List Int) (ht : t.length ≤ 2147483647) (hz : Byt z) (ha : Byt a) (hp : ∃ r, r ≠ [] ∧ z ++ r = frm t) : getB (a ++ z) (a.length : Int) 2147483647 = ([], 0, 11) := by
  obtain ⟨r, hr, he⟩ := hp
  rcases getB_cases (a ++ z) a.length (ha.app hz) with hg | ⟨u, s, hg, hd, hs, hps⟩
  · exact hg
  · exfalso
    rw [List.drop_left] at hd
    have h1 : num (frm t) = some ((t.length : Int), (enc t.length).length) := num_enc _ _ (by omega) (by omega)
    have hu : u.length ≤ 2147483647 := by
      have h0 := congrArg List.length hd
      have h2 := congrArg List.length he
      have h3 := enc_len5 (t.length : Int) (by omega) (by omega)
      simp only [List.length_append, frm] at h0 h2
      have h4 : 0 < r.length := List.length_pos_iff.2 hr
      have h5 := enc_len (u.length : Int)
      rcases getI_cases (a ++ z) a.length (ha.app hz) with hgi | ⟨n, k, q, hpq, hgi, hn, _⟩
      · unfold getB at hg
        rw [hgi] at hg
        simp at hg
      · unfold getB at hg
        rw [hgi] at hg
        split at hg
        · simp at hg
        · simp only [Prod.mk.injEq] at hg
          have := congrArg List.length hg.1
          rw [List.length_take] at this
          simp only [Int.toNat_natCast] at this
          omega
    have h2 : num (enc u.length ++ (u ++ ((a ++ z).drop s ++ r))) = some ((u.length : Int), (enc u.length).length) := num_enc _ _ (by omega) (by omega)
    have h3 : enc u.length ++ (u ++ ((a ++ z).drop s ++ r)) = frm t := by
      rw [← he]
      conv => rhs; rw [hd]
      simp [List.append_assoc]
    rw [h3, h1] at h2
    simp only [Option.some.injEq, Prod.mk.injEq] at h2
    have h4 := congrArg List.length h3
    have h5 : 0 < r.length := List.length_pos_iff.2 hr
    have h6 : (u.length : Int) = t.length := h2.1.symm
    have h7 := h2.2
    unfold frm at h4
    simp only [List.length_append] at h4
    omega
/-- Records, and a frame that may be cut off: what scanning finds. -/
theorem scnF_pack : ∀ (ll : List (List Int)) (f : Nat) (a z : List Int), Byt a → Byts ll → Byt z → tot ll ≤ 1000000000 → (packL ll ++ z).length < f → (z = [] ∨ getB (a ++ (packL ll ++ z)) ((a ++ packL ll).length : Int) 2147483647 = ([], 0, 11)) → scnF f (a ++ (packL ll ++ z)) a.length = (ll, (a ++ packL ll).length)
  | [], f, a, z, ha, hl, hz, ht, hf, hh => by
    obtain ⟨g, rfl⟩ : ∃ g, f = g + 1 := ⟨f - 1, by omega⟩
    simp only [packL, List.nil_append, List.append_nil] at hh hf ⊢
    rcases hh with rfl | hh
    · exact scnF_end g _ _ (by simp)
    · rcases Nat.lt_or_ge a.length (a ++ z).length with h | h
      · exact scnF_no g _ _ h hh
      · exact scnF_end g _ _ h
  | t :: ll, f, a, z, ha, hl, hz, ht, hf, hh => by
    obtain ⟨g, rfl⟩ : ∃ g, f = g + 1 := ⟨f - 1, by omega⟩
    simp only [tot] at ht
    have hbt := hl t (by simp)
    have hle := enc_len (t.length : Int)
    have e : a ++ (packL (t :: ll) ++ z) = a ++ (enc t.length ++ t ++ (packL ll ++ z)) := by simp [packL, List.append_assoc]
    have hg := getB_at a t (packL ll ++ z) (by omega)
    have e2 : a ++ (enc t.length ++ t ++ (packL ll ++ z)) = (a ++ (enc t.length ++ t)) ++ (packL ll ++ z) := by simp [List.append_assoc]
    have hlen : (a ++ (enc t.length ++ t)).length = a.length + (enc t.length).length + t.length := by simp only [List.length_append]; omega
    have ih := scnF_pack ll g (a ++ (enc t.length ++ t)) z (ha.app ((enc_byt _ (by omega) (by omega)).app hbt)) (fun x hx => hl x (by simp [hx])) hz (by omega) (by
      simp only [packL, List.length_append] at hf ⊢
      omega) (by
      rcases hh with h | h
      · exact .inl h
      · right
        have e3 : a ++ packL (t :: ll) = a ++ (enc t.length ++ t) ++ packL ll := by simp [packL, List.append_assoc]
        rw [e, e2, e3] at h
        exact h)
    rw [e, scnF_go g _ _ (by simp only [List.length_append]; omega) hg, ← hlen, e2, ih]
    simp [packL, List.append_assoc]
theorem scn_pack {ll : List (List Int)} (hl : Byts ll) (ht : tot ll ≤ 1000000000) : scn (packL ll) = (ll, (packL ll).length) := by
  have := scnF_pack ll ((packL ll).length + 1) [] [] Byt.nil hl Byt.nil ht (by simp) (.inl rfl)
  simpa [scn] using this
/-- Behind records a part of a frame: none, some, or all of it. -/
theorem scn_torn {ll : List (List Int)} {t : List Int} (hl : Byts ll) (hb : Byt t) (ht : tot ll + t.length + 1 ≤ 1000000000) (k : Nat) :
    scn (packL ll ++ (frm t).take k) = if k < (frm t).length then (ll, (packL ll).length) else (ll ++ [t], (packL (ll ++ [t])).length) := by
  have hbf : Byt (frm t) := (enc_byt _ (by omega) (by omega)).app hb
  split
  · rename_i hk
    have hpb := packL_byt hl (by omega : tot ll ≤ 1000000000)
    have hg := getB_torn (packL ll) t ((frm t).take k) (by omega) (hbf.take k) hpb ⟨(frm t).drop k, by
      intro e
      have := congrArg List.length e
      rw [List.length_drop] at this
      simp at this
      omega, List.take_append_drop _ _⟩
    have := scnF_pack ll ((packL ll ++ (frm t).take k).length + 1) [] ((frm t).take k) Byt.nil hl (hbf.take k) (by omega) (by simp) (.inr (by simpa using hg))
    simpa [scn] using this
  · rename_i hk
    rw [List.take_of_length_le (by omega), ← packL_frm]
    exact scn_pack (fun x hx => by
      rcases List.mem_append.1 hx with h | h
      · exact hl x h
      · simp at h; subst h; exact hb) (by rw [tot_app]; simp only [tot]; omega)
end Go.Proofs.YteafgdidjdfiiaaGreat
end
