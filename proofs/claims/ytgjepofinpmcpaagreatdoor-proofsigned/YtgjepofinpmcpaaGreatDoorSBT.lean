/- Ledgers in memory: Note. Written by mk16n.py. -/
import Derived.Test.YtgjepofinpmcpaaGreatDoorSBQ
import Derived.Test.YtgjepofinpmcpaaGreatDoorSBA
set_option linter.unusedSimpArgs false
set_option linter.unusedVariables false
namespace Go.Proofs.YtgjepofinpmcpaaGreatDoor
open Go.RowKit Oct Kvl
theorem one5i {a b c d e : Int} : ∀ v ∈ [Value.int .i64 a, Value.int .i64 b, Value.int .i64 c, Value.int .i64 d, Value.int .i64 e], v.oneCell' = true := by
  intro v hv
  simp only [List.mem_cons, List.not_mem_nil, or_false] at hv
  rcases hv with rfl | rfl | rfl | rfl | rfl <;> rfl
/-- What Note answers. -/
def NtP (w : World) (b m : Nat) (D : List PSn × List PMsg) (e : Ending) (w' : World) : Prop :=
  ∃ v', e = .returned v' ∧ RL RMs 23 (From w.heap.size) w' v' D.2 ∧ Lg (NM m) w' b m D.1 ∧ w.grownBy w' (some m)
set_option maxRecDepth 10000 in
set_option maxHeartbeats 4000000 in
theorem noteG_any (w : World) (b m : Nat) (ls : List PSn) (h : Lg (NM m) w b m ls) (k x y s : Int) (rc : List Value) (r : PReq) (hrq : RReq (NM m) w rc r) (hr : tot [r.2.2.1, r.2.2.2] ≤ 2000000) (vv : Value) (vs : List PVote) (hvs : RL RVote 2 (NM m) w vv vs)
    (hsz : ∀ v ∈ vs, szT v.2) (hl : vs.length ≤ 10000000) (hT : Tab w) :
    Calls Tryz.prog 33 #[.pointer (some ⟨b, 0, none⟩), .int .i64 k, .agg #[.int .i64 x, .int .i64 y], .int .i64 s, .agg rc.toArray, vv] w fun e w' => NtP w b m (noteL ls k x y s r vs) e w' := by
  obtain ⟨o, p, rfl, t1, t2⟩ := hrq
  obtain ⟨ao, co, rfl, _⟩ := t1.form
  obtain ⟨ap, cp, rfl, _⟩ := t2.form
  obtain ⟨av, cv, rfl, hcv⟩ := hvs.form
  obtain ⟨w1, hw1⟩ : ∃ w1, w1 = w.alloc (.cells #[.int .i64 x, .int .i64 y] 32) := ⟨_, rfl⟩
  obtain ⟨w2, hw2⟩ : ∃ w2, w2 = w1.alloc (.cells #[.int .i64 r.1, .int .i64 r.2.1, .slice ao r.2.2.1.length co, .slice ap r.2.2.2.length cp] 34) := ⟨_, rfl⟩
  have e1 : w1.heap.size = w.heap.size + 1 := by rw [hw1]; simp
  have e2 : w2.heap.size = w.heap.size + 2 := by rw [hw2]; simp [e1]
  have B1 : Below w.heap.size w w1 := by rw [hw1]; exact below_alloc _ _
  have B2 : Below w1.heap.size w1 w2 := by rw [hw2]; exact below_alloc _ _
  have R1 : Row w1 w.heap.size 32 [.int .i64 x, .int .i64 y] := by rw [hw1]; exact Row.new _ _ _
  have R2 : Row w2 (w.heap.size + 1) 34 [.int .i64 r.1, .int .i64 r.2.1, .slice ao r.2.2.1.length co, .slice ap r.2.2.2.length cp] := by rw [hw2, ← e1]; exact Row.new _ _ _
  have R1 := R1.below B2
  have B : Below w.heap.size w w2 := below_and B1 (Nat.le_refl _) B2
  have hw : w2 = (w.alloc (.cells #[.int .i64 x, .int .i64 y] 32)).alloc (.cells #[.int .i64 r.1, .int .i64 r.2.1, .slice ao r.2.2.1.length co, .slice ap r.2.2.2.length cp] 34) := by rw [hw2, hw1]
  clear hw1 hw2 e1 B1 B2
  have hm := h.lt.2
  have hb := h.lt.1
  have HNL := (show Hid (∀ j, (noteV ls k x y s r (vs.take j)).2.length ≤ 10000000) from fun j => Nat.le_trans (noteV_len h.ok k x y s hr (fun v hv => hsz v (List.mem_of_mem_take hv))) (by rw [List.length_take]; omega))
  by_cases hk : k = 2 ∨ k = 3
  · have hD : noteL ls k x y s r vs = noteV ls k x y s r vs := by unfold noteL; rw [if_pos hk]
    rw [hD]
    go_enter Tryz.func33, Tryz.ntmps33
    go_upto_region 1 with fail
    rw [← hw]
    clear hw
    try go_simp
    go_cut [26] from 21 (fun s26 wx => s26 = .bool false ∧ wx = w2)
    case first =>
      rcases hk with rfl | rfl
      all_goals (
        go_wp2_with fail
        go_meet
        case rel => exact ⟨rfl, rfl⟩)
    case rest =>
    obtain ⟨rfl, hcw⟩ := hcut
    rw [hcw]
    clear hcw hD
    have hB := body_any w2 [.int .i64 r.1, .int .i64 r.2.1, .slice ao r.2.2.1.length co, .slice ap r.2.2.2.length cp] r ⟨_, _, rfl, (t1.mv (Mv.belowG B)).mv Mv.any, (t2.mv (Mv.belowG B)).mv Mv.any⟩ (Nat.le_trans hr (by decide))
    go_upto_region 4 with (first
      | (refine wl_load rfl _ _ rfl (w.heap.size + 1) rfl _ _ R2 _ Tryz.underlying34 rfl (by kernel_rfl) ?_)
      | (go_at_call 21; refine hB.mono ?_; rintro e w3 ⟨vb, rfl, ob, fb, b3⟩))
    have B3 := below_and B (Nat.le_refl _) b3
    have R13 := R1.below b3
    have R23 := R2.below b3
    have bb : Byt (body r) := body_byt t1.1.1 t2.1.1 hr
    obtain ⟨ab, cb, rfl, _⟩ := (ob.rd bb).form
    have Rb : RT (fun j => j ≠ m ∧ w.heap.size ≤ j) w3 (.slice ab (body r).length cb) (body r) := ⟨ob.rd bb, fun _ j hj => ⟨by have := fb j hj; omega, by have := fb j hj; omega⟩⟩
    clear hB R1 R2 ob fb b3
    have hC := cloneReqS_any w3 [.int .i64 r.1, .int .i64 r.2.1, .slice ao r.2.2.1.length co, .slice ap r.2.2.2.length cp] r ⟨_, _, rfl, (t1.mv (Mv.belowG B3)).mv Mv.any, (t2.mv (Mv.belowG B3)).mv Mv.any⟩ (szQ_of hr)
    go_upto_region 5 with (first
      | (refine wl_load rfl _ _ rfl (w.heap.size + 1) rfl _ _ R23 _ Tryz.underlying34 rfl (by kernel_rfl) ?_)
      | (go_at_call 61; refine hC.mono ?_; rintro e w4 ⟨r4, rfl, ⟨o4, p4, rfl, f1, f2⟩, b4⟩; obtain ⟨ao4, co4, rfl, _⟩ := f1.form; obtain ⟨ap4, cp4, rfl, _⟩ := f2.form))
    obtain ⟨w5, hw5⟩ : ∃ w5, w5 = w4.alloc (.cells #[.int .i64 r.1, .int .i64 r.2.1, .slice ao4 r.2.2.1.length co4, .slice ap4 r.2.2.2.length cp4] 34) := ⟨_, rfl⟩
    rw [← hw5]
    have b5 : Below w4.heap.size w4 w5 := by rw [hw5]; exact below_alloc _ _
    have R5 : Row w5 w4.heap.size 34 [.int .i64 r.1, .int .i64 r.2.1, .slice ao4 r.2.2.1.length co4, .slice ap4 r.2.2.2.length cp4] := by rw [hw5]; exact Row.new _ _ _
    have b45 := below_and b4 (Nat.le_refl _) b5
    have B5 := below_and B3 (Nat.le_refl _) b45
    have z3 := B3.size
    have z4 := b4.size
    have hI0 : NI w b m w4.heap.size ls k x y s r vs (.slice ab (body r).length cb) (.slice av vs.length cv) (.slice ao4 r.2.2.1.length co4) (.slice ap4 r.2.2.2.length cp4) 0 (.slice none 0 0) w5 :=
      ⟨(h.mv (G' := GE m (.slice none 0 0)) rfl rfl (fun j hj hlt => ⟨rfl, hj, by simp [Value.ownBlock]⟩)).below B5, LB.nil _ _ _ _ _, R5, R13.below b45,
        (f1.mv (Mv.belowG b5)).mv (fun j hj _ => ⟨rfl, by unfold From at hj; omega, by simp [Value.ownBlock]⟩), (f2.mv (Mv.belowG b5)).mv (fun j hj _ => ⟨rfl, by unfold From at hj; omega, by simp [Value.ownBlock]⟩),
        (Rb.mv (Mv.belowG b45)).mv (fun j hj _ => ⟨rfl, hj.1, by simp [Value.ownBlock]⟩), (hvs.mv mov_vote B5.size (Mv.belowG B5)).mv mov_vote (Nat.le_refl _) (fun j hj _ => ⟨rfl, hj, by simp [Value.ownBlock]⟩), grown_of_below B5 _, hT.below B5⟩
    have hp := hT.pos
    have HBL := (show Hid ((body r).length ≤ 3000000) from body_len hr)
    clear hw5 b5 R5 b45 B5 z3 z4 f1 f2 Rb b4 R13 R23 B3 hC B t1 t2 hvs h hk
    generalize w4.heap.size = c5 at *
    have hI0 := (show Hid (∀ bl, bl = (body r).length → NI w b m c5 ls k x y s r vs (.slice ab bl cb) (.slice av vs.length cv) (.slice ao4 r.2.2.1.length co4) (.slice ap4 r.2.2.2.length cp4) 0 (.slice none 0 0) w5) from fun bl e => by rw [e]; exact hI0)
    obtain ⟨bl, hbl⟩ : ∃ bl, bl = (body r).length := ⟨_, rfl⟩
    have hI0 := hI0.out bl hbl
    rw [← hbl]
    clear hbl
    have hln : (vs.length : Int) ≤ 10000000 := by omega
    go_wp2_with fail
    go_loopw [15, 33] (fun s15 i wr => ∃ (j : Nat) (ev : Value), j ≤ vs.length ∧ i = .int .i64 j ∧ ev = s15 ∧ NI w b m c5 ls k x y s r vs (.slice ab bl cb) (.slice av vs.length cv) (.slice ao4 r.2.2.1.length co4) (.slice ap4 r.2.2.2.length cp4) j ev wr) (fun _ i _ => vs.length - (intOf i).toNat)
    case atStart => exact ⟨0, _, by omega, rfl, rfl, hI0⟩
    case round =>
      clear hI0
      obtain ⟨j, u15, hj, rfl, rfl, hI⟩ := hrel
      by_cases hjn : j < vs.length
      · have hd : decide ((j : Int) < (vs.length : Int)) = true := by simp; omega
        obtain ⟨V, hV⟩ : ∃ V, vs[j]? = some V := ⟨_, List.getElem?_eq_getElem hjn⟩
        obtain ⟨vb1, off, c1, hv1, hc1, hm1, hvb, hvlt, hat⟩ := hI.vt.at (by omega)
        injection hv1 with ea eb ec
        clear eb
        subst ea ec
        obtain ⟨rw1, _, hrng, sg, rfl, hsg⟩ := hat j V hV
        obtain ⟨ag, cg, rfl, hcg⟩ := hsg.form
        have hVs := hsz V (List.mem_of_getElem? hV)
        have hrow0 := Row.new wr 58 [.int .i64 0, .slice none 0 0]
        have HV := (show Hid (vs[j]? = some V) from hV)
        clear hat hV
        go_upto_region 9 with (first
          | (refine wpList_load_mid rfl _ _ rfl vb1 (off + j * 2) rfl [.int .i64 V.1, .slice ag V.2.length cg] _ hrng Tryz.underlying58 rfl (by kernel_rfl) ?_)
          | (refine wl_store rfl _ _ _ rfl wr.heap.size [.int .i64 V.1, .slice ag V.2.length cg] rfl rfl _ _ hrow0 rfl (by kernel_rfl) (one2 hsg.one) ?_; intro w6 R6 g6))
        have b6 : Below wr.heap.size wr w6 := (below_alloc wr (.cells ([.int .i64 0, .slice none 0 0] : List Value).toArray 58)).trans (grown_below g6 (by simp) (fun k hk => by cases hk; exact Nat.le_refl _))
        have R6 := R6.out
        have hI6 := hI.below b6
        have s6 := hsg.mv (Mv.belowG b6)
        have hgv : wr.heap.size < w6.heap.size := R6.lt
        have hlt6 : ∀ q, u15.ownBlock = some q → q < wr.heap.size := hI.lb.lt
        clear hI hrow0 hrng hsg g6 b6
        generalize wr.heap.size = g6 at *
        have hR := vRight_any w6 k x y s V.1 (.slice ab bl cb) (body r) hI6.bd.1 HBL.out (.slice ag V.2.length cg) V.2 s6.1 hI6.tab
        rw [show verL (repL V.1) V.2 (sL ⟨#[118, 111, 116, 101]⟩) [numsL [k, x, y, s], body r] = rgtV k x y s r V from rfl] at hR
        cases hy : rgtV k x y s r V with
        | false =>
          rw [hy] at hR
          go_wp2_with (first
            | (refine wl_load rfl _ _ rfl w.heap.size rfl _ _ hI6.bal _ Tryz.underlying32 rfl (by kernel_rfl) ?_)
            | (refine wl_load rfl _ _ rfl g6 rfl _ _ R6 _ Tryz.underlying58 rfl (by kernel_rfl) ?_)
            | (go_at_call 62; refine hR.mono ?_; rintro e w7 ⟨rfl, b7⟩))
          go_roundw
          case rel => exact ⟨j + 1, _, by omega, by go_num, rfl, (hI6.below b7).skip HV.out hy⟩
          case measure => simp [intOf]; omega
        | true =>
          rw [hy] at hR
          go_upto_region 10 with (first
            | (refine wl_load rfl _ _ rfl w.heap.size rfl _ _ hI6.bal _ Tryz.underlying32 rfl (by kernel_rfl) ?_)
            | (refine wl_load rfl _ _ rfl g6 rfl _ _ R6 _ Tryz.underlying58 rfl (by kernel_rfl) ?_)
            | (go_at_call 62; refine hR.mono ?_; rintro e w7 ⟨rfl, b7⟩))
          have hI7 := hI6.below b7
          have R7 := R6.below b7
          have s7 := s6.mv (Mv.belowG b7)
          have v0 := R7.cell (j := 0) rfl
          have hrow0 := Row.new w7 116 [.int .i64 0, .int .i64 0, .int .i64 0, .int .i64 0, .int .i64 0]
          clear hI6 R6 s6 hR
          have hgv := Nat.lt_of_lt_of_le hgv b7.size
          clear b7
          go_upto_region 11 with (first
            | (refine wl_load rfl _ _ rfl w.heap.size rfl _ _ hI7.bal _ Tryz.underlying32 rfl (by kernel_rfl) ?_)
            | (refine wl_store rfl _ _ _ rfl w7.heap.size [.int .i64 k, .int .i64 x, .int .i64 y, .int .i64 s, .int .i64 V.1] rfl rfl _ _ hrow0 rfl (by kernel_rfl) one5i ?_; intro w8 R8 g8))
          have b8 : Below w7.heap.size w7 w8 := (below_alloc w7 (.cells ([.int .i64 0, .int .i64 0, .int .i64 0, .int .i64 0, .int .i64 0] : List Value).toArray 116)).trans (grown_below g8 (by simp) (fun k hk => by cases hk; exact Nat.le_refl _))
          have R8 := R8.out
          have hI8 := hI7.below b8
          have V8 := R7.below b8
          have s8 := s7.mv (Mv.belowG b8)
          have hk8 : w7.heap.size < w8.heap.size := R8.lt
          clear hI7 R7 s7 v0 hrow0 g8 b8
          generalize w7.heap.size = k8 at *
          obtain ⟨LS, hLS⟩ : ∃ LS, LS = (noteV ls k x y s r (vs.take j)).1 := ⟨_, rfl⟩
          have hlg := hI8.lg
          rw [← hLS] at hlg
          have hmk := hlg.nrow R8
          have hmc := hlg.nrow hI8.own
          have hmg := hlg.nrow V8
          have HK := (show Hid (∀ u, w8.grownBy u (some m) → u.cell? ⟨k8, 0, none⟩ = some (.int .i64 k) ∧ u.cell? ⟨k8, 1, none⟩ = some (.int .i64 x) ∧ u.cell? ⟨k8, 2, none⟩ = some (.int .i64 y) ∧ u.cell? ⟨k8, 3, none⟩ = some (.int .i64 s) ∧ u.cell? ⟨k8, 4, none⟩ = some (.int .i64 V.1) ∧ u.cell? ⟨c5, 0, none⟩ = some (.int .i64 r.1) ∧ u.cell? ⟨c5, 1, none⟩ = some (.int .i64 r.2.1) ∧ u.cell? ⟨c5, 2, none⟩ = some (.slice ao4 r.2.2.1.length co4) ∧ u.cell? ⟨c5, 3, none⟩ = some (.slice ap4 r.2.2.2.length cp4) ∧ u.cell? ⟨g6, 1, none⟩ = some (.slice ag V.2.length cg)) from fun u hu => ⟨(R8.grown hu hmk).cell (j := 0) rfl, (R8.grown hu hmk).cell (j := 1) rfl, (R8.grown hu hmk).cell (j := 2) rfl, (R8.grown hu hmk).cell (j := 3) rfl, (R8.grown hu hmk).cell (j := 4) rfl, (hI8.own.grown hu hmc).cell (j := 0) rfl, (hI8.own.grown hu hmc).cell (j := 1) rfl, (hI8.own.grown hu hmc).cell (j := 2) rfl, (hI8.own.grown hu hmc).cell (j := 3) rfl, (V8.grown hu hmg).cell (j := 1) rfl⟩)
          have hm8 := hlg.lt.2
          have hev8 := hI8.lb.lt
          have hdw : Below w8.heap.size w8 w8.drew := ⟨rfl, rfl, rfl, Nat.le_refl _, fun _ _ => rfl⟩
          have gd : w8.grownBy w8.drew (some m) := grown_of_below hdw _
          try go_simp
          go_cut [19, 20] from 50 to 61 (fun s19 s20 wx => ∃ (cB : Nat) (t : Bool) (cs : List Value), s19 = .pointer (some ⟨cB, 0, none⟩) ∧ s20 = .bool t ∧ MdP m u15 w8 b LS (k, x, y, s, V.1) r V.2 cB t cs wx)
          case first =>
            refine wp_region_held_drew (S := fun u => u.cell? ⟨k8, 0, none⟩ = some (.int .i64 k) ∧ u.cell? ⟨k8, 1, none⟩ = some (.int .i64 x) ∧ u.cell? ⟨k8, 2, none⟩ = some (.int .i64 y) ∧ u.cell? ⟨k8, 3, none⟩ = some (.int .i64 s) ∧ u.cell? ⟨k8, 4, none⟩ = some (.int .i64 V.1) ∧ u.cell? ⟨c5, 0, none⟩ = some (.int .i64 r.1) ∧ u.cell? ⟨c5, 1, none⟩ = some (.int .i64 r.2.1) ∧ u.cell? ⟨c5, 2, none⟩ = some (.slice ao4 r.2.2.1.length co4) ∧ u.cell? ⟨c5, 3, none⟩ = some (.slice ap4 r.2.2.2.length cp4) ∧ u.cell? ⟨g6, 1, none⟩ = some (.slice ag V.2.length cg)) (by kernel_rfl) (HK.out _ gd) (fun hHeld => ?_)
            refine wpAnyH_take (i := 0) (v := (.pointer (some ⟨b, 0, none⟩))) rfl (by kernel_rfl) (by kernel_rfl) (by kernel_rfl) (fun _ _ _ h => h) (Or.inl ⟨by rfl, fun u hSu => by (try dsimp only at hSu); go_simp⟩) (by assumption) ?_
            simp only [Act.put, List.setIfInBounds_toArray, List.set_cons_zero, List.set_cons_succ]
            refine wpAnyH_take (i := 1) (v := (.agg #[.int .i64 k, .int .i64 x, .int .i64 y, .int .i64 s, .int .i64 V.1])) rfl (by kernel_rfl) (by kernel_rfl) (by kernel_rfl) (fun _ _ _ h => h) (Or.inl ⟨by rfl, fun u hSu => by (try dsimp only at hSu); go_simp⟩) (by assumption) ?_
            simp only [Act.put, List.setIfInBounds_toArray, List.set_cons_zero, List.set_cons_succ]
            refine wpAnyH_take (i := 2) (v := (.agg #[.int .i64 r.1, .int .i64 r.2.1, .slice ao4 r.2.2.1.length co4, .slice ap4 r.2.2.2.length cp4])) rfl (by kernel_rfl) (by kernel_rfl) (by kernel_rfl) (fun _ _ _ h => h) (Or.inl ⟨by rfl, fun u hSu => by (try dsimp only at hSu); go_simp⟩) (by assumption) ?_
            simp only [Act.put, List.setIfInBounds_toArray, List.set_cons_zero, List.set_cons_succ]
            refine wpAnyH_take (i := 3) (v := (.pointer (some ⟨g6, 1, none⟩))) rfl (by kernel_rfl) (by kernel_rfl) (by kernel_rfl) (fun _ _ _ h => h) (Or.inl ⟨by rfl, fun u hSu => by (try dsimp only at hSu); go_simp⟩) (by assumption) ?_
            simp only [Act.put, List.setIfInBounds_toArray, List.set_cons_zero, List.set_cons_succ]
            refine wpAnyH_take (i := 4) (v := (.slice ag V.2.length cg)) rfl (by kernel_rfl) (by kernel_rfl) (by kernel_rfl) (fun _ _ _ h => h) (Or.inl ⟨by rfl, fun u hSu => by (try dsimp only at hSu); go_simp⟩) (by assumption) ?_
            simp only [Act.put, List.setIfInBounds_toArray, List.set_cons_zero, List.set_cons_succ]
            refine wpAnyH_ready (rs := [5, 11]) (by kernel_rfl) (by simp) ?_
            refine AllReadyH.cons (o := _) rfl (fun K hK => ?_) (AllReadyH.cons (o := _) rfl (fun K hK => ?_) AllReadyH.nil)
            · go_simp
              refine (clone_any w8.drew _ _ s8.1 (Nat.le_trans hVs (by decide))).mono ?_
              rintro e w9 ⟨v9, rfl, f9, b9⟩
              obtain ⟨a9, c9, rfl, _⟩ := f9.form
              have B9 : Below w8.heap.size w8 w9 := hdw.trans b9
              have G9 : w8.grownBy w9 (some m) := grown_of_below B9 _
              have F9 := f9.mv (toGE hm8 hev8)
              try go_simp
              refine hK.out _ _ (HK.out _ G9) (fun hHeld => ?_)
              clear hK K
              refine wpAnyH_take (i := 6) (v := (.agg #[.int .i64 r.1, .int .i64 r.2.1, .slice ao4 r.2.2.1.length co4, .slice ap4 r.2.2.2.length cp4, .slice a9 V.2.length c9, .bool false])) rfl (by kernel_rfl) (by kernel_rfl) (by kernel_rfl) (fun _ _ _ h => h) (Or.inl ⟨by rfl, fun u hSu => by (try dsimp only at hSu); go_simp⟩) (by assumption) ?_
              simp only [Act.put, List.setIfInBounds_toArray, List.set_cons_zero, List.set_cons_succ]
              refine wpAnyH_ready (rs := [7, 11]) (by kernel_rfl) (by simp) ?_
              refine AllReadyH.cons (o := _) rfl (fun K hK => ?_) (AllReadyH.cons (o := _) rfl (fun K hK => ?_) AllReadyH.nil)
              · have hM := meetG_any w9 b m LS (hlg.below B9) ge_ne k x y s V.1 (.agg #[.int .i64 r.1, .int .i64 r.2.1, .slice ao4 r.2.2.1.length co4, .slice ap4 r.2.2.2.length cp4, .slice a9 V.2.length c9, .bool false]) r V.2 ⟨_, _, _, rfl, hI8.o.mv (Mv.belowG B9), hI8.p.mv (Mv.belowG B9), F9⟩ hr hVs
                simp only [kv] at hM
                go_simp
                refine hM.mono ?_
                intro e w10 hM
                obtain ⟨cs, t, rfl, hcl, hone, hmid, hl10, g10⟩ := hM.uni
                have G10 : w8.grownBy w10 (some m) := grown_trans G9 g10 (.inl rfl)
                try go_simp
                refine hK.out _ _ (HK.out _ G10) (fun hHeld => ?_)
                clear hK K
                refine wpAnyH_take (i := 8) (v := (.tuple #[.agg cs.toArray, .bool t])) rfl (by kernel_rfl) (by kernel_rfl) (by kernel_rfl) (fun _ _ _ h => h) (Or.inl ⟨by rfl, fun u hSu => by (try dsimp only at hSu); go_simp⟩) (by assumption) ?_
                simp only [Act.put, List.setIfInBounds_toArray, List.set_cons_zero, List.set_cons_succ]
                refine wpAnyH_take (i := 9) (v := (.agg cs.toArray)) rfl (by kernel_rfl) (by kernel_rfl) (by kernel_rfl) (fun _ _ _ h => h) (Or.inl ⟨by rfl, fun u hSu => by (try dsimp only at hSu); go_simp⟩) (by assumption) ?_
                simp only [Act.put, List.setIfInBounds_toArray, List.set_cons_zero, List.set_cons_succ]
                refine wpAnyH_take (i := 10) (v := (.bool t)) rfl (by kernel_rfl) (by kernel_rfl) (by kernel_rfl) (fun _ _ _ h => h) (Or.inl ⟨by rfl, fun u hSu => by (try dsimp only at hSu); go_simp⟩) (by assumption) ?_
                simp only [Act.put, List.setIfInBounds_toArray, List.set_cons_zero, List.set_cons_succ]
                refine wpAnyH_ready (rs := [11]) (by kernel_rfl) (by simp) ?_
                refine AllReadyH.cons (o := _) rfl (fun K hK => ?_) AllReadyH.nil
                go_simp
                have Bz := below_alloc w10 (.cells #[.int .i64 0, .int .i64 0, .int .i64 0, .int .i64 0, .int .i64 0, .int .i64 0, .int .i64 0, .int .i64 0, .int .i64 0, .int .i64 0, .slice none 0 0, .slice none 0 0, .int .i64 0, .int .i64 0, .slice none 0 0, .slice none 0 0, .slice none 0 0, .slice none 0 0, .slice none 0 0, .slice none 0 0, .slice none 0 0, .slice none 0 0, .slice none 0 0] 40)
                have Rz := Row.new w10 40 [.int .i64 0, .int .i64 0, .int .i64 0, .int .i64 0, .int .i64 0, .int .i64 0, .int .i64 0, .int .i64 0, .int .i64 0, .int .i64 0, .slice none 0 0, .slice none 0 0, .int .i64 0, .int .i64 0, .slice none 0 0, .slice none 0 0, .slice none 0 0, .slice none 0 0, .slice none 0 0, .slice none 0 0, .slice none 0 0, .slice none 0 0, .slice none 0 0]
                refine hK.out _ _ (HK.out _ (grown_trans G10 (grown_of_below Bz _) (.inl rfl))) (fun hHeld => ?_)
                clear hK K
                have Gz : w8.grownBy (w10.alloc (.cells #[.int .i64 0, .int .i64 0, .int .i64 0, .int .i64 0, .int .i64 0, .int .i64 0, .int .i64 0, .int .i64 0, .int .i64 0, .int .i64 0, .slice none 0 0, .slice none 0 0, .int .i64 0, .int .i64 0, .slice none 0 0, .slice none 0 0, .slice none 0 0, .slice none 0 0, .slice none 0 0, .slice none 0 0, .slice none 0 0, .slice none 0 0, .slice none 0 0] 40)) (some m) := grown_trans G10 (grown_of_below Bz _) (.inl rfl)
                have hs10 : w8.heap.size ≤ w10.heap.size := G10.size
                have hs9 : w8.heap.size ≤ w9.heap.size := G9.size
                have lz := (hl10.mv (G' := fun q => GE m u15 q ∧ q < w10.heap.size) rfl rfl (fun q hq hlt => ⟨rfl, hq, hlt⟩)).below Bz
                refine wpAnyH_ready (rs := [12]) (by kernel_rfl) (by simp) ?_
                refine AllReadyH.cons (o := _) rfl (fun K hK => ?_) AllReadyH.nil
                refine step_storeR rfl _ _ _ rfl (w10.heap.size) cs rfl rfl _ _ Rz hcl.symm (by rw [hcl]; kernel_rfl) hone ?_
                intro w11 R11 g11
                simp only [Act.put]
                have G11 : w8.grownBy w11 (some m) := grown_trans Gz g11 (.inr fun q hq => by have := Option.some.inj hq; omega)
                refine hK.out _ _ (HK.out _ G11) (fun hHeld => ?_)
                clear hK K
                refine wpAnyH_ready (rs := [13]) (by kernel_rfl) (by simp) ?_
                refine AllReadyH.cons (o := _) rfl (fun K hK => ?_) AllReadyH.nil
                go_simp
                refine hK.out _ _ (HK.out _ G11) (fun hHeld => ?_)
                clear hK K
                refine wpAnyH_done (by kernel_rfl) ?_ _
                have l11 : Lg (GE m u15) w11 b m (meetL LS (k, x, y, s, V.1) r V.2).1 := lz.box g11 (by have := hlg.lt.1; omega) (by have := hlg.lt.2; omega) (fun q hlt hq => ⟨Nat.ne_of_lt hq.2, hq.1⟩)
                have m11 := mid_mv (B' := w8.heap.size) (fun q hq hlt => ⟨(g11.block q (Nat.lt_of_lt_of_le hlt Bz.size) (fun e => Nat.ne_of_lt hlt (Option.some.inj e))).trans (Bz.block q hlt), Nat.le_trans hs9 hq⟩) (Nat.le_trans Bz.size g11.size) hmid
                go_wp2_with fail
                go_meet
                case rel => exact ⟨_, t, cs, rfl, rfl, R11, m11, l11, G11⟩
              · go_simp
                have Bz := below_alloc w9 (.cells #[.int .i64 0, .int .i64 0, .int .i64 0, .int .i64 0, .int .i64 0, .int .i64 0, .int .i64 0, .int .i64 0, .int .i64 0, .int .i64 0, .slice none 0 0, .slice none 0 0, .int .i64 0, .int .i64 0, .slice none 0 0, .slice none 0 0, .slice none 0 0, .slice none 0 0, .slice none 0 0, .slice none 0 0, .slice none 0 0, .slice none 0 0, .slice none 0 0] 40)
                have Rz := Row.new w9 40 [.int .i64 0, .int .i64 0, .int .i64 0, .int .i64 0, .int .i64 0, .int .i64 0, .int .i64 0, .int .i64 0, .int .i64 0, .int .i64 0, .slice none 0 0, .slice none 0 0, .int .i64 0, .int .i64 0, .slice none 0 0, .slice none 0 0, .slice none 0 0, .slice none 0 0, .slice none 0 0, .slice none 0 0, .slice none 0 0, .slice none 0 0, .slice none 0 0]
                obtain ⟨wz, hwz⟩ : ∃ wz, wz = w9.alloc (.cells #[.int .i64 0, .int .i64 0, .int .i64 0, .int .i64 0, .int .i64 0, .int .i64 0, .int .i64 0, .int .i64 0, .int .i64 0, .int .i64 0, .slice none 0 0, .slice none 0 0, .int .i64 0, .int .i64 0, .slice none 0 0, .slice none 0 0, .slice none 0 0, .slice none 0 0, .slice none 0 0, .slice none 0 0, .slice none 0 0, .slice none 0 0, .slice none 0 0] 40) := ⟨_, rfl⟩
                rw [← hwz] at Bz Rz ⊢
                have sz : wz.heap.size = w9.heap.size + 1 := by rw [hwz]; simp
                clear hwz
                have Gz : w8.grownBy wz (some m) := grown_trans G9 (grown_of_below Bz _) (.inl rfl)
                have hs9 : w8.heap.size ≤ w9.heap.size := G9.size
                refine hK.out _ _ (HK.out _ Gz) (fun hHeld => ?_)
                clear hK K
                refine wpAnyH_ready (rs := [7]) (by kernel_rfl) (by simp) ?_
                refine AllReadyH.cons (o := _) rfl (fun K hK => ?_) AllReadyH.nil
                have tt : Mv (GE m u15) (fun q => GE m u15 q ∧ q < w9.heap.size) w9 w9 := fun q hq hlt => ⟨rfl, hq, hlt⟩
                have hM := meetG_any wz b m LS (((hlg.below B9).mv rfl rfl tt).below Bz) (fun q hq => hq.1.1) k x y s V.1 (.agg #[.int .i64 r.1, .int .i64 r.2.1, .slice ao4 r.2.2.1.length co4, .slice ap4 r.2.2.2.length cp4, .slice a9 V.2.length c9, .bool false]) r V.2 ⟨_, _, _, rfl, ((hI8.o.mv (Mv.belowG B9)).mv tt).mv (Mv.belowG Bz), ((hI8.p.mv (Mv.belowG B9)).mv tt).mv (Mv.belowG Bz), (F9.mv tt).mv (Mv.belowG Bz)⟩ hr hVs
                simp only [kv] at hM
                go_simp
                refine hM.mono ?_
                intro e w10 hM
                obtain ⟨cs, t, rfl, hcl, hone, mz, lz, g10⟩ := hM.uni
                have G10 : w8.grownBy w10 (some m) := grown_trans Gz g10 (.inl rfl)
                have Rz := Rz.grown g10 (fun e => by have := Option.some.inj e; omega)
                try go_simp
                refine hK.out _ _ (HK.out _ G10) (fun hHeld => ?_)
                clear hK K
                refine wpAnyH_take (i := 8) (v := (.tuple #[.agg cs.toArray, .bool t])) rfl (by kernel_rfl) (by kernel_rfl) (by kernel_rfl) (fun _ _ _ h => h) (Or.inl ⟨by rfl, fun u hSu => by (try dsimp only at hSu); go_simp⟩) (by assumption) ?_
                simp only [Act.put, List.setIfInBounds_toArray, List.set_cons_zero, List.set_cons_succ]
                refine wpAnyH_take (i := 9) (v := (.agg cs.toArray)) rfl (by kernel_rfl) (by kernel_rfl) (by kernel_rfl) (fun _ _ _ h => h) (Or.inl ⟨by rfl, fun u hSu => by (try dsimp only at hSu); go_simp⟩) (by assumption) ?_
                simp only [Act.put, List.setIfInBounds_toArray, List.set_cons_zero, List.set_cons_succ]
                refine wpAnyH_take (i := 10) (v := (.bool t)) rfl (by kernel_rfl) (by kernel_rfl) (by kernel_rfl) (fun _ _ _ h => h) (Or.inl ⟨by rfl, fun u hSu => by (try dsimp only at hSu); go_simp⟩) (by assumption) ?_
                simp only [Act.put, List.setIfInBounds_toArray, List.set_cons_zero, List.set_cons_succ]
                refine wpAnyH_ready (rs := [12]) (by kernel_rfl) (by simp) ?_
                refine AllReadyH.cons (o := _) rfl (fun K hK => ?_) AllReadyH.nil
                refine step_storeR rfl _ _ _ rfl (w9.heap.size) cs rfl rfl _ _ Rz hcl.symm (by rw [hcl]; kernel_rfl) hone ?_
                intro w11 R11 g11
                simp only [Act.put]
                have G11 : w8.grownBy w11 (some m) := grown_trans G10 g11 (.inr fun q hq => by have := Option.some.inj hq; omega)
                refine hK.out _ _ (HK.out _ G11) (fun hHeld => ?_)
                clear hK K
                refine wpAnyH_ready (rs := [13]) (by kernel_rfl) (by simp) ?_
                refine AllReadyH.cons (o := _) rfl (fun K hK => ?_) AllReadyH.nil
                go_simp
                refine hK.out _ _ (HK.out _ G11) (fun hHeld => ?_)
                clear hK K
                refine wpAnyH_done (by kernel_rfl) ?_ _
                have l11 : Lg (GE m u15) w11 b m (meetL LS (k, x, y, s, V.1) r V.2).1 := lz.box g11 (by have := hlg.lt.1; omega) (by have := hlg.lt.2; omega) (fun q hlt hq => ⟨Nat.ne_of_lt hq.2, hq.1⟩)
                have m11 := mid_mv (B' := w8.heap.size) (mv_boxF (B := wz.heap.size) g11 (.inl (by omega)) (by omega)) g11.size mz
                go_wp2_with fail
                go_meet
                case rel => exact ⟨_, t, cs, rfl, rfl, R11, m11, l11, G11⟩
            · go_simp
              have Bz := below_alloc w8.drew (.cells #[.int .i64 0, .int .i64 0, .int .i64 0, .int .i64 0, .int .i64 0, .int .i64 0, .int .i64 0, .int .i64 0, .int .i64 0, .int .i64 0, .slice none 0 0, .slice none 0 0, .int .i64 0, .int .i64 0, .slice none 0 0, .slice none 0 0, .slice none 0 0, .slice none 0 0, .slice none 0 0, .slice none 0 0, .slice none 0 0, .slice none 0 0, .slice none 0 0] 40)
              have Rz : Row _ w8.heap.size 40 [.int .i64 0, .int .i64 0, .int .i64 0, .int .i64 0, .int .i64 0, .int .i64 0, .int .i64 0, .int .i64 0, .int .i64 0, .int .i64 0, .slice none 0 0, .slice none 0 0, .int .i64 0, .int .i64 0, .slice none 0 0, .slice none 0 0, .slice none 0 0, .slice none 0 0, .slice none 0 0, .slice none 0 0, .slice none 0 0, .slice none 0 0, .slice none 0 0] := Row.new w8.drew 40 [.int .i64 0, .int .i64 0, .int .i64 0, .int .i64 0, .int .i64 0, .int .i64 0, .int .i64 0, .int .i64 0, .int .i64 0, .int .i64 0, .slice none 0 0, .slice none 0 0, .int .i64 0, .int .i64 0, .slice none 0 0, .slice none 0 0, .slice none 0 0, .slice none 0 0, .slice none 0 0, .slice none 0 0, .slice none 0 0, .slice none 0 0, .slice none 0 0]
              obtain ⟨wz, hwz⟩ : ∃ wz, wz = w8.drew.alloc (.cells #[.int .i64 0, .int .i64 0, .int .i64 0, .int .i64 0, .int .i64 0, .int .i64 0, .int .i64 0, .int .i64 0, .int .i64 0, .int .i64 0, .slice none 0 0, .slice none 0 0, .int .i64 0, .int .i64 0, .slice none 0 0, .slice none 0 0, .slice none 0 0, .slice none 0 0, .slice none 0 0, .slice none 0 0, .slice none 0 0, .slice none 0 0, .slice none 0 0] 40) := ⟨_, rfl⟩
              have hwz' : wz = (w8.alloc (.cells #[.int .i64 0, .int .i64 0, .int .i64 0, .int .i64 0, .int .i64 0, .int .i64 0, .int .i64 0, .int .i64 0, .int .i64 0, .int .i64 0, .slice none 0 0, .slice none 0 0, .int .i64 0, .int .i64 0, .slice none 0 0, .slice none 0 0, .slice none 0 0, .slice none 0 0, .slice none 0 0, .slice none 0 0, .slice none 0 0, .slice none 0 0, .slice none 0 0] 40)).drew := hwz
              have sz : wz.heap.size = w8.heap.size + 1 := by rw [hwz]; simp
              rw [← hwz] at Bz Rz
              have Bz : Below w8.heap.size w8 wz := hdw.trans Bz
              first
                | rw [← hwz]
                | rw [← hwz']
              clear hwz hwz'
              have Gz : w8.grownBy wz (some m) := grown_of_below Bz _
              refine hK.out _ _ (HK.out _ Gz) (fun hHeld => ?_)
              clear hK K
              refine wpAnyH_ready (rs := [5]) (by kernel_rfl) (by simp) ?_
              refine AllReadyH.cons (o := _) rfl (fun K hK => ?_) AllReadyH.nil
              go_simp
              refine (clone_any wz _ _ (s8.mv (Mv.belowG Bz)).1 (Nat.le_trans hVs (by decide))).mono ?_
              rintro e w9 ⟨v9, rfl, f9, b9⟩
              obtain ⟨a9, c9, rfl, _⟩ := f9.form
              have B9 := below_and Bz (Nat.le_refl _) b9
              have G9 : w8.grownBy w9 (some m) := grown_of_below B9 _
              have Rz := Rz.below b9
              have hs9 := b9.size
              try go_simp
              refine hK.out _ _ (HK.out _ G9) (fun hHeld => ?_)
              clear hK K
              refine wpAnyH_take (i := 6) (v := (.agg #[.int .i64 r.1, .int .i64 r.2.1, .slice ao4 r.2.2.1.length co4, .slice ap4 r.2.2.2.length cp4, .slice a9 V.2.length c9, .bool false])) rfl (by kernel_rfl) (by kernel_rfl) (by kernel_rfl) (fun _ _ _ h => h) (Or.inl ⟨by rfl, fun u hSu => by (try dsimp only at hSu); go_simp⟩) (by assumption) ?_
              simp only [Act.put, List.setIfInBounds_toArray, List.set_cons_zero, List.set_cons_succ]
              refine wpAnyH_ready (rs := [7]) (by kernel_rfl) (by simp) ?_
              refine AllReadyH.cons (o := _) rfl (fun K hK => ?_) AllReadyH.nil
              have tt : Mv (GE m u15) (fun q => GE m u15 q ∧ q ≠ w8.heap.size) w8 w8 := fun q hq hlt => ⟨rfl, hq, Nat.ne_of_lt hlt⟩
              have F9 := f9.mv (G' := fun q => GE m u15 q ∧ q ≠ w8.heap.size) (w' := w9) (fun q hq _ => by unfold From at hq; exact ⟨rfl, ⟨by omega, fun e => by have := hev8 q e; omega⟩, by omega⟩)
              have hM := meetG_any w9 b m LS ((hlg.mv rfl rfl tt).below B9) (fun q hq => hq.1.1) k x y s V.1 (.agg #[.int .i64 r.1, .int .i64 r.2.1, .slice ao4 r.2.2.1.length co4, .slice ap4 r.2.2.2.length cp4, .slice a9 V.2.length c9, .bool false]) r V.2 ⟨_, _, _, rfl, (hI8.o.mv tt).mv (Mv.belowG B9), (hI8.p.mv tt).mv (Mv.belowG B9), F9⟩ hr hVs
              simp only [kv] at hM
              go_simp
              refine hM.mono ?_
              intro e w10 hM
              obtain ⟨cs, t, rfl, hcl, hone, mz, lz, g10⟩ := hM.uni
              have G10 : w8.grownBy w10 (some m) := grown_trans G9 g10 (.inl rfl)
              have Rz := Rz.grown g10 (fun e => by have := Option.some.inj e; omega)
              try go_simp
              refine hK.out _ _ (HK.out _ G10) (fun hHeld => ?_)
              clear hK K
              refine wpAnyH_take (i := 8) (v := (.tuple #[.agg cs.toArray, .bool t])) rfl (by kernel_rfl) (by kernel_rfl) (by kernel_rfl) (fun _ _ _ h => h) (Or.inl ⟨by rfl, fun u hSu => by (try dsimp only at hSu); go_simp⟩) (by assumption) ?_
              simp only [Act.put, List.setIfInBounds_toArray, List.set_cons_zero, List.set_cons_succ]
              refine wpAnyH_take (i := 9) (v := (.agg cs.toArray)) rfl (by kernel_rfl) (by kernel_rfl) (by kernel_rfl) (fun _ _ _ h => h) (Or.inl ⟨by rfl, fun u hSu => by (try dsimp only at hSu); go_simp⟩) (by assumption) ?_
              simp only [Act.put, List.setIfInBounds_toArray, List.set_cons_zero, List.set_cons_succ]
              refine wpAnyH_take (i := 10) (v := (.bool t)) rfl (by kernel_rfl) (by kernel_rfl) (by kernel_rfl) (fun _ _ _ h => h) (Or.inl ⟨by rfl, fun u hSu => by (try dsimp only at hSu); go_simp⟩) (by assumption) ?_
              simp only [Act.put, List.setIfInBounds_toArray, List.set_cons_zero, List.set_cons_succ]
              refine wpAnyH_ready (rs := [12]) (by kernel_rfl) (by simp) ?_
              refine AllReadyH.cons (o := _) rfl (fun K hK => ?_) AllReadyH.nil
              refine step_storeR rfl _ _ _ rfl (w8.heap.size) cs rfl rfl _ _ Rz hcl.symm (by rw [hcl]; kernel_rfl) hone ?_
              intro w11 R11 g11
              simp only [Act.put]
              have G11 : w8.grownBy w11 (some m) := grown_trans G10 g11 (.inr fun q hq => by have := Option.some.inj hq; omega)
              refine hK.out _ _ (HK.out _ G11) (fun hHeld => ?_)
              clear hK K
              refine wpAnyH_ready (rs := [13]) (by kernel_rfl) (by simp) ?_
              refine AllReadyH.cons (o := _) rfl (fun K hK => ?_) AllReadyH.nil
              go_simp
              refine hK.out _ _ (HK.out _ G11) (fun hHeld => ?_)
              clear hK K
              refine wpAnyH_done (by kernel_rfl) ?_ _
              have l11 : Lg (GE m u15) w11 b m (meetL LS (k, x, y, s, V.1) r V.2).1 := lz.box g11 (by have := hlg.lt.1; omega) (by have := hlg.lt.2; omega) (fun q hlt hq => ⟨hq.2, hq.1⟩)
              have m11 := mid_mv (B' := w8.heap.size) (mv_boxF (B := w9.heap.size) g11 (.inl (by omega)) (by omega)) g11.size mz
              go_wp2_with fail
              go_meet
              case rel => exact ⟨_, t, cs, rfl, rfl, R11, m11, l11, G11⟩
          case rest =>
            clear HK hdw gd
            obtain ⟨cB, t, cs, rfl, rfl, Rx, hmid, lx, gx⟩ := hcut
            rcases hmid with ⟨h0, rfl⟩ | ⟨M, sM, h1, rfl, rfl, hS⟩
            · go_wp2_with fail
              go_roundw
              case rel => exact ⟨j + 1, _, by omega, by go_num, rfl, hI8.meet0 hm HV.out hy (by rw [← hLS]; exact h0) gx (by rw [← hLS]; exact lx)⟩
              case measure => simp [intOf]; omega
            · have hlb := hI8.lb.grown mov_ms gx hm
              have Rx : Row wc cB 40 [.int .i64 M.kind, .int .i64 M.bal.1, .int .i64 M.bal.2, .int .i64 M.slot, .int .i64 M.frm, .int .i64 M.to, .int .i64 M.idx, .int .i64 M.cnt, .int .i64 M.req.1, .int .i64 M.req.2.1, sM.o, sM.g, .int .i64 M.oth.1, .int .i64 M.oth.2.1, sM.o', sM.g', sM.d, sM.s, sM.c, sM.v, sM.n, sM.p, sM.l] := Rx
              have hone := hS.one
              have hsC := hI8.gr.size
              have hsD := gx.size
              go_wp2_with (first
                | (refine wl_load rfl _ _ rfl cB rfl _ _ Rx _ Tryz.underlying40 rfl (by kernel_rfl) ?_)
                | (refine wl_pushS mov_ms rfl _ _ _ rfl 40 23 360 _ Tryz.underlying49 Tryz.inf_msg (by rfl) (by decide) w.heap.size u15 _ rfl hlb [.int .i64 M.kind, .int .i64 M.bal.1, .int .i64 M.bal.2, .int .i64 M.slot, .int .i64 M.frm, .int .i64 M.to, .int .i64 M.idx, .int .i64 M.cnt, .int .i64 M.req.1, .int .i64 M.req.2.1, sM.o, sM.g, .int .i64 M.oth.1, .int .i64 M.oth.2.1, sM.o', sM.g', sM.d, sM.s, sM.c, sM.v, sM.n, sM.p, sM.l] M w8.heap.size ⟨sM, rfl, hS⟩ rfl hone hsC hev8 rfl (Nat.le_trans hsC hsD) (by have := HNL.out j; omega) (by decide) ?_; intro v' wy hL' g' hsp))
              go_roundw
              case rel => exact ⟨j + 1, _, by omega, by go_num, rfl, hI8.meet1 hp hm hb HV.out hy (by rw [← hLS]; exact h1) gx (by rw [← hLS]; exact lx) hL' g' hsp⟩
              case measure => simp [intOf]; omega
      · have hjv : j = vs.length := by omega
        have hd : decide ((j : Int) < (vs.length : Int)) = false := by simp; omega
        have hlg := hI.lg
        have hlb := hI.lb
        rw [hjv, List.take_length] at hlg hlb
        have hgr := hI.gr
        clear hI
        go_wp2_with fail
        go_ret
        exact ⟨_, rfl, hlb.rl mov_ms, hlg.mv rfl rfl (fun q hq _ => ⟨rfl, hq.1⟩), hgr⟩
  · have hD : noteL ls k x y s r vs = (ls, []) := by unfold noteL; rw [if_neg hk]
    have h2 : (k != 2) = true := by simp; omega
    have h3 : (k != 3) = true := by simp; omega
    rw [hD]
    clear hk hD
    go_enter Tryz.func33, Tryz.ntmps33
    go_upto_region 1 with fail
    rw [← hw]
    clear hw
    go_wp2_with fail
    go_ret
    exact ⟨_, rfl, RL.nil _ _ _ _, h.below B, grown_of_below B _⟩
end Go.Proofs.YtgjepofinpmcpaaGreatDoor
