/- Evidences of two votes are proofs; proofAlive. -/
import Derived.Test.YtgjepofinpmcpaaGreatDoorCBU
import Derived.Test.YtgjepofinpmcpaaGreatDoorCAQ
import Derived.Test.YtgjepofinpmcpaaGreatDoorCBF
import Derived.Test.YtgjepofinpmcpaaGreatDoorCBT
section
set_option linter.unusedVariables false
set_option linter.unusedSimpArgs false
namespace Go.Proofs.YtgjepofinpmcpaaGreatDoor
open Go.RowKit Oct Kvl

theorem one5i {a b c d e : Int} : ∀ v ∈ [Value.int .i64 a, Value.int .i64 b, Value.int .i64 c, Value.int .i64 d, Value.int .i64 e], v.oneCell' = true := by
  intro v hv
  simp only [List.mem_cons, List.not_mem_nil, or_false] at hv
  rcases hv with rfl | rfl | rfl | rfl | rfl <;> rfl
/-- What Note answers. -/
def NtP (w : World) (b m : Nat) (D : List PSn × List PMsg) (e : Ending) (w' : World) : Prop :=
  ∃ v', e = .returned v' ∧ RL RMs 23 (From w.heap.size) w' v' D.2 ∧ Lg (NM m) w' b m D.1 ∧ w.grownBy w' (some m)

set_option maxRecDepth 10000 in
set_option maxHeartbeats 4000000 in
theorem noteG_any (w : World) (b m : Nat) (ls : List PSn) (h : Lg (NM m) w b m ls) (k x y s : Int) (rc : List Value) (r : PReq) (hrq : RReq (NM m) w rc r) (hr : tot [r.2.2.1, r.2.2.2] ≤ 2000000) (vv : Value) (vs : List PVote) (hvs : RL RVote 2 (NM m) w vv vs)
    (hsz : ∀ v ∈ vs, szT v.2) (hl : vs.length ≤ 10000000) (hT : Tab w) :
    Calls Tryz.prog 33 #[.pointer (some ⟨b, 0, none⟩), .int .i64 k, .agg #[.int .i64 x, .int .i64 y], .int .i64 s, .agg rc.toArray, vv] w fun e w' => NtP w b m (noteL ls k x y s r vs) e w' := by
  obtain ⟨o, p, rfl, t1, t2⟩ := hrq
  obtain ⟨ao, co, rfl, _⟩ := t1.form
  obtain ⟨ap, cp, rfl, _⟩ := t2.form
  obtain ⟨av, cv, rfl, hcv⟩ := hvs.form
  obtain ⟨w1, hw1⟩ : ∃ w1, w1 = w.alloc (.cells #[.int .i64 x, .int .i64 y] 32) := ⟨_, rfl⟩
  obtain ⟨w2, hw2⟩ : ∃ w2, w2 = w1.alloc (.cells #[.int .i64 r.1, .int .i64 r.2.1, .slice ao r.2.2.1.length co, .slice ap r.2.2.2.length cp] 34) := ⟨_, rfl⟩
  have e1 : w1.heap.size = w.heap.size + 1 := by rw [hw1]; simp
  have e2 : w2.heap.size = w.heap.size + 2 := by rw [hw2]; simp [e1]
  have B1 : Below w.heap.size w w1 := by rw [hw1]; exact below_alloc _ _
  have B2 : Below w1.heap.size w1 w2 := by rw [hw2]; exact below_alloc _ _
  have R1 : Row w1 w.heap.size 32 [.int .i64 x, .int .i64 y] := by rw [hw1]; exact Row.new _ _ _
  have R2 : Row w2 (w.heap.size + 1) 34 [.int .i64 r.1, .int .i64 r.2.1, .slice ao r.2.2.1.length co, .slice ap r.2.2.2.length cp] := by rw [hw2, ← e1]; exact Row.new _ _ _
  have R1 := R1.below B2
  have B : Below w.heap.size w w2 := below_and B1 (Nat.le_refl _) B2
  have hw : w2 = (w.alloc (.cells #[.int .i64 x, .int .i64 y] 32)).alloc (.cells #[.int .i64 r.1, .int .i64 r.2.1, .slice ao r.2.2.1.length co, .slice ap r.2.2.2.length cp] 34) := by rw [hw2, hw1]
  clear hw1 hw2 e1 B1 B2
  have hm := h.lt.2
  have hb := h.lt.1
  have HNL := (show Hid (∀ j, (noteV ls k x y s r (vs.take j)).2.length ≤ 10000000) from fun j => Nat.le_trans (noteV_len h.ok k x y s hr (fun v hv => hsz v (List.mem_of_mem_take hv))) (by rw [List.length_take]; omega))
  by_cases hk : k = 2 ∨ k = 3
  · have hD : noteL ls k x y s r vs = noteV ls k x y s r vs := by unfold noteL; rw [if_pos hk]
    rw [hD]
    go_enter Tryz.func33, Tryz.ntmps33
    go_upto_region 1 with fail
    rw [← hw]
    clear hw
    try go_simp
    go_cut [26] from 21 (fun s26 wx => s26 = .bool false ∧ wx = w2)
    case first =>
      rcases hk with rfl | rfl
      all_goals (
        go_wp2_with fail
        go_meet
        case rel => exact ⟨rfl, rfl⟩)
    case rest =>
    obtain ⟨rfl, hcw⟩ := hcut
    rw [hcw]
    clear hcw hD
    have hB := body_any w2 [.int .i64 r.1, .int .i64 r.2.1, .slice ao r.2.2.1.length co, .slice ap r.2.2.2.length cp] r ⟨_, _, rfl, (t1.mv (Mv.belowG B)).mv Mv.any, (t2.mv (Mv.belowG B)).mv Mv.any⟩ (Nat.le_trans hr (by decide))
    go_upto_region 4 with (first
      | (refine wl_load rfl _ _ rfl (w.heap.size + 1) rfl _ _ R2 _ Tryz.underlying34 rfl (by kernel_rfl) ?_)
      | (go_at_call 21; refine hB.mono ?_; rintro e w3 ⟨vb, rfl, ob, fb, b3⟩))
    have B3 := below_and B (Nat.le_refl _) b3
    have R13 := R1.below b3
    have R23 := R2.below b3
    have bb : Byt (body r) := body_byt t1.1.1 t2.1.1 hr
    obtain ⟨ab, cb, rfl, _⟩ := (ob.rd bb).form
    have Rb : RT (fun j => j ≠ m ∧ w.heap.size ≤ j) w3 (.slice ab (body r).length cb) (body r) := ⟨ob.rd bb, fun _ j hj => ⟨by have := fb j hj; omega, by have := fb j hj; omega⟩⟩
    clear hB R1 R2 ob fb b3
    have hC := cloneReqS_any w3 [.int .i64 r.1, .int .i64 r.2.1, .slice ao r.2.2.1.length co, .slice ap r.2.2.2.length cp] r ⟨_, _, rfl, (t1.mv (Mv.belowG B3)).mv Mv.any, (t2.mv (Mv.belowG B3)).mv Mv.any⟩ (szQ_of hr)
    go_upto_region 5 with (first
      | (refine wl_load rfl _ _ rfl (w.heap.size + 1) rfl _ _ R23 _ Tryz.underlying34 rfl (by kernel_rfl) ?_)
      | (go_at_call 61; refine hC.mono ?_; rintro e w4 ⟨r4, rfl, ⟨o4, p4, rfl, f1, f2⟩, b4⟩; obtain ⟨ao4, co4, rfl, _⟩ := f1.form; obtain ⟨ap4, cp4, rfl, _⟩ := f2.form))
    obtain ⟨w5, hw5⟩ : ∃ w5, w5 = w4.alloc (.cells #[.int .i64 r.1, .int .i64 r.2.1, .slice ao4 r.2.2.1.length co4, .slice ap4 r.2.2.2.length cp4] 34) := ⟨_, rfl⟩
    rw [← hw5]
    have b5 : Below w4.heap.size w4 w5 := by rw [hw5]; exact below_alloc _ _
    have R5 : Row w5 w4.heap.size 34 [.int .i64 r.1, .int .i64 r.2.1, .slice ao4 r.2.2.1.length co4, .slice ap4 r.2.2.2.length cp4] := by rw [hw5]; exact Row.new _ _ _
    have b45 := below_and b4 (Nat.le_refl _) b5
    have B5 := below_and B3 (Nat.le_refl _) b45
    have z3 := B3.size
    have z4 := b4.size
    have hI0 : NI w b m w4.heap.size ls k x y s r vs (.slice ab (body r).length cb) (.slice av vs.length cv) (.slice ao4 r.2.2.1.length co4) (.slice ap4 r.2.2.2.length cp4) 0 (.slice none 0 0) w5 :=
      ⟨(h.mv (G' := GE m (.slice none 0 0)) rfl rfl (fun j hj hlt => ⟨rfl, hj, by simp [Value.ownBlock]⟩)).below B5, LB.nil _ _ _ _ _, R5, R13.below b45,
        (f1.mv (Mv.belowG b5)).mv (fun j hj _ => ⟨rfl, by unfold From at hj; omega, by simp [Value.ownBlock]⟩), (f2.mv (Mv.belowG b5)).mv (fun j hj _ => ⟨rfl, by unfold From at hj; omega, by simp [Value.ownBlock]⟩),
        (Rb.mv (Mv.belowG b45)).mv (fun j hj _ => ⟨rfl, hj.1, by simp [Value.ownBlock]⟩), (hvs.mv mov_vote B5.size (Mv.belowG B5)).mv mov_vote (Nat.le_refl _) (fun j hj _ => ⟨rfl, hj, by simp [Value.ownBlock]⟩), grown_of_below B5 _, hT.below B5⟩
    have hp := hT.pos
    have HBL := (show Hid ((body r).length ≤ 3000000) from body_len hr)
    clear hw5 b5 R5 b45 B5 z3 z4 f1 f2 Rb b4 R13 R23 B3 hC B t1 t2 hvs h hk
    generalize w4.heap.size = c5 at *
    have hI0 := (show Hid (∀ bl, bl = (body r).length → NI w b m c5 ls k x y s r vs (.slice ab bl cb) (.slice av vs.length cv) (.slice ao4 r.2.2.1.length co4) (.slice ap4 r.2.2.2.length cp4) 0 (.slice none 0 0) w5) from fun bl e => by rw [e]; exact hI0)
    obtain ⟨bl, hbl⟩ : ∃ bl, bl = (body r).length := ⟨_, rfl⟩
    have hI0 := hI0.out bl hbl
    rw [← hbl]
    clear hbl
    have hln : (vs.length : Int) ≤ 10000000 := by omega
    go_wp2_with fail
    go_loopw [15, 33] (fun s15 i wr => ∃ (j : Nat) (ev : Value), j ≤ vs.length ∧ i = .int .i64 j ∧ ev = s15 ∧ NI w b m c5 ls k x y s r vs (.slice ab bl cb) (.slice av vs.length cv) (.slice ao4 r.2.2.1.length co4) (.slice ap4 r.2.2.2.length cp4) j ev wr) (fun _ i _ => vs.length - (intOf i).toNat)
    case atStart => exact ⟨0, _, by omega, rfl, rfl, hI0⟩
    case round =>
      clear hI0
      obtain ⟨j, u15, hj, rfl, rfl, hI⟩ := hrel
      by_cases hjn : j < vs.length
      · have hd : decide ((j : Int) < (vs.length : Int)) = true := by simp; omega
        obtain ⟨V, hV⟩ : ∃ V, vs[j]? = some V := ⟨_, List.getElem?_eq_getElem hjn⟩
        obtain ⟨vb1, off, c1, hv1, hc1, hm1, hvb, hvlt, hat⟩ := hI.vt.at (by omega)
        injection hv1 with ea eb ec
        clear eb
        subst ea ec
        obtain ⟨rw1, _, hrng, sg, rfl, hsg⟩ := hat j V hV
        obtain ⟨ag, cg, rfl, hcg⟩ := hsg.form
        have hVs := hsz V (List.mem_of_getElem? hV)
        have hrow0 := Row.new wr 58 [.int .i64 0, .slice none 0 0]
        have HV := (show Hid (vs[j]? = some V) from hV)
        clear hat hV
        go_upto_region 9 with (first
          | (refine wpList_load_mid rfl _ _ rfl vb1 (off + j * 2) rfl [.int .i64 V.1, .slice ag V.2.length cg] _ hrng Tryz.underlying58 rfl (by kernel_rfl) ?_)
          | (refine wl_store rfl _ _ _ rfl wr.heap.size [.int .i64 V.1, .slice ag V.2.length cg] rfl rfl _ _ hrow0 rfl (by kernel_rfl) (one2 hsg.one) ?_; intro w6 R6 g6))
        have b6 : Below wr.heap.size wr w6 := (below_alloc wr (.cells ([.int .i64 0, .slice none 0 0] : List Value).toArray 58)).trans (grown_below g6 (by simp) (fun k hk => by cases hk; exact Nat.le_refl _))
        have R6 := R6.out
        have hI6 := hI.below b6
        have s6 := hsg.mv (Mv.belowG b6)
        have hgv : wr.heap.size < w6.heap.size := R6.lt
        have hlt6 : ∀ q, u15.ownBlock = some q → q < wr.heap.size := hI.lb.lt
        clear hI hrow0 hrng hsg g6 b6
        generalize wr.heap.size = g6 at *
        have hR := vRight_any w6 k x y s V.1 (.slice ab bl cb) (body r) hI6.bd.1 HBL.out (.slice ag V.2.length cg) V.2 s6.1 hI6.tab
        rw [show verL (repL V.1) V.2 (sL ⟨#[118, 111, 116, 101]⟩) [numsL [k, x, y, s], body r] = rgtV k x y s r V from rfl] at hR
        cases hy : rgtV k x y s r V with
        | false =>
          rw [hy] at hR
          go_wp2_with (first
            | (refine wl_load rfl _ _ rfl w.heap.size rfl _ _ hI6.bal _ Tryz.underlying32 rfl (by kernel_rfl) ?_)
            | (refine wl_load rfl _ _ rfl g6 rfl _ _ R6 _ Tryz.underlying58 rfl (by kernel_rfl) ?_)
            | (go_at_call 62; refine hR.mono ?_; rintro e w7 ⟨rfl, b7⟩))
          go_roundw
          case rel => exact ⟨j + 1, _, by omega, by go_num, rfl, (hI6.below b7).skip HV.out hy⟩
          case measure => simp [intOf]; omega
        | true =>
          rw [hy] at hR
          go_upto_region 10 with (first
            | (refine wl_load rfl _ _ rfl w.heap.size rfl _ _ hI6.bal _ Tryz.underlying32 rfl (by kernel_rfl) ?_)
            | (refine wl_load rfl _ _ rfl g6 rfl _ _ R6 _ Tryz.underlying58 rfl (by kernel_rfl) ?_)
            | (go_at_call 62; refine hR.mono ?_; rintro e w7 ⟨rfl, b7⟩))
          have hI7 := hI6.below b7
          have R7 := R6.below b7
          have s7 := s6.mv (Mv.belowG b7)
          have v0 := R7.cell (j := 0) rfl
          have hrow0 := Row.new w7 116 [.int .i64 0, .int .i64 0, .int .i64 0, .int .i64 0, .int .i64 0]
          clear hI6 R6 s6 hR
          have hgv := Nat.lt_of_lt_of_le hgv b7.size
          clear b7
          go_upto_region 11 with (first
            | (refine wl_load rfl _ _ rfl w.heap.size rfl _ _ hI7.bal _ Tryz.underlying32 rfl (by kernel_rfl) ?_)
            | (refine wl_store rfl _ _ _ rfl w7.heap.size [.int .i64 k, .int .i64 x, .int .i64 y, .int .i64 s, .int .i64 V.1] rfl rfl _ _ hrow0 rfl (by kernel_rfl) one5i ?_; intro w8 R8 g8))
          have b8 : Below w7.heap.size w7 w8 := (below_alloc w7 (.cells ([.int .i64 0, .int .i64 0, .int .i64 0, .int .i64 0, .int .i64 0] : List Value).toArray 116)).trans (grown_below g8 (by simp) (fun k hk => by cases hk; exact Nat.le_refl _))
          have R8 := R8.out
          have hI8 := hI7.below b8
          have V8 := R7.below b8
          have s8 := s7.mv (Mv.belowG b8)
          have hk8 : w7.heap.size < w8.heap.size := R8.lt
          clear hI7 R7 s7 v0 hrow0 g8 b8
          generalize w7.heap.size = k8 at *
          obtain ⟨LS, hLS⟩ : ∃ LS, LS = (noteV ls k x y s r (vs.take j)).1 := ⟨_, rfl⟩
          have hlg := hI8.lg
          rw [← hLS] at hlg
          have hmk := hlg.nrow R8
          have hmc := hlg.nrow hI8.own
          have hmg := hlg.nrow V8
          have HK := (show Hid (∀ u, w8.grownBy u (some m) → u.cell? ⟨k8, 0, none⟩ = some (.int .i64 k) ∧ u.cell? ⟨k8, 1, none⟩ = some (.int .i64 x) ∧ u.cell? ⟨k8, 2, none⟩ = some (.int .i64 y) ∧ u.cell? ⟨k8, 3, none⟩ = some (.int .i64 s) ∧ u.cell? ⟨k8, 4, none⟩ = some (.int .i64 V.1) ∧ u.cell? ⟨c5, 0, none⟩ = some (.int .i64 r.1) ∧ u.cell? ⟨c5, 1, none⟩ = some (.int .i64 r.2.1) ∧ u.cell? ⟨c5, 2, none⟩ = some (.slice ao4 r.2.2.1.length co4) ∧ u.cell? ⟨c5, 3, none⟩ = some (.slice ap4 r.2.2.2.length cp4) ∧ u.cell? ⟨g6, 1, none⟩ = some (.slice ag V.2.length cg)) from fun u hu => ⟨(R8.grown hu hmk).cell (j := 0) rfl, (R8.grown hu hmk).cell (j := 1) rfl, (R8.grown hu hmk).cell (j := 2) rfl, (R8.grown hu hmk).cell (j := 3) rfl, (R8.grown hu hmk).cell (j := 4) rfl, (hI8.own.grown hu hmc).cell (j := 0) rfl, (hI8.own.grown hu hmc).cell (j := 1) rfl, (hI8.own.grown hu hmc).cell (j := 2) rfl, (hI8.own.grown hu hmc).cell (j := 3) rfl, (V8.grown hu hmg).cell (j := 1) rfl⟩)
          have hm8 := hlg.lt.2
          have hev8 := hI8.lb.lt
          have hdw : Below w8.heap.size w8 w8.drew := ⟨rfl, rfl, rfl, Nat.le_refl _, fun _ _ => rfl⟩
          have gd : w8.grownBy w8.drew (some m) := grown_of_below hdw _
          try go_simp
          go_cut [19, 20] from 50 to 61 (fun s19 s20 wx => ∃ (cB : Nat) (t : Bool) (cs : List Value), s19 = .pointer (some ⟨cB, 0, none⟩) ∧ s20 = .bool t ∧ MdP m u15 w8 b LS (k, x, y, s, V.1) r V.2 cB t cs wx)
          case first =>
            refine wp_region_held_drew (S := fun u => u.cell? ⟨k8, 0, none⟩ = some (.int .i64 k) ∧ u.cell? ⟨k8, 1, none⟩ = some (.int .i64 x) ∧ u.cell? ⟨k8, 2, none⟩ = some (.int .i64 y) ∧ u.cell? ⟨k8, 3, none⟩ = some (.int .i64 s) ∧ u.cell? ⟨k8, 4, none⟩ = some (.int .i64 V.1) ∧ u.cell? ⟨c5, 0, none⟩ = some (.int .i64 r.1) ∧ u.cell? ⟨c5, 1, none⟩ = some (.int .i64 r.2.1) ∧ u.cell? ⟨c5, 2, none⟩ = some (.slice ao4 r.2.2.1.length co4) ∧ u.cell? ⟨c5, 3, none⟩ = some (.slice ap4 r.2.2.2.length cp4) ∧ u.cell? ⟨g6, 1, none⟩ = some (.slice ag V.2.length cg)) (by kernel_rfl) (HK.out _ gd) (fun hHeld => ?_)
            refine wpAnyH_take (i := 0) (v := (.pointer (some ⟨b, 0, none⟩))) rfl (by kernel_rfl) (by kernel_rfl) (by kernel_rfl) (fun _ _ _ h => h) (Or.inl ⟨by rfl, fun u hSu => by (try dsimp only at hSu); go_simp⟩) (by assumption) ?_
            simp only [Act.put, List.setIfInBounds_toArray, List.set_cons_zero, List.set_cons_succ]
            refine wpAnyH_take (i := 1) (v := (.agg #[.int .i64 k, .int .i64 x, .int .i64 y, .int .i64 s, .int .i64 V.1])) rfl (by kernel_rfl) (by kernel_rfl) (by kernel_rfl) (fun _ _ _ h => h) (Or.inl ⟨by rfl, fun u hSu => by (try dsimp only at hSu); go_simp⟩) (by assumption) ?_
            simp only [Act.put, List.setIfInBounds_toArray, List.set_cons_zero, List.set_cons_succ]
            refine wpAnyH_take (i := 2) (v := (.agg #[.int .i64 r.1, .int .i64 r.2.1, .slice ao4 r.2.2.1.length co4, .slice ap4 r.2.2.2.length cp4])) rfl (by kernel_rfl) (by kernel_rfl) (by kernel_rfl) (fun _ _ _ h => h) (Or.inl ⟨by rfl, fun u hSu => by (try dsimp only at hSu); go_simp⟩) (by assumption) ?_
            simp only [Act.put, List.setIfInBounds_toArray, List.set_cons_zero, List.set_cons_succ]
            refine wpAnyH_take (i := 3) (v := (.pointer (some ⟨g6, 1, none⟩))) rfl (by kernel_rfl) (by kernel_rfl) (by kernel_rfl) (fun _ _ _ h => h) (Or.inl ⟨by rfl, fun u hSu => by (try dsimp only at hSu); go_simp⟩) (by assumption) ?_
            simp only [Act.put, List.setIfInBounds_toArray, List.set_cons_zero, List.set_cons_succ]
            refine wpAnyH_take (i := 4) (v := (.slice ag V.2.length cg)) rfl (by kernel_rfl) (by kernel_rfl) (by kernel_rfl) (fun _ _ _ h => h) (Or.inl ⟨by rfl, fun u hSu => by (try dsimp only at hSu); go_simp⟩) (by assumption) ?_
            simp only [Act.put, List.setIfInBounds_toArray, List.set_cons_zero, List.set_cons_succ]
            refine wpAnyH_ready (rs := [5, 11]) (by kernel_rfl) (by simp) ?_
            refine AllReadyH.cons (o := _) rfl (fun K hK => ?_) (AllReadyH.cons (o := _) rfl (fun K hK => ?_) AllReadyH.nil)
            · go_simp
              refine (clone_any w8.drew _ _ s8.1 (Nat.le_trans hVs (by decide))).mono ?_
              rintro e w9 ⟨v9, rfl, f9, b9⟩
              obtain ⟨a9, c9, rfl, _⟩ := f9.form
              have B9 : Below w8.heap.size w8 w9 := hdw.trans b9
              have G9 : w8.grownBy w9 (some m) := grown_of_below B9 _
              have F9 := f9.mv (toGE hm8 hev8)
              try go_simp
              refine hK.out _ _ (HK.out _ G9) (fun hHeld => ?_)
              clear hK K
              refine wpAnyH_take (i := 6) (v := (.agg #[.int .i64 r.1, .int .i64 r.2.1, .slice ao4 r.2.2.1.length co4, .slice ap4 r.2.2.2.length cp4, .slice a9 V.2.length c9, .bool false])) rfl (by kernel_rfl) (by kernel_rfl) (by kernel_rfl) (fun _ _ _ h => h) (Or.inl ⟨by rfl, fun u hSu => by (try dsimp only at hSu); go_simp⟩) (by assumption) ?_
              simp only [Act.put, List.setIfInBounds_toArray, List.set_cons_zero, List.set_cons_succ]
              refine wpAnyH_ready (rs := [7, 11]) (by kernel_rfl) (by simp) ?_
              refine AllReadyH.cons (o := _) rfl (fun K hK => ?_) (AllReadyH.cons (o := _) rfl (fun K hK => ?_) AllReadyH.nil)
              · have hM := meetG_any w9 b m LS (hlg.below B9) ge_ne k x y s V.1 (.agg #[.int .i64 r.1, .int .i64 r.2.1, .slice ao4 r.2.2.1.length co4, .slice ap4 r.2.2.2.length cp4, .slice a9 V.2.length c9, .bool false]) r V.2 ⟨_, _, _, rfl, hI8.o.mv (Mv.belowG B9), hI8.p.mv (Mv.belowG B9), F9⟩ hr hVs
                simp only [kv] at hM
                go_simp
                refine hM.mono ?_
                intro e w10 hM
                obtain ⟨cs, t, rfl, hcl, hone, hmid, hl10, g10⟩ := hM.uni
                have G10 : w8.grownBy w10 (some m) := grown_trans G9 g10 (.inl rfl)
                try go_simp
                refine hK.out _ _ (HK.out _ G10) (fun hHeld => ?_)
                clear hK K
                refine wpAnyH_take (i := 8) (v := (.tuple #[.agg cs.toArray, .bool t])) rfl (by kernel_rfl) (by kernel_rfl) (by kernel_rfl) (fun _ _ _ h => h) (Or.inl ⟨by rfl, fun u hSu => by (try dsimp only at hSu); go_simp⟩) (by assumption) ?_
                simp only [Act.put, List.setIfInBounds_toArray, List.set_cons_zero, List.set_cons_succ]
                refine wpAnyH_take (i := 9) (v := (.agg cs.toArray)) rfl (by kernel_rfl) (by kernel_rfl) (by kernel_rfl) (fun _ _ _ h => h) (Or.inl ⟨by rfl, fun u hSu => by (try dsimp only at hSu); go_simp⟩) (by assumption) ?_
                simp only [Act.put, List.setIfInBounds_toArray, List.set_cons_zero, List.set_cons_succ]
                refine wpAnyH_take (i := 10) (v := (.bool t)) rfl (by kernel_rfl) (by kernel_rfl) (by kernel_rfl) (fun _ _ _ h => h) (Or.inl ⟨by rfl, fun u hSu => by (try dsimp only at hSu); go_simp⟩) (by assumption) ?_
                simp only [Act.put, List.setIfInBounds_toArray, List.set_cons_zero, List.set_cons_succ]
                refine wpAnyH_ready (rs := [11]) (by kernel_rfl) (by simp) ?_
                refine AllReadyH.cons (o := _) rfl (fun K hK => ?_) AllReadyH.nil
                go_simp
                have Bz := below_alloc w10 (.cells #[.int .i64 0, .int .i64 0, .int .i64 0, .int .i64 0, .int .i64 0, .int .i64 0, .int .i64 0, .int .i64 0, .int .i64 0, .int .i64 0, .slice none 0 0, .slice none 0 0, .int .i64 0, .int .i64 0, .slice none 0 0, .slice none 0 0, .slice none 0 0, .slice none 0 0, .slice none 0 0, .slice none 0 0, .slice none 0 0, .slice none 0 0, .slice none 0 0] 40)
                have Rz := Row.new w10 40 [.int .i64 0, .int .i64 0, .int .i64 0, .int .i64 0, .int .i64 0, .int .i64 0, .int .i64 0, .int .i64 0, .int .i64 0, .int .i64 0, .slice none 0 0, .slice none 0 0, .int .i64 0, .int .i64 0, .slice none 0 0, .slice none 0 0, .slice none 0 0, .slice none 0 0, .slice none 0 0, .slice none 0 0, .slice none 0 0, .slice none 0 0, .slice none 0 0]
                refine hK.out _ _ (HK.out _ (grown_trans G10 (grown_of_below Bz _) (.inl rfl))) (fun hHeld => ?_)
                clear hK K
                have Gz : w8.grownBy (w10.alloc (.cells #[.int .i64 0, .int .i64 0, .int .i64 0, .int .i64 0, .int .i64 0, .int .i64 0, .int .i64 0, .int .i64 0, .int .i64 0, .int .i64 0, .slice none 0 0, .slice none 0 0, .int .i64 0, .int .i64 0, .slice none 0 0, .slice none 0 0, .slice none 0 0, .slice none 0 0, .slice none 0 0, .slice none 0 0, .slice none 0 0, .slice none 0 0, .slice none 0 0] 40)) (some m) := grown_trans G10 (grown_of_below Bz _) (.inl rfl)
                have hs10 : w8.heap.size ≤ w10.heap.size := G10.size
                have hs9 : w8.heap.size ≤ w9.heap.size := G9.size
                have lz := (hl10.mv (G' := fun q => GE m u15 q ∧ q < w10.heap.size) rfl rfl (fun q hq hlt => ⟨rfl, hq, hlt⟩)).below Bz
                refine wpAnyH_ready (rs := [12]) (by kernel_rfl) (by simp) ?_
                refine AllReadyH.cons (o := _) rfl (fun K hK => ?_) AllReadyH.nil
                refine step_storeR rfl _ _ _ rfl (w10.heap.size) cs rfl rfl _ _ Rz hcl.symm (by rw [hcl]; kernel_rfl) hone ?_
                intro w11 R11 g11
                simp only [Act.put]
                have G11 : w8.grownBy w11 (some m) := grown_trans Gz g11 (.inr fun q hq => by have := Option.some.inj hq; omega)
                refine hK.out _ _ (HK.out _ G11) (fun hHeld => ?_)
                clear hK K
                refine wpAnyH_ready (rs := [13]) (by kernel_rfl) (by simp) ?_
                refine AllReadyH.cons (o := _) rfl (fun K hK => ?_) AllReadyH.nil
                go_simp
                refine hK.out _ _ (HK.out _ G11) (fun hHeld => ?_)
                clear hK K
                refine wpAnyH_done (by kernel_rfl) ?_ _
                have l11 : Lg (GE m u15) w11 b m (meetL LS (k, x, y, s, V.1) r V.2).1 := lz.box g11 (by have := hlg.lt.1; omega) (by have := hlg.lt.2; omega) (fun q hlt hq => ⟨Nat.ne_of_lt hq.2, hq.1⟩)
                have m11 := mid_mv (B' := w8.heap.size) (fun q hq hlt => ⟨(g11.block q (Nat.lt_of_lt_of_le hlt Bz.size) (fun e => Nat.ne_of_lt hlt (Option.some.inj e))).trans (Bz.block q hlt), Nat.le_trans hs9 hq⟩) (Nat.le_trans Bz.size g11.size) hmid
                go_wp2_with fail
                go_meet
                case rel => exact ⟨_, t, cs, rfl, rfl, R11, m11, l11, G11⟩
              · go_simp
                have Bz := below_alloc w9 (.cells #[.int .i64 0, .int .i64 0, .int .i64 0, .int .i64 0, .int .i64 0, .int .i64 0, .int .i64 0, .int .i64 0, .int .i64 0, .int .i64 0, .slice none 0 0, .slice none 0 0, .int .i64 0, .int .i64 0, .slice none 0 0, .slice none 0 0, .slice none 0 0, .slice none 0 0, .slice none 0 0, .slice none 0 0, .slice none 0 0, .slice none 0 0, .slice none 0 0] 40)
                have Rz := Row.new w9 40 [.int .i64 0, .int .i64 0, .int .i64 0, .int .i64 0, .int .i64 0, .int .i64 0, .int .i64 0, .int .i64 0, .int .i64 0, .int .i64 0, .slice none 0 0, .slice none 0 0, .int .i64 0, .int .i64 0, .slice none 0 0, .slice none 0 0, .slice none 0 0, .slice none 0 0, .slice none 0 0, .slice none 0 0, .slice none 0 0, .slice none 0 0, .slice none 0 0]
                obtain ⟨wz, hwz⟩ : ∃ wz, wz = w9.alloc (.cells #[.int .i64 0, .int .i64 0, .int .i64 0, .int .i64 0, .int .i64 0, .int .i64 0, .int .i64 0, .int .i64 0, .int .i64 0, .int .i64 0, .slice none 0 0, .slice none 0 0, .int .i64 0, .int .i64 0, .slice none 0 0, .slice none 0 0, .slice none 0 0, .slice none 0 0, .slice none 0 0, .slice none 0 0, .slice none 0 0, .slice none 0 0, .slice none 0 0] 40) := ⟨_, rfl⟩
                rw [← hwz] at Bz Rz ⊢
                have sz : wz.heap.size = w9.heap.size + 1 := by rw [hwz]; simp
                clear hwz
                have Gz : w8.grownBy wz (some m) := grown_trans G9 (grown_of_below Bz _) (.inl rfl)
                have hs9 : w8.heap.size ≤ w9.heap.size := G9.size
                refine hK.out _ _ (HK.out _ Gz) (fun hHeld => ?_)
                clear hK K
                refine wpAnyH_ready (rs := [7]) (by kernel_rfl) (by simp) ?_
                refine AllReadyH.cons (o := _) rfl (fun K hK => ?_) AllReadyH.nil
                have tt : Mv (GE m u15) (fun q => GE m u15 q ∧ q < w9.heap.size) w9 w9 := fun q hq hlt => ⟨rfl, hq, hlt⟩
                have hM := meetG_any wz b m LS (((hlg.below B9).mv rfl rfl tt).below Bz) (fun q hq => hq.1.1) k x y s V.1 (.agg #[.int .i64 r.1, .int .i64 r.2.1, .slice ao4 r.2.2.1.length co4, .slice ap4 r.2.2.2.length cp4, .slice a9 V.2.length c9, .bool false]) r V.2 ⟨_, _, _, rfl, ((hI8.o.mv (Mv.belowG B9)).mv tt).mv (Mv.belowG Bz), ((hI8.p.mv (Mv.belowG B9)).mv tt).mv (Mv.belowG Bz), (F9.mv tt).mv (Mv.belowG Bz)⟩ hr hVs
                simp only [kv] at hM
                go_simp
                refine hM.mono ?_
                intro e w10 hM
                obtain ⟨cs, t, rfl, hcl, hone, mz, lz, g10⟩ := hM.uni
                have G10 : w8.grownBy w10 (some m) := grown_trans Gz g10 (.inl rfl)
                have Rz := Rz.grown g10 (fun e => by have := Option.some.inj e; omega)
                try go_simp
                refine hK.out _ _ (HK.out _ G10) (fun hHeld => ?_)
                clear hK K
                refine wpAnyH_take (i := 8) (v := (.tuple #[.agg cs.toArray, .bool t])) rfl (by kernel_rfl) (by kernel_rfl) (by kernel_rfl) (fun _ _ _ h => h) (Or.inl ⟨by rfl, fun u hSu => by (try dsimp only at hSu); go_simp⟩) (by assumption) ?_
                simp only [Act.put, List.setIfInBounds_toArray, List.set_cons_zero, List.set_cons_succ]
                refine wpAnyH_take (i := 9) (v := (.agg cs.toArray)) rfl (by kernel_rfl) (by kernel_rfl) (by kernel_rfl) (fun _ _ _ h => h) (Or.inl ⟨by rfl, fun u hSu => by (try dsimp only at hSu); go_simp⟩) (by assumption) ?_
                simp only [Act.put, List.setIfInBounds_toArray, List.set_cons_zero, List.set_cons_succ]
                refine wpAnyH_take (i := 10) (v := (.bool t)) rfl (by kernel_rfl) (by kernel_rfl) (by kernel_rfl) (fun _ _ _ h => h) (Or.inl ⟨by rfl, fun u hSu => by (try dsimp only at hSu); go_simp⟩) (by assumption) ?_
                simp only [Act.put, List.setIfInBounds_toArray, List.set_cons_zero, List.set_cons_succ]
                refine wpAnyH_ready (rs := [12]) (by kernel_rfl) (by simp) ?_
                refine AllReadyH.cons (o := _) rfl (fun K hK => ?_) AllReadyH.nil
                refine step_storeR rfl _ _ _ rfl (w9.heap.size) cs rfl rfl _ _ Rz hcl.symm (by rw [hcl]; kernel_rfl) hone ?_
                intro w11 R11 g11
                simp only [Act.put]
                have G11 : w8.grownBy w11 (some m) := grown_trans G10 g11 (.inr fun q hq => by have := Option.some.inj hq; omega)
                refine hK.out _ _ (HK.out _ G11) (fun hHeld => ?_)
                clear hK K
                refine wpAnyH_ready (rs := [13]) (by kernel_rfl) (by simp) ?_
                refine AllReadyH.cons (o := _) rfl (fun K hK => ?_) AllReadyH.nil
                go_simp
                refine hK.out _ _ (HK.out _ G11) (fun hHeld => ?_)
                clear hK K
                refine wpAnyH_done (by kernel_rfl) ?_ _
                have l11 : Lg (GE m u15) w11 b m (meetL LS (k, x, y, s, V.1) r V.2).1 := lz.box g11 (by have := hlg.lt.1; omega) (by have := hlg.lt.2; omega) (fun q hlt hq => ⟨Nat.ne_of_lt hq.2, hq.1⟩)
                have m11 := mid_mv (B' := w8.heap.size) (mv_boxF (B := wz.heap.size) g11 (.inl (by omega)) (by omega)) g11.size mz
                go_wp2_with fail
                go_meet
                case rel => exact ⟨_, t, cs, rfl, rfl, R11, m11, l11, G11⟩
            · go_simp
              have Bz := below_alloc w8.drew (.cells #[.int .i64 0, .int .i64 0, .int .i64 0, .int .i64 0, .int .i64 0, .int .i64 0, .int .i64 0, .int .i64 0, .int .i64 0, .int .i64 0, .slice none 0 0, .slice none 0 0, .int .i64 0, .int .i64 0, .slice none 0 0, .slice none 0 0, .slice none 0 0, .slice none 0 0, .slice none 0 0, .slice none 0 0, .slice none 0 0, .slice none 0 0, .slice none 0 0] 40)
              have Rz : Row _ w8.heap.size 40 [.int .i64 0, .int .i64 0, .int .i64 0, .int .i64 0, .int .i64 0, .int .i64 0, .int .i64 0, .int .i64 0, .int .i64 0, .int .i64 0, .slice none 0 0, .slice none 0 0, .int .i64 0, .int .i64 0, .slice none 0 0, .slice none 0 0, .slice none 0 0, .slice none 0 0, .slice none 0 0, .slice none 0 0, .slice none 0 0, .slice none 0 0, .slice none 0 0] := Row.new w8.drew 40 [.int .i64 0, .int .i64 0, .int .i64 0, .int .i64 0, .int .i64 0, .int .i64 0, .int .i64 0, .int .i64 0, .int .i64 0, .int .i64 0, .slice none 0 0, .slice none 0 0, .int .i64 0, .int .i64 0, .slice none 0 0, .slice none 0 0, .slice none 0 0, .slice none 0 0, .slice none 0 0, .slice none 0 0, .slice none 0 0, .slice none 0 0, .slice none 0 0]
              obtain ⟨wz, hwz⟩ : ∃ wz, wz = w8.drew.alloc (.cells #[.int .i64 0, .int .i64 0, .int .i64 0, .int .i64 0, .int .i64 0, .int .i64 0, .int .i64 0, .int .i64 0, .int .i64 0, .int .i64 0, .slice none 0 0, .slice none 0 0, .int .i64 0, .int .i64 0, .slice none 0 0, .slice none 0 0, .slice none 0 0, .slice none 0 0, .slice none 0 0, .slice none 0 0, .slice none 0 0, .slice none 0 0, .slice none 0 0] 40) := ⟨_, rfl⟩
              have hwz' : wz = (w8.alloc (.cells #[.int .i64 0, .int .i64 0, .int .i64 0, .int .i64 0, .int .i64 0, .int .i64 0, .int .i64 0, .int .i64 0, .int .i64 0, .int .i64 0, .slice none 0 0, .slice none 0 0, .int .i64 0, .int .i64 0, .slice none 0 0, .slice none 0 0, .slice none 0 0, .slice none 0 0, .slice none 0 0, .slice none 0 0, .slice none 0 0, .slice none 0 0, .slice none 0 0] 40)).drew := hwz
              have sz : wz.heap.size = w8.heap.size + 1 := by rw [hwz]; simp
              rw [← hwz] at Bz Rz
              have Bz : Below w8.heap.size w8 wz := hdw.trans Bz
              first
                | rw [← hwz]
                | rw [← hwz']
              clear hwz hwz'
              have Gz : w8.grownBy wz (some m) := grown_of_below Bz _
              refine hK.out _ _ (HK.out _ Gz) (fun hHeld => ?_)
              clear hK K
              refine wpAnyH_ready (rs := [5]) (by kernel_rfl) (by simp) ?_
              refine AllReadyH.cons (o := _) rfl (fun K hK => ?_) AllReadyH.nil
              go_simp
              refine (clone_any wz _ _ (s8.mv (Mv.belowG Bz)).1 (Nat.le_trans hVs (by decide))).mono ?_
              rintro e w9 ⟨v9, rfl, f9, b9⟩
              obtain ⟨a9, c9, rfl, _⟩ := f9.form
              have B9 := below_and Bz (Nat.le_refl _) b9
              have G9 : w8.grownBy w9 (some m) := grown_of_below B9 _
              have Rz := Rz.below b9
              have hs9 := b9.size
              try go_simp
              refine hK.out _ _ (HK.out _ G9) (fun hHeld => ?_)
              clear hK K
              refine wpAnyH_take (i := 6) (v := (.agg #[.int .i64 r.1, .int .i64 r.2.1, .slice ao4 r.2.2.1.length co4, .slice ap4 r.2.2.2.length cp4, .slice a9 V.2.length c9, .bool false])) rfl (by kernel_rfl) (by kernel_rfl) (by kernel_rfl) (fun _ _ _ h => h) (Or.inl ⟨by rfl, fun u hSu => by (try dsimp only at hSu); go_simp⟩) (by assumption) ?_
              simp only [Act.put, List.setIfInBounds_toArray, List.set_cons_zero, List.set_cons_succ]
              refine wpAnyH_ready (rs := [7]) (by kernel_rfl) (by simp) ?_
              refine AllReadyH.cons (o := _) rfl (fun K hK => ?_) AllReadyH.nil
              have tt : Mv (GE m u15) (fun q => GE m u15 q ∧ q ≠ w8.heap.size) w8 w8 := fun q hq hlt => ⟨rfl, hq, Nat.ne_of_lt hlt⟩
              have F9 := f9.mv (G' := fun q => GE m u15 q ∧ q ≠ w8.heap.size) (w' := w9) (fun q hq _ => by unfold From at hq; exact ⟨rfl, ⟨by omega, fun e => by have := hev8 q e; omega⟩, by omega⟩)
              have hM := meetG_any w9 b m LS ((hlg.mv rfl rfl tt).below B9) (fun q hq => hq.1.1) k x y s V.1 (.agg #[.int .i64 r.1, .int .i64 r.2.1, .slice ao4 r.2.2.1.length co4, .slice ap4 r.2.2.2.length cp4, .slice a9 V.2.length c9, .bool false]) r V.2 ⟨_, _, _, rfl, (hI8.o.mv tt).mv (Mv.belowG B9), (hI8.p.mv tt).mv (Mv.belowG B9), F9⟩ hr hVs
              simp only [kv] at hM
              go_simp
              refine hM.mono ?_
              intro e w10 hM
              obtain ⟨cs, t, rfl, hcl, hone, mz, lz, g10⟩ := hM.uni
              have G10 : w8.grownBy w10 (some m) := grown_trans G9 g10 (.inl rfl)
              have Rz := Rz.grown g10 (fun e => by have := Option.some.inj e; omega)
              try go_simp
              refine hK.out _ _ (HK.out _ G10) (fun hHeld => ?_)
              clear hK K
              refine wpAnyH_take (i := 8) (v := (.tuple #[.agg cs.toArray, .bool t])) rfl (by kernel_rfl) (by kernel_rfl) (by kernel_rfl) (fun _ _ _ h => h) (Or.inl ⟨by rfl, fun u hSu => by (try dsimp only at hSu); go_simp⟩) (by assumption) ?_
              simp only [Act.put, List.setIfInBounds_toArray, List.set_cons_zero, List.set_cons_succ]
              refine wpAnyH_take (i := 9) (v := (.agg cs.toArray)) rfl (by kernel_rfl) (by kernel_rfl) (by kernel_rfl) (fun _ _ _ h => h) (Or.inl ⟨by rfl, fun u hSu => by (try dsimp only at hSu); go_simp⟩) (by assumption) ?_
              simp only [Act.put, List.setIfInBounds_toArray, List.set_cons_zero, List.set_cons_succ]
              refine wpAnyH_take (i := 10) (v := (.bool t)) rfl (by kernel_rfl) (by kernel_rfl) (by kernel_rfl) (fun _ _ _ h => h) (Or.inl ⟨by rfl, fun u hSu => by (try dsimp only at hSu); go_simp⟩) (by assumption) ?_
              simp only [Act.put, List.setIfInBounds_toArray, List.set_cons_zero, List.set_cons_succ]
              refine wpAnyH_ready (rs := [12]) (by kernel_rfl) (by simp) ?_
              refine AllReadyH.cons (o := _) rfl (fun K hK => ?_) AllReadyH.nil
              refine step_storeR rfl _ _ _ rfl (w8.heap.size) cs rfl rfl _ _ Rz hcl.symm (by rw [hcl]; kernel_rfl) hone ?_
              intro w11 R11 g11
              simp only [Act.put]
              have G11 : w8.grownBy w11 (some m) := grown_trans G10 g11 (.inr fun q hq => by have := Option.some.inj hq; omega)
              refine hK.out _ _ (HK.out _ G11) (fun hHeld => ?_)
              clear hK K
              refine wpAnyH_ready (rs := [13]) (by kernel_rfl) (by simp) ?_
              refine AllReadyH.cons (o := _) rfl (fun K hK => ?_) AllReadyH.nil
              go_simp
              refine hK.out _ _ (HK.out _ G11) (fun hHeld => ?_)
              clear hK K
              refine wpAnyH_done (by kernel_rfl) ?_ _
              have l11 : Lg (GE m u15) w11 b m (meetL LS (k, x, y, s, V.1) r V.2).1 := lz.box g11 (by have := hlg.lt.1; omega) (by have := hlg.lt.2; omega) (fun q hlt hq => ⟨hq.2, hq.1⟩)
              have m11 := mid_mv (B' := w8.heap.size) (mv_boxF (B := w9.heap.size) g11 (.inl (by omega)) (by omega)) g11.size mz
              go_wp2_with fail
              go_meet
              case rel => exact ⟨_, t, cs, rfl, rfl, R11, m11, l11, G11⟩
          case rest =>
            clear HK hdw gd
            obtain ⟨cB, t, cs, rfl, rfl, Rx, hmid, lx, gx⟩ := hcut
            rcases hmid with ⟨h0, rfl⟩ | ⟨M, sM, h1, rfl, rfl, hS⟩
            · go_wp2_with fail
              go_roundw
              case rel => exact ⟨j + 1, _, by omega, by go_num, rfl, hI8.meet0 hm HV.out hy (by rw [← hLS]; exact h0) gx (by rw [← hLS]; exact lx)⟩
              case measure => simp [intOf]; omega
            · have hlb := hI8.lb.grown mov_ms gx hm
              have Rx : Row wc cB 40 [.int .i64 M.kind, .int .i64 M.bal.1, .int .i64 M.bal.2, .int .i64 M.slot, .int .i64 M.frm, .int .i64 M.to, .int .i64 M.idx, .int .i64 M.cnt, .int .i64 M.req.1, .int .i64 M.req.2.1, sM.o, sM.g, .int .i64 M.oth.1, .int .i64 M.oth.2.1, sM.o', sM.g', sM.d, sM.s, sM.c, sM.v, sM.n, sM.p, sM.l] := Rx
              have hone := hS.one
              have hsC := hI8.gr.size
              have hsD := gx.size
              go_wp2_with (first
                | (refine wl_load rfl _ _ rfl cB rfl _ _ Rx _ Tryz.underlying40 rfl (by kernel_rfl) ?_)
                | (refine wl_pushS mov_ms rfl _ _ _ rfl 40 23 360 _ Tryz.underlying49 Tryz.inf_msg (by rfl) (by decide) w.heap.size u15 _ rfl hlb [.int .i64 M.kind, .int .i64 M.bal.1, .int .i64 M.bal.2, .int .i64 M.slot, .int .i64 M.frm, .int .i64 M.to, .int .i64 M.idx, .int .i64 M.cnt, .int .i64 M.req.1, .int .i64 M.req.2.1, sM.o, sM.g, .int .i64 M.oth.1, .int .i64 M.oth.2.1, sM.o', sM.g', sM.d, sM.s, sM.c, sM.v, sM.n, sM.p, sM.l] M w8.heap.size ⟨sM, rfl, hS⟩ rfl hone hsC hev8 rfl (Nat.le_trans hsC hsD) (by have := HNL.out j; omega) (by decide) ?_; intro v' wy hL' g' hsp))
              go_roundw
              case rel => exact ⟨j + 1, _, by omega, by go_num, rfl, hI8.meet1 hp hm hb HV.out hy (by rw [← hLS]; exact h1) gx (by rw [← hLS]; exact lx) hL' g' hsp⟩
              case measure => simp [intOf]; omega
      · have hjv : j = vs.length := by omega
        have hd : decide ((j : Int) < (vs.length : Int)) = false := by simp; omega
        have hlg := hI.lg
        have hlb := hI.lb
        rw [hjv, List.take_length] at hlg hlb
        have hgr := hI.gr
        clear hI
        go_wp2_with fail
        go_ret
        exact ⟨_, rfl, hlb.rl mov_ms, hlg.mv rfl rfl (fun q hq _ => ⟨rfl, hq.1⟩), hgr⟩
  · have hD : noteL ls k x y s r vs = (ls, []) := by unfold noteL; rw [if_neg hk]
    have h2 : (k != 2) = true := by simp; omega
    have h3 : (k != 3) = true := by simp; omega
    rw [hD]
    clear hk hD
    go_enter Tryz.func33, Tryz.ntmps33
    go_upto_region 1 with fail
    rw [← hw]
    clear hw
    go_wp2_with fail
    go_ret
    exact ⟨_, rfl, RL.nil _ _ _ _, h.below B, grown_of_below B _⟩
end Go.Proofs.YtgjepofinpmcpaaGreatDoor
end

section
set_option linter.unusedVariables false
set_option linter.unusedSimpArgs false
namespace Go.Proofs.YtgjepofinpmcpaaGreatDoor
open Go.RowKit Oct Kvl

theorem sgn_sz (k x y s : Int) (r : PReq) (i : Int) : szT (sgn k x y s r i) := by
  unfold szT sgn
  by_cases h : 0 ≤ repL i ∧ repL i ≤ 127
  · rw [signL_len _ _ h.1 h.2]; decide
  · rw [signL_no _ _ (by omega)]; decide
theorem rep_in {i : Int} (h0 : 0 ≤ i) (h1 : i ≤ 15) : repL i = i := by unfold repL; rw [if_pos ⟨h0, h1⟩]
theorem sgn_rgt (k x y s : Int) (r : PReq) {i : Int} (h0 : 0 ≤ i) (h1 : i ≤ 15) : rgtV k x y s r (i, sgn k x y s r i) = true := by
  unfold rgtV sgn
  exact verL_same _ _ (by rw [rep_in h0 h1]; omega) (by rw [rep_in h0 h1]; omega)
theorem note_one {ls : List PSn} {k x y s : Int} {r : PReq} {v : PVote} (hk : k = 2 ∨ k = 3) (hv : rgtV k x y s r v = true) : noteL ls k x y s r [v] = meetL ls (k, x, y, s, v.1) r v.2 := by
  unfold noteL noteV
  rw [if_pos hk]
  simp [stpL, hv]
theorem note_not {ls : List PSn} {k x y s : Int} {r : PReq} {v : PVote} (hv : rgtV k x y s r v = false) : noteL ls k x y s r [v] = (ls, []) := by
  unfold noteL noteV
  by_cases hk : k = 2 ∨ k = 3
  · rw [if_pos hk]
    simp [stpL, hv]
  · rw [if_neg hk]
theorem note_nil (ls : List PSn) (k x y s : Int) (r : PReq) : noteL ls k x y s r [] = (ls, []) := by
  unfold noteL noteV
  split <;> rfl
theorem rl_onev {G : Nat → Prop} {w : World} {i : Int} {v : Value} {g : List Int} (h : RT G w v g) (hG : G w.heap.size) : RL RVote 2 G (w.alloc (.cells #[.int .i64 i, v] 58)) (.slice (some ⟨w.heap.size, 0, none⟩) 1 1) [(i, g)] := by
  refine ⟨[[.int .i64 i, v]], ⟨by simp, .inr ⟨w.heap.size, 0, 1, rfl, by simp, by unfold maxLen; decide, by simp, hG, by simp, ?_⟩⟩, ⟨⟨v, rfl, h.mv (Mv.belowG (below_alloc _ _))⟩, trivial⟩⟩
  intro q r hq
  have hR := Row.new w 58 [.int .i64 i, v]
  cases q with
  | zero =>
    simp at hq
    subst hq
    intro j u hj
    simpa using hR.cell hj
  | succ q => simp at hq

/-- What Note answers, seen from an earlier world. -/
theorem note1_any (w : World) (b m : Nat) (ls : List PSn) (h : Lg (NM m) w b m ls) (k x y s i : Int) (rc : List Value) (r : PReq) (hrq : RReq (NM m) w rc r) (hr : tot [r.2.2.1, r.2.2.2] ≤ 2000000) (v : Value) (g : List Int) (hv : RT (NM m) w v g) (hg : szT g) (hT : Tab w) :
    Calls Tryz.prog 33 #[.pointer (some ⟨b, 0, none⟩), .int .i64 k, .agg #[.int .i64 x, .int .i64 y], .int .i64 s, .agg rc.toArray, .slice (some ⟨w.heap.size, 0, none⟩) 1 1] (w.alloc (.cells #[.int .i64 i, v] 58)) fun e w' => NtP w b m (noteL ls k x y s r [(i, g)]) e w' := by
  have B := below_alloc w (.cells #[.int .i64 i, v] 58)
  refine (noteG_any _ b m ls (h.below B) k x y s rc r (mov_req _ _ _ _ _ _ hrq B.size (Mv.belowG B)) hr _ [(i, g)] (rl_onev hv (fun e => by have := h.lt.2; omega)) (by simpa using hg) (by simp) (hT.below B)).mono ?_
  rintro e w' ⟨v', e1, e2, e3, e4⟩
  exact ⟨v', e1, e2.mv mov_ms (Nat.le_refl _) (Mv.weak B.size), e3, grown_trans (grown_of_below B _) e4 (.inl rfl)⟩

def r00 : PReq := (0, 0, [], [])
def r11 : PReq := (1, 1, [], [])
def q13 : PK := (2, 0, 0, 1, 3)
theorem r_ne : ¬ (body r00 = body r11) := by decide
def lsA : List PSn := [⟨q13, r00, sgn 2 0 0 1 r00 3, false⟩]
def lsB : List PSn := [⟨q13, r00, sgn 2 0 0 1 r00 3, true⟩]
theorem al_1 : noteL [] 2 0 0 1 r00 [(3, sgn 2 0 0 1 r00 3)] = (lsA, []) := by
  rw [note_one (.inl rfl) (sgn_rgt _ _ _ _ _ (by decide) (by decide))]
  rfl
theorem al_2 : noteL lsA 2 0 0 1 r11 [(3, sgn 2 0 0 1 r11 3)] = (lsB, [evL q13 r00 (sgn 2 0 0 1 r00 3) r11 (sgn 2 0 0 1 r11 3)]) := by
  rw [note_one (.inl rfl) (sgn_rgt _ _ _ _ _ (by decide) (by decide))]
  exact meet_new (j := 0) (z := ⟨q13, r00, sgn 2 0 0 1 r00 3, false⟩) rfl rfl (by simp; exact r_ne)
theorem al_3 : noteL lsB 2 0 0 1 r11 [(3, sgn 2 0 0 1 r11 3)] = (lsB, []) := by
  rw [note_one (.inl rfl) (sgn_rgt _ _ _ _ _ (by decide) (by decide))]
  exact meet_old (j := 0) (z := ⟨q13, r00, sgn 2 0 0 1 r00 3, true⟩) rfl rfl (.inl rfl)
theorem ev_frm (q : PK) (r1 : PReq) (s1 : List Int) (r2 : PReq) (s2 : List Int) : (evL q r1 s1 r2 s2).frm = q.2.2.2.2 ∧ (evL q r1 s1 r2 s2).idx = q.1 ∧ (evL q r1 s1 r2 s2).slot = q.2.2.2.1 ∧ (evL q r1 s1 r2 s2).bal = (q.2.1, q.2.2.1) := by
  unfold evL ev0
  split <;> exact ⟨rfl, rfl, rfl, rfl⟩
theorem rnil (G : Nat → Prop) (w : World) (a c : Int) : RReq G w [.int .i64 a, .int .i64 c, .slice none 0 0, .slice none 0 0] (a, c, [], []) := ⟨_, _, rfl, RT.nil _ _, RT.nil _ _⟩

theorem toNM {m B : Nat} {w : World} (hm : m < B) : Mv (From B) (NM m) w w := fun k hk _ => ⟨rfl, fun e => by unfold From at hk; omega⟩
theorem below_of_le {B C : Nat} {w w' : World} (h : Below C w w') (hB : B ≤ C) : Below B w w' := ⟨h.os, h.tape, h.output, h.size, fun k hk => h.block k (by omega)⟩

end Go.Proofs.YtgjepofinpmcpaaGreatDoor
end

section
set_option linter.unusedVariables false
set_option linter.unusedSimpArgs false
namespace Go.Proofs.YtgjepofinpmcpaaGreatDoor
open Go.RowKit Oct Kvl

theorem below_drewE (w : World) : Below w.heap.size w w.drew := ⟨rfl, rfl, rfl, Nat.le_refl _, fun _ _ => rfl⟩
theorem toNMe {m : Nat} {w : World} (h : w.heap.size ≤ m) : Mv Any (NM m) w w := fun k _ hlt => ⟨rfl, fun e => by omega⟩
def lsE (x y s i : Int) (r0 : PReq) : List PSn := (noteL [] 2 x y s r0 [(i, sgn 2 x y s r0 i)]).1
def evsL (x y s i : Int) (r0 r1 : PReq) : List PMsg := (noteL (lsE x y s i r0) 2 x y s r1 [(i, sgn 2 x y s r1 i)]).2

set_option maxRecDepth 10000 in
set_option maxHeartbeats 4000000 in
theorem evidence_any (w : World) (x y s i : Int) (o0 p0 o1 p1 : Value) (r0 r1 : PReq) (t0 : RT Any w o0 r0.2.2.1) (u0 : RT Any w p0 r0.2.2.2) (t1 : RT Any w o1 r1.2.2.1) (u1 : RT Any w p1 r1.2.2.2) (z0 : tot [r0.2.2.1, r0.2.2.2] ≤ 2000000) (z1 : tot [r1.2.2.1, r1.2.2.2] ≤ 2000000) (hT : Tab w) :
    Calls Tryz.prog 15 #[.agg #[.int .i64 x, .int .i64 y], .int .i64 s, .int .i64 i, .agg #[.int .i64 r0.1, .int .i64 r0.2.1, o0, p0], .agg #[.int .i64 r1.1, .int .i64 r1.2.1, o1, p1]] w fun e w' => ∃ v', e = .returned v' ∧ RL RMs 23 Any w' v' (evsL x y s i r0 r1) ∧ Below w.heap.size w w' := by
  obtain ⟨ao0, co0, rfl, _⟩ := t0.form
  obtain ⟨ap0, cp0, rfl, _⟩ := u0.form
  obtain ⟨ao1, co1, rfl, _⟩ := t1.form
  obtain ⟨ap1, cp1, rfl, _⟩ := u1.form
  obtain ⟨w1, hw1⟩ : ∃ w1, w1 = w.alloc (.cells #[.int .i64 x, .int .i64 y] 32) := ⟨_, rfl⟩
  obtain ⟨w2, hw2⟩ : ∃ w2, w2 = w1.alloc (.cells #[.int .i64 r0.1, .int .i64 r0.2.1, .slice ao0 r0.2.2.1.length co0, .slice ap0 r0.2.2.2.length cp0] 34) := ⟨_, rfl⟩
  obtain ⟨w3, hw3⟩ : ∃ w3, w3 = w2.alloc (.cells #[.int .i64 r1.1, .int .i64 r1.2.1, .slice ao1 r1.2.2.1.length co1, .slice ap1 r1.2.2.2.length cp1] 34) := ⟨_, rfl⟩
  have e1 : w1.heap.size = w.heap.size + 1 := by rw [hw1]; simp
  have e2 : w2.heap.size = w.heap.size + 2 := by rw [hw2]; simp [e1]
  have B1 : Below w.heap.size w w1 := by rw [hw1]; exact below_alloc _ _
  have B2 : Below w1.heap.size w1 w2 := by rw [hw2]; exact below_alloc _ _
  have B3 : Below w2.heap.size w2 w3 := by rw [hw3]; exact below_alloc _ _
  have rB : Row w1 w.heap.size 32 [.int .i64 x, .int .i64 y] := by rw [hw1]; exact Row.new _ _ _
  have rR0 : Row w2 (w.heap.size + 1) 34 [.int .i64 r0.1, .int .i64 r0.2.1, .slice ao0 r0.2.2.1.length co0, .slice ap0 r0.2.2.2.length cp0] := by rw [hw2, ← e1]; exact Row.new _ _ _
  have rR1 : Row w3 (w.heap.size + 2) 34 [.int .i64 r1.1, .int .i64 r1.2.1, .slice ao1 r1.2.2.1.length co1, .slice ap1 r1.2.2.2.length cp1] := by rw [hw3, ← e2]; exact Row.new _ _ _
  have rB := (rB.below B2).below B3
  have rR0 := rR0.below B3
  have B : Below w.heap.size w w3 := below_and (below_and B1 (Nat.le_refl _) B2) (Nat.le_refl _) B3
  have hw : w3 = ((w.alloc (.cells #[.int .i64 x, .int .i64 y] 32)).alloc (.cells #[.int .i64 r0.1, .int .i64 r0.2.1, .slice ao0 r0.2.2.1.length co0, .slice ap0 r0.2.2.2.length cp0] 34)).alloc (.cells #[.int .i64 r1.1, .int .i64 r1.2.1, .slice ao1 r1.2.2.1.length co1, .slice ap1 r1.2.2.2.length cp1] 34) := by rw [hw3, hw2, hw1]
  clear hw1 hw2 hw3 e1 e2 B1 B2 B3
  go_enter Tryz.func15, Tryz.ntmps15
  go_upto_region 1 with fail
  rw [← hw]
  clear hw
  simp only [show w.heap.size + 1 + 1 = w.heap.size + 2 from rfl]
  obtain ⟨cB, hcB⟩ : ∃ c, c = w.heap.size := ⟨_, rfl⟩
  obtain ⟨cR0, hcR0⟩ : ∃ c, c = w.heap.size + 1 := ⟨_, rfl⟩
  obtain ⟨cR1, hcR1⟩ : ∃ c, c = w.heap.size + 2 := ⟨_, rfl⟩
  rw [← hcR0] at rR0 ⊢
  rw [← hcR1] at rR1 ⊢
  rw [← hcB] at rB ⊢
  clear hcB hcR0 hcR1
  have hNW := newG_any w3
  go_upto_region 4 with (go_at_call 32; refine hNW.mono ?_; rintro e w4 ⟨rfl, l4, b4⟩)
  have hm5 : w.heap.size ≤ w3.heap.size := B.size
  have BW := below_and B (Nat.le_refl _) b4
  have rB := rB.below b4
  have rR0 := rR0.below b4
  have rR1 := rR1.below b4
  have t0 := ((t0.mv (Mv.below B)).mv (toNMe (Nat.le_refl _))).mv (Mv.belowG b4)
  have u0 := ((u0.mv (Mv.below B)).mv (toNMe (Nat.le_refl _))).mv (Mv.belowG b4)
  have t1 := ((t1.mv (Mv.below B)).mv (toNMe (Nat.le_refl _))).mv (Mv.belowG b4)
  have u1 := ((u1.mv (Mv.below B)).mv (toNMe (Nat.le_refl _))).mv (Mv.belowG b4)
  have hT4 := (hT.below B).below b4
  clear hNW B b4 hT
  generalize hm : w3.heap.size = m at *
  generalize hb : m + 1 = b at *
  clear hm hb
  have hmB := l4.nrow rB
  have hmR0 := l4.nrow rR0
  have hmR1 := l4.nrow rR1
  have SK0 := (show Hid (∀ u, w4.grownBy u (some m) → u.cell? ⟨cB, 0, none⟩ = some (.int .i64 x) ∧ u.cell? ⟨cB, 1, none⟩ = some (.int .i64 y) ∧ u.cell? ⟨cR0, 0, none⟩ = some (.int .i64 r0.1) ∧ u.cell? ⟨cR0, 1, none⟩ = some (.int .i64 r0.2.1) ∧ u.cell? ⟨cR0, 2, none⟩ = some (.slice ao0 r0.2.2.1.length co0) ∧ u.cell? ⟨cR0, 3, none⟩ = some (.slice ap0 r0.2.2.2.length cp0)) from fun u hu => ⟨(rB.grown hu hmB).cell (j := 0) rfl, (rB.grown hu hmB).cell (j := 1) rfl, (rR0.grown hu hmR0).cell (j := 0) rfl, (rR0.grown hu hmR0).cell (j := 1) rfl, (rR0.grown hu hmR0).cell (j := 2) rfl, (rR0.grown hu hmR0).cell (j := 3) rfl⟩)
  obtain ⟨q0, q1, q2, q3, q4, q5⟩ := SK0.out w4 (grown_of_below (Below.refl _ _) _)
  have hd0 := below_drewE w4
  have gd0 : w4.grownBy w4.drew (some m) := grown_of_below hd0 _
  have HB0 := (show Hid (∀ _ : Unit, _) from fun _ => body_any w4.drew [.int .i64 r0.1, .int .i64 r0.2.1, .slice ao0 r0.2.2.1.length co0, .slice ap0 r0.2.2.2.length cp0] r0 ⟨_, _, rfl, (t0.mv (Mv.belowG hd0)).mv Mv.any, (u0.mv (Mv.belowG hd0)).mv Mv.any⟩ (Nat.le_trans z0 (by decide)))
  have hbb0 : Byt (body r0) := body_byt t0.1.1 u0.1.1 z0
  have HBL0 := (show Hid ((body r0).length ≤ 3000000) from body_len z0)
  go_wp2_with fail
  go_region_held3 (fun u => u.cell? ⟨cB, 0, none⟩ = some (.int .i64 x) ∧ u.cell? ⟨cB, 1, none⟩ = some (.int .i64 y) ∧ u.cell? ⟨cR0, 0, none⟩ = some (.int .i64 r0.1) ∧ u.cell? ⟨cR0, 1, none⟩ = some (.int .i64 r0.2.1) ∧ u.cell? ⟨cR0, 2, none⟩ = some (.slice ao0 r0.2.2.1.length co0) ∧ u.cell? ⟨cR0, 3, none⟩ = some (.slice ap0 r0.2.2.2.length cp0))
    (first | exact SK0.out _ gx0 | exact SK0.out _ gb0 | exact SK0.out _ ga0 | exact SK0.out _ gc0 | exact SK0.out _ gd0 | go_keep)
    (first
      | (go_at_call 33; refine hN0.mono ?_; rintro e wx0 ⟨vx0, rfl, ex0, lx0, gx'0⟩; have gx0 : w4.grownBy wx0 (some m) := grown_trans ga0 gx'0 (.inl rfl); obtain ⟨ax0, cx0, rfl, _⟩ := ex0.form)
      | (go_at_call 20; refine (vMake_any wc0 2 x y s i vc0 (body r0) (oc0.rd hbb0) HBL0.out (hT4.below bc0)).mono ?_; rintro e wa0 ⟨va0, rfl, fa'0, ba0⟩; have fa0 : RT (From wc0.heap.size) wa0 va0 (sgn 2 x y s r0 i) := fa'0; obtain ⟨aa0, ca0, rfl, _⟩ := fa0.form; have bb0 : Below w4.heap.size w4 wa0 := below_and bc0 (Nat.le_refl _) ba0; have ga0 : w4.grownBy wa0 (some m) := grown_of_below bb0 _; have gb0 : w4.grownBy (wa0.alloc (.cells #[.int .i64 i, .slice aa0 (sgn 2 x y s r0 i).length ca0] 58)) (some m) := grown_trans ga0 (grown_of_below (below_alloc _ _) _) (.inl rfl); have hN0 := note1_any wa0 b m [] (l4.below bb0) 2 x y s i [.int .i64 r0.1, .int .i64 r0.2.1, .slice ao0 r0.2.2.1.length co0, .slice ap0 r0.2.2.2.length cp0] r0 ⟨_, _, rfl, t0.mv (Mv.belowG bb0), u0.mv (Mv.belowG bb0)⟩ z0 _ _ (fa0.mv (toNM (l4.below bc0).lt.2)) (sgn_sz _ _ _ _ _ _) (hT4.below bb0))
      | (go_at_call 21; refine (HB0.out ()).mono ?_; rintro e wc0 ⟨vc0, rfl, oc0, fc0, bc'0⟩; have bc0 : Below w4.heap.size w4 wc0 := hd0.trans bc'0; have gc0 : w4.grownBy wc0 (some m) := grown_of_below bc0 _))
  have hmv : Mv (NM m) (NM m) w4 wx0 := Mv.nm (fun k hk => hk) gx0
  have rB := rB.grown gx0 hmB
  have rR1 := rR1.grown gx0 hmR1
  have t1 := t1.mv hmv
  have u1 := u1.mv hmv
  have hT5 := hT4.grown gx0 (l4.ntab hT4)
  have BX := BW.trans (grown_below gx0 (Nat.le_trans hm5 (Nat.le_of_lt l4.lt.2)) (fun q hq => by have := Option.some.inj hq; omega))
  have l5 : Lg (NM m) wx0 b m (lsE x y s i r0) := lx0
  clear SK0 HB0 hN0 q0 q1 q2 q3 q4 q5 gd0 hd0 ga0 gb0 gc0 fa0 fa'0 ba0 bb0 gx'0 ex0 lx0 hmv hT4 BW l4 t0 u0 rR0 hmR0 HBL0 hbb0 oc0 fc0 bc0 bc'0 gx0
  generalize hLS : lsE x y s i r0 = LS at *
  have HLS := (show Hid (lsE x y s i r0 = LS) from hLS)
  clear hLS
  have SK1 := (show Hid (∀ u, wx0.grownBy u (some m) → u.cell? ⟨cB, 0, none⟩ = some (.int .i64 x) ∧ u.cell? ⟨cB, 1, none⟩ = some (.int .i64 y) ∧ u.cell? ⟨cR1, 0, none⟩ = some (.int .i64 r1.1) ∧ u.cell? ⟨cR1, 1, none⟩ = some (.int .i64 r1.2.1) ∧ u.cell? ⟨cR1, 2, none⟩ = some (.slice ao1 r1.2.2.1.length co1) ∧ u.cell? ⟨cR1, 3, none⟩ = some (.slice ap1 r1.2.2.2.length cp1)) from fun u hu => ⟨(rB.grown hu hmB).cell (j := 0) rfl, (rB.grown hu hmB).cell (j := 1) rfl, (rR1.grown hu hmR1).cell (j := 0) rfl, (rR1.grown hu hmR1).cell (j := 1) rfl, (rR1.grown hu hmR1).cell (j := 2) rfl, (rR1.grown hu hmR1).cell (j := 3) rfl⟩)
  obtain ⟨q0, q1, q2, q3, q4, q5⟩ := SK1.out wx0 (grown_of_below (Below.refl _ _) _)
  have hd1 := below_drewE wx0
  have gd1 : wx0.grownBy wx0.drew (some m) := grown_of_below hd1 _
  have HB1 := (show Hid (∀ _ : Unit, _) from fun _ => body_any wx0.drew [.int .i64 r1.1, .int .i64 r1.2.1, .slice ao1 r1.2.2.1.length co1, .slice ap1 r1.2.2.2.length cp1] r1 ⟨_, _, rfl, (t1.mv (Mv.belowG hd1)).mv Mv.any, (u1.mv (Mv.belowG hd1)).mv Mv.any⟩ (Nat.le_trans z1 (by decide)))
  have hbb1 : Byt (body r1) := body_byt t1.1.1 u1.1.1 z1
  have HBL1 := (show Hid ((body r1).length ≤ 3000000) from body_len z1)
  go_wp2_with fail
  go_region_held3 (fun u => u.cell? ⟨cB, 0, none⟩ = some (.int .i64 x) ∧ u.cell? ⟨cB, 1, none⟩ = some (.int .i64 y) ∧ u.cell? ⟨cR1, 0, none⟩ = some (.int .i64 r1.1) ∧ u.cell? ⟨cR1, 1, none⟩ = some (.int .i64 r1.2.1) ∧ u.cell? ⟨cR1, 2, none⟩ = some (.slice ao1 r1.2.2.1.length co1) ∧ u.cell? ⟨cR1, 3, none⟩ = some (.slice ap1 r1.2.2.2.length cp1))
    (first | exact SK1.out _ gx1 | exact SK1.out _ gb1 | exact SK1.out _ ga1 | exact SK1.out _ gc1 | exact SK1.out _ gd1 | go_keep)
    (first
      | (go_at_call 33; refine hN1.mono ?_; rintro e wx1 ⟨vx1, rfl, ex1, lx1, gx'1⟩; have gx1 : wx0.grownBy wx1 (some m) := grown_trans ga1 gx'1 (.inl rfl); obtain ⟨ax1, cx1, rfl, _⟩ := ex1.form)
      | (go_at_call 20; refine (vMake_any wc1 2 x y s i vc1 (body r1) (oc1.rd hbb1) HBL1.out (hT5.below bc1)).mono ?_; rintro e wa1 ⟨va1, rfl, fa'1, ba1⟩; have fa1 : RT (From wc1.heap.size) wa1 va1 (sgn 2 x y s r1 i) := fa'1; obtain ⟨aa1, ca1, rfl, _⟩ := fa1.form; have bb1 : Below wx0.heap.size wx0 wa1 := below_and bc1 (Nat.le_refl _) ba1; have ga1 : wx0.grownBy wa1 (some m) := grown_of_below bb1 _; have gb1 : wx0.grownBy (wa1.alloc (.cells #[.int .i64 i, .slice aa1 (sgn 2 x y s r1 i).length ca1] 58)) (some m) := grown_trans ga1 (grown_of_below (below_alloc _ _) _) (.inl rfl); have hN1 := note1_any wa1 b m LS (l5.below bb1) 2 x y s i [.int .i64 r1.1, .int .i64 r1.2.1, .slice ao1 r1.2.2.1.length co1, .slice ap1 r1.2.2.2.length cp1] r1 ⟨_, _, rfl, t1.mv (Mv.belowG bb1), u1.mv (Mv.belowG bb1)⟩ z1 _ _ (fa1.mv (toNM (l5.below bc1).lt.2)) (sgn_sz _ _ _ _ _ _) (hT5.below bb1))
      | (go_at_call 21; refine (HB1.out ()).mono ?_; rintro e wc1 ⟨vc1, rfl, oc1, fc1, bc'1⟩; have bc1 : Below wx0.heap.size wx0 wc1 := hd1.trans bc'1; have gc1 : wx0.grownBy wc1 (some m) := grown_of_below bc1 _))
  have BY := BX.trans (grown_below gx1 (Nat.le_trans hm5 (Nat.le_of_lt l5.lt.2)) (fun q hq => by have := Option.some.inj hq; omega))
  have hE : RL RMs 23 Any wx1 _ (noteL LS 2 x y s r1 [(i, sgn 2 x y s r1 i)]).2 := ex1.mv mov_ms (Nat.le_refl _) Mv.any
  have hV : evsL x y s i r0 r1 = (noteL LS 2 x y s r1 [(i, sgn 2 x y s r1 i)]).2 := by unfold evsL; rw [HLS.out]
  go_wp2_with fail
  go_ret
  exact ⟨_, rfl, by rw [hV]; exact hE, BY⟩
end Go.Proofs.YtgjepofinpmcpaaGreatDoor
end

section
set_option linter.unusedVariables false
set_option linter.unusedSimpArgs false
namespace Go.Proofs.YtgjepofinpmcpaaGreatDoor
open Go.RowKit Oct Kvl

/-- A request that can be written. -/
structure QOk (r : PReq) : Prop where
  c0 : 0 ≤ r.1
  c1 : r.1 ≤ 2147483647
  s0 : 0 ≤ r.2.1
  s1 : r.2.1 ≤ 2147483647
  o : r.2.2.1.length ≤ 65536
  g : r.2.2.2.length ≤ 65536
theorem QOk.tot {r : PReq} (h : QOk r) : tot [r.2.2.1, r.2.2.2] ≤ 2000000 := by
  have := h.o
  have := h.g
  simp only [Oct.tot]
  omega
/-- Places that can be written. -/
structure XOk (x y s i : Int) : Prop where
  x0 : 0 ≤ x
  x1 : x ≤ 2147483647
  y0 : 0 ≤ y
  y1 : y ≤ 2147483647
  s0 : 0 ≤ s
  s1 : s ≤ 2147483647
  i0 : 0 ≤ i
  i1 : i ≤ 15
theorem sgn_len {k x y s : Int} {r : PReq} {i : Int} (h0 : 0 ≤ i) (h1 : i ≤ 15) : (sgn k x y s r i).length = 32 := by
  unfold sgn
  rw [signL_len _ _ (by rw [rep_in h0 h1]; omega) (by rw [rep_in h0 h1]; omega)]
theorem okI_in {n : Int} (h0 : 0 ≤ n) (h1 : n ≤ 2147483647) : okI n = true := okI_yes h0 h1
theorem outI_5 {n : Int} (h0 : 0 ≤ n) (h1 : n ≤ 2147483647) : (outI n).length ≤ 5 := by rw [outI_yes h0 h1]; exact enc_len5 n h0 h1
theorem req_ok {r : PReq} (h : QOk r) : cReq.ok r = true ∧ (cReq.wr r).length ≤ 140000 := by
  have a := okI_yes h.c0 h.c1
  have b := okI_yes h.s0 h.s1
  have p := outI_5 h.c0 h.c1
  have q := outI_5 h.s0 h.s1
  have e1 := enc_len r.2.2.1.length
  have e2 := enc_len r.2.2.2.length
  have := h.o
  have := h.g
  refine ⟨?_, ?_⟩
  · simp [cReq, cP, cN, cT, a, b]
    omega
  · simp only [cReq, cP, cN, cT, List.length_append]
    omega
theorem ev0_good {x y s i : Int} {ra rb : PReq} {ga gb : List Int} (hx : XOk x y s i) (ha : QOk ra) (hb : QOk rb) (la : ga.length = 32) (lb : gb.length = 32) :
    badM (ev0 (2, x, y, s, i) ra ga rb gb) = false ∧ (byM (ev0 (2, x, y, s, i) ra ga rb gb)).length ≤ 1048576 := by
  obtain ⟨a1, a2⟩ := req_ok ha
  obtain ⟨b1, b2⟩ := req_ok hb
  refine ⟨badM_of (show fl 13 ≠ [] by decide) ?_ ?_, ?_⟩
  · intro j hj hn
    have hn : j ∉ [0, 1, 2, 4, 6, 7, 8, 9] := hn
    rcases lt15 hj with rfl | rfl | rfl | rfl | rfl | rfl | rfl | rfl | rfl | rfl | rfl | rfl | rfl | rfl | rfl <;> first | rfl | exact absurd (by decide) hn
  · intro j hj
    have hj : j ∈ [0, 1, 2, 4, 6, 7, 8, 9] := hj
    simp only [List.mem_cons, List.not_mem_nil, or_false] at hj
    rcases hj with rfl | rfl | rfl | rfl | rfl | rfl | rfl | rfl
    · show (okI x && okI y) = true
      rw [okI_yes hx.x0 hx.x1, okI_yes hx.y0 hx.y1]; rfl
    · exact okI_yes hx.s0 hx.s1
    · exact okI_yes (n := i) hx.i0 (by have := hx.i1; omega)
    · exact okI_yes (n := 2) (by decide) (by decide)
    · exact a1
    · exact b1
    · show decide (gb.length ≤ 65536) = true
      rw [lb]; rfl
    · show decide (ga.length ≤ 65536) = true
      rw [la]; rfl
  · have e : byM (ev0 (2, x, y, s, i) ra ga rb gb) = outI 13 ++ ((outI x ++ outI y) ++ (outI s ++ (outI i ++ (outI 2 ++ (cReq.wr ra ++ (cReq.wr rb ++ ((enc gb.length ++ gb) ++ ((enc ga.length ++ ga) ++ [])))))))) := rfl
    rw [e]
    have p0 := outI_5 (n := 13) (by decide) (by decide)
    have p1 := outI_5 hx.x0 hx.x1
    have p2 := outI_5 hx.y0 hx.y1
    have p3 := outI_5 hx.s0 hx.s1
    have p4 := outI_5 hx.i0 (by have := hx.i1; omega)
    have p5 := outI_5 (n := 2) (by decide) (by decide)
    have p6 := enc_len gb.length
    have p7 := enc_len ga.length
    simp only [List.length_append, List.length_nil]
    omega
theorem ev0_shw {x y s i : Int} {ra rb : PReq} (hx : XOk x y s i) (hc : cmpL (body ra) (body rb) < 0) : shw (ev0 (2, x, y, s, i) ra (sgn 2 x y s ra i) rb (sgn 2 x y s rb i)) = true := by
  have h1 : rgtV 2 x y s ra (i, sgn 2 x y s ra i) = true := sgn_rgt 2 x y s ra hx.i0 hx.i1
  have h2 : rgtV 2 x y s rb (i, sgn 2 x y s rb i) = true := sgn_rgt 2 x y s rb hx.i0 hx.i1
  show (decide (cmpL (body ra) (body rb) < 0) && rgtV 2 x y s ra (i, sgn 2 x y s ra i) && rgtV 2 x y s rb (i, sgn 2 x y s rb i)) = true
  rw [h1, h2, decide_eq_true hc]
  rfl
/-- The evidence of two votes. -/
def evE (x y s i : Int) (r0 r1 : PReq) : PMsg := evL (2, x, y, s, i) r0 (sgn 2 x y s r0 i) r1 (sgn 2 x y s r1 i)
theorem evE_good {x y s i : Int} {r0 r1 : PReq} (hx : XOk x y s i) (h0 : QOk r0) (h1 : QOk r1) (hn : body r0 ≠ body r1) :
    badM (evE x y s i r0 r1) = false ∧ (byM (evE x y s i r0 r1)).length ≤ 1048576 ∧ shw (evE x y s i r0 r1) = true := by
  unfold evE evL
  by_cases hc : 0 < cmpL (body r0) (body r1)
  · rw [if_pos hc]
    obtain ⟨a, b⟩ := ev0_good hx h1 h0 (sgn_len (k := 2) (x := x) (y := y) (s := s) (r := r1) hx.i0 hx.i1) (sgn_len (k := 2) (x := x) (y := y) (s := s) (r := r0) hx.i0 hx.i1)
    exact ⟨a, b, ev0_shw hx (by rw [cmp_neg]; omega)⟩
  · rw [if_neg hc]
    obtain ⟨a, b⟩ := ev0_good hx h0 h1 (sgn_len (k := 2) (x := x) (y := y) (s := s) (r := r0) hx.i0 hx.i1) (sgn_len (k := 2) (x := x) (y := y) (s := s) (r := r1) hx.i0 hx.i1)
    refine ⟨a, b, ev0_shw hx ?_⟩
    have : cmpL (body r0) (body r1) ≠ 0 := fun e => hn (cmp_zero.1 e)
    omega
theorem evE_frm (x y s i : Int) (r0 r1 : PReq) : (evE x y s i r0 r1).kind = 13 ∧ (evE x y s i r0 r1).frm = i ∧ (evE x y s i r0 r1).idx = 2 := by
  unfold evE evL ev0
  split <;> exact ⟨rfl, rfl, rfl⟩
theorem may_ev (x y s i : Int) (r0 r1 : PReq) (hi : 0 ≤ i) (n : Int) : may (evE x y s i r0 r1) n = (Bal.rgt n && decide (i < n)) := by
  obtain ⟨a, b, c⟩ := evE_frm x y s i r0 r1
  unfold may
  rw [a, b, c]
  simp [hi]
theorem dec_by {m : PMsg} (h : badM m = false) (hl : (byM m).length ≤ 1048576) : decE (byM m) = 0 ∧ decM (byM m) = m := by
  unfold decE decM
  have h' : ¬ 1048576 < (byM m).length := by omega
  rw [if_neg h', if_neg h', rdM_fwd h]
  exact ⟨rfl, rfl⟩
theorem chk_ev {x y s i : Int} {r0 r1 : PReq} (hx : XOk x y s i) (h0 : QOk r0) (h1 : QOk r1) (hn : body r0 ≠ body r1) (n : Int) :
    chkL (byM (evE x y s i r0 r1)) n = (Bal.rgt n && decide (i < n)) := by
  obtain ⟨a, b, c⟩ := evE_good hx h0 h1 hn
  obtain ⟨d, e⟩ := dec_by a b
  unfold chkL
  rw [d, e, c, may_ev _ _ _ _ _ _ hx.i0]
  simp
/-- Make takes it. -/
theorem mk_ev {x y s i : Int} {r0 r1 : PReq} (hx : XOk x y s i) (h0 : QOk r0) (h1 : QOk r1) (hn : body r0 ≠ body r1) :
    mkE (evE x y s i r0 r1) = 0 ∧ mkB (evE x y s i r0 r1) = byM (evE x y s i r0 r1) := by
  obtain ⟨a, b, c⟩ := evE_good hx h0 h1 hn
  have hE : encE (evE x y s i r0 r1) = 0 := by unfold encE; rw [if_neg (by rw [a]; decide), if_neg (by omega)]
  have hB : encB (evE x y s i r0 r1) = byM (evE x y s i r0 r1) := by unfold encB; rw [if_pos hE]
  have hm : mkL (evE x y s i r0 r1) = true := by
    unfold mkL
    rw [hE, hB, chk_ev hx h0 h1 hn]
    have := hx.i1
    simp [Bal.rgt]
    omega
  obtain ⟨p, q⟩ := mk_yes hm
  exact ⟨q, by rw [p, hB]⟩
theorem chkW_ev {x y s i : Int} {r0 r1 : PReq} (hx : XOk x y s i) (h0 : QOk r0) (h1 : QOk r1) (hn : body r0 ≠ body r1) (n : Int) :
    chkW (byM (evE x y s i r0 r1)) n = (if (Bal.rgt n && decide (i < n)) = true then i else 0) ∧ chkE (byM (evE x y s i r0 r1)) n = (if (Bal.rgt n && decide (i < n)) = true then 0 else 161) := by
  obtain ⟨a, b, c⟩ := evE_good hx h0 h1 hn
  obtain ⟨d, e⟩ := dec_by a b
  unfold chkW chkE
  rw [chk_ev hx h0 h1 hn, e, (evE_frm x y s i r0 r1).2.1]
  exact ⟨rfl, rfl⟩
/-- What the ledger tells of two votes. -/
theorem evs_same {x y s i : Int} {r0 r1 : PReq} (hx : XOk x y s i) (hb : body r0 = body r1) : evsL x y s i r0 r1 = [] := by
  have e : lsE x y s i r0 = [⟨(2, x, y, s, i), r0, sgn 2 x y s r0 i, false⟩] := by
    unfold lsE
    rw [note_one (.inl rfl) (sgn_rgt _ _ _ _ _ hx.i0 hx.i1)]
    rfl
  unfold evsL
  rw [e, note_one (.inl rfl) (sgn_rgt _ _ _ _ _ hx.i0 hx.i1)]
  rw [meet_old (j := 0) (z := ⟨(2, x, y, s, i), r0, sgn 2 x y s r0 i, false⟩) (by simp [keysL, fnd]) rfl (.inr hb)]
theorem evs_other {x y s i : Int} {r0 r1 : PReq} (hx : XOk x y s i) (hb : body r0 ≠ body r1) : evsL x y s i r0 r1 = [evE x y s i r0 r1] := by
  have e : lsE x y s i r0 = [⟨(2, x, y, s, i), r0, sgn 2 x y s r0 i, false⟩] := by
    unfold lsE
    rw [note_one (.inl rfl) (sgn_rgt _ _ _ _ _ hx.i0 hx.i1)]
    rfl
  unfold evsL
  rw [e, note_one (.inl rfl) (sgn_rgt _ _ _ _ _ hx.i0 hx.i1)]
  rw [meet_new (j := 0) (z := ⟨(2, x, y, s, i), r0, sgn 2 x y s r0 i, false⟩) (by simp [keysL, fnd]) rfl (by simp; exact hb)]
  rfl
theorem xok_al : XOk 0 0 1 3 := ⟨by decide, by decide, by decide, by decide, by decide, by decide, by decide, by decide⟩
theorem qok_0 : QOk r00 := ⟨by decide, by decide, by decide, by decide, by decide, by decide⟩
theorem qok_1 : QOk r11 := ⟨by decide, by decide, by decide, by decide, by decide, by decide⟩
theorem chk_nil (n : Int) : chkW [] n = 0 ∧ chkE [] n = 161 := chk_no (by rfl)

set_option maxRecDepth 10000 in
set_option maxHeartbeats 4000000 in
theorem proofAlive_any (w : World) (hT : Tab w) : Calls Tryz.prog 8 #[] w fun e w' => e = .returned (.bool true) ∧ Below w.heap.size w w' := by
  have HE := evidence_any w 0 0 1 3 (.slice none 0 0) (.slice none 0 0) (.slice none 0 0) (.slice none 0 0) r00 r11 (RT.nil _ _) (RT.nil _ _) (RT.nil _ _) (RT.nil _ _) (by decide) (by decide) hT
  rw [evs_other xok_al r_ne] at HE
  have HE : Calls Tryz.prog 15 #[.agg #[.int .i64 0, .int .i64 0], .int .i64 1, .int .i64 3, .agg #[.int .i64 0, .int .i64 0, .slice none 0 0, .slice none 0 0], .agg #[.int .i64 1, .int .i64 1, .slice none 0 0, .slice none 0 0]] w fun e w' => ∃ v', e = .returned v' ∧ RL RMs 23 Any w' v' [evE 0 0 1 3 r00 r11] ∧ Below w.heap.size w w' := HE
  obtain ⟨hmE, hmB⟩ := mk_ev xok_al qok_0 qok_1 r_ne
  obtain ⟨hcW, hcE⟩ := chkW_ev xok_al qok_0 qok_1 r_ne 4
  rw [show (if (Bal.rgt 4 && decide ((3 : Int) < 4)) = true then (3 : Int) else 0) = 3 by rfl] at hcW
  rw [show (if (Bal.rgt 4 && decide ((3 : Int) < 4)) = true then (0 : Int) else 161) = 0 by rfl] at hcE
  generalize evE 0 0 1 3 r00 r11 = M at *
  go_enter Tryz.func8, Tryz.ntmps8
  go_upto_region 2 with (go_at_call 15; refine HE.mono ?_; rintro e w1 ⟨v1, rfl, h1, b1⟩)
  obtain ⟨yb, yo, yc, rfl, _, _, _, _, hya⟩ := h1.at (by simp)
  obtain ⟨ry, _, hrng, sy, rfl, hsy⟩ := hya 0 _ rfl
  have hrng : w1.rangeAt yb yo (mc M sy) := by simpa using hrng
  simp only [List.length_cons, List.length_nil, Nat.zero_add]
  have HMK := make_any w1 M sy hsy (hT.below b1)
  unfold MkP at HMK
  rw [hmE, hmB] at HMK
  have HCK := (show Hid (∀ u v, Below w1.heap.size w1 u → RT Any u v (byM M) → Calls Tryz.prog 9 #[v, .int .i64 4] u fun e w' => e = .returned (.tuple #[.int .i64 3, .int .i64 0]) ∧ Below u.heap.size u w') from fun u v hu hv => by
    have := check_any u v (byM M) hv 4 ((hT.below b1).below hu)
    unfold CkP at this
    rw [hcW, hcE] at this
    exact this)
  have HCN := (show Hid (∀ u, Below w1.heap.size w1 u → Calls Tryz.prog 9 #[.slice none 0 0, .int .i64 4] u fun e w' => e = .returned (.tuple #[.int .i64 0, .int .i64 161]) ∧ Below u.heap.size u w') from fun u hu => by
    have := check_any u (.slice none 0 0) [] (RT.nil _ _) 4 ((hT.below b1).below hu)
    unfold CkP at this
    rw [(chk_nil 4).1, (chk_nil 4).2] at this
    exact this)
  clear HE h1 hya hmE hmB hcW hcE hsy hT
  go_upto_region 5 with (first
    | (refine wpList_load_mid rfl _ _ rfl yb yo rfl (mc M sy) _ hrng Tryz.underlying40 rfl (by kernel_rfl) ?_)
    | (go_at_call 12; refine HMK.mono ?_; rintro e w2 ⟨v2, rfl, t2, b2⟩))
  have HCK := HCK.out w2 v2 b2 t2
  clear HMK hrng t2
  go_upto_region 6 with (go_at_call 9; refine HCK.mono ?_; rintro e w3 ⟨rfl, b3⟩)
  have HCN := HCN.out w3 (below_and b2 (Nat.le_refl _) b3)
  clear HCK
  go_wp2_with (go_at_call 9; refine HCN.mono ?_; rintro e w4 ⟨rfl, b4⟩)
  go_ret
  exact ⟨rfl, below_and (below_and (below_and b1 (Nat.le_refl _) b2) (Nat.le_refl _) b3) (Nat.le_refl _) b4⟩
end Go.Proofs.YtgjepofinpmcpaaGreatDoor
end
