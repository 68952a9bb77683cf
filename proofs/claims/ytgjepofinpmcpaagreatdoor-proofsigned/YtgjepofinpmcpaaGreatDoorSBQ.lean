/- Ledgers in memory: meet whole; what the walk of Note wants. -/
import Derived.Test.YtgjepofinpmcpaaGreatDoorSBF
import Derived.Test.YtgjepofinpmcpaaGreatDoorSBG
import Derived.Test.YtgjepofinpmcpaaGreatDoorSAW
import Derived.Test.YtgjepofinpmcpaaGreatDoorSBH
import Derived.Deep.QuietTactic
import Derived.BigQuiet
import Derived.Test.YtgjepofinpmcpaaGreatDoorSAN
import Derived.Test.YtgjepofinpmcpaaGreatDoorSAR
import Derived.Test.YtgjepofinpmcpaaGreatDoorSBC
import Derived.Test.YtgjepofinpmcpaaGreatDoorSAT
import Derived.Test.YtgjepofinpmcpaaGreatDoorSAL
import Derived.Test.YtgjepofinpmcpaaGreatDoorSAM
import Derived.Test.YtgjepofinpmcpaaGreatDoorSAU
import Derived.Test.YtgjepofinpmcpaaGreatDoorSBP
import Derived.Test.YtgjepofinpmcpaaGreatDoorSAY
import Derived.Test.YtgjepofinpmcpaaGreatDoorSBM
import Derived.Deep.CutBlock
import Derived.Test.YtgjepofinpmcpaaGreatDoorSAZ
set_option linter.unusedSimpArgs false
set_option linter.unusedVariables false
namespace Go.Proofs.YtgjepofinpmcpaaGreatDoor
section
open Go.RowKit Oct
theorem rdFs_app : ∀ (fs gs : List Nat) (m : PMsg) (l : List Int), rdFs (fs ++ gs) m l = (rdFs fs m l).bind fun x => rdFs gs x.1 x.2
  | [], gs, m, l => rfl
  | i :: fs, gs, m, l => by
    simp only [List.cons_append, rdFs]
    cases (cF i).rd l with
    | none => rfl
    | some x => simp only [Option.bind_some]; exact rdFs_app fs gs _ _
theorem rdFs_take {fs : List Nat} {q i : Nat} (hi : fs[q]? = some i) {m m1 : PMsg} {l l1 : List Int} (h : rdFs (fs.take q) m l = some (m1, l1)) {v : FV} {l2 : List Int} (hv : (cF i).rd l1 = some (v, l2)) : rdFs (fs.take (q + 1)) m l = some (set m1 i v, l2) := by
  rw [take_snoc' fs q i hi, rdFs_app, h]
  simp [rdFs, hv]
theorem rdFs_gone {fs : List Nat} {q i : Nat} (hi : fs[q]? = some i) {m m1 : PMsg} {l l1 : List Int} (h : rdFs (fs.take q) m l = some (m1, l1)) (hv : (cF i).rd l1 = none) : rdFs fs m l = none := by
  have e : fs = fs.take (q + 1) ++ fs.drop (q + 1) := (List.take_append_drop _ _).symm
  rw [e, rdFs_app, take_snoc' fs q i hi, rdFs_app, h]
  simp [rdFs, hv]
set_option maxHeartbeats 400000 in
/-- end. -/
theorem rend_any (L : Nat) (w : World) (r : Nat) (bv : Value) (l : List Int) (p : Nat) (hS : RS L w r bv l p) :
    Calls Tryz.prog 38 #[.pointer (some ⟨r, 0, none⟩)] w fun e w' => w.grownBy w' none ∧ ((p = l.length ∧ e = .returned (.tuple #[])) ∨ (p ≠ l.length ∧ e = .panicked [{ v := .iface 24 (.int .i64 51), recovered := false }])) := by
  have c0 := hS.row.cell (j := 0) rfl
  have c1 := hS.row.cell (j := 1) rfl
  obtain ⟨ao, cap, rfl, hc⟩ := hS.rd.form
  have hp := hS.hp
  by_cases h : p = l.length
  · have hq : ((p : Int) != (l.length : Int)) = false := by simp [h]
    go_enter Tryz.func38, Tryz.ntmps38
    go_wp2_with fail
    go_quiet (fail)
    go_wp2_with fail
    go_end0
    exact ⟨⟨rfl, rfl, rfl, Nat.le_refl _, fun _ _ _ => rfl⟩, .inl ⟨h, rfl⟩⟩
  · have hq : ((p : Int) != (l.length : Int)) = true := by simp; omega
    go_enter Tryz.func38, Tryz.ntmps38
    go_wp2_with fail
    go_quiet (fail)
    go_wp2_with fail
    exact ⟨rfl, ⟨rfl, rfl, rfl, Nat.le_refl _, fun _ _ _ => rfl⟩, .inr ⟨h, rfl⟩⟩
/-- What Decode hands back. -/
def DecPost (l : List Int) (w : World) (e : Ending) (w' : World) : Prop :=
  ∃ s, e = .returned (.tuple #[.agg (mc (decM l) s).toArray, .int .i64 (decE l)]) ∧ SOk (From w.heap.size) w' (decM l) s ∧ Below w.heap.size w w'
theorem dec_results (w : World) (tmps : Array Value) (pm pe : Nat) (vm : List Value) (hvl : vm.length = 23) (ve : Value) (hm : Row w pm 40 vm) (he : Row w pe 24 [ve])
    (h2 : tmps.getD 2 undef = .pointer (some ⟨pm, 0, none⟩)) (h3 : tmps.getD 3 undef = .pointer (some ⟨pe, 0, none⟩)) : (results Tryz.f19 tmps).run Tryz.prog w = .ok (.tuple #[.agg vm.toArray, ve]) w := by
  have c1 := he.cell (j := 0) rfl
  have hi : (Tryz.prog.info? 40).map (·.size) = some vm.toArray.size := by rw [List.size_toArray, hvl]; kernel_rfl
  have hld := run_loadVar_row (P := Tryz.prog) w pm 40 40 vm.toArray (0, 0) _ hm Tryz.underlying40 rfl hi
  simp only [Array.getD_eq_getD_getElem?] at h2 h3
  have hle : (loadVar 24 ⟨pe, 0, none⟩).run Tryz.prog w = .ok ve w := by simp [go_sem, c1]
  simp [results, Tryz.results19, asAddr, h2, h3, hld, hle]
theorem decE_bad {l : List Int} (hl : ¬ 1048576 < l.length) (h : rdM l = none) : decE l = 51 ∧ decM l = zeroM := by
  unfold decE decM
  rw [if_neg hl, if_neg hl, h]
  exact ⟨rfl, rfl⟩
theorem decE_many {l : List Int} (hl : 1048576 < l.length) : decE l = 53 ∧ decM l = zeroM := by
  unfold decE decM
  rw [if_pos hl, if_pos hl]
  exact ⟨rfl, rfl⟩
theorem decE_ok {l : List Int} (hl : ¬ 1048576 < l.length) {m : PMsg} (h : rdM l = some m) : decE l = 0 ∧ decM l = m := by
  unfold decE decM
  rw [if_neg hl, if_neg hl, h]
  exact ⟨rfl, rfl⟩
theorem dec_gave (w w1 : World) (l : List Int) (pm pe : Nat) (m : PMsg) (s : SV) (ve : Value) (hm : Row w1 pm 40 (mc m s)) (he : Row w1 pe 24 [ve]) (hne : pm ≠ pe) (hB : Below w.heap.size w w1) (hpm : w.heap.size ≤ pm) (hpe : w.heap.size ≤ pe)
    (hl : ¬ 1048576 < l.length) (hr : rdM l = none) (tmps : Array Value) (h2 : tmps.getD 2 undef = .pointer (some ⟨pm, 0, none⟩)) (h3 : tmps.getD 3 undef = .pointer (some ⟨pe, 0, none⟩)) :
    bodyPostD Tryz.prog Tryz.f19 (DecPost l w) (.panic [{ v := .iface 24 (.int .i64 51), recovered := false }])
      { tmps := tmps, defers := [{ target := .fn (.func 34) #[.pointer (some ⟨pm, 0, none⟩), .pointer (some ⟨pe, 0, none⟩)], args := #[] }] } w1 := by
  refine leaves_cons (f := 34) (args := #[.pointer (some ⟨pm, 0, none⟩), .pointer (some ⟨pe, 0, none⟩)]) (by simp) (by simp [go_sem]) ?_
  refine (decCatch pm pe 51 m s ve w1 hm he hne).mono ?_
  rintro e u' w2 ⟨rfl, rfl, hr1, hr2, two⟩
  obtain ⟨e1, e2⟩ := decE_bad hl hr
  exact ⟨_, dec_results w2 tmps pm pe _ rfl _ hr1 hr2 h2 h3, sv0, by rw [e1, e2], by rw [e2]; exact SOk.zero _ _ 0, Two.below hB two (Nat.le_refl _) hpm hpe⟩
theorem dec_back (w w1 : World) (l : List Int) (pm pe : Nat) (m : PMsg) (s : SV) (hm : Row w1 pm 40 (mc m s)) (he : Row w1 pe 24 [.int .i64 0]) (hB : Below w.heap.size w w1)
    (hl : ¬ 1048576 < l.length) (hr : rdM l = some m) (hs : SOk (From w.heap.size) w1 m s) (tmps : Array Value) (h2 : tmps.getD 2 undef = .pointer (some ⟨pm, 0, none⟩)) (h3 : tmps.getD 3 undef = .pointer (some ⟨pe, 0, none⟩)) :
    bodyPostD Tryz.prog Tryz.f19 (DecPost l w) .ret
      { tmps := tmps, defers := [{ target := .fn (.func 34) #[.pointer (some ⟨pm, 0, none⟩), .pointer (some ⟨pe, 0, none⟩)], args := #[] }] } w1 := by
  refine leaves_cons (f := 34) (args := #[.pointer (some ⟨pm, 0, none⟩), .pointer (some ⟨pe, 0, none⟩)]) (by simp) (by simp [go_sem]) ?_
  refine (decIdle pm pe w1).mono ?_
  rintro e u' w2 ⟨rfl, rfl, rfl⟩
  obtain ⟨e1, e2⟩ := decE_ok hl hr
  exact ⟨_, dec_results _ tmps pm pe _ rfl _ hm he h2 h3, s, by rw [e1, e2], by rw [e2]; exact hs, hB⟩
theorem DS.below {w00 : World} {L it : Nat} {w w' : World} {r pm : Nat} {bv : Value} {l : List Int} {p : Nat} {m : PMsg} (h : DS w00 L it w r pm bv l p m) (hb : Below w.heap.size w w') : DS w00 L it w' r pm bv l p m := by
  obtain ⟨s, hm, hs⟩ := h.mrow
  exact ⟨below_and h.bel (Nat.le_refl _) hb, h.bytes, h.rlo, h.plo, h.rL, h.pL, h.ne, Nat.le_trans h.hL hb.size, h.row.below hb, ⟨s, hm.below hb, hs.mv hb.size (Mv.belowG hb)⟩, h.hp, h.hl, Nat.lt_of_lt_of_le h.itw hb.size⟩
/-- The iterator is laid. -/
theorem DS.turn {w00 : World} {L it it' : Nat} {w : World} {r pm : Nat} {bv : Value} {l : List Int} {p : Nat} {m : PMsg} (h : DS w00 L it w r pm bv l p m) (s : ByteArray) (hit : it' = w.heap.size) : DS w00 L it' (w.iter s 0) r pm bv l p m := by
  subst hit
  have hb : Below w.heap.size w (w.iter s 0) := (Below.refl _ w).alloc (Nat.le_refl _) _
  obtain ⟨sv, hm, hs⟩ := h.mrow
  refine ⟨below_and h.bel (Nat.le_refl _) hb, h.bytes, h.rlo, h.plo, h.rL, h.pL, h.ne, Nat.le_trans h.hL hb.size, h.row.below hb, ⟨sv, hm.below hb, hs.mv hb.size fun k hk hlt => ⟨hb.block k hlt, hk.1, by omega⟩⟩, h.hp, h.hl, ?_⟩
  simp [World.iter]
theorem DS.iter {w00 : World} {L it : Nat} {w : World} {r pm : Nat} {bv : Value} {l : List Int} {p : Nat} {m : PMsg} (h : DS w00 L it w r pm bv l p m) {s : ByteArray} {q : Nat} (hk : w.heap[it]? = some (.stringIter s q)) (h0 : w00.heap.size ≤ it) (q' : Nat) : DS w00 L it (w.iterAt it s q') r pm bv l p m := by
  have hne : ∀ k t xs, Row w k t xs → k ≠ it := fun k t xs h e => by unfold Row at h; rw [e, hk] at h; cases h
  obtain ⟨sv, hm, hs⟩ := h.mrow
  exact ⟨Lib.below_iterAt h.bel h0 s q', h.bytes, h.rlo, h.plo, h.rL, h.pL, h.ne, by rw [Lib.iterAt_size]; exact h.hL, iter_low h.row (hne _ _ _ h.row), ⟨sv, iter_low hm (hne _ _ _ hm), hs.mv (by rw [Lib.iterAt_size]; exact Nat.le_refl _) fun k hk _ => ⟨Lib.iterAt_other w it k s q' hk.2, hk⟩⟩, h.hp, h.hl, by rw [Lib.iterAt_size]; exact h.itw⟩
theorem two_iter {a b : Nat} {w w' : World} {k : Nat} {s : ByteArray} {p : Nat} (h : Two a b w w') (hk : w.heap[k]? = some (.stringIter s p)) (ha : k ≠ a) (hb : k ≠ b) : w'.heap[k]? = some (.stringIter s p) := by
  rw [h.block k (Array.getElem?_eq_some_iff.1 hk).1 ha hb]
  exact hk
theorem Row.two {a b k : Nat} {w w' : World} {t : TypeId} {xs : List Value} (h : Row w k t xs) (ht : Two a b w w') (ha : k ≠ a) (hb : k ≠ b) : Row w' k t xs := (ht.block k h.lt ha hb).trans h
theorem rdM_kind {l : List Int} (h : cN.rd l = none) : rdM l = none := by simp [rdM, rdG, h]
theorem rdM_fl {l l1 : List Int} {k : Int} (h : cN.rd l = some (k, l1)) (hf : fl k = []) : rdM l = none := by simp [rdM, rdG, h, hf]
theorem rdM_fs {l l1 : List Int} {k : Int} (h : cN.rd l = some (k, l1)) (hr : rdFs (fl k) { zeroM with kind := k } l1 = none) : rdM l = none := by
  simp only [rdM, rdG, h, Option.bind_some]
  split
  · rfl
  · rw [hr]; rfl
theorem rdM_trail {l l1 l2 : List Int} {k : Int} {m : PMsg} (h : cN.rd l = some (k, l1)) (hr : rdFs (fl k) { zeroM with kind := k } l1 = some (m, l2)) (h2 : l2 ≠ []) : rdM l = none := by
  simp only [rdM, rdG, h, Option.bind_some]
  split
  · rfl
  · rw [hr]; simp [h2]
theorem rdM_whole {l l1 : List Int} {k : Int} {m : PMsg} (h : cN.rd l = some (k, l1)) (hf : fl k ≠ []) (hr : rdFs (fl k) { zeroM with kind := k } l1 = some (m, [])) : rdM l = some m := by
  simp only [rdM, rdG, h, Option.bind_some]
  rw [if_neg (by simpa using hf), hr]
  rfl
end
section
open Go.RowKit Oct
theorem dec_req (x y : PReq) : decide (x = y) = (x.1 == y.1 && x.2.1 == y.2.1 && decide (x.2.2.1 = y.2.2.1) && decide (x.2.2.2 = y.2.2.2)) := by
  rw [Bool.eq_iff_iff]
  simp only [decide_eq_true_eq, Bool.and_eq_true, beq_iff_eq, Prod.ext_iff, and_assoc]
set_option maxHeartbeats 2000000 in
/-- SameReq. -/
theorem sameReq_any (w : World) (r1 r2 : List Value) (x y : PReq) (h1 : RReq Any w r1 x) (h2 : RReq Any w r2 y) :
    Calls Tryz.prog 17 #[.agg r1.toArray, .agg r2.toArray] w fun e w' => e = .returned (.bool (decide (x = y))) ∧ Below w.heap.size w w' := by
  obtain ⟨o1, g1, rfl, ho1, hg1⟩ := h1
  obtain ⟨o2, g2, rfl, ho2, hg2⟩ := h2
  obtain ⟨w2, hw2⟩ : ∃ w2, w2 = (w.alloc (.cells #[.int .i64 x.1, .int .i64 x.2.1, o1, g1] 34)).alloc (.cells #[.int .i64 y.1, .int .i64 y.2.1, o2, g2] 34) := ⟨_, rfl⟩
  have ra : Row w2 w.heap.size 34 [.int .i64 x.1, .int .i64 x.2.1, o1, g1] := by rw [hw2]; exact row_alloc (Row.new w 34 _) _
  have rb : Row w2 (w.heap.size + 1) 34 [.int .i64 y.1, .int .i64 y.2.1, o2, g2] := by
    rw [hw2]
    have := Row.new (w.alloc (.cells #[.int .i64 x.1, .int .i64 x.2.1, o1, g1] 34)) 34 [.int .i64 y.1, .int .i64 y.2.1, o2, g2]
    simpa using this
  have hB : Below w.heap.size w w2 := by rw [hw2]; exact ((Below.refl _ w).alloc (Nat.le_refl _) _).alloc (by simp) _
  have a0 := ra.cell (j := 0) rfl; have a1 := ra.cell (j := 1) rfl; have a2 := ra.cell (j := 2) rfl; have a3 := ra.cell (j := 3) rfl
  have b0 := rb.cell (j := 0) rfl; have b1 := rb.cell (j := 1) rfl; have b2 := rb.cell (j := 2) rfl; have b3 := rb.cell (j := 3) rfl
  have sO := same_any w2 o1 o2 _ _ (ho1.mv (Mv.below hB)).1 (ho2.mv (Mv.below hB)).1
  have sG := same_any w2 g1 g2 _ _ (hg1.mv (Mv.below hB)).1 (hg2.mv (Mv.below hB)).1
  rw [dec_req]
  clear ra rb ho1 hg1 ho2 hg2
  generalize x.1 = xa at *; generalize x.2.1 = xb at *; generalize y.1 = ya at *; generalize y.2.1 = yb at *
  generalize decide (x.2.2.1 = y.2.2.1) = dO at *
  generalize decide (x.2.2.2 = y.2.2.2) = dG at *
  go_enter Tryz.func17, Tryz.ntmps17
  go_upto_region 1 with fail
  rw [← hw2]
  clear hw2
  cases ha : (xa == ya)
  · go_wp2_with fail
    go_ret
    exact ⟨by rw [ha]; rfl, hB⟩
  cases hb : (xb == yb)
  · go_wp2_with fail
    go_ret
    exact ⟨by rw [ha, hb]; rfl, hB⟩
  cases dO with
  | false =>
    go_wp2_with (go_at_call 11; refine sO.mono ?_; rintro e w3 ⟨rfl, rfl⟩)
    go_ret
    exact ⟨by rw [ha, hb]; rfl, hB⟩
  | true =>
    go_wp2_with fail
    refine sO.mono ?_
    rintro e w3 ⟨rfl, rfl⟩
    go_wp2_with fail
    refine sG.mono ?_
    rintro e w3 ⟨rfl, rfl⟩
    go_wp2_with fail
    go_ret
    exact ⟨by rw [ha, hb]; cases dG <;> rfl, hB⟩
end
section
open Go.RowKit Oct
set_option maxRecDepth 10000 in
set_option maxHeartbeats 2000000 in
/-- msg.Body. -/
theorem body_any (w : World) (r : List Value) (x : PReq) (h : RReq Any w r x) (hz : tot [x.2.2.1, x.2.2.2] ≤ 10000000) :
    Calls Tryz.prog 21 #[.agg r.toArray] w fun e w' => ∃ v', e = .returned v' ∧ Own w' 5 v' (bc (body x)) ∧ Fr w.heap.size v' ∧ Below w.heap.size w w' := by
  obtain ⟨vo, vg, rfl, ho, hg⟩ := h
  obtain ⟨oo, oc, rfl, hoc⟩ := ho.form
  obtain ⟨go, gc, rfl, hgc⟩ := hg.form
  generalize hvo : Value.slice oo x.2.2.1.length oc = vo at *
  generalize hvg : Value.slice go x.2.2.2.length gc = vg at *
  obtain ⟨w2, hw2⟩ : ∃ w2, w2 = (w.alloc (.cells #[.int .i64 x.1, .int .i64 x.2.1, vo, vg] 34)) := ⟨_, rfl⟩
  have ra : Row w2 w.heap.size 34 [.int .i64 x.1, .int .i64 x.2.1, vo, vg] := by rw [hw2]; exact Row.new w 34 _
  have hB : Below w.heap.size w w2 := by rw [hw2]; exact ((Below.refl _ w).alloc (Nat.le_refl _) _)
  have a0 := ra.cell (j := 0) rfl
  go_enter Tryz.func21, Tryz.ntmps21
  go_upto_region 1 with fail
  rw [← hw2]
  clear hw2
  have a1 := ra.cell (j := 1) rfl
  have hdw : Below w2.heap.size w2 w2.drew := ⟨rfl, rfl, rfl, Nat.le_refl _, fun _ _ => rfl⟩
  have SK := (show Hid (∀ u, Below w2.heap.size w2 u → u.cell? ⟨w.heap.size, 0, none⟩ = some (.int .i64 x.1) ∧ u.cell? ⟨w.heap.size, 1, none⟩ = some (.int .i64 x.2.1)) from fun u hu => ⟨(hu.cell (p := ⟨w.heap.size, 0, none⟩) ra.lt).trans a0, (hu.cell (p := ⟨w.heap.size, 1, none⟩) ra.lt).trans a1⟩)
  have hA := appendWord_any w2.drew (.slice none 0 0) [] x.1 (Own.nil _ _) (by simp)
  rw [List.nil_append] at hA
  have HA := (show Hid (∀ _ : Unit, _) from fun _ => hA)
  clear hA
  go_wp2_with fail
  go_region_held3 (fun u => u.cell? ⟨w.heap.size, 0, none⟩ = some (.int .i64 x.1) ∧ u.cell? ⟨w.heap.size, 1, none⟩ = some (.int .i64 x.2.1))
    (first | exact SK.out _ (by assumption) | go_keep)
    (first
      | (go_at_call 42; refine (appendWord_any w3 v3 (le8 (u64 x.1)) x.2.1 happ3.own (by rw [le8_len]; decide)).mono ?_; rintro e w4 ⟨v4, rfl, happ4⟩; have hb4 : Below w2.heap.size w2 w4 := hb3.trans (happ4.below (happ3.fr (Fr.nil _) (Nat.le_refl _)) hb3.size))
      | (go_at_call 42; refine (HA.out ()).mono ?_; rintro e w3 ⟨v3, rfl, happ3⟩; have hb3 : Below w2.heap.size w2 w3 := hdw.trans (happ3.below (Fr.nil _) (Nat.le_refl _))))
  have ra4 := ra.below hb4
  have c2 := ra4.cell (j := 2) rfl
  have c3 := ra4.cell (j := 3) rfl
  have hB4 := below_and hB (Nat.le_refl _) hb4
  have ho4 := (ho.mv (Mv.below hB4)).1
  have hg4 := (hg.mv (Mv.below hB4)).1
  have hf3 := happ3.fr (Fr.nil w2.drew.heap.size) (Nat.le_refl _)
  have hf4 := happ4.fr hf3 hb3.size
  have hown4 := happ4.own
  have hl : Rdl (w4.alloc (.cells #[vo, vg] 23)) (.slice (some ⟨w4.heap.size, 0, none⟩) 2 2) [x.2.2.1, x.2.2.2] :=
    ⟨[vo, vg], Own.rdv (e := 23) (World.ownsRow_lit (base := 0) (size := 1) w4 #[vo, vg] 2 (Nat.zero_le _) (by decide) rfl), ho4.below (below_alloc _ _), hg4.below (below_alloc _ _), trivial⟩
  have hP := pack_any _ _ _ hl hz
  clear ra ra4 a0 a1 hdw SK HA happ3 happ4 hf3 hl ho4 hg4
  subst hvo hvg
  go_wp2_with fail
  refine hP.mono ?_
  rintro e w5 ⟨v5, rfl, hown5, hfr5, hb5⟩
  have hb45 : Below w4.heap.size w4 w5 := (below_alloc w4 _).trans (hb5.mono (by simp))
  have hB5 := below_and hB4 (Nat.le_refl _) hb45
  have hown4' := hown4.below hb45
  have hrd5 := hown5.rdv
  have hf4w : Fr w.heap.size v4 := hf4.mono hB.size
  have hpl := packL_len [x.2.2.1, x.2.2.2]
  have h16 : (le8 (u64 x.1) ++ le8 (u64 x.2.1)).length = 16 := rfl
  have HL := (show Hid ((le8 (u64 x.1) ++ le8 (u64 x.2.1)).length + (packL [x.2.2.1, x.2.2.2]).length ≤ 140737488355328) by show _ ≤ _; omega)
  clear hP hown4 hown5 hfr5 hb5 hb45 hf4 hb3 hpl h16 c2 c3 hb4
  go_wp2_with (at_builtin; refine app_bytes rfl _ _ rfl v4 _ rfl hown4' v5 _ rfl hrd5 HL.out ?_; intro v6 w6 happ6)
  go_ret
  exact ⟨_, rfl, happ6.own, happ6.fr hf4w hB5.size, hB5.trans (happ6.below hf4w hB5.size)⟩
end
section
open Go.RowKit Oct Kvl
/-- The first vote at a place, and whether another one was told. -/
structure PSn where
  key : PK
  req : PReq
  sig : List Int
  told : Bool
def ev0 (q : PK) (r1 : PReq) (s1 : List Int) (r2 : PReq) (s2 : List Int) : PMsg :=
  { zeroM with kind := 13, idx := q.1, bal := (q.2.1, q.2.2.1), slot := q.2.2.2.1, frm := q.2.2.2.2, req := r1, sig := s1, oth := r2, data := s2 }
def evL (q : PK) (r1 : PReq) (s1 : List Int) (r2 : PReq) (s2 : List Int) : PMsg :=
  if 0 < cmpL (body r1) (body r2) then ev0 q r2 s2 r1 s1 else ev0 q r1 s1 r2 s2
def keysL (ls : List PSn) : List PK := ls.map (·.key)
def meetL (ls : List PSn) (q : PK) (r : PReq) (g : List Int) : List PSn × List PMsg :=
  match fnd q (keysL ls) with
  | none => (if ls.length < 8192 then ls ++ [⟨q, r, g, false⟩] else ls, [])
  | some j => match ls[j]? with
    | none => (ls, [])
    | some z => if z.told = true ∨ body z.req = body r then (ls, []) else (ls.set j { z with told := true }, [evL q z.req z.sig r g])
def rgtV (k x y s : Int) (r : PReq) (v : PVote) : Bool := verL (repL v.1) v.2 (sL ⟨#[118, 111, 116, 101]⟩) [numsL [k, x, y, s], body r]
def stpL (k x y s : Int) (r : PReq) (st : List PSn × List PMsg) (v : PVote) : List PSn × List PMsg :=
  if rgtV k x y s r v = true then ((meetL st.1 (k, x, y, s, v.1) r v.2).1, st.2 ++ (meetL st.1 (k, x, y, s, v.1) r v.2).2) else st
def noteV (ls : List PSn) (k x y s : Int) (r : PReq) (vs : List PVote) : List PSn × List PMsg := vs.foldl (stpL k x y s r) (ls, [])
def noteL (ls : List PSn) (k x y s : Int) (r : PReq) (vs : List PVote) : List PSn × List PMsg := if k = 2 ∨ k = 3 then noteV ls k x y s r vs else (ls, [])
def cutL (ls : List PSn) (s : Int) : List PSn := ls.filter fun z => decide (s < z.key.2.2.2.1)
/-- How great what is kept may be. -/
def okS (z : PSn) : Prop := tot [z.req.2.2.1, z.req.2.2.2] ≤ 2000000 ∧ szT z.sig
/-- What every ledger is. -/
structure OkL (ls : List PSn) : Prop where
  dup : (keysL ls).Nodup
  ok : ∀ z ∈ ls, okS z
  len : ls.length ≤ 8192
theorem OkL.nil : OkL [] := ⟨by simp [keysL], by simp, by simp⟩
theorem keys_set {ls : List PSn} {j : Nat} {z y : PSn} (hz : ls[j]? = some z) (hk : y.key = z.key) : keysL (ls.set j y) = keysL ls := by
  unfold keysL
  rw [List.map_set]
  refine List.ext_getElem? fun i => ?_
  rw [List.getElem?_set]
  by_cases hi : j = i
  · subst hi
    have hjl := (List.getElem?_eq_some_iff.1 hz).1
    simp [hjl, hk, hz]
    have := (List.getElem?_eq_some_iff.1 hz).2
    rw [this]
  · simp [hi]
theorem fnd_at {ls : List PSn} {q : PK} {j : Nat} (h : fnd q (keysL ls) = some j) : ∃ z, ls[j]? = some z ∧ z.key = q := by
  obtain ⟨h1, h2⟩ := fnd_lt h
  unfold keysL at h2
  rw [List.getElem?_map] at h2
  cases hz : ls[j]? with
  | none => simp [hz] at h2
  | some z =>
    simp [hz] at h2
    exact ⟨z, rfl, h2⟩
theorem meet_none {ls : List PSn} {q : PK} {r : PReq} {g : List Int} (h : fnd q (keysL ls) = none) : meetL ls q r g = (if ls.length < 8192 then ls ++ [⟨q, r, g, false⟩] else ls, []) := by
  unfold meetL; rw [h]
theorem meet_old {ls : List PSn} {q : PK} {r : PReq} {g : List Int} {j : Nat} {z : PSn} (h : fnd q (keysL ls) = some j) (hz : ls[j]? = some z) (ht : z.told = true ∨ body z.req = body r) : meetL ls q r g = (ls, []) := by
  unfold meetL; simp only [h, hz, if_pos ht]
theorem meet_new {ls : List PSn} {q : PK} {r : PReq} {g : List Int} {j : Nat} {z : PSn} (h : fnd q (keysL ls) = some j) (hz : ls[j]? = some z) (ht : ¬ (z.told = true ∨ body z.req = body r)) :
    meetL ls q r g = (ls.set j { z with told := true }, [evL q z.req z.sig r g]) := by
  unfold meetL; simp only [h, hz, if_neg ht]
theorem OkL.meet {ls : List PSn} (h : OkL ls) (q : PK) {r : PReq} {g : List Int} (hr : tot [r.2.2.1, r.2.2.2] ≤ 2000000) (hg : szT g) : OkL (meetL ls q r g).1 := by
  cases hf : fnd q (keysL ls) with
  | none =>
    rw [meet_none hf]
    by_cases hl : ls.length < 8192
    · simp only [if_pos hl]
      refine ⟨?_, ?_, by simp; omega⟩
      · unfold keysL
        rw [List.map_append, List.nodup_append]
        refine ⟨h.dup, by simp, ?_⟩
        intro a ha c hc
        simp at hc
        subst hc
        exact fun e => fnd_none hf (e ▸ ha)
      · intro z hz
        rcases List.mem_append.1 hz with hz | hz
        · exact h.ok z hz
        · simp at hz
          subst hz
          exact ⟨hr, hg⟩
    · simp only [if_neg hl]
      exact h
  | some j =>
    obtain ⟨z, hz, hk⟩ := fnd_at hf
    by_cases ht : z.told = true ∨ body z.req = body r
    · rw [meet_old hf hz ht]
      exact h
    · rw [meet_new hf hz ht]
      refine ⟨?_, ?_, by simpa using h.len⟩
      · have := keys_set (y := { z with told := true }) hz rfl
        rw [this]
        exact h.dup
      · intro y hy
        rcases List.mem_or_eq_of_mem_set hy with hy | rfl
        · exact h.ok y hy
        · exact h.ok z (List.mem_of_getElem? hz)
theorem OkL.cut {ls : List PSn} (h : OkL ls) (s : Int) : OkL (cutL ls s) :=
  ⟨by unfold cutL keysL; exact (List.filter_sublist.map _).nodup h.dup, fun z hz => h.ok z (List.mem_filter.1 hz).1, Nat.le_trans (List.length_filter_le _ _) h.len⟩
theorem noteV_take {ls : List PSn} {k x y s : Int} {r : PReq} {vs : List PVote} {i : Nat} {v : PVote} (h : vs[i]? = some v) : noteV ls k x y s r (vs.take (i + 1)) = stpL k x y s r (noteV ls k x y s r (vs.take i)) v := by
  unfold noteV
  rw [List.take_add_one, h, List.foldl_append]
  rfl
theorem stp_no {k x y s : Int} {r : PReq} {st : List PSn × List PMsg} {v : PVote} (h : rgtV k x y s r v = false) : stpL k x y s r st v = st := by unfold stpL; simp [h]
theorem stp_yes {k x y s : Int} {r : PReq} {st : List PSn × List PMsg} {v : PVote} (h : rgtV k x y s r v = true) : stpL k x y s r st v = ((meetL st.1 (k, x, y, s, v.1) r v.2).1, st.2 ++ (meetL st.1 (k, x, y, s, v.1) r v.2).2) := by unfold stpL; simp [h]
theorem meet_one (ls : List PSn) (q : PK) (r : PReq) (g : List Int) : (meetL ls q r g).2.length ≤ 1 := by
  unfold meetL
  split
  · simp
  · split
    · simp
    · split <;> simp
theorem OkL.stp {st : List PSn × List PMsg} (h : OkL st.1) (k x y s : Int) {r : PReq} (hr : tot [r.2.2.1, r.2.2.2] ≤ 2000000) {v : PVote} (hg : szT v.2) : OkL (stpL k x y s r st v).1 := by
  unfold stpL
  split
  · exact h.meet _ hr hg
  · exact h
theorem stp_len (k x y s : Int) (r : PReq) (st : List PSn × List PMsg) (v : PVote) : (stpL k x y s r st v).2.length ≤ st.2.length + 1 := by
  unfold stpL
  split
  · have := meet_one st.1 (k, x, y, s, v.1) r v.2
    simp
    omega
  · omega
theorem note_inv {k x y s : Int} {r : PReq} (hr : tot [r.2.2.1, r.2.2.2] ≤ 2000000) : ∀ (vs : List PVote) (st : List PSn × List PMsg), OkL st.1 → (∀ v ∈ vs, szT v.2) → OkL (vs.foldl (stpL k x y s r) st).1 ∧ (vs.foldl (stpL k x y s r) st).2.length ≤ st.2.length + vs.length
  | [], st, h, _ => ⟨h, by simp⟩
  | v :: vs, st, h, hv => by
    obtain ⟨h1, h2⟩ := note_inv hr vs (stpL k x y s r st v) (h.stp k x y s hr (hv v (by simp))) (fun u hu => hv u (by simp [hu]))
    have := stp_len k x y s r st v
    refine ⟨h1, ?_⟩
    simp only [List.foldl_cons, List.length_cons]
    omega
theorem OkL.noteV {ls : List PSn} (h : OkL ls) (k x y s : Int) {r : PReq} (hr : tot [r.2.2.1, r.2.2.2] ≤ 2000000) {vs : List PVote} (hv : ∀ v ∈ vs, szT v.2) : OkL (noteV ls k x y s r vs).1 := (note_inv hr vs (ls, []) h hv).1
theorem noteV_len {ls : List PSn} (h : OkL ls) (k x y s : Int) {r : PReq} (hr : tot [r.2.2.1, r.2.2.2] ≤ 2000000) {vs : List PVote} (hv : ∀ v ∈ vs, szT v.2) : (Go.Proofs.YtgjepofinpmcpaaGreatDoor.noteV ls k x y s r vs).2.length ≤ vs.length := by
  have := (note_inv (k := k) (x := x) (y := y) (s := s) hr vs (ls, []) h hv).2
  simpa [Go.Proofs.YtgjepofinpmcpaaGreatDoor.noteV] using this
theorem body_byt {r : PReq} (h1 : Byt r.2.2.1) (h2 : Byt r.2.2.2) (hr : tot [r.2.2.1, r.2.2.2] ≤ 2000000) : Byt (body r) :=
  Byt.app (Byt.app (le8_byt _) (le8_byt _)) (packL_byt (ll := [r.2.2.1, r.2.2.2]) (fun l hl => by
    simp only [List.mem_cons, List.not_mem_nil, or_false] at hl
    rcases hl with rfl | rfl
    · exact h1
    · exact h2) (by omega))
theorem body_len {r : PReq} (hr : tot [r.2.2.1, r.2.2.2] ≤ 2000000) : (body r).length ≤ 3000000 := by
  unfold body
  rw [List.length_append, List.length_append, le8_len, le8_len]
  have h1 := enc_len r.2.2.1.length
  have h2 := enc_len r.2.2.2.length
  simp only [tot] at hr
  simp only [packL, List.length_append, List.length_nil]
  omega
end
section
open Go.RowKit Oct Kvl
/-- A choice: a request, a signature, whether a conflict was told. -/
def RCh (G : Nat → Prop) (w : World) (v : Value) (r : PReq) (g : List Int) (t : Bool) : Prop :=
  ∃ o p s, v = .agg #[.int .i64 r.1, .int .i64 r.2.1, o, p, s, .bool t] ∧ RT G w o r.2.2.1 ∧ RT G w p r.2.2.2 ∧ RT G w s g
theorem RCh.mv {G G' : Nat → Prop} {w w' : World} {v : Value} {r : PReq} {g : List Int} {t : Bool} (h : RCh G w v r g t) (hm : Mv G G' w w') : RCh G' w' v r g t := by
  obtain ⟨o, p, s, e, h1, h2, h3⟩ := h
  exact ⟨o, p, s, e, h1.mv hm, h2.mv hm, h3.mv hm⟩
/-- A ledger at block b, its map at block m. -/
structure Lg (G : Nat → Prop) (w : World) (b m : Nat) (ls : List PSn) : Prop where
  row : Row w b 114 [.map (some m)]
  ok : OkL ls
  map : ∃ l, Mp w m l ∧ All2 (fun (z : PK × Value) (y : PSn) => z.1 = y.key ∧ RCh G w z.2 y.req y.sig y.told) l ls
/-- Not block m. -/
def NM (m : Nat) : Nat → Prop := fun k => k ≠ m
theorem Lg.ne {G : Nat → Prop} {w : World} {b m : Nat} {ls : List PSn} (h : Lg G w b m ls) : b ≠ m := by
  rintro rfl
  obtain ⟨l, h1, _⟩ := h.map
  have h2 := h.row.cell (j := 0) rfl
  rw [h1.nocell 0] at h2
  cases h2
theorem Lg.mv {G G' : Nat → Prop} {w w' : World} {b m : Nat} {ls : List PSn} (h : Lg G w b m ls) (hb : w'.heap[b]? = w.heap[b]?) (hmb : w'.heap[m]? = w.heap[m]?) (hm : Mv G G' w w') : Lg G' w' b m ls := by
  obtain ⟨l, h1, h2⟩ := h.map
  refine ⟨hb.trans h.row, h.ok, l, ?_, h2.mono fun z y hz => ⟨hz.1, hz.2.mv hm⟩⟩
  obtain ⟨es, clock, h3, h4⟩ := h1
  exact ⟨es, clock, hmb.trans h3, h4⟩
theorem Lg.below {G : Nat → Prop} {w w' : World} {b m : Nat} {ls : List PSn} (h : Lg G w b m ls) (hb : Below w.heap.size w w') : Lg G w' b m ls := by
  obtain ⟨l, h1, h2⟩ := h.map
  exact h.mv (hb.block b h.row.lt) (hb.block m h1.lt) (Mv.belowG hb)
theorem Lg.lt {G : Nat → Prop} {w : World} {b m : Nat} {ls : List PSn} (h : Lg G w b m ls) : b < w.heap.size ∧ m < w.heap.size := by
  obtain ⟨l, h1, h2⟩ := h.map
  exact ⟨h.row.lt, h1.lt⟩
theorem Mv.nm {m : Nat} {G : Nat → Prop} {w w' : World} (hG : ∀ k, G k → k ≠ m) (hg : w.grownBy w' (some m)) : Mv G G w w' := fun k hk hlt => ⟨hg.block k hlt (fun e => hG k hk (by injection e)), hk⟩
theorem newG_any (w : World) : Calls Tryz.prog 32 #[] w fun e w' => e = .returned (.pointer (some ⟨w.heap.size + 1, 0, none⟩)) ∧ Lg (NM w.heap.size) w' (w.heap.size + 1) w.heap.size [] ∧ Below w.heap.size w w' := by
  have hmm := @run_makeMap Tryz.prog
  have hm1 := Mp.made w
  obtain ⟨w1, hw1⟩ : ∃ w1, w1 = w.alloc (.map #[] 0) := ⟨_, rfl⟩
  have hs : w1.heap.size = w.heap.size + 1 := by rw [hw1]; simp
  have hb1 : Below w.heap.size w w1 := by rw [hw1]; exact below_alloc _ _
  rw [← hw1] at hm1
  go_enter Tryz.func32, Tryz.ntmps32
  go_wp2_with fail
  go_ret
  rw [← hw1]
  have hr := Row.new w1 114 [.map (some w.heap.size)]
  rw [hs] at hr
  exact ⟨rfl, ⟨hr, OkL.nil, [], hm1.below (below_alloc _ _), trivial⟩, hb1.alloc hb1.size _⟩
theorem lenG_any {G : Nat → Prop} (w : World) (b m : Nat) (ls : List PSn) (h : Lg G w b m ls) : Calls Tryz.prog 131 #[.pointer (some ⟨b, 0, none⟩)] w fun e w' => e = .returned (.int .i64 (ls.length : Int)) ∧ w' = w := by
  have c0 := h.row.cell (j := 0) rfl
  obtain ⟨l, h1, h2⟩ := h.map
  have hln := h1.len
  rw [h2.len] at hln
  clear h h1 h2
  go_enter Tryz.func131, Tryz.ntmps131
  go_wp2_with fail
  go_ret
  exact ⟨rfl, rfl⟩
end
section
open Go.RowKit Oct Kvl
theorem All2.setR {α β : Type} {R : α → β → Prop} : ∀ {ps : List α} {bs : List β} {j : Nat} {a : α} {b : β}, All2 R ps bs → R a b → All2 R (ps.set j a) (bs.set j b)
  | [], [], j, a, b, _, _ => by simp [All2]
  | x :: ps, y :: bs, 0, a, b, h, hr => ⟨hr, h.2⟩
  | x :: ps, y :: bs, j + 1, a, b, h, hr => ⟨h.1, All2.setR h.2 hr⟩
  | [], _ :: _, _, _, _, h, _ => h.elim
  | _ :: _, [], _, _, _, h, _ => h.elim
theorem keys_of {G : Nat → Prop} {w : World} : ∀ {l : List (PK × Value)} {ls : List PSn}, All2 (fun (z : PK × Value) (y : PSn) => z.1 = y.key ∧ RCh G w z.2 y.req y.sig y.told) l ls → l.map (·.1) = keysL ls
  | [], [], _ => rfl
  | z :: l, y :: ls, h => by
    have := keys_of h.2
    unfold keysL at this ⊢
    simp [h.1.1, this]
  | [], _ :: _, h => h.elim
  | _ :: _, [], h => h.elim
theorem Lg.rowm {G : Nat → Prop} {w w' : World} {b m : Nat} {ls : List PSn} (h : Lg G w b m ls) (hg : w.grownBy w' (some m)) : Row w' b 114 [.map (some m)] :=
  h.row.grown hg fun e => h.ne (Option.some.inj e).symm
set_option maxHeartbeats 1000000 in
theorem keepG_any {G : Nat → Prop} (w : World) (b m : Nat) (ls : List PSn) (h : Lg G w b m ls) (hG : ∀ k, G k → k ≠ m) (q : PK) (hq : fnd q (keysL ls) = none) (v : Value) (r : PReq) (g : List Int) (hv : RCh G w v r g false)
    (hr : tot [r.2.2.1, r.2.2.2] ≤ 2000000) (hg : szT g) :
    Calls Tryz.prog 107 #[.pointer (some ⟨b, 0, none⟩), kv q, v] w fun e w' => e = .returned (.tuple #[]) ∧ Lg G w' b m (meetL ls q r g).1 ∧ w.grownBy w' (some m) := by
  have hok := h.ok.meet q hr hg
  rw [meet_none hq] at hok ⊢
  obtain ⟨o, p, s, rfl, t1, t2, t3⟩ := hv
  obtain ⟨ao, co, rfl, _⟩ := t1.form
  obtain ⟨ap, cp, rfl, _⟩ := t2.form
  obtain ⟨as_, cs, rfl, _⟩ := t3.form
  obtain ⟨k, x, y, sl, i⟩ := q
  obtain ⟨w2, hw2⟩ : ∃ w2, w2 = (w.alloc (.cells #[.int .i64 k, .int .i64 x, .int .i64 y, .int .i64 sl, .int .i64 i] 116)).alloc (.cells #[.int .i64 r.1, .int .i64 r.2.1, .slice ao r.2.2.1.length co, .slice ap r.2.2.2.length cp, .slice as_ g.length cs, .bool false] 120) := ⟨_, rfl⟩
  have ra : Row w2 w.heap.size 116 [.int .i64 k, .int .i64 x, .int .i64 y, .int .i64 sl, .int .i64 i] := by rw [hw2]; exact rowA (Row.new w 116 _) _
  have rb : Row w2 (w.heap.size + 1) 120 [.int .i64 r.1, .int .i64 r.2.1, .slice ao r.2.2.1.length co, .slice ap r.2.2.2.length cp, .slice as_ g.length cs, .bool false] := by
    rw [hw2]
    have := Row.new (w.alloc (.cells #[.int .i64 k, .int .i64 x, .int .i64 y, .int .i64 sl, .int .i64 i] 116)) 120 [.int .i64 r.1, .int .i64 r.2.1, .slice ao r.2.2.1.length co, .slice ap r.2.2.2.length cp, .slice as_ g.length cs, .bool false]
    simpa using this
  have B : Below w.heap.size w w2 := by rw [hw2]; exact ((Below.refl _ w).alloc (Nat.le_refl _) _).alloc (by simp) _
  have h2 := h.below B
  have hL := lenG_any w2 b m ls h2
  have c0 := h2.row.cell (j := 0) rfl
  obtain ⟨l, hl1, hl2⟩ := h2.map
  rw [← keys_of hl2] at hq
  obtain ⟨w3, hput, hp2, hp3⟩ := Mp.put_new (w := w2.drew) hl1 hq (.agg #[.int .i64 r.1, .int .i64 r.2.1, .slice ao r.2.2.1.length co, .slice ap r.2.2.2.length cp, .slice as_ g.length cs, .bool false])
  simp only [kv] at hput ⊢
  by_cases hlen : ls.length < 8192
  · have hd : decide ((ls.length : Int) < 8192) = true := by simp; omega
    simp only [if_pos hlen] at hok ⊢
    go_enter Tryz.func107, Tryz.ntmps107
    go_upto_region 1 with fail
    rw [← hw2]
    clear hw2
    go_upto_region 2 with (go_at_call 131; refine hL.mono ?_; rintro e w2 ⟨rfl, rfl⟩)
    have a0 := ra.cell (j := 0) rfl; have a1 := ra.cell (j := 1) rfl; have a2 := ra.cell (j := 2) rfl; have a3 := ra.cell (j := 3) rfl; have a4 := ra.cell (j := 4) rfl
    have b0 := rb.cell (j := 0) rfl; have b1 := rb.cell (j := 1) rfl; have b2 := rb.cell (j := 2) rfl; have b3 := rb.cell (j := 3) rfl; have b4 := rb.cell (j := 4) rfl; have b5 := rb.cell (j := 5) rfl
    go_region
    go_end0
    have hg3 := grown_drew hp3
    have hmv : Mv G G w2 w3 := Mv.nm hG hg3
    exact ⟨rfl, ⟨h2.rowm hg3, hok, _, hp2, All2.app (hl2.mono fun z y hz => ⟨hz.1, hz.2.mv hmv⟩) ⟨⟨rfl, _, _, _, rfl, (t1.mv (Mv.belowG B)).mv hmv, (t2.mv (Mv.belowG B)).mv hmv, (t3.mv (Mv.belowG B)).mv hmv⟩, trivial⟩⟩,
      grown_trans (grown_of_below B _) hg3 (.inl rfl)⟩
  · have hd : decide ((ls.length : Int) < 8192) = false := by simp; omega
    simp only [if_neg hlen] at hok ⊢
    go_enter Tryz.func107, Tryz.ntmps107
    go_upto_region 1 with fail
    rw [← hw2]
    clear hw2
    go_wp2_with (go_at_call 131; refine hL.mono ?_; rintro e w2 ⟨rfl, rfl⟩)
    go_end0
    exact ⟨rfl, h2, grown_of_below B _⟩
end
section
open Go.RowKit Oct Kvl
def z23 : List Value := [.int .i64 0, .int .i64 0, .int .i64 0, .int .i64 0, .int .i64 0, .int .i64 0, .int .i64 0, .int .i64 0, .int .i64 0, .int .i64 0, .slice none 0 0, .slice none 0 0, .int .i64 0, .int .i64 0, .slice none 0 0, .slice none 0 0, .slice none 0 0, .slice none 0 0, .slice none 0 0, .slice none 0 0, .slice none 0 0, .slice none 0 0, .slice none 0 0]
theorem szQ_of {r : PReq} (h : tot [r.2.2.1, r.2.2.2] ≤ 2000000) : szQ r := by
  unfold szQ szT
  simp only [tot] at h
  omega
theorem ev0_sz {q : PK} {r1 r2 : PReq} {g1 g2 : List Int} (h1 : tot [r1.2.2.1, r1.2.2.2] ≤ 2000000) (h2 : tot [r2.2.2.1, r2.2.2.2] ≤ 2000000) (k1 : szT g1) (k2 : szT g2) : szM (ev0 q r1 g1 r2 g2) :=
  ⟨szQ_of h1, szQ_of h2, k2, k1, ⟨by simp [ev0, zeroM], by simp [ev0, zeroM]⟩, ⟨by simp [ev0, zeroM], by simp [ev0, zeroM]⟩, ⟨by simp [ev0, zeroM], by simp [ev0, zeroM]⟩, ⟨by simp [ev0, zeroM], by simp [ev0, zeroM]⟩, ⟨by simp [ev0, zeroM], by simp [ev0, zeroM]⟩⟩
def svE (o1 p1 s1 o2 p2 s2 : Value) : SV := ⟨o1, p1, o2, p2, s2, s1, .slice none 0 0, .slice none 0 0, .slice none 0 0, .slice none 0 0, .slice none 0 0⟩
theorem ev0_sok {G : Nat → Prop} {w : World} (q : PK) {r1 r2 : PReq} {g1 g2 : List Int} {o1 p1 s1 o2 p2 s2 : Value} (a1 : RT G w o1 r1.2.2.1) (a2 : RT G w p1 r1.2.2.2) (a3 : RT G w s1 g1) (b1 : RT G w o2 r2.2.2.1) (b2 : RT G w p2 r2.2.2.2) (b3 : RT G w s2 g2) :
    SOk G w (ev0 q r1 g1 r2 g2) (svE o1 p1 s1 o2 p2 s2) :=
  ⟨a1, a2, b1, b2, b3, a3, RL.nil _ _ _ _, RL.nil _ _ _ _, RL.nil _ _ _ _, RL.nil _ _ _ _, RL.nil _ _ _ _⟩
set_option maxRecDepth 10000 in
set_option maxHeartbeats 2000000 in
theorem evidenceG_any (w : World) (q : PK) (v1 v2 : Value) (r1 r2 : PReq) (g1 g2 : List Int) (t1 t2 : Bool) (h1 : RCh Any w v1 r1 g1 t1) (h2 : RCh Any w v2 r2 g2 t2) (z1 : tot [r1.2.2.1, r1.2.2.2] ≤ 2000000) (z2 : tot [r2.2.2.1, r2.2.2.2] ≤ 2000000) (k1 : szT g1) (k2 : szT g2) :
    Calls Tryz.prog 108 #[kv q, v1, v2] w fun e w' => ∃ s, e = .returned (.agg (mc (ev0 q r1 g1 r2 g2) s).toArray) ∧ SOk (From w.heap.size) w' (ev0 q r1 g1 r2 g2) s ∧ Below w.heap.size w w' := by
  have hz := ev0_sz (q := q) z1 z2 k1 k2
  obtain ⟨o1, p1, s1, rfl, a1, a2, a3⟩ := h1
  obtain ⟨o2, p2, s2, rfl, b1, b2, b3⟩ := h2
  obtain ⟨ao1, ca1, rfl, _⟩ := a1.form
  obtain ⟨ap1, cp1, rfl, _⟩ := a2.form
  obtain ⟨as1, cs1, rfl, _⟩ := a3.form
  obtain ⟨ao2, ca2, rfl, _⟩ := b1.form
  obtain ⟨ap2, cp2, rfl, _⟩ := b2.form
  obtain ⟨as2, cs2, rfl, _⟩ := b3.form
  obtain ⟨k, x, y, sl, i⟩ := q
  obtain ⟨w1, hw1⟩ : ∃ w1, w1 = w.alloc (.cells #[.int .i64 k, .int .i64 x, .int .i64 y, .int .i64 sl, .int .i64 i] 116) := ⟨_, rfl⟩
  obtain ⟨w2, hw2⟩ : ∃ w2, w2 = w1.alloc (.cells #[.int .i64 r1.1, .int .i64 r1.2.1, .slice ao1 r1.2.2.1.length ca1, .slice ap1 r1.2.2.2.length cp1, .slice as1 g1.length cs1, .bool t1] 120) := ⟨_, rfl⟩
  obtain ⟨w3, hw3⟩ : ∃ w3, w3 = w2.alloc (.cells #[.int .i64 r2.1, .int .i64 r2.2.1, .slice ao2 r2.2.2.1.length ca2, .slice ap2 r2.2.2.2.length cp2, .slice as2 g2.length cs2, .bool t2] 120) := ⟨_, rfl⟩
  obtain ⟨w4, hw4⟩ : ∃ w4, w4 = w3.alloc (.cells #[.int .i64 0, .int .i64 0, .int .i64 0, .int .i64 0, .int .i64 0, .int .i64 0, .int .i64 0, .int .i64 0, .int .i64 0, .int .i64 0, .slice none 0 0, .slice none 0 0, .int .i64 0, .int .i64 0, .slice none 0 0, .slice none 0 0, .slice none 0 0, .slice none 0 0, .slice none 0 0, .slice none 0 0, .slice none 0 0, .slice none 0 0, .slice none 0 0] 40) := ⟨_, rfl⟩
  have e1 : w1.heap.size = w.heap.size + 1 := by rw [hw1]; simp
  have e2 : w2.heap.size = w.heap.size + 2 := by rw [hw2]; simp [e1]
  have e3 : w3.heap.size = w.heap.size + 3 := by rw [hw3]; simp [e2]
  have e4 : w4.heap.size = w.heap.size + 4 := by rw [hw4]; simp [e3]
  have B1 : Below w.heap.size w w1 := by rw [hw1]; exact below_alloc _ _
  have B2 : Below w1.heap.size w1 w2 := by rw [hw2]; exact below_alloc _ _
  have B3 : Below w2.heap.size w2 w3 := by rw [hw3]; exact below_alloc _ _
  have B4 : Below w3.heap.size w3 w4 := by rw [hw4]; exact below_alloc _ _
  have R1 : Row w1 w.heap.size 116 [.int .i64 k, .int .i64 x, .int .i64 y, .int .i64 sl, .int .i64 i] := by rw [hw1]; exact Row.new _ _ _
  have R2 : Row w2 (w.heap.size + 1) 120 [.int .i64 r1.1, .int .i64 r1.2.1, .slice ao1 r1.2.2.1.length ca1, .slice ap1 r1.2.2.2.length cp1, .slice as1 g1.length cs1, .bool t1] := by rw [hw2, ← e1]; exact Row.new _ _ _
  have R3 : Row w3 (w.heap.size + 2) 120 [.int .i64 r2.1, .int .i64 r2.2.1, .slice ao2 r2.2.2.1.length ca2, .slice ap2 r2.2.2.2.length cp2, .slice as2 g2.length cs2, .bool t2] := by rw [hw3, ← e2]; exact Row.new _ _ _
  have R4 : Row w4 (w.heap.size + 3) 40 [.int .i64 0, .int .i64 0, .int .i64 0, .int .i64 0, .int .i64 0, .int .i64 0, .int .i64 0, .int .i64 0, .int .i64 0, .int .i64 0, .slice none 0 0, .slice none 0 0, .int .i64 0, .int .i64 0, .slice none 0 0, .slice none 0 0, .slice none 0 0, .slice none 0 0, .slice none 0 0, .slice none 0 0, .slice none 0 0, .slice none 0 0, .slice none 0 0] := by rw [hw4, ← e3]; exact Row.new _ _ _
  have R1 := ((R1.below B2).below B3).below B4
  have R2 := (R2.below B3).below B4
  have R3 := R3.below B4
  have B : Below w.heap.size w w4 := below_and (below_and (below_and B1 (Nat.le_refl _) B2) (Nat.le_refl _) B3) (Nat.le_refl _) B4
  have hs := ev0_sok (k, x, y, sl, i) (a1.mv (Mv.below B)) (a2.mv (Mv.below B)) (a3.mv (Mv.below B)) (b1.mv (Mv.below B)) (b2.mv (Mv.below B)) (b3.mv (Mv.below B))
  have hC := cloneMsgS_any w4 _ _ hs hz
  clear B1 B2 B3 B4
  have hw : w4 = (((w.alloc (.cells #[.int .i64 k, .int .i64 x, .int .i64 y, .int .i64 sl, .int .i64 i] 116)).alloc (.cells #[.int .i64 r1.1, .int .i64 r1.2.1, .slice ao1 r1.2.2.1.length ca1, .slice ap1 r1.2.2.2.length cp1, .slice as1 g1.length cs1, .bool t1] 120)).alloc (.cells #[.int .i64 r2.1, .int .i64 r2.2.1, .slice ao2 r2.2.2.1.length ca2, .slice ap2 r2.2.2.2.length cp2, .slice as2 g2.length cs2, .bool t2] 120)).alloc (.cells #[.int .i64 0, .int .i64 0, .int .i64 0, .int .i64 0, .int .i64 0, .int .i64 0, .int .i64 0, .int .i64 0, .int .i64 0, .int .i64 0, .slice none 0 0, .slice none 0 0, .int .i64 0, .int .i64 0, .slice none 0 0, .slice none 0 0, .slice none 0 0, .slice none 0 0, .slice none 0 0, .slice none 0 0, .slice none 0 0, .slice none 0 0, .slice none 0 0] 40) := by rw [hw4, hw3, hw2, hw1]
  clear hw1 hw2 hw3 hw4 e1 e2 e3
  simp only [kv]
  go_enter Tryz.func108, Tryz.ntmps108
  go_upto_region 1 with fail
  rw [← hw]
  clear hw
  have k0 := R1.cell (j := 0) rfl; have k3 := R1.cell (j := 3) rfl; have k4 := R1.cell (j := 4) rfl
  have c4 := R2.cell (j := 4) rfl; have d4 := R3.cell (j := 4) rfl
  go_wp2_with (first
    | (refine wl_part rfl _ _ rfl w.heap.size 1 rfl _ _ R1 [.int .i64 x, .int .i64 y] rfl _ Tryz.underlying32 rfl (by kernel_rfl) ?_)
    | (refine wl_part rfl _ _ rfl (w.heap.size + 1) 0 rfl _ _ R2 [.int .i64 r1.1, .int .i64 r1.2.1, .slice ao1 r1.2.2.1.length ca1, .slice ap1 r1.2.2.2.length cp1] rfl _ Tryz.underlying34 rfl (by kernel_rfl) ?_)
    | (refine wl_part rfl _ _ rfl (w.heap.size + 2) 0 rfl _ _ R3 [.int .i64 r2.1, .int .i64 r2.2.1, .slice ao2 r2.2.2.1.length ca2, .slice ap2 r2.2.2.2.length cp2] rfl _ Tryz.underlying34 rfl (by kernel_rfl) ?_)
    | (go_at_call 132; refine hC.mono ?_; rintro e w5 ⟨s5, rfl, h5, b5⟩; have R5 := R4.below b5)
    | (refine wl_store rfl _ _ _ rfl (w.heap.size + 3) (mc (ev0 (k, x, y, sl, i) r1 g1 r2 g2) s5) rfl rfl _ _ R5 rfl (by kernel_rfl) h5.one ?_; intro w6 R6 g6))
  have B5 := below_and B (Nat.le_refl _) b5
  have B6 := B5.trans (grown_below g6 B5.size (fun j hj => by cases hj; omega))
  refine bodyPost_ret (v := .agg (mc (ev0 (k, x, y, sl, i) r1 g1 r2 g2) s5).toArray) (results_cell_row rfl _ _ (w.heap.size + 3) _ _ (0, 0) _ (by rfl) R6.out Tryz.underlying40 rfl (by kernel_rfl)) rfl ?_
  exact ⟨s5, rfl, (h5.mv g6.size (Mv.from g6 (by omega) (Nat.le_refl _))).mv (Nat.le_refl _) (Mv.weak (by omega)), B6⟩
end
section
open Go.RowKit Oct Kvl
/-- What meet answers. -/
def MtP (G : Nat → Prop) (w : World) (b m : Nat) (ls : List PSn) (q : PK) (r : PReq) (g : List Int) (e : Ending) (w' : World) : Prop :=
  (((meetL ls q r g).2 = [] ∧ e = .returned (.tuple #[.agg z23.toArray, .bool false])) ∨ ∃ M s, (meetL ls q r g).2 = [M] ∧ e = .returned (.tuple #[.agg (mc M s).toArray, .bool true]) ∧ SOk (From w.heap.size) w' M s) ∧
    Lg G w' b m (meetL ls q r g).1 ∧ w.grownBy w' (some m)
theorem results_ctG {P : Program} {fn : Func} {p t : Tmp} {ty : TypeId} (h : fn.results = #[.cell p ty, .tmp t]) (tmps : Array Value) (w : World) (g : Nat) (tt : TypeId) (cs : Array Value) (fr : Nat × Nat) (d : TypeDesc)
    (hp : tmps.getD p undef = .pointer (some ⟨g, 0, none⟩)) (hg : w.heap[g]? = some (.cells cs tt fr))
    (hu : P.underlying ty = some d) (hd : (match d with | .struct _ | .array _ _ => true | _ => false) = true) (hi : (P.info? ty).map (·.size) = some cs.size) :
    (results fn tmps).run P w = .ok (.tuple #[.agg cs, tmps.getD t undef]) w := by
  have hp' : tmps[p]?.getD undef = .pointer (some ⟨g, 0, none⟩) := by simpa using hp
  simp [results, h, hp', asAddr, run_loadVar_row w g tt ty cs fr d hg hu hd hi]
theorem z23_one : ∀ v ∈ z23, v.oneCell' = true := by decide
theorem ne_row {m b : Nat} (h : m < b) (j : Nat) : (some m : Option Nat) ≠ some (b + j) := fun e => by have := Option.some.inj e; omega
theorem mv_box {G : Nat → Prop} {B c : Nat} {w w' : World} (hg : w.grownBy w' (some (B + c))) : Mv (fun j => G j ∧ j < B) G w w' := fun j hj hlt => ⟨hg.block j hlt (ne_row hj.2 c), hj.1⟩
theorem mv_boxk {G : Nat → Prop} {B c : Nat} {w w' : World} (hg : w.grownBy w' (some (B + c))) : Mv (fun j => G j ∧ j < B) (fun j => G j ∧ j < B) w w' := fun j hj hlt => ⟨hg.block j hlt (ne_row hj.2 c), hj⟩
theorem grown_box {m c : Nat} {w w1 w2 : World} (h : w.grownBy w1 (some m)) (h' : w1.grownBy w2 (some (w.heap.size + c))) : w.grownBy w2 (some m) := grown_trans h h' (.inr fun k hk => by have := Option.some.inj hk; omega)
set_option maxRecDepth 10000 in
set_option maxHeartbeats 2000000 in
theorem meetG_none {G : Nat → Prop} (w : World) (b m : Nat) (ls : List PSn) (h : Lg G w b m ls) (hG : ∀ k, G k → k ≠ m) (k x y sl i : Int) (hq : fnd (k, x, y, sl, i) (keysL ls) = none) (v : Value) (r : PReq) (g : List Int) (hv : RCh G w v r g false) (hr : tot [r.2.2.1, r.2.2.2] ≤ 2000000) (hg : szT g) :
    Calls Tryz.prog 63 #[.pointer (some ⟨b, 0, none⟩), kv (k, x, y, sl, i), v] w fun e w' => MtP G w b m ls (k, x, y, sl, i) r g e w' := by
  have h := h.mv (G' := fun j => G j ∧ j < w.heap.size) rfl rfl (fun j hj hlt => ⟨rfl, hj, hlt⟩)
  have hv := hv.mv (G' := fun j => G j ∧ j < w.heap.size) (fun j hj hlt => ⟨rfl, hj, hlt⟩)
  have hG' : ∀ j, (G j ∧ j < w.heap.size) → j ≠ m := fun j hj => hG j hj.1
  obtain ⟨o, p, s, rfl, t1, t2, t3⟩ := hv
  obtain ⟨ao, co, rfl, _⟩ := t1.form
  obtain ⟨ap, cp, rfl, _⟩ := t2.form
  obtain ⟨as0, cs0, rfl, _⟩ := t3.form
  obtain ⟨w1, hw1⟩ : ∃ w1, w1 = w.alloc (.cells #[.int .i64 k, .int .i64 x, .int .i64 y, .int .i64 sl, .int .i64 i] 116) := ⟨_, rfl⟩
  obtain ⟨w2, hw2⟩ : ∃ w2, w2 = w1.alloc (.cells #[.int .i64 r.1, .int .i64 r.2.1, .slice ao r.2.2.1.length co, .slice ap r.2.2.2.length cp, .slice as0 g.length cs0, .bool false] 120) := ⟨_, rfl⟩
  obtain ⟨w3, hw3⟩ : ∃ w3, w3 = w2.alloc (.cells #[.int .i64 0, .int .i64 0, .int .i64 0, .int .i64 0, .int .i64 0, .int .i64 0, .int .i64 0, .int .i64 0, .int .i64 0, .int .i64 0, .slice none 0 0, .slice none 0 0, .int .i64 0, .int .i64 0, .slice none 0 0, .slice none 0 0, .slice none 0 0, .slice none 0 0, .slice none 0 0, .slice none 0 0, .slice none 0 0, .slice none 0 0, .slice none 0 0] 40) := ⟨_, rfl⟩
  have e1 : w1.heap.size = w.heap.size + 1 := by rw [hw1]; simp
  have e2 : w2.heap.size = w.heap.size + 2 := by rw [hw2]; simp [e1]
  have e3 : w3.heap.size = w.heap.size + 3 := by rw [hw3]; simp [e2]
  have B1 : Below w.heap.size w w1 := by rw [hw1]; exact below_alloc _ _
  have B2 : Below w1.heap.size w1 w2 := by rw [hw2]; exact below_alloc _ _
  have B3 : Below w2.heap.size w2 w3 := by rw [hw3]; exact below_alloc _ _
  have R1 : Row w1 w.heap.size 116 [.int .i64 k, .int .i64 x, .int .i64 y, .int .i64 sl, .int .i64 i] := by rw [hw1]; exact Row.new _ _ _
  have R2 : Row w2 (w.heap.size + 1) 120 [.int .i64 r.1, .int .i64 r.2.1, .slice ao r.2.2.1.length co, .slice ap r.2.2.2.length cp, .slice as0 g.length cs0, .bool false] := by rw [hw2, ← e1]; exact Row.new _ _ _
  have R3 : Row w3 (w.heap.size + 2) 40 [.int .i64 0, .int .i64 0, .int .i64 0, .int .i64 0, .int .i64 0, .int .i64 0, .int .i64 0, .int .i64 0, .int .i64 0, .int .i64 0, .slice none 0 0, .slice none 0 0, .int .i64 0, .int .i64 0, .slice none 0 0, .slice none 0 0, .slice none 0 0, .slice none 0 0, .slice none 0 0, .slice none 0 0, .slice none 0 0, .slice none 0 0, .slice none 0 0] := by rw [hw3, ← e2]; exact Row.new _ _ _
  have R1 := (R1.below B2).below B3
  have R2 := R2.below B3
  have B : Below w.heap.size w w3 := below_and (below_and B1 (Nat.le_refl _) B2) (Nat.le_refl _) B3
  have hw : w3 = ((w.alloc (.cells #[.int .i64 k, .int .i64 x, .int .i64 y, .int .i64 sl, .int .i64 i] 116)).alloc (.cells #[.int .i64 r.1, .int .i64 r.2.1, .slice ao r.2.2.1.length co, .slice ap r.2.2.2.length cp, .slice as0 g.length cs0, .bool false] 120)).alloc (.cells #[.int .i64 0, .int .i64 0, .int .i64 0, .int .i64 0, .int .i64 0, .int .i64 0, .int .i64 0, .int .i64 0, .int .i64 0, .int .i64 0, .slice none 0 0, .slice none 0 0, .int .i64 0, .int .i64 0, .slice none 0 0, .slice none 0 0, .slice none 0 0, .slice none 0 0, .slice none 0 0, .slice none 0 0, .slice none 0 0, .slice none 0 0, .slice none 0 0] 40) := by rw [hw3, hw2, hw1]
  clear hw1 hw2 hw3 e1 e2 B1 B2 B3
  have h3 := h.below B
  have c0 := h3.row.cell (j := 0) rfl
  have hm := h.lt.2
  have hb := h.lt.1
  obtain ⟨l, hl1, hl2⟩ := h3.map
  have hq' := hq
  rw [← keys_of hl2] at hq'
  have hlk := Mp.look_none (w := w3.drew) hl1 hq'
  have hlk2 := Mp.look_none (w := (w3.alloc (.cells #[.int .i64 0, .int .i64 0, .slice none 0 0, .slice none 0 0, .slice none 0 0, .bool false] 120)).drew) (show Mp _ _ _ from hl1.below (w' := w3.alloc _) (below_alloc _ _)) hq'
  simp only [kv] at hlk hlk2 ⊢
  go_enter Tryz.func63, Tryz.ntmps63
  go_upto_region 1 with fail
  rw [← hw]
  clear hw
  have a0 := R1.cell (j := 0) rfl; have a1 := R1.cell (j := 1) rfl; have a2 := R1.cell (j := 2) rfl; have a3 := R1.cell (j := 3) rfl; have a4 := R1.cell (j := 4) rfl
  have Bz := below_alloc w3 (.cells #[.int .i64 0, .int .i64 0, .slice none 0 0, .slice none 0 0, .slice none 0 0, .bool false] 120)
  have cz0 := (h3.row.below Bz).cell (j := 0) rfl
  have R1z := R1.below Bz
  have Rz := Row.new w3 120 [.int .i64 0, .int .i64 0, .slice none 0 0, .slice none 0 0, .slice none 0 0, .bool false]
  have RO := Row.new w3 120 [.int .i64 0, .int .i64 0, .slice none 0 0, .slice none 0 0, .slice none 0 0, .bool false]
  have az0 := R1z.cell (j := 0) rfl; have az1 := R1z.cell (j := 1) rfl; have az2 := R1z.cell (j := 2) rfl; have az3 := R1z.cell (j := 3) rfl; have az4 := R1z.cell (j := 4) rfl
  have z0 := Rz.cell (j := 0) rfl; have z1 := Rz.cell (j := 1) rfl; have z2 := Rz.cell (j := 2) rfl; have z3 := Rz.cell (j := 3) rfl; have z4 := Rz.cell (j := 4) rfl; have z5 := Rz.cell (j := 5) rfl
  have fz := Rz.frozen
  try go_simp
  go_cut [8, 9] from 11 (fun s8 s9 wx => s8 = .pointer (some ⟨w.heap.size + 3, 0, none⟩) ∧ s9 = .bool false ∧ Below w3.heap.size w3 wx ∧ Row wx (w.heap.size + 3) 120 [.int .i64 0, .int .i64 0, .slice none 0 0, .slice none 0 0, .slice none 0 0, .bool false])
  case first =>
    go_region
    all_goals (
      go_wp2_with fail
      go_meet
      case rel => exact ⟨rfl, rfl, Below.drew (below_alloc _ _), by rw [← e3]; exact RO⟩)
  case rest =>
  clear a0 a1 a2 a3 a4 az0 az1 az2 az3 az4 z0 z1 z2 z3 z4 z5 fz Rz RO R1z cz0 Bz hlk hlk2
  obtain ⟨rfl, rfl, Bc, Rc⟩ := hcut
  have hc := h3.below Bc
  have R1c := R1.below Bc
  have R2c := R2.below Bc
  have R3c := R3.below Bc
  have BC := below_and B (Nat.le_refl _) Bc
  have hK := keepG_any wc b m ls hc hG' (k, x, y, sl, i) hq (.agg #[.int .i64 r.1, .int .i64 r.2.1, .slice ao r.2.2.1.length co, .slice ap r.2.2.2.length cp, .slice as0 g.length cs0, .bool false]) r g ⟨_, _, _, rfl, t1.mv (Mv.belowG BC), t2.mv (Mv.belowG BC), t3.mv (Mv.belowG BC)⟩ hr hg
  simp only [kv] at hK
  go_wp2_with (first
    | (refine wl_load rfl _ _ rfl w.heap.size rfl _ _ R1c _ Tryz.underlying116 rfl (by kernel_rfl) ?_)
    | (refine wl_load rfl _ _ rfl (w.heap.size + 1) rfl _ _ R2c _ Tryz.underlying120 rfl (by kernel_rfl) ?_)
    | (go_at_call 107; refine hK.mono ?_; rintro e w5 ⟨rfl, h5, g5⟩; have R5 := R3c.grown g5 (ne_row hm 2))
    | (refine wl_store rfl _ _ _ rfl (w.heap.size + 2) [.int .i64 0, .int .i64 0, .int .i64 0, .int .i64 0, .int .i64 0, .int .i64 0, .int .i64 0, .int .i64 0, .int .i64 0, .int .i64 0, .slice none 0 0, .slice none 0 0, .int .i64 0, .int .i64 0, .slice none 0 0, .slice none 0 0, .slice none 0 0, .slice none 0 0, .slice none 0 0, .slice none 0 0, .slice none 0 0, .slice none 0 0, .slice none 0 0] rfl rfl _ _ R5 rfl (by kernel_rfl) z23_one ?_; intro w6 R6 g6))
  refine bodyPost_ret (results_ctG rfl _ _ (w.heap.size + 2) _ _ (0, 0) _ (by rfl) R6.out Tryz.underlying40 rfl (by kernel_rfl)) rfl ?_
  have h6 : Lg G w6 b m (meetL ls (k, x, y, sl, i) r g).1 := h5.mv (g6.block b h5.lt.1 (ne_row hb 2)) (g6.block m h5.lt.2 (ne_row hm 2)) (mv_box g6)
  exact ⟨.inl ⟨by rw [meet_none hq], rfl⟩, h6, grown_box (grown_trans (grown_of_below BC _) g5 (.inl rfl)) g6⟩
end
section
open Go.RowKit Oct Kvl
set_option maxRecDepth 10000 in
set_option maxHeartbeats 4000000 in
theorem meetG_some {G : Nat → Prop} (w : World) (b m : Nat) (ls : List PSn) (h : Lg G w b m ls) (hG : ∀ k, G k → k ≠ m) (k x y sl i : Int) (j : Nat) (zr : PReq) (zs : List Int) (zt : Bool) (hq : fnd (k, x, y, sl, i) (keysL ls) = some j) (hz : ls[j]? = some ⟨(k, x, y, sl, i), zr, zs, zt⟩) (v : Value) (r : PReq) (g : List Int) (hv : RCh G w v r g false) (hr : tot [r.2.2.1, r.2.2.2] ≤ 2000000) (hg : szT g) :
    Calls Tryz.prog 63 #[.pointer (some ⟨b, 0, none⟩), kv (k, x, y, sl, i), v] w fun e w' => MtP G w b m ls (k, x, y, sl, i) r g e w' := by
  have hzo := h.ok.ok _ (List.mem_of_getElem? hz)
  have h := h.mv (G' := fun j => G j ∧ j < w.heap.size) rfl rfl (fun j hj hlt => ⟨rfl, hj, hlt⟩)
  have hv := hv.mv (G' := fun j => G j ∧ j < w.heap.size) (fun j hj hlt => ⟨rfl, hj, hlt⟩)
  have hG' : ∀ j, (G j ∧ j < w.heap.size) → j ≠ m := fun j hj => hG j hj.1
  obtain ⟨o, p, s, rfl, t1, t2, t3⟩ := hv
  obtain ⟨ao, co, rfl, _⟩ := t1.form
  obtain ⟨ap, cp, rfl, _⟩ := t2.form
  obtain ⟨as0, cs0, rfl, _⟩ := t3.form
  obtain ⟨w1, hw1⟩ : ∃ w1, w1 = w.alloc (.cells #[.int .i64 k, .int .i64 x, .int .i64 y, .int .i64 sl, .int .i64 i] 116) := ⟨_, rfl⟩
  obtain ⟨w2, hw2⟩ : ∃ w2, w2 = w1.alloc (.cells #[.int .i64 r.1, .int .i64 r.2.1, .slice ao r.2.2.1.length co, .slice ap r.2.2.2.length cp, .slice as0 g.length cs0, .bool false] 120) := ⟨_, rfl⟩
  obtain ⟨w3, hw3⟩ : ∃ w3, w3 = w2.alloc (.cells #[.int .i64 0, .int .i64 0, .int .i64 0, .int .i64 0, .int .i64 0, .int .i64 0, .int .i64 0, .int .i64 0, .int .i64 0, .int .i64 0, .slice none 0 0, .slice none 0 0, .int .i64 0, .int .i64 0, .slice none 0 0, .slice none 0 0, .slice none 0 0, .slice none 0 0, .slice none 0 0, .slice none 0 0, .slice none 0 0, .slice none 0 0, .slice none 0 0] 40) := ⟨_, rfl⟩
  have e1 : w1.heap.size = w.heap.size + 1 := by rw [hw1]; simp
  have e2 : w2.heap.size = w.heap.size + 2 := by rw [hw2]; simp [e1]
  have e3 : w3.heap.size = w.heap.size + 3 := by rw [hw3]; simp [e2]
  have B1 : Below w.heap.size w w1 := by rw [hw1]; exact below_alloc _ _
  have B2 : Below w1.heap.size w1 w2 := by rw [hw2]; exact below_alloc _ _
  have B3 : Below w2.heap.size w2 w3 := by rw [hw3]; exact below_alloc _ _
  have R1 : Row w1 w.heap.size 116 [.int .i64 k, .int .i64 x, .int .i64 y, .int .i64 sl, .int .i64 i] := by rw [hw1]; exact Row.new _ _ _
  have R2 : Row w2 (w.heap.size + 1) 120 [.int .i64 r.1, .int .i64 r.2.1, .slice ao r.2.2.1.length co, .slice ap r.2.2.2.length cp, .slice as0 g.length cs0, .bool false] := by rw [hw2, ← e1]; exact Row.new _ _ _
  have R3 : Row w3 (w.heap.size + 2) 40 [.int .i64 0, .int .i64 0, .int .i64 0, .int .i64 0, .int .i64 0, .int .i64 0, .int .i64 0, .int .i64 0, .int .i64 0, .int .i64 0, .slice none 0 0, .slice none 0 0, .int .i64 0, .int .i64 0, .slice none 0 0, .slice none 0 0, .slice none 0 0, .slice none 0 0, .slice none 0 0, .slice none 0 0, .slice none 0 0, .slice none 0 0, .slice none 0 0] := by rw [hw3, ← e2]; exact Row.new _ _ _
  have R1 := (R1.below B2).below B3
  have R2 := R2.below B3
  have B : Below w.heap.size w w3 := below_and (below_and B1 (Nat.le_refl _) B2) (Nat.le_refl _) B3
  have hw : w3 = ((w.alloc (.cells #[.int .i64 k, .int .i64 x, .int .i64 y, .int .i64 sl, .int .i64 i] 116)).alloc (.cells #[.int .i64 r.1, .int .i64 r.2.1, .slice ao r.2.2.1.length co, .slice ap r.2.2.2.length cp, .slice as0 g.length cs0, .bool false] 120)).alloc (.cells #[.int .i64 0, .int .i64 0, .int .i64 0, .int .i64 0, .int .i64 0, .int .i64 0, .int .i64 0, .int .i64 0, .int .i64 0, .int .i64 0, .slice none 0 0, .slice none 0 0, .int .i64 0, .int .i64 0, .slice none 0 0, .slice none 0 0, .slice none 0 0, .slice none 0 0, .slice none 0 0, .slice none 0 0, .slice none 0 0, .slice none 0 0, .slice none 0 0] 40) := by rw [hw3, hw2, hw1]
  clear hw1 hw2 hw3 e1 e2 B1 B2 B3
  have h3 := h.below B
  have c0 := h3.row.cell (j := 0) rfl
  have hm := h.lt.2
  have hb := h.lt.1
  obtain ⟨l, hl1, hl2⟩ := h3.map
  have hq' := hq
  rw [← keys_of hl2] at hq'
  obtain ⟨zz, hzz⟩ : ∃ zz, l[j]? = some zz := by
    have hlt := (fnd_lt hq').1
    rw [List.length_map] at hlt
    exact ⟨_, List.getElem?_eq_getElem hlt⟩
  obtain ⟨hz1, o2, p2, s2, hz2, u1, u2, u3⟩ := hl2.get hzz hz
  obtain ⟨zk, zv⟩ := zz
  simp only at hz1 hz2 u1 u2 u3
  subst hz1 hz2
  obtain ⟨ao2, co2, rfl, _⟩ := u1.form
  obtain ⟨ap2, cp2, rfl, _⟩ := u2.form
  obtain ⟨as2, cs2, rfl, _⟩ := u3.form
  have hlk := Mp.look_some (w := w3.drew) hl1 hq' hzz
  have hlk2 := Mp.look_some (w := (w3.alloc (.cells #[.int .i64 0, .int .i64 0, .slice none 0 0, .slice none 0 0, .slice none 0 0, .bool false] 120)).drew) (show Mp _ _ _ from hl1.below (w' := w3.alloc _) (below_alloc _ _)) hq' hzz
  simp only [kv] at hlk hlk2 ⊢
  go_enter Tryz.func63, Tryz.ntmps63
  go_upto_region 1 with fail
  rw [← hw]
  clear hw
  have a0 := R1.cell (j := 0) rfl; have a1 := R1.cell (j := 1) rfl; have a2 := R1.cell (j := 2) rfl; have a3 := R1.cell (j := 3) rfl; have a4 := R1.cell (j := 4) rfl
  have Bz := below_alloc w3 (.cells #[.int .i64 0, .int .i64 0, .slice none 0 0, .slice none 0 0, .slice none 0 0, .bool false] 120)
  have cz0 := (h3.row.below Bz).cell (j := 0) rfl
  have R1z := R1.below Bz
  have Rz := Row.new w3 120 [.int .i64 0, .int .i64 0, .slice none 0 0, .slice none 0 0, .slice none 0 0, .bool false]
  have RO := Row.new w3 120 [.int .i64 zr.1, .int .i64 zr.2.1, .slice ao2 zr.2.2.1.length co2, .slice ap2 zr.2.2.2.length cp2, .slice as2 zs.length cs2, .bool zt]
  have az0 := R1z.cell (j := 0) rfl; have az1 := R1z.cell (j := 1) rfl; have az2 := R1z.cell (j := 2) rfl; have az3 := R1z.cell (j := 3) rfl; have az4 := R1z.cell (j := 4) rfl
  have z0 := Rz.cell (j := 0) rfl; have z1 := Rz.cell (j := 1) rfl; have z2 := Rz.cell (j := 2) rfl; have z3 := Rz.cell (j := 3) rfl; have z4 := Rz.cell (j := 4) rfl; have z5 := Rz.cell (j := 5) rfl
  have fz := Rz.frozen
  try go_simp
  go_cut [8, 9] from 11 (fun s8 s9 wx => s8 = .pointer (some ⟨w.heap.size + 3, 0, none⟩) ∧ s9 = .bool true ∧ Below w3.heap.size w3 wx ∧ Row wx (w.heap.size + 3) 120 [.int .i64 zr.1, .int .i64 zr.2.1, .slice ao2 zr.2.2.1.length co2, .slice ap2 zr.2.2.2.length cp2, .slice as2 zs.length cs2, .bool zt])
  case first =>
    go_region
    all_goals (
      go_wp2_with fail
      go_meet
      case rel => exact ⟨rfl, rfl, Below.drew (below_alloc _ _), by rw [← e3]; exact RO⟩)
  case rest =>
  clear a0 a1 a2 a3 a4 az0 az1 az2 az3 az4 z0 z1 z2 z3 z4 z5 fz Rz RO R1z cz0 Bz hlk hlk2
  obtain ⟨rfl, rfl, Bc, Rc⟩ := hcut
  have hc := h3.below Bc
  have R1c := R1.below Bc
  have R2c := R2.below Bc
  have R3c := R3.below Bc
  have BC := below_and B (Nat.le_refl _) Bc
  obtain ⟨zo1, zo2⟩ := hzo
  have v1 := (u1.mv (Mv.belowG Bc)); have v2 := (u2.mv (Mv.belowG Bc)); have v3 := (u3.mv (Mv.belowG Bc))
  have n1 := (t1.mv (Mv.belowG BC)); have n2 := (t2.mv (Mv.belowG BC)); have n3 := (t3.mv (Mv.belowG BC))
  have HO := (show Hid (∀ u, Below wc.heap.size wc u → Calls Tryz.prog 21 #[.agg #[.int .i64 zr.1, .int .i64 zr.2.1, .slice ao2 zr.2.2.1.length co2, .slice ap2 zr.2.2.2.length cp2]] u fun e w' => ∃ v', e = .returned v' ∧ Own w' 5 v' (bc (body zr)) ∧ Below u.heap.size u w' ∧ Below wc.heap.size wc w') from fun u hu => (body_any u [.int .i64 zr.1, .int .i64 zr.2.1, .slice ao2 zr.2.2.1.length co2, .slice ap2 zr.2.2.2.length cp2] zr ⟨_, _, rfl, (v1.mv Mv.any).mv (Mv.below hu), (v2.mv Mv.any).mv (Mv.below hu)⟩ (Nat.le_trans zo1 (by decide))).mono fun e w' ⟨v', e1, e2, _, e3⟩ => ⟨v', e1, e2, e3, below_and hu (Nat.le_refl _) e3⟩)
  have HN := (show Hid (∀ u, Below wc.heap.size wc u → Calls Tryz.prog 21 #[.agg #[.int .i64 r.1, .int .i64 r.2.1, .slice ao r.2.2.1.length co, .slice ap r.2.2.2.length cp]] u fun e w' => ∃ v', e = .returned v' ∧ Own w' 5 v' (bc (body r)) ∧ Below u.heap.size u w' ∧ Below wc.heap.size wc w') from fun u hu => (body_any u [.int .i64 r.1, .int .i64 r.2.1, .slice ao r.2.2.1.length co, .slice ap r.2.2.2.length cp] r ⟨_, _, rfl, (n1.mv Mv.any).mv (Mv.below hu), (n2.mv Mv.any).mv (Mv.below hu)⟩ (Nat.le_trans hr (by decide))).mono fun e w' ⟨v', e1, e2, _, e3⟩ => ⟨v', e1, e2, e3, below_and hu (Nat.le_refl _) e3⟩)
  have SK := (show Hid (∀ u, Below wc.heap.size wc u → u.cell? ⟨w.heap.size + 3, 0, none⟩ = some (.int .i64 zr.1) ∧ u.cell? ⟨w.heap.size + 3, 1, none⟩ = some (.int .i64 zr.2.1) ∧ u.cell? ⟨w.heap.size + 3, 2, none⟩ = some (.slice ao2 zr.2.2.1.length co2) ∧ u.cell? ⟨w.heap.size + 3, 3, none⟩ = some (.slice ap2 zr.2.2.2.length cp2) ∧ u.cell? ⟨w.heap.size + 1, 0, none⟩ = some (.int .i64 r.1) ∧ u.cell? ⟨w.heap.size + 1, 1, none⟩ = some (.int .i64 r.2.1) ∧ u.cell? ⟨w.heap.size + 1, 2, none⟩ = some (.slice ao r.2.2.1.length co) ∧ u.cell? ⟨w.heap.size + 1, 3, none⟩ = some (.slice ap r.2.2.2.length cp)) from fun u hu => ⟨(Rc.below hu).cell (j := 0) rfl, (Rc.below hu).cell (j := 1) rfl, (Rc.below hu).cell (j := 2) rfl, (Rc.below hu).cell (j := 3) rfl, (R2c.below hu).cell (j := 0) rfl, (R2c.below hu).cell (j := 1) rfl, (R2c.below hu).cell (j := 2) rfl, (R2c.below hu).cell (j := 3) rfl⟩)
  obtain ⟨q0, q1, q2, q3, q4, q5, q6, q7⟩ := SK.out wc (Below.refl _ _)
  have bz : Byt (body zr) := body_byt v1.1.1 v2.1.1 zo1
  have br : Byt (body r) := body_byt n1.1.1 n2.1.1 hr
  have hdw : Below wc.heap.size wc wc.drew := ⟨rfl, rfl, rfl, Nat.le_refl _, fun _ _ => rfl⟩
  obtain ⟨od, hod⟩ : ∃ od, cmpL (body zr) (body r) = od := ⟨_, rfl⟩
  go_upto_region 5 with fail
  try go_simp
  go_cut [10] from 11 (fun s10 wx => s10 = .int .i64 od ∧ Below wc.heap.size wc wx)
  case first =>
    go_wp2_with fail
    go_region_held3 (fun u => u.cell? ⟨w.heap.size + 3, 0, none⟩ = some (.int .i64 zr.1) ∧ u.cell? ⟨w.heap.size + 3, 1, none⟩ = some (.int .i64 zr.2.1) ∧ u.cell? ⟨w.heap.size + 3, 2, none⟩ = some (.slice ao2 zr.2.2.1.length co2) ∧ u.cell? ⟨w.heap.size + 3, 3, none⟩ = some (.slice ap2 zr.2.2.2.length cp2) ∧ u.cell? ⟨w.heap.size + 1, 0, none⟩ = some (.int .i64 r.1) ∧ u.cell? ⟨w.heap.size + 1, 1, none⟩ = some (.int .i64 r.2.1) ∧ u.cell? ⟨w.heap.size + 1, 2, none⟩ = some (.slice ao r.2.2.1.length co) ∧ u.cell? ⟨w.heap.size + 1, 3, none⟩ = some (.slice ap r.2.2.2.length cp))
      (first | exact SK.out _ hb5 | exact SK.out _ hb4 | exact SK.out _ hdw | go_keep)
      (first
        | (go_at_call 44; refine (compare_any _ _ _ _ _ ((Own.below ow4 hb45).rd bz) (ow5.rd br)).mono ?_; rintro e w5 ⟨rfl, rfl⟩; rw [hod])
        | (go_at_call 21; have hh := hS1; refine (HN.out _ hb4).mono ?_; rintro e w5 ⟨v5, rfl, ow5, hb45, hb5⟩)
        | (go_at_call 21; refine (HO.out _ (by first | exact hdw | exact Below.refl _ _)).mono ?_; rintro e w4 ⟨v4, rfl, ow4, hb4', hb4⟩; have hS1 := trivial))
    all_goals (
      go_wp2_with fail
      go_meet
      case rel => exact ⟨rfl, hb5⟩)
  case rest =>
  clear q0 q1 q2 q3 q4 q5 q6 q7 HO HN SK hdw bz br v1 v2 v3 n1 n2 n3
  obtain ⟨rfl, Be⟩ := hcut
  rename World => w4
  have BE := below_and BC (Nat.le_refl _) Be
  have BEc := below_and Bc (Nat.le_refl _) Be
  have he := hc.below Be
  have R1e := R1c.below Be
  have R2e := R2c.below Be
  have R3e := R3c.below Be
  have Re := Rc.below Be
  have q5 := Re.cell (j := 5) rfl
  clear hc R1c R2c R3c Rc R1 R2 R3
  by_cases ht : zt = true ∨ od = 0
  · have hML := meet_old (r := r) (g := g) hq hz (ht.imp id (fun e => cmp_eq (hod.trans e)))
    have hpick : zt = true ∨ (zt = false ∧ (od == 0) = true) := by
      rcases ht with e | e
      · exact .inl e
      · cases zt with
        | true => exact .inl rfl
        | false => exact .inr ⟨rfl, by simp [e]⟩
    rcases hpick with rfl | ⟨rfl, hd0⟩
    all_goals (
    go_wp2_with (refine wl_store rfl _ _ _ rfl (w.heap.size + 2) [.int .i64 0, .int .i64 0, .int .i64 0, .int .i64 0, .int .i64 0, .int .i64 0, .int .i64 0, .int .i64 0, .int .i64 0, .int .i64 0, .slice none 0 0, .slice none 0 0, .int .i64 0, .int .i64 0, .slice none 0 0, .slice none 0 0, .slice none 0 0, .slice none 0 0, .slice none 0 0, .slice none 0 0, .slice none 0 0, .slice none 0 0, .slice none 0 0] rfl rfl _ _ R3e rfl (by kernel_rfl) z23_one ?_; intro w6 R6 g6)
    refine bodyPost_ret (results_ctG rfl _ _ (w.heap.size + 2) _ _ (0, 0) _ (by rfl) R6.out Tryz.underlying40 rfl (by kernel_rfl)) rfl ?_
    have h6 : Lg G w6 b m ls := he.mv (g6.block b he.lt.1 (ne_row hb 2)) (g6.block m he.lt.2 (ne_row hm 2)) (mv_box g6)
    refine ⟨.inl ⟨by rw [hML], rfl⟩, by rw [hML]; exact h6, grown_box (grown_of_below BE _) g6⟩)
  · have hzt : zt = false := by
      cases zt with
      | true => exact absurd (.inl rfl) ht
      | false => rfl
    have h0 : ¬ od = 0 := fun e => ht (.inr e)
    subst hzt
    have hML := meet_new (r := r) (g := g) hq hz (fun h' => ht (h'.imp id (fun e => by simp only at e; rw [e, cmp_self] at hod; exact hod.symm)))
    have hok := h.ok.meet (k, x, y, sl, i) hr hg
    rw [hML] at hok
    have hd0 : (od == 0) = false := by simpa using h0
    go_upto_region 9 with (refine wl_set rfl _ _ _ rfl (w.heap.size + 3) 5 (.bool true) rfl rfl _ _ Re (show 5 < 6 by decide) (by kernel_rfl) rfl ?_; intro w8 R08 g8)
    have R08 : Row w8 (w.heap.size + 3) 120 [.int .i64 zr.1, .int .i64 zr.2.1, .slice ao2 zr.2.2.1.length co2, .slice ap2 zr.2.2.2.length cp2, .slice as2 zs.length cs2, .bool true] := R08.out
    have h8 := he.mv (g8.block b he.lt.1 (ne_row hb 3)) (g8.block m he.lt.2 (ne_row hm 3)) (mv_boxk g8)
    have R18 := R1e.grown g8 (fun e => by have := Option.some.inj e; omega)
    have R28 := R2e.grown g8 (fun e => by have := Option.some.inj e; omega)
    have R38 := R3e.grown g8 (fun e => by have := Option.some.inj e; omega)
    have B8 : Below w.heap.size w w8 := BE.trans (grown_below g8 BE.size (fun j hj => by have := Option.some.inj hj; omega))
    obtain ⟨l8, m81, m82⟩ := h8.map
    have hq8 := hq
    rw [← keys_of m82] at hq8
    obtain ⟨⟨zk8, zv8⟩, hzz8⟩ : ∃ zz, l8[j]? = some zz := by
      have hlt := (fnd_lt hq8).1
      rw [List.length_map] at hlt
      exact ⟨_, List.getElem?_eq_getElem hlt⟩
    have hk8 := (m82.get hzz8 hz).1
    simp only at hk8
    subst hk8
    obtain ⟨w9, hput, mp9, g9⟩ := Mp.put_old (w := w8.drew) m81 hq8 hzz8 (.agg #[.int .i64 zr.1, .int .i64 zr.2.1, .slice ao2 zr.2.2.1.length co2, .slice ap2 zr.2.2.2.length cp2, .slice as2 zs.length cs2, .bool true])
    have g9 := grown_drew g9
    simp only [kv] at hput
    have c8 := h8.row.cell (j := 0) rfl
    have a0 := R18.cell (j := 0) rfl; have a1 := R18.cell (j := 1) rfl; have a2 := R18.cell (j := 2) rfl; have a3 := R18.cell (j := 3) rfl; have a4 := R18.cell (j := 4) rfl
    have f0 := R08.cell (j := 0) rfl; have f1 := R08.cell (j := 1) rfl; have f2 := R08.cell (j := 2) rfl; have f3 := R08.cell (j := 3) rfl; have f4 := R08.cell (j := 4) rfl; have f5 := R08.cell (j := 5) rfl
    clear q5 Re R1e R2e R3e he c0
    try go_simp
    go_cut [] from 11 (fun wx => wx = w9)
    case first =>
      go_region
      all_goals (
        go_wp2_with fail
        go_meet
        case rel => rfl)
    case rest =>
    rw [hcut]
    clear hcut
    have hmv9 : Mv (fun j => G j ∧ j < w.heap.size) (fun j => G j ∧ j < w.heap.size) w8 w9 := Mv.nm hG' g9
    have o1 := ((u1.mv (Mv.belowG BEc)).mv (mv_boxk g8)).mv hmv9
    have o2 := ((u2.mv (Mv.belowG BEc)).mv (mv_boxk g8)).mv hmv9
    have o3 := ((u3.mv (Mv.belowG BEc)).mv (mv_boxk g8)).mv hmv9
    have n1 := ((t1.mv (Mv.belowG BE)).mv (mv_boxk g8)).mv hmv9
    have n2 := ((t2.mv (Mv.belowG BE)).mv (mv_boxk g8)).mv hmv9
    have n3 := ((t3.mv (Mv.belowG BE)).mv (mv_boxk g8)).mv hmv9
    have h9 : Lg (fun j => G j ∧ j < w.heap.size) w9 b m (ls.set j ⟨(k, x, y, sl, i), zr, zs, true⟩) :=
      ⟨h8.rowm g9, hok, _, mp9, All2.setR (m82.mono fun a c hac => ⟨hac.1, hac.2.mv hmv9⟩) ⟨rfl, _, _, _, rfl, o1, o2, o3⟩⟩
    have G9 : w.grownBy w9 (some m) := grown_trans (grown_of_below B8 _) g9 (.inl rfl)
    have R19 := R18.grown g9 (ne_row hm 0)
    have R29 := R28.grown g9 (ne_row hm 1)
    have R39 := R38.grown g9 (ne_row hm 2)
    have R09 := R08.grown g9 (ne_row hm 3)
    have hs9 : w.heap.size + 4 ≤ w9.heap.size := R09.lt
    have hO := fun (v : Value) (l : List Int) (h : RT (fun j => G j ∧ j < w.heap.size) w9 v l) => h.mv (Mv.any)
    clear a0 a1 a2 a3 a4 f0 f1 f2 f3 f4 f5 c8 hput m81 m82 mp9 hmv9 R18 R28 R38 R08 h8
    by_cases hgt : 0 < od
    · have hd1 : decide (0 < od) = true := by simpa using hgt
      have hE := evidenceG_any w9 (k, x, y, sl, i) (.agg #[.int .i64 r.1, .int .i64 r.2.1, .slice ao r.2.2.1.length co, .slice ap r.2.2.2.length cp, .slice as0 g.length cs0, .bool false]) (.agg #[.int .i64 zr.1, .int .i64 zr.2.1, .slice ao2 zr.2.2.1.length co2, .slice ap2 zr.2.2.2.length cp2, .slice as2 zs.length cs2, .bool true]) r zr g zs _ _ ⟨_, _, _, rfl, hO _ _ n1, hO _ _ n2, hO _ _ n3⟩ ⟨_, _, _, rfl, hO _ _ o1, hO _ _ o2, hO _ _ o3⟩ hr zo1 hg zo2 
      simp only [kv] at hE
      go_wp2_with (first
        | (refine wl_load rfl _ _ rfl w.heap.size rfl _ _ R19 _ Tryz.underlying116 rfl (by kernel_rfl) ?_)
        | (refine wl_load rfl _ _ rfl (w.heap.size + 1) rfl _ _ R29 _ Tryz.underlying120 rfl (by kernel_rfl) ?_)
        | (refine wl_load rfl _ _ rfl (w.heap.size + 3) rfl _ _ R09 _ Tryz.underlying120 rfl (by kernel_rfl) ?_)
        | (go_at_call 108; refine hE.mono ?_; rintro e w10 ⟨s10, rfl, k10, b10⟩; have R10 := R39.below b10)
        | (refine wl_store rfl _ _ _ rfl (w.heap.size + 2) (mc (ev0 (k, x, y, sl, i) r g zr zs) s10) rfl rfl _ _ R10 rfl (by kernel_rfl) k10.one ?_; intro w11 R11 g11))
      refine bodyPost_ret (results_ctG rfl _ _ (w.heap.size + 2) _ _ (0, 0) _ (by rfl) R11.out Tryz.underlying40 rfl (by kernel_rfl)) rfl ?_
      have h11 : Lg G w11 b m (ls.set j ⟨(k, x, y, sl, i), zr, zs, true⟩) := (h9.below b10).mv (g11.block b (h9.below b10).lt.1 (ne_row hb 2)) (g11.block m (h9.below b10).lt.2 (ne_row hm 2)) (mv_box g11)
      have hev : evL (k, x, y, sl, i) zr zs r g = ev0 (k, x, y, sl, i) r g zr zs := by unfold evL; rw [hod]; rw [if_pos (by omega)]
      exact ⟨.inr ⟨ev0 (k, x, y, sl, i) r g zr zs, s10, by rw [hML]; exact congrArg (fun t => [t]) hev, rfl, (k10.mv g11.size (Mv.from (B := w9.heap.size) g11 (by omega) (Nat.le_refl _))).mv (Nat.le_refl _) (Mv.weak (by omega))⟩, by rw [hML]; exact h11, grown_box (grown_trans G9 (grown_of_below b10 _) (.inl rfl)) g11⟩
    · have hd1 : decide (0 < od) = false := by simpa using hgt
      have hE := evidenceG_any w9 (k, x, y, sl, i) (.agg #[.int .i64 zr.1, .int .i64 zr.2.1, .slice ao2 zr.2.2.1.length co2, .slice ap2 zr.2.2.2.length cp2, .slice as2 zs.length cs2, .bool true]) (.agg #[.int .i64 r.1, .int .i64 r.2.1, .slice ao r.2.2.1.length co, .slice ap r.2.2.2.length cp, .slice as0 g.length cs0, .bool false]) zr r zs g _ _ ⟨_, _, _, rfl, hO _ _ o1, hO _ _ o2, hO _ _ o3⟩ ⟨_, _, _, rfl, hO _ _ n1, hO _ _ n2, hO _ _ n3⟩ zo1 hr zo2 hg 
      simp only [kv] at hE
      go_wp2_with (first
        | (refine wl_load rfl _ _ rfl w.heap.size rfl _ _ R19 _ Tryz.underlying116 rfl (by kernel_rfl) ?_)
        | (refine wl_load rfl _ _ rfl (w.heap.size + 1) rfl _ _ R29 _ Tryz.underlying120 rfl (by kernel_rfl) ?_)
        | (refine wl_load rfl _ _ rfl (w.heap.size + 3) rfl _ _ R09 _ Tryz.underlying120 rfl (by kernel_rfl) ?_)
        | (go_at_call 108; refine hE.mono ?_; rintro e w10 ⟨s10, rfl, k10, b10⟩; have R10 := R39.below b10)
        | (refine wl_store rfl _ _ _ rfl (w.heap.size + 2) (mc (ev0 (k, x, y, sl, i) zr zs r g) s10) rfl rfl _ _ R10 rfl (by kernel_rfl) k10.one ?_; intro w11 R11 g11))
      refine bodyPost_ret (results_ctG rfl _ _ (w.heap.size + 2) _ _ (0, 0) _ (by rfl) R11.out Tryz.underlying40 rfl (by kernel_rfl)) rfl ?_
      have h11 : Lg G w11 b m (ls.set j ⟨(k, x, y, sl, i), zr, zs, true⟩) := (h9.below b10).mv (g11.block b (h9.below b10).lt.1 (ne_row hb 2)) (g11.block m (h9.below b10).lt.2 (ne_row hm 2)) (mv_box g11)
      have hev : evL (k, x, y, sl, i) zr zs r g = ev0 (k, x, y, sl, i) zr zs r g := by unfold evL; rw [hod]; rw [if_neg (by omega)]
      exact ⟨.inr ⟨ev0 (k, x, y, sl, i) zr zs r g, s10, by rw [hML]; exact congrArg (fun t => [t]) hev, rfl, (k10.mv g11.size (Mv.from (B := w9.heap.size) g11 (by omega) (Nat.le_refl _))).mv (Nat.le_refl _) (Mv.weak (by omega))⟩, by rw [hML]; exact h11, grown_box (grown_trans G9 (grown_of_below b10 _) (.inl rfl)) g11⟩
end
section
open Go.RowKit Oct Kvl
theorem meetG_any {G : Nat → Prop} (w : World) (b m : Nat) (ls : List PSn) (h : Lg G w b m ls) (hG : ∀ k, G k → k ≠ m) (k x y sl i : Int) (v : Value) (r : PReq) (g : List Int) (hv : RCh G w v r g false) (hr : tot [r.2.2.1, r.2.2.2] ≤ 2000000) (hg : szT g) :
    Calls Tryz.prog 63 #[.pointer (some ⟨b, 0, none⟩), kv (k, x, y, sl, i), v] w fun e w' => MtP G w b m ls (k, x, y, sl, i) r g e w' := by
  cases hf : fnd (k, x, y, sl, i) (keysL ls) with
  | none => exact meetG_none w b m ls h hG k x y sl i hf v r g hv hr hg
  | some j =>
    obtain ⟨⟨zk, zr, zs, zt⟩, hz, hk⟩ := fnd_at hf
    simp only at hk
    subst hk
    exact meetG_some w b m ls h hG k x y sl i j zr zs zt hf hz v r g hv hr hg
/-- A message. -/
def RMs (G : Nat → Prop) (w : World) (r : List Value) (M : PMsg) : Prop := ∃ s, r = mc M s ∧ SOk G w M s
theorem mov_ms : Mov RMs := fun _ _ _ _ _ _ h hs hm => by
  obtain ⟨s, e, h1⟩ := h
  exact ⟨s, e, h1.mv hs hm⟩
theorem Tryz.inf_msg : (Tryz.prog.info? 40).map (fun i => (i.zero, i.size, i.bytes)) = some (some (.agg z23.toArray), 23, 360) := by kernel_rfl
/-- What is built lies in no row of another type. -/
theorem LB.nrow {α : Type} {R : (Nat → Prop) → World → List Value → α → Prop} {t : TypeId} {k B : Nat} {w : World} {v : Value} {ys : List α} (h : LB R t k B w v ys) {b : Nat} {t' : TypeId} {xs : List Value} (hr : Row w b t' xs) (he : t ≠ t') : v.ownBlock ≠ some b := by
  intro hk
  obtain ⟨rows, _, h1, _, _⟩ := h
  rcases h1.2 with ⟨rfl, _⟩ | ⟨g, _, cur, rfl, _, hg, _⟩
  · simp [Value.ownBlock] at hk
  · simp [Value.ownBlock] at hk
    subst hk
    unfold Row at hr
    rw [hg] at hr
    simp at hr
    exact he hr.2
/-- Neither the map's block nor the evidences' row. -/
def GE (m : Nat) (ev : Value) : Nat → Prop := fun k => k ≠ m ∧ ev.ownBlock ≠ some k
theorem ge_ne {m : Nat} {ev : Value} : ∀ k, GE m ev k → k ≠ m := fun _ h => h.1
theorem toGE {m B : Nat} {ev : Value} {w : World} (hm : m < B) (hv : ∀ g, ev.ownBlock = some g → g < B) : Mv (From B) (GE m ev) w w := fun k hk _ => ⟨rfl, by unfold From at hk; omega, fun e => by have := hv k e; unfold From at hk; omega⟩
/-- The evidences' row is written. -/
theorem mv_ev {m : Nat} {ev ev' : Value} {w w' : World} (hg : w.grownBy w' ev.ownBlock) (hs : Spt w ev ev') : Mv (GE m ev) (GE m ev') w w' := fun k hk hlt => by
  refine ⟨hg.block k hlt (fun e => hk.2 e.symm), hk.1, fun e => ?_⟩
  rcases hs with h | h
  · exact hk.2 (h.symm.trans e)
  · have := h k e; omega
theorem Lg.ev {m b : Nat} {ev ev' : Value} {w w' : World} {ls : List PSn} (h : Lg (GE m ev) w b m ls) (hg : w.grownBy w' ev.ownBlock) (hs : Spt w ev ev') (hb : ev.ownBlock ≠ some b) (hm : ev.ownBlock ≠ some m) : Lg (GE m ev') w' b m ls :=
  h.mv (hg.block b h.lt.1 (fun e => hb e.symm)) (hg.block m h.lt.2 (fun e => hm e.symm)) (mv_ev hg hs)
theorem Lg.ntab {G : Nat → Prop} {w : World} {b m : Nat} {ls : List PSn} (h : Lg G w b m ls) (hT : Tab w) : (some m : Option Nat) ≠ some 1 := by
  intro e
  have e := Option.some.inj e
  obtain ⟨l, h1, _⟩ := h.map
  have h2 := hT 0 (by decide)
  rw [← e, h1.nocell 0] at h2
  cases h2
theorem Lg.nrow {G : Nat → Prop} {w : World} {b m : Nat} {ls : List PSn} (h : Lg G w b m ls) {c : Nat} {t : TypeId} {x : Value} {xs : List Value} (hr : Row w c t (x :: xs)) : (some m : Option Nat) ≠ some c := fun e => by
  have e := Option.some.inj e
  obtain ⟨l, h1, _⟩ := h.map
  have h2 := hr.cell (j := 0) rfl
  rw [← e, h1.nocell 0] at h2
  cases h2
/-- Behind meet, with what it told in a box at block cB. -/
def MdP (m : Nat) (ev : Value) (w : World) (b : Nat) (ls : List PSn) (q : PK) (r : PReq) (g : List Int) (cB : Nat) (t : Bool) (cs : List Value) (w' : World) : Prop :=
  Row w' cB 40 cs ∧ (((meetL ls q r g).2 = [] ∧ t = false) ∨ ∃ M s, (meetL ls q r g).2 = [M] ∧ t = true ∧ cs = mc M s ∧ SOk (From w.heap.size) w' M s) ∧ Lg (GE m ev) w' b m (meetL ls q r g).1 ∧ w.grownBy w' (some m)
/-- What meet told, its cells said whole. -/
theorem MtP.uni {G : Nat → Prop} {w : World} {b m : Nat} {ls : List PSn} {q : PK} {r : PReq} {g : List Int} {e : Ending} {w' : World} (h : MtP G w b m ls q r g e w') :
    ∃ (cs : List Value) (t : Bool), e = .returned (.tuple #[.agg cs.toArray, .bool t]) ∧ cs.length = 23 ∧ (∀ v ∈ cs, v.oneCell' = true) ∧ (((meetL ls q r g).2 = [] ∧ t = false) ∨ ∃ M s, (meetL ls q r g).2 = [M] ∧ t = true ∧ cs = mc M s ∧ SOk (From w.heap.size) w' M s) ∧
      Lg G w' b m (meetL ls q r g).1 ∧ w.grownBy w' (some m) := by
  obtain ⟨h1, h2, h3⟩ := h
  rcases h1 with ⟨a1, a2⟩ | ⟨M, s, a1, a2, a3⟩
  · exact ⟨z23, false, a2, rfl, z23_one, .inl ⟨a1, rfl⟩, h2, h3⟩
  · exact ⟨mc M s, true, a2, rfl, a3.one, .inr ⟨M, s, a1, rfl, rfl, a3⟩, h2, h3⟩
theorem Lg.box {G G' : Nat → Prop} {w w' : World} {b m c : Nat} {ls : List PSn} (h : Lg G' w b m ls) (hg : w.grownBy w' (some c)) (hb : b ≠ c) (hm : m ≠ c) (hG : ∀ k, k < w.heap.size → G' k → k ≠ c ∧ G k) : Lg G w' b m ls :=
  h.mv (hg.block b h.lt.1 (fun e => hb (Option.some.inj e))) (hg.block m h.lt.2 (fun e => hm (Option.some.inj e))) (fun k hk hlt => ⟨hg.block k hlt (fun e => (hG k hlt hk).1 (Option.some.inj e)), (hG k hlt hk).2⟩)
theorem mid_mv {L : List PMsg} {t : Bool} {cs : List Value} {B B' : Nat} {w w' : World} (hm : Mv (From B) (From B') w w') (hs : w.heap.size ≤ w'.heap.size) (h : (L = [] ∧ t = false) ∨ ∃ M s, L = [M] ∧ t = true ∧ cs = mc M s ∧ SOk (From B) w M s) :
    (L = [] ∧ t = false) ∨ ∃ M s, L = [M] ∧ t = true ∧ cs = mc M s ∧ SOk (From B') w' M s := by
  rcases h with h | ⟨M, s, h1, h2, h3, h4⟩
  · exact .inl h
  · exact .inr ⟨M, s, h1, h2, h3, h4.mv hs hm⟩
theorem mv_boxF {B B' c : Nat} {w w' : World} (hg : w.grownBy w' (some c)) (hc : c < B ∨ w.heap.size ≤ c) (hB : B' ≤ B) : Mv (From B) (From B') w w' := fun k hk hlt => by
  unfold From at hk
  exact ⟨hg.block k hlt (fun e => by have := Option.some.inj e; omega), Nat.le_trans hB hk⟩
/-- Note under way: j votes are done. -/
structure NI (w : World) (b m c5 : Nat) (ls : List PSn) (k x y s : Int) (r : PReq) (vs : List PVote) (vb vv o4 p4 : Value) (j : Nat) (ev : Value) (wr : World) : Prop where
  lg : Lg (GE m ev) wr b m (noteV ls k x y s r (vs.take j)).1
  lb : LB RMs 40 23 w.heap.size wr ev (noteV ls k x y s r (vs.take j)).2
  own : Row wr c5 34 [.int .i64 r.1, .int .i64 r.2.1, o4, p4]
  bal : Row wr w.heap.size 32 [.int .i64 x, .int .i64 y]
  o : RT (GE m ev) wr o4 r.2.2.1
  p : RT (GE m ev) wr p4 r.2.2.2
  bd : RT (GE m ev) wr vb (body r)
  vt : RL RVote 2 (GE m ev) wr vv vs
  gr : w.grownBy wr (some m)
  tab : Tab wr
section
variable {w : World} {b m c5 : Nat} {ls : List PSn} {k x y s : Int} {r : PReq} {vs : List PVote} {vb vv o4 p4 : Value} {j : Nat} {ev : Value} {wr wx : World}
theorem NI.below (h : NI w b m c5 ls k x y s r vs vb vv o4 p4 j ev wr) (hb : Below wr.heap.size wr wx) : NI w b m c5 ls k x y s r vs vb vv o4 p4 j ev wx :=
  ⟨h.lg.below hb, h.lb.below mov_ms hb, h.own.below hb, h.bal.below hb, h.o.mv (Mv.belowG hb), h.p.mv (Mv.belowG hb), h.bd.mv (Mv.belowG hb), h.vt.mv mov_vote hb.size (Mv.belowG hb), grown_trans h.gr (grown_of_below hb _) (.inl rfl), h.tab.below hb⟩
theorem NI.skip (h : NI w b m c5 ls k x y s r vs vb vv o4 p4 j ev wr) {V : PVote} (hV : vs[j]? = some V) (hn : rgtV k x y s r V = false) : NI w b m c5 ls k x y s r vs vb vv o4 p4 (j + 1) ev wr := by
  have e : noteV ls k x y s r (vs.take (j + 1)) = noteV ls k x y s r (vs.take j) := by rw [noteV_take hV, stp_no hn]
  exact ⟨by rw [e]; exact h.lg, by rw [e]; exact h.lb, h.own, h.bal, h.o, h.p, h.bd, h.vt, h.gr, h.tab⟩
/-- Behind meet: the ledger has turned. -/
theorem NI.met (h : NI w b m c5 ls k x y s r vs vb vv o4 p4 j ev wr) (hm : m < w.heap.size) (hg : wr.grownBy wx (some m)) : (LB RMs 40 23 w.heap.size wx ev (noteV ls k x y s r (vs.take j)).2 ∧ Row wx c5 34 [.int .i64 r.1, .int .i64 r.2.1, o4, p4] ∧
    Row wx w.heap.size 32 [.int .i64 x, .int .i64 y] ∧ RT (GE m ev) wx o4 r.2.2.1 ∧ RT (GE m ev) wx p4 r.2.2.2 ∧ RT (GE m ev) wx vb (body r) ∧ RL RVote 2 (GE m ev) wx vv vs ∧ w.grownBy wx (some m) ∧ Tab wx) := by
  have hmv : Mv (GE m ev) (GE m ev) wr wx := Mv.nm ge_ne hg
  have hc : (some m : Option Nat) ≠ some c5 := fun e => by
    have e := Option.some.inj e
    obtain ⟨l, h1, _⟩ := h.lg.map
    have h2 := h.own.cell (j := 0) rfl
    rw [← e, h1.nocell 0] at h2
    cases h2
  exact ⟨h.lb.grown mov_ms hg hm, h.own.grown hg hc, h.bal.grown hg (ne_row hm 0), h.o.mv hmv, h.p.mv hmv, h.bd.mv hmv, h.vt.mv mov_vote hg.size hmv, grown_trans h.gr hg (.inl rfl), h.tab.grown hg (h.lg.ntab h.tab)⟩
theorem NI.meet0 (h : NI w b m c5 ls k x y s r vs vb vv o4 p4 j ev wr) (hm : m < w.heap.size) {V : PVote} (hV : vs[j]? = some V) (hy : rgtV k x y s r V = true) (h0 : (meetL (noteV ls k x y s r (vs.take j)).1 (k, x, y, s, V.1) r V.2).2 = [])
    (hg : wr.grownBy wx (some m)) (hl : Lg (GE m ev) wx b m (meetL (noteV ls k x y s r (vs.take j)).1 (k, x, y, s, V.1) r V.2).1) : NI w b m c5 ls k x y s r vs vb vv o4 p4 (j + 1) ev wx := by
  have e : noteV ls k x y s r (vs.take (j + 1)) = ((meetL (noteV ls k x y s r (vs.take j)).1 (k, x, y, s, V.1) r V.2).1, (noteV ls k x y s r (vs.take j)).2) := by rw [noteV_take hV, stp_yes hy, h0, List.append_nil]
  obtain ⟨a1, a2, a3, a4, a5, a6, a7, a8, a9⟩ := h.met hm hg
  exact ⟨by rw [e]; exact hl, by rw [e]; exact a1, a2, a3, a4, a5, a6, a7, a8, a9⟩
theorem NI.meet1 {ev' : Value} {wy : World} (h : NI w b m c5 ls k x y s r vs vb vv o4 p4 j ev wr) (hp : 1 < w.heap.size) (hm : m < w.heap.size) (hb : b < w.heap.size) {V : PVote} (hV : vs[j]? = some V) (hy : rgtV k x y s r V = true) {M : PMsg} (h1 : (meetL (noteV ls k x y s r (vs.take j)).1 (k, x, y, s, V.1) r V.2).2 = [M])
    (hg : wr.grownBy wx (some m)) (hl : Lg (GE m ev) wx b m (meetL (noteV ls k x y s r (vs.take j)).1 (k, x, y, s, V.1) r V.2).1)
    (hL : LB RMs 40 23 w.heap.size wy ev' ((noteV ls k x y s r (vs.take j)).2 ++ [M])) (hg2 : wx.grownBy wy ev.ownBlock) (hs : Spt wx ev ev') : NI w b m c5 ls k x y s r vs vb vv o4 p4 (j + 1) ev' wy := by
  have e : noteV ls k x y s r (vs.take (j + 1)) = ((meetL (noteV ls k x y s r (vs.take j)).1 (k, x, y, s, V.1) r V.2).1, (noteV ls k x y s r (vs.take j)).2 ++ [M]) := by rw [noteV_take hV, stp_yes hy, h1]
  obtain ⟨a1, a2, a3, a4, a5, a6, a7, a8, a9⟩ := h.met hm hg
  have hmv : Mv (GE m ev) (GE m ev') wx wy := mv_ev hg2 hs
  have hfr := a1.fr
  have hn : ∀ q, q < w.heap.size → ev.ownBlock ≠ some q := fun q hq e => by have := hfr q e; omega
  refine ⟨by rw [e]; exact hl.ev hg2 hs (hn b hb) (hn m hm), by rw [e]; exact hL, a2.grown hg2 (a1.nrow a2 (by decide)), a3.grown hg2 (a1.nrow a3 (by decide)), a4.mv hmv, a5.mv hmv, a6.mv hmv, a7.mv mov_vote hg2.size hmv,
    grown_trans a8 hg2 (.inr fun q hq => hfr q hq), a9.grown hg2 (hn _ hp)⟩
end
section
variable {P : Program}
/-- A whole row is stored at a step of a region that draws. -/
theorem step_storeR {ops : Array Oper} {o : Oper} {a : Act} {w : World} {K : Act → World → Prop} {Q : Exit → Act → World → Prop} {E : Prop} (hgd : o.guard = none) (ty : TypeId) (x y : Operand) (ho : o.op = .store ty x y)
    (b : Nat) (ys : List Value) (hx : a.eval x = .pointer (some ⟨b, 0, none⟩)) (hy : a.eval y = .agg ys.toArray) (t : TypeId) (xs : List Value) (h : Row w b t xs) (hl : xs.length = ys.length)
    (hs : (P.info? ty).map (·.size) = some ys.length) (h1 : ∀ v ∈ ys, v.oneCell' = true) (k : ∀ w', Row w' b t ys → w.grownBy w' (some b) → K (a.put o.dst undef) w') :
    if Region.wanted o (yielded ops a.tmps) = true then Oper.wp P o a w K Q else E := by
  have hw : Region.wanted o (yielded ops a.tmps) = true := by simp [Region.wanted, hgd]
  rw [if_pos hw]
  unfold Oper.wp execOp
  simp only [ho, hx, hy, Sem.run_bind, Sem.run_pure, Result.andThen_ok, h.store ty ys hl hs h1]
  exact k _ (h.setRow ys) (grown_setRow _ _ _)
end
end
end Go.Proofs.YtgjepofinpmcpaaGreatDoor
