/- The walks over package msg: Decode. -/
import Derived.Test.YtjoikkhmijalmaaD5
import Derived.Test.YtjoikkhmijalmaaD6
import Derived.Test.YtjoikkhmijalmaaF3
import Derived.Test.YtjoikkhmijalmaaE2
import Derived.Deep.QuietTactic
import Derived.BigQuiet
set_option linter.unusedVariables false
namespace Go.Proofs.Ytjoikkhmijalmaa
open Go.RowKit Oct

theorem rdFs_app : ∀ (fs gs : List Nat) (m : PMsg) (l : List Int), rdFs (fs ++ gs) m l = (rdFs fs m l).bind fun x => rdFs gs x.1 x.2
  | [], gs, m, l => rfl
  | i :: fs, gs, m, l => by
    simp only [List.cons_append, rdFs]
    cases (cF i).rd l with
    | none => rfl
    | some x => simp only [Option.bind_some]; exact rdFs_app fs gs _ _
theorem rdFs_take {fs : List Nat} {q i : Nat} (hi : fs[q]? = some i) {m m1 : PMsg} {l l1 : List Int} (h : rdFs (fs.take q) m l = some (m1, l1)) {v : FV} {l2 : List Int} (hv : (cF i).rd l1 = some (v, l2)) : rdFs (fs.take (q + 1)) m l = some (set m1 i v, l2) := by
  rw [take_snoc' fs q i hi, rdFs_app, h]
  simp [rdFs, hv]
theorem rdFs_gone {fs : List Nat} {q i : Nat} (hi : fs[q]? = some i) {m m1 : PMsg} {l l1 : List Int} (h : rdFs (fs.take q) m l = some (m1, l1)) (hv : (cF i).rd l1 = none) : rdFs fs m l = none := by
  have e : fs = fs.take (q + 1) ++ fs.drop (q + 1) := (List.take_append_drop _ _).symm
  rw [e, rdFs_app, take_snoc' fs q i hi, rdFs_app, h]
  simp [rdFs, hv]

set_option maxHeartbeats 400000 in
/-- end. -/
theorem rend_any (L : Nat) (w : World) (r : Nat) (bv : Value) (l : List Int) (p : Nat) (hS : RS L w r bv l p) :
    Calls Try.prog 14 #[.pointer (some ⟨r, 0, none⟩)] w fun e w' => w.grownBy w' none ∧ ((p = l.length ∧ e = .returned (.tuple #[])) ∨ (p ≠ l.length ∧ e = .panicked [{ v := .iface 34 (.int .i64 51), recovered := false }])) := by
  have c0 := hS.row.cell (j := 0) rfl
  have c1 := hS.row.cell (j := 1) rfl
  obtain ⟨ao, cap, rfl, hc⟩ := hS.rd.form
  have hp := hS.hp
  by_cases h : p = l.length
  · have hq : ((p : Int) != (l.length : Int)) = false := by simp [h]
    go_enter Try.func14, Try.ntmps14
    go_wp2_with fail
    go_quiet (fail)
    go_wp2_with fail
    go_end0
    exact ⟨⟨rfl, rfl, rfl, Nat.le_refl _, fun _ _ _ => rfl⟩, .inl ⟨h, rfl⟩⟩
  · have hq : ((p : Int) != (l.length : Int)) = true := by simp; omega
    go_enter Try.func14, Try.ntmps14
    go_wp2_with fail
    go_quiet (fail)
    go_wp2_with fail
    exact ⟨rfl, ⟨rfl, rfl, rfl, Nat.le_refl _, fun _ _ _ => rfl⟩, .inr ⟨h, rfl⟩⟩

/-- What Decode hands back. -/
def DecPost (l : List Int) (w : World) (e : Ending) (w' : World) : Prop :=
  ∃ s, e = .returned (.tuple #[.agg (mc (decM l) s).toArray, .int .i64 (decE l)]) ∧ SOk (From w.heap.size) w' (decM l) s ∧ Below w.heap.size w w'
theorem dec_results (w : World) (tmps : Array Value) (pm pe : Nat) (vm : List Value) (hvl : vm.length = 23) (ve : Value) (hm : Row w pm 33 vm) (he : Row w pe 34 [ve])
    (h2 : tmps.getD 2 undef = .pointer (some ⟨pm, 0, none⟩)) (h3 : tmps.getD 3 undef = .pointer (some ⟨pe, 0, none⟩)) : (results Try.f5 tmps).run Try.prog w = .ok (.tuple #[.agg vm.toArray, ve]) w := by
  have c1 := he.cell (j := 0) rfl
  have hi : (Try.prog.info? 33).map (·.size) = some vm.toArray.size := by rw [List.size_toArray, hvl]; kernel_rfl
  have hld := run_loadVar_row (P := Try.prog) w pm 33 33 vm.toArray (0, 0) _ hm Try.underlying33 rfl hi
  simp only [Array.getD_eq_getD_getElem?] at h2 h3
  have hle : (loadVar 34 ⟨pe, 0, none⟩).run Try.prog w = .ok ve w := by simp [go_sem, c1]
  simp [results, Try.results5, asAddr, h2, h3, hld, hle]
theorem decE_bad {l : List Int} (hl : ¬ 1048576 < l.length) (h : rdM l = none) : decE l = 51 ∧ decM l = zeroM := by
  unfold decE decM
  rw [if_neg hl, if_neg hl, h]
  exact ⟨rfl, rfl⟩
theorem decE_many {l : List Int} (hl : 1048576 < l.length) : decE l = 53 ∧ decM l = zeroM := by
  unfold decE decM
  rw [if_pos hl, if_pos hl]
  exact ⟨rfl, rfl⟩
theorem decE_ok {l : List Int} (hl : ¬ 1048576 < l.length) {m : PMsg} (h : rdM l = some m) : decE l = 0 ∧ decM l = m := by
  unfold decE decM
  rw [if_neg hl, if_neg hl, h]
  exact ⟨rfl, rfl⟩
theorem dec_gave (w w1 : World) (l : List Int) (pm pe : Nat) (m : PMsg) (s : SV) (ve : Value) (hm : Row w1 pm 33 (mc m s)) (he : Row w1 pe 34 [ve]) (hne : pm ≠ pe) (hB : Below w.heap.size w w1) (hpm : w.heap.size ≤ pm) (hpe : w.heap.size ≤ pe)
    (hl : ¬ 1048576 < l.length) (hr : rdM l = none) (tmps : Array Value) (h2 : tmps.getD 2 undef = .pointer (some ⟨pm, 0, none⟩)) (h3 : tmps.getD 3 undef = .pointer (some ⟨pe, 0, none⟩)) :
    bodyPostD Try.prog Try.f5 (DecPost l w) (.panic [{ v := .iface 34 (.int .i64 51), recovered := false }])
      { tmps := tmps, defers := [{ target := .fn (.func 10) #[.pointer (some ⟨pm, 0, none⟩), .pointer (some ⟨pe, 0, none⟩)], args := #[] }] } w1 := by
  refine leaves_cons (f := 10) (args := #[.pointer (some ⟨pm, 0, none⟩), .pointer (some ⟨pe, 0, none⟩)]) (by simp) (by simp [go_sem]) ?_
  refine (decCatch pm pe 51 m s ve w1 hm he hne).mono ?_
  rintro e u' w2 ⟨rfl, rfl, hr1, hr2, two⟩
  obtain ⟨e1, e2⟩ := decE_bad hl hr
  exact ⟨_, dec_results w2 tmps pm pe _ rfl _ hr1 hr2 h2 h3, sv0, by rw [e1, e2], by rw [e2]; exact SOk.zero _ _ 0, Two.below hB two (Nat.le_refl _) hpm hpe⟩
theorem dec_back (w w1 : World) (l : List Int) (pm pe : Nat) (m : PMsg) (s : SV) (hm : Row w1 pm 33 (mc m s)) (he : Row w1 pe 34 [.int .i64 0]) (hB : Below w.heap.size w w1)
    (hl : ¬ 1048576 < l.length) (hr : rdM l = some m) (hs : SOk (From w.heap.size) w1 m s) (tmps : Array Value) (h2 : tmps.getD 2 undef = .pointer (some ⟨pm, 0, none⟩)) (h3 : tmps.getD 3 undef = .pointer (some ⟨pe, 0, none⟩)) :
    bodyPostD Try.prog Try.f5 (DecPost l w) .ret
      { tmps := tmps, defers := [{ target := .fn (.func 10) #[.pointer (some ⟨pm, 0, none⟩), .pointer (some ⟨pe, 0, none⟩)], args := #[] }] } w1 := by
  refine leaves_cons (f := 10) (args := #[.pointer (some ⟨pm, 0, none⟩), .pointer (some ⟨pe, 0, none⟩)]) (by simp) (by simp [go_sem]) ?_
  refine (decIdle pm pe w1).mono ?_
  rintro e u' w2 ⟨rfl, rfl, rfl⟩
  obtain ⟨e1, e2⟩ := decE_ok hl hr
  exact ⟨_, dec_results _ tmps pm pe _ rfl _ hm he h2 h3, s, by rw [e1, e2], by rw [e2]; exact hs, hB⟩

theorem DS.below {w00 : World} {L it : Nat} {w w' : World} {r pm : Nat} {bv : Value} {l : List Int} {p : Nat} {m : PMsg} (h : DS w00 L it w r pm bv l p m) (hb : Below w.heap.size w w') : DS w00 L it w' r pm bv l p m := by
  obtain ⟨s, hm, hs⟩ := h.mrow
  exact ⟨below_and h.bel (Nat.le_refl _) hb, h.bytes, h.rlo, h.plo, h.rL, h.pL, h.ne, Nat.le_trans h.hL hb.size, h.row.below hb, ⟨s, hm.below hb, hs.mv hb.size (Mv.belowG hb)⟩, h.hp, h.hl, Nat.lt_of_lt_of_le h.itw hb.size⟩
/-- The iterator is laid. -/
theorem DS.turn {w00 : World} {L it it' : Nat} {w : World} {r pm : Nat} {bv : Value} {l : List Int} {p : Nat} {m : PMsg} (h : DS w00 L it w r pm bv l p m) (s : ByteArray) (hit : it' = w.heap.size) : DS w00 L it' (w.iter s 0) r pm bv l p m := by
  subst hit
  have hb : Below w.heap.size w (w.iter s 0) := (Below.refl _ w).alloc (Nat.le_refl _) _
  obtain ⟨sv, hm, hs⟩ := h.mrow
  refine ⟨below_and h.bel (Nat.le_refl _) hb, h.bytes, h.rlo, h.plo, h.rL, h.pL, h.ne, Nat.le_trans h.hL hb.size, h.row.below hb, ⟨sv, hm.below hb, hs.mv hb.size fun k hk hlt => ⟨hb.block k hlt, hk.1, by omega⟩⟩, h.hp, h.hl, ?_⟩
  simp [World.iter]
theorem DS.iter {w00 : World} {L it : Nat} {w : World} {r pm : Nat} {bv : Value} {l : List Int} {p : Nat} {m : PMsg} (h : DS w00 L it w r pm bv l p m) {s : ByteArray} {q : Nat} (hk : w.heap[it]? = some (.stringIter s q)) (h0 : w00.heap.size ≤ it) (q' : Nat) : DS w00 L it (w.iterAt it s q') r pm bv l p m := by
  have hne : ∀ k t xs, Row w k t xs → k ≠ it := fun k t xs h e => by unfold Row at h; rw [e, hk] at h; cases h
  obtain ⟨sv, hm, hs⟩ := h.mrow
  exact ⟨Lib.below_iterAt h.bel h0 s q', h.bytes, h.rlo, h.plo, h.rL, h.pL, h.ne, by rw [Lib.iterAt_size]; exact h.hL, iter_low h.row (hne _ _ _ h.row), ⟨sv, iter_low hm (hne _ _ _ hm), hs.mv (by rw [Lib.iterAt_size]; exact Nat.le_refl _) fun k hk _ => ⟨Lib.iterAt_other w it k s q' hk.2, hk⟩⟩, h.hp, h.hl, by rw [Lib.iterAt_size]; exact h.itw⟩
theorem two_iter {a b : Nat} {w w' : World} {k : Nat} {s : ByteArray} {p : Nat} (h : Two a b w w') (hk : w.heap[k]? = some (.stringIter s p)) (ha : k ≠ a) (hb : k ≠ b) : w'.heap[k]? = some (.stringIter s p) := by
  rw [h.block k (Array.getElem?_eq_some_iff.1 hk).1 ha hb]
  exact hk
theorem Row.two {a b k : Nat} {w w' : World} {t : TypeId} {xs : List Value} (h : Row w k t xs) (ht : Two a b w w') (ha : k ≠ a) (hb : k ≠ b) : Row w' k t xs := (ht.block k h.lt ha hb).trans h

theorem rdM_kind {l : List Int} (h : cN.rd l = none) : rdM l = none := by simp [rdM, rdG, h]
theorem rdM_fl {l l1 : List Int} {k : Int} (h : cN.rd l = some (k, l1)) (hf : fl k = []) : rdM l = none := by simp [rdM, rdG, h, hf]
theorem rdM_fs {l l1 : List Int} {k : Int} (h : cN.rd l = some (k, l1)) (hr : rdFs (fl k) { zeroM with kind := k } l1 = none) : rdM l = none := by
  simp only [rdM, rdG, h, Option.bind_some]
  split
  · rfl
  · rw [hr]; rfl
theorem rdM_trail {l l1 l2 : List Int} {k : Int} {m : PMsg} (h : cN.rd l = some (k, l1)) (hr : rdFs (fl k) { zeroM with kind := k } l1 = some (m, l2)) (h2 : l2 ≠ []) : rdM l = none := by
  simp only [rdM, rdG, h, Option.bind_some]
  split
  · rfl
  · rw [hr]; simp [h2]
theorem rdM_whole {l l1 : List Int} {k : Int} {m : PMsg} (h : cN.rd l = some (k, l1)) (hf : fl k ≠ []) (hr : rdFs (fl k) { zeroM with kind := k } l1 = some (m, [])) : rdM l = some m := by
  simp only [rdM, rdG, h, Option.bind_some]
  rw [if_neg (by simpa using hf), hr]
  rfl
end Go.Proofs.Ytjoikkhmijalmaa
