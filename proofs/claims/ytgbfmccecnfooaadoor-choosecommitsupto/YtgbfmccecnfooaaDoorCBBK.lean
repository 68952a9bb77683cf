/- The walks over package msg: Encode. -/
import Derived.Test.YtgbfmccecnfooaaDoorCBBF
import Derived.Test.YtgbfmccecnfooaaDoorCBBI
import Derived.Defers
import Derived.Recover
import Derived.Laws.Pointers
import Derived.Deep.Cut
set_option linter.unusedVariables false
namespace Go.Proofs.YtgbfmccecnfooaaDoor
open Go.RowKit Oct
theorem assert_run (n : Int) (w : World) : (Instr.typeAssert (.iface 75 (.int .i64 n)) 20 75 false).run Tryd.prog w = .ok (.int .i64 n) w := by kernel_rfl
/-- Two blocks may have turned, no other. -/
structure Two (a b : Nat) (w w' : World) : Prop where
  os : w'.os = w.os
  tape : w'.tape = w.tape
  output : w'.output = w.output
  size : w.heap.size ≤ w'.heap.size
  block : ∀ k, k < w.heap.size → k ≠ a → k ≠ b → w'.heap[k]? = w.heap[k]?
theorem Two.of {a b : Nat} {w w1 w2 : World} (h1 : w.grownBy w1 (some a)) (h2 : w1.grownBy w2 (some b)) : Two a b w w2 :=
  ⟨h2.os.trans h1.os, h2.tape.trans h1.tape, h2.output.trans h1.output, Nat.le_trans h1.size h2.size, fun k hk ha hb =>
    (h2.block k (Nat.lt_of_lt_of_le hk h1.size) (fun e => hb (by injection e))).trans (h1.block k hk (fun e => ha (by injection e)))⟩
theorem Two.below {a b B : Nat} {w w1 w2 : World} (h : Below B w w1) (ht : Two a b w1 w2) (hB : B ≤ w.heap.size) (ha : B ≤ a) (hb : B ≤ b) : Below B w w2 :=
  h.trans ⟨ht.os, ht.tape, ht.output, ht.size, fun k hk => ht.block k (Nat.lt_of_lt_of_le hk (Nat.le_trans hB h.size)) (by omega) (by omega)⟩
/-- The deferred call of Encode, where something was given up: nothing is handed back but the error's number. -/
theorem encCatch (pb pe : Nat) (n : Int) (vb ve : Value) (w : World) (hb : Row w pb 26 [vb]) (he : Row w pe 75 [ve]) (hne : pb ≠ pe) :
    CallsD Tryd.prog 65 #[.pointer (some ⟨pb, 0, none⟩), .pointer (some ⟨pe, 0, none⟩)] (.panicking [{ v := .iface 75 (.int .i64 n), recovered := false }]) w fun e u' w' =>
      e = .returned (.tuple #[]) ∧ u' = .panicking [{ v := .iface 75 (.int .i64 n), recovered := true }] ∧ Row w' pb 26 [.slice none 0 0] ∧ Row w' pe 75 [.int .i64 n] ∧ Two pb pe w w' := by
  refine callsD_of_wpS Tryd.func65 rfl fun c₀ cs hu => ?_
  apply wpS_seq
  apply wpS_region
  simp [wpOpsS, go_sem, recoverD, hu, Tryd.ntmps65, Exit.thenS]
  have ht : (#[Value.pointer (some ⟨pb, 0, none⟩), Value.pointer (some ⟨pe, 0, none⟩)] ++ ((Array.replicate 6 undef).setIfInBounds 1 (Value.iface 75 (Value.int .i64 n))).setIfInBounds 0 (Value.iface 75 (Value.int .i64 n)) : Array Value) =
    #[.pointer (some ⟨pb, 0, none⟩), .pointer (some ⟨pe, 0, none⟩), .iface 75 (.int .i64 n), .iface 75 (.int .i64 n), undef, undef, undef, undef] := rfl
  rw [ht]
  clear ht
  refine wpS_of_wp ?_
  have hta := assert_run n
  have c0 := hb.cell (j := 0) rfl
  have z0 := hb.frozen 0
  have c1 := he.cell (j := 0) rfl
  have z1 := he.frozen 0
  go_wp2_with fail
  go_region
  have r1 := hb.set 0 (.slice none 0 0)
  have g1 := grown_set w pb 0 (.slice none 0 0)
  have r2 := (he.grown g1 (fun e => hne (by injection e))).set 0 (.int .i64 n)
  have g2 := grown_set (w.setCell ⟨pb, 0, none⟩ (.slice none 0 0)) pe 0 (.int .i64 n)
  exact ⟨rfl, _, rfl, _, results_none rfl _ _ _, rfl, rfl, r1.grown (grown_to_drew g2) (fun e => hne (by injection e with e; exact e.symm)), r2, Two.of g1 (grown_to_drew g2)⟩
/-- Where nothing was given up it does nothing. -/
theorem encIdle (pb pe : Nat) (w : World) :
    CallsD Tryd.prog 65 #[.pointer (some ⟨pb, 0, none⟩), .pointer (some ⟨pe, 0, none⟩)] .returning w fun e u' w' => e = .returned (.tuple #[]) ∧ u' = .returning ∧ w' = w := by
  refine callsD_of_wpS Tryd.func65 rfl fun c₀ cs hu => ?_
  apply wpS_seq
  apply wpS_region
  simp [wpOpsS, go_sem, recoverD, hu, Tryd.ntmps65, Exit.thenS]
  have ht : (#[Value.pointer (some ⟨pb, 0, none⟩), Value.pointer (some ⟨pe, 0, none⟩)] ++ ((Array.replicate 6 undef).setIfInBounds 1 Value.nilIface).setIfInBounds 0 Value.nilIface : Array Value) =
    #[.pointer (some ⟨pb, 0, none⟩), .pointer (some ⟨pe, 0, none⟩), .nilIface, .nilIface, undef, undef, undef, undef] := rfl
  rw [ht]
  clear ht
  refine wpS_of_wp ?_
  go_wp2_with fail
  cases c₀
  simp_all [bodyPostS, results, Tryd.results65]
theorem fsB_list (k : Int) : (fsB k).toList = (fl k).map lb := by
  rw [ByteArray.toList_eq]
  simp [fsB]
theorem fsB_empty (k : Int) : (fsB k).toList.isEmpty = (fl k).isEmpty := by
  rw [fsB_list]
  cases fl k <;> rfl
/-- What Encode hands back. -/
def EPost (m : PMsg) (w : World) (e : Ending) (w' : World) : Prop :=
  ∃ v, e = .returned (.tuple #[v, .int .i64 (encE m)]) ∧ Own w' 5 v (bc (encB m)) ∧ Byt (encB m) ∧ Fr w.heap.size v ∧ Below w.heap.size w w'
theorem EPost.no {m : PMsg} {w w' : World} {n : Int} (hn : encE m = n) (h0 : n ≠ 0) (hb : Below w.heap.size w w') : EPost m w (.returned (.tuple #[.slice none 0 0, .int .i64 n])) w' := by
  have e : encB m = [] := by unfold encB; rw [if_neg (by rw [hn]; exact h0)]
  refine ⟨_, by rw [hn], ?_, ?_, Fr.nil _, hb⟩
  · rw [e]; exact Own.nil _ _
  · rw [e]; exact Byt.nil
theorem enc_results (w : World) (tmps : Array Value) (pb pe : Nat) (vb ve : Value) (hb : Row w pb 26 [vb]) (he : Row w pe 75 [ve])
    (h2 : tmps.getD 2 undef = .pointer (some ⟨pb, 0, none⟩)) (h3 : tmps.getD 3 undef = .pointer (some ⟨pe, 0, none⟩)) : (results Tryd.f52 tmps).run Tryd.prog w = .ok (.tuple #[vb, ve]) w := by
  have c0 := hb.cell (j := 0) rfl
  have c1 := he.cell (j := 0) rfl
  simp only [Array.getD_eq_getD_getElem?] at h2 h3
  simp [results, Tryd.results52, go_sem, h2, h3, c0, c1]
theorem enc_gave (w w1 : World) (m : PMsg) (n : Int) (pb pe : Nat) (vb ve : Value) (hb : Row w1 pb 26 [vb]) (he : Row w1 pe 75 [ve]) (hne : pb ≠ pe) (hB : Below w.heap.size w w1) (hpb : w.heap.size ≤ pb) (hpe : w.heap.size ≤ pe)
    (hE : encE m = n) (hn : n ≠ 0) (tmps : Array Value) (h2 : tmps.getD 2 undef = .pointer (some ⟨pb, 0, none⟩)) (h3 : tmps.getD 3 undef = .pointer (some ⟨pe, 0, none⟩)) :
    bodyPostD Tryd.prog Tryd.f52 (EPost m w) (.panic [{ v := .iface 75 (.int .i64 n), recovered := false }])
      { tmps := tmps, defers := [{ target := .fn (.func 65) #[.pointer (some ⟨pb, 0, none⟩), .pointer (some ⟨pe, 0, none⟩)], args := #[] }] } w1 := by
  refine leaves_cons (f := 65) (args := #[.pointer (some ⟨pb, 0, none⟩), .pointer (some ⟨pe, 0, none⟩)]) (by simp) (by simp [go_sem]) ?_
  refine (encCatch pb pe n vb ve w1 hb he hne).mono ?_
  rintro e u' w2 ⟨rfl, rfl, hr1, hr2, two⟩
  exact ⟨_, enc_results w2 tmps pb pe _ _ hr1 hr2 h2 h3, EPost.no hE hn (Two.below hB two (Nat.le_refl _) hpb hpe)⟩
theorem row_alloc {w : World} {b : Nat} {t : TypeId} {xs : List Value} (h : Row w b t xs) (o : Obj) : Row (w.alloc o) b t xs := h.below (below_alloc w o)
set_option maxHeartbeats 2000000 in
theorem encode_no (w : World) (m : PMsg) (s : SV) (hs : SOk Any w m s) (hk : fl m.kind = []) : Calls Tryd.prog 52 #[.agg (mc m s).toArray] w (EPost m w) := by
  obtain ⟨w3, hw3⟩ : ∃ w3, w3 = (((w.alloc (.cells (mc m s).toArray 61)).alloc (.cells #[.slice none 0 0] 26)).alloc (.cells #[.int .i64 0] 75)) := ⟨_, rfl⟩
  have hm : Row w3 w.heap.size 61 (mc m s) := by rw [hw3]; exact row_alloc (row_alloc (Row.new w 61 (mc m s)) _) _
  have hb : Row w3 (w.heap.size + 1) 26 [.slice none 0 0] := by
    rw [hw3]
    have := row_alloc (Row.new (w.alloc (.cells (mc m s).toArray 61)) 26 [.slice none 0 0]) (.cells #[.int .i64 0] 75)
    simpa using this
  have he : Row w3 (w.heap.size + 1 + 1) 75 [.int .i64 0] := by
    rw [hw3]
    have := Row.new ((w.alloc (.cells (mc m s).toArray 61)).alloc (.cells #[.slice none 0 0] 26)) 75 [.int .i64 0]
    simpa using this
  have hB3 : Below w.heap.size w w3 := by rw [hw3]; exact (((Below.refl _ w).alloc (Nat.le_refl _) _).alloc (by simp) _).alloc (by simp; omega) _
  go_enter_defers Tryd.func52, Tryd.ntmps52
  go_upto_region 1 with fail
  rw [← hw3]
  clear hw3
  have c0 := hm.cell (j := 0) rfl
  have hF := fieldsOf_any w3 m.kind
  have hse : (fsB m.kind).toList.isEmpty = true := by rw [fsB_empty, hk]; rfl
  go_wp2_with (go_at_call 66; refine hF.mono ?_; rintro e w3 ⟨rfl, rfl⟩)
  exact enc_gave w w3 m 51 _ _ _ _ hb he (by omega) hB3 (by omega) (by omega) (by unfold encE; rw [if_pos (by simp [badM, hk])]) (by decide) _ rfl rfl
end Go.Proofs.YtgbfmccecnfooaaDoor
