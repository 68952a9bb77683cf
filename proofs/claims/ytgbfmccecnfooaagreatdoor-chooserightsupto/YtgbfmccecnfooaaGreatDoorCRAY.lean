/- The document's writing: numbers, texts. -/
import Derived.Test.YtgbfmccecnfooaaGreatDoorCRAS
import Derived.Test.YtgbfmccecnfooaaGreatDoorCRAT
import Derived.Defers
import Derived.Recover
import Derived.Laws.Pointers
import Derived.Deep.Cut
import Derived.Test.YtgbfmccecnfooaaGreatDoorCRAP
import Derived.Test.YtgbfmccecnfooaaGreatDoorCRAN
import Derived.Deep.RegionLaw
set_option linter.unusedVariables false
namespace Go.Proofs.YtgbfmccecnfooaaGreatDoor
section
open Go.RowKit Oct
theorem assert_run (n : Int) (w : World) : (Instr.typeAssert (.iface 99 (.int .i64 n)) 20 99 false).run Tryz.prog w = .ok (.int .i64 n) w := by kernel_rfl
/-- Two blocks may have turned, no other. -/
structure Two (a b : Nat) (w w' : World) : Prop where
  os : w'.os = w.os
  tape : w'.tape = w.tape
  output : w'.output = w.output
  size : w.heap.size ≤ w'.heap.size
  block : ∀ k, k < w.heap.size → k ≠ a → k ≠ b → w'.heap[k]? = w.heap[k]?
theorem Two.of {a b : Nat} {w w1 w2 : World} (h1 : w.grownBy w1 (some a)) (h2 : w1.grownBy w2 (some b)) : Two a b w w2 :=
  ⟨h2.os.trans h1.os, h2.tape.trans h1.tape, h2.output.trans h1.output, Nat.le_trans h1.size h2.size, fun k hk ha hb =>
    (h2.block k (Nat.lt_of_lt_of_le hk h1.size) (fun e => hb (by injection e))).trans (h1.block k hk (fun e => ha (by injection e)))⟩
theorem Two.below {a b B : Nat} {w w1 w2 : World} (h : Below B w w1) (ht : Two a b w1 w2) (hB : B ≤ w.heap.size) (ha : B ≤ a) (hb : B ≤ b) : Below B w w2 :=
  h.trans ⟨ht.os, ht.tape, ht.output, ht.size, fun k hk => ht.block k (Nat.lt_of_lt_of_le hk (Nat.le_trans hB h.size)) (by omega) (by omega)⟩
/-- The deferred call of Encode, where something was given up: nothing is handed back but the error's number. -/
theorem encCatch (pb pe : Nat) (n : Int) (vb ve : Value) (w : World) (hb : Row w pb 24 [vb]) (he : Row w pe 99 [ve]) (hne : pb ≠ pe) :
    CallsD Tryz.prog 117 #[.pointer (some ⟨pb, 0, none⟩), .pointer (some ⟨pe, 0, none⟩)] (.panicking [{ v := .iface 99 (.int .i64 n), recovered := false }]) w fun e u' w' =>
      e = .returned (.tuple #[]) ∧ u' = .panicking [{ v := .iface 99 (.int .i64 n), recovered := true }] ∧ Row w' pb 24 [.slice none 0 0] ∧ Row w' pe 99 [.int .i64 n] ∧ Two pb pe w w' := by
  refine callsD_of_wpS Tryz.func117 rfl fun c₀ cs hu => ?_
  apply wpS_seq
  apply wpS_region
  simp [wpOpsS, go_sem, recoverD, hu, Tryz.ntmps117, Exit.thenS]
  have ht : (#[Value.pointer (some ⟨pb, 0, none⟩), Value.pointer (some ⟨pe, 0, none⟩)] ++ ((Array.replicate 6 undef).setIfInBounds 1 (Value.iface 99 (Value.int .i64 n))).setIfInBounds 0 (Value.iface 99 (Value.int .i64 n)) : Array Value) =
    #[.pointer (some ⟨pb, 0, none⟩), .pointer (some ⟨pe, 0, none⟩), .iface 99 (.int .i64 n), .iface 99 (.int .i64 n), undef, undef, undef, undef] := rfl
  rw [ht]
  clear ht
  refine wpS_of_wp ?_
  have hta := assert_run n
  have c0 := hb.cell (j := 0) rfl
  have z0 := hb.frozen 0
  have c1 := he.cell (j := 0) rfl
  have z1 := he.frozen 0
  go_wp2_with fail
  go_region
  have r1 := hb.set 0 (.slice none 0 0)
  have g1 := grown_set w pb 0 (.slice none 0 0)
  have r2 := (he.grown g1 (fun e => hne (by injection e))).set 0 (.int .i64 n)
  have g2 := grown_set (w.setCell ⟨pb, 0, none⟩ (.slice none 0 0)) pe 0 (.int .i64 n)
  exact ⟨rfl, _, rfl, _, results_none rfl _ _ _, rfl, rfl, r1.grown (grown_to_drew g2) (fun e => hne (by injection e with e; exact e.symm)), r2, Two.of g1 (grown_to_drew g2)⟩
/-- Where nothing was given up it does nothing. -/
theorem encIdle (pb pe : Nat) (w : World) :
    CallsD Tryz.prog 117 #[.pointer (some ⟨pb, 0, none⟩), .pointer (some ⟨pe, 0, none⟩)] .returning w fun e u' w' => e = .returned (.tuple #[]) ∧ u' = .returning ∧ w' = w := by
  refine callsD_of_wpS Tryz.func117 rfl fun c₀ cs hu => ?_
  apply wpS_seq
  apply wpS_region
  simp [wpOpsS, go_sem, recoverD, hu, Tryz.ntmps117, Exit.thenS]
  have ht : (#[Value.pointer (some ⟨pb, 0, none⟩), Value.pointer (some ⟨pe, 0, none⟩)] ++ ((Array.replicate 6 undef).setIfInBounds 1 Value.nilIface).setIfInBounds 0 Value.nilIface : Array Value) =
    #[.pointer (some ⟨pb, 0, none⟩), .pointer (some ⟨pe, 0, none⟩), .nilIface, .nilIface, undef, undef, undef, undef] := rfl
  rw [ht]
  clear ht
  refine wpS_of_wp ?_
  go_wp2_with fail
  cases c₀
  simp_all [bodyPostS, results, Tryz.results117]
theorem fsB_list (k : Int) : (fsB k).toList = (fl k).map lb := by
  rw [ByteArray.toList_eq]
  simp [fsB]
theorem fsB_empty (k : Int) : (fsB k).toList.isEmpty = (fl k).isEmpty := by
  rw [fsB_list]
  cases fl k <;> rfl
/-- What Encode hands back. -/
def EPost (m : PMsg) (w : World) (e : Ending) (w' : World) : Prop :=
  ∃ v, e = .returned (.tuple #[v, .int .i64 (encE m)]) ∧ Own w' 5 v (bc (encB m)) ∧ Byt (encB m) ∧ Fr w.heap.size v ∧ Below w.heap.size w w'
theorem EPost.no {m : PMsg} {w w' : World} {n : Int} (hn : encE m = n) (h0 : n ≠ 0) (hb : Below w.heap.size w w') : EPost m w (.returned (.tuple #[.slice none 0 0, .int .i64 n])) w' := by
  have e : encB m = [] := by unfold encB; rw [if_neg (by rw [hn]; exact h0)]
  refine ⟨_, by rw [hn], ?_, ?_, Fr.nil _, hb⟩
  · rw [e]; exact Own.nil _ _
  · rw [e]; exact Byt.nil
theorem enc_results (w : World) (tmps : Array Value) (pb pe : Nat) (vb ve : Value) (hb : Row w pb 24 [vb]) (he : Row w pe 99 [ve])
    (h2 : tmps.getD 2 undef = .pointer (some ⟨pb, 0, none⟩)) (h3 : tmps.getD 3 undef = .pointer (some ⟨pe, 0, none⟩)) : (results Tryz.f84 tmps).run Tryz.prog w = .ok (.tuple #[vb, ve]) w := by
  have c0 := hb.cell (j := 0) rfl
  have c1 := he.cell (j := 0) rfl
  simp only [Array.getD_eq_getD_getElem?] at h2 h3
  simp [results, Tryz.results84, go_sem, h2, h3, c0, c1]
theorem enc_gave (w w1 : World) (m : PMsg) (n : Int) (pb pe : Nat) (vb ve : Value) (hb : Row w1 pb 24 [vb]) (he : Row w1 pe 99 [ve]) (hne : pb ≠ pe) (hB : Below w.heap.size w w1) (hpb : w.heap.size ≤ pb) (hpe : w.heap.size ≤ pe)
    (hE : encE m = n) (hn : n ≠ 0) (tmps : Array Value) (h2 : tmps.getD 2 undef = .pointer (some ⟨pb, 0, none⟩)) (h3 : tmps.getD 3 undef = .pointer (some ⟨pe, 0, none⟩)) :
    bodyPostD Tryz.prog Tryz.f84 (EPost m w) (.panic [{ v := .iface 99 (.int .i64 n), recovered := false }])
      { tmps := tmps, defers := [{ target := .fn (.func 117) #[.pointer (some ⟨pb, 0, none⟩), .pointer (some ⟨pe, 0, none⟩)], args := #[] }] } w1 := by
  refine leaves_cons (f := 117) (args := #[.pointer (some ⟨pb, 0, none⟩), .pointer (some ⟨pe, 0, none⟩)]) (by simp) (by simp [go_sem]) ?_
  refine (encCatch pb pe n vb ve w1 hb he hne).mono ?_
  rintro e u' w2 ⟨rfl, rfl, hr1, hr2, two⟩
  exact ⟨_, enc_results w2 tmps pb pe _ _ hr1 hr2 h2 h3, EPost.no hE hn (Two.below hB two (Nat.le_refl _) hpb hpe)⟩
theorem row_alloc {w : World} {b : Nat} {t : TypeId} {xs : List Value} (h : Row w b t xs) (o : Obj) : Row (w.alloc o) b t xs := h.below (below_alloc w o)
set_option maxHeartbeats 2000000 in
theorem encode_no (w : World) (m : PMsg) (s : SV) (hs : SOk Any w m s) (hk : fl m.kind = []) : Calls Tryz.prog 84 #[.agg (mc m s).toArray] w (EPost m w) := by
  obtain ⟨w3, hw3⟩ : ∃ w3, w3 = (((w.alloc (.cells (mc m s).toArray 72)).alloc (.cells #[.slice none 0 0] 24)).alloc (.cells #[.int .i64 0] 99)) := ⟨_, rfl⟩
  have hm : Row w3 w.heap.size 72 (mc m s) := by rw [hw3]; exact row_alloc (row_alloc (Row.new w 72 (mc m s)) _) _
  have hb : Row w3 (w.heap.size + 1) 24 [.slice none 0 0] := by
    rw [hw3]
    have := row_alloc (Row.new (w.alloc (.cells (mc m s).toArray 72)) 24 [.slice none 0 0]) (.cells #[.int .i64 0] 99)
    simpa using this
  have he : Row w3 (w.heap.size + 1 + 1) 99 [.int .i64 0] := by
    rw [hw3]
    have := Row.new ((w.alloc (.cells (mc m s).toArray 72)).alloc (.cells #[.slice none 0 0] 24)) 99 [.int .i64 0]
    simpa using this
  have hB3 : Below w.heap.size w w3 := by rw [hw3]; exact (((Below.refl _ w).alloc (Nat.le_refl _) _).alloc (by simp) _).alloc (by simp; omega) _
  go_enter_defers Tryz.func84, Tryz.ntmps84
  go_upto_region 1 with fail
  rw [← hw3]
  clear hw3
  have c0 := hm.cell (j := 0) rfl
  have hF := fieldsOf_any w3 m.kind
  have hse : (fsB m.kind).toList.isEmpty = true := by rw [fsB_empty, hk]; rfl
  go_wp2_with (go_at_call 118; refine hF.mono ?_; rintro e w3 ⟨rfl, rfl⟩)
  exact enc_gave w w3 m 51 _ _ _ _ hb he (by omega) hB3 (by omega) (by omega) (by unfold encE; rw [if_pos (by simp [badM, hk])]) (by decide) _ rfl rfl
end
section
open Go.RowKit Oct
/-- What a writing of the document's ends in. -/
def OPost {α : Type} (c : Cdc α) (x : α) (w : World) (sv : Value) (bad : Bool) (L : List Int) (e : Ending) (w' : World) : Prop :=
  ∃ sv', e = .returned (.agg #[sv', .bool (bad || !c.ok x)]) ∧ App w 5 sv w' sv' (bc (L ++ c.wr x))
theorem App.box {w w4 : World} {sv v4 : Value} {X : List Value} (h : App w 5 sv w4 v4 X) {b : Nat} (hb : w.heap.size ≤ b) {t : TypeId} {xs : List Value} (rr : Row w4 b t xs) (u0 u1 : Value) (ht : t ≠ 5 := by decide) :
    App w 5 sv ((w4.setCell ⟨b, 0, none⟩ u0).setCell ⟨b, 1, none⟩ u1) v4 X := by
  have hn := own_row_ne rr h.own ht
  have hg := grown_trans (grown_set w4 b 0 u0) (grown_set (w4.setCell ⟨b, 0, none⟩ u0) b 1 u1) (.inl rfl)
  exact ⟨h.own.grown hg (fun k hk => by cases hk; exact hn), grown_trans h.grown hg (.inr fun k hk => by cases hk; exact hb), h.spot⟩
theorem outI_len (n : Int) : (outI n).length ≤ 10 := by
  unfold outI
  split
  · exact (enc_len n).2
  · simp
set_option maxRecDepth 10000 in
set_option maxHeartbeats 2000000 in
theorem refNum_any (w : World) (sv : Value) (bad : Bool) (L : List Int) (n : Int) (hown : Own w 5 sv (bc L)) (hl : L.length ≤ 140737488355300) :
    Calls Tryz.prog 131 #[.agg #[sv, .bool bad], .int .i64 n] w (OPost cN n w sv bad L) := by
  obtain ⟨w2, hw2⟩ : ∃ w2, w2 = (w.alloc (.cells #[sv, .bool bad] 157)).alloc (.cells #[.slice none 0 0, .bool false] 157) := ⟨_, rfl⟩
  have ra : Row w2 w.heap.size 157 [sv, .bool bad] := by rw [hw2]; exact row_alloc (Row.new w _ _) _
  have rr : Row w2 (w.heap.size + 1) 157 [.slice none 0 0, .bool false] := by
    rw [hw2]
    have := Row.new (w.alloc (.cells #[sv, .bool bad] 157)) 157 [.slice none 0 0, .bool false]
    simpa using this
  have hB : Below w.heap.size w w2 := by rw [hw2]; exact ((Below.refl _ w).alloc (Nat.le_refl _) _).alloc (by simp) _
  have hI := refInt_any w2 n
  go_enter Tryz.func131, Tryz.ntmps131
  go_upto_region 1 with fail
  rw [← hw2]
  clear hw2
  go_wp2_with fail
  refine hI.mono ?_
  rintro e w3 ⟨v3, rfl, hown3, hfr3, hb3⟩
  have ra3 := ra.below hb3
  have c0 := ra3.cell (j := 0) rfl
  have c1 := ra3.cell (j := 1) rfl
  have hB3 := below_and hB (Nat.le_refl _) hb3
  have hoL := hown.below hB3
  clear hI
  have rr3 := rr.below hb3
  have hrd3 := hown3.rdv
  have hne1 := own_row_ne ra3 hoL (by decide)
  have hne2 := own_row_ne rr3 hoL (by decide)
  have KC := (show Hid (w3.drew.cell? ⟨w.heap.size, 0, none⟩ = some sv ∧ w3.drew.cell? ⟨w.heap.size, 1, none⟩ = some (.bool bad)) from ⟨c0, c1⟩)
  have KR := (show Hid (Row w3.drew (w.heap.size + 1) 157 [.slice none 0 0, .bool false]) from rr3)
  have HL := (show Hid (L.length + (outI n).length ≤ 140737488355328) by show _ ≤ _; have := outI_len n; omega)
  have hE : (errI n != 0) = !okI n := by unfold errI; cases okI n <;> rfl
  have hB3d : Below w.heap.size w w3.drew := hB3.trans ⟨rfl, rfl, rfl, Nat.le_refl _, fun _ _ => rfl⟩
  clear ra rr ra3 hown hown3 hfr3 hb3 hl
  generalize errI n = E at *
  go_wp2_with fail
  cases bad with
  | false =>
    go_region_held3 (fun u => u.cell? ⟨w.heap.size, 0, none⟩ = some sv ∧ u.cell? ⟨w.heap.size, 1, none⟩ = some (.bool false))
      (first | exact hS4 | go_keep)
      (first
        | (refine step_bytes (by rfl) _ _ (by rfl) sv L (by rfl) hoL.drew v3 (outI n) (by rfl) hrd3.drew HL.out ?_; intro v4 w4 happ4; obtain ⟨ao4, n4, c4, rfl⟩ := own_slice happ4.own; have hS4 : w4.cell? ⟨w.heap.size, 0, none⟩ = some sv ∧ w4.cell? ⟨w.heap.size, 1, none⟩ = some (.bool false) := ⟨grown_cell happ4.grown KC.out.1 hne1, grown_cell happ4.grown KC.out.2 hne1⟩; have rr4 := KR.out.grown happ4.grown hne2; have d0 := rr4.cell (j := 0) rfl; have d1 := rr4.cell (j := 1) rfl; have z0 := rr4.frozen 0; have z1 := rr4.frozen 1))
    have hap := (App.pre hB3d happ4)
    have ho := App.box hap (Nat.le_succ _) rr4 (.slice ao4 n4 c4) (.bool (!okI n))
    have hr := (rr4.set 0 (.slice ao4 n4 c4)).set 1 (.bool (!okI n))
    go_wp2_with fail
    refine bodyPost_ret (v := .agg ([.slice ao4 n4 c4, (.bool (!okI n))] : List Value).toArray) (results_cell_row rfl _ _ (w.heap.size + 1) _ _ (0, 0) _ (by rfl) hr Tryz.underlying157 rfl (by kernel_rfl)) rfl ?_
    exact ⟨_, rfl, ho⟩
  | true =>
    first
    | (go_region_law
      (first
        | (refine step_bytes (by rfl) _ _ (by rfl) sv L (by rfl) hoL.drew v3 (outI n) (by rfl) hrd3.drew HL.out ?_; intro v4 w4 happ4; obtain ⟨ao4, n4, c4, rfl⟩ := own_slice happ4.own; have hS4 : w4.cell? ⟨w.heap.size, 0, none⟩ = some sv ∧ w4.cell? ⟨w.heap.size, 1, none⟩ = some (.bool true) := ⟨grown_cell happ4.grown KC.out.1 hne1, grown_cell happ4.grown KC.out.2 hne1⟩; have rr4 := KR.out.grown happ4.grown hne2; have d0 := rr4.cell (j := 0) rfl; have d1 := rr4.cell (j := 1) rfl; have z0 := rr4.frozen 0; have z1 := rr4.frozen 1)))
    | fail
    all_goals (
      have hap := (App.pre hB3d happ4)
      have ho := App.box hap (Nat.le_succ _) rr4 (.slice ao4 n4 c4) (.bool true)
      have hr := (rr4.set 0 (.slice ao4 n4 c4)).set 1 (.bool true)
      go_wp2_with fail
      refine bodyPost_ret (v := .agg ([.slice ao4 n4 c4, (.bool true)] : List Value).toArray) (results_cell_row rfl _ _ (w.heap.size + 1) _ _ (0, 0) _ (by rfl) hr Tryz.underlying157 rfl (by kernel_rfl)) rfl ?_
      exact ⟨_, rfl, ho⟩)
set_option maxRecDepth 10000 in
set_option maxHeartbeats 2000000 in
theorem refText_any (w : World) (sv : Value) (bad : Bool) (L : List Int) (p : Value) (t : List Int) (hown : Own w 5 sv (bc L)) (hp : Rd w p t) (hl : L.length ≤ 140730000000000) (ht : t.length ≤ 2147483647) :
    Calls Tryz.prog 164 #[.agg #[sv, .bool bad], p] w (OPost cT t w sv bad L) := by
  obtain ⟨ap, cp, rfl, hcp⟩ := hp.2.form
  rw [bc_len] at hp ⊢
  obtain ⟨w2, hw2⟩ : ∃ w2, w2 = (w.alloc (.cells #[sv, .bool bad] 157)).alloc (.cells #[.slice none 0 0, .bool false] 157) := ⟨_, rfl⟩
  have ra : Row w2 w.heap.size 157 [sv, .bool bad] := by rw [hw2]; exact row_alloc (Row.new w _ _) _
  have rr : Row w2 (w.heap.size + 1) 157 [.slice none 0 0, .bool false] := by
    rw [hw2]
    have := Row.new (w.alloc (.cells #[sv, .bool bad] 157)) 157 [.slice none 0 0, .bool false]
    simpa using this
  have hB : Below w.heap.size w w2 := by rw [hw2]; exact ((Below.refl _ w).alloc (Nat.le_refl _) _).alloc (by simp) _
  have c0 := ra.cell (j := 0) rfl
  have c1 := ra.cell (j := 1) rfl
  have hdw : Below w2.heap.size w2 w2.drew := ⟨rfl, rfl, rfl, Nat.le_refl _, fun _ _ => rfl⟩
  have HI := (show Hid (∀ _ : Unit, _) from fun _ => refBytes_any w2.drew _ t (hp.below (hB.trans (hdw.mono hB.size))) ht)
  have SK := (show Hid (∀ u, Below w2.heap.size w2 u → u.cell? ⟨w.heap.size, 0, none⟩ = some sv ∧ u.cell? ⟨w.heap.size, 1, none⟩ = some (.bool bad)) from fun u hu => ⟨(ra.below hu).cell (j := 0) rfl, (ra.below hu).cell (j := 1) rfl⟩)
  have hoL := hown.below hB
  have hne1 := own_row_ne ra hoL (by decide)
  have hne2 := own_row_ne rr hoL (by decide)
  have HL := (show Hid (L.length + (enc t.length ++ t).length ≤ 140737488355328) by show _ ≤ _; have := enc_len (t.length : Int); have h9 : (enc t.length ++ t).length = (enc t.length).length + t.length := List.length_append; omega)
  have hE : decide ((65536 : Int) < (t.length : Int)) = !(cT.ok t) := by
    show _ = !decide (t.length ≤ 65536)
    by_cases h : t.length ≤ 65536
    · simp [h]; omega
    · simp [h]; omega
  go_enter Tryz.func164, Tryz.ntmps164
  go_upto_region 1 with fail
  rw [← hw2]
  clear hw2 hown hp hl ht
  go_wp2_with fail
  cases bad with
  | false =>
    go_region_held3 (fun u => u.cell? ⟨w.heap.size, 0, none⟩ = some sv ∧ u.cell? ⟨w.heap.size, 1, none⟩ = some (.bool false))
      (first | exact hS4 | exact SK.out _ (by assumption) | go_keep)
      (first
        | (go_at_call 67; refine (HI.out ()).mono ?_; rintro e w3 ⟨v3, rfl, hown3, hfr3, hb3⟩; have hb3' : Below w2.heap.size w2 w3 := hdw.trans hb3; have hoL3 := hoL.below hb3'; have KC := (show Hid (w3.cell? ⟨w.heap.size, 0, none⟩ = some sv ∧ w3.cell? ⟨w.heap.size, 1, none⟩ = some (.bool false)) from SK.out w3 hb3'); have KR := (show Hid (Row w3 (w.heap.size + 1) 157 [.slice none 0 0, .bool false]) from rr.below hb3'); have hB3d := below_and hB (Nat.le_refl _) hb3'; clear HI)
        | (refine step_bytes (by rfl) _ _ (by rfl) sv L (by rfl) hoL3 v3 (enc t.length ++ t) (by rfl) hown3.rdv HL.out ?_; intro v4 w4 happ4; obtain ⟨ao4, n4, c4, rfl⟩ := own_slice happ4.own; have hS4 : w4.cell? ⟨w.heap.size, 0, none⟩ = some sv ∧ w4.cell? ⟨w.heap.size, 1, none⟩ = some (.bool false) := ⟨grown_cell happ4.grown KC.out.1 hne1, grown_cell happ4.grown KC.out.2 hne1⟩; have rr4 := KR.out.grown happ4.grown hne2; have d0 := rr4.cell (j := 0) rfl; have d1 := rr4.cell (j := 1) rfl; have z0 := rr4.frozen 0; have z1 := rr4.frozen 1))
    have hap := (App.pre hB3d happ4)
    have ho := App.box hap (Nat.le_succ _) rr4 (.slice ao4 n4 c4) (.bool (!cT.ok t))
    have hr := (rr4.set 0 (.slice ao4 n4 c4)).set 1 (.bool (!cT.ok t))
    go_wp2_with fail
    refine bodyPost_ret (v := .agg ([.slice ao4 n4 c4, (.bool (!cT.ok t))] : List Value).toArray) (results_cell_row rfl _ _ (w.heap.size + 1) _ _ (0, 0) _ (by rfl) hr Tryz.underlying157 rfl (by kernel_rfl)) rfl ?_
    exact ⟨_, rfl, ho⟩
  | true =>
    first
    | (go_region_law
      (first
        | (refine step_bytes (by rfl) _ _ (by rfl) sv L (by rfl) hoL3 v3 (enc t.length ++ t) (by rfl) hown3.rdv HL.out ?_; intro v4 w4 happ4; obtain ⟨ao4, n4, c4, rfl⟩ := own_slice happ4.own; have hS4 : w4.cell? ⟨w.heap.size, 0, none⟩ = some sv ∧ w4.cell? ⟨w.heap.size, 1, none⟩ = some (.bool true) := ⟨grown_cell happ4.grown KC.out.1 hne1, grown_cell happ4.grown KC.out.2 hne1⟩; have rr4 := KR.out.grown happ4.grown hne2; have d0 := rr4.cell (j := 0) rfl; have d1 := rr4.cell (j := 1) rfl; have z0 := rr4.frozen 0; have z1 := rr4.frozen 1)
        | (go_simp; go_at_call 67; refine (HI.out ()).mono ?_; rintro e w3 ⟨v3, rfl, hown3, hfr3, hb3⟩; have hb3' : Below w2.heap.size w2 w3 := hdw.trans hb3; have hoL3 := hoL.below hb3'; have KC := (show Hid (w3.cell? ⟨w.heap.size, 0, none⟩ = some sv ∧ w3.cell? ⟨w.heap.size, 1, none⟩ = some (.bool true)) from SK.out w3 hb3'); have KR := (show Hid (Row w3 (w.heap.size + 1) 157 [.slice none 0 0, .bool false]) from rr.below hb3'); have hB3d := below_and hB (Nat.le_refl _) hb3'; obtain ⟨k0, k1⟩ := SK.out w3 hb3')))
    | fail
    all_goals (
      have hap := (App.pre hB3d happ4)
      have ho := App.box hap (Nat.le_succ _) rr4 (.slice ao4 n4 c4) (.bool true)
      have hr := (rr4.set 0 (.slice ao4 n4 c4)).set 1 (.bool true)
      go_wp2_with fail
      refine bodyPost_ret (v := .agg ([.slice ao4 n4 c4, (.bool true)] : List Value).toArray) (results_cell_row rfl _ _ (w.heap.size + 1) _ _ (0, 0) _ (by rfl) hr Tryz.underlying157 rfl (by kernel_rfl)) rfl ?_
      exact ⟨_, rfl, ho⟩)
end
end Go.Proofs.YtgbfmccecnfooaaGreatDoor
