/- The walks over package msg: preps, lists of numbers, of requests, of preps read. (Laid by mk5r.py.) -/
import Derived.Test.YtgjepofinpmcpaaGreatDoorSAW
import Derived.Test.YtgjepofinpmcpaaGreatDoorSAS
import Derived.Defers
import Derived.Recover
import Derived.Laws.Pointers
import Derived.Deep.Cut
import Derived.Test.YtgjepofinpmcpaaGreatDoorSAL
set_option linter.unusedSimpArgs false
set_option linter.unusedVariables false
namespace Go.Proofs.YtgjepofinpmcpaaGreatDoor
section
open Go.RowKit Oct
theorem assert_run (n : Int) (w : World) : (Instr.typeAssert (.iface 24 (.int .i64 n)) 20 24 false).run Tryz.prog w = .ok (.int .i64 n) w := by kernel_rfl
/-- Two blocks may have turned, no other. -/
structure Two (a b : Nat) (w w' : World) : Prop where
  os : w'.os = w.os
  tape : w'.tape = w.tape
  output : w'.output = w.output
  size : w.heap.size ≤ w'.heap.size
  block : ∀ k, k < w.heap.size → k ≠ a → k ≠ b → w'.heap[k]? = w.heap[k]?
theorem Two.of {a b : Nat} {w w1 w2 : World} (h1 : w.grownBy w1 (some a)) (h2 : w1.grownBy w2 (some b)) : Two a b w w2 :=
  ⟨h2.os.trans h1.os, h2.tape.trans h1.tape, h2.output.trans h1.output, Nat.le_trans h1.size h2.size, fun k hk ha hb =>
    (h2.block k (Nat.lt_of_lt_of_le hk h1.size) (fun e => hb (by injection e))).trans (h1.block k hk (fun e => ha (by injection e)))⟩
theorem Two.below {a b B : Nat} {w w1 w2 : World} (h : Below B w w1) (ht : Two a b w1 w2) (hB : B ≤ w.heap.size) (ha : B ≤ a) (hb : B ≤ b) : Below B w w2 :=
  h.trans ⟨ht.os, ht.tape, ht.output, ht.size, fun k hk => ht.block k (Nat.lt_of_lt_of_le hk (Nat.le_trans hB h.size)) (by omega) (by omega)⟩
/-- The deferred call of Encode, where something was given up: nothing is handed back but the error's number. -/
theorem encCatch (pb pe : Nat) (n : Int) (vb ve : Value) (w : World) (hb : Row w pb 23 [vb]) (he : Row w pe 24 [ve]) (hne : pb ≠ pe) :
    CallsD Tryz.prog 55 #[.pointer (some ⟨pb, 0, none⟩), .pointer (some ⟨pe, 0, none⟩)] (.panicking [{ v := .iface 24 (.int .i64 n), recovered := false }]) w fun e u' w' =>
      e = .returned (.tuple #[]) ∧ u' = .panicking [{ v := .iface 24 (.int .i64 n), recovered := true }] ∧ Row w' pb 23 [.slice none 0 0] ∧ Row w' pe 24 [.int .i64 n] ∧ Two pb pe w w' := by
  refine callsD_of_wpS Tryz.func55 rfl fun c₀ cs hu => ?_
  apply wpS_seq
  apply wpS_region
  simp [wpOpsS, go_sem, recoverD, hu, Tryz.ntmps55, Exit.thenS]
  have ht : (#[Value.pointer (some ⟨pb, 0, none⟩), Value.pointer (some ⟨pe, 0, none⟩)] ++ ((Array.replicate 6 undef).setIfInBounds 1 (Value.iface 24 (Value.int .i64 n))).setIfInBounds 0 (Value.iface 24 (Value.int .i64 n)) : Array Value) =
    #[.pointer (some ⟨pb, 0, none⟩), .pointer (some ⟨pe, 0, none⟩), .iface 24 (.int .i64 n), .iface 24 (.int .i64 n), undef, undef, undef, undef] := rfl
  rw [ht]
  clear ht
  refine wpS_of_wp ?_
  have hta := assert_run n
  have c0 := hb.cell (j := 0) rfl
  have z0 := hb.frozen 0
  have c1 := he.cell (j := 0) rfl
  have z1 := he.frozen 0
  go_wp2_with fail
  go_region
  have r1 := hb.set 0 (.slice none 0 0)
  have g1 := grown_set w pb 0 (.slice none 0 0)
  have r2 := (he.grown g1 (fun e => hne (by injection e))).set 0 (.int .i64 n)
  have g2 := grown_set (w.setCell ⟨pb, 0, none⟩ (.slice none 0 0)) pe 0 (.int .i64 n)
  exact ⟨rfl, _, rfl, _, results_none rfl _ _ _, rfl, rfl, r1.grown (grown_to_drew g2) (fun e => hne (by injection e with e; exact e.symm)), r2, Two.of g1 (grown_to_drew g2)⟩
/-- Where nothing was given up it does nothing. -/
theorem encIdle (pb pe : Nat) (w : World) :
    CallsD Tryz.prog 55 #[.pointer (some ⟨pb, 0, none⟩), .pointer (some ⟨pe, 0, none⟩)] .returning w fun e u' w' => e = .returned (.tuple #[]) ∧ u' = .returning ∧ w' = w := by
  refine callsD_of_wpS Tryz.func55 rfl fun c₀ cs hu => ?_
  apply wpS_seq
  apply wpS_region
  simp [wpOpsS, go_sem, recoverD, hu, Tryz.ntmps55, Exit.thenS]
  have ht : (#[Value.pointer (some ⟨pb, 0, none⟩), Value.pointer (some ⟨pe, 0, none⟩)] ++ ((Array.replicate 6 undef).setIfInBounds 1 Value.nilIface).setIfInBounds 0 Value.nilIface : Array Value) =
    #[.pointer (some ⟨pb, 0, none⟩), .pointer (some ⟨pe, 0, none⟩), .nilIface, .nilIface, undef, undef, undef, undef] := rfl
  rw [ht]
  clear ht
  refine wpS_of_wp ?_
  go_wp2_with fail
  cases c₀
  simp_all [bodyPostS, results, Tryz.results55]
theorem fsB_list (k : Int) : (fsB k).toList = (fl k).map lb := by
  rw [ByteArray.toList_eq]
  simp [fsB]
theorem fsB_empty (k : Int) : (fsB k).toList.isEmpty = (fl k).isEmpty := by
  rw [fsB_list]
  cases fl k <;> rfl
/-- What Encode hands back. -/
def EPost (m : PMsg) (w : World) (e : Ending) (w' : World) : Prop :=
  ∃ v, e = .returned (.tuple #[v, .int .i64 (encE m)]) ∧ Own w' 5 v (bc (encB m)) ∧ Byt (encB m) ∧ Fr w.heap.size v ∧ Below w.heap.size w w'
theorem EPost.no {m : PMsg} {w w' : World} {n : Int} (hn : encE m = n) (h0 : n ≠ 0) (hb : Below w.heap.size w w') : EPost m w (.returned (.tuple #[.slice none 0 0, .int .i64 n])) w' := by
  have e : encB m = [] := by unfold encB; rw [if_neg (by rw [hn]; exact h0)]
  refine ⟨_, by rw [hn], ?_, ?_, Fr.nil _, hb⟩
  · rw [e]; exact Own.nil _ _
  · rw [e]; exact Byt.nil
theorem enc_results (w : World) (tmps : Array Value) (pb pe : Nat) (vb ve : Value) (hb : Row w pb 23 [vb]) (he : Row w pe 24 [ve])
    (h2 : tmps.getD 2 undef = .pointer (some ⟨pb, 0, none⟩)) (h3 : tmps.getD 3 undef = .pointer (some ⟨pe, 0, none⟩)) : (results Tryz.f28 tmps).run Tryz.prog w = .ok (.tuple #[vb, ve]) w := by
  have c0 := hb.cell (j := 0) rfl
  have c1 := he.cell (j := 0) rfl
  simp only [Array.getD_eq_getD_getElem?] at h2 h3
  simp [results, Tryz.results28, go_sem, h2, h3, c0, c1]
theorem enc_gave (w w1 : World) (m : PMsg) (n : Int) (pb pe : Nat) (vb ve : Value) (hb : Row w1 pb 23 [vb]) (he : Row w1 pe 24 [ve]) (hne : pb ≠ pe) (hB : Below w.heap.size w w1) (hpb : w.heap.size ≤ pb) (hpe : w.heap.size ≤ pe)
    (hE : encE m = n) (hn : n ≠ 0) (tmps : Array Value) (h2 : tmps.getD 2 undef = .pointer (some ⟨pb, 0, none⟩)) (h3 : tmps.getD 3 undef = .pointer (some ⟨pe, 0, none⟩)) :
    bodyPostD Tryz.prog Tryz.f28 (EPost m w) (.panic [{ v := .iface 24 (.int .i64 n), recovered := false }])
      { tmps := tmps, defers := [{ target := .fn (.func 55) #[.pointer (some ⟨pb, 0, none⟩), .pointer (some ⟨pe, 0, none⟩)], args := #[] }] } w1 := by
  refine leaves_cons (f := 55) (args := #[.pointer (some ⟨pb, 0, none⟩), .pointer (some ⟨pe, 0, none⟩)]) (by simp) (by simp [go_sem]) ?_
  refine (encCatch pb pe n vb ve w1 hb he hne).mono ?_
  rintro e u' w2 ⟨rfl, rfl, hr1, hr2, two⟩
  exact ⟨_, enc_results w2 tmps pb pe _ _ hr1 hr2 h2 h3, EPost.no hE hn (Two.below hB two (Nat.le_refl _) hpb hpe)⟩
theorem row_alloc {w : World} {b : Nat} {t : TypeId} {xs : List Value} (h : Row w b t xs) (o : Obj) : Row (w.alloc o) b t xs := h.below (below_alloc w o)
set_option maxHeartbeats 2000000 in
theorem encode_no (w : World) (m : PMsg) (s : SV) (hs : SOk Any w m s) (hk : fl m.kind = []) : Calls Tryz.prog 28 #[.agg (mc m s).toArray] w (EPost m w) := by
  obtain ⟨w3, hw3⟩ : ∃ w3, w3 = (((w.alloc (.cells (mc m s).toArray 40)).alloc (.cells #[.slice none 0 0] 23)).alloc (.cells #[.int .i64 0] 24)) := ⟨_, rfl⟩
  have hm : Row w3 w.heap.size 40 (mc m s) := by rw [hw3]; exact row_alloc (row_alloc (Row.new w 40 (mc m s)) _) _
  have hb : Row w3 (w.heap.size + 1) 23 [.slice none 0 0] := by
    rw [hw3]
    have := row_alloc (Row.new (w.alloc (.cells (mc m s).toArray 40)) 23 [.slice none 0 0]) (.cells #[.int .i64 0] 24)
    simpa using this
  have he : Row w3 (w.heap.size + 1 + 1) 24 [.int .i64 0] := by
    rw [hw3]
    have := Row.new ((w.alloc (.cells (mc m s).toArray 40)).alloc (.cells #[.slice none 0 0] 23)) 24 [.int .i64 0]
    simpa using this
  have hB3 : Below w.heap.size w w3 := by rw [hw3]; exact (((Below.refl _ w).alloc (Nat.le_refl _) _).alloc (by simp) _).alloc (by simp; omega) _
  go_enter_defers Tryz.func28, Tryz.ntmps28
  go_upto_region 1 with fail
  rw [← hw3]
  clear hw3
  have c0 := hm.cell (j := 0) rfl
  have hF := fieldsOf_any w3 m.kind
  have hse : (fsB m.kind).toList.isEmpty = true := by rw [fsB_empty, hk]; rfl
  go_wp2_with (go_at_call 36; refine hF.mono ?_; rintro e w3 ⟨rfl, rfl⟩)
  exact enc_gave w w3 m 51 _ _ _ _ hb he (by omega) hB3 (by omega) (by omega) (by unfold encE; rw [if_pos (by simp [badM, hk])]) (by decide) _ rfl rfl
end
section
open Go.RowKit Oct
/-- A reader at block r that stands at p of the bytes l; from block L on nothing of it lies. -/
structure RS (L : Nat) (w : World) (r : Nat) (bv : Value) (l : List Int) (p : Nat) : Prop where
  row : Row w r 75 [bv, .int .i64 (p : Int)]
  rd : RT (fun k => k < L ∧ k ≠ r) w bv l
  hp : p ≤ l.length
  hL : L ≤ w.heap.size
  hr : r < L
  hl : l.length ≤ 1048576
theorem RS.grown {L : Nat} {w w' : World} {r : Nat} {bv : Value} {l : List Int} {p : Nat} (h : RS L w r bv l p) {b : Nat} (hg : w.grownBy w' (some b)) (hb : L ≤ b) : RS L w' r bv l p :=
  ⟨h.row.grown hg (fun e => by injection e with e; have := h.hr; omega), h.rd.mv fun k hk hlt => ⟨hg.block k hlt (fun e => by injection e with e; have := hk.1; omega), hk⟩, h.hp, Nat.le_trans h.hL hg.size, h.hr, h.hl⟩
theorem RS.below {L : Nat} {w w' : World} {r : Nat} {bv : Value} {l : List Int} {p : Nat} (h : RS L w r bv l p) (hb : Below w.heap.size w w') : RS L w' r bv l p :=
  ⟨h.row.below hb, h.rd.mv (Mv.belowG hb), h.hp, Nat.le_trans h.hL hb.size, h.hr, h.hl⟩
theorem RS.drew {L : Nat} {w : World} {r : Nat} {bv : Value} {l : List Int} {p : Nat} (h : RS L w r bv l p) : RS L w.drew r bv l p := h.below ⟨rfl, rfl, rfl, Nat.le_refl _, fun _ _ => rfl⟩
theorem RS.go {L : Nat} {w w' : World} {r : Nat} {bv : Value} {l : List Int} {p : Nat} (h : RS L w r bv l p) (hg : w.grownBy w' (some r)) {p' : Nat} (hr : Row w' r 75 [bv, .int .i64 (p' : Int)]) (hp : p' ≤ l.length) : RS L w' r bv l p' :=
  ⟨hr, h.rd.mv fun k hk hlt => ⟨hg.block k hlt (fun e => by injection e with e; exact hk.2 e), hk⟩, hp, Nat.le_trans h.hL hg.size, h.hr, h.hl⟩
/-- What a call that reads comes to. -/
def RPost {α : Type} (c : Cdc α) (R : (Nat → Prop) → World → Value → α → Prop) (L : Nat) (w : World) (r : Nat) (bv : Value) (l : List Int) (p : Nat) (e : Ending) (w' : World) : Prop :=
  w.grownBy w' (some r) ∧ ((c.rd (l.drop p) = none ∧ e = .panicked [{ v := .iface 24 (.int .i64 51), recovered := false }]) ∨
    ∃ v a p', c.rd (l.drop p) = some (a, l.drop p') ∧ e = .returned v ∧ R (From w.heap.size) w' v a ∧ RS L w' r bv l p')
theorem RPost.no {α : Type} {c : Cdc α} {R : (Nat → Prop) → World → Value → α → Prop} {L : Nat} {w : World} {r : Nat} {bv : Value} {l : List Int} {p : Nat} {w' : World} (hg : w.grownBy w' (some r)) (hn : c.rd (l.drop p) = none) :
    RPost c R L w r bv l p (.panicked [{ v := .iface 24 (.int .i64 51), recovered := false }]) w' := ⟨hg, .inl ⟨hn, rfl⟩⟩
def VN (_ : Nat → Prop) (_ : World) (v : Value) (a : Int) : Prop := v = .int .i64 a
def VA {α : Type} (R : (Nat → Prop) → World → List Value → α → Prop) (G : Nat → Prop) (w : World) (v : Value) (a : α) : Prop := ∃ r, v = .agg r.toArray ∧ R G w r a
theorem num_drop {l : List Int} {p : Nat} (hb : Byt l) (hp : p ≤ l.length) : (cN.rd (l.drop p) = none ∧ getI l p = (0, 0, 11)) ∨ ∃ n k : Nat, cN.rd (l.drop p) = some ((n : Int), l.drop (p + k)) ∧ getI l p = ((n : Int), ((p + k : Nat) : Int), 0) ∧ p + k ≤ l.length := by
  cases hn : num (l.drop p) with
  | none => exact .inl ⟨by simp [cN, hn], getI_none p hp hn⟩
  | some nk =>
    obtain ⟨n, k⟩ := nk
    obtain ⟨h0, h1, k1, k5, kl, ht⟩ := num_some (hb.drop p) hn
    rw [List.length_drop] at kl
    obtain ⟨n', rfl⟩ := Int.eq_ofNat_of_zero_le h0
    refine .inr ⟨n', k, by simp [cN, hn, List.drop_drop], ?_, by omega⟩
    rw [getI_some p hp hn]
    simp
theorem txt_drop {l : List Int} {p : Nat} (hb : Byt l) (hp : p ≤ l.length) : (cT.rd (l.drop p) = none ∧ getB l p 65536 = ([], 0, 11)) ∨ ∃ (t : List Int) (q : Nat), cT.rd (l.drop p) = some (t, l.drop q) ∧ getB l p 65536 = (t, (q : Int), 0) ∧ q ≤ l.length := by
  cases hn : num (l.drop p) with
  | none =>
    refine .inl ⟨by simp [cT, hn], ?_⟩
    unfold getB
    rw [getI_none p hp hn]
    simp
  | some nk =>
    obtain ⟨n, k⟩ := nk
    obtain ⟨h0, h1, k1, k5, kl, ht⟩ := num_some (hb.drop p) hn
    rw [List.length_drop] at kl
    obtain ⟨n', rfl⟩ := Int.eq_ofNat_of_zero_le h0
    have hg : getI l p = ((n' : Int), ((p + k : Nat) : Int), 0) := by rw [getI_some p hp hn]; simp
    by_cases hc : (65536 : Int) < n' ∨ (l.length : Int) - ((p + k : Nat) : Int) < n'
    · refine .inl ⟨?_, ?_⟩
      · have : 65536 < (n' : Int) ∨ ((l.drop p).length : Int) - k < (n' : Int) := by rw [List.length_drop]; omega
        simp only [cT, hn, Option.bind_some]
        rw [if_pos this]
      · unfold getB
        rw [hg, if_pos (.inr hc)]
    · refine .inr ⟨(l.drop (p + k)).take n', p + k + n', ?_, ?_, by omega⟩
      · have : ¬ (65536 < (n' : Int) ∨ ((l.drop p).length : Int) - k < (n' : Int)) := by rw [List.length_drop]; omega
        simp only [cT, hn, Option.bind_some]
        rw [if_neg this]
        simp [List.drop_drop]
      · unfold getB
        rw [hg, if_neg (by simp; omega)]
        simp only [Int.toNat_natCast]
        simp
set_option maxHeartbeats 1000000 in
/-- number. -/
theorem rnum_any (L : Nat) (w : World) (r : Nat) (bv : Value) (l : List Int) (p : Nat) (hS : RS L w r bv l p) :
    Calls Tryz.prog 35 #[.pointer (some ⟨r, 0, none⟩)] w (RPost cN VN L w r bv l p) := by
  have c0 := hS.row.cell (j := 0) rfl
  have c1 := hS.row.cell (j := 1) rfl
  have hG := getInt_any w.drew bv l p hS.drew.rd.1 (by have := hS.hl; omega)
  rcases num_drop hS.rd.1.1 hS.hp with ⟨hn, hg⟩ | ⟨n, k, hn, hg, hk⟩
  · rw [hg] at hG
    have HN := (show Hid (cN.rd (l.drop p) = none) from hn)
    clear hn hg
    go_enter Tryz.func35, Tryz.ntmps35
    go_wp2_with fail
    go_region_held3 (fun u => u.cell? ⟨r, 0, none⟩ = some bv ∧ u.cell? ⟨r, 1, none⟩ = some (.int .i64 (p : Int)))
      (first | go_keep)
      (first | (go_at_call 65; refine hG.mono ?_; rintro e w1 ⟨rfl, hw1⟩; rw [hw1]))
    go_wp2_with fail
    exact ⟨rfl, RPost.no (grown_to_drew (grown_refl w (some r))) HN.out⟩
  · rw [hg] at hG
    have HN := (show Hid (cN.rd (l.drop p) = some ((n : Int), l.drop (p + k))) from hn)
    clear hn hg
    go_enter Tryz.func35, Tryz.ntmps35
    go_wp2_with fail
    go_region_held3 (fun u => u.cell? ⟨r, 0, none⟩ = some bv ∧ u.cell? ⟨r, 1, none⟩ = some (.int .i64 (p : Int)))
      (first | go_keep)
      (first | (go_at_call 65; refine hG.mono ?_; rintro e w1 ⟨rfl, hw1⟩; rw [hw1]))
    have hrow : Row w.drew r 75 _ := hS.drew.row
    go_wp2_with (refine wl_set rfl _ _ _ rfl r 1 _ rfl rfl _ _ hrow (show 1 < 2 by decide) (by kernel_rfl) rfl ?_; intro w2 hr2 hg2)
    go_ret
    exact ⟨grown_drew hg2, .inr ⟨_, _, p + k, HN.out, rfl, rfl, hS.go (grown_drew hg2) hr2.out hk⟩⟩
set_option maxHeartbeats 1000000 in
/-- text. -/
theorem rtext_any (L : Nat) (w : World) (r : Nat) (bv : Value) (l : List Int) (p : Nat) (hS : RS L w r bv l p) :
    Calls Tryz.prog 68 #[.pointer (some ⟨r, 0, none⟩)] w (RPost cT RT L w r bv l p) := by
  have c0 := hS.row.cell (j := 0) rfl
  have c1 := hS.row.cell (j := 1) rfl
  have hG := getBytes_any w.drew bv l p 65536 hS.drew.rd.1 (by have := hS.hl; omega)
  have hbt := getB_byt l p 65536 hS.rd.1.1
  rcases txt_drop hS.rd.1.1 hS.hp with ⟨hn, hg⟩ | ⟨t, q, hn, hg, hk⟩
  · rw [hg] at hG
    have HN := (show Hid (cT.rd (l.drop p) = none) from hn)
    clear hn hg
    go_enter Tryz.func68, Tryz.ntmps68
    go_wp2_with fail
    go_region_held3 (fun u => u.cell? ⟨r, 0, none⟩ = some bv ∧ u.cell? ⟨r, 1, none⟩ = some (.int .i64 (p : Int)))
      (first | go_keep | exact ⟨(hb1.cell (p := ⟨r, 0, none⟩) hS.row.lt).trans c0, (hb1.cell (p := ⟨r, 1, none⟩) hS.row.lt).trans c1⟩)
      (first | (go_at_call 111; refine hG.mono ?_; rintro e w1 ⟨v1, rfl, hown1, hfr1, hb1⟩))
    go_wp2_with fail
    exact ⟨rfl, RPost.no (grown_drew (grown_of_below hb1 _)) HN.out⟩
  · rw [hg] at hG hbt
    have HN := (show Hid (cT.rd (l.drop p) = some (t, l.drop q)) from hn)
    clear hn hg
    go_enter Tryz.func68, Tryz.ntmps68
    go_wp2_with fail
    go_region_held3 (fun u => u.cell? ⟨r, 0, none⟩ = some bv ∧ u.cell? ⟨r, 1, none⟩ = some (.int .i64 (p : Int)))
      (first | go_keep | exact ⟨(hb1.cell (p := ⟨r, 0, none⟩) hS.row.lt).trans c0, (hb1.cell (p := ⟨r, 1, none⟩) hS.row.lt).trans c1⟩)
      (first | (go_at_call 111; refine hG.mono ?_; rintro e w1 ⟨v1, rfl, hown1, hfr1, hb1⟩))
    have hrow : Row w1 r 75 _ := hS.drew.row.below hb1
    go_wp2_with (refine wl_set rfl _ _ _ rfl r 1 _ rfl rfl _ _ hrow (show 1 < 2 by decide) (by kernel_rfl) rfl ?_; intro w2 hr2 hg2)
    go_ret
    have hgt : w.grownBy w2 (some r) := grown_trans (grown_drew (grown_of_below hb1 (some r))) hg2 (.inl rfl)
    have o2 := hown1.grown hg2 (fun k hk => by cases hk; exact own_row_ne hrow hown1 (by decide))
    exact ⟨hgt, .inr ⟨_, t, q, HN.out, rfl, RT.own o2 hbt hfr1, hS.go hgt hr2.out hk⟩⟩
end
section
open Go.RowKit Oct
theorem one_bal {a b : Int} : ∀ v ∈ [Value.int .i64 a, Value.int .i64 b], v.oneCell' = true := by
  intro v hv
  simp only [List.mem_cons, List.not_mem_nil, or_false] at hv
  rcases hv with rfl | rfl <;> rfl
theorem len_RVote {G : Nat → Prop} {w : World} {r : List Value} {x : PVote} (h : RVote G w r x) : r.length = 2 := by obtain ⟨s, rfl, _⟩ := h; rfl
theorem len_RReq {G : Nat → Prop} {w : World} {r : List Value} {x : PReq} (h : RReq G w r x) : r.length = 4 := by obtain ⟨o, g, rfl, _⟩ := h; rfl
theorem len_RPrep {G : Nat → Prop} {w : World} {r : List Value} {x : PPrep} (h : RPrep G w r x) : r.length = 8 := by obtain ⟨o, g, c, rfl, _⟩ := h; rfl
theorem len_RRep {G : Nat → Prop} {w : World} {r : List Value} {x : PRep} (h : RRep G w r x) : r.length = 8 := by obtain ⟨d, s, p, g, rfl, _⟩ := h; rfl
def RB (_ : Nat → Prop) (_ : World) (r : List Value) (x : PBal) : Prop := r = [.int .i64 x.1, .int .i64 x.2]
theorem RS.own {L : Nat} {w w' : World} {r : Nat} {bv : Value} {l : List Int} {p : Nat} (h : RS L w r bv l p) {row : Option Nat} (hg : w.grownBy w' row) (hb : ∀ k, row = some k → L ≤ k) : RS L w' r bv l p :=
  ⟨h.row.grown hg (fun e => by have := hb r e; have := h.hr; omega), h.rd.mv fun k hk hlt => ⟨hg.block k hlt (fun e => by have := hb k e.symm; have := hk.1; omega), hk⟩, h.hp, Nat.le_trans h.hL hg.size, h.hr, h.hl⟩
theorem list_gone {α : Type} {c : Cdc α} {l l1 l2 : List Int} {N q : Nat} {ys : List α} (hN : ¬ (64 : Int) < (N : Int)) (h1 : cN.rd l = some ((N : Int), l1)) (hq : q < N) (h2 : rdN c q l1 = some (ys, l2)) (h3 : c.rd l2 = none) : (cL c).rd l = none := by
  simp only [cL, h1, Option.bind_some]
  rw [if_neg hN, Int.toNat_natCast]
  refine rdN_none (n := q + 1) ?_ N (by omega)
  rw [rdN_snoc, h2]
  simp [h3]
theorem list_read {α : Type} {c : Cdc α} {l l1 l2 : List Int} {N : Nat} {ys : List α} (hN : ¬ (64 : Int) < (N : Int)) (h1 : cN.rd l = some ((N : Int), l1)) (h2 : rdN c N l1 = some (ys, l2)) : (cL c).rd l = some (ys, l2) := by
  simp only [cL, h1, Option.bind_some]
  rw [if_neg hN, Int.toNat_natCast, h2]
set_option maxHeartbeats 2000000 in
/-- ballot. -/
theorem rballot_any (L : Nat) (w : World) (r : Nat) (bv : Value) (l : List Int) (p : Nat) (hS : RS L w r bv l p) :
    Calls Tryz.prog 66 #[.pointer (some ⟨r, 0, none⟩)] w (RPost cBal (VA RB) L w r bv l p) := by
  obtain ⟨w0, hw0⟩ : ∃ w0, w0 = (w.alloc (.cells ([.int .i64 0, .int .i64 0] : List Value).toArray 32)).alloc (.cells ([.int .i64 0, .int .i64 0] : List Value).toArray 32) := ⟨_, rfl⟩
  have hr : Row w0 w.heap.size 32 [.int .i64 0, .int .i64 0] := by rw [hw0]; exact row_alloc (Row.new w 32 [.int .i64 0, .int .i64 0]) _
  have hv : Row w0 (w.heap.size + 1) 32 [.int .i64 0, .int .i64 0] := by
    rw [hw0]
    have := Row.new (w.alloc (.cells ([.int .i64 0, .int .i64 0] : List Value).toArray 32)) 32 [.int .i64 0, .int .i64 0]
    simpa using this
  have hB : Below w.heap.size w w0 := by rw [hw0]; exact ((Below.refl _ w).alloc (Nat.le_refl _) _).alloc (by simp) _
  have hsz : w0.heap.size = w.heap.size + 2 := by rw [hw0]; simp
  have hG := grown_of_below hB (some r)
  have hS := hS.below hB
  have hLw := hS.hL
  have hrL := hS.hr
  have hLw0 : L ≤ w.heap.size := by have := ‹RS L w r bv l p›.hL; exact this
  have hne1 : (some r : Option Nat) ≠ some w.heap.size := fun e => by injection e with e; omega
  have hne2 : (some r : Option Nat) ≠ some (w.heap.size + 1) := fun e => by injection e with e; omega
  have hne3 : (some (w.heap.size + 1) : Option Nat) ≠ some w.heap.size := fun e => by injection e with e; omega
  have hC : w.heap.size + 2 ≤ w0.heap.size := by omega
  go_enter Tryz.func66, Tryz.ntmps66
  go_upto_region 2 with fail
  rw [← hw0]
  clear hw0 hsz
  have hv2 := hv
  go_wp2_with fail
  refine (rnum_any L _ r bv l _ hS).mono ?_
  rintro e wa0 ⟨hga0, ⟨hn, rfl⟩ | ⟨v0, a0, p0, hrd0, rfl, hR0, hS⟩⟩
  · go_wp2_with fail
    exact ⟨rfl, RPost.no (grown_trans hG hga0 (.inl rfl)) (by simp [cBal, cP, hn])⟩
  have hG := grown_trans hG hga0 (.inl rfl)
  have hr := hr.grown hga0 hne1
  have hv2 := hv2.grown hga0 hne2
  have hC0 := hC
  have hC := Nat.le_trans hC hga0.size
  have hrd0 := (show Hid _ from hrd0)
  have hR0 : v0 = .int .i64 a0 := hR0
  subst hR0
  go_wp2_with (refine wl_set rfl _ _ _ rfl (w.heap.size + 1) 0 _ rfl rfl _ _ hv2 (show 0 < 2 by decide) (by kernel_rfl) rfl ?_; intro wb0 hv3 hgb0)
  have hv2 : Row wb0 (w.heap.size + 1) 32 [.int .i64 a0, .int .i64 0] := hv3.out
  clear hv3
  have hG := grown_trans hG hgb0 (.inr fun k hk => by cases hk; omega)
  have hS := hS.grown hgb0 (by omega)
  have hC := Nat.le_trans hC hgb0.size
  have hr := hr.grown hgb0 hne3
  refine (rnum_any L _ r bv l _ hS).mono ?_
  rintro e wa1 ⟨hga1, ⟨hn, rfl⟩ | ⟨v1, a1, p1, hrd1, rfl, hR1, hS⟩⟩
  · go_wp2_with fail
    exact ⟨rfl, RPost.no (grown_trans hG hga1 (.inl rfl)) (by simp [cBal, cP, hrd0.out, hn])⟩
  have hG := grown_trans hG hga1 (.inl rfl)
  have hr := hr.grown hga1 hne1
  have hv2 := hv2.grown hga1 hne2
  have hC1 := hC
  have hC := Nat.le_trans hC hga1.size
  have hrd1 := (show Hid _ from hrd1)
  have hR1 : v1 = .int .i64 a1 := hR1
  subst hR1
  go_wp2_with (first
    | (refine wl_set rfl _ _ _ rfl (w.heap.size + 1) 1 _ rfl rfl _ _ hv2 (show 1 < 2 by decide) (by kernel_rfl) rfl ?_; intro wb1 hv3 hgb1)
    | (refine wl_load rfl _ _ rfl (w.heap.size + 1) rfl _ _ hv3.out _ Tryz.underlying32 rfl (by kernel_rfl) ?_; have hr := hr.grown hgb1 hne3)
    | (refine wl_store rfl _ _ _ rfl w.heap.size [.int .i64 a0, .int .i64 a1] rfl rfl _ _ hr (by rfl) (by kernel_rfl) (by intro u hu; simp only [List.mem_cons, List.not_mem_nil, or_false] at hu; rcases hu with rfl | rfl <;> first | rfl) ?_; intro wz hrz hgz))
  have hv2 : Row wb1 (w.heap.size + 1) 32 [.int .i64 a0, .int .i64 a1] := hv3.out
  clear hv3
  have hG := grown_trans hG hgb1 (.inr fun k hk => by cases hk; omega)
  have hS := hS.grown hgb1 (by omega)
  have hC := Nat.le_trans hC hgb1.size
  have hG := grown_trans hG hgz (.inr fun k hk => by cases hk; omega)
  have hS := hS.grown hgz (by omega)
  have hrz := hrz.out
  refine bodyPost_ret (v := .agg ([.int .i64 a0, .int .i64 a1] : List Value).toArray) (results_cell_row rfl _ _ w.heap.size _ _ (0, 0) _ (by rfl) hrz Tryz.underlying32 rfl (by kernel_rfl)) rfl ?_
  exact ⟨hG, .inr ⟨_, (a0, a1), p1, by simp [cBal, cP, hrd0.out, hrd1.out], rfl, ⟨_, rfl, rfl⟩, hS⟩⟩
set_option maxHeartbeats 2000000 in
/-- vote. -/
theorem rvote_any (L : Nat) (w : World) (r : Nat) (bv : Value) (l : List Int) (p : Nat) (hS : RS L w r bv l p) :
    Calls Tryz.prog 70 #[.pointer (some ⟨r, 0, none⟩)] w (RPost cVote (VA RVote) L w r bv l p) := by
  obtain ⟨w0, hw0⟩ : ∃ w0, w0 = (w.alloc (.cells ([.int .i64 0, .slice none 0 0] : List Value).toArray 58)).alloc (.cells ([.int .i64 0, .slice none 0 0] : List Value).toArray 58) := ⟨_, rfl⟩
  have hr : Row w0 w.heap.size 58 [.int .i64 0, .slice none 0 0] := by rw [hw0]; exact row_alloc (Row.new w 58 [.int .i64 0, .slice none 0 0]) _
  have hv : Row w0 (w.heap.size + 1) 58 [.int .i64 0, .slice none 0 0] := by
    rw [hw0]
    have := Row.new (w.alloc (.cells ([.int .i64 0, .slice none 0 0] : List Value).toArray 58)) 58 [.int .i64 0, .slice none 0 0]
    simpa using this
  have hB : Below w.heap.size w w0 := by rw [hw0]; exact ((Below.refl _ w).alloc (Nat.le_refl _) _).alloc (by simp) _
  have hsz : w0.heap.size = w.heap.size + 2 := by rw [hw0]; simp
  have hG := grown_of_below hB (some r)
  have hS := hS.below hB
  have hLw := hS.hL
  have hrL := hS.hr
  have hLw0 : L ≤ w.heap.size := by have := ‹RS L w r bv l p›.hL; exact this
  have hne1 : (some r : Option Nat) ≠ some w.heap.size := fun e => by injection e with e; omega
  have hne2 : (some r : Option Nat) ≠ some (w.heap.size + 1) := fun e => by injection e with e; omega
  have hne3 : (some (w.heap.size + 1) : Option Nat) ≠ some w.heap.size := fun e => by injection e with e; omega
  have hC : w.heap.size + 2 ≤ w0.heap.size := by omega
  go_enter Tryz.func70, Tryz.ntmps70
  go_upto_region 2 with fail
  rw [← hw0]
  clear hw0 hsz
  have hv2 := hv
  go_wp2_with fail
  refine (rnum_any L _ r bv l _ hS).mono ?_
  rintro e wa0 ⟨hga0, ⟨hn, rfl⟩ | ⟨v0, a0, p0, hrd0, rfl, hR0, hS⟩⟩
  · go_wp2_with fail
    exact ⟨rfl, RPost.no (grown_trans hG hga0 (.inl rfl)) (by simp [cVote, cP, hn])⟩
  have hG := grown_trans hG hga0 (.inl rfl)
  have hr := hr.grown hga0 hne1
  have hv2 := hv2.grown hga0 hne2
  have hC0 := hC
  have hC := Nat.le_trans hC hga0.size
  have hrd0 := (show Hid _ from hrd0)
  have hR0 : v0 = .int .i64 a0 := hR0
  subst hR0
  go_wp2_with (refine wl_set rfl _ _ _ rfl (w.heap.size + 1) 0 _ rfl rfl _ _ hv2 (show 0 < 2 by decide) (by kernel_rfl) rfl ?_; intro wb0 hv3 hgb0)
  have hv2 : Row wb0 (w.heap.size + 1) 58 [.int .i64 a0, .slice none 0 0] := hv3.out
  clear hv3
  have hG := grown_trans hG hgb0 (.inr fun k hk => by cases hk; omega)
  have hS := hS.grown hgb0 (by omega)
  have hC := Nat.le_trans hC hgb0.size
  have hr := hr.grown hgb0 hne3
  refine (rtext_any L _ r bv l _ hS).mono ?_
  rintro e wa1 ⟨hga1, ⟨hn, rfl⟩ | ⟨v1, a1, p1, hrd1, rfl, hR1, hS⟩⟩
  · go_wp2_with fail
    exact ⟨rfl, RPost.no (grown_trans hG hga1 (.inl rfl)) (by simp [cVote, cP, hrd0.out, hn])⟩
  have hG := grown_trans hG hga1 (.inl rfl)
  have hr := hr.grown hga1 hne1
  have hv2 := hv2.grown hga1 hne2
  have hC1 := hC
  have hC := Nat.le_trans hC hga1.size
  have hrd1 := (show Hid _ from hrd1)
  have f1 := hR1.mv (Mv.weak (L := w.heap.size + 2) hC1)
  go_wp2_with (first
    | (refine wl_set rfl _ _ _ rfl (w.heap.size + 1) 1 _ rfl rfl _ _ hv2 (show 1 < 2 by decide) (by kernel_rfl) f1.one ?_; intro wb1 hv3 hgb1)
    | (refine wl_load rfl _ _ rfl (w.heap.size + 1) rfl _ _ hv3.out _ Tryz.underlying58 rfl (by kernel_rfl) ?_; have hr := hr.grown hgb1 hne3)
    | (refine wl_store rfl _ _ _ rfl w.heap.size [.int .i64 a0, v1] rfl rfl _ _ hr (by rfl) (by kernel_rfl) (by intro u hu; simp only [List.mem_cons, List.not_mem_nil, or_false] at hu; rcases hu with rfl | rfl <;> first | rfl | exact f1.one) ?_; intro wz hrz hgz))
  have hv2 : Row wb1 (w.heap.size + 1) 58 [.int .i64 a0, v1] := hv3.out
  clear hv3
  have hG := grown_trans hG hgb1 (.inr fun k hk => by cases hk; omega)
  have hS := hS.grown hgb1 (by omega)
  have hC := Nat.le_trans hC hgb1.size
  have f1 := f1.mv (Mv.from (L := w.heap.size + 2) hgb1 (by omega) (Nat.le_refl _))
  have hG := grown_trans hG hgz (.inr fun k hk => by cases hk; omega)
  have hS := hS.grown hgz (by omega)
  have f1 := f1.mv (Mv.from (L := w.heap.size + 2) hgz (by omega) (Nat.le_refl _))
  have f1 := f1.mv (Mv.weak (L := w.heap.size) (by omega))
  have hrz := hrz.out
  refine bodyPost_ret (v := .agg ([.int .i64 a0, v1] : List Value).toArray) (results_cell_row rfl _ _ w.heap.size _ _ (0, 0) _ (by rfl) hrz Tryz.underlying58 rfl (by kernel_rfl)) rfl ?_
  exact ⟨hG, .inr ⟨_, (a0, a1), p1, by simp [cVote, cP, hrd0.out, hrd1.out], rfl, ⟨_, rfl, ⟨_, rfl, f1⟩⟩, hS⟩⟩
set_option maxHeartbeats 2000000 in
/-- request. -/
theorem rrequest_any (L : Nat) (w : World) (r : Nat) (bv : Value) (l : List Int) (p : Nat) (hS : RS L w r bv l p) :
    Calls Tryz.prog 67 #[.pointer (some ⟨r, 0, none⟩)] w (RPost cReq (VA RReq) L w r bv l p) := by
  obtain ⟨w0, hw0⟩ : ∃ w0, w0 = (w.alloc (.cells ([.int .i64 0, .int .i64 0, .slice none 0 0, .slice none 0 0] : List Value).toArray 34)).alloc (.cells ([.int .i64 0, .int .i64 0, .slice none 0 0, .slice none 0 0] : List Value).toArray 34) := ⟨_, rfl⟩
  have hr : Row w0 w.heap.size 34 [.int .i64 0, .int .i64 0, .slice none 0 0, .slice none 0 0] := by rw [hw0]; exact row_alloc (Row.new w 34 [.int .i64 0, .int .i64 0, .slice none 0 0, .slice none 0 0]) _
  have hv : Row w0 (w.heap.size + 1) 34 [.int .i64 0, .int .i64 0, .slice none 0 0, .slice none 0 0] := by
    rw [hw0]
    have := Row.new (w.alloc (.cells ([.int .i64 0, .int .i64 0, .slice none 0 0, .slice none 0 0] : List Value).toArray 34)) 34 [.int .i64 0, .int .i64 0, .slice none 0 0, .slice none 0 0]
    simpa using this
  have hB : Below w.heap.size w w0 := by rw [hw0]; exact ((Below.refl _ w).alloc (Nat.le_refl _) _).alloc (by simp) _
  have hsz : w0.heap.size = w.heap.size + 2 := by rw [hw0]; simp
  have hG := grown_of_below hB (some r)
  have hS := hS.below hB
  have hLw := hS.hL
  have hrL := hS.hr
  have hLw0 : L ≤ w.heap.size := by have := ‹RS L w r bv l p›.hL; exact this
  have hne1 : (some r : Option Nat) ≠ some w.heap.size := fun e => by injection e with e; omega
  have hne2 : (some r : Option Nat) ≠ some (w.heap.size + 1) := fun e => by injection e with e; omega
  have hne3 : (some (w.heap.size + 1) : Option Nat) ≠ some w.heap.size := fun e => by injection e with e; omega
  have hC : w.heap.size + 2 ≤ w0.heap.size := by omega
  go_enter Tryz.func67, Tryz.ntmps67
  go_upto_region 2 with fail
  rw [← hw0]
  clear hw0 hsz
  have hv2 := hv
  go_wp2_with fail
  refine (rnum_any L _ r bv l _ hS).mono ?_
  rintro e wa0 ⟨hga0, ⟨hn, rfl⟩ | ⟨v0, a0, p0, hrd0, rfl, hR0, hS⟩⟩
  · go_wp2_with fail
    exact ⟨rfl, RPost.no (grown_trans hG hga0 (.inl rfl)) (by simp [cReq, cP, hn])⟩
  have hG := grown_trans hG hga0 (.inl rfl)
  have hr := hr.grown hga0 hne1
  have hv2 := hv2.grown hga0 hne2
  have hC0 := hC
  have hC := Nat.le_trans hC hga0.size
  have hrd0 := (show Hid _ from hrd0)
  have hR0 : v0 = .int .i64 a0 := hR0
  subst hR0
  go_wp2_with (refine wl_set rfl _ _ _ rfl (w.heap.size + 1) 0 _ rfl rfl _ _ hv2 (show 0 < 4 by decide) (by kernel_rfl) rfl ?_; intro wb0 hv3 hgb0)
  have hv2 : Row wb0 (w.heap.size + 1) 34 [.int .i64 a0, .int .i64 0, .slice none 0 0, .slice none 0 0] := hv3.out
  clear hv3
  have hG := grown_trans hG hgb0 (.inr fun k hk => by cases hk; omega)
  have hS := hS.grown hgb0 (by omega)
  have hC := Nat.le_trans hC hgb0.size
  have hr := hr.grown hgb0 hne3
  refine (rnum_any L _ r bv l _ hS).mono ?_
  rintro e wa1 ⟨hga1, ⟨hn, rfl⟩ | ⟨v1, a1, p1, hrd1, rfl, hR1, hS⟩⟩
  · go_wp2_with fail
    exact ⟨rfl, RPost.no (grown_trans hG hga1 (.inl rfl)) (by simp [cReq, cP, hrd0.out, hn])⟩
  have hG := grown_trans hG hga1 (.inl rfl)
  have hr := hr.grown hga1 hne1
  have hv2 := hv2.grown hga1 hne2
  have hC1 := hC
  have hC := Nat.le_trans hC hga1.size
  have hrd1 := (show Hid _ from hrd1)
  have hR1 : v1 = .int .i64 a1 := hR1
  subst hR1
  go_wp2_with (refine wl_set rfl _ _ _ rfl (w.heap.size + 1) 1 _ rfl rfl _ _ hv2 (show 1 < 4 by decide) (by kernel_rfl) rfl ?_; intro wb1 hv3 hgb1)
  have hv2 : Row wb1 (w.heap.size + 1) 34 [.int .i64 a0, .int .i64 a1, .slice none 0 0, .slice none 0 0] := hv3.out
  clear hv3
  have hG := grown_trans hG hgb1 (.inr fun k hk => by cases hk; omega)
  have hS := hS.grown hgb1 (by omega)
  have hC := Nat.le_trans hC hgb1.size
  have hr := hr.grown hgb1 hne3
  refine (rtext_any L _ r bv l _ hS).mono ?_
  rintro e wa2 ⟨hga2, ⟨hn, rfl⟩ | ⟨v2, a2, p2, hrd2, rfl, hR2, hS⟩⟩
  · go_wp2_with fail
    exact ⟨rfl, RPost.no (grown_trans hG hga2 (.inl rfl)) (by simp [cReq, cP, hrd0.out, hrd1.out, hn])⟩
  have hG := grown_trans hG hga2 (.inl rfl)
  have hr := hr.grown hga2 hne1
  have hv2 := hv2.grown hga2 hne2
  have hC2 := hC
  have hC := Nat.le_trans hC hga2.size
  have hrd2 := (show Hid _ from hrd2)
  have f2 := hR2.mv (Mv.weak (L := w.heap.size + 2) hC2)
  go_wp2_with (refine wl_set rfl _ _ _ rfl (w.heap.size + 1) 2 _ rfl rfl _ _ hv2 (show 2 < 4 by decide) (by kernel_rfl) f2.one ?_; intro wb2 hv3 hgb2)
  have hv2 : Row wb2 (w.heap.size + 1) 34 [.int .i64 a0, .int .i64 a1, v2, .slice none 0 0] := hv3.out
  clear hv3
  have hG := grown_trans hG hgb2 (.inr fun k hk => by cases hk; omega)
  have hS := hS.grown hgb2 (by omega)
  have hC := Nat.le_trans hC hgb2.size
  have hr := hr.grown hgb2 hne3
  have f2 := f2.mv (Mv.from (L := w.heap.size + 2) hgb2 (by omega) (Nat.le_refl _))
  refine (rtext_any L _ r bv l _ hS).mono ?_
  rintro e wa3 ⟨hga3, ⟨hn, rfl⟩ | ⟨v3, a3, p3, hrd3, rfl, hR3, hS⟩⟩
  · go_wp2_with fail
    exact ⟨rfl, RPost.no (grown_trans hG hga3 (.inl rfl)) (by simp [cReq, cP, hrd0.out, hrd1.out, hrd2.out, hn])⟩
  have hG := grown_trans hG hga3 (.inl rfl)
  have hr := hr.grown hga3 hne1
  have hv2 := hv2.grown hga3 hne2
  have hC3 := hC
  have hC := Nat.le_trans hC hga3.size
  have f2 := f2.mv (Mv.from (L := w.heap.size + 2) hga3 (by omega) (Nat.le_refl _))
  have hrd3 := (show Hid _ from hrd3)
  have f3 := hR3.mv (Mv.weak (L := w.heap.size + 2) hC3)
  go_wp2_with (first
    | (refine wl_set rfl _ _ _ rfl (w.heap.size + 1) 3 _ rfl rfl _ _ hv2 (show 3 < 4 by decide) (by kernel_rfl) f3.one ?_; intro wb3 hv3 hgb3)
    | (refine wl_load rfl _ _ rfl (w.heap.size + 1) rfl _ _ hv3.out _ Tryz.underlying34 rfl (by kernel_rfl) ?_; have hr := hr.grown hgb3 hne3)
    | (refine wl_store rfl _ _ _ rfl w.heap.size [.int .i64 a0, .int .i64 a1, v2, v3] rfl rfl _ _ hr (by rfl) (by kernel_rfl) (by intro u hu; simp only [List.mem_cons, List.not_mem_nil, or_false] at hu; rcases hu with rfl | rfl | rfl | rfl <;> first | rfl | exact f2.one | exact f3.one) ?_; intro wz hrz hgz))
  have hv2 : Row wb3 (w.heap.size + 1) 34 [.int .i64 a0, .int .i64 a1, v2, v3] := hv3.out
  clear hv3
  have hG := grown_trans hG hgb3 (.inr fun k hk => by cases hk; omega)
  have hS := hS.grown hgb3 (by omega)
  have hC := Nat.le_trans hC hgb3.size
  have f2 := f2.mv (Mv.from (L := w.heap.size + 2) hgb3 (by omega) (Nat.le_refl _))
  have f3 := f3.mv (Mv.from (L := w.heap.size + 2) hgb3 (by omega) (Nat.le_refl _))
  have hG := grown_trans hG hgz (.inr fun k hk => by cases hk; omega)
  have hS := hS.grown hgz (by omega)
  have f2 := f2.mv (Mv.from (L := w.heap.size + 2) hgz (by omega) (Nat.le_refl _))
  have f3 := f3.mv (Mv.from (L := w.heap.size + 2) hgz (by omega) (Nat.le_refl _))
  have f2 := f2.mv (Mv.weak (L := w.heap.size) (by omega))
  have f3 := f3.mv (Mv.weak (L := w.heap.size) (by omega))
  have hrz := hrz.out
  refine bodyPost_ret (v := .agg ([.int .i64 a0, .int .i64 a1, v2, v3] : List Value).toArray) (results_cell_row rfl _ _ w.heap.size _ _ (0, 0) _ (by rfl) hrz Tryz.underlying34 rfl (by kernel_rfl)) rfl ?_
  exact ⟨hG, .inr ⟨_, (a0, a1, a2, a3), p3, by simp [cReq, cP, hrd0.out, hrd1.out, hrd2.out, hrd3.out], rfl, ⟨_, rfl, ⟨_, _, rfl, f2, f3⟩⟩, hS⟩⟩
theorem Tryz.inf_votes : (Tryz.prog.info? 58).map (fun i => (i.zero, i.size, i.bytes)) = some (some (.agg #[.int .i64 0, .slice none 0 0]), 2, 32) := by kernel_rfl
set_option maxHeartbeats 2000000 in
/-- getList of PVote. -/
theorem rvotes_any (L : Nat) (w : World) (r : Nat) (bv : Value) (l : List Int) (p : Nat) (hS : RS L w r bv l p) :
    Calls Tryz.prog 69 #[.pointer (some ⟨r, 0, none⟩), .func (.func 70) #[.pointer (some ⟨r, 0, none⟩)] #[]] w (RPost (cL cVote) (RL RVote 2) L w r bv l p) := by
  have hLw := hS.hL
  have hrL := hS.hr
  have hbl := hS.rd.1.1
  go_enter Tryz.func69, Tryz.ntmps69
  go_wp2_with fail
  refine (rnum_any L _ r bv l _ hS).mono ?_
  rintro e w1 ⟨hg1, ⟨hn, rfl⟩ | ⟨v1, n, p1, hrd1, rfl, hR1, hS1⟩⟩
  · go_wp2_with fail
    exact ⟨rfl, RPost.no hg1 (by simp [cL, hn])⟩
  have hR1 : v1 = .int .i64 n := hR1
  subst hR1
  have hn0 : 0 ≤ n := (okI_bd (cN_law.bwd _ _ _ (hbl.drop p) hrd1).1).1
  obtain ⟨N, rfl⟩ := Int.eq_ofNat_of_zero_le hn0
  have HR1 := (show Hid (cN.rd (l.drop p) = some ((N : Int), l.drop p1)) from hrd1)
  clear hrd1 hn0 hS
  by_cases hN : (64 : Int) < (N : Int)
  · go_wp2_with fail
    exact ⟨rfl, RPost.no hg1 (by simp only [cL, HR1.out, Option.bind_some]; rw [if_pos hN])⟩
  go_wp2_with fail
  go_loopw [6, 13] (fun v i wr => ∃ (q pq : Nat) (ys : List PVote), q ≤ N ∧ i = .int .i64 q ∧ ys.length = q ∧ Hid (rdN cVote q (l.drop p1) = some (ys, l.drop pq)) ∧ LB RVote 58 2 w.heap.size wr v ys ∧ RS L wr r bv l pq ∧ w.grownBy wr (some r)) (fun _ i _ => N - (intOf i).toNat)
  case atStart => exact ⟨0, p1, [], by omega, rfl, rfl, rfl, LB.nil _ _ _ _ _, hS1, hg1⟩
  case round =>
    obtain ⟨q, pq, ys, hq, rfl, hyl, hrdq, hLB, hSr, hGr⟩ := hrel
    by_cases hqN : q < N
    · go_wp2_with fail
      refine (rvote_any L _ r bv l _ hSr).mono ?_
      rintro e w3 ⟨hg3, ⟨hn, rfl⟩ | ⟨v3, y, p3, hrd3, rfl, hR3, hS3⟩⟩
      · have HN := (show Hid ((cL cVote).rd (l.drop p) = none) from list_gone (by omega) HR1.out hqN hrdq.out hn)
        clear hn
        go_wp2_with fail
        exact ⟨rfl, RPost.no (grown_trans hGr hg3 (.inl rfl)) HN.out⟩
      have HR3 := (show Hid (rdN cVote (q + 1) (l.drop p1) = some (ys ++ [y], l.drop p3)) from by show _ = _; rw [rdN_snoc, hrdq.out]; simp [hrd3])
      clear hrd3
      obtain ⟨cs, rfl, hRc⟩ := hR3
      have hc1 := one_RVote hRc
      have hcl : cs.length = 2 := len_RVote hRc
      have hRd := hRc
      obtain ⟨s, rfl, _⟩ := hRd
      have hLB3 := hLB.grown mov_vote hg3 (by omega)
      have hBs : w.heap.size ≤ wr.heap.size := hGr.size
      go_wp2_with (at_builtin; refine wl_push mov_vote rfl _ _ _ rfl 58 2 32 _ Tryz.underlying35 Tryz.inf_votes rfl (by decide) w.heap.size u6 ys rfl hLB3 [.int .i64 y.1, s] y wr.heap.size hRc hcl hc1 hBs hLB.lt rfl (Nat.le_trans hBs hg3.size) (by rw [hyl]; omega) (by decide) ?_; intro v4 w4 hLB4 hg4)
      have hG4 := grown_trans (grown_trans hGr hg3 (.inl rfl)) hg4 (.inr fun k hk => hLB.fr k hk)
      have hS4 := RS.own hS3 hg4 (fun k hk => Nat.le_trans (by omega) (hLB.fr k hk))
      go_roundw
      case rel => exact ⟨q + 1, p3, ys ++ [y], by omega, by go_num, by simp [hyl], HR3, hLB4, hS4, hG4⟩
      case measure => simp [intOf]; omega
    · obtain rfl : q = N := by omega
      have HE := (show Hid ((cL cVote).rd (l.drop p) = some (ys, l.drop pq)) from list_read (by omega) HR1.out hrdq.out)
      have hrl := hLB.rl mov_vote
      have hvo := hLB.form
      go_wp2_with fail
      go_ret
      exact ⟨hGr, .inr ⟨_, ys, pq, HE.out, rfl, hrl, hSr⟩⟩
end
section
open Go.RowKit Oct
set_option maxHeartbeats 2000000 in
/-- prep. -/
theorem rprep_any (L : Nat) (w : World) (r : Nat) (bv : Value) (l : List Int) (p : Nat) (hS : RS L w r bv l p) :
    Calls Tryz.prog 113 #[.pointer (some ⟨r, 0, none⟩)] w (RPost cPrep (VA RPrep) L w r bv l p) := by
  obtain ⟨w0, hw0⟩ : ∃ w0, w0 = (w.alloc (.cells ([.int .i64 0, .int .i64 0, .int .i64 0, .int .i64 0, .int .i64 0, .slice none 0 0, .slice none 0 0, .slice none 0 0] : List Value).toArray 107)).alloc (.cells ([.int .i64 0, .int .i64 0, .int .i64 0, .int .i64 0, .int .i64 0, .slice none 0 0, .slice none 0 0, .slice none 0 0] : List Value).toArray 107) := ⟨_, rfl⟩
  have hr : Row w0 w.heap.size 107 [.int .i64 0, .int .i64 0, .int .i64 0, .int .i64 0, .int .i64 0, .slice none 0 0, .slice none 0 0, .slice none 0 0] := by rw [hw0]; exact row_alloc (Row.new w 107 [.int .i64 0, .int .i64 0, .int .i64 0, .int .i64 0, .int .i64 0, .slice none 0 0, .slice none 0 0, .slice none 0 0]) _
  have hv : Row w0 (w.heap.size + 1) 107 [.int .i64 0, .int .i64 0, .int .i64 0, .int .i64 0, .int .i64 0, .slice none 0 0, .slice none 0 0, .slice none 0 0] := by
    rw [hw0]
    have := Row.new (w.alloc (.cells ([.int .i64 0, .int .i64 0, .int .i64 0, .int .i64 0, .int .i64 0, .slice none 0 0, .slice none 0 0, .slice none 0 0] : List Value).toArray 107)) 107 [.int .i64 0, .int .i64 0, .int .i64 0, .int .i64 0, .int .i64 0, .slice none 0 0, .slice none 0 0, .slice none 0 0]
    simpa using this
  have hB : Below w.heap.size w w0 := by rw [hw0]; exact ((Below.refl _ w).alloc (Nat.le_refl _) _).alloc (by simp) _
  have hsz : w0.heap.size = w.heap.size + 2 := by rw [hw0]; simp
  have hG := grown_of_below hB (some r)
  have hS := hS.below hB
  have hLw := hS.hL
  have hrL := hS.hr
  have hLw0 : L ≤ w.heap.size := by have := ‹RS L w r bv l p›.hL; exact this
  have hne1 : (some r : Option Nat) ≠ some w.heap.size := fun e => by injection e with e; omega
  have hne2 : (some r : Option Nat) ≠ some (w.heap.size + 1) := fun e => by injection e with e; omega
  have hne3 : (some (w.heap.size + 1) : Option Nat) ≠ some w.heap.size := fun e => by injection e with e; omega
  have hC : w.heap.size + 2 ≤ w0.heap.size := by omega
  go_enter Tryz.func113, Tryz.ntmps113
  go_upto_region 2 with fail
  rw [← hw0]
  clear hw0 hsz
  have hv2 := hv
  go_wp2_with fail
  refine (rnum_any L _ r bv l _ hS).mono ?_
  rintro e wa0 ⟨hga0, ⟨hn, rfl⟩ | ⟨v0, a0, p0, hrd0, rfl, hR0, hS⟩⟩
  · go_wp2_with fail
    exact ⟨rfl, RPost.no (grown_trans hG hga0 (.inl rfl)) (by simp [cPrep, cP, hn])⟩
  have hG := grown_trans hG hga0 (.inl rfl)
  have hr := hr.grown hga0 hne1
  have hv2 := hv2.grown hga0 hne2
  have hC0 := hC
  have hC := Nat.le_trans hC hga0.size
  have hrd0 := (show Hid _ from hrd0)
  have hR0 : v0 = .int .i64 a0 := hR0
  subst hR0
  go_wp2_with (refine wl_set rfl _ _ _ rfl (w.heap.size + 1) 0 _ rfl rfl _ _ hv2 (show 0 < 8 by decide) (by kernel_rfl) rfl ?_; intro wb0 hv3 hgb0)
  have hv2 : Row wb0 (w.heap.size + 1) 107 [.int .i64 a0, .int .i64 0, .int .i64 0, .int .i64 0, .int .i64 0, .slice none 0 0, .slice none 0 0, .slice none 0 0] := hv3.out
  clear hv3
  have hG := grown_trans hG hgb0 (.inr fun k hk => by cases hk; omega)
  have hS := hS.grown hgb0 (by omega)
  have hC := Nat.le_trans hC hgb0.size
  have hr := hr.grown hgb0 hne3
  refine (rballot_any L _ r bv l _ hS).mono ?_
  rintro e wa1 ⟨hga1, ⟨hn, rfl⟩ | ⟨v1, a1, p1, hrd1, rfl, hR1, hS⟩⟩
  · go_wp2_with fail
    exact ⟨rfl, RPost.no (grown_trans hG hga1 (.inl rfl)) (by simp [cPrep, cP, hrd0.out, hn])⟩
  have hG := grown_trans hG hga1 (.inl rfl)
  have hr := hr.grown hga1 hne1
  have hv2 := hv2.grown hga1 hne2
  have hC1 := hC
  have hC := Nat.le_trans hC hga1.size
  have hrd1 := (show Hid _ from hrd1)
  obtain ⟨cs, rfl, hcs⟩ := hR1
  have hcs : cs = [.int .i64 a1.1, .int .i64 a1.2] := hcs
  subst hcs
  go_wp2_with (refine wl_put rfl _ _ _ rfl (w.heap.size + 1) 1 [.int .i64 a1.1, .int .i64 a1.2] rfl rfl _ _ hv2 (show 3 ≤ 8 by decide) (by kernel_rfl) one_bal ?_; intro wb1 hv3 hgb1)
  have hv2 : Row wb1 (w.heap.size + 1) 107 [.int .i64 a0, .int .i64 a1.1, .int .i64 a1.2, .int .i64 0, .int .i64 0, .slice none 0 0, .slice none 0 0, .slice none 0 0] := hv3.out
  clear hv3
  have hG := grown_trans hG hgb1 (.inr fun k hk => by cases hk; omega)
  have hS := hS.grown hgb1 (by omega)
  have hC := Nat.le_trans hC hgb1.size
  have hr := hr.grown hgb1 hne3
  refine (rrequest_any L _ r bv l _ hS).mono ?_
  rintro e wa2 ⟨hga2, ⟨hn, rfl⟩ | ⟨v2, a2, p2, hrd2, rfl, hR2, hS⟩⟩
  · go_wp2_with fail
    exact ⟨rfl, RPost.no (grown_trans hG hga2 (.inl rfl)) (by simp [cPrep, cP, hrd0.out, hrd1.out, hn])⟩
  have hG := grown_trans hG hga2 (.inl rfl)
  have hr := hr.grown hga2 hne1
  have hv2 := hv2.grown hga2 hne2
  have hC2 := hC
  have hC := Nat.le_trans hC hga2.size
  have hrd2 := (show Hid _ from hrd2)
  obtain ⟨cs, rfl, vo2, vg2, hcs, f2o, f2g⟩ := hR2
  subst hcs
  have f2o := f2o.mv (Mv.weak (L := w.heap.size + 2) hC2)
  have f2g := f2g.mv (Mv.weak (L := w.heap.size + 2) hC2)
  go_wp2_with (refine wl_put rfl _ _ _ rfl (w.heap.size + 1) 3 [.int .i64 a2.1, .int .i64 a2.2.1, vo2, vg2] rfl rfl _ _ hv2 (show 7 ≤ 8 by decide) (by kernel_rfl) (one_RReq (G := From (w.heap.size + 2)) (w := wa2) (x := a2) ⟨_, _, rfl, f2o, f2g⟩) ?_; intro wb2 hv3 hgb2)
  have hv2 : Row wb2 (w.heap.size + 1) 107 [.int .i64 a0, .int .i64 a1.1, .int .i64 a1.2, .int .i64 a2.1, .int .i64 a2.2.1, vo2, vg2, .slice none 0 0] := hv3.out
  clear hv3
  have hG := grown_trans hG hgb2 (.inr fun k hk => by cases hk; omega)
  have hS := hS.grown hgb2 (by omega)
  have hC := Nat.le_trans hC hgb2.size
  have hr := hr.grown hgb2 hne3
  have f2o := f2o.mv (Mv.from (L := w.heap.size + 2) hgb2 (by omega) (Nat.le_refl _))
  have f2g := f2g.mv (Mv.from (L := w.heap.size + 2) hgb2 (by omega) (Nat.le_refl _))
  refine (rvotes_any L _ r bv l _ hS).mono ?_
  rintro e wa3 ⟨hga3, ⟨hn, rfl⟩ | ⟨v3, a3, p3, hrd3, rfl, hR3, hS⟩⟩
  · go_wp2_with fail
    exact ⟨rfl, RPost.no (grown_trans hG hga3 (.inl rfl)) (by simp [cPrep, cP, hrd0.out, hrd1.out, hrd2.out, hn])⟩
  have hG := grown_trans hG hga3 (.inl rfl)
  have hr := hr.grown hga3 hne1
  have hv2 := hv2.grown hga3 hne2
  have hC3 := hC
  have hC := Nat.le_trans hC hga3.size
  have f2o := f2o.mv (Mv.from (L := w.heap.size + 2) hga3 (by omega) (Nat.le_refl _))
  have f2g := f2g.mv (Mv.from (L := w.heap.size + 2) hga3 (by omega) (Nat.le_refl _))
  have hrd3 := (show Hid _ from hrd3)
  have f3 := hR3.mv mov_vote (Nat.le_refl _) (Mv.weak (L := w.heap.size + 2) hC3)
  go_wp2_with (first
    | (refine wl_set rfl _ _ _ rfl (w.heap.size + 1) 7 _ rfl rfl _ _ hv2 (show 7 < 8 by decide) (by kernel_rfl) f3.one ?_; intro wb3 hv3 hgb3)
    | (refine wl_load rfl _ _ rfl (w.heap.size + 1) rfl _ _ hv3.out _ Tryz.underlying107 rfl (by kernel_rfl) ?_; have hr := hr.grown hgb3 hne3)
    | (refine wl_store rfl _ _ _ rfl w.heap.size [.int .i64 a0, .int .i64 a1.1, .int .i64 a1.2, .int .i64 a2.1, .int .i64 a2.2.1, vo2, vg2, v3] rfl rfl _ _ hr (by rfl) (by kernel_rfl) (by intro u hu; simp only [List.mem_cons, List.not_mem_nil, or_false] at hu; rcases hu with rfl | rfl | rfl | rfl | rfl | rfl | rfl | rfl <;> first | rfl | exact f2o.one | exact f2g.one | exact f3.one) ?_; intro wz hrz hgz))
  have hv2 : Row wb3 (w.heap.size + 1) 107 [.int .i64 a0, .int .i64 a1.1, .int .i64 a1.2, .int .i64 a2.1, .int .i64 a2.2.1, vo2, vg2, v3] := hv3.out
  clear hv3
  have hG := grown_trans hG hgb3 (.inr fun k hk => by cases hk; omega)
  have hS := hS.grown hgb3 (by omega)
  have hC := Nat.le_trans hC hgb3.size
  have f2o := f2o.mv (Mv.from (L := w.heap.size + 2) hgb3 (by omega) (Nat.le_refl _))
  have f2g := f2g.mv (Mv.from (L := w.heap.size + 2) hgb3 (by omega) (Nat.le_refl _))
  have f3 := f3.mv mov_vote hgb3.size (Mv.from (L := w.heap.size + 2) hgb3 (by omega) (Nat.le_refl _))
  have hG := grown_trans hG hgz (.inr fun k hk => by cases hk; omega)
  have hS := hS.grown hgz (by omega)
  have f2o := f2o.mv (Mv.from (L := w.heap.size + 2) hgz (by omega) (Nat.le_refl _))
  have f2g := f2g.mv (Mv.from (L := w.heap.size + 2) hgz (by omega) (Nat.le_refl _))
  have f3 := f3.mv mov_vote hgz.size (Mv.from (L := w.heap.size + 2) hgz (by omega) (Nat.le_refl _))
  have f2o := f2o.mv (Mv.weak (L := w.heap.size) (by omega))
  have f2g := f2g.mv (Mv.weak (L := w.heap.size) (by omega))
  have f3 := f3.mv mov_vote (Nat.le_refl _) (Mv.weak (L := w.heap.size) (by omega))
  have hrz := hrz.out
  refine bodyPost_ret (v := .agg ([.int .i64 a0, .int .i64 a1.1, .int .i64 a1.2, .int .i64 a2.1, .int .i64 a2.2.1, vo2, vg2, v3] : List Value).toArray) (results_cell_row rfl _ _ w.heap.size _ _ (0, 0) _ (by rfl) hrz Tryz.underlying107 rfl (by kernel_rfl)) rfl ?_
  exact ⟨hG, .inr ⟨_, (a0, a1, a2, a3), p3, by simp [cPrep, cP, hrd0.out, hrd1.out, hrd2.out, hrd3.out], rfl, ⟨_, rfl, ⟨_, _, _, rfl, f2o, f2g, f3⟩⟩, hS⟩⟩
theorem Tryz.inf_ints : (Tryz.prog.info? 3).map (fun i => (i.zero, i.size, i.bytes)) = some (some (.int .i64 0), 1, 8) := by kernel_rfl
set_option maxHeartbeats 2000000 in
/-- getList of Int. -/
theorem rints_any (L : Nat) (w : World) (r : Nat) (bv : Value) (l : List Int) (p : Nat) (hS : RS L w r bv l p) :
    Calls Tryz.prog 71 #[.pointer (some ⟨r, 0, none⟩), .func (.func 35) #[.pointer (some ⟨r, 0, none⟩)] #[]] w (RPost (cL cN) (RL RInt 1) L w r bv l p) := by
  have hLw := hS.hL
  have hrL := hS.hr
  have hbl := hS.rd.1.1
  go_enter Tryz.func71, Tryz.ntmps71
  go_wp2_with fail
  refine (rnum_any L _ r bv l _ hS).mono ?_
  rintro e w1 ⟨hg1, ⟨hn, rfl⟩ | ⟨v1, n, p1, hrd1, rfl, hR1, hS1⟩⟩
  · go_wp2_with fail
    exact ⟨rfl, RPost.no hg1 (by simp [cL, hn])⟩
  have hR1 : v1 = .int .i64 n := hR1
  subst hR1
  have hn0 : 0 ≤ n := (okI_bd (cN_law.bwd _ _ _ (hbl.drop p) hrd1).1).1
  obtain ⟨N, rfl⟩ := Int.eq_ofNat_of_zero_le hn0
  have HR1 := (show Hid (cN.rd (l.drop p) = some ((N : Int), l.drop p1)) from hrd1)
  clear hrd1 hn0 hS
  by_cases hN : (64 : Int) < (N : Int)
  · go_wp2_with fail
    exact ⟨rfl, RPost.no hg1 (by simp only [cL, HR1.out, Option.bind_some]; rw [if_pos hN])⟩
  go_wp2_with fail
  go_loopw [6, 13] (fun v i wr => ∃ (q pq : Nat) (ys : List Int), q ≤ N ∧ i = .int .i64 q ∧ ys.length = q ∧ Hid (rdN cN q (l.drop p1) = some (ys, l.drop pq)) ∧ LB RInt 3 1 w.heap.size wr v ys ∧ RS L wr r bv l pq ∧ w.grownBy wr (some r)) (fun _ i _ => N - (intOf i).toNat)
  case atStart => exact ⟨0, p1, [], by omega, rfl, rfl, rfl, LB.nil _ _ _ _ _, hS1, hg1⟩
  case round =>
    obtain ⟨q, pq, ys, hq, rfl, hyl, hrdq, hLB, hSr, hGr⟩ := hrel
    by_cases hqN : q < N
    · go_wp2_with fail
      refine (rnum_any L _ r bv l _ hSr).mono ?_
      rintro e w3 ⟨hg3, ⟨hn, rfl⟩ | ⟨v3, y, p3, hrd3, rfl, hR3, hS3⟩⟩
      · have HN := (show Hid ((cL cN).rd (l.drop p) = none) from list_gone (by omega) HR1.out hqN hrdq.out hn)
        clear hn
        go_wp2_with fail
        exact ⟨rfl, RPost.no (grown_trans hGr hg3 (.inl rfl)) HN.out⟩
      have HR3 := (show Hid (rdN cN (q + 1) (l.drop p1) = some (ys ++ [y], l.drop p3)) from by show _ = _; rw [rdN_snoc, hrdq.out]; simp [hrd3])
      clear hrd3
      have hR3 : v3 = .int .i64 y := hR3
      subst hR3
      have hRc : RInt (From wr.heap.size) w3 [.int .i64 y] y := rfl
      have hc1 : ∀ u ∈ [Value.int .i64 y], u.oneCell' = true := by intro u hu; simp at hu; subst hu; rfl
      have hcl : ([Value.int .i64 y]).length = 1 := rfl
      have hLB3 := hLB.grown mov_int hg3 (by omega)
      have hBs : w.heap.size ≤ wr.heap.size := hGr.size
      go_wp2_with (at_builtin; refine wl_push mov_int rfl _ _ _ rfl 3 1 8 _ Tryz.underlying36 Tryz.inf_ints rfl (by decide) w.heap.size u6 ys rfl hLB3 [.int .i64 y] y wr.heap.size hRc hcl hc1 hBs hLB.lt rfl (Nat.le_trans hBs hg3.size) (by rw [hyl]; omega) (by decide) ?_; intro v4 w4 hLB4 hg4)
      have hG4 := grown_trans (grown_trans hGr hg3 (.inl rfl)) hg4 (.inr fun k hk => hLB.fr k hk)
      have hS4 := RS.own hS3 hg4 (fun k hk => Nat.le_trans (by omega) (hLB.fr k hk))
      go_roundw
      case rel => exact ⟨q + 1, p3, ys ++ [y], by omega, by go_num, by simp [hyl], HR3, hLB4, hS4, hG4⟩
      case measure => simp [intOf]; omega
    · obtain rfl : q = N := by omega
      have HE := (show Hid ((cL cN).rd (l.drop p) = some (ys, l.drop pq)) from list_read (by omega) HR1.out hrdq.out)
      have hrl := hLB.rl mov_int
      have hvo := hLB.form
      go_wp2_with fail
      go_ret
      exact ⟨hGr, .inr ⟨_, ys, pq, HE.out, rfl, hrl, hSr⟩⟩
theorem Tryz.inf_reqs : (Tryz.prog.info? 34).map (fun i => (i.zero, i.size, i.bytes)) = some (some (.agg #[.int .i64 0, .int .i64 0, .slice none 0 0, .slice none 0 0]), 4, 64) := by kernel_rfl
set_option maxHeartbeats 2000000 in
/-- getList of PReq. -/
theorem rreqs_any (L : Nat) (w : World) (r : Nat) (bv : Value) (l : List Int) (p : Nat) (hS : RS L w r bv l p) :
    Calls Tryz.prog 72 #[.pointer (some ⟨r, 0, none⟩), .func (.func 67) #[.pointer (some ⟨r, 0, none⟩)] #[]] w (RPost (cL cReq) (RL RReq 4) L w r bv l p) := by
  have hLw := hS.hL
  have hrL := hS.hr
  have hbl := hS.rd.1.1
  go_enter Tryz.func72, Tryz.ntmps72
  go_wp2_with fail
  refine (rnum_any L _ r bv l _ hS).mono ?_
  rintro e w1 ⟨hg1, ⟨hn, rfl⟩ | ⟨v1, n, p1, hrd1, rfl, hR1, hS1⟩⟩
  · go_wp2_with fail
    exact ⟨rfl, RPost.no hg1 (by simp [cL, hn])⟩
  have hR1 : v1 = .int .i64 n := hR1
  subst hR1
  have hn0 : 0 ≤ n := (okI_bd (cN_law.bwd _ _ _ (hbl.drop p) hrd1).1).1
  obtain ⟨N, rfl⟩ := Int.eq_ofNat_of_zero_le hn0
  have HR1 := (show Hid (cN.rd (l.drop p) = some ((N : Int), l.drop p1)) from hrd1)
  clear hrd1 hn0 hS
  by_cases hN : (64 : Int) < (N : Int)
  · go_wp2_with fail
    exact ⟨rfl, RPost.no hg1 (by simp only [cL, HR1.out, Option.bind_some]; rw [if_pos hN])⟩
  go_wp2_with fail
  go_loopw [6, 13] (fun v i wr => ∃ (q pq : Nat) (ys : List PReq), q ≤ N ∧ i = .int .i64 q ∧ ys.length = q ∧ Hid (rdN cReq q (l.drop p1) = some (ys, l.drop pq)) ∧ LB RReq 34 4 w.heap.size wr v ys ∧ RS L wr r bv l pq ∧ w.grownBy wr (some r)) (fun _ i _ => N - (intOf i).toNat)
  case atStart => exact ⟨0, p1, [], by omega, rfl, rfl, rfl, LB.nil _ _ _ _ _, hS1, hg1⟩
  case round =>
    obtain ⟨q, pq, ys, hq, rfl, hyl, hrdq, hLB, hSr, hGr⟩ := hrel
    by_cases hqN : q < N
    · go_wp2_with fail
      refine (rrequest_any L _ r bv l _ hSr).mono ?_
      rintro e w3 ⟨hg3, ⟨hn, rfl⟩ | ⟨v3, y, p3, hrd3, rfl, hR3, hS3⟩⟩
      · have HN := (show Hid ((cL cReq).rd (l.drop p) = none) from list_gone (by omega) HR1.out hqN hrdq.out hn)
        clear hn
        go_wp2_with fail
        exact ⟨rfl, RPost.no (grown_trans hGr hg3 (.inl rfl)) HN.out⟩
      have HR3 := (show Hid (rdN cReq (q + 1) (l.drop p1) = some (ys ++ [y], l.drop p3)) from by show _ = _; rw [rdN_snoc, hrdq.out]; simp [hrd3])
      clear hrd3
      obtain ⟨cs, rfl, hRc⟩ := hR3
      have hc1 := one_RReq hRc
      have hcl : cs.length = 4 := len_RReq hRc
      have hRd := hRc
      obtain ⟨vo, vg, rfl, _, _⟩ := hRd
      have hLB3 := hLB.grown mov_req hg3 (by omega)
      have hBs : w.heap.size ≤ wr.heap.size := hGr.size
      go_wp2_with (at_builtin; refine wl_push mov_req rfl _ _ _ rfl 34 4 64 _ Tryz.underlying37 Tryz.inf_reqs rfl (by decide) w.heap.size u6 ys rfl hLB3 [.int .i64 y.1, .int .i64 y.2.1, vo, vg] y wr.heap.size hRc hcl hc1 hBs hLB.lt rfl (Nat.le_trans hBs hg3.size) (by rw [hyl]; omega) (by decide) ?_; intro v4 w4 hLB4 hg4)
      have hG4 := grown_trans (grown_trans hGr hg3 (.inl rfl)) hg4 (.inr fun k hk => hLB.fr k hk)
      have hS4 := RS.own hS3 hg4 (fun k hk => Nat.le_trans (by omega) (hLB.fr k hk))
      go_roundw
      case rel => exact ⟨q + 1, p3, ys ++ [y], by omega, by go_num, by simp [hyl], HR3, hLB4, hS4, hG4⟩
      case measure => simp [intOf]; omega
    · obtain rfl : q = N := by omega
      have HE := (show Hid ((cL cReq).rd (l.drop p) = some (ys, l.drop pq)) from list_read (by omega) HR1.out hrdq.out)
      have hrl := hLB.rl mov_req
      have hvo := hLB.form
      go_wp2_with fail
      go_ret
      exact ⟨hGr, .inr ⟨_, ys, pq, HE.out, rfl, hrl, hSr⟩⟩
theorem Tryz.inf_preps : (Tryz.prog.info? 107).map (fun i => (i.zero, i.size, i.bytes)) = some (some (.agg #[.int .i64 0, .int .i64 0, .int .i64 0, .int .i64 0, .int .i64 0, .slice none 0 0, .slice none 0 0, .slice none 0 0]), 8, 112) := by kernel_rfl
set_option maxHeartbeats 2000000 in
/-- getList of PPrep. -/
theorem rpreps_any (L : Nat) (w : World) (r : Nat) (bv : Value) (l : List Int) (p : Nat) (hS : RS L w r bv l p) :
    Calls Tryz.prog 112 #[.pointer (some ⟨r, 0, none⟩), .func (.func 113) #[.pointer (some ⟨r, 0, none⟩)] #[]] w (RPost (cL cPrep) (RL RPrep 8) L w r bv l p) := by
  have hLw := hS.hL
  have hrL := hS.hr
  have hbl := hS.rd.1.1
  go_enter Tryz.func112, Tryz.ntmps112
  go_wp2_with fail
  refine (rnum_any L _ r bv l _ hS).mono ?_
  rintro e w1 ⟨hg1, ⟨hn, rfl⟩ | ⟨v1, n, p1, hrd1, rfl, hR1, hS1⟩⟩
  · go_wp2_with fail
    exact ⟨rfl, RPost.no hg1 (by simp [cL, hn])⟩
  have hR1 : v1 = .int .i64 n := hR1
  subst hR1
  have hn0 : 0 ≤ n := (okI_bd (cN_law.bwd _ _ _ (hbl.drop p) hrd1).1).1
  obtain ⟨N, rfl⟩ := Int.eq_ofNat_of_zero_le hn0
  have HR1 := (show Hid (cN.rd (l.drop p) = some ((N : Int), l.drop p1)) from hrd1)
  clear hrd1 hn0 hS
  by_cases hN : (64 : Int) < (N : Int)
  · go_wp2_with fail
    exact ⟨rfl, RPost.no hg1 (by simp only [cL, HR1.out, Option.bind_some]; rw [if_pos hN])⟩
  go_wp2_with fail
  go_loopw [6, 13] (fun v i wr => ∃ (q pq : Nat) (ys : List PPrep), q ≤ N ∧ i = .int .i64 q ∧ ys.length = q ∧ Hid (rdN cPrep q (l.drop p1) = some (ys, l.drop pq)) ∧ LB RPrep 107 8 w.heap.size wr v ys ∧ RS L wr r bv l pq ∧ w.grownBy wr (some r)) (fun _ i _ => N - (intOf i).toNat)
  case atStart => exact ⟨0, p1, [], by omega, rfl, rfl, rfl, LB.nil _ _ _ _ _, hS1, hg1⟩
  case round =>
    obtain ⟨q, pq, ys, hq, rfl, hyl, hrdq, hLB, hSr, hGr⟩ := hrel
    by_cases hqN : q < N
    · go_wp2_with fail
      refine (rprep_any L _ r bv l _ hSr).mono ?_
      rintro e w3 ⟨hg3, ⟨hn, rfl⟩ | ⟨v3, y, p3, hrd3, rfl, hR3, hS3⟩⟩
      · have HN := (show Hid ((cL cPrep).rd (l.drop p) = none) from list_gone (by omega) HR1.out hqN hrdq.out hn)
        clear hn
        go_wp2_with fail
        exact ⟨rfl, RPost.no (grown_trans hGr hg3 (.inl rfl)) HN.out⟩
      have HR3 := (show Hid (rdN cPrep (q + 1) (l.drop p1) = some (ys ++ [y], l.drop p3)) from by show _ = _; rw [rdN_snoc, hrdq.out]; simp [hrd3])
      clear hrd3
      obtain ⟨cs, rfl, hRc⟩ := hR3
      have hc1 := one_RPrep hRc
      have hcl : cs.length = 8 := len_RPrep hRc
      have hRd := hRc
      obtain ⟨vo, vg, vc, rfl, _, _, _⟩ := hRd
      have hLB3 := hLB.grown mov_prep hg3 (by omega)
      have hBs : w.heap.size ≤ wr.heap.size := hGr.size
      go_wp2_with (at_builtin; refine wl_push mov_prep rfl _ _ _ rfl 107 8 112 _ Tryz.underlying66 Tryz.inf_preps rfl (by decide) w.heap.size u6 ys rfl hLB3 [.int .i64 y.1, .int .i64 y.2.1.1, .int .i64 y.2.1.2, .int .i64 y.2.2.1.1, .int .i64 y.2.2.1.2.1, vo, vg, vc] y wr.heap.size hRc hcl hc1 hBs hLB.lt rfl (Nat.le_trans hBs hg3.size) (by rw [hyl]; omega) (by decide) ?_; intro v4 w4 hLB4 hg4)
      have hG4 := grown_trans (grown_trans hGr hg3 (.inl rfl)) hg4 (.inr fun k hk => hLB.fr k hk)
      have hS4 := RS.own hS3 hg4 (fun k hk => Nat.le_trans (by omega) (hLB.fr k hk))
      go_roundw
      case rel => exact ⟨q + 1, p3, ys ++ [y], by omega, by go_num, by simp [hyl], HR3, hLB4, hS4, hG4⟩
      case measure => simp [intOf]; omega
    · obtain rfl : q = N := by omega
      have HE := (show Hid ((cL cPrep).rd (l.drop p) = some (ys, l.drop pq)) from list_read (by omega) HR1.out hrdq.out)
      have hrl := hLB.rl mov_prep
      have hvo := hLB.form
      go_wp2_with fail
      go_ret
      exact ⟨hGr, .inr ⟨_, ys, pq, HE.out, rfl, hrl, hSr⟩⟩
end
end Go.Proofs.YtgjepofinpmcpaaGreatDoor
