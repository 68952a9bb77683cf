/- catenarylaw10.snapAlive, SnapNames. -/
import Derived.Test.YtejkkhlblnepeaaDoorUA
section
set_option linter.unusedVariables false
set_option linter.unusedSimpArgs false
namespace Go.Proofs.YtejkkhlblnepeaaDoor
namespace Kvl
open Oct

/-- From p, wrong or not, to p': if nothing is wrong now, x was read; if something went wrong, there was nothing to be read. -/
def Rdg {α : Type} (rd : List Int → Option (α × List Int)) (l : List Int) (p : Nat) (bad : Bool) (x : α) (p' : Nat) (bad' : Bool) : Prop :=
  p' ≤ l.length ∧ (bad' = false → bad = false ∧ rd (l.drop p) = some (x, l.drop p')) ∧ (bad = false → bad' = true → rd (l.drop p) = none)
variable {α β : Type} {l : List Int} {p p1 p2 : Nat} {b b1 b2 : Bool}
theorem Rdg.pair {c : Cdc α} {d : Cdc β} {x : α} {y : β} (h : Rdg c.rd l p b x p1 b1) (k : Rdg d.rd l p1 b1 y p2 b2) : Rdg (cP c d).rd l p b (x, y) p2 b2 := by
  refine ⟨k.1, fun e => ?_, fun e1 e2 => ?_⟩
  · obtain ⟨e1, e2⟩ := k.2.1 e
    obtain ⟨e3, e4⟩ := h.2.1 e1
    exact ⟨e3, by simp only [cP]; rw [e4]; simp only [Option.bind_some]; rw [e2]; rfl⟩
  · cases b1 with
    | true => simp only [cP]; rw [h.2.2 e1 rfl]; rfl
    | false => simp only [cP]; rw [(h.2.1 rfl).2]; simp only [Option.bind_some]; rw [k.2.2 rfl e2]; rfl
theorem Rdg.view [DecidableEq β] {c : Cdc α} {x : α} (h : Rdg c.rd l p b x p1 b1) (f : α → β) (g : β → α) : Rdg (cV c f g).rd l p b (f x) p1 b1 := by
  refine ⟨h.1, fun e => ?_, fun e1 e2 => ?_⟩
  · obtain ⟨e3, e4⟩ := h.2.1 e
    exact ⟨e3, by simp only [cV]; rw [e4]; rfl⟩
  · simp only [cV]; rw [h.2.2 e1 e2]; rfl
theorem Rdg.nil {c : Cdc α} (hp : p ≤ l.length) : Rdg (rdN c 0) l p b [] p b := ⟨hp, fun e => ⟨e, rfl⟩, fun e1 e2 => by rw [e1] at e2; cases e2⟩
theorem Rdg.snoc {c : Cdc α} {i : Nat} {xs : List α} {y : α} (h : Rdg (rdN c i) l p b xs p1 b1) (k : Rdg c.rd l p1 b1 y p2 b2) : Rdg (rdN c (i + 1)) l p b (xs ++ [y]) p2 b2 := by
  refine ⟨k.1, fun e => ?_, fun e1 e2 => ?_⟩
  · obtain ⟨e1, e2⟩ := k.2.1 e
    obtain ⟨e3, e4⟩ := h.2.1 e1
    exact ⟨e3, by rw [rdN_snoc, e4]; simp only [Option.bind_some]; rw [e2]; rfl⟩
  · rw [rdN_snoc]
    cases b1 with
    | true => rw [h.2.2 e1 rfl]; rfl
    | false => rw [(h.2.1 rfl).2]; simp only [Option.bind_some]; rw [k.2.2 rfl e2]; rfl
/-- A number of at most m. -/
def rdM (m : Int) (l : List Int) : Option (Int × List Int) := (cN.rd l).bind fun x => if m < x.1 then none else some x
theorem Rdg.list {m n : Int} {c : Cdc α} {xs : List α} (h : Rdg (Kvl.rdM m) l p b n p1 b1) (k : Rdg (rdN c n.toNat) l p1 b1 xs p2 b2) : Rdg (cLm m c).rd l p b xs p2 b2 := by
  have e0 : ∀ z, (cLm m c).rd z = (Kvl.rdM m z).bind fun x => rdN c x.1.toNat x.2 := fun z => by
    simp only [cLm, Kvl.rdM]
    cases cN.rd z with
    | none => rfl
    | some x =>
      simp only [Option.bind_some]
      split <;> rfl
  refine ⟨k.1, fun e => ?_, fun e1 e2 => ?_⟩
  · obtain ⟨e1, e2⟩ := k.2.1 e
    obtain ⟨e3, e4⟩ := h.2.1 e1
    exact ⟨e3, by rw [e0, e4]; simp only [Option.bind_some]; exact e2⟩
  · rw [e0]
    cases b1 with
    | true => rw [h.2.2 e1 rfl]; rfl
    | false => rw [(h.2.1 rfl).2]; simp only [Option.bind_some]; exact k.2.2 rfl e2
theorem Rdg.numOk {n : Int} {p' : Nat} (h1 : cN.rd (l.drop p) = some (n, l.drop p')) (h2 : p' ≤ l.length) : Rdg cN.rd l p b n p' b := ⟨h2, fun e => ⟨e, h1⟩, fun e1 e2 => by rw [e1] at e2; cases e2⟩
theorem Rdg.no {rd : List Int → Option (α × List Int)} {x : α} (h1 : rd (l.drop p) = none) (h2 : p ≤ l.length) : Rdg rd l p b x p true := ⟨h2, fun e => (by cases e), fun _ _ => h1⟩
theorem Rdg.ok {rd : List Int → Option (α × List Int)} {x : α} {p' : Nat} (h1 : rd (l.drop p) = some (x, l.drop p')) (h2 : p' ≤ l.length) : Rdg rd l p b x p' b := ⟨h2, fun e => ⟨e, h1⟩, fun e1 e2 => by rw [e1] at e2; cases e2⟩
theorem Rdg.most {m n : Int} (h : Rdg cN.rd l p b n p1 b1) (hm : ¬ m < n) : Rdg (Kvl.rdM m) l p b n p1 b1 :=
  ⟨h.1, fun e => ⟨(h.2.1 e).1, by unfold Kvl.rdM; rw [(h.2.1 e).2]; simp only [Option.bind_some]; rw [if_neg hm]⟩, fun e1 e2 => by unfold Kvl.rdM; rw [h.2.2 e1 e2]; rfl⟩
theorem Rdg.over {m n x : Int} (h : Rdg cN.rd l p b n p1 b1) (hm : m < n) : Rdg (Kvl.rdM m) l p b x p1 true :=
  ⟨h.1, fun e => (by cases e), fun e1 _ => by
    unfold Kvl.rdM
    cases b1 with
    | true => rw [h.2.2 e1 rfl]; rfl
    | false => rw [(h.2.1 rfl).2]; simp only [Option.bind_some]; rw [if_pos hm]⟩
theorem gBm {m : Int} (hb : Byt l) (hp : p ≤ l.length) :
    ((cTm m).rd (l.drop p) = none ∧ getB l p m = ([], 0, 11)) ∨ ∃ t p', (cTm m).rd (l.drop p) = some (t, l.drop p') ∧ getB l p m = (t, ((p' : Nat) : Int), 0) ∧ p' ≤ l.length := by
  cases hn : num (l.drop p) with
  | none => exact .inl ⟨by simp [cTm, hn], by unfold getB; rw [getI_none p hp hn]; simp⟩
  | some nk =>
    obtain ⟨n, k⟩ := nk
    obtain ⟨n0, n1, _, _, kl, _⟩ := num_some (hb.drop p) hn
    rw [List.length_drop] at kl
    obtain ⟨j, rfl⟩ := Int.eq_ofNat_of_zero_le n0
    have hg := getI_some p hp hn
    by_cases hc : m < (j : Int) ∨ ((l.drop p).length : Int) - k < (j : Int)
    · refine .inl ⟨by simp only [cTm, hn, Option.bind_some]; rw [if_pos hc], ?_⟩
      unfold getB
      rw [hg, if_pos]
      rw [List.length_drop] at hc
      simp only
      omega
    · rw [List.length_drop] at hc
      refine .inr ⟨((l.drop p).drop k).take j, p + k + j, ?_, ?_, by omega⟩
      · simp only [cTm, hn, Option.bind_some]
        rw [if_neg (by rw [List.length_drop]; exact hc)]
        simp [Nat.add_assoc]
      · unfold getB
        rw [hg, if_neg (by simp only; omega)]
        simp only [Prod.mk.injEq]
        refine ⟨?_, by omega, trivial⟩
        rw [List.drop_drop, Int.toNat_natCast]
        congr 2
/-- All was read: what it comes to. -/
theorem Rdg.whole {c : Cdc PApp} {a : PApp} (h : Rdg c.rd l 0 false a p b) : rdA c l = if (b = false ∧ p = l.length) ∧ rgtA a then some a else none := by
  have e0 : l.drop 0 = l := rfl
  unfold rdA
  cases b with
  | true =>
    have := h.2.2 rfl rfl
    rw [e0] at this
    rw [this]
    simp
  | false =>
    have := (h.2.1 rfl).2
    rw [e0] at this
    rw [this]
    by_cases hp : p = l.length
    · rw [hp, List.drop_length]
      simp
    · have hd : l.drop p ≠ [] := by have := h.1; simp; omega
      rw [if_neg (fun hh => hp hh.1.2)]
      cases hx : l.drop p with
      | nil => exact absurd hx hd
      | cons x r => rfl
end Kvl
end Go.Proofs.YtejkkhlblnepeaaDoor
end

section
set_option linter.unusedVariables false
set_option linter.unusedSimpArgs false
namespace Go.Proofs.YtejkkhlblnepeaaDoor
open Go.RowKit Oct Kvl

/-- Two blocks may have turned, and new ones come. -/
structure Chg (k3 k4 : Nat) (w w' : World) : Prop where
  os : w'.os = w.os
  tape : w'.tape = w.tape
  output : w'.output = w.output
  size : w.heap.size ≤ w'.heap.size
  block : ∀ k, k < w.heap.size → k ≠ k3 → k ≠ k4 → w'.heap[k]? = w.heap[k]?
theorem Chg.below {k3 k4 : Nat} {w w' : World} (h : Below w.heap.size w w') : Chg k3 k4 w w' := ⟨h.os, h.tape, h.output, h.size, fun k hk _ _ => h.block k hk⟩
theorem Chg.trans {k3 k4 : Nat} {w w1 w2 : World} (h : Chg k3 k4 w w1) (k : Chg k3 k4 w1 w2) : Chg k3 k4 w w2 :=
  ⟨k.os.trans h.os, k.tape.trans h.tape, k.output.trans h.output, Nat.le_trans h.size k.size, fun j hj h3 h4 => (k.block j (Nat.lt_of_lt_of_le hj h.size) h3 h4).trans (h.block j hj h3 h4)⟩
theorem Chg.set3 {k3 k4 : Nat} {w w' : World} (h : w.grownBy w' (some k3)) : Chg k3 k4 w w' := ⟨h.os, h.tape, h.output, h.size, fun k hk h3 _ => h.block k hk (fun e => h3 (by injection e))⟩
theorem Chg.set4 {k3 k4 : Nat} {w w' : World} (h : w.grownBy w' (some k4)) : Chg k3 k4 w w' := ⟨h.os, h.tape, h.output, h.size, fun k hk _ h4 => h.block k hk (fun e => h4 (by injection e))⟩
theorem Chg.row {k3 k4 : Nat} {w w' : World} (h : Chg k3 k4 w w') {k : Nat} {t : TypeId} {xs : List Value} (hr : Row w k t xs) (h3 : k ≠ k3) (h4 : k ≠ k4) : Row w' k t xs := (h.block k hr.lt h3 h4).trans hr
theorem Chg.bel {k3 k4 B : Nat} {w w' : World} (h : Chg k3 k4 w w') (hB : B ≤ w.heap.size) (h3 : B ≤ k3) (h4 : B ≤ k4) : Below B w w' := ⟨h.os, h.tape, h.output, h.size, fun k hk => h.block k (Nat.lt_of_lt_of_le hk hB) (by omega) (by omega)⟩
theorem Chg.mv {k3 k4 B : Nat} {w w' : World} (h : Chg k3 k4 w w') (h3 : k3 < B) (h4 : k4 < B) : Mv (From B) (From B) w w' := fun k hk hlt => ⟨h.block k hlt (fun e => by unfold From at hk; omega) (fun e => by unfold From at hk; omega), hk⟩
theorem LB.chg {α : Type} {R : (Nat → Prop) → World → List Value → α → Prop} (hR : Mov R) {t : TypeId} {k B k3 k4 : Nat} {w w' : World} {v : Value} {ys : List α} (h : LB R t k B w v ys) (hc : Chg k3 k4 w w') (h3 : k3 < B) (h4 : k4 < B) : LB R t k B w' v ys := by
  obtain ⟨rows, h0, h1, h2, hall⟩ := h
  refine ⟨rows, h0, ?_, h2, hall.mono fun r a h => hR _ _ w w' r a h hc.size fun j hj hlt => ⟨hc.block j hlt (by have := hj.1; omega) (by have := hj.1; omega), hj⟩⟩
  refine ⟨h1.1, ?_⟩
  rcases h1.2 with hn | ⟨g, cap, cur, e, g1, g2, g3⟩
  · exact .inl hn
  · have hg := h2 g (by rw [e]; rfl)
    refine .inr ⟨g, cap, cur, e, g1, ?_, g3⟩
    have hlt := (World.ownsRow.lt h1 g (by rw [e]; rfl)).2
    rw [hc.block g hlt (by omega) (by omega)]
    exact g2

/-- A reader: its boxes; it stands at p, and something was wrong or not. -/
structure Rdr (k1 k3 k4 k5 k6 : Nat) (w : World) (bv : Value) (l : List Int) (p : Nat) (bad : Bool) : Prop where
  r1 : Row w k1 22 [bv]
  r3 : Row w k3 3 [.int .i64 p]
  r4 : Row w k4 4 [.bool bad]
  r5 : Row w k5 78 [.func (.func 43) #[] #[.pointer (some ⟨k3, 0, none⟩), .pointer (some ⟨k4, 0, none⟩)]]
  r6 : Row w k6 58 [.func (.func 44) #[] #[.pointer (some ⟨k1, 0, none⟩), .pointer (some ⟨k3, 0, none⟩), .pointer (some ⟨k5, 0, none⟩)]]
  rd : RT (fun k => k ≠ k3 ∧ k ≠ k4) w bv l
  hp : p ≤ l.length
  hl : l.length ≤ 140737488355300
theorem Rdr.below {k1 k3 k4 k5 k6 : Nat} {w w' : World} {bv : Value} {l : List Int} {p : Nat} {bad : Bool} (h : Rdr k1 k3 k4 k5 k6 w bv l p bad) (hb : Below w.heap.size w w') : Rdr k1 k3 k4 k5 k6 w' bv l p bad :=
  ⟨h.r1.below hb, h.r3.below hb, h.r4.below hb, h.r5.below hb, h.r6.below hb, h.rd.mv (Mv.belowG hb), h.hp, h.hl⟩
theorem Rdr.chg {k1 k3 k4 k5 k6 : Nat} {w w' : World} {bv : Value} {l : List Int} {p p' : Nat} {bad bad' : Bool} (h : Rdr k1 k3 k4 k5 k6 w bv l p bad) (hc : Chg k3 k4 w w') (h3 : Row w' k3 3 [.int .i64 p']) (h4 : Row w' k4 4 [.bool bad']) (hp : p' ≤ l.length) : Rdr k1 k3 k4 k5 k6 w' bv l p' bad' :=
  ⟨hc.row h.r1 (h.r1.apart h.r3 (by decide)) (h.r1.apart h.r4 (by decide)), h3, h4, hc.row h.r5 (h.r5.apart h.r3 (by decide)) (h.r5.apart h.r4 (by decide)), hc.row h.r6 (h.r6.apart h.r3 (by decide)) (h.r6.apart h.r4 (by decide)),
    h.rd.mv (fun k hk hlt => ⟨hc.block k hlt hk.1 hk.2, hk⟩), hp, h.hl⟩
/-- A row beside it is written. -/
theorem Rdr.grown {k1 k3 k4 k5 k6 : Nat} {w w' : World} {bv : Value} {l : List Int} {p : Nat} {bad : Bool} (h : Rdr k1 k3 k4 k5 k6 w bv l p bad) {b : Nat} (hg : w.grownBy w' (some b)) (hn : b ≠ k1 ∧ b ≠ k3 ∧ b ≠ k4 ∧ b ≠ k5 ∧ b ≠ k6) (hv : l ≠ [] → bv.ownBlock ≠ some b) : Rdr k1 k3 k4 k5 k6 w' bv l p bad := by
  have ne : ∀ j, b ≠ j → some b ≠ some j := fun j hj e => hj (by injection e)
  refine ⟨h.r1.grown hg (ne _ hn.1), h.r3.grown hg (ne _ hn.2.1), h.r4.grown hg (ne _ hn.2.2.1), h.r5.grown hg (ne _ hn.2.2.2.1), h.r6.grown hg (ne _ hn.2.2.2.2), ⟨h.rd.1.grown hg (fun hx k hk => by injection hk with hk; subst hk; exact hv hx), h.rd.2⟩, h.hp, h.hl⟩

set_option maxRecDepth 10000 in
set_option maxHeartbeats 800000 in
theorem pass_any (k3 k4 : Nat) (w : World) (p : Int) (bad : Bool) (r3 : Row w k3 3 [.int .i64 p]) (r4 : Row w k4 4 [.bool bad]) (nx er : Int) :
    Calls Tryd.prog 43 #[.int .i64 nx, .int .i64 er, .pointer (some ⟨k3, 0, none⟩), .pointer (some ⟨k4, 0, none⟩)] w fun e w' => e = .returned (.tuple #[]) ∧ Chg k3 k4 w w' ∧
      Row w' k3 3 [.int .i64 (if er = 0 then nx else p)] ∧ Row w' k4 4 [.bool (if er = 0 then bad else true)] := by
  have hne := r3.apart r4 (by decide)
  by_cases he : er = 0
  · subst he
    go_enter Tryd.func43, Tryd.ntmps43
    go_wp2_with (refine wl_set rfl _ _ _ rfl k3 0 _ rfl rfl _ _ r3 (show 0 < 1 by decide) (by kernel_rfl) rfl ?_; intro w3 hr3 hg3)
    go_end0
    exact ⟨rfl, Chg.set3 hg3, hr3.out, r4.grown hg3 (fun e => hne (by injection e))⟩
  · have hb : (er == 0) = false := by simpa using he
    rw [if_neg he, if_neg he]
    go_enter Tryd.func43, Tryd.ntmps43
    go_wp2_with (refine wl_set rfl _ _ _ rfl k4 0 _ rfl rfl _ _ r4 (show 0 < 1 by decide) (by kernel_rfl) rfl ?_; intro w3 hr3 hg3)
    go_end0
    exact ⟨rfl, Chg.set4 hg3, r3.grown hg3 (fun e => hne (by injection e with e; exact e.symm)), hr3.out⟩

set_option maxRecDepth 10000 in
set_option maxHeartbeats 800000 in
theorem rNum_any {k1 k3 k4 k5 k6 : Nat} {w : World} {bv : Value} {l : List Int} {p : Nat} {bad : Bool} (h : Rdr k1 k3 k4 k5 k6 w bv l p bad) :
    Calls Tryd.prog 44 #[.pointer (some ⟨k1, 0, none⟩), .pointer (some ⟨k3, 0, none⟩), .pointer (some ⟨k5, 0, none⟩)] w fun e w' => ∃ n p' bad', e = .returned (.int .i64 n) ∧ (0 ≤ n ∧ n ≤ 2147483647) ∧ Rdg cN.rd l p bad n p' bad' ∧ Rdr k1 k3 k4 k5 k6 w' bv l p' bad' ∧ Chg k3 k4 w w' := by
  have hG := getInt_any w bv l p h.rd.1 (by have := h.hl; omega)
  have c1 := h.r1.cell (j := 0) rfl
  have c3 := h.r3.cell (j := 0) rfl
  have c5 := h.r5.cell (j := 0) rfl
  obtain ⟨n, nx, er, hg, hn, hq⟩ : ∃ n nx er, getI l p = (n, nx, er) ∧ (0 ≤ n ∧ n ≤ 2147483647) ∧ ∃ p' bad', (if er = 0 then nx else (p : Int)) = ((p' : Nat) : Int) ∧ (if er = 0 then bad else true) = bad' ∧ Rdg cN.rd l p bad n p' bad' := by
    rcases gI h.rd.1.1 h.hp with ⟨h1, g1⟩ | ⟨n, p', h1, g1, q1⟩
    · exact ⟨0, 0, 11, g1, by omega, p, true, by simp, by simp, Rdg.no h1 h.hp⟩
    · have hb := okI_bd (cN_law.bwd _ _ _ (h.rd.1.1.drop p) h1).1
      exact ⟨n, _, 0, g1, hb, p', bad, by simp, by simp, Rdg.ok h1 q1⟩
  obtain ⟨p', bad', e1, e2, hR⟩ := hq
  rw [hg] at hG
  have hP := pass_any k3 k4 w p bad h.r3 h.r4 nx er
  rw [e1, e2] at hP
  clear hg e1 e2
  go_enter Tryd.func44, Tryd.ntmps44
  go_wp2_with (first
    | (go_at_call 45; refine hG.mono ?_; rintro e w ⟨rfl, rfl⟩)
    | (go_at_call 43; refine hP.mono ?_; rintro e w2 ⟨rfl, hc2, q3, q4⟩))
  go_ret
  exact ⟨n, p', bad', rfl, hn, hR, h.chg hc2 q3 q4 hR.1, hc2⟩

set_option maxRecDepth 10000 in
set_option maxHeartbeats 800000 in
theorem rText_any {k1 k3 k4 k5 k6 : Nat} {w : World} {bv : Value} {l : List Int} {p : Nat} {bad : Bool} (h : Rdr k1 k3 k4 k5 k6 w bv l p bad) (m : Int) :
    Calls Tryd.prog 47 #[.int .i64 m, .pointer (some ⟨k1, 0, none⟩), .pointer (some ⟨k3, 0, none⟩), .pointer (some ⟨k5, 0, none⟩)] w fun e w' => ∃ v t p' bad', e = .returned v ∧ OT (From w.heap.size) w' v t ∧ Rdg (cTm m).rd l p bad t p' bad' ∧ Rdr k1 k3 k4 k5 k6 w' bv l p' bad' ∧ Chg k3 k4 w w' := by
  have hG := getBytes_any w bv l p m h.rd.1 h.hl
  have hby := getB_byt l p m h.rd.1.1
  have c1 := h.r1.cell (j := 0) rfl
  have c3 := h.r3.cell (j := 0) rfl
  obtain ⟨t, nx, er, hg, hq⟩ : ∃ t nx er, getB l p m = (t, nx, er) ∧ ∃ p' bad', (if er = 0 then nx else (p : Int)) = ((p' : Nat) : Int) ∧ (if er = 0 then bad else true) = bad' ∧ Rdg (cTm m).rd l p bad t p' bad' := by
    rcases gBm (m := m) h.rd.1.1 h.hp with ⟨h1, g1⟩ | ⟨n, p', h1, g1, q1⟩
    · exact ⟨[], 0, 11, g1, p, true, by simp, by simp, Rdg.no h1 h.hp⟩
    · exact ⟨n, _, 0, g1, p', bad, by simp, by simp, Rdg.ok h1 q1⟩
  obtain ⟨p', bad', e1, e2, hR⟩ := hq
  rw [hg] at hG hby
  have HP := (show Hid (∀ u, Below w.heap.size w u → Calls Tryd.prog 43 #[.int .i64 nx, .int .i64 er, .pointer (some ⟨k3, 0, none⟩), .pointer (some ⟨k4, 0, none⟩)] u fun e w' => e = .returned (.tuple #[]) ∧ Chg k3 k4 u w' ∧ Row w' k3 3 [.int .i64 p'] ∧ Row w' k4 4 [.bool bad']) from fun u hu => by
    have := pass_any k3 k4 u p bad (h.r3.below hu) (h.r4.below hu) nx er
    rw [e1, e2] at this
    exact this)
  clear hg e1 e2
  go_enter Tryd.func47, Tryd.ntmps47
  go_wp2_with (first
    | (go_at_call 48; refine hG.mono ?_; rintro e w1 ⟨v1, rfl, ho1, hf1, hb1⟩; obtain ⟨a1, cp1, e1, hcp1⟩ := ho1.form; subst e1; have c5 := (h.r5.below hb1).cell (j := 0) rfl)
    | (go_at_call 43; refine (HP.out w1 hb1).mono ?_; rintro e w2 ⟨rfl, hc2, q3, q4⟩))
  go_ret
  have h3 := h.r3.lt
  have h4 := h.r4.lt
  have hot : OT (From w.heap.size) w1 _ t := ⟨ho1, hby, hf1⟩
  exact ⟨_, t, p', bad', rfl, hot.mv (hc2.mv h3 h4), hR, (h.below hb1).chg hc2 q3 q4 hR.1, (Chg.below hb1).trans hc2⟩

def RCp (k1 k3 k4 k5 k6 : Nat) (w : World) (bv : Value) (l : List Int) (p : Nat) (bad : Bool) (m : Int) (e : Ending) (w' : World) : Prop :=
  ∃ n p' bad', e = .returned (.int .i64 n) ∧ (0 ≤ n ∧ n ≤ m) ∧ Rdg (Kvl.rdM m) l p bad n p' bad' ∧ Rdr k1 k3 k4 k5 k6 w' bv l p' bad' ∧ Chg k3 k4 w w'
set_option maxRecDepth 10000 in
set_option maxHeartbeats 800000 in
theorem rCnt_any {k1 k3 k4 k5 k6 : Nat} {w : World} {bv : Value} {l : List Int} {p : Nat} {bad : Bool} (h : Rdr k1 k3 k4 k5 k6 w bv l p bad) (m : Int) (hm : 0 ≤ m) :
    Calls Tryd.prog 46 #[.int .i64 m, .pointer (some ⟨k6, 0, none⟩), .pointer (some ⟨k4, 0, none⟩)] w fun e w' => ∃ n p' bad', e = .returned (.int .i64 n) ∧ (0 ≤ n ∧ n ≤ m) ∧ Rdg (Kvl.rdM m) l p bad n p' bad' ∧ Rdr k1 k3 k4 k5 k6 w' bv l p' bad' ∧ Chg k3 k4 w w' := by
  have hN := rNum_any h
  have c6 := h.r6.cell (j := 0) rfl
  suffices H : Calls Tryd.prog 46 #[.int .i64 m, .pointer (some ⟨k6, 0, none⟩), .pointer (some ⟨k4, 0, none⟩)] w (RCp k1 k3 k4 k5 k6 w bv l p bad m) from H.mono fun e w' h => h
  go_enter Tryd.func46, Tryd.ntmps46
  go_upto_region 2 with (go_at_call 44; refine hN.mono ?_; rintro e w1 ⟨n, p', bad', rfl, hn, hR, hr1, hc1⟩)
  by_cases hmn : n ≤ m
  · have hd : decide (n ≤ m) = true := by simpa using hmn
    go_wp2_with fail
    go_ret
    exact ⟨n, p', bad', rfl, ⟨hn.1, hmn⟩, hR.most (by omega), hr1, hc1⟩
  · have hd : decide (n ≤ m) = false := by simpa using hmn
    have r4 := hr1.r4
    go_wp2_with (refine wl_set rfl _ _ _ rfl k4 0 _ rfl rfl _ _ r4 (show 0 < 1 by decide) (by kernel_rfl) rfl ?_; intro w3 hr3 hg3)
    go_ret
    have hc3 : Chg k3 k4 w1 w3 := Chg.set4 hg3
    exact ⟨0, p', true, rfl, ⟨by omega, hm⟩, hR.over (by omega), hr1.chg hc3 (hr1.r3.grown hg3 (fun e => hr1.r3.apart hr1.r4 (by decide) (by injection e with e; exact e.symm))) hr3.out hR.1, hc1.trans hc3⟩

set_option maxRecDepth 10000 in
set_option maxHeartbeats 800000 in
theorem rEnd_any {k1 k3 k4 k5 k6 : Nat} {w : World} {bv : Value} {l : List Int} {p : Nat} {bad : Bool} (h : Rdr k1 k3 k4 k5 k6 w bv l p bad) :
    Calls Tryd.prog 49 #[.pointer (some ⟨k4, 0, none⟩), .pointer (some ⟨k3, 0, none⟩), .pointer (some ⟨k1, 0, none⟩)] w fun e w' => e = .returned (.bool (decide (bad = false ∧ p = l.length))) ∧ w' = w := by
  have c1 := h.r1.cell (j := 0) rfl
  have c3 := h.r3.cell (j := 0) rfl
  have c4 := h.r4.cell (j := 0) rfl
  obtain ⟨ab, cb, e, hcb⟩ := h.rd.form
  subst e
  have hd : decide (bad = false ∧ p = l.length) = (!bad && ((p : Int) == (l.length : Int))) := by
    cases bad with
    | true => simp
    | false =>
      by_cases hp : p = l.length
      · simp [hp]
      · have : ¬ ((p : Int) = (l.length : Int)) := by omega
        simp [hp, this]
  rw [hd]
  clear hd h hcb
  cases bad with
  | true =>
    go_enter Tryd.func49, Tryd.ntmps49
    go_wp2_with fail
    go_ret
    exact ⟨rfl, rfl⟩
  | false =>
    go_enter Tryd.func49, Tryd.ntmps49
    go_wp2_with fail
    go_ret
    exact ⟨rfl, rfl⟩
end Go.Proofs.YtejkkhlblnepeaaDoor
end

section
set_option linter.unusedVariables false
set_option linter.unusedSimpArgs false
namespace Go.Proofs.YtejkkhlblnepeaaDoor
open Go.RowKit Oct Kvl

/-- All of a reader lies below B. -/
def Rdb (B k1 k3 k4 k5 k6 : Nat) (bv : Value) (l : List Int) : Prop := k1 < B ∧ k3 < B ∧ k4 < B ∧ k5 < B ∧ k6 < B ∧ (l ≠ [] → ∀ k, bv.ownBlock = some k → k < B)
theorem Rdr.low {k1 k3 k4 k5 k6 : Nat} {w : World} {bv : Value} {l : List Int} {p : Nat} {bad : Bool} (h : Rdr k1 k3 k4 k5 k6 w bv l p bad) : Rdb w.heap.size k1 k3 k4 k5 k6 bv l := ⟨h.r1.lt, h.r3.lt, h.r4.lt, h.r5.lt, h.r6.lt, fun hx k hk => h.rd.1.lt hx k hk⟩
theorem Rdr.above {k1 k3 k4 k5 k6 B : Nat} {w w' : World} {bv : Value} {l : List Int} {p : Nat} {bad : Bool} (h : Rdr k1 k3 k4 k5 k6 w bv l p bad) (hb : Rdb B k1 k3 k4 k5 k6 bv l) {r : Option Nat} (hg : w.grownBy w' r) (hr : ∀ g, r = some g → B ≤ g) : Rdr k1 k3 k4 k5 k6 w' bv l p bad := by
  obtain ⟨b1, b3, b4, b5, b6, bb⟩ := hb
  have ne : ∀ j, j < B → r ≠ some j := fun j hj e => by have := hr j e; omega
  exact ⟨h.r1.grown hg (ne _ b1), h.r3.grown hg (ne _ b3), h.r4.grown hg (ne _ b4), h.r5.grown hg (ne _ b5), h.r6.grown hg (ne _ b6), ⟨h.rd.1.grown hg (fun hx k hk e => by have := hr k hk; have := bb hx k e; omega), h.rd.2⟩, h.hp, h.hl⟩
theorem Chg.grown {k3 k4 : Nat} {w w1 w2 : World} (h : Chg k3 k4 w w1) {r : Option Nat} (hg : w1.grownBy w2 r) (hr : ∀ g, r = some g → w.heap.size ≤ g) : Chg k3 k4 w w2 :=
  ⟨hg.os.trans h.os, hg.tape.trans h.tape, hg.output.trans h.output, Nat.le_trans h.size hg.size, fun k hk h3 h4 => (hg.block k (Nat.lt_of_lt_of_le hk h.size) (fun e => by have := hr k e.symm; omega)).trans (h.block k hk h3 h4)⟩
theorem OT.gr {G : Nat → Prop} {w w' : World} {v : Value} {t : List Int} (h : OT G w v t) {b : Nat} {e : TypeId} {xs : List Value} (hr : Row w b e xs) (he : e ≠ 5) (hg : w.grownBy w' (some b)) : OT G w' v t :=
  ⟨h.1.grown hg (fun k hk => by cases hk; exact own_row_nU hr h.1 he), h.2.1, h.2.2⟩
/-- The end of a call that reads a record. -/
def RRp (k1 k3 k4 k5 k6 : Nat) (w : World) (bv : Value) (l : List Int) (p : Nat) (bad : Bool) (R : (Nat → Prop) → World → List Value → PEnt → Prop) (rd : List Int → Option (PEnt × List Int)) (e : Ending) (w' : World) : Prop :=
  ∃ row x p' bad', e = .returned (.agg row.toArray) ∧ R (From w.heap.size) w' row x ∧ Rdg rd l p bad x p' bad' ∧ Rdr k1 k3 k4 k5 k6 w' bv l p' bad' ∧ Chg k3 k4 w w'
/-- The end of a call that reads a list. -/
def RLp (k1 k3 k4 k5 k6 : Nat) (w : World) (bv : Value) (l : List Int) (p : Nat) (bad : Bool) (R : (Nat → Prop) → World → List Value → PEnt → Prop) (T : TypeId) (k : Nat) (m : Int) (rd : List Int → Option (List PEnt × List Int)) (e : Ending) (w' : World) : Prop :=
  ∃ v ys p' bad', e = .returned v ∧ LB R T k w.heap.size w' v ys ∧ (ys.length : Int) ≤ m ∧ Rdg rd l p bad ys p' bad' ∧ Rdr k1 k3 k4 k5 k6 w' bv l p' bad' ∧ Chg k3 k4 w w'

set_option maxRecDepth 10000 in
set_option maxHeartbeats 2000000 in
theorem dEnt_any {k1 k3 k4 k5 k6 : Nat} {w : World} {bv : Value} {l : List Int} {p : Nat} {bad : Bool} (h : Rdr k1 k3 k4 k5 k6 w bv l p bad) (rb : Nat) (hrb : Row w rb 62 [.func (.func 44) #[] #[.pointer (some ⟨k1, 0, none⟩), .pointer (some ⟨k3, 0, none⟩), .pointer (some ⟨k5, 0, none⟩)], .func (.func 46) #[] #[.pointer (some ⟨k6, 0, none⟩), .pointer (some ⟨k4, 0, none⟩)], .func (.func 47) #[] #[.pointer (some ⟨k1, 0, none⟩), .pointer (some ⟨k3, 0, none⟩), .pointer (some ⟨k5, 0, none⟩)], .func (.func 49) #[] #[.pointer (some ⟨k4, 0, none⟩), .pointer (some ⟨k3, 0, none⟩), .pointer (some ⟨k1, 0, none⟩)]]) :
    Calls Tryd.prog 26 #[.pointer (some ⟨rb, 0, none⟩)] w (RRp k1 k3 k4 k5 k6 w bv l p bad OEnt (cEn 16 64).rd) := by
  have hlow := h.low
  have hb3 := h.r3.lt
  have hb4 := h.r4.lt
  have n3 := hrb.apart h.r3 (by decide)
  have n4 := hrb.apart h.r4 (by decide)
  have hrl := hrb.lt
  obtain ⟨w0, hw0⟩ : ∃ w0, w0 = (w.alloc (.cells #[.slice none 0 0, .slice none 0 0] 51)).alloc (.cells #[.slice none 0 0, .slice none 0 0] 51) := ⟨_, rfl⟩
  have B0 : Below w.heap.size w w0 := by rw [hw0]; exact below_and (below_alloc _ _) (Nat.le_refl _) (below_alloc _ _)
  have hs : Row w0 w.heap.size 51 [.slice none 0 0, .slice none 0 0] := by rw [hw0]; exact rowA (Row.new w 51 _) _
  have hv : Row w0 (w.heap.size + 1) 51 [.slice none 0 0, .slice none 0 0] := by
    rw [hw0]
    have := Row.new (w.alloc (.cells #[.slice none 0 0, .slice none 0 0] 51)) 51 [.slice none 0 0, .slice none 0 0]
    simpa using this
  have hR := h.below B0
  have hrb0 := hrb.below B0
  go_enter Tryd.func26, Tryd.ntmps26
  go_upto_region 2 with fail
  rw [← hw0]
  clear hw0
  obtain ⟨vb, hvb⟩ : ∃ vb, vb = w.heap.size + 1 := ⟨_, rfl⟩
  obtain ⟨sb, hsb⟩ : ∃ sb, sb = w.heap.size := ⟨_, rfl⟩
  rw [← hvb] at hv ⊢
  have hs : Row w0 sb 51 [.slice none 0 0, .slice none 0 0] := by rw [hsb]; exact hs
  rw [← hsb]
  have hcI : Chg k3 k4 w w0 := Chg.below B0
  have hvs : vb ≠ sb := by omega
  have hv3 : vb ≠ k3 := by omega
  have hv4 : vb ≠ k4 := by omega
  have hs3 : sb ≠ k3 := by omega
  have hs4 : sb ≠ k4 := by omega
  have hvr : rb ≠ vb := by omega
  have hvw : w.heap.size ≤ vb := by omega
  have HSB := (show Hid (w.heap.size ≤ sb) by show _ ≤ _; omega)
  have HSB := (show Hid (w.heap.size ≤ sb) by show _ ≤ _; omega)
  have HSB := (show Hid (w.heap.size ≤ sb) by show _ ≤ _; omega)
  clear hvb hsb h hrb B0
  have cf := hrb0.cell (j := 2) rfl
  have hC := rText_any hR 16
  go_upto_region 3 with (first
    | (go_at_call 47; refine hC.mono ?_; rintro e w1 ⟨v0, t0, p0, b0, rfl, ot0, rg0, hR0, hc0⟩; obtain ⟨aa0, cc0, hvv0, _⟩ := ot0.rt.form; subst hvv0; have hvx := hc0.row hv hv3 hv4)
    | (refine wl_set rfl _ _ _ rfl vb 0 _ rfl rfl _ _ hvx (show 0 < 2 by decide) (by kernel_rfl) rfl ?_; intro w2 hr0 hg0))
  have hs0 := (hc0.row hs hs3 hs4).grown hg0 (fun e => hvs (by injection e))
  have hrb1 := (hc0.row hrb0 n3 n4).grown hg0 (fun e => hvr (by injection e with e; exact e.symm))
  have hR0' := hR0.above hlow hg0 (fun g hg => by cases hg; exact hvw)
  have hcc0 : Chg k3 k4 w w2 := (hcI.trans hc0).grown hg0 (fun g hg => by cases hg; exact hvw)
  have hv0' : Row w2 vb 51 [.slice aa0 t0.length cc0, .slice none 0 0] := hr0.out
  have hsz0 : w.heap.size ≤ w0.heap.size := hcI.size
  have ot0' := (ot0.gr hvx (by decide) hg0).mv (Mv.weak hsz0)
  clear cf hC hR hv hs hrb0 hvx hR0 hr0
  have cf := hrb1.cell (j := 2) rfl
  have hC := rText_any hR0' 64
  go_upto_region 4 with (first
    | (go_at_call 47; refine hC.mono ?_; rintro e w3 ⟨v1, t1, p1, b1, rfl, ot1, rg1, hR1, hc1⟩; obtain ⟨aa1, cc1, hvv1, _⟩ := ot1.rt.form; subst hvv1; have hvx := hc1.row hv0' hv3 hv4)
    | (refine wl_set rfl _ _ _ rfl vb 1 _ rfl rfl _ _ hvx (show 1 < 2 by decide) (by kernel_rfl) rfl ?_; intro w4 hr1 hg1))
  have hs1 := (hc1.row hs0 hs3 hs4).grown hg1 (fun e => hvs (by injection e))
  have hrb2 := (hc1.row hrb1 n3 n4).grown hg1 (fun e => hvr (by injection e with e; exact e.symm))
  have hR1' := hR1.above hlow hg1 (fun g hg => by cases hg; exact hvw)
  have hcc1 : Chg k3 k4 w w4 := (hcc0.trans hc1).grown hg1 (fun g hg => by cases hg; exact hvw)
  have hv1' : Row w4 vb 51 [.slice aa0 t0.length cc0, .slice aa1 t1.length cc1] := hr1.out
  have ot0_1 := (ot0'.mv (hc1.mv hb3 hb4)).gr hvx (by decide) hg1
  have hsz1 : w.heap.size ≤ w2.heap.size := hcc0.size
  have ot1' := (ot1.gr hvx (by decide) hg1).mv (Mv.weak hsz1)
  clear cf hC hR0' hv0' hs0 hrb1 hvx hR1 hr1
  have hone : ∀ x ∈ ([.slice aa0 t0.length cc0, .slice aa1 t1.length cc1] : List Value), x.oneCell' = true := by
    intro x hx
    simp only [List.mem_cons, List.not_mem_nil, or_false] at hx
    rcases hx with rfl | rfl <;> rfl
  go_wp2_with (first
    | (refine wl_load rfl _ _ rfl vb rfl _ _ hv1' _ Tryd.underlying51 rfl (by kernel_rfl) ?_)
    | (refine wl_store rfl _ _ _ rfl sb [.slice aa0 t0.length cc0, .slice aa1 t1.length cc1] rfl rfl _ _ hs1 rfl (by kernel_rfl) hone ?_; intro wz hrz hgz))
  have hswz : w.heap.size ≤ sb := HSB.out
  refine bodyPost_ret (v := .agg ([.slice aa0 t0.length cc0, .slice aa1 t1.length cc1] : List Value).toArray) (results_cell_row rfl _ _ sb _ _ (0, 0) _ (by rfl) hrz.out Tryd.underlying51 rfl (by kernel_rfl)) rfl ?_
  exact ⟨_, (t0, t1), _, _, rfl, ⟨_, _, rfl, ot0_1.gr hs1 (by decide) hgz, ot1'.gr hs1 (by decide) hgz⟩, rg0.pair rg1, hR1'.above hlow hgz (fun g hg => by cases hg; exact hswz), hcc1.grown hgz (fun g hg => by cases hg; exact hswz)⟩

theorem Tryd.inf10OEnt : (Tryd.prog.info? 51).map (fun i => (i.zero, i.size, i.bytes)) = some (some (.agg #[.slice none 0 0, .slice none 0 0]), 2, 48) := by kernel_rfl
theorem len10OEnt {G : Nat → Prop} {w : World} {r : List Value} {x : PEnt} (h : OEnt G w r x) : r.length = 2 ∧ ∀ u ∈ r, u.oneCell' = true := by
  obtain ⟨a, b, rfl, o1, o2⟩ := h
  refine ⟨rfl, fun x hx => ?_⟩
  simp only [List.mem_cons, List.not_mem_nil, or_false] at hx
  rcases hx with rfl | rfl
  · exact o1.rt.one
  · exact o2.rt.one
set_option maxRecDepth 10000 in
set_option maxHeartbeats 2000000 in
theorem lEnt_any {k1 k3 k4 k5 k6 : Nat} {w : World} {bv : Value} {l : List Int} {p : Nat} {bad : Bool} (h : Rdr k1 k3 k4 k5 k6 w bv l p bad) (rb : Nat) (hrb : Row w rb 62 [.func (.func 44) #[] #[.pointer (some ⟨k1, 0, none⟩), .pointer (some ⟨k3, 0, none⟩), .pointer (some ⟨k5, 0, none⟩)], .func (.func 46) #[] #[.pointer (some ⟨k6, 0, none⟩), .pointer (some ⟨k4, 0, none⟩)], .func (.func 47) #[] #[.pointer (some ⟨k1, 0, none⟩), .pointer (some ⟨k3, 0, none⟩), .pointer (some ⟨k5, 0, none⟩)], .func (.func 49) #[] #[.pointer (some ⟨k4, 0, none⟩), .pointer (some ⟨k3, 0, none⟩), .pointer (some ⟨k1, 0, none⟩)]]) (m : Int) (hm : 0 ≤ m ∧ m ≤ 100) :
    Calls Tryd.prog 25 #[.agg #[.func (.func 44) #[] #[.pointer (some ⟨k1, 0, none⟩), .pointer (some ⟨k3, 0, none⟩), .pointer (some ⟨k5, 0, none⟩)], .func (.func 46) #[] #[.pointer (some ⟨k6, 0, none⟩), .pointer (some ⟨k4, 0, none⟩)], .func (.func 47) #[] #[.pointer (some ⟨k1, 0, none⟩), .pointer (some ⟨k3, 0, none⟩), .pointer (some ⟨k5, 0, none⟩)], .func (.func 49) #[] #[.pointer (some ⟨k4, 0, none⟩), .pointer (some ⟨k3, 0, none⟩), .pointer (some ⟨k1, 0, none⟩)]], .int .i64 m, .func (.func 26) #[] #[.pointer (some ⟨rb, 0, none⟩)]] w (RLp k1 k3 k4 k5 k6 w bv l p bad OEnt 51 2 m (cLm m (cEn 16 64)).rd) := by
  have hlow := h.low
  have hb3 := h.r3.lt
  have hb4 := h.r4.lt
  have n3 := hrb.apart h.r3 (by decide)
  have n4 := hrb.apart h.r4 (by decide)
  obtain ⟨w0, hw0⟩ : ∃ w0, w0 = w.alloc (.cells #[.func (.func 44) #[] #[.pointer (some ⟨k1, 0, none⟩), .pointer (some ⟨k3, 0, none⟩), .pointer (some ⟨k5, 0, none⟩)], .func (.func 46) #[] #[.pointer (some ⟨k6, 0, none⟩), .pointer (some ⟨k4, 0, none⟩)], .func (.func 47) #[] #[.pointer (some ⟨k1, 0, none⟩), .pointer (some ⟨k3, 0, none⟩), .pointer (some ⟨k5, 0, none⟩)], .func (.func 49) #[] #[.pointer (some ⟨k4, 0, none⟩), .pointer (some ⟨k3, 0, none⟩), .pointer (some ⟨k1, 0, none⟩)]] 62) := ⟨_, rfl⟩
  have B0 : Below w.heap.size w w0 := by rw [hw0]; exact below_alloc _ _
  have hx : Row w0 w.heap.size 62 [.func (.func 44) #[] #[.pointer (some ⟨k1, 0, none⟩), .pointer (some ⟨k3, 0, none⟩), .pointer (some ⟨k5, 0, none⟩)], .func (.func 46) #[] #[.pointer (some ⟨k6, 0, none⟩), .pointer (some ⟨k4, 0, none⟩)], .func (.func 47) #[] #[.pointer (some ⟨k1, 0, none⟩), .pointer (some ⟨k3, 0, none⟩), .pointer (some ⟨k5, 0, none⟩)], .func (.func 49) #[] #[.pointer (some ⟨k4, 0, none⟩), .pointer (some ⟨k3, 0, none⟩), .pointer (some ⟨k1, 0, none⟩)]] := by rw [hw0]; exact Row.new w 62 _
  have hR := h.below B0
  have hrb0 := hrb.below B0
  have cf := hx.cell (j := 1) rfl
  have hC := rCnt_any hR m hm.1
  go_enter Tryd.func25, Tryd.ntmps25
  go_upto_region 1 with fail
  rw [← hw0]
  clear hw0
  go_wp2_with (go_at_call 46; refine hC.mono ?_; rintro e w1 ⟨n, p1, b1, rfl, hn, rg1, hR1, hc1⟩)
  obtain ⟨N, rfl⟩ := Int.eq_ofNat_of_zero_le hn.1
  have hC1 : Chg k3 k4 w w1 := (Chg.below B0).trans hc1
  have hrb1 := hc1.row hrb0 n3 n4
  have hNm : (N : Int) ≤ 100 := by omega
  have hNm2 : (N : Int) ≤ m := hn.2
  have HRB := (show Hid (rb < w.heap.size) from hrb.lt)
  have HRB := (show Hid (rb < w.heap.size) from hrb.lt)
  have HRB := (show Hid (rb < w.heap.size) from hrb.lt)
  clear cf hC hR hrb0 hx B0 h hrb hn hc1 hm
  go_loopw [7, 12] (fun v i wr => ∃ (q : Nat) (ys : List PEnt) (p' : Nat) (bad' : Bool), q ≤ N ∧ i = .int .i64 q ∧ LB OEnt 51 2 w.heap.size wr v ys ∧ ys.length = q ∧ Rdg (rdN (cEn 16 64) q) l p1 b1 ys p' bad' ∧ Rdr k1 k3 k4 k5 k6 wr bv l p' bad' ∧ Chg k3 k4 w wr ∧ Row wr rb 62 [.func (.func 44) #[] #[.pointer (some ⟨k1, 0, none⟩), .pointer (some ⟨k3, 0, none⟩), .pointer (some ⟨k5, 0, none⟩)], .func (.func 46) #[] #[.pointer (some ⟨k6, 0, none⟩), .pointer (some ⟨k4, 0, none⟩)], .func (.func 47) #[] #[.pointer (some ⟨k1, 0, none⟩), .pointer (some ⟨k3, 0, none⟩), .pointer (some ⟨k5, 0, none⟩)], .func (.func 49) #[] #[.pointer (some ⟨k4, 0, none⟩), .pointer (some ⟨k3, 0, none⟩), .pointer (some ⟨k1, 0, none⟩)]]) (fun _ i _ => N - (intOf i).toNat)
  case atStart => exact ⟨0, [], p1, b1, Nat.zero_le _, rfl, LB.nil _ _ _ _ _, rfl, Rdg.nil rg1.1, hR1, hC1, hrb1⟩
  case round =>
    clear hR1 hC1 hrb1
    obtain ⟨q, ys, p2, b2, hq, rfl, hLB, hys, rg2, hR2, hc2, hrb2⟩ := hrel
    by_cases hql : q < N
    · have hqi : (q : Int) < (N : Int) := by omega
      have hO := dEnt_any hR2 rb hrb2
      have hfr := hLB.fr
      have hlt := hLB.lt
      have hsz := hc2.size
      have hbd : (ys.length + 1) * 48 ≤ 140737488355328 := by omega
      have HYS := (show Hid (ys.length = q) from hys)
      clear hys
      go_wp2_with (first
        | (go_at_call 26; refine hO.mono ?_; rintro e w5 ⟨row, y, p3, b3, rfl, hr5, rg3, hR3, hc3⟩; obtain ⟨l5, o5⟩ := len10OEnt hr5; have hr5' := hr5; obtain ⟨s1, s2, rfl, o1, o2⟩ := hr5'; obtain ⟨z1, y1, rfl, _⟩ := o1.rt.form; obtain ⟨z2, y2, rfl, _⟩ := o2.rt.form; have hLB5 := hLB.chg mov_oent hc3 hb3 hb4)
        | (at_builtin; refine wl_push mov_oent rfl _ _ _ rfl 51 2 48 _ Tryd.underlying34 Tryd.inf10OEnt rfl (by decide) w.heap.size u7 ys rfl hLB5 [.slice z1 y.1.length y1, .slice z2 y.2.length y2] y wr.heap.size hr5 l5 o5 hsz hlt rfl (Nat.le_trans hsz hc3.size) hbd (by decide) ?_; intro v7 w7 hLB7 hg7))
      go_roundw
      case rel => exact ⟨q + 1, ys ++ [y], p3, b3, by omega, by go_num, hLB7, by rw [List.length_append, HYS.out]; rfl, rg2.snoc rg3, hR3.above hlow hg7 (fun g hg => hfr g hg), (hc2.trans hc3).grown hg7 (fun g hg => hfr g hg), (hc3.row hrb2 n3 n4).grown hg7 (fun e => by have := hfr _ e; have := hrb2.lt; have := HRB.out; omega)⟩
      case measure => simp [intOf]; omega
    · have hqd : decide ((q : Int) < N) = false := by simp; omega
      have hqN : q = N := by omega
      go_wp2_with fail
      go_ret
      exact ⟨_, ys, p2, b2, rfl, hLB, by omega, Rdg.list rg1 (by rw [Int.toNat_natCast, ← hqN]; exact rg2), hR2, hc2⟩

set_option maxRecDepth 10000 in
set_option maxHeartbeats 2000000 in
theorem dLea_any {k1 k3 k4 k5 k6 : Nat} {w : World} {bv : Value} {l : List Int} {p : Nat} {bad : Bool} (h : Rdr k1 k3 k4 k5 k6 w bv l p bad) (rb : Nat) (hrb : Row w rb 62 [.func (.func 44) #[] #[.pointer (some ⟨k1, 0, none⟩), .pointer (some ⟨k3, 0, none⟩), .pointer (some ⟨k5, 0, none⟩)], .func (.func 46) #[] #[.pointer (some ⟨k6, 0, none⟩), .pointer (some ⟨k4, 0, none⟩)], .func (.func 47) #[] #[.pointer (some ⟨k1, 0, none⟩), .pointer (some ⟨k3, 0, none⟩), .pointer (some ⟨k5, 0, none⟩)], .func (.func 49) #[] #[.pointer (some ⟨k4, 0, none⟩), .pointer (some ⟨k3, 0, none⟩), .pointer (some ⟨k1, 0, none⟩)]]) :
    Calls Tryd.prog 28 #[.pointer (some ⟨rb, 0, none⟩)] w (RRp k1 k3 k4 k5 k6 w bv l p bad OLea (cLe 16).rd) := by
  have hlow := h.low
  have hb3 := h.r3.lt
  have hb4 := h.r4.lt
  have n3 := hrb.apart h.r3 (by decide)
  have n4 := hrb.apart h.r4 (by decide)
  have hrl := hrb.lt
  obtain ⟨w0, hw0⟩ : ∃ w0, w0 = (w.alloc (.cells #[.slice none 0 0, .int .i64 0, .int .i64 0] 53)).alloc (.cells #[.slice none 0 0, .int .i64 0, .int .i64 0] 53) := ⟨_, rfl⟩
  have B0 : Below w.heap.size w w0 := by rw [hw0]; exact below_and (below_alloc _ _) (Nat.le_refl _) (below_alloc _ _)
  have hs : Row w0 w.heap.size 53 [.slice none 0 0, .int .i64 0, .int .i64 0] := by rw [hw0]; exact rowA (Row.new w 53 _) _
  have hv : Row w0 (w.heap.size + 1) 53 [.slice none 0 0, .int .i64 0, .int .i64 0] := by
    rw [hw0]
    have := Row.new (w.alloc (.cells #[.slice none 0 0, .int .i64 0, .int .i64 0] 53)) 53 [.slice none 0 0, .int .i64 0, .int .i64 0]
    simpa using this
  have hR := h.below B0
  have hrb0 := hrb.below B0
  go_enter Tryd.func28, Tryd.ntmps28
  go_upto_region 2 with fail
  rw [← hw0]
  clear hw0
  obtain ⟨vb, hvb⟩ : ∃ vb, vb = w.heap.size + 1 := ⟨_, rfl⟩
  obtain ⟨sb, hsb⟩ : ∃ sb, sb = w.heap.size := ⟨_, rfl⟩
  rw [← hvb] at hv ⊢
  have hs : Row w0 sb 53 [.slice none 0 0, .int .i64 0, .int .i64 0] := by rw [hsb]; exact hs
  rw [← hsb]
  have hcI : Chg k3 k4 w w0 := Chg.below B0
  have hvs : vb ≠ sb := by omega
  have hv3 : vb ≠ k3 := by omega
  have hv4 : vb ≠ k4 := by omega
  have hs3 : sb ≠ k3 := by omega
  have hs4 : sb ≠ k4 := by omega
  have hvr : rb ≠ vb := by omega
  have hvw : w.heap.size ≤ vb := by omega
  have HSB := (show Hid (w.heap.size ≤ sb) by show _ ≤ _; omega)
  have HSB := (show Hid (w.heap.size ≤ sb) by show _ ≤ _; omega)
  clear hvb hsb h hrb B0
  have cf := hrb0.cell (j := 2) rfl
  have hC := rText_any hR 16
  go_upto_region 3 with (first
    | (go_at_call 47; refine hC.mono ?_; rintro e w1 ⟨v0, t0, p0, b0, rfl, ot0, rg0, hR0, hc0⟩; obtain ⟨aa0, cc0, hvv0, _⟩ := ot0.rt.form; subst hvv0; have hvx := hc0.row hv hv3 hv4)
    | (refine wl_set rfl _ _ _ rfl vb 0 _ rfl rfl _ _ hvx (show 0 < 3 by decide) (by kernel_rfl) rfl ?_; intro w2 hr0 hg0))
  have hs0 := (hc0.row hs hs3 hs4).grown hg0 (fun e => hvs (by injection e))
  have hrb1 := (hc0.row hrb0 n3 n4).grown hg0 (fun e => hvr (by injection e with e; exact e.symm))
  have hR0' := hR0.above hlow hg0 (fun g hg => by cases hg; exact hvw)
  have hcc0 : Chg k3 k4 w w2 := (hcI.trans hc0).grown hg0 (fun g hg => by cases hg; exact hvw)
  have hv0' : Row w2 vb 53 [.slice aa0 t0.length cc0, .int .i64 0, .int .i64 0] := hr0.out
  have hsz0 : w.heap.size ≤ w0.heap.size := hcI.size
  have ot0' := (ot0.gr hvx (by decide) hg0).mv (Mv.weak hsz0)
  clear cf hC hR hv hs hrb0 hvx hR0 hr0
  have cf := hrb1.cell (j := 0) rfl
  have hC := rNum_any hR0'
  go_upto_region 4 with (first
    | (go_at_call 44; refine hC.mono ?_; rintro e w3 ⟨t1, p1, b1, rfl, hn1, rg1, hR1, hc1⟩; have hvx := hc1.row hv0' hv3 hv4)
    | (refine wl_set rfl _ _ _ rfl vb 1 _ rfl rfl _ _ hvx (show 1 < 3 by decide) (by kernel_rfl) rfl ?_; intro w4 hr1 hg1))
  have hs1 := (hc1.row hs0 hs3 hs4).grown hg1 (fun e => hvs (by injection e))
  have hrb2 := (hc1.row hrb1 n3 n4).grown hg1 (fun e => hvr (by injection e with e; exact e.symm))
  have hR1' := hR1.above hlow hg1 (fun g hg => by cases hg; exact hvw)
  have hcc1 : Chg k3 k4 w w4 := (hcc0.trans hc1).grown hg1 (fun g hg => by cases hg; exact hvw)
  have hv1' : Row w4 vb 53 [.slice aa0 t0.length cc0, .int .i64 t1, .int .i64 0] := hr1.out
  have ot0_1 := (ot0'.mv (hc1.mv hb3 hb4)).gr hvx (by decide) hg1
  clear cf hC hR0' hv0' hs0 hrb1 hvx hR1 hr1
  have cf := hrb2.cell (j := 0) rfl
  have hC := rNum_any hR1'
  go_upto_region 5 with (first
    | (go_at_call 44; refine hC.mono ?_; rintro e w5 ⟨t2, p2, b2, rfl, hn2, rg2, hR2, hc2⟩; have hvx := hc2.row hv1' hv3 hv4)
    | (refine wl_set rfl _ _ _ rfl vb 2 _ rfl rfl _ _ hvx (show 2 < 3 by decide) (by kernel_rfl) rfl ?_; intro w6 hr2 hg2))
  have hs2 := (hc2.row hs1 hs3 hs4).grown hg2 (fun e => hvs (by injection e))
  have hrb3 := (hc2.row hrb2 n3 n4).grown hg2 (fun e => hvr (by injection e with e; exact e.symm))
  have hR2' := hR2.above hlow hg2 (fun g hg => by cases hg; exact hvw)
  have hcc2 : Chg k3 k4 w w6 := (hcc1.trans hc2).grown hg2 (fun g hg => by cases hg; exact hvw)
  have hv2' : Row w6 vb 53 [.slice aa0 t0.length cc0, .int .i64 t1, .int .i64 t2] := hr2.out
  have ot0_2 := (ot0_1.mv (hc2.mv hb3 hb4)).gr hvx (by decide) hg2
  clear cf hC hR1' hv1' hs1 hrb2 hvx hR2 hr2
  have hone : ∀ x ∈ ([.slice aa0 t0.length cc0, .int .i64 t1, .int .i64 t2] : List Value), x.oneCell' = true := by
    intro x hx
    simp only [List.mem_cons, List.not_mem_nil, or_false] at hx
    rcases hx with rfl | rfl | rfl <;> rfl
  go_wp2_with (first
    | (refine wl_load rfl _ _ rfl vb rfl _ _ hv2' _ Tryd.underlying53 rfl (by kernel_rfl) ?_)
    | (refine wl_store rfl _ _ _ rfl sb [.slice aa0 t0.length cc0, .int .i64 t1, .int .i64 t2] rfl rfl _ _ hs2 rfl (by kernel_rfl) hone ?_; intro wz hrz hgz))
  have hswz : w.heap.size ≤ sb := HSB.out
  refine bodyPost_ret (v := .agg ([.slice aa0 t0.length cc0, .int .i64 t1, .int .i64 t2] : List Value).toArray) (results_cell_row rfl _ _ sb _ _ (0, 0) _ (by rfl) hrz.out Tryd.underlying53 rfl (by kernel_rfl)) rfl ?_
  exact ⟨_, fLe (t0, t1, t2), _, _, rfl, ⟨_, _, _, rfl, ot0_2.gr hs2 (by decide) hgz, rfl⟩, (rg0.pair (rg1.pair rg2)).view fLe gLe, hR2'.above hlow hgz (fun g hg => by cases hg; exact hswz), hcc2.grown hgz (fun g hg => by cases hg; exact hswz)⟩

theorem Tryd.inf10OLea : (Tryd.prog.info? 53).map (fun i => (i.zero, i.size, i.bytes)) = some (some (.agg #[.slice none 0 0, .int .i64 0, .int .i64 0]), 3, 40) := by kernel_rfl
theorem len10OLea {G : Nat → Prop} {w : World} {r : List Value} {x : PEnt} (h : OLea G w r x) : r.length = 3 ∧ ∀ u ∈ r, u.oneCell' = true := by
  obtain ⟨a, p, q, rfl, o1, o2⟩ := h
  refine ⟨rfl, fun x hx => ?_⟩
  simp only [List.mem_cons, List.not_mem_nil, or_false] at hx
  rcases hx with rfl | rfl | rfl
  · exact o1.rt.one
  · rfl
  · rfl
set_option maxRecDepth 10000 in
set_option maxHeartbeats 2000000 in
theorem lLea_any {k1 k3 k4 k5 k6 : Nat} {w : World} {bv : Value} {l : List Int} {p : Nat} {bad : Bool} (h : Rdr k1 k3 k4 k5 k6 w bv l p bad) (rb : Nat) (hrb : Row w rb 62 [.func (.func 44) #[] #[.pointer (some ⟨k1, 0, none⟩), .pointer (some ⟨k3, 0, none⟩), .pointer (some ⟨k5, 0, none⟩)], .func (.func 46) #[] #[.pointer (some ⟨k6, 0, none⟩), .pointer (some ⟨k4, 0, none⟩)], .func (.func 47) #[] #[.pointer (some ⟨k1, 0, none⟩), .pointer (some ⟨k3, 0, none⟩), .pointer (some ⟨k5, 0, none⟩)], .func (.func 49) #[] #[.pointer (some ⟨k4, 0, none⟩), .pointer (some ⟨k3, 0, none⟩), .pointer (some ⟨k1, 0, none⟩)]]) (m : Int) (hm : 0 ≤ m ∧ m ≤ 100) :
    Calls Tryd.prog 27 #[.agg #[.func (.func 44) #[] #[.pointer (some ⟨k1, 0, none⟩), .pointer (some ⟨k3, 0, none⟩), .pointer (some ⟨k5, 0, none⟩)], .func (.func 46) #[] #[.pointer (some ⟨k6, 0, none⟩), .pointer (some ⟨k4, 0, none⟩)], .func (.func 47) #[] #[.pointer (some ⟨k1, 0, none⟩), .pointer (some ⟨k3, 0, none⟩), .pointer (some ⟨k5, 0, none⟩)], .func (.func 49) #[] #[.pointer (some ⟨k4, 0, none⟩), .pointer (some ⟨k3, 0, none⟩), .pointer (some ⟨k1, 0, none⟩)]], .int .i64 m, .func (.func 28) #[] #[.pointer (some ⟨rb, 0, none⟩)]] w (RLp k1 k3 k4 k5 k6 w bv l p bad OLea 53 3 m (cLm m (cLe 16)).rd) := by
  have hlow := h.low
  have hb3 := h.r3.lt
  have hb4 := h.r4.lt
  have n3 := hrb.apart h.r3 (by decide)
  have n4 := hrb.apart h.r4 (by decide)
  obtain ⟨w0, hw0⟩ : ∃ w0, w0 = w.alloc (.cells #[.func (.func 44) #[] #[.pointer (some ⟨k1, 0, none⟩), .pointer (some ⟨k3, 0, none⟩), .pointer (some ⟨k5, 0, none⟩)], .func (.func 46) #[] #[.pointer (some ⟨k6, 0, none⟩), .pointer (some ⟨k4, 0, none⟩)], .func (.func 47) #[] #[.pointer (some ⟨k1, 0, none⟩), .pointer (some ⟨k3, 0, none⟩), .pointer (some ⟨k5, 0, none⟩)], .func (.func 49) #[] #[.pointer (some ⟨k4, 0, none⟩), .pointer (some ⟨k3, 0, none⟩), .pointer (some ⟨k1, 0, none⟩)]] 62) := ⟨_, rfl⟩
  have B0 : Below w.heap.size w w0 := by rw [hw0]; exact below_alloc _ _
  have hx : Row w0 w.heap.size 62 [.func (.func 44) #[] #[.pointer (some ⟨k1, 0, none⟩), .pointer (some ⟨k3, 0, none⟩), .pointer (some ⟨k5, 0, none⟩)], .func (.func 46) #[] #[.pointer (some ⟨k6, 0, none⟩), .pointer (some ⟨k4, 0, none⟩)], .func (.func 47) #[] #[.pointer (some ⟨k1, 0, none⟩), .pointer (some ⟨k3, 0, none⟩), .pointer (some ⟨k5, 0, none⟩)], .func (.func 49) #[] #[.pointer (some ⟨k4, 0, none⟩), .pointer (some ⟨k3, 0, none⟩), .pointer (some ⟨k1, 0, none⟩)]] := by rw [hw0]; exact Row.new w 62 _
  have hR := h.below B0
  have hrb0 := hrb.below B0
  have cf := hx.cell (j := 1) rfl
  have hC := rCnt_any hR m hm.1
  go_enter Tryd.func27, Tryd.ntmps27
  go_upto_region 1 with fail
  rw [← hw0]
  clear hw0
  go_wp2_with (go_at_call 46; refine hC.mono ?_; rintro e w1 ⟨n, p1, b1, rfl, hn, rg1, hR1, hc1⟩)
  obtain ⟨N, rfl⟩ := Int.eq_ofNat_of_zero_le hn.1
  have hC1 : Chg k3 k4 w w1 := (Chg.below B0).trans hc1
  have hrb1 := hc1.row hrb0 n3 n4
  have hNm : (N : Int) ≤ 100 := by omega
  have hNm2 : (N : Int) ≤ m := hn.2
  have HRB := (show Hid (rb < w.heap.size) from hrb.lt)
  have HRB := (show Hid (rb < w.heap.size) from hrb.lt)
  clear cf hC hR hrb0 hx B0 h hrb hn hc1 hm
  go_loopw [7, 12] (fun v i wr => ∃ (q : Nat) (ys : List PEnt) (p' : Nat) (bad' : Bool), q ≤ N ∧ i = .int .i64 q ∧ LB OLea 53 3 w.heap.size wr v ys ∧ ys.length = q ∧ Rdg (rdN (cLe 16) q) l p1 b1 ys p' bad' ∧ Rdr k1 k3 k4 k5 k6 wr bv l p' bad' ∧ Chg k3 k4 w wr ∧ Row wr rb 62 [.func (.func 44) #[] #[.pointer (some ⟨k1, 0, none⟩), .pointer (some ⟨k3, 0, none⟩), .pointer (some ⟨k5, 0, none⟩)], .func (.func 46) #[] #[.pointer (some ⟨k6, 0, none⟩), .pointer (some ⟨k4, 0, none⟩)], .func (.func 47) #[] #[.pointer (some ⟨k1, 0, none⟩), .pointer (some ⟨k3, 0, none⟩), .pointer (some ⟨k5, 0, none⟩)], .func (.func 49) #[] #[.pointer (some ⟨k4, 0, none⟩), .pointer (some ⟨k3, 0, none⟩), .pointer (some ⟨k1, 0, none⟩)]]) (fun _ i _ => N - (intOf i).toNat)
  case atStart => exact ⟨0, [], p1, b1, Nat.zero_le _, rfl, LB.nil _ _ _ _ _, rfl, Rdg.nil rg1.1, hR1, hC1, hrb1⟩
  case round =>
    clear hR1 hC1 hrb1
    obtain ⟨q, ys, p2, b2, hq, rfl, hLB, hys, rg2, hR2, hc2, hrb2⟩ := hrel
    by_cases hql : q < N
    · have hqi : (q : Int) < (N : Int) := by omega
      have hO := dLea_any hR2 rb hrb2
      have hfr := hLB.fr
      have hlt := hLB.lt
      have hsz := hc2.size
      have hbd : (ys.length + 1) * 40 ≤ 140737488355328 := by omega
      have HYS := (show Hid (ys.length = q) from hys)
      clear hys
      go_wp2_with (first
        | (go_at_call 28; refine hO.mono ?_; rintro e w5 ⟨row, y, p3, b3, rfl, hr5, rg3, hR3, hc3⟩; obtain ⟨l5, o5⟩ := len10OLea hr5; have hr5' := hr5; obtain ⟨s1, i1, i2, rfl, o1, o2⟩ := hr5'; obtain ⟨z1, y1, rfl, _⟩ := o1.rt.form; have hLB5 := hLB.chg mov_olea hc3 hb3 hb4)
        | (at_builtin; refine wl_push mov_olea rfl _ _ _ rfl 53 3 40 _ Tryd.underlying35 Tryd.inf10OLea rfl (by decide) w.heap.size u7 ys rfl hLB5 [.slice z1 y.1.length y1, .int .i64 i1, .int .i64 i2] y wr.heap.size hr5 l5 o5 hsz hlt rfl (Nat.le_trans hsz hc3.size) hbd (by decide) ?_; intro v7 w7 hLB7 hg7))
      go_roundw
      case rel => exact ⟨q + 1, ys ++ [y], p3, b3, by omega, by go_num, hLB7, by rw [List.length_append, HYS.out]; rfl, rg2.snoc rg3, hR3.above hlow hg7 (fun g hg => hfr g hg), (hc2.trans hc3).grown hg7 (fun g hg => hfr g hg), (hc3.row hrb2 n3 n4).grown hg7 (fun e => by have := hfr _ e; have := hrb2.lt; have := HRB.out; omega)⟩
      case measure => simp [intOf]; omega
    · have hqd : decide ((q : Int) < N) = false := by simp; omega
      have hqN : q = N := by omega
      go_wp2_with fail
      go_ret
      exact ⟨_, ys, p2, b2, rfl, hLB, by omega, Rdg.list rg1 (by rw [Int.toNat_natCast, ← hqN]; exact rg2), hR2, hc2⟩

set_option maxRecDepth 10000 in
set_option maxHeartbeats 2000000 in
theorem dSes_any {k1 k3 k4 k5 k6 : Nat} {w : World} {bv : Value} {l : List Int} {p : Nat} {bad : Bool} (h : Rdr k1 k3 k4 k5 k6 w bv l p bad) (rb : Nat) (hrb : Row w rb 62 [.func (.func 44) #[] #[.pointer (some ⟨k1, 0, none⟩), .pointer (some ⟨k3, 0, none⟩), .pointer (some ⟨k5, 0, none⟩)], .func (.func 46) #[] #[.pointer (some ⟨k6, 0, none⟩), .pointer (some ⟨k4, 0, none⟩)], .func (.func 47) #[] #[.pointer (some ⟨k1, 0, none⟩), .pointer (some ⟨k3, 0, none⟩), .pointer (some ⟨k5, 0, none⟩)], .func (.func 49) #[] #[.pointer (some ⟨k4, 0, none⟩), .pointer (some ⟨k3, 0, none⟩), .pointer (some ⟨k1, 0, none⟩)]]) :
    Calls Tryd.prog 30 #[.pointer (some ⟨rb, 0, none⟩)] w (RRp k1 k3 k4 k5 k6 w bv l p bad OSes (cSe 64).rd) := by
  have hlow := h.low
  have hb3 := h.r3.lt
  have hb4 := h.r4.lt
  have n3 := hrb.apart h.r3 (by decide)
  have n4 := hrb.apart h.r4 (by decide)
  have hrl := hrb.lt
  obtain ⟨w0, hw0⟩ : ∃ w0, w0 = (w.alloc (.cells #[.int .i64 0, .int .i64 0, .int .i64 0, .slice none 0 0] 57)).alloc (.cells #[.int .i64 0, .int .i64 0, .int .i64 0, .slice none 0 0] 57) := ⟨_, rfl⟩
  have B0 : Below w.heap.size w w0 := by rw [hw0]; exact below_and (below_alloc _ _) (Nat.le_refl _) (below_alloc _ _)
  have hs : Row w0 w.heap.size 57 [.int .i64 0, .int .i64 0, .int .i64 0, .slice none 0 0] := by rw [hw0]; exact rowA (Row.new w 57 _) _
  have hv : Row w0 (w.heap.size + 1) 57 [.int .i64 0, .int .i64 0, .int .i64 0, .slice none 0 0] := by
    rw [hw0]
    have := Row.new (w.alloc (.cells #[.int .i64 0, .int .i64 0, .int .i64 0, .slice none 0 0] 57)) 57 [.int .i64 0, .int .i64 0, .int .i64 0, .slice none 0 0]
    simpa using this
  have hR := h.below B0
  have hrb0 := hrb.below B0
  go_enter Tryd.func30, Tryd.ntmps30
  go_upto_region 2 with fail
  rw [← hw0]
  clear hw0
  obtain ⟨vb, hvb⟩ : ∃ vb, vb = w.heap.size + 1 := ⟨_, rfl⟩
  obtain ⟨sb, hsb⟩ : ∃ sb, sb = w.heap.size := ⟨_, rfl⟩
  rw [← hvb] at hv ⊢
  have hs : Row w0 sb 57 [.int .i64 0, .int .i64 0, .int .i64 0, .slice none 0 0] := by rw [hsb]; exact hs
  rw [← hsb]
  have hcI : Chg k3 k4 w w0 := Chg.below B0
  have hvs : vb ≠ sb := by omega
  have hv3 : vb ≠ k3 := by omega
  have hv4 : vb ≠ k4 := by omega
  have hs3 : sb ≠ k3 := by omega
  have hs4 : sb ≠ k4 := by omega
  have hvr : rb ≠ vb := by omega
  have hvw : w.heap.size ≤ vb := by omega
  have HSB := (show Hid (w.heap.size ≤ sb) by show _ ≤ _; omega)
  clear hvb hsb h hrb B0
  have cf := hrb0.cell (j := 0) rfl
  have hC := rNum_any hR
  go_upto_region 3 with (first
    | (go_at_call 44; refine hC.mono ?_; rintro e w1 ⟨t0, p0, b0, rfl, hn0, rg0, hR0, hc0⟩; have hvx := hc0.row hv hv3 hv4)
    | (refine wl_set rfl _ _ _ rfl vb 0 _ rfl rfl _ _ hvx (show 0 < 4 by decide) (by kernel_rfl) rfl ?_; intro w2 hr0 hg0))
  have hs0 := (hc0.row hs hs3 hs4).grown hg0 (fun e => hvs (by injection e))
  have hrb1 := (hc0.row hrb0 n3 n4).grown hg0 (fun e => hvr (by injection e with e; exact e.symm))
  have hR0' := hR0.above hlow hg0 (fun g hg => by cases hg; exact hvw)
  have hcc0 : Chg k3 k4 w w2 := (hcI.trans hc0).grown hg0 (fun g hg => by cases hg; exact hvw)
  have hv0' : Row w2 vb 57 [.int .i64 t0, .int .i64 0, .int .i64 0, .slice none 0 0] := hr0.out
  clear cf hC hR hv hs hrb0 hvx hR0 hr0
  have cf := hrb1.cell (j := 0) rfl
  have hC := rNum_any hR0'
  go_upto_region 4 with (first
    | (go_at_call 44; refine hC.mono ?_; rintro e w3 ⟨t1, p1, b1, rfl, hn1, rg1, hR1, hc1⟩; have hvx := hc1.row hv0' hv3 hv4)
    | (refine wl_set rfl _ _ _ rfl vb 1 _ rfl rfl _ _ hvx (show 1 < 4 by decide) (by kernel_rfl) rfl ?_; intro w4 hr1 hg1))
  have hs1 := (hc1.row hs0 hs3 hs4).grown hg1 (fun e => hvs (by injection e))
  have hrb2 := (hc1.row hrb1 n3 n4).grown hg1 (fun e => hvr (by injection e with e; exact e.symm))
  have hR1' := hR1.above hlow hg1 (fun g hg => by cases hg; exact hvw)
  have hcc1 : Chg k3 k4 w w4 := (hcc0.trans hc1).grown hg1 (fun g hg => by cases hg; exact hvw)
  have hv1' : Row w4 vb 57 [.int .i64 t0, .int .i64 t1, .int .i64 0, .slice none 0 0] := hr1.out
  clear cf hC hR0' hv0' hs0 hrb1 hvx hR1 hr1
  have cf := hrb2.cell (j := 0) rfl
  have hC := rNum_any hR1'
  go_upto_region 5 with (first
    | (go_at_call 44; refine hC.mono ?_; rintro e w5 ⟨t2, p2, b2, rfl, hn2, rg2, hR2, hc2⟩; have hvx := hc2.row hv1' hv3 hv4)
    | (refine wl_set rfl _ _ _ rfl vb 2 _ rfl rfl _ _ hvx (show 2 < 4 by decide) (by kernel_rfl) rfl ?_; intro w6 hr2 hg2))
  have hs2 := (hc2.row hs1 hs3 hs4).grown hg2 (fun e => hvs (by injection e))
  have hrb3 := (hc2.row hrb2 n3 n4).grown hg2 (fun e => hvr (by injection e with e; exact e.symm))
  have hR2' := hR2.above hlow hg2 (fun g hg => by cases hg; exact hvw)
  have hcc2 : Chg k3 k4 w w6 := (hcc1.trans hc2).grown hg2 (fun g hg => by cases hg; exact hvw)
  have hv2' : Row w6 vb 57 [.int .i64 t0, .int .i64 t1, .int .i64 t2, .slice none 0 0] := hr2.out
  clear cf hC hR1' hv1' hs1 hrb2 hvx hR2 hr2
  have cf := hrb3.cell (j := 2) rfl
  have hC := rText_any hR2' 64
  go_upto_region 6 with (first
    | (go_at_call 47; refine hC.mono ?_; rintro e w7 ⟨v3, t3, p3, b3, rfl, ot3, rg3, hR3, hc3⟩; obtain ⟨aa3, cc3, hvv3, _⟩ := ot3.rt.form; subst hvv3; have hvx := hc3.row hv2' hv3 hv4)
    | (refine wl_set rfl _ _ _ rfl vb 3 _ rfl rfl _ _ hvx (show 3 < 4 by decide) (by kernel_rfl) rfl ?_; intro w8 hr3 hg3))
  have hs3 := (hc3.row hs2 hs3 hs4).grown hg3 (fun e => hvs (by injection e))
  have hrb4 := (hc3.row hrb3 n3 n4).grown hg3 (fun e => hvr (by injection e with e; exact e.symm))
  have hR3' := hR3.above hlow hg3 (fun g hg => by cases hg; exact hvw)
  have hcc3 : Chg k3 k4 w w8 := (hcc2.trans hc3).grown hg3 (fun g hg => by cases hg; exact hvw)
  have hv3' : Row w8 vb 57 [.int .i64 t0, .int .i64 t1, .int .i64 t2, .slice aa3 t3.length cc3] := hr3.out
  have hsz3 : w.heap.size ≤ w6.heap.size := hcc2.size
  have ot3' := (ot3.gr hvx (by decide) hg3).mv (Mv.weak hsz3)
  clear cf hC hR2' hv2' hs2 hrb3 hvx hR3 hr3
  have hone : ∀ x ∈ ([.int .i64 t0, .int .i64 t1, .int .i64 t2, .slice aa3 t3.length cc3] : List Value), x.oneCell' = true := by
    intro x hx
    simp only [List.mem_cons, List.not_mem_nil, or_false] at hx
    rcases hx with rfl | rfl | rfl | rfl <;> rfl
  go_wp2_with (first
    | (refine wl_load rfl _ _ rfl vb rfl _ _ hv3' _ Tryd.underlying57 rfl (by kernel_rfl) ?_)
    | (refine wl_store rfl _ _ _ rfl sb [.int .i64 t0, .int .i64 t1, .int .i64 t2, .slice aa3 t3.length cc3] rfl rfl _ _ hs3 rfl (by kernel_rfl) hone ?_; intro wz hrz hgz))
  have hswz : w.heap.size ≤ sb := HSB.out
  refine bodyPost_ret (v := .agg ([.int .i64 t0, .int .i64 t1, .int .i64 t2, .slice aa3 t3.length cc3] : List Value).toArray) (results_cell_row rfl _ _ sb _ _ (0, 0) _ (by rfl) hrz.out Tryd.underlying57 rfl (by kernel_rfl)) rfl ?_
  exact ⟨_, fSe (t0, t1, t2, t3), _, _, rfl, ⟨_, _, _, _, _, rfl, ot3'.gr hs3 (by decide) hgz, rfl⟩, (rg0.pair (rg1.pair (rg2.pair rg3))).view fSe gSe, hR3'.above hlow hgz (fun g hg => by cases hg; exact hswz), hcc3.grown hgz (fun g hg => by cases hg; exact hswz)⟩

theorem Tryd.inf10OSes : (Tryd.prog.info? 57).map (fun i => (i.zero, i.size, i.bytes)) = some (some (.agg #[.int .i64 0, .int .i64 0, .int .i64 0, .slice none 0 0]), 4, 48) := by kernel_rfl
theorem len10OSes {G : Nat → Prop} {w : World} {r : List Value} {x : PEnt} (h : OSes G w r x) : r.length = 4 ∧ ∀ u ∈ r, u.oneCell' = true := by
  obtain ⟨c, d, k, a, t, rfl, o1, o2⟩ := h
  refine ⟨rfl, fun x hx => ?_⟩
  simp only [List.mem_cons, List.not_mem_nil, or_false] at hx
  rcases hx with rfl | rfl | rfl | rfl
  · rfl
  · rfl
  · rfl
  · exact o1.rt.one
set_option maxRecDepth 10000 in
set_option maxHeartbeats 2000000 in
theorem lSes_any {k1 k3 k4 k5 k6 : Nat} {w : World} {bv : Value} {l : List Int} {p : Nat} {bad : Bool} (h : Rdr k1 k3 k4 k5 k6 w bv l p bad) (rb : Nat) (hrb : Row w rb 62 [.func (.func 44) #[] #[.pointer (some ⟨k1, 0, none⟩), .pointer (some ⟨k3, 0, none⟩), .pointer (some ⟨k5, 0, none⟩)], .func (.func 46) #[] #[.pointer (some ⟨k6, 0, none⟩), .pointer (some ⟨k4, 0, none⟩)], .func (.func 47) #[] #[.pointer (some ⟨k1, 0, none⟩), .pointer (some ⟨k3, 0, none⟩), .pointer (some ⟨k5, 0, none⟩)], .func (.func 49) #[] #[.pointer (some ⟨k4, 0, none⟩), .pointer (some ⟨k3, 0, none⟩), .pointer (some ⟨k1, 0, none⟩)]]) (m : Int) (hm : 0 ≤ m ∧ m ≤ 100) :
    Calls Tryd.prog 29 #[.agg #[.func (.func 44) #[] #[.pointer (some ⟨k1, 0, none⟩), .pointer (some ⟨k3, 0, none⟩), .pointer (some ⟨k5, 0, none⟩)], .func (.func 46) #[] #[.pointer (some ⟨k6, 0, none⟩), .pointer (some ⟨k4, 0, none⟩)], .func (.func 47) #[] #[.pointer (some ⟨k1, 0, none⟩), .pointer (some ⟨k3, 0, none⟩), .pointer (some ⟨k5, 0, none⟩)], .func (.func 49) #[] #[.pointer (some ⟨k4, 0, none⟩), .pointer (some ⟨k3, 0, none⟩), .pointer (some ⟨k1, 0, none⟩)]], .int .i64 m, .func (.func 30) #[] #[.pointer (some ⟨rb, 0, none⟩)]] w (RLp k1 k3 k4 k5 k6 w bv l p bad OSes 57 4 m (cLm m (cSe 64)).rd) := by
  have hlow := h.low
  have hb3 := h.r3.lt
  have hb4 := h.r4.lt
  have n3 := hrb.apart h.r3 (by decide)
  have n4 := hrb.apart h.r4 (by decide)
  obtain ⟨w0, hw0⟩ : ∃ w0, w0 = w.alloc (.cells #[.func (.func 44) #[] #[.pointer (some ⟨k1, 0, none⟩), .pointer (some ⟨k3, 0, none⟩), .pointer (some ⟨k5, 0, none⟩)], .func (.func 46) #[] #[.pointer (some ⟨k6, 0, none⟩), .pointer (some ⟨k4, 0, none⟩)], .func (.func 47) #[] #[.pointer (some ⟨k1, 0, none⟩), .pointer (some ⟨k3, 0, none⟩), .pointer (some ⟨k5, 0, none⟩)], .func (.func 49) #[] #[.pointer (some ⟨k4, 0, none⟩), .pointer (some ⟨k3, 0, none⟩), .pointer (some ⟨k1, 0, none⟩)]] 62) := ⟨_, rfl⟩
  have B0 : Below w.heap.size w w0 := by rw [hw0]; exact below_alloc _ _
  have hx : Row w0 w.heap.size 62 [.func (.func 44) #[] #[.pointer (some ⟨k1, 0, none⟩), .pointer (some ⟨k3, 0, none⟩), .pointer (some ⟨k5, 0, none⟩)], .func (.func 46) #[] #[.pointer (some ⟨k6, 0, none⟩), .pointer (some ⟨k4, 0, none⟩)], .func (.func 47) #[] #[.pointer (some ⟨k1, 0, none⟩), .pointer (some ⟨k3, 0, none⟩), .pointer (some ⟨k5, 0, none⟩)], .func (.func 49) #[] #[.pointer (some ⟨k4, 0, none⟩), .pointer (some ⟨k3, 0, none⟩), .pointer (some ⟨k1, 0, none⟩)]] := by rw [hw0]; exact Row.new w 62 _
  have hR := h.below B0
  have hrb0 := hrb.below B0
  have cf := hx.cell (j := 1) rfl
  have hC := rCnt_any hR m hm.1
  go_enter Tryd.func29, Tryd.ntmps29
  go_upto_region 1 with fail
  rw [← hw0]
  clear hw0
  go_wp2_with (go_at_call 46; refine hC.mono ?_; rintro e w1 ⟨n, p1, b1, rfl, hn, rg1, hR1, hc1⟩)
  obtain ⟨N, rfl⟩ := Int.eq_ofNat_of_zero_le hn.1
  have hC1 : Chg k3 k4 w w1 := (Chg.below B0).trans hc1
  have hrb1 := hc1.row hrb0 n3 n4
  have hNm : (N : Int) ≤ 100 := by omega
  have hNm2 : (N : Int) ≤ m := hn.2
  have HRB := (show Hid (rb < w.heap.size) from hrb.lt)
  clear cf hC hR hrb0 hx B0 h hrb hn hc1 hm
  go_loopw [7, 12] (fun v i wr => ∃ (q : Nat) (ys : List PEnt) (p' : Nat) (bad' : Bool), q ≤ N ∧ i = .int .i64 q ∧ LB OSes 57 4 w.heap.size wr v ys ∧ ys.length = q ∧ Rdg (rdN (cSe 64) q) l p1 b1 ys p' bad' ∧ Rdr k1 k3 k4 k5 k6 wr bv l p' bad' ∧ Chg k3 k4 w wr ∧ Row wr rb 62 [.func (.func 44) #[] #[.pointer (some ⟨k1, 0, none⟩), .pointer (some ⟨k3, 0, none⟩), .pointer (some ⟨k5, 0, none⟩)], .func (.func 46) #[] #[.pointer (some ⟨k6, 0, none⟩), .pointer (some ⟨k4, 0, none⟩)], .func (.func 47) #[] #[.pointer (some ⟨k1, 0, none⟩), .pointer (some ⟨k3, 0, none⟩), .pointer (some ⟨k5, 0, none⟩)], .func (.func 49) #[] #[.pointer (some ⟨k4, 0, none⟩), .pointer (some ⟨k3, 0, none⟩), .pointer (some ⟨k1, 0, none⟩)]]) (fun _ i _ => N - (intOf i).toNat)
  case atStart => exact ⟨0, [], p1, b1, Nat.zero_le _, rfl, LB.nil _ _ _ _ _, rfl, Rdg.nil rg1.1, hR1, hC1, hrb1⟩
  case round =>
    clear hR1 hC1 hrb1
    obtain ⟨q, ys, p2, b2, hq, rfl, hLB, hys, rg2, hR2, hc2, hrb2⟩ := hrel
    by_cases hql : q < N
    · have hqi : (q : Int) < (N : Int) := by omega
      have hO := dSes_any hR2 rb hrb2
      have hfr := hLB.fr
      have hlt := hLB.lt
      have hsz := hc2.size
      have hbd : (ys.length + 1) * 48 ≤ 140737488355328 := by omega
      have HYS := (show Hid (ys.length = q) from hys)
      clear hys
      go_wp2_with (first
        | (go_at_call 30; refine hO.mono ?_; rintro e w5 ⟨row, y, p3, b3, rfl, hr5, rg3, hR3, hc3⟩; obtain ⟨l5, o5⟩ := len10OSes hr5; have hr5' := hr5; obtain ⟨i1, i2, i3, s1, tt, rfl, o1, rfl⟩ := hr5'; obtain ⟨z1, y1, rfl, _⟩ := o1.rt.form; have hLB5 := hLB.chg mov_oses hc3 hb3 hb4)
        | (at_builtin; refine wl_push mov_oses rfl _ _ _ rfl 57 4 48 _ Tryd.underlying36 Tryd.inf10OSes rfl (by decide) w.heap.size u7 ys rfl hLB5 [.int .i64 i1, .int .i64 i2, .int .i64 i3, .slice z1 tt.length y1] ([i1], i2 :: i3 :: tt) wr.heap.size hr5 l5 o5 hsz hlt rfl (Nat.le_trans hsz hc3.size) hbd (by decide) ?_; intro v7 w7 hLB7 hg7))
      go_roundw
      case rel => exact ⟨q + 1, ys ++ [([i1], i2 :: i3 :: tt)], p3, b3, by omega, by go_num, hLB7, by rw [List.length_append, HYS.out]; rfl, rg2.snoc rg3, hR3.above hlow hg7 (fun g hg => hfr g hg), (hc2.trans hc3).grown hg7 (fun g hg => hfr g hg), (hc3.row hrb2 n3 n4).grown hg7 (fun e => by have := hfr _ e; have := hrb2.lt; have := HRB.out; omega)⟩
      case measure => simp [intOf]; omega
    · have hqd : decide ((q : Int) < N) = false := by simp; omega
      have hqN : q = N := by omega
      go_wp2_with fail
      go_ret
      exact ⟨_, ys, p2, b2, rfl, hLB, by omega, Rdg.list rg1 (by rw [Int.toNat_natCast, ← hqN]; exact rg2), hR2, hc2⟩
end Go.Proofs.YtejkkhlblnepeaaDoor
end

section
set_option linter.unusedVariables false
set_option linter.unusedSimpArgs false
namespace Go.Proofs.YtejkkhlblnepeaaDoor
open Go.RowKit Oct Kvl

theorem results_ctU {P : Program} {fn : Func} {p t : Tmp} {ty : TypeId} (h : fn.results = #[.cell p ty, .tmp t]) (tmps : Array Value) (w : World) (g : Nat) (tt : TypeId) (cs : Array Value) (fr : Nat × Nat) (d : TypeDesc)
    (hp : tmps.getD p undef = .pointer (some ⟨g, 0, none⟩)) (hg : w.heap[g]? = some (.cells cs tt fr))
    (hu : P.underlying ty = some d) (hd : (match d with | .struct _ | .array _ _ => true | _ => false) = true) (hi : (P.info? ty).map (·.size) = some cs.size) :
    (results fn tmps).run P w = .ok (.tuple #[.agg cs, tmps.getD t undef]) w := by
  have hp' : tmps[p]?.getD undef = .pointer (some ⟨g, 0, none⟩) := by simpa using hp
  simp [results, h, hp', asAddr, run_loadVar_row w g tt ty cs fr d hg hu hd hi]
def RdP (w : World) (bv : Value) (l : List Int) (e : Ending) (w' : World) : Prop :=
  ∃ k1 k3 k4 k5 k6, e = .returned (.agg #[.func (.func 44) #[] #[.pointer (some ⟨k1, 0, none⟩), .pointer (some ⟨k3, 0, none⟩), .pointer (some ⟨k5, 0, none⟩)], .func (.func 46) #[] #[.pointer (some ⟨k6, 0, none⟩), .pointer (some ⟨k4, 0, none⟩)], .func (.func 47) #[] #[.pointer (some ⟨k1, 0, none⟩), .pointer (some ⟨k3, 0, none⟩), .pointer (some ⟨k5, 0, none⟩)], .func (.func 49) #[] #[.pointer (some ⟨k4, 0, none⟩), .pointer (some ⟨k3, 0, none⟩), .pointer (some ⟨k1, 0, none⟩)]]) ∧ Rdr k1 k3 k4 k5 k6 w' bv l 0 false ∧ (w.heap.size ≤ k3 ∧ w.heap.size ≤ k4) ∧ Below w.heap.size w w'

set_option maxRecDepth 10000 in
set_option maxHeartbeats 2000000 in
theorem readerOf_any (w : World) (bv : Value) (l : List Int) (h : Rd w bv l) (hl : l.length ≤ 140737488355300) :
    Calls Tryd.prog 24 #[bv] w (RdP w bv l) := by
  obtain ⟨ab, cb, rfl, hcb⟩ := h.2.form
  rw [bc_len] at h
  rw [bc_len]
  have hmf : ∀ (fn : Fn) (first cap : Array Value) (w : World), (Instr.makeFunc fn first cap).run Tryd.prog w = .ok (.func fn first cap) w := fun _ _ _ _ => rfl
  obtain ⟨w1, hw1⟩ : ∃ w1, w1 = (((w.alloc (.cells #[.slice ab l.length cb] 22)).alloc (.cells #[.nilFunc, .nilFunc, .nilFunc, .nilFunc] 62)).alloc (.cells #[.int .i64 0] 3)).alloc (.cells #[.bool false] 4) := ⟨_, rfl⟩
  have r1 : Row w1 w.heap.size 22 [.slice ab l.length cb] := by rw [hw1]; exact rowA (rowA (rowA (Row.new w 22 _) _) _) _
  have r2 : Row w1 (w.heap.size + 1) 62 [.nilFunc, .nilFunc, .nilFunc, .nilFunc] := by
    rw [hw1]
    have := Row.new (w.alloc (.cells #[.slice ab l.length cb] 22)) 62 [.nilFunc, .nilFunc, .nilFunc, .nilFunc]
    exact rowA (rowA (by simpa using this) _) _
  have r3 : Row w1 (w.heap.size + 1 + 1) 3 [.int .i64 0] := by
    rw [hw1]
    have := Row.new ((w.alloc (.cells #[.slice ab l.length cb] 22)).alloc (.cells #[.nilFunc, .nilFunc, .nilFunc, .nilFunc] 62)) 3 [.int .i64 0]
    exact rowA (by simpa using this) _
  have r4 : Row w1 (w.heap.size + 1 + 1 + 1) 4 [.bool false] := by
    rw [hw1]
    have := Row.new (((w.alloc (.cells #[.slice ab l.length cb] 22)).alloc (.cells #[.nilFunc, .nilFunc, .nilFunc, .nilFunc] 62)).alloc (.cells #[.int .i64 0] 3)) 4 [.bool false]
    simpa using this
  have B1 : Below w.heap.size w w1 := by rw [hw1]; exact below_and (below_and (below_and (below_alloc _ _) (Nat.le_refl _) (below_alloc _ _)) (Nat.le_refl _) (below_alloc _ _)) (Nat.le_refl _) (below_alloc _ _)
  have hlt : l ≠ [] → ∀ k, (Value.slice ab l.length cb).ownBlock = some k → k < w.heap.size := fun hx k hk => h.lt hx k hk
  go_enter Tryd.func24, Tryd.ntmps24
  go_upto_region 2 with fail
  rw [← hw1]
  clear hw1
  obtain ⟨k4, hk4⟩ : ∃ k4, k4 = w.heap.size + 1 + 1 + 1 := ⟨_, rfl⟩
  obtain ⟨k3, hk3⟩ : ∃ k3, k3 = w.heap.size + 1 + 1 := ⟨_, rfl⟩
  obtain ⟨k2, hk2⟩ : ∃ k2, k2 = w.heap.size + 1 := ⟨_, rfl⟩
  obtain ⟨k1, hk1⟩ : ∃ k1, k1 = w.heap.size := ⟨_, rfl⟩
  have r1 : Row w1 k1 22 [.slice ab l.length cb] := by rw [hk1]; exact r1
  rw [← hk4] at r4 ⊢
  rw [← hk3] at r3 ⊢
  rw [← hk2] at r2 ⊢
  rw [← hk1]
  have HK := (show Hid (w.heap.size ≤ k3 ∧ w.heap.size ≤ k4) by show _ ∧ _; omega)
  have h2 : k2 < w1.heap.size := r2.lt
  have HK2 := (show Hid (w.heap.size ≤ k2) by show _ ≤ _; omega)
  have HN := (show Hid (∀ u, Below w.heap.size w u → RT (fun k => k ≠ k3 ∧ k ≠ k4) u (.slice ab l.length cb) l) from fun u hu => ⟨h.below hu, fun hx k hk => by have := hlt hx k hk; omega⟩)
  clear hk1 hk2 hk3 hk4 hlt
  have row5 := Row.new w1 78 [.nilFunc]
  go_upto_region 3 with (refine wl_set rfl _ _ _ rfl w1.heap.size 0 _ rfl rfl _ _ row5 (show 0 < 1 by decide) (by kernel_rfl) rfl ?_; intro w2 hr2 hg2)
  have r5 : Row w2 w1.heap.size 78 [.func (.func 43) #[] #[.pointer (some ⟨k3, 0, none⟩), .pointer (some ⟨k4, 0, none⟩)]] := hr2.out
  have hb2 : Below w1.heap.size w1 w2 := (below_alloc w1 (.cells ([.nilFunc] : List Value).toArray 78)).trans (grown_below hg2 (by simp) (fun k hk => by cases hk; exact Nat.le_refl _))
  obtain ⟨k5, hk5⟩ : ∃ k5, k5 = w1.heap.size := ⟨_, rfl⟩
  have n25 : k2 ≠ k5 := by omega
  have r5 : Row w2 k5 78 [.func (.func 43) #[] #[.pointer (some ⟨k3, 0, none⟩), .pointer (some ⟨k4, 0, none⟩)]] := by rw [hk5]; exact r5
  rw [← hk5]
  clear row5 hr2 hg2 hk5
  have row6 := Row.new w2 58 [.nilFunc]
  have h2' : k2 < w2.heap.size := Nat.lt_of_lt_of_le h2 hb2.size
  go_upto_region 4 with (refine wl_set rfl _ _ _ rfl w2.heap.size 0 _ rfl rfl _ _ row6 (show 0 < 1 by decide) (by kernel_rfl) rfl ?_; intro w3 hr3 hg3)
  have r6 : Row w3 w2.heap.size 58 [.func (.func 44) #[] #[.pointer (some ⟨k1, 0, none⟩), .pointer (some ⟨k3, 0, none⟩), .pointer (some ⟨k5, 0, none⟩)]] := hr3.out
  have hb3 : Below w2.heap.size w2 w3 := (below_alloc w2 (.cells ([.nilFunc] : List Value).toArray 58)).trans (grown_below hg3 (by simp) (fun k hk => by cases hk; exact Nat.le_refl _))
  obtain ⟨k6, hk6⟩ : ∃ k6, k6 = w2.heap.size := ⟨_, rfl⟩
  have r6 : Row w3 k6 58 [.func (.func 44) #[] #[.pointer (some ⟨k1, 0, none⟩), .pointer (some ⟨k3, 0, none⟩), .pointer (some ⟨k5, 0, none⟩)]] := by rw [hk6]; exact r6
  rw [← hk6]
  have hb13 := below_and hb2 (Nat.le_refl _) hb3
  have B3 := below_and B1 (Nat.le_refl _) hb13
  have hR : Rdr k1 k3 k4 k5 k6 w3 (.slice ab l.length cb) l 0 false := ⟨r1.below hb13, r3.below hb13, r4.below hb13, r5.below hb3, r6, HN.out w3 B3, Nat.zero_le _, hl⟩
  have s2 := r2.below hb13
  have c6 := r6.cell (j := 0) rfl
  have n26 : k2 ≠ k6 := by omega
  have n23 := s2.apart hR.r3 (by decide)
  have n24 := s2.apart hR.r4 (by decide)
  have n21 := s2.apart hR.r1 (by decide)
  clear row6 hr3 hg3 hk6 r1 r2 r3 r4 r5 r6 hb2 hb3 hb13 B1
  have hone : ∀ x ∈ ([.func (.func 44) #[] #[.pointer (some ⟨k1, 0, none⟩), .pointer (some ⟨k3, 0, none⟩), .pointer (some ⟨k5, 0, none⟩)], .func (.func 46) #[] #[.pointer (some ⟨k6, 0, none⟩), .pointer (some ⟨k4, 0, none⟩)], .func (.func 47) #[] #[.pointer (some ⟨k1, 0, none⟩), .pointer (some ⟨k3, 0, none⟩), .pointer (some ⟨k5, 0, none⟩)], .func (.func 49) #[] #[.pointer (some ⟨k4, 0, none⟩), .pointer (some ⟨k3, 0, none⟩), .pointer (some ⟨k1, 0, none⟩)]] : List Value), x.oneCell' = true := by
    intro x hx
    simp only [List.mem_cons, List.not_mem_nil, or_false] at hx
    rcases hx with rfl | rfl | rfl | rfl <;> rfl
  go_wp2_with (refine wl_store rfl _ _ _ rfl k2 [.func (.func 44) #[] #[.pointer (some ⟨k1, 0, none⟩), .pointer (some ⟨k3, 0, none⟩), .pointer (some ⟨k5, 0, none⟩)], .func (.func 46) #[] #[.pointer (some ⟨k6, 0, none⟩), .pointer (some ⟨k4, 0, none⟩)], .func (.func 47) #[] #[.pointer (some ⟨k1, 0, none⟩), .pointer (some ⟨k3, 0, none⟩), .pointer (some ⟨k5, 0, none⟩)], .func (.func 49) #[] #[.pointer (some ⟨k4, 0, none⟩), .pointer (some ⟨k3, 0, none⟩), .pointer (some ⟨k1, 0, none⟩)]] rfl rfl _ _ s2 rfl (by kernel_rfl) hone ?_; intro w4 hr4 hg4)
  refine bodyPost_ret (v := .agg ([.func (.func 44) #[] #[.pointer (some ⟨k1, 0, none⟩), .pointer (some ⟨k3, 0, none⟩), .pointer (some ⟨k5, 0, none⟩)], .func (.func 46) #[] #[.pointer (some ⟨k6, 0, none⟩), .pointer (some ⟨k4, 0, none⟩)], .func (.func 47) #[] #[.pointer (some ⟨k1, 0, none⟩), .pointer (some ⟨k3, 0, none⟩), .pointer (some ⟨k5, 0, none⟩)], .func (.func 49) #[] #[.pointer (some ⟨k4, 0, none⟩), .pointer (some ⟨k3, 0, none⟩), .pointer (some ⟨k1, 0, none⟩)]] : List Value).toArray) (results_cell_row rfl _ _ k2 _ _ (0, 0) _ (by rfl) hr4.out Tryd.underlying62 rfl (by kernel_rfl)) rfl ?_
  have hlt2 : l ≠ [] → (Value.slice ab l.length cb).ownBlock ≠ some k2 := fun hx e => by have := h.lt hx _ e; have := HK2.out; omega
  exact ⟨k1, k3, k4, k5, k6, rfl, hR.grown hg4 ⟨n21, n23, n24, n25, n26⟩ hlt2, HK.out, B3.trans (grown_below hg4 B3.size (fun k hk => by cases hk; exact HK2.out))⟩

/-- What Decode answers. -/
def dcA (l : List Int) : PApp := (decA l).getD (0, [], [], [])
def dcE (l : List Int) : Int := if (decA l).isSome then 0 else 101
def DcP (w : World) (l : List Int) (e : Ending) (w' : World) : Prop :=
  ∃ row, e = .returned (.tuple #[.agg row.toArray, .int .i64 (dcE l)]) ∧ OApp w.heap.size w' row (dcA l) ∧ Below w.heap.size w w'
theorem LB.apartU {α : Type} {R : (Nat → Prop) → World → List Value → α → Prop} {T : TypeId} {k B : Nat} {w : World} {v : Value} {ys : List α} (h : LB R T k B w v ys) {j : Nat} {t : TypeId} {xs : List Value} (hr : Row w j t xs) (ht : t ≠ T) : v.ownBlock ≠ some j := fun e => by
  obtain ⟨rows, r0, hown, hfr, hall⟩ := h
  rcases hown.2 with ⟨rfl, _⟩ | ⟨g, cap, cur, rfl, _, hgg, _⟩
  · simp [Value.ownBlock] at e
  · simp [Value.ownBlock] at e
    subst e
    unfold Row at hr
    rw [hr] at hgg
    simp at hgg
    exact ht hgg.2
theorem LB.gr {R : (Nat → Prop) → World → List Value → PEnt → Prop} (hR : ∀ (G : Nat → Prop) (w : World) (r : List Value) (x : PEnt) (b : Nat) (t : TypeId) (xs : List Value), R G w r x → Row w b t xs → t ≠ 5 → R (fun k => G k ∧ k ≠ b) w r x) (hM : Mov R) {T : TypeId} {k B b : Nat} {w w' : World} {v : Value} {ys : List PEnt} {t : TypeId} {xs : List Value} (h : LB R T k B w v ys) (hg : w.grownBy w' (some b)) (hr : Row w b t xs) (h1 : t ≠ 5) (h2 : t ≠ T) : LB R T k B w' v ys := by
  have hne := h.apartU hr h2
  obtain ⟨rows, r0, hown, hfr, hall⟩ := h
  refine ⟨rows, r0, World.ownsRow.kept hown hg ?_, hfr, hall.mono fun q x hq => ?_⟩
  · cases hv : v.ownBlock with
    | none => exact .inl rfl
    | some k => exact .inr fun e => hne (hv.trans e)
  · exact hM _ _ _ _ _ _ (hR _ _ _ _ _ _ _ hq hr h1) hg.size (fun k hk hlt => ⟨hg.block k hlt (fun e => hk.2 (by injection e)), hk.1⟩)
theorem OApp.gr {B : Nat} {w w' : World} {r : List Value} {a : PApp} (h : OApp B w r a) {b : Nat} {xs : List Value} (hg : w.grownBy w' (some b)) (hr : Row w b 38 xs) : OApp B w' r a := by
  obtain ⟨ve, vl, vs, e, h1, h2, h3⟩ := h
  refine ⟨ve, vl, vs, e, h1.gr (fun G w r x b t xs hq hr ht => ?_) mov_oent hg hr (by decide) (by decide), h2.gr (fun G w r x b t xs hq hr ht => ?_) mov_olea hg hr (by decide) (by decide), h3.gr (fun G w r x b t xs hq hr ht => ?_) mov_oses hg hr (by decide) (by decide)⟩
  · obtain ⟨a, b, rfl, o1, o2⟩ := hq
    exact ⟨a, b, rfl, o1.ne hr ht, o2.ne hr ht⟩
  · obtain ⟨a, p, q, rfl, o1, o2⟩ := hq
    exact ⟨a, p, q, rfl, o1.ne hr ht, o2⟩
  · obtain ⟨c, d, k, a, t, rfl, o1, o2⟩ := hq
    exact ⟨c, d, k, a, t, rfl, o1.ne hr ht, o2⟩
theorem OApp.zero (B : Nat) (w : World) : OApp B w [.int .i64 0, .slice none 0 0, .slice none 0 0, .slice none 0 0] (0, [], [], []) := ⟨_, _, _, rfl, LB.nil _ _ _ _ _, LB.nil _ _ _ _ _, LB.nil _ _ _ _ _⟩
theorem LB.fm {α : Type} {R : (Nat → Prop) → World → List Value → α → Prop} (hR : Mov R) {T : TypeId} {k B : Nat} {w : World} {v : Value} {ys : List α} (h : LB R T k B w v ys) : ∃ ao cap, v = .slice ao ys.length cap := by
  obtain ⟨ao, cap, e, _⟩ := (h.rl hR).form
  exact ⟨ao, cap, e⟩

set_option maxRecDepth 10000 in
set_option maxHeartbeats 4000000 in
/-- snap.Decode. -/
theorem snapDecode_any (w : World) (bv : Value) (l : List Int) (h : Rd w bv l) (hl : l.length ≤ 140737488355300) :
    Calls Tryd.prog 13 #[bv] w (DcP w l) := by
  have le := Nat.le_refl w.heap.size
  have hmf : ∀ (fn : Fn) (first cap : Array Value) (w : World), (Instr.makeFunc fn first cap).run Tryd.prog w = .ok (.func fn first cap) w := fun _ _ _ _ => rfl
  obtain ⟨w0, hw0⟩ : ∃ w0, w0 = w.alloc (.cells #[.int .i64 0, .slice none 0 0, .slice none 0 0, .slice none 0 0] 38) := ⟨_, rfl⟩
  have s0 : Row w0 w.heap.size 38 [.int .i64 0, .slice none 0 0, .slice none 0 0, .slice none 0 0] := by rw [hw0]; exact Row.new w 38 _
  have B0 : Below w.heap.size w w0 := by rw [hw0]; exact below_alloc _ _
  have hC := readerOf_any w0 bv l (h.below B0) hl
  go_enter Tryd.func13, Tryd.ntmps13
  go_upto_region 1 with fail
  rw [← hw0]
  clear hw0
  obtain ⟨sb, hsb⟩ : ∃ sb, sb = w.heap.size := ⟨_, rfl⟩
  have s0 : Row w0 sb 38 [.int .i64 0, .slice none 0 0, .slice none 0 0, .slice none 0 0] := by rw [hsb]; exact s0
  rw [← hsb]
  have HS := (show Hid (w.heap.size ≤ sb) by show _ ≤ _; omega)
  clear hsb
  go_upto_region 2 with (first
    | (go_at_call 24; refine hC.mono ?_; rintro e w1 ⟨k1, k3, k4, k5, k6, rfl, hR, hkk, hb1⟩; have rowr := Row.new w1 62 [.nilFunc, .nilFunc, .nilFunc, .nilFunc]; have hone : ∀ x ∈ ([.func (.func 44) #[] #[.pointer (some ⟨k1, 0, none⟩), .pointer (some ⟨k3, 0, none⟩), .pointer (some ⟨k5, 0, none⟩)], .func (.func 46) #[] #[.pointer (some ⟨k6, 0, none⟩), .pointer (some ⟨k4, 0, none⟩)], .func (.func 47) #[] #[.pointer (some ⟨k1, 0, none⟩), .pointer (some ⟨k3, 0, none⟩), .pointer (some ⟨k5, 0, none⟩)], .func (.func 49) #[] #[.pointer (some ⟨k4, 0, none⟩), .pointer (some ⟨k3, 0, none⟩), .pointer (some ⟨k1, 0, none⟩)]] : List Value), x.oneCell' = true := by (intro x hx; simp only [List.mem_cons, List.not_mem_nil, or_false] at hx; rcases hx with rfl | rfl | rfl | rfl <;> rfl))
    | (refine wl_store rfl _ _ _ rfl w1.heap.size [.func (.func 44) #[] #[.pointer (some ⟨k1, 0, none⟩), .pointer (some ⟨k3, 0, none⟩), .pointer (some ⟨k5, 0, none⟩)], .func (.func 46) #[] #[.pointer (some ⟨k6, 0, none⟩), .pointer (some ⟨k4, 0, none⟩)], .func (.func 47) #[] #[.pointer (some ⟨k1, 0, none⟩), .pointer (some ⟨k3, 0, none⟩), .pointer (some ⟨k5, 0, none⟩)], .func (.func 49) #[] #[.pointer (some ⟨k4, 0, none⟩), .pointer (some ⟨k3, 0, none⟩), .pointer (some ⟨k1, 0, none⟩)]] rfl rfl _ _ rowr rfl (by kernel_rfl) hone ?_; intro w2 hr2 hg2))
  have hb2 : Below w1.heap.size w1 w2 := (below_alloc w1 (.cells ([.nilFunc, .nilFunc, .nilFunc, .nilFunc] : List Value).toArray 62)).trans (grown_below hg2 (by simp) (fun k hk => by cases hk; exact Nat.le_refl _))
  have q2 : Row w2 w1.heap.size 62 [.func (.func 44) #[] #[.pointer (some ⟨k1, 0, none⟩), .pointer (some ⟨k3, 0, none⟩), .pointer (some ⟨k5, 0, none⟩)], .func (.func 46) #[] #[.pointer (some ⟨k6, 0, none⟩), .pointer (some ⟨k4, 0, none⟩)], .func (.func 47) #[] #[.pointer (some ⟨k1, 0, none⟩), .pointer (some ⟨k3, 0, none⟩), .pointer (some ⟨k5, 0, none⟩)], .func (.func 49) #[] #[.pointer (some ⟨k4, 0, none⟩), .pointer (some ⟨k3, 0, none⟩), .pointer (some ⟨k1, 0, none⟩)]] := hr2.out
  obtain ⟨rb, hrb⟩ : ∃ rb, rb = w1.heap.size := ⟨_, rfl⟩
  have q2 : Row w2 rb 62 [.func (.func 44) #[] #[.pointer (some ⟨k1, 0, none⟩), .pointer (some ⟨k3, 0, none⟩), .pointer (some ⟨k5, 0, none⟩)], .func (.func 46) #[] #[.pointer (some ⟨k6, 0, none⟩), .pointer (some ⟨k4, 0, none⟩)], .func (.func 47) #[] #[.pointer (some ⟨k1, 0, none⟩), .pointer (some ⟨k3, 0, none⟩), .pointer (some ⟨k5, 0, none⟩)], .func (.func 49) #[] #[.pointer (some ⟨k4, 0, none⟩), .pointer (some ⟨k3, 0, none⟩), .pointer (some ⟨k1, 0, none⟩)]] := by rw [hrb]; exact q2
  rw [← hrb]
  have hR := hR.below hb2
  have s2 := (s0.below hb1).below hb2
  have B2 := below_and (below_and B0 le hb1) le hb2
  have HKK := (show Hid (w.heap.size ≤ k3 ∧ w.heap.size ≤ k4) by show _ ∧ _; have := B0.size; omega)
  clear rowr hone hr2 hg2 hrb hb1 hb2 hC s0 B0 hkk
  go_upto_region 3 with fail
  obtain ⟨w3, hw3⟩ : ∃ w3, w3 = w2.alloc (.cells #[.int .i64 0, .slice none 0 0, .slice none 0 0, .slice none 0 0] 38) := ⟨_, rfl⟩
  have a3 : Row w3 w2.heap.size 38 [.int .i64 0, .slice none 0 0, .slice none 0 0, .slice none 0 0] := by rw [hw3]; exact Row.new w2 38 _
  have hb3 : Below w2.heap.size w2 w3 := by rw [hw3]; exact below_alloc _ _
  rw [← hw3]
  have hlow := hR.low
  have hR3 := hR.below hb3
  have q3 := q2.below hb3
  have s3 := s2.below hb3
  have B3 := below_and B2 le hb3
  have n3 := q3.apart hR3.r3 (by decide)
  have n4 := q3.apart hR3.r4 (by decide)
  have m3 := s3.apart hR3.r3 (by decide)
  have m4 := s3.apart hR3.r4 (by decide)
  obtain ⟨ab, hab⟩ : ∃ ab, ab = w2.heap.size := ⟨_, rfl⟩
  have a3 : Row w3 ab 38 [.int .i64 0, .slice none 0 0, .slice none 0 0, .slice none 0 0] := by rw [hab]; exact a3
  rw [← hab]
  have o3 := a3.apart hR3.r3 (by decide)
  have o4 := a3.apart hR3.r4 (by decide)
  have HAB := (show Hid (w2.heap.size ≤ ab) by show _ ≤ _; omega)
  have hqa : rb ≠ ab := by have := q2.lt; omega
  have hsa : sb ≠ ab := by have := s2.lt; omega
  have hab3 : ab < w3.heap.size := a3.lt
  have hWB : w.heap.size ≤ ab := by have := B2.size; omega
  clear hw3 hb3 hR q2 s2 hab
  have cf := q3.cell (j := 0) rfl
  have hC := rNum_any hR3
  go_upto_region 4 with (first
    | (go_at_call 44; refine hC.mono ?_; rintro e w4 ⟨n, p4, b4, rfl, hn, rg4, hR4, hc4⟩; have ax := hc4.row a3 o3 o4)
    | (refine wl_set rfl _ _ _ rfl ab 0 _ rfl rfl _ _ ax (show 0 < 4 by decide) (by kernel_rfl) rfl ?_; intro w5 hr5 hg5))
  have a5 : Row w5 ab 38 [.int .i64 n, .slice none 0 0, .slice none 0 0, .slice none 0 0] := hr5.out
  have hR5 := hR4.above hlow hg5 (fun g hg => by cases hg; exact HAB.out)
  have q5 := (hc4.row q3 n3 n4).grown hg5 (fun e => hqa (by injection e with e; exact e.symm))
  have s5 := (hc4.row s3 m3 m4).grown hg5 (fun e => hsa (by injection e with e; exact e.symm))
  have B5 : Below w.heap.size w w5 := (B3.trans (hc4.bel B3.size HKK.out.1 HKK.out.2)).trans (grown_below hg5 (Nat.le_trans B3.size hc4.size) (fun k hk => by cases hk; exact hWB))
  have hab5 : ab < w5.heap.size := a5.lt
  clear cf hC hR3 hR4 q3 s3 a3 ax hr5 hg5 hc4 B3 hab3
  have hC := lEnt_any hR5 rb q5 64 (by omega)
  go_upto_region 5 with (first
    | (refine wl_load rfl _ _ rfl rb rfl _ _ q5 _ Tryd.underlying62 rfl (by kernel_rfl) ?_)
    | (go_at_call 25; refine hC.mono ?_; rintro e w6 ⟨v6, y6, p6, b6, rfl, hL6, hm6, rg6, hR6, hc6⟩; obtain ⟨x6, z6, hvf6⟩ := hL6.fm mov_oent; subst hvf6; have ax := hc6.row a5 o3 o4)
    | (refine wl_set rfl _ _ _ rfl ab 1 _ rfl rfl _ _ ax (show 1 < 4 by decide) (by kernel_rfl) rfl ?_; intro w7 hr7 hg7))
  have a7 : Row w7 ab 38 [.int .i64 n, .slice x6 y6.length z6, .slice none 0 0, .slice none 0 0] := hr7.out
  have hR7 := hR6.above hlow hg7 (fun g hg => by cases hg; exact HAB.out)
  have q7 := (hc6.row q5 n3 n4).grown hg7 (fun e => hqa (by injection e with e; exact e.symm))
  have s7 := (hc6.row s5 m3 m4).grown hg7 (fun e => hsa (by injection e with e; exact e.symm))
  have B7 : Below w.heap.size w w7 := (B5.trans (hc6.bel B5.size HKK.out.1 HKK.out.2)).trans (grown_below hg7 (Nat.le_trans B5.size hc6.size) (fun k hk => by cases hk; exact hWB))
  have hab7 : ab < w7.heap.size := a7.lt
  have k3b : k3 < w5.heap.size := hR5.r3.lt
  have k4b : k4 < w5.heap.size := hR5.r4.lt
  have hL7 := hL6.grown mov_oent hg7 hab5
  have hL7s : w5.heap.size ≤ w5.heap.size := Nat.le_refl _
  have KB3 := (show Hid (k3 < w5.heap.size) from k3b)
  have KB4 := (show Hid (k4 < w5.heap.size) from k4b)
  have SZ1 := (show Hid (w5.heap.size ≤ w7.heap.size) from Nat.le_trans (Nat.le_trans hL7s hc6.size) hg7.size)
  clear hC hR5 hR6 q5 s5 a5 ax hr7 k3b k4b hL6  hc6 hg7
  have hC := lLea_any hR7 rb q7 16 (by omega)
  go_upto_region 6 with (first
    | (refine wl_load rfl _ _ rfl rb rfl _ _ q7 _ Tryd.underlying62 rfl (by kernel_rfl) ?_)
    | (go_at_call 27; refine hC.mono ?_; rintro e w9 ⟨v9, y9, p9, b9, rfl, hL9, hm9, rg9, hR9, hc9⟩; obtain ⟨x9, z9, hvf9⟩ := hL9.fm mov_olea; subst hvf9; have ax := hc9.row a7 o3 o4)
    | (refine wl_set rfl _ _ _ rfl ab 2 _ rfl rfl _ _ ax (show 2 < 4 by decide) (by kernel_rfl) rfl ?_; intro w10 hr10 hg10))
  have a10 : Row w10 ab 38 [.int .i64 n, .slice x6 y6.length z6, .slice x9 y9.length z9, .slice none 0 0] := hr10.out
  have hR10 := hR9.above hlow hg10 (fun g hg => by cases hg; exact HAB.out)
  have q10 := (hc9.row q7 n3 n4).grown hg10 (fun e => hqa (by injection e with e; exact e.symm))
  have s10 := (hc9.row s7 m3 m4).grown hg10 (fun e => hsa (by injection e with e; exact e.symm))
  have B10 : Below w.heap.size w w10 := (B7.trans (hc9.bel B7.size HKK.out.1 HKK.out.2)).trans (grown_below hg10 (Nat.le_trans B7.size hc9.size) (fun k hk => by cases hk; exact hWB))
  have hab10 : ab < w10.heap.size := a10.lt
  have k3b : k3 < w7.heap.size := hR7.r3.lt
  have k4b : k4 < w7.heap.size := hR7.r4.lt
  have hL7_10 := (hL7.chg mov_oent hc9 (Nat.lt_of_lt_of_le KB3.out hL7s) (Nat.lt_of_lt_of_le KB4.out hL7s)).grown mov_oent hg10 (Nat.lt_of_lt_of_le hab5 hL7s)
  have hL7_10s := hL7s
  have hL10 := hL9.grown mov_olea hg10 hab7
  have hL10s : w5.heap.size ≤ w7.heap.size := SZ1.out
  have SZ2 := (show Hid (w5.heap.size ≤ w10.heap.size) from Nat.le_trans (Nat.le_trans hL10s hc9.size) hg10.size)
  clear hC hR7 hR9 q7 s7 a7 ax hr10 k3b k4b hL9 hL7 hc9 hg10
  clear hab7
  have hC := lSes_any hR10 rb q10 4 (by omega)
  go_upto_region 7 with (first
    | (refine wl_load rfl _ _ rfl rb rfl _ _ q10 _ Tryd.underlying62 rfl (by kernel_rfl) ?_)
    | (go_at_call 29; refine hC.mono ?_; rintro e w12 ⟨v12, y12, p12, b12, rfl, hL12, hm12, rg12, hR12, hc12⟩; obtain ⟨x12, z12, hvf12⟩ := hL12.fm mov_oses; subst hvf12; have ax := hc12.row a10 o3 o4)
    | (refine wl_set rfl _ _ _ rfl ab 3 _ rfl rfl _ _ ax (show 3 < 4 by decide) (by kernel_rfl) rfl ?_; intro w13 hr13 hg13))
  have a13 : Row w13 ab 38 [.int .i64 n, .slice x6 y6.length z6, .slice x9 y9.length z9, .slice x12 y12.length z12] := hr13.out
  have hR13 := hR12.above hlow hg13 (fun g hg => by cases hg; exact HAB.out)
  have q13 := (hc12.row q10 n3 n4).grown hg13 (fun e => hqa (by injection e with e; exact e.symm))
  have s13 := (hc12.row s10 m3 m4).grown hg13 (fun e => hsa (by injection e with e; exact e.symm))
  have B13 : Below w.heap.size w w13 := (B10.trans (hc12.bel B10.size HKK.out.1 HKK.out.2)).trans (grown_below hg13 (Nat.le_trans B10.size hc12.size) (fun k hk => by cases hk; exact hWB))
  have hab13 : ab < w13.heap.size := a13.lt
  have k3b : k3 < w10.heap.size := hR10.r3.lt
  have k4b : k4 < w10.heap.size := hR10.r4.lt
  have hL7_10_13 := (hL7_10.chg mov_oent hc12 (Nat.lt_of_lt_of_le KB3.out hL7_10s) (Nat.lt_of_lt_of_le KB4.out hL7_10s)).grown mov_oent hg13 (Nat.lt_of_lt_of_le hab5 hL7_10s)
  have hL7_10_13s := hL7_10s
  have hL10_13 := (hL10.chg mov_olea hc12 (Nat.lt_of_lt_of_le KB3.out hL10s) (Nat.lt_of_lt_of_le KB4.out hL10s)).grown mov_olea hg13 (Nat.lt_of_lt_of_le hab5 hL10s)
  have hL10_13s := hL10s
  have hL13 := hL12.grown mov_oses hg13 hab10
  have hL13s : w5.heap.size ≤ w10.heap.size := SZ2.out
  have SZ3 := (show Hid (w5.heap.size ≤ w13.heap.size) from Nat.le_trans (Nat.le_trans hL13s hc12.size) hg13.size)
  clear hC hR10 hR12 q10 s10 a10 ax hr13 k3b k4b hL12 hL7_10 hL10 hc12 hg13
  clear hab10
  have hO : OApp w.heap.size w13 [.int .i64 n, .slice x6 y6.length z6, .slice x9 y9.length z9, .slice x12 y12.length z12] (n, y6, y9, y12) := ⟨_, _, _, rfl, hL7_10_13.weak mov_oent (Nat.le_trans B5.size hL7_10_13s), hL10_13.weak mov_olea (Nat.le_trans B5.size hL10_13s), hL13.weak mov_oses (Nat.le_trans B5.size hL13s)⟩
  have rgA : Rdg (cAp 16 64 64 16 4).rd l 0 false (n, y6, y9, y12) p12 b12 := rg4.pair (rg6.pair (rg9.pair rg12))
  have hdec := rgA.whole
  have hE := rEnd_any hR13
  have hRt := rightA_any w13 _ _ hO.app
  have hA : dcA l = if (b12 = false ∧ p12 = l.length) ∧ rgtA (n, y6, y9, y12) then (n, y6, y9, y12) else (0, [], [], []) := by
    unfold dcA decA
    rw [hdec]
    split <;> rfl
  have hX : dcE l = if (b12 = false ∧ p12 = l.length) ∧ rgtA (n, y6, y9, y12) then 0 else 101 := by
    unfold dcE decA
    rw [hdec]
    split <;> rfl
  have HA := (show Hid (∀ er a e w', dcE l = er → dcA l = a → (∃ row, e = Ending.returned (.tuple #[.agg row.toArray, .int .i64 er]) ∧ OApp w.heap.size w' row a ∧ Below w.heap.size w w') → DcP w l e w') from fun er a e w' h1 h2 h3 => by unfold DcP; rw [h1, h2]; exact h3)
  clear hdec rgA rg4 rg6 rg9 rg12 hL7_10_13 hL10_13 hL13
  have cf := q13.cell (j := 3) rfl
  have hsw := HS.out
  by_cases hb : b12 = false ∧ p12 = l.length
  · rw [decide_eq_true hb] at hE
    by_cases hg : rgtA (n, y6, y9, y12)
    · rw [decide_eq_true hg] at hRt
      rw [if_pos ⟨hb, hg⟩] at hA hX
      have hone : ∀ x ∈ ([.int .i64 n, .slice x6 y6.length z6, .slice x9 y9.length z9, .slice x12 y12.length z12] : List Value), x.oneCell' = true := by
        intro x hx
        simp only [List.mem_cons, List.not_mem_nil, or_false] at hx
        rcases hx with rfl | rfl | rfl | rfl <;> rfl
      clear hb hg
      go_wp2_with (first
        | (go_at_call 49; refine hE.mono ?_; rintro e w13 ⟨rfl, rfl⟩)
        | (refine wl_load_w (by rfl) _ _ rfl ab rfl _ _ a13 _ Tryd.underlying38 rfl (by kernel_rfl) ?_)
        | (go_at_call 19; refine hRt.mono ?_; rintro e w20 ⟨rfl, hb20⟩; have a20 := a13.below hb20; have s20 := s13.below hb20)
        | (refine wl_load rfl _ _ rfl ab rfl _ _ a20 _ Tryd.underlying38 rfl (by kernel_rfl) ?_)
        | (refine wl_store rfl _ _ _ rfl sb [.int .i64 n, .slice x6 y6.length z6, .slice x9 y9.length z9, .slice x12 y12.length z12] rfl rfl _ _ s20 rfl (by kernel_rfl) hone ?_; intro w21 hr21 hg21))
      have hO20 := hO.below hb20
      have B20 := below_and B13 le hb20
      refine bodyPost_ret (results_ctU rfl _ _ sb _ _ (0, 0) _ (by rfl) hr21.out Tryd.underlying38 rfl (by kernel_rfl)) rfl ?_
      exact HA.out _ _ _ _ hX hA ⟨_, rfl, hO20.gr hg21 s20, B20.trans (grown_below hg21 B20.size (fun k hk => by cases hk; exact hsw))⟩
    · rw [decide_eq_false hg] at hRt
      rw [if_neg (fun hh => hg hh.2)] at hA hX
      clear hb hg
      go_wp2_with (first
        | (go_at_call 49; refine hE.mono ?_; rintro e w13 ⟨rfl, rfl⟩)
        | (refine wl_load_w (by rfl) _ _ rfl ab rfl _ _ a13 _ Tryd.underlying38 rfl (by kernel_rfl) ?_)
        | (go_at_call 19; refine hRt.mono ?_; rintro e w20 ⟨rfl, hb20⟩; have a20 := a13.below hb20; have s20 := s13.below hb20)
        | (refine wl_store rfl _ _ _ rfl sb [.int .i64 0, .slice none 0 0, .slice none 0 0, .slice none 0 0] rfl rfl _ _ s20 rfl (by kernel_rfl) (by decide) ?_; intro w21 hr21 hg21))
      have B20 := below_and B13 le hb20
      refine bodyPost_ret (results_ctU rfl _ _ sb _ _ (0, 0) _ (by rfl) hr21.out Tryd.underlying38 rfl (by kernel_rfl)) rfl ?_
      exact HA.out _ _ _ _ hX hA ⟨_, rfl, OApp.zero _ _, B20.trans (grown_below hg21 B20.size (fun k hk => by cases hk; exact hsw))⟩
  · rw [decide_eq_false hb] at hE
    rw [if_neg (fun hh => hb hh.1)] at hA hX
    clear hb
    go_wp2_with (first
      | (go_at_call 49; refine hE.mono ?_; rintro e w13 ⟨rfl, rfl⟩)
      | (refine wl_store rfl _ _ _ rfl sb [.int .i64 0, .slice none 0 0, .slice none 0 0, .slice none 0 0] rfl rfl _ _ s13 rfl (by kernel_rfl) (by decide) ?_; intro w21 hr21 hg21))
    refine bodyPost_ret (results_ctU rfl _ _ sb _ _ (0, 0) _ (by rfl) hr21.out Tryd.underlying38 rfl (by kernel_rfl)) rfl ?_
    exact HA.out _ _ _ _ hX hA ⟨_, rfl, OApp.zero _ _, B13.trans (grown_below hg21 B13.size (fun k hk => by cases hk; exact hsw))⟩
end Go.Proofs.YtejkkhlblnepeaaDoor
end

section
set_option linter.unusedVariables false
set_option linter.unusedSimpArgs false
namespace Go.Proofs.YtejkkhlblnepeaaDoor
open Go.RowKit Oct Kvl

theorem own_four (w : World) (a b c d : Int) (e : TypeId) : Own (w.alloc (.cells #[.int .u8 a, .int .u8 b, .int .u8 c, .int .u8 d] e)) e (.slice (some ⟨w.heap.size, 0, none⟩) 4 4) (bc [a, b, c, d]) :=
  World.ownsRow_lit (base := 0) (size := 1) w #[.int .u8 a, .int .u8 b, .int .u8 c, .int .u8 d] 4 (Nat.zero_le _) (by decide) rfl
theorem byt9 : Byt [9, 0, 0, 0] := by intro x hx; simp only [List.mem_cons, List.not_mem_nil, or_false] at hx; rcases hx with rfl | rfl | rfl | rfl <;> decide
theorem byt0 : Byt [0, 0, 0, 0] := by intro x hx; simp only [List.mem_cons, List.not_mem_nil, or_false] at hx; rcases hx with rfl | rfl | rfl | rfl <;> decide
theorem rgt0 : rgtA (0, [], [], []) := by decide
theorem snE0 : snE (0, [], [], []) = 0 := if_pos rgt0
theorem snB0 : snB (0, [], [], []) = [0, 0, 0, 0] := (if_pos rgt0).trans (by decide)
theorem decA9 : decA [9, 0, 0, 0] = some (9, [], [], []) := (decA_some byt9 _).2 ⟨⟨fun e he => (by cases he), fun e he => (by cases he)⟩, by decide, by decide⟩
theorem dcA9 : dcA [9, 0, 0, 0] = (9, [], [], []) := by unfold dcA; rw [decA9]; rfl
theorem dcE9 : dcE [9, 0, 0, 0] = 0 := by unfold dcE; rw [decA9]; rfl
theorem forms9 {B : Nat} {w : World} {r : List Value} {a : PApp} (h : OApp B w r a) : ∃ ae ce al cl an cn, r = [.int .i64 a.1, .slice ae a.2.1.length ce, .slice al a.2.2.1.length cl, .slice an a.2.2.2.length cn] := by
  obtain ⟨ve, vl, vs, rfl, h1, h2, h3⟩ := h
  obtain ⟨ae, ce, rfl⟩ := h1.fm mov_oent
  obtain ⟨al, cl, rfl⟩ := h2.fm mov_olea
  obtain ⟨an, cn, rfl⟩ := h3.fm mov_oses
  exact ⟨_, _, _, _, _, _, rfl⟩

set_option maxRecDepth 10000 in
set_option maxHeartbeats 2000000 in
theorem snapAlive_any (w : World) : Calls Tryd.prog 4 #[] w fun e w' => e = .returned (.bool true) ∧ Below w.heap.size w w' := by
  have le := Nat.le_refl w.heap.size
  have hE := snapEncode_any w [.int .i64 0, .slice none 0 0, .slice none 0 0, .slice none 0 0] (0, [], [], []) (OApp.zero 0 w).app
  rw [snE0, snB0] at hE
  have HD := (show Hid (∀ u, Calls Tryd.prog 13 #[.slice (some ⟨u.heap.size, 0, none⟩) 4 4] (u.alloc (.cells #[.int .u8 9, .int .u8 0, .int .u8 0, .int .u8 0] 5)) fun e w' => ∃ ae ne ce al nl cl an nn cn, e = .returned (.tuple #[.agg #[.int .i64 9, .slice ae ne ce, .slice al nl cl, .slice an nn cn], .int .i64 0]) ∧ Below u.heap.size u w') from fun u => (snapDecode_any (u.alloc (.cells #[.int .u8 9, .int .u8 0, .int .u8 0, .int .u8 0] 5)) _ [9, 0, 0, 0] ((own_four u 9 0 0 0 5).rd byt9) (by decide)).mono fun e w' hP => by
    obtain ⟨row, e1, e2, e3⟩ := hP
    rw [dcE9] at e1
    rw [dcA9] at e2
    obtain ⟨ae, ce, al, cl, an, cn, rfl⟩ := forms9 e2
    exact ⟨_, _, _, _, _, _, _, _, _, e1, below_and (below_alloc _ _) (Nat.le_refl _) e3⟩)
  go_enter Tryd.func4, Tryd.ntmps4
  go_upto_region 2 with (go_at_call 12; refine hE.mono ?_; rintro e w1 ⟨v1, rfl, ho1, hf1, hb1⟩)
  have hD := HD.out w1
  clear hE HD
  go_upto_region 3 with (go_at_call 13; refine hD.mono ?_; rintro e w2 ⟨ae, ne, ce, al, nl, cl, an, nn, cn, rfl, hb2⟩)
  obtain ⟨w3, hw3⟩ : ∃ w3, w3 = w2.alloc (.cells #[.int .i64 9, .slice ae ne ce, .slice al nl cl, .slice an nn cn] 38) := ⟨_, rfl⟩
  have x3 : Row w3 w2.heap.size 38 [.int .i64 9, .slice ae ne ce, .slice al nl cl, .slice an nn cn] := by rw [hw3]; exact Row.new w2 38 _
  have hb3 : Below w2.heap.size w2 w3 := by rw [hw3]; exact below_alloc _ _
  rw [← hw3]
  clear hw3 hD
  obtain ⟨b3, hb3'⟩ : ∃ b3, b3 = w2.heap.size := ⟨_, rfl⟩
  have x3 : Row w3 b3 38 [.int .i64 9, .slice ae ne ce, .slice al nl cl, .slice an nn cn] := by rw [hb3']; exact x3
  rw [← hb3']
  clear hb3'
  have hb13 := below_and hb2 (Nat.le_refl _) hb3
  have B3 := below_and hb1 le hb13
  have hv := ((ho1.rd byt0).below hb13).below (below_alloc w3 (.cells #[.int .u8 0, .int .u8 0, .int .u8 0, .int .u8 0] 5))
  have hS := same_any (w3.alloc (.cells #[.int .u8 0, .int .u8 0, .int .u8 0, .int .u8 0] 5)) v1 _ _ _ hv ((own_four w3 0 0 0 0 5).rd byt0)
  rw [decide_eq_true rfl] at hS
  have c0 := (x3.below (below_alloc w3 (.cells #[.int .u8 0, .int .u8 0, .int .u8 0, .int .u8 0] 5))).cell (j := 0) rfl
  go_wp2_with (go_at_call 8; refine hS.mono ?_; rintro e w4 ⟨rfl, rfl⟩)
  go_ret
  exact ⟨rfl, below_and B3 le (below_alloc _ _)⟩
end Go.Proofs.YtejkkhlblnepeaaDoor
end
