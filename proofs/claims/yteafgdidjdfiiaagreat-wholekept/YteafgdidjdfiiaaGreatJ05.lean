/- The closures of snap.readerOf. (Made by mk10r.py.) -/
import Derived.Test.YteafgdidjdfiiaaGreatJ04
import Derived.Test.YteafgdidjdfiiaaGreatU0
section
set_option linter.unusedVariables false
set_option linter.unusedSimpArgs false
namespace Go.Proofs.YteafgdidjdfiiaaGreat
open Go.RowKit Oct Kvl

theorem formsU {G : Nat → Prop} {w : World} {r : List Value} {a : PApp} (h : RApp G w r a) : ∃ ae ce al cl an cn, r = [.int .i64 a.1, .slice ae a.2.1.length ce, .slice al a.2.2.1.length cl, .slice an a.2.2.2.length cn] := by
  obtain ⟨ve, vl, vs, rfl, h1, h2, h3⟩ := h
  obtain ⟨ae, ce, rfl, _⟩ := h1.form
  obtain ⟨al, cl, rfl, _⟩ := h2.form
  obtain ⟨an, cn, rfl, _⟩ := h3.form
  exact ⟨_, _, _, _, _, _, rfl⟩
theorem wrN_byt {α : Type} {c : Cdc α} : ∀ (l : List α), (∀ e ∈ l, Byt (c.wr e)) → Byt (wrN c l)
  | [], _ => Byt.nil
  | e :: l, h => by rw [wrN_cons]; exact (h e (by simp)).app (wrN_byt l (fun x hx => h x (by simp [hx])))
theorem text_byt {t : List Int} (h : Byt t) (hl : t.length ≤ 1000000) : Byt (enc t.length ++ t) := (enc_byt _ (by omega) (by omega)).app h
theorem RL.all {α : Type} {R : (Nat → Prop) → World → List Value → α → Prop} {k : Nat} {G : Nat → Prop} {w : World} {v : Value} {ys : List α} (h : RL R k G w v ys) {y : α} (hy : y ∈ ys) : ∃ r, R G w r y := by
  obtain ⟨rows, _, hall⟩ := h
  obtain ⟨i, hi, rfl⟩ := List.getElem_of_mem hy
  have hl := hall.len
  exact ⟨_, hall.get (List.getElem?_eq_getElem (by omega : i < rows.length)) (List.getElem?_eq_getElem hi)⟩
/-- A state's bytes are bytes. -/
theorem snB_byt {G : Nat → Prop} {w : World} {r : List Value} {a : PApp} (h : RApp G w r a) : Byt (snB a) := by
  unfold snB
  split
  · rename_i hg
    obtain ⟨ve, vl, vs, _, h1, h2, h3⟩ := h
    rw [wrA_eq]
    refine (outI_byt _).app (((outI_byt _).app (wrN_byt _ fun e he => ?_)).app (((outI_byt _).app (wrN_byt _ fun e he => ?_)).app ((outI_byt _).app (wrN_byt _ fun e he => ?_))))
    · obtain ⟨r, s, t, _, hs, ht⟩ := h1.all he
      obtain ⟨_, _, _⟩ := hg.2.1.2.2 e he
      rw [wrE_eq]
      exact (text_byt hs.1.1 (by omega)).app (text_byt ht.1.1 (by omega))
    · obtain ⟨r, s, p, q, _, hs, _⟩ := h2.all he
      obtain ⟨⟨_, _⟩, _⟩ := hg.2.2.1.2.2 e he
      rw [wrL_eq]
      exact (text_byt hs.1.1 (by omega)).app ((outI_byt _).app (outI_byt _))
    · obtain ⟨r, c, d, k, s, t, _, hs, rfl⟩ := h3.all he
      obtain ⟨_, _, _, hl⟩ := chk_all hg.2.2.2 _ he
      rw [wrS_eq]
      exact (outI_byt _).app ((outI_byt _).app ((outI_byt _).app (text_byt hs.1.1 (Nat.le_trans hl (by omega)))))
  · exact Byt.nil

end Go.Proofs.YteafgdidjdfiiaaGreat
end

section
set_option linter.unusedVariables false
set_option linter.unusedSimpArgs false
namespace Go.Proofs.YteafgdidjdfiiaaGreat
namespace Kvl
open Oct

/-- From p, wrong or not, to p': if nothing is wrong now, x was read; if something went wrong, there was nothing to be read. -/
def Rdg {α : Type} (rd : List Int → Option (α × List Int)) (l : List Int) (p : Nat) (bad : Bool) (x : α) (p' : Nat) (bad' : Bool) : Prop :=
  p' ≤ l.length ∧ (bad' = false → bad = false ∧ rd (l.drop p) = some (x, l.drop p')) ∧ (bad = false → bad' = true → rd (l.drop p) = none)
variable {α β : Type} {l : List Int} {p p1 p2 : Nat} {b b1 b2 : Bool}
theorem Rdg.pair {c : Cdc α} {d : Cdc β} {x : α} {y : β} (h : Rdg c.rd l p b x p1 b1) (k : Rdg d.rd l p1 b1 y p2 b2) : Rdg (cP c d).rd l p b (x, y) p2 b2 := by
  refine ⟨k.1, fun e => ?_, fun e1 e2 => ?_⟩
  · obtain ⟨e1, e2⟩ := k.2.1 e
    obtain ⟨e3, e4⟩ := h.2.1 e1
    exact ⟨e3, by simp only [cP]; rw [e4]; simp only [Option.bind_some]; rw [e2]; rfl⟩
  · cases b1 with
    | true => simp only [cP]; rw [h.2.2 e1 rfl]; rfl
    | false => simp only [cP]; rw [(h.2.1 rfl).2]; simp only [Option.bind_some]; rw [k.2.2 rfl e2]; rfl
theorem Rdg.view [DecidableEq β] {c : Cdc α} {x : α} (h : Rdg c.rd l p b x p1 b1) (f : α → β) (g : β → α) : Rdg (cV c f g).rd l p b (f x) p1 b1 := by
  refine ⟨h.1, fun e => ?_, fun e1 e2 => ?_⟩
  · obtain ⟨e3, e4⟩ := h.2.1 e
    exact ⟨e3, by simp only [cV]; rw [e4]; rfl⟩
  · simp only [cV]; rw [h.2.2 e1 e2]; rfl
theorem Rdg.nil {c : Cdc α} (hp : p ≤ l.length) : Rdg (rdN c 0) l p b [] p b := ⟨hp, fun e => ⟨e, rfl⟩, fun e1 e2 => by rw [e1] at e2; cases e2⟩
theorem Rdg.snoc {c : Cdc α} {i : Nat} {xs : List α} {y : α} (h : Rdg (rdN c i) l p b xs p1 b1) (k : Rdg c.rd l p1 b1 y p2 b2) : Rdg (rdN c (i + 1)) l p b (xs ++ [y]) p2 b2 := by
  refine ⟨k.1, fun e => ?_, fun e1 e2 => ?_⟩
  · obtain ⟨e1, e2⟩ := k.2.1 e
    obtain ⟨e3, e4⟩ := h.2.1 e1
    exact ⟨e3, by rw [rdN_snoc, e4]; simp only [Option.bind_some]; rw [e2]; rfl⟩
  · rw [rdN_snoc]
    cases b1 with
    | true => rw [h.2.2 e1 rfl]; rfl
    | false => rw [(h.2.1 rfl).2]; simp only [Option.bind_some]; rw [k.2.2 rfl e2]; rfl
/-- A number of at most m. -/
def rdM (m : Int) (l : List Int) : Option (Int × List Int) := (cN.rd l).bind fun x => if m < x.1 then none else some x
theorem Rdg.list {m n : Int} {c : Cdc α} {xs : List α} (h : Rdg (Kvl.rdM m) l p b n p1 b1) (k : Rdg (rdN c n.toNat) l p1 b1 xs p2 b2) : Rdg (cLm m c).rd l p b xs p2 b2 := by
  have e0 : ∀ z, (cLm m c).rd z = (Kvl.rdM m z).bind fun x => rdN c x.1.toNat x.2 := fun z => by
    simp only [cLm, Kvl.rdM]
    cases cN.rd z with
    | none => rfl
    | some x =>
      simp only [Option.bind_some]
      split <;> rfl
  refine ⟨k.1, fun e => ?_, fun e1 e2 => ?_⟩
  · obtain ⟨e1, e2⟩ := k.2.1 e
    obtain ⟨e3, e4⟩ := h.2.1 e1
    exact ⟨e3, by rw [e0, e4]; simp only [Option.bind_some]; exact e2⟩
  · rw [e0]
    cases b1 with
    | true => rw [h.2.2 e1 rfl]; rfl
    | false => rw [(h.2.1 rfl).2]; simp only [Option.bind_some]; exact k.2.2 rfl e2
theorem Rdg.numOk {n : Int} {p' : Nat} (h1 : cN.rd (l.drop p) = some (n, l.drop p')) (h2 : p' ≤ l.length) : Rdg cN.rd l p b n p' b := ⟨h2, fun e => ⟨e, h1⟩, fun e1 e2 => by rw [e1] at e2; cases e2⟩
theorem Rdg.no {rd : List Int → Option (α × List Int)} {x : α} (h1 : rd (l.drop p) = none) (h2 : p ≤ l.length) : Rdg rd l p b x p true := ⟨h2, fun e => (by cases e), fun _ _ => h1⟩
theorem Rdg.ok {rd : List Int → Option (α × List Int)} {x : α} {p' : Nat} (h1 : rd (l.drop p) = some (x, l.drop p')) (h2 : p' ≤ l.length) : Rdg rd l p b x p' b := ⟨h2, fun e => ⟨e, h1⟩, fun e1 e2 => by rw [e1] at e2; cases e2⟩
theorem Rdg.most {m n : Int} (h : Rdg cN.rd l p b n p1 b1) (hm : ¬ m < n) : Rdg (Kvl.rdM m) l p b n p1 b1 :=
  ⟨h.1, fun e => ⟨(h.2.1 e).1, by unfold Kvl.rdM; rw [(h.2.1 e).2]; simp only [Option.bind_some]; rw [if_neg hm]⟩, fun e1 e2 => by unfold Kvl.rdM; rw [h.2.2 e1 e2]; rfl⟩
theorem Rdg.over {m n x : Int} (h : Rdg cN.rd l p b n p1 b1) (hm : m < n) : Rdg (Kvl.rdM m) l p b x p1 true :=
  ⟨h.1, fun e => (by cases e), fun e1 _ => by
    unfold Kvl.rdM
    cases b1 with
    | true => rw [h.2.2 e1 rfl]; rfl
    | false => rw [(h.2.1 rfl).2]; simp only [Option.bind_some]; rw [if_pos hm]⟩
theorem gBm {m : Int} (hb : Byt l) (hp : p ≤ l.length) :
    ((cTm m).rd (l.drop p) = none ∧ getB l p m = ([], 0, 11)) ∨ ∃ t p', (cTm m).rd (l.drop p) = some (t, l.drop p') ∧ getB l p m = (t, ((p' : Nat) : Int), 0) ∧ p' ≤ l.length := by
  cases hn : num (l.drop p) with
  | none => exact .inl ⟨by simp [cTm, hn], by unfold getB; rw [getI_none p hp hn]; simp⟩
  | some nk =>
    obtain ⟨n, k⟩ := nk
    obtain ⟨n0, n1, _, _, kl, _⟩ := num_some (hb.drop p) hn
    rw [List.length_drop] at kl
    obtain ⟨j, rfl⟩ := Int.eq_ofNat_of_zero_le n0
    have hg := getI_some p hp hn
    by_cases hc : m < (j : Int) ∨ ((l.drop p).length : Int) - k < (j : Int)
    · refine .inl ⟨by simp only [cTm, hn, Option.bind_some]; rw [if_pos hc], ?_⟩
      unfold getB
      rw [hg, if_pos]
      rw [List.length_drop] at hc
      simp only
      omega
    · rw [List.length_drop] at hc
      refine .inr ⟨((l.drop p).drop k).take j, p + k + j, ?_, ?_, by omega⟩
      · simp only [cTm, hn, Option.bind_some]
        rw [if_neg (by rw [List.length_drop]; exact hc)]
        simp [Nat.add_assoc]
      · unfold getB
        rw [hg, if_neg (by simp only; omega)]
        simp only [Prod.mk.injEq]
        refine ⟨?_, by omega, trivial⟩
        rw [List.drop_drop, Int.toNat_natCast]
        congr 2
/-- All was read: what it comes to. -/
theorem Rdg.whole {c : Cdc PApp} {a : PApp} (h : Rdg c.rd l 0 false a p b) : rdA c l = if (b = false ∧ p = l.length) ∧ rgtA a then some a else none := by
  have e0 : l.drop 0 = l := rfl
  unfold rdA
  cases b with
  | true =>
    have := h.2.2 rfl rfl
    rw [e0] at this
    rw [this]
    simp
  | false =>
    have := (h.2.1 rfl).2
    rw [e0] at this
    rw [this]
    by_cases hp : p = l.length
    · rw [hp, List.drop_length]
      simp
    · have hd : l.drop p ≠ [] := by have := h.1; simp; omega
      rw [if_neg (fun hh => hp hh.1.2)]
      cases hx : l.drop p with
      | nil => exact absurd hx hd
      | cons x r => rfl
end Kvl
end Go.Proofs.YteafgdidjdfiiaaGreat
end

section
set_option linter.unusedVariables false
set_option linter.unusedSimpArgs false
namespace Go.Proofs.YteafgdidjdfiiaaGreat
open Go.RowKit Oct Kvl

/-- Two blocks may have turned, and new ones come. -/
structure Chg (k3 k4 : Nat) (w w' : World) : Prop where
  os : w'.os = w.os
  tape : w'.tape = w.tape
  output : w'.output = w.output
  size : w.heap.size ≤ w'.heap.size
  block : ∀ k, k < w.heap.size → k ≠ k3 → k ≠ k4 → w'.heap[k]? = w.heap[k]?
theorem Chg.below {k3 k4 : Nat} {w w' : World} (h : Below w.heap.size w w') : Chg k3 k4 w w' := ⟨h.os, h.tape, h.output, h.size, fun k hk _ _ => h.block k hk⟩
theorem Chg.trans {k3 k4 : Nat} {w w1 w2 : World} (h : Chg k3 k4 w w1) (k : Chg k3 k4 w1 w2) : Chg k3 k4 w w2 :=
  ⟨k.os.trans h.os, k.tape.trans h.tape, k.output.trans h.output, Nat.le_trans h.size k.size, fun j hj h3 h4 => (k.block j (Nat.lt_of_lt_of_le hj h.size) h3 h4).trans (h.block j hj h3 h4)⟩
theorem Chg.set3 {k3 k4 : Nat} {w w' : World} (h : w.grownBy w' (some k3)) : Chg k3 k4 w w' := ⟨h.os, h.tape, h.output, h.size, fun k hk h3 _ => h.block k hk (fun e => h3 (by injection e))⟩
theorem Chg.set4 {k3 k4 : Nat} {w w' : World} (h : w.grownBy w' (some k4)) : Chg k3 k4 w w' := ⟨h.os, h.tape, h.output, h.size, fun k hk _ h4 => h.block k hk (fun e => h4 (by injection e))⟩
theorem Chg.row {k3 k4 : Nat} {w w' : World} (h : Chg k3 k4 w w') {k : Nat} {t : TypeId} {xs : List Value} (hr : Row w k t xs) (h3 : k ≠ k3) (h4 : k ≠ k4) : Row w' k t xs := (h.block k hr.lt h3 h4).trans hr
theorem Chg.bel {k3 k4 B : Nat} {w w' : World} (h : Chg k3 k4 w w') (hB : B ≤ w.heap.size) (h3 : B ≤ k3) (h4 : B ≤ k4) : Below B w w' := ⟨h.os, h.tape, h.output, h.size, fun k hk => h.block k (Nat.lt_of_lt_of_le hk hB) (by omega) (by omega)⟩
theorem Chg.mv {k3 k4 B : Nat} {w w' : World} (h : Chg k3 k4 w w') (h3 : k3 < B) (h4 : k4 < B) : Mv (From B) (From B) w w' := fun k hk hlt => ⟨h.block k hlt (fun e => by unfold From at hk; omega) (fun e => by unfold From at hk; omega), hk⟩
theorem LB.chg {α : Type} {R : (Nat → Prop) → World → List Value → α → Prop} (hR : Mov R) {t : TypeId} {k B k3 k4 : Nat} {w w' : World} {v : Value} {ys : List α} (h : LB R t k B w v ys) (hc : Chg k3 k4 w w') (h3 : k3 < B) (h4 : k4 < B) : LB R t k B w' v ys := by
  obtain ⟨rows, h0, h1, h2, hall⟩ := h
  refine ⟨rows, h0, ?_, h2, hall.mono fun r a h => hR _ _ w w' r a h hc.size fun j hj hlt => ⟨hc.block j hlt (by have := hj.1; omega) (by have := hj.1; omega), hj⟩⟩
  refine ⟨h1.1, ?_⟩
  rcases h1.2 with hn | ⟨g, cap, cur, e, g1, g2, g3⟩
  · exact .inl hn
  · have hg := h2 g (by rw [e]; rfl)
    refine .inr ⟨g, cap, cur, e, g1, ?_, g3⟩
    have hlt := (World.ownsRow.lt h1 g (by rw [e]; rfl)).2
    rw [hc.block g hlt (by omega) (by omega)]
    exact g2

/-- A reader: its boxes; it stands at p, and something was wrong or not. -/
structure Rdr (k1 k3 k4 k5 k6 : Nat) (w : World) (bv : Value) (l : List Int) (p : Nat) (bad : Bool) : Prop where
  r1 : Row w k1 28 [bv]
  r3 : Row w k3 3 [.int .i64 p]
  r4 : Row w k4 4 [.bool bad]
  r5 : Row w k5 114 [.func (.func 61) #[] #[.pointer (some ⟨k3, 0, none⟩), .pointer (some ⟨k4, 0, none⟩)]]
  r6 : Row w k6 78 [.func (.func 62) #[] #[.pointer (some ⟨k1, 0, none⟩), .pointer (some ⟨k3, 0, none⟩), .pointer (some ⟨k5, 0, none⟩)]]
  rd : RT (fun k => k ≠ k3 ∧ k ≠ k4) w bv l
  hp : p ≤ l.length
  hl : l.length ≤ 140737488355300
theorem Rdr.below {k1 k3 k4 k5 k6 : Nat} {w w' : World} {bv : Value} {l : List Int} {p : Nat} {bad : Bool} (h : Rdr k1 k3 k4 k5 k6 w bv l p bad) (hb : Below w.heap.size w w') : Rdr k1 k3 k4 k5 k6 w' bv l p bad :=
  ⟨h.r1.below hb, h.r3.below hb, h.r4.below hb, h.r5.below hb, h.r6.below hb, h.rd.mv (Mv.belowG hb), h.hp, h.hl⟩
theorem Rdr.chg {k1 k3 k4 k5 k6 : Nat} {w w' : World} {bv : Value} {l : List Int} {p p' : Nat} {bad bad' : Bool} (h : Rdr k1 k3 k4 k5 k6 w bv l p bad) (hc : Chg k3 k4 w w') (h3 : Row w' k3 3 [.int .i64 p']) (h4 : Row w' k4 4 [.bool bad']) (hp : p' ≤ l.length) : Rdr k1 k3 k4 k5 k6 w' bv l p' bad' :=
  ⟨hc.row h.r1 (h.r1.apart h.r3 (by decide)) (h.r1.apart h.r4 (by decide)), h3, h4, hc.row h.r5 (h.r5.apart h.r3 (by decide)) (h.r5.apart h.r4 (by decide)), hc.row h.r6 (h.r6.apart h.r3 (by decide)) (h.r6.apart h.r4 (by decide)),
    h.rd.mv (fun k hk hlt => ⟨hc.block k hlt hk.1 hk.2, hk⟩), hp, h.hl⟩
/-- A row beside it is written. -/
theorem Rdr.grown {k1 k3 k4 k5 k6 : Nat} {w w' : World} {bv : Value} {l : List Int} {p : Nat} {bad : Bool} (h : Rdr k1 k3 k4 k5 k6 w bv l p bad) {b : Nat} (hg : w.grownBy w' (some b)) (hn : b ≠ k1 ∧ b ≠ k3 ∧ b ≠ k4 ∧ b ≠ k5 ∧ b ≠ k6) (hv : l ≠ [] → bv.ownBlock ≠ some b) : Rdr k1 k3 k4 k5 k6 w' bv l p bad := by
  have ne : ∀ j, b ≠ j → some b ≠ some j := fun j hj e => hj (by injection e)
  refine ⟨h.r1.grown hg (ne _ hn.1), h.r3.grown hg (ne _ hn.2.1), h.r4.grown hg (ne _ hn.2.2.1), h.r5.grown hg (ne _ hn.2.2.2.1), h.r6.grown hg (ne _ hn.2.2.2.2), ⟨h.rd.1.grown hg (fun hx k hk => by injection hk with hk; subst hk; exact hv hx), h.rd.2⟩, h.hp, h.hl⟩

set_option maxRecDepth 10000 in
set_option maxHeartbeats 800000 in
theorem pass_any (k3 k4 : Nat) (w : World) (p : Int) (bad : Bool) (r3 : Row w k3 3 [.int .i64 p]) (r4 : Row w k4 4 [.bool bad]) (nx er : Int) :
    Calls Tryz.prog 61 #[.int .i64 nx, .int .i64 er, .pointer (some ⟨k3, 0, none⟩), .pointer (some ⟨k4, 0, none⟩)] w fun e w' => e = .returned (.tuple #[]) ∧ Chg k3 k4 w w' ∧
      Row w' k3 3 [.int .i64 (if er = 0 then nx else p)] ∧ Row w' k4 4 [.bool (if er = 0 then bad else true)] := by
  have hne := r3.apart r4 (by decide)
  by_cases he : er = 0
  · subst he
    go_enter Tryz.func61, Tryz.ntmps61
    go_wp2_with (refine wl_set rfl _ _ _ rfl k3 0 _ rfl rfl _ _ r3 (show 0 < 1 by decide) (by kernel_rfl) rfl ?_; intro w3 hr3 hg3)
    go_end0
    exact ⟨rfl, Chg.set3 hg3, hr3.out, r4.grown hg3 (fun e => hne (by injection e))⟩
  · have hb : (er == 0) = false := by simpa using he
    rw [if_neg he, if_neg he]
    go_enter Tryz.func61, Tryz.ntmps61
    go_wp2_with (refine wl_set rfl _ _ _ rfl k4 0 _ rfl rfl _ _ r4 (show 0 < 1 by decide) (by kernel_rfl) rfl ?_; intro w3 hr3 hg3)
    go_end0
    exact ⟨rfl, Chg.set4 hg3, r3.grown hg3 (fun e => hne (by injection e with e; exact e.symm)), hr3.out⟩

set_option maxRecDepth 10000 in
set_option maxHeartbeats 800000 in
theorem rNum_any {k1 k3 k4 k5 k6 : Nat} {w : World} {bv : Value} {l : List Int} {p : Nat} {bad : Bool} (h : Rdr k1 k3 k4 k5 k6 w bv l p bad) :
    Calls Tryz.prog 62 #[.pointer (some ⟨k1, 0, none⟩), .pointer (some ⟨k3, 0, none⟩), .pointer (some ⟨k5, 0, none⟩)] w fun e w' => ∃ n p' bad', e = .returned (.int .i64 n) ∧ (0 ≤ n ∧ n ≤ 2147483647) ∧ Rdg cN.rd l p bad n p' bad' ∧ Rdr k1 k3 k4 k5 k6 w' bv l p' bad' ∧ Chg k3 k4 w w' := by
  have hG := getInt_any w bv l p h.rd.1 (by have := h.hl; omega)
  have c1 := h.r1.cell (j := 0) rfl
  have c3 := h.r3.cell (j := 0) rfl
  have c5 := h.r5.cell (j := 0) rfl
  obtain ⟨n, nx, er, hg, hn, hq⟩ : ∃ n nx er, getI l p = (n, nx, er) ∧ (0 ≤ n ∧ n ≤ 2147483647) ∧ ∃ p' bad', (if er = 0 then nx else (p : Int)) = ((p' : Nat) : Int) ∧ (if er = 0 then bad else true) = bad' ∧ Rdg cN.rd l p bad n p' bad' := by
    rcases gI h.rd.1.1 h.hp with ⟨h1, g1⟩ | ⟨n, p', h1, g1, q1⟩
    · exact ⟨0, 0, 11, g1, by omega, p, true, by simp, by simp, Rdg.no h1 h.hp⟩
    · have hb := okI_bd (cN_law.bwd _ _ _ (h.rd.1.1.drop p) h1).1
      exact ⟨n, _, 0, g1, hb, p', bad, by simp, by simp, Rdg.ok h1 q1⟩
  obtain ⟨p', bad', e1, e2, hR⟩ := hq
  rw [hg] at hG
  have hP := pass_any k3 k4 w p bad h.r3 h.r4 nx er
  rw [e1, e2] at hP
  clear hg e1 e2
  go_enter Tryz.func62, Tryz.ntmps62
  go_wp2_with (first
    | (go_at_call 63; refine hG.mono ?_; rintro e w ⟨rfl, rfl⟩)
    | (go_at_call 61; refine hP.mono ?_; rintro e w2 ⟨rfl, hc2, q3, q4⟩))
  go_ret
  exact ⟨n, p', bad', rfl, hn, hR, h.chg hc2 q3 q4 hR.1, hc2⟩

set_option maxRecDepth 10000 in
set_option maxHeartbeats 800000 in
theorem rText_any {k1 k3 k4 k5 k6 : Nat} {w : World} {bv : Value} {l : List Int} {p : Nat} {bad : Bool} (h : Rdr k1 k3 k4 k5 k6 w bv l p bad) (m : Int) :
    Calls Tryz.prog 65 #[.int .i64 m, .pointer (some ⟨k1, 0, none⟩), .pointer (some ⟨k3, 0, none⟩), .pointer (some ⟨k5, 0, none⟩)] w fun e w' => ∃ v t p' bad', e = .returned v ∧ OT (From w.heap.size) w' v t ∧ Rdg (cTm m).rd l p bad t p' bad' ∧ Rdr k1 k3 k4 k5 k6 w' bv l p' bad' ∧ Chg k3 k4 w w' := by
  have hG := getBytes_any w bv l p m h.rd.1 h.hl
  have hby := getB_byt l p m h.rd.1.1
  have c1 := h.r1.cell (j := 0) rfl
  have c3 := h.r3.cell (j := 0) rfl
  obtain ⟨t, nx, er, hg, hq⟩ : ∃ t nx er, getB l p m = (t, nx, er) ∧ ∃ p' bad', (if er = 0 then nx else (p : Int)) = ((p' : Nat) : Int) ∧ (if er = 0 then bad else true) = bad' ∧ Rdg (cTm m).rd l p bad t p' bad' := by
    rcases gBm (m := m) h.rd.1.1 h.hp with ⟨h1, g1⟩ | ⟨n, p', h1, g1, q1⟩
    · exact ⟨[], 0, 11, g1, p, true, by simp, by simp, Rdg.no h1 h.hp⟩
    · exact ⟨n, _, 0, g1, p', bad, by simp, by simp, Rdg.ok h1 q1⟩
  obtain ⟨p', bad', e1, e2, hR⟩ := hq
  rw [hg] at hG hby
  have HP := (show Hid (∀ u, Below w.heap.size w u → Calls Tryz.prog 61 #[.int .i64 nx, .int .i64 er, .pointer (some ⟨k3, 0, none⟩), .pointer (some ⟨k4, 0, none⟩)] u fun e w' => e = .returned (.tuple #[]) ∧ Chg k3 k4 u w' ∧ Row w' k3 3 [.int .i64 p'] ∧ Row w' k4 4 [.bool bad']) from fun u hu => by
    have := pass_any k3 k4 u p bad (h.r3.below hu) (h.r4.below hu) nx er
    rw [e1, e2] at this
    exact this)
  clear hg e1 e2
  go_enter Tryz.func65, Tryz.ntmps65
  go_wp2_with (first
    | (go_at_call 55; refine hG.mono ?_; rintro e w1 ⟨v1, rfl, ho1, hf1, hb1⟩; obtain ⟨a1, cp1, e1, hcp1⟩ := ho1.form; subst e1; have c5 := (h.r5.below hb1).cell (j := 0) rfl)
    | (go_at_call 61; refine (HP.out w1 hb1).mono ?_; rintro e w2 ⟨rfl, hc2, q3, q4⟩))
  go_ret
  have h3 := h.r3.lt
  have h4 := h.r4.lt
  have hot : OT (From w.heap.size) w1 _ t := ⟨ho1, hby, hf1⟩
  exact ⟨_, t, p', bad', rfl, hot.mv (hc2.mv h3 h4), hR, (h.below hb1).chg hc2 q3 q4 hR.1, (Chg.below hb1).trans hc2⟩

def RCp (k1 k3 k4 k5 k6 : Nat) (w : World) (bv : Value) (l : List Int) (p : Nat) (bad : Bool) (m : Int) (e : Ending) (w' : World) : Prop :=
  ∃ n p' bad', e = .returned (.int .i64 n) ∧ (0 ≤ n ∧ n ≤ m) ∧ Rdg (Kvl.rdM m) l p bad n p' bad' ∧ Rdr k1 k3 k4 k5 k6 w' bv l p' bad' ∧ Chg k3 k4 w w'
set_option maxRecDepth 10000 in
set_option maxHeartbeats 800000 in
theorem rCnt_any {k1 k3 k4 k5 k6 : Nat} {w : World} {bv : Value} {l : List Int} {p : Nat} {bad : Bool} (h : Rdr k1 k3 k4 k5 k6 w bv l p bad) (m : Int) (hm : 0 ≤ m) :
    Calls Tryz.prog 64 #[.int .i64 m, .pointer (some ⟨k6, 0, none⟩), .pointer (some ⟨k4, 0, none⟩)] w fun e w' => ∃ n p' bad', e = .returned (.int .i64 n) ∧ (0 ≤ n ∧ n ≤ m) ∧ Rdg (Kvl.rdM m) l p bad n p' bad' ∧ Rdr k1 k3 k4 k5 k6 w' bv l p' bad' ∧ Chg k3 k4 w w' := by
  have hN := rNum_any h
  have c6 := h.r6.cell (j := 0) rfl
  suffices H : Calls Tryz.prog 64 #[.int .i64 m, .pointer (some ⟨k6, 0, none⟩), .pointer (some ⟨k4, 0, none⟩)] w (RCp k1 k3 k4 k5 k6 w bv l p bad m) from H.mono fun e w' h => h
  go_enter Tryz.func64, Tryz.ntmps64
  go_upto_region 2 with (go_at_call 62; refine hN.mono ?_; rintro e w1 ⟨n, p', bad', rfl, hn, hR, hr1, hc1⟩)
  by_cases hmn : n ≤ m
  · have hd : decide (n ≤ m) = true := by simpa using hmn
    go_wp2_with fail
    go_ret
    exact ⟨n, p', bad', rfl, ⟨hn.1, hmn⟩, hR.most (by omega), hr1, hc1⟩
  · have hd : decide (n ≤ m) = false := by simpa using hmn
    have r4 := hr1.r4
    go_wp2_with (refine wl_set rfl _ _ _ rfl k4 0 _ rfl rfl _ _ r4 (show 0 < 1 by decide) (by kernel_rfl) rfl ?_; intro w3 hr3 hg3)
    go_ret
    have hc3 : Chg k3 k4 w1 w3 := Chg.set4 hg3
    exact ⟨0, p', true, rfl, ⟨by omega, hm⟩, hR.over (by omega), hr1.chg hc3 (hr1.r3.grown hg3 (fun e => hr1.r3.apart hr1.r4 (by decide) (by injection e with e; exact e.symm))) hr3.out hR.1, hc1.trans hc3⟩

set_option maxRecDepth 10000 in
set_option maxHeartbeats 800000 in
theorem rEnd_any {k1 k3 k4 k5 k6 : Nat} {w : World} {bv : Value} {l : List Int} {p : Nat} {bad : Bool} (h : Rdr k1 k3 k4 k5 k6 w bv l p bad) :
    Calls Tryz.prog 66 #[.pointer (some ⟨k4, 0, none⟩), .pointer (some ⟨k3, 0, none⟩), .pointer (some ⟨k1, 0, none⟩)] w fun e w' => e = .returned (.bool (decide (bad = false ∧ p = l.length))) ∧ w' = w := by
  have c1 := h.r1.cell (j := 0) rfl
  have c3 := h.r3.cell (j := 0) rfl
  have c4 := h.r4.cell (j := 0) rfl
  obtain ⟨ab, cb, e, hcb⟩ := h.rd.form
  subst e
  have hd : decide (bad = false ∧ p = l.length) = (!bad && ((p : Int) == (l.length : Int))) := by
    cases bad with
    | true => simp
    | false =>
      by_cases hp : p = l.length
      · simp [hp]
      · have : ¬ ((p : Int) = (l.length : Int)) := by omega
        simp [hp, this]
  rw [hd]
  clear hd h hcb
  cases bad with
  | true =>
    go_enter Tryz.func66, Tryz.ntmps66
    go_wp2_with fail
    go_ret
    exact ⟨rfl, rfl⟩
  | false =>
    go_enter Tryz.func66, Tryz.ntmps66
    go_wp2_with fail
    go_ret
    exact ⟨rfl, rfl⟩
end Go.Proofs.YteafgdidjdfiiaaGreat
end
