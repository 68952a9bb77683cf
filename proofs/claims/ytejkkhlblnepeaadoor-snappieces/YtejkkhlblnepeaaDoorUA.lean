/- snap.Encode. (Made by mk10.py.) -/
import Derived.Test.YtejkkhlblnepeaaDoorXA
import Derived.Test.YtejkkhlblnepeaaDoorXB
import Derived.Test.YtejkkhlblnepeaaDoorW3
import Derived.Deep.RegionLaw
section
set_option linter.unusedVariables false
set_option linter.unusedSimpArgs false
namespace Go.Proofs.YtejkkhlblnepeaaDoor
namespace Kvl
open Oct

/-- Texts of at most m bytes. -/
def cTm (m : Int) : Cdc (List Int) := ⟨fun t => decide ((t.length : Int) ≤ m), fun t => enc t.length ++ t,
  fun l => (num l).bind fun nk => if m < nk.1 ∨ (l.length : Int) - nk.2 < nk.1 then none else some ((l.drop nk.2).take nk.1.toNat, (l.drop nk.2).drop nk.1.toNat)⟩
theorem cTm_law {m : Int} (hm : m ≤ 2147483647) : (cTm m).Law where
  fwd a r h := by
    have hb : (a.length : Int) ≤ m := by simpa [cTm] using h
    simp only [cTm]
    rw [List.append_assoc, num_enc (a.length : Int) (a ++ r) (by omega) (by omega)]
    simp only [Option.bind_some, List.length_append]
    rw [if_neg (by omega)]
    simp
  bwd l a r hl h := by
    simp only [cTm] at h ⊢
    cases hn : num l with
    | none => rw [hn] at h; cases h
    | some nk =>
      obtain ⟨n, k⟩ := nk
      rw [hn] at h
      simp only [Option.bind_some] at h
      obtain ⟨h0, h1, k1, k5, kl, ht⟩ := num_some hl hn
      by_cases hc : m < n ∨ (l.length : Int) - k < n
      · rw [if_pos hc] at h; cases h
      · rw [if_neg hc] at h
        simp only [Option.some.injEq, Prod.mk.injEq] at h
        obtain ⟨rfl, rfl⟩ := h
        have hlen : ((l.drop k).take n.toNat).length = n.toNat := by rw [List.length_take, List.length_drop]; omega
        rw [hlen]
        refine ⟨by simp; omega, ?_⟩
        rw [show ((n.toNat : Nat) : Int) = n by omega, ← ht, List.append_assoc, List.take_append_drop, List.take_append_drop]
/-- Lists of at most m items. -/
def cLm {α : Type} (m : Int) (c : Cdc α) : Cdc (List α) :=
  ⟨fun xz => decide ((xz.length : Int) ≤ m) && xz.all c.ok, fun xz => outI xz.length ++ wrN c xz, fun l => (cN.rd l).bind fun x => if m < x.1 then none else rdN c x.1.toNat x.2⟩
theorem cLm_law {α : Type} {m : Int} {c : Cdc α} (hm : m ≤ 2147483647) (h : c.Law) : (cLm m c).Law where
  fwd xz r ho := by
    simp only [cLm, Bool.and_eq_true, decide_eq_true_eq] at ho ⊢
    rw [List.append_assoc]
    have h1 : cN.rd (outI (xz.length : Int) ++ (wrN c xz ++ r)) = some ((xz.length : Int), wrN c xz ++ r) := cN_law.fwd (xz.length : Int) _ (okI_yes (by omega) (by omega))
    rw [h1]
    simp only [Option.bind_some]
    rw [if_neg (by omega), Int.toNat_natCast, rdN_fwd h xz r ho.2]
  bwd l xz r hl e := by
    simp only [cLm, Bool.and_eq_true, decide_eq_true_eq] at e ⊢
    cases h1 : cN.rd l with
    | none => rw [h1] at e; cases e
    | some x =>
      obtain ⟨n, l1⟩ := x
      rw [h1] at e
      simp only [Option.bind_some] at e
      obtain ⟨o1, e1⟩ := cN_law.bwd l n l1 hl h1
      have hn := okI_bd o1
      by_cases hc : m < n
      · rw [if_pos hc] at e; cases e
      · rw [if_neg hc] at e
        obtain ⟨o2, e2, e3⟩ := rdN_bwd h n.toNat l1 xz r (by rw [e1] at hl; exact hl.right) e
        refine ⟨⟨by omega, o2⟩, ?_⟩
        rw [e2, show ((n.toNat : Nat) : Int) = n by omega, List.append_assoc, ← e3, e1]
        rfl
/-- The same in other words. -/
def cV {α β : Type} [DecidableEq β] (c : Cdc α) (f : α → β) (g : β → α) : Cdc β := ⟨fun b => decide (f (g b) = b) && c.ok (g b), fun b => c.wr (g b), fun l => (c.rd l).map fun x => (f x.1, x.2)⟩
theorem cV_law {α β : Type} [DecidableEq β] {c : Cdc α} {f : α → β} {g : β → α} (h : c.Law) (hg : ∀ a, g (f a) = a) : (cV c f g).Law where
  fwd b r ho := by
    simp only [cV, Bool.and_eq_true, decide_eq_true_eq] at ho ⊢
    rw [h.fwd _ _ ho.2, Option.map_some, ho.1]
  bwd l b r hl e := by
    simp only [cV, Bool.and_eq_true, decide_eq_true_eq] at e ⊢
    cases h1 : c.rd l with
    | none => rw [h1] at e; cases e
    | some x =>
      rw [h1] at e
      simp only [Option.map_some, Option.some.injEq, Prod.mk.injEq] at e
      obtain ⟨rfl, rfl⟩ := e
      obtain ⟨o1, e1⟩ := h.bwd l x.1 x.2 hl h1
      rw [hg]
      exact ⟨⟨rfl, o1⟩, e1⟩

def fLe (x : List Int × Int × Int) : PEnt := (x.1, [x.2.1, x.2.2])
def gLe (e : PEnt) : List Int × Int × Int := (e.1, lo e.2, lu e.2)
def fSe (x : Int × Int × Int × List Int) : PEnt := ([x.1], x.2.1 :: x.2.2.1 :: x.2.2.2)
def gSe (e : PEnt) : Int × Int × Int × List Int := (sc e, lo e.2, lu e.2, sv e)
def cEn (n v : Int) : Cdc PEnt := cP (cTm n) (cTm v)
def cLe (n : Int) : Cdc PEnt := cV (cP (cTm n) (cP cN cN)) fLe gLe
def cSe (v : Int) : Cdc PEnt := cV (cP cN (cP cN (cP cN (cTm v)))) fSe gSe
/-- A state: texts of at most n and v bytes, so many entries, leases, sessions. -/
def cAp (n v e l s : Int) : Cdc PApp := cP cN (cP (cLm e (cEn n v)) (cP (cLm l (cLe n)) (cLm s (cSe v))))
theorem cEn_law {n v : Int} (h1 : n ≤ 2147483647) (h2 : v ≤ 2147483647) : (cEn n v).Law := cP_law (cTm_law h1) (cTm_law h2)
theorem cLe_law {n : Int} (h1 : n ≤ 2147483647) : (cLe n).Law := cV_law (cP_law (cTm_law h1) (cP_law cN_law cN_law)) (fun _ => rfl)
theorem cSe_law {v : Int} (h1 : v ≤ 2147483647) : (cSe v).Law := cV_law (cP_law cN_law (cP_law cN_law (cP_law cN_law (cTm_law h1)))) (fun _ => rfl)
theorem cAp_law {n v e l s : Int} (h1 : n ≤ 2147483647) (h2 : v ≤ 2147483647) (h3 : e ≤ 2147483647) (h4 : l ≤ 2147483647) (h5 : s ≤ 2147483647) : (cAp n v e l s).Law :=
  cP_law cN_law (cP_law (cLm_law h3 (cEn_law h1 h2)) (cP_law (cLm_law h4 (cLe_law h1)) (cLm_law h5 (cSe_law h2))))

def wrE (e : PEnt) : List Int := (cEn 16 64).wr e
def wrL (e : PEnt) : List Int := (cLe 16).wr e
def wrS (e : PEnt) : List Int := (cSe 64).wr e
/-- A state's bytes. -/
def wrA (a : PApp) : List Int := (cAp 16 64 64 16 4).wr a
theorem wrA_any (n v e l s : Int) (a : PApp) : (cAp n v e l s).wr a = wrA a := rfl
theorem wrA_eq (a : PApp) : wrA a = outI a.1 ++ ((outI a.2.1.length ++ wrN (cEn 16 64) a.2.1) ++ ((outI a.2.2.1.length ++ wrN (cLe 16) a.2.2.1) ++ (outI a.2.2.2.length ++ wrN (cSe 64) a.2.2.2))) := rfl
theorem wrE_eq (e : PEnt) : (cEn 16 64).wr e = (enc e.1.length ++ e.1) ++ (enc e.2.length ++ e.2) := rfl
theorem wrL_eq (e : PEnt) : (cLe 16).wr e = (enc e.1.length ++ e.1) ++ (outI (lo e.2) ++ outI (lu e.2)) := rfl
theorem wrS_eq (e : PEnt) : (cSe 64).wr e = outI (sc e) ++ (outI (lo e.2) ++ (outI (lu e.2) ++ (enc (sv e).length ++ sv e))) := rfl

/-- Leases have this form. -/
def wfS (l : List PEnt) : Prop := ∀ e ∈ l, ∃ p q, e.2 = [p, q]
def wfA (a : PApp) : Prop := wfS a.2.2.1 ∧ wfN a.2.2.2
theorem rgt_ok {n v e l s : Int} {a : PApp} (hn : 16 ≤ n) (hv : 64 ≤ v) (he : 64 ≤ e) (hl : 16 ≤ l) (hs : 4 ≤ s) (hw : wfA a) (h : rgtA a) : (cAp n v e l s).ok a = true := by
  obtain ⟨⟨s1, s2⟩, ⟨e1, _, e3⟩, ⟨l1, _, l3⟩, h4⟩ := h
  have h5 := rgn_len h4
  simp only [cAp, cP, cLm, Bool.and_eq_true, decide_eq_true_eq, List.all_eq_true]
  refine ⟨okI_yes s1 (by omega), ⟨by omega, fun x hx => ?_⟩, ⟨by omega, fun x hx => ?_⟩, by omega, fun x hx => ?_⟩
  · obtain ⟨n1, n2, n3⟩ := e3 x hx
    simp only [cEn, cP, cTm, Bool.and_eq_true, decide_eq_true_eq]
    omega
  · obtain ⟨⟨n1, n2⟩, ⟨n3, n4⟩, n5, n6⟩ := l3 x hx
    obtain ⟨p, q, hpq⟩ := hw.1 x hx
    obtain ⟨x1, x2⟩ := x
    dsimp only at hpq
    subst hpq
    simp only [cLe, cV, cP, cTm, Bool.and_eq_true, decide_eq_true_eq]
    simp only [lo, lu, List.headD_cons, List.tail_cons] at n3 n4 n5 n6
    dsimp only at n1 n2
    refine ⟨rfl, ?_, okI_yes ?_ ?_, okI_yes ?_ ?_⟩ <;> simp only [gLe, lo, lu, List.headD_cons, List.tail_cons] <;> omega
  · obtain ⟨c, t, k, y, rfl⟩ := hw.2 x hx
    obtain ⟨⟨n1, n2⟩, ⟨n3, n4⟩, ⟨n5, n6⟩, n7⟩ := chk_all h4 _ hx
    simp only [sc, lo, lu, sv, List.headD_cons, List.tail_cons] at n1 n2 n3 n4 n5 n6 n7
    simp only [cSe, cV, cP, cTm, Bool.and_eq_true, decide_eq_true_eq]
    refine ⟨rfl, okI_yes ?_ ?_, okI_yes ?_ ?_, okI_yes ?_ ?_, ?_⟩ <;> simp only [gSe, sc, lo, lu, sv, List.headD_cons, List.tail_cons] <;> omega
theorem ok_wf {n v e l s : Int} {a : PApp} (h : (cAp n v e l s).ok a = true) : wfA a := by
  simp only [cAp, cP, cLm, Bool.and_eq_true, decide_eq_true_eq, List.all_eq_true] at h
  obtain ⟨_, _, ⟨_, h1⟩, _, h2⟩ := h
  refine ⟨fun x hx => ?_, fun x hx => ?_⟩
  · have := h1 x hx
    simp only [cLe, cV, Bool.and_eq_true, decide_eq_true_eq] at this
    rw [← this.1]
    exact ⟨_, _, rfl⟩
  · have := h2 x hx
    simp only [cSe, cV, Bool.and_eq_true, decide_eq_true_eq] at this
    rw [← this.1]
    exact ⟨_, _, _, _, rfl⟩

/-- Bytes read as a right state, and nothing behind. -/
def rdA (c : Cdc PApp) (l : List Int) : Option PApp := match c.rd l with
  | some (a, []) => if rgtA a then some a else none
  | _ => none
theorem rdA_some {n v e l s : Int} (hn : 16 ≤ n ∧ n ≤ 2147483647) (hv : 64 ≤ v ∧ v ≤ 2147483647) (he : 64 ≤ e ∧ e ≤ 2147483647) (hl : 16 ≤ l ∧ l ≤ 2147483647) (hs : 4 ≤ s ∧ s ≤ 2147483647) {b : List Int} (hb : Byt b) (a : PApp) :
    rdA (cAp n v e l s) b = some a ↔ wfA a ∧ rgtA a ∧ b = wrA a := by
  have hL := cAp_law hn.2 hv.2 he.2 hl.2 hs.2
  constructor
  · intro h
    unfold rdA at h
    split at h
    · rename_i a' hp
      split at h
      · rename_i hr
        injection h with h
        subst h
        obtain ⟨o1, e1⟩ := hL.bwd _ _ _ hb hp
        rw [List.append_nil] at e1
        exact ⟨ok_wf o1, hr, e1⟩
      · cases h
    · cases h
  · rintro ⟨hw, hr, rfl⟩
    have := hL.fwd a [] (rgt_ok hn.1 hv.1 he.1 hl.1 hs.1 hw hr)
    rw [List.append_nil, wrA_any] at this
    unfold rdA
    rw [this]
    simp [hr]
/-- The state of bytes. -/
def decA (l : List Int) : Option PApp := rdA (cAp 16 64 64 16 4) l
theorem decA_some {b : List Int} (hb : Byt b) (a : PApp) : decA b = some a ↔ wfA a ∧ rgtA a ∧ b = wrA a := rdA_some (by omega) (by omega) (by omega) (by omega) (by omega) hb a
theorem decA_any {n v e l s : Int} (hn : 16 ≤ n ∧ n ≤ 2147483647) (hv : 64 ≤ v ∧ v ≤ 2147483647) (he : 64 ≤ e ∧ e ≤ 2147483647) (hl : 16 ≤ l ∧ l ≤ 2147483647) (hs : 4 ≤ s ∧ s ≤ 2147483647) {b : List Int} (hb : Byt b) : rdA (cAp n v e l s) b = decA b := by
  apply Option.ext
  intro a
  rw [rdA_some hn hv he hl hs hb, decA_some hb]
theorem wrA_inj {a b : PApp} (ha : wfA a) (ra : rgtA a) (hb : wfA b) (rb : rgtA b) (h : wrA a = wrA b) : a = b := by
  have hL : (cAp 16 64 64 16 4).Law := cAp_law (by omega) (by omega) (by omega) (by omega) (by omega)
  exact hL.inj (rgt_ok (by omega) (by omega) (by omega) (by omega) (by omega) ha ra) (rgt_ok (by omega) (by omega) (by omega) (by omega) (by omega) hb rb) h
def snE (a : PApp) : Int := if rgtA a then 0 else 101
def snB (a : PApp) : List Int := if rgtA a then wrA a else []

/-! How long the bytes are. -/
theorem outI_len (n : Int) : (outI n).length ≤ 10 := by
  unfold outI
  split
  · exact (enc_len n).2
  · simp
theorem wrN_len {α : Type} {c : Cdc α} {K : Nat} : ∀ (l : List α), (∀ e ∈ l, (c.wr e).length ≤ K) → (wrN c l).length ≤ l.length * K
  | [], _ => by simp [wrN]
  | e :: l, h => by
    rw [wrN_cons, List.length_append, List.length_cons, Nat.add_mul]
    have := h e (by simp)
    have := wrN_len l (fun x hx => h x (by simp [hx]))
    omega
theorem wrE_len {e : PEnt} (h : rgt1 e) : ((cEn 16 64).wr e).length ≤ 100 := by
  rw [wrE_eq]
  obtain ⟨_, h1, h2⟩ := h
  have := enc_len (e.1.length : Int)
  have := enc_len (e.2.length : Int)
  simp only [List.length_append]
  omega
theorem wrL_len {e : PEnt} (h : rgs1 e) : ((cLe 16).wr e).length ≤ 100 := by
  rw [wrL_eq]
  obtain ⟨⟨_, h1⟩, h2⟩ := h
  have := enc_len (e.1.length : Int)
  have := outI_len (lo e.2)
  have := outI_len (lu e.2)
  simp only [List.length_append]
  omega
theorem wrS_len {e : PEnt} (h : rgn1 e) : ((cSe 64).wr e).length ≤ 110 := by
  rw [wrS_eq]
  obtain ⟨_, _, _, h1⟩ := h
  have := enc_len ((sv e).length : Int)
  have := outI_len (sc e)
  have := outI_len (lo e.2)
  have := outI_len (lu e.2)
  simp only [List.length_append]
  omega
theorem wrN_take {α : Type} (c : Cdc α) {l : List α} {q : Nat} {a : α} (h : l[q]? = some a) : wrN c (l.take (q + 1)) = wrN c (l.take q) ++ c.wr a := by
  rw [List.take_add_one, h, wrN_app]
  simp [wrN]
end Kvl
end Go.Proofs.YtejkkhlblnepeaaDoor
end

section
set_option linter.unusedVariables false
set_option linter.unusedSimpArgs false
namespace Go.Proofs.YtejkkhlblnepeaaDoor
open Go.RowKit Oct Kvl

theorem own_row_nU {w : World} {b : Nat} {t : TypeId} {e : TypeId} {xs ys : List Value} {v : Value} (h : Row w b t xs) (ho : Own w e v ys) (ht : t ≠ e) : v.ownBlock ≠ some b := by
  intro hk
  rcases ho.2 with ⟨rfl, _⟩ | ⟨g, _, cur, rfl, _, hg, _⟩
  · simp [Value.ownBlock] at hk
  · simp [Value.ownBlock] at hk
    subst hk
    unfold Row at h
    rw [h] at hg
    simp at hg
    exact ht hg.2
theorem own_oneU {w : World} {e : TypeId} {v : Value} {xs : List Value} (h : Own w e v xs) : v.oneCell' = true := by
  obtain ⟨ao, cap, rfl, _⟩ := h.form; rfl
/-- Rows of other things than bytes stay, but for one. -/
def Kpt (b : Nat) (w w' : World) : Prop := ∀ k t xs, t ≠ 5 → k ≠ b → Row w k t xs → Row w' k t xs
theorem Kpt.refl (b : Nat) (w : World) : Kpt b w w := fun _ _ _ _ _ h => h
theorem Kpt.trans {b : Nat} {w w1 w2 : World} (h : Kpt b w w1) (h' : Kpt b w1 w2) : Kpt b w w2 := fun k t xs ht hk hr => h' k t xs ht hk (h k t xs ht hk hr)
theorem Kpt.below {b : Nat} {w w' : World} (h : Below w.heap.size w w') : Kpt b w w' := fun _ _ _ _ _ hr => hr.below h
theorem Kpt.set {b : Nat} {w w' : World} (h : w.grownBy w' (some b)) : Kpt b w w' := fun k t xs _ hk hr => hr.grown h (fun e => by injection e with e; exact hk e.symm)
theorem Kpt.app {b : Nat} {w w' : World} {v v' : Value} {xs ys : List Value} (ho : Own w 5 v xs) (h : App w 5 v w' v' ys) : Kpt b w w' := fun k t zs ht _ hr => hr.grown h.grown (own_row_nU hr ho ht)
/-- The text that is being written: it stands in box b, its bytes from block B on. -/
def OB (B b : Nat) (w : World) (l : List Int) : Prop := ∃ v, Row w b 22 [v] ∧ Own w 5 v (bc l) ∧ Fr B v ∧ B ≤ b ∧ B ≤ w.heap.size
theorem OB.below {B b : Nat} {w w' : World} {l : List Int} (h : OB B b w l) (hb : Below w.heap.size w w') : OB B b w' l := by
  obtain ⟨v, h1, h2, h3, h4, h5⟩ := h
  exact ⟨v, h1.below hb, h2.below hb, h3, h4, Nat.le_trans h5 hb.size⟩
/-- A row beside it is written. -/
theorem OB.grown {B b : Nat} {w w' : World} {l : List Int} (h : OB B b w l) {k : Nat} {t : TypeId} {xs : List Value} (hg : w.grownBy w' (some k)) (hr : Row w k t xs) (ht : t ≠ 5) (hk : k ≠ b) : OB B b w' l := by
  obtain ⟨v, h1, h2, h3, h4, h5⟩ := h
  exact ⟨v, h1.grown hg (fun e => by injection e with e; exact hk e), h2.grown hg (fun j hj => by cases hj; exact own_row_nU hr h2 ht), h3, h4, Nat.le_trans h5 hg.size⟩
theorem OB.put {B b : Nat} {w w1 w2 : World} {l m : List Int} {v v1 : Value} (h1 : Row w b 22 [v]) (h2 : Own w 5 v (bc l)) (h3 : Fr B v) (h4 : B ≤ b) (h5 : B ≤ w.heap.size) (ha : App w 5 v w1 v1 (bc m)) (hr2 : Row w2 b 22 [v1]) (hg2 : w1.grownBy w2 (some b)) :
    OB B b w2 m ∧ Below B w w2 ∧ Kpt b w w2 := by
  have hne := own_row_nU h1 h2 (by decide)
  have h11 := h1.grown ha.grown hne
  have hs := Nat.le_trans h5 ha.grown.size
  exact ⟨⟨v1, hr2, ha.own.grown hg2 (fun j hj => by cases hj; exact own_row_nU h11 ha.own (by decide)), ha.fr h3 h5, h4, Nat.le_trans hs hg2.size⟩, (ha.below h3 h5).trans (grown_below hg2 hs (fun k hk => by cases hk; exact h4)), (Kpt.app h2 ha).trans (Kpt.set hg2)⟩

set_option maxRecDepth 10000 in
set_option maxHeartbeats 800000 in
theorem encNum_any (B b : Nat) (w : World) (l : List Int) (n : Int) (h : OB B b w l) (hl : l.length ≤ 1000000) :
    Calls Tryd.prog 20 #[.int .i64 n, .pointer (some ⟨b, 0, none⟩)] w fun e w' => e = .returned (.tuple #[]) ∧ OB B b w' (l ++ outI n) ∧ Below B w w' ∧ Kpt b w w' := by
  obtain ⟨v, hr, hown, hfr, hb, hB⟩ := h
  have hone := own_oneU hown
  have hI := int_any w n
  have hle := outI_len n
  have HL := (show Hid (l.length + (outI n).length ≤ 140737488355328) by show _ ≤ _; omega)
  clear hle hl
  go_enter Tryd.func20, Tryd.ntmps20
  go_wp2_with (first
    | (go_at_call 21; refine hI.mono ?_; rintro e w1 ⟨v1, rfl, hown1, hfr1, hb1⟩; have hr1 := hr.below hb1; have ho1 := hown.below hb1; have c0 := hr1.cell (j := 0) rfl)
    | (at_builtin; refine app_bytes rfl _ _ rfl _ l rfl ho1 _ (outI n) rfl hown1.rdv HL.out ?_; intro v2 w2 happ; have hrw := hr1.grown happ.grown (own_row_nU hr1 ho1 (by decide)))
    | (refine wl_set rfl _ _ _ rfl b 0 _ rfl rfl _ _ hrw (show 0 < 1 by decide) (by kernel_rfl) (own_oneU happ.own) ?_; intro w3 hr3 hg3))
  go_end0
  obtain ⟨p1, p2, p3⟩ := OB.put hr1 ho1 hfr hb (Nat.le_trans hB hb1.size) happ hr3.out hg3
  exact ⟨rfl, p1, (hb1.mono hB).trans p2, (Kpt.below hb1).trans p3⟩

set_option maxRecDepth 10000 in
set_option maxHeartbeats 800000 in
theorem encText_any (B b : Nat) (w : World) (l : List Int) (p : Value) (t : List Int) (h : OB B b w l) (hp : Rd w p t) (hl : l.length ≤ 1000000) (ht : t.length ≤ 1000000) :
    Calls Tryd.prog 22 #[p, .pointer (some ⟨b, 0, none⟩)] w fun e w' => e = .returned (.tuple #[]) ∧ OB B b w' (l ++ (enc t.length ++ t)) ∧ Below B w w' ∧ Kpt b w w' := by
  obtain ⟨v, hr, hown, hfr, hb, hB⟩ := h
  obtain ⟨ap, cp, rfl, hcp⟩ := hp.2.form
  obtain ⟨av, cv, rfl, hcv⟩ := hown.form
  rw [bc_len] at hp
  have hdw : Below w.heap.size w w.drew := ⟨rfl, rfl, rfl, Nat.le_refl _, fun _ _ => rfl⟩
  have HI := (show Hid (∀ u, Below w.heap.size w u → Calls Tryd.prog 23 #[.slice ap t.length cp] u fun e w' => ∃ v', e = .returned v' ∧ Own w' 5 v' (bc (enc t.length ++ t)) ∧ Fr u.heap.size v' ∧ Below u.heap.size u w' ∧ Below w.heap.size w w') from fun u hu => (bytes_any u _ t (hp.below hu) (by omega)).mono fun e w' ⟨v', e1, e2, e3, e4⟩ => ⟨v', e1, e2, e3, e4, below_and hu (Nat.le_refl _) e4⟩)
  have SK := (show Hid (∀ u, Below w.heap.size w u → Row u b 22 [.slice av (bc l).length cv] ∧ Own u 5 (.slice av (bc l).length cv) (bc l)) from fun u hu => ⟨hr.below hu, hown.below hu⟩)
  have HL := (show Hid (l.length + (enc t.length ++ t).length ≤ 140737488355328) by show _ ≤ _; have := enc_len (t.length : Int); rw [List.length_append]; omega)
  have c00 := hr.cell (j := 0) rfl
  have c01 := (hr.below hdw).cell (j := 0) rfl
  rw [bc_len] at *
  clear hl ht
  go_enter Tryd.func22, Tryd.ntmps22
  go_wp2_with fail
  go_region_law (first
    | (refine step_bytes (by rfl) _ _ (by rfl) (.slice av l.length cv) l (by rfl) ho1 v1 (enc t.length ++ t) (by rfl) hown1.rdv HL.out ?_; intro v2 w2 happ; obtain ⟨a2, c2, e2, hc2⟩ := happ.own.form; subst e2; have hrw := hr1.grown happ.grown (own_row_nU hr1 ho1 (by decide)); have d0 := hrw.cell (j := 0) rfl; have z0 := hrw.frozen 0)
    | (go_simp; go_at_call 23; refine (HI.out _ (by first | (with_reducible exact hdw) | (with_reducible exact Below.refl _ _))).mono ?_; rintro e w1 ⟨v1, rfl, hown1, hfr1, hb1', hb1⟩; obtain ⟨hr1, ho1⟩ := SK.out w1 hb1; have c0 := hr1.cell (j := 0) rfl))
  all_goals (
    go_wp2_with fail
    go_end0
    obtain ⟨p1, p2, p3⟩ := OB.put hr1 ho1 hfr hb (Nat.le_trans hB hb1.size) happ (hrw.set 0 _) (grown_set _ b 0 _)
    exact ⟨rfl, p1, (hb1.mono hB).trans p2, (Kpt.below hb1).trans p3⟩)
end Go.Proofs.YtejkkhlblnepeaaDoor
end

section
set_option linter.unusedVariables false
set_option linter.unusedSimpArgs false
namespace Go.Proofs.YtejkkhlblnepeaaDoor
open Go.RowKit Oct Kvl

theorem RL.each {α : Type} {R : (Nat → Prop) → World → List Value → α → Prop} (hR : Mov R) {k : Nat} {w : World} {v : Value} {ys : List α} (h : RL R k Any w v ys) : ∀ (q : Nat) (y : α), ys[q]? = some y →
    ∃ bb off cap, v = .slice (some ⟨bb, off, none⟩) ys.length cap ∧ cap ≤ maxLen ∧ ys.length ≤ cap ∧ ∃ r, R Any w r y ∧ ∀ u, Below w.heap.size w u → u.rangeAt bb (off + q * k) r ∧ R Any u r y := fun q y hy => by
  have hl : 0 < ys.length := by have := (List.getElem?_eq_some_iff.1 hy).1; omega
  obtain ⟨bb, off, cap, e, hc, hm, _, hb, hx'⟩ := h.at hl
  obtain ⟨r, _, hr, hR'⟩ := hx' q y hy
  exact ⟨bb, off, cap, e, hm, hc, r, hR', fun u hu => ⟨rangeAt_block hr (hu.block bb hb), hR _ _ _ _ _ _ hR' hu.size (Mv.below hu)⟩⟩
theorem RApp.wfA {w : World} {G : Nat → Prop} {r : List Value} {a : PApp} (h : RApp G w r a) : Kvl.wfA a := by
  refine ⟨fun e he => ?_, h.wf⟩
  obtain ⟨_, _, _, _, _, h2, _⟩ := h
  obtain ⟨rows, _, hall⟩ := h2
  obtain ⟨i, hi, rfl⟩ := List.getElem_of_mem he
  have hl := hall.len
  obtain ⟨_, p, q, _, _, h3⟩ := hall.get (List.getElem?_eq_getElem (by omega : i < rows.length)) (List.getElem?_eq_getElem hi)
  exact ⟨p, q, h3⟩
theorem OB.ltB {B b : Nat} {w : World} {l : List Int} (h : OB B b w l) : b < w.heap.size := by
  obtain ⟨v, h1, _⟩ := h
  exact h1.lt
theorem OB.sizeB {B b : Nat} {w : World} {l : List Int} (h : OB B b w l) : B ≤ w.heap.size := by
  obtain ⟨v, _, _, _, _, h1⟩ := h
  exact h1
theorem Row.belB {w w' : World} {B k : Nat} {t : TypeId} {xs : List Value} (h : Row w k t xs) (hb : Below B w w') (hk : k < B) : Row w' k t xs := (hb.block k hk).trans h
theorem takeLen {α : Type} {l : List α} {q K N : Nat} {c : Cdc α} (L : List Int) (hL : L.length ≤ N) (hK : ∀ e ∈ l, (c.wr e).length ≤ K) (hl : l.length ≤ 64) (hN : N + 64 * K ≤ 900000) : (L ++ wrN c (l.take q)).length ≤ 900000 := by
  have h1 := wrN_len (l.take q) (fun e he => hK e (List.mem_of_mem_take he))
  have h2 : (l.take q).length ≤ 64 := by rw [List.length_take]; omega
  have h3 : (l.take q).length * K ≤ 64 * K := Nat.mul_le_mul_right _ h2
  rw [List.length_append]
  omega

set_option maxRecDepth 10000 in
set_option maxHeartbeats 8000000 in
/-- snap.Encode. -/
theorem snapEncode_any (w : World) (row : List Value) (a : PApp) (h : RApp Any w row a) :
    Calls Tryd.prog 12 #[.agg row.toArray] w fun e w' => ∃ v, e = .returned (.tuple #[v, .int .i64 (snE a)]) ∧ Own w' 5 v (bc (snB a)) ∧ Fr w.heap.size v ∧ Below w.heap.size w w' := by
  have le := Nat.le_refl w.heap.size
  have hall := h
  have hwf := h.wfA
  obtain ⟨ve, vl, vs, rfl, h1, h2, h3⟩ := h
  obtain ⟨ae, ce, rfl, hce⟩ := h1.form
  obtain ⟨al, cl, rfl, hcl⟩ := h2.form
  obtain ⟨an, cn, rfl, hcn⟩ := h3.form
  obtain ⟨w0, hw0⟩ : ∃ w0, w0 = w.alloc (.cells #[.int .i64 a.1, .slice ae a.2.1.length ce, .slice al a.2.2.1.length cl, .slice an a.2.2.2.length cn] 38) := ⟨_, rfl⟩
  have xa : Row w0 w.heap.size 38 [.int .i64 a.1, .slice ae a.2.1.length ce, .slice al a.2.2.1.length cl, .slice an a.2.2.2.length cn] := by rw [hw0]; exact Row.new w 38 _
  have B0 : Below w.heap.size w w0 := by rw [hw0]; exact below_alloc _ _
  have hR := rightA_any w0 _ a (hall.below B0)
  have hmf : ∀ (fn : Fn) (first cap : Array Value) (w : World), (Instr.makeFunc fn first cap).run Tryd.prog w = .ok (.func fn first cap) w := fun _ _ _ _ => rfl
  by_cases hg : rgtA a
  rotate_left
  · rw [show snE a = 101 from if_neg hg, show snB a = [] from if_neg hg]
    rw [decide_eq_false hg] at hR
    clear h1 h2 h3 hwf hg
    go_enter Tryd.func12, Tryd.ntmps12
    go_upto_region 1 with fail
    rw [← hw0]
    clear hw0
    go_wp2_with (first
      | (refine wl_load rfl _ _ rfl w.heap.size rfl _ _ xa _ Tryd.underlying38 rfl (by kernel_rfl) ?_)
      | (go_at_call 19; refine hR.mono ?_; rintro e w1 ⟨rfl, hb1⟩))
    go_ret2
    exact ⟨_, rfl, Own.nil _ _, Fr.nil _, below_and B0 le hb1⟩
  rw [show snE a = 0 from if_pos hg, show snB a = wrA a from if_pos hg]
  rw [decide_eq_true hg] at hR
  have HE := (show Hid (∀ (q : Nat) (y : PEnt), a.2.1[q]? = some y → ∃ bb off cap, Value.slice ae a.2.1.length ce = .slice (some ⟨bb, off, none⟩) a.2.1.length cap ∧ cap ≤ maxLen ∧ a.2.1.length ≤ cap ∧ ∃ r, REnt Any w r y ∧ ∀ u, Below w.heap.size w u → u.rangeAt bb (off + q * 2) r ∧ REnt Any u r y) from h1.each mov_ent)
  have HL := (show Hid (∀ (q : Nat) (y : PEnt), a.2.2.1[q]? = some y → ∃ bb off cap, Value.slice al a.2.2.1.length cl = .slice (some ⟨bb, off, none⟩) a.2.2.1.length cap ∧ cap ≤ maxLen ∧ a.2.2.1.length ≤ cap ∧ ∃ r, RLea Any w r y ∧ ∀ u, Below w.heap.size w u → u.rangeAt bb (off + q * 3) r ∧ RLea Any u r y) from h2.each mov_lea)
  have HN := (show Hid (∀ (q : Nat) (y : PEnt), a.2.2.2[q]? = some y → ∃ bb off cap, Value.slice an a.2.2.2.length cn = .slice (some ⟨bb, off, none⟩) a.2.2.2.length cap ∧ cap ≤ maxLen ∧ a.2.2.2.length ≤ cap ∧ ∃ r, RSes Any w r y ∧ ∀ u, Below w.heap.size w u → u.rangeAt bb (off + q * 4) r ∧ RSes Any u r y) from h3.each mov_ses)
  have HW := (show Hid (wrA a = outI a.1 ++ ((outI a.2.1.length ++ wrN (cEn 16 64) a.2.1) ++ ((outI a.2.2.1.length ++ wrN (cLe 16) a.2.2.1) ++ (outI a.2.2.2.length ++ wrN (cSe 64) a.2.2.2)))) from wrA_eq a)
  have HG := (show Hid (rgtA a) from hg)
  have HK1 := (show Hid (∀ e ∈ a.2.1, ((cEn 16 64).wr e).length ≤ 110) from fun e he => Nat.le_trans (wrE_len (hg.2.1.2.2 e he)) (by omega))
  have HK2 := (show Hid (∀ e ∈ a.2.2.1, ((cLe 16).wr e).length ≤ 110) from fun e he => Nat.le_trans (wrL_len (hg.2.2.1.2.2 e he)) (by omega))
  have HK3 := (show Hid (∀ e ∈ a.2.2.2, ((cSe 64).wr e).length ≤ 110) from fun e he => wrS_len (chk_all hg.2.2.2 e he))
  have HT1 := (show Hid (∀ e ∈ a.2.1, e.1.length ≤ 64 ∧ e.2.length ≤ 64) from fun e he => by obtain ⟨_, _, _⟩ := hg.2.1.2.2 e he; omega)
  have HT2 := (show Hid (∀ e ∈ a.2.2.1, e.1.length ≤ 64) from fun e he => by obtain ⟨⟨_, _⟩, _⟩ := hg.2.2.1.2.2 e he; omega)
  have HT3 := (show Hid (∀ e ∈ a.2.2.2, (sv e).length ≤ 64) from fun e he => by obtain ⟨_, _, _, _⟩ := chk_all hg.2.2.2 e he; omega)
  have n1 : a.2.1.length ≤ 64 := hg.2.1.1
  have n2 : a.2.2.1.length ≤ 64 := by have := hg.2.2.1.1; omega
  have n3 : a.2.2.2.length ≤ 64 := by have := rgn_len hg.2.2.2; omega
  generalize wrA a = WA at *
  obtain ⟨slot, es, ls, ss⟩ := a
  dsimp only at *
  obtain ⟨N1, hN1⟩ : ∃ N1, N1 = es.length := ⟨_, rfl⟩
  obtain ⟨N2, hN2⟩ : ∃ N2, N2 = ls.length := ⟨_, rfl⟩
  obtain ⟨N3, hN3⟩ : ∃ N3, N3 = ss.length := ⟨_, rfl⟩
  simp only [← hN1, ← hN2, ← hN3] at hw0 xa hR HE HL HN HW n1 n2 n3 ⊢
  have HN1 := (show Hid (N1 = es.length) from hN1)
  have HN2 := (show Hid (N2 = ls.length) from hN2)
  have HN3 := (show Hid (N3 = ss.length) from hN3)
  clear h1 h2 h3 hg hwf hall hN1 hN2 hN3 hce hcl hcn
  go_enter Tryd.func12, Tryd.ntmps12
  go_upto_region 1 with fail
  rw [← hw0]
  clear hw0
  go_upto_region 3 with (first
    | (refine wl_load rfl _ _ rfl w.heap.size rfl _ _ xa _ Tryd.underlying38 rfl (by kernel_rfl) ?_)
    | (go_at_call 19; refine hR.mono ?_; rintro e w1 ⟨rfl, hb1⟩))
  have xa := xa.below hb1
  have B1 := below_and B0 le hb1
  clear hb1 hR B0
  go_upto_region 4 with fail
  obtain ⟨w2, hw2⟩ : ∃ w2, w2 = w1.alloc (.cells #[.slice none 0 0] 22) := ⟨_, rfl⟩
  rw [← hw2]
  have hO : OB w1.heap.size w1.heap.size w2 [] := ⟨.slice none 0 0, by rw [hw2]; exact Row.new w1 22 [.slice none 0 0], Own.nil _ _, Fr.nil _, Nat.le_refl _, by rw [hw2]; simp⟩
  have hb2 : Below w1.heap.size w1 w2 := by rw [hw2]; exact below_alloc _ _
  have B2 := below_and B1 le hb2
  have hlt := xa.lt
  have xa := xa.below hb2
  have hBB : w.heap.size ≤ w1.heap.size := B1.size
  clear hw2 hb2 B1
  generalize w1.heap.size = B at hO hlt hBB ⊢
  have hO' : OB B B w2 [] := hO
  clear hO
  have HX := (show Hid (∀ u, Below B w2 u → Row u w.heap.size 38 [.int .i64 slot, .slice ae N1 ce, .slice al N2 cl, .slice an N3 cn] ∧ Below w.heap.size w u) from fun u hu => ⟨xa.belB hu hlt, B2.trans (hu.mono hBB)⟩)
  clear xa B2 hlt
  have c0 := (HX.out w2 (Below.refl _ _)).1.cell (j := 0) rfl
  have hC := encNum_any B B w2 [] slot hO' (by simp)
  go_upto_region 7 with (go_at_call 20; refine hC.mono ?_; rintro e w3 ⟨rfl, hO3, hb3, hk3⟩)
  rw [List.nil_append] at hO3
  have c1 := (HX.out w3 hb3).1.cell (j := 1) rfl
  have hC := encNum_any B B w3 _ (N1 : Int) hO3 (by have := outI_len slot; omega)
  clear c0 hO' hk3
  go_upto_region 8 with (go_at_call 20; refine hC.mono ?_; rintro e w4 ⟨rfl, hO4, hb4, hk4⟩)
  have hb24 : Below B w2 w4 := hb3.trans hb4
  obtain ⟨L1, hL1⟩ : ∃ L1, L1 = outI slot ++ outI (N1 : Int) := ⟨_, rfl⟩
  have HL1 := (show Hid (L1 = outI slot ++ outI (N1 : Int)) from hL1)
  have g1 : L1.length ≤ 20 := by have := outI_len slot; have := outI_len (N1 : Int); rw [hL1, List.length_append]; omega
  rw [← hL1] at hO4
  clear c1 hC hO3 hk4 hb3 hb4 hL1
  have c1 := (HX.out w4 hb24).1.cell (j := 1) rfl
  go_wp2_with fail
  go_loopw [30] (fun i wr => ∃ q : Nat, q ≤ N1 ∧ i = .int .i64 q ∧ OB B B wr (L1 ++ wrN (cEn 16 64) (es.take q)) ∧ Below B w2 wr) (fun i _ => N1 - (intOf i).toNat)
  case atStart => exact ⟨0, Nat.zero_le _, rfl, by simpa [wrN] using hO4, hb24⟩
  case round =>
    clear hO4 c1
    obtain ⟨q, hq, rfl, hO, hbr⟩ := hrel
    obtain ⟨xr, Br⟩ := HX.out wr hbr
    by_cases hql : q < N1
    · obtain ⟨y, hy⟩ : ∃ y, es[q]? = some y := ⟨_, List.getElem?_eq_getElem (by have := HN1.out; omega)⟩
      obtain ⟨bb, off, cap, e, hcm, hcn, rw0, HR0, HR⟩ := HE.out q y hy
      injection e with e1 e2 e3
      subst e1 e3
      clear e2
      have hym := List.mem_of_getElem? hy
      have HA := (show Hid (∀ X, X = (cEn 16 64).wr y → (L1 ++ wrN (cEn 16 64) (es.take q)) ++ X = L1 ++ wrN (cEn 16 64) (es.take (q + 1))) from fun X hX => by rw [wrN_take (cEn 16 64) hy, hX, List.append_assoc])
      have hlen : (L1 ++ wrN (cEn 16 64) (es.take q)).length ≤ 900000 := takeLen L1 g1 HK1.out (by have := HN1.out; omega) (by omega)
      obtain ⟨s, t, rfl, hs, ht⟩ := HR0
      have HRR := (show Hid (∀ u, Below w.heap.size w u → RT Any u s y.1 ∧ RT Any u t y.2) from fun u hu => by obtain ⟨_, s2, t2, e, p1, p2⟩ := HR u hu; injection e with e1 e; injection e with e2 _; subst e1 e2; exact ⟨p1, p2⟩)
      have hrng := (HR wr Br).1
      have hone : ∀ x ∈ ([s, t] : List Value), x.oneCell' = true := (by intro x hx; simp only [List.mem_cons, List.not_mem_nil, or_false] at hx; rcases hx with rfl | rfl; exact hs.one; exact ht.one)
      have hrow0 := Row.new wr 51 [.slice none 0 0, .slice none 0 0]
      have hqi : (q : Int) < (N1 : Int) := by omega
      have hltr := hO.ltB
      clear HR hy
      go_upto_region 11 with (first
        | (refine wpList_load_mid rfl _ _ rfl bb (off + q * 2) rfl [s, t] _ hrng Tryd.underlying51 rfl (by kernel_rfl) ?_)
        | (refine wl_store rfl _ _ _ rfl wr.heap.size [s, t] rfl rfl _ _ hrow0 rfl (by kernel_rfl) hone ?_; intro w5 hr5 hg5))
      have hr5 := hr5.out
      have hb5 : Below wr.heap.size wr w5 := (below_alloc wr (.cells ([.slice none 0 0, .slice none 0 0] : List Value).toArray 51)).trans (grown_below hg5 (by simp) (fun k hk => by cases hk; exact Nat.le_refl _))
      have hO5 := hO.below hb5
      have hB5 : Below B w2 w5 := hbr.trans (hb5.mono hO.sizeB)
      obtain ⟨gb, hgb⟩ : ∃ gb, gb = wr.heap.size := ⟨_, rfl⟩
      rw [← hgb] at hr5 hltr ⊢
      have hne : gb ≠ B := Nat.ne_of_gt hltr
      clear hrng hone hrow0 hg5 hgb hb5 hO hltr xr Br
      have c0' := hr5.cell (j := 0) rfl
      have hC := encText_any B B w5 _ s _ hO5 (HRR.out w5 (HX.out w5 hB5).2).1.1 (by simp only [List.length_append] at *; omega) (Nat.le_trans ((HT1.out y hym).1) (by omega))
      go_upto_region 12 with (go_at_call 22; refine hC.mono ?_; rintro e w6 ⟨rfl, hO6, hb6, hk6⟩)
      have hB6 := hB5.trans hb6
      have hr6 := hk6 _ _ _ (by decide) hne hr5
      clear c0' hC hO5 hb6 hk6 hr5
      have c1' := hr6.cell (j := 1) rfl
      have hC := encText_any B B w6 _ t _ hO6 (HRR.out w6 (HX.out w6 hB6).2).2.1 (by simp only [List.length_append] at *; have := enc_len ((y.1.length : Int)); have := (HT1.out y hym).1; omega) (Nat.le_trans ((HT1.out y hym).2) (by omega))
      go_upto_region 13 with (go_at_call 22; refine hC.mono ?_; rintro e w7 ⟨rfl, hO7, hb7, hk7⟩)
      have hB7 := hB6.trans hb7
      have hr7 := hk7 _ _ _ (by decide) hne hr6
      clear c1' hC hO6 hb7 hk7 hr6
      have hOz : OB B B w7 (L1 ++ wrN (cEn 16 64) (es.take (q + 1))) := by
        rw [← HA.out ((enc y.1.length ++ y.1) ++ (enc y.2.length ++ y.2)) rfl]
        simpa only [List.append_assoc] using hO7
      go_wp2_with fail
      go_roundw
      case rel => exact ⟨q + 1, by omega, by go_num, hOz, hB7⟩
      case measure => simp [intOf]; omega
    · have hqd : decide ((q : Int) < N1) = false := by simp; omega
      rw [List.take_of_length_le (by have := HN1.out; omega)] at hO
      have c2' := xr.cell (j := 2) rfl
      have hlen := takeLen (l := es) (q := es.length) (c := (cEn 16 64)) L1 g1 HK1.out (by have := HN1.out; omega) (by omega)
      rw [List.take_length] at hlen
      have hC := encNum_any B B wr _ (N2 : Int) hO (by omega)
      go_upto_region 15 with (go_at_call 20; refine hC.mono ?_; rintro e w14 ⟨rfl, hO4, hb4, hk4⟩)
      have hb24 := hbr.trans hb4
      obtain ⟨L2, hL1⟩ : ∃ L, L = (L1 ++ wrN (cEn 16 64) es) ++ outI (N2 : Int) := ⟨_, rfl⟩
      have HL2 := (show Hid (L2 = (L1 ++ wrN (cEn 16 64) es) ++ outI (N2 : Int)) from hL1)
      have g2 : L2.length ≤ 8000 := by
        have := outI_len (N2 : Int)
        have hw := wrN_len es HK1.out
        have := HN1.out
        have hm : es.length * 110 ≤ 64 * 110 := Nat.mul_le_mul_right _ (by omega)
        rw [hL1, List.length_append, List.length_append]
        omega
      rw [← hL1] at hO4
      clear c2' hC hO hk4 hb4 hL1 hlen xr Br hbr
      have c1 := (HX.out w14 hb24).1.cell (j := 2) rfl
      go_wp2_with fail
      go_loopw [51] (fun i wr => ∃ q : Nat, q ≤ N2 ∧ i = .int .i64 q ∧ OB B B wr (L2 ++ wrN (cLe 16) (ls.take q)) ∧ Below B w2 wr) (fun i _ => N2 - (intOf i).toNat)
      case atStart => exact ⟨0, Nat.zero_le _, rfl, by simpa [wrN] using hO4, hb24⟩
      case round =>
        clear hO4 c1
        obtain ⟨q, hq, rfl, hO, hbr⟩ := hrel
        obtain ⟨xr, Br⟩ := HX.out wr hbr
        by_cases hql : q < N2
        · obtain ⟨y, hy⟩ : ∃ y, ls[q]? = some y := ⟨_, List.getElem?_eq_getElem (by have := HN2.out; omega)⟩
          obtain ⟨bb, off, cap, e, hcm, hcn, rw0, HR0, HR⟩ := HL.out q y hy
          injection e with e1 e2 e3
          subst e1 e3
          clear e2
          have hym := List.mem_of_getElem? hy
          have HA := (show Hid (∀ X, X = (cLe 16).wr y → (L2 ++ wrN (cLe 16) (ls.take q)) ++ X = L2 ++ wrN (cLe 16) (ls.take (q + 1))) from fun X hX => by rw [wrN_take (cLe 16) hy, hX, List.append_assoc])
          have hlen : (L2 ++ wrN (cLe 16) (ls.take q)).length ≤ 900000 := takeLen L2 g2 HK2.out (by have := HN2.out; omega) (by omega)
          obtain ⟨s, p, q', rfl, hs, hpq⟩ := HR0
          have HRR := (show Hid (∀ u, Below w.heap.size w u → RT Any u s y.1) from fun u hu => by obtain ⟨_, s2, p2, q2, e, p1, _⟩ := HR u hu; injection e with e1 e; subst e1; exact p1)
          have hrng := (HR wr Br).1
          have hone : ∀ x ∈ ([s, .int .i64 p, .int .i64 q'] : List Value), x.oneCell' = true := (by intro x hx; simp only [List.mem_cons, List.not_mem_nil, or_false] at hx; rcases hx with rfl | rfl | rfl; exact hs.one; rfl; rfl)
          have hrow0 := Row.new wr 53 [.slice none 0 0, .int .i64 0, .int .i64 0]
          have hqi : (q : Int) < (N2 : Int) := by omega
          have hltr := hO.ltB
          clear HR hy
          go_upto_region 18 with (first
            | (refine wpList_load_mid rfl _ _ rfl bb (off + q * 3) rfl [s, .int .i64 p, .int .i64 q'] _ hrng Tryd.underlying53 rfl (by kernel_rfl) ?_)
            | (refine wl_store rfl _ _ _ rfl wr.heap.size [s, .int .i64 p, .int .i64 q'] rfl rfl _ _ hrow0 rfl (by kernel_rfl) hone ?_; intro w5 hr5 hg5))
          have hr5 := hr5.out
          have hb5 : Below wr.heap.size wr w5 := (below_alloc wr (.cells ([.slice none 0 0, .int .i64 0, .int .i64 0] : List Value).toArray 53)).trans (grown_below hg5 (by simp) (fun k hk => by cases hk; exact Nat.le_refl _))
          have hO5 := hO.below hb5
          have hB5 : Below B w2 w5 := hbr.trans (hb5.mono hO.sizeB)
          obtain ⟨gb, hgb⟩ : ∃ gb, gb = wr.heap.size := ⟨_, rfl⟩
          rw [← hgb] at hr5 hltr ⊢
          have hne : gb ≠ B := Nat.ne_of_gt hltr
          clear hrng hone hrow0 hg5 hgb hb5 hO hltr xr Br
          have c0' := hr5.cell (j := 0) rfl
          have hC := encText_any B B w5 _ s _ hO5 (HRR.out w5 (HX.out w5 hB5).2).1 (by simp only [List.length_append] at *; omega) (Nat.le_trans (HT2.out y hym) (by omega))
          go_upto_region 19 with (go_at_call 22; refine hC.mono ?_; rintro e w6 ⟨rfl, hO6, hb6, hk6⟩)
          have hB6 := hB5.trans hb6
          have hr6 := hk6 _ _ _ (by decide) hne hr5
          clear c0' hC hO5 hb6 hk6 hr5
          have c1' := hr6.cell (j := 1) rfl
          have hC := encNum_any B B w6 _ p hO6 (by simp only [List.length_append] at *; have := enc_len ((y.1.length : Int)); have := HT2.out y hym; omega)
          go_upto_region 20 with (go_at_call 20; refine hC.mono ?_; rintro e w7 ⟨rfl, hO7, hb7, hk7⟩)
          have hB7 := hB6.trans hb7
          have hr7 := hk7 _ _ _ (by decide) hne hr6
          clear c1' hC hO6 hb7 hk7 hr6
          have c2' := hr7.cell (j := 2) rfl
          have hC := encNum_any B B w7 _ q' hO7 (by simp only [List.length_append] at *; have := enc_len ((y.1.length : Int)); have := HT2.out y hym; have := outI_len p; omega)
          go_upto_region 21 with (go_at_call 20; refine hC.mono ?_; rintro e w8 ⟨rfl, hO8, hb8, hk8⟩)
          have hB8 := hB7.trans hb8
          have hr8 := hk8 _ _ _ (by decide) hne hr7
          clear c2' hC hO7 hb8 hk8 hr7
          have hOz : OB B B w8 (L2 ++ wrN (cLe 16) (ls.take (q + 1))) := by
            rw [← HA.out ((enc y.1.length ++ y.1) ++ (outI p ++ outI q')) (by rw [wrL_eq, hpq]; rfl)]
            simpa only [List.append_assoc] using hO8
          go_wp2_with fail
          go_roundw
          case rel => exact ⟨q + 1, by omega, by go_num, hOz, hB8⟩
          case measure => simp [intOf]; omega
        · have hqd : decide ((q : Int) < N2) = false := by simp; omega
          rw [List.take_of_length_le (by have := HN2.out; omega)] at hO
          have c2' := xr.cell (j := 3) rfl
          have hlen := takeLen (l := ls) (q := ls.length) (c := (cLe 16)) L2 g2 HK2.out (by have := HN2.out; omega) (by omega)
          rw [List.take_length] at hlen
          have hC := encNum_any B B wr _ (N3 : Int) hO (by omega)
          go_upto_region 23 with (go_at_call 20; refine hC.mono ?_; rintro e w24 ⟨rfl, hO4, hb4, hk4⟩)
          have hb24 := hbr.trans hb4
          obtain ⟨L3, hL1⟩ : ∃ L, L = (L2 ++ wrN (cLe 16) ls) ++ outI (N3 : Int) := ⟨_, rfl⟩
          have HL3 := (show Hid (L3 = (L2 ++ wrN (cLe 16) ls) ++ outI (N3 : Int)) from hL1)
          have g3 : L3.length ≤ 16000 := by
            have := outI_len (N3 : Int)
            have hw := wrN_len ls HK2.out
            have := HN2.out
            have hm : ls.length * 110 ≤ 64 * 110 := Nat.mul_le_mul_right _ (by omega)
            rw [hL1, List.length_append, List.length_append]
            omega
          rw [← hL1] at hO4
          clear c2' hC hO hk4 hb4 hL1 hlen xr Br hbr
          have c1 := (HX.out w24 hb24).1.cell (j := 3) rfl
          go_wp2_with fail
          go_loopw [76] (fun i wr => ∃ q : Nat, q ≤ N3 ∧ i = .int .i64 q ∧ OB B B wr (L3 ++ wrN (cSe 64) (ss.take q)) ∧ Below B w2 wr) (fun i _ => N3 - (intOf i).toNat)
          case atStart => exact ⟨0, Nat.zero_le _, rfl, by simpa [wrN] using hO4, hb24⟩
          case round =>
            clear hO4 c1
            obtain ⟨q, hq, rfl, hO, hbr⟩ := hrel
            obtain ⟨xr, Br⟩ := HX.out wr hbr
            by_cases hql : q < N3
            · obtain ⟨y, hy⟩ : ∃ y, ss[q]? = some y := ⟨_, List.getElem?_eq_getElem (by have := HN3.out; omega)⟩
              obtain ⟨bb, off, cap, e, hcm, hcn, rw0, HR0, HR⟩ := HN.out q y hy
              injection e with e1 e2 e3
              subst e1 e3
              clear e2
              have hym := List.mem_of_getElem? hy
              have HA := (show Hid (∀ X, X = (cSe 64).wr y → (L3 ++ wrN (cSe 64) (ss.take q)) ++ X = L3 ++ wrN (cSe 64) (ss.take (q + 1))) from fun X hX => by rw [wrN_take (cSe 64) hy, hX, List.append_assoc])
              have hlen : (L3 ++ wrN (cSe 64) (ss.take q)).length ≤ 900000 := takeLen L3 g3 HK3.out (by have := HN3.out; omega) (by omega)
              obtain ⟨c, d, k, s, t, rfl, hs, rfl⟩ := HR0
              have HRR := (show Hid (∀ u, Below w.heap.size w u → RT Any u s t) from fun u hu => by obtain ⟨_, c2, d2, k2, s2, t2, e, p1, e2⟩ := HR u hu; simp only [List.cons.injEq, and_true] at e; obtain ⟨_, _, _, e4⟩ := e; subst e4; simp only [Prod.mk.injEq, List.cons.injEq] at e2; obtain ⟨_, _, _, e5⟩ := e2; subst e5; exact p1)
              have hrng := (HR wr Br).1
              have hone : ∀ x ∈ ([.int .i64 c, .int .i64 d, .int .i64 k, s] : List Value), x.oneCell' = true := (by intro x hx; simp only [List.mem_cons, List.not_mem_nil, or_false] at hx; rcases hx with rfl | rfl | rfl | rfl; rfl; rfl; rfl; exact hs.one)
              have hrow0 := Row.new wr 57 [.int .i64 0, .int .i64 0, .int .i64 0, .slice none 0 0]
              have hqi : (q : Int) < (N3 : Int) := by omega
              have hltr := hO.ltB
              clear HR hy
              go_upto_region 26 with (first
                | (refine wpList_load_mid rfl _ _ rfl bb (off + q * 4) rfl [.int .i64 c, .int .i64 d, .int .i64 k, s] _ hrng Tryd.underlying57 rfl (by kernel_rfl) ?_)
                | (refine wl_store rfl _ _ _ rfl wr.heap.size [.int .i64 c, .int .i64 d, .int .i64 k, s] rfl rfl _ _ hrow0 rfl (by kernel_rfl) hone ?_; intro w5 hr5 hg5))
              have hr5 := hr5.out
              have hb5 : Below wr.heap.size wr w5 := (below_alloc wr (.cells ([.int .i64 0, .int .i64 0, .int .i64 0, .slice none 0 0] : List Value).toArray 57)).trans (grown_below hg5 (by simp) (fun k hk => by cases hk; exact Nat.le_refl _))
              have hO5 := hO.below hb5
              have hB5 : Below B w2 w5 := hbr.trans (hb5.mono hO.sizeB)
              obtain ⟨gb, hgb⟩ : ∃ gb, gb = wr.heap.size := ⟨_, rfl⟩
              rw [← hgb] at hr5 hltr ⊢
              have hne : gb ≠ B := Nat.ne_of_gt hltr
              clear hrng hone hrow0 hg5 hgb hb5 hO hltr xr Br
              have c0' := hr5.cell (j := 0) rfl
              have hC := encNum_any B B w5 _ c hO5 (by simp only [List.length_append] at *; omega)
              go_upto_region 27 with (go_at_call 20; refine hC.mono ?_; rintro e w6 ⟨rfl, hO6, hb6, hk6⟩)
              have hB6 := hB5.trans hb6
              have hr6 := hk6 _ _ _ (by decide) hne hr5
              clear c0' hC hO5 hb6 hk6 hr5
              have c1' := hr6.cell (j := 1) rfl
              have hC := encNum_any B B w6 _ d hO6 (by simp only [List.length_append] at *; have := outI_len c; omega)
              go_upto_region 28 with (go_at_call 20; refine hC.mono ?_; rintro e w7 ⟨rfl, hO7, hb7, hk7⟩)
              have hB7 := hB6.trans hb7
              have hr7 := hk7 _ _ _ (by decide) hne hr6
              clear c1' hC hO6 hb7 hk7 hr6
              have c2' := hr7.cell (j := 2) rfl
              have hC := encNum_any B B w7 _ k hO7 (by simp only [List.length_append] at *; have := outI_len c; have := outI_len d; omega)
              go_upto_region 29 with (go_at_call 20; refine hC.mono ?_; rintro e w8 ⟨rfl, hO8, hb8, hk8⟩)
              have hB8 := hB7.trans hb8
              have hr8 := hk8 _ _ _ (by decide) hne hr7
              clear c2' hC hO7 hb8 hk8 hr7
              have c3' := hr8.cell (j := 3) rfl
              have hC := encText_any B B w8 _ s _ hO8 (HRR.out w8 (HX.out w8 hB8).2).1 (by simp only [List.length_append] at *; have := outI_len c; have := outI_len d; have := outI_len k; omega) (Nat.le_trans (HT3.out _ hym) (by omega))
              go_upto_region 30 with (go_at_call 22; refine hC.mono ?_; rintro e w9 ⟨rfl, hO9, hb9, hk9⟩)
              have hB9 := hB8.trans hb9
              have hr9 := hk9 _ _ _ (by decide) hne hr8
              clear c3' hC hO8 hb9 hk9 hr8
              have hOz : OB B B w9 (L3 ++ wrN (cSe 64) (ss.take (q + 1))) := by
                rw [← HA.out (outI c ++ (outI d ++ (outI k ++ (enc t.length ++ t)))) rfl]
                simpa only [List.append_assoc] using hO9
              go_wp2_with fail
              go_roundw
              case rel => exact ⟨q + 1, by omega, by go_num, hOz, hB9⟩
              case measure => simp [intOf]; omega
            · have hqd : decide ((q : Int) < N3) = false := by simp; omega
              rw [List.take_of_length_le (by have := HN3.out; omega)] at hO
              obtain ⟨v, hv, hown, hfr, _, _⟩ := hO
              have cv := hv.cell (j := 0) rfl
              have hown' : Own wr 5 v (bc WA) := by
                rw [HW.out]
                rw [HL3.out, HL2.out, HL1.out] at hown
                simpa only [List.append_assoc] using hown
              clear hown
              go_wp2_with fail
              go_ret2
              exact ⟨_, rfl, hown', hfr.mono hBB, Br⟩
end Go.Proofs.YtejkkhlblnepeaaDoor
end
