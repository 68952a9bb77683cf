/- Layer 10, plain: states as bytes, each in just one way. -/
import Derived.Test.YteafgdidjdfiiaaGreatXp
set_option linter.unusedVariables false
set_option linter.unusedSimpArgs false
namespace Go.Proofs.YteafgdidjdfiiaaGreat
namespace Kvl
open Oct

/-- Texts of at most m bytes. -/
def cTm (m : Int) : Cdc (List Int) := ⟨fun t => decide ((t.length : Int) ≤ m), fun t => enc t.length ++ t,
  fun l => (num l).bind fun nk => if m < nk.1 ∨ (l.length : Int) - nk.2 < nk.1 then none else some ((l.drop nk.2).take nk.1.toNat, (l.drop nk.2).drop nk.1.toNat)⟩
theorem cTm_law {m : Int} (hm : m ≤ 2147483647) : (cTm m).Law where
  fwd a r h := by
    have hb : (a.length : Int) ≤ m := by simpa [cTm] using h
    simp only [cTm]
    rw [List.append_assoc, num_enc (a.length : Int) (a ++ r) (by omega) (by omega)]
    simp only [Option.bind_some, List.length_append]
    rw [if_neg (by omega)]
    simp
  bwd l a r hl h := by
    simp only [cTm] at h ⊢
    cases hn : num l with
    | none => rw [hn] at h; cases h
    | some nk =>
      obtain ⟨n, k⟩ := nk
      rw [hn] at h
      simp only [Option.bind_some] at h
      obtain ⟨h0, h1, k1, k5, kl, ht⟩ := num_some hl hn
      by_cases hc : m < n ∨ (l.length : Int) - k < n
      · rw [if_pos hc] at h; cases h
      · rw [if_neg hc] at h
        simp only [Option.some.injEq, Prod.mk.injEq] at h
        obtain ⟨rfl, rfl⟩ := h
        have hlen : ((l.drop k).take n.toNat).length = n.toNat := by rw [List.length_take, List.length_drop]; omega
        rw [hlen]
        refine ⟨by simp; omega, ?_⟩
        rw [show ((n.toNat : Nat) : Int) = n by omega, ← ht, List.append_assoc, List.take_append_drop, List.take_append_drop]
/-- Lists of at most m items. -/
def cLm {α : Type} (m : Int) (c : Cdc α) : Cdc (List α) :=
  ⟨fun xz => decide ((xz.length : Int) ≤ m) && xz.all c.ok, fun xz => outI xz.length ++ wrN c xz, fun l => (cN.rd l).bind fun x => if m < x.1 then none else rdN c x.1.toNat x.2⟩
theorem cLm_law {α : Type} {m : Int} {c : Cdc α} (hm : m ≤ 2147483647) (h : c.Law) : (cLm m c).Law where
  fwd xz r ho := by
    simp only [cLm, Bool.and_eq_true, decide_eq_true_eq] at ho ⊢
    rw [List.append_assoc]
    have h1 : cN.rd (outI (xz.length : Int) ++ (wrN c xz ++ r)) = some ((xz.length : Int), wrN c xz ++ r) := cN_law.fwd (xz.length : Int) _ (okI_yes (by omega) (by omega))
    rw [h1]
    simp only [Option.bind_some]
    rw [if_neg (by omega), Int.toNat_natCast, rdN_fwd h xz r ho.2]
  bwd l xz r hl e := by
    simp only [cLm, Bool.and_eq_true, decide_eq_true_eq] at e ⊢
    cases h1 : cN.rd l with
    | none => rw [h1] at e; cases e
    | some x =>
      obtain ⟨n, l1⟩ := x
      rw [h1] at e
      simp only [Option.bind_some] at e
      obtain ⟨o1, e1⟩ := cN_law.bwd l n l1 hl h1
      have hn := okI_bd o1
      by_cases hc : m < n
      · rw [if_pos hc] at e; cases e
      · rw [if_neg hc] at e
        obtain ⟨o2, e2, e3⟩ := rdN_bwd h n.toNat l1 xz r (by rw [e1] at hl; exact hl.right) e
        refine ⟨⟨by omega, o2⟩, ?_⟩
        rw [e2, show ((n.toNat : Nat) : Int) = n by omega, List.append_assoc, ← e3, e1]
        rfl
/-- The same in other words. -/
def cV {α β : Type} [DecidableEq β] (c : Cdc α) (f : α → β) (g : β → α) : Cdc β := ⟨fun b => decide (f (g b) = b) && c.ok (g b), fun b => c.wr (g b), fun l => (c.rd l).map fun x => (f x.1, x.2)⟩
theorem cV_law {α β : Type} [DecidableEq β] {c : Cdc α} {f : α → β} {g : β → α} (h : c.Law) (hg : ∀ a, g (f a) = a) : (cV c f g).Law where
  fwd b r ho := by
    simp only [cV, Bool.and_eq_true, decide_eq_true_eq] at ho ⊢
    rw [h.fwd _ _ ho.2, Option.map_some, ho.1]
  bwd l b r hl e := by
    simp only [cV, Bool.and_eq_true, decide_eq_true_eq] at e ⊢
    cases h1 : c.rd l with
    | none => rw [h1] at e; cases e
    | some x =>
      rw [h1] at e
      simp only [Option.map_some, Option.some.injEq, Prod.mk.injEq] at e
      obtain ⟨rfl, rfl⟩ := e
      obtain ⟨o1, e1⟩ := h.bwd l x.1 x.2 hl h1
      rw [hg]
      exact ⟨⟨rfl, o1⟩, e1⟩

def fLe (x : List Int × Int × Int) : PEnt := (x.1, [x.2.1, x.2.2])
def gLe (e : PEnt) : List Int × Int × Int := (e.1, lo e.2, lu e.2)
def fSe (x : Int × Int × Int × List Int) : PEnt := ([x.1], x.2.1 :: x.2.2.1 :: x.2.2.2)
def gSe (e : PEnt) : Int × Int × Int × List Int := (sc e, lo e.2, lu e.2, sv e)
def cEn (n v : Int) : Cdc PEnt := cP (cTm n) (cTm v)
def cLe (n : Int) : Cdc PEnt := cV (cP (cTm n) (cP cN cN)) fLe gLe
def cSe (v : Int) : Cdc PEnt := cV (cP cN (cP cN (cP cN (cTm v)))) fSe gSe
/-- A state: texts of at most n and v bytes, so many entries, leases, sessions. -/
def cAp (n v e l s : Int) : Cdc PApp := cP cN (cP (cLm e (cEn n v)) (cP (cLm l (cLe n)) (cLm s (cSe v))))
theorem cEn_law {n v : Int} (h1 : n ≤ 2147483647) (h2 : v ≤ 2147483647) : (cEn n v).Law := cP_law (cTm_law h1) (cTm_law h2)
theorem cLe_law {n : Int} (h1 : n ≤ 2147483647) : (cLe n).Law := cV_law (cP_law (cTm_law h1) (cP_law cN_law cN_law)) (fun _ => rfl)
theorem cSe_law {v : Int} (h1 : v ≤ 2147483647) : (cSe v).Law := cV_law (cP_law cN_law (cP_law cN_law (cP_law cN_law (cTm_law h1)))) (fun _ => rfl)
theorem cAp_law {n v e l s : Int} (h1 : n ≤ 2147483647) (h2 : v ≤ 2147483647) (h3 : e ≤ 2147483647) (h4 : l ≤ 2147483647) (h5 : s ≤ 2147483647) : (cAp n v e l s).Law :=
  cP_law cN_law (cP_law (cLm_law h3 (cEn_law h1 h2)) (cP_law (cLm_law h4 (cLe_law h1)) (cLm_law h5 (cSe_law h2))))

def wrE (e : PEnt) : List Int := (cEn 16 64).wr e
def wrL (e : PEnt) : List Int := (cLe 16).wr e
def wrS (e : PEnt) : List Int := (cSe 64).wr e
/-- A state's bytes. -/
def wrA (a : PApp) : List Int := (cAp 16 64 64 16 4).wr a
theorem wrA_any (n v e l s : Int) (a : PApp) : (cAp n v e l s).wr a = wrA a := rfl
theorem wrA_eq (a : PApp) : wrA a = outI a.1 ++ ((outI a.2.1.length ++ wrN (cEn 16 64) a.2.1) ++ ((outI a.2.2.1.length ++ wrN (cLe 16) a.2.2.1) ++ (outI a.2.2.2.length ++ wrN (cSe 64) a.2.2.2))) := rfl
theorem wrE_eq (e : PEnt) : (cEn 16 64).wr e = (enc e.1.length ++ e.1) ++ (enc e.2.length ++ e.2) := rfl
theorem wrL_eq (e : PEnt) : (cLe 16).wr e = (enc e.1.length ++ e.1) ++ (outI (lo e.2) ++ outI (lu e.2)) := rfl
theorem wrS_eq (e : PEnt) : (cSe 64).wr e = outI (sc e) ++ (outI (lo e.2) ++ (outI (lu e.2) ++ (enc (sv e).length ++ sv e))) := rfl

/-- Leases have this form. -/
def wfS (l : List PEnt) : Prop := ∀ e ∈ l, ∃ p q, e.2 = [p, q]
def wfA (a : PApp) : Prop := wfS a.2.2.1 ∧ wfN a.2.2.2
theorem rgt_ok {n v e l s : Int} {a : PApp} (hn : 16 ≤ n) (hv : 64 ≤ v) (he : 64 ≤ e) (hl : 16 ≤ l) (hs : 4 ≤ s) (hw : wfA a) (h : rgtA a) : (cAp n v e l s).ok a = true := by
  obtain ⟨⟨s1, s2⟩, ⟨e1, _, e3⟩, ⟨l1, _, l3⟩, h4⟩ := h
  have h5 := rgn_len h4
  simp only [cAp, cP, cLm, Bool.and_eq_true, decide_eq_true_eq, List.all_eq_true]
  refine ⟨okI_yes s1 (by omega), ⟨by omega, fun x hx => ?_⟩, ⟨by omega, fun x hx => ?_⟩, by omega, fun x hx => ?_⟩
  · obtain ⟨n1, n2, n3⟩ := e3 x hx
    simp only [cEn, cP, cTm, Bool.and_eq_true, decide_eq_true_eq]
    omega
  · obtain ⟨⟨n1, n2⟩, ⟨n3, n4⟩, n5, n6⟩ := l3 x hx
    obtain ⟨p, q, hpq⟩ := hw.1 x hx
    obtain ⟨x1, x2⟩ := x
    dsimp only at hpq
    subst hpq
    simp only [cLe, cV, cP, cTm, Bool.and_eq_true, decide_eq_true_eq]
    simp only [lo, lu, List.headD_cons, List.tail_cons] at n3 n4 n5 n6
    dsimp only at n1 n2
    refine ⟨rfl, ?_, okI_yes ?_ ?_, okI_yes ?_ ?_⟩ <;> simp only [gLe, lo, lu, List.headD_cons, List.tail_cons] <;> omega
  · obtain ⟨c, t, k, y, rfl⟩ := hw.2 x hx
    obtain ⟨⟨n1, n2⟩, ⟨n3, n4⟩, ⟨n5, n6⟩, n7⟩ := chk_all h4 _ hx
    simp only [sc, lo, lu, sv, List.headD_cons, List.tail_cons] at n1 n2 n3 n4 n5 n6 n7
    simp only [cSe, cV, cP, cTm, Bool.and_eq_true, decide_eq_true_eq]
    refine ⟨rfl, okI_yes ?_ ?_, okI_yes ?_ ?_, okI_yes ?_ ?_, ?_⟩ <;> simp only [gSe, sc, lo, lu, sv, List.headD_cons, List.tail_cons] <;> omega
theorem ok_wf {n v e l s : Int} {a : PApp} (h : (cAp n v e l s).ok a = true) : wfA a := by
  simp only [cAp, cP, cLm, Bool.and_eq_true, decide_eq_true_eq, List.all_eq_true] at h
  obtain ⟨_, _, ⟨_, h1⟩, _, h2⟩ := h
  refine ⟨fun x hx => ?_, fun x hx => ?_⟩
  · have := h1 x hx
    simp only [cLe, cV, Bool.and_eq_true, decide_eq_true_eq] at this
    rw [← this.1]
    exact ⟨_, _, rfl⟩
  · have := h2 x hx
    simp only [cSe, cV, Bool.and_eq_true, decide_eq_true_eq] at this
    rw [← this.1]
    exact ⟨_, _, _, _, rfl⟩

/-- Bytes read as a right state, and nothing behind. -/
def rdA (c : Cdc PApp) (l : List Int) : Option PApp := match c.rd l with
  | some (a, []) => if rgtA a then some a else none
  | _ => none
theorem rdA_some {n v e l s : Int} (hn : 16 ≤ n ∧ n ≤ 2147483647) (hv : 64 ≤ v ∧ v ≤ 2147483647) (he : 64 ≤ e ∧ e ≤ 2147483647) (hl : 16 ≤ l ∧ l ≤ 2147483647) (hs : 4 ≤ s ∧ s ≤ 2147483647) {b : List Int} (hb : Byt b) (a : PApp) :
    rdA (cAp n v e l s) b = some a ↔ wfA a ∧ rgtA a ∧ b = wrA a := by
  have hL := cAp_law hn.2 hv.2 he.2 hl.2 hs.2
  constructor
  · intro h
    unfold rdA at h
    split at h
    · rename_i a' hp
      split at h
      · rename_i hr
        injection h with h
        subst h
        obtain ⟨o1, e1⟩ := hL.bwd _ _ _ hb hp
        rw [List.append_nil] at e1
        exact ⟨ok_wf o1, hr, e1⟩
      · cases h
    · cases h
  · rintro ⟨hw, hr, rfl⟩
    have := hL.fwd a [] (rgt_ok hn.1 hv.1 he.1 hl.1 hs.1 hw hr)
    rw [List.append_nil, wrA_any] at this
    unfold rdA
    rw [this]
    simp [hr]
/-- The state of bytes. -/
def decA (l : List Int) : Option PApp := rdA (cAp 16 64 64 16 4) l
theorem decA_some {b : List Int} (hb : Byt b) (a : PApp) : decA b = some a ↔ wfA a ∧ rgtA a ∧ b = wrA a := rdA_some (by omega) (by omega) (by omega) (by omega) (by omega) hb a
theorem decA_any {n v e l s : Int} (hn : 16 ≤ n ∧ n ≤ 2147483647) (hv : 64 ≤ v ∧ v ≤ 2147483647) (he : 64 ≤ e ∧ e ≤ 2147483647) (hl : 16 ≤ l ∧ l ≤ 2147483647) (hs : 4 ≤ s ∧ s ≤ 2147483647) {b : List Int} (hb : Byt b) : rdA (cAp n v e l s) b = decA b := by
  apply Option.ext
  intro a
  rw [rdA_some hn hv he hl hs hb, decA_some hb]
theorem wrA_inj {a b : PApp} (ha : wfA a) (ra : rgtA a) (hb : wfA b) (rb : rgtA b) (h : wrA a = wrA b) : a = b := by
  have hL : (cAp 16 64 64 16 4).Law := cAp_law (by omega) (by omega) (by omega) (by omega) (by omega)
  exact hL.inj (rgt_ok (by omega) (by omega) (by omega) (by omega) (by omega) ha ra) (rgt_ok (by omega) (by omega) (by omega) (by omega) (by omega) hb rb) h
def snE (a : PApp) : Int := if rgtA a then 0 else 101
def snB (a : PApp) : List Int := if rgtA a then wrA a else []

/-! How long the bytes are. -/
theorem outI_len (n : Int) : (outI n).length ≤ 10 := by
  unfold outI
  split
  · exact (enc_len n).2
  · simp
theorem wrN_len {α : Type} {c : Cdc α} {K : Nat} : ∀ (l : List α), (∀ e ∈ l, (c.wr e).length ≤ K) → (wrN c l).length ≤ l.length * K
  | [], _ => by simp [wrN]
  | e :: l, h => by
    rw [wrN_cons, List.length_append, List.length_cons, Nat.add_mul]
    have := h e (by simp)
    have := wrN_len l (fun x hx => h x (by simp [hx]))
    omega
theorem wrE_len {e : PEnt} (h : rgt1 e) : ((cEn 16 64).wr e).length ≤ 100 := by
  rw [wrE_eq]
  obtain ⟨_, h1, h2⟩ := h
  have := enc_len (e.1.length : Int)
  have := enc_len (e.2.length : Int)
  simp only [List.length_append]
  omega
theorem wrL_len {e : PEnt} (h : rgs1 e) : ((cLe 16).wr e).length ≤ 100 := by
  rw [wrL_eq]
  obtain ⟨⟨_, h1⟩, h2⟩ := h
  have := enc_len (e.1.length : Int)
  have := outI_len (lo e.2)
  have := outI_len (lu e.2)
  simp only [List.length_append]
  omega
theorem wrS_len {e : PEnt} (h : rgn1 e) : ((cSe 64).wr e).length ≤ 110 := by
  rw [wrS_eq]
  obtain ⟨_, _, _, h1⟩ := h
  have := enc_len ((sv e).length : Int)
  have := outI_len (sc e)
  have := outI_len (lo e.2)
  have := outI_len (lu e.2)
  simp only [List.length_append]
  omega
theorem wrN_take {α : Type} (c : Cdc α) {l : List α} {q : Nat} {a : α} (h : l[q]? = some a) : wrN c (l.take (q + 1)) = wrN c (l.take q) ++ c.wr a := by
  rw [List.take_add_one, h, wrN_app]
  simp [wrN]
end Kvl
end Go.Proofs.YteafgdidjdfiiaaGreat
