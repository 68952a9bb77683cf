/- Operations as bytes, plain. -/
import Derived.Test.YteafgdidjdfiiaaGreatKvm
import Derived.Test.YteafgdidjdfiiaaGreatCdc
set_option linter.unusedVariables false
set_option linter.unusedSimpArgs false
namespace Go.Proofs.YteafgdidjdfiiaaGreat
namespace Kvl
open Oct

def cO : Cdc POp := cP cN (cP cT (cP cT (cP cT cN)))
theorem cO_law : cO.Law := cP_law cN_law (cP_law cT_law (cP_law cT_law (cP_law cT_law cN_law)))
def wrO (o : POp) : List Int := cO.wr o
def rdO (l : List Int) : Option POp := match cO.rd l with
  | some (o, []) => if wok o then some o else none
  | _ => none
theorem wok_ok {o : POp} (h : wok o) : cO.ok o = true := by
  obtain ⟨⟨k1, k2⟩, ⟨n1, n2⟩, ha, hb, u1, u2⟩ := h
  have ha := Nat.le_trans ha (mA_le _)
  have hb := Nat.le_trans hb (mB_le _)
  have hl : 0 ≤ lN o.1 := by unfold lN; split <;> omega
  have hm : mN o.1 ≤ 1000 := by unfold mN; split <;> omega
  have c1 : cN.ok o.1 = true := okI_yes (by omega) (by omega)
  have c5 : cN.ok o.2.2.2.2 = true := okI_yes (by omega) (by omega)
  have c2 : cT.ok o.2.1 = true := by simp [cT]; omega
  have c3 : cT.ok o.2.2.1 = true := by simp [cT]; omega
  have c4 : cT.ok o.2.2.2.1 = true := by simp [cT]; omega
  simp only [cO, cP, c1, c2, c3, c4, c5, Bool.and_self]
theorem rd_wr {o : POp} (h : wok o) : rdO (wrO o) = some o := by
  have := cO_law.fwd o [] (wok_ok h)
  rw [List.append_nil] at this
  unfold rdO wrO
  rw [this]
  simp [h]
theorem wr_rd {l : List Int} {o : POp} (hl : Byt l) (h : rdO l = some o) : wrO o = l ∧ wok o := by
  unfold rdO at h
  split at h
  · rename_i p hp
    split at h
    · rename_i hw
      injection h with h
      subst h
      have := (cO_law.bwd l p [] hl hp).2
      rw [List.append_nil] at this
      exact ⟨this.symm, hw⟩
    · cases h
  · cases h
theorem rd_nil : rdO [] = none := by decide
theorem wrO_eq (o : POp) (h : wok o) : wrO o = enc o.1 ++ ((enc o.2.1.length ++ o.2.1) ++ ((enc o.2.2.1.length ++ o.2.2.1) ++ ((enc o.2.2.2.1.length ++ o.2.2.2.1) ++ enc o.2.2.2.2))) := by
  obtain ⟨⟨k1, k2⟩, _, _, _, u1, u2⟩ := h
  have hl : 0 ≤ lN o.1 := by unfold lN; split <;> omega
  have hm : mN o.1 ≤ 1000 := by unfold mN; split <;> omega
  show outI o.1 ++ ((enc o.2.1.length ++ o.2.1) ++ ((enc o.2.2.1.length ++ o.2.2.1) ++ ((enc o.2.2.2.1.length ++ o.2.2.2.1) ++ outI o.2.2.2.2))) = _
  rw [outI_yes (by omega) (by omega), outI_yes (by omega) (by omega)]

/-- Reading at places. -/
theorem gI {l : List Int} {p : Nat} (hb : Byt l) (hp : p ≤ l.length) : (cN.rd (l.drop p) = none ∧ getI l p = (0, 0, 11)) ∨ ∃ n p', cN.rd (l.drop p) = some (n, l.drop p') ∧ getI l p = (n, ((p' : Nat) : Int), 0) ∧ p' ≤ l.length := by
  cases hn : num (l.drop p) with
  | none => exact .inl ⟨by simp [cN, hn], getI_none p hp hn⟩
  | some nk =>
    obtain ⟨n, k⟩ := nk
    obtain ⟨_, _, _, _, kl, _⟩ := num_some (hb.drop p) hn
    rw [List.length_drop] at kl
    refine .inr ⟨n, p + k, by simp [cN, hn], ?_, by omega⟩
    rw [getI_some p hp hn]
    simp
theorem gB {l : List Int} {p : Nat} {m : Int} (hb : Byt l) (hp : p ≤ l.length) (hm : m ≤ 65536) :
    (cT.rd (l.drop p) = none ∧ getB l p m = ([], 0, 11)) ∨ ∃ t p', cT.rd (l.drop p) = some (t, l.drop p') ∧ ((m < t.length ∧ getB l p m = ([], 0, 11)) ∨ (t.length ≤ m ∧ getB l p m = (t, ((p' : Nat) : Int), 0) ∧ p' ≤ l.length)) := by
  cases hn : num (l.drop p) with
  | none => exact .inl ⟨by simp [cT, hn], by unfold getB; rw [getI_none p hp hn]; simp⟩
  | some nk =>
    obtain ⟨n, k⟩ := nk
    obtain ⟨n0, n1, _, _, kl, _⟩ := num_some (hb.drop p) hn
    rw [List.length_drop] at kl
    obtain ⟨j, rfl⟩ := Int.eq_ofNat_of_zero_le n0
    have hg := getI_some p hp hn
    by_cases hc : (65536 : Int) < (j : Int) ∨ ((l.drop p).length : Int) - k < (j : Int)
    · refine .inl ⟨by simp only [cT, hn, Option.bind_some]; rw [if_pos hc], ?_⟩
      unfold getB
      rw [hg, if_pos]
      rw [List.length_drop] at hc
      simp only
      omega
    · rw [List.length_drop] at hc
      have hlen : ((((l.drop p).drop k)).take j).length = j := by rw [List.length_take, List.length_drop, List.length_drop]; omega
      refine .inr ⟨((l.drop p).drop k).take j, p + k + j, ?_, ?_⟩
      · simp only [cT, hn, Option.bind_some]
        rw [if_neg (by rw [List.length_drop]; exact hc)]
        simp [Nat.add_assoc]
      · rw [hlen]
        by_cases hmm : m < (j : Int)
        · refine .inl ⟨hmm, ?_⟩
          unfold getB
          rw [hg, if_pos (by simp only; omega)]
        · refine .inr ⟨by omega, ?_, by omega⟩
          unfold getB
          rw [hg, if_neg (by simp only; omega)]
          simp only [Prod.mk.injEq]
          refine ⟨?_, by omega, trivial⟩
          rw [List.drop_drop, Int.toNat_natCast]
          congr 2
theorem cP_split {α β : Type} {c : Cdc α} {d : Cdc β} {l r : List Int} {z : α × β} (h : (cP c d).rd l = some (z, r)) : ∃ r1, c.rd l = some (z.1, r1) ∧ d.rd r1 = some (z.2, r) := by
  simp only [cP] at h
  cases h1 : c.rd l with
  | none => rw [h1] at h; cases h
  | some x =>
    rw [h1] at h
    simp only [Option.bind_some] at h
    cases h2 : d.rd x.2 with
    | none => rw [h2] at h; cases h
    | some y =>
      rw [h2] at h
      simp only [Option.map_some, Option.some.injEq, Prod.mk.injEq] at h
      obtain ⟨rfl, rfl⟩ := h
      exact ⟨x.2, rfl, h2⟩
/-- Field by field. -/
def kvR (m : Int) (l : List Int) : Option POp :=
  let k := getI l 0
  let n := getB l k.2.1 m
  let a := getB l n.2.1 64
  let b := getB l a.2.1 64
  let u := getI l b.2.1
  if k.2.2 = 0 ∧ n.2.2 = 0 ∧ a.2.2 = 0 ∧ b.2.2 = 0 ∧ u.2.2 = 0 ∧ u.2.1 = l.length ∧ wok (k.1, n.1, a.1, b.1, u.1) then some (k.1, n.1, a.1, b.1, u.1) else none
theorem rdO_long {l r : List Int} {o : POp} (h : cO.rd l = some (o, r)) (hw : ¬ wok o) : rdO l = none := by
  unfold rdO
  rw [h]
  cases r with
  | nil => simp [hw]
  | cons x r => rfl
theorem rdO_none {l : List Int} (h : cO.rd l = none) : rdO l = none := by unfold rdO; rw [h]
theorem kvR_eq {m : Int} {l : List Int} (hb : Byt l) (hm : 16 ≤ m) (hm2 : m ≤ 64) : kvR m l = rdO l := by
  have e0 : l = l.drop 0 := rfl
  have bad : ∀ (P : Prop) [Decidable P] (o : POp), ¬ P → (if P then some o else none) = none := fun P _ o h => if_neg h
  rcases gI (p := 0) hb (Nat.zero_le _) with ⟨h1, g1⟩ | ⟨k, p1, h1, g1, q1⟩
  · rw [rdO_none (by simp only [cO, cP, ← e0]; rw [show cN.rd l = none from h1]; rfl)]
    unfold kvR
    rw [show ((0 : Nat) : Int) = 0 from rfl] at g1
    simp [g1]
  rw [show ((0 : Nat) : Int) = 0 from rfl] at g1
  have h1 : cN.rd l = some (k, l.drop p1) := h1
  rcases gB (m := m) hb q1 (by omega) with ⟨h2, g2⟩ | ⟨n, p2, h2, g2⟩
  · rw [rdO_none (by simp [cO, cP, h1, h2])]
    unfold kvR
    simp [g1, g2]
  rcases g2 with ⟨l2, g2⟩ | ⟨l2, g2, q2⟩
  · have : rdO l = none := by
      cases hc : cO.rd l with
      | none => exact rdO_none hc
      | some x =>
        obtain ⟨o, r⟩ := x
        refine rdO_long hc fun hw => ?_
        have hn : o.2.1 = n := by
          obtain ⟨r1, e1, f1⟩ := cP_split hc
          rw [h1] at e1
          injection e1 with e1
          injection e1 with _ e1
          subst e1
          obtain ⟨r2, e2, f2⟩ := cP_split f1
          rw [h2] at e2
          injection e2 with e2
          injection e2 with e2 _
          exact e2.symm
        have := hw.2.1.2
        rw [hn] at this
        omega
    rw [this]
    unfold kvR
    simp [g1, g2]
  rcases gB (m := 64) hb q2 (by omega) with ⟨h3, g3⟩ | ⟨a, p3, h3, g3⟩
  · rw [rdO_none (by simp [cO, cP, h1, h2, h3])]
    unfold kvR
    simp [g1, g2, g3]
  rcases g3 with ⟨l3, g3⟩ | ⟨l3, g3, q3⟩
  · have : rdO l = none := by
      cases hc : cO.rd l with
      | none => exact rdO_none hc
      | some x =>
        obtain ⟨o, r⟩ := x
        refine rdO_long hc fun hw => ?_
        have hn : o.2.2.1 = a := by
          obtain ⟨r1, e1, f1⟩ := cP_split hc
          rw [h1] at e1
          injection e1 with e1
          injection e1 with _ e1
          subst e1
          obtain ⟨r2, e2, f2⟩ := cP_split f1
          rw [h2] at e2
          injection e2 with e2
          injection e2 with _ e2
          subst e2
          obtain ⟨r3, e3, f3⟩ := cP_split f2
          rw [h3] at e3
          injection e3 with e3
          injection e3 with e3 _
          exact e3.symm
        have := Nat.le_trans hw.2.2.1 (mA_le _)
        rw [hn] at this
        omega
    rw [this]
    unfold kvR
    simp [g1, g2, g3]
  rcases gB (m := 64) hb q3 (by omega) with ⟨h4, g4⟩ | ⟨b, p4, h4, g4⟩
  · rw [rdO_none (by simp [cO, cP, h1, h2, h3, h4])]
    unfold kvR
    simp [g1, g2, g3, g4]
  rcases g4 with ⟨l4, g4⟩ | ⟨l4, g4, q4⟩
  · have : rdO l = none := by
      cases hc : cO.rd l with
      | none => exact rdO_none hc
      | some x =>
        obtain ⟨o, r⟩ := x
        refine rdO_long hc fun hw => ?_
        have hn : o.2.2.2.1 = b := by
          obtain ⟨r1, e1, f1⟩ := cP_split hc
          rw [h1] at e1
          injection e1 with e1
          injection e1 with _ e1
          subst e1
          obtain ⟨r2, e2, f2⟩ := cP_split f1
          rw [h2] at e2
          injection e2 with e2
          injection e2 with _ e2
          subst e2
          obtain ⟨r3, e3, f3⟩ := cP_split f2
          rw [h3] at e3
          injection e3 with e3
          injection e3 with _ e3
          subst e3
          obtain ⟨r4, e4, f4⟩ := cP_split f3
          rw [h4] at e4
          injection e4 with e4
          injection e4 with e4 _
          exact e4.symm
        have := Nat.le_trans hw.2.2.2.1 (mB_le _)
        rw [hn] at this
        omega
    rw [this]
    unfold kvR
    simp [g1, g2, g3, g4]
  rcases gI (p := p4) hb q4 with ⟨h5, g5⟩ | ⟨u, p5, h5, g5, q5⟩
  · rw [rdO_none (by simp [cO, cP, h1, h2, h3, h4, h5])]
    unfold kvR
    simp [g1, g2, g3, g4, g5]
  have hc : cO.rd l = some ((k, n, a, b, u), l.drop p5) := by simp [cO, cP, h1, h2, h3, h4, h5]
  have hk : kvR m l = if ((p5 : Int) = l.length ∧ wok (k, n, a, b, u)) then some (k, n, a, b, u) else none := by
    unfold kvR
    simp [g1, g2, g3, g4, g5]
  rw [hk]
  unfold rdO
  rw [hc]
  by_cases hp : p5 = l.length
  · rw [hp, List.drop_length]
    by_cases hw : wok (k, n, a, b, u)
    · simp [hw]
    · simp [hw]
  · have hd : l.drop p5 ≠ [] := by simp; omega
    rw [if_neg (by omega)]
    cases hx : l.drop p5 with
    | nil => exact absurd hx hd
    | cons x r => rfl
end Kvl
end Go.Proofs.YteafgdidjdfiiaaGreat
