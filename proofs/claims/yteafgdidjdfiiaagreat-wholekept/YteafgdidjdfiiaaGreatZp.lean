/- Names that are held up to a slot, plain: a lease is an entry whose value is its owner and its last slot; nothing of any program. -/
import Derived.Test.YteafgdidjdfiiaaGreatKvm
import Derived.Test.YteafgdidjdfiiaaGreatMem
set_option linter.unusedVariables false
set_option linter.unusedSimpArgs false
namespace Go.Proofs.YteafgdidjdfiiaaGreat
namespace Kvl
open Oct

def lo (v : List Int) : Int := v.headD 0
def lu (v : List Int) : Int := v.tail.headD 0
def rgs1 (e : PEnt) : Prop := (1 ≤ e.1.length ∧ e.1.length ≤ 16) ∧ (1 ≤ lo e.2 ∧ lo e.2 ≤ 4) ∧ (1 ≤ lu e.2 ∧ lu e.2 ≤ 2147483647)
instance (e : PEnt) : Decidable (rgs1 e) := by unfold rgs1; infer_instance
def rgtS (l : List PEnt) : Prop := l.length ≤ 16 ∧ up [] l ∧ ∀ e ∈ l, rgs1 e
instance (l : List PEnt) : Decidable (rgtS l) := by unfold rgtS; infer_instance
/-- The leases that aren't over. -/
def liv (now : Int) (l : List PEnt) : List PEnt := l.filter fun x => decide (now < lu x.2)
/-- Who holds a name, and for how long. -/
def holS (l : List PEnt) (n : List Int) (now : Int) : Int × Int := match l.find? fun x => decide (now < lu x.2) && decide (x.1 = n) with | none => (0, 0) | some x => (lo x.2, IntKind.i64.wrap (lu x.2 - now))
def tol (v : List Int) (now : Int) : List Int := enc (lo v) ++ enc (lu v - now)
def doT (l : List PEnt) (o : POp) (who now : Int) : List PEnt × Int × List Int :=
  match getR o.2.1 l with
  | none => if o.1 = 5 then (if 16 ≤ l.length then (l, 3, []) else (putR o.2.1 [who, now + o.2.2.2.2] l, 0, [])) else (l, 1, [])
  | some v => if o.1 = 8 then (l, 0, tol v now) else if lo v ≠ who then (l, 4, tol v now) else if o.1 = 7 then (delR o.2.1 l, 0, []) else (putR o.2.1 [who, now + o.2.2.2.2] l, 0, [])
def okS (l : List PEnt) (o : POp) (who now : Int) : Prop := rgtS l ∧ (wok o ∧ 5 ≤ o.1) ∧ (1 ≤ who ∧ who ≤ 4) ∧ (0 ≤ now ∧ now ≤ 2147482647)
instance (l : List PEnt) (o : POp) (who now : Int) : Decidable (okS l o who now) := by unfold okS; infer_instance
def doS (l : List PEnt) (o : POp) (who now : Int) : List PEnt × Int × List Int := if okS l o who now then doT (liv now l) o who now else (l, 5, [])
theorem doS_bad {l : List PEnt} {o : POp} {who now : Int} (h : ¬ okS l o who now) : doS l o who now = (l, 5, []) := if_neg h
theorem doS_yes {l : List PEnt} {o : POp} {who now : Int} (h : okS l o who now) : doS l o who now = doT (liv now l) o who now := if_pos h

theorem liv_mem {now : Int} {l : List PEnt} {e : PEnt} (h : e ∈ liv now l) : e ∈ l ∧ now < lu e.2 := by
  unfold liv at h
  simpa using h
theorem liv_up {now : Int} : ∀ {l : List PEnt} {m : List Int}, up m l → up m (liv now l)
  | [], _, _ => trivial
  | x :: r, m, h => by
    unfold liv
    rw [List.filter_cons]
    have ih := liv_up (now := now) h.2
    split
    · exact ⟨h.1, ih⟩
    · exact up_mono ih h.1
theorem liv_len {now : Int} {l : List PEnt} : (liv now l).length ≤ l.length := List.length_filter_le _ _
theorem liv_rgt {now : Int} {l : List PEnt} (h : rgtS l) : rgtS (liv now l) :=
  ⟨Nat.le_trans liv_len h.1, liv_up h.2.1, fun e he => h.2.2 e (liv_mem he).1⟩
theorem liv_all {now : Int} {l : List PEnt} (h : ∀ e ∈ l, now < lu e.2) : liv now l = l := by
  unfold liv
  rw [List.filter_eq_self]
  intro e he
  simpa using h e he
theorem fnd_low {now : Int} {n : List Int} {l : List PEnt} {m : List Int} (h : up m l) (hn : ¬ cmpL m n < 0) : (l.find? fun x => decide (now < lu x.2) && decide (x.1 = n)) = none := by
  rw [List.find?_eq_none]
  intro e he
  have h1 := up_low h e he
  have : e.1 ≠ n := fun e1 => hn (by rw [← e1]; exact h1)
  simp [this]
/-- In order: the holder is told by the leases that aren't over. -/
theorem hol_get {now : Int} {n : List Int} : ∀ {l : List PEnt} {m : List Int}, up m l → holS l n now = match getR n (liv now l) with | none => (0, 0) | some v => (lo v, IntKind.i64.wrap (lu v - now))
  | [], _, _ => rfl
  | x :: r, m, h => by
    have ih := hol_get (now := now) (n := n) h.2
    unfold holS liv at *
    rw [List.find?_cons, List.filter_cons]
    by_cases h1 : now < lu x.2
    · rw [decide_eq_true h1, Bool.true_and, if_pos rfl]
      unfold getR
      by_cases h2 : x.1 = n
      · rw [decide_eq_true h2, if_neg (by rw [h2, cmp_self]; decide), if_pos h2]
      · rw [decide_eq_false h2]
        by_cases h3 : cmpL x.1 n < 0
        · rw [if_pos h3]; exact ih
        · rw [if_neg h3, if_neg h2]
          have := fnd_low (now := now) h.2 h3
          simp only [this]
    · rw [decide_eq_false h1, Bool.false_and, if_neg (by decide)]
      exact ih
theorem doT_cases {l : List PEnt} {o : POp} {who now : Int} :
    (doT l o who now).1 = l ∧ ((doT l o who now).2.1 ≠ 0 ∨ o.1 = 8) ∨
    ((doT l o who now).1 = putR o.2.1 [who, now + o.2.2.2.2] l ∧ (doT l o who now).2.1 = 0 ∧ o.1 ≠ 7 ∧ o.1 ≠ 8 ∧ (l.length < 16 ∨ getR o.2.1 l ≠ none) ∧ (∀ v, getR o.2.1 l = some v → lo v = who)) ∨
    ((doT l o who now).1 = delR o.2.1 l ∧ (doT l o who now).2.1 = 0 ∧ o.1 = 7 ∧ (∀ v, getR o.2.1 l = some v → lo v = who)) := by
  unfold doT
  cases hg : getR o.2.1 l with
  | none =>
    dsimp only
    by_cases h1 : o.1 = 5
    · by_cases h2 : 16 ≤ l.length
      · rw [if_pos h1, if_pos h2]; left; exact ⟨rfl, .inl (by show (3 : Int) ≠ 0; decide)⟩
      · rw [if_pos h1, if_neg h2]; right; left
        exact ⟨rfl, rfl, by omega, by omega, .inl (by omega), fun v hv => by cases hv⟩
    · rw [if_neg h1]; left; exact ⟨rfl, .inl (by show (1 : Int) ≠ 0; decide)⟩
  | some v =>
    dsimp only
    by_cases h1 : o.1 = 8
    · rw [if_pos h1]; left; exact ⟨rfl, .inr h1⟩
    · by_cases h2 : lo v ≠ who
      · rw [if_neg h1, if_pos h2]; left; exact ⟨rfl, .inl (by show (4 : Int) ≠ 0; decide)⟩
      · by_cases h3 : o.1 = 7
        · rw [if_neg h1, if_neg h2, if_pos h3]; right; right
          exact ⟨rfl, rfl, h3, fun u hu => by cases hu; simpa using h2⟩
        · rw [if_neg h1, if_neg h2, if_neg h3]; right; left
          exact ⟨rfl, rfl, h3, h1, .inr (by simp), fun u hu => by cases hu; simpa using h2⟩
theorem num_yes {o : POp} (h : wok o) (h5 : 5 ≤ o.1) (h7 : o.1 ≠ 7) (h8 : o.1 ≠ 8) : 1 ≤ o.2.2.2.2 ∧ o.2.2.2.2 ≤ 1000 := by
  obtain ⟨⟨k1, k2⟩, _, _, _, u1, u2⟩ := h
  have e : o.1 = 5 ∨ o.1 = 6 := by omega
  unfold lN at u1
  unfold mN at u2
  rw [if_pos e] at u1 u2
  exact ⟨u1, u2⟩
theorem put_rgtS {l : List PEnt} {n v : List Int} (h : rgtS l) (he : rgs1 (n, v)) (hl : l.length < 16 ∨ getR n l ≠ none) : rgtS (putR n v l) := by
  obtain ⟨h1, h2, h3⟩ := h
  refine ⟨?_, put_up h2 (empty_low he.1.1), fun e hm => ?_⟩
  · rw [put_len]
    split
    · rename_i h; rcases hl with hl | hl
      · omega
      · exact absurd h hl
    · exact h1
  · rcases put_mem e hm with rfl | hm
    · exact he
    · exact h3 e hm
theorem del_rgtS {l : List PEnt} {n : List Int} (h : rgtS l) : rgtS (delR n l) :=
  ⟨Nat.le_trans del_len h.1, del_up h.2.1, fun e he => h.2.2 e (del_mem e he)⟩
theorem rgs_new {o : POp} {who now : Int} (hw : wok o) (hn : 1 ≤ o.2.2.2.2 ∧ o.2.2.2.2 ≤ 1000) (h1 : 1 ≤ who ∧ who ≤ 4) (h2 : 0 ≤ now ∧ now ≤ 2147482647) : rgs1 (o.2.1, [who, now + o.2.2.2.2]) := by
  refine ⟨hw.2.1, h1, ?_⟩
  show 1 ≤ now + o.2.2.2.2 ∧ now + o.2.2.2.2 ≤ 2147483647
  omega
theorem doS_rgt {l : List PEnt} {o : POp} {who now : Int} (h : rgtS l) : rgtS (doS l o who now).1 := by
  by_cases hk : okS l o who now
  · rw [doS_yes hk]
    obtain ⟨_, ⟨hw, h5⟩, hc, hn⟩ := hk
    rcases doT_cases (l := liv now l) (o := o) (who := who) (now := now) with ⟨e, _⟩ | ⟨e, _, h7, h8, hl, _⟩ | ⟨e, _⟩
    · rw [e]; exact liv_rgt h
    · rw [e]; exact put_rgtS (liv_rgt h) (rgs_new hw (num_yes hw h5 h7 h8) hc hn) hl
    · rw [e]; exact del_rgtS (liv_rgt h)
  · rw [doS_bad hk]; exact h
/-- What is left behind an operation isn't over. -/
theorem doT_liv {l : List PEnt} {o : POp} {who now : Int} (hl : ∀ e ∈ l, now < lu e.2) (hw : wok o) (h5 : 5 ≤ o.1) : liv now (doT l o who now).1 = (doT l o who now).1 := by
  refine liv_all fun e he => ?_
  rcases doT_cases (l := l) (o := o) (who := who) (now := now) with ⟨e1, _⟩ | ⟨e1, _, h7, h8, _⟩ | ⟨e1, _⟩
  · rw [e1] at he; exact hl e he
  · rw [e1] at he
    rcases put_mem e he with rfl | he
    · have := num_yes hw h5 h7 h8
      show now < now + o.2.2.2.2
      omega
    · exact hl e he
  · rw [e1] at he; exact hl e (del_mem e he)
/-- Who holds a name behind an operation. -/
def getS (n : List Int) (now : Int) (l : List PEnt) : Int × Int := match getR n l with | none => (0, 0) | some v => (lo v, IntKind.i64.wrap (lu v - now))
theorem hol_do {l : List PEnt} {o : POp} {who now : Int} {n : List Int} (hk : okS l o who now) : holS (doS l o who now).1 n now = getS n now (doT (liv now l) o who now).1 := by
  have hr := doS_rgt (o := o) (who := who) (now := now) hk.1
  rw [hol_get hr.2.1, doS_yes hk, doT_liv (fun e he => (liv_mem he).2) hk.2.1.1 hk.2.1.2]
  rfl
theorem hol_l {l : List PEnt} {now : Int} {n : List Int} (h : rgtS l) : holS l n now = getS n now (liv now l) := hol_get h.2.1
/-- Nobody loses what it holds. -/
theorem keepsS {l : List PEnt} {o : POp} {who now : Int} (h : rgtS l) (n : List Int) (h1 : (holS l n now).1 ≠ 0) (h2 : (holS l n now).1 ≠ who) : holS (doS l o who now).1 n now = holS l n now := by
  by_cases hk : okS l o who now
  · rw [hol_do hk, hol_l h]
    rw [hol_l h] at h1 h2
    unfold getS at h1 h2 ⊢
    have hup := (liv_rgt (now := now) h).2.1
    rcases doT_cases (l := liv now l) (o := o) (who := who) (now := now) with ⟨e1, _⟩ | ⟨e1, _, _, _, _, hv⟩ | ⟨e1, _, _, hv⟩
    · rw [e1]
    · rw [e1, get_put hup]
      by_cases hn : n = o.2.1
      · rw [if_pos hn]
        rw [hn] at h1 h2
        cases hg : getR o.2.1 (liv now l) with
        | none => rw [hg] at h1; exact absurd rfl h1
        | some v => rw [hg] at h2; exact absurd (hv v hg) h2
      · rw [if_neg hn]
    · rw [e1, get_del hup]
      by_cases hn : n = o.2.1
      · rw [if_pos hn]
        rw [hn] at h1 h2
        cases hg : getR o.2.1 (liv now l) with
        | none => rw [hg] at h1; exact absurd rfl h1
        | some v => rw [hg] at h2; exact absurd (hv v hg) h2
      · rw [if_neg hn]
  · rw [doS_bad hk]
theorem wrapN {a : Int} (h1 : -9223372036854775808 ≤ a) (h2 : a ≤ 9223372036854775807) : IntKind.i64.wrap a = a := by rw [IntKind.wrap_i64]; omega
/-- What was acquired is held. -/
theorem gotS {l : List PEnt} {o : POp} {who now : Int} (h : rgtS l) (hc : (doS l o who now).2.1 = 0) (hk : o.1 = 5 ∨ o.1 = 6) : holS (doS l o who now).1 o.2.1 now = (who, o.2.2.2.2) := by
  by_cases hok : okS l o who now
  · rw [hol_do hok]
    rw [doS_yes hok] at hc
    have hup := (liv_rgt (now := now) h).2.1
    obtain ⟨_, ⟨hw, h5⟩, hcl, hnow⟩ := hok
    have hnum := num_yes hw h5 (by omega) (by omega)
    rcases doT_cases (l := liv now l) (o := o) (who := who) (now := now) with ⟨e1, h2⟩ | ⟨e1, _⟩ | ⟨e1, _, h7, _⟩
    · rcases h2 with h2 | h2
      · exact absurd hc h2
      · omega
    · rw [e1]
      unfold getS
      rw [get_put hup, if_pos rfl]
      show (who, IntKind.i64.wrap (now + o.2.2.2.2 - now)) = _
      rw [wrapN (by omega) (by omega)]
      congr 1
      omega
    · omega
  · rw [doS_bad hok] at hc
    exact absurd hc (by show (5 : Int) ≠ 0; decide)
/-- What was released is held by nobody. -/
theorem lostS {l : List PEnt} {o : POp} {who now : Int} (h : rgtS l) (hc : (doS l o who now).2.1 = 0) (hk : o.1 = 7) : holS (doS l o who now).1 o.2.1 now = (0, 0) := by
  by_cases hok : okS l o who now
  · rw [hol_do hok]
    rw [doS_yes hok] at hc
    have hup := (liv_rgt (now := now) h).2.1
    rcases doT_cases (l := liv now l) (o := o) (who := who) (now := now) with ⟨e1, h2⟩ | ⟨e1, _, h7, _⟩ | ⟨e1, _⟩
    · rcases h2 with h2 | h2
      · exact absurd hc h2
      · omega
    · exact absurd hk h7
    · rw [e1]
      unfold getS
      rw [get_del hup, if_pos rfl]
  · rw [doS_bad hok] at hc
    exact absurd hc (by show (5 : Int) ≠ 0; decide)
end Kvl
end Go.Proofs.YteafgdidjdfiiaaGreat
