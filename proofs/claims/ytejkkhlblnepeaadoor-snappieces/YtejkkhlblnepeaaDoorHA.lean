/- The walks over package lease: within, isClient, isTime, Right. -/
import Derived.Test.YtejkkhlblnepeaaDoorKvm
import Derived.Test.YtejkkhlblnepeaaDoorMem
import Derived.Test.YtejkkhlblnepeaaDoorKi
import Derived.Laws.IdiomCopy
import Derived.Test.YtejkkhlblnepeaaDoorKj
section
set_option linter.unusedVariables false
set_option linter.unusedSimpArgs false
namespace Go.Proofs.YtejkkhlblnepeaaDoor
namespace Kvl
open Oct

def lo (v : List Int) : Int := v.headD 0
def lu (v : List Int) : Int := v.tail.headD 0
def rgs1 (e : PEnt) : Prop := (1 ≤ e.1.length ∧ e.1.length ≤ 16) ∧ (1 ≤ lo e.2 ∧ lo e.2 ≤ 4) ∧ (1 ≤ lu e.2 ∧ lu e.2 ≤ 2147483647)
instance (e : PEnt) : Decidable (rgs1 e) := by unfold rgs1; infer_instance
def rgtS (l : List PEnt) : Prop := l.length ≤ 16 ∧ up [] l ∧ ∀ e ∈ l, rgs1 e
instance (l : List PEnt) : Decidable (rgtS l) := by unfold rgtS; infer_instance
/-- The leases that aren't over. -/
def liv (now : Int) (l : List PEnt) : List PEnt := l.filter fun x => decide (now < lu x.2)
/-- Who holds a name, and for how long. -/
def holS (l : List PEnt) (n : List Int) (now : Int) : Int × Int := match l.find? fun x => decide (now < lu x.2) && decide (x.1 = n) with | none => (0, 0) | some x => (lo x.2, IntKind.i64.wrap (lu x.2 - now))
def tol (v : List Int) (now : Int) : List Int := enc (lo v) ++ enc (lu v - now)
def doT (l : List PEnt) (o : POp) (who now : Int) : List PEnt × Int × List Int :=
  match getR o.2.1 l with
  | none => if o.1 = 5 then (if 16 ≤ l.length then (l, 3, []) else (putR o.2.1 [who, now + o.2.2.2.2] l, 0, [])) else (l, 1, [])
  | some v => if o.1 = 8 then (l, 0, tol v now) else if lo v ≠ who then (l, 4, tol v now) else if o.1 = 7 then (delR o.2.1 l, 0, []) else (putR o.2.1 [who, now + o.2.2.2.2] l, 0, [])
def okS (l : List PEnt) (o : POp) (who now : Int) : Prop := rgtS l ∧ (wok o ∧ 5 ≤ o.1) ∧ (1 ≤ who ∧ who ≤ 4) ∧ (0 ≤ now ∧ now ≤ 2147482647)
instance (l : List PEnt) (o : POp) (who now : Int) : Decidable (okS l o who now) := by unfold okS; infer_instance
def doS (l : List PEnt) (o : POp) (who now : Int) : List PEnt × Int × List Int := if okS l o who now then doT (liv now l) o who now else (l, 5, [])
theorem doS_bad {l : List PEnt} {o : POp} {who now : Int} (h : ¬ okS l o who now) : doS l o who now = (l, 5, []) := if_neg h
theorem doS_yes {l : List PEnt} {o : POp} {who now : Int} (h : okS l o who now) : doS l o who now = doT (liv now l) o who now := if_pos h

theorem liv_mem {now : Int} {l : List PEnt} {e : PEnt} (h : e ∈ liv now l) : e ∈ l ∧ now < lu e.2 := by
  unfold liv at h
  simpa using h
theorem liv_up {now : Int} : ∀ {l : List PEnt} {m : List Int}, up m l → up m (liv now l)
  | [], _, _ => trivial
  | x :: r, m, h => by
    unfold liv
    rw [List.filter_cons]
    have ih := liv_up (now := now) h.2
    split
    · exact ⟨h.1, ih⟩
    · exact up_mono ih h.1
theorem liv_len {now : Int} {l : List PEnt} : (liv now l).length ≤ l.length := List.length_filter_le _ _
theorem liv_rgt {now : Int} {l : List PEnt} (h : rgtS l) : rgtS (liv now l) :=
  ⟨Nat.le_trans liv_len h.1, liv_up h.2.1, fun e he => h.2.2 e (liv_mem he).1⟩
theorem liv_all {now : Int} {l : List PEnt} (h : ∀ e ∈ l, now < lu e.2) : liv now l = l := by
  unfold liv
  rw [List.filter_eq_self]
  intro e he
  simpa using h e he
theorem fnd_low {now : Int} {n : List Int} {l : List PEnt} {m : List Int} (h : up m l) (hn : ¬ cmpL m n < 0) : (l.find? fun x => decide (now < lu x.2) && decide (x.1 = n)) = none := by
  rw [List.find?_eq_none]
  intro e he
  have h1 := up_low h e he
  have : e.1 ≠ n := fun e1 => hn (by rw [← e1]; exact h1)
  simp [this]
/-- In order: the holder is told by the leases that aren't over. -/
theorem hol_get {now : Int} {n : List Int} : ∀ {l : List PEnt} {m : List Int}, up m l → holS l n now = match getR n (liv now l) with | none => (0, 0) | some v => (lo v, IntKind.i64.wrap (lu v - now))
  | [], _, _ => rfl
  | x :: r, m, h => by
    have ih := hol_get (now := now) (n := n) h.2
    unfold holS liv at *
    rw [List.find?_cons, List.filter_cons]
    by_cases h1 : now < lu x.2
    · rw [decide_eq_true h1, Bool.true_and, if_pos rfl]
      unfold getR
      by_cases h2 : x.1 = n
      · rw [decide_eq_true h2, if_neg (by rw [h2, cmp_self]; decide), if_pos h2]
      · rw [decide_eq_false h2]
        by_cases h3 : cmpL x.1 n < 0
        · rw [if_pos h3]; exact ih
        · rw [if_neg h3, if_neg h2]
          have := fnd_low (now := now) h.2 h3
          simp only [this]
    · rw [decide_eq_false h1, Bool.false_and, if_neg (by decide)]
      exact ih
theorem doT_cases {l : List PEnt} {o : POp} {who now : Int} :
    (doT l o who now).1 = l ∧ ((doT l o who now).2.1 ≠ 0 ∨ o.1 = 8) ∨
    ((doT l o who now).1 = putR o.2.1 [who, now + o.2.2.2.2] l ∧ (doT l o who now).2.1 = 0 ∧ o.1 ≠ 7 ∧ o.1 ≠ 8 ∧ (l.length < 16 ∨ getR o.2.1 l ≠ none) ∧ (∀ v, getR o.2.1 l = some v → lo v = who)) ∨
    ((doT l o who now).1 = delR o.2.1 l ∧ (doT l o who now).2.1 = 0 ∧ o.1 = 7 ∧ (∀ v, getR o.2.1 l = some v → lo v = who)) := by
  unfold doT
  cases hg : getR o.2.1 l with
  | none =>
    dsimp only
    by_cases h1 : o.1 = 5
    · by_cases h2 : 16 ≤ l.length
      · rw [if_pos h1, if_pos h2]; left; exact ⟨rfl, .inl (by show (3 : Int) ≠ 0; decide)⟩
      · rw [if_pos h1, if_neg h2]; right; left
        exact ⟨rfl, rfl, by omega, by omega, .inl (by omega), fun v hv => by cases hv⟩
    · rw [if_neg h1]; left; exact ⟨rfl, .inl (by show (1 : Int) ≠ 0; decide)⟩
  | some v =>
    dsimp only
    by_cases h1 : o.1 = 8
    · rw [if_pos h1]; left; exact ⟨rfl, .inr h1⟩
    · by_cases h2 : lo v ≠ who
      · rw [if_neg h1, if_pos h2]; left; exact ⟨rfl, .inl (by show (4 : Int) ≠ 0; decide)⟩
      · by_cases h3 : o.1 = 7
        · rw [if_neg h1, if_neg h2, if_pos h3]; right; right
          exact ⟨rfl, rfl, h3, fun u hu => by cases hu; simpa using h2⟩
        · rw [if_neg h1, if_neg h2, if_neg h3]; right; left
          exact ⟨rfl, rfl, h3, h1, .inr (by simp), fun u hu => by cases hu; simpa using h2⟩
theorem num_yes {o : POp} (h : wok o) (h5 : 5 ≤ o.1) (h7 : o.1 ≠ 7) (h8 : o.1 ≠ 8) : 1 ≤ o.2.2.2.2 ∧ o.2.2.2.2 ≤ 1000 := by
  obtain ⟨⟨k1, k2⟩, _, _, _, u1, u2⟩ := h
  have e : o.1 = 5 ∨ o.1 = 6 := by omega
  unfold lN at u1
  unfold mN at u2
  rw [if_pos e] at u1 u2
  exact ⟨u1, u2⟩
theorem put_rgtS {l : List PEnt} {n v : List Int} (h : rgtS l) (he : rgs1 (n, v)) (hl : l.length < 16 ∨ getR n l ≠ none) : rgtS (putR n v l) := by
  obtain ⟨h1, h2, h3⟩ := h
  refine ⟨?_, put_up h2 (empty_low he.1.1), fun e hm => ?_⟩
  · rw [put_len]
    split
    · rename_i h; rcases hl with hl | hl
      · omega
      · exact absurd h hl
    · exact h1
  · rcases put_mem e hm with rfl | hm
    · exact he
    · exact h3 e hm
theorem del_rgtS {l : List PEnt} {n : List Int} (h : rgtS l) : rgtS (delR n l) :=
  ⟨Nat.le_trans del_len h.1, del_up h.2.1, fun e he => h.2.2 e (del_mem e he)⟩
theorem rgs_new {o : POp} {who now : Int} (hw : wok o) (hn : 1 ≤ o.2.2.2.2 ∧ o.2.2.2.2 ≤ 1000) (h1 : 1 ≤ who ∧ who ≤ 4) (h2 : 0 ≤ now ∧ now ≤ 2147482647) : rgs1 (o.2.1, [who, now + o.2.2.2.2]) := by
  refine ⟨hw.2.1, h1, ?_⟩
  show 1 ≤ now + o.2.2.2.2 ∧ now + o.2.2.2.2 ≤ 2147483647
  omega
theorem doS_rgt {l : List PEnt} {o : POp} {who now : Int} (h : rgtS l) : rgtS (doS l o who now).1 := by
  by_cases hk : okS l o who now
  · rw [doS_yes hk]
    obtain ⟨_, ⟨hw, h5⟩, hc, hn⟩ := hk
    rcases doT_cases (l := liv now l) (o := o) (who := who) (now := now) with ⟨e, _⟩ | ⟨e, _, h7, h8, hl, _⟩ | ⟨e, _⟩
    · rw [e]; exact liv_rgt h
    · rw [e]; exact put_rgtS (liv_rgt h) (rgs_new hw (num_yes hw h5 h7 h8) hc hn) hl
    · rw [e]; exact del_rgtS (liv_rgt h)
  · rw [doS_bad hk]; exact h
/-- What is left behind an operation isn't over. -/
theorem doT_liv {l : List PEnt} {o : POp} {who now : Int} (hl : ∀ e ∈ l, now < lu e.2) (hw : wok o) (h5 : 5 ≤ o.1) : liv now (doT l o who now).1 = (doT l o who now).1 := by
  refine liv_all fun e he => ?_
  rcases doT_cases (l := l) (o := o) (who := who) (now := now) with ⟨e1, _⟩ | ⟨e1, _, h7, h8, _⟩ | ⟨e1, _⟩
  · rw [e1] at he; exact hl e he
  · rw [e1] at he
    rcases put_mem e he with rfl | he
    · have := num_yes hw h5 h7 h8
      show now < now + o.2.2.2.2
      omega
    · exact hl e he
  · rw [e1] at he; exact hl e (del_mem e he)
/-- Who holds a name behind an operation. -/
def getS (n : List Int) (now : Int) (l : List PEnt) : Int × Int := match getR n l with | none => (0, 0) | some v => (lo v, IntKind.i64.wrap (lu v - now))
theorem hol_do {l : List PEnt} {o : POp} {who now : Int} {n : List Int} (hk : okS l o who now) : holS (doS l o who now).1 n now = getS n now (doT (liv now l) o who now).1 := by
  have hr := doS_rgt (o := o) (who := who) (now := now) hk.1
  rw [hol_get hr.2.1, doS_yes hk, doT_liv (fun e he => (liv_mem he).2) hk.2.1.1 hk.2.1.2]
  rfl
theorem hol_l {l : List PEnt} {now : Int} {n : List Int} (h : rgtS l) : holS l n now = getS n now (liv now l) := hol_get h.2.1
/-- Nobody loses what it holds. -/
theorem keepsS {l : List PEnt} {o : POp} {who now : Int} (h : rgtS l) (n : List Int) (h1 : (holS l n now).1 ≠ 0) (h2 : (holS l n now).1 ≠ who) : holS (doS l o who now).1 n now = holS l n now := by
  by_cases hk : okS l o who now
  · rw [hol_do hk, hol_l h]
    rw [hol_l h] at h1 h2
    unfold getS at h1 h2 ⊢
    have hup := (liv_rgt (now := now) h).2.1
    rcases doT_cases (l := liv now l) (o := o) (who := who) (now := now) with ⟨e1, _⟩ | ⟨e1, _, _, _, _, hv⟩ | ⟨e1, _, _, hv⟩
    · rw [e1]
    · rw [e1, get_put hup]
      by_cases hn : n = o.2.1
      · rw [if_pos hn]
        rw [hn] at h1 h2
        cases hg : getR o.2.1 (liv now l) with
        | none => rw [hg] at h1; exact absurd rfl h1
        | some v => rw [hg] at h2; exact absurd (hv v hg) h2
      · rw [if_neg hn]
    · rw [e1, get_del hup]
      by_cases hn : n = o.2.1
      · rw [if_pos hn]
        rw [hn] at h1 h2
        cases hg : getR o.2.1 (liv now l) with
        | none => rw [hg] at h1; exact absurd rfl h1
        | some v => rw [hg] at h2; exact absurd (hv v hg) h2
      · rw [if_neg hn]
  · rw [doS_bad hk]
theorem wrapN {a : Int} (h1 : -9223372036854775808 ≤ a) (h2 : a ≤ 9223372036854775807) : IntKind.i64.wrap a = a := by rw [IntKind.wrap_i64]; omega
/-- What was acquired is held. -/
theorem gotS {l : List PEnt} {o : POp} {who now : Int} (h : rgtS l) (hc : (doS l o who now).2.1 = 0) (hk : o.1 = 5 ∨ o.1 = 6) : holS (doS l o who now).1 o.2.1 now = (who, o.2.2.2.2) := by
  by_cases hok : okS l o who now
  · rw [hol_do hok]
    rw [doS_yes hok] at hc
    have hup := (liv_rgt (now := now) h).2.1
    obtain ⟨_, ⟨hw, h5⟩, hcl, hnow⟩ := hok
    have hnum := num_yes hw h5 (by omega) (by omega)
    rcases doT_cases (l := liv now l) (o := o) (who := who) (now := now) with ⟨e1, h2⟩ | ⟨e1, _⟩ | ⟨e1, _, h7, _⟩
    · rcases h2 with h2 | h2
      · exact absurd hc h2
      · omega
    · rw [e1]
      unfold getS
      rw [get_put hup, if_pos rfl]
      show (who, IntKind.i64.wrap (now + o.2.2.2.2 - now)) = _
      rw [wrapN (by omega) (by omega)]
      congr 1
      omega
    · omega
  · rw [doS_bad hok] at hc
    exact absurd hc (by show (5 : Int) ≠ 0; decide)
/-- What was released is held by nobody. -/
theorem lostS {l : List PEnt} {o : POp} {who now : Int} (h : rgtS l) (hc : (doS l o who now).2.1 = 0) (hk : o.1 = 7) : holS (doS l o who now).1 o.2.1 now = (0, 0) := by
  by_cases hok : okS l o who now
  · rw [hol_do hok]
    rw [doS_yes hok] at hc
    have hup := (liv_rgt (now := now) h).2.1
    rcases doT_cases (l := liv now l) (o := o) (who := who) (now := now) with ⟨e1, h2⟩ | ⟨e1, _, h7, _⟩ | ⟨e1, _⟩
    · rcases h2 with h2 | h2
      · exact absurd hc h2
      · omega
    · exact absurd hk h7
    · rw [e1]
      unfold getS
      rw [get_del hup, if_pos rfl]
  · rw [doS_bad hok] at hc
    exact absurd hc (by show (5 : Int) ≠ 0; decide)
end Kvl
end Go.Proofs.YtejkkhlblnepeaaDoor
end

section
set_option linter.unusedVariables false
set_option linter.unusedSimpArgs false
namespace Go.Proofs.YtejkkhlblnepeaaDoor
open Go.RowKit Oct Kvl

def RLea (G : Nat → Prop) (w : World) (r : List Value) (x : PEnt) : Prop := ∃ a p q, r = [a, .int .i64 p, .int .i64 q] ∧ RT G w a x.1 ∧ x.2 = [p, q]
theorem mov_lea : Mov RLea := fun _ _ _ _ _ _ h _ hm => by
  obtain ⟨a, p, q, e, h1, h2⟩ := h
  exact ⟨a, p, q, e, h1.mv hm, h2⟩
theorem onL3 {u : Value} {p q : Int} (hu : u.oneCell' = true) : ∀ x ∈ [u, Value.int .i64 p, Value.int .i64 q], x.oneCell' = true := by
  intro x hx
  simp only [List.mem_cons, List.not_mem_nil, or_false] at hx
  rcases hx with rfl | rfl | rfl <;> first | assumption | rfl
theorem one_RS {G : Nat → Prop} {w : World} {r : List Value} {x : PEnt} (h : RLea G w r x) : ∀ v ∈ r, v.oneCell' = true := by
  obtain ⟨a, p, q, rfl, h1, h2⟩ := h
  exact onL3 h1.one
def OLea (G : Nat → Prop) (w : World) (r : List Value) (x : PEnt) : Prop := ∃ a p q, r = [a, .int .i64 p, .int .i64 q] ∧ OT G w a x.1 ∧ x.2 = [p, q]
theorem mov_olea : Mov OLea := fun _ _ _ _ _ _ h _ hm => by
  obtain ⟨a, p, q, e, h1, h2⟩ := h
  exact ⟨a, p, q, e, h1.mv hm, h2⟩
theorem OLea.lea {G : Nat → Prop} {w : World} {r : List Value} {x : PEnt} (h : OLea G w r x) : RLea G w r x := by
  obtain ⟨a, p, q, e, h1, h2⟩ := h
  exact ⟨a, p, q, e, h1.rt, h2⟩
theorem RL.lea {G : Nat → Prop} {w : World} {v : Value} {ys : List PEnt} (h : RL OLea 3 G w v ys) : RL RLea 3 G w v ys := by
  obtain ⟨rows, h1, h2⟩ := h
  exact ⟨rows, h1, h2.mono fun _ _ h => h.lea⟩
def szS (x : PEnt) : Prop := szT x.1

theorem Tryd.infL : (Tryd.prog.info? 53).map (fun i => (i.zero, i.size, i.bytes)) = some (some (.agg #[.slice none 0 0, .int .i64 0, .int .i64 0]), 3, 40) := by kernel_rfl
theorem Tryd.sizL : (Tryd.prog.info? 53).map (·.size) = some 3 := by kernel_rfl


end Go.Proofs.YtejkkhlblnepeaaDoor
end

section
set_option linter.unusedVariables false
set_option linter.unusedSimpArgs false
namespace Go.Proofs.YtejkkhlblnepeaaDoor
open Go.RowKit Oct Kvl

/-- A row of leases of which the first q are copied. -/
structure MixS (B g n cap q : Nat) (w0 w : World) (rows0 : List (List Value)) (ys : List PEnt) : Prop where
  bel : Below B w0 w
  ex : ∃ (cur : List Value) (A : List (List Value)), Row w g 53 cur ∧ cur.length = cap * 3 ∧ A.length = q ∧ (∀ r ∈ A, r.length = 3) ∧ cur.take (n * 3) = (A ++ rows0.drop q).flatten ∧ All2 (OLea (fun b => B ≤ b ∧ b ≠ g) w) A (ys.take q)

theorem MixS.row {B g n cap q : Nat} {w0 w : World} {rows0 : List (List Value)} {ys : List PEnt} (h : MixS B g n cap q w0 w rows0 ys) (h0 : ∀ r ∈ rows0, r.length = 3) {r : List Value} (hr : rows0[q]? = some r) (hq : q < n) : w.rangeAt g (q * 3) r := by
  obtain ⟨cur, A, h1, h2, h3, h4, h5, h6⟩ := h.ex
  intro j v hj
  refine h1.cell ?_
  have hrl := h0 r (List.mem_of_getElem? hr)
  have hjl : j < 3 := by rw [← hrl]; exact (List.getElem?_eq_some_iff.1 hj).1
  have e : (A ++ rows0.drop q)[q]? = some r := by rw [List.getElem?_append_right (by omega), h3, Nat.sub_self, List.getElem?_drop, Nat.add_zero]; exact hr
  have hl : ∀ x ∈ A ++ rows0.drop q, x.length = 3 := fun x hx => by
    rcases List.mem_append.1 hx with hx | hx
    · exact h4 x hx
    · exact h0 x (List.mem_of_mem_drop hx)
  have := flat_at hl e hj
  rw [← h5, List.getElem?_take, if_pos (by omega)] at this
  exact this
theorem MixS.step {B g n cap q : Nat} {w0 w w1 w2 : World} {rows0 : List (List Value)} {ys : List PEnt} (h : MixS B g n cap q w0 w rows0 ys) (h0 : ∀ r ∈ rows0, r.length = 3) (hn : rows0.length = n) (hc : n ≤ cap) {x : PEnt} (hx : ys[q]? = some x) (hq : q < n)
    (hb1 : Below w.heap.size w w1) (hBg : B ≤ g) {r : List Value} (hr : OLea (From w.heap.size) w1 r x) (hB : B ≤ w.heap.size) (hg2 : w1.grownBy w2 (some g)) {cur0 : List Value} (hc0 : Row w1 g 53 cur0) (hr2 : Row w2 g 53 (splice cur0 (q * 3) r)) : MixS B g n cap (q + 1) w0 w2 rows0 ys := by
  obtain ⟨cur, A, h1, h2, h3, h4, h5, h6⟩ := h.ex
  have hgl := h1.lt
  obtain rfl : cur = cur0 := (h1.below hb1).uniq hc0
  have hrl : r.length = 3 := by obtain ⟨a, p, q, rfl, _⟩ := hr; rfl
  refine ⟨(h.bel.trans (hb1.mono hB)).trans (grown_below hg2 (Nat.le_trans hB hb1.size) (fun k hk => by cases hk; exact hBg)), splice cur (q * 3) r, A ++ [r], hr2, ?_, ?_, ?_, ?_, ?_⟩
  · rw [length_splice _ _ _ (by omega), h2]
  · simp [h3]
  · intro y hy
    rcases List.mem_append.1 hy with hy | hy
    · exact h4 y hy
    · simp at hy; subst hy; exact hrl
  · obtain ⟨b0, hb0⟩ : ∃ b0, rows0[q]? = some b0 := ⟨_, List.getElem?_eq_getElem (by omega)⟩
    have hd : rows0.drop q = b0 :: rows0.drop (q + 1) := by
      rw [List.drop_eq_getElem_cons (by omega : q < rows0.length)]
      rw [List.getElem?_eq_getElem (by omega)] at hb0
      injection hb0 with hb0
      rw [hb0]
    rw [hd] at h5
    rw [List.append_assoc, List.singleton_append]
    refine flat_put h4 (fun y hy => ?_) hrl h3 ?_ (by omega) h5
    · rw [← hd] at hy; exact h0 y (List.mem_of_mem_drop hy)
    · rw [← hd, List.length_append, List.length_drop]; omega
  · have e : ys.take (q + 1) = ys.take q ++ [x] := by
      rw [List.take_add_one, hx]; rfl
    rw [e]
    refine All2.app (h6.mono fun y a hy => mov_olea _ _ _ _ _ _ hy (Nat.le_trans hb1.size hg2.size) fun k hk hlt => ⟨?_, hk⟩) ⟨mov_olea _ _ _ _ _ _ hr hg2.size fun k hk hlt => ⟨hg2.block k hlt (fun e => ?_), Nat.le_trans hB hk, fun e => ?_⟩, trivial⟩
    · have hs := hb1.size
      exact (hg2.block k (by omega) (fun e => by injection e with e; exact hk.2 e)).trans (hb1.block k hlt)
    · injection e with e
      unfold From at hk; omega
    · unfold From at hk; omega
theorem MixS.done {B g n cap : Nat} {w0 w : World} {rows0 : List (List Value)} {ys : List PEnt} (h : MixS B g n cap n w0 w rows0 ys) (hn : rows0.length = n) (hy : ys.length = n) (hc : n ≤ cap) (hm : cap ≤ maxLen) (hB : B ≤ g) : LB OLea 53 3 B w (.slice (some ⟨g, 0, none⟩) n cap) ys := by
  obtain ⟨cur, A, h1, h2, h3, h4, h5, h6⟩ := h.ex
  rw [List.drop_of_length_le (by omega), List.append_nil] at h5
  rw [List.take_of_length_le (by omega)] at h6
  refine ⟨A, h4, ⟨flat_len h4, .inr ⟨g, cap, cur.toArray, by rw [h3], Nat.zero_le _, h1, by omega, hm, by simpa using h2, by rw [h3]; simpa using h5⟩⟩, fr_at _ _ _ _ hB, h6.mono fun y a hy => mov_olea _ _ _ _ _ _ hy (Nat.le_refl _) fun k hk _ => ⟨rfl, hk.1, fun e => hk.2 ?_⟩⟩
  simp [Value.ownBlock] at e
  exact e.symm

end Go.Proofs.YtejkkhlblnepeaaDoor
end

section
set_option linter.unusedVariables false
set_option linter.unusedSimpArgs false
namespace Go.Proofs.YtejkkhlblnepeaaDoor
open Go.RowKit Oct Kvl

/-- The cells behind what is taken out, then the last record cleared. -/
theorem splice_delS (cur L zs : List Value) (i n : Nat) (hi : i < n) (hL : L.length = n * 3) (hc : n * 3 ≤ cur.length) (ht : cur.take (n * 3) = L) (hz : zs.length = 3) :
    (splice (splice cur (i * 3) (L.drop ((i + 1) * 3))) ((n - 1) * 3) zs).take ((n - 1) * 3) = L.take (i * 3) ++ L.drop ((i + 1) * 3) := by
  have hd : (L.drop ((i + 1) * 3)).length = (n - 1) * 3 - i * 3 := by rw [List.length_drop, hL]; omega
  have e1 : cur.take (i * 3) = L.take (i * 3) := by rw [← ht, List.take_take, Nat.min_eq_left (by omega)]
  have hl : (L.take (i * 3)).length = i * 3 := by rw [List.length_take]; omega
  have e2 : (splice cur (i * 3) (L.drop ((i + 1) * 3))).take ((n - 1) * 3) = L.take (i * 3) ++ L.drop ((i + 1) * 3) := by
    unfold splice
    rw [e1, ← List.append_assoc, List.take_append_of_le_length (by rw [List.length_append, hl, hd]; omega), List.take_of_length_le (by rw [List.length_append, hl, hd]; omega)]
  generalize splice cur (i * 3) (L.drop ((i + 1) * 3)) = C at *
  have hC : (C.take ((n - 1) * 3)).length = (n - 1) * 3 := by rw [e2, List.length_append, hl, hd]; omega
  unfold splice
  rw [List.take_append_of_le_length (by rw [hC]; omega), List.take_of_length_le (by rw [hC]; omega), e2]

end Go.Proofs.YtejkkhlblnepeaaDoor
end

section
set_option linter.unusedVariables false
set_option linter.unusedSimpArgs false
namespace Go.Proofs.YtejkkhlblnepeaaDoor
open Go.RowKit Oct Kvl




end Go.Proofs.YtejkkhlblnepeaaDoor
end

section
set_option linter.unusedVariables false
set_option linter.unusedSimpArgs false
namespace Go.Proofs.YtejkkhlblnepeaaDoor
open Go.RowKit Oct Kvl


end Go.Proofs.YtejkkhlblnepeaaDoor
end

section
set_option linter.unusedVariables false
set_option linter.unusedSimpArgs false
namespace Go.Proofs.YtejkkhlblnepeaaDoor
open Go.RowKit Oct Kvl

theorem withinS_any (w : World) (n a b : Int) : Calls Tryd.prog 59 #[.int .i64 n, .int .i64 a, .int .i64 b] w fun e w' => e = .returned (.bool (decide (a ≤ n ∧ n ≤ b))) ∧ w' = w := by
  by_cases h1 : a ≤ n
  · by_cases h2 : n ≤ b
    · rw [decide_eq_true ⟨h1, h2⟩]
      go_enter Tryd.func59, Tryd.ntmps59
      go_wp2_with fail
      go_ret
      exact ⟨rfl, rfl⟩
    · rw [decide_eq_false (fun h => h2 h.2)]
      have h2' : decide (n ≤ b) = false := by simp; omega
      go_enter Tryd.func59, Tryd.ntmps59
      go_wp2_with fail
      go_ret
      exact ⟨rfl, rfl⟩
  · rw [decide_eq_false (fun h => h1 h.1)]
    have h1' : decide (a ≤ n) = false := by simp; omega
    go_enter Tryd.func59, Tryd.ntmps59
    go_wp2_with fail
    go_ret
    exact ⟨rfl, rfl⟩
theorem isClient_any (w : World) (n : Int) : Calls Tryd.prog 58 #[.int .i64 n] w fun e w' => e = .returned (.bool (decide (1 ≤ n ∧ n ≤ 4))) ∧ w' = w := by
  have hW := withinS_any w n 1 4
  generalize decide (1 ≤ n ∧ n ≤ 4) = d at hW ⊢
  go_enter Tryd.func58, Tryd.ntmps58
  go_wp2_with fail
  refine hW.mono ?_
  rintro e w1 ⟨rfl, rfl⟩
  go_wp2_with fail
  go_ret
  exact ⟨rfl, rfl⟩

/-- What is still to be looked at. -/
def chkS (n : List Int) (l : List PEnt) : Prop := up n l ∧ ∀ e ∈ l, rgs1 e
theorem rgtS_chk {l : List PEnt} (h : l.length ≤ 16) : rgtS l ↔ chkS [] l := ⟨fun h => h.2, fun h2 => ⟨h, h2⟩⟩
theorem chkS_cons {n : List Int} {x : PEnt} {r : List PEnt} : chkS n (x :: r) ↔ (cmpL n x.1 < 0 ∧ rgs1 x) ∧ chkS x.1 r := by
  unfold chkS
  show ((cmpL n x.1 < 0 ∧ up x.1 r) ∧ _) ↔ _
  simp only [List.mem_cons, forall_eq_or_imp]
  exact ⟨fun ⟨⟨h1, h2⟩, h3, h4⟩ => ⟨⟨h1, h3⟩, h2, h4⟩, fun ⟨⟨h1, h3⟩, h2, h4⟩ => ⟨⟨h1, h2⟩, h3, h4⟩⟩
theorem chkS_bad1 {n : List Int} {x : PEnt} {r : List PEnt} (h : cmpL x.1 n ≤ 0) : ¬ chkS n (x :: r) := fun h1 => by
  have := (chkS_cons.1 h1).1.1
  have := cmp_neg n x.1
  omega
theorem chkS_go {n : List Int} {x : PEnt} {r : List PEnt} (h : 0 < cmpL x.1 n) (h1 : x.1.length ≤ 16) (h2 : 1 ≤ lo x.2 ∧ lo x.2 ≤ 4) (h5 : 1 ≤ lu x.2 ∧ lu x.2 ≤ 2147483647) : chkS n (x :: r) ↔ chkS x.1 r := by
  rw [chkS_cons]
  have h3 := cmp_neg n x.1
  have h4 : cmpL n x.1 < 0 := by omega
  exact ⟨fun h => h.2, fun h => ⟨⟨h4, ⟨low_ne h4, h1⟩, h2, h5⟩, h⟩⟩

set_option maxRecDepth 10000 in
set_option maxHeartbeats 2000000 in
/-- lease.Right. -/
theorem rightS_any (w : World) (v : Value) (ys : List PEnt) (h : RL RLea 3 Any w v ys) :
    Calls Tryd.prog 39 #[v] w fun e w' => e = .returned (.bool (decide (rgtS ys))) ∧ Below w.heap.size w w' := by
  by_cases h64 : 16 < ys.length
  · rw [decide_eq_false (fun h => by have := h.1; omega)]
    obtain ⟨ao, cap, rfl, hm⟩ := h.form
    have hd : (16 : Int) < ys.length := by omega
    go_enter Tryd.func39, Tryd.ntmps39
    go_wp2_with fail
    go_ret
    exact ⟨rfl, Below.refl _ _⟩
  have hd : decide ((16 : Int) < ys.length) = false := by simp; omega
  by_cases hl : 0 < ys.length
  rotate_left
  · obtain rfl : ys = [] := List.eq_nil_of_length_eq_zero (by omega)
    obtain ⟨ao, cap, rfl, _⟩ := h.form
    go_enter Tryd.func39, Tryd.ntmps39
    go_wp2_with fail
    refine wp_loop_rounds 1 ?_; rw [rounds_succ]
    go_wp2_with fail
    go_ret
    exact ⟨ret_bool (by decide), Below.refl _ _⟩
  obtain ⟨b, off, cap, rfl, hc, hm, _, hb, hx⟩ := h.at hl
  have HX := (show Hid (∀ (i : Nat) (a : PEnt), ys[i]? = some a → ∃ r, r.length = 3 ∧ w.rangeAt b (off + i * 3) r ∧ RLea Any w r a) from hx)
  have HR := (show Hid (rgtS ys ↔ chkS [] ys) from rgtS_chk (by omega))
  have hlm : (ys.length : Int) ≤ 9223372036854775807 := by omega
  clear hx h h64
  obtain ⟨n, hn⟩ : ∃ n, n = ys.length := ⟨_, rfl⟩
  rw [← hn] at hlm hl hc hd ⊢
  have HN := (show Hid (ys.length = n) from hn.symm)
  clear hn
  go_enter Tryd.func39, Tryd.ntmps39
  go_wp2_with fail
  go_loopw [3, 11] (fun s i wr => ∃ (q : Nat) (ln : List Int), q ≤ n ∧ i = .int .i64 q ∧ Rd wr s ln ∧ Below w.heap.size w wr ∧ Hid (chkS [] ys ↔ chkS ln (ys.drop q))) (fun _ i _ => n - (intOf i).toNat)
  case atStart => exact ⟨0, [], by omega, rfl, (Own.nil w 5).rd (l := []) Byt.nil, Below.refl _ _, Iff.rfl⟩
  case round =>
    obtain ⟨q, ln, hq, rfl, hs, hB, hI⟩ := hrel
    by_cases hql : q < n
    · obtain ⟨x, hx⟩ : ∃ x, ys[q]? = some x := ⟨_, List.getElem?_eq_getElem (by have := HN.out; omega)⟩
      obtain ⟨r, _, hrng, s1, p1, q1, rfl, t1, t2⟩ := HX.out q x hx
      have hrng := rangeAt_block hrng (hB.block b hb)
      obtain ⟨a1, c1, rfl, hc1⟩ := t1.form
      have hrow0 := Row.new wr 53 [.slice none 0 0, .int .i64 0, .int .i64 0]
      have HD := (show Hid (ys.drop q = x :: ys.drop (q + 1)) from drop_cons hx)
      have HP := (show Hid (lo x.2 = p1 ∧ lu x.2 = q1) by rw [t2]; exact ⟨rfl, rfl⟩)
      have hone := onL3 (p := p1) (q := q1) t1.one
      clear hx t2
      obtain ⟨L1, hL1⟩ : ∃ L, x.1.length = L := ⟨_, rfl⟩
      rw [hL1] at t1 hrng hone
      have HL := (show Hid (x.1.length = L1) from hL1)
      clear hL1
      have hcm := fun u (hu : Below wr.heap.size wr u) => compare_any u _ u3 x.1 ln (t1.mv (Mv.below (below_and hB (Nat.le_refl _) hu))).1 (hs.below hu)
      obtain ⟨cv, hcv⟩ : ∃ c, cmpL x.1 ln = c := ⟨_, rfl⟩
      rw [hcv] at hcm
      have HC := (show Hid (cmpL x.1 ln = cv) from hcv)
      have HCM := (show Hid (∀ u, Below wr.heap.size wr u → Calls Tryd.prog 57 #[.slice a1 L1 c1, u3] u fun e w' => e = .returned (.int .i64 cv) ∧ w' = u) from hcm)
      have HCL := (show Hid (∀ u, Calls Tryd.prog 58 #[.int .i64 p1] u fun e w' => e = .returned (.bool (decide (1 ≤ p1 ∧ p1 ≤ 4))) ∧ w' = u) from fun u => isClient_any u p1)
      have HWI := (show Hid (∀ u, Calls Tryd.prog 59 #[.int .i64 q1, .int .i64 1, .int .i64 2147483647] u fun e w' => e = .returned (.bool (decide (1 ≤ q1 ∧ q1 ≤ 2147483647))) ∧ w' = u) from fun u => withinS_any u q1 1 2147483647)
      clear hcv hcm
      by_cases g1 : cv ≤ 0
      · go_wp2_with (first
          | (refine wpList_load_mid rfl _ _ rfl b (off + q * 3) rfl [.slice a1 L1 c1, .int .i64 p1, .int .i64 q1] _ hrng Tryd.underlying53 rfl (by kernel_rfl) ?_)
          | (refine wl_store rfl _ _ _ rfl wr.heap.size [.slice a1 L1 c1, .int .i64 p1, .int .i64 q1] rfl rfl _ _ hrow0 rfl (by kernel_rfl) hone ?_; intro w5 hr5 hg5; have hb5 : Below wr.heap.size wr w5 := (below_alloc wr _).trans (grown_below hg5 (by simp) (fun k hk => by cases hk; exact Nat.le_refl _)); have e0 := hr5.out.cell (j := 0) rfl; have e1 := hr5.out.cell (j := 1) rfl; have e2 := hr5.out.cell (j := 2) rfl)
          | (go_at_call 57; refine (HCM.out w5 hb5).mono ?_; rintro e w5 ⟨rfl, rfl⟩))
        go_ret
        refine ⟨ret_bool (decide_eq_false fun h => ?_).symm, below_and hB (Nat.le_refl _) hb5⟩
        have := hI.out.1 (HR.out.1 h)
        rw [HD.out] at this
        exact chkS_bad1 (by rw [HC.out]; exact g1) this
      have g1' : decide (cv ≤ 0) = false := by simp; omega
      by_cases g2 : 16 < L1
      · have g2' : (16 : Int) < L1 := by omega
        go_wp2_with (first
          | (refine wpList_load_mid rfl _ _ rfl b (off + q * 3) rfl [.slice a1 L1 c1, .int .i64 p1, .int .i64 q1] _ hrng Tryd.underlying53 rfl (by kernel_rfl) ?_)
          | (refine wl_store rfl _ _ _ rfl wr.heap.size [.slice a1 L1 c1, .int .i64 p1, .int .i64 q1] rfl rfl _ _ hrow0 rfl (by kernel_rfl) hone ?_; intro w5 hr5 hg5; have hb5 : Below wr.heap.size wr w5 := (below_alloc wr _).trans (grown_below hg5 (by simp) (fun k hk => by cases hk; exact Nat.le_refl _)); have e0 := hr5.out.cell (j := 0) rfl; have e1 := hr5.out.cell (j := 1) rfl; have e2 := hr5.out.cell (j := 2) rfl)
          | (go_at_call 57; refine (HCM.out w5 hb5).mono ?_; rintro e w5 ⟨rfl, rfl⟩))
        go_ret
        refine ⟨ret_bool (decide_eq_false fun h => ?_).symm, below_and hB (Nat.le_refl _) hb5⟩
        have := hI.out.1 (HR.out.1 h)
        rw [HD.out, chkS_cons] at this
        have h3 := this.1.2.1.2
        rw [HL.out] at h3
        omega
      have g2' : decide ((16 : Int) < L1) = false := by simp; omega
      by_cases g3 : 1 ≤ p1 ∧ p1 ≤ 4
      rotate_left
      · rw [decide_eq_false g3] at HCL
        go_wp2_with (first
          | (refine wpList_load_mid rfl _ _ rfl b (off + q * 3) rfl [.slice a1 L1 c1, .int .i64 p1, .int .i64 q1] _ hrng Tryd.underlying53 rfl (by kernel_rfl) ?_)
          | (refine wl_store rfl _ _ _ rfl wr.heap.size [.slice a1 L1 c1, .int .i64 p1, .int .i64 q1] rfl rfl _ _ hrow0 rfl (by kernel_rfl) hone ?_; intro w5 hr5 hg5; have hb5 : Below wr.heap.size wr w5 := (below_alloc wr _).trans (grown_below hg5 (by simp) (fun k hk => by cases hk; exact Nat.le_refl _)); have e0 := hr5.out.cell (j := 0) rfl; have e1 := hr5.out.cell (j := 1) rfl; have e2 := hr5.out.cell (j := 2) rfl)
          | (go_at_call 57; refine (HCM.out w5 hb5).mono ?_; rintro e w5 ⟨rfl, rfl⟩)
          | (go_at_call 58; refine (HCL.out w5).mono ?_; rintro e w5 ⟨rfl, rfl⟩))
        go_ret
        refine ⟨ret_bool (decide_eq_false fun h => ?_).symm, below_and hB (Nat.le_refl _) hb5⟩
        have := hI.out.1 (HR.out.1 h)
        rw [HD.out, chkS_cons] at this
        have h3 := this.1.2.2.1
        rw [HP.out.1] at h3
        exact g3 h3
      rw [decide_eq_true g3] at HCL
      by_cases g4 : 1 ≤ q1 ∧ q1 ≤ 2147483647
      rotate_left
      · rw [decide_eq_false g4] at HWI
        go_wp2_with (first
          | (refine wpList_load_mid rfl _ _ rfl b (off + q * 3) rfl [.slice a1 L1 c1, .int .i64 p1, .int .i64 q1] _ hrng Tryd.underlying53 rfl (by kernel_rfl) ?_)
          | (refine wl_store rfl _ _ _ rfl wr.heap.size [.slice a1 L1 c1, .int .i64 p1, .int .i64 q1] rfl rfl _ _ hrow0 rfl (by kernel_rfl) hone ?_; intro w5 hr5 hg5; have hb5 : Below wr.heap.size wr w5 := (below_alloc wr _).trans (grown_below hg5 (by simp) (fun k hk => by cases hk; exact Nat.le_refl _)); have e0 := hr5.out.cell (j := 0) rfl; have e1 := hr5.out.cell (j := 1) rfl; have e2 := hr5.out.cell (j := 2) rfl)
          | (go_at_call 57; refine (HCM.out w5 hb5).mono ?_; rintro e w5 ⟨rfl, rfl⟩)
          | (go_at_call 58; refine (HCL.out w5).mono ?_; rintro e w5 ⟨rfl, rfl⟩)
          | (go_at_call 59; refine (HWI.out w5).mono ?_; rintro e w5 ⟨rfl, rfl⟩))
        go_ret
        refine ⟨ret_bool (decide_eq_false fun h => ?_).symm, below_and hB (Nat.le_refl _) hb5⟩
        have := hI.out.1 (HR.out.1 h)
        rw [HD.out, chkS_cons] at this
        have h3 := this.1.2.2.2
        rw [HP.out.2] at h3
        exact g4 h3
      rw [decide_eq_true g4] at HWI
      go_wp2_with (first
        | (refine wpList_load_mid rfl _ _ rfl b (off + q * 3) rfl [.slice a1 L1 c1, .int .i64 p1, .int .i64 q1] _ hrng Tryd.underlying53 rfl (by kernel_rfl) ?_)
        | (refine wl_store rfl _ _ _ rfl wr.heap.size [.slice a1 L1 c1, .int .i64 p1, .int .i64 q1] rfl rfl _ _ hrow0 rfl (by kernel_rfl) hone ?_; intro w5 hr5 hg5; have hb5 : Below wr.heap.size wr w5 := (below_alloc wr _).trans (grown_below hg5 (by simp) (fun k hk => by cases hk; exact Nat.le_refl _)); have e0 := hr5.out.cell (j := 0) rfl; have e1 := hr5.out.cell (j := 1) rfl; have e2 := hr5.out.cell (j := 2) rfl)
        | (go_at_call 57; refine (HCM.out w5 hb5).mono ?_; rintro e w5 ⟨rfl, rfl⟩)
        | (go_at_call 58; refine (HCL.out w5).mono ?_; rintro e w5 ⟨rfl, rfl⟩)
        | (go_at_call 59; refine (HWI.out w5).mono ?_; rintro e w5 ⟨rfl, rfl⟩))
      go_roundw
      case rel =>
        refine ⟨q + 1, x.1, by omega, by go_num, (t1.mv (Mv.below (below_and hB (Nat.le_refl _) hb5))).1, below_and hB (Nat.le_refl _) hb5, ?_⟩
        have h1 := hI.out
        rw [HD.out, chkS_go (by rw [HC.out]; omega) (by rw [HL.out]; omega) (by rw [HP.out.1]; exact g3) (by rw [HP.out.2]; exact g4)] at h1
        exact h1
      case measure => simp [intOf]; omega
    · go_wp2_with fail
      go_ret
      refine ⟨ret_bool (decide_eq_true ?_).symm, hB⟩
      rw [HR.out, hI.out, List.drop_of_length_le (by have := HN.out; omega)]
      exact ⟨trivial, fun e he => by cases he⟩
end Go.Proofs.YtejkkhlblnepeaaDoor
end
