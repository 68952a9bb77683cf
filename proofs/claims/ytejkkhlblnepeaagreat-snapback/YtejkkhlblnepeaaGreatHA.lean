/- The walks over package lease: within, isClient, isTime, Right. -/
import Derived.Test.YtejkkhlblnepeaaGreatKvm
import Derived.Test.YtejkkhlblnepeaaGreatMem
import Derived.Test.YtejkkhlblnepeaaGreatKi
import Derived.Laws.IdiomCopy
import Derived.Test.YtejkkhlblnepeaaGreatKj
section
set_option linter.unusedVariables false
set_option linter.unusedSimpArgs false
namespace Go.Proofs.YtejkkhlblnepeaaGreat
namespace Kvl
open Oct

def lo (v : List Int) : Int := v.headD 0
def lu (v : List Int) : Int := v.tail.headD 0
def rgs1 (e : PEnt) : Prop := (1 ≤ e.1.length ∧ e.1.length ≤ 16) ∧ (1 ≤ lo e.2 ∧ lo e.2 ≤ 4) ∧ (1 ≤ lu e.2 ∧ lu e.2 ≤ 2147483647)
instance (e : PEnt) : Decidable (rgs1 e) := by unfold rgs1; infer_instance
def rgtS (l : List PEnt) : Prop := l.length ≤ 16 ∧ up [] l ∧ ∀ e ∈ l, rgs1 e
instance (l : List PEnt) : Decidable (rgtS l) := by unfold rgtS; infer_instance
/-- The leases that aren't over. -/
def liv (now : Int) (l : List PEnt) : List PEnt := l.filter fun x => decide (now < lu x.2)
/-- Who holds a name, and for how long. -/
def holS (l : List PEnt) (n : List Int) (now : Int) : Int × Int := match l.find? fun x => decide (now < lu x.2) && decide (x.1 = n) with | none => (0, 0) | some x => (lo x.2, IntKind.i64.wrap (lu x.2 - now))
def tol (v : List Int) (now : Int) : List Int := enc (lo v) ++ enc (lu v - now)
def doT (l : List PEnt) (o : POp) (who now : Int) : List PEnt × Int × List Int :=
  match getR o.2.1 l with
  | none => if o.1 = 5 then (if 16 ≤ l.length then (l, 3, []) else (putR o.2.1 [who, now + o.2.2.2.2] l, 0, [])) else (l, 1, [])
  | some v => if o.1 = 8 then (l, 0, tol v now) else if lo v ≠ who then (l, 4, tol v now) else if o.1 = 7 then (delR o.2.1 l, 0, []) else (putR o.2.1 [who, now + o.2.2.2.2] l, 0, [])
def okS (l : List PEnt) (o : POp) (who now : Int) : Prop := rgtS l ∧ (wok o ∧ 5 ≤ o.1) ∧ (1 ≤ who ∧ who ≤ 4) ∧ (0 ≤ now ∧ now ≤ 2147482647)
instance (l : List PEnt) (o : POp) (who now : Int) : Decidable (okS l o who now) := by unfold okS; infer_instance
def doS (l : List PEnt) (o : POp) (who now : Int) : List PEnt × Int × List Int := if okS l o who now then doT (liv now l) o who now else (l, 5, [])
theorem doS_bad {l : List PEnt} {o : POp} {who now : Int} (h : ¬ okS l o who now) : doS l o who now = (l, 5, []) := if_neg h
theorem doS_yes {l : List PEnt} {o : POp} {who now : Int} (h : okS l o who now) : doS l o who now = doT (liv now l) o who now := if_pos h

theorem liv_mem {now : Int} {l : List PEnt} {e : PEnt} (h : e ∈ liv now l) : e ∈ l ∧ now < lu e.2 := by
  unfold liv at h
  simpa using h
theorem liv_up {now : Int} : ∀ {l : List PEnt} {m : List Int}, up m l → up m (liv now l)
  | [], _, _ => trivial
  | x :: r, m, h => by
    unfold liv
    rw [List.filter_cons]
    have ih := liv_up (now := now) h.2
    split
    · exact ⟨h.1, ih⟩
    · exact up_mono ih h.1
theorem liv_len {now : Int} {l : List PEnt} : (liv now l).length ≤ l.length := List.length_filter_le _ _
theorem liv_rgt {now : Int} {l : List PEnt} (h : rgtS l) : rgtS (liv now l) :=
  ⟨Nat.le_trans liv_len h.1, liv_up h.2.1, fun e he => h.2.2 e (liv_mem he).1⟩
theorem liv_all {now : Int} {l : List PEnt} (h : ∀ e ∈ l, now < lu e.2) : liv now l = l := by
  unfold liv
  rw [List.filter_eq_self]
  intro e he
  simpa using h e he
theorem fnd_low {now : Int} {n : List Int} {l : List PEnt} {m : List Int} (h : up m l) (hn : ¬ cmpL m n < 0) : (l.find? fun x => decide (now < lu x.2) && decide (x.1 = n)) = none := by
  rw [List.find?_eq_none]
  intro e he
  have h1 := up_low h e he
  have : e.1 ≠ n := fun e1 => hn (by rw [← e1]; exact h1)
  simp [this]
/-- In order: the holder is told by the leases that aren't over. -/
theorem hol_get {now : Int} {n : List Int} : ∀ {l : List PEnt} {m : List Int}, up m l → holS l n now = match getR n (liv now l) with | none => (0, 0) | some v => (lo v, IntKind.i64.wrap (lu v - now))
  | [], _, _ => rfl
  | x :: r, m, h => by
    have ih := hol_get (now := now) (n := n) h.2
    unfold holS liv at *
    rw [List.find?_cons, List.filter_cons]
    by_cases h1 : now < lu x.2
    · rw [decide_eq_true h1, Bool.true_and, if_pos rfl]
      unfold getR
      by_cases h2 : x.1 = n
      · rw [decide_eq_true h2, if_neg (by rw [h2, cmp_self]; decide), if_pos h2]
      · rw [decide_eq_false h2]
        by_cases h3 : cmpL x.1 n < 0
        · rw [if_pos h3]; exact ih
        · rw [if_neg h3, if_neg h2]
          have := fnd_low (now := now) h.2 h3
          simp only [this]
    · rw [decide_eq_false h1, Bool.false_and, if_neg (by decide)]
      exact ih
theorem doT_cases {l : List PEnt} {o : POp} {who now : Int} :
    (doT l o who now).1 = l ∧ ((doT l o who now).2.1 ≠ 0 ∨ o.1 = 8) ∨
    ((doT l o who now).1 = putR o.2.1 [who, now + o.2.2.2.2] l ∧ (doT l o who now).2.1 = 0 ∧ o.1 ≠ 7 ∧ o.1 ≠ 8 ∧ (l.length < 16 ∨ getR o.2.1 l ≠ none) ∧ (∀ v, getR o.2.1 l = some v → lo v = who)) ∨
    ((doT l o who now).1 = delR o.2.1 l ∧ (doT l o who now).2.1 = 0 ∧ o.1 = 7 ∧ (∀ v, getR o.2.1 l = some v → lo v = who)) := by
  unfold doT
  cases hg : getR o.2.1 l with
  | none =>
    dsimp only
    by_cases h1 : o.1 = 5
    · by_cases h2 : 16 ≤ l.length
      · rw [if_pos h1, if_pos h2]; left; exact ⟨rfl, .inl (by show (3 : Int) ≠ 0; decide)⟩
      · rw [if_pos h1, if_neg h2]; right; left
        exact ⟨rfl, rfl, by omega, by omega, .inl (by omega), fun v hv => by cases hv⟩
    · rw [if_neg h1]; left; exact ⟨rfl, .inl (by show (1 : Int) ≠ 0; decide)⟩
  | some v =>
    dsimp only
    by_cases h1 : o.1 = 8
    · rw [if_pos h1]; left; exact ⟨rfl, .inr h1⟩
    · by_cases h2 : lo v ≠ who
      · rw [if_neg h1, if_pos h2]; left; exact ⟨rfl, .inl (by show (4 : Int) ≠ 0; decide)⟩
      · by_cases h3 : o.1 = 7
        · rw [if_neg h1, if_neg h2, if_pos h3]; right; right
          exact ⟨rfl, rfl, h3, fun u hu => by cases hu; simpa using h2⟩
        · rw [if_neg h1, if_neg h2, if_neg h3]; right; left
          exact ⟨rfl, rfl, h3, h1, .inr (by simp), fun u hu => by cases hu; simpa using h2⟩
theorem num_yes {o : POp} (h : wok o) (h5 : 5 ≤ o.1) (h7 : o.1 ≠ 7) (h8 : o.1 ≠ 8) : 1 ≤ o.2.2.2.2 ∧ o.2.2.2.2 ≤ 1000 := by
  obtain ⟨⟨k1, k2⟩, _, _, _, u1, u2⟩ := h
  have e : o.1 = 5 ∨ o.1 = 6 := by omega
  unfold lN at u1
  unfold mN at u2
  rw [if_pos e] at u1 u2
  exact ⟨u1, u2⟩
theorem put_rgtS {l : List PEnt} {n v : List Int} (h : rgtS l) (he : rgs1 (n, v)) (hl : l.length < 16 ∨ getR n l ≠ none) : rgtS (putR n v l) := by
  obtain ⟨h1, h2, h3⟩ := h
  refine ⟨?_, put_up h2 (empty_low he.1.1), fun e hm => ?_⟩
  · rw [put_len]
    split
    · rename_i h; rcases hl with hl | hl
      · omega
      · exact absurd h hl
    · exact h1
  · rcases put_mem e hm with rfl | hm
    · exact he
    · exact h3 e hm
theorem del_rgtS {l : List PEnt} {n : List Int} (h : rgtS l) : rgtS (delR n l) :=
  ⟨Nat.le_trans del_len h.1, del_up h.2.1, fun e he => h.2.2 e (del_mem e he)⟩
theorem rgs_new {o : POp} {who now : Int} (hw : wok o) (hn : 1 ≤ o.2.2.2.2 ∧ o.2.2.2.2 ≤ 1000) (h1 : 1 ≤ who ∧ who ≤ 4) (h2 : 0 ≤ now ∧ now ≤ 2147482647) : rgs1 (o.2.1, [who, now + o.2.2.2.2]) := by
  refine ⟨hw.2.1, h1, ?_⟩
  show 1 ≤ now + o.2.2.2.2 ∧ now + o.2.2.2.2 ≤ 2147483647
  omega
theorem doS_rgt {l : List PEnt} {o : POp} {who now : Int} (h : rgtS l) : rgtS (doS l o who now).1 := by
  by_cases hk : okS l o who now
  · rw [doS_yes hk]
    obtain ⟨_, ⟨hw, h5⟩, hc, hn⟩ := hk
    rcases doT_cases (l := liv now l) (o := o) (who := who) (now := now) with ⟨e, _⟩ | ⟨e, _, h7, h8, hl, _⟩ | ⟨e, _⟩
    · rw [e]; exact liv_rgt h
    · rw [e]; exact put_rgtS (liv_rgt h) (rgs_new hw (num_yes hw h5 h7 h8) hc hn) hl
    · rw [e]; exact del_rgtS (liv_rgt h)
  · rw [doS_bad hk]; exact h
/-- What is left behind an operation isn't over. -/
theorem doT_liv {l : List PEnt} {o : POp} {who now : Int} (hl : ∀ e ∈ l, now < lu e.2) (hw : wok o) (h5 : 5 ≤ o.1) : liv now (doT l o who now).1 = (doT l o who now).1 := by
  refine liv_all fun e he => ?_
  rcases doT_cases (l := l) (o := o) (who := who) (now := now) with ⟨e1, _⟩ | ⟨e1, _, h7, h8, _⟩ | ⟨e1, _⟩
  · rw [e1] at he; exact hl e he
  · rw [e1] at he
    rcases put_mem e he with rfl | he
    · have := num_yes hw h5 h7 h8
      show now < now + o.2.2.2.2
      omega
    · exact hl e he
  · rw [e1] at he; exact hl e (del_mem e he)
/-- Who holds a name behind an operation. -/
def getS (n : List Int) (now : Int) (l : List PEnt) : Int × Int := match getR n l with | none => (0, 0) | some v => (lo v, IntKind.i64.wrap (lu v - now))
theorem hol_do {l : List PEnt} {o : POp} {who now : Int} {n : List Int} (hk : okS l o who now) : holS (doS l o who now).1 n now = getS n now (doT (liv now l) o who now).1 := by
  have hr := doS_rgt (o := o) (who := who) (now := now) hk.1
  rw [hol_get hr.2.1, doS_yes hk, doT_liv (fun e he => (liv_mem he).2) hk.2.1.1 hk.2.1.2]
  rfl
theorem hol_l {l : List PEnt} {now : Int} {n : List Int} (h : rgtS l) : holS l n now = getS n now (liv now l) := hol_get h.2.1
/-- Nobody loses what it holds. -/
theorem keepsS {l : List PEnt} {o : POp} {who now : Int} (h : rgtS l) (n : List Int) (h1 : (holS l n now).1 ≠ 0) (h2 : (holS l n now).1 ≠ who) : holS (doS l o who now).1 n now = holS l n now := by
  by_cases hk : okS l o who now
  · rw [hol_do hk, hol_l h]
    rw [hol_l h] at h1 h2
    unfold getS at h1 h2 ⊢
    have hup := (liv_rgt (now := now) h).2.1
    rcases doT_cases (l := liv now l) (o := o) (who := who) (now := now) with ⟨e1, _⟩ | ⟨e1, _, _, _, _, hv⟩ | ⟨e1, _, _, hv⟩
    · rw [e1]
    · rw [e1, get_put hup]
      by_cases hn : n = o.2.1
      · rw [if_pos hn]
        rw [hn] at h1 h2
        cases hg : getR o.2.1 (liv now l) with
        | none => rw [hg] at h1; exact absurd rfl h1
        | some v => rw [hg] at h2; exact absurd (hv v hg) h2
      · rw [if_neg hn]
    · rw [e1, get_del hup]
      by_cases hn : n = o.2.1
      · rw [if_pos hn]
        rw [hn] at h1 h2
        cases hg : getR o.2.1 (liv now l) with
        | none => rw [hg] at h1; exact absurd rfl h1
        | some v => rw [hg] at h2; exact absurd (hv v hg) h2
      · rw [if_neg hn]
  · rw [doS_bad hk]
theorem wrapN {a : Int} (h1 : -9223372036854775808 ≤ a) (h2 : a ≤ 9223372036854775807) : IntKind.i64.wrap a = a := by rw [IntKind.wrap_i64]; omega
/-- What was acquired is held. -/
theorem gotS {l : List PEnt} {o : POp} {who now : Int} (h : rgtS l) (hc : (doS l o who now).2.1 = 0) (hk : o.1 = 5 ∨ o.1 = 6) : holS (doS l o who now).1 o.2.1 now = (who, o.2.2.2.2) := by
  by_cases hok : okS l o who now
  · rw [hol_do hok]
    rw [doS_yes hok] at hc
    have hup := (liv_rgt (now := now) h).2.1
    obtain ⟨_, ⟨hw, h5⟩, hcl, hnow⟩ := hok
    have hnum := num_yes hw h5 (by omega) (by omega)
    rcases doT_cases (l := liv now l) (o := o) (who := who) (now := now) with ⟨e1, h2⟩ | ⟨e1, _⟩ | ⟨e1, _, h7, _⟩
    · rcases h2 with h2 | h2
      · exact absurd hc h2
      · omega
    · rw [e1]
      unfold getS
      rw [get_put hup, if_pos rfl]
      show (who, IntKind.i64.wrap (now + o.2.2.2.2 - now)) = _
      rw [wrapN (by omega) (by omega)]
      congr 1
      omega
    · omega
  · rw [doS_bad hok] at hc
    exact absurd hc (by show (5 : Int) ≠ 0; decide)
/-- What was released is held by nobody. -/
theorem lostS {l : List PEnt} {o : POp} {who now : Int} (h : rgtS l) (hc : (doS l o who now).2.1 = 0) (hk : o.1 = 7) : holS (doS l o who now).1 o.2.1 now = (0, 0) := by
  by_cases hok : okS l o who now
  · rw [hol_do hok]
    rw [doS_yes hok] at hc
    have hup := (liv_rgt (now := now) h).2.1
    rcases doT_cases (l := liv now l) (o := o) (who := who) (now := now) with ⟨e1, h2⟩ | ⟨e1, _, h7, _⟩ | ⟨e1, _⟩
    · rcases h2 with h2 | h2
      · exact absurd hc h2
      · omega
    · exact absurd hk h7
    · rw [e1]
      unfold getS
      rw [get_del hup, if_pos rfl]
  · rw [doS_bad hok] at hc
    exact absurd hc (by show (5 : Int) ≠ 0; decide)
end Kvl
end Go.Proofs.YtejkkhlblnepeaaGreat
end

section
set_option linter.unusedVariables false
set_option linter.unusedSimpArgs false
namespace Go.Proofs.YtejkkhlblnepeaaGreat
open Go.RowKit Oct Kvl

def RLea (G : Nat → Prop) (w : World) (r : List Value) (x : PEnt) : Prop := ∃ a p q, r = [a, .int .i64 p, .int .i64 q] ∧ RT G w a x.1 ∧ x.2 = [p, q]
theorem mov_lea : Mov RLea := fun _ _ _ _ _ _ h _ hm => by
  obtain ⟨a, p, q, e, h1, h2⟩ := h
  exact ⟨a, p, q, e, h1.mv hm, h2⟩
theorem onL3 {u : Value} {p q : Int} (hu : u.oneCell' = true) : ∀ x ∈ [u, Value.int .i64 p, Value.int .i64 q], x.oneCell' = true := by
  intro x hx
  simp only [List.mem_cons, List.not_mem_nil, or_false] at hx
  rcases hx with rfl | rfl | rfl <;> first | assumption | rfl
theorem one_RS {G : Nat → Prop} {w : World} {r : List Value} {x : PEnt} (h : RLea G w r x) : ∀ v ∈ r, v.oneCell' = true := by
  obtain ⟨a, p, q, rfl, h1, h2⟩ := h
  exact onL3 h1.one
def OLea (G : Nat → Prop) (w : World) (r : List Value) (x : PEnt) : Prop := ∃ a p q, r = [a, .int .i64 p, .int .i64 q] ∧ OT G w a x.1 ∧ x.2 = [p, q]
theorem mov_olea : Mov OLea := fun _ _ _ _ _ _ h _ hm => by
  obtain ⟨a, p, q, e, h1, h2⟩ := h
  exact ⟨a, p, q, e, h1.mv hm, h2⟩
theorem OLea.lea {G : Nat → Prop} {w : World} {r : List Value} {x : PEnt} (h : OLea G w r x) : RLea G w r x := by
  obtain ⟨a, p, q, e, h1, h2⟩ := h
  exact ⟨a, p, q, e, h1.rt, h2⟩
theorem RL.lea {G : Nat → Prop} {w : World} {v : Value} {ys : List PEnt} (h : RL OLea 3 G w v ys) : RL RLea 3 G w v ys := by
  obtain ⟨rows, h1, h2⟩ := h
  exact ⟨rows, h1, h2.mono fun _ _ h => h.lea⟩
def szS (x : PEnt) : Prop := szT x.1

theorem Tryz.infL : (Tryz.prog.info? 84).map (fun i => (i.zero, i.size, i.bytes)) = some (some (.agg #[.slice none 0 0, .int .i64 0, .int .i64 0]), 3, 40) := by kernel_rfl
theorem Tryz.sizL : (Tryz.prog.info? 84).map (·.size) = some 3 := by kernel_rfl

set_option maxRecDepth 10000 in
set_option maxHeartbeats 2000000 in
/-- clone.Lease. -/
theorem cloneLease_any (w : World) (r : List Value) (x : PEnt) (h : RLea Any w r x) (hz : szS x) :
    Calls Tryz.prog 91 #[.agg r.toArray] w fun e w' => ∃ r', e = .returned (.agg r'.toArray) ∧ OLea (From w.heap.size) w' r' x ∧ Below w.heap.size w w' := by
  obtain ⟨vo, p, q, rfl, ho, hx2⟩ := h
  have z1 : szT x.1 := hz
  obtain ⟨w2, hw2⟩ : ∃ w2, w2 = (w.alloc (.cells #[vo, .int .i64 p, .int .i64 q] 84)).alloc (.cells #[.slice none 0 0, .int .i64 0, .int .i64 0] 84) := ⟨_, rfl⟩
  have ra : Row w2 w.heap.size 84 [vo, .int .i64 p, .int .i64 q] := by rw [hw2]; exact rowA (Row.new w 84 _) _
  have rr : Row w2 (w.heap.size + 1) 84 [.slice none 0 0, .int .i64 0, .int .i64 0] := by
    rw [hw2]
    have := Row.new (w.alloc (.cells #[vo, .int .i64 p, .int .i64 q] 84)) 84 [.slice none 0 0, .int .i64 0, .int .i64 0]
    simpa using this
  have hB : Below w.heap.size w w2 := by rw [hw2]; exact ((Below.refl _ w).alloc (Nat.le_refl _) _).alloc (by simp) _
  have hsz : w2.heap.size = w.heap.size + 2 := by rw [hw2]; simp
  go_enter Tryz.func91, Tryz.ntmps91
  go_upto_region 1 with fail
  rw [← hw2]
  clear hw2
  have HS := (show Hid (w2.heap.size = w.heap.size + 2) from hsz)
  clear hsz
  have c2 := ra.cell (j := 0) rfl
  have ho2 := (ho.mv (Mv.below hB)).1
  go_wp2_with (first
    | (go_at_call 71; refine (clone_own w2 _ x.1 ho2 (Nat.le_trans z1 (by decide))).mono ?_; rintro e w3 ⟨v3, rfl, o3, f3, hb3⟩; have ra3 := ra.below hb3; have f3 := OT.own o3 ho2.1 f3; clear o3)
    | (refine wl_set rfl _ _ _ rfl w.heap.size 0 _ rfl rfl _ _ ra3 (show 0 < 3 by decide) (by kernel_rfl) f3.one ?_; intro w4 ra4 hg4; have ra4' : Row w4 w.heap.size 84 [v3, .int .i64 p, .int .i64 q] := ra4.out; have hB3 := below_and hB (Nat.le_refl _) hb3; have hB4 : Below w.heap.size w w4 := hB3.trans (grown_below hg4 hB3.size (fun k hk => by cases hk; exact Nat.le_refl _)); have rr4 := (rr.below hb3).grown hg4 (fun e => by injection e with e; omega))
    | (refine wl_load rfl _ _ rfl w.heap.size rfl _ _ ra4' _ Tryz.underlying84 rfl (by kernel_rfl) ?_)
    | (refine wl_store rfl _ _ _ rfl (w.heap.size + 1) [v3, .int .i64 p, .int .i64 q] rfl rfl _ _ rr4 rfl (by kernel_rfl) (onL3 f3.one) ?_; intro w7 hr7 hg7))
  have hs2 := HS.out
  have f4 := f3.mv (Mv.from (L := w.heap.size + 2) hg4 (by omega) (by omega))
  have f7 := f4.mv (Mv.from (L := w.heap.size) hg7 (by omega) (by omega))
  have hB7 := hB4.trans (grown_below hg7 hB4.size (fun k hk => by cases hk; omega))
  have hr7 := hr7.out
  refine bodyPost_ret (v := .agg ([v3, .int .i64 p, .int .i64 q] : List Value).toArray) (results_cell_row rfl _ _ (w.heap.size + 1) _ _ (0, 0) _ (by rfl) hr7 Tryz.underlying84 rfl (by kernel_rfl)) rfl ?_
  exact ⟨_, rfl, ⟨_, _, _, rfl, f7, hx2⟩, hB7⟩

set_option maxRecDepth 10000 in
/-- slices.Clone of leases. -/
theorem scloneS_any (w : World) (v : Value) (ys : List PEnt) (h : RL RLea 3 Any w v ys) (hz : szL 40 szS ys) :
    Calls Tryz.prog 107 #[v] w fun e w' => ∃ v', e = .returned v' ∧ Below w.heap.size w w' ∧ ∃ rows, w'.ownsRow w.heap.size 84 3 v' ys.length rows.flatten ∧ (∀ r ∈ rows, r.length = 3) ∧ All2 (RLea Any w) rows ys := by
  obtain ⟨rows, ⟨h0, h1⟩, h2⟩ := h
  have hlen := h2.len
  have hz1 := hz.1
  have hfl := flat_len h0
  have hone : ∀ u ∈ rows.flatten, u.oneCell' = true := by
    intro u hu
    obtain ⟨r, hr, hur⟩ := List.mem_flatten.1 hu
    obtain ⟨i, hi, rfl⟩ := List.getElem_of_mem hr
    have := h2.get (List.getElem?_eq_getElem hi) (List.getElem?_eq_getElem (by omega))
    exact one_RS this u hur
  have hcell : ∀ b off, (∀ (i : Nat) (r : List Value), rows[i]? = some r → w.rangeAt b (off + i * 3) r) → ∀ j u, rows.flatten[j]? = some u → w.cell? ⟨b, off + j, none⟩ = some u := by
    intro b off hr j u hu
    have hj : j < rows.length * 3 := by rw [← hfl]; exact (List.getElem?_eq_some_iff.1 hu).1
    have hi : j / 3 < rows.length := by omega
    have hk := h0 _ (List.getElem_mem hi)
    have hjm : j % 3 < rows[j / 3].length := by omega
    have e1 := flat_at (j := j % 3) h0 (List.getElem?_eq_getElem hi) (List.getElem?_eq_getElem hjm)
    rw [show j / 3 * 3 + j % 3 = j by omega] at e1
    have e2 := hr (j / 3) _ (List.getElem?_eq_getElem hi) (j % 3) _ (List.getElem?_eq_getElem hjm)
    rw [show off + j / 3 * 3 + j % 3 = off + j by omega] at e2
    rw [e1] at hu
    rw [e2, hu]
  have HR := (show Hid (All2 (RLea Any w) rows ys) from h2)
  have HN := (show Hid (rows.flatten.length = rows.length * 3) from hfl)
  have HO := (show Hid (∀ u ∈ rows.flatten, u.oneCell' = true) from hone)
  obtain ⟨i0, hi, hz0, hzs, hzb⟩ := info_parts Tryz.infL
  rcases h1 with ⟨ao, cap, rfl, rfl, hcap⟩ | ⟨b, off, cap, rfl, hc1, hc2, hpos, _, hb, hr⟩
  · obtain rfl : ys = [] := List.eq_nil_of_length_eq_zero (by simpa using hlen.symm)
    cases ao with
    | none =>
      have hq : ∀ (n c : Nat) (u : World), (binOp .eql 23 (.slice none 0 cap) (.slice none n c)).run Tryz.prog u = .ok (.bool true) u := fun n c u => Lib.run_eql_slice_nil u 23 84 none 0 cap n c Tryz.underlying23
      go_enter Tryz.func107, Tryz.ntmps107
      go_wp2_with fail
      go_ret
      exact ⟨_, rfl, Below.refl _ _, [], World.ownsRow_nil _ _ _ _, (fun r hr => by cases hr), trivial⟩
    | some a =>
      have hq : ∀ (n c : Nat) (u : World), (binOp .eql 23 (.slice (some a) 0 cap) (.slice none n c)).run Tryz.prog u = .ok (.bool false) u := fun n c u => Lib.run_eql_slice_nil u 23 84 (some a) 0 cap n c Tryz.underlying23
      go_enter Tryz.func107, Tryz.ntmps107
      go_wp2_with (at_builtin; refine wpList_append_own _ rfl _ _ 23 rfl w.heap.size 84 i0 _ 3 40 Tryz.underlying23 hi hz0 hzs hzb rfl (by decide) _ _ _ rfl (World.ownsRow_made w #[] 0 (Nat.le_refl _) (Nat.zero_le _) (by simp)) a 0 cap [] rfl rfl (fun j u hu => by simp at hu) (fun u hu => by cases hu) (by simp) (by simp) (by simp) ?_; intro v' w1 hown hgrow hnil)
      go_ret
      exact ⟨_, rfl, ((Below.refl _ w).alloc (Nat.le_refl _) _).grown hgrow (by simp) (fr_at _ _ _ _ (Nat.le_refl _)), [], by simpa using hown, (fun r hr => by cases hr), trivial⟩
  · have HC := (show Hid (∀ j u, rows.flatten[j]? = some u → w.cell? ⟨b, off + j, none⟩ = some u) from hcell b off hr)
    have hq : ∀ (n c : Nat) (u : World), (binOp .eql 23 (.slice (some ⟨b, off, none⟩) rows.length cap) (.slice none n c)).run Tryz.prog u = .ok (.bool false) u := fun n c u => Lib.run_eql_slice_nil u 23 84 (some ⟨b, off, none⟩) rows.length cap n c Tryz.underlying23
    have hb1 : rows.length * 40 ≤ 140737488355328 := by rw [hlen]; omega
    have hm1 : rows.length ≤ maxLen := by unfold maxLen at *; omega
    have HQ := (show Hid (∀ j u, rows.flatten[j]? = some u → (w.alloc (.cells #[] 84)).cell? ((⟨b, off, none⟩ : Addr).add j) = some u) from fun j u hj => by
      rw [Addr.add_mid]
      exact ((below_alloc w _).cell (p := ⟨b, off + j, none⟩) hb).trans (HC.out j u hj))
    have HL := (show Hid (rows.length = ys.length) from hlen)
    clear hr hcell hfl hone h2 hlen
    go_enter Tryz.func107, Tryz.ntmps107
    go_wp2_with (at_builtin; refine wpList_append_own _ rfl _ _ 23 rfl w.heap.size 84 i0 _ 3 40 Tryz.underlying23 hi hz0 hzs hzb rfl (by decide) _ _ _ rfl (World.ownsRow_made w #[] 0 (Nat.le_refl _) (Nat.zero_le _) (by simp)) ⟨b, off, none⟩ rows.length cap rows.flatten rfl HN.out HQ.out HO.out (by rw [Nat.zero_add]; exact hm1) (by rw [Nat.zero_add]; exact hb1) (by simp) ?_; intro v' w1 hown hgrow hnil)
    go_ret
    exact ⟨_, rfl, ((Below.refl _ w).alloc (Nat.le_refl _) _).grown hgrow (by simp) (fr_at _ _ _ _ (Nat.le_refl _)), rows, by rw [← HL.out]; simpa using hown, h0, HR.out⟩
end Go.Proofs.YtejkkhlblnepeaaGreat
end

section
set_option linter.unusedVariables false
set_option linter.unusedSimpArgs false
namespace Go.Proofs.YtejkkhlblnepeaaGreat
open Go.RowKit Oct Kvl

/-- A row of leases of which the first q are copied. -/
structure MixS (B g n cap q : Nat) (w0 w : World) (rows0 : List (List Value)) (ys : List PEnt) : Prop where
  bel : Below B w0 w
  ex : ∃ (cur : List Value) (A : List (List Value)), Row w g 84 cur ∧ cur.length = cap * 3 ∧ A.length = q ∧ (∀ r ∈ A, r.length = 3) ∧ cur.take (n * 3) = (A ++ rows0.drop q).flatten ∧ All2 (OLea (fun b => B ≤ b ∧ b ≠ g) w) A (ys.take q)

theorem MixS.row {B g n cap q : Nat} {w0 w : World} {rows0 : List (List Value)} {ys : List PEnt} (h : MixS B g n cap q w0 w rows0 ys) (h0 : ∀ r ∈ rows0, r.length = 3) {r : List Value} (hr : rows0[q]? = some r) (hq : q < n) : w.rangeAt g (q * 3) r := by
  obtain ⟨cur, A, h1, h2, h3, h4, h5, h6⟩ := h.ex
  intro j v hj
  refine h1.cell ?_
  have hrl := h0 r (List.mem_of_getElem? hr)
  have hjl : j < 3 := by rw [← hrl]; exact (List.getElem?_eq_some_iff.1 hj).1
  have e : (A ++ rows0.drop q)[q]? = some r := by rw [List.getElem?_append_right (by omega), h3, Nat.sub_self, List.getElem?_drop, Nat.add_zero]; exact hr
  have hl : ∀ x ∈ A ++ rows0.drop q, x.length = 3 := fun x hx => by
    rcases List.mem_append.1 hx with hx | hx
    · exact h4 x hx
    · exact h0 x (List.mem_of_mem_drop hx)
  have := flat_at hl e hj
  rw [← h5, List.getElem?_take, if_pos (by omega)] at this
  exact this
theorem MixS.step {B g n cap q : Nat} {w0 w w1 w2 : World} {rows0 : List (List Value)} {ys : List PEnt} (h : MixS B g n cap q w0 w rows0 ys) (h0 : ∀ r ∈ rows0, r.length = 3) (hn : rows0.length = n) (hc : n ≤ cap) {x : PEnt} (hx : ys[q]? = some x) (hq : q < n)
    (hb1 : Below w.heap.size w w1) (hBg : B ≤ g) {r : List Value} (hr : OLea (From w.heap.size) w1 r x) (hB : B ≤ w.heap.size) (hg2 : w1.grownBy w2 (some g)) {cur0 : List Value} (hc0 : Row w1 g 84 cur0) (hr2 : Row w2 g 84 (splice cur0 (q * 3) r)) : MixS B g n cap (q + 1) w0 w2 rows0 ys := by
  obtain ⟨cur, A, h1, h2, h3, h4, h5, h6⟩ := h.ex
  have hgl := h1.lt
  obtain rfl : cur = cur0 := (h1.below hb1).uniq hc0
  have hrl : r.length = 3 := by obtain ⟨a, p, q, rfl, _⟩ := hr; rfl
  refine ⟨(h.bel.trans (hb1.mono hB)).trans (grown_below hg2 (Nat.le_trans hB hb1.size) (fun k hk => by cases hk; exact hBg)), splice cur (q * 3) r, A ++ [r], hr2, ?_, ?_, ?_, ?_, ?_⟩
  · rw [length_splice _ _ _ (by omega), h2]
  · simp [h3]
  · intro y hy
    rcases List.mem_append.1 hy with hy | hy
    · exact h4 y hy
    · simp at hy; subst hy; exact hrl
  · obtain ⟨b0, hb0⟩ : ∃ b0, rows0[q]? = some b0 := ⟨_, List.getElem?_eq_getElem (by omega)⟩
    have hd : rows0.drop q = b0 :: rows0.drop (q + 1) := by
      rw [List.drop_eq_getElem_cons (by omega : q < rows0.length)]
      rw [List.getElem?_eq_getElem (by omega)] at hb0
      injection hb0 with hb0
      rw [hb0]
    rw [hd] at h5
    rw [List.append_assoc, List.singleton_append]
    refine flat_put h4 (fun y hy => ?_) hrl h3 ?_ (by omega) h5
    · rw [← hd] at hy; exact h0 y (List.mem_of_mem_drop hy)
    · rw [← hd, List.length_append, List.length_drop]; omega
  · have e : ys.take (q + 1) = ys.take q ++ [x] := by
      rw [List.take_add_one, hx]; rfl
    rw [e]
    refine All2.app (h6.mono fun y a hy => mov_olea _ _ _ _ _ _ hy (Nat.le_trans hb1.size hg2.size) fun k hk hlt => ⟨?_, hk⟩) ⟨mov_olea _ _ _ _ _ _ hr hg2.size fun k hk hlt => ⟨hg2.block k hlt (fun e => ?_), Nat.le_trans hB hk, fun e => ?_⟩, trivial⟩
    · have hs := hb1.size
      exact (hg2.block k (by omega) (fun e => by injection e with e; exact hk.2 e)).trans (hb1.block k hlt)
    · injection e with e
      unfold From at hk; omega
    · unfold From at hk; omega
theorem MixS.done {B g n cap : Nat} {w0 w : World} {rows0 : List (List Value)} {ys : List PEnt} (h : MixS B g n cap n w0 w rows0 ys) (hn : rows0.length = n) (hy : ys.length = n) (hc : n ≤ cap) (hm : cap ≤ maxLen) (hB : B ≤ g) : LB OLea 84 3 B w (.slice (some ⟨g, 0, none⟩) n cap) ys := by
  obtain ⟨cur, A, h1, h2, h3, h4, h5, h6⟩ := h.ex
  rw [List.drop_of_length_le (by omega), List.append_nil] at h5
  rw [List.take_of_length_le (by omega)] at h6
  refine ⟨A, h4, ⟨flat_len h4, .inr ⟨g, cap, cur.toArray, by rw [h3], Nat.zero_le _, h1, by omega, hm, by simpa using h2, by rw [h3]; simpa using h5⟩⟩, fr_at _ _ _ _ hB, h6.mono fun y a hy => mov_olea _ _ _ _ _ _ hy (Nat.le_refl _) fun k hk _ => ⟨rfl, hk.1, fun e => hk.2 ?_⟩⟩
  simp [Value.ownBlock] at e
  exact e.symm

set_option maxRecDepth 10000 in
set_option maxHeartbeats 2000000 in
/-- clone.list of leases. -/
theorem clistS_any (w : World) (v : Value) (ys : List PEnt) (h : RL RLea 3 Any w v ys) (hz : szL 40 szS ys) :
    Calls Tryz.prog 90 #[v, .func (.func 91) #[] #[]] w fun e w' => ∃ v', e = .returned v' ∧ LB OLea 84 3 w.heap.size w' v' ys ∧ Below w.heap.size w w' := by
  go_enter Tryz.func90, Tryz.ntmps90
  go_wp2_with fail
  refine (scloneS_any w v ys h hz).mono ?_
  rintro e w1 ⟨v1, rfl, hb1, rows, hown, h0, hall⟩
  have hlen := hall.len
  rcases hown.2 with ⟨rfl, hy0⟩ | ⟨g, cap, cur, rfl, hg0, hrow, hc1, hc2, hc3, hc4⟩
  · obtain rfl : ys = [] := List.eq_nil_of_length_eq_zero hy0
    go_wp2_with fail
    refine wp_loop_rounds 1 ?_; rw [rounds_succ]
    go_wp2_with fail
    go_ret
    exact ⟨_, rfl, LB.nil _ _ _ _ _, hb1⟩
  · have hlm : (ys.length : Int) ≤ 9223372036854775807 := by unfold maxLen at hc2; omega
    have m0 : Hid (MixS w.heap.size g ys.length cap 0 w w1 rows ys) := ⟨hb1, cur.toList, [], by unfold Row; simpa using hrow, by simpa using hc3, rfl, (fun r hr => by cases hr), by simpa using hc4, trivial⟩
    have HL := (show Hid (rows.length = ys.length) from hlen)
    have H0 := (show Hid (∀ r ∈ rows, r.length = 3) from h0)
    have HA := (show Hid (All2 (RLea Any w) rows ys) from hall)
    have HZ := (show Hid (∀ y ∈ ys, szS y) from hz.2)
    clear hown hrow hc3 hc4 hlen h0 hall hb1 h hz
    obtain ⟨n, hn⟩ : ∃ n, n = ys.length := ⟨_, rfl⟩
    rw [← hn] at hlm m0 hc1 HL ⊢
    have HN := (show Hid (ys.length = n) from hn.symm)
    clear hn
    go_wp2_with fail
    go_loopw [12] (fun i wr => ∃ q : Nat, q ≤ n ∧ i = .int .i64 q ∧ Hid (MixS w.heap.size g n cap q w wr rows ys)) (fun i _ => n - (intOf i).toNat)
    case atStart => exact ⟨0, by omega, rfl, m0⟩
    case round =>
      clear m0
      obtain ⟨q, hq, rfl, hM⟩ := hrel
      by_cases hql : q < n
      · obtain ⟨x, hx⟩ : ∃ x, ys[q]? = some x := ⟨_, List.getElem?_eq_getElem (by have := HN.out; omega)⟩
        obtain ⟨r, hr⟩ : ∃ r, rows[q]? = some r := ⟨_, List.getElem?_eq_getElem (by have := HL.out; omega)⟩
        have hxr := HA.out.get hr hx
        have hrng := hM.out.row H0.out hr hql
        obtain ⟨s1, p1, q1, rfl, t1, t2⟩ := hxr
        have hB := hM.out.bel
        have hzx := HZ.out x (List.mem_of_getElem? hx)
        have hrow0 := Row.new wr 84 [.slice none 0 0, .int .i64 0, .int .i64 0]
        have HX := (show Hid (ys[q]? = some x) from hx)
        have hone := onL3 (p := p1) (q := q1) t1.one
        clear hx hr
        obtain ⟨cur0, A0, k1, k2, _⟩ := hM.out.ex
        have hgl := k1.lt
        have hfit : q * 3 + 3 ≤ cur0.length := by omega
        have K1 := (show Hid (Row wr g 84 cur0) from k1)
        clear k1 k2
        go_wp2_with (first
          | (refine wpList_load_mid rfl _ _ rfl g (q * 3) rfl [s1, .int .i64 p1, .int .i64 q1] _ hrng Tryz.underlying84 rfl (by kernel_rfl) ?_)
          | (refine wl_store rfl _ _ _ rfl wr.heap.size [s1, .int .i64 p1, .int .i64 q1] rfl rfl _ _ hrow0 rfl (by kernel_rfl) hone ?_; intro w5 hr5 hg5; have hb5 : Below wr.heap.size wr w5 := (below_alloc wr _).trans (grown_below hg5 (by simp) (fun k hk => by cases hk; exact Nat.le_refl _)); have hx5 : RLea Any w5 [s1, .int .i64 p1, .int .i64 q1] x := mov_lea _ _ _ _ _ _ ⟨_, _, _, rfl, t1, t2⟩ (below_and hB (Nat.le_refl _) hb5).size (Mv.below (below_and hB (Nat.le_refl _) hb5)))
          | (refine wl_load rfl _ _ rfl wr.heap.size rfl _ _ hr5.out _ Tryz.underlying84 rfl (by kernel_rfl) ?_)
          | (go_at_call 91; refine (cloneLease_any w5 [s1, .int .i64 p1, .int .i64 q1] x hx5 hzx).mono ?_; rintro e w6 ⟨r6, rfl, o6, hb6⟩; have o6' := mov_olea _ (From wr.heap.size) _ _ _ _ o6 (Nat.le_refl _) (Mv.weak hb5.size); obtain ⟨a6, b6, c6, rfl, p6, q6⟩ := o6; have hb6' := below_and hb5 (Nat.le_refl _) hb6; have k6 := K1.out.below hb6')
          | (refine wl_put rfl _ _ _ rfl g (q * 3) [a6, .int .i64 b6, .int .i64 c6] rfl rfl _ _ k6 hfit (by kernel_rfl) (onL3 p6.one) ?_; intro w7 hr7 hg7))
        go_roundw
        case rel => exact ⟨q + 1, by omega, by go_num, hM.out.step H0.out HL.out hc1 HX.out hql hb6' hg0 o6' hB.size hg7 k6 hr7.out⟩
        case measure => simp [intOf]; omega
      · go_wp2_with fail
        go_ret
        obtain rfl : q = n := by omega
        exact ⟨_, rfl, hM.out.done HL.out HN.out hc1 hc2 hg0, hM.out.bel⟩
/-- clone.Leases. -/
theorem cloneLeases_any (w : World) (v : Value) (ys : List PEnt) (h : RL RLea 3 Any w v ys) (hz : szL 40 szS ys) :
    Calls Tryz.prog 55 #[v] w fun e w' => ∃ v', e = .returned v' ∧ LB OLea 84 3 w.heap.size w' v' ys ∧ Below w.heap.size w w' := by
  go_enter Tryz.func55, Tryz.ntmps55
  go_wp2_with fail
  refine (clistS_any w v ys h hz).mono ?_
  rintro e w1 ⟨v1, rfl, h1, h2⟩
  go_wp2_with fail
  go_ret
  exact ⟨_, rfl, h1, h2⟩
end Go.Proofs.YtejkkhlblnepeaaGreat
end

section
set_option linter.unusedVariables false
set_option linter.unusedSimpArgs false
namespace Go.Proofs.YtejkkhlblnepeaaGreat
open Go.RowKit Oct Kvl

/-- The cells behind what is taken out, then the last record cleared. -/
theorem splice_delS (cur L zs : List Value) (i n : Nat) (hi : i < n) (hL : L.length = n * 3) (hc : n * 3 ≤ cur.length) (ht : cur.take (n * 3) = L) (hz : zs.length = 3) :
    (splice (splice cur (i * 3) (L.drop ((i + 1) * 3))) ((n - 1) * 3) zs).take ((n - 1) * 3) = L.take (i * 3) ++ L.drop ((i + 1) * 3) := by
  have hd : (L.drop ((i + 1) * 3)).length = (n - 1) * 3 - i * 3 := by rw [List.length_drop, hL]; omega
  have e1 : cur.take (i * 3) = L.take (i * 3) := by rw [← ht, List.take_take, Nat.min_eq_left (by omega)]
  have hl : (L.take (i * 3)).length = i * 3 := by rw [List.length_take]; omega
  have e2 : (splice cur (i * 3) (L.drop ((i + 1) * 3))).take ((n - 1) * 3) = L.take (i * 3) ++ L.drop ((i + 1) * 3) := by
    unfold splice
    rw [e1, ← List.append_assoc, List.take_append_of_le_length (by rw [List.length_append, hl, hd]; omega), List.take_of_length_le (by rw [List.length_append, hl, hd]; omega)]
  generalize splice cur (i * 3) (L.drop ((i + 1) * 3)) = C at *
  have hC : (C.take ((n - 1) * 3)).length = (n - 1) * 3 := by rw [e2, List.length_append, hl, hd]; omega
  unfold splice
  rw [List.take_append_of_le_length (by rw [hC]; omega), List.take_of_length_le (by rw [hC]; omega), e2]

set_option maxHeartbeats 1000000 in
set_option maxRecDepth 100000 in
/-- slices.Delete of one lease. -/
theorem deleteS_any (w : World) (g cap n i : Nat) (cur L : List Value) (hrow : Row w g 84 cur) (hcl : cur.length = cap * 3) (hL : L.length = n * 3) (ht : cur.take (n * 3) = L) (hi : i < n) (hroom : n ≤ cap) (hcap : cap ≤ maxLen) (hn : n ≤ 64) (h1 : ∀ u ∈ L, u.oneCell' = true) :
    Calls Tryz.prog 118 #[.slice (some ⟨g, 0, none⟩) n cap, .int .i64 (i : Int), .int .i64 ((i : Int) + 1)] w fun e w' =>
      e = .returned (.slice (some ⟨g, 0, none⟩) (n - 1) cap) ∧ w.grownBy w' (some g) ∧ ∃ cur', Row w' g 84 cur' ∧ cur'.length = cap * 3 ∧ cur'.take ((n - 1) * 3) = L.take (i * 3) ++ L.drop ((i + 1) * 3) := by
  obtain ⟨i0, hi0, hz0, hzs, hzb⟩ := info_parts Tryz.infL
  have hdl : (L.drop ((i + 1) * 3)).length = (n - (i + 1)) * 3 := by rw [List.length_drop, hL]; omega
  have hfit : i * 3 + (L.drop ((i + 1) * 3)).length ≤ cur.length := by omega
  have hsrc : ∀ j u, (L.drop ((i + 1) * 3))[j]? = some u → w.cell? ⟨g, (i + 1) * 3 + j, none⟩ = some u := fun j u hj => by
    refine hrow.cell ?_
    rw [List.getElem?_drop] at hj
    rw [← ht, List.getElem?_take] at hj
    split at hj
    · exact hj
    · cases hj
  have HD := (show Hid ((splice (splice cur (i * 3) (L.drop ((i + 1) * 3))) ((n - 1) * 3) [.slice none 0 0, .int .i64 0, .int .i64 0]).take ((n - 1) * 3) = L.take (i * 3) ++ L.drop ((i + 1) * 3)) from splice_delS cur L [.slice none 0 0, .int .i64 0, .int .i64 0] i n hi hL (by omega) ht rfl)
  have HO := (show Hid (∀ u ∈ L.drop ((i + 1) * 3), u.oneCell' = true) from fun u hu => h1 u (List.mem_of_mem_drop hu))
  have HR := (show Hid (Row w g 84 cur) from hrow)
  have HF := (show Hid (i * 3 + (L.drop ((i + 1) * 3)).length ≤ cur.length) from hfit)
  have HC := (show Hid (cur.length = cap * 3) from hcl)
  have HDL := (show Hid ((L.drop ((i + 1) * 3)).length = (n - (i + 1)) * 3) from hdl)
  have hne : ((i : Int) == (i : Int) + 1) = false := by simp; omega
  have hb1 : (0 : Int) ≤ (i : Int) + 1 := by omega
  have hb2 : (i : Int) ≤ (i : Int) + 1 := by omega
  have hb3 : (i : Int) + 1 ≤ (n : Int) := by omega
  have hb4 : (i : Int) ≤ (n : Int) := by omega
  have htn : ((i : Int) + 1).toNat = i + 1 := by omega
  have hcm : (cap : Int) ≤ 9223372036854775807 := by unfold maxLen at hcap; omega
  have hn0 : ¬ (n = 0) := by omega
  have hic : i ≤ cap := by omega
  obtain ⟨m, rfl⟩ : ∃ m, n = m + 1 := ⟨n - 1, by omega⟩
  have HD : Hid ((splice (splice cur (i * 3) (L.drop ((i + 1) * 3))) (m * 3) [.slice none 0 0, .int .i64 0, .int .i64 0]).take (m * 3) = L.take (i * 3) ++ L.drop ((i + 1) * 3)) := HD
  rw [Nat.add_sub_cancel]
  have him : i ≤ m := by omega
  have hem : i + (m - i) = m := by omega
  have HDL : Hid ((L.drop ((i + 1) * 3)).length = (m - i) * 3) := (show _ = _ by rw [HDL.out]; omega)
  have hmc : ¬ (cap = m) := by omega
  have hmi : (m : Int) ≤ (m : Int) + 1 := by omega
  have hmk : m ≤ m + 1 := by omega
  clear hrow hcl hL ht h1 hdl hfit
  generalize hDD : L.drop ((i + 1) * 3) = D at *
  have hS : ∃ ad : Addr, (if cap = i + 1 then some (⟨g, 0, none⟩ : Addr) else some ⟨g, (i + 1) * 3, none⟩) = some ad ∧ Hid (∀ j u, D[j]? = some u → w.drew.cell? (ad.add j) = some u) := by
    by_cases h : cap = i + 1
    · refine ⟨⟨g, 0, none⟩, by simp [h], fun j u hj => ?_⟩
      have := HDL.out
      rw [List.eq_nil_of_length_eq_zero (show D.length = 0 by omega)] at hj
      simp at hj
    · refine ⟨⟨g, (i + 1) * 3, none⟩, by simp [h], fun j u hj => ?_⟩
      rw [Addr.add_mid]
      exact hsrc j u hj
  obtain ⟨ad, had, HS⟩ := hS
  clear hsrc
  go_enter Tryz.func118, Tryz.ntmps118
  go_wp2_with fail
  by_cases hci : cap = i + 1
  · rw [if_pos hci] at had
    injection had with had
    subst had
    subst hci
    go_region_law ((refine step_app_room (by rfl) _ _ _ (by rfl) 84 i0 3 Tryz.underlying23 hi0 hzs g i (i + 1) (by simp [Act.eval, Act.put]) cur HR.out ⟨g, 0, none⟩ (m - i) 0 (by simp [Act.eval, Act.put]; omega) D HDL.out HS.out HO.out (by omega) HF.out ?_; intro w2 hr2 hg2))
    have HG := (show Hid (w.grownBy w2 (some g)) from grown_drew hg2)
    have HF2 := (show Hid (m * 3 + 3 ≤ (splice cur (i * 3) D).length) by
      show m * 3 + 3 ≤ _
      rw [length_splice _ _ _ HF.out, HC.out]; omega)
    clear hg2
    go_wp2_with (refine wl_clear1 rfl _ _ rfl 84 i0 _ [.slice none 0 0, .int .i64 0, .int .i64 0] Tryz.underlying23 hi0 hz0 rfl (by kernel_rfl) (m + 1 - m) (i + 1 - m) g (m * 3) (by omega) (by simp [Act.eval]) _ _ hr2.out HF2.out (onL3 rfl) ?_; intro w3 hr3 hg3)
    go_ret
    refine ⟨rfl, grown_trans HG.out hg3 (.inl rfl), _, hr3.out, ?_, HD.out⟩
    rw [length_splice _ _ _ HF2.out, length_splice _ _ _ HF.out, HC.out]
  · rw [if_neg hci] at had
    injection had with had
    subst had
    go_region_law ((refine step_app_room (by rfl) _ _ _ (by rfl) 84 i0 3 Tryz.underlying23 hi0 hzs g i cap (by simp [Act.eval, Act.put]) cur HR.out ⟨g, (i + 1) * 3, none⟩ (m - i) (cap - (i + 1)) (by simp [Act.eval, Act.put, hci]) D HDL.out HS.out HO.out (by omega) HF.out ?_; intro w2 hr2 hg2))
    have HG := (show Hid (w.grownBy w2 (some g)) from grown_drew hg2)
    have HF2 := (show Hid (m * 3 + 3 ≤ (splice cur (i * 3) D).length) by
      show m * 3 + 3 ≤ _
      rw [length_splice _ _ _ HF.out, HC.out]; omega)
    clear hg2
    go_wp2_with (refine wl_clear1 rfl _ _ rfl 84 i0 _ [.slice none 0 0, .int .i64 0, .int .i64 0] Tryz.underlying23 hi0 hz0 rfl (by kernel_rfl) (m + 1 - m) (cap - m) g (m * 3) (by omega) (by simp [Act.eval]) _ _ hr2.out HF2.out (onL3 rfl) ?_; intro w3 hr3 hg3)
    go_ret
    refine ⟨rfl, grown_trans HG.out hg3 (.inl rfl), _, hr3.out, ?_, HD.out⟩
    rw [length_splice _ _ _ HF2.out, length_splice _ _ _ HF.out, HC.out]
end Go.Proofs.YtejkkhlblnepeaaGreat
end

section
set_option linter.unusedVariables false
set_option linter.unusedSimpArgs false
namespace Go.Proofs.YtejkkhlblnepeaaGreat
open Go.RowKit Oct Kvl

theorem run_overS (w : World) (g vb i lb cb : Nat) (hne : vb ≠ g) (cur r : List Value) (hr : r.length = 3) (hg : Row w g 84 cur) (hc : cur ≠ []) (hv : Row w vb 84 r) :
    (callFunc 134 #[.slice (some ⟨vb, 0, none⟩) 1 1, .slice (some ⟨g, i, none⟩) lb cb]).run Tryz.prog w = .ok (.value (.bool false)) w := by
  have hz : ∀ w, (Go.sizeOf 84).run Tryz.prog w = .ok 3 w := fun w => by
    obtain ⟨i0, hi, hz0, hz1, hz2⟩ := info_parts Tryz.infL
    simp [sizeOf, typeInfo, hi, hz1]
  have s1 : w.shape? vb = some (84, 3) := by
    unfold Row at hv
    simp [World.shape?, hv, hr]
  have s2 : w.shape? g = some (84, cur.length) := by
    unfold Row at hg
    simp [World.shape?, hg]
  rw [run_callFunc_extern Tryz.func134 (by kernel_rfl) (by kernel_rfl) (by kernel_rfl) (e := Extern.SlicesOverlaps.overlaps #[23, 23] #[4]) (by kernel_rfl),
    Lib.run_overlaps_apart w 23 4 84 Tryz.underlying23 3 hz ⟨vb, 0, none⟩ ⟨g, i, none⟩ 1 1 lb cb hne 84 84 3 cur.length s1 s2 (fun e => hc (List.eq_nil_of_length_eq_zero e)) (hv.frozen 0) (hv.frozen 3)]
  rfl
set_option maxHeartbeats 1000000 in
set_option maxRecDepth 100000 in
/-- slices.Insert, ahead of the end, where there is room. -/
theorem insertS_room (w : World) (g cap n i vb : Nat) (cur L r : List Value) (hrow : Row w g 84 cur) (hcl : cur.length = cap * 3) (hL : L.length = n * 3) (ht : cur.take (n * 3) = L) (hi : i < n) (hroom : n + 1 ≤ cap) (hcap : cap ≤ maxLen) (hn : n ≤ 64) (h1 : ∀ u ∈ L, u.oneCell' = true)
    (hne : vb ≠ g) (hv : Row w vb 84 r) (hr : r.length = 3) (h1r : ∀ u ∈ r, u.oneCell' = true) :
    Calls Tryz.prog 130 #[.slice (some ⟨g, 0, none⟩) n cap, .int .i64 (i : Int), .slice (some ⟨vb, 0, none⟩) 1 1] w fun e w' =>
      e = .returned (.slice (some ⟨g, 0, none⟩) (n + 1) cap) ∧ w.grownBy w' (some g) ∧ ∃ cur', Row w' g 84 cur' ∧ cur'.length = cap * 3 ∧ cur'.take ((n + 1) * 3) = L.take (i * 3) ++ (r ++ L.drop (i * 3)) := by
  have hov := fun lb cb => run_overS w g vb ((i + 1) * 3) lb cb hne cur r hr hrow (fun e => by rw [e] at hcl; simp at hcl; omega) hv
  have hdl : (L.drop (i * 3)).length = (n - i) * 3 := by rw [List.length_drop, hL]; omega
  have hsrc : ∀ j v, (L.drop (i * 3))[j]? = some v → w.cell? ((⟨g, i * 3, none⟩ : Addr).add j) = some v := fun j v hj => by
    rw [Addr.add_mid]
    rw [List.getElem?_drop] at hj
    exact hrow.atL ht hj
  have hfit : (i + 1) * 3 + (L.drop (i * 3)).length ≤ cur.length := by omega
  have hfin : (splice (splice cur ((i + 1) * 3) (L.drop (i * 3))) (i * 3) r).take ((n + 1) * 3) = L.take (i * 3) ++ (r ++ L.drop (i * 3)) := by
    have := spl1 cur (L.drop (i * 3)) r (i * 3) (by omega)
    rw [hr, hdl, show i * 3 + 3 + (n - i) * 3 = (n + 1) * 3 by omega, show i * 3 + 3 = (i + 1) * 3 by omega] at this
    rw [this, ← ht, List.take_take, Nat.min_eq_left (by omega)]
  have HI := (show Hid _ from hfin)
  have HR := (show Hid (Row w g 84 cur) from hrow)
  have HV := (show Hid (Row w vb 84 r) from hv)
  have HS := (show Hid (∀ j v, (L.drop (i * 3))[j]? = some v → w.cell? ((⟨g, i * 3, none⟩ : Addr).add j) = some v) from hsrc)
  have HF := (show Hid ((i + 1) * 3 + (L.drop (i * 3)).length ≤ cur.length) from hfit)
  have HL := (show Hid ((L.drop (i * 3)).length = (n - i) * 3) from hdl)
  have HO := (show Hid (∀ u ∈ L.drop (i * 3), u.oneCell' = true) from fun u hu => h1 u (List.mem_of_mem_drop hu))
  have HC := (show Hid (cur.length = cap * 3) from hcl)
  have HRL := (show Hid (r.length = 3) from hr)
  clear hrow hv hsrc hfit hdl h1 hcl ht hfin hL hr
  generalize L.drop (i * 3) = D at *
  have hz2 : ((i : Int) == (n : Int)) = false := by simp; omega
  have hb2 : ¬ (cap = i + 1) := by omega
  have hb4 : ¬ (cap = i) := by omega
  have hb0 : ¬ (cap = 0) := by omega
  have hb1 : (0 : Int) ≤ (i : Int) + 1 := by omega
  have hb3 : (i : Int) ≤ (n : Int) + 1 := by omega
  have hb5 : (i : Int) ≤ (n : Int) := by omega
  have hb6 : (i : Int) + 1 ≤ (n : Int) + 1 := by omega
  have hw1 : IntKind.i64.wrap ((i : Int) + 1) = (i : Int) + 1 := by rw [IntKind.wrap_i64]; omega
  have hin : i ≤ n := by omega
  have htn : ((i : Int) + 1).toNat = i + 1 := by omega
  have hcm : (cap : Int) ≤ 9223372036854775807 := by unfold maxLen at hcap; omega
  go_enter Tryz.func130, Tryz.ntmps130
  go_wp2_with (simp only [hov])
  clear hov
  go_region_law ((refine step_copy_k (by rfl) _ _ _ _ (by rfl) 84 3 Tryz.underlying23 Tryz.sizL (some ⟨g, (i + 1) * 3, none⟩) (some ⟨g, i * 3, none⟩) (n - i) (cap - (i + 1)) (n + 1 - i) (cap - i) (by simp [Act.eval, Act.put]) (by simp [Act.eval, Act.put]) g ((i + 1) * 3) cur 84 HR.out D (by rw [HL.out]; congr 1; simp only [Nat.min_def]; split <;> omega) (fun _ => ⟨rfl, _, rfl, HS.out⟩) (by decide) HF.out HO.out (n - i) (by simp only [Nat.min_def]; split <;> omega) ?_; intro w2 hr2 hg2))
  have hv2 : Row w2 vb 84 r := HV.out.grown (grown_drew hg2) (fun e => hne (Option.some.inj e).symm)
  have HS2 := (show Hid (∀ j v, r[j]? = some v → w2.cell? ((⟨vb, 0, none⟩ : Addr).add j) = some v) from fun j v hj => by
    rw [Addr.add_mid, Nat.zero_add]
    exact hv2.cell hj)
  have HF2 := (show Hid (i * 3 + r.length ≤ (splice cur ((i + 1) * 3) D).length) from by
    show i * 3 + r.length ≤ (splice cur ((i + 1) * 3) D).length
    rw [length_splice _ _ _ HF.out, HC.out, HRL.out]; omega)
  have HG2 := (show Hid (w.grownBy w2 (some g)) from grown_drew hg2)
  clear hv2 hg2
  go_wp2_with (refine wl_copy_k (by rfl) _ _ _ _ (by rfl) 84 3 Tryz.underlying23 Tryz.sizL (some ⟨g, i * 3, none⟩) (some ⟨vb, 0, none⟩) (n + 1 - i) (cap - i) 1 1 (by simp [Act.eval]) (by simp [Act.eval]) g (i * 3) (splice cur ((i + 1) * 3) D) 84 hr2.out r (by rw [HRL.out]; simp only [Nat.min_def]; split <;> omega) (fun _ => ⟨rfl, _, rfl, HS2.out⟩) (by decide) HF2.out h1r 1 (by simp only [Nat.min_def]; split <;> omega) ?_; intro w3 hr3 hg3)
  go_ret
  refine ⟨rfl, grown_trans HG2.out hg3 (.inl rfl), _, hr3.out, ?_, HI.out⟩
  rw [length_splice _ _ _ HF2.out, length_splice _ _ _ HF.out, HC.out]

set_option maxHeartbeats 1000000 in
set_option maxRecDepth 100000 in
/-- slices.Insert, ahead of the end, where there is no room. -/
theorem insertS_grow (w : World) (g cap n i vb : Nat) (cur L r : List Value) (hrow : Row w g 84 cur) (hcl : cur.length = cap * 3) (hL : L.length = n * 3) (ht : cur.take (n * 3) = L) (hi : i < n) (hnc : n ≤ cap) (hroom : cap < n + 1) (hn : n ≤ 64) (h1 : ∀ u ∈ L, u.oneCell' = true)
    (hv : Row w vb 84 r) (hr : r.length = 3) (h1r : ∀ u ∈ r, u.oneCell' = true) :
    Calls Tryz.prog 130 #[.slice (some ⟨g, 0, none⟩) n cap, .int .i64 (i : Int), .slice (some ⟨vb, 0, none⟩) 1 1] w fun e w' =>
      ∃ NC, e = .returned (.slice (some ⟨w.heap.size, 0, none⟩) (n + 1) NC) ∧ n + 1 ≤ NC ∧ NC ≤ maxLen ∧ Below w.heap.size w w' ∧ ∃ cur', Row w' w.heap.size 84 cur' ∧ cur'.length = NC * 3 ∧ cur'.take ((n + 1) * 3) = L.take (i * 3) ++ (r ++ L.drop (i * 3)) := by
  obtain rfl : cap = n := by omega
  obtain ⟨i0, hi0, hz0, hzs, hzb⟩ := info_parts Tryz.infL
  have hdl : (L.drop (i * 3)).length = (cap - i) * 3 := by rw [List.length_drop, hL]; omega
  have HR := (show Hid (Row w g 84 cur) from hrow)
  have HV := (show Hid (Row w vb 84 r) from hv)
  have HL := (show Hid ((L.drop (i * 3)).length = (cap - i) * 3) from hdl)
  have HO := (show Hid (∀ u ∈ L.drop (i * 3), u.oneCell' = true) from fun u hu => h1 u (List.mem_of_mem_drop hu))
  have HT := (show Hid (cur.take (cap * 3) = L) from ht)
  have HRL := (show Hid (r.length = 3) from hr)
  have HFC := (show Hid (i * 3 ≤ cur.length) by show i * 3 ≤ _; omega)
  clear hrow hv hdl h1 hcl ht hL hr
  have hz2 : ((i : Int) == (cap : Int)) = false := by simp; omega
  have hb4 : ¬ (cap = i) := by omega
  have hb5 : (i : Int) ≤ (cap : Int) := by omega
  have hin : i ≤ cap := by omega
  have hgt : (cap : Int) < (cap : Int) + 1 := by omega
  go_enter Tryz.func130, Tryz.ntmps130
  have he : i + (cap + 1 - i) = cap + 1 := by omega
  have hxi : (Value.int .i64 ((cap : Int) + 1 - (i : Int))) = .int .i64 ((cap + 1 - i : Nat) : Int) := by congr 1; omega
  have HS0 := (show Hid (∀ u, Below w.heap.size w u → ∀ j v, (L.drop (i * 3))[j]? = some v → u.cell? ((⟨g, i * 3, none⟩ : Addr).add j) = some v) from fun u hu j v hj => by
    rw [Addr.add_mid]
    rw [List.getElem?_drop] at hj
    exact (HR.out.below hu).atL HT.out hj)
  have hvne : vb ≠ w.heap.size := fun e => by have := HV.out.lt; omega
  have hgne : g ≠ w.heap.size := fun e => by have := HR.out.lt; omega
  have HTT := (show Hid (cur.take (i * 3) = L.take (i * 3)) by show _ = _; rw [← HT.out, List.take_take, Nat.min_eq_left (by omega)])
  go_wp2_with (first
    | (at_builtin; refine wl_app_zeros rfl _ _ _ _ rfl 84 i0 _ 3 40 Tryz.underlying23 Tryz.underlying3 hi0 hz0 hzs hzb rfl (by decide) (by decide) g i cap rfl cur HR.out HFC.out (cap + 1 - i) (by omega) hxi (by omega) (by omega) ?_; intro NC row w2 hr2 hq2 hn2 hm2 hb2; have hn2' : cap + 1 ≤ NC := (by omega); have hnc1 : ¬ (NC = i) := (by omega); have hnc2 : ¬ (NC = i + 1) := (by omega); have HS2 := (show Hid (∀ j v, r[j]? = some v → w2.cell? ((⟨vb, 0, none⟩ : Addr).add j) = some v) from fun j v hj => (by rw [Addr.add_mid, Nat.zero_add]; exact (HV.out.below hb2).cell hj)); have HF2 := (show Hid (i * 3 + r.length ≤ row.length) by show _ ≤ _; rw [hq2.out.1, HRL.out]; omega))
    | (refine wl_copy_k (by rfl) _ _ _ _ (by rfl) 84 3 Tryz.underlying23 Tryz.sizL (some ⟨w.heap.size, i * 3, none⟩) (some ⟨vb, 0, none⟩) (cap + 1 - i) (NC - i) 1 1 (by simp [Act.eval]) (by simp [Act.eval]) w.heap.size (i * 3) row 84 hr2.out r (by rw [HRL.out]; simp only [Nat.min_def]; split <;> omega) (fun _ => ⟨rfl, _, rfl, HS2.out⟩) (by decide) HF2.out h1r 1 (by simp only [Nat.min_def]; split <;> omega) ?_; intro w3 hr3 hg3))
  have hb3 : Below w.heap.size w w3 := hb2.trans (grown_below hg3 hb2.size (fun k hk => by cases hk; exact Nat.le_refl _))
  have HB3 := (show Hid (Below w.heap.size w w3) from hb3)
  have HS3 := (show Hid (∀ j v, (L.drop (i * 3))[j]? = some v → w3.cell? ((⟨g, i * 3, none⟩ : Addr).add j) = some v) from HS0.out w3 hb3)
  have HF3 := (show Hid ((i + 1) * 3 + (L.drop (i * 3)).length ≤ (splice row (i * 3) r).length) by
    show _ ≤ _
    rw [length_splice _ _ _ HF2.out, hq2.out.1, HL.out]; omega)
  have HI := (show Hid ((splice (splice row (i * 3) r) ((i + 1) * 3) (L.drop (i * 3))).take ((cap + 1) * 3) = L.take (i * 3) ++ (r ++ L.drop (i * 3))) by
    show _ = _
    have := spl2 row (L.drop (i * 3)) r (i * 3) (by rw [HRL.out, HL.out, hq2.out.1]; omega)
    rw [HRL.out, HL.out, show i * 3 + 3 + (cap - i) * 3 = (cap + 1) * 3 by omega, show i * 3 + 3 = (i + 1) * 3 by omega] at this
    rw [this, hq2.out.2, HTT.out])
  have hb1 : (0 : Int) ≤ (i : Int) + 1 := by omega
  have hb6 : (i : Int) + 1 ≤ (cap : Int) + 1 := by omega
  have hw1 : IntKind.i64.wrap ((i : Int) + 1) = (i : Int) + 1 := by rw [IntKind.wrap_i64]; omega
  have htn : ((i : Int) + 1).toNat = i + 1 := by omega
  have hcm : (NC : Int) ≤ 9223372036854775807 := by unfold maxLen at hm2; omega
  clear hb3 hg3 hb2 HS2 HS0
  generalize hDD : L.drop (i * 3) = D at *
  have HDD := (show Hid (L.drop (i * 3) = D) from hDD)
  clear hDD
  go_region_law ((refine step_copy_k (by rfl) _ _ _ _ (by rfl) 84 3 Tryz.underlying23 Tryz.sizL (some ⟨w.heap.size, (i + 1) * 3, none⟩) (some ⟨g, i * 3, none⟩) (cap - i) (NC - (i + 1)) (cap - i) (cap - i) (by simp [Act.eval, Act.put]) (by simp [Act.eval, Act.put]) w.heap.size ((i + 1) * 3) (splice row (i * 3) r) 84 hr3.out D (by rw [HL.out]; congr 1; simp only [Nat.min_def]; split <;> omega) (fun _ => ⟨rfl, _, rfl, HS3.out⟩) (by decide) HF3.out HO.out (cap - i) (by simp only [Nat.min_def]; split <;> omega) ?_; intro w4 hr4 hg4))
  have hg4 := grown_drew hg4
  have hB4 := HB3.out.trans (grown_below hg4 HB3.out.size (fun k hk => by cases hk; exact Nat.le_refl _))
  go_wp2_with fail
  go_ret
  refine ⟨NC, rfl, hn2', hm2, hB4, _, hr4.out, ?_, by rw [HDD.out]; exact HI.out⟩
  rw [length_splice _ _ _ HF3.out, length_splice _ _ _ HF2.out, hq2.out.1]

set_option maxHeartbeats 1000000 in
set_option maxRecDepth 100000 in
/-- slices.Insert, at the end. -/
theorem insertS_end (w : World) (v : Value) (B : Nat) (ys : List PEnt) (h : LB OLea 84 3 B w v ys) (hB : B ≤ w.heap.size) (hn : ys.length ≤ 64) (vb : Nat) (r : List Value) (hv : Row w vb 84 r) (y : PEnt) (hr : OLea (fun b => B ≤ b ∧ v.ownBlock ≠ some b) w r y) :
    Calls Tryz.prog 130 #[v, .int .i64 (ys.length : Int), .slice (some ⟨vb, 0, none⟩) 1 1] w fun e w' => ∃ v', e = .returned v' ∧ LB OLea 84 3 B w' v' (ys ++ [y]) ∧ w.grownBy w' v.ownBlock := by
  obtain ⟨i0, hi0, hz0, hzs, hzb⟩ := info_parts Tryz.infL
  obtain ⟨rows, h0, hown, hfr, hall⟩ := h
  have hlen := hall.len
  have hrl : r.length = 3 := by obtain ⟨a, p, q, rfl, _⟩ := hr; rfl
  have h1r := one_RS hr.lea
  rw [hlen] at hown
  have HO := (show Hid (w.ownsRow 0 84 3 v ys.length rows.flatten) from hown)
  have HS := (show Hid (∀ j u, r[j]? = some u → w.cell? ((⟨vb, 0, none⟩ : Addr).add j) = some u) from fun j u hj => by
    rw [Addr.add_mid, Nat.zero_add]
    exact hv.cell hj)
  have HL := (show Hid (rows.length = ys.length) from hlen)
  have HRL := (show Hid (r.length = 1 * 3) from hrl)
  have HA := (show Hid (All2 (OLea (fun b => B ≤ b ∧ v.ownBlock ≠ some b) w) rows ys) from hall)
  have hform : ∃ ao cap, v = .slice ao ys.length cap ∧ ys.length ≤ cap ∧ (cap : Int) ≤ 9223372036854775807 := by
    rcases hown.2 with ⟨rfl, h⟩ | ⟨g, cap, cur, rfl, _, _, h1, h2, _⟩
    · exact ⟨none, 0, by rw [h], by omega, by decide⟩
    · exact ⟨_, cap, rfl, h1, by unfold maxLen at h2; omega⟩
  clear hown hall hlen hrl
  obtain ⟨n, hnn⟩ : ∃ n, n = ys.length := ⟨_, rfl⟩
  rw [← hnn] at HO HL hn hform ⊢
  have HN := (show Hid (ys.length = n) from hnn.symm)
  clear hnn
  have hz2 : ((n : Int) == (n : Int)) = true := by simp
  have hbk : ∀ g, v.ownBlock = some g → B ≤ g := hfr
  have HFR := (show Hid (∀ g, v.ownBlock = some g → B ≤ g) from hbk)
  have HLT := (show Hid (∀ g, v.ownBlock = some g → g < w.heap.size) from fun g hg => (World.ownsRow.lt HO.out g hg).2)
  have fin : ∀ (g cap : Nat) (w' : World), w'.ownsRow 0 84 3 (.slice (some ⟨g, 0, none⟩) (n + 1) cap) (n + 1) (rows.flatten ++ r) → w.grownBy w' v.ownBlock → (v.ownBlock = some g ∨ w.heap.size ≤ g) → LB OLea 84 3 B w' (.slice (some ⟨g, 0, none⟩) (n + 1) cap) (ys ++ [y]) ∧ w.grownBy w' v.ownBlock := by
    intro g cap w' hown' hgr hat
    have hgB : B ≤ g := by
      rcases hat with hat | hat
      · exact HFR.out g hat
      · omega
    have hflat : rows.flatten ++ r = (rows ++ [r]).flatten := by simp
    have hrl : r.length = 3 := HRL.out
    refine ⟨⟨rows ++ [r], ?_, ?_, fr_at _ _ _ _ hgB, ?_⟩, hgr⟩
    · intro q hq
      rcases List.mem_append.1 hq with hq | hq
      · exact h0 q hq
      · simp at hq; subst hq; exact hrl
    · rw [List.length_append, ← hflat, HL.out]
      exact hown'
    · have mv : Mv (fun b => B ≤ b ∧ v.ownBlock ≠ some b) (fun b => B ≤ b ∧ (Value.slice (some ⟨g, 0, none⟩) (n + 1) cap).ownBlock ≠ some b) w w' := fun j hj hjl => by
        refine ⟨hgr.block j hjl (fun e => hj.2 e.symm), hj.1, fun e => ?_⟩
        simp [Value.ownBlock] at e
        rcases hat with hat | hat
        · exact hj.2 (by rw [hat, e])
        · omega
      exact All2.app (HA.out.mono fun q b hq => mov_olea _ _ _ _ _ _ hq hgr.size mv) ⟨mov_olea _ _ _ _ _ _ hr hgr.size mv, trivial⟩
  have HFI := (show Hid (∀ (g cap : Nat) (w' : World), w'.ownsRow 0 84 3 (.slice (some ⟨g, 0, none⟩) (n + 1) cap) (n + 1) (rows.flatten ++ r) → w.grownBy w' v.ownBlock → (v.ownBlock = some g ∨ w.heap.size ≤ g) → LB OLea 84 3 B w' (.slice (some ⟨g, 0, none⟩) (n + 1) cap) (ys ++ [y]) ∧ w.grownBy w' v.ownBlock) from fin)
  clear fin hbk hr hv
  obtain ⟨ao, cap, rfl, hc1, hc2⟩ := hform
  have hb0 : (0 : Int) ≤ (n : Int) := by omega
  by_cases hcn : cap = n
  · subst hcn
    cases ao with
    | none =>
      go_enter Tryz.func130, Tryz.ntmps130
      go_wp2_with (at_builtin; refine wpList_append_lies w rfl _ _ 23 rfl 0 84 i0 _ 3 40 Tryz.underlying23 hi0 hz0 hzs hzb rfl (by decide) _ cap rows.flatten rfl HO.out ⟨vb, 0, none⟩ 1 1 r rfl HRL.out HS.out h1r (by decide) (by unfold maxLen; omega) (by omega) (Nat.zero_le _) w.heap.size rfl ?_; intro g cap' w' hown' hgr hat hlt)
      go_ret
      obtain ⟨f1, f2⟩ := HFI.out g cap' w' hown' hgr (hat.imp_right fun e => Nat.le_of_eq e.symm)
      exact ⟨_, rfl, f1, f2⟩
    | some a =>
      go_enter Tryz.func130, Tryz.ntmps130
      go_wp2_with (at_builtin; refine wpList_append_lies w rfl _ _ 23 rfl 0 84 i0 _ 3 40 Tryz.underlying23 hi0 hz0 hzs hzb rfl (by decide) _ cap rows.flatten rfl HO.out ⟨vb, 0, none⟩ 1 1 r rfl HRL.out HS.out h1r (by decide) (by unfold maxLen; omega) (by omega) (Nat.zero_le _) w.heap.size rfl ?_; intro g cap' w' hown' hgr hat hlt)
      go_ret
      obtain ⟨f1, f2⟩ := HFI.out g cap' w' hown' hgr (hat.imp_right fun e => Nat.le_of_eq e.symm)
      exact ⟨_, rfl, f1, f2⟩
  · cases ao with
    | none =>
      exfalso
      rcases HO.out.2 with ⟨h, _⟩ | ⟨g, cap', cur, h, _⟩
      · injection h with _ h1 h2; omega
      · injection h with h; cases h
    | some a =>
      go_enter Tryz.func130, Tryz.ntmps130
      go_wp2_with (at_builtin; refine wpList_append_lies w rfl _ _ 23 rfl 0 84 i0 _ 3 40 Tryz.underlying23 hi0 hz0 hzs hzb rfl (by decide) _ n rows.flatten rfl HO.out ⟨vb, 0, none⟩ 1 1 r rfl HRL.out HS.out h1r (by decide) (by unfold maxLen; omega) (by omega) (Nat.zero_le _) w.heap.size rfl ?_; intro g cap' w' hown' hgr hat hlt)
      go_ret
      obtain ⟨f1, f2⟩ := HFI.out g cap' w' hown' hgr (hat.imp_right fun e => Nat.le_of_eq e.symm)
      exact ⟨_, rfl, f1, f2⟩

/-- slices.Insert. -/
theorem insertS_any (w : World) (v : Value) (B : Nat) (ys : List PEnt) (h : LB OLea 84 3 B w v ys) (hB : B ≤ w.heap.size) (hn : ys.length ≤ 64) (i : Nat) (hi : i ≤ ys.length) (vb : Nat) (r : List Value) (hv : Row w vb 84 r) (hvb : v.ownBlock ≠ some vb) (y : PEnt) (hr : OLea (fun b => B ≤ b ∧ v.ownBlock ≠ some b) w r y) :
    Calls Tryz.prog 130 #[v, .int .i64 (i : Int), .slice (some ⟨vb, 0, none⟩) 1 1] w fun e w' => ∃ v', e = .returned v' ∧ LB OLea 84 3 B w' v' (insL i y ys) ∧ w.grownBy w' v.ownBlock := by
  rcases Nat.lt_or_ge i ys.length with hil | hil
  rotate_left
  · obtain rfl : i = ys.length := by omega
    rw [insL, List.take_length, List.drop_length]
    exact insertS_end w v B ys h hB hn vb r hv y hr
  obtain ⟨rows, h0, hown, hfr, hall⟩ := h
  have hlen := hall.len
  have hrl : r.length = 3 := by obtain ⟨a, p, q, rfl, _⟩ := hr; rfl
  have h1r := one_RS hr.lea
  have h1 : ∀ u ∈ rows.flatten, u.oneCell' = true := by
    intro u hu
    obtain ⟨q, hq, huq⟩ := List.mem_flatten.1 hu
    obtain ⟨k, hk, rfl⟩ := List.getElem_of_mem hq
    exact one_RS (hall.get (List.getElem?_eq_getElem hk) (List.getElem?_eq_getElem (by omega))).lea u huq
  have hfl := flat_len h0
  have hfin : rows.flatten.take (i * 3) ++ (r ++ rows.flatten.drop (i * 3)) = (insL i r rows).flatten := by
    rw [flat_take h0 i (by omega), flat_drop h0 i (by omega), insL, List.flatten_append, List.flatten_cons]
  have hil2 : ∀ q ∈ insL i r rows, q.length = 3 := fun q hq => by
    rcases List.mem_append.1 hq with hq | hq
    · exact h0 q (List.mem_of_mem_take hq)
    · rcases List.mem_cons.1 hq with rfl | hq
      · exact hrl
      · exact h0 q (List.mem_of_mem_drop hq)
  have hlenI : (insL i r rows).length = ys.length + 1 := by rw [insL, List.length_append, List.length_cons, List.length_take, List.length_drop]; omega
  have hallI : ∀ (G' : Nat → Prop) (w' : World), w.heap.size ≤ w'.heap.size → Mv (fun b => B ≤ b ∧ v.ownBlock ≠ some b) G' w w' → All2 (OLea G' w') (insL i r rows) (insL i y ys) := fun G' w' hs hm =>
    All2.app ((hall.take i).mono fun q b hq => mov_olea _ _ _ _ _ _ hq hs hm) ⟨mov_olea _ _ _ _ _ _ hr hs hm, (hall.drop i).mono fun q b hq => mov_olea _ _ _ _ _ _ hq hs hm⟩
  rw [hlen] at hown hfl
  rcases hown.2 with ⟨_, h4⟩ | ⟨g, cap, cur, rfl, _, hg, hc1, hc2, hc3, hc4⟩
  · omega
  have hrow : Row w g 84 cur.toList := by unfold Row; simpa using hg
  have hvg : vb ≠ g := fun e => hvb (by simp [Value.ownBlock, e])
  have hgB : B ≤ g := hfr g rfl
  rcases Nat.lt_or_ge cap (ys.length + 1) with hroom | hroom
  · refine (insertS_grow w g cap ys.length i vb cur.toList rows.flatten r hrow (by simpa using hc3) hfl hc4 hil hc1 hroom hn h1 hv hrl h1r).mono ?_
    rintro e w' ⟨NC, rfl, n1, n2, hb, cur', k1, k2, k3⟩
    refine ⟨_, rfl, ⟨insL i r rows, hil2, ⟨flat_len hil2, .inr ⟨w.heap.size, NC, cur'.toArray, by rw [hlenI], Nat.zero_le _, k1, by omega, n2, by simpa using k2, by rw [hlenI, ← hfin]; simpa using k3⟩⟩, fr_at _ _ _ _ hB, hallI _ _ hb.size fun j hj hjl => ⟨hb.block j hjl, hj.1, fun e => ?_⟩⟩, grown_of_below hb _⟩
    simp [Value.ownBlock] at e
    omega
  · refine (insertS_room w g cap ys.length i vb cur.toList rows.flatten r hrow (by simpa using hc3) hfl hc4 hil hroom hc2 hn h1 hvg hv hrl h1r).mono ?_
    rintro e w' ⟨rfl, hb, cur', k1, k2, k3⟩
    refine ⟨_, rfl, ⟨insL i r rows, hil2, ⟨flat_len hil2, .inr ⟨g, cap, cur'.toArray, by rw [hlenI], Nat.zero_le _, k1, by omega, hc2, by simpa using k2, by rw [hlenI, ← hfin]; simpa using k3⟩⟩, fr_at _ _ _ _ hgB, hallI _ _ hb.size fun j hj hjl => ⟨hb.block j hjl (fun e => hj.2 e.symm), hj.1, hj.2⟩⟩, hb⟩
end Go.Proofs.YtejkkhlblnepeaaGreat
end

section
set_option linter.unusedVariables false
set_option linter.unusedSimpArgs false
namespace Go.Proofs.YtejkkhlblnepeaaGreat
open Go.RowKit Oct Kvl

set_option maxRecDepth 10000 in
/-- lease.find's comparison. -/
theorem findCS_any (w : World) (r : List Value) (x : PEnt) (h : RLea Any w r x) (nv : Value) (n : List Int) (hn : Rd w nv n) :
    Calls Tryz.prog 129 #[.agg r.toArray, nv] w fun e w' => e = .returned (.int .i64 (cmpL x.1 n)) ∧ Below w.heap.size w w' := by
  obtain ⟨a, p, q, rfl, ha, hb⟩ := h
  have B0 := below_alloc w (.cells #[a, .int .i64 p, .int .i64 q] 84)
  have c0 := (Row.new w 84 [a, .int .i64 p, .int .i64 q]).cell (j := 0) rfl
  have hC := compare_any _ a nv x.1 n (ha.mv (Mv.below B0)).1 (hn.below B0)
  go_enter Tryz.func129, Tryz.ntmps129
  go_wp2_with (go_at_call 72; refine hC.mono ?_; rintro e w2 ⟨rfl, rfl⟩)
  go_ret
  exact ⟨rfl, B0⟩

set_option maxRecDepth 10000 in
set_option maxHeartbeats 2000000 in
/-- slices.BinarySearchFunc. -/
theorem searchS_any (w : World) (v : Value) (ys : List PEnt) (h : RL RLea 3 Any w v ys) (nv : Value) (n : List Int) (hn : Rd w nv n) (m : List Int) (hup : up m ys) (hz : ys.length ≤ 64) :
    Calls Tryz.prog 128 #[v, nv, .func (.func 129) #[] #[]] w fun e w' => e = .returned (.tuple #[.int .i64 (pos n ys), .bool (isIn n ys)]) ∧ Below w.heap.size w w' := by
  by_cases hl : 0 < ys.length
  rotate_left
  · obtain rfl : ys = [] := List.eq_nil_of_length_eq_zero (by omega)
    obtain ⟨ao, cap, rfl, _⟩ := h.form
    go_enter Tryz.func128, Tryz.ntmps128
    go_wp2_with fail
    refine wp_loop_rounds 1 ?_; rw [rounds_succ]
    go_wp2_with fail
    go_ret2
    exact ⟨rfl, Below.refl _ _⟩
  obtain ⟨b, off, cap, rfl, hc, hm, _, hb, hx⟩ := h.at hl
  have HX := (show Hid (∀ (i : Nat) (a : PEnt), ys[i]? = some a → ∃ r, r.length = 3 ∧ w.rangeAt b (off + i * 3) r ∧ RLea Any w r a) from hx)
  have HU := (show Hid (up m ys) from hup)
  clear hx h hup hm
  obtain ⟨N, hN⟩ : ∃ N, N = ys.length := ⟨_, rfl⟩
  rw [← hN] at hl hc hz ⊢
  have HN := (show Hid (ys.length = N) from hN.symm)
  clear hN
  have HC := (show Hid (∀ (i : Nat) (a : PEnt), ys[i]? = some a → ∃ s1 p1 q1, w.rangeAt b (off + i * 3) [s1, .int .i64 p1, .int .i64 q1] ∧ ∀ u, Below w.heap.size w u → Calls Tryz.prog 129 #[.agg #[s1, .int .i64 p1, .int .i64 q1], nv] u fun e w' => e = .returned (.int .i64 (cmpL a.1 n)) ∧ Below u.heap.size u w') from fun i a ha => by
    obtain ⟨r, _, hr, s1, p1, q1, rfl, t1, t2⟩ := HX.out i a ha
    exact ⟨s1, p1, q1, hr, fun u hu => findCS_any u [s1, .int .i64 p1, .int .i64 q1] a (mov_lea _ _ _ _ _ _ ⟨_, _, _, rfl, t1, t2⟩ hu.size (Mv.below hu)) nv n (hn.below hu)⟩)
  clear HX
  go_enter Tryz.func128, Tryz.ntmps128
  go_wp2_with fail
  go_loopw [9, 10] (fun s9 s10 wr => ∃ lo hi : Nat, s9 = .int .i64 lo ∧ s10 = .int .i64 hi ∧ lo ≤ hi ∧ hi ≤ N ∧ Below w.heap.size w wr ∧
    Hid ((∀ (t : Nat) (x : PEnt), t < lo → ys[t]? = some x → cmpL x.1 n < 0) ∧ (∀ (t : Nat) (x : PEnt), hi ≤ t → ys[t]? = some x → 0 ≤ cmpL x.1 n))) (fun s9 s10 _ => (intOf s10).toNat - (intOf s9).toNat)
  case atStart => exact ⟨0, N, rfl, rfl, by omega, by omega, Below.refl _ _, ⟨fun t x ht => by omega, fun t x h1 h2 => by have := (List.getElem?_eq_some_iff.1 h2).1; have := HN.out; omega⟩⟩
  case round =>
    obtain ⟨lo, hi, rfl, rfl, hlh, hin, hB, hI⟩ := hrel
    by_cases hlt : lo < hi
    · obtain ⟨x, hx⟩ : ∃ x, ys[(lo + hi) / 2]? = some x := ⟨_, List.getElem?_eq_getElem (by have := HN.out; omega)⟩
      obtain ⟨s1, p1, q1, hrng, hcall⟩ := HC.out _ x hx
      have hrng := rangeAt_block hrng (hB.block b hb)
      have hc1 := hcall wr hB
      have HXX := (show Hid (ys[(lo + hi) / 2]? = some x) from hx)
      obtain ⟨cv, hcv⟩ : ∃ c, cmpL x.1 n = c := ⟨_, rfl⟩
      rw [hcv] at hc1
      have HV := (show Hid (cmpL x.1 n = cv) from hcv)
      clear hx hcv hcall
      by_cases hcl : cv < 0
      · go_wp2_with (first
          | (refine wpList_load_mid rfl _ _ rfl b (off + (lo + hi) / 2 * 3) rfl [s1, .int .i64 p1, .int .i64 q1] _ hrng Tryz.underlying84 rfl (by kernel_rfl) ?_)
          | (go_at_call 129; refine hc1.mono ?_; rintro e w2 ⟨rfl, hb2⟩))
        go_roundw
        case rel =>
          refine ⟨(lo + hi) / 2 + 1, hi, by rw [show ((lo : Int) + (hi : Int)) / 2 + 1 = (((lo + hi) / 2 + 1 : Nat) : Int) by omega], rfl, by omega, hin, below_and hB (Nat.le_refl _) hb2, ⟨fun t y ht hy => ?_, hI.out.2⟩⟩
          rcases Nat.lt_or_ge t ((lo + hi) / 2) with h1 | h1
          · exact cmp_trans (up_get HU.out hy HXX.out h1) (by rw [HV.out]; exact hcl)
          · obtain rfl : t = (lo + hi) / 2 := by omega
            rw [HXX.out] at hy
            injection hy with hy
            rw [← hy, HV.out]; exact hcl
        case measure => simp [intOf]; omega
      · go_wp2_with (first
          | (refine wpList_load_mid rfl _ _ rfl b (off + (lo + hi) / 2 * 3) rfl [s1, .int .i64 p1, .int .i64 q1] _ hrng Tryz.underlying84 rfl (by kernel_rfl) ?_)
          | (go_at_call 129; refine hc1.mono ?_; rintro e w2 ⟨rfl, hb2⟩))
        go_roundw
        case rel =>
          refine ⟨lo, (lo + hi) / 2, rfl, by rw [show ((lo : Int) + (hi : Int)) / 2 = (((lo + hi) / 2 : Nat) : Int) by omega], by omega, by omega, below_and hB (Nat.le_refl _) hb2, ⟨hI.out.1, fun t y ht hy => ?_⟩⟩
          rcases Nat.lt_or_ge ((lo + hi) / 2) t with h1 | h1
          · rcases Int.lt_or_le (cmpL y.1 n) 0 with h2 | h2
            · have h3 := cmp_trans (up_get HU.out HXX.out hy h1) h2
              rw [HV.out] at h3
              omega
            · exact h2
          · obtain rfl : t = (lo + hi) / 2 := by omega
            rw [HXX.out] at hy
            injection hy with hy
            rw [← hy, HV.out]; omega
        case measure => simp [intOf]; omega
    · obtain rfl : lo = hi := by omega
      have hp : pos n ys = lo := pos_of (by have := HN.out; omega) (fun k e hk he => hI.out.1 k e hk he) (fun e he => by have := hI.out.2 lo e (Nat.le_refl _) he; omega)
      by_cases hlN : lo < N
      · obtain ⟨x, hx⟩ : ∃ x, ys[lo]? = some x := ⟨_, List.getElem?_eq_getElem (by have := HN.out; omega)⟩
        obtain ⟨s1, p1, q1, hrng, hcall⟩ := HC.out _ x hx
        have hrng := rangeAt_block hrng (hB.block b hb)
        have hc1 := hcall wr hB
        have HI := (show Hid (isIn n ys = decide (cmpL x.1 n = 0)) from isIn_at (by rw [hp]; exact hx))
        have HP := (show Hid (pos n ys = lo) from hp)
        clear hx hp hcall
        go_wp2_with (first
          | (refine wl_load_mid_w rfl _ _ rfl b (off + lo * 3) rfl [s1, .int .i64 p1, .int .i64 q1] _ hrng Tryz.underlying84 rfl (by kernel_rfl) ?_)
          | (go_at_call 129; refine hc1.mono ?_; rintro e w2 ⟨rfl, hb2⟩))
        go_ret2
        refine ⟨?_, below_and hB (Nat.le_refl _) hb2⟩
        rw [HP.out, HI.out]
        rfl
      · have HI := (show Hid (isIn n ys = false) from isIn_no (by rw [hp, List.getElem?_eq_none (by have := HN.out; omega)]))
        have HP := (show Hid (pos n ys = lo) from hp)
        have hd : decide ((lo : Int) < N) = false := by simp; omega
        clear hp
        go_wp2_with fail
        go_ret2
        refine ⟨?_, hB⟩
        rw [HP.out, HI.out]
        rfl
/-- lease.find. -/
theorem findS_any (w : World) (v : Value) (ys : List PEnt) (h : RL RLea 3 Any w v ys) (nv : Value) (n : List Int) (hn : Rd w nv n) (m : List Int) (hup : up m ys) (hz : ys.length ≤ 64) :
    Calls Tryz.prog 115 #[v, nv] w fun e w' => e = .returned (.tuple #[.int .i64 (pos n ys), .bool (isIn n ys)]) ∧ Below w.heap.size w w' := by
  go_enter Tryz.func115, Tryz.ntmps115
  go_wp2_with fail
  refine (searchS_any w v ys h nv n hn m hup hz).mono ?_
  rintro e w1 ⟨rfl, h1⟩
  go_wp2_with fail
  go_ret2
  exact ⟨rfl, h1⟩
end Go.Proofs.YtejkkhlblnepeaaGreat
end

section
set_option linter.unusedVariables false
set_option linter.unusedSimpArgs false
namespace Go.Proofs.YtejkkhlblnepeaaGreat
open Go.RowKit Oct Kvl

theorem withinS_any (w : World) (n a b : Int) : Calls Tryz.prog 74 #[.int .i64 n, .int .i64 a, .int .i64 b] w fun e w' => e = .returned (.bool (decide (a ≤ n ∧ n ≤ b))) ∧ w' = w := by
  by_cases h1 : a ≤ n
  · by_cases h2 : n ≤ b
    · rw [decide_eq_true ⟨h1, h2⟩]
      go_enter Tryz.func74, Tryz.ntmps74
      go_wp2_with fail
      go_ret
      exact ⟨rfl, rfl⟩
    · rw [decide_eq_false (fun h => h2 h.2)]
      have h2' : decide (n ≤ b) = false := by simp; omega
      go_enter Tryz.func74, Tryz.ntmps74
      go_wp2_with fail
      go_ret
      exact ⟨rfl, rfl⟩
  · rw [decide_eq_false (fun h => h1 h.1)]
    have h1' : decide (a ≤ n) = false := by simp; omega
    go_enter Tryz.func74, Tryz.ntmps74
    go_wp2_with fail
    go_ret
    exact ⟨rfl, rfl⟩
theorem isClient_any (w : World) (n : Int) : Calls Tryz.prog 73 #[.int .i64 n] w fun e w' => e = .returned (.bool (decide (1 ≤ n ∧ n ≤ 4))) ∧ w' = w := by
  have hW := withinS_any w n 1 4
  generalize decide (1 ≤ n ∧ n ≤ 4) = d at hW ⊢
  go_enter Tryz.func73, Tryz.ntmps73
  go_wp2_with fail
  refine hW.mono ?_
  rintro e w1 ⟨rfl, rfl⟩
  go_wp2_with fail
  go_ret
  exact ⟨rfl, rfl⟩
theorem isTime_any (w : World) (n : Int) : Calls Tryz.prog 112 #[.int .i64 n] w fun e w' => e = .returned (.bool (decide (0 ≤ n ∧ n ≤ 2147482647))) ∧ w' = w := by
  have hW := withinS_any w n 0 2147482647
  generalize decide (0 ≤ n ∧ n ≤ 2147482647) = d at hW ⊢
  go_enter Tryz.func112, Tryz.ntmps112
  go_wp2_with fail
  refine hW.mono ?_
  rintro e w1 ⟨rfl, rfl⟩
  go_wp2_with fail
  go_ret
  exact ⟨rfl, rfl⟩

/-- What is still to be looked at. -/
def chkS (n : List Int) (l : List PEnt) : Prop := up n l ∧ ∀ e ∈ l, rgs1 e
theorem rgtS_chk {l : List PEnt} (h : l.length ≤ 16) : rgtS l ↔ chkS [] l := ⟨fun h => h.2, fun h2 => ⟨h, h2⟩⟩
theorem chkS_cons {n : List Int} {x : PEnt} {r : List PEnt} : chkS n (x :: r) ↔ (cmpL n x.1 < 0 ∧ rgs1 x) ∧ chkS x.1 r := by
  unfold chkS
  show ((cmpL n x.1 < 0 ∧ up x.1 r) ∧ _) ↔ _
  simp only [List.mem_cons, forall_eq_or_imp]
  exact ⟨fun ⟨⟨h1, h2⟩, h3, h4⟩ => ⟨⟨h1, h3⟩, h2, h4⟩, fun ⟨⟨h1, h3⟩, h2, h4⟩ => ⟨⟨h1, h2⟩, h3, h4⟩⟩
theorem chkS_bad1 {n : List Int} {x : PEnt} {r : List PEnt} (h : cmpL x.1 n ≤ 0) : ¬ chkS n (x :: r) := fun h1 => by
  have := (chkS_cons.1 h1).1.1
  have := cmp_neg n x.1
  omega
theorem chkS_go {n : List Int} {x : PEnt} {r : List PEnt} (h : 0 < cmpL x.1 n) (h1 : x.1.length ≤ 16) (h2 : 1 ≤ lo x.2 ∧ lo x.2 ≤ 4) (h5 : 1 ≤ lu x.2 ∧ lu x.2 ≤ 2147483647) : chkS n (x :: r) ↔ chkS x.1 r := by
  rw [chkS_cons]
  have h3 := cmp_neg n x.1
  have h4 : cmpL n x.1 < 0 := by omega
  exact ⟨fun h => h.2, fun h => ⟨⟨h4, ⟨low_ne h4, h1⟩, h2, h5⟩, h⟩⟩

set_option maxRecDepth 10000 in
set_option maxHeartbeats 2000000 in
/-- lease.Right. -/
theorem rightS_any (w : World) (v : Value) (ys : List PEnt) (h : RL RLea 3 Any w v ys) :
    Calls Tryz.prog 34 #[v] w fun e w' => e = .returned (.bool (decide (rgtS ys))) ∧ Below w.heap.size w w' := by
  by_cases h64 : 16 < ys.length
  · rw [decide_eq_false (fun h => by have := h.1; omega)]
    obtain ⟨ao, cap, rfl, hm⟩ := h.form
    have hd : (16 : Int) < ys.length := by omega
    go_enter Tryz.func34, Tryz.ntmps34
    go_wp2_with fail
    go_ret
    exact ⟨rfl, Below.refl _ _⟩
  have hd : decide ((16 : Int) < ys.length) = false := by simp; omega
  by_cases hl : 0 < ys.length
  rotate_left
  · obtain rfl : ys = [] := List.eq_nil_of_length_eq_zero (by omega)
    obtain ⟨ao, cap, rfl, _⟩ := h.form
    go_enter Tryz.func34, Tryz.ntmps34
    go_wp2_with fail
    refine wp_loop_rounds 1 ?_; rw [rounds_succ]
    go_wp2_with fail
    go_ret
    exact ⟨ret_bool (by decide), Below.refl _ _⟩
  obtain ⟨b, off, cap, rfl, hc, hm, _, hb, hx⟩ := h.at hl
  have HX := (show Hid (∀ (i : Nat) (a : PEnt), ys[i]? = some a → ∃ r, r.length = 3 ∧ w.rangeAt b (off + i * 3) r ∧ RLea Any w r a) from hx)
  have HR := (show Hid (rgtS ys ↔ chkS [] ys) from rgtS_chk (by omega))
  have hlm : (ys.length : Int) ≤ 9223372036854775807 := by omega
  clear hx h h64
  obtain ⟨n, hn⟩ : ∃ n, n = ys.length := ⟨_, rfl⟩
  rw [← hn] at hlm hl hc hd ⊢
  have HN := (show Hid (ys.length = n) from hn.symm)
  clear hn
  go_enter Tryz.func34, Tryz.ntmps34
  go_wp2_with fail
  go_loopw [3, 11] (fun s i wr => ∃ (q : Nat) (ln : List Int), q ≤ n ∧ i = .int .i64 q ∧ Rd wr s ln ∧ Below w.heap.size w wr ∧ Hid (chkS [] ys ↔ chkS ln (ys.drop q))) (fun _ i _ => n - (intOf i).toNat)
  case atStart => exact ⟨0, [], by omega, rfl, (Own.nil w 5).rd (l := []) Byt.nil, Below.refl _ _, Iff.rfl⟩
  case round =>
    obtain ⟨q, ln, hq, rfl, hs, hB, hI⟩ := hrel
    by_cases hql : q < n
    · obtain ⟨x, hx⟩ : ∃ x, ys[q]? = some x := ⟨_, List.getElem?_eq_getElem (by have := HN.out; omega)⟩
      obtain ⟨r, _, hrng, s1, p1, q1, rfl, t1, t2⟩ := HX.out q x hx
      have hrng := rangeAt_block hrng (hB.block b hb)
      obtain ⟨a1, c1, rfl, hc1⟩ := t1.form
      have hrow0 := Row.new wr 84 [.slice none 0 0, .int .i64 0, .int .i64 0]
      have HD := (show Hid (ys.drop q = x :: ys.drop (q + 1)) from drop_cons hx)
      have HP := (show Hid (lo x.2 = p1 ∧ lu x.2 = q1) by rw [t2]; exact ⟨rfl, rfl⟩)
      have hone := onL3 (p := p1) (q := q1) t1.one
      clear hx t2
      obtain ⟨L1, hL1⟩ : ∃ L, x.1.length = L := ⟨_, rfl⟩
      rw [hL1] at t1 hrng hone
      have HL := (show Hid (x.1.length = L1) from hL1)
      clear hL1
      have hcm := fun u (hu : Below wr.heap.size wr u) => compare_any u _ u3 x.1 ln (t1.mv (Mv.below (below_and hB (Nat.le_refl _) hu))).1 (hs.below hu)
      obtain ⟨cv, hcv⟩ : ∃ c, cmpL x.1 ln = c := ⟨_, rfl⟩
      rw [hcv] at hcm
      have HC := (show Hid (cmpL x.1 ln = cv) from hcv)
      have HCM := (show Hid (∀ u, Below wr.heap.size wr u → Calls Tryz.prog 72 #[.slice a1 L1 c1, u3] u fun e w' => e = .returned (.int .i64 cv) ∧ w' = u) from hcm)
      have HCL := (show Hid (∀ u, Calls Tryz.prog 73 #[.int .i64 p1] u fun e w' => e = .returned (.bool (decide (1 ≤ p1 ∧ p1 ≤ 4))) ∧ w' = u) from fun u => isClient_any u p1)
      have HWI := (show Hid (∀ u, Calls Tryz.prog 74 #[.int .i64 q1, .int .i64 1, .int .i64 2147483647] u fun e w' => e = .returned (.bool (decide (1 ≤ q1 ∧ q1 ≤ 2147483647))) ∧ w' = u) from fun u => withinS_any u q1 1 2147483647)
      clear hcv hcm
      by_cases g1 : cv ≤ 0
      · go_wp2_with (first
          | (refine wpList_load_mid rfl _ _ rfl b (off + q * 3) rfl [.slice a1 L1 c1, .int .i64 p1, .int .i64 q1] _ hrng Tryz.underlying84 rfl (by kernel_rfl) ?_)
          | (refine wl_store rfl _ _ _ rfl wr.heap.size [.slice a1 L1 c1, .int .i64 p1, .int .i64 q1] rfl rfl _ _ hrow0 rfl (by kernel_rfl) hone ?_; intro w5 hr5 hg5; have hb5 : Below wr.heap.size wr w5 := (below_alloc wr _).trans (grown_below hg5 (by simp) (fun k hk => by cases hk; exact Nat.le_refl _)); have e0 := hr5.out.cell (j := 0) rfl; have e1 := hr5.out.cell (j := 1) rfl; have e2 := hr5.out.cell (j := 2) rfl)
          | (go_at_call 72; refine (HCM.out w5 hb5).mono ?_; rintro e w5 ⟨rfl, rfl⟩))
        go_ret
        refine ⟨ret_bool (decide_eq_false fun h => ?_).symm, below_and hB (Nat.le_refl _) hb5⟩
        have := hI.out.1 (HR.out.1 h)
        rw [HD.out] at this
        exact chkS_bad1 (by rw [HC.out]; exact g1) this
      have g1' : decide (cv ≤ 0) = false := by simp; omega
      by_cases g2 : 16 < L1
      · have g2' : (16 : Int) < L1 := by omega
        go_wp2_with (first
          | (refine wpList_load_mid rfl _ _ rfl b (off + q * 3) rfl [.slice a1 L1 c1, .int .i64 p1, .int .i64 q1] _ hrng Tryz.underlying84 rfl (by kernel_rfl) ?_)
          | (refine wl_store rfl _ _ _ rfl wr.heap.size [.slice a1 L1 c1, .int .i64 p1, .int .i64 q1] rfl rfl _ _ hrow0 rfl (by kernel_rfl) hone ?_; intro w5 hr5 hg5; have hb5 : Below wr.heap.size wr w5 := (below_alloc wr _).trans (grown_below hg5 (by simp) (fun k hk => by cases hk; exact Nat.le_refl _)); have e0 := hr5.out.cell (j := 0) rfl; have e1 := hr5.out.cell (j := 1) rfl; have e2 := hr5.out.cell (j := 2) rfl)
          | (go_at_call 72; refine (HCM.out w5 hb5).mono ?_; rintro e w5 ⟨rfl, rfl⟩))
        go_ret
        refine ⟨ret_bool (decide_eq_false fun h => ?_).symm, below_and hB (Nat.le_refl _) hb5⟩
        have := hI.out.1 (HR.out.1 h)
        rw [HD.out, chkS_cons] at this
        have h3 := this.1.2.1.2
        rw [HL.out] at h3
        omega
      have g2' : decide ((16 : Int) < L1) = false := by simp; omega
      by_cases g3 : 1 ≤ p1 ∧ p1 ≤ 4
      rotate_left
      · rw [decide_eq_false g3] at HCL
        go_wp2_with (first
          | (refine wpList_load_mid rfl _ _ rfl b (off + q * 3) rfl [.slice a1 L1 c1, .int .i64 p1, .int .i64 q1] _ hrng Tryz.underlying84 rfl (by kernel_rfl) ?_)
          | (refine wl_store rfl _ _ _ rfl wr.heap.size [.slice a1 L1 c1, .int .i64 p1, .int .i64 q1] rfl rfl _ _ hrow0 rfl (by kernel_rfl) hone ?_; intro w5 hr5 hg5; have hb5 : Below wr.heap.size wr w5 := (below_alloc wr _).trans (grown_below hg5 (by simp) (fun k hk => by cases hk; exact Nat.le_refl _)); have e0 := hr5.out.cell (j := 0) rfl; have e1 := hr5.out.cell (j := 1) rfl; have e2 := hr5.out.cell (j := 2) rfl)
          | (go_at_call 72; refine (HCM.out w5 hb5).mono ?_; rintro e w5 ⟨rfl, rfl⟩)
          | (go_at_call 73; refine (HCL.out w5).mono ?_; rintro e w5 ⟨rfl, rfl⟩))
        go_ret
        refine ⟨ret_bool (decide_eq_false fun h => ?_).symm, below_and hB (Nat.le_refl _) hb5⟩
        have := hI.out.1 (HR.out.1 h)
        rw [HD.out, chkS_cons] at this
        have h3 := this.1.2.2.1
        rw [HP.out.1] at h3
        exact g3 h3
      rw [decide_eq_true g3] at HCL
      by_cases g4 : 1 ≤ q1 ∧ q1 ≤ 2147483647
      rotate_left
      · rw [decide_eq_false g4] at HWI
        go_wp2_with (first
          | (refine wpList_load_mid rfl _ _ rfl b (off + q * 3) rfl [.slice a1 L1 c1, .int .i64 p1, .int .i64 q1] _ hrng Tryz.underlying84 rfl (by kernel_rfl) ?_)
          | (refine wl_store rfl _ _ _ rfl wr.heap.size [.slice a1 L1 c1, .int .i64 p1, .int .i64 q1] rfl rfl _ _ hrow0 rfl (by kernel_rfl) hone ?_; intro w5 hr5 hg5; have hb5 : Below wr.heap.size wr w5 := (below_alloc wr _).trans (grown_below hg5 (by simp) (fun k hk => by cases hk; exact Nat.le_refl _)); have e0 := hr5.out.cell (j := 0) rfl; have e1 := hr5.out.cell (j := 1) rfl; have e2 := hr5.out.cell (j := 2) rfl)
          | (go_at_call 72; refine (HCM.out w5 hb5).mono ?_; rintro e w5 ⟨rfl, rfl⟩)
          | (go_at_call 73; refine (HCL.out w5).mono ?_; rintro e w5 ⟨rfl, rfl⟩)
          | (go_at_call 74; refine (HWI.out w5).mono ?_; rintro e w5 ⟨rfl, rfl⟩))
        go_ret
        refine ⟨ret_bool (decide_eq_false fun h => ?_).symm, below_and hB (Nat.le_refl _) hb5⟩
        have := hI.out.1 (HR.out.1 h)
        rw [HD.out, chkS_cons] at this
        have h3 := this.1.2.2.2
        rw [HP.out.2] at h3
        exact g4 h3
      rw [decide_eq_true g4] at HWI
      go_wp2_with (first
        | (refine wpList_load_mid rfl _ _ rfl b (off + q * 3) rfl [.slice a1 L1 c1, .int .i64 p1, .int .i64 q1] _ hrng Tryz.underlying84 rfl (by kernel_rfl) ?_)
        | (refine wl_store rfl _ _ _ rfl wr.heap.size [.slice a1 L1 c1, .int .i64 p1, .int .i64 q1] rfl rfl _ _ hrow0 rfl (by kernel_rfl) hone ?_; intro w5 hr5 hg5; have hb5 : Below wr.heap.size wr w5 := (below_alloc wr _).trans (grown_below hg5 (by simp) (fun k hk => by cases hk; exact Nat.le_refl _)); have e0 := hr5.out.cell (j := 0) rfl; have e1 := hr5.out.cell (j := 1) rfl; have e2 := hr5.out.cell (j := 2) rfl)
        | (go_at_call 72; refine (HCM.out w5 hb5).mono ?_; rintro e w5 ⟨rfl, rfl⟩)
        | (go_at_call 73; refine (HCL.out w5).mono ?_; rintro e w5 ⟨rfl, rfl⟩)
        | (go_at_call 74; refine (HWI.out w5).mono ?_; rintro e w5 ⟨rfl, rfl⟩))
      go_roundw
      case rel =>
        refine ⟨q + 1, x.1, by omega, by go_num, (t1.mv (Mv.below (below_and hB (Nat.le_refl _) hb5))).1, below_and hB (Nat.le_refl _) hb5, ?_⟩
        have h1 := hI.out
        rw [HD.out, chkS_go (by rw [HC.out]; omega) (by rw [HL.out]; omega) (by rw [HP.out.1]; exact g3) (by rw [HP.out.2]; exact g4)] at h1
        exact h1
      case measure => simp [intOf]; omega
    · go_wp2_with fail
      go_ret
      refine ⟨ret_bool (decide_eq_true ?_).symm, hB⟩
      rw [HR.out, hI.out, List.drop_of_length_le (by have := HN.out; omega)]
      exact ⟨trivial, fun e he => by cases he⟩
end Go.Proofs.YtejkkhlblnepeaaGreat
end
