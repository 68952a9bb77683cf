/- The walks over package kv: what comes of an operation whose name is there, of a put whose name isn't. -/
import Derived.Test.YtejkkhlblnepeaaDoorKj
import Derived.Test.YtejkkhlblnepeaaDoorK0
set_option linter.unusedVariables false
set_option linter.unusedSimpArgs false
namespace Go.Proofs.YtejkkhlblnepeaaDoor
open Go.RowKit Oct Kvl

theorem results_tc {P : Program} {fn : Func} {p t : Tmp} {ty : TypeId} (h : fn.results = #[.tmp t, .cell p ty]) (tmps : Array Value) (w : World) (g : Nat) (tt : TypeId) (cs : Array Value) (fr : Nat × Nat) (d : TypeDesc)
    (hp : tmps.getD p undef = .pointer (some ⟨g, 0, none⟩)) (hg : w.heap[g]? = some (.cells cs tt fr))
    (hu : P.underlying ty = some d) (hd : (match d with | .struct _ | .array _ _ => true | _ => false) = true) (hi : (P.info? ty).map (·.size) = some cs.size) :
    (results fn tmps).run P w = .ok (.tuple #[tmps.getD t undef, .agg cs]) w := by
  have hp' : tmps[p]?.getD undef = .pointer (some ⟨g, 0, none⟩) := by simpa using hp
  simp [results, h, hp', asAddr, run_loadVar_row w g tt ty cs fr d hg hu hd hi]

theorem LB.opn {B : Nat} {w : World} {v : Value} {ys : List PEnt} (h : LB OEnt 51 2 B w v ys) (hp : 0 < ys.length) : ∃ (g cap : Nat) (cur : List Value) (rows : List (List Value)), v = .slice (some ⟨g, 0, none⟩) ys.length cap ∧ Row w g 51 cur ∧ cur.length = cap * 2 ∧ ys.length ≤ cap ∧ cap ≤ maxLen ∧ B ≤ g ∧ rows.length = ys.length ∧ (∀ r ∈ rows, r.length = 2) ∧ cur.take (ys.length * 2) = rows.flatten ∧ All2 (OEnt (fun b => B ≤ b ∧ b ≠ g) w) rows ys := by
  obtain ⟨rows, h0, hown, hfr, hall⟩ := h
  have hlen := hall.len
  rw [hlen] at hown
  rcases hown.2 with ⟨_, h4⟩ | ⟨g, cap, cur, rfl, _, hg, hc1, hc2, hc3, hc4⟩
  · omega
  · exact ⟨g, cap, cur.toList, rows, rfl, by unfold Row; simpa using hg, by simpa using hc3, hc1, hc2, hfr g rfl, hlen, h0, hc4, hall.mono fun q b hq => mov_oent _ _ _ _ _ _ hq (Nat.le_refl _) fun k hk _ => ⟨rfl, hk.1, fun e => hk.2 (by simp [Value.ownBlock, e])⟩⟩
theorem LB.mkE {B : Nat} {w : World} {ys : List PEnt} {g cap n : Nat} {cur : List Value} {rows : List (List Value)} (h1 : Row w g 51 cur) (h2 : cur.length = cap * 2) (h3 : n ≤ cap) (h4 : cap ≤ maxLen) (h5 : B ≤ g) (h6 : rows.length = n) (h7 : ∀ r ∈ rows, r.length = 2) (h8 : cur.take (n * 2) = rows.flatten)
    (h9 : All2 (OEnt (fun b => B ≤ b ∧ b ≠ g) w) rows ys) : LB OEnt 51 2 B w (.slice (some ⟨g, 0, none⟩) n cap) ys :=
  ⟨rows, h7, ⟨flat_len h7, .inr ⟨g, cap, cur.toArray, by rw [h6], Nat.zero_le _, h1, by omega, h4, by simpa using h2, by rw [h6]; simpa using h8⟩⟩, fr_at _ _ _ _ h5, h9.mono fun q b hq => mov_oent _ _ _ _ _ _ hq (Nat.le_refl _) fun k hk _ => ⟨rfl, hk.1, fun e => hk.2 (by simp [Value.ownBlock] at e; exact e.symm)⟩⟩

theorem flat_set {v a b : Value} : ∀ {rows : List (List Value)} {p : Nat}, (∀ r ∈ rows, r.length = 2) → rows[p]? = some [a, b] → rows.flatten.set (p * 2 + 1) v = (rows.set p [a, v]).flatten
  | [], p, _, h => by simp at h
  | x :: rows, 0, h0, h => by
    simp at h
    subst h
    simp
  | x :: rows, p + 1, h0, h => by
    have hx := h0 x (by simp)
    have ih := flat_set (v := v) (a := a) (b := b) (rows := rows) (p := p) (fun r hr => h0 r (by simp [hr])) (by simpa using h)
    rw [List.flatten_cons, List.set_cons_succ, List.flatten_cons, ← ih, List.set_append, if_neg (by omega), hx, show (p + 1) * 2 + 1 - 2 = p * 2 + 1 by omega]
theorem All2.set {α β : Type} {R : α → β → Prop} : ∀ {xs : List α} {zs : List β} {p : Nat} {x : α} {z : β}, All2 R xs zs → R x z → All2 R (xs.set p x) (zs.set p z)
  | [], [], _, _, _, _, _ => trivial
  | _ :: _, _ :: _, 0, _, _, h, hr => ⟨hr, h.2⟩
  | _ :: _, _ :: _, p + 1, _, _, h, hr => ⟨h.1, All2.set h.2 hr⟩
  | [], _ :: _, _, _, _, h, _ => h.elim
  | _ :: _, [], _, _, _, h, _ => h.elim

/-- An entry's value is put anew. -/
theorem LB.set2 {B : Nat} {w w1 w2 : World} {ys : List PEnt} {g cap p : Nat} {cur : List Value} {rows : List (List Value)} {a b vn : Value} {x : PEnt} {l : List Int} (h1 : Row w g 51 cur) (h2 : cur.length = cap * 2) (h3 : ys.length ≤ cap) (h4 : cap ≤ maxLen) (h5 : B ≤ g) (h6 : rows.length = ys.length) (h7 : ∀ r ∈ rows, r.length = 2) (h8 : cur.take (ys.length * 2) = rows.flatten)
    (h9 : All2 (OEnt (fun b => B ≤ b ∧ b ≠ g) w) rows ys) (hp : ys[p]? = some x) (hr : rows[p]? = some [a, b]) (hb1 : Below w.heap.size w w1) (hB : B ≤ w.heap.size) (hv : OT (From w.heap.size) w1 vn l) (hg2 : w1.grownBy w2 (some g)) (hr2 : Row w2 g 51 (cur.set (p * 2 + 1) vn)) :
    LB OEnt 51 2 B w2 (.slice (some ⟨g, 0, none⟩) ys.length cap) (ys.set p (x.1, l)) := by
  have hpl := (List.getElem?_eq_some_iff.1 hp).1
  have hgl := h1.lt
  have hmv : Mv (fun b => B ≤ b ∧ b ≠ g) (fun b => B ≤ b ∧ b ≠ g) w w2 := fun k hk hlt => ⟨(hg2.block k (Nat.lt_of_lt_of_le hlt hb1.size) (fun e => by injection e with e; exact hk.2 e)).trans (hb1.block k hlt), hk⟩
  have hsz := Nat.le_trans hb1.size hg2.size
  obtain ⟨a', b', e, o1, o2⟩ := h9.get hr hp
  injection e with e1 e
  subst e1
  refine LB.mkE hr2 (by rw [List.length_set]; exact h2) h3 h4 h5 (rows := rows.set p [a, vn]) (by rw [List.length_set]; exact h6) (fun r hr => ?_) ?_ (All2.set (h9.mono fun q z hq => mov_oent _ _ _ _ _ _ hq hsz hmv) ⟨a, vn, rfl, o1.mv hmv, hv.mv fun k hk hlt => ⟨hg2.block k hlt (fun e => ?_), Nat.le_trans hB hk, fun e => ?_⟩⟩)
  · rcases List.mem_or_eq_of_mem_set hr with hr | rfl
    · exact h7 r hr
    · rfl
  · rw [← flat_set h7 hr, ← h8, List.take_set]
  · injection e with e; unfold From at hk; omega
  · unfold From at hk; omega

theorem OT.ne {G : Nat → Prop} {w : World} {v : Value} {l : List Int} {b : Nat} {t : TypeId} {xs : List Value} (h : OT G w v l) (hr : Row w b t xs) (ht : t ≠ 5) : OT (fun k => G k ∧ k ≠ b) w v l := by
  refine ⟨h.1, h.2.1, fun k hk => ⟨h.2.2 k hk, fun e => ?_⟩⟩
  subst e
  rcases h.1.2 with ⟨rfl, _⟩ | ⟨g, cap, cur, rfl, _, hg, _⟩
  · simp [Value.ownBlock] at hk
  · simp [Value.ownBlock] at hk
    subst hk
    unfold Row at hr
    rw [hr] at hg
    simp at hg
    exact ht hg.2
/-- A store elsewhere, in a block of another kind. -/
theorem LB.grownR {B : Nat} {w w' : World} {v : Value} {ys : List PEnt} {b : Nat} {t : TypeId} {xs : List Value} (h : LB OEnt 51 2 B w v ys) (hr : Row w b t xs) (h1 : t ≠ 5) (h2 : t ≠ 51) (hg : w.grownBy w' (some b)) : LB OEnt 51 2 B w' v ys := by
  obtain ⟨rows, r0, hown, hfr, hall⟩ := h
  have hne : v.ownBlock ≠ some b := fun e => by
    rcases hown.2 with ⟨rfl, _⟩ | ⟨g, cap, cur, rfl, _, hgg, _⟩
    · simp [Value.ownBlock] at e
    · simp [Value.ownBlock] at e
      subst e
      unfold Row at hr
      rw [hr] at hgg
      simp at hgg
      exact h2 hgg.2
  refine ⟨rows, r0, World.ownsRow.kept hown hg ?_, hfr, hall.mono fun q x hq => ?_⟩
  · cases hv : v.ownBlock with
    | none => exact .inl rfl
    | some k => exact .inr fun e => hne (hv.trans e)
  · obtain ⟨p, q, rfl, o1, o2⟩ := hq
    have mv : Mv (fun k => (B ≤ k ∧ v.ownBlock ≠ some k) ∧ k ≠ b) (fun k => B ≤ k ∧ v.ownBlock ≠ some k) w w' := fun k hk hlt => ⟨hg.block k hlt (fun e => hk.2 (by injection e)), hk.1⟩
    exact ⟨p, q, rfl, (o1.ne hr h1).mv mv, (o2.ne hr h1).mv mv⟩

/-- What comes of an operation whose name is there: at p, with the name n and the value u. -/
def thereL (ys : List PEnt) (p : Nat) (n u : List Int) (o : POp) : List PEnt × Int × List Int :=
  if o.1 = 1 then (ys, 0, u) else if o.1 = 2 then (ys.set p (n, o.2.2.1), 0, []) else if o.1 = 3 then (if u = o.2.2.1 then (ys.set p (n, o.2.2.2.1), 0, []) else (ys, 2, u)) else (ys.take p ++ ys.drop (p + 1), 0, [])

/-- The end of a call that gives entries and a result. -/
def Rp (B : Nat) (w : World) (x : List PEnt × Int × List Int) (e : Ending) (w' : World) : Prop :=
  ∃ v' vv, e = .returned (.tuple #[v', .agg #[.int .i64 x.2.1, vv]]) ∧ LB OEnt 51 2 B w' v' x.1 ∧ OT (From B) w' vv x.2.2 ∧ Below B w w'

theorem one_res {c : Int} {v : Value} (h : v.oneCell' = true) : ∀ x ∈ [Value.int .i64 c, v], x.oneCell' = true := by
  intro x hx
  simp only [List.mem_cons, List.not_mem_nil, or_false] at hx
  rcases hx with rfl | rfl <;> first | rfl | assumption

end Go.Proofs.YtejkkhlblnepeaaDoor
