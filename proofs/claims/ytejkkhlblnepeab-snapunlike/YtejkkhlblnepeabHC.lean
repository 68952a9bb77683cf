/- The walks over package lease: add; what a store does to a list of leases that was built. -/
import Derived.Test.YtejkkhlblnepeabHA
import Derived.Test.YtejkkhlblnepeabKo
import Derived.Test.YtejkkhlblnepeabKr
import Derived.BigQuiet
section
set_option linter.unusedVariables false
set_option linter.unusedSimpArgs false
namespace Go.Proofs.Ytejkkhlblnepeab
open Go.RowKit Oct Kvl


/-- The first that is over, or none. -/
def ixP (now : Int) (ys : List PEnt) (k : Int) : Prop := (k = -1 ∧ ∀ y ∈ ys, now < lu y.2) ∨ ∃ i : Nat, k = i ∧ i < ys.length ∧ (∀ (j : Nat) (y : PEnt), j < i → ys[j]? = some y → now < lu y.2) ∧ ∀ y, ys[i]? = some y → ¬ now < lu y.2
end Go.Proofs.Ytejkkhlblnepeab
end

section
set_option linter.unusedVariables false
set_option linter.unusedSimpArgs false
namespace Go.Proofs.Ytejkkhlblnepeab
open Go.RowKit Oct Kvl

theorem spl_take (C r : List Value) (p : Nat) (h : p + r.length ≤ C.length) : (splice C p r).take (p + r.length) = C.take p ++ r := by
  have h2 : (C.take p).length = p := by rw [List.length_take]; omega
  unfold splice
  rw [← List.append_assoc, List.take_append_of_le_length (by simp only [List.length_append, h2]; omega), List.take_of_length_le (by simp only [List.length_append, h2]; omega)]
theorem spl_front (C r : List Value) (p m : Nat) (h : p ≤ C.length) (hm : m ≤ p) : (splice C p r).take m = C.take m := by
  have h2 : (C.take p).length = p := by rw [List.length_take]; omega
  unfold splice
  rw [List.take_append_of_le_length (by omega), List.take_take, Nat.min_eq_left hm]
theorem spl_far (C r : List Value) (p t : Nat) (h : p + r.length ≤ C.length) (ht : p + r.length ≤ t) : (splice C p r)[t]? = C[t]? := by
  have h2 : (C.take p).length = p := by rw [List.length_take]; omega
  unfold splice
  rw [List.getElem?_append_right (by omega), List.getElem?_append_right (by omega), List.getElem?_drop, h2]
  congr 1
  omega
theorem zeroN_one {zs : List Value} (h1 : ∀ v ∈ zs, v.oneCell' = true) (h0 : 0 < zs.length) (n : Nat) : ∀ v ∈ (Builtin.zeroCells zs.toArray n).toList, v.oneCell' = true := by
  intro v hv
  have hv' : v ∈ Builtin.zeroCells zs.toArray n := by simpa using hv
  unfold Builtin.zeroCells at hv'
  obtain ⟨i, _, rfl⟩ := Array.mem_map.1 hv'
  have hlt : i % zs.toArray.size < zs.length := by simpa using Nat.mod_lt i h0
  refine h1 _ ?_
  have e : zs.toArray[i % zs.toArray.size]! = zs[i % zs.toArray.size] := by
    rw [getElem!_pos zs.toArray _ (by simpa using hlt)]
    simp
  rw [e]
  exact List.getElem_mem _
section
variable {P : Program}
/-- 'clear(s)' of records in a row. -/
theorem wl_clearN {ops : Array Oper} {rest : List Oper} {o : Oper} {a : Act} {w : World} {Q : Exit → Act → World → Prop} (hgd : o.guard = none) (s : Operand) (T : TypeId)
    (ho : o.op = .call { callee := .builtin .clear, args := #[s], argTypes := #[T] }) (elem : TypeId) (i : TypeInfo) (z : Value) (zs : List Value) (hu : P.underlying T = some (.slice elem)) (hi : P.info? elem = some i) (hz : i.zero = some z) (hzc : z.cells = zs.toArray) (h0 : 0 < zs.length)
    (n cap g off : Nat) (hn : 0 < n) (hs : a.eval s = .slice (some ⟨g, off, none⟩) n cap) (cur : List Value) (t : TypeId) (hg : Row w g t cur) (hfit : off + n * zs.length ≤ cur.length) (h1 : ∀ v ∈ zs, v.oneCell' = true)
    (k : ∀ w' zz, Hid (zz.length = n * zs.length) → Hid (Row w' g t (splice cur off zz)) → w.grownBy w' (some g) → wpList P ops Q rest (a.put o.dst (.tuple #[])) w') : wpList P ops Q (o :: rest) a w :=
  wpList_plain hgd fun _ hK => by
    obtain ⟨m, rfl⟩ : ∃ m, n = m + 1 := ⟨n - 1, by omega⟩
    have hsz : (Builtin.zeroCells zs.toArray (m + 1)).toList.length = (m + 1) * zs.length := by rw [Array.length_toList, size_zeroCells]; simp
    have hst := run_storeCells_at P g off t (Builtin.zeroCells zs.toArray (m + 1)).toList 0 cur.toArray w hg (by rw [hsz]; simpa using hfit) (zeroN_one h1 h0 _)
    unfold Oper.wp
    have hr : (Builtin.clear_ #[T] o.type #[.slice (some ⟨g, off, none⟩) (m + 1) cap]).run P w = .ok (.tuple #[]) (w.setRow g (splice cur off (Builtin.zeroCells zs.toArray (m + 1)).toList).toArray) := by
      simp [Builtin.clear_, run_underlying hu, zeroValue, typeInfo, hi, hz, hzc, hst, splice]
    simp [execOp, ho, resolve, invoke, builtin, hs, hr, Result.andThen]
    exact hK _ _ (k _ _ hsz (hg.setRow _) (grown_setRow _ _ _))
end
/-- Of a lease's cells: it isn't over. -/
def lvr (now : Int) (r : List Value) : Bool := match r with | [_, _, Value.int _ q] => decide (now < q) | _ => false
theorem lvr_lea {G : Nat → Prop} {w : World} {r : List Value} {x : PEnt} {now : Int} (h : OLea G w r x) : lvr now r = decide (now < lu x.2) := by
  obtain ⟨a, p, q, rfl, _, hx⟩ := h
  rw [hx]
  rfl
theorem All2.filt {α β : Type} {R : α → β → Prop} {p : α → Bool} {q : β → Bool} : ∀ {xs : List α} {zs : List β}, All2 R xs zs → (∀ x z, R x z → p x = q z) → All2 R (xs.filter p) (zs.filter q)
  | [], [], _, _ => trivial
  | x :: xs, z :: zs, h, hp => by
    have ih := All2.filt (xs := xs) (zs := zs) h.2 hp
    rw [List.filter_cons, List.filter_cons, hp x z h.1]
    split
    · exact ⟨h.1, ih⟩
    · exact ih
  | [], _ :: _, h, _ => h.elim
  | _ :: _, [], h, _ => h.elim
/-- A row of which what is kept of the first j has gone to the front. -/
structure Kep (g n cap i j : Nat) (now : Int) (w0 w : World) (cur : List Value) (rows : List (List Value)) : Prop where
  grw : w0.grownBy w (some g)
  ex : ∃ cur', Row w g 45 cur' ∧ cur'.length = cap * 3 ∧ cur'.take (i * 3) = ((rows.take j).filter (lvr now)).flatten ∧ ∀ t, j * 3 ≤ t → cur'[t]? = cur[t]?
  len : ((rows.take j).filter (lvr now)).length = i
theorem Kep.row {g n cap i j : Nat} {now : Int} {w0 w : World} {cur : List Value} {rows : List (List Value)} (h : Kep g n cap i j now w0 w cur rows) (h0 : ∀ r ∈ rows, r.length = 3) (hn : rows.length = n) (ht : cur.take (n * 3) = rows.flatten) (hj : j < n) {r : List Value} (hr : rows[j]? = some r) : w.rangeAt g (j * 3) r := by
  obtain ⟨cur', h1, h2, h3, h4⟩ := h.ex
  intro t v hv
  refine h1.cell ?_
  rw [h4 _ (by omega)]
  have := flat_at h0 hr hv
  have hl := h0 r (List.mem_of_getElem? hr)
  have htl : t < 3 := by rw [← hl]; exact (List.getElem?_eq_some_iff.1 hv).1
  rw [← ht, List.getElem?_take, if_pos (by omega)] at this
  exact this
theorem Kep.skip {g n cap i j : Nat} {now : Int} {w0 w w1 : World} {cur : List Value} {rows : List (List Value)} (h : Kep g n cap i j now w0 w cur rows) {r : List Value} (hr : rows[j]? = some r) (hp : lvr now r = false) (hb : Below w.heap.size w w1) : Kep g n cap i (j + 1) now w0 w1 cur rows := by
  have e : (rows.take (j + 1)).filter (lvr now) = (rows.take j).filter (lvr now) := by
    rw [List.take_add_one, hr, Option.toList_some, List.filter_append, List.filter_cons, hp]
    simp
  refine ⟨grown_trans h.grw (grown_of_below hb _) (.inl rfl), ?_, by rw [e]; exact h.len⟩
  obtain ⟨cur', h1, h2, h3, h4⟩ := h.ex
  exact ⟨cur', h1.below hb, h2, by rw [e]; exact h3, fun t ht => h4 t (by omega)⟩
theorem Kep.take {g n cap i j : Nat} {now : Int} {w0 w w1 w2 : World} {cur : List Value} {rows : List (List Value)} (h : Kep g n cap i j now w0 w cur rows) {r : List Value} (hr : rows[j]? = some r) (hl : r.length = 3) (hp : lvr now r = true) (hij : i < j) (hjc : j < cap) (hb : Below w.heap.size w w1) {cur0 : List Value} (hc0 : Row w1 g 45 cur0) (hg2 : w1.grownBy w2 (some g)) (hr2 : Row w2 g 45 (splice cur0 (i * 3) r)) : Kep g n cap (i + 1) (j + 1) now w0 w2 cur rows := by
  have e : (rows.take (j + 1)).filter (lvr now) = (rows.take j).filter (lvr now) ++ [r] := by
    rw [List.take_add_one, hr, Option.toList_some, List.filter_append, List.filter_cons, hp]
    simp
  obtain ⟨cur', h1, h2, h3, h4⟩ := h.ex
  obtain rfl : cur' = cur0 := (h1.below hb).uniq hc0
  refine ⟨grown_trans (grown_trans h.grw (grown_of_below hb _) (.inl rfl)) hg2 (.inl rfl), ⟨_, hr2, ?_, ?_, fun t ht => ?_⟩, by rw [e, List.length_append, h.len]; rfl⟩
  · rw [length_splice _ _ _ (by omega), h2]
  · have := spl_take cur' r (i * 3) (by omega)
    rw [hl] at this
    rw [show (i + 1) * 3 = i * 3 + 3 by omega, this, h3, e, List.flatten_append]
    simp
  · rw [spl_far _ _ _ _ (by omega) (by omega)]
    exact h4 t (by omega)
theorem Kep.first {g n cap i : Nat} {now : Int} {w0 w : World} {cur : List Value} {rows : List (List Value)} (hb : Below w0.heap.size w0 w) (hrow : Row w0 g 45 cur) (hcl : cur.length = cap * 3) (h0 : ∀ r ∈ rows, r.length = 3) (hn : rows.length = n) (hnc : n ≤ cap) (ht : cur.take (n * 3) = rows.flatten) (hi : i < n) (h1 : ∀ (j : Nat) (r : List Value), j < i → rows[j]? = some r → lvr now r = true) (h2 : ∀ r, rows[i]? = some r → lvr now r = false) : Kep g n cap i (i + 1) now w0 w cur rows := by
  have e1 : (rows.take i).filter (lvr now) = rows.take i := by
    rw [List.filter_eq_self]
    intro r hr
    obtain ⟨j, hj, rfl⟩ := List.getElem_of_mem hr
    rw [List.length_take] at hj
    exact h1 j _ (by omega) (by rw [List.getElem_take, List.getElem?_eq_getElem])
  obtain ⟨r, hr⟩ : ∃ r, rows[i]? = some r := ⟨_, List.getElem?_eq_getElem (by omega)⟩
  have e : (rows.take (i + 1)).filter (lvr now) = rows.take i := by
    rw [List.take_add_one, hr, Option.toList_some, List.filter_append, List.filter_cons, h2 r hr, e1]
    simp
  refine ⟨grown_of_below hb _, ⟨cur, hrow.below hb, hcl, ?_, fun t _ => rfl⟩, by rw [e, List.length_take]; omega⟩
  rw [e, ← flat_take h0 i (by omega), ← ht, List.take_take, Nat.min_eq_left (by omega)]

end Go.Proofs.Ytejkkhlblnepeab
end

section
set_option linter.unusedVariables false
set_option linter.unusedSimpArgs false
namespace Go.Proofs.Ytejkkhlblnepeab
open Go.RowKit Oct Kvl

theorem LB.opnS {B : Nat} {w : World} {v : Value} {ys : List PEnt} (h : LB OLea 45 3 B w v ys) (hp : 0 < ys.length) : ∃ (g cap : Nat) (cur : List Value) (rows : List (List Value)), v = .slice (some ⟨g, 0, none⟩) ys.length cap ∧ Row w g 45 cur ∧ cur.length = cap * 3 ∧ ys.length ≤ cap ∧ cap ≤ maxLen ∧ B ≤ g ∧ rows.length = ys.length ∧ (∀ r ∈ rows, r.length = 3) ∧ cur.take (ys.length * 3) = rows.flatten ∧ All2 (OLea (fun b => B ≤ b ∧ b ≠ g) w) rows ys := by
  obtain ⟨rows, h0, hown, hfr, hall⟩ := h
  have hlen := hall.len
  rw [hlen] at hown
  rcases hown.2 with ⟨_, h4⟩ | ⟨g, cap, cur, rfl, _, hg, hc1, hc2, hc3, hc4⟩
  · omega
  · exact ⟨g, cap, cur.toList, rows, rfl, by unfold Row; simpa using hg, by simpa using hc3, hc1, hc2, hfr g rfl, hlen, h0, hc4, hall.mono fun q b hq => mov_olea _ _ _ _ _ _ hq (Nat.le_refl _) fun k hk _ => ⟨rfl, hk.1, fun e => hk.2 (by simp [Value.ownBlock, e])⟩⟩
theorem LB.mkS {B : Nat} {w : World} {ys : List PEnt} {g cap n : Nat} {cur : List Value} {rows : List (List Value)} (h1 : Row w g 45 cur) (h2 : cur.length = cap * 3) (h3 : n ≤ cap) (h4 : cap ≤ maxLen) (h5 : B ≤ g) (h6 : rows.length = n) (h7 : ∀ r ∈ rows, r.length = 3) (h8 : cur.take (n * 3) = rows.flatten)
    (h9 : All2 (OLea (fun b => B ≤ b ∧ b ≠ g) w) rows ys) : LB OLea 45 3 B w (.slice (some ⟨g, 0, none⟩) n cap) ys :=
  ⟨rows, h7, ⟨flat_len h7, .inr ⟨g, cap, cur.toArray, by rw [h6], Nat.zero_le _, h1, by omega, h4, by simpa using h2, by rw [h6]; simpa using h8⟩⟩, fr_at _ _ _ _ h5, h9.mono fun q b hq => mov_olea _ _ _ _ _ _ hq (Nat.le_refl _) fun k hk _ => ⟨rfl, hk.1, fun e => hk.2 (by simp [Value.ownBlock] at e; exact e.symm)⟩⟩
/-- What was built can be read. -/
theorem Rs.rl {B : Nat} {w : World} {v : Value} {ys : List PEnt} (h : LB OLea 45 3 B w v ys) : RL RLea 3 Any w v ys := (h.rl mov_olea).lea.mv mov_lea (Nat.le_refl _) Mv.any


end Go.Proofs.Ytejkkhlblnepeab
end

section
set_option linter.unusedVariables false
set_option linter.unusedSimpArgs false
namespace Go.Proofs.Ytejkkhlblnepeab
open Go.RowKit Oct Kvl

/-- The first that holds it. -/
theorem hol_at {l : List PEnt} {n : List Int} {now : Int} {q : Nat} {x : PEnt} (h : ∀ (j : Nat) (y : PEnt), j < q → l[j]? = some y → ¬ (now < lu y.2 ∧ y.1 = n)) (hx : l[q]? = some x) (h1 : now < lu x.2) (h2 : x.1 = n) : holS l n now = (lo x.2, IntKind.i64.wrap (lu x.2 - now)) := by
  have : (l.find? fun x => decide (now < lu x.2) && decide (x.1 = n)) = some x := by
    rw [List.find?_eq_some_iff_getElem]
    refine ⟨by simp [h1, h2], q, (List.getElem?_eq_some_iff.1 hx).1, (List.getElem?_eq_some_iff.1 hx).2, fun j hj => ?_⟩
    have := h j _ hj (List.getElem?_eq_getElem (by have := (List.getElem?_eq_some_iff.1 hx).1; omega))
    simp only [Bool.not_eq_true', Bool.and_eq_false_iff, decide_eq_false_iff_not]
    rcases Decidable.em (now < lu (l[j]'(by have := (List.getElem?_eq_some_iff.1 hx).1; omega)).2) with h3 | h3
    · exact .inr fun e => this ⟨h3, e⟩
    · exact .inl h3
  unfold holS
  rw [this]
theorem hol_no {l : List PEnt} {n : List Int} {now : Int} (h : ∀ (j : Nat) (y : PEnt), j < l.length → l[j]? = some y → ¬ (now < lu y.2 ∧ y.1 = n)) : holS l n now = (0, 0) := by
  have : (l.find? fun x => decide (now < lu x.2) && decide (x.1 = n)) = none := by
    rw [List.find?_eq_none]
    intro y hy
    obtain ⟨j, hj, rfl⟩ := List.getElem_of_mem hy
    have := h j _ hj (List.getElem?_eq_getElem hj)
    simpa using this
  unfold holS
  rw [this]
theorem ret_two {a b c d : Int} (h : (a, b) = (c, d)) : Ending.returned (.tuple #[.int .i64 c, .int .i64 d]) = .returned (.tuple #[.int .i64 a, .int .i64 b]) := by cases h; rfl

end Go.Proofs.Ytejkkhlblnepeab
end

section
set_option linter.unusedVariables false
set_option linter.unusedSimpArgs false
namespace Go.Proofs.Ytejkkhlblnepeab
open Go.RowKit Oct Kvl

def addS (ys : List PEnt) (p : Nat) (x : PEnt) : List PEnt × Int × List Int := if 16 ≤ ys.length then (ys, 3, []) else (insL p x ys, 0, [])
theorem doT_new {l : List PEnt} {o : POp} {who now : Int} (h : getR o.2.1 l = none) (hk : o.1 = 5) : addS l (pos o.2.1 l) (o.2.1, [who, now + o.2.2.2.2]) = doT l o who now := by
  unfold addS doT insL
  rw [h]
  simp only
  rw [if_pos hk, put_new h]
theorem doT_miss {l : List PEnt} {o : POp} {who now : Int} (h : getR o.2.1 l = none) (hk : o.1 ≠ 5) : (l, 1, []) = doT l o who now := by
  unfold doT
  rw [h]
  simp only
  rw [if_neg hk]
theorem doT_hold {l : List PEnt} {o : POp} {who now : Int} {v : List Int} (h : getR o.2.1 l = some v) (hk : o.1 = 8) : (l, 0, tol v now) = doT l o who now := by
  unfold doT
  rw [h]
  simp only
  rw [if_pos hk]
theorem doT_held {l : List PEnt} {o : POp} {who now : Int} {v : List Int} (h : getR o.2.1 l = some v) (hk : o.1 ≠ 8) (hw : lo v ≠ who) : (l, 4, tol v now) = doT l o who now := by
  unfold doT
  rw [h]
  simp only
  rw [if_neg hk, if_pos hw]
theorem doT_del {l : List PEnt} {o : POp} {who now : Int} {v : List Int} (h : getR o.2.1 l = some v) (hk : o.1 ≠ 8) (hw : lo v = who) (h7 : o.1 = 7) : (l.take (pos o.2.1 l) ++ l.drop (pos o.2.1 l + 1), 0, []) = doT l o who now := by
  unfold doT
  rw [h]
  simp only
  rw [if_neg hk, if_neg (fun e => e hw), if_pos h7, del_old h]
theorem doT_set {l : List PEnt} {o : POp} {who now : Int} {v : List Int} (h : getR o.2.1 l = some v) (hk : o.1 ≠ 8) (hw : lo v = who) (h7 : o.1 ≠ 7) : (l.set (pos o.2.1 l) (o.2.1, [who, now + o.2.2.2.2]), 0, []) = doT l o who now := by
  unfold doT
  rw [h]
  simp only
  rw [if_neg hk, if_neg (fun e => e hw), if_neg h7, put_old h]

/-- A store elsewhere, in a block of another kind. -/
theorem LB.grownL {B : Nat} {w w' : World} {v : Value} {ys : List PEnt} {b : Nat} {t : TypeId} {xs : List Value} (h : LB OLea 45 3 B w v ys) (hr : Row w b t xs) (h1 : t ≠ 5) (h2 : t ≠ 45) (hg : w.grownBy w' (some b)) : LB OLea 45 3 B w' v ys := by
  obtain ⟨rows, r0, hown, hfr, hall⟩ := h
  have hne : v.ownBlock ≠ some b := fun e => by
    rcases hown.2 with ⟨rfl, _⟩ | ⟨g, cap, cur, rfl, _, hgg, _⟩
    · simp [Value.ownBlock] at e
    · simp [Value.ownBlock] at e
      subst e
      unfold Row at hr
      rw [hr] at hgg
      simp at hgg
      exact h2 hgg.2
  refine ⟨rows, r0, World.ownsRow.kept hown hg ?_, hfr, hall.mono fun q x hq => ?_⟩
  · cases hv : v.ownBlock with
    | none => exact .inl rfl
    | some k => exact .inr fun e => hne (hv.trans e)
  · obtain ⟨p, q, q', rfl, o1, o2⟩ := hq
    have mv : Mv (fun k => (B ≤ k ∧ v.ownBlock ≠ some k) ∧ k ≠ b) (fun k => B ≤ k ∧ v.ownBlock ≠ some k) w w' := fun k hk hlt => ⟨hg.block k hlt (fun e => hk.2 (by injection e)), hk.1⟩
    exact ⟨p, q, q', rfl, (o1.ne hr h1).mv mv, o2⟩
/-- The end of a call that gives leases and a result. -/
def Rs (B : Nat) (w : World) (x : List PEnt × Int × List Int) (e : Ending) (w' : World) : Prop :=
  ∃ v' vv, e = .returned (.tuple #[v', .agg #[.int .i64 x.2.1, vv]]) ∧ LB OLea 45 3 B w' v' x.1 ∧ OT (From B) w' vv x.2.2 ∧ Below B w w'

theorem flat_set3 {v a b c : Value} : ∀ {rows : List (List Value)} {p : Nat}, (∀ r ∈ rows, r.length = 3) → rows[p]? = some [a, b, c] → rows.flatten.set (p * 3 + 2) v = (rows.set p [a, b, v]).flatten
  | [], p, _, h => by simp at h
  | x :: rows, 0, h0, h => by
    simp at h
    subst h
    simp
  | x :: rows, p + 1, h0, h => by
    have hx := h0 x (by simp)
    have ih := flat_set3 (v := v) (a := a) (b := b) (c := c) (rows := rows) (p := p) (fun r hr => h0 r (by simp [hr])) (by simpa using h)
    rw [List.flatten_cons, List.set_cons_succ, List.flatten_cons, ← ih, List.set_append, if_neg (by omega), hx, show (p + 1) * 3 + 2 - 3 = p * 3 + 2 by omega]
/-- A lease's last slot is put anew. -/
theorem LB.set3 {B : Nat} {w w2 : World} {ys : List PEnt} {g cap p : Nat} {cur : List Value} {rows : List (List Value)} {a : Value} {p1 q1 q2 : Int} {x : PEnt} (h1 : Row w g 45 cur) (h2 : cur.length = cap * 3) (h3 : ys.length ≤ cap) (h4 : cap ≤ maxLen) (h5 : B ≤ g) (h6 : rows.length = ys.length) (h7 : ∀ r ∈ rows, r.length = 3) (h8 : cur.take (ys.length * 3) = rows.flatten)
    (h9 : All2 (OLea (fun b => B ≤ b ∧ b ≠ g) w) rows ys) (hp : ys[p]? = some x) (hr : rows[p]? = some [a, .int .i64 p1, .int .i64 q1]) (hg2 : w.grownBy w2 (some g)) (hr2 : Row w2 g 45 (cur.set (p * 3 + 2) (.int .i64 q2))) :
    LB OLea 45 3 B w2 (.slice (some ⟨g, 0, none⟩) ys.length cap) (ys.set p (x.1, [p1, q2])) := by
  have hmv : Mv (fun b => B ≤ b ∧ b ≠ g) (fun b => B ≤ b ∧ b ≠ g) w w2 := fun k hk hlt => ⟨hg2.block k hlt (fun e => by injection e with e; exact hk.2 e), hk⟩
  obtain ⟨a', b', c', e, o1, o2⟩ := h9.get hr hp
  injection e with e1 e
  subst e1
  refine LB.mkS hr2 (by rw [List.length_set]; exact h2) h3 h4 h5 (rows := rows.set p [a, .int .i64 p1, .int .i64 q2]) (by rw [List.length_set]; exact h6) (fun r hr => ?_) ?_ (All2.set (h9.mono fun q z hq => mov_olea _ _ _ _ _ _ hq hg2.size hmv) ⟨a, p1, q2, rfl, o1.mv hmv, rfl⟩)
  · rcases List.mem_or_eq_of_mem_set hr with hr | rfl
    · exact h7 r hr
    · rfl
  · rw [← flat_set3 h7 hr, ← h8, List.take_set]

end Go.Proofs.Ytejkkhlblnepeab
end
