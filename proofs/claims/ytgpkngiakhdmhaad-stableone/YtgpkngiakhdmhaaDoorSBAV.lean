/- Lists of records that are being built, inside regions that draw their order; how great plain records may be; copies of texts and requests. -/
import Derived.Test.YtgpkngiakhdmhaaDoorSBAT
import Derived.Deep.AppendLies
import Derived.Deep.Cut
set_option linter.unusedVariables false
namespace Go.Proofs.YtgpkngiakhdmhaaDoor
section
open Go.RowKit Oct
theorem flat_len {k : Nat} : ∀ {rows : List (List Value)}, (∀ r ∈ rows, r.length = k) → rows.flatten.length = rows.length * k
  | [], _ => by simp
  | r :: rows, h => by
    rw [List.flatten_cons, List.length_append, h r (by simp), flat_len (fun x hx => h x (by simp [hx])), List.length_cons, Nat.add_mul]
    omega
theorem flat_at {k : Nat} : ∀ {rows : List (List Value)} {i : Nat} {r : List Value} {j : Nat} {v : Value}, (∀ r ∈ rows, r.length = k) → rows[i]? = some r → r[j]? = some v → rows.flatten[i * k + j]? = some v
  | [], i, r, j, v, _, h, _ => by simp at h
  | x :: rows, 0, r, j, v, hk, h, hv => by
    simp at h
    subst h
    rw [List.flatten_cons, Nat.zero_mul, Nat.zero_add, List.getElem?_append_left (List.getElem?_eq_some_iff.1 hv).1]
    exact hv
  | x :: rows, i + 1, r, j, v, hk, h, hv => by
    have ih := flat_at (k := k) (rows := rows) (fun y hy => hk y (by simp [hy])) (by simpa using h) hv
    have hx := hk x (by simp)
    rw [List.flatten_cons, List.getElem?_append_right (by rw [hx, Nat.add_mul]; omega), hx]
    rw [show (i + 1) * k + j - k = i * k + j by rw [Nat.add_mul]; omega]
    exact ih
/-- A list of records that the call itself builds, in memory from block B on; no record lies in the list's own row. -/
def LB {α : Type} (R : (Nat → Prop) → World → List Value → α → Prop) (t : TypeId) (k B : Nat) (w : World) (v : Value) (ys : List α) : Prop :=
  ∃ rows, (∀ r ∈ rows, r.length = k) ∧ w.ownsRow 0 t k v rows.length rows.flatten ∧ Fr B v ∧ All2 (R (fun b => B ≤ b ∧ v.ownBlock ≠ some b) w) rows ys
theorem LB.nil {α : Type} (R : (Nat → Prop) → World → List Value → α → Prop) (t : TypeId) (k B : Nat) (w : World) : LB R t k B w (.slice none 0 0) [] :=
  ⟨[], (fun r h => by cases h), World.ownsRow_nil w 0 t k, Fr.nil _, trivial⟩
theorem LB.len {α : Type} {R : (Nat → Prop) → World → List Value → α → Prop} {t : TypeId} {k B : Nat} {w : World} {v : Value} {ys : List α} (h : LB R t k B w v ys) : ∃ rows, w.ownsRow 0 t k v ys.length rows := by
  obtain ⟨rows, _, h1, _, h2⟩ := h
  rw [h2.len] at h1
  exact ⟨_, h1⟩
theorem LB.fr {α : Type} {R : (Nat → Prop) → World → List Value → α → Prop} {t : TypeId} {k B : Nat} {w : World} {v : Value} {ys : List α} (h : LB R t k B w v ys) : Fr B v := by
  obtain ⟨rows, _, _, h1, _⟩ := h
  exact h1
theorem LB.lt {α : Type} {R : (Nat → Prop) → World → List Value → α → Prop} {t : TypeId} {k B : Nat} {w : World} {v : Value} {ys : List α} (h : LB R t k B w v ys) : ∀ g, v.ownBlock = some g → g < w.heap.size := by
  obtain ⟨rows, _, h1, _, _⟩ := h
  exact fun g hg => (World.ownsRow.lt h1 g hg).2
theorem LB.form {α : Type} {R : (Nat → Prop) → World → List Value → α → Prop} {t : TypeId} {k B : Nat} {w : World} {v : Value} {ys : List α} (h : LB R t k B w v ys) : v.oneCell' = true := by
  obtain ⟨rows, _, h1, _, _⟩ := h
  rcases h1.2 with ⟨rfl, _⟩ | ⟨g, cap, cur, rfl, _⟩ <;> rfl
theorem LB.grown {α : Type} {R : (Nat → Prop) → World → List Value → α → Prop} (hR : Mov R) {t : TypeId} {k B : Nat} {w w' : World} {v : Value} {ys : List α} (h : LB R t k B w v ys) {b : Nat} (hg : w.grownBy w' (some b)) (hb : b < B) : LB R t k B w' v ys := by
  obtain ⟨rows, h0, h1, h2, h3⟩ := h
  refine ⟨rows, h0, World.ownsRow.kept h1 hg ?_, h2, h3.mono fun r a h => hR _ _ w w' r a h hg.size fun j hj hlt => ⟨hg.block j hlt (fun e => by injection e with e; omega), hj⟩⟩
  cases hv : v.ownBlock with
  | none => exact .inl rfl
  | some g => exact .inr fun e => by injection e with e; have := h2 g hv; omega
theorem LB.below {α : Type} {R : (Nat → Prop) → World → List Value → α → Prop} (hR : Mov R) {t : TypeId} {k B : Nat} {w w' : World} {v : Value} {ys : List α} (h : LB R t k B w v ys) (hb : Below w.heap.size w w') : LB R t k B w' v ys := by
  obtain ⟨rows, h0, h1, h2, h3⟩ := h
  refine ⟨rows, h0, World.ownsRow.kept (row := none) h1 ⟨hb.os, hb.tape, hb.output, hb.size, fun k hk _ => hb.block k hk⟩ (by cases hv : v.ownBlock <;> simp), h2, h3.mono fun r a h => hR _ _ w w' r a h hb.size fun j hj hlt => ⟨hb.block j hlt, hj⟩⟩
/-- A list that is built can be read. -/
theorem LB.rl {α : Type} {R : (Nat → Prop) → World → List Value → α → Prop} (hR : Mov R) {t : TypeId} {k B : Nat} {w : World} {v : Value} {ys : List α} (h : LB R t k B w v ys) : RL R k (From B) w v ys := by
  obtain ⟨rows, h0, h1, h2, h3⟩ := h
  refine ⟨rows, ⟨h0, ?_⟩, h3.mono fun r a h => hR _ _ w w r a h (Nat.le_refl _) fun j hj _ => ⟨rfl, hj.1⟩⟩
  rcases Nat.eq_zero_or_pos rows.length with hn | hn
  · have e : rows = [] := List.eq_nil_of_length_eq_zero hn
    subst e
    rcases h1.2 with ⟨rfl, _⟩ | ⟨g, cap, cur, rfl, _, hg, h4, h5, _⟩
    · exact .inl ⟨none, 0, rfl, rfl, Nat.zero_le _⟩
    · exact .inl ⟨_, cap, rfl, rfl, h5⟩
  · right
    rcases h1.2 with ⟨_, h4⟩ | ⟨g, cap, cur, hv, _, hg, h4, h5, _⟩
    · omega
    · refine ⟨g, 0, cap, hv, h4, h5, hn, h2 g (by rw [hv]; rfl), (Array.getElem?_eq_some_iff.1 hg).1, fun i r hr j u hu => ?_⟩
      subst hv
      have := World.ownsRow.cells h1 (g := g) rfl (i * k + j) u (flat_at h0 hr hu)
      rw [Addr.add_mid] at this
      rw [Nat.zero_add]
      simpa using this
section
variable {P : Program}
/-- One more record: 'x = append(x, r)'. -/
theorem wl_push {α : Type} {R : (Nat → Prop) → World → List Value → α → Prop} (hR : Mov R) {w : World} {ops : Array Oper} {rest : List Oper} {o : Oper} {a : Act} {Q : Exit → Act → World → Prop} (hgd : o.guard = none) (s x : Operand) (t : TypeId)
    (ho : o.op = .call { callee := .builtin .append, args := #[s, x], argTypes := #[t, t] }) (e : TypeId) (k bytes : Nat) (z : Value) (ht : P.underlying t = some (.slice e)) (hi : (P.info? e).map (fun i => (i.zero, i.size, i.bytes)) = some (some z, k, bytes))
    (hzs : z.cells.size = k) (hk : 0 < k) (B : Nat) (v : Value) (ys : List α) (hs : a.eval s = v) (hL : LB R e k B w v ys) (r : List Value) (y : α) (C : Nat) (hr : R (From C) w r y) (hrl : r.length = k) (h1 : ∀ u ∈ r, u.oneCell' = true)
    (hC : B ≤ C) (hCv : ∀ g, v.ownBlock = some g → g < C) (hx : a.eval x = .slice (some ⟨w.heap.size, 0, none⟩) 1 1) (hB : B ≤ w.heap.size)
    (hb : (ys.length + 1) * bytes ≤ 140737488355328) (hb0 : 1 ≤ bytes)
    (h : ∀ v' w', LB R e k B w' v' (ys ++ [y]) → w.grownBy w' v.ownBlock → wpList P ops Q rest (a.put o.dst v') w') : wpList P ops Q (o :: rest) a (w.alloc (.cells r.toArray e)) := by
  obtain ⟨i0, hi, hz0, hz1, hz2⟩ := info_parts hi
  obtain ⟨rows, h0, hown, hfr, hall⟩ := hL
  have hlen := hall.len
  have hbel := below_alloc w (.cells r.toArray e)
  have hown1 : (w.alloc (.cells r.toArray e)).ownsRow 0 e k v rows.length rows.flatten := World.ownsRow.kept (row := none) hown ⟨hbel.os, hbel.tape, hbel.output, hbel.size, fun k hk _ => hbel.block k hk⟩ (by cases hv : v.ownBlock <;> simp)
  have hmul : ys.length + 1 ≤ (ys.length + 1) * bytes := Nat.le_mul_of_pos_right _ hb0
  refine wpList_append_lies (w.alloc (.cells r.toArray e)) hgd s x t ho 0 e i0 z k bytes ht hi hz0 hz1 hz2 hzs hk v rows.length rows.flatten hs hown1 ⟨w.heap.size, 0, none⟩ 1 1 r hx (by omega)
    (fun j u hj => by
      rw [Addr.add_mid, Nat.zero_add]
      exact (Row.new w e r).cell hj) h1 (by omega) (by rw [hlen]; unfold maxLen; omega) (by rw [hlen]; exact hb) (Nat.zero_le _) (w.heap.size + 1) (by simp) ?_
  intro g cap w' hown' hgr hat hlt
  have hg0 : w.grownBy w' v.ownBlock := grown_trans (grown_of_below hbel _) hgr (.inl rfl)
  have hgB : B ≤ g := by
    rcases hat with hat | hat
    · exact hfr g hat
    · omega
  have hflat : rows.flatten ++ r = (rows ++ [r]).flatten := by simp
  refine h _ w' ⟨rows ++ [r], ?_, ?_, ?_, ?_⟩ hg0
  · intro q hq
    rcases List.mem_append.1 hq with hq | hq
    · exact h0 q hq
    · simp at hq; subst hq; exact hrl
  · rw [List.length_append, ← hflat]
    exact hown'
  · exact fun j hj => by simp [Value.ownBlock] at hj; omega
  · have hold : All2 (R (fun b => B ≤ b ∧ (Value.slice (some ⟨g, 0, none⟩) (rows.length + 1) cap).ownBlock ≠ some b) w') rows ys := hall.mono fun q b hq => hR _ _ w w' q b hq hg0.size fun j hj hjl => by
      refine ⟨hg0.block j hjl (fun e => hj.2 e.symm), hj.1, fun e => ?_⟩
      simp [Value.ownBlock] at e
      rcases hat with hat | hat
      · exact hj.2 (by rw [hat, e])
      · omega
    have hnew : R (fun b => B ≤ b ∧ (Value.slice (some ⟨g, 0, none⟩) (rows.length + 1) cap).ownBlock ≠ some b) w' r y := hR _ _ w w' r y hr hg0.size fun j hj hjl => by
      unfold From at hj
      refine ⟨hg0.block j hjl (fun e => by have := hCv j e.symm; omega), by omega, fun e => ?_⟩
      simp [Value.ownBlock] at e
      rcases hat with hat | hat
      · have := hCv g hat; omega
      · omega
    exact All2.app hold ⟨hnew, trivial⟩
/-- A struct is stored into a part of a row. -/
theorem run_put {w : World} {b : Nat} {t : TypeId} {xs : List Value} (h : Row w b t xs) (ty : TypeId) (cs : List Value) (hi : (P.info? ty).map (·.size) = some cs.length) (off : Nat) (hfit : off + cs.length ≤ xs.length) (h1 : ∀ v ∈ cs, v.oneCell' = true) :
    (storeVar ty ⟨b, off, none⟩ (.agg cs.toArray)).run P w = .ok () (w.setRow b (splice xs off cs).toArray) := by
  have := run_storeCells_at P b off t cs 0 xs.toArray w h (by simpa using hfit) h1
  cases hq : P.info? ty with
  | none => simp [hq] at hi
  | some i =>
    have hs : i.size = cs.length := by simpa [hq] using hi
    simp only [Nat.add_zero, List.append_assoc] at this
    simp [storeVar, sizeOf, typeInfo, hq, hs, this, splice, Value.cells]
theorem wl_put {ops : Array Oper} {rest : List Oper} {o : Oper} {a : Act} {w : World} {Q : Exit → Act → World → Prop} (hgd : o.guard = none) (ty : TypeId) (x y : Operand) (ho : o.op = .store ty x y)
    (b off : Nat) (cs : List Value) (hx : a.eval x = .pointer (some ⟨b, off, none⟩)) (hy : a.eval y = .agg cs.toArray) (t : TypeId) (xs : List Value) (h : Row w b t xs) (hfit : off + cs.length ≤ xs.length)
    (hi : (P.info? ty).map (·.size) = some cs.length) (h1 : ∀ v ∈ cs, v.oneCell' = true) (k : ∀ w', Hid (Row w' b t (splice xs off cs)) → w.grownBy w' (some b) → wpList P ops Q rest (a.put o.dst undef) w') : wpList P ops Q (o :: rest) a w :=
  wpList_plain hgd fun _ hK => by
    unfold Oper.wp execOp
    simp only [ho, hx, hy, Instr.storeAt, Instr.sureAddr, Sem.run_bind, Sem.run_pure, Result.andThen_ok, run_put h ty cs hi off hfit h1]
    exact hK _ _ (k _ (h.setRow _) (grown_setRow _ _ _))
end
end
section
open Go.RowKit Oct
section
variable {P : Program}
end
/-! How great what comes in may be. -/
def szT (l : List Int) : Prop := l.length ≤ 140737488351232
def szL {α : Type} (b : Nat) (p : α → Prop) (ys : List α) : Prop := ys.length * b ≤ 140737488351232 ∧ ∀ y ∈ ys, p y
def szV (x : PVote) : Prop := szT x.2
def szQ (x : PReq) : Prop := szT x.2.2.1 ∧ szT x.2.2.2
def szP (x : PPrep) : Prop := szQ x.2.2.1 ∧ szL 32 szV x.2.2.2
def szR (x : PRep) : Prop := szT x.2.2.2.1 ∧ szL 32 szV x.2.2.2.2.1 ∧ szL 112 szP x.2.2.2.2.2.1 ∧ szT x.2.2.2.2.2.2
structure szM (m : PMsg) : Prop where
  req : szQ m.req
  oth : szQ m.oth
  data : szT m.data
  sig : szT m.sig
  cert : szL 32 szV m.cert
  votes : szL 32 szV m.votes
  order : szL 8 (fun _ => True) m.order
  picks : szL 64 szQ m.picks
  reps : szL 128 szR m.reps
theorem rowA {w : World} {b : Nat} {t : TypeId} {xs : List Value} (h : Row w b t xs) (o : Obj) : Row (w.alloc o) b t xs := h.below (below_alloc w o)
end
end Go.Proofs.YtgpkngiakhdmhaaDoor
