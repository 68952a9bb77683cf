/- Strings by their bytes, against the order of bytes. -/
import Derived.Test.YtgjepofinpmcpaaGreatDoorMAD
import Derived.Deep.AppendLies
import Derived.Deep.Cut
import Derived.Test.YtgjepofinpmcpaaGreatDoorMAC
import Derived.Deep.QuietTactic
import Derived.BigQuiet
import Derived.WalkKit
import Derived.Laws.BitsLemmas
import Derived.Laws.Shifts
import Derived.Test.YtgjepofinpmcpaaGreatDoorMAA
import Derived.Lib.BytesEntry
import Derived.Laws.Externs
import Derived.Lib.SliceRun
import Derived.ProofKit
import Derived.OpenShut
import Derived.ShutString
import Derived.ChangeOld
import Derived.SizedLaws
import Derived.Test.YtgjepofinpmcpaaGreatDoorRows
set_option linter.unusedSimpArgs false
set_option linter.unusedVariables false
namespace Go.Proofs.YtgjepofinpmcpaaGreatDoor
section
open Go.RowKit Oct
theorem zCu {k : Nat} : ∀ {rows : List (List Value)}, (∀ r ∈ rows, r.length = k) → rows.flatten.length = rows.length * k
  | [], _ => by simp
  | r :: rows, h => by
    rw [List.flatten_cons, List.length_append, h r (by simp), zCu (fun x hx => h x (by simp [hx])), List.length_cons, Nat.add_mul]
    omega
theorem zEl {k : Nat} : ∀ {rows : List (List Value)} {i : Nat} {r : List Value} {j : Nat} {v : Value}, (∀ r ∈ rows, r.length = k) → rows[i]? = some r → r[j]? = some v → rows.flatten[i * k + j]? = some v
  | [], i, r, j, v, _, h, _ => by simp at h
  | x :: rows, 0, r, j, v, hk, h, hv => by
    simp at h
    subst h
    rw [List.flatten_cons, Nat.zero_mul, Nat.zero_add, List.getElem?_append_left (List.getElem?_eq_some_iff.1 hv).1]
    exact hv
  | x :: rows, i + 1, r, j, v, hk, h, hv => by
    have ih := zEl (k := k) (rows := rows) (fun y hy => hk y (by simp [hy])) (by simpa using h) hv
    have hx := hk x (by simp)
    rw [List.flatten_cons, List.getElem?_append_right (by rw [hx, Nat.add_mul]; omega), hx]
    rw [show (i + 1) * k + j - k = i * k + j by rw [Nat.add_mul]; omega]
    exact ih
def LB {α : Type} (R : (Nat → Prop) → World → List Value → α → Prop) (t : TypeId) (k B : Nat) (w : World) (v : Value) (ys : List α) : Prop :=
  ∃ rows, (∀ r ∈ rows, r.length = k) ∧ w.ownsRow 0 t k v rows.length rows.flatten ∧ Fr B v ∧ zC0 (R (fun b => B ≤ b ∧ v.ownBlock ≠ some b) w) rows ys
theorem LB.nil {α : Type} (R : (Nat → Prop) → World → List Value → α → Prop) (t : TypeId) (k B : Nat) (w : World) : LB R t k B w (.slice none 0 0) [] :=
  ⟨[], (fun r h => by cases h), World.ownsRow_nil w 0 t k, Fr.nil _, trivial⟩
theorem LB.fresh {α : Type} (R : (Nat → Prop) → World → List Value → α → Prop) (t : TypeId) (k B : Nat) (w : World) (hB : B ≤ w.heap.size) : LB R t k B (w.alloc (.cells #[] t)) (.slice (some ⟨w.heap.size, 0, none⟩) 0 0) [] :=
  ⟨[], (fun r h => by cases h), World.ownsRow_lit (base := 0) (size := k) w #[] 0 (Nat.zero_le _) (by decide) (by simp), (fun j hj => by simp [Value.ownBlock] at hj; omega), trivial⟩
theorem LB.len {α : Type} {R : (Nat → Prop) → World → List Value → α → Prop} {t : TypeId} {k B : Nat} {w : World} {v : Value} {ys : List α} (h : LB R t k B w v ys) : ∃ rows, w.ownsRow 0 t k v ys.length rows := by
  obtain ⟨rows, _, h1, _, h2⟩ := h
  rw [h2.len] at h1
  exact ⟨_, h1⟩
theorem LB.fr {α : Type} {R : (Nat → Prop) → World → List Value → α → Prop} {t : TypeId} {k B : Nat} {w : World} {v : Value} {ys : List α} (h : LB R t k B w v ys) : Fr B v := by
  obtain ⟨rows, _, _, h1, _⟩ := h
  exact h1
theorem LB.lt {α : Type} {R : (Nat → Prop) → World → List Value → α → Prop} {t : TypeId} {k B : Nat} {w : World} {v : Value} {ys : List α} (h : LB R t k B w v ys) : ∀ g, v.ownBlock = some g → g < w.heap.size := by
  obtain ⟨rows, _, h1, _, _⟩ := h
  exact fun g hg => (World.ownsRow.lt h1 g hg).2
theorem LB.form {α : Type} {R : (Nat → Prop) → World → List Value → α → Prop} {t : TypeId} {k B : Nat} {w : World} {v : Value} {ys : List α} (h : LB R t k B w v ys) : v.oneCell' = true := by
  obtain ⟨rows, _, h1, _, _⟩ := h
  rcases h1.2 with ⟨rfl, _⟩ | ⟨g, cap, cur, rfl, _⟩ <;> rfl
theorem LB.grown {α : Type} {R : (Nat → Prop) → World → List Value → α → Prop} (hR : Mov R) {t : TypeId} {k B : Nat} {w w' : World} {v : Value} {ys : List α} (h : LB R t k B w v ys) {b : Nat} (hg : w.grownBy w' (some b)) (hb : b < B) : LB R t k B w' v ys := by
  obtain ⟨rows, h0, h1, h2, h3⟩ := h
  refine ⟨rows, h0, World.ownsRow.kept h1 hg ?_, h2, h3.mono fun r a h => hR _ _ w w' r a h hg.size fun j hj hlt => ⟨hg.block j hlt (fun e => by injection e with e; omega), hj⟩⟩
  cases hv : v.ownBlock with
  | none => exact .inl rfl
  | some g => exact .inr fun e => by injection e with e; have := h2 g hv; omega
theorem LB.below {α : Type} {R : (Nat → Prop) → World → List Value → α → Prop} (hR : Mov R) {t : TypeId} {k B : Nat} {w w' : World} {v : Value} {ys : List α} (h : LB R t k B w v ys) (hb : Below w.heap.size w w') : LB R t k B w' v ys := by
  obtain ⟨rows, h0, h1, h2, h3⟩ := h
  refine ⟨rows, h0, World.ownsRow.kept (row := none) h1 ⟨hb.os, hb.tape, hb.output, hb.size, fun k hk _ => hb.block k hk⟩ (by cases hv : v.ownBlock <;> simp), h2, h3.mono fun r a h => hR _ _ w w' r a h hb.size fun j hj hlt => ⟨hb.block j hlt, hj⟩⟩
theorem LB.rl {α : Type} {R : (Nat → Prop) → World → List Value → α → Prop} (hR : Mov R) {t : TypeId} {k B : Nat} {w : World} {v : Value} {ys : List α} (h : LB R t k B w v ys) : RL R k (zB0 B) w v ys := by
  obtain ⟨rows, h0, h1, h2, h3⟩ := h
  refine ⟨rows, ⟨h0, ?_⟩, h3.mono fun r a h => hR _ _ w w r a h zN fun j hj _ => ⟨rfl, hj.1⟩⟩
  rcases Nat.eq_zero_or_pos rows.length with hn | hn
  · have e : rows = [] := List.eq_nil_of_length_eq_zero hn
    subst e
    rcases h1.2 with ⟨rfl, _⟩ | ⟨g, cap, cur, rfl, _, hg, h4, h5, _⟩
    · exact .inl ⟨none, 0, rfl, rfl, Nat.zero_le _⟩
    · exact .inl ⟨_, cap, rfl, rfl, h5⟩
  · right
    rcases h1.2 with ⟨_, h4⟩ | ⟨g, cap, cur, hv, _, hg, h4, h5, _⟩
    · omega
    · refine ⟨g, 0, cap, hv, h4, h5, hn, h2 g (by rw [hv]; rfl), (Array.getElem?_eq_some_iff.1 hg).1, fun i r hr j u hu => ?_⟩
      subst hv
      have := World.ownsRow.cells h1 (g := g) rfl (i * k + j) u (zEl h0 hr hu)
      rw [Addr.add_mid] at this
      rw [Nat.zero_add]
      simpa using this
section
variable {P : Program}
theorem zCq {α : Type} {R : (Nat → Prop) → World → List Value → α → Prop} (hR : Mov R) {w : World} {ops : Array Oper} {rest : List Oper} {o : Oper} {a : Act} {Q : Exit → Act → World → Prop} (hgd : o.guard = none) (s x : Operand) (t : TypeId)
    (ho : o.op = .call { callee := .builtin .append, args := #[s, x], argTypes := #[t, t] }) (e : TypeId) (k bytes : Nat) (z : Value) (ht : P.underlying t = some (.slice e)) (hi : (P.info? e).map (fun i => (i.zero, i.size, i.bytes)) = some (some z, k, bytes))
    (hzs : z.cells.size = k) (hk : 0 < k) (B : Nat) (v : Value) (ys : List α) (hs : a.eval s = v) (hL : LB R e k B w v ys) (r : List Value) (y : α) (C : Nat) (hr : R (zB0 C) w r y) (hrl : r.length = k) (h1 : ∀ u ∈ r, u.oneCell' = true)
    (hC : B ≤ C) (hCv : ∀ g, v.ownBlock = some g → g < C) (hx : a.eval x = .slice (some ⟨w.heap.size, 0, none⟩) 1 1) (hB : B ≤ w.heap.size)
    (hb : (ys.length + 1) * bytes ≤ 140737488355328) (hb0 : 1 ≤ bytes)
    (h : ∀ v' w', LB R e k B w' v' (ys ++ [y]) → w.grownBy w' v.ownBlock → wpList P ops Q rest (a.put o.dst v') w') : wpList P ops Q (o :: rest) a (w.alloc (.cells r.toArray e)) := by
  obtain ⟨i0, hi, hz0, hz1, hz2⟩ := info_parts hi
  obtain ⟨rows, h0, hown, hfr, hall⟩ := hL
  have hlen := hall.len
  have hbel := zA0 w (.cells r.toArray e)
  have hown1 : (w.alloc (.cells r.toArray e)).ownsRow 0 e k v rows.length rows.flatten := World.ownsRow.kept (row := none) hown ⟨hbel.os, hbel.tape, hbel.output, hbel.size, fun k hk _ => hbel.block k hk⟩ (by cases hv : v.ownBlock <;> simp)
  have hmul : ys.length + 1 ≤ (ys.length + 1) * bytes := Nat.le_mul_of_pos_right _ hb0
  refine wpList_append_lies (w.alloc (.cells r.toArray e)) hgd s x t ho 0 e i0 z k bytes ht hi hz0 hz1 hz2 hzs hk v rows.length rows.flatten hs hown1 ⟨w.heap.size, 0, none⟩ 1 1 r hx (by omega)
    (fun j u hj => by
      rw [Addr.add_mid, Nat.zero_add]
      exact (Row.new w e r).cell hj) h1 (by omega) (by rw [hlen]; unfold maxLen; omega) (by rw [hlen]; exact hb) (Nat.zero_le _) (w.heap.size + 1) (by simp) ?_
  intro g cap w' hown' hgr hat hlt
  have hg0 : w.grownBy w' v.ownBlock := zA2 (zA8 hbel _) hgr (.inl rfl)
  have hgB : B ≤ g := by
    rcases hat with hat | hat
    · exact hfr g hat
    · omega
  have hflat : rows.flatten ++ r = (rows ++ [r]).flatten := by simp
  refine h _ w' ⟨rows ++ [r], ?_, ?_, ?_, ?_⟩ hg0
  · intro q hq
    rcases List.mem_append.1 hq with hq | hq
    · exact h0 q hq
    · simp at hq; subst hq; exact hrl
  · rw [List.length_append, ← hflat]
    exact hown'
  · exact fun j hj => by simp [Value.ownBlock] at hj; omega
  · have hold : zC0 (R (fun b => B ≤ b ∧ (Value.slice (some ⟨g, 0, none⟩) (rows.length + 1) cap).ownBlock ≠ some b) w') rows ys := hall.mono fun q b hq => hR _ _ w w' q b hq hg0.size fun j hj hjl => by
      refine ⟨hg0.block j hjl (fun e => hj.2 e.symm), hj.1, fun e => ?_⟩
      simp [Value.ownBlock] at e
      rcases hat with hat | hat
      · exact hj.2 (by rw [hat, e])
      · omega
    have hnew : R (fun b => B ≤ b ∧ (Value.slice (some ⟨g, 0, none⟩) (rows.length + 1) cap).ownBlock ≠ some b) w' r y := hR _ _ w w' r y hr hg0.size fun j hj hjl => by
      unfold zB0 at hj
      refine ⟨hg0.block j hjl (fun e => by have := hCv j e.symm; omega), by omega, fun e => ?_⟩
      simp [Value.ownBlock] at e
      rcases hat with hat | hat
      · have := hCv g hat; omega
      · omega
    exact zC0.app hold ⟨hnew, trivial⟩
theorem run_put {w : World} {b : Nat} {t : TypeId} {xs : List Value} (h : Row w b t xs) (ty : TypeId) (cs : List Value) (hi : (P.info? ty).map (·.size) = some cs.length) (off : Nat) (hfit : off + cs.length ≤ xs.length) (h1 : ∀ v ∈ cs, v.oneCell' = true) :
    (storeVar ty ⟨b, off, none⟩ (.agg cs.toArray)).run P w = .ok () (w.setRow b (splice xs off cs).toArray) := by
  have := run_storeCells_at P b off t cs 0 xs.toArray w h (by simpa using hfit) h1
  cases hq : P.info? ty with
  | none => simp [hq] at hi
  | some i =>
    have hs : i.size = cs.length := by simpa [hq] using hi
    simp only [Nat.add_zero, List.append_assoc] at this
    simp [storeVar, sizeOf, typeInfo, hq, hs, this, splice, Value.cells]
theorem zCd {ops : Array Oper} {rest : List Oper} {o : Oper} {a : Act} {w : World} {Q : Exit → Act → World → Prop} (hgd : o.guard = none) (ty : TypeId) (x y : Operand) (ho : o.op = .store ty x y)
    (b off : Nat) (cs : List Value) (hx : a.eval x = .pointer (some ⟨b, off, none⟩)) (hy : a.eval y = .agg cs.toArray) (t : TypeId) (xs : List Value) (h : Row w b t xs) (hfit : off + cs.length ≤ xs.length)
    (hi : (P.info? ty).map (·.size) = some cs.length) (h1 : ∀ v ∈ cs, v.oneCell' = true) (k : ∀ w', Hid (Row w' b t (splice xs off cs)) → w.grownBy w' (some b) → wpList P ops Q rest (a.put o.dst undef) w') : wpList P ops Q (o :: rest) a w :=
  wpList_plain hgd fun _ hK => by
    unfold Oper.wp execOp
    simp only [ho, hx, hy, Instr.storeAt, Instr.sureAddr, Sem.run_bind, Sem.run_pure, Result.andThen_ok, run_put h ty cs hi off hfit h1]
    exact hK _ _ (k _ (h.setRow _) (zBn _ _ _))
end
end
section
open Go.RowKit Oct
section
variable {P : Program}
theorem wp_push {α : Type} {R : (Nat → Prop) → World → List Value → α → Prop} (hR : Mov R) {w : World} {o : Oper} {a : Act} {K : Act → World → Prop} {Q : Exit → Act → World → Prop} (s x : Operand) (t : TypeId)
    (ho : o.op = .call { callee := .builtin .append, args := #[s, x], argTypes := #[t, t] }) (e : TypeId) (k bytes : Nat) (z : Value) (ht : P.underlying t = some (.slice e)) (hi : (P.info? e).map (fun i => (i.zero, i.size, i.bytes)) = some (some z, k, bytes))
    (hzs : z.cells.size = k) (hk : 0 < k) (B : Nat) (v : Value) (ys : List α) (hs : a.eval s = v) (hL : LB R e k B w v ys) (r : List Value) (y : α) (C : Nat) (hr : R (zB0 C) w r y) (hrl : r.length = k) (h1 : ∀ u ∈ r, u.oneCell' = true)
    (hC : B ≤ C) (hCv : ∀ g, v.ownBlock = some g → g < C) (hx : a.eval x = .slice (some ⟨w.heap.size, 0, none⟩) 1 1) (hB : B ≤ w.heap.size)
    (hb : (ys.length + 1) * bytes ≤ 140737488355328) (hb0 : 1 ≤ bytes)
    (h : ∀ v' w', LB R e k B w' v' (ys ++ [y]) → w.grownBy w' v.ownBlock → K (a.put o.dst v') w') : o.wp P a (w.alloc (.cells r.toArray e)) K Q := by
  obtain ⟨i0, hi, hz0, hz1, hz2⟩ := info_parts hi
  obtain ⟨rows, h0, hown, hfr, hall⟩ := hL
  have hlen := hall.len
  have hbel := zA0 w (.cells r.toArray e)
  have hown1 : (w.alloc (.cells r.toArray e)).ownsRow 0 e k v rows.length rows.flatten := World.ownsRow.kept (row := none) hown ⟨hbel.os, hbel.tape, hbel.output, hbel.size, fun k hk _ => hbel.block k hk⟩ (by cases hv : v.ownBlock <;> simp)
  have hmul : ys.length + 1 ≤ (ys.length + 1) * bytes := Nat.le_mul_of_pos_right _ hb0
  refine wp_append_lies (w.alloc (.cells r.toArray e)) s x t ho 0 e i0 z k bytes ht hi hz0 hz1 hz2 hzs hk v rows.length rows.flatten hs hown1 ⟨w.heap.size, 0, none⟩ 1 1 r hx (by omega)
    (fun j u hj => by
      rw [Addr.add_mid, Nat.zero_add]
      exact (Row.new w e r).cell hj) h1 (by omega) (by rw [hlen]; unfold maxLen; omega) (by rw [hlen]; exact hb) (Nat.zero_le _) (w.heap.size + 1) (by simp) ?_
  intro g cap w' hown' hgr hat hlt
  have hg0 : w.grownBy w' v.ownBlock := zA2 (zA8 hbel _) hgr (.inl rfl)
  have hgB : B ≤ g := by
    rcases hat with hat | hat
    · exact hfr g hat
    · omega
  have hflat : rows.flatten ++ r = (rows ++ [r]).flatten := by simp
  refine h _ w' ⟨rows ++ [r], ?_, ?_, ?_, ?_⟩ hg0
  · intro q hq
    rcases List.mem_append.1 hq with hq | hq
    · exact h0 q hq
    · simp at hq; subst hq; exact hrl
  · rw [List.length_append, ← hflat]
    exact hown'
  · exact fun j hj => by simp [Value.ownBlock] at hj; omega
  · have hold : zC0 (R (fun b => B ≤ b ∧ (Value.slice (some ⟨g, 0, none⟩) (rows.length + 1) cap).ownBlock ≠ some b) w') rows ys := hall.mono fun q b hq => hR _ _ w w' q b hq hg0.size fun j hj hjl => by
      refine ⟨hg0.block j hjl (fun e => hj.2 e.symm), hj.1, fun e => ?_⟩
      simp [Value.ownBlock] at e
      rcases hat with hat | hat
      · exact hj.2 (by rw [hat, e])
      · omega
    have hnew : R (fun b => B ≤ b ∧ (Value.slice (some ⟨g, 0, none⟩) (rows.length + 1) cap).ownBlock ≠ some b) w' r y := hR _ _ w w' r y hr hg0.size fun j hj hjl => by
      unfold zB0 at hj
      refine ⟨hg0.block j hjl (fun e => by have := hCv j e.symm; omega), by omega, fun e => ?_⟩
      simp [Value.ownBlock] at e
      rcases hat with hat | hat
      · have := hCv g hat; omega
      · omega
    exact zC0.app hold ⟨hnew, trivial⟩
theorem zMf {α : Type} {R : (Nat → Prop) → World → List Value → α → Prop} (hR : Mov R) {w : World} {ops : Array Oper} {o : Oper} {a : Act} {K : Act → World → Prop} {Q : Exit → Act → World → Prop} {E : Prop} (hgd : o.guard = none) (s x : Operand) (t : TypeId)
    (ho : o.op = .call { callee := .builtin .append, args := #[s, x], argTypes := #[t, t] }) (e : TypeId) (k bytes : Nat) (z : Value) (ht : P.underlying t = some (.slice e)) (hi : (P.info? e).map (fun i => (i.zero, i.size, i.bytes)) = some (some z, k, bytes))
    (hzs : z.cells.size = k) (hk : 0 < k) (B : Nat) (v : Value) (ys : List α) (hs : a.eval s = v) (hL : LB R e k B w v ys) (r : List Value) (y : α) (C : Nat) (hr : R (zB0 C) w r y) (hrl : r.length = k) (h1 : ∀ u ∈ r, u.oneCell' = true)
    (hC : B ≤ C) (hCv : ∀ g, v.ownBlock = some g → g < C) (hx : a.eval x = .slice (some ⟨w.heap.size, 0, none⟩) 1 1) (hB : B ≤ w.heap.size)
    (hb : (ys.length + 1) * bytes ≤ 140737488355328) (hb0 : 1 ≤ bytes)
    (h : ∀ v' w', LB R e k B w' v' (ys ++ [y]) → w.grownBy w' v.ownBlock → K (a.put o.dst v') w') :
    if Region.wanted o (yielded ops a.tmps) = true then Oper.wp P o a (w.alloc (.cells r.toArray e)) K Q else E := by
  have hw : Region.wanted o (yielded ops a.tmps) = true := by simp [Region.wanted, hgd]
  rw [if_pos hw]
  exact wp_push hR s x t ho e k bytes z ht hi hzs hk B v ys hs hL r y C hr hrl h1 hC hCv hx hB hb hb0 h
end
/-! How great what comes in may be. -/
def szT (l : List Int) : Prop := l.length ≤ 140737488351232
def szL {α : Type} (b : Nat) (p : α → Prop) (ys : List α) : Prop := ys.length * b ≤ 140737488351232 ∧ ∀ y ∈ ys, p y
def szV (x : zAy) : Prop := szT x.2
def szQ (x : zB3) : Prop := szT x.2.2.1 ∧ szT x.2.2.2
def szP (x : zCo) : Prop := szQ x.2.2.1 ∧ szL 32 szV x.2.2.2
def szR (x : zF8) : Prop := szT x.2.2.2.1 ∧ szL 32 szV x.2.2.2.2.1 ∧ szL 112 szP x.2.2.2.2.2.1 ∧ szT x.2.2.2.2.2.2
structure szM (m : PMsg) : Prop where
  req : szQ m.req
  oth : szQ m.oth
  data : szT m.data
  sig : szT m.sig
  cert : szL 32 szV m.cert
  votes : szL 32 szV m.votes
  order : szL 8 (fun _ => True) m.order
  picks : szL 64 szQ m.picks
  reps : szL 128 szR m.reps
theorem own1 {w : World} {e : TypeId} {v : Value} {xs : List Value} (h : Own w e v xs) : v.oneCell' = true := by
  obtain ⟨ao, cap, rfl, _⟩ := h.form; rfl
theorem rowA {w : World} {b : Nat} {t : TypeId} {xs : List Value} (h : Row w b t xs) (o : Obj) : Row (w.alloc o) b t xs := h.below (zA0 w o)
theorem one4 {a b : Int} {u v : Value} (hu : u.oneCell' = true) (hv : v.oneCell' = true) : ∀ x ∈ [Value.int .i64 a, Value.int .i64 b, u, v], x.oneCell' = true := by
  intro x hx
  simp only [List.mem_cons, List.not_mem_nil, or_false] at hx
  rcases hx with rfl | rfl | rfl | rfl <;> first | rfl | assumption
set_option maxRecDepth 10000 in
set_option maxHeartbeats 2000000 in
theorem zDy (w : World) (r : List Value) (x : zB3) (h : zCs Any w r x) (hz : szQ x) :
    Calls Tryz.prog 16 #[.agg r.toArray] w fun e w' => ∃ r', e = .returned (.agg r'.toArray) ∧ zCs (zB0 w.heap.size) w' r' x ∧ Below w.heap.size w w' := by
  obtain ⟨vo, vg, rfl, ho, hg⟩ := h
  obtain ⟨z1, z2⟩ := hz
  obtain ⟨w2, hw2⟩ : ∃ w2, w2 = (w.alloc (.cells #[.int .i64 x.1, .int .i64 x.2.1, vo, vg] 34)).alloc (.cells #[.int .i64 0, .int .i64 0, .slice none 0 0, .slice none 0 0] 34) := ⟨_, rfl⟩
  have ra : Row w2 w.heap.size 34 [.int .i64 x.1, .int .i64 x.2.1, vo, vg] := by rw [hw2]; exact rowA (Row.new w 34 _) _
  have rr : Row w2 (w.heap.size + 1) 34 [.int .i64 0, .int .i64 0, .slice none 0 0, .slice none 0 0] := by
    rw [hw2]
    have := Row.new (w.alloc (.cells #[.int .i64 x.1, .int .i64 x.2.1, vo, vg] 34)) 34 [.int .i64 0, .int .i64 0, .slice none 0 0, .slice none 0 0]
    simpa using this
  have hB : Below w.heap.size w w2 := by rw [hw2]; exact ((Below.refl _ w).alloc zN _).alloc (by simp) _
  have hsz : w2.heap.size = w.heap.size + 2 := by rw [hw2]; simp
  go_enter Tryz.func16, Tryz.ntmps16
  go_upto_region 1 with fail
  rw [← hw2]
  clear hw2
  have HS := (show Hid (w2.heap.size = w.heap.size + 2) from hsz)
  clear hsz
  have c2 := (rowA ra (.cells #[] 5)).cell (j := 2) rfl
  have ho2 := (ho.mv (Mv.below hB)).1
  go_wp2_with (first
    | (at_builtin; refine zCi rfl _ _ rfl rfl _ x.2.2.1 rfl ho2 (Nat.le_trans z1 (by decide)) ?_; intro v3 w3 hown3 hfr3 hb3; have ra3 := ra.below hb3)
    | (refine zAb rfl _ _ _ rfl w.heap.size 2 _ rfl rfl _ _ ra3 (show 2 < 4 by decide) (by kernel_rfl) (own1 hown3) ?_; intro w4 ra4 hg4; have ra4' : Row w4 w.heap.size 34 [.int .i64 x.1, .int .i64 x.2.1, v3, vg] := ra4.out; have c3 := (rowA ra4' (.cells #[] 5)).cell (j := 3) rfl; have hB3 := zA1 hB zN hb3; have hB4 : Below w.heap.size w w4 := hB3.trans (zA5 hg4 hB3.size (fun k hk => by cases hk; exact zN)); have hg2 := (hg.mv (Mv.below hB4)).1)
    | (at_builtin; refine zCi rfl _ _ rfl rfl _ x.2.2.2 rfl hg2 (Nat.le_trans z2 (by decide)) ?_; intro v5 w5 hown5 hfr5 hb5; have ra5 := ra4'.below hb5)
    | (refine zAb rfl _ _ _ rfl w.heap.size 3 _ rfl rfl _ _ ra5 (show 3 < 4 by decide) (by kernel_rfl) (own1 hown5) ?_; intro w6 ra6 hg6; have ra6' : Row w6 w.heap.size 34 [.int .i64 x.1, .int .i64 x.2.1, v3, v5] := ra6.out; have rr6 := (((rr.below hb3).grown hg4 (fun e => by injection e with e; omega)).below hb5).grown hg6 (fun e => by injection e with e; omega))
    | (refine zAa rfl _ _ rfl w.heap.size rfl _ _ ra6' _ Tryz.underlying34 rfl (by kernel_rfl) ?_)
    | (refine zA7 rfl _ _ _ rfl (w.heap.size + 1) [.int .i64 x.1, .int .i64 x.2.1, v3, v5] rfl rfl _ _ rr6 rfl (by kernel_rfl) (one4 (own1 hown3) (own1 hown5)) ?_; intro w7 hr7 hg7))
  have hs2 := HS.out
  have f3 : RT (zB0 w2.heap.size) w3 v3 x.2.2.1 := RT.own hown3 ho2.1 hfr3
  have f4 := f3.mv (Mv.from (L := w.heap.size + 2) hg4 (by omega) (by omega))
  have f5 := f4.mv (Mv.belowG hb5)
  have f6 := f5.mv (Mv.from (L := w.heap.size + 2) hg6 (by omega) zN)
  have f7 := f6.mv (Mv.from (L := w.heap.size) hg7 (by omega) (by omega))
  have hs4 := Nat.le_trans hb3.size hg4.size
  have g5 : RT (zB0 w4.heap.size) w5 v5 x.2.2.2 := RT.own hown5 hg2.1 hfr5
  have g6 := g5.mv (Mv.from (L := w.heap.size + 2) hg6 (by omega) (by omega))
  have g7 := g6.mv (Mv.from (L := w.heap.size) hg7 (by omega) (by omega))
  have hB5 := zA1 hB4 zN hb5
  have hB6 := hB5.trans (zA5 hg6 hB5.size (fun k hk => by cases hk; exact zN))
  have hB7 := hB6.trans (zA5 hg7 hB6.size (fun k hk => by cases hk; omega))
  have hr7 := hr7.out
  refine bodyPost_ret (v := .agg ([.int .i64 x.1, .int .i64 x.2.1, v3, v5] : List Value).toArray) (results_cell_row rfl _ _ (w.heap.size + 1) _ _ (0, 0) _ (by rfl) hr7 Tryz.underlying34 rfl (by kernel_rfl)) rfl ?_
  exact ⟨_, rfl, ⟨_, _, rfl, f7, g7⟩, hB7⟩
end
section
open Go.RowKit Oct
theorem Rdl.byts {w : World} {v : Value} {ll : List (List Int)} (h : Rdl w v ll) : Byts ll := by
  obtain ⟨vs, h1, h2⟩ := h
  clear h1
  intro l hl
  obtain ⟨i, hi, e⟩ := List.getElem_of_mem hl
  have hlen := h2.len
  exact (h2.get (List.getElem?_eq_getElem (show i < vs.length by omega)) (by rw [List.getElem?_eq_getElem hi, e])).1
set_option maxHeartbeats 400000 in
theorem zP5 (w : World) (v : Value) (ll : List (List Int)) (hv : Rdl w v ll) (ht : tot ll ≤ 10000000) :
    Calls Tryz.prog 43 #[v] w fun e w' => ∃ v', e = .returned v' ∧ Own w' 5 v' (bc (zB8 ll)) ∧ Fr w.heap.size v' ∧ Below w.heap.size w w' := by
  obtain ⟨vs, hvs, hall⟩ := hv
  have hlen1 := Nat.le_of_eq hall.len
  have hlen2 := Nat.le_of_eq hall.len.symm
  have hlt := zGp ll
  by_cases hl : 0 < vs.length
  · obtain ⟨b, off, cap, rfl, hc1, hc2, hb, hcell⟩ := hvs.at hl
    have HC := (show Hid (∀ (j : Nat) (u : Value), vs[j]? = some u → w.cell? ⟨b, off + j, none⟩ = some u) from hcell)
    have HA := (show Hid (zC0 (Rd w) vs ll) from hall)
    clear hcell hvs hall
    go_enter Tryz.func43, Tryz.ntmps43
    go_wp2_with fail
    go_loopw [3, 8] (fun o i wr => ∃ k : Nat, k ≤ vs.length ∧ i = .int .i64 k ∧ Own wr 5 o (bc (zB8 (ll.take k))) ∧ Fr w.heap.size o ∧ Below w.heap.size w wr) (fun _ i _ => vs.length - (intOf i).toNat)
    case atStart => exact ⟨0, Nat.zero_le _, rfl, Own.nil _ _, Fr.nil _, Below.refl _ _⟩
    case round =>
      obtain ⟨k, hk, rfl, hown, hfr, hbel⟩ := hrel
      by_cases hkl : k < vs.length
      · obtain ⟨p, hp⟩ : ∃ p, vs[k]? = some p := ⟨_, List.getElem?_eq_getElem hkl⟩
        obtain ⟨l, hl'⟩ : ∃ l, ll[k]? = some l := ⟨_, List.getElem?_eq_getElem (by omega)⟩
        have hcp : wr.cell? ⟨b, off + k, none⟩ = some p := (hbel.cell (p := ⟨b, off + k, none⟩) hb).trans (HC.out k p hp)
        have hrd := HA.out.get hp hl'
        have hrd' := hrd.below hbel
        have hpl := zJm (ll.take k) l
        rw [← zBa ll k l hl'] at hpl
        have h1 := zDp (ll.take k)
        have h2 := zOq ll k
        have h3 := zNx (List.mem_of_getElem? hl')
        have hap : l ≠ [] → ∀ g, u3.ownBlock = some g → p.ownBlock ≠ some g := fun hne g hg hpg => by
          have := hfr g hg
          have := hrd.lt hne g hpg
          omega
        have hT := zFe wr u3 p (zB8 (ll.take k)) l hown hrd' hap (by omega)
        rw [← hpl] at hT
        have HT := (show Hid (∀ _ : Unit, _) from fun _ => hT)
        have hsz := hbel.size
        clear hT hpl hap hrd hrd' hp hl' hown
        go_wp2_with (go_at_call 78; refine (HT.out ()).mono ?_; rintro e w1 ⟨o1, rfl, happ⟩)
        go_roundw
        case rel => exact ⟨k + 1, by omega, by go_num, happ.own, happ.fr hfr hsz, hbel.trans (happ.below hfr hsz)⟩
        case measure => simp [intOf]; omega
      · have hk' : k = ll.length := by omega
        rw [hk', List.take_length] at hown
        clear HC HA hk'
        go_wp2_with fail
        go_ret
        exact ⟨_, rfl, hown, hfr, hbel⟩
  · have hl0 : ll = [] := List.eq_nil_of_length_eq_zero (by omega)
    have hv0 : vs = [] := List.eq_nil_of_length_eq_zero (by omega)
    subst hl0 hv0
    obtain ⟨ao, cap, rfl, hc⟩ := hvs.form
    clear hvs hall
    go_enter Tryz.func43, Tryz.ntmps43
    go_wp2_with fail
    refine wp_loop_rounds 1 ?_; rw [rounds_succ]
    go_wp2_with fail
    go_ret
    exact ⟨_, rfl, Own.nil _ _, Fr.nil _, Below.refl _ _⟩
set_option maxHeartbeats 400000 in
theorem zN2 (w : World) (v : Value) (ll : List (List Int)) (hv : Rdl w v ll) (ht : tot ll ≤ 10000000) :
    Calls Tryz.prog 136 #[v] w fun e w' => ∃ v', e = .returned v' ∧ Own w' 5 v' (bc (zB8 ll)) ∧ Fr w.heap.size v' ∧ Below w.heap.size w w' := by
  obtain ⟨vs, hvs, hall⟩ := hv
  have hlen1 := Nat.le_of_eq hall.len
  have hlen2 := Nat.le_of_eq hall.len.symm
  have hlt := zGp ll
  by_cases hl : 0 < vs.length
  · obtain ⟨b, off, cap, rfl, hc1, hc2, hb, hcell⟩ := hvs.at hl
    have HC := (show Hid (∀ (j : Nat) (u : Value), vs[j]? = some u → w.cell? ⟨b, off + j, none⟩ = some u) from hcell)
    have HA := (show Hid (zC0 (Rd w) vs ll) from hall)
    clear hcell hvs hall
    go_enter Tryz.func136, Tryz.ntmps136
    go_wp2_with fail
    go_loopw [3, 9] (fun o i wr => ∃ k : Nat, k ≤ vs.length ∧ i = .int .i64 k ∧ Own wr 5 o (bc (zB8 (ll.take k))) ∧ Fr w.heap.size o ∧ Below w.heap.size w wr) (fun _ i _ => vs.length - (intOf i).toNat)
    case atStart => exact ⟨0, Nat.zero_le _, rfl, zE3 _ _, zBx _ _ _ _ zN, zA0 _ _⟩
    case round =>
      obtain ⟨k, hk, rfl, hown, hfr, hbel⟩ := hrel
      by_cases hkl : k < vs.length
      · obtain ⟨p, hp⟩ : ∃ p, vs[k]? = some p := ⟨_, List.getElem?_eq_getElem hkl⟩
        obtain ⟨l, hl'⟩ : ∃ l, ll[k]? = some l := ⟨_, List.getElem?_eq_getElem (by omega)⟩
        have hcp : wr.cell? ⟨b, off + k, none⟩ = some p := (hbel.cell (p := ⟨b, off + k, none⟩) hb).trans (HC.out k p hp)
        have hrd' := (HA.out.get hp hl').below hbel
        have hpl := zJm (ll.take k) l
        rw [← zBa ll k l hl', List.append_assoc] at hpl
        have h1 := zDp (ll.take k)
        have h2 := zOq ll k
        have h3 := zNx (List.mem_of_getElem? hl')
        have h4 := zB7 (l.length : Int)
        have hT := zDf wr p l hrd' (by omega)
        have HT := (show Hid (∀ _ : Unit, _) from fun _ => hT)
        have HP := (show Hid (zB8 (ll.take (k + 1)) = zB8 (ll.take k) ++ (enc l.length ++ l)) from hpl)
        have hsz := hbel.size
        clear hT hpl hrd' hp hl'
        go_wp2_with (first | (go_at_call 51; refine (HT.out ()).mono ?_; rintro e w1 ⟨o1, rfl, hown1, hfr1, hb1⟩; have hsz1 := Nat.le_trans hsz hb1.size) | (at_builtin; refine zAx rfl _ _ rfl u3 (zB8 (ll.take k)) rfl (hown.below hb1) o1 (enc l.length ++ l) rfl hown1.rdv (by simp only [List.length_append]; omega) ?_; intro o2 w2 happ))
        go_roundw
        case rel => exact ⟨k + 1, by omega, by go_num, by rw [HP.out]; exact happ.own, happ.fr hfr hsz1, (zA1 hbel zN hb1).trans (happ.below hfr hsz1)⟩
        case measure => simp [intOf]; omega
      · have hk' : k = ll.length := by omega
        rw [hk', List.take_length] at hown
        clear HC HA hk'
        go_wp2_with fail
        go_ret
        exact ⟨_, rfl, hown, hfr, hbel⟩
  · have hl0 : ll = [] := List.eq_nil_of_length_eq_zero (by omega)
    have hv0 : vs = [] := List.eq_nil_of_length_eq_zero (by omega)
    subst hl0 hv0
    obtain ⟨ao, cap, rfl, hc⟩ := hvs.form
    clear hvs hall
    go_enter Tryz.func136, Tryz.ntmps136
    go_wp2_with fail
    refine wp_loop_rounds 1 ?_; rw [rounds_succ]
    go_wp2_with fail
    go_ret
    exact ⟨_, rfl, zE3 _ _, zBx _ _ _ _ zN, zA0 _ _⟩
end
section
open Go.RowKit Oct
def le8 (u : Int) : List Int := [u % 256, u / 256 % 256, u / 65536 % 256, u / 16777216 % 256, u / 4294967296 % 256, u / 1099511627776 % 256, u / 281474976710656 % 256, u / 72057594037927936 % 256]
def u64 (n : Int) : Int := n % 18446744073709551616
theorem zC5 (u : Int) : (le8 u).length = 8 := rfl
theorem zOb (u : Int) : Byt (le8 u) := by
  intro x hx
  simp only [le8, List.mem_cons, List.not_mem_nil, or_false] at hx
  rcases hx with rfl | rfl | rfl | rfl | rfl | rfl | rfl | rfl <;> omega
theorem zP4 (u : Int) (k : Nat) (hk : k < 8) (m : Nat) (hm : m = 8 * k) : u / 2 ^ m % 256 = (le8 u).getD k 0 := by
  subst hm
  match k, hk with
  | 0, _ => simp [le8]
  | 1, _ => rfl
  | 2, _ => rfl
  | 3, _ => rfl
  | 4, _ => rfl
  | 5, _ => rfl
  | 6, _ => rfl
  | 7, _ => rfl
theorem zGh (u : Int) (L : List Int) (k : Nat) (hk : k < 8) : L ++ (le8 u).take (k + 1) = (L ++ (le8 u).take k) ++ [(le8 u).getD k 0] := by
  have hb : k < (le8 u).length := by rw [zC5]; exact hk
  rw [List.append_assoc, List.take_add_one, List.getElem?_eq_getElem hb]
  simp [List.getD, List.getElem?_eq_getElem hb]
def zB6 (x : zB3) : List Int := le8 (u64 x.1) ++ le8 (u64 x.2.1) ++ zB8 [x.2.2.1, x.2.2.2]
theorem zFb (w : World) (v : Value) (L : List Int) (n : Int) (hown : Own w 5 v (bc L)) (hl : L.length ≤ 140737488355300) :
    Calls Tryz.prog 42 #[v, .int .i64 n] w fun e w' => ∃ v', e = .returned v' ∧ App w 5 v w' v' (bc (L ++ le8 (u64 n))) := by
  go_enter Tryz.func42, Tryz.ntmps42
  go_wp2_with fail
  go_loopw [0, 6] (fun o i wr => ∃ k : Nat, k ≤ 8 ∧ i = .int .i64 k ∧ App w 5 v wr o (bc (L ++ (le8 (u64 n)).take k))) (fun _ i _ => (8 - intOf i).toNat)
  case atStart => exact ⟨0, by omega, rfl, by rw [List.take_zero, List.append_nil]; exact zM8 hown⟩
  case round =>
    obtain ⟨k, hk, rfl, happ⟩ := hrel
    by_cases hk8 : k < 8
    · obtain ⟨m, hm⟩ : ∃ m : Nat, (8 : Int) * (k : Int) = m := ⟨8 * k, by omega⟩
      have HM := (show Hid (u64 n / 2 ^ m % 256 = (le8 (u64 n)).getD k 0) from zP4 (u64 n) k hk8 m (by omega))
      have HX := (show Hid (L ++ (le8 (u64 n)).take (k + 1) = (L ++ (le8 (u64 n)).take k) ++ [(le8 (u64 n)).getD k 0]) from zGh _ _ _ hk8)
      have HT := (show Hid ((L ++ (le8 (u64 n)).take k).length ≤ 140737488355308) by
        show (L ++ (le8 (u64 n)).take k).length ≤ _
        rw [List.length_append, List.length_take, zC5]
        omega)
      have hm0 : (0 : Int) ≤ (m : Int) := by omega
      have hgo := happ.own
      go_wp2_with (at_builtin; refine zAx rfl _ _ rfl _ (L ++ (le8 (u64 n)).take k) rfl (World.ownsRow.alloc hgo _) _ [u64 n / 2 ^ m % 256] rfl (zCy wr _ _) (by have := HT.out; simp only [List.length_cons, List.length_nil]; omega) ?_; intro o4 w4 happ4)
      have hp4 := happ.trans (happ4.pre (zA0 wr _))
      rw [HM.out, ← HX.out] at hp4
      clear happ happ4 hgo
      go_roundw
      case rel => exact ⟨k + 1, by omega, by go_num, hp4⟩
      case measure => simp [intOf]; omega
    · rw [List.take_of_length_le (by rw [zC5]; omega)] at happ
      go_wp2_with fail
      go_ret
      exact ⟨_, rfl, happ⟩
end
section
open Go.RowKit Oct
theorem Tryz.info23 : (Tryz.prog.info? 23).map (fun i => (i.zero, i.size, i.bytes)) = some (some (.slice none 0 0), 1, 24) := by kernel_rfl
theorem zLg {w : World} {ops : Array Oper} {rest : List Oper} {o : Oper} {a : Act} {Q : Exit → Act → World → Prop} (hgd : o.guard = none) (s x : Operand)
    (ho : o.op = .call { callee := .builtin .append, args := #[s, x], argTypes := #[82, 82] })
    (v : Value) (vs : List Value) (hs : a.eval s = v) (hown : Own w 23 v vs) (sv : Value) (us : List Value) (hx : a.eval x = sv) (hsrc : Rdv w sv us) (h1 : ∀ u ∈ us, u.oneCell' = true) (hb : vs.length + us.length ≤ 1000000000)
    (h : ∀ v' w', App w 23 v w' v' (vs ++ us) → wpList Tryz.prog ops Q rest (a.put o.dst v') w') : wpList Tryz.prog ops Q (o :: rest) a w := by
  obtain ⟨i0, hi, hz0, hz1, hz2⟩ := info_parts Tryz.info23
  exact zEr (zE1 hgd) s x 82 ho 23 i0 (.slice none 0 0) 24 Tryz.underlying82 hi hz0 hz1 hz2 rfl v vs hs hown sv us hx hsrc h1 (by unfold maxLen; omega) (by omega) h
def Els (w : World) (vs : List Value) (ll : List (List Int)) : Prop := zC0 (fun c l => Own w 5 c (bc l)) vs ll
theorem Els.below {w w' : World} {vs : List Value} {ll : List (List Int)} (h : Els w vs ll) (hb : Below w.heap.size w w') : Els w' vs ll := h.mono fun _ _ h => h.below hb
theorem Els.app {w w' : World} {v v' : Value} {vs us xs : List Value} {ll : List (List Int)} (h : Els w us ll) (hv : Own w 23 v vs) (ha : App w 23 v w' v' xs) : Els w' us ll :=
  h.mono fun _ _ h => h.grown ha.grown (hv.apart h (by decide))
theorem zTn {B : Nat} {a w : World} (h : Below B a w) (n : Nat) : Below B a (w.drewN n) := h.trans ⟨rfl, rfl, rfl, zN, fun _ _ => rfl⟩
theorem Rd.drewN {w : World} {v : Value} {l : List Int} (h : Rd w v l) (n : Nat) : Rd (w.drewN n) v l := h
end
section
namespace Sha
def wi (x : BitVec 32) : Int := (x.toNat : Int)
def wv (x : BitVec 32) : Value := .int .u32 (wi x)
theorem zCx (x : BitVec 32) : BitVec.ofInt 32 (wi x) = x := by unfold wi; simp
theorem zPc (n : Int) (h0 : 0 ≤ n) (h1 : n < 4294967296) : wi (BitVec.ofInt 32 n) = n := by
  unfold wi
  rw [BitVec.toNat_ofInt]
  simp
  omega
theorem wrap_wi (n : Int) : IntKind.u32.wrap n = wi (BitVec.ofInt 32 n) := by
  rw [IntKind.wrap_u32]
  unfold wi
  rw [BitVec.toNat_ofInt]
  simp
  omega
theorem zGl (x : BitVec 32) : IntKind.u32.wrap (x.toNat : Int) = wi x := by
  rw [IntKind.wrap_u32]
  have := x.isLt
  unfold wi
  omega
theorem zPt (x y : BitVec 32) : bits .and .u32 (wi x) (wi y) = wi (x &&& y) := by
  show IntKind.u32.wrap _ = _
  simp only [IntKind.bits]
  rw [zCx, zCx, zGl]
  rfl
theorem zJz (x y : BitVec 32) : bits .or .u32 (wi x) (wi y) = wi (x ||| y) := by
  show IntKind.u32.wrap _ = _
  simp only [IntKind.bits]
  rw [zCx, zCx, zGl]
  rfl
theorem zCh (x y : BitVec 32) : bits .xor .u32 (wi x) (wi y) = wi (x ^^^ y) := by
  show IntKind.u32.wrap _ = _
  simp only [IntKind.bits]
  rw [zCx, zCx, zGl]
  rfl
theorem zJn (x y : BitVec 32) : (wi x + wi y) % 4294967296 = wi (x + y) := by
  unfold wi
  rw [BitVec.toNat_add]
  omega
theorem zGf (x : BitVec 32) (n : Nat) : wi x / 2 ^ n = wi (x >>> n) := by
  unfold wi
  rw [BitVec.toNat_ushiftRight, Nat.shiftRight_eq_div_pow]
  simp
theorem shl_wi (x : BitVec 32) (n : Nat) : (wi x * 2 ^ n) % 4294967296 = wi (x <<< n) := by
  unfold wi
  rw [BitVec.toNat_shiftLeft, Nat.shiftLeft_eq]
  simp
theorem max_wi : IntKind.u32.max = wi (BitVec.allOnes 32) := by decide
theorem bits_not (x : BitVec 32) : bits .xor .u32 IntKind.u32.max (wi x) = wi (~~~x) := by
  rw [max_wi, zCh, BitVec.allOnes_xor]
theorem zTx (x : BitVec 32) : bits .xor .u32 (wi x) 4294967295 = wi (~~~x) := by
  rw [show (4294967295 : Int) = wi (BitVec.allOnes 32) by decide, zCh, BitVec.xor_allOnes]
theorem zSc (n : Int) : n % 4294967296 = wi (BitVec.ofInt 32 n) := by rw [← IntKind.wrap_u32, wrap_wi]
theorem zIj (a b : Int) : BitVec.ofInt 32 (a + b) = BitVec.ofInt 32 a + BitVec.ofInt 32 b := BitVec.ofInt_add a b
def zEs (x : BitVec 32) (n : Nat) : BitVec 32 := (x >>> n) ||| (x <<< (32 - n))
def s0 (x : BitVec 32) : BitVec 32 := zEs x 7 ^^^ zEs x 18 ^^^ (x >>> 3)
def s1 (x : BitVec 32) : BitVec 32 := zEs x 17 ^^^ zEs x 19 ^^^ (x >>> 10)
def S0 (x : BitVec 32) : BitVec 32 := zEs x 2 ^^^ zEs x 13 ^^^ zEs x 22
def S1 (x : BitVec 32) : BitVec 32 := zEs x 6 ^^^ zEs x 11 ^^^ zEs x 25
def ch (e f g : BitVec 32) : BitVec 32 := (e &&& f) ||| (~~~e &&& g)
def maj (a b c : BitVec 32) : BitVec 32 := (a &&& b) ||| (a &&& c) ||| (b &&& c)
structure St where
  a : BitVec 32
  b : BitVec 32
  c : BitVec 32
  d : BitVec 32
  e : BitVec 32
  f : BitVec 32
  g : BitVec 32
  h : BitVec 32
def St.ws (s : St) : List (BitVec 32) := [s.a, s.b, s.c, s.d, s.e, s.f, s.g, s.h]
def St.vs (s : St) : List Value := s.ws.map wv
theorem St.ws_len (s : St) : s.ws.length = 8 := rfl
theorem St.vs_len (s : St) : s.vs.length = 8 := rfl
def st0 : St := ⟨0x6a09e667#32, 0xbb67ae85#32, 0x3c6ef372#32, 0xa54ff53a#32, 0x510e527f#32, 0x9b05688c#32, 0x1f83d9ab#32, 0x5be0cd19#32⟩
def kk : List (BitVec 32) := [
  0x428a2f98#32, 0x71374491#32, 0xb5c0fbcf#32, 0xe9b5dba5#32, 0x3956c25b#32, 0x59f111f1#32, 0x923f82a4#32, 0xab1c5ed5#32,
  0xd807aa98#32, 0x12835b01#32, 0x243185be#32, 0x550c7dc3#32, 0x72be5d74#32, 0x80deb1fe#32, 0x9bdc06a7#32, 0xc19bf174#32,
  0xe49b69c1#32, 0xefbe4786#32, 0x0fc19dc6#32, 0x240ca1cc#32, 0x2de92c6f#32, 0x4a7484aa#32, 0x5cb0a9dc#32, 0x76f988da#32,
  0x983e5152#32, 0xa831c66d#32, 0xb00327c8#32, 0xbf597fc7#32, 0xc6e00bf3#32, 0xd5a79147#32, 0x06ca6351#32, 0x14292967#32,
  0x27b70a85#32, 0x2e1b2138#32, 0x4d2c6dfc#32, 0x53380d13#32, 0x650a7354#32, 0x766a0abb#32, 0x81c2c92e#32, 0x92722c85#32,
  0xa2bfe8a1#32, 0xa81a664b#32, 0xc24b8b70#32, 0xc76c51a3#32, 0xd192e819#32, 0xd6990624#32, 0xf40e3585#32, 0x106aa070#32,
  0x19a4c116#32, 0x1e376c08#32, 0x2748774c#32, 0x34b0bcb5#32, 0x391c0cb3#32, 0x4ed8aa4a#32, 0x5b9cca4f#32, 0x682e6ff3#32,
  0x748f82ee#32, 0x78a5636f#32, 0x84c87814#32, 0x8cc70208#32, 0x90befffa#32, 0xa4506ceb#32, 0xbef9a3f7#32, 0xc67178f2#32]
theorem kk_len : kk.length = 64 := rfl
def zRw (s : St) (i : BitVec 32) : St :=
  let t1 := s.h + S1 s.e + ch s.e s.f s.g + i
  ⟨t1 + (S0 s.a + maj s.a s.b s.c), s.a, s.b, s.c, s.d + t1, s.e, s.f, s.g⟩
def wrd (p : List Int) (t : Nat) : BitVec 32 :=
  BitVec.ofInt 32 (((p.getD (4 * t) 0 * 256 + p.getD (4 * t + 1) 0) * 256 + p.getD (4 * t + 2) 0) * 256 + p.getD (4 * t + 3) 0)
def nxt (p : List Int) (ws : List (BitVec 32)) : BitVec 32 :=
  if ws.length < 16 then wrd p ws.length
  else s1 (ws.getD (ws.length - 2) 0) + ws.getD (ws.length - 7) 0 + s0 (ws.getD (ws.length - 15) 0) + ws.getD (ws.length - 16) 0
def sch (p : List Int) : Nat → List (BitVec 32)
  | 0 => []
  | n + 1 => sch p n ++ [nxt p (sch p n)]
theorem zCp (p : List Int) : ∀ n, (sch p n).length = n
  | 0 => rfl
  | n + 1 => by rw [sch, List.length_append, zCp p n]; rfl
def rnd (ws : List (BitVec 32)) (s : St) : Nat → St
  | 0 => s
  | t + 1 => zRw (rnd ws s t) (kk.getD t 0 + ws.getD t 0)
def St.add (s v : St) : St := ⟨s.a + v.a, s.b + v.b, s.c + v.c, s.d + v.d, s.e + v.e, s.f + v.f, s.g + v.g, s.h + v.h⟩
def blk (s : St) (p : List Int) : St := s.add (rnd (sch p 64) s 64)
def zDk (m : List Int) : Nat → St
  | 0 => st0
  | n + 1 => blk (zDk m n) ((m.drop (64 * n)).take 64)
def be4 (x : BitVec 32) : List Int := [wi (x >>> 24) % 256, wi (x >>> 16) % 256, wi (x >>> 8) % 256, wi x % 256]
def St.out (s : St) : List Int := s.ws.flatMap be4
def be8 (n : Int) : List Int := [n / 72057594037927936 % 256, n / 281474976710656 % 256, n / 1099511627776 % 256, n / 4294967296 % 256, n / 16777216 % 256, n / 65536 % 256, n / 256 % 256, n % 256]
theorem zEe (n : Int) : (be8 n).length = 8 := rfl
def zs (n : Nat) : Nat := (119 - n % 64) % 64
def pad (l : List Int) : List Int := l ++ 128 :: (List.replicate (zs l.length) 0 ++ be8 (8 * l.length))
def zNv (l : List Int) : List Int := (zDk (pad l) ((pad l).length / 64)).out
theorem zL0 (s : St) : s.out.length = 32 := rfl
theorem zPp (l : List Int) : (zNv l).length = 32 := rfl
theorem be4_byt (x : BitVec 32) : ∀ b ∈ be4 x, 0 ≤ b ∧ b ≤ 255 := by
  intro b hb
  simp only [be4, List.mem_cons, List.not_mem_nil, or_false] at hb
  rcases hb with rfl | rfl | rfl | rfl <;> omega
theorem out_byt (s : St) : ∀ b ∈ s.out, 0 ≤ b ∧ b ≤ 255 := by
  intro b hb
  obtain ⟨x, _, hx⟩ := List.mem_flatMap.1 hb
  exact be4_byt x b hx
theorem zMy (l : List Int) : (pad l).length = 64 * ((l.length + 8) / 64 + 1) := by
  simp only [pad, List.length_append, List.length_cons, List.length_replicate, zEe, zs]
  omega
theorem zEu (l x : List Int) : ∀ n, 64 * n ≤ l.length → zDk (l ++ x) n = zDk l n
  | 0, _ => rfl
  | n + 1, h => by
    simp only [zDk]
    rw [zEu l x n (by omega)]
    congr 1
    rw [List.drop_append_of_le_length (by omega), List.take_append_of_le_length (by simp; omega)]
end Sha
end
section
open Go.RowKit Oct Sha
theorem and31 (z : Int) (h0 : 0 ≤ z) (h1 : z < 18446744073709551616) : bits .and .u64 z 31 = z % 32 :=
  bits_mask .u64 64 (by decide) (fun n a b => by rw [IntKind.wrap_u64]; omega) 5 (by decide) z h0 h1
theorem rotl_any (w : World) (x : BitVec 32) (n : Nat) (h0 : 1 ≤ n) (h1 : n ≤ 31) :
    Calls Tryz.prog 170 #[.int .u32 (wi x), .int .i64 (-(n : Int))] w fun e w' => e = .returned (.int .u32 (wi (zEs x n))) ∧ w' = w := by
  obtain ⟨m, hm, hm0, hm1⟩ : ∃ m : Nat, m = 32 - n ∧ 1 ≤ m ∧ m ≤ 31 := ⟨32 - n, rfl, by omega, by omega⟩
  have hs : bits .and .u64 (IntKind.u64.wrap (-(n : Int))) 31 = (m : Int) := by
    have h : IntKind.u64.wrap (-(n : Int)) = 18446744073709551616 - (n : Int) := by rw [IntKind.wrap_u64]; omega
    rw [h, and31 _ (by omega) (by omega)]
    omega
  have hd : (32 : Int) - m = n := by omega
  rw [show zEs x n = (x <<< m) ||| (x >>> n) by rw [hm, zEs, BitVec.or_comm]]
  clear hm
  go_enter Tryz.func170, Tryz.ntmps170
  go_wp2_with fail
  go_ret
  exact ⟨zDj (by rw [shl_wi, zGf, zJz]), rfl⟩
theorem zE2 (w : World) (x : BitVec 32) (n : Nat) (h0 : 1 ≤ n) (h1 : n ≤ 31) :
    Calls Tryz.prog 169 #[.int .u32 (wi x), .int .i64 (n : Int)] w fun e w' => e = .returned (.int .u32 (wi (zEs x n))) ∧ w' = w := by
  go_enter Tryz.func169, Tryz.ntmps169
  go_wp2_with fail
  refine (rotl_any _ x n h0 h1).mono ?_
  rintro e w' ⟨rfl, rfl⟩
  go_wp2_with fail
  go_ret
  exact ⟨rfl, rfl⟩
theorem zJp (w : World) (x : BitVec 32) (i j k : Nat) (hi : 1 ≤ i ∧ i ≤ 31) (hj : 1 ≤ j ∧ j ≤ 31) (hk : 1 ≤ k ∧ k ≤ 31) :
    Calls Tryz.prog 168 #[.int .u32 (wi x), .int .i64 (i : Int), .int .i64 (j : Int), .int .i64 (k : Int)] w fun e w' => e = .returned (.int .u32 (wi (zEs x i ^^^ zEs x j ^^^ zEs x k))) ∧ w' = w := by
  go_enter Tryz.func168, Tryz.ntmps168
  go_wp2_with fail
  refine (zE2 _ x i hi.1 hi.2).mono ?_
  rintro e w' ⟨rfl, rfl⟩
  go_wp2_with fail
  refine (zE2 _ x j hj.1 hj.2).mono ?_
  rintro e w' ⟨rfl, rfl⟩
  go_wp2_with fail
  refine (zE2 _ x k hk.1 hk.2).mono ?_
  rintro e w' ⟨rfl, rfl⟩
  go_wp2_with fail
  go_ret
  exact ⟨zDj (by rw [zCh, zCh]), rfl⟩
theorem S1_any (w : World) (x : BitVec 32) :
    Calls Tryz.prog 168 #[.int .u32 (wi x), .int .i64 6, .int .i64 11, .int .i64 25] w fun e w' => e = .returned (.int .u32 (wi (S1 x))) ∧ w' = w :=
  zJp w x 6 11 25 (by decide) (by decide) (by decide)
theorem S0_any (w : World) (x : BitVec 32) :
    Calls Tryz.prog 168 #[.int .u32 (wi x), .int .i64 2, .int .i64 13, .int .i64 22] w fun e w' => e = .returned (.int .u32 (wi (S0 x))) ∧ w' = w :=
  zJp w x 2 13 22 (by decide) (by decide) (by decide)
theorem right_7 (w : World) (x : BitVec 32) : Calls Tryz.prog 169 #[.int .u32 (wi x), .int .i64 7] w fun e w' => e = .returned (.int .u32 (wi (zEs x 7))) ∧ w' = w := zE2 w x 7 (by decide) (by decide)
theorem right_17 (w : World) (x : BitVec 32) : Calls Tryz.prog 169 #[.int .u32 (wi x), .int .i64 17] w fun e w' => e = .returned (.int .u32 (wi (zEs x 17))) ∧ w' = w := zE2 w x 17 (by decide) (by decide)
theorem right_18 (w : World) (x : BitVec 32) : Calls Tryz.prog 169 #[.int .u32 (wi x), .int .i64 18] w fun e w' => e = .returned (.int .u32 (wi (zEs x 18))) ∧ w' = w := zE2 w x 18 (by decide) (by decide)
theorem right_19 (w : World) (x : BitVec 32) : Calls Tryz.prog 169 #[.int .u32 (wi x), .int .i64 19] w fun e w' => e = .returned (.int .u32 (wi (zEs x 19))) ∧ w' = w := zE2 w x 19 (by decide) (by decide)
theorem zQz (w : World) (x : BitVec 32) : Calls Tryz.prog 167 #[.int .u32 (wi x)] w fun e w' => e = .returned (.int .u32 (wi (s0 x))) ∧ w' = w := by
  go_enter Tryz.func167, Tryz.ntmps167
  go_wp2_with fail
  refine (right_7 _ x).mono ?_
  rintro e w' ⟨rfl, rfl⟩
  go_wp2_with fail
  refine (right_18 _ x).mono ?_
  rintro e w' ⟨rfl, rfl⟩
  go_wp2_with fail
  go_ret
  exact ⟨zDj (by rw [show (8 : Int) = 2 ^ 3 from rfl, zGf, zCh, zCh]; rfl), rfl⟩
theorem zRo (w : World) (x : BitVec 32) : Calls Tryz.prog 166 #[.int .u32 (wi x)] w fun e w' => e = .returned (.int .u32 (wi (s1 x))) ∧ w' = w := by
  go_enter Tryz.func166, Tryz.ntmps166
  go_wp2_with fail
  refine (right_17 _ x).mono ?_
  rintro e w' ⟨rfl, rfl⟩
  go_wp2_with fail
  refine (right_19 _ x).mono ?_
  rintro e w' ⟨rfl, rfl⟩
  go_wp2_with fail
  go_ret
  exact ⟨zDj (by rw [show (1024 : Int) = 2 ^ 10 from rfl, zGf, zCh, zCh]; rfl), rfl⟩
theorem turn_any (w : World) (x : BitVec 32) (n : Nat) (h0 : 1 ≤ n) (h1 : n ≤ 31) :
    Calls Tryz.prog 152 #[.int .u32 (wi x), .int .i64 (n : Int)] w fun e w' => e = .returned (.int .u32 (wi (zEs x n))) ∧ w' = w := by
  obtain ⟨m, hm, hm0, hm1⟩ : ∃ m : Nat, m = 32 - n ∧ 1 ≤ m ∧ m ≤ 31 := ⟨32 - n, rfl, by omega, by omega⟩
  have hd : (32 : Int) - n = m := by omega
  rw [show zEs x n = (x >>> n) ||| (x <<< m) by rw [hm, zEs]]
  clear hm
  go_enter Tryz.func152, Tryz.ntmps152
  go_wp2_with fail
  go_ret
  exact ⟨zDj (by rw [shl_wi, zGf, zJz]), rfl⟩
end
section
open Go.RowKit Oct Sha
variable {P : Program}
theorem zTw (w : World) (T ty elem : TypeId) (i : TypeInfo) (hu : P.underlying T = some (.slice elem)) (hi : P.info? elem = some i) (hz : i.zero = some (.int .u8 0))
    (dp : Option Addr) (n cap g off : Nat) (cur : List Value) (t : TypeId) (hg : Row w g t cur) (hpos : 0 < n → dp = some ⟨g, off, none⟩) (hfit : off + n ≤ cur.length) :
    ∃ w', (Builtin.clear_ #[T] ty #[.slice dp n cap]).run P w = .ok (.tuple #[]) w' ∧ Row w' g t (splice cur off (bc (List.replicate n 0))) ∧ w.grownBy w' (some g) := by
  by_cases h0 : n = 0
  · subst h0
    refine ⟨w, ?_, by simpa [splice, bc] using hg, zBi _ _⟩
    cases dp <;> simp [Builtin.clear_, run_underlying hu]
  · obtain rfl := hpos (by omega)
    have hzc : (Builtin.zeroCells #[Value.int .u8 0] n).toList = bc (List.replicate n 0) := by
      apply List.ext_getElem
      · simp [Builtin.zeroCells, bc]
      · intro k h1 h2
        simp [Builtin.zeroCells, bc, Nat.mod_one]
    have hst := run_storeCells_at P g off t (bc (List.replicate n 0)) 0 cur.toArray w hg (by simp [bc]; omega) (zJi _)
    refine ⟨_, ?_, hg.setRow _, zBn _ _ _⟩
    obtain ⟨m, rfl⟩ : ∃ m, n = m + 1 := ⟨n - 1, by omega⟩
    simp [Builtin.clear_, run_underlying hu, zeroValue, typeInfo, hi, hz, Value.cells, hzc, hst, splice]
theorem zJx {ops : Array Oper} {rest : List Oper} {o : Oper} {a : Act} {w : World} {Q : Exit → Act → World → Prop} (hgd : o.guard = none) (s : Operand) (T : TypeId)
    (ho : o.op = .call { callee := .builtin .clear, args := #[s], argTypes := #[T] }) (elem : TypeId) (i : TypeInfo) (hu : P.underlying T = some (.slice elem)) (hi : P.info? elem = some i) (hz : i.zero = some (.int .u8 0))
    (dp : Option Addr) (n cap g off : Nat) (hs : a.eval s = .slice dp n cap) (cur : List Value) (t : TypeId) (hg : Row w g t cur) (hpos : 0 < n → dp = some ⟨g, off, none⟩) (hfit : off + n ≤ cur.length)
    (k : ∀ w', Hid (Row w' g t (splice cur off (bc (List.replicate n 0)))) → w.grownBy w' (some g) → wpList P ops Q rest (a.put o.dst (.tuple #[])) w') : wpList P ops Q (o :: rest) a w :=
  wpList_plain hgd fun _ hK => by
    obtain ⟨w', hrun, h2, h3⟩ := zTw (P := P) w T o.type elem i hu hi hz dp n cap g off cur t hg hpos hfit
    unfold Oper.wp
    simp [execOp, ho, resolve, invoke, builtin, hs, hrun, Result.andThen]
    exact hK _ _ (k w' h2 h3)
theorem zFd (ws : List (BitVec 32)) : ∀ u ∈ ws.map wv, u.oneCell' = true := by
  intro u hu
  obtain ⟨x, _, rfl⟩ := List.mem_map.1 hu
  rfl
end
section
open Go.RowKit Oct
end
section
namespace Kvl
abbrev zQk := List Int × List Int
abbrev POp := Int × List Int × List Int × List Int × Int
def zD8 : List Int → List Int → Int
  | [], [] => 0
  | [], _ :: _ => -1
  | _ :: _, [] => 1
  | a :: as0, b :: bs => if a < b then -1 else if b < a then 1 else zD8 as0 bs
theorem zKp : ∀ a : List Int, zD8 a a = 0
  | [] => rfl
  | a :: as0 => by simp [zD8, zKp as0]
theorem cmp_eq : ∀ {a b : List Int}, zD8 a b = 0 → a = b
  | [], [], _ => rfl
  | [], _ :: _, h => by simp [zD8] at h
  | _ :: _, [], h => by simp [zD8] at h
  | a :: as0, b :: bs, h => by
    unfold zD8 at h
    split at h
    · simp at h
    · split at h
      · simp at h
      · rw [cmp_eq h, show a = b by omega]
theorem cmp_zero {a b : List Int} : zD8 a b = 0 ↔ a = b := ⟨cmp_eq, fun h => by rw [h, zKp]⟩
theorem zTa : ∀ a b : List Int, zD8 b a = - zD8 a b
  | [], [] => by simp [zD8]
  | [], _ :: _ => by simp [zD8]
  | _ :: _, [] => by simp [zD8]
  | a :: as0, b :: bs => by
    have ih := zTa as0 bs
    unfold zD8
    by_cases h1 : a < b
    · rw [if_pos h1, if_neg (by omega), if_pos h1]; rfl
    · by_cases h2 : b < a
      · rw [if_pos h2, if_neg h1, if_pos h2]
      · rw [if_neg h1, if_neg h2, if_neg h1, if_neg h2]; exact ih
/-! Entries. -/
def rgt1 (e : zQk) : Prop := 1 ≤ e.1.length ∧ e.1.length ≤ 16 ∧ e.2.length ≤ 64
instance (e : zQk) : Decidable (rgt1 e) := by unfold rgt1; infer_instance
def up : List Int → List zQk → Prop
  | _, [] => True
  | n, x :: r => zD8 n x.1 < 0 ∧ up x.1 r
instance upDec : (n : List Int) → (l : List zQk) → Decidable (up n l)
  | _, [] => isTrue trivial
  | n, x :: r => @instDecidableAnd _ _ _ (upDec x.1 r)
def rgtL (l : List zQk) : Prop := l.length ≤ 64 ∧ up [] l ∧ ∀ e ∈ l, rgt1 e
instance (l : List zQk) : Decidable (rgtL l) := by unfold rgtL; infer_instance
def getR (n : List Int) : List zQk → Option (List Int)
  | [] => none
  | x :: r => if zD8 x.1 n < 0 then getR n r else if x.1 = n then some x.2 else none
def putR (n v : List Int) : List zQk → List zQk
  | [] => [(n, v)]
  | x :: r => if zD8 x.1 n < 0 then x :: putR n v r else if x.1 = n then (n, v) :: r else (n, v) :: x :: r
/-! Operations. -/
def mA (k : Int) : Nat := if k = 2 ∨ k = 3 then 64 else 0
def mB (k : Int) : Nat := if k = 3 then 64 else 0
def lN (k : Int) : Int := if k = 5 ∨ k = 6 then 1 else 0
def mN (k : Int) : Int := if k = 5 ∨ k = 6 then 1000 else 0
def wok (o : POp) : Prop := (1 ≤ o.1 ∧ o.1 ≤ 8) ∧ (1 ≤ o.2.1.length ∧ o.2.1.length ≤ 16) ∧ o.2.2.1.length ≤ mA o.1 ∧ o.2.2.2.1.length ≤ mB o.1 ∧ lN o.1 ≤ o.2.2.2.2 ∧ o.2.2.2.2 ≤ mN o.1
instance (o : POp) : Decidable (wok o) := by unfold wok; infer_instance
end Kvl
end
section
open Go.RowKit Oct Kvl
theorem u8_lt {x y : Int} (hx : 0 ≤ x ∧ x ≤ 255) (hy : 0 ≤ y ∧ y ≤ 255) : (x.toNat.toUInt8 < y.toNat.toUInt8) ↔ x < y := by
  rw [UInt8.lt_iff_toNat_lt]
  simp
  omega
theorem zMe : ∀ {a b : List Int}, Byt a → Byt b → Lib.compareBytes (Lib.bytesOf a) (Lib.bytesOf b) = zD8 a b
  | [], [], _, _ => rfl
  | [], _ :: _, _, _ => rfl
  | _ :: _, [], _, _ => rfl
  | x :: a, y :: b, ha, hb => by
    have hx := ha x (by simp)
    have hy := hb y (by simp)
    have ih := zMe (a := a) (b := b) (fun z hz => ha z (by simp [hz])) (fun z hz => hb z (by simp [hz]))
    show (if x.toNat.toUInt8 < y.toNat.toUInt8 then -1 else if y.toNat.toUInt8 < x.toNat.toUInt8 then 1 else Lib.compareBytes (Lib.bytesOf a) (Lib.bytesOf b)) = _
    unfold zD8
    rw [ih]
    simp only [u8_lt hx hy, u8_lt hy hx]
theorem zIm {P : Program} {w : World} {v : Value} {l : List Int} (h : Rd w v l) : (Extern.Bytes.bytesOf v).run P w = .ok ⟨(Lib.bytesOf l).toArray⟩ w := by
  obtain ⟨hb, ao, cap, rfl, h1, h2, h3, h4⟩ := h
  cases ao with
  | none =>
    have := (h3 rfl).1
    simp [bc] at this
    subst this
    rfl
  | some a =>
    have := Lib.run_loadBytesX (P := P) w l a .empty (fun j x hj => h4 a rfl j _ (by rw [bc_at, hj]; rfl))
    rw [zAn]
    show Sem.run P (Extern.Bytes.loadBytes a l.length .empty) w = _
    rw [this]
    congr 1
    apply ByteArray.ext
    show (#[] : Array UInt8) ++ (Lib.bytesOf l).toArray = (Lib.bytesOf l).toArray
    simp
theorem run_cmp {w : World} {u v : Value} {a b : List Int} (ha : Rd w u a) (hb : Rd w v b) : (callFunc 79 #[u, v]).run Tryz.prog w = .ok (.value (.int .i64 (zD8 a b))) w := by
  rw [run_callFunc_extern Tryz.func79 (by kernel_rfl) (by kernel_rfl) (by kernel_rfl) (e := Extern.BytealgCompare.compare) (by kernel_rfl)]
  have h : (Extern.BytealgCompare.compare #[u, v]).run Tryz.prog w = .ok (.int .i64 (zD8 a b)) w := by
    show Sem.run Tryz.prog (do pure (goInt (Extern.BytealgCompare.cmp (← Extern.Bytes.bytesOf u) (← Extern.Bytes.bytesOf v)))) w = _
    simp only [Sem.run_bind, zIm ha, zIm hb, Result.andThen, Sem.run_pure, Lib.cmp_eq]
    rw [zMe ha.1 hb.1]
    rfl
  rw [h]
  rfl
theorem zIc (w : World) (u v : Value) (a b : List Int) (ha : Rd w u a) (hb : Rd w v b) :
    Calls Tryz.prog 44 #[u, v] w fun e w' => e = .returned (.int .i64 (zD8 a b)) ∧ w' = w := by
  have h := run_cmp ha hb
  go_enter Tryz.func44, Tryz.ntmps44
  go_wp2_with (simp only [h])
  go_ret
  exact ⟨rfl, rfl⟩
end
section
open Go.RowKit Oct
set_option maxRecDepth 10000 in
theorem zTl (w : World) (v : Value) (l : List Int) (h : Rd w v l) (hl : l.length ≤ 140737488355328) :
    Calls Tryz.prog 64 #[v] w fun e w' => ∃ v', e = .returned v' ∧ Own w' 5 v' (bc l) ∧ Fr w.heap.size v' ∧ Below w.heap.size w w' := by
  obtain ⟨ao, ac, rfl, hac⟩ := h.form
  cases ao with
  | none =>
    obtain ⟨rfl, rfl⟩ : l = [] ∧ ac = 0 := by
      obtain ⟨_, ao', cap', e, _, _, h3, _⟩ := h
      injection e with e1 e2 e3
      have := h3 e1.symm
      rw [e3]
      simpa [bc] using this
    have hq : ∀ u : World, (binOp .eql 23 (.slice none 0 0) (.slice none 0 0)).run Tryz.prog u = .ok (.bool true) u := fun u => Lib.run_eql_slice_nil u 23 5 none 0 0 0 0 Tryz.underlying23
    go_enter Tryz.func64, Tryz.ntmps64
    go_wp2_with fail
    go_ret
    exact ⟨_, rfl, Own.nil _ _, Fr.nil _, Below.refl _ _⟩
  | some a =>
    have hq : ∀ u : World, (binOp .eql 23 (.slice (some a) l.length ac) (.slice none 0 0)).run Tryz.prog u = .ok (.bool false) u := fun u => Lib.run_eql_slice_nil u 23 5 (some a) l.length ac 0 0 Tryz.underlying23
    go_enter Tryz.func64, Tryz.ntmps64
    go_wp2_with (at_builtin; refine zCi rfl _ _ rfl rfl _ l rfl h (by omega) ?_; intro o2 w2 hown2 hfr2 hb2)
    go_ret
    exact ⟨_, rfl, hown2, hfr2, hb2⟩
theorem zCa (w : World) (v : Value) (l : List Int) (h : Rd w v l) (hl : l.length ≤ 140737488355328) :
    Calls Tryz.prog 64 #[v] w fun e w' => ∃ v', e = .returned v' ∧ RT (zB0 w.heap.size) w' v' l ∧ Below w.heap.size w w' :=
  (zTl w v l h hl).mono fun e w' ⟨v', h1, h2, h3, h4⟩ => ⟨v', h1, RT.own h2 h.1 h3, h4⟩
end
section
open Go.ChangeShapes Go.WideShapes Go.ChangeAt Go.RowKit Oct
theorem wf_u8 {n : Int} (h : (Lit.int .u8 n).wf = true) : 0 ≤ n ∧ n ≤ 255 := bounds_u8 h
def zO8 {H : Type} (d : DataW H) (l : List Int) : Prop := (d = .nil ∧ l = []) ∨ ∃ spare, d = .slice (lits .u8 l) spare
theorem zFx {H : Type} {enc : TypeId × Value → H} {P : Program} {w : World} {base fuel : Nat} {held : Bool} {t e : TypeId} (ht : P.underlying t = some (.slice e)) (he : P.underlying e = some (.int .u8)) (hc : P.cellsOf e = 1)
    {v : Value} {x : DataW H × List MemPlace} (hf : DataW.trod enc P w base (fun _ => true) held fuel t [v] = some x) : ∃ l, Rd w v l ∧ zO8 x.1 l := by
  rcases open_ints ht he hc hf with ⟨hcs, hx⟩ | ⟨a, len, cap, zs, hcs, _, hl, hm, hz, hx, hcell, hwz⟩
  · simp only [List.cons.injEq, and_true] at hcs
    subst hcs
    subst hx
    exact ⟨[], ⟨Byt.nil, none, 0, rfl, zN, Nat.zero_le _, fun _ => ⟨rfl, rfl⟩, fun a ha => by cases ha⟩, .inl ⟨rfl, rfl⟩⟩
  · simp only [List.cons.injEq, and_true] at hcs
    subst hcs
    subst hx
    simp only [if_true] at hz
    have hlen : (bc (zs.take len)).length = len := by rw [zAn, List.length_take]; omega
    refine ⟨zs.take len, ⟨fun y hy => wf_u8 (hwz y (List.mem_of_mem_take hy)), some a, cap, by rw [hlen], by rw [hlen]; exact hl, hm, fun e => (by cases e), fun b hb j u hu => ?_⟩, .inr ⟨_, rfl⟩⟩
    cases hb
    have hj : j < len := by
      rcases Nat.lt_or_ge j len with h | h
      · exact h
      · rw [List.getElem?_eq_none (by omega)] at hu; cases hu
    rw [hcell j (by omega)]
    rw [zDz _ _ (by rw [List.length_take]; omega)] at hu
    rw [← hu]
    simp [List.getD, hj]
theorem zQc {H : Type} {enc : TypeId × Value → H} {P : Program} {w : World} {base : Nat} {held : Bool} {t e : TypeId} (ht : P.underlying t = some (.slice e)) (he : P.underlying e = some (.int .u8)) (hc : P.cellsOf e = 1)
    {a : Option Addr} {len cap : Nat} {d : DataW H} {p : List MemPlace} (h : DataW.Trod enc P w base (fun _ => true) held t (.slice a len cap) d p) :
    ∃ l, Rd w (.slice a len cap) l ∧ zO8 d l := by
  obtain ⟨fuel, hf⟩ := h
  have := zFx ht he hc (v := .slice a len cap) (by simpa [Value.cells] using hf)
  simpa using this
end
section
open Go.ChangeShapes Go.RowKit Oct
theorem bulk_one {H : Type} (d : DataW H) : 1 ≤ Rows.uptoBulk d := by
  cases d with
  | lit l => cases l <;> simp [Rows.uptoBulk]
  | nil => simp [Rows.uptoBulk]
  | ptr d => simp [Rows.uptoBulk]
  | slice elems spare => simp [Rows.uptoBulk]
  | agg parts => simp [Rows.uptoBulk]
  | iface t d => simp [Rows.uptoBulk]
  | map entries => simp [Rows.uptoBulk]
  | held h => simp [Rows.uptoBulk]
theorem zUv {H : Type} {d : DataW H} {l : List (DataW H)} (h : d ∈ l) : Rows.uptoBulk d ≤ Rows.uptoBulkAll l := by
  induction l with
  | nil => cases h
  | cons x r ih =>
    simp only [Rows.uptoBulkAll]
    cases List.mem_cons.1 h with
    | inl e => subst e; omega
    | inr e => have := ih e; omega
theorem bulk_len {H : Type} (l : List (DataW H)) : l.length ≤ Rows.uptoBulkAll l := by
  induction l with
  | nil => simp [Rows.uptoBulkAll]
  | cons x r ih => have := bulk_one x; simp only [Rows.uptoBulkAll, List.length_cons]; omega
theorem zR7 {H : Type} {d : DataW H} {l : List Int} (h : zO8 d l) : l.length + 1 ≤ Rows.uptoBulk d := by
  rcases h with ⟨rfl, rfl⟩ | ⟨sp, rfl⟩
  · simp [Rows.uptoBulk]
  · have h1 := bulk_len (H := H) (lits .u8 l)
    simp only [lits, List.length_map] at h1
    simp only [Rows.uptoBulk, lits]
    omega
theorem bulk_all {H : Type} {l : List (DataW H)} (hk : Rows.uptoSmall H l = true) : Rows.uptoBulkAll l ≤ 1048576 := of_decide_eq_true hk
end
section
open Go.RowKit Oct Kvl
theorem zPf : ∀ {a b : List Int}, Byt a → Byt b → Op.bytesLess (a.map fun n => UInt8.ofNat n.toNat) (b.map fun n => UInt8.ofNat n.toNat) = decide (zD8 a b < 0)
  | [], [], _, _ => rfl
  | [], _ :: _, _, _ => rfl
  | _ :: _, [], _, _ => rfl
  | x :: a, y :: b, ha, hb => by
    have hx := ha x (by simp)
    have hy := hb y (by simp)
    have ih := zPf (a := a) (b := b) (fun z hz => ha z (by simp [hz])) (fun z hz => hb z (by simp [hz]))
    simp only [List.map_cons, Op.bytesLess, ih, zD8]
    have h1 : (UInt8.ofNat x.toNat < UInt8.ofNat y.toNat) ↔ x < y := u8_lt hx hy
    by_cases hxy : x < y
    · simp [hxy, h1]
    · by_cases hyx : y < x
      · have h2 : ¬ (UInt8.ofNat x.toNat = UInt8.ofNat y.toNat) := by
          intro e
          have := congrArg UInt8.toNat e
          simp at this
          omega
        simp [hxy, h1, hyx, h2]
      · obtain rfl : x = y := by omega
        simp
end
end Go.Proofs.YtgjepofinpmcpaaGreatDoor
