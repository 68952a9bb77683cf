/- Lists of records that are being built; stores into parts of rows. -/
import Derived.Test.YtgbfmccecnfooaaCAAP
import Derived.Deep.AppendLies
namespace Go.Proofs.Ytgbfmccecnfooaa
open Go.RowKit Oct
theorem flat_len {k : Nat} : ∀ {rows : List (List Value)}, (∀ r ∈ rows, r.length = k) → rows.flatten.length = rows.length * k
  | [], _ => by simp
  | r :: rows, h => by
    rw [List.flatten_cons, List.length_append, h r (by simp), flat_len (fun x hx => h x (by simp [hx])), List.length_cons, Nat.add_mul]
    omega
theorem flat_at {k : Nat} : ∀ {rows : List (List Value)} {i : Nat} {r : List Value} {j : Nat} {v : Value}, (∀ r ∈ rows, r.length = k) → rows[i]? = some r → r[j]? = some v → rows.flatten[i * k + j]? = some v
  | [], i, r, j, v, _, h, _ => by simp at h
  | x :: rows, 0, r, j, v, hk, h, hv => by
    simp at h
    subst h
    rw [List.flatten_cons, Nat.zero_mul, Nat.zero_add, List.getElem?_append_left (List.getElem?_eq_some_iff.1 hv).1]
    exact hv
  | x :: rows, i + 1, r, j, v, hk, h, hv => by
    have ih := flat_at (k := k) (rows := rows) (fun y hy => hk y (by simp [hy])) (by simpa using h) hv
    have hx := hk x (by simp)
    rw [List.flatten_cons, List.getElem?_append_right (by rw [hx, Nat.add_mul]; omega), hx]
    rw [show (i + 1) * k + j - k = i * k + j by rw [Nat.add_mul]; omega]
    exact ih
/-- A list of records that the call itself builds, in memory from block B on; no record lies in the list's own row. -/
def LB {α : Type} (R : (Nat → Prop) → World → List Value → α → Prop) (t : TypeId) (k B : Nat) (w : World) (v : Value) (ys : List α) : Prop :=
  ∃ rows, (∀ r ∈ rows, r.length = k) ∧ w.ownsRow 0 t k v rows.length rows.flatten ∧ Fr B v ∧ All2 (R (fun b => B ≤ b ∧ v.ownBlock ≠ some b) w) rows ys
theorem LB.nil {α : Type} (R : (Nat → Prop) → World → List Value → α → Prop) (t : TypeId) (k B : Nat) (w : World) : LB R t k B w (.slice none 0 0) [] :=
  ⟨[], (fun r h => by cases h), World.ownsRow_nil w 0 t k, Fr.nil _, trivial⟩
theorem LB.fresh {α : Type} (R : (Nat → Prop) → World → List Value → α → Prop) (t : TypeId) (k B : Nat) (w : World) (hB : B ≤ w.heap.size) : LB R t k B (w.alloc (.cells #[] t)) (.slice (some ⟨w.heap.size, 0, none⟩) 0 0) [] :=
  ⟨[], (fun r h => by cases h), World.ownsRow_lit (base := 0) (size := k) w #[] 0 (Nat.zero_le _) (by decide) (by simp), (fun j hj => by simp [Value.ownBlock] at hj; omega), trivial⟩
theorem LB.len {α : Type} {R : (Nat → Prop) → World → List Value → α → Prop} {t : TypeId} {k B : Nat} {w : World} {v : Value} {ys : List α} (h : LB R t k B w v ys) : ∃ rows, w.ownsRow 0 t k v ys.length rows := by
  obtain ⟨rows, _, h1, _, h2⟩ := h
  rw [h2.len] at h1
  exact ⟨_, h1⟩
theorem LB.fr {α : Type} {R : (Nat → Prop) → World → List Value → α → Prop} {t : TypeId} {k B : Nat} {w : World} {v : Value} {ys : List α} (h : LB R t k B w v ys) : Fr B v := by
  obtain ⟨rows, _, _, h1, _⟩ := h
  exact h1
theorem LB.lt {α : Type} {R : (Nat → Prop) → World → List Value → α → Prop} {t : TypeId} {k B : Nat} {w : World} {v : Value} {ys : List α} (h : LB R t k B w v ys) : ∀ g, v.ownBlock = some g → g < w.heap.size := by
  obtain ⟨rows, _, h1, _, _⟩ := h
  exact fun g hg => (World.ownsRow.lt h1 g hg).2
theorem LB.form {α : Type} {R : (Nat → Prop) → World → List Value → α → Prop} {t : TypeId} {k B : Nat} {w : World} {v : Value} {ys : List α} (h : LB R t k B w v ys) : v.oneCell' = true := by
  obtain ⟨rows, _, h1, _, _⟩ := h
  rcases h1.2 with ⟨rfl, _⟩ | ⟨g, cap, cur, rfl, _⟩ <;> rfl
theorem LB.grown {α : Type} {R : (Nat → Prop) → World → List Value → α → Prop} (hR : Mov R) {t : TypeId} {k B : Nat} {w w' : World} {v : Value} {ys : List α} (h : LB R t k B w v ys) {b : Nat} (hg : w.grownBy w' (some b)) (hb : b < B) : LB R t k B w' v ys := by
  obtain ⟨rows, h0, h1, h2, h3⟩ := h
  refine ⟨rows, h0, World.ownsRow.kept h1 hg ?_, h2, h3.mono fun r a h => hR _ _ w w' r a h hg.size fun j hj hlt => ⟨hg.block j hlt (fun e => by injection e with e; omega), hj⟩⟩
  cases hv : v.ownBlock with
  | none => exact .inl rfl
  | some g => exact .inr fun e => by injection e with e; have := h2 g hv; omega
theorem LB.below {α : Type} {R : (Nat → Prop) → World → List Value → α → Prop} (hR : Mov R) {t : TypeId} {k B : Nat} {w w' : World} {v : Value} {ys : List α} (h : LB R t k B w v ys) (hb : Below w.heap.size w w') : LB R t k B w' v ys := by
  obtain ⟨rows, h0, h1, h2, h3⟩ := h
  refine ⟨rows, h0, World.ownsRow.kept (row := none) h1 ⟨hb.os, hb.tape, hb.output, hb.size, fun k hk _ => hb.block k hk⟩ (by cases hv : v.ownBlock <;> simp), h2, h3.mono fun r a h => hR _ _ w w' r a h hb.size fun j hj hlt => ⟨hb.block j hlt, hj⟩⟩
/-- A list that is built can be read. -/
theorem LB.rl {α : Type} {R : (Nat → Prop) → World → List Value → α → Prop} (hR : Mov R) {t : TypeId} {k B : Nat} {w : World} {v : Value} {ys : List α} (h : LB R t k B w v ys) : RL R k (From B) w v ys := by
  obtain ⟨rows, h0, h1, h2, h3⟩ := h
  refine ⟨rows, ⟨h0, ?_⟩, h3.mono fun r a h => hR _ _ w w r a h (Nat.le_refl _) fun j hj _ => ⟨rfl, hj.1⟩⟩
  rcases Nat.eq_zero_or_pos rows.length with hn | hn
  · have e : rows = [] := List.eq_nil_of_length_eq_zero hn
    subst e
    rcases h1.2 with ⟨rfl, _⟩ | ⟨g, cap, cur, rfl, _, hg, h4, h5, _⟩
    · exact .inl ⟨none, 0, rfl, rfl, Nat.zero_le _⟩
    · exact .inl ⟨_, cap, rfl, rfl, h5⟩
  · right
    rcases h1.2 with ⟨_, h4⟩ | ⟨g, cap, cur, hv, _, hg, h4, h5, _⟩
    · omega
    · refine ⟨g, 0, cap, hv, h4, h5, hn, h2 g (by rw [hv]; rfl), (Array.getElem?_eq_some_iff.1 hg).1, fun i r hr j u hu => ?_⟩
      subst hv
      have := World.ownsRow.cells h1 (g := g) rfl (i * k + j) u (flat_at h0 hr hu)
      rw [Addr.add_mid] at this
      rw [Nat.zero_add]
      simpa using this
section
variable {P : Program}
end
end Go.Proofs.Ytgbfmccecnfooaa
