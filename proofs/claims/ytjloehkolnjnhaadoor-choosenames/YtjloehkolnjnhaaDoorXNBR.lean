/- Lists of records that are copied one by one: where the loop stands. -/
import Derived.Test.YtjloehkolnjnhaaDoorXNBO
import Derived.Test.YtjloehkolnjnhaaDoorXNBH
set_option linter.unusedSimpArgs false
set_option linter.unusedVariables false
namespace Go.Proofs.YtjloehkolnjnhaaDoor
open Go.RowKit Oct
section
variable {α : Type} {R : (Nat → Prop) → World → List Value → α → Prop} {T : TypeId} {kk : Nat}
/-- A row of records of which the first q are copied. -/
structure MixR (R : (Nat → Prop) → World → List Value → α → Prop) (T : TypeId) (kk : Nat) (B g n cap q : Nat) (w0 w : World) (rows0 : List (List Value)) (ys : List α) : Prop where
  bel : Below B w0 w
  ex : ∃ (cur : List Value) (A : List (List Value)), Row w g T cur ∧ cur.length = cap * kk ∧ A.length = q ∧ (∀ r ∈ A, r.length = kk) ∧ cur.take (n * kk) = (A ++ rows0.drop q).flatten ∧ All2 (R (fun b => B ≤ b ∧ b ≠ g) w) A (ys.take q)
theorem MixR.row {B g n cap q : Nat} {w0 w : World} {rows0 : List (List Value)} {ys : List α} (h : MixR R T kk B g n cap q w0 w rows0 ys) (h0 : ∀ r ∈ rows0, r.length = kk) {r : List Value} (hr : rows0[q]? = some r) (hq : q < n) : w.rangeAt g (q * kk) r := by
  obtain ⟨cur, A, h1, h2, h3, h4, h5, h6⟩ := h.ex
  intro j v hj
  refine h1.cell ?_
  have hrl := h0 r (List.mem_of_getElem? hr)
  have hjl : j < kk := by rw [← hrl]; exact (List.getElem?_eq_some_iff.1 hj).1
  have e : (A ++ rows0.drop q)[q]? = some r := by rw [List.getElem?_append_right (by omega), h3, Nat.sub_self, List.getElem?_drop, Nat.add_zero]; exact hr
  have hl : ∀ x ∈ A ++ rows0.drop q, x.length = kk := fun x hx => by
    rcases List.mem_append.1 hx with hx | hx
    · exact h4 x hx
    · exact h0 x (List.mem_of_mem_drop hx)
  have := flat_at hl e hj
  have hmul : (q + 1) * kk ≤ n * kk := Nat.mul_le_mul_right _ hq
  rw [Nat.add_mul] at hmul
  rw [← h5, List.getElem?_take, if_pos (by omega)] at this
  exact this
theorem MixR.done (hR : Mov R) {B g n cap : Nat} {w0 w : World} {rows0 : List (List Value)} {ys : List α} (h : MixR R T kk B g n cap n w0 w rows0 ys) (hn : rows0.length = n) (hy : ys.length = n) (hc : n ≤ cap) (hm : cap ≤ maxLen) (hB : B ≤ g) : LB R T kk B w (.slice (some ⟨g, 0, none⟩) n cap) ys := by
  obtain ⟨cur, A, h1, h2, h3, h4, h5, h6⟩ := h.ex
  rw [List.drop_of_length_le (by omega), List.append_nil] at h5
  rw [List.take_of_length_le (by omega)] at h6
  refine ⟨A, h4, ⟨flat_len h4, .inr ⟨g, cap, cur.toArray, by rw [h3], Nat.zero_le _, h1, by omega, hm, by simpa using h2, by rw [h3]; simpa using h5⟩⟩, fr_at _ _ _ _ hB, h6.mono fun y a hy => hR _ _ _ _ _ _ hy (Nat.le_refl _) fun k hk _ => ⟨rfl, hk.1, fun e => hk.2 ?_⟩⟩
  simp [Value.ownBlock] at e
  exact e.symm
end
end Go.Proofs.YtjloehkolnjnhaaDoor
