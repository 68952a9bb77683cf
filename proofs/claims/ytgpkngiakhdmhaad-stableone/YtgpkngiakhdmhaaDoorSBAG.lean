/- SHA-256 piece by piece, plain: what is kept of a block that is not full yet, and what the end does. -/
import Derived.Test.YtgpkngiakhdmhaaDoorSBAA
import Derived.Test.YtgpkngiakhdmhaaDoorSBAB
import Derived.Laws.CopyOwn
namespace Go.Proofs.YtgpkngiakhdmhaaDoor
open Oct
namespace Sha
/-- What a hash holds behind l: in front of rest the bytes of the block that is not full yet. -/
def Rst (l rest : List Int) : Prop := rest.length = 64 ∧ Byt rest ∧ rest.take (l.length % 64) = l.drop (64 * (l.length / 64))
theorem byt_app {a b : List Int} (ha : Byt a) (hb : Byt b) : Byt (a ++ b) := fun x hx => by
  rcases List.mem_append.1 hx with h | h
  · exact ha x h
  · exact hb x h
theorem byt_take {a : List Int} (ha : Byt a) (n : Nat) : Byt (a.take n) := fun x hx => ha x (List.mem_of_mem_take hx)
theorem byt_drop {a : List Int} (ha : Byt a) (n : Nat) : Byt (a.drop n) := fun x hx => ha x (List.mem_of_mem_drop hx)
theorem byt_splice {a x : List Int} (ha : Byt a) (hx : Byt x) (f : Nat) : Byt (splice a f x) := byt_app (byt_take ha f) (byt_app hx (byt_drop ha _))
theorem byt_zero (n : Nat) : Byt (List.replicate n 0) := fun x hx => by
  rw [(List.mem_replicate.1 hx).2]
  decide
theorem splice_take {rest x : List Int} {f : Nat} (hr : rest.length = 64) (hn : f + x.length ≤ 64) : (splice rest f x).take (f + x.length) = rest.take f ++ x := by
  unfold splice
  rw [← List.append_assoc, List.take_append_of_le_length (by simp; omega), List.take_of_length_le (by simp; omega)]
theorem rest_new {l rest x : List Int} (h : Rst l rest) (hx : Byt x) (hn : l.length % 64 + x.length ≤ 64) :
    (splice rest (l.length % 64) x).length = 64 ∧ Byt (splice rest (l.length % 64) x) ∧ (splice rest (l.length % 64) x).take (l.length % 64 + x.length) = (l ++ x).drop (64 * (l.length / 64)) := by
  obtain ⟨h1, h2, h3⟩ := h
  refine ⟨by rw [length_splice _ _ _ (by omega), h1], byt_splice h2 hx _, ?_⟩
  rw [splice_take h1 hn, h3, List.drop_append_of_le_length (by omega)]
theorem rest_more {l rest x : List Int} (h : Rst l rest) (hx : Byt x) (hn : l.length % 64 + x.length < 64) :
    Rst (l ++ x) (splice rest (l.length % 64) x) ∧ blks (l ++ x) ((l ++ x).length / 64) = blks l (l.length / 64) := by
  obtain ⟨h1, h2, h3⟩ := rest_new h hx (by omega)
  have e1 : (l ++ x).length / 64 = l.length / 64 := by rw [List.length_append]; omega
  have e2 : (l ++ x).length % 64 = l.length % 64 + x.length := by rw [List.length_append]; omega
  exact ⟨⟨h1, h2, by rw [e1, e2]; exact h3⟩, by rw [e1, blks_app l x _ (by omega)]⟩
theorem rest_full {l rest x : List Int} (h : Rst l rest) (hx : Byt x) (hn : l.length % 64 + x.length = 64) :
    Rst (l ++ x) (splice rest (l.length % 64) x) ∧ blks (l ++ x) ((l ++ x).length / 64) = blk (blks l (l.length / 64)) (splice rest (l.length % 64) x) := by
  obtain ⟨h1, h2, h3⟩ := rest_new h hx (by omega)
  have e1 : (l ++ x).length / 64 = l.length / 64 + 1 := by rw [List.length_append]; omega
  have e2 : (l ++ x).length % 64 = 0 := by rw [List.length_append]; omega
  refine ⟨⟨h1, h2, ?_⟩, ?_⟩
  · rw [e1, e2, List.take_zero, List.drop_eq_nil_of_le (by rw [List.length_append]; omega)]
  · rw [e1, blks, blks_app l x _ (by omega), ← h3, hn, List.take_take, Nat.min_self, List.take_of_length_le (by omega)]
/-- The block behind the stop and the zeros. -/
def stopped (rest : List Int) (f : Nat) : List Int := rest.take f ++ 128 :: List.replicate (63 - f) 0
theorem stopped_len {rest : List Int} {f : Nat} (h : rest.length = 64) (hf : f < 64) : (stopped rest f).length = 64 := by
  simp only [stopped, List.length_append, List.length_take, List.length_cons, List.length_replicate]
  omega
theorem byt_stopped {rest : List Int} (h : Byt rest) (f : Nat) : Byt (stopped rest f) := byt_app (byt_take h f) (fun x hx => by
  rcases List.mem_cons.1 hx with rfl | hx
  · decide
  · exact byt_zero _ x hx)
theorem stopped_eq {rest : List Int} {f : Nat} (h : rest.length = 64) (hf : f < 64) : splice (rest.set f 128) (f + 1) (List.replicate (63 - f) 0) = stopped rest f := by
  unfold splice stopped
  rw [List.length_replicate, List.drop_eq_nil_of_le (by simp; omega), List.append_nil, List.take_set, List.take_add_one, List.getElem?_eq_getElem (by omega), List.set_append_right _ _ (by simp; omega)]
  simp [show min f rest.length = f by omega]
/-- The number laid into a block, i bytes of it. -/
def lay (r : List Int) (n : Int) (i : Nat) : List Int := r.take 56 ++ ((be8 n).take i ++ r.drop (56 + i))
theorem lay_len {r : List Int} (h : r.length = 64) (n : Int) (i : Nat) (hi : i ≤ 8) : (lay r n i).length = 64 := by
  simp only [lay, List.length_append, List.length_take, List.length_drop, be8_len]
  omega
theorem lay_zero {r : List Int} (n : Int) : lay r n 0 = r := by simp [lay]
theorem lay_set {r : List Int} (h : r.length = 64) (n : Int) (i : Nat) (hi : i < 8) : (lay r n i).set (56 + i) ((be8 n).getD i 0) = lay r n (i + 1) := by
  obtain ⟨A, hA⟩ : ∃ A, A = r.take 56 := ⟨_, rfl⟩
  have hl : A.length = 56 := by rw [hA]; simp; omega
  have hb : i < (be8 n).length := by rw [be8_len]; exact hi
  have e2 : (be8 n).take (i + 1) = (be8 n).take i ++ [(be8 n).getD i 0] := by
    rw [List.take_add_one, List.getElem?_eq_getElem hb]
    simp [List.getD, List.getElem?_eq_getElem hb]
  have hl2 : ((be8 n).take i).length = i := by simp [be8_len]; omega
  unfold lay
  rw [e2, ← hA, List.set_append_right _ _ (by omega), hl, Nat.add_sub_cancel_left, List.set_append_right _ _ (by omega), hl2, Nat.sub_self, List.append_assoc]
  congr 2
  rw [List.drop_eq_getElem_cons (by omega)]
  simp [Nat.add_assoc]
theorem byt_be8 (n : Int) : Byt (be8 n) := by
  intro b hb
  simp only [be8, List.mem_cons, List.not_mem_nil, or_false] at hb
  rcases hb with rfl | rfl | rfl | rfl | rfl | rfl | rfl | rfl <;> omega
theorem byt_lay {r : List Int} (h : Byt r) (n : Int) (i : Nat) : Byt (lay r n i) := byt_app (byt_take h _) (byt_app (byt_take (byt_be8 n) _) (byt_drop h _))
theorem lay_eight {r : List Int} (h : r.length = 64) (n : Int) : lay r n 8 = r.take 56 ++ be8 n := by
  unfold lay
  rw [List.drop_eq_nil_of_le (by omega), List.append_nil]
  rfl
theorem fin_one {l rest : List Int} (h : Rst l rest) (hf : l.length % 64 < 56) : blk (blks l (l.length / 64)) (lay (stopped rest (l.length % 64)) (8 * l.length) 8) = blks (pad l) ((pad l).length / 64) := by
  obtain ⟨h1, h2, h3⟩ := h
  have e1 : (pad l).length / 64 = l.length / 64 + 1 := by rw [pad_len]; omega
  rw [e1, blks, pad, blks_app l _ _ (by omega)]
  congr 1
  obtain ⟨f, hf'⟩ : ∃ f, f = l.length % 64 := ⟨_, rfl⟩
  obtain ⟨A, hA⟩ : ∃ A, A = rest.take f := ⟨_, rfl⟩
  have hl : A.length = f := by rw [hA]; simp; omega
  have hz : zs l.length = 55 - f := by unfold zs; omega
  have hr : List.replicate (63 - f) (0 : Int) = List.replicate (55 - f) 0 ++ List.replicate 8 0 := by rw [List.replicate_append_replicate]; congr 1; omega
  rw [lay_eight (stopped_len h1 (by omega)), List.drop_append_of_le_length (by omega), ← h3, ← hf', stopped, ← hA, hz, hr]
  rw [← List.cons_append, ← List.append_assoc, ← List.cons_append, ← List.append_assoc]
  rw [List.take_left' (by simp [hl]; omega), List.take_of_length_le (by simp [hl, be8_len]; omega)]
theorem fin_two {l rest : List Int} (h : Rst l rest) (hf : 56 ≤ l.length % 64) :
    blk (blk (blks l (l.length / 64)) (stopped rest (l.length % 64))) (lay (List.replicate 64 0) (8 * l.length) 8) = blks (pad l) ((pad l).length / 64) := by
  obtain ⟨h1, h2, h3⟩ := h
  have e1 : (pad l).length / 64 = l.length / 64 + 1 + 1 := by rw [pad_len]; omega
  obtain ⟨f, hf'⟩ : ∃ f, f = l.length % 64 := ⟨_, rfl⟩
  obtain ⟨A, hA⟩ : ∃ A, A = rest.take f := ⟨_, rfl⟩
  have hl : A.length = f := by rw [hA]; simp; omega
  have hz : zs l.length = (63 - f) + 56 := by unfold zs; omega
  have hp : pad l = l ++ (128 :: List.replicate (63 - f) 0) ++ (List.replicate 56 0 ++ be8 (8 * l.length)) := by
    rw [pad, hz, ← List.replicate_append_replicate]
    simp
  have hX : (l ++ (128 :: List.replicate (63 - f) 0)).length = 64 * (l.length / 64 + 1) := by simp; omega
  have hd : (l ++ (128 :: List.replicate (63 - f) (0 : Int))).drop (64 * (l.length / 64)) = stopped rest f := by
    rw [List.drop_append_of_le_length (by omega), ← h3, ← hf']
    rfl
  have hd2 : (stopped rest f).length = 64 := stopped_len h1 (by omega)
  rw [e1, blks, blks, hp, blks_app _ _ _ (by omega), blks_app l _ _ (by omega), List.drop_append_of_le_length (by omega), hd, List.take_append_of_le_length (by omega), List.take_of_length_le (by omega), ← hf', List.drop_left' hX]
  congr 1
end Sha
end Go.Proofs.YtgpkngiakhdmhaaDoor
