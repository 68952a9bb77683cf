/- slices.Insert of one entry. -/
import Derived.Test.YtejkkhlblnepeaaDoorKi
import Derived.Lib.Overlaps
import Derived.Lib.AppendZerosOnto
set_option linter.unusedVariables false
set_option linter.unusedSimpArgs false
namespace Go.Proofs.YtejkkhlblnepeaaDoor
open Go.RowKit Oct Kvl

theorem spl1 (C D r : List Value) (p : Nat) (h : p + r.length + D.length ≤ C.length) : (splice (splice C (p + r.length) D) p r).take (p + r.length + D.length) = C.take p ++ (r ++ D) := by
  have h1 : (C.take (p + r.length)).length = p + r.length := by rw [List.length_take]; omega
  have e1 : (splice C (p + r.length) D).take p = C.take p := by
    unfold splice
    rw [List.take_append_of_le_length (by omega), List.take_take, Nat.min_eq_left (by omega)]
  have e2 : (splice C (p + r.length) D).drop (p + r.length) = D ++ C.drop (p + r.length + D.length) := by
    unfold splice
    rw [List.drop_append_of_le_length (by omega), List.drop_of_length_le (by omega), List.nil_append]
  have h2 : (C.take p).length = p := by rw [List.length_take]; omega
  rw [splice, e1, e2, ← List.append_assoc, ← List.append_assoc, List.take_append_of_le_length (by simp only [List.length_append, h2]; omega), List.take_of_length_le (by simp only [List.length_append, h2]; omega), List.append_assoc]
theorem spl2 (C D r : List Value) (p : Nat) (h : p + r.length + D.length ≤ C.length) : (splice (splice C p r) (p + r.length) D).take (p + r.length + D.length) = C.take p ++ (r ++ D) := by
  have h2 : (C.take p).length = p := by rw [List.length_take]; omega
  have e1 : (splice C p r).take (p + r.length) = C.take p ++ r := by
    unfold splice
    rw [← List.append_assoc, List.take_append_of_le_length (by simp only [List.length_append, h2]; omega), List.take_of_length_le (by simp only [List.length_append, h2]; omega)]
  rw [splice, e1, ← List.append_assoc, List.take_append_of_le_length (by simp only [List.length_append, h2]; omega), List.take_of_length_le (by simp only [List.length_append, h2]; omega), List.append_assoc]

theorem Row.atL {w : World} {g : Nat} {t : TypeId} {cur L : List Value} {m : Nat} (h : Row w g t cur) (ht : cur.take m = L) {j : Nat} {v : Value} (hj : L[j]? = some v) : w.cell? ⟨g, j, none⟩ = some v := by
  refine h.cell ?_
  rw [← ht, List.getElem?_take] at hj
  split at hj
  · exact hj
  · cases hj

section
variable {P : Program}
/-- 'append(s, make(S, m)...)' where there is no room. -/
theorem wl_app_zeros {ops : Array Oper} {rest : List Oper} {o : Oper} {a : Act} {w : World} {Q : Exit → Act → World → Prop} (hgd : o.guard = none) (s x : Operand) (t tn : TypeId)
    (ho : o.op = .call { callee := .builtin .append, args := #[s, x], argTypes := #[t, tn] }) (e : TypeId) (i : TypeInfo) (z : Value) (sz bytes : Nat) (ht : P.underlying t = some (.slice e)) (htn : P.underlying tn = some (.int .i64)) (hi : P.info? e = some i) (hz : i.zero = some z)
    (hsz : i.size = sz) (hby : i.bytes = bytes) (hzs : z.cells.size = sz) (h0 : 0 < sz) (hb1 : bytes ≤ 1000) (g sLen sCap : Nat) (hs : a.eval s = .slice (some ⟨g, 0, none⟩) sLen sCap) (cur : List Value) (hg : Row w g e cur) (hfit : sLen * sz ≤ cur.length)
    (m : Nat) (hm : 0 < m) (hx : a.eval x = .int .i64 (m : Int)) (hgr : sCap < sLen + m) (hmx : sLen + m ≤ 100000)
    (h : ∀ NC row w', Hid (Row w' w.heap.size e row) → Hid (row.length = NC * sz ∧ row.take (sLen * sz) = cur.take (sLen * sz)) → sLen + m ≤ NC → NC ≤ maxLen → Below w.heap.size w w' → wpList P ops Q rest (a.put o.dst (.slice (some ⟨w.heap.size, 0, none⟩) (sLen + m) NC)) w') : wpList P ops Q (o :: rest) a w :=
  wpList_plain hgd fun _ hK => by
    subst hsz
    subst hby
    have hl : (cur.take (sLen * i.size)).length = sLen * i.size := by rw [List.length_take]; omega
    have hf := run_firstCells_some (P := P) w.drew i.size sLen ⟨g, 0, none⟩ sLen sCap (cur.take (sLen * i.size)) hl (fun j u hj => by
      rw [Addr.add_mid, Nat.zero_add]
      exact (show Row w.drew g e cur from hg).atL rfl hj)
    have hr := Lib.run_append_grow_zeros (P := P) w t tn o.type e i z .i64 .i64 ht htn hi hz (some ⟨g, 0, none⟩) sLen sCap (cur.take (sLen * i.size)) hf m hm h0 hgr (by omega)
      (Nat.le_trans (Nat.mul_le_mul (show m ≤ 100000 by omega) hb1) (by decide)) (growslice_fits hgr (Nat.le_trans (Nat.mul_le_mul hmx hb1) (by decide)))
    have hge := grownCap_ge w (sLen + m) sCap e
    have hcm := grownCap_le_maxLen w (sLen + m) sCap e (by unfold maxLen; omega)
    unfold Oper.wp
    simp [execOp, ho, resolve, invoke, builtin, hs, hx, hr, Result.andThen]
    refine hK _ _ (h (grownCap w (sLen + m) sCap e) ((cur.take (sLen * i.size)).toArray ++ (Builtin.zeroCells z.cells m ++ Builtin.zeroCells z.cells (grownCap w (sLen + m) sCap e - (sLen + m)))).toList _ ?_ ⟨?_, ?_⟩ hge hcm
      ((show Below w.heap.size w w.drew from ⟨rfl, rfl, rfl, Nat.le_refl _, fun _ _ => rfl⟩).alloc (Nat.le_refl _) _))
    · show _ = _
      rw [Array.toArray_toList]
      exact heap_alloc_new w.drew _
    · simp only [Array.toList_append, List.length_append, hl, Array.length_toList, size_zeroCells, hzs, ← Nat.add_mul]
      congr 1
      omega
    · simp only [Array.toList_append, List.append_assoc]
      generalize cur.take (sLen * i.size) = A at hl ⊢
      rw [← hl]
      exact List.take_left
end



/-- The entries with one more at a place. -/
def insL {α : Type} (i : Nat) (y : α) (l : List α) : List α := l.take i ++ y :: l.drop i


end Go.Proofs.YtejkkhlblnepeaaDoor
