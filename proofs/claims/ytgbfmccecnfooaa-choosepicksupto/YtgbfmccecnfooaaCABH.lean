/- Many records more: 'x = append(x, ys...)'. -/
import Derived.Test.YtgbfmccecnfooaaCAAR
import Derived.Test.YtgbfmccecnfooaaCABB
import Derived.Test.YtgbfmccecnfooaaCAAW
import Derived.Deep.Upon
import Derived.Deep.AppendLies
set_option linter.unusedSimpArgs false
set_option linter.unusedVariables false
namespace Go.Proofs.Ytgbfmccecnfooaa
open Go.RowKit Oct
theorem flat_split {k : Nat} (hk0 : 0 < k) : ∀ {rows : List (List Value)} {j : Nat} {u : Value}, (∀ r ∈ rows, r.length = k) → rows.flatten[j]? = some u → ∃ i r c, rows[i]? = some r ∧ r[c]? = some u ∧ j = i * k + c
  | [], j, u, _, h => by simp at h
  | x :: rows, j, u, hk, h => by
    have hx := hk x (by simp)
    rw [List.flatten_cons] at h
    by_cases hj : j < x.length
    · rw [List.getElem?_append_left hj] at h
      exact ⟨0, x, j, rfl, h, by simp⟩
    · rw [List.getElem?_append_right (by omega)] at h
      obtain ⟨i, r, c, h1, h2, h3⟩ := flat_split hk0 (rows := rows) (fun y hy => hk y (by simp [hy])) h
      refine ⟨i + 1, r, c, by simpa using h1, h2, ?_⟩
      rw [Nat.add_mul]
      omega
/-- A list that is built is read: its records lie in an elder world. -/
def RPk (W : World) : (Nat → Prop) → World → List Value → PPrep → Prop := fun _ _ r x => RPrep Any W r x
theorem mov_pk (W : World) : Mov (RPk W) := fun _ _ _ _ _ _ h _ _ => h
section
variable {P : Program}
theorem wl_pushesK {W w : World} {ops : Array Oper} {rest : List Oper} {o : Oper} {a : Act} {Q : Exit → Act → World → Prop} (hgd : o.guard = none) (s x : Operand) (t : TypeId)
    (ho : o.op = .call { callee := .builtin .append, args := #[s, x], argTypes := #[t, t] }) (e : TypeId) (bytes : Nat) (z : Value) (ht : P.underlying t = some (.slice e)) (hi : (P.info? e).map (fun i => (i.zero, i.size, i.bytes)) = some (some z, 8, bytes))
    (hzs : z.cells.size = 8) (B : Nat) (v : Value) (ys : List PPrep) (hs : a.eval s = v) (hL : LB (RPk W) e 8 B w v ys) (u : Value) (zs : List PPrep) (hu : RL RPrep 8 Any W u zs) (hW : Below W.heap.size W w)
    (hx : a.eval x = u) (hB : B ≤ w.heap.size) (hb : (ys.length + zs.length) * bytes ≤ 140737488355328) (hb0 : 1 ≤ bytes)
    (h : ∀ v' w', LB (RPk W) e 8 B w' v' (ys ++ zs) → w.grownBy w' v.ownBlock → wpList P ops Q rest (a.put o.dst v') w') : wpList P ops Q (o :: rest) a w := by
  obtain ⟨i0, hi, hz0, hz1, hz2⟩ := info_parts hi
  obtain ⟨rows, h0, hown, hfr, hall⟩ := hL
  obtain ⟨rows2, ⟨k1, k2⟩, k3⟩ := hu
  have hlen := hall.len
  have hlen2 := k3.len
  rcases k2 with ⟨ao, cap, e1, e2, e3⟩ | ⟨b, off, cap, e1, e2, e3, e4, _, e5, e6⟩
  · subst e2
    obtain rfl : zs = [] := List.eq_nil_of_length_eq_zero (by rw [← hlen2]; rfl)
    obtain ⟨va, vn, vc, hv, hle⟩ : ∃ va vn vc, v = .slice va vn vc ∧ vn ≤ vc := by
      rcases hown.2 with ⟨hv, _⟩ | ⟨g, cap, cur, hv, _, _, hle, _⟩
      · exact ⟨_, _, _, hv, Nat.le_refl _⟩
      · exact ⟨_, _, _, hv, hle⟩
    refine wpList_plain hgd fun K hK => ?_
    have hrun := run_append_nothing (P := P) w t t o.type e i0 ht hi va vn vc hle u (by
      rw [e1]
      cases ao with
      | none => exact Src.ofNil w ht cap
      | some ad => exact Src.ofSlice w ht ad 0 cap [] (by simp) (fun j q hj => by simp at hj) (fun q hq => absurd hq (List.not_mem_nil)))
    unfold Oper.wp
    simp [execOp, ho, resolve, invoke, builtin, hs, hx, hv, hrun, Result.andThen]
    refine hK _ _ ?_
    rw [← hv]
    exact h v w ⟨rows, h0, hown, hfr, by simpa using hall⟩ (grown_of_below (Below.refl _ _) _)
  · have hn8 := flat_len k1
    have hone : ∀ q ∈ rows2.flatten, q.oneCell' = true := by
      intro q hq
      obtain ⟨r, hr, hqr⟩ := List.mem_flatten.1 hq
      obtain ⟨i, hi', rfl⟩ := List.getElem_of_mem hr
      exact one_RPrep (k3.get (List.getElem?_eq_getElem hi') (List.getElem?_eq_getElem (by rw [← hlen2]; exact hi'))) q hqr
    have hmul : ys.length + zs.length ≤ (ys.length + zs.length) * bytes := Nat.le_mul_of_pos_right _ hb0
    refine wpList_append_lies w hgd s x t ho 0 e i0 z 8 bytes ht hi hz0 hz1 hz2 hzs (by decide) v rows.length rows.flatten hs hown ⟨b, off, none⟩ rows2.length cap rows2.flatten (by rw [hx, e1]) hn8
      (fun j q hj => by
        obtain ⟨i, r, c, g1, g2, g3⟩ := flat_split (by decide) k1 hj
        have hr := rangeAt_block (e6 i r g1) (hW.block b e5) c q g2
        rw [Addr.add_mid, g3, ← Nat.add_assoc]
        exact hr) hone e4 (by rw [hlen, hlen2]; unfold maxLen; omega) (by rw [hlen, hlen2]; exact hb) (Nat.zero_le _) w.heap.size rfl ?_
    intro g cap' w' hown' hgr hat hlt
    have hgB : B ≤ g := by
      rcases hat with hat | hat
      · exact hfr g hat
      · omega
    have hflat : rows.flatten ++ rows2.flatten = (rows ++ rows2).flatten := by simp
    rw [hflat] at hown'
    refine h _ w' ⟨rows ++ rows2, ?_, by rw [List.length_append]; exact hown', ?_, ?_⟩ hgr
    · intro q hq
      rcases List.mem_append.1 hq with hq | hq
      · exact h0 q hq
      · exact k1 q hq
    · exact fun j hj => by simp [Value.ownBlock] at hj; omega
    · exact All2.app hall k3
end
end Go.Proofs.Ytgbfmccecnfooaa
