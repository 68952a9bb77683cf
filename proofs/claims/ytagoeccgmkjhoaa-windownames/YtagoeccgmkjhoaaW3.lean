/- The walks over package octet: texts; and over the document's own answers. -/
import Derived.Test.YtagoeccgmkjhoaaW2
import Derived.Laws.CopyOwn
namespace Go.Proofs.Ytagoeccgmkjhoaa
open Go.RowKit Oct

theorem Rd.form {w : World} {v : Value} {l : List Int} (h : Rd w v l) : ∃ ao cap, v = .slice ao l.length cap ∧ cap ≤ maxLen := by
  obtain ⟨_, ao, cap, rfl, _, h2, _⟩ := h
  exact ⟨ao, cap, by rw [bc_len], h2⟩




/-- 'make([]byte, n)'. -/
theorem run_mk (n : Nat) (hn : n ≤ 281474976710656) (u : World) : (Instr.makeSlice 28 (.int .i64 (n : Int)) (.int .i64 (n : Int))).run Try.prog u =
    .ok (.slice (some ⟨u.heap.size, 0, none⟩) n n) (u.alloc (.cells (madeCells #[.int .u8 0] n) 5)) := by
  obtain ⟨i0, hi, hz0, hz1, hz2⟩ := info_parts Try.info5
  have h := run_make (P := Try.prog) u 28 5 i0 (.int .u8 0) Try.underlying28 hi hz0 .i64 .i64 (n : Int) (n : Int) (by omega) (Int.le_refl _) (by rw [hz2]; omega) (by omega)
  rw [Int.toNat_natCast] at h
  simpa [hz1, Value.cells] using h

/-- 'copy(d, s)', d a whole row of n bytes that the call itself made, s at least as long. -/
theorem cpy {w : World} {ops : Array Oper} {rest : List Oper} {o : Oper} {a : Act} {Q : Exit → Act → World → Prop} (hgd : o.guard = none) (d s : Operand)
    (ho : o.op = .call { callee := .builtin .copy, args := #[d, s], argTypes := #[28, 28] }) (g n : Nat) (hd : a.eval d = .slice (some ⟨g, 0, none⟩) n n)
    (cur : Array Value) (hg : w.heap[g]? = some (.cells cur 5 (0, 0))) (hcs : cur.size = n) (sv : Value) (xs : List Int) (hs : a.eval s = sv) (hsrc : Rdv w sv (bc xs)) (hx : n ≤ xs.length) (hn : n ≤ maxLen)
    (h : ∀ w', Own w' 5 (.slice (some ⟨g, 0, none⟩) n n) (bc (xs.take n)) → w.grownBy w' (some g) → wpList Try.prog ops Q rest (a.put o.dst (goInt n)) w') : wpList Try.prog ops Q (o :: rest) a w := by
  have hlen : (bc (xs.take n)).length = n := by rw [bc_len, List.length_take]; omega
  obtain ⟨ao, cap, rfl, c1, c2, c3, c4⟩ := hsrc
  have hsz : (Try.prog.info? 5).map (·.size) = some 1 := by kernel_rfl
  have hmin : Nat.min (bc xs).length n = n := by rw [bc_len]; exact Nat.min_eq_right hx
  by_cases h0 : n = 0
  · refine wpList_copy_nothing hgd d s 28 28 ho 5 Try.underlying28 hsz _ _ _ _ _ _ hd hs (by rw [hmin, h0]) ?_
    have := h w ⟨by rw [hlen]; omega, .inr ⟨g, n, cur, by rw [hlen], Nat.zero_le _, hg, by rw [hlen]; exact Nat.le_refl _, hn, by omega, by rw [hlen, h0]; simp [bc]⟩⟩ ⟨rfl, rfl, rfl, Nat.le_refl _, fun _ _ _ => rfl⟩
    rw [h0] at this
    exact this
  · cases ao with
    | none => have := (c3 rfl).1; have e := congrArg List.length this; rw [bc_len] at e; simp at e; rw [e] at hx; simp at hx; omega
    | some ad =>
      have hsrc' : ∀ j v, (bc (xs.take n))[j]? = some v → w.cell? (ad.add j) = some v := fun j v hj => by
        refine c4 ad rfl j v ?_
        have hjn : j < n := by
          rcases Nat.lt_or_ge j n with h | h
          · exact h
          · rw [List.getElem?_eq_none (by omega)] at hj; cases hj
        rw [bc_getD _ _ (by rw [List.length_take]; omega)] at hj
        rw [bc_getD _ _ (by omega), ← hj]
        simp [List.getD, hjn]
      refine wpList_copy_own hgd d s 28 28 ho 5 Try.underlying28 hsz g 0 n n ad _ _ hd hs cur 5 hg (bc (xs.take n)) (by rw [hmin, hlen]) hsrc' (by rw [hlen]; omega) (bc_one _) ?_
      rw [hlen]
      refine h _ ⟨by rw [hlen]; omega, .inr ⟨g, n, _, by rw [hlen], Nat.zero_le _, setRow_heap w g cur _ 5 _ hg, by rw [hlen]; exact Nat.le_refl _, hn, ?_, ?_⟩⟩ ⟨rfl, rfl, rfl, by simp, fun k _ hk => setRow_other w g k _ (fun e => hk (by simp [e]))⟩
      · simp only [List.size_toArray, List.length_append, List.length_take, List.length_drop, Array.length_toList, hlen]; omega
      · rw [hlen]
        simp only [List.take_zero, List.nil_append, Nat.zero_add, Nat.mul_one]
        have e := List.take_left (l₁ := bc (xs.take n)) (l₂ := cur.toList.drop n)
        rw [hlen] at e
        exact e

theorem rdv_none (w : World) (a : Addr) (c : Nat) (h : c ≤ maxLen) : Rdv w (.slice (some a) 0 c) (bc []) :=
  ⟨some a, c, rfl, Nat.zero_le _, h, fun e => (by cases e), fun b hb j u hu => by simp [bc] at hu⟩
theorem made_size (n : Nat) : (madeCells #[Value.int .u8 0] n).size = n := by simp [madeCells]



end Go.Proofs.Ytagoeccgmkjhoaa
