/- The walks over package octet: texts; and over the document's own answers. -/
import Derived.Test.YtgjepofinpmcpaaGreatDoorSAA
import Derived.Laws.CopyOwn
namespace Go.Proofs.YtgjepofinpmcpaaGreatDoor
section
open Go.RowKit Oct
end
section
open Go.RowKit Oct
theorem Rd.form {w : World} {v : Value} {l : List Int} (h : Rd w v l) : ∃ ao cap, v = .slice ao l.length cap ∧ cap ≤ maxLen := by
  obtain ⟨_, ao, cap, rfl, _, h2, _⟩ := h
  exact ⟨ao, cap, by rw [bc_len], h2⟩
/-- octet.appendText. -/
theorem appendText_any (w : World) (v p : Value) (l lp : List Int) (hown : Own w 5 v (bc l)) (hp : Rd w p lp) (hap : lp ≠ [] → ∀ k, v.ownBlock = some k → p.ownBlock ≠ some k) (hl : l.length + lp.length ≤ 140737488355300) :
    Calls Tryz.prog 78 #[v, p] w fun e w' => ∃ v', e = .returned v' ∧ App w 5 v w' v' (bc (l ++ enc lp.length ++ lp)) := by
  obtain ⟨ao, cap, rfl, hc⟩ := hp.form
  have hle := enc_len (lp.length : Int)
  go_enter Tryz.func78, Tryz.ntmps78
  go_wp2_with fail
  refine (appendInt_any w v l (lp.length : Int) hown (by omega) (by omega) (by omega)).mono ?_
  rintro e w1 ⟨v1, rfl, happ⟩
  have hp1 := hp.grown happ.grown hap
  go_wp2_with (at_builtin; refine app_bytes rfl _ _ rfl v1 (l ++ enc lp.length) rfl happ.own _ lp rfl hp1.2 (by simp only [List.length_append]; omega) ?_; intro v2 w2 happ2)
  go_ret
  exact ⟨_, rfl, happ.trans happ2⟩
/-- octet.Bytes. -/
theorem bytes_any (w : World) (p : Value) (lp : List Int) (hp : Rd w p lp) (hl : lp.length ≤ 140737488355300) :
    Calls Tryz.prog 127 #[p] w fun e w' => ∃ v', e = .returned v' ∧ Own w' 5 v' (bc (enc lp.length ++ lp)) ∧ Fr w.heap.size v' ∧ Below w.heap.size w w' := by
  go_enter Tryz.func127, Tryz.ntmps127
  go_wp2_with fail
  refine (appendText_any w (.slice none 0 0) p [] lp (Own.nil _ _) hp (fun _ k hk => by simp [Value.ownBlock] at hk) (by simpa using hl)).mono ?_
  rintro e w1 ⟨v1, rfl, happ⟩
  rw [List.nil_append] at happ
  go_wp2_with fail
  go_ret
  exact ⟨_, rfl, happ.own, happ.fr (Fr.nil _) (Nat.le_refl _), happ.below (Fr.nil _) (Nat.le_refl _)⟩
/-- 'make([]byte, n)'. -/
theorem run_mk (n : Nat) (hn : n ≤ 281474976710656) (u : World) : (Instr.makeSlice 23 (.int .i64 (n : Int)) (.int .i64 (n : Int))).run Tryz.prog u =
    .ok (.slice (some ⟨u.heap.size, 0, none⟩) n n) (u.alloc (.cells (madeCells #[.int .u8 0] n) 5)) := by
  obtain ⟨i0, hi, hz0, hz1, hz2⟩ := info_parts Tryz.info5
  have h := run_make (P := Tryz.prog) u 23 5 i0 (.int .u8 0) Tryz.underlying23 hi hz0 .i64 .i64 (n : Int) (n : Int) (by omega) (Int.le_refl _) (by rw [hz2]; omega) (by omega)
  rw [Int.toNat_natCast] at h
  simpa [hz1, Value.cells] using h
/-- 'copy(d, s)', d a whole row of n bytes that the call itself made, s at least as long. -/
theorem cpy {w : World} {ops : Array Oper} {rest : List Oper} {o : Oper} {a : Act} {Q : Exit → Act → World → Prop} (hgd : o.guard = none) (d s : Operand)
    (ho : o.op = .call { callee := .builtin .copy, args := #[d, s], argTypes := #[23, 23] }) (g n : Nat) (hd : a.eval d = .slice (some ⟨g, 0, none⟩) n n)
    (cur : Array Value) (hg : w.heap[g]? = some (.cells cur 5 (0, 0))) (hcs : cur.size = n) (sv : Value) (xs : List Int) (hs : a.eval s = sv) (hsrc : Rdv w sv (bc xs)) (hx : n ≤ xs.length) (hn : n ≤ maxLen)
    (h : ∀ w', Own w' 5 (.slice (some ⟨g, 0, none⟩) n n) (bc (xs.take n)) → w.grownBy w' (some g) → wpList Tryz.prog ops Q rest (a.put o.dst (goInt n)) w') : wpList Tryz.prog ops Q (o :: rest) a w := by
  have hlen : (bc (xs.take n)).length = n := by rw [bc_len, List.length_take]; omega
  obtain ⟨ao, cap, rfl, c1, c2, c3, c4⟩ := hsrc
  have hsz : (Tryz.prog.info? 5).map (·.size) = some 1 := by kernel_rfl
  have hmin : Nat.min (bc xs).length n = n := by rw [bc_len]; exact Nat.min_eq_right hx
  by_cases h0 : n = 0
  · refine wpList_copy_nothing hgd d s 23 23 ho 5 Tryz.underlying23 hsz _ _ _ _ _ _ hd hs (by rw [hmin, h0]) ?_
    have := h w ⟨by rw [hlen]; omega, .inr ⟨g, n, cur, by rw [hlen], Nat.zero_le _, hg, by rw [hlen]; exact Nat.le_refl _, hn, by omega, by rw [hlen, h0]; simp [bc]⟩⟩ ⟨rfl, rfl, rfl, Nat.le_refl _, fun _ _ _ => rfl⟩
    rw [h0] at this
    exact this
  · cases ao with
    | none => have := (c3 rfl).1; have e := congrArg List.length this; rw [bc_len] at e; simp at e; rw [e] at hx; simp at hx; omega
    | some ad =>
      have hsrc' : ∀ j v, (bc (xs.take n))[j]? = some v → w.cell? (ad.add j) = some v := fun j v hj => by
        refine c4 ad rfl j v ?_
        have hjn : j < n := by
          rcases Nat.lt_or_ge j n with h | h
          · exact h
          · rw [List.getElem?_eq_none (by omega)] at hj; cases hj
        rw [bc_getD _ _ (by rw [List.length_take]; omega)] at hj
        rw [bc_getD _ _ (by omega), ← hj]
        simp [List.getD, hjn]
      refine wpList_copy_own hgd d s 23 23 ho 5 Tryz.underlying23 hsz g 0 n n ad _ _ hd hs cur 5 hg (bc (xs.take n)) (by rw [hmin, hlen]) hsrc' (by rw [hlen]; omega) (bc_one _) ?_
      rw [hlen]
      refine h _ ⟨by rw [hlen]; omega, .inr ⟨g, n, _, by rw [hlen], Nat.zero_le _, setRow_heap w g cur _ 5 _ hg, by rw [hlen]; exact Nat.le_refl _, hn, ?_, ?_⟩⟩ ⟨rfl, rfl, rfl, by simp, fun k _ hk => setRow_other w g k _ (fun e => hk (by simp [e]))⟩
      · simp only [List.size_toArray, List.length_append, List.length_take, List.length_drop, Array.length_toList, hlen]; omega
      · rw [hlen]
        simp only [List.take_zero, List.nil_append, Nat.zero_add, Nat.mul_one]
        have e := List.take_left (l₁ := bc (xs.take n)) (l₂ := cur.toList.drop n)
        rw [hlen] at e
        exact e
theorem rdv_none (w : World) (a : Addr) (c : Nat) (h : c ≤ maxLen) : Rdv w (.slice (some a) 0 c) (bc []) :=
  ⟨some a, c, rfl, Nat.zero_le _, h, fun e => (by cases e), fun b hb j u hu => by simp [bc] at hu⟩
theorem made_size (n : Nat) : (madeCells #[Value.int .u8 0] n).size = n := by simp [madeCells]
set_option maxHeartbeats 400000 in
/-- octet.GetBytes. -/
theorem getBytes_any (w : World) (b : Value) (l : List Int) (p most : Int) (hb : Rd w b l) (hl : l.length ≤ 140737488355300) :
    Calls Tryz.prog 111 #[b, .int .i64 p, .int .i64 most] w fun e w' => ∃ v', e = .returned (.tuple #[v', .int .i64 (getB l p most).2.1, .int .i64 (getB l p most).2.2]) ∧
      Own w' 5 v' (bc (getB l p most).1) ∧ Fr w.heap.size v' ∧ Below w.heap.size w w' := by
  have hG := getInt_any w b l p hb (by omega)
  rcases getI_cases l p hb.1 with hg | ⟨n, k, q, hpq, hg, hn, k1, k5, kl, ht⟩
  · have hB : getB l p most = ([], 0, 11) := by unfold getB; rw [hg]; simp
    rw [hB]
    rw [hg] at hG
    clear hB hg
    go_enter Tryz.func111, Tryz.ntmps111
    go_wp2_with fail
    refine hG.mono ?_
    rintro e w1 ⟨rfl, rfl⟩
    clear hG
    go_wp2_with fail
    go_ret3
    exact ⟨_, rfl, Own.nil _ _, Fr.nil _, Below.refl _ _⟩
  · subst hpq
    clear ht
    rw [hg] at hG
    obtain ⟨bb, off, cap, rfl, hc1, hc2, hbb, hcell⟩ := hb.at (by omega)
    by_cases hm : most < (n : Int)
    · have hB : getB l (q : Int) most = ([], 0, 11) := by unfold getB; rw [hg]; simp; intros; omega
      rw [hB]
      clear hB hg
      go_enter Tryz.func111, Tryz.ntmps111
      go_wp2_with fail
      refine hG.mono ?_
      rintro e w1 ⟨rfl, rfl⟩
      clear hG hcell hb
      go_wp2_with fail
      go_ret3
      exact ⟨_, rfl, Own.nil _ _, Fr.nil _, Below.refl _ _⟩
    by_cases hr : (l.length : Int) - ((q + k : Nat) : Int) < (n : Int)
    · have hB : getB l (q : Int) most = ([], 0, 11) := by unfold getB; rw [hg]; simp; intros; omega
      rw [hB]
      clear hB hg
      go_enter Tryz.func111, Tryz.ntmps111
      go_wp2_with fail
      refine hG.mono ?_
      rintro e w1 ⟨rfl, rfl⟩
      clear hG hcell hb
      have hd : decide (most < (n : Int)) = false := by simp; omega
      go_wp2_with fail
      go_ret3
      exact ⟨_, rfl, Own.nil _ _, Fr.nil _, Below.refl _ _⟩
    · have hB : getB l (q : Int) most = ((l.drop (q + k)).take n, ((q + k + n : Nat) : Int), 0) := by unfold getB; rw [hg, if_neg (by simp; omega)]; simp only [Int.toNat_natCast]; simp
      rw [hB]
      clear hB hg
      generalize q + k = s at *
      go_enter Tryz.func111, Tryz.ntmps111
      go_wp2_with fail
      refine hG.mono ?_
      rintro e w1 ⟨rfl, rfl⟩
      clear hG
      have hd : decide (most < (n : Int)) = false := by simp; omega
      have hd2 : decide ((l.length : Int) - (s : Int) < (n : Int)) = false := by simp; omega
      have hmk := run_mk n (by omega)
      have hnm : n ≤ maxLen := by unfold maxLen; omega
      by_cases hsc : s < cap
      · have hpart : Rd w1 (.slice (some ⟨bb, off + s, none⟩) (l.length - s) (cap - s)) ((l.drop s).take (l.length - s)) := Rd.part hb.1 hcell s (l.length - s) (by omega) _ (by omega) (by unfold maxLen at *; omega)
        rw [List.take_of_length_le (by rw [List.length_drop]; exact Nat.le_refl _)] at hpart
        have hp2 := hpart.below (below_alloc w1 (.cells (madeCells #[.int .u8 0] n) 5))
        clear hcell hb hpart
        go_wp2_with (refine cpy rfl _ _ rfl w1.heap.size n rfl _ (heap_alloc_new w1 _) (made_size n) _ (l.drop s) rfl hp2.2 (by rw [List.length_drop]; omega) hnm ?_; intro w2 hown hgr)
        go_ret3
        exact ⟨_, by simp, hown, fr_at _ _ _ _ (Nat.le_refl _), (below_alloc w1 _).trans (grown_below hgr (by simp) (fun k hk => by cases hk; exact Nat.le_refl _))⟩
      · have hs2 : cap = s := by omega
        subst hs2
        have hdr : l.drop cap = [] := List.drop_eq_nil_of_le (by omega)
        have hp2 : Rdv (w1.alloc (.cells (madeCells #[.int .u8 0] n) 5)) (.slice (some ⟨bb, off, none⟩) 0 0) (bc (l.drop cap)) := by
          rw [hdr]
          exact rdv_none _ _ 0 (Nat.zero_le _)
        clear hcell hb hdr
        go_wp2_with (refine cpy rfl _ _ rfl w1.heap.size n rfl _ (heap_alloc_new w1 _) (made_size n) _ (l.drop cap) rfl hp2 (by rw [List.length_drop]; omega) hnm ?_; intro w2 hown hgr)
        go_ret3
        exact ⟨_, by simp, hown, fr_at _ _ _ _ (Nat.le_refl _), (below_alloc w1 _).trans (grown_below hgr (by simp) (fun k hk => by cases hk; exact Nat.le_refl _))⟩
end
end Go.Proofs.YtgjepofinpmcpaaGreatDoor
