/- Two tallies, at most as many liars as there may be faulty: one certificate at most (plain). -/
import Derived.Test.YtgpkngiakhdmhaaDoorSBBT
import Derived.Test.YtgpkngiakhdmhaaDoorSBBL
import Derived.Test.YtgpkngiakhdmhaaDoorSBBU
import Derived.Test.YtgpkngiakhdmhaaDoorSBBC
import Derived.Deep.MidRow
import Derived.Deep.RegionHeld3
set_option linter.unusedSimpArgs false
set_option linter.unusedVariables false
namespace Go.Proofs.YtgpkngiakhdmhaaDoor
section
open Go.RowKit Oct Stb MI Bal Sha
/-- What stands between two acts. -/
def Mid (W : World) (b m : Nat) (n cut : Int) (w : World) (tl : PTl) : Prop := Tly w b m n cut tl ∧ Tab w ∧ Below W.heap.size W w ∧ (∀ k, Own1 m tl k → W.heap.size ≤ k) ∧ W.heap.size ≤ b
theorem Mid.below {W : World} {b m : Nat} {n cut : Int} {w w' : World} {tl : PTl} (h : Mid W b m n cut w tl) (hb : Below w.heap.size w w') : Mid W b m n cut w' tl :=
  ⟨h.1.below hb, h.2.1.below hb, below_and h.2.2.1 (Nat.le_refl _) hb, h.2.2.2⟩
theorem put_own {tl : PTl} {s i : Int} {nb m : Nat} {c : PCh} {k : Nat} (h : Own1 m (putT tl s nb i c) k) : Own1 m tl k ∨ k = nb := by
  rw [← app_mid tl s nb (i, c)] at h
  have := (app_ent (midT tl s nb) s (i, c)).2.1
  unfold Own1 at h
  rw [this] at h
  exact mid_own h
theorem Mid.add {W : World} {b m : Nat} {n cut : Int} {w : World} {tl : PTl} (h : Mid W b m n cut w tl) (s : Int) (dv : Value) (d : List Int) (hd : Rd w dv d) (i : Int) (gv : Value) (g : List Int) (hg : Rd w gv g) :
    Calls Tryd.prog 9 #[.pointer (some ⟨b, 0, none⟩), .int .i64 s, dv, .agg #[.int .i64 i, gv]] w fun e w' => ∃ nb, e = .returned (.bool (addB n cut tl s d (i, g))) ∧ Hid (Mid W b m n cut w' (addT n cut tl nb s d (i, g)) ∧ Gs (Own1 m tl) w w' ∧ (∀ k, Own1 m tl k → ¬ NMap w k)) := by
  obtain ⟨h1, h2, h3, h4, h5⟩ := h
  have hsz := h3.size
  refine (addT_any w h1 s dv d hd i gv g hg h2).mono ?_
  rintro e w' ⟨nb, hn, he, h6, hgs⟩
  refine ⟨nb, he, ⟨h6, gs_tab h1 hgs h2, ?_, fun k hk => ?_, h5⟩, hgs, fun k hk => (h1.own hk).1⟩
  · exact h3.trans (hgs.below hsz h4)
  · unfold addT at hk
    split at hk
    · rcases put_own hk with hk | hk
      · exact h4 k hk
      · omega
    · exact h4 k hk
theorem row_gs {w w' : World} {S : Nat → Prop} {c : Nat} {t : TypeId} {x : Value} {xs : List Value} (h : Row w c t (x :: xs)) (hg : Gs S w w') (hs : ∀ k, S k → ¬ NMap w k) : Row w' c t (x :: xs) :=
  (hg.block c h.lt (fun hS => hs c hS (cell_nmap (a := ⟨c, 0, none⟩) (h.cell (j := 0) rfl)))).trans h
/-! ### certificates -/
/-- 'append' of bytes, at a step of a region that draws its order, guarded or not. -/
theorem step_bytesW {w : World} {ops : Array Oper} {o : Oper} {a : Act} {K : Act → World → Prop} {Q : Exit → Act → World → Prop} {E : Prop} (hgd : Region.wanted o (yielded ops a.tmps) = true) (s x : Operand)
    (ho : o.op = .call { callee := .builtin .append, args := #[s, x], argTypes := #[26, 26] })
    (v : Value) (l : List Int) (hs : a.eval s = v) (hown : Own w 5 v (bc l)) (sv : Value) (m : List Int) (hx : a.eval x = sv) (hsrc : Rdv w sv (bc m)) (hb : l.length + m.length ≤ 140737488355328)
    (h : ∀ v' w', App w 5 v w' v' (bc (l ++ m)) → K (a.put o.dst v') w') : if Region.wanted o (yielded ops a.tmps) = true then Oper.wp Tryd.prog o a w K Q else E := by
  rw [if_pos hgd]
  obtain ⟨i0, hi, hz0, hz1, hz2⟩ := info_parts Tryd.info5
  refine wp_app s x 26 ho 5 i0 (.int .u8 0) 1 Tryd.underlying26 hi hz0 hz1 hz2 rfl v (bc l) hs hown sv (bc m) hx hsrc (bc_one _) (by rw [bc_len, bc_len]; unfold maxLen; omega) (by rw [bc_len, bc_len]; omega) ?_
  rw [← bc_app]
  exact h
theorem Mid.cut {W : World} {b m : Nat} {n : Int} {w : World} {tl : PTl} (h : Mid W b m n 0 w tl) (c : Int) :
    Calls Tryd.prog 19 #[.pointer (some ⟨b, 0, none⟩), .int .i64 c] w fun e w' => e = .returned (.tuple #[]) ∧ Hid (Mid W b m n (mx 0 c) w' (cutT tl (mx 0 c))) ∧ Gs (fun k => k = b ∨ k = m) w w' := by
  obtain ⟨h1, h2, h3, h4, h5⟩ := h
  have hsz := h3.size
  have hm : W.heap.size ≤ m := h4 m (.inl rfl)
  have hT : ∀ k, (k = b ∨ k = m) → k ≠ 0 := fun k hk e => by
    have h6 := h2 0 (by decide)
    rcases hk with hk | hk
    · have h7 := h1.row.cell (j := 0) rfl
      rw [← hk, e] at h7
      rw [h7] at h6
      injection h6 with h6
      injection h6 with h6 _
      cases h6
    · have h9 := h1.map.nocell 0
      rw [← hk, e] at h9
      rw [h9] at h6
      cases h6
  refine (cutT_any w h1 c).mono ?_
  rintro e w' ⟨he, h6, hg⟩
  refine ⟨he, ⟨h6, h2.keep (hg.block _ h2.pos (fun hS => hT _ hS rfl)), h3.trans (hg.below hsz (fun k hk => by rcases hk with hk | hk <;> omega)), fun k hk => ?_, h5⟩, hg⟩
  rcases hk with hk | hk
  · omega
  · refine h4 k (.inr ?_)
    unfold blkT cutT at hk
    exact (List.filter_sublist.map _).subset hk
end
section
open Go.RowKit Oct Stb MI Bal Sha
def qd (n : Int) (t : PTl) : Int := if quo n ≤ ((atT t 8).length : Int) then 1 else 0
/-- What is known between two votes: x and y are the sides' numbers. -/
structure OneI (n : Int) (lr vo A B : List Int) (x y : Int) (t1 t2 : PTl) (ct : Int) : Prop where
  a1 : ∀ z ∈ atT t1 8, z.2.1 = A
  a2 : ∀ z ∈ atT t2 8, z.2.1 = B
  k1 : ∀ i ∈ keysI (atT t1 8), 0 ≤ i ∧ i < n ∧ (i ∈ lr ∨ vo.getD i.toNat 0 = x)
  k2 : ∀ i ∈ keysI (atT t2 8), 0 ≤ i ∧ i < n ∧ (i ∈ lr ∨ vo.getD i.toNat 0 = y)
  ct : ct = qd n t1 + qd n t2
theorem OneI.swap {n : Int} {lr vo A B : List Int} {x y : Int} {t1 t2 : PTl} {ct : Int} (h : OneI n lr vo A B x y t1 t2 ct) : OneI n lr vo B A y x t2 t1 ct := ⟨h.a2, h.a1, h.k2, h.k1, by rw [h.ct]; omega⟩
theorem OneI.start {n : Int} (hn : rgt n = true) (lr vo A B : List Int) (x y : Int) : OneI n lr vo A B x y [] [] 0 := by
  have h1 := quo_yes hn
  have h2 := fau_ge hn
  refine ⟨fun z hz => absurd hz List.not_mem_nil, fun z hz => absurd hz List.not_mem_nil, fun z hz => absurd hz List.not_mem_nil, fun z hz => absurd hz List.not_mem_nil, ?_⟩
  have e : qd n [] = 0 := if_neg (by show ¬ quo n ≤ ((0 : Nat) : Int); omega)
  rw [e]
  rfl
theorem getD_set {l : List Int} {i j : Nat} {x : Int} (hi : i < l.length) : (l.set i x).getD j 0 = if j = i then x else l.getD j 0 := by
  rw [List.getD_eq_getElem?_getD, List.getD_eq_getElem?_getD, List.getElem?_set]
  by_cases h : i = j
  · subst h
    simp [hi]
  · rw [if_neg h, if_neg (fun e => h e.symm)]
theorem vts_one {ch : PIn} {A : List Int} (h : ∀ z ∈ ch, z.2.1 = A) : (vts ch A).length = ch.length := by
  unfold vts
  rw [List.length_map, List.filter_eq_self.2 (fun z hz => by simpa using h z hz)]
/-- One more vote of the first side. -/
theorem OneI.step {n : Int} {lr vo A B : List Int} {x y : Int} {t1 t2 : PTl} {ct : Int} (h : OneI n lr vo A B x y t1 t2 ct) (nb : Nat) {i : Int} (g : List Int) (h0 : 0 ≤ i) (h1 : i < n) (hl : i.toNat < vo.length) (hv : vo.getD i.toNat 0 = 0 ∨ vo.getD i.toNat 0 = x ∨ i ∈ lr) (hy : y ≠ 0) (hxy : x ≠ y) :
    OneI n lr (vo.set i.toNat x) A B x y (addT n 0 t1 nb 8 A (i, g)) t2 (if addB n 0 t1 8 A (i, g) = true then ct + 1 else ct) := by
  have K2 : ∀ j ∈ keysI (atT t2 8), 0 ≤ j ∧ j < n ∧ (j ∈ lr ∨ (vo.set i.toNat x).getD j.toNat 0 = y) := by
    intro j hj
    obtain ⟨p1, p2, p3⟩ := h.k2 j hj
    refine ⟨p1, p2, ?_⟩
    rcases p3 with p3 | p3
    · exact .inl p3
    · rw [getD_set hl]
      by_cases e : j.toNat = i.toNat
      · rw [e] at p3
        have e2 : j = i := by omega
        rcases hv with hv | hv | hv
        · rw [hv] at p3; exact absurd p3.symm hy
        · rw [hv] at p3; exact absurd p3 hxy
        · exact .inl (e2 ▸ hv)
      · rw [if_neg e]
        exact .inr p3
  have K1 : ∀ j ∈ keysI (atT t1 8), 0 ≤ j ∧ j < n ∧ (j ∈ lr ∨ (vo.set i.toNat x).getD j.toNat 0 = x) := by
    intro j hj
    obtain ⟨p1, p2, p3⟩ := h.k1 j hj
    refine ⟨p1, p2, ?_⟩
    rw [getD_set hl]
    by_cases e : j.toNat = i.toNat
    · rw [if_pos e]; exact .inr rfl
    · rw [if_neg e]; exact p3
  have hct := h.ct
  unfold addT addB
  cases hok : addOk n 0 t1 8 A (i, g) with
  | false =>
    simp only [Bool.false_and, Bool.false_eq_true, if_false]
    exact ⟨h.a1, h.a2, K1, K2, hct⟩
  | true =>
    simp only [Bool.true_and, if_true]
    have ha : atT (putT t1 8 nb i (A, g)) 8 = atT t1 8 ++ [(i, (A, g))] := at_put
    have hA : ∀ z ∈ atT t1 8 ++ [(i, (A, g))], z.2.1 = A := by
      intro z hz
      rcases List.mem_append.1 hz with hz | hz
      · exact h.a1 z hz
      · simp at hz; subst hz; rfl
    refine ⟨by rw [ha]; exact hA, h.a2, ?_, K2, ?_⟩
    · rw [ha]
      intro j hj
      unfold keysI at hj
      rw [List.map_append] at hj
      rcases List.mem_append.1 hj with hj | hj
      · exact K1 j hj
      · simp at hj
        subst hj
        exact ⟨h0, h1, .inr (by rw [getD_set hl, if_pos rfl])⟩
    · rw [vts_one hA]
      unfold qd at *
      rw [ha]
      simp only [List.length_append, List.length_cons, List.length_nil, decide_eq_true_eq]
      push_cast
      repeat' split
      all_goals first | omega | (rw [hct]; repeat' split; all_goals omega)
theorem len_split (l : List Int) (p : Int → Bool) : l.length = (l.filter p).length + (l.filter (fun x => !p x)).length := by
  induction l with
  | nil => rfl
  | cons a l ih =>
    cases h : p a <;> simp [List.filter_cons, h, ih] <;> omega
theorem keysI_nd {n : Int} {t : PTl} (h : OkT n 0 t) : (keysI (atT t 8)).Nodup := by
  by_cases e : atT t 8 = []
  · rw [e]; exact List.nodup_nil
  · obtain ⟨k, _, hE, _⟩ := h.at e
    exact hE.dup
/-- Two quorums share more than there may be liars. -/
theorem OneI.le {n : Int} {lr vo A B : List Int} {x y : Int} {t1 t2 : PTl} {ct : Int} (h : OneI n lr vo A B x y t1 t2 ct) (hn : rgt n = true) (o1 : OkT n 0 t1) (o2 : OkT n 0 t2) (hlr : (lr.length : Int) ≤ fau n) (hxy : x ≠ y) : ct ≤ 1 := by
  have q1 := quo_yes hn
  have q2 := fau_three hn
  have n1 := keysI_nd o1
  have n2 := keysI_nd o2
  have c1 : ((keysI (atT t2 8)).filter (fun i => decide (i ∈ keysI (atT t1 8)))).length ≤ lr.length := len_of_sub _ _ (List.filter_sublist.nodup n2) (fun i hi => by
    obtain ⟨p1, p2⟩ := List.mem_filter.1 hi
    have p2 : i ∈ keysI (atT t1 8) := by simpa using p2
    rcases (h.k1 i p2).2.2 with p3 | p3
    · exact p3
    · rcases (h.k2 i p1).2.2 with p4 | p4
      · exact p4
      · exact absurd (p3.symm.trans p4) hxy)
  have c2 : (keysI (atT t1 8) ++ (keysI (atT t2 8)).filter (fun i => !decide (i ∈ keysI (atT t1 8)))).length ≤ ((List.range n.toNat).map Int.ofNat).length := len_of_sub _ _ (List.nodup_append.2 ⟨n1, List.filter_sublist.nodup n2, fun a ha b hb e => by
      subst e
      have := (List.mem_filter.1 hb).2
      simp [ha] at this⟩) (fun i hi => by
    have hb : 0 ≤ i ∧ i < n := by
      rcases List.mem_append.1 hi with hi | hi
      · exact ⟨(h.k1 i hi).1, (h.k1 i hi).2.1⟩
      · have hi := (List.mem_filter.1 hi).1
        exact ⟨(h.k2 i hi).1, (h.k2 i hi).2.1⟩
    exact List.mem_map.2 ⟨i.toNat, List.mem_range.2 (by omega), by show ((i.toNat : Nat) : Int) = i; omega⟩)
  have c3 := len_split (keysI (atT t2 8)) (fun i => decide (i ∈ keysI (atT t1 8)))
  rw [List.length_append, List.length_map, List.length_range] at c2
  have l1 : (keysI (atT t1 8)).length = (atT t1 8).length := List.length_map _
  have l2 : (keysI (atT t2 8)).length = (atT t2 8).length := List.length_map _
  have hct := h.ct
  unfold qd at hct
  split at hct <;> split at hct <;> omega
end
end Go.Proofs.YtgpkngiakhdmhaaDoor
