/- slices.Delete of one entry; laws on rows of records. -/
import Derived.Test.YteafgdidjdfiiaaGreatKh
import Derived.Laws.IdiomCopy
set_option linter.unusedVariables false
set_option linter.unusedSimpArgs false
namespace Go.Proofs.YteafgdidjdfiiaaGreat
open Go.RowKit Oct Kvl

theorem flat_take {k : Nat} {rows : List (List Value)} (h : ∀ r ∈ rows, r.length = k) (i : Nat) (hi : i ≤ rows.length) : rows.flatten.take (i * k) = (rows.take i).flatten := by
  have e : (rows.take i).flatten.length = i * k := by rw [flat_len (fun r hr => h r (List.mem_of_mem_take hr)), List.length_take, Nat.min_eq_left hi]
  conv => lhs; rw [← List.take_append_drop i rows]
  rw [List.flatten_append, ← e, List.take_left]
theorem flat_drop {k : Nat} {rows : List (List Value)} (h : ∀ r ∈ rows, r.length = k) (i : Nat) (hi : i ≤ rows.length) : rows.flatten.drop (i * k) = (rows.drop i).flatten := by
  have e : (rows.take i).flatten.length = i * k := by rw [flat_len (fun r hr => h r (List.mem_of_mem_take hr)), List.length_take, Nat.min_eq_left hi]
  conv => lhs; rw [← List.take_append_drop i rows]
  rw [List.flatten_append, ← e, List.drop_left]
theorem All2.take {α β : Type} {R : α → β → Prop} : ∀ {xs : List α} {zs : List β} (n : Nat), All2 R xs zs → All2 R (xs.take n) (zs.take n)
  | [], [], _, _ => by simp [All2]
  | _ :: _, _ :: _, 0, _ => by simp [All2]
  | _ :: _, _ :: _, n + 1, h => ⟨h.1, All2.take n h.2⟩
  | [], _ :: _, _, h => h.elim
  | _ :: _, [], _, h => h.elim
theorem All2.drop {α β : Type} {R : α → β → Prop} : ∀ {xs : List α} {zs : List β} (n : Nat), All2 R xs zs → All2 R (xs.drop n) (zs.drop n)
  | [], [], _, _ => by simp [All2]
  | _ :: _, _ :: _, 0, h => h
  | _ :: _, _ :: _, n + 1, h => All2.drop n h.2
  | [], _ :: _, _, h => h.elim
  | _ :: _, [], _, h => h.elim

section
variable {P : Program}
/-- 'append(s, x...)' where there is room, at a step of a region that draws its order. -/
theorem wp_app_room {o : Oper} {a : Act} {w : World} {K : Act → World → Prop} {Q : Exit → Act → World → Prop} (s x : Operand) (t : TypeId)
    (ho : o.op = .call { callee := .builtin .append, args := #[s, x], argTypes := #[t, t] }) (e : TypeId) (i : TypeInfo) (k : Nat) (ht : P.underlying t = some (.slice e)) (hi : P.info? e = some i) (hk : i.size = k)
    (g sLen sCap : Nat) (hs : a.eval s = .slice (some ⟨g, 0, none⟩) sLen sCap) (cur : List Value) (hg : Row w g e cur) (ad : Addr) (m c : Nat) (hx : a.eval x = .slice (some ad) m c) (news : List Value) (hl : news.length = m * k)
    (hnews : ∀ j u, news[j]? = some u → w.cell? (ad.add j) = some u) (h1 : ∀ u ∈ news, u.oneCell' = true) (hroom : sLen + m ≤ sCap) (hfit : sLen * k + news.length ≤ cur.length)
    (h : ∀ w', Hid (Row w' g e (splice cur (sLen * k) news)) → w.grownBy w' (some g) → K (a.put o.dst (.slice (some ⟨g, 0, none⟩) (sLen + m) sCap)) w') : o.wp P a w K Q := by
  subst hk
  have hr := run_append_room (P := P) w t o.type e i ht hi g sLen sCap cur.toArray hg ad m c news hl hnews h1 hroom (by simpa using hfit)
  have hr' : (Builtin.append_ #[t, t] o.type #[.slice (some ⟨g, 0, none⟩) sLen sCap, .slice (some ad) m c]).run P w = .ok (.slice (some ⟨g, 0, none⟩) (sLen + m) sCap) (w.setRow g (splice cur (sLen * i.size) news).toArray) := by
    rw [hr]
    simp [splice]
  unfold Oper.wp
  simp [execOp, ho, resolve, invoke, builtin, hs, hx, hr', Result.andThen]
  exact h _ (hg.setRow _) (grown_setRow _ _ _)
theorem step_app_room {ops : Array Oper} {o : Oper} {a : Act} {w : World} {K : Act → World → Prop} {Q : Exit → Act → World → Prop} {E : Prop} (hgd : o.guard = none) (s x : Operand) (t : TypeId)
    (ho : o.op = .call { callee := .builtin .append, args := #[s, x], argTypes := #[t, t] }) (e : TypeId) (i : TypeInfo) (k : Nat) (ht : P.underlying t = some (.slice e)) (hi : P.info? e = some i) (hk : i.size = k)
    (g sLen sCap : Nat) (hs : a.eval s = .slice (some ⟨g, 0, none⟩) sLen sCap) (cur : List Value) (hg : Row w g e cur) (ad : Addr) (m c : Nat) (hx : a.eval x = .slice (some ad) m c) (news : List Value) (hl : news.length = m * k)
    (hnews : ∀ j u, news[j]? = some u → w.cell? (ad.add j) = some u) (h1 : ∀ u ∈ news, u.oneCell' = true) (hroom : sLen + m ≤ sCap) (hfit : sLen * k + news.length ≤ cur.length)
    (h : ∀ w', Hid (Row w' g e (splice cur (sLen * k) news)) → w.grownBy w' (some g) → K (a.put o.dst (.slice (some ⟨g, 0, none⟩) (sLen + m) sCap)) w') :
    if Region.wanted o (yielded ops a.tmps) = true then Oper.wp P o a w K Q else E := by
  have hw : Region.wanted o (yielded ops a.tmps) = true := by simp [Region.wanted, hgd]
  rw [if_pos hw]
  exact wp_app_room s x t ho e i k ht hi hk g sLen sCap hs cur hg ad m c hx news hl hnews h1 hroom hfit h
/-- 'clear(s)' of one record in a row. -/
theorem wl_clear1 {ops : Array Oper} {rest : List Oper} {o : Oper} {a : Act} {w : World} {Q : Exit → Act → World → Prop} (hgd : o.guard = none) (s : Operand) (T : TypeId)
    (ho : o.op = .call { callee := .builtin .clear, args := #[s], argTypes := #[T] }) (elem : TypeId) (i : TypeInfo) (z : Value) (zs : List Value) (hu : P.underlying T = some (.slice elem)) (hi : P.info? elem = some i) (hz : i.zero = some z) (hzc : z.cells = zs.toArray) (hzz : Builtin.zeroCells zs.toArray 1 = zs.toArray)
    (n cap g off : Nat) (hn : n = 1) (hs : a.eval s = .slice (some ⟨g, off, none⟩) n cap) (cur : List Value) (t : TypeId) (hg : Row w g t cur) (hfit : off + zs.length ≤ cur.length) (h1 : ∀ v ∈ zs, v.oneCell' = true)
    (k : ∀ w', Hid (Row w' g t (splice cur off zs)) → w.grownBy w' (some g) → wpList P ops Q rest (a.put o.dst (.tuple #[])) w') : wpList P ops Q (o :: rest) a w :=
  wpList_plain hgd fun _ hK => by
    subst hn
    have hst := run_storeCells_at P g off t zs 0 cur.toArray w hg (by simpa using hfit) h1
    unfold Oper.wp
    have hr : (Builtin.clear_ #[T] o.type #[.slice (some ⟨g, off, none⟩) 1 cap]).run P w = .ok (.tuple #[]) (w.setRow g (splice cur off zs).toArray) := by
      simp [Builtin.clear_, run_underlying hu, zeroValue, typeInfo, hi, hz, hzc, hzz, hst, splice]
    simp [execOp, ho, resolve, invoke, builtin, hs, hr, Result.andThen]
    exact hK _ _ (k _ (hg.setRow _) (grown_setRow _ _ _))
end

/-- The cells behind what is taken out, then the last record cleared. -/
theorem splice_del (cur L zs : List Value) (i n : Nat) (hi : i < n) (hL : L.length = n * 2) (hc : n * 2 ≤ cur.length) (ht : cur.take (n * 2) = L) (hz : zs.length = 2) :
    (splice (splice cur (i * 2) (L.drop ((i + 1) * 2))) ((n - 1) * 2) zs).take ((n - 1) * 2) = L.take (i * 2) ++ L.drop ((i + 1) * 2) := by
  have hd : (L.drop ((i + 1) * 2)).length = (n - 1) * 2 - i * 2 := by rw [List.length_drop, hL]; omega
  have e1 : cur.take (i * 2) = L.take (i * 2) := by rw [← ht, List.take_take, Nat.min_eq_left (by omega)]
  have hl : (L.take (i * 2)).length = i * 2 := by rw [List.length_take]; omega
  have e2 : (splice cur (i * 2) (L.drop ((i + 1) * 2))).take ((n - 1) * 2) = L.take (i * 2) ++ L.drop ((i + 1) * 2) := by
    unfold splice
    rw [e1, ← List.append_assoc, List.take_append_of_le_length (by rw [List.length_append, hl, hd]; omega), List.take_of_length_le (by rw [List.length_append, hl, hd]; omega)]
  generalize splice cur (i * 2) (L.drop ((i + 1) * 2)) = C at *
  have hC : (C.take ((n - 1) * 2)).length = (n - 1) * 2 := by rw [e2, List.length_append, hl, hd]; omega
  unfold splice
  rw [List.take_append_of_le_length (by rw [hC]; omega), List.take_of_length_le (by rw [hC]; omega), e2]

set_option maxHeartbeats 1000000 in
set_option maxRecDepth 100000 in
/-- slices.Delete of one entry. -/
theorem delete_any (w : World) (g cap n i : Nat) (cur L : List Value) (hrow : Row w g 73 cur) (hcl : cur.length = cap * 2) (hL : L.length = n * 2) (ht : cur.take (n * 2) = L) (hi : i < n) (hroom : n ≤ cap) (hcap : cap ≤ maxLen) (hn : n ≤ 64) (h1 : ∀ u ∈ L, u.oneCell' = true) :
    Calls Tryz.prog 109 #[.slice (some ⟨g, 0, none⟩) n cap, .int .i64 (i : Int), .int .i64 ((i : Int) + 1)] w fun e w' =>
      e = .returned (.slice (some ⟨g, 0, none⟩) (n - 1) cap) ∧ w.grownBy w' (some g) ∧ ∃ cur', Row w' g 73 cur' ∧ cur'.length = cap * 2 ∧ cur'.take ((n - 1) * 2) = L.take (i * 2) ++ L.drop ((i + 1) * 2) := by
  obtain ⟨i0, hi0, hz0, hzs, hzb⟩ := info_parts Tryz.infE
  have hdl : (L.drop ((i + 1) * 2)).length = (n - (i + 1)) * 2 := by rw [List.length_drop, hL]; omega
  have hfit : i * 2 + (L.drop ((i + 1) * 2)).length ≤ cur.length := by omega
  have hsrc : ∀ j u, (L.drop ((i + 1) * 2))[j]? = some u → w.cell? ⟨g, (i + 1) * 2 + j, none⟩ = some u := fun j u hj => by
    refine hrow.cell ?_
    rw [List.getElem?_drop] at hj
    rw [← ht, List.getElem?_take] at hj
    split at hj
    · exact hj
    · cases hj
  have HD := (show Hid ((splice (splice cur (i * 2) (L.drop ((i + 1) * 2))) ((n - 1) * 2) [.slice none 0 0, .slice none 0 0]).take ((n - 1) * 2) = L.take (i * 2) ++ L.drop ((i + 1) * 2)) from splice_del cur L [.slice none 0 0, .slice none 0 0] i n hi hL (by omega) ht rfl)
  have HO := (show Hid (∀ u ∈ L.drop ((i + 1) * 2), u.oneCell' = true) from fun u hu => h1 u (List.mem_of_mem_drop hu))
  have HR := (show Hid (Row w g 73 cur) from hrow)
  have HF := (show Hid (i * 2 + (L.drop ((i + 1) * 2)).length ≤ cur.length) from hfit)
  have HC := (show Hid (cur.length = cap * 2) from hcl)
  have HDL := (show Hid ((L.drop ((i + 1) * 2)).length = (n - (i + 1)) * 2) from hdl)
  have hne : ((i : Int) == (i : Int) + 1) = false := by simp; omega
  have hb1 : (0 : Int) ≤ (i : Int) + 1 := by omega
  have hb2 : (i : Int) ≤ (i : Int) + 1 := by omega
  have hb3 : (i : Int) + 1 ≤ (n : Int) := by omega
  have hb4 : (i : Int) ≤ (n : Int) := by omega
  have htn : ((i : Int) + 1).toNat = i + 1 := by omega
  have hcm : (cap : Int) ≤ 9223372036854775807 := by unfold maxLen at hcap; omega
  have hn0 : ¬ (n = 0) := by omega
  have hic : i ≤ cap := by omega
  obtain ⟨m, rfl⟩ : ∃ m, n = m + 1 := ⟨n - 1, by omega⟩
  have HD : Hid ((splice (splice cur (i * 2) (L.drop ((i + 1) * 2))) (m * 2) [.slice none 0 0, .slice none 0 0]).take (m * 2) = L.take (i * 2) ++ L.drop ((i + 1) * 2)) := HD
  rw [Nat.add_sub_cancel]
  have him : i ≤ m := by omega
  have hem : i + (m - i) = m := by omega
  have HDL : Hid ((L.drop ((i + 1) * 2)).length = (m - i) * 2) := (show _ = _ by rw [HDL.out]; omega)
  have hmc : ¬ (cap = m) := by omega
  have hmi : (m : Int) ≤ (m : Int) + 1 := by omega
  have hmk : m ≤ m + 1 := by omega
  clear hrow hcl hL ht h1 hdl hfit
  generalize hDD : L.drop ((i + 1) * 2) = D at *
  have hS : ∃ ad : Addr, (if cap = i + 1 then some (⟨g, 0, none⟩ : Addr) else some ⟨g, (i + 1) * 2, none⟩) = some ad ∧ Hid (∀ j u, D[j]? = some u → w.drew.cell? (ad.add j) = some u) := by
    by_cases h : cap = i + 1
    · refine ⟨⟨g, 0, none⟩, by simp [h], fun j u hj => ?_⟩
      have := HDL.out
      rw [List.eq_nil_of_length_eq_zero (show D.length = 0 by omega)] at hj
      simp at hj
    · refine ⟨⟨g, (i + 1) * 2, none⟩, by simp [h], fun j u hj => ?_⟩
      rw [Addr.add_mid]
      exact hsrc j u hj
  obtain ⟨ad, had, HS⟩ := hS
  clear hsrc
  go_enter Tryz.func109, Tryz.ntmps109
  go_wp2_with fail
  by_cases hci : cap = i + 1
  · rw [if_pos hci] at had
    injection had with had
    subst had
    subst hci
    go_region_law ((refine step_app_room (by rfl) _ _ _ (by rfl) 73 i0 2 Tryz.underlying23 hi0 hzs g i (i + 1) (by simp [Act.eval, Act.put]) cur HR.out ⟨g, 0, none⟩ (m - i) 0 (by simp [Act.eval, Act.put]; omega) D HDL.out HS.out HO.out (by omega) HF.out ?_; intro w2 hr2 hg2))
    have HG := (show Hid (w.grownBy w2 (some g)) from grown_drew hg2)
    have HF2 := (show Hid (m * 2 + 2 ≤ (splice cur (i * 2) D).length) by
      show m * 2 + 2 ≤ _
      rw [length_splice _ _ _ HF.out, HC.out]; omega)
    clear hg2
    go_wp2_with (refine wl_clear1 rfl _ _ rfl 73 i0 _ [.slice none 0 0, .slice none 0 0] Tryz.underlying23 hi0 hz0 rfl (by kernel_rfl) (m + 1 - m) (i + 1 - m) g (m * 2) (by omega) (by simp [Act.eval]) _ _ hr2.out HF2.out (onE2 rfl rfl) ?_; intro w3 hr3 hg3)
    go_ret
    refine ⟨rfl, grown_trans HG.out hg3 (.inl rfl), _, hr3.out, ?_, HD.out⟩
    rw [length_splice _ _ _ HF2.out, length_splice _ _ _ HF.out, HC.out]
  · rw [if_neg hci] at had
    injection had with had
    subst had
    go_region_law ((refine step_app_room (by rfl) _ _ _ (by rfl) 73 i0 2 Tryz.underlying23 hi0 hzs g i cap (by simp [Act.eval, Act.put]) cur HR.out ⟨g, (i + 1) * 2, none⟩ (m - i) (cap - (i + 1)) (by simp [Act.eval, Act.put, hci]) D HDL.out HS.out HO.out (by omega) HF.out ?_; intro w2 hr2 hg2))
    have HG := (show Hid (w.grownBy w2 (some g)) from grown_drew hg2)
    have HF2 := (show Hid (m * 2 + 2 ≤ (splice cur (i * 2) D).length) by
      show m * 2 + 2 ≤ _
      rw [length_splice _ _ _ HF.out, HC.out]; omega)
    clear hg2
    go_wp2_with (refine wl_clear1 rfl _ _ rfl 73 i0 _ [.slice none 0 0, .slice none 0 0] Tryz.underlying23 hi0 hz0 rfl (by kernel_rfl) (m + 1 - m) (cap - m) g (m * 2) (by omega) (by simp [Act.eval]) _ _ hr2.out HF2.out (onE2 rfl rfl) ?_; intro w3 hr3 hg3)
    go_ret
    refine ⟨rfl, grown_trans HG.out hg3 (.inl rfl), _, hr3.out, ?_, HD.out⟩
    rw [length_splice _ _ _ HF2.out, length_splice _ _ _ HF.out, HC.out]
end Go.Proofs.YteafgdidjdfiiaaGreat
