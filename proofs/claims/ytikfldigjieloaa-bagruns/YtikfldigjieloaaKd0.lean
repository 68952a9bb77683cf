/- Laws on rows of records that stand for whatever records: cuts of a flat row, append where there is room, clear. -/
import Derived.Test.YtikfldigjieloaaRk
import Derived.Laws.IdiomCopy
set_option linter.unusedVariables false
set_option linter.unusedSimpArgs false
namespace Go.Proofs.Ytikfldigjieloaa
open Go.RowKit Oct Kvl

theorem Row.uniq {w : World} {b : Nat} {t t' : TypeId} {xs ys : List Value} (h : Row w b t xs) (h' : Row w b t' ys) : xs = ys := by
  unfold Row at h h'
  rw [h] at h'
  simp at h'
  exact h'.1
theorem OT.ne {G : Nat → Prop} {w : World} {v : Value} {l : List Int} {b : Nat} {t : TypeId} {xs : List Value} (h : OT G w v l) (hr : Row w b t xs) (ht : t ≠ 5) : OT (fun k => G k ∧ k ≠ b) w v l := by
  refine ⟨h.1, h.2.1, fun k hk => ⟨h.2.2 k hk, fun e => ?_⟩⟩
  subst e
  rcases h.1.2 with ⟨rfl, _⟩ | ⟨g, cap, cur, rfl, _, hg, _⟩
  · simp [Value.ownBlock] at hk
  · simp [Value.ownBlock] at hk
    subst hk
    unfold Row at hr
    rw [hr] at hg
    simp at hg
    exact ht hg.2

theorem flat_take {k : Nat} {rows : List (List Value)} (h : ∀ r ∈ rows, r.length = k) (i : Nat) (hi : i ≤ rows.length) : rows.flatten.take (i * k) = (rows.take i).flatten := by
  have e : (rows.take i).flatten.length = i * k := by rw [flat_len (fun r hr => h r (List.mem_of_mem_take hr)), List.length_take, Nat.min_eq_left hi]
  conv => lhs; rw [← List.take_append_drop i rows]
  rw [List.flatten_append, ← e, List.take_left]
theorem flat_drop {k : Nat} {rows : List (List Value)} (h : ∀ r ∈ rows, r.length = k) (i : Nat) (hi : i ≤ rows.length) : rows.flatten.drop (i * k) = (rows.drop i).flatten := by
  have e : (rows.take i).flatten.length = i * k := by rw [flat_len (fun r hr => h r (List.mem_of_mem_take hr)), List.length_take, Nat.min_eq_left hi]
  conv => lhs; rw [← List.take_append_drop i rows]
  rw [List.flatten_append, ← e, List.drop_left]
theorem All2.take {α β : Type} {R : α → β → Prop} : ∀ {xs : List α} {zs : List β} (n : Nat), All2 R xs zs → All2 R (xs.take n) (zs.take n)
  | [], [], _, _ => by simp [All2]
  | _ :: _, _ :: _, 0, _ => by simp [All2]
  | _ :: _, _ :: _, n + 1, h => ⟨h.1, All2.take n h.2⟩
  | [], _ :: _, _, h => h.elim
  | _ :: _, [], _, h => h.elim
theorem All2.drop {α β : Type} {R : α → β → Prop} : ∀ {xs : List α} {zs : List β} (n : Nat), All2 R xs zs → All2 R (xs.drop n) (zs.drop n)
  | [], [], _, _ => by simp [All2]
  | _ :: _, _ :: _, 0, h => h
  | _ :: _, _ :: _, n + 1, h => All2.drop n h.2
  | [], _ :: _, _, h => h.elim
  | _ :: _, [], _, h => h.elim

section
variable {P : Program}
/-- 'append(s, x...)' where there is room, at a step of a region that draws its order. -/
theorem wp_app_room {o : Oper} {a : Act} {w : World} {K : Act → World → Prop} {Q : Exit → Act → World → Prop} (s x : Operand) (t : TypeId)
    (ho : o.op = .call { callee := .builtin .append, args := #[s, x], argTypes := #[t, t] }) (e : TypeId) (i : TypeInfo) (k : Nat) (ht : P.underlying t = some (.slice e)) (hi : P.info? e = some i) (hk : i.size = k)
    (g sLen sCap : Nat) (hs : a.eval s = .slice (some ⟨g, 0, none⟩) sLen sCap) (cur : List Value) (hg : Row w g e cur) (ad : Addr) (m c : Nat) (hx : a.eval x = .slice (some ad) m c) (news : List Value) (hl : news.length = m * k)
    (hnews : ∀ j u, news[j]? = some u → w.cell? (ad.add j) = some u) (h1 : ∀ u ∈ news, u.oneCell' = true) (hroom : sLen + m ≤ sCap) (hfit : sLen * k + news.length ≤ cur.length)
    (h : ∀ w', Hid (Row w' g e (splice cur (sLen * k) news)) → w.grownBy w' (some g) → K (a.put o.dst (.slice (some ⟨g, 0, none⟩) (sLen + m) sCap)) w') : o.wp P a w K Q := by
  subst hk
  have hr := run_append_room (P := P) w t o.type e i ht hi g sLen sCap cur.toArray hg ad m c news hl hnews h1 hroom (by simpa using hfit)
  have hr' : (Builtin.append_ #[t, t] o.type #[.slice (some ⟨g, 0, none⟩) sLen sCap, .slice (some ad) m c]).run P w = .ok (.slice (some ⟨g, 0, none⟩) (sLen + m) sCap) (w.setRow g (splice cur (sLen * i.size) news).toArray) := by
    rw [hr]
    simp [splice]
  unfold Oper.wp
  simp [execOp, ho, resolve, invoke, builtin, hs, hx, hr', Result.andThen]
  exact h _ (hg.setRow _) (grown_setRow _ _ _)
theorem step_app_room {ops : Array Oper} {o : Oper} {a : Act} {w : World} {K : Act → World → Prop} {Q : Exit → Act → World → Prop} {E : Prop} (hgd : o.guard = none) (s x : Operand) (t : TypeId)
    (ho : o.op = .call { callee := .builtin .append, args := #[s, x], argTypes := #[t, t] }) (e : TypeId) (i : TypeInfo) (k : Nat) (ht : P.underlying t = some (.slice e)) (hi : P.info? e = some i) (hk : i.size = k)
    (g sLen sCap : Nat) (hs : a.eval s = .slice (some ⟨g, 0, none⟩) sLen sCap) (cur : List Value) (hg : Row w g e cur) (ad : Addr) (m c : Nat) (hx : a.eval x = .slice (some ad) m c) (news : List Value) (hl : news.length = m * k)
    (hnews : ∀ j u, news[j]? = some u → w.cell? (ad.add j) = some u) (h1 : ∀ u ∈ news, u.oneCell' = true) (hroom : sLen + m ≤ sCap) (hfit : sLen * k + news.length ≤ cur.length)
    (h : ∀ w', Hid (Row w' g e (splice cur (sLen * k) news)) → w.grownBy w' (some g) → K (a.put o.dst (.slice (some ⟨g, 0, none⟩) (sLen + m) sCap)) w') :
    if Region.wanted o (yielded ops a.tmps) = true then Oper.wp P o a w K Q else E := by
  have hw : Region.wanted o (yielded ops a.tmps) = true := by simp [Region.wanted, hgd]
  rw [if_pos hw]
  exact wp_app_room s x t ho e i k ht hi hk g sLen sCap hs cur hg ad m c hx news hl hnews h1 hroom hfit h
/-- 'clear(s)' of one record in a row. -/
theorem wl_clear1 {ops : Array Oper} {rest : List Oper} {o : Oper} {a : Act} {w : World} {Q : Exit → Act → World → Prop} (hgd : o.guard = none) (s : Operand) (T : TypeId)
    (ho : o.op = .call { callee := .builtin .clear, args := #[s], argTypes := #[T] }) (elem : TypeId) (i : TypeInfo) (z : Value) (zs : List Value) (hu : P.underlying T = some (.slice elem)) (hi : P.info? elem = some i) (hz : i.zero = some z) (hzc : z.cells = zs.toArray) (hzz : Builtin.zeroCells zs.toArray 1 = zs.toArray)
    (n cap g off : Nat) (hn : n = 1) (hs : a.eval s = .slice (some ⟨g, off, none⟩) n cap) (cur : List Value) (t : TypeId) (hg : Row w g t cur) (hfit : off + zs.length ≤ cur.length) (h1 : ∀ v ∈ zs, v.oneCell' = true)
    (k : ∀ w', Hid (Row w' g t (splice cur off zs)) → w.grownBy w' (some g) → wpList P ops Q rest (a.put o.dst (.tuple #[])) w') : wpList P ops Q (o :: rest) a w :=
  wpList_plain hgd fun _ hK => by
    subst hn
    have hst := run_storeCells_at P g off t zs 0 cur.toArray w hg (by simpa using hfit) h1
    unfold Oper.wp
    have hr : (Builtin.clear_ #[T] o.type #[.slice (some ⟨g, off, none⟩) 1 cap]).run P w = .ok (.tuple #[]) (w.setRow g (splice cur off zs).toArray) := by
      simp [Builtin.clear_, run_underlying hu, zeroValue, typeInfo, hi, hz, hzc, hzz, hst, splice]
    simp [execOp, ho, resolve, invoke, builtin, hs, hr, Result.andThen]
    exact hK _ _ (k _ (hg.setRow _) (grown_setRow _ _ _))
end
end Go.Proofs.Ytikfldigjieloaa
