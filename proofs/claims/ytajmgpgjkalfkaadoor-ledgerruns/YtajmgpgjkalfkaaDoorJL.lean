/- The document's Cut. -/
import Derived.Test.YtajmgpgjkalfkaaDoorJK
import Derived.Test.YtajmgpgjkalfkaaDoorLb
import Derived.Test.YtajmgpgjkalfkaaDoorJC
import Derived.Test.YtajmgpgjkalfkaaDoorJE
import Derived.Test.YtajmgpgjkalfkaaDoorJF
section
set_option linter.unusedVariables false
set_option linter.unusedSimpArgs false
namespace Go.Proofs.YtajmgpgjkalfkaaDoor
open Go.RowKit Oct Kvl

theorem Tryd.infSn : (Tryd.prog.info? 68).map (fun i => (i.zero, i.size, i.bytes)) = some (some (.agg zSn.toArray), 11, 136) := by kernel_rfl
/-- No nil slice. -/
def NNs (v : Value) : Prop := ∃ ad n c, v = .slice (some ad) n c
theorem LB.nns {α : Type} {R : (Nat → Prop) → World → List Value → α → Prop} {t : TypeId} {k B : Nat} {w : World} {v : Value} {ys : List α} (h : LB R t k B w v ys) (hl : 0 < ys.length) : NNs v := by
  obtain ⟨rows, _, h1, _, h2⟩ := h
  have := h2.len
  rcases h1.2 with ⟨_, h⟩ | ⟨g, cap, cur, e, _⟩
  · omega
  · exact ⟨_, _, _, e⟩
theorem nns_of {w : World} {base e size n : Nat} {v : Value} {xs : List Value} (h : w.ownsRow base e size v n xs) (hn : ¬ v = .slice none 0 0) : NNs v := by
  rcases h.2 with ⟨e, _⟩ | ⟨g, cap, cur, e, _⟩
  · exact absurd e hn
  · exact ⟨_, _, _, e⟩
def LSe (w0 : World) (G : Nat → Prop) (w : World) (v : Value) (ys : List PSn) : Prop := RL (RSe w0) 11 G w v ys
theorem LSe.mv {w0 : World} {G G' : Nat → Prop} {w w' : World} {v : Value} {ys : List PSn} (h : LSe w0 G w v ys) (hs : w.heap.size ≤ w'.heap.size) (hm : Mv G G' w w') : LSe w0 G' w' v ys := RL.mv (mov_se w0) h hs hm
theorem LSe.below {w0 : World} {G : Nat → Prop} {w w' : World} {v : Value} {ys : List PSn} (h : LSe w0 G w v ys) (hb : Below w.heap.size w w') : LSe w0 G w' v ys := h.mv hb.size (Mv.belowG hb)

set_option maxRecDepth 10000 in
set_option maxHeartbeats 1000000 in
/-- 'append([]catenaryref15.Seen{}, l...)'. -/
theorem wl_allZ {w0 w : World} {ops : Array Oper} {rest : List Oper} {o : Oper} {a : Act} {Q : Exit → Act → World → Prop} (hgd : o.guard = none) (s x : Operand)
    (ho : o.op = .call { callee := .builtin .append, args := #[s, x], argTypes := #[26, 26] }) (hs : a.eval s = .slice (some ⟨w.heap.size, 0, none⟩) 0 0)
    (v : Value) (ys : List PSn) (hx : a.eval x = v) (h : LSe w0 Any w v ys) (hn : ys.length ≤ 10000) (hv : NNs v)
    (k : ∀ v' w', LB (RSe w0) 68 11 w.heap.size w' v' ys → Below w.heap.size w w' → NNs v' → wpList Tryd.prog ops Q rest (a.put o.dst v') w') : wpList Tryd.prog ops Q (o :: rest) a (w.alloc (.cells #[] 68)) := by
  obtain ⟨rows, ⟨h0, h1⟩, h2⟩ := h
  have hlen := h2.len
  have hfl := flat_len h0
  have hone : ∀ u ∈ rows.flatten, u.oneCell' = true := by
    intro u hu
    obtain ⟨r, hr, hur⟩ := List.mem_flatten.1 hu
    obtain ⟨i, hi, rfl⟩ := List.getElem_of_mem hr
    exact one_RSe (h2.get (List.getElem?_eq_getElem hi) (List.getElem?_eq_getElem (by omega))) u hur
  obtain ⟨i0, hi, hz0, hzs, hzb⟩ := info_parts Tryd.infSn
  have fin : ∀ v' w', w'.ownsRow w.heap.size 68 11 v' (0 + rows.length) ([] ++ rows.flatten) → (w.alloc (.cells #[] 68)).grownBy w' (some w.heap.size) → LB (RSe w0) 68 11 w.heap.size w' v' ys ∧ Below w.heap.size w w' := fun v' w' hown hgrow => by
    rw [Nat.zero_add, List.nil_append] at hown
    refine ⟨⟨rows, h0, ⟨hown.1, ?_⟩, fun q hq => (World.ownsRow.lt hown q hq).1, h2.mono fun r y hr => hr⟩, ((Below.refl _ w).alloc (Nat.le_refl _) _).grown hgrow (by simp) (fun q hq => by cases hq; exact Nat.le_refl _)⟩
    rcases hown.2 with h | ⟨g, cap, cur, e1, _, e3⟩
    · exact .inl h
    · exact .inr ⟨g, cap, cur, e1, Nat.zero_le _, e3⟩
  rcases h1 with ⟨ao, cap, rfl, rfl, hcap⟩ | ⟨b, off, cap, rfl, hc1, hc2, hpos, _, hb, hr⟩
  · cases ao with
    | none => obtain ⟨_, _, _, e⟩ := hv; cases e
    | some ad =>
      refine wpList_append_own _ hgd s x 26 ho w.heap.size 68 i0 _ 11 136 Tryd.underlying26 hi hz0 hzs hzb rfl (by decide) _ _ _ hs (World.ownsRow_made w #[] 0 (Nat.le_refl _) (Nat.zero_le _) (by simp)) ad 0 cap [] hx rfl (fun j u hu => by simp at hu) (fun u hu => by cases hu) (by simp) (by simp) (by simp) ?_
      intro v' w' hown hgrow hnil
      obtain ⟨f1, f2⟩ := fin v' w' (by simpa using hown) hgrow
      exact k v' w' f1 f2 (nns_of hown (fun e => by cases (hnil.1 e).1))
  · refine wpList_append_own _ hgd s x 26 ho w.heap.size 68 i0 _ 11 136 Tryd.underlying26 hi hz0 hzs hzb rfl (by decide) _ _ _ hs (World.ownsRow_made w #[] 0 (Nat.le_refl _) (Nat.zero_le _) (by simp)) ⟨b, off, none⟩ rows.length cap rows.flatten hx hfl (fun j u hj => ?_) hone (by unfold maxLen; omega) (by omega) (by simp) ?_
    · rw [Addr.add_mid]
      refine ((below_alloc w _).cell (p := ⟨b, off + j, none⟩) hb).trans ?_
      have hj' : j < rows.length * 11 := by rw [← hfl]; exact (List.getElem?_eq_some_iff.1 hj).1
      have hi' : j / 11 < rows.length := by omega
      have hk' := h0 _ (List.getElem_mem hi')
      have hjm : j % 11 < rows[j / 11].length := by omega
      have e1 := flat_at (j := j % 11) h0 (List.getElem?_eq_getElem hi') (List.getElem?_eq_getElem hjm)
      rw [show j / 11 * 11 + j % 11 = j by omega] at e1
      have e2 := hr (j / 11) _ (List.getElem?_eq_getElem hi') (j % 11) _ (List.getElem?_eq_getElem hjm)
      rw [show off + j / 11 * 11 + j % 11 = off + j by omega] at e2
      rw [e1] at hj
      rw [e2, hj]
    · intro v' w' hown hgrow hnil
      obtain ⟨f1, f2⟩ := fin v' w' hown hgrow
      exact k v' w' f1 f2 (nns_of hown (fun e => by cases (hnil.1 e).1))


theorem flat_set11 {rows : List (List Value)} : ∀ {p : Nat} {r : List Value} {u : Value}, (∀ r ∈ rows, r.length = 11) → rows[p]? = some r → rows.flatten.set (p * 11 + 10) u = (rows.set p (r.set 10 u)).flatten := by
  induction rows with
  | nil => intro p r u _ h; simp at h
  | cons x rows ih =>
    intro p r u h0 hr
    have hx := h0 x (by simp)
    cases p with
    | zero =>
      simp at hr
      subst hr
      rw [List.flatten_cons, List.set_cons_zero, List.flatten_cons, List.set_append, if_pos (by omega), Nat.zero_mul, Nat.zero_add]
    | succ p =>
      have ih := ih (p := p) (r := r) (u := u) (fun y hy => h0 y (by simp [hy])) (by simpa using hr)
      rw [List.flatten_cons, List.set_cons_succ, List.flatten_cons, ← ih, List.set_append, if_neg (by omega), hx, show (p + 1) * 11 + 10 - 11 = p * 11 + 10 by omega]
/-- A list under construction, opened at one of its votes. -/
theorem LB.toldZ {w0 w : World} {B : Nat} {v : Value} {ls : List PSn} (h : LB (RSe w0) 68 11 B w v ls) {j : Nat} {z : PSn} (hz : ls[j]? = some z) :
    ∃ (g cap : Nat) (cur : List Value) (o p s : Value), v = .slice (some ⟨g, 0, none⟩) ls.length cap ∧ ls.length ≤ cap ∧ cap ≤ maxLen ∧ B ≤ g ∧ Row w g 68 cur ∧ j * 11 + 10 < cur.length ∧ (∀ i u, (snc z o p s)[i]? = some u → cur[j * 11 + i]? = some u) ∧ RT Any w0 o z.req.2.2.1 ∧ RT Any w0 p z.req.2.2.2 ∧ RT Any w0 s z.sig ∧
      ∀ w2, w.grownBy w2 (some g) → Row w2 g 68 (cur.set (j * 11 + 10) (.bool true)) → LB (RSe w0) 68 11 B w2 v (ls.set j { z with told := true }) := by
  obtain ⟨rows, h0, hown, hfr, hall⟩ := h
  have hlen := hall.len
  have hjl := (List.getElem?_eq_some_iff.1 hz).1
  rcases hown.2 with ⟨_, h4⟩ | ⟨g, cap, cur, rfl, _, hg, hc1, hc2, hc3, hc4⟩
  · omega
  obtain ⟨r, hr⟩ : ∃ r, rows[j]? = some r := ⟨_, List.getElem?_eq_getElem (by omega)⟩
  obtain ⟨o, p, s, rfl, t1, t2, t3⟩ := hall.get hr hz
  have hcur : cur.toList.length = cap * 11 := by simpa using hc3
  have hrow : Row w g 68 cur.toList := by unfold Row; simpa using hg
  have hm11 : j * 11 + 11 ≤ cap * 11 := by
    have : (j + 1) * 11 ≤ cap * 11 := Nat.mul_le_mul_right _ (by omega)
    omega
  refine ⟨g, cap, cur.toList, o, p, s, by rw [hlen], by omega, hc2, hfr g rfl, hrow, by omega, ?_, t1, t2, t3, ?_⟩
  · intro i u hi
    have e1 := flat_at (j := i) h0 hr hi
    have hi' : i < 11 := (List.getElem?_eq_some_iff.1 hi).1
    have hlt : j * 11 + i < rows.length * 11 := by
      have : (j + 1) * 11 ≤ rows.length * 11 := Nat.mul_le_mul_right _ (by omega)
      omega
    rw [← hc4, List.getElem?_take, if_pos (by simpa using hlt)] at e1
    exact e1
  · intro w2 hg2 hr2
    refine ⟨rows.set j ((snc z o p s).set 10 (.bool true)), ?_, ⟨?_, .inr ⟨g, cap, (cur.toList.set (j * 11 + 10) (.bool true)).toArray, by rw [List.length_set], Nat.zero_le _, hr2, by rw [List.length_set]; exact hc1, hc2, by simpa using hc3, ?_⟩⟩, hfr, ?_⟩
    · intro q hq
      rcases List.mem_or_eq_of_mem_set hq with hq | rfl
      · exact h0 q hq
      · rfl
    · refine flat_len (fun q hq => ?_)
      rcases List.mem_or_eq_of_mem_set hq with hq | rfl
      · exact h0 q hq
      · rfl
    · rw [List.length_set, ← flat_set11 h0 hr, ← hc4]
      simp [List.take_set]
    · exact All2.setR (hall.mono fun q y hq => hq) ⟨o, p, s, rfl, t1, t2, t3⟩
end Go.Proofs.YtajmgpgjkalfkaaDoor
end

section
set_option linter.unusedVariables false
set_option linter.unusedSimpArgs false
namespace Go.Proofs.YtajmgpgjkalfkaaDoor
open Go.RowKit Oct Kvl

theorem cutL_take {ls : List PSn} {n : Nat} {z : PSn} {s : Int} (h : ls[n]? = some z) : cutL (ls.take (n + 1)) s = if s < z.key.2.2.2.1 then cutL (ls.take n) s ++ [z] else cutL (ls.take n) s := by
  unfold cutL
  rw [List.take_add_one, h, List.filter_append]
  simp only [Option.toList_some, List.filter_cons, List.filter_nil]
  by_cases hs : s < z.key.2.2.2.1
  · rw [if_pos hs, if_pos (by simpa using hs)]
  · rw [if_neg hs, if_neg (by simpa using hs), List.append_nil]
theorem cutL_len (ls : List PSn) (s : Int) : (cutL ls s).length ≤ ls.length := List.length_filter_le _ _

set_option maxRecDepth 10000 in
set_option maxHeartbeats 2000000 in
theorem refCutZ_any (w0 w : World) (v : Value) (ls : List PSn) (h : LSe w0 Any w v ls) (hl : ls.length ≤ 10000) (s : Int) :
    Calls Tryd.prog 11 #[v, .int .i64 s] w fun e w' => ∃ v', e = .returned v' ∧ NNs v' ∧ LSe w0 (From w.heap.size) w' v' (cutL ls s) ∧ Below w.heap.size w w' := by
  have le := Nat.le_refl w.heap.size
  obtain ⟨av, cv, rfl, hcv⟩ := RL.form h
  have hf := LB.fresh (RSe w0) 68 11 w.heap.size w le
  have HL := (show Hid (ls.length ≤ 10000) from hl)
  have hNb : (ls.length : Int) ≤ 10000 := by omega
  go_enter Tryd.func11, Tryd.ntmps11
  go_wp2_with fail
  go_loopw [5, 11] (fun o j wr => ∃ n : Nat, n ≤ ls.length ∧ j = .int .i64 n ∧ NNs o ∧ LB (RSe w0) 68 11 w.heap.size wr o (cutL (ls.take n) s) ∧ Below w.heap.size w wr) (fun _ j _ => ls.length - (intOf j).toNat)
  case atStart => exact ⟨0, by omega, rfl, ⟨_, _, _, rfl⟩, hf, below_alloc _ _⟩
  case round =>
    clear hf
    obtain ⟨n, hn, rfl, hnn, hL, hB⟩ := hrel
    obtain ⟨ad, n2, c2, rfl⟩ := hnn
    by_cases hnl : n < ls.length
    · obtain ⟨z, hz⟩ : ∃ z, ls[n]? = some z := ⟨_, List.getElem?_eq_getElem hnl⟩
      have HT := (show Hid (cutL (ls.take (n + 1)) s = if s < z.key.2.2.2.1 then cutL (ls.take n) s ++ [z] else cutL (ls.take n) s) from cutL_take hz)
      have HTL := (show Hid ((cutL (ls.take n) s).length ≤ 10000) from Nat.le_trans (cutL_len _ _) (by rw [List.length_take]; have := HL.out; omega))
      obtain ⟨bv, off, cap, hve, _, _, _, hbv, hat⟩ := RL.at h (by omega)
      obtain ⟨rv, _, hrng, o, p, g, rfl, t1, t2, t3⟩ := hat n z hz
      obtain ⟨⟨k, x, y, sl, i⟩, zr, zs, zt⟩ := z
      simp only at t1 t2 t3 HT
      injection hve with hv1 hv2 hv3
      subst hv1 hv3
      clear hv2 hat hz
      have hrng := rangeAt_block hrng (hB.block bv hbv)
      obtain ⟨ao, co, rfl, _⟩ := t1.form
      obtain ⟨ap, cp, rfl, _⟩ := t2.form
      obtain ⟨ag, cg, rfl, _⟩ := t3.form
      have hon : ∀ v ∈ ([.int .i64 k, .int .i64 sl, .int .i64 i, .int .i64 x, .int .i64 y, .int .i64 zr.1, .int .i64 zr.2.1, .slice ao zr.2.2.1.length co, .slice ap zr.2.2.2.length cp, .slice ag zs.length cg, .bool zt] : List Value), v.oneCell' = true := one_snc (z := ⟨(k, x, y, sl, i), zr, zs, zt⟩) t1.one t2.one t3.one
      have hrng : wr.rangeAt bv (off + n * 11) [.int .i64 k, .int .i64 sl, .int .i64 i, .int .i64 x, .int .i64 y, .int .i64 zr.1, .int .i64 zr.2.1, .slice ao zr.2.2.1.length co, .slice ap zr.2.2.2.length cp, .slice ag zs.length cg, .bool zt] := hrng
      have hrow0 := Row.new wr 68 zSn
      go_upto_region 5 with (first
        | (refine wpList_load_mid rfl _ _ rfl bv (off + n * 11) rfl [.int .i64 k, .int .i64 sl, .int .i64 i, .int .i64 x, .int .i64 y, .int .i64 zr.1, .int .i64 zr.2.1, .slice ao zr.2.2.1.length co, .slice ap zr.2.2.2.length cp, .slice ag zs.length cg, .bool zt] _ hrng Tryd.underlying68 rfl (by kernel_rfl) ?_)
        | (refine wl_store rfl _ _ _ rfl wr.heap.size [.int .i64 k, .int .i64 sl, .int .i64 i, .int .i64 x, .int .i64 y, .int .i64 zr.1, .int .i64 zr.2.1, .slice ao zr.2.2.1.length co, .slice ap zr.2.2.2.length cp, .slice ag zs.length cg, .bool zt] rfl rfl _ _ hrow0 rfl (by kernel_rfl) hon ?_; intro w5 r5 g5))
      have b5 : Below wr.heap.size wr w5 := (below_alloc wr (.cells (zSn : List Value).toArray 68)).trans (grown_below g5 (by simp) (fun k hk => by cases hk; exact Nat.le_refl _))
      have r5 := r5.out
      have hB5 := below_and hB (Nat.le_refl _) b5
      have hL5 := hL.below (mov_se w0) b5
      have c1 := r5.cell (j := 1) rfl
      have hw5 : w.heap.size ≤ w5.heap.size := hB5.size
      have hRS : RSe w0 (From w5.heap.size) w5 [.int .i64 k, .int .i64 sl, .int .i64 i, .int .i64 x, .int .i64 y, .int .i64 zr.1, .int .i64 zr.2.1, .slice ao zr.2.2.1.length co, .slice ap zr.2.2.2.length cp, .slice ag zs.length cg, .bool zt] ⟨(k, x, y, sl, i), zr, zs, zt⟩ := ⟨_, _, _, rfl, t1, t2, t3⟩
      clear hrng hrow0 g5
      by_cases hs : s < sl
      · have hT := HT.out
        rw [if_pos hs] at hT
        have HT2 := (show Hid (_ = _) from hT)
        have hfr := hL5.fr
        clear hT HT
        go_wp2_with (first
          | (refine wl_load rfl _ _ rfl wr.heap.size rfl _ _ r5 _ Tryd.underlying68 rfl (by kernel_rfl) ?_)
          | (at_builtin; refine wl_pushS (mov_se w0) rfl _ _ _ rfl 68 11 136 _ Tryd.underlying26 Tryd.infSn rfl (by decide) w.heap.size (.slice (some ad) n2 c2) (cutL (ls.take n) s) rfl hL5 [.int .i64 k, .int .i64 sl, .int .i64 i, .int .i64 x, .int .i64 y, .int .i64 zr.1, .int .i64 zr.2.1, .slice ao zr.2.2.1.length co, .slice ap zr.2.2.2.length cp, .slice ag zs.length cg, .bool zt] ⟨(k, x, y, sl, i), zr, zs, zt⟩ w5.heap.size hRS rfl hon hw5 hL5.lt rfl hw5 (by have := HTL.out; omega) (by decide) ?_; intro v6 w6 hL6 hg6 hS6; obtain ⟨ad6, n6, c6, rfl⟩ := hL6.nns (by simp)))
        go_roundw
        case rel => exact ⟨n + 1, by omega, by go_num, ⟨_, _, _, rfl⟩, by rw [HT2.out]; exact hL6, hB5.trans (grown_below hg6 hB5.size hfr)⟩
        case measure => simp [intOf]; omega
      · have hT := HT.out
        rw [if_neg hs] at hT
        have HT2 := (show Hid (_ = _) from hT)
        clear hT HT
        go_wp2_with fail
        go_roundw
        case rel => exact ⟨n + 1, by omega, by go_num, ⟨_, _, _, rfl⟩, by rw [HT2.out]; exact hL5, hB5⟩
        case measure => simp [intOf]; omega
    · have HR := (show Hid (cutL (ls.take n) s = cutL ls s) by rw [List.take_of_length_le (by omega)]; exact rfl)
      go_wp2_with fail
      go_ret
      exact ⟨_, rfl, ⟨_, _, _, rfl⟩, by have := hL.rl (mov_se w0); rw [HR.out] at this; exact this, hB⟩
end Go.Proofs.YtajmgpgjkalfkaaDoor
end
