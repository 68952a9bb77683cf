/- The document's bag: Put, At, Without of lists whose packets' bytes lie in memory of an elder world. -/
import Derived.Test.YtikfldigjieloaaBa4
import Derived.Test.YtikfldigjieloaaLst
set_option linter.unusedVariables false
set_option linter.unusedSimpArgs false
namespace Go.Proofs.Ytikfldigjieloaa
open Go.RowKit Oct Kvl

/-- A packet whose bytes lie in an elder world. -/
def RPe (w0 : World) (_ : Nat → Prop) (_ : World) (r : List Value) (x : PPk) : Prop := ∃ s, r = [.int .i64 x.1, .int .i64 x.2.1, s] ∧ RT Any w0 s x.2.2
theorem mov_pe (w0 : World) : Mov (RPe w0) := fun _ _ _ _ _ _ h _ _ => h
theorem one_RPe {w0 : World} {G : Nat → Prop} {w : World} {r : List Value} {x : PPk} (h : RPe w0 G w r x) : ∀ v ∈ r, v.oneCell' = true := by
  obtain ⟨s, rfl, h1⟩ := h
  exact onP3 h1.one
theorem RPe.pk {w0 : World} {G : Nat → Prop} {w u : World} {r : List Value} {x : PPk} (h : RPe w0 G w r x) (hb : Below w0.heap.size w0 u) : RPk Any u r x := by
  obtain ⟨s, e, h1⟩ := h
  exact ⟨s, e, h1.mv (Mv.below hb)⟩
/-- No nil slice. -/
def NN (v : Value) : Prop := ∃ ad n c, v = .slice (some ad) n c
theorem LB.nn {α : Type} {R : (Nat → Prop) → World → List Value → α → Prop} {t : TypeId} {k B : Nat} {w : World} {v : Value} {ys : List α} (h : LB R t k B w v ys) (hl : 0 < ys.length) : NN v := by
  obtain ⟨rows, _, h1, _, h2⟩ := h
  have := h2.len
  rcases h1.2 with ⟨_, h⟩ | ⟨g, cap, cur, e, _⟩
  · omega
  · exact ⟨_, _, _, e⟩
/-- A list of them, in a row of which G holds. -/
def LPe (w0 : World) (G : Nat → Prop) (w : World) (v : Value) (ys : List PPk) : Prop := RL (RPe w0) 3 G w v ys
theorem LPe.mv {w0 : World} {G G' : Nat → Prop} {w w' : World} {v : Value} {ys : List PPk} (h : LPe w0 G w v ys) (hs : w.heap.size ≤ w'.heap.size) (hm : Mv G G' w w') : LPe w0 G' w' v ys := RL.mv (mov_pe w0) h hs hm
theorem LPe.below {w0 : World} {G : Nat → Prop} {w w' : World} {v : Value} {ys : List PPk} (h : LPe w0 G w v ys) (hb : Below w.heap.size w w') : LPe w0 G w' v ys := h.mv hb.size (Mv.belowG hb)
theorem LPe.at {w0 : World} {G : Nat → Prop} {w : World} {v : Value} {ys : List PPk} (h : LPe w0 G w v ys) {k : Nat} (hk : k < ys.length) : ∃ b off cap s, v = .slice (some ⟨b, off, none⟩) ys.length cap ∧ ys.length ≤ cap ∧ cap ≤ maxLen ∧ G b ∧ b < w.heap.size ∧ RT Any w0 s (ys.getD k pk0).2.2 ∧ w.rangeAt b (off + k * 3) [.int .i64 (ys.getD k pk0).1, .int .i64 (ys.getD k pk0).2.1, s] := by
  have hy : ys[k]? = some (ys.getD k pk0) := by rw [List.getD, List.getElem?_eq_getElem hk]; rfl
  obtain ⟨b, off, cap, e, h1, h2, hg, hb, h3⟩ := RL.at h (by omega)
  obtain ⟨r, _, hr, s, rfl, hs⟩ := h3 k _ hy
  exact ⟨b, off, cap, s, e, h1, h2, hg, hb, hs, hr⟩

set_option maxRecDepth 10000 in
set_option maxHeartbeats 1000000 in
/-- 'append([]api.Packet{}, l...)'. -/
theorem wl_allP {w0 w : World} {ops : Array Oper} {rest : List Oper} {o : Oper} {a : Act} {Q : Exit → Act → World → Prop} (hgd : o.guard = none) (s x : Operand)
    (ho : o.op = .call { callee := .builtin .append, args := #[s, x], argTypes := #[35, 35] }) (hs : a.eval s = .slice (some ⟨w.heap.size, 0, none⟩) 0 0)
    (v : Value) (ys : List PPk) (hx : a.eval x = v) (h : LPe w0 Any w v ys) (hn : ys.length ≤ 4096) (hv : NN v)
    (k : ∀ v' w', LB (RPe w0) 29 3 w.heap.size w' v' ys → Below w.heap.size w w' → wpList Try.prog ops Q rest (a.put o.dst v') w') : wpList Try.prog ops Q (o :: rest) a (w.alloc (.cells #[] 29)) := by
  obtain ⟨rows, ⟨h0, h1⟩, h2⟩ := h
  have hlen := h2.len
  have hfl := flat_len h0
  have hone : ∀ u ∈ rows.flatten, u.oneCell' = true := by
    intro u hu
    obtain ⟨r, hr, hur⟩ := List.mem_flatten.1 hu
    obtain ⟨i, hi, rfl⟩ := List.getElem_of_mem hr
    exact one_RPe (h2.get (List.getElem?_eq_getElem hi) (List.getElem?_eq_getElem (by omega))) u hur
  obtain ⟨i0, hi, hz0, hzs, hzb⟩ := info_parts Try.infPk
  have fin : ∀ v' w', w'.ownsRow w.heap.size 29 3 v' (0 + rows.length) ([] ++ rows.flatten) → (w.alloc (.cells #[] 29)).grownBy w' (some w.heap.size) → LB (RPe w0) 29 3 w.heap.size w' v' ys ∧ Below w.heap.size w w' := fun v' w' hown hgrow => by
    rw [Nat.zero_add, List.nil_append] at hown
    refine ⟨⟨rows, h0, ⟨hown.1, ?_⟩, fun q hq => (World.ownsRow.lt hown q hq).1, h2.mono fun r y hr => hr⟩, ((Below.refl _ w).alloc (Nat.le_refl _) _).grown hgrow (by simp) (fun q hq => by cases hq; exact Nat.le_refl _)⟩
    rcases hown.2 with h | ⟨g, cap, cur, e1, _, e3⟩
    · exact .inl h
    · exact .inr ⟨g, cap, cur, e1, Nat.zero_le _, e3⟩
  rcases h1 with ⟨ao, cap, rfl, rfl, hcap⟩ | ⟨b, off, cap, rfl, hc1, hc2, hpos, _, hb, hr⟩
  · cases ao with
    | none => obtain ⟨_, _, _, e⟩ := hv; cases e
    | some ad =>
      refine wpList_append_own _ hgd s x 35 ho w.heap.size 29 i0 _ 3 40 Try.underlying35 hi hz0 hzs hzb rfl (by decide) _ _ _ hs (World.ownsRow_made w #[] 0 (Nat.le_refl _) (Nat.zero_le _) (by simp)) ad 0 cap [] hx rfl (fun j u hu => by simp at hu) (fun u hu => by cases hu) (by simp) (by simp) (by simp) ?_
      intro v' w' hown hgrow hnil
      obtain ⟨f1, f2⟩ := fin v' w' (by simpa using hown) hgrow
      exact k v' w' f1 f2
  · refine wpList_append_own _ hgd s x 35 ho w.heap.size 29 i0 _ 3 40 Try.underlying35 hi hz0 hzs hzb rfl (by decide) _ _ _ hs (World.ownsRow_made w #[] 0 (Nat.le_refl _) (Nat.zero_le _) (by simp)) ⟨b, off, none⟩ rows.length cap rows.flatten hx hfl (fun j u hj => ?_) hone (by unfold maxLen; omega) (by omega) (by simp) ?_
    · rw [Addr.add_mid]
      refine ((below_alloc w _).cell (p := ⟨b, off + j, none⟩) hb).trans ?_
      have hj' : j < rows.length * 3 := by rw [← hfl]; exact (List.getElem?_eq_some_iff.1 hj).1
      have hi' : j / 3 < rows.length := by omega
      have hk' := h0 _ (List.getElem_mem hi')
      have hjm : j % 3 < rows[j / 3].length := by omega
      have e1 := flat_at (j := j % 3) h0 (List.getElem?_eq_getElem hi') (List.getElem?_eq_getElem hjm)
      rw [show j / 3 * 3 + j % 3 = j by omega] at e1
      have e2 := hr (j / 3) _ (List.getElem?_eq_getElem hi') (j % 3) _ (List.getElem?_eq_getElem hjm)
      rw [show off + j / 3 * 3 + j % 3 = off + j by omega] at e2
      rw [e1] at hj
      rw [e2, hj]
    · intro v' w' hown hgrow hnil
      obtain ⟨f1, f2⟩ := fin v' w' hown hgrow
      exact k v' w' f1 f2

set_option maxRecDepth 10000 in
set_option maxHeartbeats 1000000 in
/-- catenaryref13.Put, where there is room. -/
theorem refPutP_any (w0 w : World) (v : Value) (ys : List PPk) (r : List Value) (x : PPk) (h : LPe w0 Any w v ys) (hv : NN v) (hn : ys.length ≤ 4000) (hx : RPe w0 Any w r x) :
    Calls Try.prog 13 #[v, .agg r.toArray] w fun e w' => ∃ v', e = .returned (.tuple #[v', .int .i64 0]) ∧ NN v' ∧ LPe w0 (From w.heap.size) w' v' (ys ++ [x]) ∧ Below w.heap.size w w' := by
  have le := Nat.le_refl w.heap.size
  have hxx := hx
  obtain ⟨s, rfl, hs⟩ := hx
  obtain ⟨p, q, l⟩ := x
  simp only at hs hxx ⊢
  obtain ⟨ad, n, c, rfl⟩ := hv
  obtain ⟨a', c', e, _⟩ := RL.form h
  injection e with e1 e2 e3
  subst e1 e3
  have hnb : (n : Int) ≤ 4000 := by omega
  have hgt : decide ((4095 : Int) < (n : Int)) = false := by simp; omega
  obtain ⟨w1, hw1⟩ : ∃ w1, w1 = w.alloc (.cells #[.int .i64 p, .int .i64 q, s] 29) := ⟨_, rfl⟩
  have ra : Row w1 w.heap.size 29 [.int .i64 p, .int .i64 q, s] := by rw [hw1]; exact Row.new w _ _
  have B1 : Below w.heap.size w w1 := by rw [hw1]; exact below_alloc _ _
  have H1 := (show Hid (LPe w0 Any w1 (.slice (some ad) n c) ys) from h.below B1)
  have HN := (show Hid (ys.length ≤ 4000) from hn)
  clear h e2 hn
  go_enter Try.func13, Try.ntmps13
  go_upto_region 1 with fail
  rw [← hw1]
  clear hw1
  go_upto_region 4 with (first
    | (at_builtin; refine wl_allP rfl _ _ rfl rfl _ ys rfl H1.out (Nat.le_trans HN.out (by decide)) ⟨_, _, _, rfl⟩ ?_; intro v2 w2 hL2 hb2))
  have ra2 := ra.below hb2
  have hv2 : ∃ a2 n2 c2, v2 = .slice a2 n2 c2 := by
    obtain ⟨a2, c2, e, _⟩ := (hL2.rl (mov_pe w0)).form
    exact ⟨a2, _, c2, e⟩
  obtain ⟨a2, n2, c2, rfl⟩ := hv2
  go_wp2_with (first
    | (refine wl_load rfl _ _ rfl w.heap.size rfl _ _ ra2 _ Try.underlying29 rfl (by kernel_rfl) ?_)
    | (at_builtin; refine wl_pushS (mov_pe w0) rfl _ _ _ rfl 29 3 40 _ Try.underlying35 Try.infPk rfl (by decide) w1.heap.size (.slice a2 n2 c2) ys rfl hL2 [.int .i64 p, .int .i64 q, s] (p, q, l) w2.heap.size hxx rfl (onP3 hs.one) hb2.size hL2.lt rfl hb2.size (by have := HN.out; omega) (by decide) ?_; intro v4 w4 hL4 hg4 hS4))
  go_ret2
  have hB2 := below_and B1 le hb2
  have hB4 := hB2.trans (grown_below hg4 hB2.size (fun k hk => Nat.le_trans B1.size (hL2.fr k hk)))
  exact ⟨v4, rfl, hL4.nn (by simp), (hL4.rl (mov_pe w0)).mv (mov_pe w0) (Nat.le_refl _) (Mv.weak B1.size), hB4⟩

set_option maxRecDepth 10000 in
set_option maxHeartbeats 1000000 in
/-- catenaryref13.At. -/
theorem refAtP_any (w0 w : World) (v : Value) (ys : List PPk) (i : Int) (h : LPe w0 Any w v ys) (hl : ys.length ≤ 4000) :
    Calls Try.prog 14 #[v, .int .i64 i] w fun e w' => ∃ s, e = .returned (.tuple #[.agg ([.int .i64 (atP ys i).1.1, .int .i64 (atP ys i).1.2.1, s] : List Value).toArray, .int .i64 (atP ys i).2]) ∧ RT Any w0 s (atP ys i).1.2.2 ∧ Below w.heap.size w w' := by
  have le := Nat.le_refl w.heap.size
  obtain ⟨w1, hw1⟩ : ∃ w1, w1 = w.alloc (.cells #[.int .i64 0, .int .i64 0, .slice none 0 0] 29) := ⟨_, rfl⟩
  have ra : Row w1 w.heap.size 29 [.int .i64 0, .int .i64 0, .slice none 0 0] := by rw [hw1]; exact Row.new w _ _
  have B1 : Below w.heap.size w w1 := by rw [hw1]; exact below_alloc _ _
  have h1 := h.below B1
  unfold atP
  cases hp : hasP ys i with
  | false =>
    simp only [Bool.false_eq_true, if_false]
    obtain ⟨a', c', rfl, _⟩ := RL.form h
    have hq : i < 0 ∨ (ys.length : Int) ≤ i := by
      unfold hasP at hp
      simp at hp
      omega
    clear h h1 hp
    generalize ys.length = n at *
    rcases Int.lt_or_le i 0 with hi | hi
    · have hi' : decide (i < 0) = true := decide_eq_true hi
      clear hq
      go_enter Try.func14, Try.ntmps14
      go_upto_region 1 with fail
      rw [← hw1]
      clear hw1
      go_wp2_with (refine wl_store rfl _ _ _ rfl w.heap.size [.int .i64 0, .int .i64 0, .slice none 0 0] rfl rfl _ _ ra rfl (by kernel_rfl) (onP3 rfl) ?_; intro w5 hr5 hg5)
      refine bodyPost_ret (results_ctP rfl _ _ w.heap.size _ _ (0, 0) _ (by rfl) hr5.out Try.underlying29 rfl (by kernel_rfl)) rfl ?_
      exact ⟨_, rfl, RT.nil _ _, B1.trans (grown_below hg5 B1.size (fun k hk => by cases hk; exact le))⟩
    · have hi' : decide (i < 0) = false := by simp; omega
      have hin : (n : Int) ≤ i := by omega
      have hin' : decide ((n : Int) ≤ i) = true := decide_eq_true hin
      clear hq
      go_enter Try.func14, Try.ntmps14
      go_upto_region 1 with fail
      rw [← hw1]
      clear hw1
      go_wp2_with (refine wl_store rfl _ _ _ rfl w.heap.size [.int .i64 0, .int .i64 0, .slice none 0 0] rfl rfl _ _ ra rfl (by kernel_rfl) (onP3 rfl) ?_; intro w5 hr5 hg5)
      refine bodyPost_ret (results_ctP rfl _ _ w.heap.size _ _ (0, 0) _ (by rfl) hr5.out Try.underlying29 rfl (by kernel_rfl)) rfl ?_
      exact ⟨_, rfl, RT.nil _ _, B1.trans (grown_below hg5 B1.size (fun k hk => by cases hk; exact le))⟩
  | true =>
    simp only [if_true]
    obtain ⟨n, rfl, hn⟩ := has_nat hp
    rw [Int.toNat_natCast]
    obtain ⟨b, off, cap, s, rfl, hc1, hc2, _, hb, hs, hrng⟩ := h1.at hn
    obtain ⟨N, hN⟩ : ∃ N, N = ys.length := ⟨_, rfl⟩
    rw [← hN] at hn hc1 ⊢
    generalize ys.getD n pk0 = x at *
    obtain ⟨p, q, l⟩ := x
    simp only at hs hrng ⊢
    obtain ⟨as', cs', rfl, _⟩ := hs.form
    have hni : (n : Int) < (N : Int) := by omega
    have hn1 : decide ((n : Int) < 0) = false := by simp
    have hn2 : decide ((N : Int) ≤ (n : Int)) = false := by simp; omega
    have hn3 : ¬ N ≤ n := by omega
    clear h h1 hp hN
    go_enter Try.func14, Try.ntmps14
    go_upto_region 1 with fail
    rw [← hw1]
    clear hw1
    go_wp2_with (first
      | (refine wpList_load_mid rfl _ _ rfl b (off + n * 3) rfl [.int .i64 p, .int .i64 q, .slice as' l.length cs'] _ hrng Try.underlying29 rfl (by kernel_rfl) ?_)
      | (refine wl_store rfl _ _ _ rfl w.heap.size [.int .i64 p, .int .i64 q, .slice as' l.length cs'] rfl rfl _ _ ra rfl (by kernel_rfl) (onP3 rfl) ?_; intro w5 hr5 hg5))
    refine bodyPost_ret (results_ctP rfl _ _ w.heap.size _ _ (0, 0) _ (by rfl) hr5.out Try.underlying29 rfl (by kernel_rfl)) rfl ?_
    exact ⟨_, rfl, hs, B1.trans (grown_below hg5 B1.size (fun k hk => by cases hk; exact le))⟩

/-- The first k of them without the i-th. -/
def woP (ys : List PPk) (i : Int) (k : Nat) : List PPk := ((List.range k).filter (fun j : Nat => decide ((j : Int) ≠ i))).map (fun j => ys.getD j pk0)
theorem woP_succ (ys : List PPk) (i : Int) (k : Nat) : woP ys i (k + 1) = if (k : Int) = i then woP ys i k else woP ys i k ++ [ys.getD k pk0] := by
  unfold woP
  rw [List.range_succ, List.filter_append, List.map_append]
  by_cases h : (k : Int) = i
  · rw [if_pos h]
    simp [h]
  · rw [if_neg h]
    simp [h]
theorem woP_len (ys : List PPk) (i : Int) (k : Nat) : (woP ys i k).length ≤ k := by
  unfold woP
  rw [List.length_map]
  exact Nat.le_trans (List.length_filter_le _ _) (by simp)
theorem range_map (ys : List PPk) : ∀ k, k ≤ ys.length → (List.range k).map (fun j => ys.getD j pk0) = ys.take k
  | 0, _ => by simp
  | k + 1, h => by
    rw [List.range_succ, List.map_append, range_map ys k (by omega), take_snoc' ys k (ys.getD k pk0) (by rw [List.getD, List.getElem?_eq_getElem (by omega)]; rfl)]
    rfl
theorem woP_low (ys : List PPk) (i : Int) : ∀ k : Nat, k ≤ ys.length → (i < 0 ∨ (k : Int) ≤ i) → woP ys i k = ys.take k
  | 0, _, _ => by simp [woP]
  | k + 1, h, hi => by
    rw [woP_succ, if_neg (by omega), woP_low ys i k (by omega) (by omega), take_snoc' ys k (ys.getD k pk0) (by rw [List.getD, List.getElem?_eq_getElem (by omega)]; rfl)]
theorem woP_high (ys : List PPk) (n : Nat) : ∀ d : Nat, n + 1 + d ≤ ys.length → woP ys (n : Int) (n + 1 + d) = ys.take n ++ (ys.drop (n + 1)).take d
  | 0, h => by
    rw [Nat.add_zero, woP_succ, if_pos rfl, woP_low ys n n (by omega) (.inr (Int.le_refl _))]
    simp
  | d + 1, h => by
    rw [show n + 1 + (d + 1) = (n + 1 + d) + 1 by omega, woP_succ, if_neg (by omega), woP_high ys n d (by omega), List.append_assoc]
    congr 1
    have := take_snoc' (ys.drop (n + 1)) d (ys.getD (n + 1 + d) pk0) (by rw [List.getElem?_drop, List.getD, List.getElem?_eq_getElem (by omega)]; rfl)
    rw [this]
theorem woP_all (ys : List PPk) (i : Int) : woP ys i ys.length = tkP ys i := by
  unfold tkP
  cases hp : hasP ys i with
  | false =>
    have hq : i < 0 ∨ (ys.length : Int) ≤ i := by
      unfold hasP at hp
      simp at hp
      omega
    rw [woP_low ys i ys.length (Nat.le_refl _) hq, List.take_length]
    rfl
  | true =>
    obtain ⟨n, rfl, hn⟩ := has_nat hp
    have := woP_high ys n (ys.length - (n + 1)) (by omega)
    rw [show n + 1 + (ys.length - (n + 1)) = ys.length by omega] at this
    have e : (ys.drop (n + 1)).take (ys.length - (n + 1)) = ys.drop (n + 1) := List.take_of_length_le (by rw [List.length_drop]; exact Nat.le_refl _)
    rw [this, if_pos rfl, Int.toNat_natCast, e]

set_option maxRecDepth 10000 in
set_option maxHeartbeats 1000000 in
/-- catenaryref13.Without. -/
theorem refWoP_any (w0 w : World) (v : Value) (ys : List PPk) (i : Int) (h : LPe w0 Any w v ys) (hl : ys.length ≤ 4000) :
    Calls Try.prog 16 #[v, .int .i64 i] w fun e w' => ∃ v', e = .returned v' ∧ NN v' ∧ LPe w0 (From w.heap.size) w' v' (tkP ys i) ∧ Below w.heap.size w w' := by
  have le := Nat.le_refl w.heap.size
  rw [← woP_all]
  have hA : ∀ (u : World) (k : Nat), Below w.heap.size w u → k < ys.length → ∃ b off cap s, v = .slice (some ⟨b, off, none⟩) ys.length cap ∧ ys.length ≤ cap ∧ cap ≤ maxLen ∧ RT Any w0 s (ys.getD k pk0).2.2 ∧ u.rangeAt b (off + k * 3) [.int .i64 (ys.getD k pk0).1, .int .i64 (ys.getD k pk0).2.1, s] := fun u k hu hk => by
    obtain ⟨b, off, cap, s, h1, h2, h3, _, _, h4, h5⟩ := (h.below hu).at hk
    exact ⟨b, off, cap, s, h1, h2, h3, h4, h5⟩
  obtain ⟨a0, c0, rfl, _⟩ := RL.form h
  obtain ⟨N, hN⟩ : ∃ N, N = ys.length := ⟨_, rfl⟩
  rw [← hN] at hA hl ⊢
  have HA := (show Hid (∀ (u : World) (k : Nat), Below w.heap.size w u → k < N → ∃ b off cap s, Value.slice a0 N c0 = .slice (some ⟨b, off, none⟩) N cap ∧ N ≤ cap ∧ cap ≤ maxLen ∧ RT Any w0 s (ys.getD k pk0).2.2 ∧ u.rangeAt b (off + k * 3) [.int .i64 (ys.getD k pk0).1, .int .i64 (ys.getD k pk0).2.1, s]) from hA)
  have hNb : (N : Int) ≤ 4000 := by omega
  have hf := LB.fresh (RPe w0) 29 3 w.heap.size w le
  clear h hN hA
  go_enter Try.func16, Try.ntmps16
  go_wp2_with fail
  go_loopw [5, 11] (fun o j wr => ∃ k : Nat, k ≤ N ∧ j = .int .i64 k ∧ NN o ∧ LB (RPe w0) 29 3 w.heap.size wr o (woP ys i k) ∧ Below w.heap.size w wr) (fun _ j _ => N - (intOf j).toNat)
  case atStart => exact ⟨0, by omega, rfl, ⟨_, _, _, rfl⟩, hf, below_alloc _ _⟩
  case round =>
    clear hf
    obtain ⟨k, hk, rfl, hnn, hL, hB⟩ := hrel
    obtain ⟨ad, n2, c2, rfl⟩ := hnn
    by_cases hkl : k < N
    · obtain ⟨tb, tof, tc, s, et, ht1, ht2, hs, hrng⟩ := HA.out wr k hB hkl
      injection et with et1 _ et3
      subst et1 et3
      have hki : (k : Int) < (N : Int) := by omega
      have hW := woP_succ ys i k
      have hwl := woP_len ys i k
      generalize ys.getD k pk0 = x at *
      obtain ⟨p, q, l⟩ := x
      simp only at hs hrng hW
      obtain ⟨as', cs', rfl, _⟩ := hs.form
      have hrow0 := Row.new wr 29 [.int .i64 0, .int .i64 0, .slice none 0 0]
      have HW := (show Hid (woP ys i (k + 1) = if (k : Int) = i then woP ys i k else woP ys i k ++ [(p, q, l)]) from hW)
      have HWL := (show Hid ((woP ys i k).length ≤ k) from hwl)
      clear hW hwl
      go_upto_region 5 with (first
        | (refine wpList_load_mid rfl _ _ rfl tb (tof + k * 3) rfl [.int .i64 p, .int .i64 q, .slice as' l.length cs'] _ hrng Try.underlying29 rfl (by kernel_rfl) ?_)
        | (refine wl_store rfl _ _ _ rfl wr.heap.size [.int .i64 p, .int .i64 q, .slice as' l.length cs'] rfl rfl _ _ hrow0 rfl (by kernel_rfl) (onP3 rfl) ?_; intro w5 hr5 hg5))
      have hb5 : Below wr.heap.size wr w5 := (below_alloc wr (.cells ([.int .i64 0, .int .i64 0, .slice none 0 0] : List Value).toArray 29)).trans (grown_below hg5 (by simp) (fun k hk => by cases hk; exact Nat.le_refl _))
      have hr5 := hr5.out
      have hL5 := hL.below (mov_pe w0) hb5
      have hB5 := below_and hB le hb5
      clear hrng hrow0 hg5
      by_cases hi : (k : Int) = i
      · have hW := HW.out
        rw [if_pos hi] at hW
        subst hi
        have HW2 := (show Hid (woP ys (k : Int) (k + 1) = woP ys (k : Int) k) from hW)
        clear hW HW
        go_wp2_with fail
        go_roundw
        case rel => exact ⟨k + 1, by omega, by go_num, ⟨_, _, _, rfl⟩, by rw [HW2.out]; exact hL5, hB5⟩
        case measure => simp [intOf]; omega
      · have hW := HW.out
        rw [if_neg hi] at hW
        have hib : ((k : Int) == i) = false := by simp [hi]
        have HW2 := (show Hid (woP ys i (k + 1) = woP ys i k ++ [(p, q, l)]) from hW)
        have hfr := hL5.fr
        clear hW HW
        go_wp2_with (first
          | (refine wl_load rfl _ _ rfl wr.heap.size rfl _ _ hr5 _ Try.underlying29 rfl (by kernel_rfl) ?_)
          | (at_builtin; refine wl_pushS (mov_pe w0) rfl _ _ _ rfl 29 3 40 _ Try.underlying35 Try.infPk rfl (by decide) w.heap.size (.slice (some ad) n2 c2) (woP ys i k) rfl hL5 [.int .i64 p, .int .i64 q, .slice as' l.length cs'] (p, q, l) w5.heap.size ⟨_, rfl, hs⟩ rfl (onP3 rfl) hB5.size hL5.lt rfl hB5.size (by have := HWL.out; omega) (by decide) ?_; intro v4 w4 hL4 hg4 hS4; obtain ⟨ad4, n4, c4, rfl⟩ := hL4.nn (by simp)))
        go_roundw
        case rel => exact ⟨k + 1, by omega, by go_num, ⟨_, _, _, rfl⟩, by rw [HW2.out]; exact hL4, hB5.trans (grown_below hg4 hB5.size hfr)⟩
        case measure => simp [intOf]; omega
    · obtain rfl : k = N := by omega
      have hkk : decide ((k : Int) < (k : Int)) = false := by simp
      have HL := (show Hid (LB (RPe w0) 29 3 w.heap.size wr (.slice (some ad) n2 c2) (woP ys i k)) from hL)
      clear hL
      go_wp2_with fail
      go_ret
      exact ⟨_, rfl, ⟨_, _, _, rfl⟩, HL.out.rl (mov_pe w0), hB⟩
end Go.Proofs.Ytikfldigjieloaa
