/- The walks over package clone: lists of entries. -/
import Derived.Test.YteafgdidjdfiiaaGreatKc
set_option linter.unusedVariables false
namespace Go.Proofs.YteafgdidjdfiiaaGreat
open Go.RowKit Oct Kvl

/-- One record in the place of another. -/
theorem flat_put {k n q : Nat} {cur r b0 : List Value} {A B : List (List Value)} (hA : ∀ r ∈ A, r.length = k) (hB : ∀ r ∈ b0 :: B, r.length = k) (hr : r.length = k) (hq : A.length = q) (hn : (A ++ b0 :: B).length = n) (hc : n * k ≤ cur.length)
    (ht : cur.take (n * k) = (A ++ b0 :: B).flatten) : (splice cur (q * k) r).take (n * k) = (A ++ r :: B).flatten := by
  have hAl : A.flatten.length = q * k := by rw [flat_len hA, hq]
  have hB' : ∀ r ∈ B, r.length = k := fun x hx => hB x (by simp [hx])
  have hb0 := hB b0 (by simp)
  have hBl : B.flatten.length = B.length * k := flat_len hB'
  have hnn : n = q + 1 + B.length := by rw [← hn, List.length_append, List.length_cons, hq]; omega
  have hmul : n * k = q * k + (k + B.length * k) := by rw [hnn, Nat.add_mul, Nat.add_mul]; omega
  have e1 : cur.take (q * k) = A.flatten := by
    have := congrArg (List.take (q * k)) ht
    rw [List.take_take, Nat.min_eq_left (by omega), List.flatten_append, ← hAl, List.take_left] at this
    rw [← hAl]; exact this
  have hAb : (A.flatten ++ b0).length = q * k + k := by rw [List.length_append, hAl, hb0]
  have e3 : (A.flatten ++ b0 ++ B.flatten).drop (q * k + k) = B.flatten := by rw [← hAb]; exact List.drop_left
  have e2 : (cur.drop (q * k + k)).take (B.length * k) = B.flatten := by
    have := congrArg (List.drop (q * k + k)) ht
    rw [List.drop_take, List.flatten_append, List.flatten_cons, ← List.append_assoc, e3] at this
    rw [← this]
    congr 1
    omega
  unfold splice
  rw [e1, hr, List.flatten_append, List.flatten_cons, ← e2, hmul, ← hAl, List.take_length_add_append, ← hr, List.take_length_add_append, hAl]

/-- A row of entries of which the first q are copied. -/
structure Mix (B g n cap q : Nat) (w0 w : World) (rows0 : List (List Value)) (ys : List PEnt) : Prop where
  bel : Below B w0 w
  ex : ∃ (cur : List Value) (A : List (List Value)), Row w g 73 cur ∧ cur.length = cap * 2 ∧ A.length = q ∧ (∀ r ∈ A, r.length = 2) ∧ cur.take (n * 2) = (A ++ rows0.drop q).flatten ∧ All2 (OEnt (fun b => B ≤ b ∧ b ≠ g) w) A (ys.take q)

theorem Row.uniq {w : World} {b : Nat} {t t' : TypeId} {xs ys : List Value} (h : Row w b t xs) (h' : Row w b t' ys) : xs = ys := by
  unfold Row at h h'
  rw [h] at h'
  simp at h'
  exact h'.1
theorem Mix.row {B g n cap q : Nat} {w0 w : World} {rows0 : List (List Value)} {ys : List PEnt} (h : Mix B g n cap q w0 w rows0 ys) (h0 : ∀ r ∈ rows0, r.length = 2) {r : List Value} (hr : rows0[q]? = some r) (hq : q < n) : w.rangeAt g (q * 2) r := by
  obtain ⟨cur, A, h1, h2, h3, h4, h5, h6⟩ := h.ex
  intro j v hj
  refine h1.cell ?_
  have hrl := h0 r (List.mem_of_getElem? hr)
  have hjl : j < 2 := by rw [← hrl]; exact (List.getElem?_eq_some_iff.1 hj).1
  have e : (A ++ rows0.drop q)[q]? = some r := by rw [List.getElem?_append_right (by omega), h3, Nat.sub_self, List.getElem?_drop, Nat.add_zero]; exact hr
  have hl : ∀ x ∈ A ++ rows0.drop q, x.length = 2 := fun x hx => by
    rcases List.mem_append.1 hx with hx | hx
    · exact h4 x hx
    · exact h0 x (List.mem_of_mem_drop hx)
  have := flat_at hl e hj
  rw [← h5, List.getElem?_take, if_pos (by omega)] at this
  exact this
theorem Mix.step {B g n cap q : Nat} {w0 w w1 w2 : World} {rows0 : List (List Value)} {ys : List PEnt} (h : Mix B g n cap q w0 w rows0 ys) (h0 : ∀ r ∈ rows0, r.length = 2) (hn : rows0.length = n) (hc : n ≤ cap) {x : PEnt} (hx : ys[q]? = some x) (hq : q < n)
    (hb1 : Below w.heap.size w w1) (hBg : B ≤ g) {r : List Value} (hr : OEnt (From w.heap.size) w1 r x) (hB : B ≤ w.heap.size) (hg2 : w1.grownBy w2 (some g)) {cur0 : List Value} (hc0 : Row w1 g 73 cur0) (hr2 : Row w2 g 73 (splice cur0 (q * 2) r)) : Mix B g n cap (q + 1) w0 w2 rows0 ys := by
  obtain ⟨cur, A, h1, h2, h3, h4, h5, h6⟩ := h.ex
  have hgl := h1.lt
  obtain rfl : cur = cur0 := (h1.below hb1).uniq hc0
  have hrl : r.length = 2 := by obtain ⟨a, b, rfl, _⟩ := hr; rfl
  refine ⟨(h.bel.trans (hb1.mono hB)).trans (grown_below hg2 (Nat.le_trans hB hb1.size) (fun k hk => by cases hk; exact hBg)), splice cur (q * 2) r, A ++ [r], hr2, ?_, ?_, ?_, ?_, ?_⟩
  · rw [length_splice _ _ _ (by omega), h2]
  · simp [h3]
  · intro y hy
    rcases List.mem_append.1 hy with hy | hy
    · exact h4 y hy
    · simp at hy; subst hy; exact hrl
  · obtain ⟨b0, hb0⟩ : ∃ b0, rows0[q]? = some b0 := ⟨_, List.getElem?_eq_getElem (by omega)⟩
    have hd : rows0.drop q = b0 :: rows0.drop (q + 1) := by
      rw [List.drop_eq_getElem_cons (by omega : q < rows0.length)]
      rw [List.getElem?_eq_getElem (by omega)] at hb0
      injection hb0 with hb0
      rw [hb0]
    rw [hd] at h5
    rw [List.append_assoc, List.singleton_append]
    refine flat_put h4 (fun y hy => ?_) hrl h3 ?_ (by omega) h5
    · rw [← hd] at hy; exact h0 y (List.mem_of_mem_drop hy)
    · rw [← hd, List.length_append, List.length_drop]; omega
  · have e : ys.take (q + 1) = ys.take q ++ [x] := by
      rw [List.take_add_one, hx]; rfl
    rw [e]
    refine All2.app (h6.mono fun y a hy => mov_oent _ _ _ _ _ _ hy (Nat.le_trans hb1.size hg2.size) fun k hk hlt => ⟨?_, hk⟩) ⟨mov_oent _ _ _ _ _ _ hr hg2.size fun k hk hlt => ⟨hg2.block k hlt (fun e => ?_), Nat.le_trans hB hk, fun e => ?_⟩, trivial⟩
    · have hs := hb1.size
      exact (hg2.block k (by omega) (fun e => by injection e with e; exact hk.2 e)).trans (hb1.block k hlt)
    · injection e with e
      unfold From at hk; omega
    · unfold From at hk; omega
theorem Mix.done {B g n cap : Nat} {w0 w : World} {rows0 : List (List Value)} {ys : List PEnt} (h : Mix B g n cap n w0 w rows0 ys) (hn : rows0.length = n) (hy : ys.length = n) (hc : n ≤ cap) (hm : cap ≤ maxLen) (hB : B ≤ g) : LB OEnt 73 2 B w (.slice (some ⟨g, 0, none⟩) n cap) ys := by
  obtain ⟨cur, A, h1, h2, h3, h4, h5, h6⟩ := h.ex
  rw [List.drop_of_length_le (by omega), List.append_nil] at h5
  rw [List.take_of_length_le (by omega)] at h6
  refine ⟨A, h4, ⟨flat_len h4, .inr ⟨g, cap, cur.toArray, by rw [h3], Nat.zero_le _, h1, by omega, hm, by simpa using h2, by rw [h3]; simpa using h5⟩⟩, fr_at _ _ _ _ hB, h6.mono fun y a hy => mov_oent _ _ _ _ _ _ hy (Nat.le_refl _) fun k hk _ => ⟨rfl, hk.1, fun e => hk.2 ?_⟩⟩
  simp [Value.ownBlock] at e
  exact e.symm

set_option maxRecDepth 10000 in
set_option maxHeartbeats 2000000 in
/-- clone.list of entries. -/
theorem clist_any (w : World) (v : Value) (ys : List PEnt) (h : RL REnt 2 Any w v ys) (hz : szL 48 szE ys) :
    Calls Tryz.prog 68 #[v, .func (.func 69) #[] #[]] w fun e w' => ∃ v', e = .returned v' ∧ LB OEnt 73 2 w.heap.size w' v' ys ∧ Below w.heap.size w w' := by
  go_enter Tryz.func68, Tryz.ntmps68
  go_wp2_with fail
  refine (sclone_any w v ys h hz).mono ?_
  rintro e w1 ⟨v1, rfl, hb1, rows, hown, h0, hall⟩
  have hlen := hall.len
  rcases hown.2 with ⟨rfl, hy0⟩ | ⟨g, cap, cur, rfl, hg0, hrow, hc1, hc2, hc3, hc4⟩
  · obtain rfl : ys = [] := List.eq_nil_of_length_eq_zero hy0
    go_wp2_with fail
    refine wp_loop_rounds 1 ?_; rw [rounds_succ]
    go_wp2_with fail
    go_ret
    exact ⟨_, rfl, LB.nil _ _ _ _ _, hb1⟩
  · have hlm : (ys.length : Int) ≤ 9223372036854775807 := by unfold maxLen at hc2; omega
    have m0 : Hid (Mix w.heap.size g ys.length cap 0 w w1 rows ys) := ⟨hb1, cur.toList, [], by unfold Row; simpa using hrow, by simpa using hc3, rfl, (fun r hr => by cases hr), by simpa using hc4, trivial⟩
    have HL := (show Hid (rows.length = ys.length) from hlen)
    have H0 := (show Hid (∀ r ∈ rows, r.length = 2) from h0)
    have HA := (show Hid (All2 (REnt Any w) rows ys) from hall)
    have HZ := (show Hid (∀ y ∈ ys, szE y) from hz.2)
    clear hown hrow hc3 hc4 hlen h0 hall hb1 h hz
    obtain ⟨n, hn⟩ : ∃ n, n = ys.length := ⟨_, rfl⟩
    rw [← hn] at hlm m0 hc1 HL ⊢
    have HN := (show Hid (ys.length = n) from hn.symm)
    clear hn
    go_wp2_with fail
    go_loopw [12] (fun i wr => ∃ q : Nat, q ≤ n ∧ i = .int .i64 q ∧ Hid (Mix w.heap.size g n cap q w wr rows ys)) (fun i _ => n - (intOf i).toNat)
    case atStart => exact ⟨0, by omega, rfl, m0⟩
    case round =>
      clear m0
      obtain ⟨q, hq, rfl, hM⟩ := hrel
      by_cases hql : q < n
      · obtain ⟨x, hx⟩ : ∃ x, ys[q]? = some x := ⟨_, List.getElem?_eq_getElem (by have := HN.out; omega)⟩
        obtain ⟨r, hr⟩ : ∃ r, rows[q]? = some r := ⟨_, List.getElem?_eq_getElem (by have := HL.out; omega)⟩
        have hxr := HA.out.get hr hx
        have hrng := hM.out.row H0.out hr hql
        obtain ⟨s1, s2, rfl, t1, t2⟩ := hxr
        have hB := hM.out.bel
        have hzx := HZ.out x (List.mem_of_getElem? hx)
        have hrow0 := Row.new wr 73 [.slice none 0 0, .slice none 0 0]
        have HX := (show Hid (ys[q]? = some x) from hx)
        have hone := onE2 t1.one t2.one
        clear hx hr
        obtain ⟨cur0, A0, k1, k2, _⟩ := hM.out.ex
        have hgl := k1.lt
        have hfit : q * 2 + 2 ≤ cur0.length := by omega
        have K1 := (show Hid (Row wr g 73 cur0) from k1)
        clear k1 k2
        go_wp2_with (first
          | (refine wpList_load_mid rfl _ _ rfl g (q * 2) rfl [s1, s2] _ hrng Tryz.underlying73 rfl (by kernel_rfl) ?_)
          | (refine wl_store rfl _ _ _ rfl wr.heap.size [s1, s2] rfl rfl _ _ hrow0 rfl (by kernel_rfl) hone ?_; intro w5 hr5 hg5; have hb5 : Below wr.heap.size wr w5 := (below_alloc wr _).trans (grown_below hg5 (by simp) (fun k hk => by cases hk; exact Nat.le_refl _)); have hx5 : REnt Any w5 [s1, s2] x := mov_ent _ _ _ _ _ _ ⟨_, _, rfl, t1, t2⟩ (below_and hB (Nat.le_refl _) hb5).size (Mv.below (below_and hB (Nat.le_refl _) hb5)))
          | (refine wl_load rfl _ _ rfl wr.heap.size rfl _ _ hr5.out _ Tryz.underlying73 rfl (by kernel_rfl) ?_)
          | (go_at_call 69; refine (cloneEntry_any w5 [s1, s2] x hx5 hzx).mono ?_; rintro e w6 ⟨r6, rfl, o6, hb6⟩; have o6' := mov_oent _ (From wr.heap.size) _ _ _ _ o6 (Nat.le_refl _) (Mv.weak hb5.size); obtain ⟨a6, b6, rfl, p6, q6⟩ := o6; have hb6' := below_and hb5 (Nat.le_refl _) hb6; have k6 := K1.out.below hb6')
          | (refine wl_put rfl _ _ _ rfl g (q * 2) [a6, b6] rfl rfl _ _ k6 hfit (by kernel_rfl) (onE2 p6.one q6.one) ?_; intro w7 hr7 hg7))
        go_roundw
        case rel => exact ⟨q + 1, by omega, by go_num, hM.out.step H0.out HL.out hc1 HX.out hql hb6' hg0 o6' hB.size hg7 k6 hr7.out⟩
        case measure => simp [intOf]; omega
      · go_wp2_with fail
        go_ret
        obtain rfl : q = n := by omega
        exact ⟨_, rfl, hM.out.done HL.out HN.out hc1 hc2 hg0, hM.out.bel⟩
/-- clone.Entries. -/
theorem cloneEntries_any (w : World) (v : Value) (ys : List PEnt) (h : RL REnt 2 Any w v ys) (hz : szL 48 szE ys) :
    Calls Tryz.prog 39 #[v] w fun e w' => ∃ v', e = .returned v' ∧ LB OEnt 73 2 w.heap.size w' v' ys ∧ Below w.heap.size w w' := by
  go_enter Tryz.func39, Tryz.ntmps39
  go_wp2_with fail
  refine (clist_any w v ys h hz).mono ?_
  rintro e w1 ⟨v1, rfl, h1, h2⟩
  go_wp2_with fail
  go_ret
  exact ⟨_, rfl, h1, h2⟩
end Go.Proofs.YteafgdidjdfiiaaGreat
