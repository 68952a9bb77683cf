/- The walks over package clone: lists of leases. -/
import Derived.Test.YteafgdidjdfiiaaGreatZc
set_option linter.unusedVariables false
set_option linter.unusedSimpArgs false
namespace Go.Proofs.YteafgdidjdfiiaaGreat
open Go.RowKit Oct Kvl

/-- A row of leases of which the first q are copied. -/
structure MixS (B g n cap q : Nat) (w0 w : World) (rows0 : List (List Value)) (ys : List PEnt) : Prop where
  bel : Below B w0 w
  ex : ∃ (cur : List Value) (A : List (List Value)), Row w g 75 cur ∧ cur.length = cap * 3 ∧ A.length = q ∧ (∀ r ∈ A, r.length = 3) ∧ cur.take (n * 3) = (A ++ rows0.drop q).flatten ∧ All2 (OLea (fun b => B ≤ b ∧ b ≠ g) w) A (ys.take q)

theorem MixS.row {B g n cap q : Nat} {w0 w : World} {rows0 : List (List Value)} {ys : List PEnt} (h : MixS B g n cap q w0 w rows0 ys) (h0 : ∀ r ∈ rows0, r.length = 3) {r : List Value} (hr : rows0[q]? = some r) (hq : q < n) : w.rangeAt g (q * 3) r := by
  obtain ⟨cur, A, h1, h2, h3, h4, h5, h6⟩ := h.ex
  intro j v hj
  refine h1.cell ?_
  have hrl := h0 r (List.mem_of_getElem? hr)
  have hjl : j < 3 := by rw [← hrl]; exact (List.getElem?_eq_some_iff.1 hj).1
  have e : (A ++ rows0.drop q)[q]? = some r := by rw [List.getElem?_append_right (by omega), h3, Nat.sub_self, List.getElem?_drop, Nat.add_zero]; exact hr
  have hl : ∀ x ∈ A ++ rows0.drop q, x.length = 3 := fun x hx => by
    rcases List.mem_append.1 hx with hx | hx
    · exact h4 x hx
    · exact h0 x (List.mem_of_mem_drop hx)
  have := flat_at hl e hj
  rw [← h5, List.getElem?_take, if_pos (by omega)] at this
  exact this
theorem MixS.step {B g n cap q : Nat} {w0 w w1 w2 : World} {rows0 : List (List Value)} {ys : List PEnt} (h : MixS B g n cap q w0 w rows0 ys) (h0 : ∀ r ∈ rows0, r.length = 3) (hn : rows0.length = n) (hc : n ≤ cap) {x : PEnt} (hx : ys[q]? = some x) (hq : q < n)
    (hb1 : Below w.heap.size w w1) (hBg : B ≤ g) {r : List Value} (hr : OLea (From w.heap.size) w1 r x) (hB : B ≤ w.heap.size) (hg2 : w1.grownBy w2 (some g)) {cur0 : List Value} (hc0 : Row w1 g 75 cur0) (hr2 : Row w2 g 75 (splice cur0 (q * 3) r)) : MixS B g n cap (q + 1) w0 w2 rows0 ys := by
  obtain ⟨cur, A, h1, h2, h3, h4, h5, h6⟩ := h.ex
  have hgl := h1.lt
  obtain rfl : cur = cur0 := (h1.below hb1).uniq hc0
  have hrl : r.length = 3 := by obtain ⟨a, p, q, rfl, _⟩ := hr; rfl
  refine ⟨(h.bel.trans (hb1.mono hB)).trans (grown_below hg2 (Nat.le_trans hB hb1.size) (fun k hk => by cases hk; exact hBg)), splice cur (q * 3) r, A ++ [r], hr2, ?_, ?_, ?_, ?_, ?_⟩
  · rw [length_splice _ _ _ (by omega), h2]
  · simp [h3]
  · intro y hy
    rcases List.mem_append.1 hy with hy | hy
    · exact h4 y hy
    · simp at hy; subst hy; exact hrl
  · obtain ⟨b0, hb0⟩ : ∃ b0, rows0[q]? = some b0 := ⟨_, List.getElem?_eq_getElem (by omega)⟩
    have hd : rows0.drop q = b0 :: rows0.drop (q + 1) := by
      rw [List.drop_eq_getElem_cons (by omega : q < rows0.length)]
      rw [List.getElem?_eq_getElem (by omega)] at hb0
      injection hb0 with hb0
      rw [hb0]
    rw [hd] at h5
    rw [List.append_assoc, List.singleton_append]
    refine flat_put h4 (fun y hy => ?_) hrl h3 ?_ (by omega) h5
    · rw [← hd] at hy; exact h0 y (List.mem_of_mem_drop hy)
    · rw [← hd, List.length_append, List.length_drop]; omega
  · have e : ys.take (q + 1) = ys.take q ++ [x] := by
      rw [List.take_add_one, hx]; rfl
    rw [e]
    refine All2.app (h6.mono fun y a hy => mov_olea _ _ _ _ _ _ hy (Nat.le_trans hb1.size hg2.size) fun k hk hlt => ⟨?_, hk⟩) ⟨mov_olea _ _ _ _ _ _ hr hg2.size fun k hk hlt => ⟨hg2.block k hlt (fun e => ?_), Nat.le_trans hB hk, fun e => ?_⟩, trivial⟩
    · have hs := hb1.size
      exact (hg2.block k (by omega) (fun e => by injection e with e; exact hk.2 e)).trans (hb1.block k hlt)
    · injection e with e
      unfold From at hk; omega
    · unfold From at hk; omega
theorem MixS.done {B g n cap : Nat} {w0 w : World} {rows0 : List (List Value)} {ys : List PEnt} (h : MixS B g n cap n w0 w rows0 ys) (hn : rows0.length = n) (hy : ys.length = n) (hc : n ≤ cap) (hm : cap ≤ maxLen) (hB : B ≤ g) : LB OLea 75 3 B w (.slice (some ⟨g, 0, none⟩) n cap) ys := by
  obtain ⟨cur, A, h1, h2, h3, h4, h5, h6⟩ := h.ex
  rw [List.drop_of_length_le (by omega), List.append_nil] at h5
  rw [List.take_of_length_le (by omega)] at h6
  refine ⟨A, h4, ⟨flat_len h4, .inr ⟨g, cap, cur.toArray, by rw [h3], Nat.zero_le _, h1, by omega, hm, by simpa using h2, by rw [h3]; simpa using h5⟩⟩, fr_at _ _ _ _ hB, h6.mono fun y a hy => mov_olea _ _ _ _ _ _ hy (Nat.le_refl _) fun k hk _ => ⟨rfl, hk.1, fun e => hk.2 ?_⟩⟩
  simp [Value.ownBlock] at e
  exact e.symm

set_option maxRecDepth 10000 in
set_option maxHeartbeats 2000000 in
/-- clone.list of leases. -/
theorem clistS_any (w : World) (v : Value) (ys : List PEnt) (h : RL RLea 3 Any w v ys) (hz : szL 40 szS ys) :
    Calls Tryz.prog 70 #[v, .func (.func 71) #[] #[]] w fun e w' => ∃ v', e = .returned v' ∧ LB OLea 75 3 w.heap.size w' v' ys ∧ Below w.heap.size w w' := by
  go_enter Tryz.func70, Tryz.ntmps70
  go_wp2_with fail
  refine (scloneS_any w v ys h hz).mono ?_
  rintro e w1 ⟨v1, rfl, hb1, rows, hown, h0, hall⟩
  have hlen := hall.len
  rcases hown.2 with ⟨rfl, hy0⟩ | ⟨g, cap, cur, rfl, hg0, hrow, hc1, hc2, hc3, hc4⟩
  · obtain rfl : ys = [] := List.eq_nil_of_length_eq_zero hy0
    go_wp2_with fail
    refine wp_loop_rounds 1 ?_; rw [rounds_succ]
    go_wp2_with fail
    go_ret
    exact ⟨_, rfl, LB.nil _ _ _ _ _, hb1⟩
  · have hlm : (ys.length : Int) ≤ 9223372036854775807 := by unfold maxLen at hc2; omega
    have m0 : Hid (MixS w.heap.size g ys.length cap 0 w w1 rows ys) := ⟨hb1, cur.toList, [], by unfold Row; simpa using hrow, by simpa using hc3, rfl, (fun r hr => by cases hr), by simpa using hc4, trivial⟩
    have HL := (show Hid (rows.length = ys.length) from hlen)
    have H0 := (show Hid (∀ r ∈ rows, r.length = 3) from h0)
    have HA := (show Hid (All2 (RLea Any w) rows ys) from hall)
    have HZ := (show Hid (∀ y ∈ ys, szS y) from hz.2)
    clear hown hrow hc3 hc4 hlen h0 hall hb1 h hz
    obtain ⟨n, hn⟩ : ∃ n, n = ys.length := ⟨_, rfl⟩
    rw [← hn] at hlm m0 hc1 HL ⊢
    have HN := (show Hid (ys.length = n) from hn.symm)
    clear hn
    go_wp2_with fail
    go_loopw [12] (fun i wr => ∃ q : Nat, q ≤ n ∧ i = .int .i64 q ∧ Hid (MixS w.heap.size g n cap q w wr rows ys)) (fun i _ => n - (intOf i).toNat)
    case atStart => exact ⟨0, by omega, rfl, m0⟩
    case round =>
      clear m0
      obtain ⟨q, hq, rfl, hM⟩ := hrel
      by_cases hql : q < n
      · obtain ⟨x, hx⟩ : ∃ x, ys[q]? = some x := ⟨_, List.getElem?_eq_getElem (by have := HN.out; omega)⟩
        obtain ⟨r, hr⟩ : ∃ r, rows[q]? = some r := ⟨_, List.getElem?_eq_getElem (by have := HL.out; omega)⟩
        have hxr := HA.out.get hr hx
        have hrng := hM.out.row H0.out hr hql
        obtain ⟨s1, p1, q1, rfl, t1, t2⟩ := hxr
        have hB := hM.out.bel
        have hzx := HZ.out x (List.mem_of_getElem? hx)
        have hrow0 := Row.new wr 75 [.slice none 0 0, .int .i64 0, .int .i64 0]
        have HX := (show Hid (ys[q]? = some x) from hx)
        have hone := onL3 (p := p1) (q := q1) t1.one
        clear hx hr
        obtain ⟨cur0, A0, k1, k2, _⟩ := hM.out.ex
        have hgl := k1.lt
        have hfit : q * 3 + 3 ≤ cur0.length := by omega
        have K1 := (show Hid (Row wr g 75 cur0) from k1)
        clear k1 k2
        go_wp2_with (first
          | (refine wpList_load_mid rfl _ _ rfl g (q * 3) rfl [s1, .int .i64 p1, .int .i64 q1] _ hrng Tryz.underlying75 rfl (by kernel_rfl) ?_)
          | (refine wl_store rfl _ _ _ rfl wr.heap.size [s1, .int .i64 p1, .int .i64 q1] rfl rfl _ _ hrow0 rfl (by kernel_rfl) hone ?_; intro w5 hr5 hg5; have hb5 : Below wr.heap.size wr w5 := (below_alloc wr _).trans (grown_below hg5 (by simp) (fun k hk => by cases hk; exact Nat.le_refl _)); have hx5 : RLea Any w5 [s1, .int .i64 p1, .int .i64 q1] x := mov_lea _ _ _ _ _ _ ⟨_, _, _, rfl, t1, t2⟩ (below_and hB (Nat.le_refl _) hb5).size (Mv.below (below_and hB (Nat.le_refl _) hb5)))
          | (refine wl_load rfl _ _ rfl wr.heap.size rfl _ _ hr5.out _ Tryz.underlying75 rfl (by kernel_rfl) ?_)
          | (go_at_call 71; refine (cloneLease_any w5 [s1, .int .i64 p1, .int .i64 q1] x hx5 hzx).mono ?_; rintro e w6 ⟨r6, rfl, o6, hb6⟩; have o6' := mov_olea _ (From wr.heap.size) _ _ _ _ o6 (Nat.le_refl _) (Mv.weak hb5.size); obtain ⟨a6, b6, c6, rfl, p6, q6⟩ := o6; have hb6' := below_and hb5 (Nat.le_refl _) hb6; have k6 := K1.out.below hb6')
          | (refine wl_put rfl _ _ _ rfl g (q * 3) [a6, .int .i64 b6, .int .i64 c6] rfl rfl _ _ k6 hfit (by kernel_rfl) (onL3 p6.one) ?_; intro w7 hr7 hg7))
        go_roundw
        case rel => exact ⟨q + 1, by omega, by go_num, hM.out.step H0.out HL.out hc1 HX.out hql hb6' hg0 o6' hB.size hg7 k6 hr7.out⟩
        case measure => simp [intOf]; omega
      · go_wp2_with fail
        go_ret
        obtain rfl : q = n := by omega
        exact ⟨_, rfl, hM.out.done HL.out HN.out hc1 hc2 hg0, hM.out.bel⟩
/-- clone.Leases. -/
theorem cloneLeases_any (w : World) (v : Value) (ys : List PEnt) (h : RL RLea 3 Any w v ys) (hz : szL 40 szS ys) :
    Calls Tryz.prog 40 #[v] w fun e w' => ∃ v', e = .returned v' ∧ LB OLea 75 3 w.heap.size w' v' ys ∧ Below w.heap.size w w' := by
  go_enter Tryz.func40, Tryz.ntmps40
  go_wp2_with fail
  refine (clistS_any w v ys h hz).mono ?_
  rintro e w1 ⟨v1, rfl, h1, h2⟩
  go_wp2_with fail
  go_ret
  exact ⟨_, rfl, h1, h2⟩
end Go.Proofs.YteafgdidjdfiiaaGreat
