/- Sealed messages: what is sealed, in which domain; a message with another signature. -/
import Derived.Test.YtgbfmccecnfooaaGreatDoorCLAK
import Derived.Deep.MidRow
set_option linter.unusedSimpArgs false
set_option linter.unusedVariables false
namespace Go.Proofs.YtgbfmccecnfooaaGreatDoor
section
open Go.RowKit Oct
theorem Tryz.infV : (Tryz.prog.info? 42).map (fun i => (i.zero, i.size, i.bytes)) = some (some (.agg #[.int .i64 0, .slice none 0 0]), 2, 32) := by kernel_rfl
theorem one_RV {G : Nat → Prop} {w : World} {r : List Value} {x : PVote} (h : RVote G w r x) : ∀ v ∈ r, v.oneCell' = true := by
  obtain ⟨s, rfl, hs⟩ := h
  have := hs.one
  intro v hv
  simp only [List.mem_cons, List.not_mem_nil, or_false] at hv
  rcases hv with rfl | rfl <;> first | rfl | assumption
theorem keepC {w u : World} {p : Addr} {v : Value} (hb : Below w.heap.size w u) (h : w.cell? p = some v) : u.cell? p = some v := (hb.cell (World.block_lt_of_cell? w p h)).trans h
theorem one2 {a : Int} {u : Value} (hu : u.oneCell' = true) : ∀ x ∈ [Value.int .i64 a, u], x.oneCell' = true := by
  intro x hx
  simp only [List.mem_cons, List.not_mem_nil, or_false] at hx
  rcases hx with rfl | rfl <;> first | rfl | assumption
theorem own_slice {w : World} {e : TypeId} {v : Value} {xs : List Value} (h : Own w e v xs) : ∃ ao n cap, v = .slice ao n cap := by
  obtain ⟨ao, cap, e, _⟩ := h.form; exact ⟨ao, _, cap, e⟩
theorem grown_cell {w w' : World} {row : Option Nat} {a : Addr} {v : Value} (hg : w.grownBy w' row) (h : w.cell? a = some v) (hn : row ≠ some a.block) : w'.cell? a = some v := by
  rw [World.cell?_of_block (w := w) (w' := w') (a := a) (hg.block a.block (World.block_lt_of_cell? w a h) (fun e => hn e.symm))]
  exact h
theorem take_len {α : Type} {ys : List α} {q : Nat} (h : q ≤ ys.length) : (ys.take q).length = q := by rw [List.length_take]; omega
set_option maxRecDepth 10000 in
set_option maxHeartbeats 2000000 in
theorem copyVotes_some (w : World) (bb off cap : Nat) (ys : List PVote) (hl : 0 < ys.length) (hc : ys.length ≤ cap) (hm : cap ≤ maxLen) (hbb : bb < w.heap.size)
    (hx : ∀ (i : Nat) (a : PVote), ys[i]? = some a → ∃ r, r.length = 2 ∧ w.rangeAt bb (off + i * 2) r ∧ RVote Any w r a) (hz : szL 32 szV ys) :
    Calls Tryz.prog 17 #[.slice (some ⟨bb, off, none⟩) ys.length cap] w fun e w' => ∃ v', e = .returned v' ∧ RL RVote 2 (From w.heap.size) w' v' ys ∧ Below w.heap.size w w' := by
  obtain ⟨hz1, hz2⟩ := hz
  have HX := (show Hid (∀ (i : Nat) (a : PVote), ys[i]? = some a → ∃ r, r.length = 2 ∧ w.rangeAt bb (off + i * 2) r ∧ RVote Any w r a) from hx)
  have HZ := (show Hid (∀ y ∈ ys, szV y) from hz2)
  have hlm : (ys.length : Int) ≤ 9223372036854775807 := by unfold maxLen at hm; omega
  clear hx hz2
  go_enter Tryz.func17, Tryz.ntmps17
  go_wp2_with fail
  go_loopw [3, 9] (fun v i wr => ∃ q : Nat, q ≤ ys.length ∧ i = .int .i64 q ∧ LB RVote 42 2 w.heap.size wr v (ys.take q) ∧ Below w.heap.size w wr) (fun _ i _ => ys.length - (intOf i).toNat)
  case atStart => exact ⟨0, by omega, rfl, LB.fresh _ _ _ _ _ (Nat.le_refl _), below_alloc w _⟩
  case round =>
    obtain ⟨q, hq, rfl, hLB, hB⟩ := hrel
    by_cases hql : q < ys.length
    · obtain ⟨a, ha⟩ : ∃ a, ys[q]? = some a := ⟨_, List.getElem?_eq_getElem hql⟩
      obtain ⟨r, _, hrng, s, rfl, hs⟩ := HX.out q a ha
      have hza := HZ.out a (List.mem_of_getElem? ha)
      have hrng := rangeAt_block hrng (hB.block bb hbb)
      have HA := (show Hid (ys.take (q + 1) = ys.take q ++ [a]) from take_snoc' ys q a ha)
      have hso := hs.one
      have hrow0 := Row.new wr 42 [.int .i64 0, .slice none 0 0]
      clear ha
      go_wp2_with (first
        | (refine wpList_load_mid rfl _ _ rfl bb (off + q * 2) rfl [.int .i64 a.1, s] _ hrng Tryz.underlying42 rfl (by kernel_rfl) ?_)
        | (refine wl_store rfl _ _ _ rfl wr.heap.size [.int .i64 a.1, s] rfl rfl _ _ hrow0 rfl (by kernel_rfl) (one2 hso) ?_; intro w5 hr5 hg5))
      have hb5 : Below wr.heap.size wr w5 := (below_alloc wr (.cells ([.int .i64 0, .slice none 0 0] : List Value).toArray 42)).trans (grown_below hg5 (by simp) (fun k hk => by cases hk; exact Nat.le_refl _))
      have hr5 := hr5.out
      have hB5 := below_and hB (Nat.le_refl _) hb5
      have hs5 := (hs.mv (Mv.below hB5)).1
      have p0 := hr5.cell (j := 0) rfl
      have p1 := hr5.cell (j := 1) rfl
      have SK := (show Hid (∀ u, Below w5.heap.size w5 u → u.cell? ⟨wr.heap.size, 0, none⟩ = some (.int .i64 a.1) ∧ u.cell? ⟨wr.heap.size, 1, none⟩ = some s) from fun u hu => ⟨keepC hu p0, keepC hu p1⟩)
      have hLB5 := hLB.below mov_vote hb5
      have hlt5 : ∀ g, u3.ownBlock = some g → g < w5.heap.size := hLB5.lt
      have hws : w.heap.size ≤ w5.heap.size := hB5.size
      have hne0 := World.new_ne w5 ⟨wr.heap.size, 0, none⟩ p0
      have hne1 := World.new_ne w5 ⟨wr.heap.size, 1, none⟩ p1
      have htl := take_len hq
      have hnv : u3.ownBlock ≠ some wr.heap.size := fun e => absurd (hLB.lt _ e) (Nat.lt_irrefl _)
      clear hrng hrow0 hg5
      go_region_held3 (fun u => u.cell? ⟨wr.heap.size, 0, none⟩ = some (.int .i64 a.1) ∧ u.cell? ⟨wr.heap.size, 1, none⟩ = some s)
        (first | exact SK.out _ (by assumption) | exact hS8 | go_keep)
        (first
          | (refine step_bytes (by rfl) _ _ (by rfl) (.slice (some ⟨w5.heap.size, 0, none⟩) 0 0) [] (by rfl) (own_zero w5 5).drew s a.2 (by rfl) (hs5.below (below_alloc w5 _)).2.drew (by simp only [List.length_nil]; have := hza; unfold szV szT at this; omega) ?_; intro v6 w6 happ6; obtain ⟨ao6, n6, c6, rfl⟩ := own_slice happ6.own; have hb6 : Below w5.heap.size w5 w6 := ((below_alloc w5 _).drew).trans (happ6.below (fr_at _ _ _ _ (Nat.le_refl _)) (by simp)); have hRc : RVote (From w5.heap.size) w6 [.int .i64 a.1, .slice ao6 n6 c6] a := ⟨_, rfl, RT.own (by simpa using happ6.own) hs5.1 (happ6.fr (fr_at _ _ _ _ (Nat.le_refl _)) (by simp))⟩; have hLB6 := hLB5.below mov_vote hb6)
          | (refine step_push mov_vote (by rfl) _ _ _ (by rfl) 42 2 32 _ Tryz.underlying25 Tryz.infV rfl (by decide) w.heap.size u3 (ys.take q) (by rfl) hLB6 [.int .i64 a.1, .slice ao6 n6 c6] a w5.heap.size hRc rfl (one_RV hRc) hws hlt5 (by rfl) (Nat.le_trans hws hb6.size) (by rw [htl]; omega) (by decide) ?_; intro v8 w8 hLB8 hg8; have hS8 : w8.cell? ⟨wr.heap.size, 0, none⟩ = some (.int .i64 a.1) ∧ w8.cell? ⟨wr.heap.size, 1, none⟩ = some s := ⟨grown_cell hg8 (keepC hb6 p0) hnv, grown_cell hg8 (keepC hb6 p1) hnv⟩))
      rw [← HA.out] at hLB8
      have hb56 := below_and hb5 (Nat.le_refl _) hb6
      have hB8 := (below_and hB (Nat.le_refl _) hb56).trans (grown_below hg8 (below_and hB (Nat.le_refl _) hb56).size (fun k hk => hLB.fr k hk))
      go_wp2_with fail
      go_roundw
      case rel => exact ⟨q + 1, by omega, by go_num, hLB8, hB8⟩
      case measure => simp [intOf]; omega
    · obtain rfl : q = ys.length := by omega
      rw [List.take_length] at hLB
      have hrl := hLB.rl mov_vote
      go_wp2_with fail
      go_ret
      exact ⟨_, rfl, hrl, hB⟩
theorem copyVotes_none (w : World) (ao : Option Addr) (cap : Nat) :
    Calls Tryz.prog 17 #[.slice ao 0 cap] w fun e w' => ∃ v', e = .returned v' ∧ RL RVote 2 (From w.heap.size) w' v' [] ∧ Below w.heap.size w w' := by
  go_enter Tryz.func17, Tryz.ntmps17
  go_wp2_with fail
  refine wp_loop_rounds 1 ?_; rw [rounds_succ]
  go_wp2_with fail
  go_ret
  exact ⟨_, rfl, (LB.fresh RVote 42 2 w.heap.size w (Nat.le_refl _)).rl mov_vote, below_alloc w _⟩
/-- CopyVotes. -/
theorem copyVotes_any (w : World) (v : Value) (ys : List PVote) (h : RL RVote 2 Any w v ys) (hz : szL 32 szV ys) :
    Calls Tryz.prog 17 #[v] w fun e w' => ∃ v', e = .returned v' ∧ RL RVote 2 (From w.heap.size) w' v' ys ∧ Below w.heap.size w w' := by
  by_cases hl : 0 < ys.length
  · obtain ⟨b1, o1, c1, rfl, hc1, hm1, _, hb1, hx1⟩ := h.at hl
    exact copyVotes_some w b1 o1 c1 ys hl hc1 hm1 hb1 hx1 hz
  · obtain rfl : ys = [] := List.eq_nil_of_length_eq_zero (by omega)
    obtain ⟨ao, c1, rfl, _⟩ := h.form
    exact copyVotes_none w ao c1
end
section
open Go.RowKit Oct
/-- Is it one report alone? -/
def oneM (m : PMsg) : Bool := (m.kind == 8) && (m.reps.length == 1)
def repSig (r : PRep) (g : List Int) : PRep := (r.1, r.2.1, r.2.2.1, r.2.2.2.1, r.2.2.2.2.1, r.2.2.2.2.2.1, g)
/-- The message with this signature. -/
def wsM (m : PMsg) (g : List Int) : PMsg := if oneM m = true then { m with reps := m.reps.map fun r => repSig r g } else { m with sig := g }
/-- The signature by which it is sealed. -/
def sgM (m : PMsg) : List Int := if oneM m = true then (match m.reps with | r :: _ => r.2.2.2.2.2.2 | [] => []) else m.sig
theorem oneM_yes {m : PMsg} (h : oneM m = true) : m.kind = 8 ∧ ∃ r, m.reps = [r] := by
  unfold oneM at h
  simp only [Bool.and_eq_true, beq_iff_eq] at h
  refine ⟨h.1, ?_⟩
  match hr : m.reps, h.2 with
  | [r], _ => exact ⟨r, rfl⟩
theorem ws_sg (m : PMsg) : wsM m (sgM m) = m := by
  unfold wsM sgM
  split
  · rename_i h
    obtain ⟨_, r, hr⟩ := oneM_yes h
    obtain ⟨a, b, c, d, e, f, g⟩ := r
    cases m
    simp only at hr
    subst hr
    rfl
  · rfl
theorem boxM (w : World) (m : PMsg) (s : SV) : ∃ w1, w1 = w.alloc (.cells (mc m s).toArray 72) ∧ Row w1 w.heap.size 72 (mc m s) ∧ Below w.heap.size w w1 := ⟨_, rfl, Row.new w _ _, below_alloc _ _⟩
set_option maxRecDepth 10000 in
set_option maxHeartbeats 1000000 in
theorem isReport_any (G : Nat → Prop) (w : World) (m : PMsg) (s : SV) (hs : SOk G w m s) : Calls Tryz.prog 89 #[.agg (mc m s).toArray] w fun e w' => e = .returned (.bool (oneM m)) ∧ Below w.heap.size w w' := by
  obtain ⟨w1, hw1, r1, B1⟩ := boxM w m s
  have c0 := r1.cell (j := 0) rfl
  have c22 := r1.cell (j := 22) rfl
  obtain ⟨al, cl, hl, hcl⟩ := hs.l.form
  rw [hl] at c22
  have hlen : (m.reps.length : Int) ≤ 9223372036854775807 := by
    rcases Nat.eq_zero_or_pos m.reps.length with h | h
    · omega
    · obtain ⟨_, _, cap, _, e, e1, _⟩ := hs.l.at h
      unfold maxLen at e1
      omega
  unfold oneM
  by_cases hk : m.kind = 8
  · have hk' : (m.kind == 8) = true := by simp [hk]
    obtain ⟨N, hN⟩ : ∃ N, N = m.reps.length := ⟨_, rfl⟩
    rw [← hN] at c22 hlen ⊢
    have hee : ((N : Int) == 1) = (N == 1) := by
      by_cases h : N = 1
      · subst h; rfl
      · have : (N : Int) ≠ 1 := by omega
        rw [beq_eq_false_iff_ne.2 this, beq_eq_false_iff_ne.2 h]
    rw [hk', Bool.true_and, ← hee]
    clear hee hN hl hs hk
    go_enter Tryz.func89, Tryz.ntmps89
    go_upto_region 1 with fail
    rw [← hw1]
    clear hw1
    go_wp2_with fail
    go_ret
    exact ⟨rfl, B1⟩
  · have hk' : (m.kind == 8) = false := by simp [hk]
    rw [hk', Bool.false_and]
    clear hl hs hk
    go_enter Tryz.func89, Tryz.ntmps89
    go_upto_region 1 with fail
    rw [← hw1]
    clear hw1
    go_wp2_with fail
    go_ret
    exact ⟨rfl, B1⟩
set_option maxRecDepth 10000 in
set_option maxHeartbeats 1000000 in
theorem refOne_any (G : Nat → Prop) (w : World) (m : PMsg) (s : SV) (hs : SOk G w m s) : Calls Tryz.prog 97 #[.agg (mc m s).toArray] w fun e w' => e = .returned (.bool (oneM m)) ∧ Below w.heap.size w w' := by
  obtain ⟨w1, hw1, r1, B1⟩ := boxM w m s
  have c0 := r1.cell (j := 0) rfl
  have c22 := r1.cell (j := 22) rfl
  obtain ⟨al, cl, hl, hcl⟩ := hs.l.form
  rw [hl] at c22
  have hlen : (m.reps.length : Int) ≤ 9223372036854775807 := by
    rcases Nat.eq_zero_or_pos m.reps.length with h | h
    · omega
    · obtain ⟨_, _, cap, _, e, e1, _⟩ := hs.l.at h
      unfold maxLen at e1
      omega
  unfold oneM
  by_cases hk : m.kind = 8
  · have hk' : (m.kind == 8) = true := by simp [hk]
    obtain ⟨N, hN⟩ : ∃ N, N = m.reps.length := ⟨_, rfl⟩
    rw [← hN] at c22 hlen ⊢
    have hee : ((N : Int) == 1) = (N == 1) := by
      by_cases h : N = 1
      · subst h; rfl
      · have : (N : Int) ≠ 1 := by omega
        rw [beq_eq_false_iff_ne.2 this, beq_eq_false_iff_ne.2 h]
    rw [hk', Bool.true_and, ← hee]
    clear hee hN hl hs hk
    go_enter Tryz.func97, Tryz.ntmps97
    go_upto_region 1 with fail
    rw [← hw1]
    clear hw1
    go_wp2_with fail
    go_ret
    exact ⟨rfl, B1⟩
  · have hk' : (m.kind == 8) = false := by simp [hk]
    rw [hk', Bool.false_and]
    clear hl hs hk
    go_enter Tryz.func97, Tryz.ntmps97
    go_upto_region 1 with fail
    rw [← hw1]
    clear hw1
    go_wp2_with fail
    go_ret
    exact ⟨rfl, B1⟩
/-- The domain in which it is signed. -/
def domS (m : PMsg) : ByteArray := if oneM m = true then ⟨#[114, 101, 112, 111, 114, 116]⟩ else ⟨#[109, 101, 115, 115, 97, 103, 101]⟩
set_option maxRecDepth 10000 in
theorem sealDomain_any (G : Nat → Prop) (w : World) (m : PMsg) (s : SV) (hs : SOk G w m s) : Calls Tryz.prog 59 #[.agg (mc m s).toArray] w fun e w' => e = .returned (.string (domS m)) ∧ Below w.heap.size w w' := by
  obtain ⟨w1, hw1, r1, B1⟩ := boxM w m s
  have hC := isReport_any G w1 m s (hs.mv B1.size (Mv.belowG B1))
  unfold domS
  cases ho : oneM m with
  | true =>
    rw [ho] at hC
    clear ho
    go_enter Tryz.func59, Tryz.ntmps59
    go_upto_region 1 with fail
    rw [← hw1]
    clear hw1
    go_wp2_with (first
      | (refine wl_load rfl _ _ rfl w.heap.size rfl _ _ r1 _ Tryz.underlying72 rfl (by kernel_rfl) ?_)
      | (go_at_call 89; refine hC.mono ?_; rintro e w2 ⟨rfl, hb2⟩))
    go_ret
    exact ⟨rfl, below_and B1 (Nat.le_refl _) hb2⟩
  | false =>
    rw [ho] at hC
    clear ho
    go_enter Tryz.func59, Tryz.ntmps59
    go_upto_region 1 with fail
    rw [← hw1]
    clear hw1
    go_wp2_with (first
      | (refine wl_load rfl _ _ rfl w.heap.size rfl _ _ r1 _ Tryz.underlying72 rfl (by kernel_rfl) ?_)
      | (go_at_call 89; refine hC.mono ?_; rintro e w2 ⟨rfl, hb2⟩))
    go_ret
    exact ⟨rfl, below_and B1 (Nat.le_refl _) hb2⟩
set_option maxRecDepth 10000 in
theorem refDomain_any (G : Nat → Prop) (w : World) (m : PMsg) (s : SV) (hs : SOk G w m s) : Calls Tryz.prog 96 #[.agg (mc m s).toArray] w fun e w' => e = .returned (.string (domS m)) ∧ Below w.heap.size w w' := by
  obtain ⟨w1, hw1, r1, B1⟩ := boxM w m s
  have hC := refOne_any G w1 m s (hs.mv B1.size (Mv.belowG B1))
  unfold domS
  cases ho : oneM m with
  | true =>
    rw [ho] at hC
    clear ho
    go_enter Tryz.func96, Tryz.ntmps96
    go_upto_region 1 with fail
    rw [← hw1]
    clear hw1
    go_wp2_with (first
      | (refine wl_load rfl _ _ rfl w.heap.size rfl _ _ r1 _ Tryz.underlying72 rfl (by kernel_rfl) ?_)
      | (go_at_call 97; refine hC.mono ?_; rintro e w2 ⟨rfl, hb2⟩))
    go_ret
    exact ⟨rfl, below_and B1 (Nat.le_refl _) hb2⟩
  | false =>
    rw [ho] at hC
    clear ho
    go_enter Tryz.func96, Tryz.ntmps96
    go_upto_region 1 with fail
    rw [← hw1]
    clear hw1
    go_wp2_with (first
      | (refine wl_load rfl _ _ rfl w.heap.size rfl _ _ r1 _ Tryz.underlying72 rfl (by kernel_rfl) ?_)
      | (go_at_call 97; refine hC.mono ?_; rintro e w2 ⟨rfl, hb2⟩))
    go_ret
    exact ⟨rfl, below_and B1 (Nat.le_refl _) hb2⟩
set_option maxRecDepth 10000 in
set_option maxHeartbeats 1000000 in
theorem sigOf_any (G : Nat → Prop) (w : World) (m : PMsg) (s : SV) (hs : SOk G w m s) : Calls Tryz.prog 58 #[.agg (mc m s).toArray] w fun e w' => ∃ v, e = .returned v ∧ RT G w' v (sgM m) ∧ Below w.heap.size w w' := by
  obtain ⟨w1, hw1, r1, B1⟩ := boxM w m s
  have hs1 := hs.mv B1.size (Mv.belowG B1)
  have hC := isReport_any G w1 m s hs1
  cases ho : oneM m with
  | true =>
    obtain ⟨hk, r, hr⟩ := oneM_yes ho
    have e : sgM m = r.2.2.2.2.2.2 := by unfold sgM; rw [if_pos ho, hr]
    rw [ho] at hC
    obtain ⟨b, off, cap, hl, hc1, hc2, hG, hb, hx⟩ := hs1.l.at (by rw [hr]; simp)
    obtain ⟨rr, _, hrg, vd, vs, vp, vg, rfl, t1, t2, t3, t4⟩ := hx 0 r (by rw [hr]; rfl)
    have HQ := (show Hid (∀ u, Below w1.heap.size w1 u → Row u w.heap.size 72 (mc m s) ∧ u.cell? ⟨b, off + 7, none⟩ = some vg ∧ RT G u vg r.2.2.2.2.2.2) from fun u hu => ⟨r1.below hu, by
      have := rangeAt_block hrg (hu.block b hb) 7 vg rfl
      simpa using this, t4.mv (Mv.belowG hu)⟩)
    rw [e]
    rw [hr] at hl
    have hl' : s.l = .slice (some ⟨b, off, none⟩) 1 cap := hl
    have hcap : 1 ≤ cap := by rw [hr] at hc1; exact hc1
    clear ho hx hrg t1 t2 t3 t4 hl hc1 e
    go_enter Tryz.func58, Tryz.ntmps58
    go_upto_region 1 with fail
    rw [← hw1]
    clear hw1
    go_upto_region 2 with (first
      | (refine wl_load rfl _ _ rfl w.heap.size rfl _ _ r1 _ Tryz.underlying72 rfl (by kernel_rfl) ?_)
      | (go_at_call 89; refine hC.mono ?_; rintro e w2 ⟨rfl, hb2⟩))
    obtain ⟨r2, cg, tg⟩ := HQ.out w2 hb2
    have c22 := r2.cell (j := 22) rfl
    rw [hl'] at c22
    go_wp2_with fail
    go_ret
    exact ⟨_, rfl, tg, below_and B1 (Nat.le_refl _) hb2⟩
  | false =>
    have e : sgM m = m.sig := by unfold sgM; rw [if_neg (by simp [ho])]
    rw [ho] at hC
    rw [e]
    clear e ho
    go_enter Tryz.func58, Tryz.ntmps58
    go_upto_region 1 with fail
    rw [← hw1]
    clear hw1
    go_upto_region 3 with (first
      | (refine wl_load rfl _ _ rfl w.heap.size rfl _ _ r1 _ Tryz.underlying72 rfl (by kernel_rfl) ?_)
      | (go_at_call 89; refine hC.mono ?_; rintro e w2 ⟨rfl, hb2⟩))
    have c17 := (r1.below hb2).cell (j := 17) rfl
    have tg := hs1.s.mv (Mv.belowG hb2)
    go_wp2_with fail
    go_ret
    exact ⟨_, rfl, tg, below_and B1 (Nat.le_refl _) hb2⟩
end
end Go.Proofs.YtgbfmccecnfooaaGreatDoor
