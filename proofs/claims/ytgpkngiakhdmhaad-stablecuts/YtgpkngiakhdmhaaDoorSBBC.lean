/- The walks over the document's copies: votes. -/
import Derived.Test.YtgpkngiakhdmhaaDoorSBAV
set_option linter.unusedVariables false
namespace Go.Proofs.YtgpkngiakhdmhaaDoor
open Go.RowKit Oct
theorem Tryd.infV : (Tryd.prog.info? 28).map (fun i => (i.zero, i.size, i.bytes)) = some (some (.agg #[.int .i64 0, .slice none 0 0]), 2, 32) := by kernel_rfl
theorem one_RV {G : Nat → Prop} {w : World} {r : List Value} {x : PVote} (h : RVote G w r x) : ∀ v ∈ r, v.oneCell' = true := by
  obtain ⟨s, rfl, hs⟩ := h
  have := hs.one
  intro v hv
  simp only [List.mem_cons, List.not_mem_nil, or_false] at hv
  rcases hv with rfl | rfl <;> first | rfl | assumption
theorem keepC {w u : World} {p : Addr} {v : Value} (hb : Below w.heap.size w u) (h : w.cell? p = some v) : u.cell? p = some v := (hb.cell (World.block_lt_of_cell? w p h)).trans h
theorem one2 {a : Int} {u : Value} (hu : u.oneCell' = true) : ∀ x ∈ [Value.int .i64 a, u], x.oneCell' = true := by
  intro x hx
  simp only [List.mem_cons, List.not_mem_nil, or_false] at hx
  rcases hx with rfl | rfl <;> first | rfl | assumption
theorem own_slice {w : World} {e : TypeId} {v : Value} {xs : List Value} (h : Own w e v xs) : ∃ ao n cap, v = .slice ao n cap := by
  obtain ⟨ao, cap, e, _⟩ := h.form; exact ⟨ao, _, cap, e⟩
theorem grown_cell {w w' : World} {row : Option Nat} {a : Addr} {v : Value} (hg : w.grownBy w' row) (h : w.cell? a = some v) (hn : row ≠ some a.block) : w'.cell? a = some v := by
  rw [World.cell?_of_block (w := w) (w' := w') (a := a) (hg.block a.block (World.block_lt_of_cell? w a h) (fun e => hn e.symm))]
  exact h
theorem take_len {α : Type} {ys : List α} {q : Nat} (h : q ≤ ys.length) : (ys.take q).length = q := by rw [List.length_take]; omega
set_option maxRecDepth 10000 in
set_option maxHeartbeats 2000000 in
theorem copyVotes_some (w : World) (bb off cap : Nat) (ys : List PVote) (hl : 0 < ys.length) (hc : ys.length ≤ cap) (hm : cap ≤ maxLen) (hbb : bb < w.heap.size)
    (hx : ∀ (i : Nat) (a : PVote), ys[i]? = some a → ∃ r, r.length = 2 ∧ w.rangeAt bb (off + i * 2) r ∧ RVote Any w r a) (hz : szL 32 szV ys) :
    Calls Tryd.prog 10 #[.slice (some ⟨bb, off, none⟩) ys.length cap] w fun e w' => ∃ v', e = .returned v' ∧ RL RVote 2 (From w.heap.size) w' v' ys ∧ Below w.heap.size w w' := by
  obtain ⟨hz1, hz2⟩ := hz
  have HX := (show Hid (∀ (i : Nat) (a : PVote), ys[i]? = some a → ∃ r, r.length = 2 ∧ w.rangeAt bb (off + i * 2) r ∧ RVote Any w r a) from hx)
  have HZ := (show Hid (∀ y ∈ ys, szV y) from hz2)
  have hlm : (ys.length : Int) ≤ 9223372036854775807 := by unfold maxLen at hm; omega
  clear hx hz2
  go_enter Tryd.func10, Tryd.ntmps10
  go_wp2_with fail
  go_loopw [3, 9] (fun v i wr => ∃ q : Nat, q ≤ ys.length ∧ i = .int .i64 q ∧ LB RVote 28 2 w.heap.size wr v (ys.take q) ∧ Below w.heap.size w wr) (fun _ i _ => ys.length - (intOf i).toNat)
  case atStart => exact ⟨0, by omega, rfl, LB.fresh _ _ _ _ _ (Nat.le_refl _), below_alloc w _⟩
  case round =>
    obtain ⟨q, hq, rfl, hLB, hB⟩ := hrel
    by_cases hql : q < ys.length
    · obtain ⟨a, ha⟩ : ∃ a, ys[q]? = some a := ⟨_, List.getElem?_eq_getElem hql⟩
      obtain ⟨r, _, hrng, s, rfl, hs⟩ := HX.out q a ha
      have hza := HZ.out a (List.mem_of_getElem? ha)
      have hrng := rangeAt_block hrng (hB.block bb hbb)
      have HA := (show Hid (ys.take (q + 1) = ys.take q ++ [a]) from take_snoc' ys q a ha)
      have hso := hs.one
      have hrow0 := Row.new wr 28 [.int .i64 0, .slice none 0 0]
      clear ha
      go_wp2_with (first
        | (refine wpList_load_mid rfl _ _ rfl bb (off + q * 2) rfl [.int .i64 a.1, s] _ hrng Tryd.underlying28 rfl (by kernel_rfl) ?_)
        | (refine wl_store rfl _ _ _ rfl wr.heap.size [.int .i64 a.1, s] rfl rfl _ _ hrow0 rfl (by kernel_rfl) (one2 hso) ?_; intro w5 hr5 hg5))
      have hb5 : Below wr.heap.size wr w5 := (below_alloc wr (.cells ([.int .i64 0, .slice none 0 0] : List Value).toArray 28)).trans (grown_below hg5 (by simp) (fun k hk => by cases hk; exact Nat.le_refl _))
      have hr5 := hr5.out
      have hB5 := below_and hB (Nat.le_refl _) hb5
      have hs5 := (hs.mv (Mv.below hB5)).1
      have p0 := hr5.cell (j := 0) rfl
      have p1 := hr5.cell (j := 1) rfl
      have SK := (show Hid (∀ u, Below w5.heap.size w5 u → u.cell? ⟨wr.heap.size, 0, none⟩ = some (.int .i64 a.1) ∧ u.cell? ⟨wr.heap.size, 1, none⟩ = some s) from fun u hu => ⟨keepC hu p0, keepC hu p1⟩)
      have hLB5 := hLB.below mov_vote hb5
      have hlt5 : ∀ g, u3.ownBlock = some g → g < w5.heap.size := hLB5.lt
      have hws : w.heap.size ≤ w5.heap.size := hB5.size
      have hne0 := World.new_ne w5 ⟨wr.heap.size, 0, none⟩ p0
      have hne1 := World.new_ne w5 ⟨wr.heap.size, 1, none⟩ p1
      have htl := take_len hq
      have hnv : u3.ownBlock ≠ some wr.heap.size := fun e => absurd (hLB.lt _ e) (Nat.lt_irrefl _)
      clear hrng hrow0 hg5
      go_region_held3 (fun u => u.cell? ⟨wr.heap.size, 0, none⟩ = some (.int .i64 a.1) ∧ u.cell? ⟨wr.heap.size, 1, none⟩ = some s)
        (first | exact SK.out _ (by assumption) | exact hS8 | go_keep)
        (first
          | (refine step_bytes (by rfl) _ _ (by rfl) (.slice (some ⟨w5.heap.size, 0, none⟩) 0 0) [] (by rfl) (own_zero w5 5).drew s a.2 (by rfl) (hs5.below (below_alloc w5 _)).2.drew (by simp only [List.length_nil]; have := hza; unfold szV szT at this; omega) ?_; intro v6 w6 happ6; obtain ⟨ao6, n6, c6, rfl⟩ := own_slice happ6.own; have hb6 : Below w5.heap.size w5 w6 := ((below_alloc w5 _).drew).trans (happ6.below (fr_at _ _ _ _ (Nat.le_refl _)) (by simp)); have hRc : RVote (From w5.heap.size) w6 [.int .i64 a.1, .slice ao6 n6 c6] a := ⟨_, rfl, RT.own (by simpa using happ6.own) hs5.1 (happ6.fr (fr_at _ _ _ _ (Nat.le_refl _)) (by simp))⟩; have hLB6 := hLB5.below mov_vote hb6)
          | (refine step_push mov_vote (by rfl) _ _ _ (by rfl) 28 2 32 _ Tryd.underlying32 Tryd.infV rfl (by decide) w.heap.size u3 (ys.take q) (by rfl) hLB6 [.int .i64 a.1, .slice ao6 n6 c6] a w5.heap.size hRc rfl (one_RV hRc) hws hlt5 (by rfl) (Nat.le_trans hws hb6.size) (by rw [htl]; omega) (by decide) ?_; intro v8 w8 hLB8 hg8; have hS8 : w8.cell? ⟨wr.heap.size, 0, none⟩ = some (.int .i64 a.1) ∧ w8.cell? ⟨wr.heap.size, 1, none⟩ = some s := ⟨grown_cell hg8 (keepC hb6 p0) hnv, grown_cell hg8 (keepC hb6 p1) hnv⟩))
      rw [← HA.out] at hLB8
      have hb56 := below_and hb5 (Nat.le_refl _) hb6
      have hB8 := (below_and hB (Nat.le_refl _) hb56).trans (grown_below hg8 (below_and hB (Nat.le_refl _) hb56).size (fun k hk => hLB.fr k hk))
      go_wp2_with fail
      go_roundw
      case rel => exact ⟨q + 1, by omega, by go_num, hLB8, hB8⟩
      case measure => simp [intOf]; omega
    · obtain rfl : q = ys.length := by omega
      rw [List.take_length] at hLB
      have hrl := hLB.rl mov_vote
      go_wp2_with fail
      go_ret
      exact ⟨_, rfl, hrl, hB⟩
theorem copyVotes_none (w : World) (ao : Option Addr) (cap : Nat) :
    Calls Tryd.prog 10 #[.slice ao 0 cap] w fun e w' => ∃ v', e = .returned v' ∧ RL RVote 2 (From w.heap.size) w' v' [] ∧ Below w.heap.size w w' := by
  go_enter Tryd.func10, Tryd.ntmps10
  go_wp2_with fail
  refine wp_loop_rounds 1 ?_; rw [rounds_succ]
  go_wp2_with fail
  go_ret
  exact ⟨_, rfl, (LB.fresh RVote 28 2 w.heap.size w (Nat.le_refl _)).rl mov_vote, below_alloc w _⟩
/-- CopyVotes. -/
theorem copyVotes_any (w : World) (v : Value) (ys : List PVote) (h : RL RVote 2 Any w v ys) (hz : szL 32 szV ys) :
    Calls Tryd.prog 10 #[v] w fun e w' => ∃ v', e = .returned v' ∧ RL RVote 2 (From w.heap.size) w' v' ys ∧ Below w.heap.size w w' := by
  by_cases hl : 0 < ys.length
  · obtain ⟨b1, o1, c1, rfl, hc1, hm1, _, hb1, hx1⟩ := h.at hl
    exact copyVotes_some w b1 o1 c1 ys hl hc1 hm1 hb1 hx1 hz
  · obtain rfl : ys = [] := List.eq_nil_of_length_eq_zero (by omega)
    obtain ⟨ao, c1, rfl, _⟩ := h.form
    exact copyVotes_none w ao c1
end Go.Proofs.YtgpkngiakhdmhaaDoor
