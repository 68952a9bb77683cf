/- The walks over the document's copies: votes. -/
import Derived.Test.YtgjepofinpmcpaaGreatDoorCAA
import Derived.Test.YtgjepofinpmcpaaGreatDoorCAB
import Derived.Laws.CopyOwn
import Derived.Test.YtgjepofinpmcpaaGreatDoorCAJ
section
namespace Go.Proofs.YtgjepofinpmcpaaGreatDoor
open Oct
namespace Sha

/-- What a hash holds behind l: in front of rest the bytes of the block that is not full yet. -/
def Rst (l rest : List Int) : Prop := rest.length = 64 ∧ Byt rest ∧ rest.take (l.length % 64) = l.drop (64 * (l.length / 64))

theorem byt_app {a b : List Int} (ha : Byt a) (hb : Byt b) : Byt (a ++ b) := fun x hx => by
  rcases List.mem_append.1 hx with h | h
  · exact ha x h
  · exact hb x h
theorem byt_take {a : List Int} (ha : Byt a) (n : Nat) : Byt (a.take n) := fun x hx => ha x (List.mem_of_mem_take hx)
theorem byt_drop {a : List Int} (ha : Byt a) (n : Nat) : Byt (a.drop n) := fun x hx => ha x (List.mem_of_mem_drop hx)
theorem byt_splice {a x : List Int} (ha : Byt a) (hx : Byt x) (f : Nat) : Byt (splice a f x) := byt_app (byt_take ha f) (byt_app hx (byt_drop ha _))
theorem byt_zero (n : Nat) : Byt (List.replicate n 0) := fun x hx => by
  rw [(List.mem_replicate.1 hx).2]
  decide
theorem splice_take {rest x : List Int} {f : Nat} (hr : rest.length = 64) (hn : f + x.length ≤ 64) : (splice rest f x).take (f + x.length) = rest.take f ++ x := by
  unfold splice
  rw [← List.append_assoc, List.take_append_of_le_length (by simp; omega), List.take_of_length_le (by simp; omega)]

theorem rest_new {l rest x : List Int} (h : Rst l rest) (hx : Byt x) (hn : l.length % 64 + x.length ≤ 64) :
    (splice rest (l.length % 64) x).length = 64 ∧ Byt (splice rest (l.length % 64) x) ∧ (splice rest (l.length % 64) x).take (l.length % 64 + x.length) = (l ++ x).drop (64 * (l.length / 64)) := by
  obtain ⟨h1, h2, h3⟩ := h
  refine ⟨by rw [length_splice _ _ _ (by omega), h1], byt_splice h2 hx _, ?_⟩
  rw [splice_take h1 hn, h3, List.drop_append_of_le_length (by omega)]
theorem rest_more {l rest x : List Int} (h : Rst l rest) (hx : Byt x) (hn : l.length % 64 + x.length < 64) :
    Rst (l ++ x) (splice rest (l.length % 64) x) ∧ blks (l ++ x) ((l ++ x).length / 64) = blks l (l.length / 64) := by
  obtain ⟨h1, h2, h3⟩ := rest_new h hx (by omega)
  have e1 : (l ++ x).length / 64 = l.length / 64 := by rw [List.length_append]; omega
  have e2 : (l ++ x).length % 64 = l.length % 64 + x.length := by rw [List.length_append]; omega
  exact ⟨⟨h1, h2, by rw [e1, e2]; exact h3⟩, by rw [e1, blks_app l x _ (by omega)]⟩
theorem rest_full {l rest x : List Int} (h : Rst l rest) (hx : Byt x) (hn : l.length % 64 + x.length = 64) :
    Rst (l ++ x) (splice rest (l.length % 64) x) ∧ blks (l ++ x) ((l ++ x).length / 64) = blk (blks l (l.length / 64)) (splice rest (l.length % 64) x) := by
  obtain ⟨h1, h2, h3⟩ := rest_new h hx (by omega)
  have e1 : (l ++ x).length / 64 = l.length / 64 + 1 := by rw [List.length_append]; omega
  have e2 : (l ++ x).length % 64 = 0 := by rw [List.length_append]; omega
  refine ⟨⟨h1, h2, ?_⟩, ?_⟩
  · rw [e1, e2, List.take_zero, List.drop_eq_nil_of_le (by rw [List.length_append]; omega)]
  · rw [e1, blks, blks_app l x _ (by omega), ← h3, hn, List.take_take, Nat.min_self, List.take_of_length_le (by omega)]

/-- The block behind the stop and the zeros. -/
def stopped (rest : List Int) (f : Nat) : List Int := rest.take f ++ 128 :: List.replicate (63 - f) 0
theorem stopped_len {rest : List Int} {f : Nat} (h : rest.length = 64) (hf : f < 64) : (stopped rest f).length = 64 := by
  simp only [stopped, List.length_append, List.length_take, List.length_cons, List.length_replicate]
  omega
theorem byt_stopped {rest : List Int} (h : Byt rest) (f : Nat) : Byt (stopped rest f) := byt_app (byt_take h f) (fun x hx => by
  rcases List.mem_cons.1 hx with rfl | hx
  · decide
  · exact byt_zero _ x hx)
theorem stopped_eq {rest : List Int} {f : Nat} (h : rest.length = 64) (hf : f < 64) : splice (rest.set f 128) (f + 1) (List.replicate (63 - f) 0) = stopped rest f := by
  unfold splice stopped
  rw [List.length_replicate, List.drop_eq_nil_of_le (by simp; omega), List.append_nil, List.take_set, List.take_add_one, List.getElem?_eq_getElem (by omega), List.set_append_right _ _ (by simp; omega)]
  simp [show min f rest.length = f by omega]

/-- The number laid into a block, i bytes of it. -/
def lay (r : List Int) (n : Int) (i : Nat) : List Int := r.take 56 ++ ((be8 n).take i ++ r.drop (56 + i))
theorem lay_len {r : List Int} (h : r.length = 64) (n : Int) (i : Nat) (hi : i ≤ 8) : (lay r n i).length = 64 := by
  simp only [lay, List.length_append, List.length_take, List.length_drop, be8_len]
  omega
theorem lay_zero {r : List Int} (n : Int) : lay r n 0 = r := by simp [lay]
theorem lay_set {r : List Int} (h : r.length = 64) (n : Int) (i : Nat) (hi : i < 8) : (lay r n i).set (56 + i) ((be8 n).getD i 0) = lay r n (i + 1) := by
  obtain ⟨A, hA⟩ : ∃ A, A = r.take 56 := ⟨_, rfl⟩
  have hl : A.length = 56 := by rw [hA]; simp; omega
  have hb : i < (be8 n).length := by rw [be8_len]; exact hi
  have e2 : (be8 n).take (i + 1) = (be8 n).take i ++ [(be8 n).getD i 0] := by
    rw [List.take_add_one, List.getElem?_eq_getElem hb]
    simp [List.getD, List.getElem?_eq_getElem hb]
  have hl2 : ((be8 n).take i).length = i := by simp [be8_len]; omega
  unfold lay
  rw [e2, ← hA, List.set_append_right _ _ (by omega), hl, Nat.add_sub_cancel_left, List.set_append_right _ _ (by omega), hl2, Nat.sub_self, List.append_assoc]
  congr 2
  rw [List.drop_eq_getElem_cons (by omega)]
  simp [Nat.add_assoc]
theorem byt_be8 (n : Int) : Byt (be8 n) := by
  intro b hb
  simp only [be8, List.mem_cons, List.not_mem_nil, or_false] at hb
  rcases hb with rfl | rfl | rfl | rfl | rfl | rfl | rfl | rfl <;> omega
theorem byt_lay {r : List Int} (h : Byt r) (n : Int) (i : Nat) : Byt (lay r n i) := byt_app (byt_take h _) (byt_app (byt_take (byt_be8 n) _) (byt_drop h _))
theorem lay_eight {r : List Int} (h : r.length = 64) (n : Int) : lay r n 8 = r.take 56 ++ be8 n := by
  unfold lay
  rw [List.drop_eq_nil_of_le (by omega), List.append_nil]
  rfl

theorem fin_one {l rest : List Int} (h : Rst l rest) (hf : l.length % 64 < 56) : blk (blks l (l.length / 64)) (lay (stopped rest (l.length % 64)) (8 * l.length) 8) = blks (pad l) ((pad l).length / 64) := by
  obtain ⟨h1, h2, h3⟩ := h
  have e1 : (pad l).length / 64 = l.length / 64 + 1 := by rw [pad_len]; omega
  rw [e1, blks, pad, blks_app l _ _ (by omega)]
  congr 1
  obtain ⟨f, hf'⟩ : ∃ f, f = l.length % 64 := ⟨_, rfl⟩
  obtain ⟨A, hA⟩ : ∃ A, A = rest.take f := ⟨_, rfl⟩
  have hl : A.length = f := by rw [hA]; simp; omega
  have hz : zs l.length = 55 - f := by unfold zs; omega
  have hr : List.replicate (63 - f) (0 : Int) = List.replicate (55 - f) 0 ++ List.replicate 8 0 := by rw [List.replicate_append_replicate]; congr 1; omega
  rw [lay_eight (stopped_len h1 (by omega)), List.drop_append_of_le_length (by omega), ← h3, ← hf', stopped, ← hA, hz, hr]
  rw [← List.cons_append, ← List.append_assoc, ← List.cons_append, ← List.append_assoc]
  rw [List.take_left' (by simp [hl]; omega), List.take_of_length_le (by simp [hl, be8_len]; omega)]
theorem fin_two {l rest : List Int} (h : Rst l rest) (hf : 56 ≤ l.length % 64) :
    blk (blk (blks l (l.length / 64)) (stopped rest (l.length % 64))) (lay (List.replicate 64 0) (8 * l.length) 8) = blks (pad l) ((pad l).length / 64) := by
  obtain ⟨h1, h2, h3⟩ := h
  have e1 : (pad l).length / 64 = l.length / 64 + 1 + 1 := by rw [pad_len]; omega
  obtain ⟨f, hf'⟩ : ∃ f, f = l.length % 64 := ⟨_, rfl⟩
  obtain ⟨A, hA⟩ : ∃ A, A = rest.take f := ⟨_, rfl⟩
  have hl : A.length = f := by rw [hA]; simp; omega
  have hz : zs l.length = (63 - f) + 56 := by unfold zs; omega
  have hp : pad l = l ++ (128 :: List.replicate (63 - f) 0) ++ (List.replicate 56 0 ++ be8 (8 * l.length)) := by
    rw [pad, hz, ← List.replicate_append_replicate]
    simp
  have hX : (l ++ (128 :: List.replicate (63 - f) 0)).length = 64 * (l.length / 64 + 1) := by simp; omega
  have hd : (l ++ (128 :: List.replicate (63 - f) (0 : Int))).drop (64 * (l.length / 64)) = stopped rest f := by
    rw [List.drop_append_of_le_length (by omega), ← h3, ← hf']
    rfl
  have hd2 : (stopped rest f).length = 64 := stopped_len h1 (by omega)
  rw [e1, blks, blks, hp, blks_app _ _ _ (by omega), blks_app l _ _ (by omega), List.drop_append_of_le_length (by omega), hd, List.take_append_of_le_length (by omega), List.take_of_length_le (by omega), ← hf', List.drop_left' hX]
  congr 1
theorem out_hash (l : List Int) : (blks (pad l) ((pad l).length / 64)).out = shaL l := rfl
end Sha
end Go.Proofs.YtgjepofinpmcpaaGreatDoor
end

section
set_option linter.unusedVariables false
namespace Go.Proofs.YtgjepofinpmcpaaGreatDoor
open Go.RowKit Oct

theorem Tryz.infV : (Tryz.prog.info? 58).map (fun i => (i.zero, i.size, i.bytes)) = some (some (.agg #[.int .i64 0, .slice none 0 0]), 2, 32) := by kernel_rfl
theorem one_RV {G : Nat → Prop} {w : World} {r : List Value} {x : PVote} (h : RVote G w r x) : ∀ v ∈ r, v.oneCell' = true := by
  obtain ⟨s, rfl, hs⟩ := h
  have := hs.one
  intro v hv
  simp only [List.mem_cons, List.not_mem_nil, or_false] at hv
  rcases hv with rfl | rfl <;> first | rfl | assumption
theorem keepC {w u : World} {p : Addr} {v : Value} (hb : Below w.heap.size w u) (h : w.cell? p = some v) : u.cell? p = some v := (hb.cell (World.block_lt_of_cell? w p h)).trans h
theorem one2 {a : Int} {u : Value} (hu : u.oneCell' = true) : ∀ x ∈ [Value.int .i64 a, u], x.oneCell' = true := by
  intro x hx
  simp only [List.mem_cons, List.not_mem_nil, or_false] at hx
  rcases hx with rfl | rfl <;> first | rfl | assumption
theorem own_slice {w : World} {e : TypeId} {v : Value} {xs : List Value} (h : Own w e v xs) : ∃ ao n cap, v = .slice ao n cap := by
  obtain ⟨ao, cap, e, _⟩ := h.form; exact ⟨ao, _, cap, e⟩
theorem grown_cell {w w' : World} {row : Option Nat} {a : Addr} {v : Value} (hg : w.grownBy w' row) (h : w.cell? a = some v) (hn : row ≠ some a.block) : w'.cell? a = some v := by
  rw [World.cell?_of_block (w := w) (w' := w') (a := a) (hg.block a.block (World.block_lt_of_cell? w a h) (fun e => hn e.symm))]
  exact h
theorem take_len {α : Type} {ys : List α} {q : Nat} (h : q ≤ ys.length) : (ys.take q).length = q := by rw [List.length_take]; omega

set_option maxRecDepth 10000 in
set_option maxHeartbeats 2000000 in
theorem copyVotes_some (w : World) (bb off cap : Nat) (ys : List PVote) (hl : 0 < ys.length) (hc : ys.length ≤ cap) (hm : cap ≤ maxLen) (hbb : bb < w.heap.size)
    (hx : ∀ (i : Nat) (a : PVote), ys[i]? = some a → ∃ r, r.length = 2 ∧ w.rangeAt bb (off + i * 2) r ∧ RVote Any w r a) (hz : szL 32 szV ys) :
    Calls Tryz.prog 29 #[.slice (some ⟨bb, off, none⟩) ys.length cap] w fun e w' => ∃ v', e = .returned v' ∧ RL RVote 2 (From w.heap.size) w' v' ys ∧ Below w.heap.size w w' := by
  obtain ⟨hz1, hz2⟩ := hz
  have HX := (show Hid (∀ (i : Nat) (a : PVote), ys[i]? = some a → ∃ r, r.length = 2 ∧ w.rangeAt bb (off + i * 2) r ∧ RVote Any w r a) from hx)
  have HZ := (show Hid (∀ y ∈ ys, szV y) from hz2)
  have hlm : (ys.length : Int) ≤ 9223372036854775807 := by unfold maxLen at hm; omega
  clear hx hz2
  go_enter Tryz.func29, Tryz.ntmps29
  go_wp2_with fail
  go_loopw [3, 9] (fun v i wr => ∃ q : Nat, q ≤ ys.length ∧ i = .int .i64 q ∧ LB RVote 58 2 w.heap.size wr v (ys.take q) ∧ Below w.heap.size w wr) (fun _ i _ => ys.length - (intOf i).toNat)
  case atStart => exact ⟨0, by omega, rfl, LB.fresh _ _ _ _ _ (Nat.le_refl _), below_alloc w _⟩
  case round =>
    obtain ⟨q, hq, rfl, hLB, hB⟩ := hrel
    by_cases hql : q < ys.length
    · obtain ⟨a, ha⟩ : ∃ a, ys[q]? = some a := ⟨_, List.getElem?_eq_getElem hql⟩
      obtain ⟨r, _, hrng, s, rfl, hs⟩ := HX.out q a ha
      have hza := HZ.out a (List.mem_of_getElem? ha)
      have hrng := rangeAt_block hrng (hB.block bb hbb)
      have HA := (show Hid (ys.take (q + 1) = ys.take q ++ [a]) from take_snoc' ys q a ha)
      have hso := hs.one
      have hrow0 := Row.new wr 58 [.int .i64 0, .slice none 0 0]
      clear ha
      go_wp2_with (first
        | (refine wpList_load_mid rfl _ _ rfl bb (off + q * 2) rfl [.int .i64 a.1, s] _ hrng Tryz.underlying58 rfl (by kernel_rfl) ?_)
        | (refine wl_store rfl _ _ _ rfl wr.heap.size [.int .i64 a.1, s] rfl rfl _ _ hrow0 rfl (by kernel_rfl) (one2 hso) ?_; intro w5 hr5 hg5))
      have hb5 : Below wr.heap.size wr w5 := (below_alloc wr (.cells ([.int .i64 0, .slice none 0 0] : List Value).toArray 58)).trans (grown_below hg5 (by simp) (fun k hk => by cases hk; exact Nat.le_refl _))
      have hr5 := hr5.out
      have hB5 := below_and hB (Nat.le_refl _) hb5
      have hs5 := (hs.mv (Mv.below hB5)).1
      have p0 := hr5.cell (j := 0) rfl
      have p1 := hr5.cell (j := 1) rfl
      have SK := (show Hid (∀ u, Below w5.heap.size w5 u → u.cell? ⟨wr.heap.size, 0, none⟩ = some (.int .i64 a.1) ∧ u.cell? ⟨wr.heap.size, 1, none⟩ = some s) from fun u hu => ⟨keepC hu p0, keepC hu p1⟩)
      have hLB5 := hLB.below mov_vote hb5
      have hlt5 : ∀ g, u3.ownBlock = some g → g < w5.heap.size := hLB5.lt
      have hws : w.heap.size ≤ w5.heap.size := hB5.size
      have hne0 := World.new_ne w5 ⟨wr.heap.size, 0, none⟩ p0
      have hne1 := World.new_ne w5 ⟨wr.heap.size, 1, none⟩ p1
      have htl := take_len hq
      have hnv : u3.ownBlock ≠ some wr.heap.size := fun e => absurd (hLB.lt _ e) (Nat.lt_irrefl _)
      clear hrng hrow0 hg5
      go_region_held3 (fun u => u.cell? ⟨wr.heap.size, 0, none⟩ = some (.int .i64 a.1) ∧ u.cell? ⟨wr.heap.size, 1, none⟩ = some s)
        (first | exact SK.out _ (by assumption) | exact hS8 | go_keep)
        (first
          | (refine step_bytes (by rfl) _ _ (by rfl) (.slice (some ⟨w5.heap.size, 0, none⟩) 0 0) [] (by rfl) (own_zero w5 5).drew s a.2 (by rfl) (hs5.below (below_alloc w5 _)).2.drew (by simp only [List.length_nil]; have := hza; unfold szV szT at this; omega) ?_; intro v6 w6 happ6; obtain ⟨ao6, n6, c6, rfl⟩ := own_slice happ6.own; have hb6 : Below w5.heap.size w5 w6 := ((below_alloc w5 _).drew).trans (happ6.below (fr_at _ _ _ _ (Nat.le_refl _)) (by simp)); have hRc : RVote (From w5.heap.size) w6 [.int .i64 a.1, .slice ao6 n6 c6] a := ⟨_, rfl, RT.own (by simpa using happ6.own) hs5.1 (happ6.fr (fr_at _ _ _ _ (Nat.le_refl _)) (by simp))⟩; have hLB6 := hLB5.below mov_vote hb6)
          | (refine step_push mov_vote (by rfl) _ _ _ (by rfl) 58 2 32 _ Tryz.underlying35 Tryz.infV rfl (by decide) w.heap.size u3 (ys.take q) (by rfl) hLB6 [.int .i64 a.1, .slice ao6 n6 c6] a w5.heap.size hRc rfl (one_RV hRc) hws hlt5 (by rfl) (Nat.le_trans hws hb6.size) (by rw [htl]; omega) (by decide) ?_; intro v8 w8 hLB8 hg8; have hS8 : w8.cell? ⟨wr.heap.size, 0, none⟩ = some (.int .i64 a.1) ∧ w8.cell? ⟨wr.heap.size, 1, none⟩ = some s := ⟨grown_cell hg8 (keepC hb6 p0) hnv, grown_cell hg8 (keepC hb6 p1) hnv⟩))
      rw [← HA.out] at hLB8
      have hb56 := below_and hb5 (Nat.le_refl _) hb6
      have hB8 := (below_and hB (Nat.le_refl _) hb56).trans (grown_below hg8 (below_and hB (Nat.le_refl _) hb56).size (fun k hk => hLB.fr k hk))
      go_wp2_with fail
      go_roundw
      case rel => exact ⟨q + 1, by omega, by go_num, hLB8, hB8⟩
      case measure => simp [intOf]; omega
    · obtain rfl : q = ys.length := by omega
      rw [List.take_length] at hLB
      have hrl := hLB.rl mov_vote
      go_wp2_with fail
      go_ret
      exact ⟨_, rfl, hrl, hB⟩
theorem copyVotes_none (w : World) (ao : Option Addr) (cap : Nat) :
    Calls Tryz.prog 29 #[.slice ao 0 cap] w fun e w' => ∃ v', e = .returned v' ∧ RL RVote 2 (From w.heap.size) w' v' [] ∧ Below w.heap.size w w' := by
  go_enter Tryz.func29, Tryz.ntmps29
  go_wp2_with fail
  refine wp_loop_rounds 1 ?_; rw [rounds_succ]
  go_wp2_with fail
  go_ret
  exact ⟨_, rfl, (LB.fresh RVote 58 2 w.heap.size w (Nat.le_refl _)).rl mov_vote, below_alloc w _⟩
/-- CopyVotes. -/
theorem copyVotes_any (w : World) (v : Value) (ys : List PVote) (h : RL RVote 2 Any w v ys) (hz : szL 32 szV ys) :
    Calls Tryz.prog 29 #[v] w fun e w' => ∃ v', e = .returned v' ∧ RL RVote 2 (From w.heap.size) w' v' ys ∧ Below w.heap.size w w' := by
  by_cases hl : 0 < ys.length
  · obtain ⟨b1, o1, c1, rfl, hc1, hm1, _, hb1, hx1⟩ := h.at hl
    exact copyVotes_some w b1 o1 c1 ys hl hc1 hm1 hb1 hx1 hz
  · obtain rfl : ys = [] := List.eq_nil_of_length_eq_zero (by omega)
    obtain ⟨ao, c1, rfl, _⟩ := h.form
    exact copyVotes_none w ao c1
end Go.Proofs.YtgjepofinpmcpaaGreatDoor
end
