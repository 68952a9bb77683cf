/- The document's copy of entries. -/
import Derived.Test.YtejkkhlblnepeabKn
import Derived.Test.YtejkkhlblnepeabLst
set_option linter.unusedVariables false
set_option linter.unusedSimpArgs false
namespace Go.Proofs.Ytejkkhlblnepeab
open Go.RowKit Oct Kvl

theorem keepE {w u : World} {p : Addr} {v : Value} (hb : Below w.heap.size w u) (h : w.cell? p = some v) : u.cell? p = some v := (hb.cell (World.block_lt_of_cell? w p h)).trans h
theorem own_sliceE {w : World} {e : TypeId} {v : Value} {xs : List Value} (h : Own w e v xs) : ∃ ao n cap, v = .slice ao n cap := by
  obtain ⟨ao, cap, e, _⟩ := h.form; exact ⟨ao, _, cap, e⟩
theorem take_lenE {α : Type} {ys : List α} {q : Nat} (h : q ≤ ys.length) : (ys.take q).length = q := by rw [List.length_take]; omega

theorem own_zero2 (w : World) (e : TypeId) : Own ((w.alloc (.cells #[] e)).alloc (.cells #[] e)) e (.slice (some ⟨w.heap.size + 1, 0, none⟩) 0 0) (bc []) := by
  rw [show w.heap.size + 1 = (w.alloc (.cells #[] e)).heap.size by simp]
  exact own_zero _ e
/-- Two empty texts are made, then one is filled. -/
theorem cp2 {w w6 : World} {v6 : Value} {l : List Int} {g1 g2 : Nat} (happ : App ((w.alloc (.cells #[] 5)).alloc (.cells #[] 5)).drew 5 (.slice (some ⟨g1, 0, none⟩) 0 0) w6 v6 (bc ([] ++ l))) (hg : (g1 = w.heap.size ∧ g2 = w.heap.size + 1) ∨ (g1 = w.heap.size + 1 ∧ g2 = w.heap.size)) (hb : Byt l) :
    Below w.heap.size w w6 ∧ RT (From w.heap.size) w6 v6 l ∧ Own w6 5 (.slice (some ⟨g2, 0, none⟩) 0 0) (bc []) ∧ v6.ownBlock ≠ some g2 := by
  rw [List.nil_append] at happ
  have h2 : Below w.heap.size w ((w.alloc (.cells #[] 5)).alloc (.cells #[] 5)).drew := (below_and (below_alloc w _) (Nat.le_refl _) (below_alloc _ _)).drew
  have hsz : ((w.alloc (.cells #[] 5)).alloc (.cells #[] 5)).drew.heap.size = w.heap.size + 2 := by simp
  have hg1 : w.heap.size ≤ g1 := by omega
  have hne : g1 ≠ g2 := by omega
  have ho2 : Own ((w.alloc (.cells #[] 5)).alloc (.cells #[] 5)).drew 5 (.slice (some ⟨g2, 0, none⟩) 0 0) (bc []) := by
    rcases hg with ⟨_, rfl⟩ | ⟨_, rfl⟩
    · exact (own_zero2 w 5).drew
    · exact ((own_zero w 5).below (below_alloc _ _)).drew
  refine ⟨h2.trans (happ.below (fr_at _ _ _ _ hg1) (by omega)), RT.own happ.own hb (happ.fr (fr_at _ _ _ _ hg1) (by omega)), ho2.grown happ.grown (fun k hk e => ?_), fun e => ?_⟩
  · simp [Value.ownBlock] at hk e
    omega
  · rcases happ.spot with h | h
    · rw [h] at e
      simp [Value.ownBlock] at e
      omega
    · have := h _ e
      omega
/-- Then the other. -/
theorem cp3 {w w6 w7 : World} {v6 v7 : Value} {l1 l2 : List Int} {g2 : Nat} (hb6 : Below w.heap.size w w6) (hR6 : RT (From w.heap.size) w6 v6 l1) (hne : v6.ownBlock ≠ some g2) (hg2 : w.heap.size ≤ g2) (happ : App w6 5 (.slice (some ⟨g2, 0, none⟩) 0 0) w7 v7 (bc ([] ++ l2))) (hb : Byt l2) :
    Below w.heap.size w w7 ∧ RT (From w.heap.size) w7 v6 l1 ∧ RT (From w.heap.size) w7 v7 l2 := by
  rw [List.nil_append] at happ
  refine ⟨hb6.trans (happ.below (fr_at _ _ _ _ hg2) hb6.size), ⟨hR6.1.grown happ.grown (fun _ k hk => ?_), hR6.2⟩, RT.own happ.own hb (happ.fr (fr_at _ _ _ _ hg2) hb6.size)⟩
  simp [Value.ownBlock] at hk
  rw [← hk]
  exact hne

set_option maxRecDepth 10000 in
set_option maxHeartbeats 2000000 in
theorem refCopy_some (w : World) (bb off cap : Nat) (ys : List PEnt) (hl : 0 < ys.length) (hc : ys.length ≤ cap) (hm : cap ≤ maxLen) (hbb : bb < w.heap.size)
    (hx : ∀ (i : Nat) (a : PEnt), ys[i]? = some a → ∃ r, r.length = 2 ∧ w.rangeAt bb (off + i * 2) r ∧ REnt Any w r a) (hz : szL 48 szE ys) :
    Calls Try.prog 15 #[.slice (some ⟨bb, off, none⟩) ys.length cap] w fun e w' => ∃ v', e = .returned v' ∧ LB REnt 43 2 w.heap.size w' v' ys ∧ Below w.heap.size w w' := by
  obtain ⟨hz1, hz2⟩ := hz
  have HX := (show Hid (∀ (i : Nat) (a : PEnt), ys[i]? = some a → ∃ r, r.length = 2 ∧ w.rangeAt bb (off + i * 2) r ∧ REnt Any w r a) from hx)
  have HZ := (show Hid (∀ y ∈ ys, szE y) from hz2)
  have hlm : (ys.length : Int) ≤ 9223372036854775807 := by unfold maxLen at hm; omega
  clear hx hz2
  go_enter Try.func15, Try.ntmps15
  go_wp2_with fail
  go_loopw [3, 9] (fun v i wr => ∃ q : Nat, q ≤ ys.length ∧ i = .int .i64 q ∧ LB REnt 43 2 w.heap.size wr v (ys.take q) ∧ Below w.heap.size w wr) (fun _ i _ => ys.length - (intOf i).toNat)
  case atStart => exact ⟨0, by omega, rfl, LB.fresh _ _ _ _ _ (Nat.le_refl _), below_alloc w _⟩
  case round =>
    obtain ⟨q, hq, rfl, hLB, hB⟩ := hrel
    by_cases hql : q < ys.length
    · obtain ⟨a, ha⟩ : ∃ a, ys[q]? = some a := ⟨_, List.getElem?_eq_getElem hql⟩
      obtain ⟨r, _, hrng, s, t, rfl, hs, ht⟩ := HX.out q a ha
      have hza := HZ.out a (List.mem_of_getElem? ha)
      have hza1 := hza.1
      have hza2 := hza.2
      have hrng := rangeAt_block hrng (hB.block bb hbb)
      have HA := (show Hid (ys.take (q + 1) = ys.take q ++ [a]) from take_snoc' ys q a ha)
      have hrow0 := Row.new wr 43 [.slice none 0 0, .slice none 0 0]
      clear ha hza
      go_wp2_with (first
        | (refine wpList_load_mid rfl _ _ rfl bb (off + q * 2) rfl [s, t] _ hrng Try.underlying43 rfl (by kernel_rfl) ?_)
        | (refine wl_store rfl _ _ _ rfl wr.heap.size [s, t] rfl rfl _ _ hrow0 rfl (by kernel_rfl) (onE2 hs.one ht.one) ?_; intro w5 hr5 hg5))
      have hb5 : Below wr.heap.size wr w5 := (below_alloc wr (.cells ([.slice none 0 0, .slice none 0 0] : List Value).toArray 43)).trans (grown_below hg5 (by simp) (fun k hk => by cases hk; exact Nat.le_refl _))
      have hr5 := hr5.out
      have hB5 := below_and hB (Nat.le_refl _) hb5
      have hs5 := (hs.mv (Mv.below hB5)).1
      have p0 := hr5.cell (j := 0) rfl
      have p1 := hr5.cell (j := 1) rfl
      have SK := (show Hid (∀ u, Below w5.heap.size w5 u → u.cell? ⟨wr.heap.size, 0, none⟩ = some s ∧ u.cell? ⟨wr.heap.size, 1, none⟩ = some t) from fun u hu => ⟨keepE hu p0, keepE hu p1⟩)
      have hLB5 := hLB.below mov_ent hb5
      have hlt5 : ∀ g, u3.ownBlock = some g → g < w5.heap.size := hLB5.lt
      have hws : w.heap.size ≤ w5.heap.size := hB5.size
      have HT := (show Hid (∀ u, Below w5.heap.size w5 u → Rd u t a.2) from fun u hu => (ht.mv (Mv.below (below_and hB5 (Nat.le_refl _) hu))).1)
      have hln1 : ([] : List Int).length + a.1.length ≤ 140737488355328 := by simp only [List.length_nil]; unfold szT at hza1; omega
      have hln2 : ([] : List Int).length + a.2.length ≤ 140737488355328 := by simp only [List.length_nil]; unfold szT at hza2; omega
      have hbt2 := (HT.out w5 (Below.refl _ _)).1
      have hne0 := World.new_ne w5 ⟨wr.heap.size, 0, none⟩ p0
      have hne1 := World.new_ne w5 ⟨wr.heap.size, 1, none⟩ p1
      have htl := take_lenE hq
      have hnv : u3.ownBlock ≠ some wr.heap.size := fun e => absurd (hLB.lt _ e) (Nat.lt_irrefl _)
      clear hrng hrow0 hg5
      go_region_held3 (fun u => u.cell? ⟨wr.heap.size, 0, none⟩ = some s ∧ u.cell? ⟨wr.heap.size, 1, none⟩ = some t)
        (first | exact SK.out _ (by assumption) | exact hS8 | go_keep)
        (first
          | (refine step_push mov_ent (by rfl) _ _ _ (by rfl) 43 2 48 _ Try.underlying22 Try.infE rfl (by decide) w.heap.size u3 (ys.take q) (by rfl) hLB7 [.slice ao6 n6 c6, .slice ao7 n7 c7] a w5.heap.size hRc rfl (one_RE hRc) hws hlt5 (by rfl) (Nat.le_trans hws hb57.size) (by rw [htl]; omega) (by decide) ?_; intro v8 w8 hLB8 hg8; have hS8 : w8.cell? ⟨wr.heap.size, 0, none⟩ = some s ∧ w8.cell? ⟨wr.heap.size, 1, none⟩ = some t := ⟨grown_cellE hg8 (keepE hb57 p0) hnv, grown_cellE hg8 (keepE hb57 p1) hnv⟩)
          | (refine step_bytes (by rfl) _ _ (by rfl) (.slice (some ⟨w5.heap.size + 1, 0, none⟩) 0 0) [] (by rfl) hzA t a.2 (by rfl) (HT.out w6 hb6).2 hln2 ?_; intro v7 w7 happ7; obtain ⟨hb57, hR7, hQ7⟩ := cp3 hb6 hR6 hne6 (Nat.le_succ _) happ7 hbt2; obtain ⟨ao7, n7, c7, rfl⟩ := own_sliceE happ7.own; have hRc : REnt (From w5.heap.size) w7 [.slice ao6 n6 c6, .slice ao7 n7 c7] a := ⟨_, _, rfl, hR7, hQ7⟩; have hLB7 := hLB5.below mov_ent hb57)
          | (refine step_bytes (by rfl) _ _ (by rfl) (.slice (some ⟨w5.heap.size, 0, none⟩) 0 0) [] (by rfl) hzB t a.2 (by rfl) (HT.out w6 hb6).2 hln2 ?_; intro v7 w7 happ7; obtain ⟨hb57, hR7, hQ7⟩ := cp3 hb6 hR6 hne6 (Nat.le_refl _) happ7 hbt2; obtain ⟨ao7, n7, c7, rfl⟩ := own_sliceE happ7.own; have hRc : REnt (From w5.heap.size) w7 [.slice ao6 n6 c6, .slice ao7 n7 c7] a := ⟨_, _, rfl, hR7, hQ7⟩; have hLB7 := hLB5.below mov_ent hb57)
          | (refine step_bytes (by rfl) _ _ (by rfl) (.slice (some ⟨w6.heap.size, 0, none⟩) 0 0) [] (by rfl) (own_zero w6 5) t a.2 (by rfl) ((HT.out w6 hb6).below (below_alloc w6 _)).2 hln2 ?_; intro v7 w7 happ7; obtain ⟨ao7, n7, c7, rfl⟩ := own_sliceE happ7.own; have hb7 : Below w6.heap.size w6 w7 := (below_alloc w6 _).trans (happ7.below (fr_at _ _ _ _ (Nat.le_refl _)) (by simp)); have hb57 := below_and hb6 (Nat.le_refl _) hb7; have hRc : REnt (From w5.heap.size) w7 [.slice ao6 n6 c6, .slice ao7 n7 c7] a := ⟨_, _, rfl, RT.mv hR6 (Mv.belowG hb7), RT.mv (RT.own (B := w6.heap.size) (by simpa using happ7.own) (HT.out w6 hb6).1 (happ7.fr (fr_at _ _ _ _ (Nat.le_refl _)) (by simp))) (Mv.weak hb6.size)⟩; have hLB7 := hLB5.below mov_ent hb57)
          | (refine step_bytes (by rfl) _ _ (by rfl) (.slice (some ⟨w5.heap.size, 0, none⟩) 0 0) [] (by rfl) (own_zero w5 5).drew s a.1 (by rfl) (hs5.below (below_alloc w5 _)).2.drew hln1 ?_; intro v6 w6 happ6; obtain ⟨ao6, n6, c6, rfl⟩ := own_sliceE happ6.own; have hb6 : Below w5.heap.size w5 w6 := ((below_alloc w5 _).drew).trans (happ6.below (fr_at _ _ _ _ (Nat.le_refl _)) (by simp)); have hR6 : RT (From w5.heap.size) w6 (.slice ao6 n6 c6) a.1 := RT.own (by simpa using happ6.own) hs5.1 (happ6.fr (fr_at _ _ _ _ (Nat.le_refl _)) (by simp)))
          | (refine step_bytes (by rfl) _ _ (by rfl) (.slice (some ⟨w5.heap.size, 0, none⟩) 0 0) [] (by rfl) ((own_zero w5 5).below (below_alloc _ _)).drew s a.1 (by rfl) ((hs5.below (below_alloc w5 _)).below (below_alloc _ _)).2.drew hln1 ?_; intro v6 w6 happ6; obtain ⟨hb6, hR6, hzA, hne6⟩ := cp2 happ6 (.inl ⟨rfl, rfl⟩) hs5.1; obtain ⟨ao6, n6, c6, rfl⟩ := own_sliceE happ6.own)
          | (refine step_bytes (by rfl) _ _ (by rfl) (.slice (some ⟨w5.heap.size + 1, 0, none⟩) 0 0) [] (by rfl) (own_zero2 w5 5).drew s a.1 (by rfl) ((hs5.below (below_alloc w5 _)).below (below_alloc _ _)).2.drew hln1 ?_; intro v6 w6 happ6; obtain ⟨hb6, hR6, hzB, hne6⟩ := cp2 happ6 (.inr ⟨rfl, rfl⟩) hs5.1; obtain ⟨ao6, n6, c6, rfl⟩ := own_sliceE happ6.own))
      all_goals (
        rw [← HA.out] at hLB8
        have hb56 := below_and hb5 (Nat.le_refl _) hb57
        have hB8 := (below_and hB (Nat.le_refl _) hb56).trans (grown_below hg8 (below_and hB (Nat.le_refl _) hb56).size (fun k hk => hLB.fr k hk))
        go_wp2_with fail
        go_roundw
        case rel => exact ⟨q + 1, by omega, by go_num, hLB8, hB8⟩
        case measure => simp [intOf]; omega)
    · obtain rfl : q = ys.length := by omega
      rw [List.take_length] at hLB
      go_wp2_with fail
      go_ret
      exact ⟨_, rfl, hLB, hB⟩
theorem refCopy_none (w : World) (ao : Option Addr) (c : Nat) : Calls Try.prog 15 #[.slice ao 0 c] w fun e w' => ∃ v', e = .returned v' ∧ LB REnt 43 2 w.heap.size w' v' [] ∧ Below w.heap.size w w' := by
  go_enter Try.func15, Try.ntmps15
  go_wp2_with fail
  refine wp_loop_rounds 1 ?_; rw [rounds_succ]
  go_wp2_with fail
  go_ret
  exact ⟨_, rfl, LB.fresh REnt 43 2 w.heap.size w (Nat.le_refl _), below_alloc w _⟩
/-- The document's Copy. -/
theorem refCopy_any (w : World) (v : Value) (ys : List PEnt) (h : RL REnt 2 Any w v ys) (hz : szL 48 szE ys) :
    Calls Try.prog 15 #[v] w fun e w' => ∃ v', e = .returned v' ∧ LB REnt 43 2 w.heap.size w' v' ys ∧ Below w.heap.size w w' := by
  by_cases hl : 0 < ys.length
  · obtain ⟨b1, o1, c1, rfl, hc1, hm1, _, hb1, hx1⟩ := h.at hl
    exact refCopy_some w b1 o1 c1 ys hl hc1 hm1 hb1 hx1 hz
  · obtain rfl : ys = [] := List.eq_nil_of_length_eq_zero (by omega)
    obtain ⟨ao, c1, rfl, _⟩ := h.form
    exact refCopy_none w ao c1
end Go.Proofs.Ytejkkhlblnepeab
