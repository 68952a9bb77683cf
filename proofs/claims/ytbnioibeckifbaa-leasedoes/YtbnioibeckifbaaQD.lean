/- The document's Do of leases: its walk. -/
import Derived.Test.YtbnioibeckifbaaQE
import Derived.Test.YtbnioibeckifbaaZq
section
set_option linter.unusedVariables false
set_option linter.unusedSimpArgs false
namespace Go.Proofs.Ytbnioibeckifbaa
open Go.RowKit Oct Kvl

/-- The loop of the document's With: whether it is put already, and the rest. -/
def wiS (n v : List Int) : Bool → List PEnt → List PEnt
  | put, [] => if put then [] else [(n, v)]
  | put, x :: r => (if put = false ∧ ¬ cmpL x.1 n < 0 then [(n, v)] else []) ++ ((if x.1 = n then [] else [x]) ++ wiS n v (put || !decide (cmpL x.1 n < 0)) r)
theorem wiS_done {n v : List Int} : ∀ {l : List PEnt}, (∀ e ∈ l, e.1 ≠ n) → wiS n v true l = l
  | [], _ => rfl
  | x :: r, h => by
    unfold wiS
    rw [if_neg (by simp), if_neg (h x (by simp)), Bool.true_or, wiS_done (fun e he => h e (by simp [he]))]; rfl
theorem wiS_put {n v : List Int} : ∀ {l : List PEnt} {m : List Int}, up m l → wiS n v false l = putR n v l
  | [], _, _ => rfl
  | x :: r, m, h => by
    unfold wiS putR
    by_cases h1 : cmpL x.1 n < 0
    · rw [if_neg (fun hh => hh.2 h1), if_neg (cmp_lt_ne h1), if_pos h1, decide_eq_true h1]
      show [] ++ ([x] ++ wiS n v (false || !true) r) = _
      rw [show (false || !true) = false from rfl, wiS_put h.2]; rfl
    · rw [if_pos ⟨rfl, h1⟩, if_neg h1, decide_eq_false h1, show (false || !false) = true from rfl]
      by_cases h2 : x.1 = n
      · rw [if_pos h2, if_pos h2, wiS_done]
        · rfl
        · exact fun e he => fun e1 => cmp_lt_ne (up_low h.2 e he) (by rw [e1, h2])
      · rw [if_neg h2, if_neg h2, wiS_done]
        · rfl
        · exact fun e he => fun e1 => cmp_lt_ne (cmp_trans (cmp_gt h1 h2) (up_low h.2 e he)) e1.symm
/-- Leases whose texts lie in memory that was there in w0. -/
def RSl (w0 : World) (G : Nat → Prop) (w : World) (r : List Value) (x : PEnt) : Prop := ∀ u, Below w0.heap.size w0 u → RLea Any u r x
theorem mov_rsl (w0 : World) : Mov (RSl w0) := fun _ _ _ _ _ _ h _ _ => h
theorem RSl.of {w0 : World} {r : List Value} {x : PEnt} (h : RLea Any w0 r x) (G : Nat → Prop) (w : World) : RSl w0 G w r x := fun u hu => mov_lea _ _ _ _ _ _ h hu.size (Mv.below hu)
theorem LB.rsl {w0 w : World} {B : Nat} {v : Value} {zs : List PEnt} (h : LB (RSl w0) 50 3 B w v zs) (hb : Below w0.heap.size w0 w) : RL RLea 3 Any w v zs := by
  obtain ⟨rows, h1, h2⟩ := (h.rl (mov_rsl w0)).mv (mov_rsl w0) (Nat.le_refl _) (Mv.any (w := w))
  exact ⟨rows, h1, h2.mono fun r a h => h w hb⟩

set_option maxRecDepth 10000 in
set_option maxHeartbeats 8000000 in
theorem refWithS_some (w00 w : World) (h00 : Below w00.heap.size w00 w) (bb off cap : Nat) (ys : List PEnt) (hl : 0 < ys.length) (h64 : ys.length ≤ 64) (hc : ys.length ≤ cap) (hm : cap ≤ maxLen) (hbb : bb < w.heap.size)
    (hx : ∀ (i : Nat) (a : PEnt), ys[i]? = some a → ∃ r, r.length = 3 ∧ w.rangeAt bb (off + i * 3) r ∧ RLea Any w00 r a) (nv : Value) (n : List Int) (np nq' : Int) (hn : RT Any w00 nv n) :
    Calls Try.prog 50 #[.slice (some ⟨bb, off, none⟩) ys.length cap, .agg #[nv, .int .i64 np, .int .i64 nq']] w fun e w' => ∃ v', e = .returned v' ∧ LB (RSl w00) 50 3 w.heap.size w' v' (wiS n [np, nq'] false ys) ∧ Below w.heap.size w w' := by
  have HX := (show Hid (∀ (i : Nat) (a : PEnt), ys[i]? = some a → ∃ r, r.length = 3 ∧ w.rangeAt bb (off + i * 3) r ∧ RLea Any w00 r a) from hx)
  have hlm : (ys.length : Int) ≤ 9223372036854775807 := by omega
  obtain ⟨an, cn, rfl, hcn⟩ := hn.form
  have HNV := (show Hid (RLea Any w00 [.slice an n.length cn, .int .i64 np, .int .i64 nq'] (n, [np, nq'])) from ⟨_, _, _, rfl, hn, rfl⟩)
  have HS := (show Hid (∀ (u : World) (s : Value) (l : List Int), Below w00.heap.size w00 u → RT Any w00 s l → Calls Try.prog 35 #[s, .slice an n.length cn] u fun e w' => e = .returned (.bool (decide (l = n))) ∧ w' = u) from fun u s l hu hs => same_any u _ _ _ _ (hs.mv (Mv.below hu)).1 (hn.mv (Mv.below hu)).1)
  have HLe := (show Hid (∀ (u : World) (s : Value) (l : List Int), Below w00.heap.size w00 u → RT Any w00 s l → Calls Try.prog 37 #[s, .slice an n.length cn] u fun e w' => e = .returned (.bool (decide (cmpL l n < 0))) ∧ w' = u) from fun u s l hu hs => less_any u _ _ _ _ (hs.mv (Mv.below hu)).1 (hn.mv (Mv.below hu)).1)
  clear hx hn
  obtain ⟨w0, hw0⟩ : ∃ w0, w0 = w.alloc (.cells #[.slice an n.length cn, .int .i64 np, .int .i64 nq'] 50) := ⟨_, rfl⟩
  have x0 : Row w0 w.heap.size 50 [.slice an n.length cn, .int .i64 np, .int .i64 nq'] := by rw [hw0]; exact Row.new w _ _
  have B0 : Below w.heap.size w w0 := by rw [hw0]; exact below_alloc _ _
  obtain ⟨Ln, hLn⟩ : ∃ L, n.length = L := ⟨_, rfl⟩
  obtain ⟨N, hN⟩ : ∃ N, ys.length = N := ⟨_, rfl⟩
  rw [hLn] at HS HLe HNV x0 hw0 ⊢
  rw [hN] at hl h64 hc hlm ⊢
  have HN := (show Hid (ys.length = N) from hN)
  clear hLn hN
  go_enter Try.func50, Try.ntmps50
  go_upto_region 1 with fail
  rw [← hw0]
  clear hw0
  have hxl := x0.lt
  go_wp2_with fail
  go_loopw [5, 6, 12] (fun o p i wr => ∃ (q : Nat) (put : Bool) (zs : List PEnt), q ≤ N ∧ i = .int .i64 q ∧ p = .bool put ∧ zs.length ≤ 2 * q ∧ LB (RSl w00) 50 3 w0.heap.size wr o zs ∧ Below w0.heap.size w0 wr ∧ Hid (wiS n [np, nq'] false ys = zs ++ wiS n [np, nq'] put (ys.drop q))) (fun _ _ i _ => N - (intOf i).toNat)
  case atStart => exact ⟨0, false, [], by omega, rfl, rfl, by simp, LB.fresh _ _ _ _ _ (Nat.le_refl _), below_alloc w0 _, rfl⟩
  case round =>
    obtain ⟨q, put, zs, hq, rfl, rfl, hzl, hLB, hB0, hI⟩ := hrel
    have hB := below_and B0 (Nat.le_refl _) hB0
    have xr := x0.below hB0
    by_cases hql : q < N
    · obtain ⟨x, hx⟩ : ∃ x, ys[q]? = some x := ⟨_, List.getElem?_eq_getElem (by have := HN.out; omega)⟩
      obtain ⟨r, _, hrng, s1, p1, q1, rfl, t1, t2⟩ := HX.out q x hx
      have hrng := rangeAt_block hrng (hB.block bb hbb)
      obtain ⟨a1, c1, rfl, hc1⟩ := t1.form
      have hrow0 := Row.new wr 50 [.slice none 0 0, .int .i64 0, .int .i64 0]
      have HD := (show Hid (ys.drop q = x :: ys.drop (q + 1)) from drop_cons hx)
      have HXE := (show Hid (RLea Any w00 [.slice a1 x.1.length c1, .int .i64 p1, .int .i64 q1] x) from ⟨_, _, _, rfl, t1, t2⟩)
      have HT1 := (show Hid (RT Any w00 (.slice a1 x.1.length c1) x.1) from t1)
      have hone := onL3 (p := p1) (q := q1) t1.one
      clear t1 t2 hx
      obtain ⟨L1, hL1⟩ : ∃ L, x.1.length = L := ⟨_, rfl⟩
      rw [hL1] at hrng hone HXE HT1
      clear hL1
      go_upto_region 6 with (first
        | (refine wpList_load_mid rfl _ _ rfl bb (off + q * 3) rfl [.slice a1 L1 c1, .int .i64 p1, .int .i64 q1] _ hrng Try.underlying50 rfl (by kernel_rfl) ?_)
        | (refine wl_store rfl _ _ _ rfl wr.heap.size [.slice a1 L1 c1, .int .i64 p1, .int .i64 q1] rfl rfl _ _ hrow0 rfl (by kernel_rfl) hone ?_; intro w5 hr5 hg5))
      have hb5 : Below wr.heap.size wr w5 := (below_alloc wr (.cells ([.slice none 0 0, .int .i64 0, .int .i64 0] : List Value).toArray 50)).trans (grown_below hg5 (by simp) (fun k hk => by cases hk; exact Nat.le_refl _))
      have B5 : Below w0.heap.size w0 w5 := below_and hB0 (Nat.le_refl _) hb5
      have W5 := below_and h00 (Nat.le_refl _) (below_and B0 (Nat.le_refl _) B5)
      have hr5 := hr5.out
      have x5 := x0.below B5
      have hLB5 := hLB.below (mov_rsl w00) hb5
      have hlt5 : ∀ g, u5.ownBlock = some g → g < wr.heap.size := hLB.lt
      have hge5 : ∀ g, u5.ownBlock = some g → w0.heap.size ≤ g := hLB.fr
      have hs5 : wr.heap.size < w5.heap.size := hr5.lt
      have HS5 := fun u (hu : Below w00.heap.size w00 u) => HS.out u _ x.1 hu HT1.out
      have HL5 := HLe.out w5 _ x.1 W5 HT1.out
      clear hg5 hrow0 hrng hone hb5 hLB
      have e0 := hr5.cell (j := 0) rfl
      have f0 := x5.cell (j := 0) rfl
      cases put with
      | false =>
        by_cases hlt : cmpL x.1 n < 0
        · rw [decide_eq_true hlt] at HL5
          have HS6 := HS5 w5 W5
          rw [decide_eq_false (cmp_lt_ne hlt)] at HS6
          go_wp2_with (first
            | (go_at_call 37; refine HL5.mono ?_; rintro e w5 ⟨rfl, rfl⟩)
            | (go_at_call 35; refine HS6.mono ?_; rintro e w5 ⟨rfl, rfl⟩)
            | (refine wl_load rfl _ _ rfl wr.heap.size rfl _ _ hr5 _ Try.underlying50 rfl (by kernel_rfl) ?_)
            | (at_builtin; refine wl_push (mov_rsl w00) rfl _ _ _ rfl 50 3 40 _ Try.underlying42 Try.infL rfl (by decide) w0.heap.size u5 zs rfl hLB5 [.slice a1 L1 c1, .int .i64 p1, .int .i64 q1] x w5.heap.size (RSl.of HXE.out _ _) rfl (one_RS HXE.out) B5.size (fun g hg => Nat.lt_trans (hlt5 g hg) hs5) rfl B5.size (by omega) (by decide) ?_; intro v8 w8 hLB8 hg8))
          have B8 : Below w0.heap.size w0 w8 := B5.trans (grown_below hg8 B5.size (fun k hk => hge5 k hk))
          go_roundw
          case rel => exact ⟨q + 1, false, zs ++ [x], by omega, by go_num, rfl, by simp only [List.length_append, List.length_cons, List.length_nil]; omega, hLB8, B8, by
            show _ = _
            rw [hI.out, HD.out, wiS, if_neg (fun hh => hh.2 hlt), if_neg (cmp_lt_ne hlt), decide_eq_true hlt]
            simp⟩
          case measure => simp [intOf]; omega
        rw [decide_eq_false hlt] at HL5
        have HLT := (show Hid (¬ cmpL x.1 n < 0) from hlt)
        clear hlt
        go_upto_region 9 with (first
          | (go_at_call 37; refine HL5.mono ?_; rintro e w5 ⟨rfl, rfl⟩)
          | (refine wl_load rfl _ _ rfl w.heap.size rfl _ _ x5 _ Try.underlying50 rfl (by kernel_rfl) ?_)
          | (at_builtin; refine wl_push (mov_rsl w00) rfl _ _ _ rfl 50 3 40 _ Try.underlying42 Try.infL rfl (by decide) w0.heap.size u5 zs rfl hLB5 [.slice an Ln cn, .int .i64 np, .int .i64 nq'] (n, [np, nq']) w5.heap.size (RSl.of HNV.out _ _) rfl (one_RS HNV.out) B5.size (fun g hg => Nat.lt_trans (hlt5 g hg) hs5) rfl B5.size (by omega) (by decide) ?_; intro v6 w6 hLB6 hg6))
        have B6 : Below w0.heap.size w0 w6 := B5.trans (grown_below hg6 B5.size (fun k hk => hge5 k hk))
        have W6 := below_and h00 (Nat.le_refl _) (below_and B0 (Nat.le_refl _) B6)
        have hr6 := hr5.grown hg6 (fun e => by have := hlt5 _ e; omega)
        have x6 := x0.below B6
        have e6 := hr6.cell (j := 0) rfl
        have f6 := x6.cell (j := 0) rfl
        have hge6 : ∀ g, v6.ownBlock = some g → w0.heap.size ≤ g := hLB6.fr
        have HS6 := HS5 w6 W6
        clear e0 f0
        by_cases heq : x.1 = n
        · rw [decide_eq_true heq] at HS6
          go_wp2_with (go_at_call 35; refine HS6.mono ?_; rintro e w6 ⟨rfl, rfl⟩)
          go_roundw
          case rel => exact ⟨q + 1, true, zs ++ [(n, [np, nq'])], by omega, by go_num, rfl, by simp only [List.length_append, List.length_cons, List.length_nil]; omega, hLB6, B6, by
            show _ = _
            rw [hI.out, HD.out, wiS, if_pos ⟨rfl, by have := HLT.out; omega⟩, if_pos heq, decide_eq_false (p := cmpL x.1 n < 0) (by have := HLT.out; omega)]
            simp⟩
          case measure => simp [intOf]; omega
        · rw [decide_eq_false heq] at HS6
          go_wp2_with (first
            | (go_at_call 35; refine HS6.mono ?_; rintro e w6 ⟨rfl, rfl⟩)
            | (refine wl_load rfl _ _ rfl wr.heap.size rfl _ _ hr6 _ Try.underlying50 rfl (by kernel_rfl) ?_)
            | (at_builtin; refine wl_push (mov_rsl w00) rfl _ _ _ rfl 50 3 40 _ Try.underlying42 Try.infL rfl (by decide) w0.heap.size v6 (zs ++ [(n, [np, nq'])]) rfl hLB6 [.slice a1 L1 c1, .int .i64 p1, .int .i64 q1] x w6.heap.size (RSl.of HXE.out _ _) rfl (one_RS HXE.out) B6.size hLB6.lt rfl B6.size (by rw [List.length_append]; simp only [List.length_cons, List.length_nil]; omega) (by decide) ?_; intro v8 w8 hLB8 hg8))
          have B8 : Below w0.heap.size w0 w8 := B6.trans (grown_below hg8 B6.size (fun k hk => hge6 k hk))
          go_roundw
          case rel => exact ⟨q + 1, true, (zs ++ [(n, [np, nq'])]) ++ [x], by omega, by go_num, rfl, by simp only [List.length_append, List.length_cons, List.length_nil]; omega, hLB8, B8, by
            show _ = _
            rw [hI.out, HD.out, wiS, if_pos ⟨rfl, by have := HLT.out; omega⟩, if_neg heq, decide_eq_false (p := cmpL x.1 n < 0) (by have := HLT.out; omega)]
            simp⟩
          case measure => simp [intOf]; omega
      | true =>
        have HS6 := HS5 w5 W5
        by_cases heq : x.1 = n
        · rw [decide_eq_true heq] at HS6
          go_wp2_with (go_at_call 35; refine HS6.mono ?_; rintro e w5 ⟨rfl, rfl⟩)
          go_roundw
          case rel => exact ⟨q + 1, true, zs, by omega, by go_num, rfl, by omega, hLB5, B5, by
            show _ = _
            rw [hI.out, HD.out, wiS, if_neg (by simp), if_pos heq, Bool.true_or]
            simp⟩
          case measure => simp [intOf]; omega
        · rw [decide_eq_false heq] at HS6
          go_wp2_with (first
            | (go_at_call 35; refine HS6.mono ?_; rintro e w5 ⟨rfl, rfl⟩)
            | (refine wl_load rfl _ _ rfl wr.heap.size rfl _ _ hr5 _ Try.underlying50 rfl (by kernel_rfl) ?_)
            | (at_builtin; refine wl_push (mov_rsl w00) rfl _ _ _ rfl 50 3 40 _ Try.underlying42 Try.infL rfl (by decide) w0.heap.size u5 zs rfl hLB5 [.slice a1 L1 c1, .int .i64 p1, .int .i64 q1] x w5.heap.size (RSl.of HXE.out _ _) rfl (one_RS HXE.out) B5.size (fun g hg => Nat.lt_trans (hlt5 g hg) hs5) rfl B5.size (by omega) (by decide) ?_; intro v8 w8 hLB8 hg8))
          have B8 : Below w0.heap.size w0 w8 := B5.trans (grown_below hg8 B5.size (fun k hk => hge5 k hk))
          go_roundw
          case rel => exact ⟨q + 1, true, zs ++ [x], by omega, by go_num, rfl, by simp only [List.length_append, List.length_cons, List.length_nil]; omega, hLB8, B8, by
            show _ = _
            rw [hI.out, HD.out, wiS, if_neg (by simp), if_neg heq, Bool.true_or]
            simp⟩
          case measure => simp [intOf]; omega
    · have he : ys.drop q = [] := List.drop_of_length_le (by have := HN.out; omega)
      have hqd : decide ((q : Int) < N) = false := by simp; omega
      have hge : ∀ g, u5.ownBlock = some g → w0.heap.size ≤ g := hLB.fr
      cases put with
      | true =>
        go_wp2_with fail
        go_ret
        refine ⟨_, rfl, ?_, hB⟩
        rw [hI.out, he, wiS, if_pos rfl, List.append_nil]
        exact hLB.weak (mov_rsl w00) B0.size
      | false =>
        go_wp2_with (first
          | (refine wl_load rfl _ _ rfl w.heap.size rfl _ _ xr _ Try.underlying50 rfl (by kernel_rfl) ?_)
          | (at_builtin; refine wl_push (mov_rsl w00) rfl _ _ _ rfl 50 3 40 _ Try.underlying42 Try.infL rfl (by decide) w0.heap.size u5 zs rfl hLB [.slice an Ln cn, .int .i64 np, .int .i64 nq'] (n, [np, nq']) wr.heap.size (RSl.of HNV.out _ _) rfl (one_RS HNV.out) hB0.size hLB.lt rfl hB0.size (by omega) (by decide) ?_; intro v8 w8 hLB8 hg8))
        have B8 : Below w0.heap.size w0 w8 := hB0.trans (grown_below hg8 hB0.size (fun k hk => hge k hk))
        go_ret
        refine ⟨_, rfl, ?_, below_and B0 (Nat.le_refl _) B8⟩
        rw [hI.out, he, wiS, if_neg (by simp)]
        exact hLB8.weak (mov_rsl w00) B0.size

set_option maxRecDepth 10000 in
set_option maxHeartbeats 2000000 in
theorem refWithS_none (w00 w : World) (h00 : Below w00.heap.size w00 w) (ao : Option Addr) (c : Nat) (nv : Value) (n : List Int) (np nq' : Int) (hn : RT Any w00 nv n) :
    Calls Try.prog 50 #[.slice ao 0 c, .agg #[nv, .int .i64 np, .int .i64 nq']] w fun e w' => ∃ v', e = .returned v' ∧ LB (RSl w00) 50 3 w.heap.size w' v' (wiS n [np, nq'] false []) ∧ Below w.heap.size w w' := by
  obtain ⟨an, cn, rfl, hcn⟩ := hn.form
  have HNV := (show Hid (RLea Any w00 [.slice an n.length cn, .int .i64 np, .int .i64 nq'] (n, [np, nq'])) from ⟨_, _, _, rfl, hn, rfl⟩)
  obtain ⟨w0, hw0⟩ : ∃ w0, w0 = w.alloc (.cells #[.slice an n.length cn, .int .i64 np, .int .i64 nq'] 50) := ⟨_, rfl⟩
  have x0 : Row w0 w.heap.size 50 [.slice an n.length cn, .int .i64 np, .int .i64 nq'] := by rw [hw0]; exact Row.new w _ _
  have B0 : Below w.heap.size w w0 := by rw [hw0]; exact below_alloc _ _
  clear hn
  generalize n.length = Ln at *
  go_enter Try.func50, Try.ntmps50
  go_upto_region 1 with fail
  rw [← hw0]
  clear hw0
  have hB := below_alloc w0 (.cells #[] 50)
  have hLB : LB (RSl w00) 50 3 w0.heap.size (w0.alloc (.cells #[] 50)) (.slice (some ⟨w0.heap.size, 0, none⟩) 0 0) [] := LB.fresh _ _ _ _ _ (Nat.le_refl _)
  have x1 := x0.below hB
  go_wp2_with fail
  obtain ⟨w1, hw1⟩ : ∃ w1, w1 = w0.alloc (.cells #[] 50) := ⟨_, rfl⟩
  rw [← hw1] at hB hLB x1 ⊢
  clear hw1
  refine wp_loop_rounds 1 ?_; rw [rounds_succ]
  go_wp2_with (first
    | (refine wl_load rfl _ _ rfl w.heap.size rfl _ _ x1 _ Try.underlying50 rfl (by kernel_rfl) ?_)
    | (at_builtin; refine wl_push (mov_rsl w00) rfl _ _ _ rfl 50 3 40 _ Try.underlying42 Try.infL rfl (by decide) w0.heap.size (.slice (some ⟨w0.heap.size, 0, none⟩) 0 0) [] rfl hLB [.slice an Ln cn, .int .i64 np, .int .i64 nq'] (n, [np, nq']) w1.heap.size (RSl.of HNV.out _ _) rfl (one_RS HNV.out) hB.size hLB.lt rfl hB.size (by decide) (by decide) ?_; intro v8 w8 hLB8 hg8))
  have B8 : Below w0.heap.size w0 w8 := hB.trans (grown_below hg8 hB.size (fun k hk => hLB.fr k hk))
  go_ret
  refine ⟨_, rfl, ?_, below_and B0 (Nat.le_refl _) B8⟩
  rw [wiS, if_neg (by simp)]
  exact hLB8.weak (mov_rsl w00) B0.size
/-- The document's With. -/
theorem refWithS_any (w00 w : World) (h00 : Below w00.heap.size w00 w) (B : Nat) (ev : Value) (ys : List PEnt) (h : LB (RSl w00) 50 3 B w ev ys) (h64 : ys.length ≤ 64) (nv : Value) (n : List Int) (np nq' : Int) (hn : RT Any w00 nv n) :
    Calls Try.prog 50 #[ev, .agg #[nv, .int .i64 np, .int .i64 nq']] w fun e w' => ∃ v', e = .returned v' ∧ LB (RSl w00) 50 3 w.heap.size w' v' (wiS n [np, nq'] false ys) ∧ Below w.heap.size w w' := by
  have h1 := h.rl (mov_rsl w00)
  by_cases hl : 0 < ys.length
  · obtain ⟨b1, o1, c1, rfl, hc1, hm1, _, hb1, hx1⟩ := h1.at hl
    exact refWithS_some w00 w h00 b1 o1 c1 ys hl h64 hc1 hm1 hb1 (fun i a ha => by obtain ⟨r, e1, e2, e3⟩ := hx1 i a ha; exact ⟨r, e1, e2, e3 w00 (Below.refl _ _)⟩) nv n np nq' hn
  · obtain rfl : ys = [] := List.eq_nil_of_length_eq_zero (by omega)
    obtain ⟨ao, c, rfl, _⟩ := h1.form
    exact refWithS_none w00 w h00 ao c nv n np nq' hn
end Go.Proofs.Ytbnioibeckifbaa
end

section
set_option linter.unusedVariables false
set_option linter.unusedSimpArgs false
namespace Go.Proofs.Ytbnioibeckifbaa
open Go.RowKit Oct Kvl

section
variable {P : Program}
/-- One more record, and where the row then lies. -/
theorem wl_push2 {α : Type} {R : (Nat → Prop) → World → List Value → α → Prop} (hR : Mov R) {w : World} {ops : Array Oper} {rest : List Oper} {o : Oper} {a : Act} {Q : Exit → Act → World → Prop} (hgd : o.guard = none) (s x : Operand) (t : TypeId)
    (ho : o.op = .call { callee := .builtin .append, args := #[s, x], argTypes := #[t, t] }) (e : TypeId) (k bytes : Nat) (z : Value) (ht : P.underlying t = some (.slice e)) (hi : (P.info? e).map (fun i => (i.zero, i.size, i.bytes)) = some (some z, k, bytes))
    (hzs : z.cells.size = k) (hk : 0 < k) (B : Nat) (v : Value) (ys : List α) (hs : a.eval s = v) (hL : LB R e k B w v ys) (r : List Value) (y : α) (C : Nat) (hr : R (From C) w r y) (hrl : r.length = k) (h1 : ∀ u ∈ r, u.oneCell' = true)
    (hC : B ≤ C) (hCv : ∀ g, v.ownBlock = some g → g < C) (hx : a.eval x = .slice (some ⟨w.heap.size, 0, none⟩) 1 1) (hB : B ≤ w.heap.size)
    (hb : (ys.length + 1) * bytes ≤ 140737488355328) (hb0 : 1 ≤ bytes)
    (h : ∀ v' w', LB R e k B w' v' (ys ++ [y]) → w.grownBy w' v.ownBlock → (v'.ownBlock = v.ownBlock ∨ ∀ g, v'.ownBlock = some g → w.heap.size ≤ g) → wpList P ops Q rest (a.put o.dst v') w') : wpList P ops Q (o :: rest) a (w.alloc (.cells r.toArray e)) := by
  obtain ⟨i0, hi, hz0, hz1, hz2⟩ := info_parts hi
  obtain ⟨rows, h0, hown, hfr, hall⟩ := hL
  have hlen := hall.len
  have hbel := below_alloc w (.cells r.toArray e)
  have hown1 : (w.alloc (.cells r.toArray e)).ownsRow 0 e k v rows.length rows.flatten := World.ownsRow.kept (row := none) hown ⟨hbel.os, hbel.tape, hbel.output, hbel.size, fun k hk _ => hbel.block k hk⟩ (by cases hv : v.ownBlock <;> simp)
  have hmul : ys.length + 1 ≤ (ys.length + 1) * bytes := Nat.le_mul_of_pos_right _ hb0
  refine wpList_append_lies (w.alloc (.cells r.toArray e)) hgd s x t ho 0 e i0 z k bytes ht hi hz0 hz1 hz2 hzs hk v rows.length rows.flatten hs hown1 ⟨w.heap.size, 0, none⟩ 1 1 r hx (by omega)
    (fun j u hj => by
      rw [Addr.add_mid, Nat.zero_add]
      exact (Row.new w e r).cell hj) h1 (by omega) (by rw [hlen]; unfold maxLen; omega) (by rw [hlen]; exact hb) (Nat.zero_le _) (w.heap.size + 1) (by simp) ?_
  intro g cap w' hown' hgr hat hlt
  have hg0 : w.grownBy w' v.ownBlock := grown_trans (grown_of_below hbel _) hgr (.inl rfl)
  have hgB : B ≤ g := by
    rcases hat with hat | hat
    · exact hfr g hat
    · omega
  have hflat : rows.flatten ++ r = (rows ++ [r]).flatten := by simp
  refine h _ w' ⟨rows ++ [r], ?_, ?_, ?_, ?_⟩ hg0 (hat.imp (fun e => e.symm) (fun e q hq => by simp [Value.ownBlock] at hq; omega))
  · intro q hq
    rcases List.mem_append.1 hq with hq | hq
    · exact h0 q hq
    · simp at hq; subst hq; exact hrl
  · rw [List.length_append, ← hflat]
    exact hown'
  · exact fun j hj => by simp [Value.ownBlock] at hj; omega
  · have hold : All2 (R (fun b => B ≤ b ∧ (Value.slice (some ⟨g, 0, none⟩) (rows.length + 1) cap).ownBlock ≠ some b) w') rows ys := hall.mono fun q b hq => hR _ _ w w' q b hq hg0.size fun j hj hjl => by
      refine ⟨hg0.block j hjl (fun e => hj.2 e.symm), hj.1, fun e => ?_⟩
      simp [Value.ownBlock] at e
      rcases hat with hat | hat
      · exact hj.2 (by rw [hat, e])
      · omega
    have hnew : R (fun b => B ≤ b ∧ (Value.slice (some ⟨g, 0, none⟩) (rows.length + 1) cap).ownBlock ≠ some b) w' r y := hR _ _ w w' r y hr hg0.size fun j hj hjl => by
      unfold From at hj
      refine ⟨hg0.block j hjl (fun e => by have := hCv j e.symm; omega), by omega, fun e => ?_⟩
      simp [Value.ownBlock] at e
      rcases hat with hat | hat
      · have := hCv g hat; omega
      · omega
    exact All2.app hold ⟨hnew, trivial⟩

end
theorem LB.keptS {w0 w w' : World} {v : Value} {zs : List PEnt} {B : Nat} {row : Option Nat} (h : LB (RSl w0) 50 3 B w v zs) (hg : w.grownBy w' row) (hn : ∀ g, row = some g → v.ownBlock ≠ some g) : LB (RSl w0) 50 3 B w' v zs := by
  obtain ⟨rows, h0, h1, h2, h3⟩ := h
  refine ⟨rows, h0, World.ownsRow.kept h1 hg ?_, h2, h3⟩
  cases hv : v.ownBlock with
  | none => exact .inl rfl
  | some k => exact .inr fun e => hn k e.symm hv
def RqS (w : World) (x : List PEnt × Int × List Int) (e : Ending) (w' : World) : Prop :=
  ∃ v' vv, e = .returned (.tuple #[v', .agg #[.int .i64 x.2.1, vv]]) ∧ RL RLea 3 Any w' v' x.1 ∧ Rd w' vv x.2.2 ∧ Below w.heap.size w w'
/-- The leases of other names. -/
def oth (n : List Int) (l : List PEnt) : List PEnt := l.filter fun x => !decide (x.1 = n)
theorem oth_all {n : List Int} {l : List PEnt} (h : ∀ e ∈ l, e.1 ≠ n) : oth n l = l := by
  unfold oth
  rw [List.filter_eq_self]
  intro e he
  simp [h e he]
theorem oth_del {n : List Int} : ∀ {l : List PEnt} {m : List Int}, up m l → oth n l = delR n l
  | [], _, _ => rfl
  | x :: r, m, h => by
    have ih := oth_del (n := n) h.2
    unfold oth at ih ⊢
    unfold delR
    rw [List.filter_cons]
    by_cases h1 : cmpL x.1 n < 0
    · rw [if_pos h1, decide_eq_false (cmp_lt_ne h1), ih]; rfl
    · rw [if_neg h1]
      by_cases h2 : x.1 = n
      · rw [if_pos h2, decide_eq_true h2]
        exact oth_all fun e he => fun e1 => cmp_lt_ne (up_low h.2 e he) (by rw [e1, h2])
      · rw [if_neg h2, decide_eq_false h2]
        show x :: oth n r = x :: r
        rw [oth_all fun e he => fun e1 => cmp_lt_ne (cmp_trans (cmp_gt h1 h2) (up_low h.2 e he)) e1.symm]
theorem liv_snoc {now : Int} {ys : List PEnt} {q : Nat} {x : PEnt} (h : ys[q]? = some x) : liv now (ys.take (q + 1)) = liv now (ys.take q) ++ (if now < lu x.2 then [x] else []) := by
  unfold liv
  rw [List.take_add_one, h, Option.toList_some, List.filter_append, List.filter_cons]
  by_cases h1 : now < lu x.2
  · rw [decide_eq_true h1, if_pos h1]; rfl
  · rw [decide_eq_false h1, if_neg h1]; rfl
theorem oth_snoc {n : List Int} {l : List PEnt} {x : PEnt} : oth n (l ++ [x]) = oth n l ++ (if x.1 = n then [] else [x]) := by
  unfold oth
  rw [List.filter_append, List.filter_cons]
  by_cases h1 : x.1 = n
  · rw [decide_eq_true h1, if_pos h1]; rfl
  · rw [decide_eq_false h1, if_neg h1]; rfl
end Go.Proofs.Ytbnioibeckifbaa
end

section
set_option linter.unusedVariables false
set_option linter.unusedSimpArgs false
namespace Go.Proofs.Ytbnioibeckifbaa
open Go.RowKit Oct Kvl

def addS (ys : List PEnt) (p : Nat) (x : PEnt) : List PEnt × Int × List Int := if 16 ≤ ys.length then (ys, 3, []) else (insL p x ys, 0, [])
theorem doT_new {l : List PEnt} {o : POp} {who now : Int} (h : getR o.2.1 l = none) (hk : o.1 = 5) : addS l (pos o.2.1 l) (o.2.1, [who, now + o.2.2.2.2]) = doT l o who now := by
  unfold addS doT insL
  rw [h]
  simp only
  rw [if_pos hk, put_new h]
theorem doT_miss {l : List PEnt} {o : POp} {who now : Int} (h : getR o.2.1 l = none) (hk : o.1 ≠ 5) : (l, 1, []) = doT l o who now := by
  unfold doT
  rw [h]
  simp only
  rw [if_neg hk]
theorem doT_hold {l : List PEnt} {o : POp} {who now : Int} {v : List Int} (h : getR o.2.1 l = some v) (hk : o.1 = 8) : (l, 0, tol v now) = doT l o who now := by
  unfold doT
  rw [h]
  simp only
  rw [if_pos hk]
theorem doT_held {l : List PEnt} {o : POp} {who now : Int} {v : List Int} (h : getR o.2.1 l = some v) (hk : o.1 ≠ 8) (hw : lo v ≠ who) : (l, 4, tol v now) = doT l o who now := by
  unfold doT
  rw [h]
  simp only
  rw [if_neg hk, if_pos hw]
theorem doT_del {l : List PEnt} {o : POp} {who now : Int} {v : List Int} (h : getR o.2.1 l = some v) (hk : o.1 ≠ 8) (hw : lo v = who) (h7 : o.1 = 7) : (l.take (pos o.2.1 l) ++ l.drop (pos o.2.1 l + 1), 0, []) = doT l o who now := by
  unfold doT
  rw [h]
  simp only
  rw [if_neg hk, if_neg (fun e => e hw), if_pos h7, del_old h]
theorem doT_set {l : List PEnt} {o : POp} {who now : Int} {v : List Int} (h : getR o.2.1 l = some v) (hk : o.1 ≠ 8) (hw : lo v = who) (h7 : o.1 ≠ 7) : (l.set (pos o.2.1 l) (o.2.1, [who, now + o.2.2.2.2]), 0, []) = doT l o who now := by
  unfold doT
  rw [h]
  simp only
  rw [if_neg hk, if_neg (fun e => e hw), if_neg h7, put_old h]

/-- A store elsewhere, in a block of another kind. -/
theorem LB.grownL {B : Nat} {w w' : World} {v : Value} {ys : List PEnt} {b : Nat} {t : TypeId} {xs : List Value} (h : LB OLea 50 3 B w v ys) (hr : Row w b t xs) (h1 : t ≠ 5) (h2 : t ≠ 50) (hg : w.grownBy w' (some b)) : LB OLea 50 3 B w' v ys := by
  obtain ⟨rows, r0, hown, hfr, hall⟩ := h
  have hne : v.ownBlock ≠ some b := fun e => by
    rcases hown.2 with ⟨rfl, _⟩ | ⟨g, cap, cur, rfl, _, hgg, _⟩
    · simp [Value.ownBlock] at e
    · simp [Value.ownBlock] at e
      subst e
      unfold Row at hr
      rw [hr] at hgg
      simp at hgg
      exact h2 hgg.2
  refine ⟨rows, r0, World.ownsRow.kept hown hg ?_, hfr, hall.mono fun q x hq => ?_⟩
  · cases hv : v.ownBlock with
    | none => exact .inl rfl
    | some k => exact .inr fun e => hne (hv.trans e)
  · obtain ⟨p, q, q', rfl, o1, o2⟩ := hq
    have mv : Mv (fun k => (B ≤ k ∧ v.ownBlock ≠ some k) ∧ k ≠ b) (fun k => B ≤ k ∧ v.ownBlock ≠ some k) w w' := fun k hk hlt => ⟨hg.block k hlt (fun e => hk.2 (by injection e)), hk.1⟩
    exact ⟨p, q, q', rfl, (o1.ne hr h1).mv mv, o2⟩
/-- The end of a call that gives leases and a result. -/
def Rs (B : Nat) (w : World) (x : List PEnt × Int × List Int) (e : Ending) (w' : World) : Prop :=
  ∃ v' vv, e = .returned (.tuple #[v', .agg #[.int .i64 x.2.1, vv]]) ∧ LB OLea 50 3 B w' v' x.1 ∧ OT (From B) w' vv x.2.2 ∧ Below B w w'

theorem flat_set3 {v a b c : Value} : ∀ {rows : List (List Value)} {p : Nat}, (∀ r ∈ rows, r.length = 3) → rows[p]? = some [a, b, c] → rows.flatten.set (p * 3 + 2) v = (rows.set p [a, b, v]).flatten
  | [], p, _, h => by simp at h
  | x :: rows, 0, h0, h => by
    simp at h
    subst h
    simp
  | x :: rows, p + 1, h0, h => by
    have hx := h0 x (by simp)
    have ih := flat_set3 (v := v) (a := a) (b := b) (c := c) (rows := rows) (p := p) (fun r hr => h0 r (by simp [hr])) (by simpa using h)
    rw [List.flatten_cons, List.set_cons_succ, List.flatten_cons, ← ih, List.set_append, if_neg (by omega), hx, show (p + 1) * 3 + 2 - 3 = p * 3 + 2 by omega]
/-- A lease's last slot is put anew. -/
theorem LB.set3 {B : Nat} {w w2 : World} {ys : List PEnt} {g cap p : Nat} {cur : List Value} {rows : List (List Value)} {a : Value} {p1 q1 q2 : Int} {x : PEnt} (h1 : Row w g 50 cur) (h2 : cur.length = cap * 3) (h3 : ys.length ≤ cap) (h4 : cap ≤ maxLen) (h5 : B ≤ g) (h6 : rows.length = ys.length) (h7 : ∀ r ∈ rows, r.length = 3) (h8 : cur.take (ys.length * 3) = rows.flatten)
    (h9 : All2 (OLea (fun b => B ≤ b ∧ b ≠ g) w) rows ys) (hp : ys[p]? = some x) (hr : rows[p]? = some [a, .int .i64 p1, .int .i64 q1]) (hg2 : w.grownBy w2 (some g)) (hr2 : Row w2 g 50 (cur.set (p * 3 + 2) (.int .i64 q2))) :
    LB OLea 50 3 B w2 (.slice (some ⟨g, 0, none⟩) ys.length cap) (ys.set p (x.1, [p1, q2])) := by
  have hmv : Mv (fun b => B ≤ b ∧ b ≠ g) (fun b => B ≤ b ∧ b ≠ g) w w2 := fun k hk hlt => ⟨hg2.block k hlt (fun e => by injection e with e; exact hk.2 e), hk⟩
  obtain ⟨a', b', c', e, o1, o2⟩ := h9.get hr hp
  injection e with e1 e
  subst e1
  refine LB.mkS hr2 (by rw [List.length_set]; exact h2) h3 h4 h5 (rows := rows.set p [a, .int .i64 p1, .int .i64 q2]) (by rw [List.length_set]; exact h6) (fun r hr => ?_) ?_ (All2.set (h9.mono fun q z hq => mov_olea _ _ _ _ _ _ hq hg2.size hmv) ⟨a, p1, q2, rfl, o1.mv hmv, rfl⟩)
  · rcases List.mem_or_eq_of_mem_set hr with hr | rfl
    · exact h7 r hr
    · rfl
  · rw [← flat_set3 h7 hr, ← h8, List.take_set]

set_option maxRecDepth 10000 in
set_option maxHeartbeats 4000000 in
/-- lease.add. -/
theorem addS_any (w : World) (v : Value) (B : Nat) (ys : List PEnt) (h : LB OLea 50 3 B w v ys) (hB : B ≤ w.heap.size) (hn : ys.length ≤ 64) (p : Nat) (hp : p ≤ ys.length) (r : List Value) (x : PEnt) (hx : RLea Any w r x) (hzx : szS x) :
    Calls Try.prog 46 #[v, .int .i64 (p : Int), .agg r.toArray] w (Rs B w (addS ys p x)) := by
  have hxall := hx
  obtain ⟨vn, p1, q1, rfl, rn, hx2⟩ := hx
  obtain ⟨an, cn, rfl, hcn⟩ := rn.form
  obtain ⟨w0, hw0⟩ : ∃ w0, w0 = (w.alloc (.cells #[.slice an x.1.length cn, .int .i64 p1, .int .i64 q1] 50)).alloc (.cells #[.int .i64 0, .slice none 0 0] 30) := ⟨_, rfl⟩
  have ra : Row w0 w.heap.size 50 [.slice an x.1.length cn, .int .i64 p1, .int .i64 q1] := by rw [hw0]; exact rowA (Row.new w 50 _) _
  have rr : Row w0 (w.heap.size + 1) 30 [.int .i64 0, .slice none 0 0] := by
    rw [hw0]
    have := Row.new (w.alloc (.cells #[.slice an x.1.length cn, .int .i64 p1, .int .i64 q1] 50)) 30 [.int .i64 0, .slice none 0 0]
    simpa using this
  have B0 : Below w.heap.size w w0 := by rw [hw0]; exact ((Below.refl _ w).alloc (Nat.le_refl _) _).alloc (by simp) _
  have hl0 := h.below mov_olea B0
  have hvlt := h.lt
  have hform : ∃ ao cap, v = .slice ao ys.length cap := by
    obtain ⟨ao, cap, e, _⟩ := (h.rl mov_olea).form
    exact ⟨ao, cap, e⟩
  by_cases h64 : 16 ≤ ys.length
  · rw [addS, if_pos h64]
    obtain ⟨ao, cap, rfl⟩ := hform
    have h64' : (16 : Int) ≤ ys.length := by omega
    go_enter Try.func46, Try.ntmps46
    go_upto_region 1 with fail
    rw [← hw0]
    clear hw0
    go_wp2_with (refine wl_store rfl _ _ _ rfl (w.heap.size + 1) [.int .i64 3, .slice none 0 0] rfl rfl _ _ rr rfl (by kernel_rfl) (one_res rfl) ?_; intro w5 hr5 hg5)
    refine bodyPost_ret (results_tc rfl _ _ (w.heap.size + 1) _ _ (0, 0) _ (by rfl) hr5.out Try.underlying30 rfl (by kernel_rfl)) rfl ?_
    exact ⟨_, _, rfl, hl0.grownL rr (by decide) (by decide) hg5, OT.nil _ _, (B0.mono hB).trans (grown_below hg5 (Nat.le_trans hB B0.size) (fun k hk => by cases hk; omega))⟩
  rw [addS, if_neg h64]
  have h64' : decide ((16 : Int) ≤ ys.length) = false := by simp; omega
  have hC := cloneLease_any w0 _ x (mov_lea _ _ _ _ _ _ hxall B0.size (Mv.below B0)) hzx
  have HL0 := (show Hid (LB OLea 50 3 B w0 v ys) from hl0)
  have HLT := (show Hid (∀ g, v.ownBlock = some g → g < w.heap.size) from hvlt)
  have HFR := (show Hid (∀ g, v.ownBlock = some g → B ≤ g) from h.fr)
  clear hl0 hvlt h
  have HI := (show Hid (∀ (u : World) (vb : Nat) (r : List Value), LB OLea 50 3 B u v ys → B ≤ u.heap.size → Row u vb 50 r → v.ownBlock ≠ some vb → OLea (fun b => B ≤ b ∧ v.ownBlock ≠ some b) u r x → Calls Try.prog 67 #[v, .int .i64 (p : Int), .slice (some ⟨vb, 0, none⟩) 1 1] u fun e w' => ∃ v', e = .returned v' ∧ LB OLea 50 3 B w' v' (insL p x ys) ∧ u.grownBy w' v.ownBlock) from fun u vb r h1 h2 h3 h4 h5 => insertS_any u v B ys h1 h2 hn p hp vb r h3 h4 x h5)
  obtain ⟨ao, cap, rfl⟩ := hform
  go_enter Try.func46, Try.ntmps46
  go_upto_region 1 with fail
  rw [← hw0]
  clear hw0
  go_wp2_with (first
    | (refine wl_load rfl _ _ rfl w.heap.size rfl _ _ ra _ Try.underlying50 rfl (by kernel_rfl) ?_)
    | (go_at_call 62; refine hC.mono ?_; rintro e w3 ⟨r3, rfl, o3, hb3⟩; obtain ⟨p3, q3, q3', rfl, t3, t4⟩ := o3; obtain ⟨ax3, cx3, rfl, hcx3⟩ := t3.rt.form))
  obtain ⟨w5, hw5⟩ : ∃ w5, w5 = w3.alloc (.cells #[.slice ax3 x.1.length cx3, .int .i64 q3, .int .i64 q3'] 50) := ⟨_, rfl⟩
  have n5 : Row w5 w3.heap.size 50 [.slice ax3 x.1.length cx3, .int .i64 q3, .int .i64 q3'] := by rw [hw5]; exact Row.new w3 _ _
  have b35 : Below w3.heap.size w3 w5 := by rw [hw5]; exact below_alloc _ _
  rw [← hw5]
  clear hw5
  have b05 := below_and hb3 (Nat.le_refl _) b35
  have bw5 := below_and B0 (Nat.le_refl _) b05
  have hmv : Mv (From w0.heap.size) (fun b => B ≤ b ∧ (Value.slice ao ys.length cap).ownBlock ≠ some b) w3 w5 := fun j hj hlt => ⟨b35.block j hlt, Nat.le_trans hB (Nat.le_trans B0.size hj), fun e => by
    have h1 := HLT.out j e
    have h2 := B0.size
    unfold From at hj
    omega⟩
  refine (HI.out w5 w3.heap.size _ (HL0.out.below mov_olea b05) (Nat.le_trans hB bw5.size) n5 (fun e => by
    have h1 := HLT.out _ e
    have h2 := (below_and B0 (Nat.le_refl _) hb3).size
    omega) ⟨_, _, _, rfl, t3.mv hmv, t4⟩).mono ?_
  rintro e w6 ⟨v6, rfl, hL6, hg6⟩
  have rr6 : Row w6 (w.heap.size + 1) 30 [.int .i64 0, .slice none 0 0] := (rr.below b05).grown hg6 (fun e => by have := HLT.out _ e; omega)
  go_wp2_with (refine wl_store rfl _ _ _ rfl (w.heap.size + 1) [.int .i64 0, .slice none 0 0] rfl rfl _ _ rr6 rfl (by kernel_rfl) (one_res rfl) ?_; intro w7 hr7 hg7)
  refine bodyPost_ret (results_tc rfl _ _ (w.heap.size + 1) _ _ (0, 0) _ (by rfl) hr7.out Try.underlying30 rfl (by kernel_rfl)) rfl ?_
  have b6 := (bw5.mono hB).trans (grown_below hg6 (Nat.le_trans hB bw5.size) (fun k hk => HFR.out k hk))
  exact ⟨_, _, rfl, hL6.grownL rr6 (by decide) (by decide) hg7, OT.nil _ _, b6.trans (grown_below hg7 (Nat.le_trans hB (Nat.le_trans bw5.size hg6.size)) (fun k hk => by cases hk; omega))⟩
end Go.Proofs.Ytbnioibeckifbaa
end

section
set_option linter.unusedVariables false
set_option linter.unusedSimpArgs false
namespace Go.Proofs.Ytbnioibeckifbaa
open Go.RowKit Oct Kvl

set_option maxRecDepth 10000 in
set_option maxHeartbeats 8000000 in
/-- The document's Do. -/
theorem refDoS_any (w : World) (v : Value) (ys : List PEnt) (h : RL RLea 3 Any w v ys) (r : List Value) (o : POp) (ho : ROp Any w r o) (who now : Int) :
    Calls Try.prog 22 #[v, .agg r.toArray, .int .i64 who, .int .i64 now] w (RqS w (doS ys o who now)) := by
  have le := Nat.le_refl w.heap.size
  have hall := ho
  obtain ⟨vn, va, vb, rfl, rn, ra', rb'⟩ := ho
  obtain ⟨an, cn, rfl, hcn⟩ := rn.form
  obtain ⟨w0, hw0⟩ : ∃ w0, w0 = (w.alloc (.cells #[.int .i64 o.1, .slice an o.2.1.length cn, va, vb, .int .i64 o.2.2.2.2] 25)).alloc (.cells #[.int .i64 0, .slice none 0 0] 30) := ⟨_, rfl⟩
  have x0 : Row w0 w.heap.size 25 [.int .i64 o.1, .slice an o.2.1.length cn, va, vb, .int .i64 o.2.2.2.2] := by rw [hw0]; exact rowA (Row.new w 25 _) _
  have r0 : Row w0 (w.heap.size + 1) 30 [.int .i64 0, .slice none 0 0] := by
    rw [hw0]
    have := Row.new (w.alloc (.cells #[.int .i64 o.1, .slice an o.2.1.length cn, va, vb, .int .i64 o.2.2.2.2] 25)) 30 [.int .i64 0, .slice none 0 0]
    simpa using this
  have B0 : Below w.heap.size w w0 := by rw [hw0]; exact below_and (below_alloc _ _) (Nat.le_refl _) (below_alloc _ _)
  have hs0 : w0.heap.size = w.heap.size + 2 := by rw [hw0]; simp
  have HS0 := (show Hid (w0.heap.size = w.heap.size + 2) from hs0)
  have HRI := (show Hid (∀ u, Below w.heap.size w u → Calls Try.prog 25 #[v] u fun e w' => e = .returned (.bool (decide (rgtS ys))) ∧ Below u.heap.size u w') from fun u hu => refRightS_any u v ys (h.mv mov_lea hu.size (Mv.below hu)))
  have HRO := (show Hid (∀ u, Below w.heap.size w u → Calls Try.prog 32 #[.agg #[.int .i64 o.1, .slice an o.2.1.length cn, va, vb, .int .i64 o.2.2.2.2]] u fun e w' => e = .returned (.bool (decide (wok o))) ∧ Below u.heap.size u w') from fun u hu => rightOp_any u _ o (mov_op _ _ _ _ _ _ hall hu.size (Mv.below hu)))
  have FB := (show Hid (∀ {w3 w4 : World}, Below w.heap.size w w3 → w3.grownBy w4 (some (w.heap.size + 1)) → (ys, 5, []) = doS ys o who now → RqS w (doS ys o who now) (.returned (.tuple #[v, .agg #[.int .i64 5, .slice none 0 0]])) w4) from fun {w3 w4} hb hg e => by
    rw [← e]
    have b4 := hb.trans (grown_below hg hb.size (fun k hk => by cases hk; omega))
    exact ⟨_, _, rfl, h.mv mov_lea b4.size (Mv.below b4), (Own.nil w4 5).rd (l := []) Byt.nil, b4⟩)
  have FIN := (show Hid (∀ {w3 w4 : World} {v3 vv : Value} {c : Int} {zs : List PEnt} {l : List Int}, LB (RSl w) 50 3 w0.heap.size w3 v3 zs → RT (From w0.heap.size) w3 vv l → Below w0.heap.size w0 w3 → w3.grownBy w4 (some (w.heap.size + 1)) → (zs, c, l) = doS ys o who now → RqS w (doS ys o who now) (.returned (.tuple #[v3, .agg #[.int .i64 c, vv]])) w4) from fun {w3 w4 v3 vv c zs l} hL ht hb hg e => by
    rw [← e]
    have hsz := HS0.out
    have b3 := below_and B0 le hb
    have b4 := b3.trans (grown_below hg b3.size (fun k hk => by cases hk; omega))
    exact ⟨_, _, rfl, (hL.grown (mov_rsl w) hg (by omega)).rsl b4, (ht.mv (Mv.from (L := w0.heap.size) hg (by omega) (Nat.le_refl _))).1, b4⟩)
  have hform : ∃ ao cap, v = .slice ao ys.length cap ∧ ys.length ≤ maxLen := by
    by_cases hl : 0 < ys.length
    · obtain ⟨b, off, cap, e, hc, hm, _⟩ := h.at hl
      exact ⟨_, _, e, Nat.le_trans hc hm⟩
    · obtain ⟨ao, cap, e, _⟩ := h.form
      exact ⟨_, _, e, by omega⟩
  obtain ⟨ao, cap, rfl, hyl⟩ := hform
  go_enter Try.func22, Try.ntmps22
  go_upto_region 1 with fail
  rw [← hw0]
  clear hw0 hs0
  by_cases hr : rgtS ys
  rotate_left
  · rw [decide_eq_false hr] at HRI
    have HD := (show Hid ((ys, 5, []) = doS ys o who now) from (doS_bad fun h => hr h.1).symm)
    go_wp2_with (first
      | (go_at_call 25; refine (HRI.out w0 B0).mono ?_; rintro e w1 ⟨rfl, hb1⟩; have x1 := x0.below hb1; have r1 := r0.below hb1; have B1 := below_and B0 le hb1)
      | (refine wl_load_w (by rfl) _ _ rfl w.heap.size rfl _ _ x1 _ Try.underlying25 rfl (by kernel_rfl) ?_)
      | (go_at_call 32; refine (HRO.out w1 B1).mono ?_; rintro e w2 ⟨rfl, hb2⟩; have r2 := r1.below hb2; have c0 := (x1.below hb2).cell (j := 0) rfl)
      | (refine wl_store rfl _ _ _ rfl (w.heap.size + 1) [.int .i64 5, .slice none 0 0] rfl rfl _ _ r1 rfl (by kernel_rfl) (one_res rfl) ?_; intro w9 hr9 hg9))
    refine bodyPost_ret (results_tc rfl _ _ (w.heap.size + 1) _ _ (0, 0) _ (by rfl) hr9.out Try.underlying30 rfl (by kernel_rfl)) rfl ?_
    exact FB.out B1 hg9 HD.out
  rw [decide_eq_true hr] at HRI
  by_cases hw : wok o
  rotate_left
  · rw [decide_eq_false hw] at HRO
    have HD := (show Hid ((ys, 5, []) = doS ys o who now) from (doS_bad fun h => hw h.2.1.1).symm)
    go_wp2_with (first
      | (go_at_call 25; refine (HRI.out w0 B0).mono ?_; rintro e w1 ⟨rfl, hb1⟩; have x1 := x0.below hb1; have r1 := r0.below hb1; have B1 := below_and B0 le hb1)
      | (refine wl_load_w (by rfl) _ _ rfl w.heap.size rfl _ _ x1 _ Try.underlying25 rfl (by kernel_rfl) ?_)
      | (go_at_call 32; refine (HRO.out w1 B1).mono ?_; rintro e w2 ⟨rfl, hb2⟩; have r2 := r1.below hb2; have c0 := (x1.below hb2).cell (j := 0) rfl)
      | (refine wl_store rfl _ _ _ rfl (w.heap.size + 1) [.int .i64 5, .slice none 0 0] rfl rfl _ _ r2 rfl (by kernel_rfl) (one_res rfl) ?_; intro w9 hr9 hg9))
    refine bodyPost_ret (results_tc rfl _ _ (w.heap.size + 1) _ _ (0, 0) _ (by rfl) hr9.out Try.underlying30 rfl (by kernel_rfl)) rfl ?_
    exact FB.out (below_and B1 le hb2) hg9 HD.out
  rw [decide_eq_true hw] at HRO
  by_cases g1 : o.1 < 5
  · have HD := (show Hid ((ys, 5, []) = doS ys o who now) from (doS_bad fun h => by have := h.2.1.2; omega).symm)
    go_wp2_with (first
      | (go_at_call 25; refine (HRI.out w0 B0).mono ?_; rintro e w1 ⟨rfl, hb1⟩; have x1 := x0.below hb1; have r1 := r0.below hb1; have B1 := below_and B0 le hb1)
      | (refine wl_load_w (by rfl) _ _ rfl w.heap.size rfl _ _ x1 _ Try.underlying25 rfl (by kernel_rfl) ?_)
      | (go_at_call 32; refine (HRO.out w1 B1).mono ?_; rintro e w2 ⟨rfl, hb2⟩; have r2 := r1.below hb2; have c0 := (x1.below hb2).cell (j := 0) rfl)
      | (refine wl_store rfl _ _ _ rfl (w.heap.size + 1) [.int .i64 5, .slice none 0 0] rfl rfl _ _ r2 rfl (by kernel_rfl) (one_res rfl) ?_; intro w9 hr9 hg9))
    refine bodyPost_ret (results_tc rfl _ _ (w.heap.size + 1) _ _ (0, 0) _ (by rfl) hr9.out Try.underlying30 rfl (by kernel_rfl)) rfl ?_
    exact FB.out (below_and B1 le hb2) hg9 HD.out
  have g1' : decide (o.1 < 5) = false := by simp; omega
  by_cases g2 : who < 1
  · have HD := (show Hid ((ys, 5, []) = doS ys o who now) from (doS_bad fun h => by have := h.2.2.1.1; omega).symm)
    go_wp2_with (first
      | (go_at_call 25; refine (HRI.out w0 B0).mono ?_; rintro e w1 ⟨rfl, hb1⟩; have x1 := x0.below hb1; have r1 := r0.below hb1; have B1 := below_and B0 le hb1)
      | (refine wl_load_w (by rfl) _ _ rfl w.heap.size rfl _ _ x1 _ Try.underlying25 rfl (by kernel_rfl) ?_)
      | (go_at_call 32; refine (HRO.out w1 B1).mono ?_; rintro e w2 ⟨rfl, hb2⟩; have r2 := r1.below hb2; have c0 := (x1.below hb2).cell (j := 0) rfl)
      | (refine wl_store rfl _ _ _ rfl (w.heap.size + 1) [.int .i64 5, .slice none 0 0] rfl rfl _ _ r2 rfl (by kernel_rfl) (one_res rfl) ?_; intro w9 hr9 hg9))
    refine bodyPost_ret (results_tc rfl _ _ (w.heap.size + 1) _ _ (0, 0) _ (by rfl) hr9.out Try.underlying30 rfl (by kernel_rfl)) rfl ?_
    exact FB.out (below_and B1 le hb2) hg9 HD.out
  have g2' : decide (who < 1) = false := by simp; omega
  by_cases g3 : 4 < who
  · have HD := (show Hid ((ys, 5, []) = doS ys o who now) from (doS_bad fun h => by have := h.2.2.1.2; omega).symm)
    go_wp2_with (first
      | (go_at_call 25; refine (HRI.out w0 B0).mono ?_; rintro e w1 ⟨rfl, hb1⟩; have x1 := x0.below hb1; have r1 := r0.below hb1; have B1 := below_and B0 le hb1)
      | (refine wl_load_w (by rfl) _ _ rfl w.heap.size rfl _ _ x1 _ Try.underlying25 rfl (by kernel_rfl) ?_)
      | (go_at_call 32; refine (HRO.out w1 B1).mono ?_; rintro e w2 ⟨rfl, hb2⟩; have r2 := r1.below hb2; have c0 := (x1.below hb2).cell (j := 0) rfl)
      | (refine wl_store rfl _ _ _ rfl (w.heap.size + 1) [.int .i64 5, .slice none 0 0] rfl rfl _ _ r2 rfl (by kernel_rfl) (one_res rfl) ?_; intro w9 hr9 hg9))
    refine bodyPost_ret (results_tc rfl _ _ (w.heap.size + 1) _ _ (0, 0) _ (by rfl) hr9.out Try.underlying30 rfl (by kernel_rfl)) rfl ?_
    exact FB.out (below_and B1 le hb2) hg9 HD.out
  have g3' : decide (4 < who) = false := by simp; omega
  by_cases g4 : now < 0
  · have HD := (show Hid ((ys, 5, []) = doS ys o who now) from (doS_bad fun h => by have := h.2.2.2.1; omega).symm)
    go_wp2_with (first
      | (go_at_call 25; refine (HRI.out w0 B0).mono ?_; rintro e w1 ⟨rfl, hb1⟩; have x1 := x0.below hb1; have r1 := r0.below hb1; have B1 := below_and B0 le hb1)
      | (refine wl_load_w (by rfl) _ _ rfl w.heap.size rfl _ _ x1 _ Try.underlying25 rfl (by kernel_rfl) ?_)
      | (go_at_call 32; refine (HRO.out w1 B1).mono ?_; rintro e w2 ⟨rfl, hb2⟩; have r2 := r1.below hb2; have c0 := (x1.below hb2).cell (j := 0) rfl)
      | (refine wl_store rfl _ _ _ rfl (w.heap.size + 1) [.int .i64 5, .slice none 0 0] rfl rfl _ _ r2 rfl (by kernel_rfl) (one_res rfl) ?_; intro w9 hr9 hg9))
    refine bodyPost_ret (results_tc rfl _ _ (w.heap.size + 1) _ _ (0, 0) _ (by rfl) hr9.out Try.underlying30 rfl (by kernel_rfl)) rfl ?_
    exact FB.out (below_and B1 le hb2) hg9 HD.out
  have g4' : decide (now < 0) = false := by simp; omega
  by_cases g5 : 2147482647 < now
  · have HD := (show Hid ((ys, 5, []) = doS ys o who now) from (doS_bad fun h => by have := h.2.2.2.2; omega).symm)
    go_wp2_with (first
      | (go_at_call 25; refine (HRI.out w0 B0).mono ?_; rintro e w1 ⟨rfl, hb1⟩; have x1 := x0.below hb1; have r1 := r0.below hb1; have B1 := below_and B0 le hb1)
      | (refine wl_load_w (by rfl) _ _ rfl w.heap.size rfl _ _ x1 _ Try.underlying25 rfl (by kernel_rfl) ?_)
      | (go_at_call 32; refine (HRO.out w1 B1).mono ?_; rintro e w2 ⟨rfl, hb2⟩; have r2 := r1.below hb2; have c0 := (x1.below hb2).cell (j := 0) rfl)
      | (refine wl_store rfl _ _ _ rfl (w.heap.size + 1) [.int .i64 5, .slice none 0 0] rfl rfl _ _ r2 rfl (by kernel_rfl) (one_res rfl) ?_; intro w9 hr9 hg9))
    refine bodyPost_ret (results_tc rfl _ _ (w.heap.size + 1) _ _ (0, 0) _ (by rfl) hr9.out Try.underlying30 rfl (by kernel_rfl)) rfl ?_
    exact FB.out (below_and B1 le hb2) hg9 HD.out
  have g5' : decide (2147482647 < now) = false := by simp; omega
  have HK := (show Hid (doS ys o who now = doT (liv now ys) o who now) from doS_yes ⟨hr, ⟨hw, by omega⟩, ⟨by omega, by omega⟩, ⟨by omega, by omega⟩⟩)
  have HRG := (show Hid (rgtS (liv now ys)) from liv_rgt hr)
  have HLU := (show Hid (∀ e ∈ liv now ys, now < lu e.2) from fun e he => (liv_mem he).2)
  have HNU := (show Hid (o.1 ≠ 7 → o.1 ≠ 8 → 1 ≤ o.2.2.2.2 ∧ o.2.2.2.2 ≤ 1000) from fun h7 h8 => num_yes hw (by omega) h7 h8)
  have hy16 : ys.length ≤ 16 := hr.1
  have h8' : o.1 ≤ 8 := hw.1.2
  clear hr hw
  go_upto_region 3 with (first
      | (go_at_call 25; refine (HRI.out w0 B0).mono ?_; rintro e w1 ⟨rfl, hb1⟩; have x1 := x0.below hb1; have r1 := r0.below hb1; have B1 := below_and B0 le hb1)
      | (refine wl_load_w (by rfl) _ _ rfl w.heap.size rfl _ _ x1 _ Try.underlying25 rfl (by kernel_rfl) ?_)
      | (go_at_call 32; refine (HRO.out w1 B1).mono ?_; rintro e w2 ⟨rfl, hb2⟩; have r2 := r1.below hb2; have c0 := (x1.below hb2).cell (j := 0) rfl))
  have BB2 := below_and hb1 (Nat.le_refl _) hb2
  clear HRI HRO FB hb1 hb2 x1 r1 B1 r2 c0 g1' g2' g3' g4' g5'
  obtain ⟨w4, hw4⟩ : ∃ w4, w4 = (w2.alloc (.cells #[] 50)).alloc (.cells #[] 50) := ⟨_, rfl⟩
  have BB4 : Below w0.heap.size w0 w4 := by rw [hw4]; exact below_and (below_and BB2 (Nat.le_refl _) (below_alloc _ _)) (Nat.le_refl _) (below_alloc _ _)
  have hLa : LB (RSl w) 50 3 w0.heap.size w4 (.slice (some ⟨w2.heap.size, 0, none⟩) 0 0) [] := by
    rw [hw4]
    exact (LB.fresh (RSl w) 50 3 w0.heap.size w2 BB2.size).below (mov_rsl w) (below_alloc _ _)
  have hLb : LB (RSl w) 50 3 w0.heap.size w4 (.slice (some ⟨w2.heap.size + 1, 0, none⟩) 0 0) [] := by
    rw [hw4]
    have := LB.fresh (RSl w) 50 3 w0.heap.size (w2.alloc (.cells #[] 50)) (Nat.le_trans BB2.size (below_alloc _ _).size)
    simpa using this
  go_upto_region 5 with fail
  rw [← hw4]
  clear hw4
  have HX := (show Hid (0 < ys.length → ∃ b off, ao = some ⟨b, off, none⟩ ∧ b < w.heap.size ∧ ∀ (i : Nat) (a : PEnt), ys[i]? = some a → ∃ s p q, w.rangeAt b (off + i * 3) [s, .int .i64 p, .int .i64 q] ∧ RT Any w s a.1 ∧ a.2 = [p, q]) from fun hl => by
    obtain ⟨b, off, cap', e, hc, hm, _, hb, hx⟩ := h.at hl
    injection e with e1 e2 e3
    refine ⟨b, off, e1, hb, fun i a ha => ?_⟩
    obtain ⟨r, _, hrng, s, p, q, rfl, t1, t2⟩ := hx i a ha
    exact ⟨s, p, q, hrng, t1, t2⟩)
  have HS := (show Hid (∀ (u : World) (s : Value) (l : List Int), Below w.heap.size w u → RT Any w s l → Calls Try.prog 35 #[s, .slice an o.2.1.length cn] u fun e w' => e = .returned (.bool (decide (l = o.2.1))) ∧ w' = u) from fun u s l hu hs => same_any u _ _ _ _ (hs.mv (Mv.below hu)).1 (rn.mv (Mv.below hu)).1)
  have HRN := (show Hid (RT Any w (.slice an o.2.1.length cn) o.2.1) from rn)
  obtain ⟨N, hN⟩ : ∃ N, N = ys.length := ⟨_, rfl⟩
  rw [← hN] at HX hy16 ⊢
  have HN := (show Hid (ys.length = N) from hN.symm)
  clear hN hyl h hall rn ra' rb'
  go_wp2_with fail
  go_loopw [10, 11, 51] (fun a b i wr => ∃ q : Nat, q ≤ N ∧ i = .int .i64 q ∧ LB (RSl w) 50 3 w0.heap.size wr a (liv now (ys.take q)) ∧ LB (RSl w) 50 3 w0.heap.size wr b (oth o.2.1 (liv now (ys.take q))) ∧ (∀ g, a.ownBlock = some g → b.ownBlock ≠ some g) ∧ Below w0.heap.size w0 wr) (fun _ _ i _ => N - (intOf i).toNat)
  case atStart => exact ⟨0, Nat.zero_le _, rfl, hLa, hLb, (fun g hg e => by simp [Value.ownBlock] at hg e; omega), BB4⟩
  case round =>
    clear hLa hLb BB4 BB2
    obtain ⟨q, hq, rfl, hA, hBL, hap, hB0⟩ := hrel
    have hB := below_and B0 le hB0
    by_cases hql : q < N
    · obtain ⟨x, hx⟩ : ∃ x, ys[q]? = some x := ⟨_, List.getElem?_eq_getElem (by have := HN.out; omega)⟩
      obtain ⟨bb, off, rfl, hbb, hxx⟩ := HX.out (by omega)
      obtain ⟨s1, p1, q1, hrng, t1, t2⟩ := hxx q x hx
      have hrng := rangeAt_block hrng (hB.block bb hbb)
      obtain ⟨a1, c1, rfl, hc1⟩ := t1.form
      have hrow0 := Row.new wr 50 [.slice none 0 0, .int .i64 0, .int .i64 0]
      have HXE := (show Hid (RLea Any w [.slice a1 x.1.length c1, .int .i64 p1, .int .i64 q1] x) from ⟨_, _, _, rfl, t1, t2⟩)
      have HT1 := (show Hid (RT Any w (.slice a1 x.1.length c1) x.1) from t1)
      have HLS := (show Hid (liv now (ys.take (q + 1)) = liv now (ys.take q) ++ (if now < q1 then [x] else [])) by
        show _ = _
        rw [liv_snoc hx, show lu x.2 = q1 by rw [t2]; rfl])
      have hone := onL3 (p := p1) (q := q1) t1.one
      have hll : (liv now (ys.take q)).length ≤ 16 := by have := @liv_len now (ys.take q); rw [List.length_take] at this; omega
      have hol : (oth o.2.1 (liv now (ys.take q))).length ≤ 16 := Nat.le_trans (List.length_filter_le _ _) hll
      clear t1 t2 hx hxx
      generalize liv now (ys.take q) = LQ at *
      obtain ⟨L1, hL1⟩ : ∃ L, x.1.length = L := ⟨_, rfl⟩
      rw [hL1] at hrng hone HXE HT1
      clear hL1
      go_upto_region 8 with (first
        | (refine wpList_load_mid rfl _ _ rfl bb (off + q * 3) rfl [.slice a1 L1 c1, .int .i64 p1, .int .i64 q1] _ hrng Try.underlying50 rfl (by kernel_rfl) ?_)
        | (refine wl_store rfl _ _ _ rfl wr.heap.size [.slice a1 L1 c1, .int .i64 p1, .int .i64 q1] rfl rfl _ _ hrow0 rfl (by kernel_rfl) hone ?_; intro w5 hr5 hg5))
      have hb5 : Below wr.heap.size wr w5 := (below_alloc wr (.cells ([.slice none 0 0, .int .i64 0, .int .i64 0] : List Value).toArray 50)).trans (grown_below hg5 (by simp) (fun k hk => by cases hk; exact Nat.le_refl _))
      have B5 : Below w0.heap.size w0 w5 := below_and hB0 (Nat.le_refl _) hb5
      have hr5 := hr5.out
      have hA5 := hA.below (mov_rsl w) hb5
      have hBL5 := hBL.below (mov_rsl w) hb5
      have hltA : ∀ g, u10.ownBlock = some g → g < wr.heap.size := hA.lt
      have hltB : ∀ g, u11.ownBlock = some g → g < wr.heap.size := hBL.lt
      have hfrA : ∀ g, u10.ownBlock = some g → w0.heap.size ≤ g := hA.fr
      have hfrB : ∀ g, u11.ownBlock = some g → w0.heap.size ≤ g := hBL.fr
      have hs5 : wr.heap.size < w5.heap.size := hr5.lt
      have e2 := hr5.cell (j := 2) rfl
      clear hg5 hrow0 hrng hone hb5 hA hBL
      by_cases hov : q1 ≤ now
      · have HE := (show Hid (liv now (ys.take (q + 1)) = LQ) by show _ = _; rw [HLS.out, if_neg (by omega), List.append_nil])
        go_wp2_with fail
        go_roundw
        case rel => exact ⟨q + 1, by omega, by go_num, by rw [HE.out]; exact hA5, by rw [HE.out]; exact hBL5, hap, B5⟩
        case measure => simp [intOf]; omega
      have hov' : decide (q1 ≤ now) = false := by simp; omega
      have HE := (show Hid (liv now (ys.take (q + 1)) = LQ ++ [x]) by show _ = _; rw [HLS.out, if_pos (by omega)])
      go_upto_region 10 with (first
        | (refine wl_load rfl _ _ rfl wr.heap.size rfl _ _ hr5 _ Try.underlying50 rfl (by kernel_rfl) ?_)
        | (at_builtin; refine wl_push2 (mov_rsl w) rfl _ _ _ rfl 50 3 40 _ Try.underlying42 Try.infL rfl (by decide) w0.heap.size u10 LQ rfl hA5 [.slice a1 L1 c1, .int .i64 p1, .int .i64 q1] x w5.heap.size (RSl.of HXE.out _ _) rfl (one_RS HXE.out) B5.size (fun g hg => Nat.lt_trans (hltA g hg) hs5) rfl B5.size (by omega) (by decide) ?_; intro v6 w6 hA6 hg6 hsp6))
      have B6 : Below w0.heap.size w0 w6 := B5.trans (grown_below hg6 B5.size (fun k hk => hfrA k hk))
      have W6 := below_and B0 le B6
      have hr6 := hr5.grown hg6 (fun e => by have := hltA _ e; omega)
      have hBL6 := hBL5.keptS hg6 hap
      have hap6 : ∀ g, v6.ownBlock = some g → u11.ownBlock ≠ some g := fun g hg => by
        rcases hsp6 with e | e
        · rw [e] at hg; exact hap g hg
        · intro e2; have := e g hg; have := hltB g e2; omega
      have x6 := x0.below B6
      have f0 := hr6.cell (j := 0) rfl
      have f1 := x6.cell (j := 1) rfl
      have hs6 : wr.heap.size < w6.heap.size := hr6.lt
      have HS6 := HS.out w6 _ x.1 W6 HT1.out
      clear hg6 hsp6 hA5 hBL5 e2
      by_cases heq : x.1 = o.2.1
      · rw [decide_eq_true heq] at HS6
        have HO := (show Hid (oth o.2.1 (liv now (ys.take (q + 1))) = oth o.2.1 LQ) by show _ = _; rw [HE.out, oth_snoc, if_pos heq, List.append_nil])
        clear heq
        go_wp2_with (go_at_call 35; refine HS6.mono ?_; rintro e w6 ⟨rfl, rfl⟩)
        go_roundw
        case rel => exact ⟨q + 1, by omega, by go_num, by rw [HE.out]; exact hA6, by rw [HO.out]; exact hBL6, hap6, B6⟩
        case measure => simp [intOf]; omega
      · rw [decide_eq_false heq] at HS6
        have HO := (show Hid (oth o.2.1 (liv now (ys.take (q + 1))) = oth o.2.1 LQ ++ [x]) by show _ = _; rw [HE.out, oth_snoc, if_neg heq])
        clear heq
        generalize oth o.2.1 LQ = OQ at *
        go_wp2_with (first
          | (go_at_call 35; refine HS6.mono ?_; rintro e w6 ⟨rfl, rfl⟩)
          | (refine wl_load rfl _ _ rfl wr.heap.size rfl _ _ hr6 _ Try.underlying50 rfl (by kernel_rfl) ?_)
          | (at_builtin; refine wl_push2 (mov_rsl w) rfl _ _ _ rfl 50 3 40 _ Try.underlying42 Try.infL rfl (by decide) w0.heap.size u11 OQ rfl hBL6 [.slice a1 L1 c1, .int .i64 p1, .int .i64 q1] x w6.heap.size (RSl.of HXE.out _ _) rfl (one_RS HXE.out) B6.size (fun g hg => Nat.lt_trans (hltB g hg) hs6) rfl B6.size (by omega) (by decide) ?_; intro v8 w8 hBL8 hg8 hsp8))
        have B8 : Below w0.heap.size w0 w8 := B6.trans (grown_below hg8 B6.size (fun k hk => hfrB k hk))
        have hlt6 : ∀ g, v6.ownBlock = some g → g < w6.heap.size := hA6.lt
        have hA8 := hA6.keptS hg8 (fun g hg e => hap6 g e hg)
        have hap8 : ∀ g, v6.ownBlock = some g → v8.ownBlock ≠ some g := fun g hg => by
          rcases hsp8 with e | e
          · rw [e]; exact hap6 g hg
          · intro e2; have := e g e2; have := hlt6 g hg; omega
        go_roundw
        case rel => exact ⟨q + 1, by omega, by go_num, by rw [HE.out]; exact hA8, by rw [HO.out]; exact hBL8, hap8, B8⟩
        case measure => simp [intOf]; omega
    · obtain rfl : q = N := by omega
      have hqd : decide ((q : Int) < q) = false := by simp
      have hty : ys.take q = ys := List.take_of_length_le (by have := HN.out; omega)
      rw [hty] at hA hBL
      clear hty
      generalize liv now ys = L at *
      have hRL := hA.rsl hB
      have hH := refHolder_any _ u10 L hRL _ _ (HRN.out.mv (Mv.below hB)).1 now
      have hup := HRG.out.2.1
      have hgs : holS L o.2.1 now = getS o.2.1 now L := by rw [hol_get hup, liv_all HLU.out]; rfl
      obtain ⟨ax, cx, rfl, _⟩ := hRL.form
      have c1 := (x0.below hB0).cell (j := 1) rfl
      have hL16 : L.length ≤ 16 := HRG.out.1
      rw [hgs] at hH
      have HUP := (show Hid (up [] L) from hup)
      have HFI := (show Hid (∀ (u : World) (hu : Below w0.heap.size w0 u) (v3 : Value) (n : List Int) (vn : Value) (np nq' : Int), LB (RSl w) 50 3 w0.heap.size u v3 L → RT Any w vn n → Calls Try.prog 50 #[v3, .agg #[vn, .int .i64 np, .int .i64 nq']] u fun e w' => ∃ v', e = .returned v' ∧ LB (RSl w) 50 3 w0.heap.size w' v' (putR n [np, nq'] L) ∧ Below u.heap.size u w') from fun u hu v3 n vn np nq' h1 h2 => by
        have := refWithS_any w u (below_and B0 le hu) w0.heap.size v3 L h1 (by omega) vn n np nq' h2
        rw [wiS_put HUP.out] at this
        exact this.mono fun e w' ⟨v', e1, e2, e3⟩ => ⟨v', e1, e2.weak (mov_rsl w) hu.size, e3⟩)
      clear hgs hup hRL hap
      unfold getS at hH
      cases hg : getR o.2.1 L with
      | none =>
        rw [hg] at hH
        have HGN := (show Hid (getR o.2.1 L = none) from hg)
        clear hg
        go_upto_region 14 with (go_at_call 23; refine hH.mono ?_; rintro e w7 ⟨rfl, hb7⟩)
        have B7 := below_and hB0 (Nat.le_refl _) hb7
        have x7 := x0.below B7
        have r7 := r0.below B7
        have hA7 := hA.below (mov_rsl w) hb7
        have d0 := x7.cell (j := 0) rfl
        have d1 := x7.cell (j := 1) rfl
        have d4 := x7.cell (j := 4) rfl
        clear hH c1
        by_cases k5 : o.1 = 5
        rotate_left
        · have HD := (show Hid ((L, 1, []) = doS ys o who now) by show _ = _; rw [HK.out]; exact doT_miss HGN.out k5)
          have k5' : (o.1 != 5) = true := by simp [k5]
          clear k5
          go_wp2_with (first | (refine wl_store rfl _ _ _ rfl (w.heap.size + 1) [.int .i64 1, .slice none 0 0] rfl rfl _ _ r7 rfl (by kernel_rfl) (one_res rfl) ?_; intro w9 hr9 hg9))
          refine bodyPost_ret (results_tc rfl _ _ (w.heap.size + 1) _ _ (0, 0) _ (by rfl) hr9.out Try.underlying30 rfl (by kernel_rfl)) rfl ?_
          exact FIN.out hA7 (RT.nil _ _) B7 hg9 HD.out
        have k5' : (o.1 != 5) = false := by simp [k5]
        have k8' : (o.1 == 8) = false := by rw [k5]; rfl
        have k7' : (o.1 == 7) = false := by rw [k5]; rfl
        have HADD := (show Hid (addS L (pos o.2.1 L) (o.2.1, [who, now + o.2.2.2.2]) = doS ys o who now) by show _ = _; rw [HK.out]; exact doT_new HGN.out k5)
        by_cases l16 : L.length = 16
        · have HD := (show Hid ((L, 3, []) = doS ys o who now) by show _ = _; rw [← HADD.out, addS, if_pos (by omega)])
          have l16' : ((L.length : Int) == 16) = true := by simp [l16]
          clear l16 k5
          go_wp2_with (first | (refine wl_store rfl _ _ _ rfl (w.heap.size + 1) [.int .i64 3, .slice none 0 0] rfl rfl _ _ r7 rfl (by kernel_rfl) (one_res rfl) ?_; intro w9 hr9 hg9))
          refine bodyPost_ret (results_tc rfl _ _ (w.heap.size + 1) _ _ (0, 0) _ (by rfl) hr9.out Try.underlying30 rfl (by kernel_rfl)) rfl ?_
          exact FIN.out hA7 (RT.nil _ _) B7 hg9 HD.out
        have HD := (show Hid ((putR o.2.1 [who, now + o.2.2.2.2] L, 0, []) = doS ys o who now) by show _ = _; rw [← HADD.out, addS, if_neg (by omega), insL, put_new HGN.out])
        have l16' : ((L.length : Int) == 16) = false := by simp; omega
        obtain ⟨hn1, hn2⟩ := HNU.out (by omega) (by omega)
        have HW := HFI.out w7 B7 _ o.2.1 _ who (now + o.2.2.2.2) hA7 HRN.out
        clear l16 k5
        go_wp2_with (first
          | (go_at_call 50; refine HW.mono ?_; rintro e w8 ⟨v8, rfl, hL8, hb8⟩; have r8 := r7.below hb8)
          | (refine wl_store rfl _ _ _ rfl (w.heap.size + 1) [.int .i64 0, .slice none 0 0] rfl rfl _ _ r8 rfl (by kernel_rfl) (one_res rfl) ?_; intro w9 hr9 hg9))
        refine bodyPost_ret (results_tc rfl _ _ (w.heap.size + 1) _ _ (0, 0) _ (by rfl) hr9.out Try.underlying30 rfl (by kernel_rfl)) rfl ?_
        exact FIN.out hL8 (RT.nil _ _) (below_and B7 (Nat.le_refl _) hb8) hg9 HD.out
      | some u =>
        rw [hg] at hH
        have hat := get_some hg
        have HGN := (show Hid (getR o.2.1 L = some u) from hg)
        have hmem := List.mem_of_getElem? hat
        have hrg := HRG.out.2.2 _ hmem
        have hlu : now < lu u := HLU.out _ hmem
        have hp1 : 1 ≤ lo u ∧ lo u ≤ 4 := hrg.2.1
        have hq1 : 1 ≤ lu u ∧ lu u ≤ 2147483647 := hrg.2.2
        obtain ⟨p1, p2⟩ := hp1
        obtain ⟨q1, q2⟩ := hq1
        have hH : Calls Try.prog 23 #[.slice ax L.length cx, .slice an o.2.1.length cn, .int .i64 now] wr fun e w' => e = .returned (.tuple #[.int .i64 (lo u), .int .i64 (lu u - now)]) ∧ Below wr.heap.size wr w' := by
          have : Calls Try.prog 23 #[.slice ax L.length cx, .slice an o.2.1.length cn, .int .i64 now] wr fun e w' => e = .returned (.tuple #[.int .i64 (lo u), .int .i64 (IntKind.i64.wrap (lu u - now))]) ∧ Below wr.heap.size wr w' := hH
          rw [show IntKind.i64.wrap (lu u - now) = lu u - now from wrapN (by omega) (by omega)] at this
          exact this
        have HTO := (show Hid (∀ z : World, Below w0.heap.size w0 z → Calls Try.prog 49 #[.int .i64 (lo u), .int .i64 (lu u - now)] z fun e w' => ∃ ax' cx', e = .returned (.slice ax' (tol u now).length cx') ∧ RT (From w0.heap.size) w' (.slice ax' (tol u now).length cx') (tol u now) ∧ Below z.heap.size z w') from fun z hz => (refTold_any z (lo u) (lu u - now) (by omega) (by omega) (by omega) (by omega)).mono fun e w' ⟨v', e1, e2, e3⟩ => by
          have e2' : RT (From z.heap.size) w' v' (tol u now) := e2
          obtain ⟨ax', cx', rfl, _⟩ := e2'.form
          exact ⟨ax', cx', e1, e2'.mv (Mv.weak hz.size), e3⟩)
        clear hg hat hmem hrg
        go_upto_region 14 with (go_at_call 23; refine hH.mono ?_; rintro e w7 ⟨rfl, hb7⟩)
        have B7 := below_and hB0 (Nat.le_refl _) hb7
        have x7 := x0.below B7
        have r7 := r0.below B7
        have hA7 := hA.below (mov_rsl w) hb7
        have hBL7 := hBL.below (mov_rsl w) hb7
        have d0 := x7.cell (j := 0) rfl
        have d1 := x7.cell (j := 1) rfl
        have d4 := x7.cell (j := 4) rfl
        have HT7 := HTO.out w7 B7
        have o0 : (lo u == 0) = false := by simp; omega
        have o0' : (lo u != 0) = true := by simp; omega
        have HLO := (show Hid (∀ x : Int, x = lo u → x = lo u) from fun _ e => e)
        clear hH c1 HTO
        generalize hTL : tol u now = TL at *
        have HTL := (show Hid (tol u now = TL) from hTL)
        clear hTL
        by_cases k8 : o.1 = 8
        · have HD := (show Hid ((L, 0, TL) = doS ys o who now) by show _ = _; rw [HK.out, ← HTL.out]; exact doT_hold HGN.out k8)
          have k8' : (o.1 == 8) = true := by simp [k8]
          clear k8
          go_wp2_with (first
            | (go_at_call 49; refine HT7.mono ?_; rintro e w8 ⟨ax8, cx8, rfl, t8, hb8⟩; have r8 := r7.below hb8)
            | (refine wl_store rfl _ _ _ rfl (w.heap.size + 1) [.int .i64 0, .slice ax8 TL.length cx8] rfl rfl _ _ r8 rfl (by kernel_rfl) (one_res rfl) ?_; intro w9 hr9 hg9))
          refine bodyPost_ret (results_tc rfl _ _ (w.heap.size + 1) _ _ (0, 0) _ (by rfl) hr9.out Try.underlying30 rfl (by kernel_rfl)) rfl ?_
          exact FIN.out (hA7.below (mov_rsl w) hb8) t8 (below_and B7 (Nat.le_refl _) hb8) hg9 HD.out
        have k8' : (o.1 == 8) = false := by simp [k8]
        by_cases kw : lo u = who
        rotate_left
        · have HD := (show Hid ((L, 4, TL) = doS ys o who now) by show _ = _; rw [HK.out, ← HTL.out]; exact doT_held HGN.out k8 kw)
          have kw' : (lo u != who) = true := by simp [kw]
          clear k8 kw
          go_wp2_with (first
            | (go_at_call 49; refine HT7.mono ?_; rintro e w8 ⟨ax8, cx8, rfl, t8, hb8⟩; have r8 := r7.below hb8)
            | (refine wl_store rfl _ _ _ rfl (w.heap.size + 1) [.int .i64 4, .slice ax8 TL.length cx8] rfl rfl _ _ r8 rfl (by kernel_rfl) (one_res rfl) ?_; intro w9 hr9 hg9))
          refine bodyPost_ret (results_tc rfl _ _ (w.heap.size + 1) _ _ (0, 0) _ (by rfl) hr9.out Try.underlying30 rfl (by kernel_rfl)) rfl ?_
          exact FIN.out (hA7.below (mov_rsl w) hb8) t8 (below_and B7 (Nat.le_refl _) hb8) hg9 HD.out
        have kw' : (lo u != who) = false := by simp [kw]
        by_cases k7 : o.1 = 7
        · have HD := (show Hid ((oth o.2.1 L, 0, []) = doS ys o who now) by show _ = _; rw [HK.out, ← doT_del HGN.out k8 kw k7, oth_del HUP.out, del_old HGN.out])
          have k7' : (o.1 == 7) = true := by simp [k7]
          clear k8 kw k7
          go_wp2_with (first | (refine wl_store rfl _ _ _ rfl (w.heap.size + 1) [.int .i64 0, .slice none 0 0] rfl rfl _ _ r7 rfl (by kernel_rfl) (one_res rfl) ?_; intro w9 hr9 hg9))
          refine bodyPost_ret (results_tc rfl _ _ (w.heap.size + 1) _ _ (0, 0) _ (by rfl) hr9.out Try.underlying30 rfl (by kernel_rfl)) rfl ?_
          exact FIN.out hBL7 (RT.nil _ _) B7 hg9 HD.out
        have k7' : (o.1 == 7) = false := by simp [k7]
        have HD := (show Hid ((putR o.2.1 [who, now + o.2.2.2.2] L, 0, []) = doS ys o who now) by show _ = _; rw [HK.out, ← doT_set HGN.out k8 kw k7, put_old HGN.out])
        obtain ⟨hn1, hn2⟩ := HNU.out k7 k8
        have HW := HFI.out w7 B7 _ o.2.1 _ who (now + o.2.2.2.2) hA7 HRN.out
        clear k8 kw k7
        go_wp2_with (first
          | (go_at_call 50; refine HW.mono ?_; rintro e w8 ⟨v8, rfl, hL8, hb8⟩; have r8 := r7.below hb8)
          | (refine wl_store rfl _ _ _ rfl (w.heap.size + 1) [.int .i64 0, .slice none 0 0] rfl rfl _ _ r8 rfl (by kernel_rfl) (one_res rfl) ?_; intro w9 hr9 hg9))
        refine bodyPost_ret (results_tc rfl _ _ (w.heap.size + 1) _ _ (0, 0) _ (by rfl) hr9.out Try.underlying30 rfl (by kernel_rfl)) rfl ?_
        exact FIN.out hL8 (RT.nil _ _) (below_and B7 (Nat.le_refl _) hb8) hg9 HD.out
end Go.Proofs.Ytbnioibeckifbaa
end
