/- The document's Sort of votes. -/
import Derived.Test.YtkgjlmhgfefegaaDoorJ01
import Derived.Deep.QuietTactic
import Derived.BigQuiet
import Derived.Test.YtkgjlmhgfefegaaDoorJ15
section
set_option linter.unusedVariables false
set_option linter.unusedSimpArgs false
namespace Go.Proofs.YtkgjlmhgfefegaaDoor
open Go.RowKit Oct

theorem bel_dn {B : Nat} {a w : World} (h : Below B a w) (n : Nat) : Below B a (w.drewN n) := h.trans ⟨rfl, rfl, rfl, Nat.le_refl _, fun _ _ => rfl⟩
set_option maxHeartbeats 2000000 in
/-- SameVotes, of the same votes. -/
theorem sameVotes_eq (w : World) (u v : Value) (ys : List PVote) (h1 : RL RVote 2 Any w u ys) (h2 : RL RVote 2 Any w v ys) :
    Calls Tryd.prog 9 #[u, v] w fun e w' => e = .returned (.bool true) ∧ Below w.heap.size w w' := by
  by_cases hl : 0 < ys.length
  · obtain ⟨b1, o1, c1, rfl, hc1, hm1, _, hb1, hx1⟩ := h1.at hl
    obtain ⟨b2, o2, c2, rfl, hc2, hm2, _, hb2, hx2⟩ := h2.at hl
    have H1 := (show Hid (∀ (i : Nat) (a : PVote), ys[i]? = some a → ∃ r, r.length = 2 ∧ w.rangeAt b1 (o1 + i * 2) r ∧ RVote Any w r a) from hx1)
    have H2 := (show Hid (∀ (i : Nat) (a : PVote), ys[i]? = some a → ∃ r, r.length = 2 ∧ w.rangeAt b2 (o2 + i * 2) r ∧ RVote Any w r a) from hx2)
    have hlm : (ys.length : Int) ≤ 9223372036854775807 := by unfold maxLen at hm1; omega
    clear hx1 hx2 h1 h2
    go_enter Tryd.func9, Tryd.ntmps9
    go_wp2_with fail
    go_loopw [13] (fun i wr => ∃ q : Nat, q ≤ ys.length ∧ i = .int .i64 q ∧ Below w.heap.size w wr) (fun i _ => ys.length - (intOf i).toNat)
    case atStart => exact ⟨0, by omega, rfl, Below.refl _ _⟩
    case round =>
      obtain ⟨q, hq, rfl, hB⟩ := hrel
      by_cases hql : q < ys.length
      · obtain ⟨a, ha⟩ : ∃ a, ys[q]? = some a := ⟨_, List.getElem?_eq_getElem hql⟩
        obtain ⟨r1, _, g1, s1, rfl, t1⟩ := H1.out q a ha
        obtain ⟨r2, _, g2, s2, rfl, t2⟩ := H2.out q a ha
        have d0 := rangeAt_block g1 (hB.block b1 hb1) 0 _ rfl
        have d1 := rangeAt_block g1 (hB.block b1 hb1) 1 _ rfl
        have d2 := rangeAt_block g2 (hB.block b2 hb2) 0 _ rfl
        have d3 := rangeAt_block g2 (hB.block b2 hb2) 1 _ rfl
        simp only [Nat.add_zero] at d0 d2
        have hS := (show Hid (∀ u, Below w.heap.size w u → Calls Tryd.prog 22 #[s1, s2] u fun e w' => e = .returned (.bool true) ∧ w' = u) from fun u hu => by
          have := same_any u s1 s2 _ _ (t1.mv (Mv.below hu)).1 (t2.mv (Mv.below hu)).1
          rw [decide_eq_true rfl] at this
          exact this)
        have hn : (a.1 != a.1) = false := by simp
        clear g1 g2 t1 t2 ha
        go_wp2_with fail
        go_quiet ((go_at_call 22; exact quiet_as (hS.out _ (bel_dn hB _)) rfl))
        go_wp2_with fail
        go_roundw
        case rel => exact ⟨q + 1, by omega, by go_num, bel_dn hB _⟩
        case measure => simp [intOf]; omega
      · go_wp2_with fail
        go_ret
        exact ⟨rfl, hB⟩
  · obtain rfl : ys = [] := List.eq_nil_of_length_eq_zero (by omega)
    obtain ⟨ao, c1, rfl, _⟩ := h1.form
    obtain ⟨bo, c2, rfl, _⟩ := h2.form
    go_enter Tryd.func9, Tryd.ntmps9
    go_wp2_with fail
    refine wp_loop_rounds 1 ?_; rw [rounds_succ]
    go_wp2_with fail
    go_ret
    exact ⟨rfl, Below.refl _ _⟩
end Go.Proofs.YtkgjlmhgfefegaaDoor
end

section
set_option linter.unusedVariables false
set_option linter.unusedSimpArgs false
namespace Go.Proofs.YtkgjlmhgfefegaaDoor
open Go.RowKit Oct Stb

theorem vc_rows {Q : Value → PVote → Prop} : ∀ {rows : List (List Value)} {ys : List PVote}, All2 (fun r x => ∃ s, r = [.int .i64 x.1, s] ∧ Q s x) rows ys → ∃ L : List VC, L.map (·.2) = ys ∧ rows = L.map vce ∧ (∀ z ∈ L, Q z.1 z.2)
  | [], [], _ => ⟨[], rfl, rfl, fun z hz => by cases hz⟩
  | r :: rows, y :: ys, h => by
    obtain ⟨⟨s, rfl, hq⟩, h2⟩ := h
    obtain ⟨L, e1, e2, e3⟩ := vc_rows h2
    refine ⟨(s, y) :: L, by simp [e1], by rw [List.map_cons, e2]; rfl, fun z hz => ?_⟩
    rcases List.mem_cons.1 hz with rfl | hz
    · exact hq
    · exact e3 z hz
  | [], _ :: _, h => h.elim
  | _ :: _, [], h => h.elim
/-- Votes as they lie, in a list that is built. -/
def RVc (_ : Nat → Prop) (_ : World) (r : List Value) (z : VC) : Prop := r = vce z
theorem mov_vc : Mov RVc := fun _ _ _ _ _ _ h _ _ => h
theorem lb_open {B : Nat} {w : World} {v : Value} {L : List VC} (h : LB RVc 35 2 B w v L) (hp : 0 < L.length) : ∃ (g cap : Nat) (rest : List Value), v = .slice (some ⟨g, 0, none⟩) L.length cap ∧ Row w g 35 (vfl L ++ rest) ∧ (vfl L ++ rest).length = cap * 2 ∧ L.length ≤ cap ∧ cap ≤ maxLen ∧ B ≤ g := by
  obtain ⟨rows, h0, hown, hfr, hall⟩ := h
  have hlen := hall.len
  have e : rows = L.map vce := by
    have : All2 (fun r z => r = vce z) rows L := hall
    clear hall hown h0 hp hlen
    induction rows generalizing L with
    | nil => cases L with
      | nil => rfl
      | cons _ _ => exact this.elim
    | cons r rows ih => cases L with
      | nil => exact this.elim
      | cons z L => rw [this.1, ih this.2]; rfl
  have ef : rows.flatten = vfl L := by rw [e]; rfl
  rcases hown.2 with ⟨_, h4⟩ | ⟨g, cap, cur, rfl, _, hg, hc1, hc2, hc3, hc4⟩
  · omega
  · have hcur : cur.toList = vfl L ++ cur.toList.drop (rows.length * 2) := by rw [← ef, ← hc4, List.take_append_drop]
    refine ⟨g, cap, cur.toList.drop (rows.length * 2), by rw [hlen], by rw [← hcur]; unfold Row; simpa using hg, by rw [← hcur]; simpa using hc3, by omega, hc2, hfr g rfl⟩
theorem lb_shut {B : Nat} {w : World} {L : List VC} {g n cap : Nat} {rest : List Value} (hr : Row w g 35 (vfl L ++ rest)) (hl : (vfl L ++ rest).length = cap * 2) (hn : L.length = n) (hc : n ≤ cap) (hm : cap ≤ maxLen) (hB : B ≤ g) : LB RVc 35 2 B w (.slice (some ⟨g, 0, none⟩) n cap) L := by
  have ef : (L.map vce).flatten = vfl L := rfl
  refine ⟨L.map vce, fun r hr => ?_, ⟨?_, .inr ⟨g, cap, (vfl L ++ rest).toArray, by rw [List.length_map, hn], Nat.zero_le _, hr, by rw [List.length_map]; omega, hm, by simpa using hl, ?_⟩⟩, fr_at _ _ _ _ hB, All2.of_get (by simp) fun i r z hr hz => ?_⟩
  · obtain ⟨z, _, rfl⟩ := List.mem_map.1 hr
    rfl
  · rw [ef, vfl_len, List.length_map]
  · rw [List.toList_toArray, List.length_map, ← vfl_len, ef, List.take_left]
  · rw [List.getElem?_map, hz] at hr
    injection hr with hr
    exact hr.symm
theorem oneV {z : VC} (h : IsS z.1) : ∀ u ∈ vce z, u.oneCell' = true := by
  intro u hu
  simp only [vce, List.mem_cons, List.not_mem_nil, or_false] at hu
  rcases hu with rfl | rfl
  · rfl
  · exact h.one

set_option maxRecDepth 10000 in
set_option maxHeartbeats 4000000 in
/-- catenaryref06.Sort. -/
theorem refSort_any (w : World) (v : Value) (ys : List PVote) (h : RL RVote 2 Any w v ys) (hz : szL 32 szV ys) :
    Calls Tryd.prog 10 #[v] w fun e w' => ∃ v' zs, e = .returned v' ∧ RL RVote 2 Any w' v' zs ∧ Srt ks zs ∧ Sam ks ys zs ∧ Below w.heap.size w w' := by
  have le := Nat.le_refl w.heap.size
  have hz1 := hz.1
  obtain ⟨rows, ⟨h0, h1⟩, hall⟩ := h
  have hlen := hall.len
  obtain ⟨A, eA, eR, hQ⟩ := vc_rows (Q := fun s x => RT Any w s x.2) hall
  have hAl : A.length = ys.length := by rw [← eA, List.length_map]
  obtain ⟨N, hN⟩ : ∃ N, N = ys.length := ⟨_, rfl⟩
  obtain ⟨a0, c0, ev, hNm, hrd⟩ : ∃ a0 c0, v = .slice a0 N c0 ∧ N * 32 ≤ 140737488351232 ∧ ∀ k z, A[k]? = some z → ∃ b off, a0 = some ⟨b, off, none⟩ ∧ N ≤ c0 ∧ c0 ≤ maxLen ∧ ∀ u, Below w.heap.size w u → u.rangeAt b (off + k * 2) (vce z) := by
    rcases h1 with ⟨ao, cap, rfl, rfl, hcap⟩ | ⟨b, off, cap, rfl, hc1, hc2, hpos, _, hb, hr⟩
    · refine ⟨ao, cap, by rw [hN, ← hlen]; rfl, by omega, fun k z hk => ?_⟩
      have := (List.getElem?_eq_some_iff.1 hk).1
      simp at hlen
      omega
    · refine ⟨_, cap, by rw [hN, ← hlen], by omega, fun k z hk => ⟨b, off, rfl, by omega, hc2, fun u hu => rangeAt_block (hr k (vce z) (by rw [eR, List.getElem?_map, hk]; rfl)) (hu.block b hb)⟩⟩
  subst ev
  have HA := (show Hid (∀ k z, A[k]? = some z → ∃ b off, a0 = some ⟨b, off, none⟩ ∧ N ≤ c0 ∧ c0 ≤ maxLen ∧ ∀ u, Below w.heap.size w u → u.rangeAt b (off + k * 2) (vce z)) from hrd)
  have HQ := (show Hid ((∀ z ∈ A, RT Any w z.1 z.2.2) ∧ (∀ z ∈ A, IsS z.1)) from ⟨hQ, fun z hz => by obtain ⟨a, c, e, _⟩ := (hQ z hz).form; exact ⟨a, _, c, e⟩⟩)
  have HN := (show Hid (A.length = N ∧ A.map (·.2) = ys) from ⟨by omega, eA⟩)
  have hf : LB RVc 35 2 w.heap.size (w.alloc (.cells #[] 35)) (.slice (some ⟨w.heap.size, 0, none⟩) 0 0) [] := LB.fresh _ _ _ _ _ le
  clear h0 h1 hall hlen eA eR hQ hAl hrd hN hz hz1
  go_enter Tryd.func10, Tryd.ntmps10
  go_wp2_with fail
  go_loopw [3, 11] (fun o j wr => ∃ (k : Nat), j = .int .i64 k ∧ k ≤ N ∧ (∃ ad n c, o = .slice (some ad) n c) ∧ Hid (∃ L, LB RVc 35 2 w.heap.size wr o L ∧ Srt kv L ∧ Sam kv (A.take k) L) ∧ Below w.heap.size w wr) (fun _ j _ => N - (intOf j).toNat)
  case atStart => exact ⟨0, rfl, Nat.zero_le _, ⟨_, _, _, rfl⟩, ⟨[], hf, List.Pairwise.nil, Sam.refl _⟩, below_alloc _ _⟩
  case round =>
    clear hf
    obtain ⟨k, rfl, hkN, ⟨ad, no, co, rfl⟩, hS, hB⟩ := hrel
    obtain ⟨L, hL, hs, hm⟩ := hS.out
    have hLl : L.length = k := by rw [hm.1, List.length_take]; have := HN.out.1; omega
    by_cases hkl : k < N
    · obtain ⟨x, hx⟩ : ∃ x, A[k]? = some x := ⟨_, List.getElem?_eq_getElem (by have := HN.out.1; omega)⟩
      obtain ⟨tb, tof, rfl, ht1, ht2, htx⟩ := HA.out k x hx
      have hki : (k : Int) < (N : Int) := by omega
      have hrng := htx wr hB
      have tA : A.take (k + 1) = A.take k ++ [x] := take_snoc' A k x hx
      have ox : IsS x.1 := HQ.out.2 x (List.mem_of_getElem? hx)
      have hoL : ∀ z ∈ L, IsS z.1 := fun z hz => HQ.out.2 z (List.mem_of_mem_take (hm.mem.1 hz))
      obtain ⟨x1, x2⟩ := x
      obtain ⟨ax, nx, cx, rfl⟩ : IsS x1 := ox
      have hrow0 := Row.new wr 35 [.int .i64 0, .slice none 0 0]
      have hrng : wr.rangeAt tb (tof + k * 2) [.int .i64 x2.1, .slice ax nx cx] := hrng
      have HLL := (show Hid (Srt kv L ∧ Sam kv (A.take k) L ∧ L.length = k ∧ (∀ z ∈ L, IsS z.1) ∧ A.take (k + 1) = A.take k ++ [(.slice ax nx cx, x2)]) from ⟨hs, hm, hLl, hoL, tA⟩)
      clear hx htx tA hs hm hS hoL
      go_upto_region 5 with (first
        | (refine wpList_load_mid rfl _ _ rfl tb (tof + k * 2) rfl [.int .i64 x2.1, .slice ax nx cx] _ hrng Tryd.underlying35 rfl (by kernel_rfl) ?_)
        | (refine wl_store rfl _ _ _ rfl wr.heap.size [.int .i64 x2.1, .slice ax nx cx] rfl rfl _ _ hrow0 rfl (by kernel_rfl) (oneV (z := (.slice ax nx cx, x2)) ⟨_, _, _, rfl⟩) ?_; intro w5 hr5 hg5))
      have hb5 : Below wr.heap.size wr w5 := (below_alloc wr (.cells ([.int .i64 0, .slice none 0 0] : List Value).toArray 35)).trans (grown_below hg5 (by simp) (fun k hk => by cases hk; exact Nat.le_refl _))
      have hr5 := hr5.out
      have hL5 := hL.below mov_vc hb5
      have hB5 := below_and hB le hb5
      have hfr := hL5.fr
      clear hrow0 hg5 hrng hL
      go_upto_region 6 with (first
        | (refine wl_load rfl _ _ rfl wr.heap.size rfl _ _ hr5 _ Tryd.underlying35 rfl (by kernel_rfl) ?_)
        | (at_builtin; refine wl_push mov_vc rfl _ _ _ rfl 35 2 32 _ Tryd.underlying27 Tryd.infVoteS rfl (by decide) w.heap.size (.slice (some ad) no co) L rfl hL5 [.int .i64 x2.1, .slice ax nx cx] (.slice ax nx cx, x2) w5.heap.size rfl rfl (oneV (z := (.slice ax nx cx, x2)) ⟨_, _, _, rfl⟩) hB5.size hL5.lt rfl hB5.size (by rw [HLL.out.2.2.1]; omega) (by decide) ?_; intro v6 w6 hL6 hg6))
      have hB6 := hB5.trans (grown_below hg6 hB5.size hfr)
      obtain ⟨g, cap, rest, rfl, hR6, hRl, hc1, hc2, hgB⟩ := lb_open hL6 (by simp)
      have hl6 : (L ++ [((.slice ax nx cx, x2) : VC)]).length = k + 1 := by rw [List.length_append, HLL.out.2.2.1]; rfl
      rw [hl6] at hc1 ⊢
      have HRL := (show Hid ((vfl (L ++ [((.slice ax nx cx, x2) : VC)]) ++ rest).length = cap * 2) from hRl)
      have ST := (show Hid (∃ C B' : List VC, C.length = k ∧ L = C ++ B' ∧ (∀ y ∈ B', kv (.slice ax nx cx, x2) < kv y) ∧ Row w6 g 35 (vfl (C ++ (.slice ax nx cx, x2) :: B') ++ rest)) from ⟨L, [], HLL.out.2.2.1, by simp, (fun y hy => by cases hy), hR6⟩)
      have FIN := (show Hid (∀ (C B' : List VC) (u : World), L = C ++ B' → (∀ y ∈ B', kv (.slice ax nx cx, x2) < kv y) → (∀ y ∈ C, kv y ≤ kv (.slice ax nx cx, x2)) → Row u g 35 (vfl (C ++ (.slice ax nx cx, x2) :: B') ++ rest) → ∃ L, LB RVc 35 2 w.heap.size u (.slice (some ⟨g, 0, none⟩) (k + 1) cap) L ∧ Srt kv L ∧ Sam kv (A.take (k + 1)) L) from fun C B' u e h1 h2 hr => by
        obtain ⟨f1, f2, f3, f4, f5⟩ := HLL.out
        subst e
        have hi := insStep f1 h1 h2
        refine ⟨C ++ (.slice ax nx cx, x2) :: B', lb_shut hr ?_ ?_ hc1 hc2 hgB, hi.1, by rw [f5]; exact (f2.app (Sam.refl _)).trans hi.2⟩
        · have := HRL.out
          simp only [List.length_append, vfl_len, List.length_cons, List.length_nil] at this ⊢
          omega
        · simp only [List.length_append, List.length_cons] at f3 ⊢
          omega)
      have wk : IntKind.i64.wrap (((k + 1 : Nat) : Int) - 1) = (k : Int) := by rw [IntWalk.i64_in _ (by omega)]; omega
      have hk1 : k < k + 1 := Nat.lt_succ_self k
      clear hL6 hR6 hRl hl6 hg6 hr5 hL5 hfr hB hB5 hb5
      obtain ⟨K, hK⟩ : ∃ K, K = k + 1 := ⟨_, rfl⟩
      have hKi : ((k : Int) + 1) = (K : Int) := by omega
      rw [← hK] at wk hk1 hc1 FIN ⊢
      have HK := (show Hid (K = k + 1) from hK)
      clear hK
      go_wp2_with fail
      go_loopw [6] (fun j wx => ∃ J : Nat, j = .int .i64 J ∧ J ≤ k ∧ Hid (∃ C B' : List VC, C.length = J ∧ L = C ++ B' ∧ (∀ y ∈ B', kv (.slice ax nx cx, x2) < kv y) ∧ Row wx g 35 (vfl (C ++ (.slice ax nx cx, x2) :: B') ++ rest)) ∧ Below w.heap.size w wx) (fun j _ => (intOf j).toNat)
      case atStart => exact ⟨k, rfl, Nat.le_refl _, ST, hB6⟩
      case round =>
        clear ST hB6
        obtain ⟨J, rfl, hJk, hS, hB⟩ := hrel
        obtain ⟨C', B', hJ, hLC, hB', hr⟩ := hS.out
        by_cases hj : 0 < J
        · obtain ⟨C, y, hC⟩ : ∃ C y, C' = C ++ [y] := ⟨C'.dropLast, C'.getLast (fun e => by subst e; simp at hJ; omega), (List.dropLast_concat_getLast _).symm⟩
          subst hC
          have oy : IsS y.1 := HLL.out.2.2.2.1 y (by rw [hLC]; simp)
          obtain ⟨Z, hZ⟩ : ∃ Z, J = Z + 1 := ⟨J - 1, by omega⟩
          obtain ⟨y1, y2⟩ := y
          obtain ⟨ay, ny, cy, rfl⟩ : IsS y1 := oy
          have hlC : C.length = Z := by simp at hJ; omega
          have R6 : Row wr g 35 (vfl (C ++ (.slice ay ny cy, y2) :: (.slice ax nx cx, x2) :: B') ++ rest) := by simpa using hr
          obtain ⟨cx0, cx1⟩ := vfl_get (t := J) (y := (.slice ax nx cx, x2)) R6 (by rw [List.getElem?_append_right (by omega), hlC, show J - Z = 1 by omega]; rfl)
          obtain ⟨cy0, cy1⟩ := vfl_get (t := Z) (y := (.slice ay ny cy, y2)) R6 (by rw [List.getElem?_append_right (by omega), hlC, Nat.sub_self]; rfl)
          simp only at cx0 cx1 cy0 cy1
          have wz : IntKind.i64.wrap ((J : Int) - 1) = (Z : Int) := by rw [IntWalk.i64_in _ (by omega)]; omega
          have hji : (0 : Int) < (J : Int) := by omega
          have hJn : J < K := by omega
          have hZn : Z < K := by omega
          have HZJ := (show Hid (J = Z + 1) from hZ)
          by_cases hk : x2.1 < y2.1
          · have hd : decide (x2.1 < y2.1) = true := decide_eq_true hk
            obtain ⟨p1, p2⟩ := put_dn C B' (.slice ax nx cx, x2) (.slice ay ny cy, y2) rest
            rw [hlC] at p1 p2
            rw [← hZ] at p1
            have hfl : (vfl (C ++ ((.slice ay ny cy, y2) : VC) :: (.slice ax nx cx, x2) :: B') ++ rest).length = cap * 2 := by
              have h1 := HRL.out
              have h2 := congrArg List.length hLC
              simp only [List.length_append, vfl_len, List.length_cons, List.length_nil] at h1 h2 ⊢
              omega
            have f1 : J * 2 + [Value.int .i64 y2.1, .slice ay ny cy].length ≤ (vfl (C ++ ((.slice ay ny cy, y2) : VC) :: (.slice ax nx cx, x2) :: B') ++ rest).length := by rw [hfl]; simp only [List.length_cons, List.length_nil]; omega
            have f2 : Z * 2 + [Value.int .i64 x2.1, .slice ax nx cx].length ≤ (vfl (C ++ ((.slice ay ny cy, y2) : VC) :: (.slice ay ny cy, y2) :: B') ++ rest).length := by
              have : (vfl (C ++ ((.slice ay ny cy, y2) : VC) :: (.slice ay ny cy, y2) :: B') ++ rest).length = cap * 2 := by
                rw [← hfl]
                simp only [List.length_append, vfl_len, List.length_cons]
              rw [this]
              simp only [List.length_cons, List.length_nil]
              omega
            have gx : wr.rangeAt g (J * 2) [.int .i64 x2.1, .slice ax nx cx] := fun t u ht => by
              match t, ht with
              | 0, ht => injection ht with ht; rw [← ht]; exact cx0
              | 1, ht => injection ht with ht; rw [← ht]; exact cx1
              | t + 2, ht => simp at ht
            have hrow0 := Row.new wr 35 [.int .i64 0, .slice none 0 0]
            have hgl := R6.lt
            have HR6 := (show Hid (Row wr g 35 (vfl (C ++ (.slice ay ny cy, y2) :: (.slice ax nx cx, x2) :: B') ++ rest)) from R6)
            have NX := (show Hid (∀ u, Row u g 35 (vfl (C ++ (.slice ax nx cx, x2) :: (.slice ay ny cy, y2) :: B') ++ rest) → ∃ C B' : List VC, C.length = Z ∧ L = C ++ B' ∧ (∀ y ∈ B', kv (.slice ax nx cx, x2) < kv y) ∧ Row u g 35 (vfl (C ++ (.slice ax nx cx, x2) :: B') ++ rest)) from fun u hu => ⟨C, (.slice ay ny cy, y2) :: B', hlC, by rw [hLC]; simp, (fun z hz => by rcases List.mem_cons.1 hz with rfl | hz; exact hk; exact hB' z hz), hu⟩)
            have HP := (show Hid ((splice (vfl (C ++ (.slice ay ny cy, y2) :: (.slice ax nx cx, x2) :: B') ++ rest) (J * 2) [.int .i64 y2.1, .slice ay ny cy] = vfl (C ++ (.slice ay ny cy, y2) :: (.slice ay ny cy, y2) :: B') ++ rest) ∧ (splice (vfl (C ++ (.slice ay ny cy, y2) :: (.slice ay ny cy, y2) :: B') ++ rest) (Z * 2) [.int .i64 x2.1, .slice ax nx cx] = vfl (C ++ (.slice ax nx cx, x2) :: (.slice ay ny cy, y2) :: B') ++ rest)) from ⟨p1, p2⟩)
            have hZk : Z ≤ k := by omega
            generalize vfl (C ++ (.slice ay ny cy, y2) :: (.slice ax nx cx, x2) :: B') ++ rest = D0 at *
            generalize vfl (C ++ (.slice ay ny cy, y2) :: (.slice ay ny cy, y2) :: B') ++ rest = D1 at *
            generalize vfl (C ++ (.slice ax nx cx, x2) :: (.slice ay ny cy, y2) :: B') ++ rest = D2 at *
            clear R6 p1 p2 hfl hr hS hLC hB' hJ hlC hZ
            go_wp2_with fail
            go_quiet (fail)
            go_upto_region 10 with (first
              | (refine wpList_load_mid rfl _ _ rfl g (J * 2) (by simp [Act.eval, Act.put]) [.int .i64 x2.1, .slice ax nx cx] _ gx Tryd.underlying35 rfl (by kernel_rfl) ?_)
              | (refine wl_store rfl _ _ _ rfl wr.heap.size [.int .i64 x2.1, .slice ax nx cx] rfl rfl _ _ hrow0 rfl (by kernel_rfl) (oneV (z := (.slice ax nx cx, x2)) ⟨_, _, _, rfl⟩) ?_; intro w5 hr5 hg5))
            have hb5 : Below wr.heap.size wr w5 := ((bel_dn (Below.refl wr.heap.size wr) _).trans (below_alloc (wr.drewN _) (.cells ([.int .i64 0, .slice none 0 0] : List Value).toArray 35))).trans (grown_below (B := wr.heap.size) hg5 (by simp) (fun k hk => by cases hk; exact Nat.le_refl _))
            have r5 := hr5.out
            have R5 := HR6.out.below hb5
            have gy : w5.rangeAt g (Z * 2) [.int .i64 y2.1, .slice ay ny cy] := fun t u ht => by
              match t, ht with
              | 0, ht => injection ht with ht; rw [← ht]; exact keepC hb5 cy0
              | 1, ht => injection ht with ht; rw [← ht]; exact keepC hb5 cy1
              | t + 2, ht => simp at ht
            clear hr5 hg5 hrow0 gx
            go_wp2_with (first
              | (refine wpList_load_mid rfl _ _ rfl g (Z * 2) (by simp [Act.eval, Act.put]) [.int .i64 y2.1, .slice ay ny cy] _ gy Tryd.underlying35 rfl (by kernel_rfl) ?_)
              | (refine wl_put rfl _ _ _ rfl g (J * 2) [.int .i64 y2.1, .slice ay ny cy] (by simp [Act.eval, Act.put]) rfl _ _ R5 f1 (by kernel_rfl) (oneV (z := (.slice ay ny cy, y2)) ⟨_, _, _, rfl⟩) ?_; intro w7 hr7 hg7; have R7 := hr7.out; have r7 := r5.grown hg7 (fun e => by injection e with e; omega); rw [HP.out.1] at R7)
              | (refine wl_load rfl _ _ rfl wr.heap.size rfl _ _ r7 _ Tryd.underlying35 rfl (by kernel_rfl) ?_)
              | (refine wl_put rfl _ _ _ rfl g (Z * 2) [.int .i64 x2.1, .slice ax nx cx] (by simp [Act.eval, Act.put]) rfl _ _ R7 f2 (by kernel_rfl) (oneV (z := (.slice ax nx cx, x2)) ⟨_, _, _, rfl⟩) ?_; intro w8 hr8 hg8))
            go_roundw
            case rel =>
              have R8 := hr8.out
              rw [HP.out.2] at R8
              have hB5 := below_and hB le hb5
              have hB7 := hB5.trans (grown_below hg7 hB5.size (fun q hq => by cases hq; exact hgB))
              exact ⟨Z, by go_num, hZk, NX.out w8 R8, hB7.trans (grown_below hg8 hB7.size (fun q hq => by cases hq; exact hgB))⟩
            case measure => have := HZJ.out; simp [intOf]; omega
          · have hd : decide (x2.1 < y2.1) = false := decide_eq_false hk
            have FF := (show Hid (∃ L, LB RVc 35 2 w.heap.size wr (.slice (some ⟨g, 0, none⟩) K cap) L ∧ Srt kv L ∧ Sam kv (A.take K) L) from FIN.out (C ++ [(.slice ay ny cy, y2)]) B' wr hLC hB' (fun z hz => by
              have h1 := HLL.out.1
              rw [hLC] at h1
              have h2 : kv z ≤ y2.1 := by
                rcases List.mem_append.1 hz with hz | hz
                · exact h1.l.le z hz (.slice ay ny cy, y2) (by simp)
                · rw [List.mem_singleton.1 hz]; exact Int.le_refl _
              have h3 : y2.1 ≤ x2.1 := by omega
              exact Int.le_trans h2 h3) hr)
            clear R6 hr hS hLC hB' hJ hlC hZ
            go_wp2_with fail
            go_quiet (fail)
            go_wp2_with fail
            go_roundw
            case rel => exact ⟨k + 1, by go_num, by omega, ⟨_, _, _, rfl⟩, (by obtain ⟨L2, f1, f2, f3⟩ := FF.out; rw [HK.out] at f3; exact ⟨L2, f1, f2, f3⟩), hB.trans ⟨rfl, rfl, rfl, Nat.le_refl _, fun _ _ => rfl⟩⟩
            case measure => simp [intOf]; omega
        · have hji : decide ((0 : Int) < (J : Int)) = false := by simp; omega
          obtain rfl : J = 0 := by omega
          obtain rfl : C' = [] := List.eq_nil_of_length_eq_zero hJ
          have FF := (show Hid (∃ L, LB RVc 35 2 w.heap.size wr (.slice (some ⟨g, 0, none⟩) K cap) L ∧ Srt kv L ∧ Sam kv (A.take K) L) from FIN.out [] B' wr hLC hB' (fun y hy => by cases hy) hr)
          clear hr hS hLC hB' hJ
          go_wp2_with fail
          go_quiet (fail)
          go_wp2_with fail
          go_roundw
          case rel => exact ⟨k + 1, by go_num, by omega, ⟨_, _, _, rfl⟩, (by obtain ⟨L2, f1, f2, f3⟩ := FF.out; rw [HK.out] at f3; exact ⟨L2, f1, f2, f3⟩), hB.trans ⟨rfl, rfl, rfl, Nat.le_refl _, fun _ _ => rfl⟩⟩
          case measure => simp [intOf]; omega
    · have hki : decide ((k : Int) < (N : Int)) = false := by simp; omega
      obtain rfl : k = N := by omega
      have FIN := (show Hid (∃ zs, RL RVote 2 Any wr (.slice (some ad) no co) zs ∧ Srt ks zs ∧ Sam ks ys zs) from by
        have hAt : A.take k = A := by rw [List.take_of_length_le (by have := HN.out.1; omega)]
        rw [hAt] at hm
        refine ⟨L.map (·.2), ?_, Srt.map (f := fun z : VC => z.2) (k' := ks) (k := kv) (fun _ => rfl) hs, ?_⟩
        · rcases Nat.eq_zero_or_pos L.length with h | h
          · obtain rfl : L = [] := List.eq_nil_of_length_eq_zero h
            obtain ⟨rows, h0, hown, hfr, hall⟩ := hL
            have hr0 : rows = [] := List.eq_nil_of_length_eq_zero (by have := hall.len; simpa using this)
            subst hr0
            rcases hown.2 with ⟨e, _⟩ | ⟨g, cap, cur, e, _, hg, q1, q2, _⟩
            · cases e
            · exact ⟨[], ⟨(fun r hr => by cases hr), .inl ⟨_, cap, e, rfl, q2⟩⟩, trivial⟩
          · obtain ⟨g, cap, rest, e, hr, _, q1, q2, _⟩ := lb_open hL h
            rw [e]
            exact rl_vc hr rfl q1 q2 trivial fun z hz => (HQ.out.1 z (hm.mem.1 hz)).mv (Mv.below hB)
        · have := Sam.map (f := fun z : VC => z.2) (k' := ks) (fun _ => rfl) hm
          rwa [HN.out.2] at this)
      clear hL hs hm hS hLl
      go_wp2_with fail
      go_ret
      obtain ⟨zs, f1, f2, f3⟩ := FIN.out
      exact ⟨_, zs, rfl, f1, f2, f3, hB⟩
end Go.Proofs.YtkgjlmhgfefegaaDoor
end
