/- slices.SortStableFunc over votes; vote.Sort. -/
import Derived.Test.YtgpkngiakhdmhaaDoorSABW
import Derived.Test.YtgpkngiakhdmhaaDoorSABJ
set_option linter.unusedSimpArgs false
set_option linter.unusedVariables false
namespace Go.Proofs.YtgpkngiakhdmhaaDoor
open Go.RowKit Oct Stb
/-- Votes with where their signatures lie. -/
theorem vc_of {Q : Value → PVote → Prop} : ∀ {rows : List (List Value)} {ys : List PVote}, All2 (fun r x => ∃ s, r = [.int .i64 x.1, s] ∧ Q s x) rows ys → ∃ L : List VC, L.map (·.2) = ys ∧ rows.flatten = vfl L ∧ (∀ z ∈ L, Q z.1 z.2)
  | [], [], _ => ⟨[], rfl, rfl, fun z hz => by cases hz⟩
  | r :: rows, y :: ys, h => by
    obtain ⟨⟨s, rfl, hq⟩, h2⟩ := h
    obtain ⟨L, e1, e2, e3⟩ := vc_of h2
    refine ⟨(s, y) :: L, by simp [e1], by rw [List.flatten_cons, e2, vfl_cons]; rfl, fun z hz => ?_⟩
    rcases List.mem_cons.1 hz with rfl | hz
    · exact hq
    · exact e3 z hz
  | [], _ :: _, h => h.elim
  | _ :: _, [], h => h.elim
/-- A row of votes is a list that can be read. -/
theorem rl_vc {G : Nat → Prop} {w : World} {g n cap : Nat} {C : List VC} {rest : List Value} (hR : Row w g 28 (vfl C ++ rest)) (hn : C.length = n) (hc : n ≤ cap) (hm : cap ≤ maxLen) (hg : G g) (hq : ∀ z ∈ C, RT G w z.1 z.2.2) : RL RVote 2 G w (.slice (some ⟨g, 0, none⟩) n cap) (C.map (·.2)) := by
  refine ⟨C.map vce, ⟨fun r hr => ?_, ?_⟩, All2.of_get (by simp) fun i r x hr hx => ?_⟩
  · obtain ⟨z, _, rfl⟩ := List.mem_map.1 hr
    rfl
  · rcases Nat.eq_zero_or_pos n with h | h
    · subst h
      obtain rfl : C = [] := List.eq_nil_of_length_eq_zero hn
      exact .inl ⟨_, cap, rfl, rfl, hm⟩
    · refine .inr ⟨g, 0, cap, by rw [List.length_map, hn], by rw [List.length_map]; omega, hm, by rw [List.length_map]; omega, hg, hR.lt, fun i r hr => ?_⟩
      rw [List.getElem?_map] at hr
      cases hz : C[i]? with
      | none => rw [hz] at hr; cases hr
      | some z =>
        rw [hz] at hr
        injection hr with hr
        obtain ⟨c0, c1⟩ := vfl_get hR hz
        intro j u hj
        rw [← hr] at hj
        match j, hj with
        | 0, hj => injection hj with hj; rw [← hj, Nat.zero_add]; exact c0
        | 1, hj => injection hj with hj; rw [← hj, Nat.zero_add]; exact c1
        | j + 2, hj => simp [vce] at hj
  · rw [List.getElem?_map] at hr hx
    cases hz : C[i]? with
    | none => rw [hz] at hr; cases hr
    | some z =>
      rw [hz] at hr hx
      injection hr with hr
      injection hx with hx
      subst hr hx
      exact ⟨z.1, rfl, hq z (List.mem_of_getElem? hz)⟩
def ks (x : PVote) : Int := x.1
theorem insNil_any (w : World) (f : Value) : Calls Tryd.prog 61 #[.slice none 0 0, .int .i64 0, .int .i64 0, f] w fun e w' => e = .returned (.tuple #[]) ∧ w' = w := by
  go_enter Tryd.func61, Tryd.ntmps61
  go_wp2_with fail
  refine wp_loop_rounds 1 ?_; rw [rounds_succ]
  go_wp2_with fail
  go_end0
  exact ⟨rfl, rfl⟩
theorem stableNil_any (w : World) (f : Value) : Calls Tryd.prog 42 #[.slice none 0 0, .int .i64 0, f] w fun e w' => e = .returned (.tuple #[]) ∧ w' = w := by
  go_enter Tryd.func42, Tryd.ntmps42
  go_wp2_with fail
  refine wp_loop_rounds 1 ?_; rw [rounds_succ]
  go_wp2_with (go_at_call 61; refine (insNil_any w f).mono ?_; rintro e w ⟨rfl, rfl⟩)
  refine wp_loop_rounds 1 ?_; rw [rounds_succ]
  go_wp2_with fail
  go_end0
  exact ⟨rfl, rfl⟩
theorem ssfNil_any (w : World) (f : Value) : Calls Tryd.prog 32 #[.slice none 0 0, f] w fun e w' => e = .returned (.tuple #[]) ∧ w' = w := by
  go_enter Tryd.func32, Tryd.ntmps32
  go_wp2_with (go_at_call 42; refine (stableNil_any w f).mono ?_; rintro e w ⟨rfl, rfl⟩)
  go_end0
  exact ⟨rfl, rfl⟩
theorem ssf_any (w : World) (g n cap : Nat) (L : List VC) (rest : List Value) (hR : Row w g 28 (vfl L ++ rest)) (hn : L.length = n) (hc : n ≤ cap) (hm : cap ≤ maxLen) (hn48 : n ≤ 281474976710656) (hone : ∀ z ∈ L, IsS z.1) :
    Calls Tryd.prog 32 #[.slice (some ⟨g, 0, none⟩) n cap, .func (.func 33) #[] #[]] w fun e w' => e = .returned (.tuple #[]) ∧ (∃ C, Srt kv C ∧ Sam kv L C ∧ Row w' g 28 (vfl C ++ rest)) ∧ w.grownBy w' (some g) := by
  have hS := stable_any w g n cap L rest hR hn hc hm hn48 hone
  clear hR hn
  go_enter Tryd.func32, Tryd.ntmps32
  go_wp2_with (go_at_call 42; refine hS.mono ?_; rintro e w1 ⟨rfl, h1, h2⟩)
  go_end0
  exact ⟨rfl, h1, h2⟩
/-- vote.Sort. -/
theorem vSort_any (w : World) (v : Value) (ys : List PVote) (h : RL RVote 2 Any w v ys) (hz : szL 32 szV ys) :
    Calls Tryd.prog 26 #[v] w fun e w' => ∃ v' zs, e = .returned v' ∧ RL RVote 2 (From w.heap.size) w' v' zs ∧ Srt ks zs ∧ Sam ks ys zs ∧ Below w.heap.size w w' := by
  have hC := cvotesL_any w v ys h hz
  have hz1 := hz.1
  obtain ⟨av, cv, rfl, _⟩ := h.form
  clear h
  go_enter Tryd.func26, Tryd.ntmps26
  go_upto_region 2 with (go_at_call 31; refine hC.mono ?_; rintro e w1 ⟨v1, rfl, hL1, hb1⟩)
  obtain ⟨rows, h0, hown, hfr, hall⟩ := hL1
  have hlen := hall.len
  rcases hown.2 with ⟨rfl, hy0⟩ | ⟨g, cap, cur, rfl, _, hrow, hc1, hc2, hc3, hc4⟩
  · obtain rfl : ys = [] := List.eq_nil_of_length_eq_zero (by omega)
    have hN := ssfNil_any w1 (.func (.func 33) #[] #[])
    clear hown hfr hall hlen h0 hy0
    go_wp2_with (go_at_call 32; refine hN.mono ?_; rintro e w1 ⟨rfl, rfl⟩)
    go_ret
    exact ⟨_, [], rfl, RL.nil _ _ _ _, List.Pairwise.nil, Sam.refl _, hb1⟩
  · obtain ⟨L, e1, e2, e3⟩ := vc_of (Q := fun s x => RT (fun b => w.heap.size ≤ b ∧ (Value.slice (some ⟨g, 0, none⟩) rows.length cap).ownBlock ≠ some b) w1 s x.2) hall
    have hLl : L.length = rows.length := by have := congrArg List.length e1; rw [List.length_map] at this; omega
    have hcur : cur.toList = vfl L ++ cur.toList.drop (rows.length * 2) := by
      rw [← e2, ← hc4, List.take_append_drop]
    have hR1 : Row w1 g 28 (vfl L ++ cur.toList.drop (rows.length * 2)) := by
      rw [← hcur]
      unfold Row
      simpa using hrow
    have hgw : w.heap.size ≤ g := hfr g rfl
    have hS := ssf_any w1 g rows.length cap L _ hR1 hLl hc1 hc2 (by omega) (fun z hz => by
      obtain ⟨a, c, e, _⟩ := (e3 z hz).form
      exact ⟨a, _, c, e⟩)
    generalize rows.length = n at *
    have FIN := (show Hid (∀ (C : List VC) (u : World), Srt kv C → Sam kv L C → Row u g 28 (vfl C ++ cur.toList.drop (n * 2)) → w1.grownBy u (some g) → RL RVote 2 (From w.heap.size) u (.slice (some ⟨g, 0, none⟩) n cap) (C.map (·.2)) ∧ Srt ks (C.map (·.2)) ∧ Sam ks ys (C.map (·.2)) ∧ Below w.heap.size w u) from fun C u h1 h2 h3 h4 => by
      refine ⟨rl_vc h3 (by rw [h2.1]; exact hLl) hc1 hc2 hgw fun z hz => ?_, Srt.map (fun _ => rfl) h1, ?_, hb1.trans (grown_below h4 hb1.size (fun k hk => by cases hk; exact hgw))⟩
      · exact (e3 z (h2.mem.1 hz)).mv fun k hk hl => ⟨h4.block k hl (fun e => hk.2 (by injection e with e; rw [e]; rfl)), hk.1⟩
      · have := Sam.map (f := fun z : VC => z.2) (k' := ks) (fun _ => rfl) h2
        rwa [e1] at this)
    clear hrow hcur hR1 e1 e2 e3 hall hown h0 hfr hc4 hlen hLl hc3
    go_wp2_with (go_at_call 32; refine hS.mono ?_; rintro e w2 ⟨rfl, ⟨C, h1, h2, h3⟩, h4⟩)
    go_ret
    obtain ⟨f1, f2, f3, f4⟩ := FIN.out C w2 h1 h2 h3 h4
    exact ⟨_, _, rfl, f1, f2, f3, f4⟩
end Go.Proofs.YtgpkngiakhdmhaaDoor
