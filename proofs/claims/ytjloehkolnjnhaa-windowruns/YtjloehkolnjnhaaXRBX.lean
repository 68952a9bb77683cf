/- Windows in memory: Preps. Written by mk19p.py. -/
import Derived.Test.YtjloehkolnjnhaaXRBT
import Derived.Test.YtjloehkolnjnhaaXRBU
set_option linter.unusedSimpArgs false
set_option linter.unusedVariables false
namespace Go.Proofs.Ytjloehkolnjnhaa
open Go.RowKit Oct Kvl Bal Go.Shelf Go.Sort
theorem LB.ofInts {w : World} {B n : Nat} {v : Value} {ks : List Int} (h : w.ownsRow B 3 1 v n (ks.map encZ)) (hn : ks.length = n) : LB RInt 3 1 B w v ks := by
  have hr : ∀ l : List Int, (l.map fun x => [Value.int .i64 x]).flatten = l.map encZ := fun l => by
    induction l with
    | nil => rfl
    | cons x l ih => rw [List.map_cons, List.flatten_cons, ih, List.map_cons]; rfl
  have ha : ∀ (l : List Int) (P : Nat → Prop), All2 (RInt P w) (l.map fun x => [Value.int .i64 x]) l := fun l P => by
    induction l with
    | nil => trivial
    | cons x l ih => exact ⟨rfl, ih⟩
  refine ⟨ks.map fun x => [Value.int .i64 x], fun r hr => ?_, ?_, ?_, ha _ _⟩
  · obtain ⟨x, _, rfl⟩ := List.mem_map.1 hr
    rfl
  · rw [hr, List.length_map, hn]
    refine ⟨h.1, ?_⟩
    rcases h.2 with hq | ⟨g, cap, cur, e, g1, g2, g3⟩
    · exact .inl hq
    · exact .inr ⟨g, cap, cur, e, Nat.zero_le _, g2, g3⟩
  · intro g hg
    rcases h.2 with ⟨rfl, _⟩ | ⟨q, cap, cur, e, g1, g2, g3⟩
    · simp [Value.ownBlock] at hg
    · rw [e] at hg
      simp [Value.ownBlock] at hg
      omega
theorem RL.intAt {G : Nat → Prop} {w : World} {v : Value} {ks : List Int} (h : RL RInt 1 G w v ks) {i : Nat} {x : Int} (hi : ks[i]? = some x) : ∃ g off cap, v = .slice (some ⟨g, off, none⟩) ks.length cap ∧ ks.length ≤ cap ∧ cap ≤ maxLen ∧ G g ∧ g < w.heap.size ∧ ∀ u : World, u.heap[g]? = w.heap[g]? → u.cell? ⟨g, off + i, none⟩ = some (.int .i64 x) := by
  have hlt : i < ks.length := (List.getElem?_eq_some_iff.1 hi).1
  obtain ⟨g, off, cap, e, h1, h2, h3, h4, h5⟩ := h.at (by omega)
  obtain ⟨r, _, hr, hx⟩ := h5 i x hi
  subst hx
  refine ⟨g, off, cap, e, h1, h2, h3, h4, fun u hu => ?_⟩
  have := rangeAt_block hr hu 0 _ rfl
  simpa using this
set_option maxRecDepth 10000 in
set_option maxHeartbeats 4000000 in
theorem prepsW_any {G : Nat → Prop} {b m : Nat} {low : Int} {kn : List (Int × PSl)} (w : World) (h : Wnd G w b m low kn) :
    Calls Try.prog 18 #[.pointer (some ⟨b, 0, none⟩)] w fun e w' => ∃ (v : Value) (ss : List Int), e = .returned v ∧ ss.Perm (keysW kn) ∧
      RL RPrep 8 Any w' v (prepsP kn (ss.mergeSort (fun x y => decide (x ≤ y)))) ∧ Below w.heap.size w w' := by
  have hS := slotsW_any w h
  have hlenk := okW_len h.ok
  go_enter Try.func18, Try.ntmps18
  go_upto_region 3 with (go_at_call 16; refine hS.mono ?_; rintro e w1 ⟨v, ss, rfl, hperm, hown, b1⟩; have hml := List.length_mergeSort (le := fun x y : Int => decide (x ≤ y)) ss; have hLi := LB.ofInts hown hml; obtain ⟨va, vc, rfl⟩ := hLi.fmL)
  have hss : ss.length ≤ 16 := by
    have := hperm.length_eq
    unfold keysW at this
    rw [List.length_map] at this
    omega
  generalize hks : ss.mergeSort (fun x y => decide (x ≤ y)) = ks at *
  have HM := (show Hid (ks.length = ss.length) from hml)
  have hk16 : ks.length ≤ 16 := by omega
  have hRi := hLi.rl mov_int
  clear hS hown hml hLi
  go_loopw [3, 10] (fun l j wr => ∃ q : Nat, q ≤ ss.length ∧ j = .int .i64 q ∧ LB RPrep 39 8 w1.heap.size wr l (prepsP kn (ks.take q)) ∧ (prepsP kn (ks.take q)).length ≤ q ∧ Below w1.heap.size w1 wr) (fun _ j _ => ss.length - (intOf j).toNat)
  case atStart => exact ⟨0, by omega, rfl, LB.nil _ _ _ _ _, Nat.le_refl _, Below.refl _ _⟩
  case round =>
    obtain ⟨q, hq, rfl, hL, hll, hB⟩ := hrel
    obtain ⟨la, lc, rfl⟩ := hL.fmL
    by_cases hql : q < ss.length
    case neg =>
      have hqk : ks.take q = ks := List.take_of_length_le (by have := HM.out; omega)
      have hE : prepsP kn (ks.take q) = prepsP kn ks := by rw [hqk]
      clear hqk
      go_wp2_with fail
      go_ret
      refine ⟨_, ss, rfl, hperm, ?_, below_and b1 (Nat.le_refl _) hB⟩
      rw [hks, ← hE]
      exact (hL.rl mov_prep).mv mov_prep (Nat.le_refl _) Mv.any
    obtain ⟨k, hk⟩ : ∃ k, ks[q]? = some k := ⟨_, List.getElem?_eq_getElem (by rw [HM.out]; exact hql)⟩
    obtain ⟨g, off, cap, hve, _, _, _, hg, hci⟩ := hRi.intAt hk
    injection hve with hv1 hv2 hv3
    subst hv1 hv3
    have hst : prepsP kn (ks.take (q + 1)) = if (atL kn k).hp then prepsP kn (ks.take q) ++ [(k, (atL kn k).pred, (atL kn k).prep, (atL kn k).cert)] else prepsP kn (ks.take q) := by
      rw [List.take_add_one, hk]
      exact prepsP_step kn _ k
    have hkc := hci wr (hB.block g hg)
    have hBw := below_and b1 (Nat.le_refl _) hB
    have hwr := h.below hBw
    have c1 := hwr.row.cell (j := 1) rfl
    obtain ⟨r0, hr0, hlk⟩ := hwr.look k
    have hzk := hwr.ok.at k
    have hl1 := hlk wr rfl
    clear hv2 hk hci hlk
    have HW := (show Hid (Wnd G wr b m low kn) from hwr)
    clear hwr
    have hsl : RSl Any wr r0 (atL kn k) := mov_sl _ _ _ _ _ _ hr0 (Nat.le_refl _) Mv.any
    clear hr0
    obtain ⟨o1, g1, o2, g2, c1', o3, g3, v1, rfl, t1, t2, t3, t4, t5, t6, t7, t8⟩ := hsl
    obtain ⟨ao, co, rfl, _⟩ := t3.form
    obtain ⟨ag, cg, rfl, _⟩ := t4.form
    obtain ⟨ac, cc, rfl, _⟩ := t5.form
    have hrow0 := Row.new wr 33 [.int .i64 0, .int .i64 0, .int .i64 0, .int .i64 0, .slice none 0 0, .slice none 0 0, .int .i64 0, .int .i64 0, .int .i64 0, .int .i64 0, .slice none 0 0, .slice none 0 0, .slice none 0 0, .int .i64 0, .int .i64 0, .slice none 0 0, .slice none 0 0, .int .i64 0, .int .i64 0, .slice none 0 0, .bool false, .bool false, .bool false]
    have hone := one_RSl (G := Any) (w := wr) (x := atL kn k) ⟨o1, g1, _, _, _, o3, g3, v1, rfl, t1, t2, t3, t4, t5, t6, t7, t8⟩
    go_upto_region 6 with (refine wl_store rfl _ _ _ rfl wr.heap.size [.int .i64 (atL kn k).voted.1, .int .i64 (atL kn k).voted.2, .int .i64 (atL kn k).vote.1, .int .i64 (atL kn k).vote.2.1, o1, g1, .int .i64 (atL kn k).pred.1, .int .i64 (atL kn k).pred.2, .int .i64 (atL kn k).prep.1, .int .i64 (atL kn k).prep.2.1, .slice ao (atL kn k).prep.2.2.1.length co, .slice ag (atL kn k).prep.2.2.2.length cg, .slice ac (atL kn k).cert.length cc, .int .i64 (atL kn k).done.1, .int .i64 (atL kn k).done.2.1, o3, g3, .int .i64 (atL kn k).bal.1, .int .i64 (atL kn k).bal.2, v1, .bool (atL kn k).hv, .bool (atL kn k).hp, .bool (atL kn k).hd] rfl rfl _ _ hrow0 rfl (by kernel_rfl) hone ?_; intro w5 r5 g5)
    have b5 : Below wr.heap.size wr w5 := (below_alloc wr (.cells ([.int .i64 0, .int .i64 0, .int .i64 0, .int .i64 0, .slice none 0 0, .slice none 0 0, .int .i64 0, .int .i64 0, .int .i64 0, .int .i64 0, .slice none 0 0, .slice none 0 0, .slice none 0 0, .int .i64 0, .int .i64 0, .slice none 0 0, .slice none 0 0, .int .i64 0, .int .i64 0, .slice none 0 0, .bool false, .bool false, .bool false] : List Value).toArray 33)).trans (grown_below g5 (by simp) (fun k hk => by cases hk; exact Nat.le_refl _))
    have r5 := r5.out
    have hL5 := hL.below mov_prep b5
    have hB5 := below_and hB (Nat.le_refl _) b5
    obtain ⟨cS, hcS⟩ : ∃ c, c = wr.heap.size := ⟨_, rfl⟩
    rw [← hcS] at r5 ⊢
    have t3 := t3.mv (Mv.below b5)
    have t4 := t4.mv (Mv.below b5)
    have t5 := t5.mv mov_vote b5.size (Mv.below b5)
    clear hrow0 g5 hcS hL hB b5 hone hl1 c1 hkc t1 t2 t6 t7 t8
    have k21 := r5.cell (j := 21) rfl
    go_upto_if 21 with fail
    cases hkn : (atL kn k).hp with
    | false =>
      rw [hkn] at hst
      rw [if_neg (by decide)] at hst
      have HST := (show Hid (_ = _) from hst)
      clear hst
      go_wp2_with fail
      go_roundw
      case rel => exact ⟨q + 1, by omega, by go_num, by rw [HST.out]; exact hL5, by rw [HST.out]; omega, hB5⟩
      case measure => simp [intOf]; omega
    | true =>
      rw [hkn] at hst
      rw [if_pos rfl] at hst
      have HST := (show Hid (_ = _) from hst)
      clear hst k21
      have k12 := r5.cell (j := 12) rfl
      have hCL := clonePrepS_any w5 [.int .i64 k, .int .i64 (atL kn k).pred.1, .int .i64 (atL kn k).pred.2, .int .i64 (atL kn k).prep.1, .int .i64 (atL kn k).prep.2.1, .slice ao (atL kn k).prep.2.2.1.length co, .slice ag (atL kn k).prep.2.2.2.length cg, .slice ac (atL kn k).cert.length cc] (k, (atL kn k).pred, (atL kn k).prep, (atL kn k).cert) ⟨_, _, _, rfl, t3, t4, t5⟩ ⟨hzk.2.1, hzk.2.2.1⟩
      clear t3 t4 t5
      have hLlt := hL5.lt
      have h5s := hB5.size
      go_wp2_with (first
        | (refine wl_part rfl _ _ rfl cS 6 rfl _ _ r5 [.int .i64 (atL kn k).pred.1, .int .i64 (atL kn k).pred.2] rfl _ Try.underlying27 rfl (by kernel_rfl) ?_)
        | (refine wl_part rfl _ _ rfl cS 8 rfl _ _ r5 [.int .i64 (atL kn k).prep.1, .int .i64 (atL kn k).prep.2.1, .slice ao (atL kn k).prep.2.2.1.length co, .slice ag (atL kn k).prep.2.2.2.length cg] rfl _ Try.underlying30 rfl (by kernel_rfl) ?_)
        | (go_at_call 38; refine hCL.mono ?_; rintro e w6 ⟨r6, rfl, hr6, b6⟩; have hL6 := hL5.below mov_prep b6; have h6s := b6.size; have hr6o := one_RPrep hr6; obtain ⟨po, ps, pc, rfl, f1, f2, f3⟩ := hr6)
        | (at_builtin; go_loud (refine wl_pushS mov_prep rfl _ _ _ rfl 39 8 112 _ Try.underlying54 Try.infPrepW rfl (by decide) w1.heap.size (.slice la (prepsP kn (ks.take q)).length lc) (prepsP kn (ks.take q)) rfl hL6 [.int .i64 k, .int .i64 (atL kn k).pred.1, .int .i64 (atL kn k).pred.2, .int .i64 (atL kn k).prep.1, .int .i64 (atL kn k).prep.2.1, po, ps, pc] (k, (atL kn k).pred, (atL kn k).prep, (atL kn k).cert) w5.heap.size ⟨_, _, _, rfl, f1, f2, f3⟩ rfl hr6o h5s hLlt rfl (Nat.le_trans h5s h6s) (by omega) (by decide) ?_; intro v7 w7 hL7 g7 hS7)))
      have hB6 := below_and hB5 (Nat.le_refl _) b6
      have hB7 := hB6.trans (grown_below g7 hB6.size (fun k hk => hL6.fr k hk))
      go_roundw
      case rel => exact ⟨q + 1, by omega, by go_num, by rw [HST.out]; exact hL7, by rw [HST.out]; simp; omega, hB7⟩
      case measure => simp [intOf]; omega
end Go.Proofs.Ytjloehkolnjnhaa
