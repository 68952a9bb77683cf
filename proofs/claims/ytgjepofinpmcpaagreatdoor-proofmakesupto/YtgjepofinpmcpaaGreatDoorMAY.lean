/- The document's writing: requests. -/
import Derived.Test.YtgjepofinpmcpaaGreatDoorMAQ
import Derived.Great.BuildSlice
import Derived.Test.YtgjepofinpmcpaaGreatDoorMAP
set_option linter.unusedVariables false
namespace Go.Proofs.YtgjepofinpmcpaaGreatDoor
section
open Go.RowKit Oct Sha
theorem zTj {ll : List (List Int)} {k : Nat} {x : List Int} (h : ll[k]? = some x) : (ll.take (k + 1)).flatten = (ll.take k).flatten ++ x := by
  rw [List.take_add_one, h]
  simp
theorem flat_le (ll : List (List Int)) (k : Nat) : (ll.take k).flatten.length ≤ ll.flatten.length := by
  conv => rhs; rw [← List.take_append_drop k ll]
  rw [List.flatten_append, List.length_append]
  omega
theorem zC0.nth {α β : Type} {R : α → β → Prop} {xs : List α} {ys : List β} (h : zC0 R xs ys) {i : Nat} {a : α} (ha : xs[i]? = some a) : ∃ b, ys[i]? = some b ∧ R a b := by
  have hl := h.len
  have hi : i < xs.length := (List.getElem?_eq_some_iff.1 ha).1
  have hb : ys[i]? = some ys[i] := List.getElem?_eq_getElem (by omega)
  exact ⟨_, hb, h.get ha hb⟩
set_option maxHeartbeats 1000000 in
theorem zUf (w : World) (b : Nat) (l : List Int) (v : Value) (vs : List Value) (ll : List (List Int)) (hh : Hs w b l) (hv : Rdv w v vs) (he : zC0 (Rd w) vs ll) (ha : ∀ k, v.ownBlock = some k → k ≠ b)
    (hb : ∀ (i : Nat) (u : Value) (x : List Int), vs[i]? = some u → ll[i]? = some x → 0 < x.length → ∀ k, u.ownBlock = some k → k ≠ b) (hb0 : b ≠ 1) (ht : Tab w) (hlen : l.length + ll.flatten.length < 1152921504606846976) :
    Calls Tryz.prog 117 #[.pointer (some ⟨b, 0, none⟩), v] w fun e w' => e = .returned (.tuple #[]) ∧ Hs w' b (l ++ ll.flatten) ∧ w.grownBy w' (some b) := by
  by_cases h0 : 0 < vs.length
  · obtain ⟨vb, off, cap, rfl, hc1, hc2, hvb, hcell⟩ := hv.at h0
    have hvbb : vb ≠ b := ha vb rfl
    have HC := (show Hid (∀ (j : Nat) (u : Value), vs[j]? = some u → w.cell? ⟨vb, off + j, none⟩ = some u) from hcell)
    have hm : (vs.length : Int) ≤ 9223372036854775807 := by unfold maxLen at hc2; omega
    clear hcell hv ha
    go_enter Tryz.func117, Tryz.ntmps117
    go_wp2_with fail
    go_loopw [8] (fun i wr => ∃ k : Nat, k ≤ vs.length ∧ i = .int .i64 k ∧ Hs wr b (l ++ (ll.take k).flatten) ∧ w.grownBy wr (some b)) (fun i _ => vs.length - (intOf i).toNat)
    case atStart => exact ⟨0, by omega, rfl, by simpa using hh, zBi _ _⟩
    case round =>
      obtain ⟨k, hk, rfl, hs, hg⟩ := hrel
      by_cases hkl : k < vs.length
      · obtain ⟨u, hu⟩ : ∃ u, vs[k]? = some u := ⟨_, List.getElem?_eq_getElem hkl⟩
        obtain ⟨x, hx, hr⟩ := he.nth hu
        have hcu : wr.cell? ⟨vb, off + k, none⟩ = some u := (zEp hg hvb hvbb _).trans (HC.out k u hu)
        have hub : 0 < x.length → ∀ k, u.ownBlock = some k → k ≠ b := hb k u x hu hx
        have hrr : Rd wr u x := hr.grown hg (fun hne k hk => by injection hk with hk; subst hk; exact fun e => hub (List.length_pos_iff.2 hne) _ e rfl)
        have htr := ht.grown hg (by simpa using hb0)
        have hfl := zTj hx
        have hle : (ll.take k).flatten.length + x.length ≤ ll.flatten.length := by
          have := flat_le ll (k + 1)
          rw [hfl, List.length_append] at this
          exact this
        have HF := (show Hid ((ll.take (k + 1)).flatten = (ll.take k).flatten ++ x) from hfl)
        obtain ⟨ao, ucap, rfl, hucap⟩ := hrr.form
        clear hu hr hx hfl
        go_wp2_with fail
        refine (add_any wr b _ _ x hs hrr hub hb0 htr (by rw [List.length_append]; omega)).mono ?_
        rintro e w2 ⟨rfl, hs2, hg2⟩
        have HS2 := (show Hid (Hs w2 b (l ++ (ll.take (k + 1)).flatten)) by rw [HF.out, ← List.append_assoc]; exact hs2)
        have hg2' := zA2 hg hg2 (.inl rfl)
        clear hs2 hg2 hg hs hcu hub hrr htr hle HF
        go_wp2_with fail
        go_roundw
        case rel => exact ⟨k + 1, by omega, by go_num, HS2, hg2'⟩
        case measure => simp [intOf]; omega
      · have hs' : Hs wr b (l ++ ll.flatten) := by
          rwa [List.take_of_length_le (by rw [← he.len]; omega)] at hs
        go_wp2_with fail
        go_end0
        exact ⟨rfl, hs', hg⟩
  · obtain ⟨ao, cap, rfl, hcap⟩ := hv.form
    have hvs : vs = [] := List.eq_nil_of_length_eq_zero (by omega)
    subst hvs
    have hll : ll = [] := List.eq_nil_of_length_eq_zero (by rw [← he.len]; rfl)
    subst hll
    rw [List.flatten_nil, List.append_nil]
    clear hv he ha hb h0 hlen
    go_enter Tryz.func117, Tryz.ntmps117
    go_wp2_with fail
    refine wp_loop_rounds 1 ?_
    rw [rounds_succ]
    go_wp2_with fail
    go_end0
    exact ⟨rfl, hh, zBi _ _⟩
theorem zUt (w : World) : Calls Tryz.prog 133 #[] w fun e w' => e = .returned (.agg st0.vs.toArray) ∧ Below w.heap.size w w' := by
  go_enter Tryz.func133, Tryz.ntmps133
  go_wp2_with fail
  exact bodyPost_ret (v := .agg st0.vs.toArray) (results_cell_row rfl _ _ w.heap.size _ st0.vs.toArray (0, 0) _ (by rfl) (heap_alloc_new w _) Tryz.und38 rfl (by kernel_rfl)) rfl ⟨rfl, zA0 w _⟩
theorem new_any (w : World) : Calls Tryz.prog 116 #[] w fun e w' => ∃ b, e = .returned (.pointer (some ⟨b, 0, none⟩)) ∧ w.heap.size ≤ b ∧ Hs w' b [] ∧ Below w.heap.size w w' := by
  go_enter Tryz.func116, Tryz.ntmps116
  go_wp2_with fail
  refine (zUt w).mono ?_
  rintro e w1 ⟨rfl, hb1⟩
  go_wp2_with (refine wpList_buildTo (by rfl) 189 _ (by rfl) _ (by rfl) (zB5 st0 (List.replicate 64 0) 0).toArray (by kernel_rfl) ?_)
  go_ret
  exact ⟨w1.heap.size, rfl, hb1.size, ⟨List.replicate 64 0, ⟨rfl, zH8 64, rfl⟩, Row.new w1 189 _⟩, zA1 hb1 zN (zA0 w1 _)⟩
end
section
open Go.RowKit Oct
def cMn : Cdc Int := ⟨fun n => okI n && decide (n ≤ 64), zCm, fun _ => none⟩
theorem App.after {w w4 w5 : World} {sv v4 : Value} {X : List Value} (h : App w 5 sv w4 v4 X) {b : Nat} (hb : w.heap.size ≤ b) (hg : w4.grownBy w5 (some b)) (hn : v4.ownBlock ≠ some b) : App w 5 sv w5 v4 X :=
  ⟨h.own.grown hg (fun k hk => by cases hk; exact hn), zA2 h.grown hg (.inr fun k hk => by cases hk; exact hb), h.spot⟩
theorem zC9 {ao : Option Addr} {n c : Nat} {b : Bool} : ∀ x ∈ [Value.slice ao n c, Value.bool b], x.oneCell' = true := by
  intro x hx
  simp only [List.mem_cons, List.not_mem_nil, or_false] at hx
  rcases hx with rfl | rfl <;> rfl
set_option maxRecDepth 10000 in
set_option maxHeartbeats 2000000 in
theorem zCz (w : World) (sv : Value) (bad : Bool) (L : List Int) (n : Int) (hown : Own w 5 sv (bc L)) (hl : L.length ≤ 140737488355300) :
    Calls Tryz.prog 104 #[.agg #[sv, .bool bad], .int .i64 n] w (zCb cMn n w sv bad L) := by
  obtain ⟨w2, hw2⟩ : ∃ w2, w2 = (w.alloc (.cells #[sv, .bool bad] 109)).alloc (.cells #[.slice none 0 0, .bool false] 109) := ⟨_, rfl⟩
  have ra : Row w2 w.heap.size 109 [sv, .bool bad] := by rw [hw2]; exact zA4 (Row.new w _ _) _
  have rr : Row w2 (w.heap.size + 1) 109 [.slice none 0 0, .bool false] := by
    rw [hw2]
    have := Row.new (w.alloc (.cells #[sv, .bool bad] 109)) 109 [.slice none 0 0, .bool false]
    simpa using this
  have hB : Below w.heap.size w w2 := by rw [hw2]; exact ((Below.refl _ w).alloc zN _).alloc (by simp) _
  have hoL := hown.below hB
  have hne1 := zA6 ra hoL (by decide)
  have hne2 := zA6 rr hoL (by decide)
  have c0 := ra.cell (j := 0) rfl
  have c1 := ra.cell (j := 1) rfl
  have hI := zAq w2 sv bad L n hoL hl
  go_enter Tryz.func104, Tryz.ntmps104
  go_upto_region 1 with fail
  rw [← hw2]
  clear hw2
  go_wp2_with fail
  refine hI.mono ?_
  rintro e w3 ⟨v3, rfl, happ3⟩
  obtain ⟨ao3, n3, k3, rfl⟩ := zAg happ3.own
  have ra3 := ra.grown happ3.grown hne1
  have rr3 := rr.grown happ3.grown hne2
  have hap3 := App.pre hB happ3
  have HB := (show Hid ((bad || !cMn.ok n) = ((bad || !cN.ok n) || decide (64 < n))) by
    show (bad || !(okI n && decide (n ≤ 64))) = ((bad || !okI n) || decide (64 < n))
    by_cases h : n ≤ 64
    · have : ¬ 64 < n := by omega
      simp [h, this]
    · have : 64 < n := by omega
      simp [h, this])
  clear hI c0 c1 happ3 ra rr hown hoL hl
  generalize (bad || !cN.ok n) = b3 at *
  have ending : ∀ (w4 w5 w6 : World) (b4 : Bool) (xs ys zs : List Value), Row w4 w.heap.size 109 xs → Row w5 w.heap.size 109 ys → Row w6 (w.heap.size + 1) 109 zs → w3.grownBy w4 (some w.heap.size) → w4.grownBy w5 (some w.heap.size) → w5.grownBy w6 (some (w.heap.size + 1)) →
      App w 5 sv w6 (.slice ao3 n3 k3) (bc (L ++ cN.wr n)) := by
    intro w4 w5 w6 b4 xs ys zs r4 r5 r6 g4 g5 g6
    have a4 := App.after hap3 zN g4 (zA6 ra3 hap3.own (by decide))
    have a5 := App.after a4 zN g5 (zA6 r4 a4.own (by decide))
    exact App.after a5 (Nat.le_succ _) g6 (zA6 ((rr3.grown g4 (fun e => by injection e; omega)).grown g5 (fun e => by injection e; omega)) a5.own (by decide))
  have HE := (show Hid (∀ _ : Unit, _) from fun _ => ending)
  clear ending
  cases b3 with
  | false =>
    go_wp2_with (first
      | (refine zA7 rfl _ _ _ rfl w.heap.size [.slice ao3 n3 k3, .bool false] rfl rfl _ _ ra3 rfl (by kernel_rfl) zC9 ?_; intro w4 hr4 hg4; have ra4 := hr4.out; have c1 := ra4.cell (j := 1) rfl; have rr4 := rr3.grown hg4 (fun e => by injection e; omega); clear hr4)
      | (refine zAb rfl _ _ _ rfl w.heap.size 1 _ rfl rfl _ _ ra4 (show 1 < 2 by decide) (by kernel_rfl) rfl ?_; intro w5 hr5 hg5; have ra5 : Row w5 w.heap.size 109 [.slice ao3 n3 k3, .bool (decide (64 < n))] := hr5.out; have rr5 := rr4.grown hg5 (fun e => by injection e; omega); clear hr5)
      | (refine zAa rfl _ _ rfl w.heap.size rfl _ _ ra5 _ Tryz.underlying109 rfl (by kernel_rfl) ?_)
      | (refine zA7 rfl _ _ _ rfl (w.heap.size + 1) [.slice ao3 n3 k3, .bool (decide (64 < n))] rfl rfl _ _ rr5 rfl (by kernel_rfl) zC9 ?_; intro w6 hr6 hg6))
    have hr6 := hr6.out
    refine bodyPost_ret (v := .agg ([.slice ao3 n3 k3, .bool (decide (64 < n))] : List Value).toArray) (results_cell_row rfl _ _ (w.heap.size + 1) _ _ (0, 0) _ (by rfl) hr6 Tryz.underlying109 rfl (by kernel_rfl)) rfl ?_
    refine ⟨_, ?_, HE.out () w4 w5 w6 true _ _ _ ra4 ra5 hr6 hg4 hg5 hg6⟩
    rw [HB.out]
    rfl
  | true =>
    go_wp2_with (first
      | (refine zA7 rfl _ _ _ rfl w.heap.size [.slice ao3 n3 k3, .bool true] rfl rfl _ _ ra3 rfl (by kernel_rfl) zC9 ?_; intro w4 hr4 hg4; have ra4 := hr4.out; have c1 := ra4.cell (j := 1) rfl; have rr4 := rr3.grown hg4 (fun e => by injection e; omega); clear hr4)
      | (refine zAb rfl _ _ _ rfl w.heap.size 1 _ rfl rfl _ _ ra4 (show 1 < 2 by decide) (by kernel_rfl) rfl ?_; intro w5 hr5 hg5; have ra5 : Row w5 w.heap.size 109 [.slice ao3 n3 k3, .bool true] := hr5.out; have rr5 := rr4.grown hg5 (fun e => by injection e; omega); clear hr5)
      | (refine zAa rfl _ _ rfl w.heap.size rfl _ _ ra5 _ Tryz.underlying109 rfl (by kernel_rfl) ?_)
      | (refine zA7 rfl _ _ _ rfl (w.heap.size + 1) [.slice ao3 n3 k3, .bool true] rfl rfl _ _ rr5 rfl (by kernel_rfl) zC9 ?_; intro w6 hr6 hg6))
    have hr6 := hr6.out
    refine bodyPost_ret (v := .agg ([.slice ao3 n3 k3, .bool true] : List Value).toArray) (results_cell_row rfl _ _ (w.heap.size + 1) _ _ (0, 0) _ (by rfl) hr6 Tryz.underlying109 rfl (by kernel_rfl)) rfl ?_
    refine ⟨_, ?_, HE.out () w4 w5 w6 true _ _ _ ra4 ra5 hr6 hg4 hg5 hg6⟩
    rw [HB.out]
    rfl
end
section
open Go.RowKit Oct
theorem App.grown' {w w' : World} {sv v' : Value} {X : List Value} (h : App w 5 sv w' v' X) : w.grownBy w' sv.ownBlock := h.grown
theorem zCb.end {α : Type} {c : Cdc α} {x : α} {w w' : World} {sv v' : Value} {bad b : Bool} {L X : List Int} (h : App w 5 sv w' v' (bc X)) (hX : X = L ++ c.wr x) (hb : b = (bad || !c.ok x)) : zCb c x w sv bad L (.returned (.agg #[v', .bool b])) w' := by
  subst hX hb
  exact ⟨_, rfl, h⟩
set_option maxRecDepth 10000 in
set_option maxHeartbeats 4000000 in
theorem zEx (w0 w : World) (sv : Value) (bad : Bool) (L : List Int) (r : List Value) (x : zB3) (hB0 : Below w0.heap.size w0 w) (hf : Fr w0.heap.size sv) (hown : Own w 5 sv (bc L)) (hr : zCs Any w0 r x) (hl : L.length ≤ 140720000000000) (h1 : x.2.2.1.length ≤ 2147483647) (h2 : x.2.2.2.length ≤ 2147483647) :
    Calls Tryz.prog 101 #[.agg #[sv, .bool bad], .agg r.toArray] w (zCb zBc x w sv bad L) := by
  obtain ⟨vo, vg, rfl, ho, hg⟩ := hr
  obtain ⟨a2, hw2⟩ : ∃ a2, a2 = (w.alloc (.cells #[sv, .bool bad] 109)).alloc (.cells #[.int .i64 x.1, .int .i64 x.2.1, vo, vg] 34) := ⟨_, rfl⟩
  obtain ⟨w2, hw3⟩ : ∃ w2, w2 = a2.alloc (.cells #[.slice none 0 0, .bool false] 109) := ⟨_, rfl⟩
  have hs2 : a2.heap.size = w.heap.size + 2 := by rw [hw2]; simp
  have ra' : Row a2 w.heap.size 109 [sv, .bool bad] := by rw [hw2]; exact zA4 (Row.new w _ _) _
  have rb' : Row a2 (w.heap.size + 1) 34 [.int .i64 x.1, .int .i64 x.2.1, vo, vg] := by
    rw [hw2]
    have := Row.new (w.alloc (.cells #[sv, .bool bad] 109)) 34 [.int .i64 x.1, .int .i64 x.2.1, vo, vg]
    simpa using this
  have ra : Row w2 w.heap.size 109 [sv, .bool bad] := by rw [hw3]; exact zA4 ra' _
  have rb : Row w2 (w.heap.size + 1) 34 [.int .i64 x.1, .int .i64 x.2.1, vo, vg] := by rw [hw3]; exact zA4 rb' _
  have rr : Row w2 (w.heap.size + 2) 109 [.slice none 0 0, .bool false] := by
    rw [hw3, ← hs2]
    exact Row.new a2 _ _
  have hB : Below w.heap.size w w2 := by rw [hw3, hw2]; exact (((Below.refl _ w).alloc zN _).alloc (by simp) _).alloc (by simp; omega) _
  clear ra' rb'
  have hBw0 := zA1 hB0 zN hB
  have hoL := hown.below hB
  have hne0 := zA6 ra hoL (by decide)
  have hne1 := zA6 rb hoL (by decide)
  have hne2 := zA6 rr hoL (by decide)
  have HK := (show Hid (∀ u, w2.grownBy u sv.ownBlock → (u.cell? ⟨w.heap.size, 0, none⟩ = some sv ∧ u.cell? ⟨w.heap.size, 1, none⟩ = some (.bool bad)) ∧ u.cell? ⟨w.heap.size + 1, 0, none⟩ = some (.int .i64 x.1) ∧ u.cell? ⟨w.heap.size + 1, 1, none⟩ = some (.int .i64 x.2.1) ∧ u.cell? ⟨w.heap.size + 1, 2, none⟩ = some vo ∧ u.cell? ⟨w.heap.size + 1, 3, none⟩ = some vg) from
    fun u hu => ⟨⟨(ra.grown hu hne0).cell (j := 0) rfl, (ra.grown hu hne0).cell (j := 1) rfl⟩, (rb.grown hu hne1).cell (j := 0) rfl, (rb.grown hu hne1).cell (j := 1) rfl, (rb.grown hu hne1).cell (j := 2) rfl, (rb.grown hu hne1).cell (j := 3) rfl⟩)
  have HR := (show Hid (∀ u, w2.grownBy u sv.ownBlock → Rd u vo x.2.2.1 ∧ Rd u vg x.2.2.2) from fun u hu => by
    have hb := hBw0.trans (zA5 hu hBw0.size hf)
    exact ⟨(ho.mv (Mv.below hb)).1, (hg.mv (Mv.below hb)).1⟩)
  have hdw : Below w2.heap.size w2 w2.drew := ⟨rfl, rfl, rfl, zN, fun _ _ => rfl⟩
  have g2 : w2.grownBy w2.drew sv.ownBlock := zA8 hdw _
  have hn2 : ¬ (w.heap.size = w.heap.size + 1 + 1) := by omega
  have hn3 : ¬ (w.heap.size + 1 + 1 = w.heap.size) := by omega
  have HN1 := (show Hid (∀ _ : Unit, _) from fun _ => zAq w2.drew sv bad L x.1 hoL.drew (by omega))
  obtain ⟨⟨k0, k1⟩, k2, k3, k4, k5⟩ := HK.out w2 (zA8 (Below.refl _ _) _)
  have l1 := zBl x.1
  have l2 := zBl x.2.1
  have l3 := zB7 (x.2.2.1.length : Int)
  have HL2 := (show Hid ((L ++ cN.wr x.1).length ≤ 140737488355300) by show _ ≤ _; rw [List.length_append]; show L.length + (zCm x.1).length ≤ _; omega)
  have HL3 := (show Hid (((L ++ cN.wr x.1) ++ cN.wr x.2.1).length ≤ 140730000000000) by show _ ≤ _; rw [List.length_append, List.length_append]; show L.length + (zCm x.1).length + (zCm x.2.1).length ≤ _; omega)
  have HL4 := (show Hid ((((L ++ cN.wr x.1) ++ cN.wr x.2.1) ++ cT.wr x.2.2.1).length ≤ 140730000000000) by show _ ≤ _; rw [List.length_append, List.length_append, List.length_append]; show L.length + (zCm x.1).length + (zCm x.2.1).length + (enc x.2.2.1.length ++ x.2.2.1).length ≤ _; have h9 : (enc x.2.2.1.length ++ x.2.2.1).length = (enc x.2.2.1.length).length + x.2.2.1.length := List.length_append; omega)
  go_enter Tryz.func101, Tryz.ntmps101
  go_upto_region 1 with fail
  rw [← hw2, ← hw3]
  clear hw2 hw3 hs2 l1 l2 l3 ho hg hown hB0 hl
  go_wp2_with fail
  go_region_held3 (fun u => (u.cell? ⟨w.heap.size, 0, none⟩ = some sv ∧ u.cell? ⟨w.heap.size, 1, none⟩ = some (.bool bad)) ∧ u.cell? ⟨w.heap.size + 1, 0, none⟩ = some (.int .i64 x.1) ∧ u.cell? ⟨w.heap.size + 1, 1, none⟩ = some (.int .i64 x.2.1) ∧ u.cell? ⟨w.heap.size + 1, 2, none⟩ = some vo ∧ u.cell? ⟨w.heap.size + 1, 3, none⟩ = some vg)
    (first | exact HK.out _ (by assumption) | go_keep)
    (first
      | (go_at_call 102; refine (zC1 w5 _ _ _ vg _ a5.own (HR.out w5 a5.grown').2 HL4.out h2).mono ?_; rintro e w6 ⟨v6, rfl, q6⟩; have a6 := a5.trans q6; have gg6 := a6.grown'; obtain ⟨ao6, n6, c6, rfl⟩ := zAg a6.own; have rr6 := rr.grown gg6 hne2; have d0 := rr6.cell (j := 0) rfl; have d1 := rr6.cell (j := 1) rfl; have z0 := rr6.frozen 0; have z1 := rr6.frozen 1; have hS6 := HK.out w6 gg6)
      | (go_at_call 102; refine (zC1 w4 _ _ _ vo _ a4.own (HR.out w4 a4.grown').1 HL3.out h1).mono ?_; rintro e w5 ⟨v5, rfl, q5⟩; have a5 := a4.trans q5; have gg5 := a5.grown')
      | (go_at_call 59; refine (zAq w3 _ _ _ _ a3.own HL2.out).mono ?_; rintro e w4 ⟨v4, rfl, q4⟩; have a4 := a3.trans q4; have gg4 := a4.grown')
      | (go_at_call 59; refine (HN1.out ()).mono ?_; rintro e w3 ⟨v3, rfl, q3⟩; have a3 := App.pre hdw q3; have gg3 := a3.grown'))
  have hap := App.pre hB a6
  have ho := App.box hap (by omega) rr6 (.slice ao6 n6 c6) (.bool ((((bad || !cN.ok x.1) || !cN.ok x.2.1) || !cT.ok x.2.2.1) || !cT.ok x.2.2.2))
  have hr := (rr6.set 0 (.slice ao6 n6 c6)).set 1 (.bool ((((bad || !cN.ok x.1) || !cN.ok x.2.1) || !cT.ok x.2.2.1) || !cT.ok x.2.2.2))
  go_wp2_with fail
  refine bodyPost_ret (v := .agg ([.slice ao6 n6 c6, .bool ((((bad || !cN.ok x.1) || !cN.ok x.2.1) || !cT.ok x.2.2.1) || !cT.ok x.2.2.2)] : List Value).toArray) (results_cell_row rfl _ _ (w.heap.size + 2) _ _ (0, 0) _ (by rfl) hr Tryz.underlying109 rfl (by kernel_rfl)) rfl ?_
  refine zCb.end ho (by simp [zBc, cP, List.append_assoc]) (by simp [zBc, cP, Bool.or_assoc])
end
end Go.Proofs.YtgjepofinpmcpaaGreatDoor
