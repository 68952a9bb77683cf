/- sha.Write, begin, New. -/
import Derived.Test.YtgpkngiakhdmhaaDoorSABF
import Derived.Great.BuildSlice
namespace Go.Proofs.YtgpkngiakhdmhaaDoor
open Go.RowKit Oct Sha
theorem flat_snoc {ll : List (List Int)} {k : Nat} {x : List Int} (h : ll[k]? = some x) : (ll.take (k + 1)).flatten = (ll.take k).flatten ++ x := by
  rw [List.take_add_one, h]
  simp
theorem flat_le (ll : List (List Int)) (k : Nat) : (ll.take k).flatten.length ≤ ll.flatten.length := by
  conv => rhs; rw [← List.take_append_drop k ll]
  rw [List.flatten_append, List.length_append]
  omega
theorem All2.nth {α β : Type} {R : α → β → Prop} {xs : List α} {ys : List β} (h : All2 R xs ys) {i : Nat} {a : α} (ha : xs[i]? = some a) : ∃ b, ys[i]? = some b ∧ R a b := by
  have hl := h.len
  have hi : i < xs.length := (List.getElem?_eq_some_iff.1 ha).1
  have hb : ys[i]? = some ys[i] := List.getElem?_eq_getElem (by omega)
  exact ⟨_, hb, h.get ha hb⟩
set_option maxHeartbeats 1000000 in
theorem write_any (w : World) (b : Nat) (l : List Int) (v : Value) (vs : List Value) (ll : List (List Int)) (hh : Hs w b l) (hv : Rdv w v vs) (he : All2 (Rd w) vs ll) (ha : ∀ k, v.ownBlock = some k → k ≠ b)
    (hb : ∀ (i : Nat) (u : Value) (x : List Int), vs[i]? = some u → ll[i]? = some x → 0 < x.length → ∀ k, u.ownBlock = some k → k ≠ b) (hb0 : b ≠ 0) (ht : Tab w) (hlen : l.length + ll.flatten.length < 1152921504606846976) :
    Calls Tryd.prog 71 #[.pointer (some ⟨b, 0, none⟩), v] w fun e w' => e = .returned (.tuple #[]) ∧ Hs w' b (l ++ ll.flatten) ∧ w.grownBy w' (some b) := by
  by_cases h0 : 0 < vs.length
  · obtain ⟨vb, off, cap, rfl, hc1, hc2, hvb, hcell⟩ := hv.at h0
    have hvbb : vb ≠ b := ha vb rfl
    have HC := (show Hid (∀ (j : Nat) (u : Value), vs[j]? = some u → w.cell? ⟨vb, off + j, none⟩ = some u) from hcell)
    have hm : (vs.length : Int) ≤ 9223372036854775807 := by unfold maxLen at hc2; omega
    clear hcell hv ha
    go_enter Tryd.func71, Tryd.ntmps71
    go_wp2_with fail
    go_loopw [8] (fun i wr => ∃ k : Nat, k ≤ vs.length ∧ i = .int .i64 k ∧ Hs wr b (l ++ (ll.take k).flatten) ∧ w.grownBy wr (some b)) (fun i _ => vs.length - (intOf i).toNat)
    case atStart => exact ⟨0, by omega, rfl, by simpa using hh, grown_refl _ _⟩
    case round =>
      obtain ⟨k, hk, rfl, hs, hg⟩ := hrel
      by_cases hkl : k < vs.length
      · obtain ⟨u, hu⟩ : ∃ u, vs[k]? = some u := ⟨_, List.getElem?_eq_getElem hkl⟩
        obtain ⟨x, hx, hr⟩ := he.nth hu
        have hcu : wr.cell? ⟨vb, off + k, none⟩ = some u := (cell_grown hg hvb hvbb _).trans (HC.out k u hu)
        have hub : 0 < x.length → ∀ k, u.ownBlock = some k → k ≠ b := hb k u x hu hx
        have hrr : Rd wr u x := hr.grown hg (fun hne k hk => by injection hk with hk; subst hk; exact fun e => hub (List.length_pos_iff.2 hne) _ e rfl)
        have htr := ht.grown hg (by simpa using hb0)
        have hfl := flat_snoc hx
        have hle : (ll.take k).flatten.length + x.length ≤ ll.flatten.length := by
          have := flat_le ll (k + 1)
          rw [hfl, List.length_append] at this
          exact this
        have HF := (show Hid ((ll.take (k + 1)).flatten = (ll.take k).flatten ++ x) from hfl)
        obtain ⟨ao, ucap, rfl, hucap⟩ := hrr.form
        clear hu hr hx hfl
        go_wp2_with fail
        refine (add_any wr b _ _ x hs hrr hub hb0 htr (by rw [List.length_append]; omega)).mono ?_
        rintro e w2 ⟨rfl, hs2, hg2⟩
        have HS2 := (show Hid (Hs w2 b (l ++ (ll.take (k + 1)).flatten)) by rw [HF.out, ← List.append_assoc]; exact hs2)
        have hg2' := grown_trans hg hg2 (.inl rfl)
        clear hs2 hg2 hg hs hcu hub hrr htr hle HF
        go_wp2_with fail
        go_roundw
        case rel => exact ⟨k + 1, by omega, by go_num, HS2, hg2'⟩
        case measure => simp [intOf]; omega
      · have hs' : Hs wr b (l ++ ll.flatten) := by
          rwa [List.take_of_length_le (by rw [← he.len]; omega)] at hs
        go_wp2_with fail
        go_end0
        exact ⟨rfl, hs', hg⟩
  · obtain ⟨ao, cap, rfl, hcap⟩ := hv.form
    have hvs : vs = [] := List.eq_nil_of_length_eq_zero (by omega)
    subst hvs
    have hll : ll = [] := List.eq_nil_of_length_eq_zero (by rw [← he.len]; rfl)
    subst hll
    rw [List.flatten_nil, List.append_nil]
    clear hv he ha hb h0 hlen
    go_enter Tryd.func71, Tryd.ntmps71
    go_wp2_with fail
    refine wp_loop_rounds 1 ?_
    rw [rounds_succ]
    go_wp2_with fail
    go_end0
    exact ⟨rfl, hh, grown_refl _ _⟩
theorem begin_any (w : World) : Calls Tryd.prog 77 #[] w fun e w' => e = .returned (.agg st0.vs.toArray) ∧ Below w.heap.size w w' := by
  go_enter Tryd.func77, Tryd.ntmps77
  go_wp2_with fail
  exact bodyPost_ret (v := .agg st0.vs.toArray) (results_cell_row rfl _ _ w.heap.size _ st0.vs.toArray (0, 0) _ (by rfl) (heap_alloc_new w _) Tryd.und38 rfl (by kernel_rfl)) rfl ⟨rfl, below_alloc w _⟩
theorem new_any (w : World) : Calls Tryd.prog 70 #[] w fun e w' => ∃ b, e = .returned (.pointer (some ⟨b, 0, none⟩)) ∧ w.heap.size ≤ b ∧ Hs w' b [] ∧ Below w.heap.size w w' := by
  go_enter Tryd.func70, Tryd.ntmps70
  go_wp2_with fail
  refine (begin_any w).mono ?_
  rintro e w1 ⟨rfl, hb1⟩
  go_wp2_with (refine wpList_buildTo (by rfl) 122 _ (by rfl) _ (by rfl) (hrow st0 (List.replicate 64 0) 0).toArray (by kernel_rfl) ?_)
  go_ret
  exact ⟨w1.heap.size, rfl, hb1.size, ⟨List.replicate 64 0, ⟨rfl, byt_zero 64, rfl⟩, Row.new w1 122 _⟩, below_and hb1 (Nat.le_refl _) (below_alloc w1 _)⟩
end Go.Proofs.YtgpkngiakhdmhaaDoor
