/- sha.finish. -/
import Derived.Test.YtgpkngiakhdmhaaDoorSBAX
import Derived.Great.BuildSlice
namespace Go.Proofs.YtgpkngiakhdmhaaDoor
section
open Go.RowKit Oct Sha
theorem flat_snoc {ll : List (List Int)} {k : Nat} {x : List Int} (h : ll[k]? = some x) : (ll.take (k + 1)).flatten = (ll.take k).flatten ++ x := by
  rw [List.take_add_one, h]
  simp
theorem flat_le (ll : List (List Int)) (k : Nat) : (ll.take k).flatten.length ≤ ll.flatten.length := by
  conv => rhs; rw [← List.take_append_drop k ll]
  rw [List.flatten_append, List.length_append]
  omega
theorem All2.nth {α β : Type} {R : α → β → Prop} {xs : List α} {ys : List β} (h : All2 R xs ys) {i : Nat} {a : α} (ha : xs[i]? = some a) : ∃ b, ys[i]? = some b ∧ R a b := by
  have hl := h.len
  have hi : i < xs.length := (List.getElem?_eq_some_iff.1 ha).1
  have hb : ys[i]? = some ys[i] := List.getElem?_eq_getElem (by omega)
  exact ⟨_, hb, h.get ha hb⟩
set_option maxHeartbeats 1000000 in
theorem write_any (w : World) (b : Nat) (l : List Int) (v : Value) (vs : List Value) (ll : List (List Int)) (hh : Hs w b l) (hv : Rdv w v vs) (he : All2 (Rd w) vs ll) (ha : ∀ k, v.ownBlock = some k → k ≠ b)
    (hb : ∀ (i : Nat) (u : Value) (x : List Int), vs[i]? = some u → ll[i]? = some x → 0 < x.length → ∀ k, u.ownBlock = some k → k ≠ b) (hb0 : b ≠ 0) (ht : Tab w) (hlen : l.length + ll.flatten.length < 1152921504606846976) :
    Calls Tryd.prog 71 #[.pointer (some ⟨b, 0, none⟩), v] w fun e w' => e = .returned (.tuple #[]) ∧ Hs w' b (l ++ ll.flatten) ∧ w.grownBy w' (some b) := by
  by_cases h0 : 0 < vs.length
  · obtain ⟨vb, off, cap, rfl, hc1, hc2, hvb, hcell⟩ := hv.at h0
    have hvbb : vb ≠ b := ha vb rfl
    have HC := (show Hid (∀ (j : Nat) (u : Value), vs[j]? = some u → w.cell? ⟨vb, off + j, none⟩ = some u) from hcell)
    have hm : (vs.length : Int) ≤ 9223372036854775807 := by unfold maxLen at hc2; omega
    clear hcell hv ha
    go_enter Tryd.func71, Tryd.ntmps71
    go_wp2_with fail
    go_loopw [8] (fun i wr => ∃ k : Nat, k ≤ vs.length ∧ i = .int .i64 k ∧ Hs wr b (l ++ (ll.take k).flatten) ∧ w.grownBy wr (some b)) (fun i _ => vs.length - (intOf i).toNat)
    case atStart => exact ⟨0, by omega, rfl, by simpa using hh, grown_refl _ _⟩
    case round =>
      obtain ⟨k, hk, rfl, hs, hg⟩ := hrel
      by_cases hkl : k < vs.length
      · obtain ⟨u, hu⟩ : ∃ u, vs[k]? = some u := ⟨_, List.getElem?_eq_getElem hkl⟩
        obtain ⟨x, hx, hr⟩ := he.nth hu
        have hcu : wr.cell? ⟨vb, off + k, none⟩ = some u := (cell_grown hg hvb hvbb _).trans (HC.out k u hu)
        have hub : 0 < x.length → ∀ k, u.ownBlock = some k → k ≠ b := hb k u x hu hx
        have hrr : Rd wr u x := hr.grown hg (fun hne k hk => by injection hk with hk; subst hk; exact fun e => hub (List.length_pos_iff.2 hne) _ e rfl)
        have htr := ht.grown hg (by simpa using hb0)
        have hfl := flat_snoc hx
        have hle : (ll.take k).flatten.length + x.length ≤ ll.flatten.length := by
          have := flat_le ll (k + 1)
          rw [hfl, List.length_append] at this
          exact this
        have HF := (show Hid ((ll.take (k + 1)).flatten = (ll.take k).flatten ++ x) from hfl)
        obtain ⟨ao, ucap, rfl, hucap⟩ := hrr.form
        clear hu hr hx hfl
        go_wp2_with fail
        refine (add_any wr b _ _ x hs hrr hub hb0 htr (by rw [List.length_append]; omega)).mono ?_
        rintro e w2 ⟨rfl, hs2, hg2⟩
        have HS2 := (show Hid (Hs w2 b (l ++ (ll.take (k + 1)).flatten)) by rw [HF.out, ← List.append_assoc]; exact hs2)
        have hg2' := grown_trans hg hg2 (.inl rfl)
        clear hs2 hg2 hg hs hcu hub hrr htr hle HF
        go_wp2_with fail
        go_roundw
        case rel => exact ⟨k + 1, by omega, by go_num, HS2, hg2'⟩
        case measure => simp [intOf]; omega
      · have hs' : Hs wr b (l ++ ll.flatten) := by
          rwa [List.take_of_length_le (by rw [← he.len]; omega)] at hs
        go_wp2_with fail
        go_end0
        exact ⟨rfl, hs', hg⟩
  · obtain ⟨ao, cap, rfl, hcap⟩ := hv.form
    have hvs : vs = [] := List.eq_nil_of_length_eq_zero (by omega)
    subst hvs
    have hll : ll = [] := List.eq_nil_of_length_eq_zero (by rw [← he.len]; rfl)
    subst hll
    rw [List.flatten_nil, List.append_nil]
    clear hv he ha hb h0 hlen
    go_enter Tryd.func71, Tryd.ntmps71
    go_wp2_with fail
    refine wp_loop_rounds 1 ?_
    rw [rounds_succ]
    go_wp2_with fail
    go_end0
    exact ⟨rfl, hh, grown_refl _ _⟩
theorem begin_any (w : World) : Calls Tryd.prog 77 #[] w fun e w' => e = .returned (.agg st0.vs.toArray) ∧ Below w.heap.size w w' := by
  go_enter Tryd.func77, Tryd.ntmps77
  go_wp2_with fail
  exact bodyPost_ret (v := .agg st0.vs.toArray) (results_cell_row rfl _ _ w.heap.size _ st0.vs.toArray (0, 0) _ (by rfl) (heap_alloc_new w _) Tryd.und38 rfl (by kernel_rfl)) rfl ⟨rfl, below_alloc w _⟩
theorem new_any (w : World) : Calls Tryd.prog 70 #[] w fun e w' => ∃ b, e = .returned (.pointer (some ⟨b, 0, none⟩)) ∧ w.heap.size ≤ b ∧ Hs w' b [] ∧ Below w.heap.size w w' := by
  go_enter Tryd.func70, Tryd.ntmps70
  go_wp2_with fail
  refine (begin_any w).mono ?_
  rintro e w1 ⟨rfl, hb1⟩
  go_wp2_with (refine wpList_buildTo (by rfl) 122 _ (by rfl) _ (by rfl) (hrow st0 (List.replicate 64 0) 0).toArray (by kernel_rfl) ?_)
  go_ret
  exact ⟨w1.heap.size, rfl, hb1.size, ⟨List.replicate 64 0, ⟨rfl, byt_zero 64, rfl⟩, Row.new w1 122 _⟩, below_and hb1 (Nat.le_refl _) (below_alloc w1 _)⟩
end
section
open Go.RowKit Oct Sha
theorem run_sl_end (b o : Nat) (u : World) :
    (Instr.sliceAt 120 (.pointer (some ⟨b, o, none⟩)) (some (.int .i64 (64 : Int))) none none).run Tryd.prog u = .ok (.slice (some ⟨b, o, none⟩) 0 0) u := by
  have ht : Tryd.prog.underlying 120 = some (.array (Tryd.prog.arrayLen 120) (Tryd.prog.elem 120)) := by kernel_rfl
  have hn : Tryd.prog.arrayLen 120 = 64 := by kernel_rfl
  have hs : (sizeOf (Tryd.prog.elem 120)).run Tryd.prog u = .ok 1 u := by
    rw [show Tryd.prog.elem 120 = 5 by kernel_rfl]
    obtain ⟨i0, hi, hz0, hz1, hz2⟩ := info_parts Tryd.info5
    simp [sizeOf, typeInfo, hi, hz1]
  rw [run_sliceAt_array_l u 120 _ ht .i64 64 (by omega) (by rw [hn]; omega), hs, hn]
  simp [Result.andThen, slicedAt]
/-- 'h.rest[k:]', whatever k. -/
theorem run_sl_any (b k : Nat) (hk : k ≤ 64) : ∃ dp, (∀ u : World, (Instr.sliceAt 120 (.pointer (some ⟨b, 8, none⟩)) (some (.int .i64 (k : Int))) none none).run Tryd.prog u = .ok (.slice dp (64 - k) (64 - k)) u) ∧ (0 < 64 - k → dp = some ⟨b, 8 + k, none⟩) := by
  by_cases h : k < 64
  · exact ⟨_, run_sl_l b 8 k h, fun _ => rfl⟩
  · obtain rfl : k = 64 := by omega
    exact ⟨some ⟨b, 8, none⟩, run_sl_end b 8, fun h => by omega⟩
theorem run_ixb (b i : Nat) (hi : i < 64) (u : World) : (Instr.indexAt 120 (.pointer (some ⟨b, 8, none⟩)) (.int .i64 (i : Int))).run Tryd.prog u = .ok (.pointer (some ⟨b, 8 + i, none⟩)) u := by
  have ht : Tryd.prog.underlying 120 = some (.array (Tryd.prog.arrayLen 120) (Tryd.prog.elem 120)) := by kernel_rfl
  have hn : Tryd.prog.arrayLen 120 = 64 := by kernel_rfl
  have hs : (sizeOf (Tryd.prog.elem 120)).run Tryd.prog u = .ok 1 u := by
    rw [show Tryd.prog.elem 120 = 5 by kernel_rfl]
    obtain ⟨i0, hi, hz0, hz1, hz2⟩ := info_parts Tryd.info5
    simp [sizeOf, typeInfo, hi, hz1]
  rw [run_indexAt_array u 120 _ .i64 i ht, hn, if_pos (by omega), hs]
  simp only [Result.andThen, Addr.add_mid]
  simp
theorem byte_at (n : Int) (i : Nat) (hi : i < 8) (m : Nat) (hm : m = 56 - 8 * i) : n / 2 ^ m % 256 = (be8 n).getD i 0 := by
  subst hm
  rcases (by omega : i = 0 ∨ i = 1 ∨ i = 2 ∨ i = 3 ∨ i = 4 ∨ i = 5 ∨ i = 6 ∨ i = 7) with rfl | rfl | rfl | rfl | rfl | rfl | rfl | rfl
  all_goals simp [be8, List.getD]
theorem row_stopped {w : World} {b : Nat} {t : TypeId} {s : St} {rest : List Int} {n : Int} {f : Nat} (h : rest.length = 64) (h' : (rest.set f 128).length = 64) (hf : f < 64)
    (hr : Row w b t (splice (hrow s (rest.set f 128) n) (8 + (f + 1)) (bc (List.replicate (63 - f) 0)))) : Row w b t (hrow s (stopped rest f) n) := by
  rwa [hrow_copy _ _ h' (by rw [List.length_replicate]; omega), stopped_eq h hf] at hr
theorem row_cleared {w : World} {b : Nat} {t : TypeId} {s : St} {rest : List Int} {n : Int} (h : rest.length = 64)
    (hr : Row w b t (splice (hrow s rest n) 8 (bc (List.replicate 64 0)))) : Row w b t (hrow s (List.replicate 64 0) n) := by
  rw [show 8 = 8 + 0 from rfl, hrow_copy _ _ h (by rw [List.length_replicate]; omega)] at hr
  have e : splice rest 0 (List.replicate 64 0) = List.replicate 64 0 := by
    unfold splice
    rw [List.take_zero, List.nil_append, List.drop_eq_nil_of_le (by rw [List.length_replicate]; omega), List.append_nil]
  rwa [e] at hr
set_option maxRecDepth 10000 in
set_option maxHeartbeats 1000000 in
/-- The last stretch: the number of bits, and the last block. -/
theorem finish_any (w : World) (b : Nat) (l : List Int) (hh : Hs w b l) (hb0 : b ≠ 0) (ht : Tab w) (hlen : l.length < 1152921504606846976) :
    Calls Tryd.prog 79 #[.pointer (some ⟨b, 0, none⟩)] w fun e w' => e = .returned (.tuple #[]) ∧ (∃ rest n, rest.length = 64 ∧ Row w' b 122 (hrow (blks (pad l) ((pad l).length / 64)) rest n)) ∧ w.grownBy w' (some b) := by
  obtain ⟨rest, hre, hro⟩ := hh
  have hrl := hre.1
  have hrb := hre.2.1
  obtain ⟨f, hf⟩ : ∃ f, f = l.length % 64 := ⟨_, rfl⟩
  have hf1 : f < 64 := by omega
  obtain ⟨s, hs⟩ : ∃ s, s = blks l (l.length / 64) := ⟨_, rfl⟩
  obtain ⟨F, hF⟩ : ∃ F, F = blks (pad l) ((pad l).length / 64) := ⟨_, rfl⟩
  rw [← hF]
  rw [← hs] at hro
  have hst := stopped_eq hrl hf1
  have hc72 := hro.cell (hrow_at72 _ _ hrl)
  have hslen : (rest.set f 128).length = 64 := by rw [List.length_set]; exact hrl
  obtain ⟨dp, hsl, hdp⟩ := run_sl_any b (f + 1) (by omega)
  have hsl' : ∀ u : World, (Instr.sliceAt 120 (.pointer (some ⟨b, 8, none⟩)) (some (.int .i64 ((f : Int) + 1))) none none).run Tryd.prog u = .ok (.slice dp (63 - f) (63 - f)) u := by
    intro u
    have := hsl u
    rwa [Int.natCast_add, show 64 - (f + 1) = 63 - f by omega] at this
  have hix := run_ixb b f hf1
  obtain ⟨i0, hi, hz0, hz1, hz2⟩ := info_parts Tryd.info5
  have HF := (show Hid (f = l.length % 64) from hf)
  have HDP := (show Hid (0 < 63 - f → dp = some ⟨b, 8 + (f + 1), none⟩) from fun h => hdp (by omega))
  have HST := (show Hid (splice (rest.set f 128) (f + 1) (List.replicate (63 - f) 0) = stopped rest f) from hst)
  have HL1 := (show Hid (rest.length = 64) from hrl)
  have HL2 := (show Hid ((rest.set f 128).length = 64) from hslen)
  have HI := (show Hid (Tryd.prog.info? 5 = some i0) from hi)
  have HZ := (show Hid (i0.zero = some (Value.int .u8 0)) from hz0)
  have hlt8 : 8 + f < (hrow s rest (l.length : Int)).length := by rw [hrow_len _ _ hrl]; omega
  have hlt9 : 8 + (f + 1) + (63 - f) ≤ (hrow s (rest.set f 128) (l.length : Int)).length := by rw [hrow_len _ _ hslen]; omega
  clear hf hsl hdp hst hrl hslen hi hz0 hz1 hz2
  go_enter Tryd.func79, Tryd.ntmps79
  go_wp2_with fail
  refine (filled_any w b l.length f hc72 HF.out hlen).mono ?_
  rintro e w0 ⟨rfl, rfl⟩
  have HLS := (show Hid ((stopped rest f).length = 64) from stopped_len HL1.out hf1)
  have hbs := byt_stopped hrb f
  by_cases hge : 56 ≤ f
  · have hgi : (56 : Int) ≤ (f : Int) := by omega
    have HFIN := (show Hid (blk (blk s (stopped rest f)) (lay (List.replicate 64 0) ((l.length : Int) * 8) 8) = F) by
      rw [hF, hs, HF.out, Int.mul_comm]
      exact fin_two hre (by rw [← HF.out]; exact hge))
    clear hs hF hre
    go_wp2_with (first
      | (refine wl_set (by rfl) 5 _ _ (by rfl) b (8 + f) (.int .u8 128) (by rfl) (by rfl) 122 _ hro hlt8 Tryd.siz5 (by rfl) ?_; intro w1 hr1 hg1; have hro1 : Row w1 b 122 (hrow s (rest.set f 128) (l.length : Int)) := hrow_byte s _ _ HL1.out hf1 ▸ hr1.out)
      | (refine wl_clear (by rfl) _ 26 (by rfl) 5 i0 Tryd.underlying26 HI.out HZ.out dp (63 - f) (63 - f) b (8 + (f + 1)) (by rfl) _ 122 hro1 HDP.out hlt9 ?_; intro w2 hr2 hg2; have hro2 : Row w2 b 122 (hrow s (stopped rest f) (l.length : Int)) := row_stopped HL1.out HL2.out hf1 hr2.out; have hcz := hro2.cell (hrow_at72 _ _ HLS.out)))
    have hg02 := grown_trans hg1 hg2 (.inl rfl)
    have ht2 := ht.grown hg02 (by simpa using hb0)
    have hlt2 := hro2.lt
    clear hr1 hr2 hro1 hcz
    go_region_held3 (fun _ => True) (trivial)
      ((go_at_call 83; refine (block_any w2.drew b 122 s (bc (stopped rest f) ++ [Value.int IntKind.u64 (l.length : Int)]) hro2.drew ht2 b 8 (stopped rest f) HLS.out hbs (hro2.bts HLS.out) hlt2).mono ?_; rintro e w3 ⟨rfl, hr3, hg3⟩))
    have hro3 : Row w3 b 122 (hrow (blk s (stopped rest f)) (stopped rest f) (l.length : Int)) := hr3
    have hg03 := grown_trans hg02 (grown_drew hg3) (.inl rfl)
    have hltc : 8 + 64 ≤ (hrow (blk s (stopped rest f)) (stopped rest f) (l.length : Int)).length := by rw [hrow_len _ _ HLS.out]; decide
    obtain ⟨sz, hsz⟩ : ∃ z, z = blk s (stopped rest f) := ⟨_, rfl⟩
    rw [← hsz] at hro3 HFIN hltc
    clear hr3 hg3 hsz hro2 hg02 hg1 hg2 ht2
    go_wp2_with (refine wl_clear (by rfl) _ 26 (by rfl) 5 i0 Tryd.underlying26 HI.out HZ.out (some ⟨b, 8, none⟩) 64 64 b 8 (by rfl) _ 122 hro3 (fun _ => rfl) hltc ?_; intro w4 hr4 hg4; have hrz : Row w4 b 122 (hrow sz (List.replicate 64 0) (l.length : Int)) := row_cleared HLS.out hr4.out; have hcz := hrz.cell (hrow_at72 _ _ (by rfl)))
    have hgz := grown_trans hg03 hg4 (.inl rfl)
    obtain ⟨rz, hrze⟩ : ∃ r, r = List.replicate 64 (0 : Int) := ⟨_, rfl⟩
    have hbz : Byt rz := by rw [hrze]; exact byt_zero 64
    have HLZ := (show Hid (rz.length = 64) by rw [hrze]; exact List.length_replicate)
    have hrz' : Row w4 b 122 (hrow sz rz (l.length : Int)) := by rw [hrze]; exact hrz
    rw [← hrze] at HFIN
    clear hrz hr4 hrze hg4 hg03 hro3 hltc
    have htz := ht.grown hgz (by simpa using hb0)
    clear ht
    go_loopw [41] (fun i wr => ∃ k : Nat, k ≤ 8 ∧ i = .int .i64 k ∧ Row wr b 122 (hrow sz (lay rz ((l.length : Int) * 8) k) (l.length : Int)) ∧ w4.grownBy wr (some b)) (fun i _ => 8 - (intOf i).toNat)
    case atStart => exact ⟨0, by omega, rfl, by rw [lay_zero]; exact hrz', grown_refl _ _⟩
    case round =>
      obtain ⟨k, hk, rfl, hrk, hgk⟩ := hrel
      have hlk := lay_len HLZ.out ((l.length : Int) * 8) k hk
      clear hrz' hcz
      by_cases hk8 : k < 8
      · obtain ⟨m, hm⟩ : ∃ m : Nat, (56 : Int) - 8 * (k : Int) = m := ⟨56 - 8 * k, by omega⟩
        have HM := (show Hid (m = 56 - 8 * k) by show m = _; omega)
        have hik : ∀ u : World, (Instr.indexAt 120 (.pointer (some ⟨b, 8, none⟩)) (.int .i64 (56 + (k : Int)))).run Tryd.prog u = .ok (.pointer (some ⟨b, 8 + (56 + k), none⟩)) u := by
          intro u
          have := run_ixb b (56 + k) (by omega) u
          rwa [Int.natCast_add] at this
        have hck := hrk.cell (hrow_at sz (l.length : Int) hlk (56 + k) (by omega))
        have hfk := hrk.frozen (8 + (56 + k))
        have HK := (show Hid ((lay rz ((l.length : Int) * 8) k).length = 64) from hlk)
        clear hlk
        go_wp2_with fail
        go_region
        go_wp2_with fail
        go_roundw
        case rel =>
          rw [byte_at _ k hk8 m HM.out]
          refine ⟨k + 1, by omega, by go_num, ?_, ?_⟩
          · rw [← lay_set HLZ.out _ k hk8, ← hrow_byte _ _ _ HK.out (by omega)]
            exact (hrk.set _ _).drew
          · exact grown_to_drew (grown_trans hgk (grown_set _ _ _ _) (.inl rfl))
        case measure => simp [intOf]; omega
      · have hr8 : Row wr b 122 (hrow sz (lay rz ((l.length : Int) * 8) 8) (l.length : Int)) := by rwa [show k = 8 by omega] at hrk
        have hl8 : (lay rz ((l.length : Int) * 8) 8).length = 64 := by rwa [show k = 8 by omega] at hlk
        have hb8 := byt_lay hbz ((l.length : Int) * 8) 8
        obtain ⟨r8, hr8e⟩ : ∃ r, r = lay rz ((l.length : Int) * 8) 8 := ⟨_, rfl⟩
        rw [← hr8e] at hr8 hl8 hb8
        have hfin : blk sz r8 = F := by rw [hr8e]; exact HFIN.out
        have ht8 := htz.grown hgk (by simpa using hb0)
        have hlt8' := hr8.lt
        have HL8 := (show Hid (r8.length = 64) from hl8)
        have HFF := (show Hid (blk sz r8 = F) from hfin)
        clear hrk hlk hr8e hl8 hfin htz
        go_wp2_with fail
        go_region_held3 (fun _ => True) (trivial)
          ((go_at_call 83; refine (block_any wr.drew b 122 sz (bc r8 ++ [Value.int IntKind.u64 (l.length : Int)]) hr8.drew ht8 b 8 r8 HL8.out hb8 (hr8.bts HL8.out) hlt8').mono ?_; rintro e w9 ⟨rfl, hr9, hg9⟩))
        rw [HFF.out] at hr9
        go_wp2_with fail
        go_end0
        exact ⟨rfl, ⟨r8, _, HL8.out, hr9⟩, grown_trans (grown_trans hgz hgk (.inl rfl)) (grown_drew hg9) (.inl rfl)⟩
  · have hgi : ¬ (56 : Int) ≤ (f : Int) := by omega
    have HFIN := (show Hid (blk s (lay (stopped rest f) ((l.length : Int) * 8) 8) = F) by
      rw [hF, hs, HF.out, Int.mul_comm]
      exact fin_one hre (by rw [← HF.out]; omega))
    clear hs hF hre
    go_wp2_with (first
      | (refine wl_set (by rfl) 5 _ _ (by rfl) b (8 + f) (.int .u8 128) (by rfl) (by rfl) 122 _ hro hlt8 Tryd.siz5 (by rfl) ?_; intro w1 hr1 hg1; have hro1 : Row w1 b 122 (hrow s (rest.set f 128) (l.length : Int)) := hrow_byte s _ _ HL1.out hf1 ▸ hr1.out)
      | (refine wl_clear (by rfl) _ 26 (by rfl) 5 i0 Tryd.underlying26 HI.out HZ.out dp (63 - f) (63 - f) b (8 + (f + 1)) (by rfl) _ 122 hro1 HDP.out hlt9 ?_; intro w2 hr2 hg2; have hro2 : Row w2 b 122 (hrow s (stopped rest f) (l.length : Int)) := row_stopped HL1.out HL2.out hf1 hr2.out; have hcz := hro2.cell (hrow_at72 _ _ HLS.out)))
    have hgz := grown_trans hg1 hg2 (.inl rfl)
    have hbz := hbs
    have HLZ := HLS
    have hrz' := hro2
    obtain ⟨sz, hsz⟩ : ∃ z, z = s := ⟨_, rfl⟩
    obtain ⟨rz, hrze⟩ : ∃ r, r = stopped rest f := ⟨_, rfl⟩
    rw [← hsz, ← hrze] at HFIN hrz'
    rw [← hrze] at HLZ hbz
    clear hro2 hr1 hr2 hg1 hg2 hro1 hrze hsz
    have htz := ht.grown hgz (by simpa using hb0)
    clear ht
    go_loopw [41] (fun i wr => ∃ k : Nat, k ≤ 8 ∧ i = .int .i64 k ∧ Row wr b 122 (hrow sz (lay rz ((l.length : Int) * 8) k) (l.length : Int)) ∧ w2.grownBy wr (some b)) (fun i _ => 8 - (intOf i).toNat)
    case atStart => exact ⟨0, by omega, rfl, by rw [lay_zero]; exact hrz', grown_refl _ _⟩
    case round =>
      obtain ⟨k, hk, rfl, hrk, hgk⟩ := hrel
      have hlk := lay_len HLZ.out ((l.length : Int) * 8) k hk
      clear hrz' hcz
      by_cases hk8 : k < 8
      · obtain ⟨m, hm⟩ : ∃ m : Nat, (56 : Int) - 8 * (k : Int) = m := ⟨56 - 8 * k, by omega⟩
        have HM := (show Hid (m = 56 - 8 * k) by show m = _; omega)
        have hik : ∀ u : World, (Instr.indexAt 120 (.pointer (some ⟨b, 8, none⟩)) (.int .i64 (56 + (k : Int)))).run Tryd.prog u = .ok (.pointer (some ⟨b, 8 + (56 + k), none⟩)) u := by
          intro u
          have := run_ixb b (56 + k) (by omega) u
          rwa [Int.natCast_add] at this
        have hck := hrk.cell (hrow_at sz (l.length : Int) hlk (56 + k) (by omega))
        have hfk := hrk.frozen (8 + (56 + k))
        have HK := (show Hid ((lay rz ((l.length : Int) * 8) k).length = 64) from hlk)
        clear hlk
        go_wp2_with fail
        go_region
        go_wp2_with fail
        go_roundw
        case rel =>
          rw [byte_at _ k hk8 m HM.out]
          refine ⟨k + 1, by omega, by go_num, ?_, ?_⟩
          · rw [← lay_set HLZ.out _ k hk8, ← hrow_byte _ _ _ HK.out (by omega)]
            exact (hrk.set _ _).drew
          · exact grown_to_drew (grown_trans hgk (grown_set _ _ _ _) (.inl rfl))
        case measure => simp [intOf]; omega
      · have hr8 : Row wr b 122 (hrow sz (lay rz ((l.length : Int) * 8) 8) (l.length : Int)) := by rwa [show k = 8 by omega] at hrk
        have hl8 : (lay rz ((l.length : Int) * 8) 8).length = 64 := by rwa [show k = 8 by omega] at hlk
        have hb8 := byt_lay hbz ((l.length : Int) * 8) 8
        obtain ⟨r8, hr8e⟩ : ∃ r, r = lay rz ((l.length : Int) * 8) 8 := ⟨_, rfl⟩
        rw [← hr8e] at hr8 hl8 hb8
        have hfin : blk sz r8 = F := by rw [hr8e]; exact HFIN.out
        have ht8 := htz.grown hgk (by simpa using hb0)
        have hlt8' := hr8.lt
        have HL8 := (show Hid (r8.length = 64) from hl8)
        have HFF := (show Hid (blk sz r8 = F) from hfin)
        clear hrk hlk hr8e hl8 hfin htz
        go_wp2_with fail
        go_region_held3 (fun _ => True) (trivial)
          ((go_at_call 83; refine (block_any wr.drew b 122 sz (bc r8 ++ [Value.int IntKind.u64 (l.length : Int)]) hr8.drew ht8 b 8 r8 HL8.out hb8 (hr8.bts HL8.out) hlt8').mono ?_; rintro e w9 ⟨rfl, hr9, hg9⟩))
        rw [HFF.out] at hr9
        go_wp2_with fail
        go_end0
        exact ⟨rfl, ⟨r8, _, HL8.out, hr9⟩, grown_trans (grown_trans hgz hgk (.inl rfl)) (grown_drew hg9) (.inl rfl)⟩
end
end Go.Proofs.YtgpkngiakhdmhaaDoor
