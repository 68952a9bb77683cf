/- sha.Hash.Sum and sha.Sum. -/
import Derived.Test.YtgbfmccecnfooaaGreatDoorCRAM
namespace Go.Proofs.YtgbfmccecnfooaaGreatDoor
section
open Go.RowKit Oct Sha
theorem run_sl_end (b o : Nat) (u : World) :
    (Instr.sliceAt 202 (.pointer (some ⟨b, o, none⟩)) (some (.int .i64 (64 : Int))) none none).run Tryz.prog u = .ok (.slice (some ⟨b, o, none⟩) 0 0) u := by
  have ht : Tryz.prog.underlying 202 = some (.array (Tryz.prog.arrayLen 202) (Tryz.prog.elem 202)) := by kernel_rfl
  have hn : Tryz.prog.arrayLen 202 = 64 := by kernel_rfl
  have hs : (sizeOf (Tryz.prog.elem 202)).run Tryz.prog u = .ok 1 u := by
    rw [show Tryz.prog.elem 202 = 5 by kernel_rfl]
    obtain ⟨i0, hi, hz0, hz1, hz2⟩ := info_parts Tryz.info5
    simp [sizeOf, typeInfo, hi, hz1]
  rw [run_sliceAt_array_l u 202 _ ht .i64 64 (by omega) (by rw [hn]; omega), hs, hn]
  simp [Result.andThen, slicedAt]
/-- 'h.rest[k:]', whatever k. -/
theorem run_sl_any (b k : Nat) (hk : k ≤ 64) : ∃ dp, (∀ u : World, (Instr.sliceAt 202 (.pointer (some ⟨b, 8, none⟩)) (some (.int .i64 (k : Int))) none none).run Tryz.prog u = .ok (.slice dp (64 - k) (64 - k)) u) ∧ (0 < 64 - k → dp = some ⟨b, 8 + k, none⟩) := by
  by_cases h : k < 64
  · exact ⟨_, run_sl_l b 8 k h, fun _ => rfl⟩
  · obtain rfl : k = 64 := by omega
    exact ⟨some ⟨b, 8, none⟩, run_sl_end b 8, fun h => by omega⟩
theorem run_ixb (b i : Nat) (hi : i < 64) (u : World) : (Instr.indexAt 202 (.pointer (some ⟨b, 8, none⟩)) (.int .i64 (i : Int))).run Tryz.prog u = .ok (.pointer (some ⟨b, 8 + i, none⟩)) u := by
  have ht : Tryz.prog.underlying 202 = some (.array (Tryz.prog.arrayLen 202) (Tryz.prog.elem 202)) := by kernel_rfl
  have hn : Tryz.prog.arrayLen 202 = 64 := by kernel_rfl
  have hs : (sizeOf (Tryz.prog.elem 202)).run Tryz.prog u = .ok 1 u := by
    rw [show Tryz.prog.elem 202 = 5 by kernel_rfl]
    obtain ⟨i0, hi, hz0, hz1, hz2⟩ := info_parts Tryz.info5
    simp [sizeOf, typeInfo, hi, hz1]
  rw [run_indexAt_array u 202 _ .i64 i ht, hn, if_pos (by omega), hs]
  simp only [Result.andThen, Addr.add_mid]
  simp
theorem byte_at (n : Int) (i : Nat) (hi : i < 8) (m : Nat) (hm : m = 56 - 8 * i) : n / 2 ^ m % 256 = (be8 n).getD i 0 := by
  subst hm
  rcases (by omega : i = 0 ∨ i = 1 ∨ i = 2 ∨ i = 3 ∨ i = 4 ∨ i = 5 ∨ i = 6 ∨ i = 7) with rfl | rfl | rfl | rfl | rfl | rfl | rfl | rfl
  all_goals simp [be8, List.getD]
theorem row_stopped {w : World} {b : Nat} {t : TypeId} {s : St} {rest : List Int} {n : Int} {f : Nat} (h : rest.length = 64) (h' : (rest.set f 128).length = 64) (hf : f < 64)
    (hr : Row w b t (splice (hrow s (rest.set f 128) n) (8 + (f + 1)) (bc (List.replicate (63 - f) 0)))) : Row w b t (hrow s (stopped rest f) n) := by
  rwa [hrow_copy _ _ h' (by rw [List.length_replicate]; omega), stopped_eq h hf] at hr
theorem row_cleared {w : World} {b : Nat} {t : TypeId} {s : St} {rest : List Int} {n : Int} (h : rest.length = 64)
    (hr : Row w b t (splice (hrow s rest n) 8 (bc (List.replicate 64 0)))) : Row w b t (hrow s (List.replicate 64 0) n) := by
  rw [show 8 = 8 + 0 from rfl, hrow_copy _ _ h (by rw [List.length_replicate]; omega)] at hr
  have e : splice rest 0 (List.replicate 64 0) = List.replicate 64 0 := by
    unfold splice
    rw [List.take_zero, List.nil_append, List.drop_eq_nil_of_le (by rw [List.length_replicate]; omega), List.append_nil]
  rwa [e] at hr
set_option maxRecDepth 10000 in
set_option maxHeartbeats 1000000 in
/-- The last stretch: the number of bits, and the last block. -/
theorem finish_any (w : World) (b : Nat) (l : List Int) (hh : Hs w b l) (hb0 : b ≠ 1) (ht : Tab w) (hlen : l.length < 1152921504606846976) :
    Calls Tryz.prog 180 #[.pointer (some ⟨b, 0, none⟩)] w fun e w' => e = .returned (.tuple #[]) ∧ (∃ rest n, rest.length = 64 ∧ Row w' b 204 (hrow (blks (pad l) ((pad l).length / 64)) rest n)) ∧ w.grownBy w' (some b) := by
  obtain ⟨rest, hre, hro⟩ := hh
  have hrl := hre.1
  have hrb := hre.2.1
  obtain ⟨f, hf⟩ : ∃ f, f = l.length % 64 := ⟨_, rfl⟩
  have hf1 : f < 64 := by omega
  obtain ⟨s, hs⟩ : ∃ s, s = blks l (l.length / 64) := ⟨_, rfl⟩
  obtain ⟨F, hF⟩ : ∃ F, F = blks (pad l) ((pad l).length / 64) := ⟨_, rfl⟩
  rw [← hF]
  rw [← hs] at hro
  have hst := stopped_eq hrl hf1
  have hc72 := hro.cell (hrow_at72 _ _ hrl)
  have hslen : (rest.set f 128).length = 64 := by rw [List.length_set]; exact hrl
  obtain ⟨dp, hsl, hdp⟩ := run_sl_any b (f + 1) (by omega)
  have hsl' : ∀ u : World, (Instr.sliceAt 202 (.pointer (some ⟨b, 8, none⟩)) (some (.int .i64 ((f : Int) + 1))) none none).run Tryz.prog u = .ok (.slice dp (63 - f) (63 - f)) u := by
    intro u
    have := hsl u
    rwa [Int.natCast_add, show 64 - (f + 1) = 63 - f by omega] at this
  have hix := run_ixb b f hf1
  obtain ⟨i0, hi, hz0, hz1, hz2⟩ := info_parts Tryz.info5
  have HF := (show Hid (f = l.length % 64) from hf)
  have HDP := (show Hid (0 < 63 - f → dp = some ⟨b, 8 + (f + 1), none⟩) from fun h => hdp (by omega))
  have HST := (show Hid (splice (rest.set f 128) (f + 1) (List.replicate (63 - f) 0) = stopped rest f) from hst)
  have HL1 := (show Hid (rest.length = 64) from hrl)
  have HL2 := (show Hid ((rest.set f 128).length = 64) from hslen)
  have HI := (show Hid (Tryz.prog.info? 5 = some i0) from hi)
  have HZ := (show Hid (i0.zero = some (Value.int .u8 0)) from hz0)
  have hlt8 : 8 + f < (hrow s rest (l.length : Int)).length := by rw [hrow_len _ _ hrl]; omega
  have hlt9 : 8 + (f + 1) + (63 - f) ≤ (hrow s (rest.set f 128) (l.length : Int)).length := by rw [hrow_len _ _ hslen]; omega
  clear hf hsl hdp hst hrl hslen hi hz0 hz1 hz2
  go_enter Tryz.func180, Tryz.ntmps180
  go_wp2_with fail
  refine (filled_any w b l.length f hc72 HF.out hlen).mono ?_
  rintro e w0 ⟨rfl, rfl⟩
  have HLS := (show Hid ((stopped rest f).length = 64) from stopped_len HL1.out hf1)
  have hbs := byt_stopped hrb f
  by_cases hge : 56 ≤ f
  · have hgi : (56 : Int) ≤ (f : Int) := by omega
    have HFIN := (show Hid (blk (blk s (stopped rest f)) (lay (List.replicate 64 0) ((l.length : Int) * 8) 8) = F) by
      rw [hF, hs, HF.out, Int.mul_comm]
      exact fin_two hre (by rw [← HF.out]; exact hge))
    clear hs hF hre
    go_wp2_with (first
      | (refine wl_set (by rfl) 5 _ _ (by rfl) b (8 + f) (.int .u8 128) (by rfl) (by rfl) 204 _ hro hlt8 Tryz.siz5 (by rfl) ?_; intro w1 hr1 hg1; have hro1 : Row w1 b 204 (hrow s (rest.set f 128) (l.length : Int)) := hrow_byte s _ _ HL1.out hf1 ▸ hr1.out)
      | (refine wl_clear (by rfl) _ 24 (by rfl) 5 i0 Tryz.underlying24 HI.out HZ.out dp (63 - f) (63 - f) b (8 + (f + 1)) (by rfl) _ 204 hro1 HDP.out hlt9 ?_; intro w2 hr2 hg2; have hro2 : Row w2 b 204 (hrow s (stopped rest f) (l.length : Int)) := row_stopped HL1.out HL2.out hf1 hr2.out; have hcz := hro2.cell (hrow_at72 _ _ HLS.out)))
    have hg02 := grown_trans hg1 hg2 (.inl rfl)
    have ht2 := ht.grown hg02 (by simpa using hb0)
    have hlt2 := hro2.lt
    clear hr1 hr2 hro1 hcz
    go_region_held3 (fun _ => True) (trivial)
      ((go_at_call 190; refine (block_any w2.drew b 204 s (bc (stopped rest f) ++ [Value.int IntKind.u64 (l.length : Int)]) hro2.drew ht2 b 8 (stopped rest f) HLS.out hbs (hro2.bts HLS.out) hlt2).mono ?_; rintro e w3 ⟨rfl, hr3, hg3⟩))
    have hro3 : Row w3 b 204 (hrow (blk s (stopped rest f)) (stopped rest f) (l.length : Int)) := hr3
    have hg03 := grown_trans hg02 (grown_drew hg3) (.inl rfl)
    have hltc : 8 + 64 ≤ (hrow (blk s (stopped rest f)) (stopped rest f) (l.length : Int)).length := by rw [hrow_len _ _ HLS.out]; decide
    obtain ⟨sz, hsz⟩ : ∃ z, z = blk s (stopped rest f) := ⟨_, rfl⟩
    rw [← hsz] at hro3 HFIN hltc
    clear hr3 hg3 hsz hro2 hg02 hg1 hg2 ht2
    go_wp2_with (refine wl_clear (by rfl) _ 24 (by rfl) 5 i0 Tryz.underlying24 HI.out HZ.out (some ⟨b, 8, none⟩) 64 64 b 8 (by rfl) _ 204 hro3 (fun _ => rfl) hltc ?_; intro w4 hr4 hg4; have hrz : Row w4 b 204 (hrow sz (List.replicate 64 0) (l.length : Int)) := row_cleared HLS.out hr4.out; have hcz := hrz.cell (hrow_at72 _ _ (by rfl)))
    have hgz := grown_trans hg03 hg4 (.inl rfl)
    obtain ⟨rz, hrze⟩ : ∃ r, r = List.replicate 64 (0 : Int) := ⟨_, rfl⟩
    have hbz : Byt rz := by rw [hrze]; exact byt_zero 64
    have HLZ := (show Hid (rz.length = 64) by rw [hrze]; exact List.length_replicate)
    have hrz' : Row w4 b 204 (hrow sz rz (l.length : Int)) := by rw [hrze]; exact hrz
    rw [← hrze] at HFIN
    clear hrz hr4 hrze hg4 hg03 hro3 hltc
    have htz := ht.grown hgz (by simpa using hb0)
    clear ht
    go_loopw [41] (fun i wr => ∃ k : Nat, k ≤ 8 ∧ i = .int .i64 k ∧ Row wr b 204 (hrow sz (lay rz ((l.length : Int) * 8) k) (l.length : Int)) ∧ w4.grownBy wr (some b)) (fun i _ => 8 - (intOf i).toNat)
    case atStart => exact ⟨0, by omega, rfl, by rw [lay_zero]; exact hrz', grown_refl _ _⟩
    case round =>
      obtain ⟨k, hk, rfl, hrk, hgk⟩ := hrel
      have hlk := lay_len HLZ.out ((l.length : Int) * 8) k hk
      clear hrz' hcz
      by_cases hk8 : k < 8
      · obtain ⟨m, hm⟩ : ∃ m : Nat, (56 : Int) - 8 * (k : Int) = m := ⟨56 - 8 * k, by omega⟩
        have HM := (show Hid (m = 56 - 8 * k) by show m = _; omega)
        have hik : ∀ u : World, (Instr.indexAt 202 (.pointer (some ⟨b, 8, none⟩)) (.int .i64 (56 + (k : Int)))).run Tryz.prog u = .ok (.pointer (some ⟨b, 8 + (56 + k), none⟩)) u := by
          intro u
          have := run_ixb b (56 + k) (by omega) u
          rwa [Int.natCast_add] at this
        have hck := hrk.cell (hrow_at sz (l.length : Int) hlk (56 + k) (by omega))
        have hfk := hrk.frozen (8 + (56 + k))
        have HK := (show Hid ((lay rz ((l.length : Int) * 8) k).length = 64) from hlk)
        clear hlk
        go_wp2_with fail
        go_region
        go_wp2_with fail
        go_roundw
        case rel =>
          rw [byte_at _ k hk8 m HM.out]
          refine ⟨k + 1, by omega, by go_num, ?_, ?_⟩
          · rw [← lay_set HLZ.out _ k hk8, ← hrow_byte _ _ _ HK.out (by omega)]
            exact (hrk.set _ _).drew
          · exact grown_to_drew (grown_trans hgk (grown_set _ _ _ _) (.inl rfl))
        case measure => simp [intOf]; omega
      · have hr8 : Row wr b 204 (hrow sz (lay rz ((l.length : Int) * 8) 8) (l.length : Int)) := by rwa [show k = 8 by omega] at hrk
        have hl8 : (lay rz ((l.length : Int) * 8) 8).length = 64 := by rwa [show k = 8 by omega] at hlk
        have hb8 := byt_lay hbz ((l.length : Int) * 8) 8
        obtain ⟨r8, hr8e⟩ : ∃ r, r = lay rz ((l.length : Int) * 8) 8 := ⟨_, rfl⟩
        rw [← hr8e] at hr8 hl8 hb8
        have hfin : blk sz r8 = F := by rw [hr8e]; exact HFIN.out
        have ht8 := htz.grown hgk (by simpa using hb0)
        have hlt8' := hr8.lt
        have HL8 := (show Hid (r8.length = 64) from hl8)
        have HFF := (show Hid (blk sz r8 = F) from hfin)
        clear hrk hlk hr8e hl8 hfin htz
        go_wp2_with fail
        go_region_held3 (fun _ => True) (trivial)
          ((go_at_call 190; refine (block_any wr.drew b 204 sz (bc r8 ++ [Value.int IntKind.u64 (l.length : Int)]) hr8.drew ht8 b 8 r8 HL8.out hb8 (hr8.bts HL8.out) hlt8').mono ?_; rintro e w9 ⟨rfl, hr9, hg9⟩))
        rw [HFF.out] at hr9
        go_wp2_with fail
        go_end0
        exact ⟨rfl, ⟨r8, _, HL8.out, hr9⟩, grown_trans (grown_trans hgz hgk (.inl rfl)) (grown_drew hg9) (.inl rfl)⟩
  · have hgi : ¬ (56 : Int) ≤ (f : Int) := by omega
    have HFIN := (show Hid (blk s (lay (stopped rest f) ((l.length : Int) * 8) 8) = F) by
      rw [hF, hs, HF.out, Int.mul_comm]
      exact fin_one hre (by rw [← HF.out]; omega))
    clear hs hF hre
    go_wp2_with (first
      | (refine wl_set (by rfl) 5 _ _ (by rfl) b (8 + f) (.int .u8 128) (by rfl) (by rfl) 204 _ hro hlt8 Tryz.siz5 (by rfl) ?_; intro w1 hr1 hg1; have hro1 : Row w1 b 204 (hrow s (rest.set f 128) (l.length : Int)) := hrow_byte s _ _ HL1.out hf1 ▸ hr1.out)
      | (refine wl_clear (by rfl) _ 24 (by rfl) 5 i0 Tryz.underlying24 HI.out HZ.out dp (63 - f) (63 - f) b (8 + (f + 1)) (by rfl) _ 204 hro1 HDP.out hlt9 ?_; intro w2 hr2 hg2; have hro2 : Row w2 b 204 (hrow s (stopped rest f) (l.length : Int)) := row_stopped HL1.out HL2.out hf1 hr2.out; have hcz := hro2.cell (hrow_at72 _ _ HLS.out)))
    have hgz := grown_trans hg1 hg2 (.inl rfl)
    have hbz := hbs
    have HLZ := HLS
    have hrz' := hro2
    obtain ⟨sz, hsz⟩ : ∃ z, z = s := ⟨_, rfl⟩
    obtain ⟨rz, hrze⟩ : ∃ r, r = stopped rest f := ⟨_, rfl⟩
    rw [← hsz, ← hrze] at HFIN hrz'
    rw [← hrze] at HLZ hbz
    clear hro2 hr1 hr2 hg1 hg2 hro1 hrze hsz
    have htz := ht.grown hgz (by simpa using hb0)
    clear ht
    go_loopw [41] (fun i wr => ∃ k : Nat, k ≤ 8 ∧ i = .int .i64 k ∧ Row wr b 204 (hrow sz (lay rz ((l.length : Int) * 8) k) (l.length : Int)) ∧ w2.grownBy wr (some b)) (fun i _ => 8 - (intOf i).toNat)
    case atStart => exact ⟨0, by omega, rfl, by rw [lay_zero]; exact hrz', grown_refl _ _⟩
    case round =>
      obtain ⟨k, hk, rfl, hrk, hgk⟩ := hrel
      have hlk := lay_len HLZ.out ((l.length : Int) * 8) k hk
      clear hrz' hcz
      by_cases hk8 : k < 8
      · obtain ⟨m, hm⟩ : ∃ m : Nat, (56 : Int) - 8 * (k : Int) = m := ⟨56 - 8 * k, by omega⟩
        have HM := (show Hid (m = 56 - 8 * k) by show m = _; omega)
        have hik : ∀ u : World, (Instr.indexAt 202 (.pointer (some ⟨b, 8, none⟩)) (.int .i64 (56 + (k : Int)))).run Tryz.prog u = .ok (.pointer (some ⟨b, 8 + (56 + k), none⟩)) u := by
          intro u
          have := run_ixb b (56 + k) (by omega) u
          rwa [Int.natCast_add] at this
        have hck := hrk.cell (hrow_at sz (l.length : Int) hlk (56 + k) (by omega))
        have hfk := hrk.frozen (8 + (56 + k))
        have HK := (show Hid ((lay rz ((l.length : Int) * 8) k).length = 64) from hlk)
        clear hlk
        go_wp2_with fail
        go_region
        go_wp2_with fail
        go_roundw
        case rel =>
          rw [byte_at _ k hk8 m HM.out]
          refine ⟨k + 1, by omega, by go_num, ?_, ?_⟩
          · rw [← lay_set HLZ.out _ k hk8, ← hrow_byte _ _ _ HK.out (by omega)]
            exact (hrk.set _ _).drew
          · exact grown_to_drew (grown_trans hgk (grown_set _ _ _ _) (.inl rfl))
        case measure => simp [intOf]; omega
      · have hr8 : Row wr b 204 (hrow sz (lay rz ((l.length : Int) * 8) 8) (l.length : Int)) := by rwa [show k = 8 by omega] at hrk
        have hl8 : (lay rz ((l.length : Int) * 8) 8).length = 64 := by rwa [show k = 8 by omega] at hlk
        have hb8 := byt_lay hbz ((l.length : Int) * 8) 8
        obtain ⟨r8, hr8e⟩ : ∃ r, r = lay rz ((l.length : Int) * 8) 8 := ⟨_, rfl⟩
        rw [← hr8e] at hr8 hl8 hb8
        have hfin : blk sz r8 = F := by rw [hr8e]; exact HFIN.out
        have ht8 := htz.grown hgk (by simpa using hb0)
        have hlt8' := hr8.lt
        have HL8 := (show Hid (r8.length = 64) from hl8)
        have HFF := (show Hid (blk sz r8 = F) from hfin)
        clear hrk hlk hr8e hl8 hfin htz
        go_wp2_with fail
        go_region_held3 (fun _ => True) (trivial)
          ((go_at_call 190; refine (block_any wr.drew b 204 sz (bc r8 ++ [Value.int IntKind.u64 (l.length : Int)]) hr8.drew ht8 b 8 r8 HL8.out hb8 (hr8.bts HL8.out) hlt8').mono ?_; rintro e w9 ⟨rfl, hr9, hg9⟩))
        rw [HFF.out] at hr9
        go_wp2_with fail
        go_end0
        exact ⟨rfl, ⟨r8, _, HL8.out, hr9⟩, grown_trans (grown_trans hgz hgk (.inl rfl)) (grown_drew hg9) (.inl rfl)⟩
end
section
open Go.RowKit Oct Sha
theorem Tryz.siz43 : (Tryz.prog.info? 204).map (·.size) = some 73 := by kernel_rfl
def hzero : List Value := hrow ⟨0, 0, 0, 0, 0, 0, 0, 0⟩ (List.replicate 64 0) 0
theorem Tryz.zer43 : (Tryz.prog.info? 204).map (·.zero) = some (some (.agg hzero.toArray)) := by kernel_rfl
theorem zero43 (u : World) : (zeroValue 204).run Tryz.prog u = .ok (.agg hzero.toArray) u := by
  have h := Tryz.zer43
  cases hq : Tryz.prog.info? 204 with
  | none => simp [hq] at h
  | some i =>
    simp only [hq, Option.map_some, Option.some.injEq] at h
    simp [zeroValue, typeInfo, hq, h]
theorem hrow_one (s : St) (rest : List Int) (n : Int) : ∀ v ∈ hrow s rest n, v.oneCell' = true := by
  intro v hv
  rcases List.mem_append.1 hv with h | h
  · exact wv_one _ v h
  · rcases List.mem_append.1 h with h | h
    · exact bc_one _ v h
    · rw [List.mem_singleton.1 h]; rfl
theorem run_mk32 (u : World) : (Instr.makeSlice 24 (.int .i64 0) (.int .i64 32)).run Tryz.prog u =
    .ok (.slice (some ⟨u.heap.size, 0, none⟩) 0 32) (u.alloc (.cells (madeCells #[.int .u8 0] 32) 5)) := by
  obtain ⟨i0, hi, hz0, hz1, hz2⟩ := info_parts Tryz.info5
  have h := run_make (P := Tryz.prog) u 24 5 i0 (.int .u8 0) Tryz.underlying24 hi hz0 .i64 .i64 0 32 (by omega) (by omega) (by rw [hz2]; omega) (by omega)
  simpa [hz1, Value.cells] using h
theorem own_made (w : World) : Own (w.alloc (.cells (madeCells #[.int .u8 0] 32) 5)) 5 (.slice (some ⟨w.heap.size, 0, none⟩) 0 32) (bc []) := by
  refine ⟨rfl, .inr ⟨w.heap.size, 32, madeCells #[.int .u8 0] 32, rfl, Nat.zero_le _, heap_alloc_new w _, by decide, by decide, by rw [made_size], rfl⟩⟩
theorem rdv_four (w : World) (a b c d : Int) (e : TypeId) : Rdv (w.alloc (.cells #[.int .u8 a, .int .u8 b, .int .u8 c, .int .u8 d] e)) (.slice (some ⟨w.heap.size, 0, none⟩) 4 4) (bc [a, b, c, d]) :=
  Own.rdv (e := e) (World.ownsRow_lit (base := 0) (size := 1) w #[.int .u8 a, .int .u8 b, .int .u8 c, .int .u8 d] 4 (Nat.zero_le _) (by decide) rfl)
theorem be4_eq (x : BitVec 32) : be4 x = [wi x / 16777216 % 256, wi x / 65536 % 256, wi x / 256 % 256, wi x % 256] := by
  unfold be4
  rw [← shr_wi, ← shr_wi, ← shr_wi, show (2 : Int) ^ 24 = 16777216 from rfl, show (2 : Int) ^ 16 = 65536 from rfl, show (2 : Int) ^ 8 = 256 from rfl]
theorem out_take (s : St) (k : Nat) (hk : k < 8) : s.out.take (4 * (k + 1)) = s.out.take (4 * k) ++ be4 (s.ws.getD k 0) := by
  rcases (by omega : k = 0 ∨ k = 1 ∨ k = 2 ∨ k = 3 ∨ k = 4 ∨ k = 5 ∨ k = 6 ∨ k = 7) with rfl | rfl | rfl | rfl | rfl | rfl | rfl | rfl <;> rfl
theorem out_take_len (s : St) (k : Nat) (hk : k ≤ 8) : (s.out.take (4 * k)).length ≤ 32 := by rw [List.length_take, out_len]; omega
set_option maxHeartbeats 1000000 in
theorem hsum_any (w : World) (b : Nat) (l : List Int) (hh : Hs w b l) (ht : Tab w) (hlen : l.length < 1152921504606846976) :
    Calls Tryz.prog 161 #[.pointer (some ⟨b, 0, none⟩)] w fun e w' => ∃ v, e = .returned v ∧ Own w' 5 v (bc (shaL l)) ∧ Fr w.heap.size v ∧ Below w.heap.size w w' := by
  obtain ⟨rest, hre, hro⟩ := hh
  have hln : (hrow (blks l (l.length / 64)) rest (l.length : Int)).length = 73 := hrow_len _ _ hre.1
  have hsz : (Tryz.prog.info? 204).map (·.size) = some (hrow (blks l (l.length / 64)) rest (l.length : Int)).length := by rw [hln]; exact Tryz.siz43
  have hone := hrow_one (blks l (l.length / 64)) rest (l.length : Int)
  obtain ⟨R, hR⟩ : ∃ R, R = hrow (blks l (l.length / 64)) rest (l.length : Int) := ⟨_, rfl⟩
  rw [← hR] at hro hln hsz hone
  have HR := (show Hid (R = hrow (blks l (l.length / 64)) rest (l.length : Int)) from hR)
  have HLN := (show Hid (R.length = 73) from hln)
  clear hR hln
  have hz43 := zero43
  obtain ⟨Z, hZ⟩ : ∃ Z, Z = hzero := ⟨_, rfl⟩
  have hZl : Z.length = R.length := by rw [hZ, HLN.out]; rfl
  rw [← hZ] at hz43
  clear hZ
  go_enter Tryz.func161, Tryz.ntmps161
  go_wp2_with (first
    | (refine wl_load (by rfl) 204 _ (by rfl) b (by rfl) _ R hro _ Tryz.underlying204 rfl hsz ?_)
    | (refine wl_store (by rfl) 204 _ _ (by rfl) w.heap.size R (by rfl) (by rfl) 204 Z (heap_alloc_new w _) hZl hsz hone ?_; intro w1 hr1 hg1))
  have hN0 : w.heap.size ≠ 1 := Nat.ne_of_gt ht.pos
  have hb1 : Below w.heap.size w w1 := (below_alloc w _).trans (grown_below hg1 (by simp) (fun k hk => by cases hk; exact Nat.le_refl _))
  have hs1 : Hs w1 w.heap.size l := ⟨rest, hre, HR.out ▸ hr1.out⟩
  have ht1 := ht.below hb1
  clear hg1 hr1 hro hsz hone hre HR HLN hz43 hZl ht
  refine (finish_any w1 w.heap.size l hs1 hN0 ht1 hlen).mono ?_
  rintro e w2 ⟨rfl, ⟨rest2, n2, hrl2, hro2⟩, hg2⟩
  have hb2 : Below w.heap.size w w2 := hb1.trans (grown_below hg2 hb1.size (fun k hk => by cases hk; exact Nat.le_refl _))
  obtain ⟨F, hF⟩ : ∃ F, F = blks (pad l) ((pad l).length / 64) := ⟨_, rfl⟩
  rw [← hF] at hro2
  have HF := (show Hid (F.out = shaL l) by rw [hF]; rfl)
  have hmk := run_mk32
  obtain ⟨O, hO⟩ : ∃ O, O = Obj.cells (madeCells #[.int .u8 0] 32) 5 := ⟨_, rfl⟩
  have how : Own (w2.alloc O) 5 (.slice (some ⟨w2.heap.size, 0, none⟩) 0 32) (bc []) := hO ▸ own_made w2
  rw [← hO] at hmk
  have hro3 := hro2.below (below_alloc w2 O)
  have c0 : (w2.alloc O).cell? ⟨w.heap.size, 0, none⟩ = some (.int .u32 (wi F.a)) := hro3.cell rfl
  have c1 : (w2.alloc O).cell? ⟨w.heap.size, 1, none⟩ = some (.int .u32 (wi F.b)) := hro3.cell rfl
  have c2 : (w2.alloc O).cell? ⟨w.heap.size, 2, none⟩ = some (.int .u32 (wi F.c)) := hro3.cell rfl
  have c3 : (w2.alloc O).cell? ⟨w.heap.size, 3, none⟩ = some (.int .u32 (wi F.d)) := hro3.cell rfl
  have c4 : (w2.alloc O).cell? ⟨w.heap.size, 4, none⟩ = some (.int .u32 (wi F.e)) := hro3.cell rfl
  have c5 : (w2.alloc O).cell? ⟨w.heap.size, 5, none⟩ = some (.int .u32 (wi F.f)) := hro3.cell rfl
  have c6 : (w2.alloc O).cell? ⟨w.heap.size, 6, none⟩ = some (.int .u32 (wi F.g)) := hro3.cell rfl
  have c7 : (w2.alloc O).cell? ⟨w.heap.size, 7, none⟩ = some (.int .u32 (wi F.h)) := hro3.cell rfl
  have hb3 := hb2.alloc (by exact hb2.size) O
  have hfr : Fr w.heap.size (.slice (some ⟨w2.heap.size, 0, none⟩) 0 32) := fr_at _ _ _ _ hb2.size
  clear hO hro3 hro2 hg2 hs1 ht1 hb1 hF hrl2 hN0 hlen hb2
  go_wp2_with fail
  go_loopw [4, 14] (fun o i wr => ∃ k : Nat, k ≤ 8 ∧ i = .int .i64 k ∧ Own wr 5 o (bc (F.out.take (4 * k))) ∧ Fr w.heap.size o ∧ Below w.heap.size w wr) (fun _ i _ => 8 - (intOf i).toNat)
  case atStart => exact ⟨0, by omega, rfl, how, hfr, hb3⟩
  case round =>
    obtain ⟨k, hk, rfl, hok, hfk, hbk⟩ := hrel
    clear how hfr hb3 c0 c1 c2 c3 c4 c5 c6 c7 hmk
    by_cases hk8 : k < 8
    · have hix : ∀ u : World, (Instr.index 200 (.agg #[.int .u32 (wi F.a), .int .u32 (wi F.b), .int .u32 (wi F.c), .int .u32 (wi F.d), .int .u32 (wi F.e), .int .u32 (wi F.f), .int .u32 (wi F.g), .int .u32 (wi F.h)]) (.int .i64 (k : Int))).run Tryz.prog u = .ok (.int .u32 (wi (F.ws.getD k 0))) u := run_ixv Tryz.und38 Tryz.info34 Tryz.underlying143 F.ws k hk8 rfl
      obtain ⟨x, hx⟩ : ∃ x, x = F.ws.getD k 0 := ⟨_, rfl⟩
      rw [← hx] at hix
      have HX := (show Hid (F.out.take (4 * (k + 1)) = F.out.take (4 * k) ++ [wi x / 16777216 % 256, wi x / 65536 % 256, wi x / 256 % 256, wi x % 256]) by rw [hx, ← be4_eq]; exact out_take F k hk8)
      have HTL := (show Hid ((F.out.take (4 * k)).length ≤ 32) from out_take_len F k hk)
      clear hx
      go_wp2_with (at_builtin; refine app_bytes rfl _ _ rfl _ (F.out.take (4 * k)) rfl (World.ownsRow.alloc hok _) _ [_, _, _, _] rfl (rdv_four wr _ _ _ _ _) (by have := HTL.out; simp only [List.length_cons, List.length_nil]; omega) ?_; intro v1 w3 happ1)
      have hp := happ1.pre (below_alloc wr _)
      have HO := (show Hid (Own w3 5 v1 (bc (F.out.take (4 * (k + 1))))) by rw [HX.out]; exact hp.own)
      have hf3 := hp.fr hfk hbk.size
      have hb3 := hbk.trans (hp.below hfk hbk.size)
      clear hp happ1 hok hfk hbk HX HTL
      go_roundw
      case rel => exact ⟨k + 1, by omega, by go_num, HO, hf3, hb3⟩
      case measure => simp [intOf]; omega
    · have hok' : Own wr 5 u4 (bc (shaL l)) := by
        rwa [show k = 8 by omega, List.take_of_length_le (by rw [out_len]; decide), HF.out] at hok
      go_wp2_with fail
      go_ret
      exact ⟨_, rfl, hok', hfk, hbk⟩
theorem rdv_els (w : World) (xs : List Value) (e : TypeId) (h : 0 < xs.length) (hm : xs.length ≤ 1000) : Rdv (w.alloc (.cells xs.toArray e)) (.slice (some ⟨w.heap.size, 0, none⟩) xs.length xs.length) xs := by
  refine ⟨some ⟨w.heap.size, 0, none⟩, xs.length, rfl, Nat.le_refl _, by unfold maxLen; omega, fun e => (by cases e), fun a ha j u hu => ?_⟩
  cases ha
  rw [Addr.add_mid]
  exact (Row.new w e xs).cell (by rw [Nat.zero_add]; exact hu)
theorem hs_ne {w : World} {v : Value} {l : List Int} {b : Nat} (h : Rd w v l) (hl : 0 < l.length) (hb : w.heap.size ≤ b) : ∀ k, v.ownBlock = some k → k ≠ b := fun k hk => by
  have := h.lt (fun e => by rw [e] at hl; simp at hl) k hk
  omega
set_option maxHeartbeats 1000000 in
theorem sum_any (w : World) (v : Value) (l : List Int) (hr : Rd w v l) (ht : Tab w) (hlen : l.length < 1152921504606846976) :
    Calls Tryz.prog 123 #[v] w fun e w' => ∃ r, e = .returned r ∧ Own w' 5 r (bc (shaL l)) ∧ Fr w.heap.size r ∧ Below w.heap.size w w' := by
  have le := Nat.le_refl w.heap.size
  obtain ⟨ao, cap, rfl, hcap⟩ := hr.form
  go_enter Tryz.func123, Tryz.ntmps123
  go_wp2_with fail
  refine (new_any w).mono ?_
  rintro e w1 ⟨b, rfl, hb, hs1, hb1⟩
  have hr1 := hr.below hb1
  have ht1 := ht.below hb1
  have hpos := ht.pos
  go_wp2_with fail
  have hbn : b < w1.heap.size := hs1.lt
  have hal := below_alloc w1 (Obj.cells #[Value.slice ao l.length cap] 24)
  refine (write_any _ b [] _ [Value.slice ao l.length cap] [l] (hs1.below hal) (rdv_els w1 [Value.slice ao l.length cap] 24 (by simp) (by simp)) ⟨hr1.below hal, trivial⟩ (fun k hk => by simp [Value.ownBlock] at hk; omega) ?_ (by omega) (ht1.below hal) (by simpa using hlen)).mono ?_
  · intro i u x hi hx hx0 k hk
    cases i with
    | zero => simp at hi hx; subst hi hx; exact hs_ne hr hx0 hb k hk
    | succ i => simp at hi
  rintro e w2 ⟨rfl, hs2, hg2⟩
  rw [List.nil_append, List.flatten_singleton] at hs2
  have hb2 : Below w.heap.size w w2 := (below_and hb1 le hal).trans (grown_below hg2 (by simp; exact Nat.le_succ_of_le hb1.size) (fun k hk => by cases hk; exact hb))
  have ht2 := ht.below hb2
  clear hs1 hr1 hg2 hr hal hb1 ht1 ht
  go_wp2_with fail
  refine (hsum_any w2 b l hs2 ht2 hlen).mono ?_
  rintro e w3 ⟨r, rfl, hown, hfr, hb3⟩
  go_wp2_with fail
  go_ret
  exact ⟨_, rfl, hown, hfr.mono hb2.size, below_and hb2 le hb3⟩
end
end Go.Proofs.YtgbfmccecnfooaaGreatDoor
