/- The document's Fields. Written by mk17f.py. -/
import Derived.Test.YtgbfmccecnfooaaGreatDoorCRAM
import Derived.Test.YtgbfmccecnfooaaGreatDoorCRAN
import Derived.Test.YtgbfmccecnfooaaGreatDoorCRAY
import Derived.Deep.CutBlock
set_option linter.unusedVariables false
namespace Go.Proofs.YtgbfmccecnfooaaGreatDoor
section
open Go.RowKit Oct Sha
theorem turn_all (w : World) (x : BitVec 32) (z : Int) (hz : decide (1 ≤ z) && decide (z ≤ 31) = true) : Calls Tryz.prog 183 #[.int .u32 (wi x), .int .i64 z] w fun e w' => e = .returned (.int .u32 (wi (rotr x z.toNat))) ∧ w' = w := by
  have hz' : 1 ≤ z ∧ z ≤ 31 := by simpa using hz
  have := turn_any w x z.toNat (by omega) (by omega)
  rwa [Int.toNat_of_nonneg (by omega)] at this
theorem run_cut_at (pb off len cap n : Nat) (hn : n ≤ len) (hlt : n < cap) (u : World) : (Instr.slice 24 (.slice (some ⟨pb, off, none⟩) len cap) (some (.int .i64 (n : Int))) none none).run Tryz.prog u = .ok (.slice (some ⟨pb, off + n, none⟩) (len - n) (cap - n)) u := by
  have ht : Tryz.prog.underlying 24 = some (.slice (Tryz.prog.elem 24)) := by kernel_rfl
  have hs : (sizeOf (Tryz.prog.elem 24)).run Tryz.prog u = .ok 1 u := by
    rw [show Tryz.prog.elem 24 = 5 by kernel_rfl]
    obtain ⟨i0, hi, hz0, hz1, hz2⟩ := info_parts Tryz.info5
    simp [sizeOf, typeInfo, hi, hz1]
  rw [run_slice_l u 24 (some ⟨pb, off, none⟩) len cap ht .i64 n (by omega) (by omega), hs]
  simp only [Result.andThen, sliced, Int.toNat_natCast, Nat.mul_one, Option.map_some, Addr.add_mid]
  rw [if_neg (by omega)]
theorem k_any (w : World) : Calls Tryz.prog 182 #[] w fun e w' => e = .returned (.agg (kk.map wv).toArray) ∧ Below w.heap.size w w' := by
  go_enter Tryz.func182, Tryz.ntmps182
  go_wp2_with (first
    | (refine wpList_buildTo (by rfl) 205 _ (by rfl) _ (by rfl) (kk.map wv).toArray (by kernel_rfl) ?_)
    | (refine wl_store (by rfl) 205 _ _ (by rfl) w.heap.size (kk.map wv) (by rfl) (by rfl) 205 (wz 64) (heap_alloc_new w _) (by rfl) (by kernel_rfl) (wv_one _) ?_; intro w2 hR2 hg2))
  exact bodyPost_ret (v := .agg (kk.map wv).toArray) (results_cell_row rfl _ _ w.heap.size _ (kk.map wv).toArray (0, 0) _ (by rfl) hR2.out Tryz.und45 rfl (by kernel_rfl)) rfl ⟨rfl, (below_alloc w _).trans (grown_below hg2 (by simp) (fun k hk => by cases hk; exact Nat.le_refl _))⟩
theorem word_any (w : World) (b off c : Nat) (x0 x1 x2 x3 : Int) (n : Nat) (hn : 4 ≤ n) (y0 : 0 ≤ x0 ∧ x0 ≤ 255) (y1 : 0 ≤ x1 ∧ x1 ≤ 255) (y2 : 0 ≤ x2 ∧ x2 ≤ 255) (y3 : 0 ≤ x3 ∧ x3 ≤ 255)
    (c0 : w.cell? ⟨b, off, none⟩ = some (.int .u8 x0)) (c1 : w.cell? ⟨b, off + 1, none⟩ = some (.int .u8 x1)) (c2 : w.cell? ⟨b, off + 2, none⟩ = some (.int .u8 x2)) (c3 : w.cell? ⟨b, off + 3, none⟩ = some (.int .u8 x3)) :
    Calls Tryz.prog 191 #[.slice (some ⟨b, off, none⟩) n c] w fun e w' => e = .returned (.int .u32 (wi (BitVec.ofInt 32 (((x0 * 256 + x1) * 256 + x2) * 256 + x3)))) ∧ w' = w := by
  have hni : (4 : Int) ≤ (n : Int) := by omega
  rw [wi_ofInt _ (by omega) (by omega)]
  go_enter Tryz.func191, Tryz.ntmps191
  go_wp2_with fail
  refine wp_loop_rounds 5 ?_
  rw [rounds_succ]
  go_wp2_with fail
  rw [rounds_succ]
  go_wp2_with fail
  rw [rounds_succ]
  go_wp2_with fail
  rw [rounds_succ]
  go_wp2_with fail
  rw [rounds_succ]
  go_wp2_with fail
  go_ret
  exact ⟨ret_int (by omega), rfl⟩
set_option maxHeartbeats 1000000 in
theorem schedule_any (w : World) (v : Value) (p : List Int) (hrd : Rd w v p) (hp : p.length = 64) :
    Calls Tryz.prog 181 #[v] w fun e w' => e = .returned (.agg ((sch p 64).map wv).toArray) ∧ Below w.heap.size w w' := by
  have hb := hrd.1
  obtain ⟨b, o, cap, rfl, hc1, hc2, hlt, hcell⟩ := hrd.at (by omega)
  have hr : Bts w b o p := hcell
  rw [hp] at hc1 ⊢
  obtain ⟨X, hX⟩ : ∃ X, X = (sch p 64).map wv := ⟨_, rfl⟩
  rw [← hX]
  have HX := (show Hid (X = (sch p 64).map wv) from hX)
  clear hX hcell hrd
  go_enter Tryz.func181, Tryz.ntmps181
  go_wp2_with (first
    | (refine wpList_buildTo (by rfl) 205 _ (by rfl) _ (by rfl) (wz 64).toArray (by kernel_rfl) ?_)
    | (refine wl_store (by rfl) 205 _ _ (by rfl) (w.heap.size + 1) (wz 64) (by rfl) (by rfl) 205 (wz 64) (heap_alloc2_new w _ _) (by rfl) (by kernel_rfl) (wv_one (List.replicate 64 0)) ?_; intro w2 hR2 hg2))
  have hZ2 : Row w2 w.heap.size 205 (wz 64) := (show Row _ w.heap.size 205 (wz 64) from heap_alloc2_old w _ _).grown hg2 (by simp)
  have hbel2 : Below w.heap.size w w2 := ((below_alloc w _).trans ((Below.refl _ _).alloc (by simp) _)).trans (grown_below hg2 (by simp; omega) (fun k hk => by cases hk; exact Nat.le_succ _))
  clear hg2
  go_loopw [4] (fun i wr => ∃ k : Nat, k ≤ 16 ∧ i = .int .i64 k ∧ Row wr (w.heap.size + 1) 205 ((sch p k).map wv ++ wz (64 - k)) ∧ Row wr w.heap.size 205 (wz 64) ∧ Below w.heap.size w wr) (fun i _ => 16 - (intOf i).toNat)
  case atStart => exact ⟨0, by omega, rfl, hR2, hZ2, hbel2⟩
  case round =>
    clear hR2 hZ2 hbel2
    obtain ⟨k, hk, rfl, hR, hZ, hbel⟩ := hrel
    have hrr := hr.below hlt hbel
    by_cases hk16 : k < 16
    · obtain ⟨x0, hx0⟩ : ∃ x, x = p.getD (4 * k) 0 := ⟨_, rfl⟩
      obtain ⟨x1, hx1⟩ : ∃ x, x = p.getD (4 * k + 1) 0 := ⟨_, rfl⟩
      obtain ⟨x2, hx2⟩ : ∃ x, x = p.getD (4 * k + 2) 0 := ⟨_, rfl⟩
      obtain ⟨x3, hx3⟩ : ∃ x, x = p.getD (4 * k + 3) 0 := ⟨_, rfl⟩
      have y0 : 0 ≤ x0 ∧ x0 ≤ 255 := hx0 ▸ byt_at hb _
      have y1 : 0 ≤ x1 ∧ x1 ≤ 255 := hx1 ▸ byt_at hb _
      have y2 : 0 ≤ x2 ∧ x2 ≤ 255 := hx2 ▸ byt_at hb _
      have y3 : 0 ≤ x3 ∧ x3 ≤ 255 := hx3 ▸ byt_at hb _
      have c0 : wr.cell? ⟨b, o + 4 * k, none⟩ = some (.int .u8 x0) := hx0 ▸ hrr (4 * k) (by omega)
      have c1 : wr.cell? ⟨b, o + 4 * k + 1, none⟩ = some (.int .u8 x1) := hx1 ▸ hrr (4 * k + 1) (by omega)
      have c2 : wr.cell? ⟨b, o + 4 * k + 2, none⟩ = some (.int .u8 x2) := hx2 ▸ hrr (4 * k + 2) (by omega)
      have c3 : wr.cell? ⟨b, o + 4 * k + 3, none⟩ = some (.int .u8 x3) := hx3 ▸ hrr (4 * k + 3) (by omega)
      have HW := (show Hid (wrd p k = BitVec.ofInt 32 (((x0 * 256 + x1) * 256 + x2) * 256 + x3)) by rw [hx0, hx1, hx2, hx3]; rfl)
      clear hx0 hx1 hx2 hx3 hrr
      have hsl : ∀ u : World, (Instr.slice 24 (.slice (some ⟨b, o, none⟩) 64 cap) (some (.int .i64 (4 * (k : Int)))) none none).run Tryz.prog u = .ok (.slice (some ⟨b, o + 4 * k, none⟩) (64 - 4 * k) (cap - 4 * k)) u := run_cut_at b o 64 cap (4 * k) (by omega) (by omega)
      have hik : ∀ u : World, (Instr.indexAt 205 (.pointer (some ⟨w.heap.size + 1, 0, none⟩)) (.int .i64 (k : Int))).run Tryz.prog u = .ok (.pointer (some ⟨w.heap.size + 1, k, none⟩)) u := run_ix (w.heap.size + 1) k (by omega)
      go_wp2_with fail
      refine (word_any _ b (o + 4 * k) (cap - 4 * k) x0 x1 x2 x3 (64 - 4 * k) (by omega) y0 y1 y2 y3 c0 c1 c2 c3).mono ?_
      rintro e wq ⟨rfl, rfl⟩
      rw [← HW.out]
      have ck : wq.cell? ⟨w.heap.size + 1, k, none⟩ = some (.int .u32 0) := hR.cell (wz_at p k (by omega))
      have fk := hR.frozen k
      have HR' := (show Hid (∀ v, Row (wq.setCell ⟨w.heap.size + 1, k, none⟩ v) (w.heap.size + 1) 205 (((sch p k).map wv ++ wz (64 - k)).set k v)) from fun v => hR.set k v)
      clear c0 c1 c2 c3 y0 y1 y2 y3
      go_wp2_with fail
      go_roundw
      case rel =>
        rw [← nxt_lo p k hk16]
        exact ⟨k + 1, by omega, by go_num, sch_set p k (by omega) ▸ HR'.out _, hZ.grown (grown_set _ _ _ _) (by simp), below_set hbel (Nat.le_refl _) (Nat.le_succ _) _ _⟩
      case measure => simp [intOf]; omega
    · have hR16 : Row wr (w.heap.size + 1) 205 ((sch p 16).map wv ++ wz (64 - 16)) := (show k = 16 by omega) ▸ hR
      clear hr hlt hb hp hR hrr
      go_wp2_with fail
      go_loopw [5] (fun i wr => ∃ k : Nat, 16 ≤ k ∧ k ≤ 64 ∧ i = .int .i64 k ∧ Row wr (w.heap.size + 1) 205 ((sch p k).map wv ++ wz (64 - k)) ∧ Row wr w.heap.size 205 (wz 64) ∧ Below w.heap.size w wr) (fun i _ => 64 - (intOf i).toNat)
      case atStart => exact ⟨16, by omega, by omega, rfl, hR16, hZ, hbel⟩
      case round =>
        clear hR16 hZ hbel
        rename Nat => k0
        obtain ⟨k, hk, hk', rfl, hR, hZ, hbel⟩ := hrel
        by_cases hk64 : k < 64
        · obtain ⟨m2, hm2⟩ : ∃ m : Nat, (k : Int) - 2 = m := ⟨k - 2, by omega⟩
          obtain ⟨m7, hm7⟩ : ∃ m : Nat, (k : Int) - 7 = m := ⟨k - 7, by omega⟩
          obtain ⟨m15, hm15⟩ : ∃ m : Nat, (k : Int) - 15 = m := ⟨k - 15, by omega⟩
          obtain ⟨m16, hm16⟩ : ∃ m : Nat, (k : Int) - 16 = m := ⟨k - 16, by omega⟩
          obtain ⟨y2, hy2⟩ : ∃ y, y = (sch p k).getD (k - 2) 0 := ⟨_, rfl⟩
          obtain ⟨y7, hy7⟩ : ∃ y, y = (sch p k).getD (k - 7) 0 := ⟨_, rfl⟩
          obtain ⟨y15, hy15⟩ : ∃ y, y = (sch p k).getD (k - 15) 0 := ⟨_, rfl⟩
          obtain ⟨y16, hy16⟩ : ∃ y, y = (sch p k).getD (k - 16) 0 := ⟨_, rfl⟩
          have c2 : wr.cell? ⟨w.heap.size + 1, m2, none⟩ = some (.int .u32 (wi y2)) := by rw [hy2, show k - 2 = m2 by omega]; exact hR.cell (sch_at p k m2 (by omega))
          have c7 : wr.cell? ⟨w.heap.size + 1, m7, none⟩ = some (.int .u32 (wi y7)) := by rw [hy7, show k - 7 = m7 by omega]; exact hR.cell (sch_at p k m7 (by omega))
          have c15 : wr.cell? ⟨w.heap.size + 1, m15, none⟩ = some (.int .u32 (wi y15)) := by rw [hy15, show k - 15 = m15 by omega]; exact hR.cell (sch_at p k m15 (by omega))
          have c16 : wr.cell? ⟨w.heap.size + 1, m16, none⟩ = some (.int .u32 (wi y16)) := by rw [hy16, show k - 16 = m16 by omega]; exact hR.cell (sch_at p k m16 (by omega))
          have HN := (show Hid (nxt p (sch p k) = s1 y2 + y7 + s0 y15 + y16) by rw [hy2, hy7, hy15, hy16]; exact nxt_hi p k hk)
          clear hy2 hy7 hy15 hy16
          have ck : wr.cell? ⟨w.heap.size + 1, k, none⟩ = some (.int .u32 0) := hR.cell (wz_at p k (by omega))
          have fk := hR.frozen k
          have q2 : IntKind.i64.wrap (m2 : Int) = m2 := by rw [IntKind.wrap_i64]; omega
          have q7 : IntKind.i64.wrap (m7 : Int) = m7 := by rw [IntKind.wrap_i64]; omega
          have q15 : IntKind.i64.wrap (m15 : Int) = m15 := by rw [IntKind.wrap_i64]; omega
          have q16 : IntKind.i64.wrap (m16 : Int) = m16 := by rw [IntKind.wrap_i64]; omega
          have i2 : ∀ u : World, (Instr.indexAt 205 (.pointer (some ⟨w.heap.size + 1, 0, none⟩)) (.int .i64 (m2 : Int))).run Tryz.prog u = .ok (.pointer (some ⟨w.heap.size + 1, m2, none⟩)) u := run_ix (w.heap.size + 1) m2 (by omega)
          have i7 : ∀ u : World, (Instr.indexAt 205 (.pointer (some ⟨w.heap.size + 1, 0, none⟩)) (.int .i64 (m7 : Int))).run Tryz.prog u = .ok (.pointer (some ⟨w.heap.size + 1, m7, none⟩)) u := run_ix (w.heap.size + 1) m7 (by omega)
          have i15 : ∀ u : World, (Instr.indexAt 205 (.pointer (some ⟨w.heap.size + 1, 0, none⟩)) (.int .i64 (m15 : Int))).run Tryz.prog u = .ok (.pointer (some ⟨w.heap.size + 1, m15, none⟩)) u := run_ix (w.heap.size + 1) m15 (by omega)
          have i16 : ∀ u : World, (Instr.indexAt 205 (.pointer (some ⟨w.heap.size + 1, 0, none⟩)) (.int .i64 (m16 : Int))).run Tryz.prog u = .ok (.pointer (some ⟨w.heap.size + 1, m16, none⟩)) u := run_ix (w.heap.size + 1) m16 (by omega)
          have ik : ∀ u : World, (Instr.indexAt 205 (.pointer (some ⟨w.heap.size + 1, 0, none⟩)) (.int .i64 (k : Int))).run Tryz.prog u = .ok (.pointer (some ⟨w.heap.size + 1, k, none⟩)) u := run_ix (w.heap.size + 1) k (by omega)
          go_wp2_with fail
          go_quiet ((go_at_call 183; exact quiet_as (turn_all _ y15 _ (by decide)) rfl))
          go_wp2_with fail
          go_quiet ((go_at_call 183; exact quiet_as (turn_all _ y2 _ (by decide)) rfl))
          go_wp2_with fail
          go_region
          go_wp2_with fail
          go_roundw
          case rel =>
            have hset := sch_set p k (by omega)
            rw [HN.out] at hset
            rw [show (8 : Int) = 2 ^ 3 from rfl, show (1024 : Int) = 2 ^ 10 from rfl, shr_wi, shr_wi]
            simp only [bits_xor, mod_wi, ofInt_sum, ofInt_wi]
            refine ⟨k + 1, by omega, by omega, by go_num, ?_, (show Row (wr.drewN _) w.heap.size 205 (wz 64) from hZ).grown (grown_set _ _ _ _) (by simp), below_set (bel_drewN hbel _) (Nat.le_refl _) (Nat.le_succ _) _ _⟩
            rw [← hset]
            exact Row.set (w := wr.drewN _) hR k _
          case measure => simp [intOf]; omega
        · obtain rfl : k = 64 := by omega
          clear hk hk' hk64
          have hl : X.length = 64 := by rw [HX.out, List.length_map, sch_len]
          have hR' : Row wr (w.heap.size + 1) 205 X := by rw [HX.out]; simpa [wz] using hR
          have ho : ∀ v ∈ X, v.oneCell' = true := by rw [HX.out]; exact wv_one _
          clear hR
          have hs : (Tryz.prog.info? 205).map (·.size) = some X.length := by rw [hl]; exact Tryz.siz45
          have hle : (wz 64).length = X.length := by rw [hl]; rfl
          go_wp2_with (first
            | (refine wl_load (by rfl) 205 _ (by rfl) (w.heap.size + 1) (by rfl) _ X hR' _ Tryz.und45 rfl hs ?_)
            | (refine wl_store (by rfl) 205 _ _ (by rfl) w.heap.size X (by rfl) (by rfl) _ (wz 64) hZ hle hs ho ?_; intro w2 hR2 hg2))
          exact bodyPost_ret (v := .agg X.toArray) (results_cell_row rfl _ _ w.heap.size _ X.toArray (0, 0) _ (by rfl) hR2.out Tryz.und45 rfl (by simpa using hs)) rfl ⟨rfl, hbel.trans (grown_below hg2 hbel.size (fun k hk => by cases hk; exact Nat.le_refl _))⟩
end
section
open Go.RowKit Oct
/-- The fields of a kind, as marks. -/
def marks (k : Int) : List Value := (List.range 15).map fun i => Value.bool ((fl k).contains i)
def no15 : List Value := [.bool false, .bool false, .bool false, .bool false, .bool false, .bool false, .bool false, .bool false, .bool false, .bool false, .bool false, .bool false, .bool false, .bool false, .bool false]
def mks (l : List Nat) : List Value := (List.range 15).map fun i => Value.bool (l.contains i)
theorem mks_len (l : List Nat) : (mks l).length = 15 := by simp [mks]
theorem mks_set (l : List Nat) (i : Nat) : (mks l).set i (.bool true) = mks (l ++ [i]) := by
  unfold mks
  apply List.ext_getElem
  · simp
  · intro n h1 h2
    rw [List.getElem_set]
    simp only [List.getElem_map, List.getElem_range]
    by_cases h : i = n
    · rw [if_pos h]; simp [h]
    · rw [if_neg h]
      congr 1
      rw [Bool.eq_iff_iff]
      simp
      omega
theorem one_mks (l : List Nat) : ∀ x ∈ mks l, x.oneCell' = true := by
  intro x hx
  obtain ⟨i, _, rfl⟩ := List.mem_map.1 hx
  rfl
def il (l : List Nat) : List Value := l.map fun (i : Nat) => Value.int .i64 (i : Int)
theorem fl_len (k : Int) : (fl k).length ≤ 8 := by
  rcases fl_cases k with h | h | h | h | h | h | h | h | h | h | h | h | h | h | h | h | h | h | h | h
  all_goals first | (subst h; decide) | (rw [h]; decide)
theorem run_ix15 (b i : Nat) (hi : i < 15) (u : World) : (Instr.indexAt 154 (.pointer (some ⟨b, 0, none⟩)) (.int .i64 (i : Int))).run Tryz.prog u = .ok (.pointer (some ⟨b, i, none⟩)) u := by
  have ht : Tryz.prog.underlying 154 = some (.array (Tryz.prog.arrayLen 154) (Tryz.prog.elem 154)) := by kernel_rfl
  have hn : Tryz.prog.arrayLen 154 = 15 := by kernel_rfl
  have h1 : (Tryz.prog.info? (Tryz.prog.elem 154)).map (·.size) = some 1 := by kernel_rfl
  have hs : (sizeOf (Tryz.prog.elem 154)).run Tryz.prog u = .ok 1 u := by
    cases hq : Tryz.prog.info? (Tryz.prog.elem 154) with
    | none => rw [hq] at h1; cases h1
    | some i0 =>
      rw [hq] at h1
      have h2 : i0.size = 1 := by simpa using h1
      simp [sizeOf, typeInfo, hq, h2]
  rw [run_indexAt_array u 154 _ .i64 i ht, hn, if_pos (by omega), hs]
  simp only [Result.andThen, Addr.add_mid]
  simp
set_option maxRecDepth 10000 in
set_option maxHeartbeats 4000000 in
theorem refFields_any (w : World) (k : Int) (h : fl k ≠ []) : Calls Tryz.prog 130 #[.int .i64 k] w fun e w' => e = .returned (.agg (marks k).toArray) ∧ Below w.heap.size w w' := by
  obtain ⟨l, hL⟩ : ∃ l, l = fl k := ⟨_, rfl⟩
  have e : marks k = mks l := by rw [hL]; rfl
  rw [e]
  clear e
  obtain ⟨w2, hw2⟩ : ∃ w2, w2 = w.alloc (.cells ([.bool false, .bool false, .bool false, .bool false, .bool false, .bool false, .bool false, .bool false, .bool false, .bool false, .bool false, .bool false, .bool false, .bool false, .bool false] : List Value).toArray 154) := ⟨_, rfl⟩
  have rr : Row w2 w.heap.size 154 (mks []) := by rw [hw2]; exact Row.new w _ _
  have hB : Below w.heap.size w w2 := by rw [hw2]; exact below_alloc _ _
  have hrow := Row.new w2 154 [.bool false, .bool false, .bool false, .bool false, .bool false, .bool false, .bool false, .bool false, .bool false, .bool false, .bool false, .bool false, .bool false, .bool false, .bool false]
  go_enter Tryz.func130, Tryz.ntmps130
  go_upto_region 1 with fail
  rw [← hw2]
  clear hw2
  go_upto_region 2 with (refine wl_store rfl _ _ _ rfl w2.heap.size [.bool false, .bool false, .bool false, .bool false, .bool false, .bool false, .bool false, .bool false, .bool false, .bool false, .bool false, .bool false, .bool false, .bool false, .bool false] rfl rfl _ _ hrow rfl (by kernel_rfl) (by decide) ?_; intro w3 hr3 hg3)
  have ra3 : Row w3 w2.heap.size 154 (mks []) := hr3.out
  have hb3 : Below w2.heap.size w2 w3 := (below_alloc w2 (.cells ([.bool false, .bool false, .bool false, .bool false, .bool false, .bool false, .bool false, .bool false, .bool false, .bool false, .bool false, .bool false, .bool false, .bool false, .bool false] : List Value).toArray 154)).trans (grown_below hg3 (by simp) (fun k hk => by cases hk; exact Nat.le_refl _))
  clear hrow hr3 hg3
  obtain ⟨w4, hw4⟩ : ∃ w4, w4 = w3.alloc (.cells #[] 3) := ⟨_, rfl⟩
  have b4 : Below w3.heap.size w3 w4 := by rw [hw4]; exact below_alloc _ _
  go_upto_block 0 with fail
  rw [← hw4]
  clear hw4
  have hne : w.heap.size ≠ w2.heap.size := Nat.ne_of_lt rr.lt
  have ra4 := ra3.below b4
  have rr4 := (rr.below hb3).below b4
  have hB4 := below_and hb3 (Nat.le_refl _) b4
  obtain ⟨cH, hcH⟩ : ∃ c, c = w2.heap.size := ⟨_, rfl⟩
  rw [← hcH] at ra4 hne ⊢
  have hcw : w.heap.size ≤ cH := by rw [hcH]; exact hB.size
  clear ra3 rr b4 hb3 hcH
  go_cut [4] from 10 to 62 (fun s4 wx => ∃ g, s4 = .slice (some ⟨g, 0, none⟩) l.length l.length ∧ Row wx g 3 (il l) ∧ Below w4.heap.size w4 wx)
  case first =>
    rcases fl_cases k with rfl | rfl | rfl | rfl | rfl | rfl | rfl | rfl | rfl | rfl | rfl | rfl | rfl | rfl | rfl | rfl | rfl | rfl | rfl | e
    · subst hL
      clear h
      go_wp2_with fail
      go_meet
      exact ⟨_, rfl, Row.new w4 3 [.int .i64 6], below_alloc _ _⟩
    · subst hL
      clear h
      go_wp2_with fail
      go_meet
      exact ⟨_, rfl, Row.new w4 3 [.int .i64 0, .int .i64 1, .int .i64 6, .int .i64 11], below_alloc _ _⟩
    · subst hL
      clear h
      go_wp2_with fail
      go_meet
      exact ⟨_, rfl, Row.new w4 3 [.int .i64 0, .int .i64 1, .int .i64 6, .int .i64 10, .int .i64 11], below_alloc _ _⟩
    · subst hL
      clear h
      go_wp2_with fail
      go_meet
      exact ⟨_, rfl, Row.new w4 3 [.int .i64 0, .int .i64 1, .int .i64 6, .int .i64 11], below_alloc _ _⟩
    · subst hL
      clear h
      go_wp2_with fail
      go_meet
      exact ⟨_, rfl, Row.new w4 3 [.int .i64 2, .int .i64 3, .int .i64 4, .int .i64 8, .int .i64 9], below_alloc _ _⟩
    · subst hL
      clear h
      go_wp2_with fail
      go_meet
      exact ⟨_, rfl, Row.new w4 3 [.int .i64 0, .int .i64 2, .int .i64 3, .int .i64 9], below_alloc _ _⟩
    · subst hL
      clear h
      go_wp2_with fail
      go_meet
      exact ⟨_, rfl, Row.new w4 3 [.int .i64 0, .int .i64 2, .int .i64 3, .int .i64 9, .int .i64 10], below_alloc _ _⟩
    · subst hL
      clear h
      go_wp2_with fail
      go_meet
      exact ⟨_, rfl, Row.new w4 3 [.int .i64 14], below_alloc _ _⟩
    · subst hL
      clear h
      go_wp2_with fail
      go_meet
      exact ⟨_, rfl, Row.new w4 3 [.int .i64 0, .int .i64 9, .int .i64 12, .int .i64 14], below_alloc _ _⟩
    · subst hL
      clear h
      go_wp2_with fail
      go_meet
      exact ⟨_, rfl, Row.new w4 3 [.int .i64 1, .int .i64 8, .int .i64 11], below_alloc _ _⟩
    · subst hL
      clear h
      go_wp2_with fail
      go_meet
      exact ⟨_, rfl, Row.new w4 3 [.int .i64 1, .int .i64 2], below_alloc _ _⟩
    · subst hL
      clear h
      go_wp2_with fail
      go_meet
      exact ⟨_, rfl, Row.new w4 3 [.int .i64 1, .int .i64 2, .int .i64 4, .int .i64 5, .int .i64 8, .int .i64 9], below_alloc _ _⟩
    · subst hL
      clear h
      go_wp2_with fail
      go_meet
      exact ⟨_, rfl, Row.new w4 3 [.int .i64 0, .int .i64 1, .int .i64 2, .int .i64 4, .int .i64 6, .int .i64 7, .int .i64 8, .int .i64 9], below_alloc _ _⟩
    · subst hL
      clear h
      go_wp2_with fail
      go_meet
      exact ⟨_, rfl, Row.new w4 3 [.int .i64 0], below_alloc _ _⟩
    · subst hL
      clear h
      go_wp2_with fail
      go_meet
      exact ⟨_, rfl, Row.new w4 3 [.int .i64 0, .int .i64 1, .int .i64 12, .int .i64 13], below_alloc _ _⟩
    · subst hL
      clear h
      go_wp2_with fail
      go_meet
      exact ⟨_, rfl, Row.new w4 3 [.int .i64 0, .int .i64 1, .int .i64 6], below_alloc _ _⟩
    · subst hL
      clear h
      go_wp2_with fail
      go_meet
      exact ⟨_, rfl, Row.new w4 3 [.int .i64 0, .int .i64 1, .int .i64 6, .int .i64 10], below_alloc _ _⟩
    · subst hL
      clear h
      go_wp2_with fail
      go_meet
      exact ⟨_, rfl, Row.new w4 3 [.int .i64 0, .int .i64 1, .int .i64 6, .int .i64 11], below_alloc _ _⟩
    · subst hL
      clear h
      go_wp2_with fail
      go_meet
      exact ⟨_, rfl, Row.new w4 3 [.int .i64 1, .int .i64 8, .int .i64 10], below_alloc _ _⟩
    · exact absurd e h
  case rest =>
    obtain ⟨g, rfl, rg, hb5⟩ := hcut
    have hl15 := nice_lt (fl_nice k)
    have hl8 := fl_len k
    rw [← hL] at hl15 hl8
    have ra5 := ra4.below hb5
    have rr5 := rr4.below hb5
    have hB5 := below_and hB (Nat.le_refl _) (below_and hB4 (Nat.le_refl _) hb5)
    have hgc : (some cH : Option Nat) ≠ some g := fun e => Row.apart ra5 rg (by decide) (Option.some.inj e)
    have hwc : (some cH : Option Nat) ≠ some w.heap.size := fun e => hne (Option.some.inj e).symm
    have hwl := rr5.lt
    clear ra4 rr4 hb5 h hB hB4 hL
    go_wp2_with fail
    go_loopw [65] (fun i wr => ∃ q : Nat, q ≤ l.length ∧ i = .int .i64 q ∧ Hid (Row wr cH 154 (mks (l.take q))) ∧ wc.grownBy wr (some cH)) (fun i _ => l.length - (intOf i).toNat)
    case atStart => exact ⟨0, Nat.zero_le _, rfl, ra5, grown_of_below (Below.refl _ _) _⟩
    case round =>
      obtain ⟨q, hq, rfl, hrow, hg⟩ := hrel
      by_cases hql : q < l.length
      · have i1 : (q : Int) < (l.length : Int) := by omega
        obtain ⟨x, hx⟩ : ∃ x, l[q]? = some x := ⟨_, List.getElem?_eq_getElem hql⟩
        have hx15 := hl15 x (List.mem_of_getElem? hx)
        have cq : wr.cell? ⟨g, q, none⟩ = some (.int .i64 (x : Int)) := (rg.grown hg hgc).cell (j := q) (by simp [il, hx])
        have HX := (show Hid (mks (l.take q ++ [x]) = mks (l.take (q + 1))) by show _ = _; rw [List.take_add_one, hx]; rfl)
        have hix : ∀ u : World, (Instr.indexAt 154 (.pointer (some ⟨cH, 0, none⟩)) (.int .i64 (x : Int))).run Tryz.prog u = .ok (.pointer (some ⟨cH, x, none⟩)) u := fun u => run_ix15 cH x hx15 u
        have HJ := (show Hid (x < (mks (l.take q)).length) by show _ < _; rw [mks_len]; exact hx15)
        clear hx
        go_wp2_with (refine wl_set rfl 4 _ _ rfl cH x (.bool true) (by first | rfl | (simp [Act.eval]; done)) (by first | rfl | (simp [Act.eval]; done)) 154 (mks (l.take q)) hrow.out HJ.out (by kernel_rfl) rfl ?_; intro w6 hr6 hg6)
        have hr6' := hr6.out
        rw [mks_set, HX.out] at hr6'
        have hr7 := (show Hid (Row w6 cH 154 (mks (l.take (q + 1)))) from hr6')
        clear hr6 hr6' hix HJ HX cq
        go_wp2_with fail
        go_roundw
        case rel => exact ⟨q + 1, by omega, by go_num, hr7, grown_trans hg hg6 (.inl rfl)⟩
        case measure => simp [intOf]; omega
      · obtain rfl : q = l.length := by omega
        have i1 : ¬ (l.length : Int) < (l.length : Int) := by omega
        have ra6 := hrow.out
        rw [List.take_length] at ra6
        have rr6 := rr5.grown hg hwc
        have hB6 := hB5.trans (grown_below hg (Nat.le_of_lt hwl) (fun k hk => by cases hk; exact hcw))
        have HL := (show Hid ((mks []).length = (mks l).length) by show _ = _; rw [mks_len, mks_len])
        have HI := (show Hid ((Tryz.prog.info? 154).map (·.size) = some (mks l).length) by show _ = _; rw [mks_len]; kernel_rfl)
        have HO := (show Hid (∀ v ∈ mks l, v.oneCell' = true) from one_mks l)
        clear hrow hl15 hql hq
        go_wp2_with (first
          | (refine wl_load rfl _ _ rfl cH rfl _ _ ra6 _ Tryz.underlying154 rfl HI.out ?_)
          | (refine wl_store rfl _ _ _ rfl w.heap.size (mks l) rfl rfl _ _ rr6 HL.out HI.out HO.out ?_; intro w20 hr20 hg20))
        have hr20 := hr20.out
        refine bodyPost_ret (v := .agg (mks l).toArray) (results_cell_row rfl _ _ w.heap.size _ _ (0, 0) _ (by rfl) hr20 Tryz.underlying154 rfl (by rw [List.size_toArray]; exact HI.out)) rfl ?_
        exact ⟨rfl, hB6.trans (grown_below hg20 hB6.size (fun k hk => by cases hk; exact Nat.le_refl _))⟩
end
end Go.Proofs.YtgbfmccecnfooaaGreatDoor
