/- sha.Write, begin, New. -/
import Derived.Test.YtgbfmccecnfooaaGreatDoorCRAG
import Derived.Test.YtgbfmccecnfooaaGreatDoorCRAK
import Derived.Great.BuildSlice
namespace Go.Proofs.YtgbfmccecnfooaaGreatDoor
section
open Go.RowKit Oct Sha
/-- A row of bytes that can be read, from a place on. -/
def Bts (w : World) (b o : Nat) (p : List Int) : Prop := ∀ j, j < p.length → w.cell? ⟨b, o + j, none⟩ = some (.int .u8 (p.getD j 0))
theorem Bts.below {w w' : World} {b o : Nat} {p : List Int} (h : Bts w b o p) (hlt : b < w.heap.size) (hb : Below w.heap.size w w') : Bts w' b o p := fun j hj => (hb.cell (p := ⟨b, o + j, none⟩) hlt).trans (h j hj)
theorem byt_at {p : List Int} (h : Byt p) (j : Nat) : 0 ≤ p.getD j 0 ∧ p.getD j 0 ≤ 255 := by
  by_cases hj : j < p.length
  · have : p.getD j 0 ∈ p := by simp [List.getD, List.getElem?_eq_getElem hj]
    exact h _ this
  · simp [List.getD, List.getElem?_eq_none (Nat.le_of_not_lt hj)]
def wz (n : Nat) : List Value := List.replicate n (wv 0)
theorem wz_at (p : List Int) (k : Nat) (hk : k < 64) : ((sch p k).map wv ++ wz (64 - k))[k]? = some (.int .u32 0) := by
  rw [List.getElem?_append_right (by simp [sch_len]), List.length_map, sch_len, Nat.sub_self]
  simp only [wz, List.getElem?_replicate]
  rw [if_pos (by omega)]
  rfl
theorem sch_set (p : List Int) (k : Nat) (hk : k < 64) : ((sch p k).map wv ++ wz (64 - k)).set k (wv (nxt p (sch p k))) = (sch p (k + 1)).map wv ++ wz (64 - (k + 1)) := by
  rw [List.set_append_right _ _ (by simp [sch_len]), List.length_map, sch_len, Nat.sub_self, sch, List.map_append, List.append_assoc]
  congr 1
  rw [show 64 - k = (64 - (k + 1)) + 1 by omega, wz, List.replicate_succ]
  rfl
theorem or4 (x0 x1 x2 x3 : Int) (y0 : 0 ≤ x0 ∧ x0 ≤ 255) (y1 : 0 ≤ x1 ∧ x1 ≤ 255) (y2 : 0 ≤ x2 ∧ x2 ≤ 255) (y3 : 0 ≤ x3 ∧ x3 ≤ 255) :
    bits .or .u32 (bits .or .u32 (bits .or .u32 (x0 * 16777216) (x1 * 65536)) (x2 * 256)) x3 = wi (BitVec.ofInt 32 (((x0 * 256 + x1) * 256 + x2) * 256 + x3)) := by
  have hk : ∀ n : Int, 0 ≤ n → n < 2 ^ 32 → IntKind.u32.wrap n = n := fun n h0 h1 => by rw [IntKind.wrap_u32]; omega
  rw [bits_join .u32 32 (by decide) hk 24 (x0 * 16777216) (x1 * 65536) (by omega) (by omega) (by omega) (by omega) (by omega) (by omega)]
  rw [bits_join .u32 32 (by decide) hk 16 (x0 * 16777216 + x1 * 65536) (x2 * 256) (by omega) (by omega) (by omega) (by omega) (by omega) (by omega)]
  rw [bits_join .u32 32 (by decide) hk 8 (x0 * 16777216 + x1 * 65536 + x2 * 256) x3 (by omega) (by omega) (by omega) (by omega) (by omega) (by omega)]
  rw [wi_ofInt _ (by omega) (by omega)]
  omega
theorem sch_at (p : List Int) (k j : Nat) (hj : j < k) : ((sch p k).map wv ++ wz (64 - k))[j]? = some (.int .u32 (wi ((sch p k).getD j 0))) := by
  have h : j < (sch p k).length := by rw [sch_len]; exact hj
  rw [List.getElem?_append_left (by simpa using h)]
  simp [List.getD, List.getElem?_eq_getElem h, wv]
theorem nxt_lo (p : List Int) (k : Nat) (hk : k < 16) : nxt p (sch p k) = wrd p k := by
  unfold nxt
  rw [sch_len, if_pos hk]
theorem nxt_hi (p : List Int) (k : Nat) (hk : 16 ≤ k) : nxt p (sch p k) = s1 ((sch p k).getD (k - 2) 0) + (sch p k).getD (k - 7) 0 + s0 ((sch p k).getD (k - 15) 0) + (sch p k).getD (k - 16) 0 := by
  unfold nxt
  rw [sch_len, if_neg (by omega)]
theorem below_set {B : Nat} {w wr : World} (h : Below B w wr) (hB : B ≤ w.heap.size) {b : Nat} (hb : B ≤ b) (j : Nat) (v : Value) : Below B w (wr.setCell ⟨b, j, none⟩ v) :=
  h.trans (grown_below (grown_set wr b j v) (Nat.le_trans hB h.size) (fun k hk => by cases hk; exact hb))
theorem Tryz.und45 : Tryz.prog.underlying 205 = some (.array 64 143) := by kernel_rfl
theorem Tryz.siz45 : (Tryz.prog.info? 205).map (·.size) = some 64 := by kernel_rfl
theorem run_ix (b i : Nat) (hi : i < 64) (u : World) : (Instr.indexAt 205 (.pointer (some ⟨b, 0, none⟩)) (.int .i64 (i : Int))).run Tryz.prog u = .ok (.pointer (some ⟨b, i, none⟩)) u := by
  have ht : Tryz.prog.underlying 205 = some (.array (Tryz.prog.arrayLen 205) (Tryz.prog.elem 205)) := by kernel_rfl
  have hn : Tryz.prog.arrayLen 205 = 64 := by kernel_rfl
  have hs : (sizeOf (Tryz.prog.elem 205)).run Tryz.prog u = .ok 1 u := by
    rw [show Tryz.prog.elem 205 = 143 by kernel_rfl]
    cases hq : Tryz.prog.info? 143 with
    | none => have := Tryz.info34; simp [hq] at this
    | some i0 =>
      have h1 := Tryz.info34
      simp only [hq, Option.map_some, Option.some.injEq] at h1
      simp [sizeOf, typeInfo, hq, h1]
  rw [run_indexAt_array u 205 _ .i64 i ht, hn, if_pos (by omega), hs]
  simp only [Result.andThen, Addr.add_mid]
  simp
theorem run_sl (b o l h : Nat) (hlh : l ≤ h) (hh : h ≤ 64) (hl : l < 64) (u : World) :
    (Instr.sliceAt 202 (.pointer (some ⟨b, o, none⟩)) (some (.int .i64 (l : Int))) (some (.int .i64 (h : Int))) none).run Tryz.prog u = .ok (.slice (some ⟨b, o + l, none⟩) (h - l) (64 - l)) u := by
  have ht : Tryz.prog.underlying 202 = some (.array (Tryz.prog.arrayLen 202) (Tryz.prog.elem 202)) := by kernel_rfl
  have hn : Tryz.prog.arrayLen 202 = 64 := by kernel_rfl
  have hs : (sizeOf (Tryz.prog.elem 202)).run Tryz.prog u = .ok 1 u := by
    rw [show Tryz.prog.elem 202 = 5 by kernel_rfl]
    obtain ⟨i0, hi, hz0, hz1, hz2⟩ := info_parts Tryz.info5
    simp [sizeOf, typeInfo, hi, hz1]
  rw [run_sliceAt_array_lh u 202 _ ht .i64 .i64 l h (by omega) (by omega) (by rw [hn]; omega), hs, hn]
  simp only [Result.andThen, slicedAt]
  rw [if_neg (by omega), Addr.add_mid]
  simp
theorem run_sl_l (b o l : Nat) (hl : l < 64) (u : World) :
    (Instr.sliceAt 202 (.pointer (some ⟨b, o, none⟩)) (some (.int .i64 (l : Int))) none none).run Tryz.prog u = .ok (.slice (some ⟨b, o + l, none⟩) (64 - l) (64 - l)) u := by
  have ht : Tryz.prog.underlying 202 = some (.array (Tryz.prog.arrayLen 202) (Tryz.prog.elem 202)) := by kernel_rfl
  have hn : Tryz.prog.arrayLen 202 = 64 := by kernel_rfl
  have hs : (sizeOf (Tryz.prog.elem 202)).run Tryz.prog u = .ok 1 u := by
    rw [show Tryz.prog.elem 202 = 5 by kernel_rfl]
    obtain ⟨i0, hi, hz0, hz1, hz2⟩ := info_parts Tryz.info5
    simp [sizeOf, typeInfo, hi, hz1]
  rw [run_sliceAt_array_l u 202 _ ht .i64 l (by omega) (by rw [hn]; omega), hs, hn]
  simp only [Result.andThen, slicedAt]
  rw [if_neg (by omega), Addr.add_mid]
  simp
set_option maxHeartbeats 1000000 in
theorem spread_any (w : World) (b o : Nat) (p : List Int) (hp : p.length = 64) (hb : Byt p) (hr : Bts w b o p) (hlt : b < w.heap.size) :
    Calls Tryz.prog 193 #[.pointer (some ⟨b, o, none⟩)] w fun e w' => e = .returned (.agg ((sch p 64).map wv).toArray) ∧ Below w.heap.size w w' := by
  obtain ⟨X, hX⟩ : ∃ X, X = (sch p 64).map wv := ⟨_, rfl⟩
  rw [← hX]
  have HX := (show Hid (X = (sch p 64).map wv) from hX)
  clear hX
  go_enter Tryz.func193, Tryz.ntmps193
  go_wp2_with fail
  go_loopw [7] (fun i wr => ∃ k : Nat, k ≤ 16 ∧ i = .int .i64 k ∧ Row wr (w.heap.size + 1) 205 ((sch p k).map wv ++ wz (64 - k)) ∧ Row wr w.heap.size 205 (wz 64) ∧ Below w.heap.size w wr) (fun i _ => 16 - (intOf i).toNat)
  case atStart => exact ⟨0, by omega, rfl, heap_alloc2_new w _ _, heap_alloc2_old w _ _, (below_alloc w _).trans ((Below.refl _ _).alloc (by simp) _)⟩
  case round =>
    obtain ⟨k, hk, rfl, hR, hZ, hbel⟩ := hrel
    have hrr := hr.below hlt hbel
    by_cases hk16 : k < 16
    · obtain ⟨x0, hx0⟩ : ∃ x, x = p.getD (4 * k) 0 := ⟨_, rfl⟩
      obtain ⟨x1, hx1⟩ : ∃ x, x = p.getD (4 * k + 1) 0 := ⟨_, rfl⟩
      obtain ⟨x2, hx2⟩ : ∃ x, x = p.getD (4 * k + 2) 0 := ⟨_, rfl⟩
      obtain ⟨x3, hx3⟩ : ∃ x, x = p.getD (4 * k + 3) 0 := ⟨_, rfl⟩
      have y0 : 0 ≤ x0 ∧ x0 ≤ 255 := hx0 ▸ byt_at hb _
      have y1 : 0 ≤ x1 ∧ x1 ≤ 255 := hx1 ▸ byt_at hb _
      have y2 : 0 ≤ x2 ∧ x2 ≤ 255 := hx2 ▸ byt_at hb _
      have y3 : 0 ≤ x3 ∧ x3 ≤ 255 := hx3 ▸ byt_at hb _
      have c0 : wr.cell? ⟨b, o + 4 * k, none⟩ = some (.int .u8 x0) := hx0 ▸ hrr (4 * k) (by omega)
      have c1 : wr.cell? ⟨b, o + 4 * k + 1, none⟩ = some (.int .u8 x1) := hx1 ▸ hrr (4 * k + 1) (by omega)
      have c2 : wr.cell? ⟨b, o + 4 * k + 2, none⟩ = some (.int .u8 x2) := hx2 ▸ hrr (4 * k + 2) (by omega)
      have c3 : wr.cell? ⟨b, o + 4 * k + 3, none⟩ = some (.int .u8 x3) := hx3 ▸ hrr (4 * k + 3) (by omega)
      have HW := (show Hid (wrd p k = BitVec.ofInt 32 (((x0 * 256 + x1) * 256 + x2) * 256 + x3)) by rw [hx0, hx1, hx2, hx3]; rfl)
      clear hx0 hx1 hx2 hx3 hrr
      have hsl : ∀ u : World, (Instr.sliceAt 202 (.pointer (some ⟨b, o, none⟩)) (some (.int .i64 (4 * (k : Int)))) (some (.int .i64 (4 * (k : Int) + 4))) none).run Tryz.prog u = .ok (.slice (some ⟨b, o + 4 * k, none⟩) 4 (64 - 4 * k)) u := by
        intro u
        have := run_sl b o (4 * k) (4 * k + 4) (by omega) (by omega) (by omega) u
        rwa [show 4 * k + 4 - 4 * k = 4 by omega] at this
      have ck : wr.cell? ⟨w.heap.size + 1, k, none⟩ = some (.int .u32 0) := hR.cell (by exact wz_at p k (by omega))
      have fk := hR.frozen k
      go_wp2_with fail
      go_region
      go_wp2_with fail
      go_roundw
      case rel =>
        rw [or4 x0 x1 x2 x3 y0 y1 y2 y3, ← HW.out, ← nxt_lo p k hk16]
        exact ⟨k + 1, by omega, by go_num, sch_set p k (by omega) ▸ (hR.set k _).drew, (hZ.grown (grown_set _ _ _ _) (by simp)).drew, (below_set hbel (Nat.le_refl _) (Nat.le_succ _) _ _).drew⟩
      case measure => simp [intOf]; omega
    · have hR16 : Row wr (w.heap.size + 1) 205 ((sch p 16).map wv ++ wz (64 - 16)) := (show k = 16 by omega) ▸ hR
      clear hr hlt hb hp hR hrr
      go_wp2_with fail
      go_loopw [6] (fun i wr => ∃ k : Nat, 16 ≤ k ∧ k ≤ 64 ∧ i = .int .i64 k ∧ Row wr (w.heap.size + 1) 205 ((sch p k).map wv ++ wz (64 - k)) ∧ Row wr w.heap.size 205 (wz 64) ∧ Below w.heap.size w wr) (fun i _ => 64 - (intOf i).toNat)
      case atStart => exact ⟨16, by omega, by omega, rfl, hR16, hZ, hbel⟩
      case round =>
        clear hR16 hZ hbel
        rename Nat => k0
        obtain ⟨k, hk, hk', rfl, hR, hZ, hbel⟩ := hrel
        by_cases hk64 : k < 64
        · obtain ⟨m2, hm2⟩ : ∃ m : Nat, (k : Int) - 2 = m := ⟨k - 2, by omega⟩
          obtain ⟨m7, hm7⟩ : ∃ m : Nat, (k : Int) - 7 = m := ⟨k - 7, by omega⟩
          obtain ⟨m15, hm15⟩ : ∃ m : Nat, (k : Int) - 15 = m := ⟨k - 15, by omega⟩
          obtain ⟨m16, hm16⟩ : ∃ m : Nat, (k : Int) - 16 = m := ⟨k - 16, by omega⟩
          obtain ⟨y2, hy2⟩ : ∃ y, y = (sch p k).getD (k - 2) 0 := ⟨_, rfl⟩
          obtain ⟨y7, hy7⟩ : ∃ y, y = (sch p k).getD (k - 7) 0 := ⟨_, rfl⟩
          obtain ⟨y15, hy15⟩ : ∃ y, y = (sch p k).getD (k - 15) 0 := ⟨_, rfl⟩
          obtain ⟨y16, hy16⟩ : ∃ y, y = (sch p k).getD (k - 16) 0 := ⟨_, rfl⟩
          have c2 : wr.cell? ⟨w.heap.size + 1, m2, none⟩ = some (.int .u32 (wi y2)) := by rw [hy2, show k - 2 = m2 by omega]; exact hR.cell (sch_at p k m2 (by omega))
          have c7 : wr.cell? ⟨w.heap.size + 1, m7, none⟩ = some (.int .u32 (wi y7)) := by rw [hy7, show k - 7 = m7 by omega]; exact hR.cell (sch_at p k m7 (by omega))
          have c15 : wr.cell? ⟨w.heap.size + 1, m15, none⟩ = some (.int .u32 (wi y15)) := by rw [hy15, show k - 15 = m15 by omega]; exact hR.cell (sch_at p k m15 (by omega))
          have c16 : wr.cell? ⟨w.heap.size + 1, m16, none⟩ = some (.int .u32 (wi y16)) := by rw [hy16, show k - 16 = m16 by omega]; exact hR.cell (sch_at p k m16 (by omega))
          have HN := (show Hid (nxt p (sch p k) = s1 y2 + y7 + s0 y15 + y16) by rw [hy2, hy7, hy15, hy16]; exact nxt_hi p k hk)
          clear hy2 hy7 hy15 hy16
          have ck : wr.cell? ⟨w.heap.size + 1, k, none⟩ = some (.int .u32 0) := hR.cell (wz_at p k (by omega))
          have fk := hR.frozen k
          have q2 : IntKind.i64.wrap (m2 : Int) = m2 := by rw [IntKind.wrap_i64]; omega
          have i2 : ∀ u : World, (Instr.indexAt 205 (.pointer (some ⟨w.heap.size + 1, 0, none⟩)) (.int .i64 (m2 : Int))).run Tryz.prog u = .ok (.pointer (some ⟨w.heap.size + 1, m2, none⟩)) u := run_ix (w.heap.size + 1) m2 (by omega)
          have q7 : IntKind.i64.wrap (m7 : Int) = m7 := by rw [IntKind.wrap_i64]; omega
          have i7 : ∀ u : World, (Instr.indexAt 205 (.pointer (some ⟨w.heap.size + 1, 0, none⟩)) (.int .i64 (m7 : Int))).run Tryz.prog u = .ok (.pointer (some ⟨w.heap.size + 1, m7, none⟩)) u := run_ix (w.heap.size + 1) m7 (by omega)
          have q15 : IntKind.i64.wrap (m15 : Int) = m15 := by rw [IntKind.wrap_i64]; omega
          have i15 : ∀ u : World, (Instr.indexAt 205 (.pointer (some ⟨w.heap.size + 1, 0, none⟩)) (.int .i64 (m15 : Int))).run Tryz.prog u = .ok (.pointer (some ⟨w.heap.size + 1, m15, none⟩)) u := run_ix (w.heap.size + 1) m15 (by omega)
          have q16 : IntKind.i64.wrap (m16 : Int) = m16 := by rw [IntKind.wrap_i64]; omega
          have i16 : ∀ u : World, (Instr.indexAt 205 (.pointer (some ⟨w.heap.size + 1, 0, none⟩)) (.int .i64 (m16 : Int))).run Tryz.prog u = .ok (.pointer (some ⟨w.heap.size + 1, m16, none⟩)) u := run_ix (w.heap.size + 1) m16 (by omega)
          have z2 : (m2 : Int) < 64 := by omega
          have z7 : (m7 : Int) < 64 := by omega
          have z15 : (m15 : Int) < 64 := by omega
          have z16 : (m16 : Int) < 64 := by omega
          have ik : ∀ u : World, (Instr.indexAt 205 (.pointer (some ⟨w.heap.size + 1, 0, none⟩)) (.int .i64 (k : Int))).run Tryz.prog u = .ok (.pointer (some ⟨w.heap.size + 1, k, none⟩)) u := run_ix (w.heap.size + 1) k (by omega)
          have zk : (k : Int) < 64 := by omega
          have n2 : m2 ≠ k := by omega
          have n7 : m7 ≠ k := by omega
          have n15 : m15 ≠ k := by omega
          have n16 : m16 ≠ k := by omega
          go_wp2_with fail
          have HK := (show Hid (∀ v : Value, (fun w' : World => w'.cell? ⟨w.heap.size + 1, m2, none⟩ = some (.int .u32 (wi y2)) ∧ w'.cell? ⟨w.heap.size + 1, m7, none⟩ = some (.int .u32 (wi y7)) ∧ w'.cell? ⟨w.heap.size + 1, m15, none⟩ = some (.int .u32 (wi y15)) ∧ w'.cell? ⟨w.heap.size + 1, m16, none⟩ = some (.int .u32 (wi y16))) (wr.setCell ⟨w.heap.size + 1, k, none⟩ v).drew) from fun v => ⟨cell_set_ned c2 n2, cell_set_ned c7 n7, cell_set_ned c15 n15, cell_set_ned c16 n16⟩)
          go_region_held3 (fun w' => w'.cell? ⟨w.heap.size + 1, m2, none⟩ = some (.int .u32 (wi y2)) ∧ w'.cell? ⟨w.heap.size + 1, m7, none⟩ = some (.int .u32 (wi y7)) ∧ w'.cell? ⟨w.heap.size + 1, m15, none⟩ = some (.int .u32 (wi y15)) ∧ w'.cell? ⟨w.heap.size + 1, m16, none⟩ = some (.int .u32 (wi y16)))
            (first | exact HK.out _ | go_keep)
            (first
              | (go_at_call 196; refine (small1_any _ y2).mono ?_; rintro e w' ⟨rfl, rfl⟩)
              | (go_at_call 197; refine (small0_any _ y15).mono ?_; rintro e w' ⟨rfl, rfl⟩))
          go_wp2_with fail
          go_roundw
          case rel =>
            rw [add_wi, add_wi, add_wi, ← HN.out]
            exact ⟨k + 1, by omega, by omega, by go_num, sch_set p k (by omega) ▸ (hR.set k _).drew, (hZ.grown (grown_set _ _ _ _) (by simp)).drew, (below_set hbel (Nat.le_refl _) (Nat.le_succ _) _ _).drew⟩
          case measure => simp [intOf]; omega
        · obtain rfl : k = 64 := by omega
          clear hk hk' hk64
          have hl : X.length = 64 := by rw [HX.out, List.length_map, sch_len]
          have hR' : Row wr (w.heap.size + 1) 205 X := by rw [HX.out]; simpa [wz] using hR
          have ho : ∀ v ∈ X, v.oneCell' = true := by rw [HX.out]; exact wv_one _
          clear hR
          have hs : (Tryz.prog.info? 205).map (·.size) = some X.length := by rw [hl]; exact Tryz.siz45
          have hle : (wz 64).length = X.length := by rw [hl]; rfl
          go_wp2_with (first
            | (refine wl_load (by rfl) 205 _ (by rfl) (w.heap.size + 1) (by rfl) _ X hR' _ Tryz.und45 rfl hs ?_)
            | (refine wl_store (by rfl) 205 _ _ (by rfl) w.heap.size X (by rfl) (by rfl) _ (wz 64) hZ hle hs ho ?_; intro w2 hR2 hg2))
          exact bodyPost_ret (v := .agg X.toArray) (results_cell_row rfl _ _ w.heap.size _ X.toArray (0, 0) _ (by rfl) hR2.out Tryz.und45 rfl (by simpa using hs)) rfl ⟨rfl, hbel.trans (grown_below hg2 hbel.size (fun k hk => by cases hk; exact Nat.le_refl _))⟩
end
section
open Go.RowKit Oct Sha
/-- The constants' variable. -/
def Tab (w : World) : Prop := ∀ t, t < 64 → w.cell? ⟨1, t, none⟩ = some (.int .u32 (wi (kk.getD t 0)))
theorem Tab.keep {w w' : World} (h : Tab w) (h0 : w'.heap[1]? = w.heap[1]?) : Tab w' := fun t ht => (World.cell?_of_block (w := w) (w' := w') (a := ⟨1, t, none⟩) h0).trans (h t ht)
theorem Tab.pos {w : World} (h : Tab w) : 1 < w.heap.size := World.block_lt_of_cell? w _ (h 0 (by decide))
theorem Tab.below {w w' : World} (h : Tab w) (hb : Below w.heap.size w w') : Tab w' := h.keep (hb.block 1 h.pos)
theorem Tab.grown {w w' : World} {r : Option Nat} (h : Tab w) (hg : w.grownBy w' r) (hr : r ≠ some 1) : Tab w' := h.keep (hg.block 1 h.pos (fun e => hr e.symm))
theorem run_ixv {t e : TypeId} {n : Nat} (hu : Tryz.prog.underlying t = some (.array n e)) (he : (Tryz.prog.info? e).map (·.size) = some 1) (hg : Tryz.prog.underlying e = some (.int .u32)) (ws : List (BitVec 32)) (i : Nat) (hi : i < n) (hl : ws.length = n) (u : World) :
    (Instr.index t (.agg (ws.map wv).toArray) (.int .i64 (i : Int))).run Tryz.prog u = .ok (.int .u32 (wi (ws.getD i 0))) u := by
  have h : 0 ≤ (i : Int) ∧ (i : Int) < (n : Int) := by omega
  cases hq : Tryz.prog.info? e with
  | none => simp [hq] at he
  | some i0 =>
    simp only [hq, Option.map_some, Option.some.injEq] at he
    have hx : i < ws.length := by omega
    simp [Instr.index, run_underlying hu, asIntOf, h, hi, part, isAgg, run_underlying hg, sizeOf, typeInfo, hq, he, wv, List.getElem?_eq_getElem hx]
theorem Tryz.und38 : Tryz.prog.underlying 200 = some (.array 8 143) := by kernel_rfl
theorem run_ix8 (b i : Nat) (hi : i < 8) (u : World) : (Instr.indexAt 200 (.pointer (some ⟨b, 0, none⟩)) (.int .i64 (i : Int))).run Tryz.prog u = .ok (.pointer (some ⟨b, i, none⟩)) u := by
  have ht : Tryz.prog.underlying 200 = some (.array (Tryz.prog.arrayLen 200) (Tryz.prog.elem 200)) := by kernel_rfl
  have hn : Tryz.prog.arrayLen 200 = 8 := by kernel_rfl
  have hs : (sizeOf (Tryz.prog.elem 200)).run Tryz.prog u = .ok 1 u := by
    rw [show Tryz.prog.elem 200 = 143 by kernel_rfl]
    cases hq : Tryz.prog.info? 143 with
    | none => have := Tryz.info34; simp [hq] at this
    | some i0 =>
      have h1 := Tryz.info34
      simp only [hq, Option.map_some, Option.some.injEq] at h1
      simp [sizeOf, typeInfo, hq, h1]
  rw [run_indexAt_array u 200 _ .i64 i ht, hn, if_pos (by omega), hs]
  simp only [Result.andThen, Addr.add_mid]
  simp
/-- The first k words of a state raised by those of another. -/
def raised (s v : St) (k : Nat) : List (BitVec 32) := (s.add v).ws.take k ++ s.ws.drop k
theorem raised_at (s v : St) (k : Nat) (hk : k < 8) : (raised s v k)[k]? = some (s.ws.getD k 0) := by
  rcases (by omega : k = 0 ∨ k = 1 ∨ k = 2 ∨ k = 3 ∨ k = 4 ∨ k = 5 ∨ k = 6 ∨ k = 7) with rfl | rfl | rfl | rfl | rfl | rfl | rfl | rfl <;> rfl
theorem raised_set (s v : St) (k : Nat) (hk : k < 8) : (raised s v k).set k (s.ws.getD k 0 + v.ws.getD k 0) = raised s v (k + 1) := by
  rcases (by omega : k = 0 ∨ k = 1 ∨ k = 2 ∨ k = 3 ∨ k = 4 ∨ k = 5 ∨ k = 6 ∨ k = 7) with rfl | rfl | rfl | rfl | rfl | rfl | rfl | rfl <;> rfl
theorem raised_len (s v : St) (k : Nat) (hk : k ≤ 8) : (raised s v k).length = 8 := by
  simp only [raised, List.length_append, List.length_take, List.length_drop, St.ws_len]
  omega
theorem raised_set' (s v : St) (k : Nat) (hk : k < 8) (tl : List Value) : ((raised s v k).map wv ++ tl).set k (.int .u32 (wi (s.ws.getD k 0 + v.ws.getD k 0))) = (raised s v (k + 1)).map wv ++ tl := by
  rw [List.set_append_left _ _ (by rw [List.length_map, raised_len _ _ _ (by omega)]; exact hk), ← raised_set s v k hk, List.map_set]
  rfl
set_option maxHeartbeats 1000000 in
theorem block_any (w : World) (b : Nat) (t : TypeId) (s : St) (tl : List Value) (hr : Row w b t (s.vs ++ tl)) (ht : Tab w) (cb co : Nat) (p : List Int) (hp : p.length = 64) (hb : Byt p) (hbt : Bts w cb co p) (hcb : cb < w.heap.size) :
    Calls Tryz.prog 190 #[.pointer (some ⟨b, 0, none⟩), .pointer (some ⟨cb, co, none⟩)] w fun e w' => e = .returned (.tuple #[]) ∧ Row w' b t ((blk s p).vs ++ tl) ∧ w.grownBy w' (some b) := by
  have hblt := hr.lt
  have c0 : w.cell? ⟨b, 0, none⟩ = some (.int .u32 (wi s.a)) := hr.cell rfl
  have c1 : w.cell? ⟨b, 1, none⟩ = some (.int .u32 (wi s.b)) := hr.cell rfl
  have c2 : w.cell? ⟨b, 2, none⟩ = some (.int .u32 (wi s.c)) := hr.cell rfl
  have c3 : w.cell? ⟨b, 3, none⟩ = some (.int .u32 (wi s.d)) := hr.cell rfl
  have c4 : w.cell? ⟨b, 4, none⟩ = some (.int .u32 (wi s.e)) := hr.cell rfl
  have c5 : w.cell? ⟨b, 5, none⟩ = some (.int .u32 (wi s.f)) := hr.cell rfl
  have c6 : w.cell? ⟨b, 6, none⟩ = some (.int .u32 (wi s.g)) := hr.cell rfl
  have c7 : w.cell? ⟨b, 7, none⟩ = some (.int .u32 (wi s.h)) := hr.cell rfl
  obtain ⟨ws, hws⟩ : ∃ ws, ws = sch p 64 := ⟨_, rfl⟩
  obtain ⟨V, hV⟩ : ∃ V, V = rnd ws s 64 := ⟨_, rfl⟩
  have hwl : ws.length = 64 := by rw [hws, sch_len]
  rw [show blk s p = s.add V by rw [hV, hws]; rfl]
  have HSP := (show Hid (∀ u : World, Bts u cb co p → cb < u.heap.size → Calls Tryz.prog 193 #[.pointer (some ⟨cb, co, none⟩)] u fun e w' => e = .returned (.agg (ws.map wv).toArray) ∧ Below u.heap.size u w') by
    rw [hws]
    exact fun u h1 h2 => spread_any u cb co p hp hb h1 h2)
  have HL := (show Hid (ws.length = 64) from hwl)
  have HV := (show Hid (V = rnd ws s 64) from hV)
  clear hwl hws hV
  go_enter Tryz.func190, Tryz.ntmps190
  go_wp2_with fail
  refine (HSP.out _ (hbt.below hcb (below_alloc w _)) (by simp; omega)).mono ?_
  rintro e w1 ⟨rfl, hb1⟩
  have hrN : Row w1 w.heap.size 200 s.vs := (Row.new w 200 s.vs).below hb1
  have hb1' := below_and (below_alloc w _) (Nat.le_refl _) hb1
  clear hb1 c0 c1 c2 c3 c4 c5 c6 c7 hbt hp hb hcb HSP
  go_wp2_with fail
  go_loopw [14] (fun i wr => ∃ k : Nat, k ≤ 64 ∧ i = .int .i64 k ∧ Row wr w.heap.size 200 (rnd ws s k).vs ∧ Below w.heap.size w wr) (fun i _ => 64 - (intOf i).toNat)
  case atStart => exact ⟨0, by omega, rfl, hrN, hb1'⟩
  case round =>
    obtain ⟨k, hk, rfl, hrk, hbel⟩ := hrel
    by_cases hk64 : k < 64
    · have hix : ∀ u : World, (Instr.index 205 (.agg (ws.map wv).toArray) (.int .i64 (k : Int))).run Tryz.prog u = .ok (.int .u32 (wi (ws.getD k 0))) u := run_ixv Tryz.und45 Tryz.info34 Tryz.underlying143 ws k hk64 HL.out
      have hik : ∀ u : World, (Instr.indexAt 205 (.pointer (some ⟨1, 0, none⟩)) (.int .i64 (k : Int))).run Tryz.prog u = .ok (.pointer (some ⟨1, k, none⟩)) u := run_ix 1 k hk64
      have hck : wr.cell? ⟨1, k, none⟩ = some (.int .u32 (wi (kk.getD k 0))) := ht.below hbel k hk64
      go_wp2_with fail
      rw [add_wi]
      refine (step_any wr w.heap.size 200 (rnd ws s k) [] (kk.getD k 0 + ws.getD k 0) (by rw [List.append_nil]; exact hrk)).mono ?_
      rintro e w2 ⟨rfl, hr2, hg2⟩
      rw [List.append_nil] at hr2
      have HR2 := (show Hid (Row w2 w.heap.size 200 (rnd ws s (k + 1)).vs) from hr2)
      have hb2 := hbel.trans (grown_below hg2 hbel.size (fun k hk => by cases hk; exact Nat.le_refl _))
      clear hr2 hg2 hrk hck hbel
      go_wp2_with fail
      go_roundw
      case rel => exact ⟨k + 1, by omega, by go_num, HR2, hb2⟩
      case measure => simp [intOf]; omega
    · have hrV : Row wr w.heap.size 200 V.vs := by rw [HV.out, show 64 = k by omega]; exact hrk
      have c0 : wr.cell? ⟨w.heap.size, 0, none⟩ = some (.int .u32 (wi V.a)) := hrV.cell rfl
      have c1 : wr.cell? ⟨w.heap.size, 1, none⟩ = some (.int .u32 (wi V.b)) := hrV.cell rfl
      have c2 : wr.cell? ⟨w.heap.size, 2, none⟩ = some (.int .u32 (wi V.c)) := hrV.cell rfl
      have c3 : wr.cell? ⟨w.heap.size, 3, none⟩ = some (.int .u32 (wi V.d)) := hrV.cell rfl
      have c4 : wr.cell? ⟨w.heap.size, 4, none⟩ = some (.int .u32 (wi V.e)) := hrV.cell rfl
      have c5 : wr.cell? ⟨w.heap.size, 5, none⟩ = some (.int .u32 (wi V.f)) := hrV.cell rfl
      have c6 : wr.cell? ⟨w.heap.size, 6, none⟩ = some (.int .u32 (wi V.g)) := hrV.cell rfl
      have c7 : wr.cell? ⟨w.heap.size, 7, none⟩ = some (.int .u32 (wi V.h)) := hrV.cell rfl
      have hrb := hr.below hbel
      have hgb := grown_of_below hbel (some b)
      clear hrk hrV HV HL ht hb1' hrN
      go_wp2_with fail
      go_loopw [26] (fun i wr => ∃ j : Nat, j ≤ 8 ∧ i = .int .i64 j ∧ Row wr b t ((raised s V j).map wv ++ tl) ∧ w.grownBy wr (some b)) (fun i _ => 8 - (intOf i).toNat)
      case atStart => exact ⟨0, by omega, rfl, hrb, hgb⟩
      case round =>
        clear hrb hgb c0 c1 c2 c3 c4 c5 c6 c7 hr hbel
        obtain ⟨j, hj, rfl, hrj, hgj⟩ := hrel
        by_cases hj8 : j < 8
        · have hix : ∀ u : World, (Instr.index 200 (.agg #[.int .u32 (wi V.a), .int .u32 (wi V.b), .int .u32 (wi V.c), .int .u32 (wi V.d), .int .u32 (wi V.e), .int .u32 (wi V.f), .int .u32 (wi V.g), .int .u32 (wi V.h)]) (.int .i64 (j : Int))).run Tryz.prog u = .ok (.int .u32 (wi (V.ws.getD j 0))) u := run_ixv Tryz.und38 Tryz.info34 Tryz.underlying143 V.ws j hj8 rfl
          have hik : ∀ u : World, (Instr.indexAt 200 (.pointer (some ⟨b, 0, none⟩)) (.int .i64 (j : Int))).run Tryz.prog u = .ok (.pointer (some ⟨b, j, none⟩)) u := run_ix8 b j hj8
          have hcj : wr.cell? ⟨b, j, none⟩ = some (.int .u32 (wi (s.ws.getD j 0))) := hrj.cell (by rw [List.getElem?_append_left (by rw [List.length_map, raised_len _ _ _ (by omega)]; exact hj8), List.getElem?_map, raised_at s V j hj8]; rfl)
          have hfj := hrj.frozen j
          go_wp2_with fail
          go_region
          go_wp2_with fail
          go_roundw
          case rel =>
            rw [add_wi]
            exact ⟨j + 1, by omega, by go_num, raised_set' s V j hj8 tl ▸ (hrj.set j _).drew, grown_to_drew (grown_trans hgj (grown_set _ _ _ _) (.inl rfl))⟩
          case measure => simp [intOf]; omega
        · have hrf : Row wr b t ((s.add V).vs ++ tl) := by
            rw [show j = 8 by omega] at hrj
            exact hrj
          go_wp2_with fail
          go_end0
          exact ⟨rfl, hrf, hgj⟩
end
section
open Go.RowKit Oct Sha
/-- The cells of a Hash. -/
def hrow (s : St) (rest : List Int) (n : Int) : List Value := s.vs ++ (bc rest ++ [.int .u64 n])
theorem hrow_copy (s : St) {rest x : List Int} (n : Int) {f : Nat} (h : rest.length = 64) (hf : f + x.length ≤ 64) : splice (hrow s rest n) (8 + f) (bc x) = hrow s (splice rest f x) n := by
  unfold splice hrow
  rw [bc_len, bc_app, bc_app, List.append_assoc, List.append_assoc]
  rw [List.take_append, St.vs_len, List.take_of_length_le (by rw [St.vs_len]; omega), show 8 + f - 8 = f by omega, List.take_append_of_le_length (by rw [bc_len]; omega)]
  rw [List.drop_append, St.vs_len, List.drop_eq_nil_of_le (by rw [St.vs_len]; omega), List.nil_append, show 8 + f + x.length - 8 = f + x.length by omega, List.drop_append_of_le_length (by rw [bc_len]; omega)]
  simp [bc]
theorem hrow_size (s : St) {rest : List Int} (n m : Int) (h : rest.length = 64) : (hrow s rest n).set 72 (.int .u64 m) = hrow s rest m := by
  unfold hrow
  rw [List.set_append_right _ _ (by rw [St.vs_len]; omega), St.vs_len, List.set_append_right _ _ (by rw [bc_len]; omega), bc_len, h]
  rfl
theorem hrow_byte (s : St) {rest : List Int} (n : Int) {f : Nat} (x : Int) (h : rest.length = 64) (hf : f < 64) : (hrow s rest n).set (8 + f) (.int .u8 x) = hrow s (rest.set f x) n := by
  unfold hrow
  rw [List.set_append_right _ _ (by rw [St.vs_len]; omega), St.vs_len, show 8 + f - 8 = f by omega, List.set_append_left _ _ (by rw [bc_len]; omega)]
  simp [bc]
theorem hrow_at72 (s : St) {rest : List Int} (n : Int) (h : rest.length = 64) : (hrow s rest n)[72]? = some (.int .u64 n) := by
  unfold hrow
  rw [List.getElem?_append_right (by rw [St.vs_len]; omega), St.vs_len, List.getElem?_append_right (by rw [bc_len]; omega), bc_len, h]
  rfl
theorem hrow_at (s : St) {rest : List Int} (n : Int) (h : rest.length = 64) (j : Nat) (hj : j < 64) : (hrow s rest n)[8 + j]? = some (.int .u8 (rest.getD j 0)) := by
  unfold hrow
  rw [List.getElem?_append_right (by rw [St.vs_len]; omega), St.vs_len, show 8 + j - 8 = j by omega, List.getElem?_append_left (by rw [bc_len]; omega)]
  exact bc_getD rest j (by omega)
theorem hrow_len (s : St) {rest : List Int} (n : Int) (h : rest.length = 64) : (hrow s rest n).length = 73 := by
  unfold hrow
  simp [St.vs_len, bc_len, h]
theorem Row.bts {w : World} {b : Nat} {t : TypeId} {s : St} {rest : List Int} {n : Int} (h : Row w b t (hrow s rest n)) (hl : rest.length = 64) : Bts w b 8 rest := fun j hj => h.cell (hrow_at s n hl j (by omega))
/-- A Hash at block b behind l. -/
def Hs (w : World) (b : Nat) (l : List Int) : Prop := ∃ rest, Rst l rest ∧ Row w b 204 (hrow (blks l (l.length / 64)) rest (l.length : Int))
theorem Hs.below {w w' : World} {b : Nat} {l : List Int} (h : Hs w b l) (hb : Below w.heap.size w w') : Hs w' b l := by
  obtain ⟨r, h1, h2⟩ := h
  exact ⟨r, h1, h2.below hb⟩
theorem Hs.grown {w w' : World} {b : Nat} {l : List Int} {r : Option Nat} (h : Hs w b l) (hg : w.grownBy w' r) (hr : r ≠ some b) : Hs w' b l := by
  obtain ⟨q, h1, h2⟩ := h
  exact ⟨q, h1, h2.grown hg hr⟩
theorem Hs.lt {w : World} {b : Nat} {l : List Int} (h : Hs w b l) : b < w.heap.size := by
  obtain ⟨q, h1, h2⟩ := h
  exact h2.lt
theorem Tryz.siz5 : (Tryz.prog.info? 5).map (·.size) = some 1 := by kernel_rfl
theorem Tryz.siz41 : (Tryz.prog.info? 109).map (·.size) = some 1 := by kernel_rfl
theorem filled_any (w : World) (b n f : Nat) (hc : w.cell? ⟨b, 72, none⟩ = some (.int .u64 (n : Int))) (hf : f = n % 64) (hn : n < 1152921504606846976) :
    Calls Tryz.prog 189 #[.pointer (some ⟨b, 0, none⟩)] w fun e w' => e = .returned (.int .i64 (f : Int)) ∧ w' = w := by
  go_enter Tryz.func189, Tryz.ntmps189
  go_wp2_with fail
  go_ret
  exact ⟨ret_int (by omega), rfl⟩
/-- How long a slice is. -/
def slen : Value → Nat
  | .slice _ n _ => n
  | _ => 0
theorem cell_grown {w w' : World} {b pb : Nat} (hg : w.grownBy w' (some b)) (hlt : pb < w.heap.size) (hne : pb ≠ b) (o : Nat) : w'.cell? ⟨pb, o, none⟩ = w.cell? ⟨pb, o, none⟩ :=
  World.cell?_of_block (w := w) (w' := w') (a := ⟨pb, o, none⟩) (hg.block pb hlt (fun e => hne (by injection e)))
theorem run_cut (pb off len cap n : Nat) (hn : n ≤ len) (hc : len ≤ cap) : ∃ V : Value, (∀ u : World, (Instr.slice 24 (.slice (some ⟨pb, off, none⟩) len cap) (some (.int .i64 (n : Int))) none none).run Tryz.prog u = .ok V u) ∧
    V.ownBlock = some pb ∧ slen V = len - n ∧ ∀ (w : World) (r : List Int), r.length = len → Byt r → cap ≤ maxLen → (∀ j, j < r.length → w.cell? ⟨pb, off + j, none⟩ = some (.int .u8 (r.getD j 0))) → Rd w V (r.drop n) := by
  have ht : Tryz.prog.underlying 24 = some (.slice (Tryz.prog.elem 24)) := by kernel_rfl
  have hs : ∀ u : World, (sizeOf (Tryz.prog.elem 24)).run Tryz.prog u = .ok 1 u := by
    intro u
    rw [show Tryz.prog.elem 24 = 5 by kernel_rfl]
    obtain ⟨i0, hi, hz0, hz1, hz2⟩ := info_parts Tryz.info5
    simp [sizeOf, typeInfo, hi, hz1]
  refine ⟨if n = cap then .slice (some ⟨pb, off, none⟩) (len - n) (cap - n) else .slice (some ⟨pb, off + n, none⟩) (len - n) (cap - n), fun u => ?_, ?_, ?_, ?_⟩
  · rw [run_slice_l u 24 (some ⟨pb, off, none⟩) len cap ht .i64 n (by omega) (by omega), hs]
    simp only [Result.andThen, sliced, Int.toNat_natCast, Nat.mul_one, Option.map_some, Addr.add_mid]
    by_cases h : n = cap
    · rw [if_pos h, if_pos h.symm]
    · rw [if_neg h, if_neg (fun e => h e.symm)]
  · split <;> rfl
  · split <;> rfl
  · intro w r hrl hb hcm hcell
    by_cases h : n = cap
    · rw [if_pos h, List.drop_eq_nil_of_le (by omega), show len - n = 0 by omega]
      exact ⟨by intro x hx; simp at hx, rdv_none w _ _ (by omega)⟩
    · rw [if_neg h]
      have := Rd.part hb hcell n (len - n) (by omega) (cap - n) (by omega) (by omega)
      rwa [List.take_of_length_le (by rw [List.length_drop]; omega)] at this
set_option maxRecDepth 10000 in
set_option maxHeartbeats 1000000 in
theorem add_any (w : World) (b : Nat) (l : List Int) (pv : Value) (x : List Int) (hh : Hs w b l) (hp : Rd w pv x) (hap : 0 < x.length → ∀ k, pv.ownBlock = some k → k ≠ b) (hb0 : b ≠ 1) (ht : Tab w) (hlen : l.length + x.length < 1152921504606846976) :
    Calls Tryz.prog 179 #[.pointer (some ⟨b, 0, none⟩), pv] w fun e w' => e = .returned (.tuple #[]) ∧ Hs w' b (l ++ x) ∧ w.grownBy w' (some b) := by
  go_enter Tryz.func179, Tryz.ntmps179
  go_wp2_with fail
  go_loopw [1] (fun v wr => ∃ (d r : List Int), d ++ r = l ++ x ∧ Hs wr b d ∧ Rd wr v r ∧ (0 < r.length → ∀ k, v.ownBlock = some k → k ≠ b) ∧ w.grownBy wr (some b)) (fun v _ => slen v)
  case atStart => exact ⟨l, x, rfl, hh, hp, hap, grown_refl _ _⟩
  case round =>
    obtain ⟨d, r, hdr, hd, hr, hap', hg⟩ := hrel
    have HD := (show Hid (d ++ r = l ++ x) from hdr)
    have hdl : d.length + r.length < 1152921504606846976 := by
      have h := congrArg List.length hdr
      simp only [List.length_append] at h
      omega
    have htr : Tab wr := ht.grown hg (by simpa using hb0)
    clear hdr hap hh hp ht hlen
    have hbyt := hr.1
    by_cases hr0 : 0 < r.length
    · obtain ⟨pb, off, cap, rfl, hc1, hc2, hpb, hcell⟩ := hr.at hr0
      have hpbb : pb ≠ b := hap' hr0 pb rfl
      obtain ⟨rest, hre, hro⟩ := hd
      have hrl := hre.1
      obtain ⟨f, hf⟩ : ∃ f, f = d.length % 64 := ⟨_, rfl⟩
      obtain ⟨n, hn⟩ : ∃ n, n = Nat.min r.length (64 - f) := ⟨_, rfl⟩
      obtain ⟨y, hy⟩ : ∃ y, y = r.take n := ⟨_, rfl⟩
      have hn1 : n ≤ r.length := hn ▸ Nat.min_le_left _ _
      have hn2 : n ≤ 64 - f := hn ▸ Nat.min_le_right _ _
      have hf1 : f < 64 := by omega
      have hn0 : 0 < n := by rw [hn]; exact Nat.lt_min.2 ⟨hr0, by omega⟩
      have hyl : y.length = n := by rw [hy, List.length_take]; omega
      have hyb : Byt y := hy ▸ byt_take hbyt n
      have hsrc : ∀ (j : Nat) (v : Value), (bc y)[j]? = some v → wr.cell? ((⟨pb, off, none⟩ : Addr).add j) = some v := by
        intro j v hj
        have hjl : j < y.length := by
          have := (List.getElem?_eq_some_iff.1 hj).1
          rwa [bc_len] at this
        rw [bc_getD y j hjl] at hj
        rw [Addr.add_mid, hcell j (by omega), ← hj, hy]
        simp [List.getD, show j < n by omega]
      have hc72 : wr.cell? ⟨b, 72, none⟩ = some (.int .u64 (d.length : Int)) := hro.cell (hrow_at72 _ _ hrl)
      have hsl : ∀ u : World, (Instr.sliceAt 202 (.pointer (some ⟨b, 8, none⟩)) (some (.int .i64 (f : Int))) none none).run Tryz.prog u = .ok (.slice (some ⟨b, 8 + f, none⟩) (64 - f) (64 - f)) u := run_sl_l b 8 f hf1
      have HF := (show Hid (f = d.length % 64) from hf)
      have HN := (show Hid (n = Nat.min r.length (64 - f)) from hn)
      have HY := (show Hid (y = r.take n) from hy)
      have HS := (show Hid (∀ (j : Nat) (v : Value), (bc y)[j]? = some v → wr.cell? ((⟨pb, off, none⟩ : Addr).add j) = some v) from hsrc)
      have HC := (show Hid (∀ j, j < r.length → wr.cell? ⟨pb, off + j, none⟩ = some (.int .u8 (r.getD j 0))) from hcell)
      have HYL := (show Hid (y.length = n) from hyl)
      have HRL := (show Hid (rest.length = 64) from hrl)
      have HA1 := (show Hid ((bc y).length = Nat.min r.length (64 - f)) by show (bc y).length = _; rw [bc_len, hyl]; exact hn)
      have hA2 : 8 + f + (bc y).length ≤ (hrow (blks d (d.length / 64)) rest (d.length : Int)).length := by rw [bc_len, hyl, hrow_len _ _ hrl]; omega
      have HA3 := (show Hid ((bc y).length = n) by show (bc y).length = _; rw [bc_len, hyl])
      have hd60 : d.length < 1152921504606846976 := by omega
      clear hf hn hy hsrc hcell hap' hr hyl hrl
      go_wp2_with fail
      go_region_held3 (fun _ => True) (trivial)
        (first
          | (go_at_call 189; refine (filled_any wr.drew b d.length f hc72 HF.out hd60).mono ?_; rintro e w' ⟨rfl, rfl⟩)
          | (refine step_copy_to (by rfl) _ _ _ _ (by rfl) 5 Tryz.underlying24 Tryz.siz5 (some ⟨b, 8 + f, none⟩) (some ⟨pb, off, none⟩) (64 - f) (64 - f) r.length cap (by rfl) (by rfl) b (8 + f) _ 204 hro (bc y) HA1.out (fun _ => ⟨rfl, _, rfl, HS.out⟩) hA2 (bc_one _) n HA3.out ?_; intro w2 hr2 hg2))
      have hr2' : Row w2 b 204 (hrow (blks d (d.length / 64)) (splice rest f y) (d.length : Int)) := by
        have := hr2.out
        rwa [hrow_copy _ _ HRL.out (by rw [HYL.out]; omega)] at this
      have hspl : (splice rest f y).length = 64 := by rw [length_splice _ _ _ (by rw [HYL.out, HRL.out]; omega)]; exact HRL.out
      have HSPL := (show Hid ((splice rest f y).length = 64) from hspl)
      have hgr2 : wr.grownBy w2 (some b) := grown_drew hg2
      have hgw2 : w.grownBy w2 (some b) := grown_trans hg (grown_drew hg2) (.inl rfl)
      have hc72b : w2.cell? ⟨b, 72, none⟩ = some (.int .u64 (d.length : Int)) := hr2'.cell (hrow_at72 _ _ hspl)
      have hj72 : 72 < (hrow (blks d (d.length / 64)) (splice rest f y) (d.length : Int)).length := by rw [hrow_len _ _ hspl]; decide
      obtain ⟨V, hcut, hVb, hVl, hVr⟩ := run_cut pb off r.length cap n hn1 hc1
      have HVB := (show Hid (V.ownBlock = some pb) from hVb)
      have HVL := (show Hid (slen V = r.length - n) from hVl)
      have HVR := (show Hid (∀ (w : World), (∀ j, j < r.length → w.cell? ⟨pb, off + j, none⟩ = some (.int .u8 (r.getD j 0))) → Rd w V (r.drop n)) from fun w h => hVr w r rfl hbyt hc2 h)
      clear hg hg2 hr2 hc72 hsl HS HN HA1 HA3 hA2 hVb hVl hVr hspl hro
      by_cases hfull : f + n = 64
      · go_wp2_with (refine wl_set (by rfl) 109 _ _ (by rfl) b 72 (.int .u64 ((d.length : Int) + (n : Int))) (by rfl) (by rfl) 204 _ hr2' hj72 Tryz.siz41 (by rfl) ?_; intro w3 hr3 hg3)
        have hr3' : Row w3 b 204 (hrow (blks d (d.length / 64)) (splice rest f y) ((d.length + n : Nat) : Int)) := by
          have := hr3.out
          rwa [hrow_size _ _ _ HSPL.out, ← Int.natCast_add] at this
        have hgr3 := grown_trans hgr2 hg3 (.inl rfl)
        have hgw3 := grown_trans hgw2 hg3 (.inl rfl)
        have ht3 := htr.grown hgr3 (by simpa using hb0)
        clear hr3 hg3 hgr2 hgw2 hr2' hc72b hj72
        refine (filled_any _ b (d.length + n) 0 (hr3'.cell (hrow_at72 _ _ HSPL.out)) (by have := HF.out; omega) (by omega)).mono ?_
        rintro e w3' ⟨rfl, rfl⟩
        go_wp2_with fail
        have hq : Byt (splice rest f y) := byt_splice hre.2.1 hyb f
        have hlt3 := hr3'.lt
        go_region_held3 (fun _ => True) (trivial)
          ((go_at_call 190; refine (block_any w3'.drew b 204 (blks d (d.length / 64)) (bc (splice rest f y) ++ [Value.int IntKind.u64 ((d.length + n : Nat) : Int)]) hr3'.drew ht3 b 8 (splice rest f y) HSPL.out hq (hr3'.bts HSPL.out) hlt3).mono ?_; rintro e w4 ⟨rfl, hr4, hg4⟩))
        have hgr4 := grown_trans hgr3 (grown_drew hg4) (.inl rfl)
        have hgw4 := grown_trans hgw3 (grown_drew hg4) (.inl rfl)
        have hx := rest_full (x := y) hre hyb (by rw [HYL.out, ← HF.out]; exact hfull)
        rw [← HF.out] at hx
        have HH := (show Hid (Hs w4 b (d ++ y)) from ⟨splice rest f y, hx.1, by
          rw [hx.2, List.length_append, HYL.out]
          exact hr4⟩)
        have HR := (show Hid (Rd w4 V (r.drop n)) from HVR.out w4 fun j hj => (cell_grown hgr4 hpb hpbb _).trans (HC.out j hj))
        clear hr3' hgr3 hgw3 ht3 hr4 hg4 hgr4 hx hq htr
        go_wp2_with fail
        go_roundw
        case rel =>
          refine ⟨d ++ y, r.drop n, ?_, HH, HR, fun _ k hk => ?_, hgw4⟩
          · rw [List.append_assoc, HY.out, List.take_append_drop]
            exact HD.out
          · rw [HVB.out] at hk
            injection hk with hk
            omega
        case measure =>
          show slen V < r.length
          rw [HVL.out]
          omega
      · go_wp2_with (refine wl_set (by rfl) 109 _ _ (by rfl) b 72 (.int .u64 ((d.length : Int) + (n : Int))) (by rfl) (by rfl) 204 _ hr2' hj72 Tryz.siz41 (by rfl) ?_; intro w3 hr3 hg3)
        have hr3' : Row w3 b 204 (hrow (blks d (d.length / 64)) (splice rest f y) ((d.length + n : Nat) : Int)) := by
          have := hr3.out
          rwa [hrow_size _ _ _ HSPL.out, ← Int.natCast_add] at this
        have hgr3 := grown_trans hgr2 hg3 (.inl rfl)
        have hgw3 := grown_trans hgw2 hg3 (.inl rfl)
        have ht3 := htr.grown hgr3 (by simpa using hb0)
        clear hr3 hg3 hgr2 hgw2 hr2' hc72b hj72
        have hfn : 0 < f + n := by omega
        have hne : ((f + n : Nat) : Int) ≠ 0 := by omega
        have hne' : decide (((f + n : Nat) : Int) = 0) = false := by simpa using hne
        refine (filled_any _ b (d.length + n) (f + n) (hr3'.cell (hrow_at72 _ _ HSPL.out)) (by have := HF.out; omega) (by omega)).mono ?_
        rintro e w3' ⟨rfl, rfl⟩
        have hx := rest_more (x := y) hre hyb (by rw [HYL.out, ← HF.out]; omega)
        rw [← HF.out] at hx
        have HH := (show Hid (Hs _ b (d ++ y)) from ⟨splice rest f y, hx.1, by
          rw [hx.2, List.length_append, HYL.out]
          exact hr3'⟩)
        have HR := (show Hid (Rd _ V (r.drop n)) from HVR.out _ fun j hj => (cell_grown hgr3 hpb hpbb _).trans (HC.out j hj))
        clear hr3' hgr3 ht3 hx htr
        go_wp2_with fail
        go_roundw
        case rel =>
          refine ⟨d ++ y, r.drop n, ?_, HH, HR, fun _ k hk => ?_, hgw3⟩
          · rw [List.append_assoc, HY.out, List.take_append_drop]
            exact HD.out
          · rw [HVB.out] at hk
            injection hk with hk
            omega
        case measure =>
          show slen V < r.length
          rw [HVL.out]
          omega
    · have hr' : r = [] := List.eq_nil_of_length_eq_zero (by omega)
      subst hr'
      obtain ⟨ao, cap, rfl, hcm⟩ := hr.empty rfl
      have hdd : Hs wr b (l ++ x) := by rw [← HD.out, List.append_nil]; exact hd
      go_wp2_with fail
      go_end0
      exact ⟨rfl, hdd, hg⟩
end
section
open Go.RowKit Oct Sha
theorem flat_snoc {ll : List (List Int)} {k : Nat} {x : List Int} (h : ll[k]? = some x) : (ll.take (k + 1)).flatten = (ll.take k).flatten ++ x := by
  rw [List.take_add_one, h]
  simp
theorem flat_le (ll : List (List Int)) (k : Nat) : (ll.take k).flatten.length ≤ ll.flatten.length := by
  conv => rhs; rw [← List.take_append_drop k ll]
  rw [List.flatten_append, List.length_append]
  omega
theorem All2.nth {α β : Type} {R : α → β → Prop} {xs : List α} {ys : List β} (h : All2 R xs ys) {i : Nat} {a : α} (ha : xs[i]? = some a) : ∃ b, ys[i]? = some b ∧ R a b := by
  have hl := h.len
  have hi : i < xs.length := (List.getElem?_eq_some_iff.1 ha).1
  have hb : ys[i]? = some ys[i] := List.getElem?_eq_getElem (by omega)
  exact ⟨_, hb, h.get ha hb⟩
set_option maxHeartbeats 1000000 in
theorem write_any (w : World) (b : Nat) (l : List Int) (v : Value) (vs : List Value) (ll : List (List Int)) (hh : Hs w b l) (hv : Rdv w v vs) (he : All2 (Rd w) vs ll) (ha : ∀ k, v.ownBlock = some k → k ≠ b)
    (hb : ∀ (i : Nat) (u : Value) (x : List Int), vs[i]? = some u → ll[i]? = some x → 0 < x.length → ∀ k, u.ownBlock = some k → k ≠ b) (hb0 : b ≠ 1) (ht : Tab w) (hlen : l.length + ll.flatten.length < 1152921504606846976) :
    Calls Tryz.prog 160 #[.pointer (some ⟨b, 0, none⟩), v] w fun e w' => e = .returned (.tuple #[]) ∧ Hs w' b (l ++ ll.flatten) ∧ w.grownBy w' (some b) := by
  by_cases h0 : 0 < vs.length
  · obtain ⟨vb, off, cap, rfl, hc1, hc2, hvb, hcell⟩ := hv.at h0
    have hvbb : vb ≠ b := ha vb rfl
    have HC := (show Hid (∀ (j : Nat) (u : Value), vs[j]? = some u → w.cell? ⟨vb, off + j, none⟩ = some u) from hcell)
    have hm : (vs.length : Int) ≤ 9223372036854775807 := by unfold maxLen at hc2; omega
    clear hcell hv ha
    go_enter Tryz.func160, Tryz.ntmps160
    go_wp2_with fail
    go_loopw [8] (fun i wr => ∃ k : Nat, k ≤ vs.length ∧ i = .int .i64 k ∧ Hs wr b (l ++ (ll.take k).flatten) ∧ w.grownBy wr (some b)) (fun i _ => vs.length - (intOf i).toNat)
    case atStart => exact ⟨0, by omega, rfl, by simpa using hh, grown_refl _ _⟩
    case round =>
      obtain ⟨k, hk, rfl, hs, hg⟩ := hrel
      by_cases hkl : k < vs.length
      · obtain ⟨u, hu⟩ : ∃ u, vs[k]? = some u := ⟨_, List.getElem?_eq_getElem hkl⟩
        obtain ⟨x, hx, hr⟩ := he.nth hu
        have hcu : wr.cell? ⟨vb, off + k, none⟩ = some u := (cell_grown hg hvb hvbb _).trans (HC.out k u hu)
        have hub : 0 < x.length → ∀ k, u.ownBlock = some k → k ≠ b := hb k u x hu hx
        have hrr : Rd wr u x := hr.grown hg (fun hne k hk => by injection hk with hk; subst hk; exact fun e => hub (List.length_pos_iff.2 hne) _ e rfl)
        have htr := ht.grown hg (by simpa using hb0)
        have hfl := flat_snoc hx
        have hle : (ll.take k).flatten.length + x.length ≤ ll.flatten.length := by
          have := flat_le ll (k + 1)
          rw [hfl, List.length_append] at this
          exact this
        have HF := (show Hid ((ll.take (k + 1)).flatten = (ll.take k).flatten ++ x) from hfl)
        obtain ⟨ao, ucap, rfl, hucap⟩ := hrr.form
        clear hu hr hx hfl
        go_wp2_with fail
        refine (add_any wr b _ _ x hs hrr hub hb0 htr (by rw [List.length_append]; omega)).mono ?_
        rintro e w2 ⟨rfl, hs2, hg2⟩
        have HS2 := (show Hid (Hs w2 b (l ++ (ll.take (k + 1)).flatten)) by rw [HF.out, ← List.append_assoc]; exact hs2)
        have hg2' := grown_trans hg hg2 (.inl rfl)
        clear hs2 hg2 hg hs hcu hub hrr htr hle HF
        go_wp2_with fail
        go_roundw
        case rel => exact ⟨k + 1, by omega, by go_num, HS2, hg2'⟩
        case measure => simp [intOf]; omega
      · have hs' : Hs wr b (l ++ ll.flatten) := by
          rwa [List.take_of_length_le (by rw [← he.len]; omega)] at hs
        go_wp2_with fail
        go_end0
        exact ⟨rfl, hs', hg⟩
  · obtain ⟨ao, cap, rfl, hcap⟩ := hv.form
    have hvs : vs = [] := List.eq_nil_of_length_eq_zero (by omega)
    subst hvs
    have hll : ll = [] := List.eq_nil_of_length_eq_zero (by rw [← he.len]; rfl)
    subst hll
    rw [List.flatten_nil, List.append_nil]
    clear hv he ha hb h0 hlen
    go_enter Tryz.func160, Tryz.ntmps160
    go_wp2_with fail
    refine wp_loop_rounds 1 ?_
    rw [rounds_succ]
    go_wp2_with fail
    go_end0
    exact ⟨rfl, hh, grown_refl _ _⟩
theorem begin_any (w : World) : Calls Tryz.prog 178 #[] w fun e w' => e = .returned (.agg st0.vs.toArray) ∧ Below w.heap.size w w' := by
  go_enter Tryz.func178, Tryz.ntmps178
  go_wp2_with fail
  exact bodyPost_ret (v := .agg st0.vs.toArray) (results_cell_row rfl _ _ w.heap.size _ st0.vs.toArray (0, 0) _ (by rfl) (heap_alloc_new w _) Tryz.und38 rfl (by kernel_rfl)) rfl ⟨rfl, below_alloc w _⟩
theorem new_any (w : World) : Calls Tryz.prog 159 #[] w fun e w' => ∃ b, e = .returned (.pointer (some ⟨b, 0, none⟩)) ∧ w.heap.size ≤ b ∧ Hs w' b [] ∧ Below w.heap.size w w' := by
  go_enter Tryz.func159, Tryz.ntmps159
  go_wp2_with fail
  refine (begin_any w).mono ?_
  rintro e w1 ⟨rfl, hb1⟩
  go_wp2_with (refine wpList_buildTo (by rfl) 204 _ (by rfl) _ (by rfl) (hrow st0 (List.replicate 64 0) 0).toArray (by kernel_rfl) ?_)
  go_ret
  exact ⟨w1.heap.size, rfl, hb1.size, ⟨List.replicate 64 0, ⟨rfl, byt_zero 64, rfl⟩, Row.new w1 204 _⟩, below_and hb1 (Nat.le_refl _) (below_alloc w1 _)⟩
end
end Go.Proofs.YtgbfmccecnfooaaGreatDoor
