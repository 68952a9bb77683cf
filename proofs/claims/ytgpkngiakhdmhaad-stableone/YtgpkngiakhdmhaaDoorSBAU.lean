/- sha.spread. -/
import Derived.Test.YtgpkngiakhdmhaaDoorSBAR
namespace Go.Proofs.YtgpkngiakhdmhaaDoor
open Go.RowKit Oct Sha
/-- A row of bytes that can be read, from a place on. -/
def Bts (w : World) (b o : Nat) (p : List Int) : Prop := ∀ j, j < p.length → w.cell? ⟨b, o + j, none⟩ = some (.int .u8 (p.getD j 0))
theorem Bts.below {w w' : World} {b o : Nat} {p : List Int} (h : Bts w b o p) (hlt : b < w.heap.size) (hb : Below w.heap.size w w') : Bts w' b o p := fun j hj => (hb.cell (p := ⟨b, o + j, none⟩) hlt).trans (h j hj)
theorem byt_at {p : List Int} (h : Byt p) (j : Nat) : 0 ≤ p.getD j 0 ∧ p.getD j 0 ≤ 255 := by
  by_cases hj : j < p.length
  · have : p.getD j 0 ∈ p := by simp [List.getD, List.getElem?_eq_getElem hj]
    exact h _ this
  · simp [List.getD, List.getElem?_eq_none (Nat.le_of_not_lt hj)]
def wz (n : Nat) : List Value := List.replicate n (wv 0)
theorem wz_at (p : List Int) (k : Nat) (hk : k < 64) : ((sch p k).map wv ++ wz (64 - k))[k]? = some (.int .u32 0) := by
  rw [List.getElem?_append_right (by simp [sch_len]), List.length_map, sch_len, Nat.sub_self]
  simp only [wz, List.getElem?_replicate]
  rw [if_pos (by omega)]
  rfl
theorem sch_set (p : List Int) (k : Nat) (hk : k < 64) : ((sch p k).map wv ++ wz (64 - k)).set k (wv (nxt p (sch p k))) = (sch p (k + 1)).map wv ++ wz (64 - (k + 1)) := by
  rw [List.set_append_right _ _ (by simp [sch_len]), List.length_map, sch_len, Nat.sub_self, sch, List.map_append, List.append_assoc]
  congr 1
  rw [show 64 - k = (64 - (k + 1)) + 1 by omega, wz, List.replicate_succ]
  rfl
theorem or4 (x0 x1 x2 x3 : Int) (y0 : 0 ≤ x0 ∧ x0 ≤ 255) (y1 : 0 ≤ x1 ∧ x1 ≤ 255) (y2 : 0 ≤ x2 ∧ x2 ≤ 255) (y3 : 0 ≤ x3 ∧ x3 ≤ 255) :
    bits .or .u32 (bits .or .u32 (bits .or .u32 (x0 * 16777216) (x1 * 65536)) (x2 * 256)) x3 = wi (BitVec.ofInt 32 (((x0 * 256 + x1) * 256 + x2) * 256 + x3)) := by
  have hk : ∀ n : Int, 0 ≤ n → n < 2 ^ 32 → IntKind.u32.wrap n = n := fun n h0 h1 => by rw [IntKind.wrap_u32]; omega
  rw [bits_join .u32 32 (by decide) hk 24 (x0 * 16777216) (x1 * 65536) (by omega) (by omega) (by omega) (by omega) (by omega) (by omega)]
  rw [bits_join .u32 32 (by decide) hk 16 (x0 * 16777216 + x1 * 65536) (x2 * 256) (by omega) (by omega) (by omega) (by omega) (by omega) (by omega)]
  rw [bits_join .u32 32 (by decide) hk 8 (x0 * 16777216 + x1 * 65536 + x2 * 256) x3 (by omega) (by omega) (by omega) (by omega) (by omega) (by omega)]
  rw [wi_ofInt _ (by omega) (by omega)]
  omega
theorem sch_at (p : List Int) (k j : Nat) (hj : j < k) : ((sch p k).map wv ++ wz (64 - k))[j]? = some (.int .u32 (wi ((sch p k).getD j 0))) := by
  have h : j < (sch p k).length := by rw [sch_len]; exact hj
  rw [List.getElem?_append_left (by simpa using h)]
  simp [List.getD, List.getElem?_eq_getElem h, wv]
theorem nxt_lo (p : List Int) (k : Nat) (hk : k < 16) : nxt p (sch p k) = wrd p k := by
  unfold nxt
  rw [sch_len, if_pos hk]
theorem nxt_hi (p : List Int) (k : Nat) (hk : 16 ≤ k) : nxt p (sch p k) = s1 ((sch p k).getD (k - 2) 0) + (sch p k).getD (k - 7) 0 + s0 ((sch p k).getD (k - 15) 0) + (sch p k).getD (k - 16) 0 := by
  unfold nxt
  rw [sch_len, if_neg (by omega)]
theorem below_set {B : Nat} {w wr : World} (h : Below B w wr) (hB : B ≤ w.heap.size) {b : Nat} (hb : B ≤ b) (j : Nat) (v : Value) : Below B w (wr.setCell ⟨b, j, none⟩ v) :=
  h.trans (grown_below (grown_set wr b j v) (Nat.le_trans hB h.size) (fun k hk => by cases hk; exact hb))
theorem Tryd.und45 : Tryd.prog.underlying 129 = some (.array 64 93) := by kernel_rfl
theorem Tryd.siz45 : (Tryd.prog.info? 129).map (·.size) = some 64 := by kernel_rfl
theorem run_ix (b i : Nat) (hi : i < 64) (u : World) : (Instr.indexAt 129 (.pointer (some ⟨b, 0, none⟩)) (.int .i64 (i : Int))).run Tryd.prog u = .ok (.pointer (some ⟨b, i, none⟩)) u := by
  have ht : Tryd.prog.underlying 129 = some (.array (Tryd.prog.arrayLen 129) (Tryd.prog.elem 129)) := by kernel_rfl
  have hn : Tryd.prog.arrayLen 129 = 64 := by kernel_rfl
  have hs : (sizeOf (Tryd.prog.elem 129)).run Tryd.prog u = .ok 1 u := by
    rw [show Tryd.prog.elem 129 = 93 by kernel_rfl]
    cases hq : Tryd.prog.info? 93 with
    | none => have := Tryd.info34; simp [hq] at this
    | some i0 =>
      have h1 := Tryd.info34
      simp only [hq, Option.map_some, Option.some.injEq] at h1
      simp [sizeOf, typeInfo, hq, h1]
  rw [run_indexAt_array u 129 _ .i64 i ht, hn, if_pos (by omega), hs]
  simp only [Result.andThen, Addr.add_mid]
  simp
theorem run_sl (b o l h : Nat) (hlh : l ≤ h) (hh : h ≤ 64) (hl : l < 64) (u : World) :
    (Instr.sliceAt 120 (.pointer (some ⟨b, o, none⟩)) (some (.int .i64 (l : Int))) (some (.int .i64 (h : Int))) none).run Tryd.prog u = .ok (.slice (some ⟨b, o + l, none⟩) (h - l) (64 - l)) u := by
  have ht : Tryd.prog.underlying 120 = some (.array (Tryd.prog.arrayLen 120) (Tryd.prog.elem 120)) := by kernel_rfl
  have hn : Tryd.prog.arrayLen 120 = 64 := by kernel_rfl
  have hs : (sizeOf (Tryd.prog.elem 120)).run Tryd.prog u = .ok 1 u := by
    rw [show Tryd.prog.elem 120 = 5 by kernel_rfl]
    obtain ⟨i0, hi, hz0, hz1, hz2⟩ := info_parts Tryd.info5
    simp [sizeOf, typeInfo, hi, hz1]
  rw [run_sliceAt_array_lh u 120 _ ht .i64 .i64 l h (by omega) (by omega) (by rw [hn]; omega), hs, hn]
  simp only [Result.andThen, slicedAt]
  rw [if_neg (by omega), Addr.add_mid]
  simp
theorem run_sl_l (b o l : Nat) (hl : l < 64) (u : World) :
    (Instr.sliceAt 120 (.pointer (some ⟨b, o, none⟩)) (some (.int .i64 (l : Int))) none none).run Tryd.prog u = .ok (.slice (some ⟨b, o + l, none⟩) (64 - l) (64 - l)) u := by
  have ht : Tryd.prog.underlying 120 = some (.array (Tryd.prog.arrayLen 120) (Tryd.prog.elem 120)) := by kernel_rfl
  have hn : Tryd.prog.arrayLen 120 = 64 := by kernel_rfl
  have hs : (sizeOf (Tryd.prog.elem 120)).run Tryd.prog u = .ok 1 u := by
    rw [show Tryd.prog.elem 120 = 5 by kernel_rfl]
    obtain ⟨i0, hi, hz0, hz1, hz2⟩ := info_parts Tryd.info5
    simp [sizeOf, typeInfo, hi, hz1]
  rw [run_sliceAt_array_l u 120 _ ht .i64 l (by omega) (by rw [hn]; omega), hs, hn]
  simp only [Result.andThen, slicedAt]
  rw [if_neg (by omega), Addr.add_mid]
  simp
set_option maxHeartbeats 1000000 in
theorem spread_any (w : World) (b o : Nat) (p : List Int) (hp : p.length = 64) (hb : Byt p) (hr : Bts w b o p) (hlt : b < w.heap.size) :
    Calls Tryd.prog 84 #[.pointer (some ⟨b, o, none⟩)] w fun e w' => e = .returned (.agg ((sch p 64).map wv).toArray) ∧ Below w.heap.size w w' := by
  obtain ⟨X, hX⟩ : ∃ X, X = (sch p 64).map wv := ⟨_, rfl⟩
  rw [← hX]
  have HX := (show Hid (X = (sch p 64).map wv) from hX)
  clear hX
  go_enter Tryd.func84, Tryd.ntmps84
  go_wp2_with fail
  go_loopw [7] (fun i wr => ∃ k : Nat, k ≤ 16 ∧ i = .int .i64 k ∧ Row wr (w.heap.size + 1) 129 ((sch p k).map wv ++ wz (64 - k)) ∧ Row wr w.heap.size 129 (wz 64) ∧ Below w.heap.size w wr) (fun i _ => 16 - (intOf i).toNat)
  case atStart => exact ⟨0, by omega, rfl, heap_alloc2_new w _ _, heap_alloc2_old w _ _, (below_alloc w _).trans ((Below.refl _ _).alloc (by simp) _)⟩
  case round =>
    obtain ⟨k, hk, rfl, hR, hZ, hbel⟩ := hrel
    have hrr := hr.below hlt hbel
    by_cases hk16 : k < 16
    · obtain ⟨x0, hx0⟩ : ∃ x, x = p.getD (4 * k) 0 := ⟨_, rfl⟩
      obtain ⟨x1, hx1⟩ : ∃ x, x = p.getD (4 * k + 1) 0 := ⟨_, rfl⟩
      obtain ⟨x2, hx2⟩ : ∃ x, x = p.getD (4 * k + 2) 0 := ⟨_, rfl⟩
      obtain ⟨x3, hx3⟩ : ∃ x, x = p.getD (4 * k + 3) 0 := ⟨_, rfl⟩
      have y0 : 0 ≤ x0 ∧ x0 ≤ 255 := hx0 ▸ byt_at hb _
      have y1 : 0 ≤ x1 ∧ x1 ≤ 255 := hx1 ▸ byt_at hb _
      have y2 : 0 ≤ x2 ∧ x2 ≤ 255 := hx2 ▸ byt_at hb _
      have y3 : 0 ≤ x3 ∧ x3 ≤ 255 := hx3 ▸ byt_at hb _
      have c0 : wr.cell? ⟨b, o + 4 * k, none⟩ = some (.int .u8 x0) := hx0 ▸ hrr (4 * k) (by omega)
      have c1 : wr.cell? ⟨b, o + 4 * k + 1, none⟩ = some (.int .u8 x1) := hx1 ▸ hrr (4 * k + 1) (by omega)
      have c2 : wr.cell? ⟨b, o + 4 * k + 2, none⟩ = some (.int .u8 x2) := hx2 ▸ hrr (4 * k + 2) (by omega)
      have c3 : wr.cell? ⟨b, o + 4 * k + 3, none⟩ = some (.int .u8 x3) := hx3 ▸ hrr (4 * k + 3) (by omega)
      have HW := (show Hid (wrd p k = BitVec.ofInt 32 (((x0 * 256 + x1) * 256 + x2) * 256 + x3)) by rw [hx0, hx1, hx2, hx3]; rfl)
      clear hx0 hx1 hx2 hx3 hrr
      have hsl : ∀ u : World, (Instr.sliceAt 120 (.pointer (some ⟨b, o, none⟩)) (some (.int .i64 (4 * (k : Int)))) (some (.int .i64 (4 * (k : Int) + 4))) none).run Tryd.prog u = .ok (.slice (some ⟨b, o + 4 * k, none⟩) 4 (64 - 4 * k)) u := by
        intro u
        have := run_sl b o (4 * k) (4 * k + 4) (by omega) (by omega) (by omega) u
        rwa [show 4 * k + 4 - 4 * k = 4 by omega] at this
      have ck : wr.cell? ⟨w.heap.size + 1, k, none⟩ = some (.int .u32 0) := hR.cell (by exact wz_at p k (by omega))
      have fk := hR.frozen k
      go_wp2_with fail
      go_region
      go_wp2_with fail
      go_roundw
      case rel =>
        rw [or4 x0 x1 x2 x3 y0 y1 y2 y3, ← HW.out, ← nxt_lo p k hk16]
        exact ⟨k + 1, by omega, by go_num, sch_set p k (by omega) ▸ (hR.set k _).drew, (hZ.grown (grown_set _ _ _ _) (by simp)).drew, (below_set hbel (Nat.le_refl _) (Nat.le_succ _) _ _).drew⟩
      case measure => simp [intOf]; omega
    · have hR16 : Row wr (w.heap.size + 1) 129 ((sch p 16).map wv ++ wz (64 - 16)) := (show k = 16 by omega) ▸ hR
      clear hr hlt hb hp hR hrr
      go_wp2_with fail
      go_loopw [6] (fun i wr => ∃ k : Nat, 16 ≤ k ∧ k ≤ 64 ∧ i = .int .i64 k ∧ Row wr (w.heap.size + 1) 129 ((sch p k).map wv ++ wz (64 - k)) ∧ Row wr w.heap.size 129 (wz 64) ∧ Below w.heap.size w wr) (fun i _ => 64 - (intOf i).toNat)
      case atStart => exact ⟨16, by omega, by omega, rfl, hR16, hZ, hbel⟩
      case round =>
        clear hR16 hZ hbel
        rename Nat => k0
        obtain ⟨k, hk, hk', rfl, hR, hZ, hbel⟩ := hrel
        by_cases hk64 : k < 64
        · obtain ⟨m2, hm2⟩ : ∃ m : Nat, (k : Int) - 2 = m := ⟨k - 2, by omega⟩
          obtain ⟨m7, hm7⟩ : ∃ m : Nat, (k : Int) - 7 = m := ⟨k - 7, by omega⟩
          obtain ⟨m15, hm15⟩ : ∃ m : Nat, (k : Int) - 15 = m := ⟨k - 15, by omega⟩
          obtain ⟨m16, hm16⟩ : ∃ m : Nat, (k : Int) - 16 = m := ⟨k - 16, by omega⟩
          obtain ⟨y2, hy2⟩ : ∃ y, y = (sch p k).getD (k - 2) 0 := ⟨_, rfl⟩
          obtain ⟨y7, hy7⟩ : ∃ y, y = (sch p k).getD (k - 7) 0 := ⟨_, rfl⟩
          obtain ⟨y15, hy15⟩ : ∃ y, y = (sch p k).getD (k - 15) 0 := ⟨_, rfl⟩
          obtain ⟨y16, hy16⟩ : ∃ y, y = (sch p k).getD (k - 16) 0 := ⟨_, rfl⟩
          have c2 : wr.cell? ⟨w.heap.size + 1, m2, none⟩ = some (.int .u32 (wi y2)) := by rw [hy2, show k - 2 = m2 by omega]; exact hR.cell (sch_at p k m2 (by omega))
          have c7 : wr.cell? ⟨w.heap.size + 1, m7, none⟩ = some (.int .u32 (wi y7)) := by rw [hy7, show k - 7 = m7 by omega]; exact hR.cell (sch_at p k m7 (by omega))
          have c15 : wr.cell? ⟨w.heap.size + 1, m15, none⟩ = some (.int .u32 (wi y15)) := by rw [hy15, show k - 15 = m15 by omega]; exact hR.cell (sch_at p k m15 (by omega))
          have c16 : wr.cell? ⟨w.heap.size + 1, m16, none⟩ = some (.int .u32 (wi y16)) := by rw [hy16, show k - 16 = m16 by omega]; exact hR.cell (sch_at p k m16 (by omega))
          have HN := (show Hid (nxt p (sch p k) = s1 y2 + y7 + s0 y15 + y16) by rw [hy2, hy7, hy15, hy16]; exact nxt_hi p k hk)
          clear hy2 hy7 hy15 hy16
          have ck : wr.cell? ⟨w.heap.size + 1, k, none⟩ = some (.int .u32 0) := hR.cell (wz_at p k (by omega))
          have fk := hR.frozen k
          have q2 : IntKind.i64.wrap (m2 : Int) = m2 := by rw [IntKind.wrap_i64]; omega
          have i2 : ∀ u : World, (Instr.indexAt 129 (.pointer (some ⟨w.heap.size + 1, 0, none⟩)) (.int .i64 (m2 : Int))).run Tryd.prog u = .ok (.pointer (some ⟨w.heap.size + 1, m2, none⟩)) u := run_ix (w.heap.size + 1) m2 (by omega)
          have q7 : IntKind.i64.wrap (m7 : Int) = m7 := by rw [IntKind.wrap_i64]; omega
          have i7 : ∀ u : World, (Instr.indexAt 129 (.pointer (some ⟨w.heap.size + 1, 0, none⟩)) (.int .i64 (m7 : Int))).run Tryd.prog u = .ok (.pointer (some ⟨w.heap.size + 1, m7, none⟩)) u := run_ix (w.heap.size + 1) m7 (by omega)
          have q15 : IntKind.i64.wrap (m15 : Int) = m15 := by rw [IntKind.wrap_i64]; omega
          have i15 : ∀ u : World, (Instr.indexAt 129 (.pointer (some ⟨w.heap.size + 1, 0, none⟩)) (.int .i64 (m15 : Int))).run Tryd.prog u = .ok (.pointer (some ⟨w.heap.size + 1, m15, none⟩)) u := run_ix (w.heap.size + 1) m15 (by omega)
          have q16 : IntKind.i64.wrap (m16 : Int) = m16 := by rw [IntKind.wrap_i64]; omega
          have i16 : ∀ u : World, (Instr.indexAt 129 (.pointer (some ⟨w.heap.size + 1, 0, none⟩)) (.int .i64 (m16 : Int))).run Tryd.prog u = .ok (.pointer (some ⟨w.heap.size + 1, m16, none⟩)) u := run_ix (w.heap.size + 1) m16 (by omega)
          have z2 : (m2 : Int) < 64 := by omega
          have z7 : (m7 : Int) < 64 := by omega
          have z15 : (m15 : Int) < 64 := by omega
          have z16 : (m16 : Int) < 64 := by omega
          have ik : ∀ u : World, (Instr.indexAt 129 (.pointer (some ⟨w.heap.size + 1, 0, none⟩)) (.int .i64 (k : Int))).run Tryd.prog u = .ok (.pointer (some ⟨w.heap.size + 1, k, none⟩)) u := run_ix (w.heap.size + 1) k (by omega)
          have zk : (k : Int) < 64 := by omega
          have n2 : m2 ≠ k := by omega
          have n7 : m7 ≠ k := by omega
          have n15 : m15 ≠ k := by omega
          have n16 : m16 ≠ k := by omega
          go_wp2_with fail
          have HK := (show Hid (∀ v : Value, (fun w' : World => w'.cell? ⟨w.heap.size + 1, m2, none⟩ = some (.int .u32 (wi y2)) ∧ w'.cell? ⟨w.heap.size + 1, m7, none⟩ = some (.int .u32 (wi y7)) ∧ w'.cell? ⟨w.heap.size + 1, m15, none⟩ = some (.int .u32 (wi y15)) ∧ w'.cell? ⟨w.heap.size + 1, m16, none⟩ = some (.int .u32 (wi y16))) (wr.setCell ⟨w.heap.size + 1, k, none⟩ v).drew) from fun v => ⟨cell_set_ned c2 n2, cell_set_ned c7 n7, cell_set_ned c15 n15, cell_set_ned c16 n16⟩)
          go_region_held3 (fun w' => w'.cell? ⟨w.heap.size + 1, m2, none⟩ = some (.int .u32 (wi y2)) ∧ w'.cell? ⟨w.heap.size + 1, m7, none⟩ = some (.int .u32 (wi y7)) ∧ w'.cell? ⟨w.heap.size + 1, m15, none⟩ = some (.int .u32 (wi y15)) ∧ w'.cell? ⟨w.heap.size + 1, m16, none⟩ = some (.int .u32 (wi y16)))
            (first | exact HK.out _ | go_keep)
            (first
              | (go_at_call 86; refine (small1_any _ y2).mono ?_; rintro e w' ⟨rfl, rfl⟩)
              | (go_at_call 87; refine (small0_any _ y15).mono ?_; rintro e w' ⟨rfl, rfl⟩))
          go_wp2_with fail
          go_roundw
          case rel =>
            rw [add_wi, add_wi, add_wi, ← HN.out]
            exact ⟨k + 1, by omega, by omega, by go_num, sch_set p k (by omega) ▸ (hR.set k _).drew, (hZ.grown (grown_set _ _ _ _) (by simp)).drew, (below_set hbel (Nat.le_refl _) (Nat.le_succ _) _ _).drew⟩
          case measure => simp [intOf]; omega
        · obtain rfl : k = 64 := by omega
          clear hk hk' hk64
          have hl : X.length = 64 := by rw [HX.out, List.length_map, sch_len]
          have hR' : Row wr (w.heap.size + 1) 129 X := by rw [HX.out]; simpa [wz] using hR
          have ho : ∀ v ∈ X, v.oneCell' = true := by rw [HX.out]; exact wv_one _
          clear hR
          have hs : (Tryd.prog.info? 129).map (·.size) = some X.length := by rw [hl]; exact Tryd.siz45
          have hle : (wz 64).length = X.length := by rw [hl]; rfl
          go_wp2_with (first
            | (refine wl_load (by rfl) 129 _ (by rfl) (w.heap.size + 1) (by rfl) _ X hR' _ Tryd.und45 rfl hs ?_)
            | (refine wl_store (by rfl) 129 _ _ (by rfl) w.heap.size X (by rfl) (by rfl) _ (wz 64) hZ hle hs ho ?_; intro w2 hR2 hg2))
          exact bodyPost_ret (v := .agg X.toArray) (results_cell_row rfl _ _ w.heap.size _ X.toArray (0, 0) _ (by rfl) hR2.out Tryd.und45 rfl (by simpa using hs)) rfl ⟨rfl, hbel.trans (grown_below hg2 hbel.size (fun k hk => by cases hk; exact Nat.le_refl _))⟩
end Go.Proofs.YtgpkngiakhdmhaaDoor
