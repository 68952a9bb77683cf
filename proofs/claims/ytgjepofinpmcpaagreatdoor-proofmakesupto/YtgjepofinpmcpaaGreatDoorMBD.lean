/- catenaryref02.Block. -/
import Derived.Test.YtgjepofinpmcpaaGreatDoorMAY
namespace Go.Proofs.YtgjepofinpmcpaaGreatDoor
section
open Go.RowKit Oct Sha
theorem zEq (w : World) (x : BitVec 32) (z : Int) (hz : decide (1 ≤ z) && decide (z ≤ 31) = true) : Calls Tryz.prog 152 #[.int .u32 (wi x), .int .i64 z] w fun e w' => e = .returned (.int .u32 (wi (zEs x z.toNat))) ∧ w' = w := by
  have hz' : 1 ≤ z ∧ z ≤ 31 := by simpa using hz
  have := turn_any w x z.toNat (by omega) (by omega)
  rwa [Int.toNat_of_nonneg (by omega)] at this
theorem zQd (pb off len cap n : Nat) (hn : n ≤ len) (hlt : n < cap) (u : World) : (Instr.slice 23 (.slice (some ⟨pb, off, none⟩) len cap) (some (.int .i64 (n : Int))) none none).run Tryz.prog u = .ok (.slice (some ⟨pb, off + n, none⟩) (len - n) (cap - n)) u := by
  have ht : Tryz.prog.underlying 23 = some (.slice (Tryz.prog.elem 23)) := by kernel_rfl
  have hs : (sizeOf (Tryz.prog.elem 23)).run Tryz.prog u = .ok 1 u := by
    rw [show Tryz.prog.elem 23 = 5 by kernel_rfl]
    obtain ⟨i0, hi, hz0, hz1, hz2⟩ := info_parts Tryz.info5
    simp [sizeOf, typeInfo, hi, hz1]
  rw [run_slice_l u 23 (some ⟨pb, off, none⟩) len cap ht .i64 n (by omega) (by omega), hs]
  simp only [Result.andThen, sliced, Int.toNat_natCast, Nat.mul_one, Option.map_some, Addr.add_mid]
  rw [if_neg (by omega)]
theorem k_any (w : World) : Calls Tryz.prog 151 #[] w fun e w' => e = .returned (.agg (kk.map wv).toArray) ∧ Below w.heap.size w w' := by
  go_enter Tryz.func151, Tryz.ntmps151
  go_wp2_with (first
    | (refine wpList_buildTo (by rfl) 201 _ (by rfl) _ (by rfl) (kk.map wv).toArray (by kernel_rfl) ?_)
    | (refine zA7 (by rfl) 201 _ _ (by rfl) w.heap.size (kk.map wv) (by rfl) (by rfl) 201 (wz 64) (heap_alloc_new w _) (by rfl) (by kernel_rfl) (zFd _) ?_; intro w2 hR2 hg2))
  exact bodyPost_ret (v := .agg (kk.map wv).toArray) (results_cell_row rfl _ _ w.heap.size _ (kk.map wv).toArray (0, 0) _ (by rfl) hR2.out Tryz.und45 rfl (by kernel_rfl)) rfl ⟨rfl, (zA0 w _).trans (zA5 hg2 (by simp) (fun k hk => by cases hk; exact zN))⟩
theorem word_any (w : World) (b off c : Nat) (x0 x1 x2 x3 : Int) (n : Nat) (hn : 4 ≤ n) (y0 : 0 ≤ x0 ∧ x0 ≤ 255) (y1 : 0 ≤ x1 ∧ x1 ≤ 255) (y2 : 0 ≤ x2 ∧ x2 ≤ 255) (y3 : 0 ≤ x3 ∧ x3 ≤ 255)
    (c0 : w.cell? ⟨b, off, none⟩ = some (.int .u8 x0)) (c1 : w.cell? ⟨b, off + 1, none⟩ = some (.int .u8 x1)) (c2 : w.cell? ⟨b, off + 2, none⟩ = some (.int .u8 x2)) (c3 : w.cell? ⟨b, off + 3, none⟩ = some (.int .u8 x3)) :
    Calls Tryz.prog 162 #[.slice (some ⟨b, off, none⟩) n c] w fun e w' => e = .returned (.int .u32 (wi (BitVec.ofInt 32 (((x0 * 256 + x1) * 256 + x2) * 256 + x3)))) ∧ w' = w := by
  have hni : (4 : Int) ≤ (n : Int) := by omega
  rw [zPc _ (by omega) (by omega)]
  go_enter Tryz.func162, Tryz.ntmps162
  go_wp2_with fail
  refine wp_loop_rounds 5 ?_
  rw [rounds_succ]
  go_wp2_with fail
  rw [rounds_succ]
  go_wp2_with fail
  rw [rounds_succ]
  go_wp2_with fail
  rw [rounds_succ]
  go_wp2_with fail
  rw [rounds_succ]
  go_wp2_with fail
  go_ret
  exact ⟨zDj (by omega), rfl⟩
set_option maxHeartbeats 1000000 in
theorem zM6 (w : World) (v : Value) (p : List Int) (hrd : Rd w v p) (hp : p.length = 64) :
    Calls Tryz.prog 150 #[v] w fun e w' => e = .returned (.agg ((sch p 64).map wv).toArray) ∧ Below w.heap.size w w' := by
  have hb := hrd.1
  obtain ⟨b, o, cap, rfl, hc1, hc2, hlt, hcell⟩ := hrd.at (by omega)
  have hr : Bts w b o p := hcell
  rw [hp] at hc1 ⊢
  obtain ⟨X, hX⟩ : ∃ X, X = (sch p 64).map wv := ⟨_, rfl⟩
  rw [← hX]
  have HX := (show Hid (X = (sch p 64).map wv) from hX)
  clear hX hcell hrd
  go_enter Tryz.func150, Tryz.ntmps150
  go_wp2_with (first
    | (refine wpList_buildTo (by rfl) 201 _ (by rfl) _ (by rfl) (wz 64).toArray (by kernel_rfl) ?_)
    | (refine zA7 (by rfl) 201 _ _ (by rfl) (w.heap.size + 1) (wz 64) (by rfl) (by rfl) 201 (wz 64) (heap_alloc2_new w _ _) (by rfl) (by kernel_rfl) (zFd (List.replicate 64 0)) ?_; intro w2 hR2 hg2))
  have hZ2 : Row w2 w.heap.size 201 (wz 64) := (show Row _ w.heap.size 201 (wz 64) from heap_alloc2_old w _ _).grown hg2 (by simp)
  have hbel2 : Below w.heap.size w w2 := ((zA0 w _).trans ((Below.refl _ _).alloc (by simp) _)).trans (zA5 hg2 (by simp; omega) (fun k hk => by cases hk; exact Nat.le_succ _))
  clear hg2
  go_loopw [4] (fun i wr => ∃ k : Nat, k ≤ 16 ∧ i = .int .i64 k ∧ Row wr (w.heap.size + 1) 201 ((sch p k).map wv ++ wz (64 - k)) ∧ Row wr w.heap.size 201 (wz 64) ∧ Below w.heap.size w wr) (fun i _ => 16 - (intOf i).toNat)
  case atStart => exact ⟨0, by omega, rfl, hR2, hZ2, hbel2⟩
  case round =>
    clear hR2 hZ2 hbel2
    obtain ⟨k, hk, rfl, hR, hZ, hbel⟩ := hrel
    have hrr := hr.below hlt hbel
    by_cases hk16 : k < 16
    · obtain ⟨x0, hx0⟩ : ∃ x, x = p.getD (4 * k) 0 := ⟨_, rfl⟩
      obtain ⟨x1, hx1⟩ : ∃ x, x = p.getD (4 * k + 1) 0 := ⟨_, rfl⟩
      obtain ⟨x2, hx2⟩ : ∃ x, x = p.getD (4 * k + 2) 0 := ⟨_, rfl⟩
      obtain ⟨x3, hx3⟩ : ∃ x, x = p.getD (4 * k + 3) 0 := ⟨_, rfl⟩
      have y0 : 0 ≤ x0 ∧ x0 ≤ 255 := hx0 ▸ zH3 hb _
      have y1 : 0 ≤ x1 ∧ x1 ≤ 255 := hx1 ▸ zH3 hb _
      have y2 : 0 ≤ x2 ∧ x2 ≤ 255 := hx2 ▸ zH3 hb _
      have y3 : 0 ≤ x3 ∧ x3 ≤ 255 := hx3 ▸ zH3 hb _
      have c0 : wr.cell? ⟨b, o + 4 * k, none⟩ = some (.int .u8 x0) := hx0 ▸ hrr (4 * k) (by omega)
      have c1 : wr.cell? ⟨b, o + 4 * k + 1, none⟩ = some (.int .u8 x1) := hx1 ▸ hrr (4 * k + 1) (by omega)
      have c2 : wr.cell? ⟨b, o + 4 * k + 2, none⟩ = some (.int .u8 x2) := hx2 ▸ hrr (4 * k + 2) (by omega)
      have c3 : wr.cell? ⟨b, o + 4 * k + 3, none⟩ = some (.int .u8 x3) := hx3 ▸ hrr (4 * k + 3) (by omega)
      have HW := (show Hid (wrd p k = BitVec.ofInt 32 (((x0 * 256 + x1) * 256 + x2) * 256 + x3)) by rw [hx0, hx1, hx2, hx3]; rfl)
      clear hx0 hx1 hx2 hx3 hrr
      have hsl : ∀ u : World, (Instr.slice 23 (.slice (some ⟨b, o, none⟩) 64 cap) (some (.int .i64 (4 * (k : Int)))) none none).run Tryz.prog u = .ok (.slice (some ⟨b, o + 4 * k, none⟩) (64 - 4 * k) (cap - 4 * k)) u := zQd b o 64 cap (4 * k) (by omega) (by omega)
      have hik : ∀ u : World, (Instr.indexAt 201 (.pointer (some ⟨w.heap.size + 1, 0, none⟩)) (.int .i64 (k : Int))).run Tryz.prog u = .ok (.pointer (some ⟨w.heap.size + 1, k, none⟩)) u := zDa (w.heap.size + 1) k (by omega)
      go_wp2_with fail
      refine (word_any _ b (o + 4 * k) (cap - 4 * k) x0 x1 x2 x3 (64 - 4 * k) (by omega) y0 y1 y2 y3 c0 c1 c2 c3).mono ?_
      rintro e wq ⟨rfl, rfl⟩
      rw [← HW.out]
      have ck : wq.cell? ⟨w.heap.size + 1, k, none⟩ = some (.int .u32 0) := hR.cell (wz_at p k (by omega))
      have fk := hR.frozen k
      have HR' := (show Hid (∀ v, Row (wq.setCell ⟨w.heap.size + 1, k, none⟩ v) (w.heap.size + 1) 201 (((sch p k).map wv ++ wz (64 - k)).set k v)) from fun v => hR.set k v)
      clear c0 c1 c2 c3 y0 y1 y2 y3
      go_wp2_with fail
      go_roundw
      case rel =>
        rw [← nxt_lo p k hk16]
        exact ⟨k + 1, by omega, by go_num, zL5 p k (by omega) ▸ HR'.out _, hZ.grown (zAd _ _ _ _) (by simp), zFy hbel zN (Nat.le_succ _) _ _⟩
      case measure => simp [intOf]; omega
    · have hR16 : Row wr (w.heap.size + 1) 201 ((sch p 16).map wv ++ wz (64 - 16)) := (show k = 16 by omega) ▸ hR
      clear hr hlt hb hp hR hrr
      go_wp2_with fail
      go_loopw [5] (fun i wr => ∃ k : Nat, 16 ≤ k ∧ k ≤ 64 ∧ i = .int .i64 k ∧ Row wr (w.heap.size + 1) 201 ((sch p k).map wv ++ wz (64 - k)) ∧ Row wr w.heap.size 201 (wz 64) ∧ Below w.heap.size w wr) (fun i _ => 64 - (intOf i).toNat)
      case atStart => exact ⟨16, by omega, by omega, rfl, hR16, hZ, hbel⟩
      case round =>
        clear hR16 hZ hbel
        rename Nat => k0
        obtain ⟨k, hk, hk', rfl, hR, hZ, hbel⟩ := hrel
        by_cases hk64 : k < 64
        · obtain ⟨m2, hm2⟩ : ∃ m : Nat, (k : Int) - 2 = m := ⟨k - 2, by omega⟩
          obtain ⟨m7, hm7⟩ : ∃ m : Nat, (k : Int) - 7 = m := ⟨k - 7, by omega⟩
          obtain ⟨m15, hm15⟩ : ∃ m : Nat, (k : Int) - 15 = m := ⟨k - 15, by omega⟩
          obtain ⟨m16, hm16⟩ : ∃ m : Nat, (k : Int) - 16 = m := ⟨k - 16, by omega⟩
          obtain ⟨y2, hy2⟩ : ∃ y, y = (sch p k).getD (k - 2) 0 := ⟨_, rfl⟩
          obtain ⟨y7, hy7⟩ : ∃ y, y = (sch p k).getD (k - 7) 0 := ⟨_, rfl⟩
          obtain ⟨y15, hy15⟩ : ∃ y, y = (sch p k).getD (k - 15) 0 := ⟨_, rfl⟩
          obtain ⟨y16, hy16⟩ : ∃ y, y = (sch p k).getD (k - 16) 0 := ⟨_, rfl⟩
          have c2 : wr.cell? ⟨w.heap.size + 1, m2, none⟩ = some (.int .u32 (wi y2)) := by rw [hy2, show k - 2 = m2 by omega]; exact hR.cell (zGz p k m2 (by omega))
          have c7 : wr.cell? ⟨w.heap.size + 1, m7, none⟩ = some (.int .u32 (wi y7)) := by rw [hy7, show k - 7 = m7 by omega]; exact hR.cell (zGz p k m7 (by omega))
          have c15 : wr.cell? ⟨w.heap.size + 1, m15, none⟩ = some (.int .u32 (wi y15)) := by rw [hy15, show k - 15 = m15 by omega]; exact hR.cell (zGz p k m15 (by omega))
          have c16 : wr.cell? ⟨w.heap.size + 1, m16, none⟩ = some (.int .u32 (wi y16)) := by rw [hy16, show k - 16 = m16 by omega]; exact hR.cell (zGz p k m16 (by omega))
          have HN := (show Hid (nxt p (sch p k) = s1 y2 + y7 + s0 y15 + y16) by rw [hy2, hy7, hy15, hy16]; exact nxt_hi p k hk)
          clear hy2 hy7 hy15 hy16
          have ck : wr.cell? ⟨w.heap.size + 1, k, none⟩ = some (.int .u32 0) := hR.cell (wz_at p k (by omega))
          have fk := hR.frozen k
          have q2 : IntKind.i64.wrap (m2 : Int) = m2 := by rw [IntKind.wrap_i64]; omega
          have q7 : IntKind.i64.wrap (m7 : Int) = m7 := by rw [IntKind.wrap_i64]; omega
          have q15 : IntKind.i64.wrap (m15 : Int) = m15 := by rw [IntKind.wrap_i64]; omega
          have q16 : IntKind.i64.wrap (m16 : Int) = m16 := by rw [IntKind.wrap_i64]; omega
          have i2 : ∀ u : World, (Instr.indexAt 201 (.pointer (some ⟨w.heap.size + 1, 0, none⟩)) (.int .i64 (m2 : Int))).run Tryz.prog u = .ok (.pointer (some ⟨w.heap.size + 1, m2, none⟩)) u := zDa (w.heap.size + 1) m2 (by omega)
          have i7 : ∀ u : World, (Instr.indexAt 201 (.pointer (some ⟨w.heap.size + 1, 0, none⟩)) (.int .i64 (m7 : Int))).run Tryz.prog u = .ok (.pointer (some ⟨w.heap.size + 1, m7, none⟩)) u := zDa (w.heap.size + 1) m7 (by omega)
          have i15 : ∀ u : World, (Instr.indexAt 201 (.pointer (some ⟨w.heap.size + 1, 0, none⟩)) (.int .i64 (m15 : Int))).run Tryz.prog u = .ok (.pointer (some ⟨w.heap.size + 1, m15, none⟩)) u := zDa (w.heap.size + 1) m15 (by omega)
          have i16 : ∀ u : World, (Instr.indexAt 201 (.pointer (some ⟨w.heap.size + 1, 0, none⟩)) (.int .i64 (m16 : Int))).run Tryz.prog u = .ok (.pointer (some ⟨w.heap.size + 1, m16, none⟩)) u := zDa (w.heap.size + 1) m16 (by omega)
          have ik : ∀ u : World, (Instr.indexAt 201 (.pointer (some ⟨w.heap.size + 1, 0, none⟩)) (.int .i64 (k : Int))).run Tryz.prog u = .ok (.pointer (some ⟨w.heap.size + 1, k, none⟩)) u := zDa (w.heap.size + 1) k (by omega)
          go_wp2_with fail
          go_quiet ((go_at_call 152; exact zH9 (zEq _ y15 _ (by decide)) rfl))
          go_wp2_with fail
          go_quiet ((go_at_call 152; exact zH9 (zEq _ y2 _ (by decide)) rfl))
          go_wp2_with fail
          go_region
          go_wp2_with fail
          go_roundw
          case rel =>
            have hset := zL5 p k (by omega)
            rw [HN.out] at hset
            rw [show (8 : Int) = 2 ^ 3 from rfl, show (1024 : Int) = 2 ^ 10 from rfl, zGf, zGf]
            simp only [zCh, zSc, zIj, zCx]
            refine ⟨k + 1, by omega, by omega, by go_num, ?_, (show Row (wr.drewN _) w.heap.size 201 (wz 64) from hZ).grown (zAd _ _ _ _) (by simp), zFy (zTn hbel _) zN (Nat.le_succ _) _ _⟩
            rw [← hset]
            exact Row.set (w := wr.drewN _) hR k _
          case measure => simp [intOf]; omega
        · obtain rfl : k = 64 := by omega
          clear hk hk' hk64
          have hl : X.length = 64 := by rw [HX.out, List.length_map, zCp]
          have hR' : Row wr (w.heap.size + 1) 201 X := by rw [HX.out]; simpa [wz] using hR
          have ho : ∀ v ∈ X, v.oneCell' = true := by rw [HX.out]; exact zFd _
          clear hR
          have hs : (Tryz.prog.info? 201).map (·.size) = some X.length := by rw [hl]; exact Tryz.siz45
          have hle : (wz 64).length = X.length := by rw [hl]; rfl
          go_wp2_with (first
            | (refine zAa (by rfl) 201 _ (by rfl) (w.heap.size + 1) (by rfl) _ X hR' _ Tryz.und45 rfl hs ?_)
            | (refine zA7 (by rfl) 201 _ _ (by rfl) w.heap.size X (by rfl) (by rfl) _ (wz 64) hZ hle hs ho ?_; intro w2 hR2 hg2))
          exact bodyPost_ret (v := .agg X.toArray) (results_cell_row rfl _ _ w.heap.size _ X.toArray (0, 0) _ (by rfl) hR2.out Tryz.und45 rfl (by simpa using hs)) rfl ⟨rfl, hbel.trans (zA5 hg2 hbel.size (fun k hk => by cases hk; exact zN))⟩
end
section
open Go.RowKit Oct Sha
theorem Tryz.und35 : Tryz.prog.underlying 184 = some (.array 8 183) := by kernel_rfl
theorem Tryz.siz35 : (Tryz.prog.info? 184).map (·.size) = some 8 := by kernel_rfl
theorem zP8 (b i : Nat) (hi : i < 8) (u : World) : (Instr.indexAt 184 (.pointer (some ⟨b, 0, none⟩)) (.int .i64 (i : Int))).run Tryz.prog u = .ok (.pointer (some ⟨b, i, none⟩)) u := by
  have ht : Tryz.prog.underlying 184 = some (.array (Tryz.prog.arrayLen 184) (Tryz.prog.elem 184)) := by kernel_rfl
  have hn : Tryz.prog.arrayLen 184 = 8 := by kernel_rfl
  have hs : (sizeOf (Tryz.prog.elem 184)).run Tryz.prog u = .ok 1 u := by
    rw [show Tryz.prog.elem 184 = 183 by kernel_rfl]
    cases hq : Tryz.prog.info? 183 with
    | none => have := Tryz.info34; simp [hq] at this
    | some i0 =>
      have h1 := Tryz.info34
      simp only [hq, Option.map_some, Option.some.injEq] at h1
      simp [sizeOf, typeInfo, hq, h1]
  rw [run_indexAt_array u 184 _ .i64 i ht, hn, if_pos (by omega), hs]
  simp only [Result.andThen, Addr.add_mid]
  simp
theorem zSt (a b c d e f g h : Int) : ∀ v ∈ [Value.int .u32 a, .int .u32 b, .int .u32 c, .int .u32 d, .int .u32 e, .int .u32 f, .int .u32 g, .int .u32 h], v.oneCell' = true := by
  intro v hv
  simp only [List.mem_cons, List.not_mem_nil, or_false] at hv
  rcases hv with rfl | rfl | rfl | rfl | rfl | rfl | rfl | rfl <;> rfl
theorem zUq (V : St) (y x : BitVec 32) : (zRw V (y + x)).vs = [.int .u32 (wi (V.h + (zEs V.e 6 ^^^ zEs V.e 11 ^^^ zEs V.e 25) + (V.e &&& V.f ||| ~~~V.e &&& V.g) + y + x + ((zEs V.a 2 ^^^ zEs V.a 13 ^^^ zEs V.a 22) + (V.a &&& V.b ||| V.a &&& V.c ||| V.b &&& V.c)))), .int .u32 (wi V.a), .int .u32 (wi V.b), .int .u32 (wi V.c),
    .int .u32 (wi (V.d + (V.h + (zEs V.e 6 ^^^ zEs V.e 11 ^^^ zEs V.e 25) + (V.e &&& V.f ||| ~~~V.e &&& V.g) + y + x))), .int .u32 (wi V.e), .int .u32 (wi V.f), .int .u32 (wi V.g)] := by
  have e : V.h + S1 V.e + ch V.e V.f V.g + (y + x) = V.h + S1 V.e + ch V.e V.f V.g + y + x := (BitVec.add_assoc _ _ _).symm
  unfold zRw
  dsimp only
  rw [e]
  rfl
def zR5 : St := ⟨0, 0, 0, 0, 0, 0, 0, 0⟩
set_option maxRecDepth 10000 in
set_option maxHeartbeats 2000000 in
theorem zM0 (w : World) (s : St) (v : Value) (p : List Int) (hrd : Rd w v p) (hp : p.length = 64) :
    Calls Tryz.prog 138 #[.agg s.vs.toArray, v] w fun e w' => e = .returned (.agg (blk s p).vs.toArray) ∧ Below w.heap.size w w' := by
  have le := Nat.le_refl w.heap.size
  obtain ⟨ao, cap, rfl, hcap⟩ := hrd.form
  rw [hp] at hrd ⊢
  obtain ⟨ws, hws⟩ : ∃ ws, ws = sch p 64 := ⟨_, rfl⟩
  obtain ⟨Vf, hVf⟩ : ∃ V, V = rnd ws s 64 := ⟨_, rfl⟩
  have hwl : ws.length = 64 := by rw [hws, zCp]
  rw [show blk s p = s.add Vf by rw [hVf, hws]; rfl]
  have HSP := (show Hid (∀ u : World, Rd u (.slice ao 64 cap) p → Calls Tryz.prog 150 #[.slice ao 64 cap] u fun e w' => e = .returned (.agg (ws.map wv).toArray) ∧ Below u.heap.size u w') by
    rw [hws]
    exact fun u h1 => zM6 u _ p h1 hp)
  have HV := (show Hid (Vf = rnd ws s 64) from hVf)
  have hwz : (ws.map wv).length = 64 := by rw [List.length_map]; exact hwl
  have hsW : (Tryz.prog.info? 201).map (·.size) = some (ws.map wv).length := by rw [hwz]; exact Tryz.siz45
  have hlW : (wz 64).length = (ws.map wv).length := by rw [hwz]; rfl
  have HWA := (show Hid (∀ k, k < 64 → (ws.map wv)[k]? = some (.int .u32 (wi (ws.getD k 0)))) from fun k hk => by
    have : k < ws.length := by omega
    simp [List.getD, List.getElem?_eq_getElem this, wv])
  have HKA := (show Hid (∀ k, k < 64 → (kk.map wv)[k]? = some (.int .u32 (wi (kk.getD k 0)))) from fun k hk => by
    have : k < kk.length := by rw [kk_len]; omega
    simp [List.getD, List.getElem?_eq_getElem this, wv])
  clear hws hVf hwl hwz hp
  go_enter Tryz.func138, Tryz.ntmps138
  go_wp2_with fail
  have b0 := zA0 w (.cells s.vs.toArray 184)
  have b1 := zA0 (w.alloc (.cells s.vs.toArray 184)) (.cells zR5.vs.toArray 184)
  have hS0 : Row ((w.alloc (.cells s.vs.toArray 184)).alloc (.cells zR5.vs.toArray 184)) w.heap.size 184 s.vs := (Row.new w 184 s.vs).below b1
  have hR0 : Row ((w.alloc (.cells s.vs.toArray 184)).alloc (.cells zR5.vs.toArray 184)) (w.heap.size + 1) 184 zR5.vs := heap_alloc2_new w _ _
  have hB0 := zA1 b0 le b1
  refine (HSP.out _ (hrd.below hB0)).mono ?_
  rintro e w1 ⟨rfl, hb1⟩
  have hS1 := hS0.below hb1
  have hR1 := hR0.below hb1
  have hB1 := zA1 hB0 le hb1
  clear hS0 hR0 hB0 b0 b1 hb1 HSP hrd
  go_wp2_with (refine zA7 (by rfl) 201 _ _ (by rfl) w1.heap.size (ws.map wv) (by rfl) (by rfl) 201 (wz 64) (heap_alloc_new w1 _) hlW hsW (zFd ws) ?_; intro w2 hr2 hg2)
  have ba := zA0 w1 (.cells (wz 64).toArray 201)
  have hW2 : Row w2 w1.heap.size 201 (ws.map wv) := hr2.out
  have hbx : Below w1.heap.size w1 w2 := ba.trans (zA5 hg2 (by simp) (fun k hk => by cases hk; exact zN))
  have hS2 := hS1.below hbx
  have hR2 := hR1.below hbx
  have hB2 := zA1 hB1 le hbx
  have hz1 := hR1.lt
  clear hS1 hR1 hg2 hr2 ba hB1 hsW hlW
  refine (k_any w2).mono ?_
  rintro e w3 ⟨rfl, hb3⟩
  have hS3 := hS2.below hb3
  have hR3 := hR2.below hb3
  have hW3 := hW2.below hb3
  have hB3 := zA1 hB2 le hb3
  have hz2 := hW3.lt
  clear hS2 hR2 hW2 hB2 hb3 hbx
  go_wp2_with (first
    | (refine zA7 (by rfl) 201 _ _ (by rfl) w3.heap.size (kk.map wv) (by rfl) (by rfl) 201 (wz 64) (heap_alloc_new w3 _) (by rfl) (by kernel_rfl) (zFd kk) ?_; intro w4 hr4 hg4)
    | (refine zAa (by rfl) 184 _ (by rfl) w.heap.size (by rfl) 184 s.vs ((hS3.below (zA0 w3 _)).grown hg4 (by simp; omega)) _ Tryz.und35 rfl Tryz.siz35 ?_)
    | (refine zA7 (by rfl) 184 _ _ (by rfl) w4.heap.size s.vs (by rfl) (by rfl) 184 zR5.vs (heap_alloc_new w4 _) (by rfl) Tryz.siz35 (zFd s.ws) ?_; intro w5 hr5 hg5))
  have hK4 : Row w4 w3.heap.size 201 (kk.map wv) := hr4.out
  have hby : Below w3.heap.size w3 w4 := (zA0 w3 _).trans (zA5 hg4 (by simp) (fun k hk => by cases hk; exact zN))
  have hbz : Below w4.heap.size w4 w5 := (zA0 w4 _).trans (zA5 hg5 (by simp) (fun k hk => by cases hk; exact zN))
  have hV5 : Row w5 w4.heap.size 184 s.vs := hr5.out
  have hS5 := (hS3.below hby).below hbz
  have hR5 := (hR3.below hby).below hbz
  have hW5 := (hW3.below hby).below hbz
  have hK5 := hK4.below hbz
  have hB5 := zA1 (zA1 hB3 le hby) le hbz
  have hz3 := hK4.lt
  clear hS3 hR3 hW3 hB3 hK4 hby hbz hr4 hg4 hr5 hg5
  go_loopw [8] (fun i wr => ∃ k : Nat, k ≤ 64 ∧ i = .int .i64 k ∧ Row wr w4.heap.size 184 (rnd ws s k).vs ∧ w5.grownBy wr (some w4.heap.size)) (fun i _ => 64 - (intOf i).toNat)
  case atStart => exact ⟨0, by omega, rfl, hV5, zBi _ _⟩
  case round =>
    obtain ⟨k, hk, rfl, hrk, hgk⟩ := hrel
    by_cases hk64 : k < 64
    · have cw : wr.cell? ⟨w1.heap.size, k, none⟩ = some (.int .u32 (wi (ws.getD k 0))) := (hW5.grown hgk (by simp; omega)).cell (HWA.out k hk64)
      have ck : wr.cell? ⟨w3.heap.size, k, none⟩ = some (.int .u32 (wi (kk.getD k 0))) := (hK5.grown hgk (by simp; omega)).cell (HKA.out k hk64)
      obtain ⟨V, hV⟩ : ∃ V, V = rnd ws s k := ⟨_, rfl⟩
      rw [← hV] at hrk
      have HR := (show Hid (rnd ws s (k + 1) = zRw V (kk.getD k 0 + ws.getD k 0)) by rw [hV]; rfl)
      obtain ⟨x, hx⟩ : ∃ x, x = ws.getD k 0 := ⟨_, rfl⟩
      obtain ⟨y, hy⟩ : ∃ y, y = kk.getD k 0 := ⟨_, rfl⟩
      rw [← hx] at cw HR
      rw [← hy] at ck HR
      have hiw : ∀ u : World, (Instr.indexAt 201 (.pointer (some ⟨w1.heap.size, 0, none⟩)) (.int .i64 (k : Int))).run Tryz.prog u = .ok (.pointer (some ⟨w1.heap.size, k, none⟩)) u := zDa w1.heap.size k hk64
      have hik : ∀ u : World, (Instr.indexAt 201 (.pointer (some ⟨w3.heap.size, 0, none⟩)) (.int .i64 (k : Int))).run Tryz.prog u = .ok (.pointer (some ⟨w3.heap.size, k, none⟩)) u := zDa w3.heap.size k hk64
      have c0 : wr.cell? ⟨w4.heap.size, 0, none⟩ = some (.int .u32 (wi V.a)) := hrk.cell rfl
      have c1 : wr.cell? ⟨w4.heap.size, 1, none⟩ = some (.int .u32 (wi V.b)) := hrk.cell rfl
      have c2 : wr.cell? ⟨w4.heap.size, 2, none⟩ = some (.int .u32 (wi V.c)) := hrk.cell rfl
      have c3 : wr.cell? ⟨w4.heap.size, 3, none⟩ = some (.int .u32 (wi V.d)) := hrk.cell rfl
      have c4 : wr.cell? ⟨w4.heap.size, 4, none⟩ = some (.int .u32 (wi V.e)) := hrk.cell rfl
      have c5 : wr.cell? ⟨w4.heap.size, 5, none⟩ = some (.int .u32 (wi V.f)) := hrk.cell rfl
      have c6 : wr.cell? ⟨w4.heap.size, 6, none⟩ = some (.int .u32 (wi V.g)) := hrk.cell rfl
      have c7 : wr.cell? ⟨w4.heap.size, 7, none⟩ = some (.int .u32 (wi V.h)) := hrk.cell rfl
      clear hV hx hy
      go_wp2_with fail
      go_quiet (fail)
      go_wp2_with fail
      go_quiet ((go_at_call 152; exact zH9 (zEq _ V.e _ (by decide)) rfl))
      go_wp2_with fail
      refine (zEq _ V.a _ (by decide)).mono ?_
      rintro e wq ⟨rfl, rfl⟩
      go_wp2_with fail
      refine (zEq _ V.a _ (by decide)).mono ?_
      rintro e wq ⟨rfl, rfl⟩
      go_wp2_with fail
      refine (zEq _ V.a _ (by decide)).mono ?_
      rintro e wq ⟨rfl, rfl⟩
      go_wp2_with (refine zA7 (by rfl) 184 _ _ (by rfl) w4.heap.size [.int .u32 _, .int .u32 _, .int .u32 _, .int .u32 _, .int .u32 _, .int .u32 _, .int .u32 _, .int .u32 _] (by rfl) (by rfl) 184 V.vs hrk (by rfl) Tryz.siz35 (zSt _ _ _ _ _ _ _ _) ?_; intro w6 hr6 hg6)
      have HR6 := (show Hid (Row w6 w4.heap.size 184 (rnd ws s (k + 1)).vs) by
        have h6 := hr6.out
        simp only [zTx, zPt, zJz, zCh, zSc, zIj, zCx] at h6
        show Row _ _ _ _
        rw [HR.out, zUq]
        exact h6)
      have hg6' := zA2 hgk (zHq hg6) (.inl rfl)
      clear hr6 hg6 hgk hrk cw ck c0 c1 c2 c3 c4 c5 c6 c7 HR
      go_roundw
      case rel => exact ⟨k + 1, by omega, by go_num, HR6, hg6'⟩
      case measure => simp [intOf]; omega
    · have hrV : Row wr w4.heap.size 184 Vf.vs := by rw [HV.out, show 64 = k by omega]; exact hrk
      have hS6 := hS5.grown hgk (by simp; omega)
      have hR6 := hR5.grown hgk (by simp; omega)
      have hB6 : Below w.heap.size w wr := hB5.trans (zA5 hgk hB5.size (fun j hj => by cases hj; omega))
      clear hrk HV hgk hS5 hR5 hW5 hK5 hB5 hV5 HWA HKA
      obtain ⟨wx, hwx⟩ : ∃ u, u = wr := ⟨_, rfl⟩
      go_wp2_with fail
      go_loopw [17] (fun i wr => ∃ j : Nat, j ≤ 8 ∧ i = .int .i64 j ∧ Row wr w.heap.size 184 ((zF7 s Vf j).map wv) ∧ wx.grownBy wr (some w.heap.size)) (fun i _ => 8 - (intOf i).toNat)
      case atStart => exact ⟨0, by omega, rfl, hS6, by rw [hwx]; exact zBi _ _⟩
      case round =>
        rw [← hwx] at hrV hR6 hB6
        clear hS6
        obtain ⟨j, hj, rfl, hrj, hgj⟩ := hrel
        by_cases hj8 : j < 8
        · have cV : wr.cell? ⟨w4.heap.size, j, none⟩ = some (.int .u32 (wi (Vf.ws.getD j 0))) := (hrV.grown hgj (by simp; omega)).cell (by rcases (by omega : j = 0 ∨ j = 1 ∨ j = 2 ∨ j = 3 ∨ j = 4 ∨ j = 5 ∨ j = 6 ∨ j = 7) with rfl | rfl | rfl | rfl | rfl | rfl | rfl | rfl <;> rfl)
          have cS : wr.cell? ⟨w.heap.size, j, none⟩ = some (.int .u32 (wi (s.ws.getD j 0))) := hrj.cell (by rw [List.getElem?_map, zLq s Vf j hj8]; rfl)
          have fS := hrj.frozen j
          have h1 : ∀ u : World, (Instr.indexAt 184 (.pointer (some ⟨w.heap.size, 0, none⟩)) (.int .i64 (j : Int))).run Tryz.prog u = .ok (.pointer (some ⟨w.heap.size, j, none⟩)) u := zP8 _ j hj8
          have h2 : ∀ u : World, (Instr.indexAt 184 (.pointer (some ⟨w4.heap.size, 0, none⟩)) (.int .i64 (j : Int))).run Tryz.prog u = .ok (.pointer (some ⟨w4.heap.size, j, none⟩)) u := zP8 _ j hj8
          go_wp2_with fail
          go_region
          go_wp2_with fail
          go_roundw
          case rel =>
            rw [zJn]
            refine ⟨j + 1, by omega, by go_num, ?_, zBg (zA2 hgj (zAd _ _ _ _) (.inl rfl))⟩
            have hs := zHp s Vf j hj8 []
            rw [List.append_nil, List.append_nil] at hs
            rw [← hs]
            exact (hrj.set j _).drew
          case measure => simp [intOf]; omega
        · have hrf : Row wr w.heap.size 184 (s.add Vf).vs := by
            rw [show j = 8 by omega] at hrj
            exact hrj
          have hRf := hR6.grown hgj (by simp)
          have hBf : Below w.heap.size w wr := hB6.trans (zA5 hgj hB6.size (fun j hj => by cases hj; omega))
          clear hrj hgj hR6 hB6 hrV
          go_wp2_with (first
            | (refine zAa (by rfl) 184 _ (by rfl) w.heap.size (by rfl) 184 (s.add Vf).vs hrf _ Tryz.und35 rfl Tryz.siz35 ?_)
            | (refine zA7 (by rfl) 184 _ _ (by rfl) (w.heap.size + 1) (s.add Vf).vs (by rfl) (by rfl) 184 zR5.vs hRf (by rfl) Tryz.siz35 (zFd (s.add Vf).ws) ?_; intro w9 hr9 hg9))
          exact bodyPost_ret (v := .agg (s.add Vf).vs.toArray) (results_cell_row rfl _ _ (w.heap.size + 1) _ (s.add Vf).vs.toArray (0, 0) _ (by rfl) hr9.out Tryz.und35 rfl (by kernel_rfl)) rfl ⟨rfl, hBf.trans (zA5 hg9 hBf.size (fun k hk => by cases hk; omega))⟩
end
end Go.Proofs.YtgjepofinpmcpaaGreatDoor
