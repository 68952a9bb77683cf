/- sha.block. -/
import Derived.Test.YtijmecplechhgaaGreatDoorV2
section
namespace Go.Proofs.YtijmecplechhgaaGreatDoor
open Go.RowKit Oct Sha

theorem Tryz.info34 : (Tryz.prog.info? 109).map (·.size) = some 1 := by kernel_rfl

set_option maxHeartbeats 1000000 in
theorem step_any (w : World) (b : Nat) (t : TypeId) (s : St) (tl : List Value) (i : BitVec 32) (hr : Row w b t (s.vs ++ tl)) :
    Calls Tryz.prog 119 #[.pointer (some ⟨b, 0, none⟩), .int .u32 (wi i)] w fun e w' => e = .returned (.tuple #[]) ∧ Row w' b t ((rstep s i).vs ++ tl) ∧ w.grownBy w' (some b) := by
  obtain ⟨xa, xb, xc, xd, xe, xf, xg, xh⟩ := s
  have c0 : w.cell? ⟨b, 0, none⟩ = some (.int .u32 (wi xa)) := hr.cell rfl
  have c1 : w.cell? ⟨b, 1, none⟩ = some (.int .u32 (wi xb)) := hr.cell rfl
  have c2 : w.cell? ⟨b, 2, none⟩ = some (.int .u32 (wi xc)) := hr.cell rfl
  have c3 : w.cell? ⟨b, 3, none⟩ = some (.int .u32 (wi xd)) := hr.cell rfl
  have c4 : w.cell? ⟨b, 4, none⟩ = some (.int .u32 (wi xe)) := hr.cell rfl
  have c5 : w.cell? ⟨b, 5, none⟩ = some (.int .u32 (wi xf)) := hr.cell rfl
  have c6 : w.cell? ⟨b, 6, none⟩ = some (.int .u32 (wi xg)) := hr.cell rfl
  have c7 : w.cell? ⟨b, 7, none⟩ = some (.int .u32 (wi xh)) := hr.cell rfl
  go_enter Tryz.func119, Tryz.ntmps119
  go_wp2_with fail
  go_quiet (fail)
  go_wp2_with fail
  go_quiet (fail)
  go_wp2_with fail
  go_quiet ((go_at_call 123; exact quiet_as (S1_any _ xe) rfl))
  go_wp2_with fail
  refine (S0_any _ xa).mono ?_
  rintro e w1 ⟨rfl, rfl⟩
  go_wp2_with fail
  go_region_held3 (fun _ => True) (trivial)
    ((refine step_copy_to (by rfl) _ _ _ _ (by rfl) 109 Tryz.underlying152 Tryz.info34 (some ⟨b, 1, none⟩) (some ⟨b, 0, none⟩) 7 7 7 8 (by rfl) (by rfl) b 1 _ t hr [wv xa, wv xb, wv xc, wv xd, wv xe, wv xf, wv xg] (by rfl) (fun _ => ⟨rfl, _, rfl, hr.src 0 7⟩) (by simp [St.vs, St.ws]) (wv_one [xa, xb, xc, xd, xe, xf, xg]) 7 rfl ?_; intro w2 hr2 hg2))
  have hg : w.grownBy w2 (some b) := grown_drewN (grown_drew hg2)
  have hR : Row w2 b t ([wv xa, wv xa, wv xb, wv xc, wv xd, wv xe, wv xf, wv xg] ++ tl) := hr2
  clear hg2 hr2 c0 c1 c2 c3 c4 c5 c6 c7 hr
  have c4 : w2.cell? ⟨b, 4, none⟩ = some (.int .u32 (wi xd)) := hR.cell rfl
  have c0 : w2.cell? ⟨b, 0, none⟩ = some (.int .u32 (wi xa)) := hR.cell rfl
  have f4 := hR.frozen 4
  have f0 := hR.frozen 0
  go_wp2_with fail
  go_region
  go_wp2_with fail
  go_end0
  refine ⟨rfl, ?_, ?_⟩
  · have h := ((hR.set 4 (wv (xd + (xh + S1 xe + ch xe xf xg + i)))).set 0 (wv (xh + S1 xe + ch xe xf xg + i + (S0 xa + maj xa xb xc)))).drew
    simp only [bits_not, bits_and, bits_or, mod_wi, ofInt_sum, ofInt_wi]
    exact h
  · exact grown_to_drew (grown_trans (grown_trans hg (grown_set _ _ _ _) (.inl rfl)) (grown_set _ _ _ _) (.inl rfl))
end Go.Proofs.YtijmecplechhgaaGreatDoor
end

section
namespace Go.Proofs.YtijmecplechhgaaGreatDoor
open Go.RowKit Oct Sha

/-- A row of bytes that can be read, from a place on. -/
def Bts (w : World) (b o : Nat) (p : List Int) : Prop := ∀ j, j < p.length → w.cell? ⟨b, o + j, none⟩ = some (.int .u8 (p.getD j 0))
theorem Bts.below {w w' : World} {b o : Nat} {p : List Int} (h : Bts w b o p) (hlt : b < w.heap.size) (hb : Below w.heap.size w w') : Bts w' b o p := fun j hj => (hb.cell (p := ⟨b, o + j, none⟩) hlt).trans (h j hj)

theorem byt_at {p : List Int} (h : Byt p) (j : Nat) : 0 ≤ p.getD j 0 ∧ p.getD j 0 ≤ 255 := by
  by_cases hj : j < p.length
  · have : p.getD j 0 ∈ p := by simp [List.getD, List.getElem?_eq_getElem hj]
    exact h _ this
  · simp [List.getD, List.getElem?_eq_none (Nat.le_of_not_lt hj)]

def wz (n : Nat) : List Value := List.replicate n (wv 0)

theorem wz_at (p : List Int) (k : Nat) (hk : k < 64) : ((sch p k).map wv ++ wz (64 - k))[k]? = some (.int .u32 0) := by
  rw [List.getElem?_append_right (by simp [sch_len]), List.length_map, sch_len, Nat.sub_self]
  simp only [wz, List.getElem?_replicate]
  rw [if_pos (by omega)]
  rfl
theorem sch_set (p : List Int) (k : Nat) (hk : k < 64) : ((sch p k).map wv ++ wz (64 - k)).set k (wv (nxt p (sch p k))) = (sch p (k + 1)).map wv ++ wz (64 - (k + 1)) := by
  rw [List.set_append_right _ _ (by simp [sch_len]), List.length_map, sch_len, Nat.sub_self, sch, List.map_append, List.append_assoc]
  congr 1
  rw [show 64 - k = (64 - (k + 1)) + 1 by omega, wz, List.replicate_succ]
  rfl
theorem or4 (x0 x1 x2 x3 : Int) (y0 : 0 ≤ x0 ∧ x0 ≤ 255) (y1 : 0 ≤ x1 ∧ x1 ≤ 255) (y2 : 0 ≤ x2 ∧ x2 ≤ 255) (y3 : 0 ≤ x3 ∧ x3 ≤ 255) :
    bits .or .u32 (bits .or .u32 (bits .or .u32 (x0 * 16777216) (x1 * 65536)) (x2 * 256)) x3 = wi (BitVec.ofInt 32 (((x0 * 256 + x1) * 256 + x2) * 256 + x3)) := by
  have hk : ∀ n : Int, 0 ≤ n → n < 2 ^ 32 → IntKind.u32.wrap n = n := fun n h0 h1 => by rw [IntKind.wrap_u32]; omega
  rw [bits_join .u32 32 (by decide) hk 24 (x0 * 16777216) (x1 * 65536) (by omega) (by omega) (by omega) (by omega) (by omega) (by omega)]
  rw [bits_join .u32 32 (by decide) hk 16 (x0 * 16777216 + x1 * 65536) (x2 * 256) (by omega) (by omega) (by omega) (by omega) (by omega) (by omega)]
  rw [bits_join .u32 32 (by decide) hk 8 (x0 * 16777216 + x1 * 65536 + x2 * 256) x3 (by omega) (by omega) (by omega) (by omega) (by omega) (by omega)]
  rw [wi_ofInt _ (by omega) (by omega)]
  omega
theorem sch_at (p : List Int) (k j : Nat) (hj : j < k) : ((sch p k).map wv ++ wz (64 - k))[j]? = some (.int .u32 (wi ((sch p k).getD j 0))) := by
  have h : j < (sch p k).length := by rw [sch_len]; exact hj
  rw [List.getElem?_append_left (by simpa using h)]
  simp [List.getD, List.getElem?_eq_getElem h, wv]
theorem nxt_lo (p : List Int) (k : Nat) (hk : k < 16) : nxt p (sch p k) = wrd p k := by
  unfold nxt
  rw [sch_len, if_pos hk]
theorem nxt_hi (p : List Int) (k : Nat) (hk : 16 ≤ k) : nxt p (sch p k) = s1 ((sch p k).getD (k - 2) 0) + (sch p k).getD (k - 7) 0 + s0 ((sch p k).getD (k - 15) 0) + (sch p k).getD (k - 16) 0 := by
  unfold nxt
  rw [sch_len, if_neg (by omega)]
theorem below_set {B : Nat} {w wr : World} (h : Below B w wr) (hB : B ≤ w.heap.size) {b : Nat} (hb : B ≤ b) (j : Nat) (v : Value) : Below B w (wr.setCell ⟨b, j, none⟩ v) :=
  h.trans (grown_below (grown_set wr b j v) (Nat.le_trans hB h.size) (fun k hk => by cases hk; exact hb))
theorem below_setR {B : Nat} {w wr : World} (h : Below B w wr) (hB : B ≤ w.heap.size) {b : Nat} (hb : B ≤ b) (cs : Array Value) : Below B w (wr.setRow b cs) :=
  h.trans (grown_below (grown_setRow wr b cs) (Nat.le_trans hB h.size) (fun k hk => by cases hk; exact hb))
theorem Tryz.und45 : Tryz.prog.underlying 132 = some (.array 64 109) := by kernel_rfl
theorem Tryz.siz45 : (Tryz.prog.info? 132).map (·.size) = some 64 := by kernel_rfl
theorem run_ix (b i : Nat) (hi : i < 64) (u : World) : (Instr.indexAt 132 (.pointer (some ⟨b, 0, none⟩)) (.int .i64 (i : Int))).run Tryz.prog u = .ok (.pointer (some ⟨b, i, none⟩)) u := by
  have ht : Tryz.prog.underlying 132 = some (.array (Tryz.prog.arrayLen 132) (Tryz.prog.elem 132)) := by kernel_rfl
  have hn : Tryz.prog.arrayLen 132 = 64 := by kernel_rfl
  have hs : (sizeOf (Tryz.prog.elem 132)).run Tryz.prog u = .ok 1 u := by
    rw [show Tryz.prog.elem 132 = 109 by kernel_rfl]
    cases hq : Tryz.prog.info? 109 with
    | none => have := Tryz.info34; simp [hq] at this
    | some i0 =>
      have h1 := Tryz.info34
      simp only [hq, Option.map_some, Option.some.injEq] at h1
      simp [sizeOf, typeInfo, hq, h1]
  rw [run_indexAt_array u 132 _ .i64 i ht, hn, if_pos (by omega), hs]
  simp only [Result.andThen, Addr.add_mid]
  simp
theorem run_sl (b o l h : Nat) (hlh : l ≤ h) (hh : h ≤ 64) (hl : l < 64) (u : World) :
    (Instr.sliceAt 127 (.pointer (some ⟨b, o, none⟩)) (some (.int .i64 (l : Int))) (some (.int .i64 (h : Int))) none).run Tryz.prog u = .ok (.slice (some ⟨b, o + l, none⟩) (h - l) (64 - l)) u := by
  have ht : Tryz.prog.underlying 127 = some (.array (Tryz.prog.arrayLen 127) (Tryz.prog.elem 127)) := by kernel_rfl
  have hn : Tryz.prog.arrayLen 127 = 64 := by kernel_rfl
  have hs : (sizeOf (Tryz.prog.elem 127)).run Tryz.prog u = .ok 1 u := by
    rw [show Tryz.prog.elem 127 = 5 by kernel_rfl]
    obtain ⟨i0, hi, hz0, hz1, hz2⟩ := info_parts Tryz.info5
    simp [sizeOf, typeInfo, hi, hz1]
  rw [run_sliceAt_array_lh u 127 _ ht .i64 .i64 l h (by omega) (by omega) (by rw [hn]; omega), hs, hn]
  simp only [Result.andThen, slicedAt]
  rw [if_neg (by omega), Addr.add_mid]
  simp
theorem run_sl_l (b o l : Nat) (hl : l < 64) (u : World) :
    (Instr.sliceAt 127 (.pointer (some ⟨b, o, none⟩)) (some (.int .i64 (l : Int))) none none).run Tryz.prog u = .ok (.slice (some ⟨b, o + l, none⟩) (64 - l) (64 - l)) u := by
  have ht : Tryz.prog.underlying 127 = some (.array (Tryz.prog.arrayLen 127) (Tryz.prog.elem 127)) := by kernel_rfl
  have hn : Tryz.prog.arrayLen 127 = 64 := by kernel_rfl
  have hs : (sizeOf (Tryz.prog.elem 127)).run Tryz.prog u = .ok 1 u := by
    rw [show Tryz.prog.elem 127 = 5 by kernel_rfl]
    obtain ⟨i0, hi, hz0, hz1, hz2⟩ := info_parts Tryz.info5
    simp [sizeOf, typeInfo, hi, hz1]
  rw [run_sliceAt_array_l u 127 _ ht .i64 l (by omega) (by rw [hn]; omega), hs, hn]
  simp only [Result.andThen, slicedAt]
  rw [if_neg (by omega), Addr.add_mid]
  simp

set_option maxHeartbeats 1000000 in
theorem spread_any (w : World) (b o : Nat) (p : List Int) (hp : p.length = 64) (hb : Byt p) (hr : Bts w b o p) (hlt : b < w.heap.size) :
    Calls Tryz.prog 118 #[.pointer (some ⟨b, o, none⟩)] w fun e w' => e = .returned (.agg ((sch p 64).map wv).toArray) ∧ Below w.heap.size w w' := by
  obtain ⟨X, hX⟩ : ∃ X, X = (sch p 64).map wv := ⟨_, rfl⟩
  rw [← hX]
  have HX := (show Hid (X = (sch p 64).map wv) from hX)
  clear hX
  go_enter Tryz.func118, Tryz.ntmps118
  go_wp2_with fail
  go_loopw [7] (fun i wr => ∃ k : Nat, k ≤ 16 ∧ i = .int .i64 k ∧ Row wr (w.heap.size + 1) 132 ((sch p k).map wv ++ wz (64 - k)) ∧ Row wr w.heap.size 132 (wz 64) ∧ Below w.heap.size w wr) (fun i _ => 16 - (intOf i).toNat)
  case atStart => exact ⟨0, by omega, rfl, heap_alloc2_new w _ _, heap_alloc2_old w _ _, (below_alloc w _).trans ((Below.refl _ _).alloc (by simp) _)⟩
  case round =>
    obtain ⟨k, hk, rfl, hR, hZ, hbel⟩ := hrel
    have hrr := hr.below hlt hbel
    by_cases hk16 : k < 16
    · obtain ⟨x0, hx0⟩ : ∃ x, x = p.getD (4 * k) 0 := ⟨_, rfl⟩
      obtain ⟨x1, hx1⟩ : ∃ x, x = p.getD (4 * k + 1) 0 := ⟨_, rfl⟩
      obtain ⟨x2, hx2⟩ : ∃ x, x = p.getD (4 * k + 2) 0 := ⟨_, rfl⟩
      obtain ⟨x3, hx3⟩ : ∃ x, x = p.getD (4 * k + 3) 0 := ⟨_, rfl⟩
      have y0 : 0 ≤ x0 ∧ x0 ≤ 255 := hx0 ▸ byt_at hb _
      have y1 : 0 ≤ x1 ∧ x1 ≤ 255 := hx1 ▸ byt_at hb _
      have y2 : 0 ≤ x2 ∧ x2 ≤ 255 := hx2 ▸ byt_at hb _
      have y3 : 0 ≤ x3 ∧ x3 ≤ 255 := hx3 ▸ byt_at hb _
      have c0 : wr.cell? ⟨b, o + 4 * k, none⟩ = some (.int .u8 x0) := hx0 ▸ hrr (4 * k) (by omega)
      have c1 : wr.cell? ⟨b, o + 4 * k + 1, none⟩ = some (.int .u8 x1) := hx1 ▸ hrr (4 * k + 1) (by omega)
      have c2 : wr.cell? ⟨b, o + 4 * k + 2, none⟩ = some (.int .u8 x2) := hx2 ▸ hrr (4 * k + 2) (by omega)
      have c3 : wr.cell? ⟨b, o + 4 * k + 3, none⟩ = some (.int .u8 x3) := hx3 ▸ hrr (4 * k + 3) (by omega)
      have HW := (show Hid (wrd p k = BitVec.ofInt 32 (((x0 * 256 + x1) * 256 + x2) * 256 + x3)) by rw [hx0, hx1, hx2, hx3]; rfl)
      clear hx0 hx1 hx2 hx3 hrr
      have hsl : ∀ u : World, (Instr.sliceAt 127 (.pointer (some ⟨b, o, none⟩)) (some (.int .i64 (4 * (k : Int)))) (some (.int .i64 (4 * (k : Int) + 4))) none).run Tryz.prog u = .ok (.slice (some ⟨b, o + 4 * k, none⟩) 4 (64 - 4 * k)) u := by
        intro u
        have := run_sl b o (4 * k) (4 * k + 4) (by omega) (by omega) (by omega) u
        rwa [show 4 * k + 4 - 4 * k = 4 by omega] at this
      have ck : wr.cell? ⟨w.heap.size + 1, k, none⟩ = some (.int .u32 0) := hR.cell (by exact wz_at p k (by omega))
      have fk := hR.frozen k
      go_wp2_with fail
      go_region
      go_wp2_with fail
      go_roundw
      case rel =>
        rw [or4 x0 x1 x2 x3 y0 y1 y2 y3, ← HW.out, ← nxt_lo p k hk16]
        exact ⟨k + 1, by omega, by go_num, sch_set p k (by omega) ▸ (hR.set k _).drew, (hZ.grown (grown_set _ _ _ _) (by simp)).drew, (below_set hbel (Nat.le_refl _) (Nat.le_succ _) _ _).drew⟩
      case measure => simp [intOf]; omega
    · have hR16 : Row wr (w.heap.size + 1) 132 ((sch p 16).map wv ++ wz (64 - 16)) := (show k = 16 by omega) ▸ hR
      clear hr hlt hb hp hR hrr
      go_wp2_with fail
      go_loopw [6] (fun i wr => ∃ k : Nat, 16 ≤ k ∧ k ≤ 64 ∧ i = .int .i64 k ∧ Row wr (w.heap.size + 1) 132 ((sch p k).map wv ++ wz (64 - k)) ∧ Row wr w.heap.size 132 (wz 64) ∧ Below w.heap.size w wr) (fun i _ => 64 - (intOf i).toNat)
      case atStart => exact ⟨16, by omega, by omega, rfl, hR16, hZ, hbel⟩
      case round =>
        clear hR16 hZ hbel
        rename Nat => k0
        obtain ⟨k, hk, hk', rfl, hR, hZ, hbel⟩ := hrel
        by_cases hk64 : k < 64
        · obtain ⟨m2, hm2⟩ : ∃ m : Nat, (k : Int) - 2 = m := ⟨k - 2, by omega⟩
          obtain ⟨m7, hm7⟩ : ∃ m : Nat, (k : Int) - 7 = m := ⟨k - 7, by omega⟩
          obtain ⟨m15, hm15⟩ : ∃ m : Nat, (k : Int) - 15 = m := ⟨k - 15, by omega⟩
          obtain ⟨m16, hm16⟩ : ∃ m : Nat, (k : Int) - 16 = m := ⟨k - 16, by omega⟩
          obtain ⟨y2, hy2⟩ : ∃ y, y = (sch p k).getD (k - 2) 0 := ⟨_, rfl⟩
          obtain ⟨y7, hy7⟩ : ∃ y, y = (sch p k).getD (k - 7) 0 := ⟨_, rfl⟩
          obtain ⟨y15, hy15⟩ : ∃ y, y = (sch p k).getD (k - 15) 0 := ⟨_, rfl⟩
          obtain ⟨y16, hy16⟩ : ∃ y, y = (sch p k).getD (k - 16) 0 := ⟨_, rfl⟩
          have c2 : wr.cell? ⟨w.heap.size + 1, m2, none⟩ = some (.int .u32 (wi y2)) := by rw [hy2, show k - 2 = m2 by omega]; exact hR.cell (sch_at p k m2 (by omega))
          have c7 : wr.cell? ⟨w.heap.size + 1, m7, none⟩ = some (.int .u32 (wi y7)) := by rw [hy7, show k - 7 = m7 by omega]; exact hR.cell (sch_at p k m7 (by omega))
          have c15 : wr.cell? ⟨w.heap.size + 1, m15, none⟩ = some (.int .u32 (wi y15)) := by rw [hy15, show k - 15 = m15 by omega]; exact hR.cell (sch_at p k m15 (by omega))
          have c16 : wr.cell? ⟨w.heap.size + 1, m16, none⟩ = some (.int .u32 (wi y16)) := by rw [hy16, show k - 16 = m16 by omega]; exact hR.cell (sch_at p k m16 (by omega))
          have HN := (show Hid (nxt p (sch p k) = s1 y2 + y7 + s0 y15 + y16) by rw [hy2, hy7, hy15, hy16]; exact nxt_hi p k hk)
          clear hy2 hy7 hy15 hy16
          have ck : wr.cell? ⟨w.heap.size + 1, k, none⟩ = some (.int .u32 0) := hR.cell (wz_at p k (by omega))
          have fk := hR.frozen k
          have q2 : IntKind.i64.wrap (m2 : Int) = m2 := by rw [IntKind.wrap_i64]; omega
          have i2 : ∀ u : World, (Instr.indexAt 132 (.pointer (some ⟨w.heap.size + 1, 0, none⟩)) (.int .i64 (m2 : Int))).run Tryz.prog u = .ok (.pointer (some ⟨w.heap.size + 1, m2, none⟩)) u := run_ix (w.heap.size + 1) m2 (by omega)
          have q7 : IntKind.i64.wrap (m7 : Int) = m7 := by rw [IntKind.wrap_i64]; omega
          have i7 : ∀ u : World, (Instr.indexAt 132 (.pointer (some ⟨w.heap.size + 1, 0, none⟩)) (.int .i64 (m7 : Int))).run Tryz.prog u = .ok (.pointer (some ⟨w.heap.size + 1, m7, none⟩)) u := run_ix (w.heap.size + 1) m7 (by omega)
          have q15 : IntKind.i64.wrap (m15 : Int) = m15 := by rw [IntKind.wrap_i64]; omega
          have i15 : ∀ u : World, (Instr.indexAt 132 (.pointer (some ⟨w.heap.size + 1, 0, none⟩)) (.int .i64 (m15 : Int))).run Tryz.prog u = .ok (.pointer (some ⟨w.heap.size + 1, m15, none⟩)) u := run_ix (w.heap.size + 1) m15 (by omega)
          have q16 : IntKind.i64.wrap (m16 : Int) = m16 := by rw [IntKind.wrap_i64]; omega
          have i16 : ∀ u : World, (Instr.indexAt 132 (.pointer (some ⟨w.heap.size + 1, 0, none⟩)) (.int .i64 (m16 : Int))).run Tryz.prog u = .ok (.pointer (some ⟨w.heap.size + 1, m16, none⟩)) u := run_ix (w.heap.size + 1) m16 (by omega)
          have z2 : (m2 : Int) < 64 := by omega
          have z7 : (m7 : Int) < 64 := by omega
          have z15 : (m15 : Int) < 64 := by omega
          have z16 : (m16 : Int) < 64 := by omega
          have ik : ∀ u : World, (Instr.indexAt 132 (.pointer (some ⟨w.heap.size + 1, 0, none⟩)) (.int .i64 (k : Int))).run Tryz.prog u = .ok (.pointer (some ⟨w.heap.size + 1, k, none⟩)) u := run_ix (w.heap.size + 1) k (by omega)
          have zk : (k : Int) < 64 := by omega
          have n2 : m2 ≠ k := by omega
          have n7 : m7 ≠ k := by omega
          have n15 : m15 ≠ k := by omega
          have n16 : m16 ≠ k := by omega
          go_wp2_with fail
          have HK := (show Hid (∀ v : Value, (fun w' : World => w'.cell? ⟨w.heap.size + 1, m2, none⟩ = some (.int .u32 (wi y2)) ∧ w'.cell? ⟨w.heap.size + 1, m7, none⟩ = some (.int .u32 (wi y7)) ∧ w'.cell? ⟨w.heap.size + 1, m15, none⟩ = some (.int .u32 (wi y15)) ∧ w'.cell? ⟨w.heap.size + 1, m16, none⟩ = some (.int .u32 (wi y16))) (wr.setCell ⟨w.heap.size + 1, k, none⟩ v).drew) from fun v => ⟨cell_set_ned c2 n2, cell_set_ned c7 n7, cell_set_ned c15 n15, cell_set_ned c16 n16⟩)
          go_region_held3 (fun w' => w'.cell? ⟨w.heap.size + 1, m2, none⟩ = some (.int .u32 (wi y2)) ∧ w'.cell? ⟨w.heap.size + 1, m7, none⟩ = some (.int .u32 (wi y7)) ∧ w'.cell? ⟨w.heap.size + 1, m15, none⟩ = some (.int .u32 (wi y15)) ∧ w'.cell? ⟨w.heap.size + 1, m16, none⟩ = some (.int .u32 (wi y16)))
            (first | exact HK.out _ | go_keep)
            (first
              | (go_at_call 121; refine (small1_any _ y2).mono ?_; rintro e w' ⟨rfl, rfl⟩)
              | (go_at_call 122; refine (small0_any _ y15).mono ?_; rintro e w' ⟨rfl, rfl⟩))
          go_wp2_with fail
          go_roundw
          case rel =>
            rw [add_wi, add_wi, add_wi, ← HN.out]
            exact ⟨k + 1, by omega, by omega, by go_num, sch_set p k (by omega) ▸ (hR.set k _).drew, (hZ.grown (grown_set _ _ _ _) (by simp)).drew, (below_set hbel (Nat.le_refl _) (Nat.le_succ _) _ _).drew⟩
          case measure => simp [intOf]; omega
        · obtain rfl : k = 64 := by omega
          clear hk hk' hk64
          have hl : X.length = 64 := by rw [HX.out, List.length_map, sch_len]
          have hR' : Row wr (w.heap.size + 1) 132 X := by rw [HX.out]; simpa [wz] using hR
          have ho : ∀ v ∈ X, v.oneCell' = true := by rw [HX.out]; exact wv_one _
          clear hR
          have hs : (Tryz.prog.info? 132).map (·.size) = some X.length := by rw [hl]; exact Tryz.siz45
          have hle : (wz 64).length = X.length := by rw [hl]; rfl
          go_wp2_with (first
            | (refine wl_load (by rfl) 132 _ (by rfl) (w.heap.size + 1) (by rfl) _ X hR' _ Tryz.und45 rfl hs ?_)
            | (refine wl_store (by rfl) 132 _ _ (by rfl) w.heap.size X (by rfl) (by rfl) _ (wz 64) hZ hle hs ho ?_; intro w2 hR2 hg2))
          exact bodyPost_ret (v := .agg X.toArray) (results_cell_row rfl _ _ w.heap.size _ X.toArray (0, 0) _ (by rfl) hR2.out Tryz.und45 rfl (by simpa using hs)) rfl ⟨rfl, hbel.trans (grown_below hg2 hbel.size (fun k hk => by cases hk; exact Nat.le_refl _))⟩
end Go.Proofs.YtijmecplechhgaaGreatDoor
end

section
namespace Go.Proofs.YtijmecplechhgaaGreatDoor
open Go.RowKit Oct Sha

/-- The constants' variable. -/
def Tab (w : World) : Prop := ∀ t, t < 64 → w.cell? ⟨0, t, none⟩ = some (.int .u32 (wi (kk.getD t 0)))
theorem Tab.keep {w w' : World} (h : Tab w) (h0 : w'.heap[0]? = w.heap[0]?) : Tab w' := fun t ht => (World.cell?_of_block (w := w) (w' := w') (a := ⟨0, t, none⟩) h0).trans (h t ht)
theorem Tab.pos {w : World} (h : Tab w) : 0 < w.heap.size := World.block_lt_of_cell? w _ (h 0 (by decide))
theorem Tab.below {w w' : World} (h : Tab w) (hb : Below w.heap.size w w') : Tab w' := h.keep (hb.block 0 h.pos)
theorem Tab.grown {w w' : World} {r : Option Nat} (h : Tab w) (hg : w.grownBy w' r) (hr : r ≠ some 0) : Tab w' := h.keep (hg.block 0 h.pos (fun e => hr e.symm))

theorem run_ixv {t e : TypeId} {n : Nat} (hu : Tryz.prog.underlying t = some (.array n e)) (he : (Tryz.prog.info? e).map (·.size) = some 1) (hg : Tryz.prog.underlying e = some (.int .u32)) (ws : List (BitVec 32)) (i : Nat) (hi : i < n) (hl : ws.length = n) (u : World) :
    (Instr.index t (.agg (ws.map wv).toArray) (.int .i64 (i : Int))).run Tryz.prog u = .ok (.int .u32 (wi (ws.getD i 0))) u := by
  have h : 0 ≤ (i : Int) ∧ (i : Int) < (n : Int) := by omega
  cases hq : Tryz.prog.info? e with
  | none => simp [hq] at he
  | some i0 =>
    simp only [hq, Option.map_some, Option.some.injEq] at he
    have hx : i < ws.length := by omega
    simp [Instr.index, run_underlying hu, asIntOf, h, hi, part, isAgg, run_underlying hg, sizeOf, typeInfo, hq, he, wv, List.getElem?_eq_getElem hx]

theorem Tryz.und38 : Tryz.prog.underlying 125 = some (.array 8 109) := by kernel_rfl
theorem run_ix8 (b i : Nat) (hi : i < 8) (u : World) : (Instr.indexAt 125 (.pointer (some ⟨b, 0, none⟩)) (.int .i64 (i : Int))).run Tryz.prog u = .ok (.pointer (some ⟨b, i, none⟩)) u := by
  have ht : Tryz.prog.underlying 125 = some (.array (Tryz.prog.arrayLen 125) (Tryz.prog.elem 125)) := by kernel_rfl
  have hn : Tryz.prog.arrayLen 125 = 8 := by kernel_rfl
  have hs : (sizeOf (Tryz.prog.elem 125)).run Tryz.prog u = .ok 1 u := by
    rw [show Tryz.prog.elem 125 = 109 by kernel_rfl]
    cases hq : Tryz.prog.info? 109 with
    | none => have := Tryz.info34; simp [hq] at this
    | some i0 =>
      have h1 := Tryz.info34
      simp only [hq, Option.map_some, Option.some.injEq] at h1
      simp [sizeOf, typeInfo, hq, h1]
  rw [run_indexAt_array u 125 _ .i64 i ht, hn, if_pos (by omega), hs]
  simp only [Result.andThen, Addr.add_mid]
  simp
/-- The first k words of a state raised by those of another. -/
def raised (s v : St) (k : Nat) : List (BitVec 32) := (s.add v).ws.take k ++ s.ws.drop k
theorem raised_at (s v : St) (k : Nat) (hk : k < 8) : (raised s v k)[k]? = some (s.ws.getD k 0) := by
  rcases (by omega : k = 0 ∨ k = 1 ∨ k = 2 ∨ k = 3 ∨ k = 4 ∨ k = 5 ∨ k = 6 ∨ k = 7) with rfl | rfl | rfl | rfl | rfl | rfl | rfl | rfl <;> rfl
theorem raised_set (s v : St) (k : Nat) (hk : k < 8) : (raised s v k).set k (s.ws.getD k 0 + v.ws.getD k 0) = raised s v (k + 1) := by
  rcases (by omega : k = 0 ∨ k = 1 ∨ k = 2 ∨ k = 3 ∨ k = 4 ∨ k = 5 ∨ k = 6 ∨ k = 7) with rfl | rfl | rfl | rfl | rfl | rfl | rfl | rfl <;> rfl
theorem raised_len (s v : St) (k : Nat) (hk : k ≤ 8) : (raised s v k).length = 8 := by
  simp only [raised, List.length_append, List.length_take, List.length_drop, St.ws_len]
  omega
theorem raised_set' (s v : St) (k : Nat) (hk : k < 8) (tl : List Value) : ((raised s v k).map wv ++ tl).set k (.int .u32 (wi (s.ws.getD k 0 + v.ws.getD k 0))) = (raised s v (k + 1)).map wv ++ tl := by
  rw [List.set_append_left _ _ (by rw [List.length_map, raised_len _ _ _ (by omega)]; exact hk), ← raised_set s v k hk, List.map_set]
  rfl

set_option maxHeartbeats 1000000 in
theorem block_any (w : World) (b : Nat) (t : TypeId) (s : St) (tl : List Value) (hr : Row w b t (s.vs ++ tl)) (ht : Tab w) (cb co : Nat) (p : List Int) (hp : p.length = 64) (hb : Byt p) (hbt : Bts w cb co p) (hcb : cb < w.heap.size) :
    Calls Tryz.prog 112 #[.pointer (some ⟨b, 0, none⟩), .pointer (some ⟨cb, co, none⟩)] w fun e w' => e = .returned (.tuple #[]) ∧ Row w' b t ((blk s p).vs ++ tl) ∧ w.grownBy w' (some b) := by
  have hblt := hr.lt
  have c0 : w.cell? ⟨b, 0, none⟩ = some (.int .u32 (wi s.a)) := hr.cell rfl
  have c1 : w.cell? ⟨b, 1, none⟩ = some (.int .u32 (wi s.b)) := hr.cell rfl
  have c2 : w.cell? ⟨b, 2, none⟩ = some (.int .u32 (wi s.c)) := hr.cell rfl
  have c3 : w.cell? ⟨b, 3, none⟩ = some (.int .u32 (wi s.d)) := hr.cell rfl
  have c4 : w.cell? ⟨b, 4, none⟩ = some (.int .u32 (wi s.e)) := hr.cell rfl
  have c5 : w.cell? ⟨b, 5, none⟩ = some (.int .u32 (wi s.f)) := hr.cell rfl
  have c6 : w.cell? ⟨b, 6, none⟩ = some (.int .u32 (wi s.g)) := hr.cell rfl
  have c7 : w.cell? ⟨b, 7, none⟩ = some (.int .u32 (wi s.h)) := hr.cell rfl
  obtain ⟨ws, hws⟩ : ∃ ws, ws = sch p 64 := ⟨_, rfl⟩
  obtain ⟨V, hV⟩ : ∃ V, V = rnd ws s 64 := ⟨_, rfl⟩
  have hwl : ws.length = 64 := by rw [hws, sch_len]
  rw [show blk s p = s.add V by rw [hV, hws]; rfl]
  have HSP := (show Hid (∀ u : World, Bts u cb co p → cb < u.heap.size → Calls Tryz.prog 118 #[.pointer (some ⟨cb, co, none⟩)] u fun e w' => e = .returned (.agg (ws.map wv).toArray) ∧ Below u.heap.size u w') by
    rw [hws]
    exact fun u h1 h2 => spread_any u cb co p hp hb h1 h2)
  have HL := (show Hid (ws.length = 64) from hwl)
  have HV := (show Hid (V = rnd ws s 64) from hV)
  clear hwl hws hV
  go_enter Tryz.func112, Tryz.ntmps112
  go_wp2_with fail
  refine (HSP.out _ (hbt.below hcb (below_alloc w _)) (by simp; omega)).mono ?_
  rintro e w1 ⟨rfl, hb1⟩
  have hrN : Row w1 w.heap.size 125 s.vs := (Row.new w 125 s.vs).below hb1
  have hb1' := below_and (below_alloc w _) (Nat.le_refl _) hb1
  clear hb1 c0 c1 c2 c3 c4 c5 c6 c7 hbt hp hb hcb HSP
  go_wp2_with fail
  go_loopw [14] (fun i wr => ∃ k : Nat, k ≤ 64 ∧ i = .int .i64 k ∧ Row wr w.heap.size 125 (rnd ws s k).vs ∧ Below w.heap.size w wr) (fun i _ => 64 - (intOf i).toNat)
  case atStart => exact ⟨0, by omega, rfl, hrN, hb1'⟩
  case round =>
    obtain ⟨k, hk, rfl, hrk, hbel⟩ := hrel
    by_cases hk64 : k < 64
    · have hix : ∀ u : World, (Instr.index 132 (.agg (ws.map wv).toArray) (.int .i64 (k : Int))).run Tryz.prog u = .ok (.int .u32 (wi (ws.getD k 0))) u := run_ixv Tryz.und45 Tryz.info34 Tryz.underlying109 ws k hk64 HL.out
      have hik : ∀ u : World, (Instr.indexAt 132 (.pointer (some ⟨0, 0, none⟩)) (.int .i64 (k : Int))).run Tryz.prog u = .ok (.pointer (some ⟨0, k, none⟩)) u := run_ix 0 k hk64
      have hck : wr.cell? ⟨0, k, none⟩ = some (.int .u32 (wi (kk.getD k 0))) := ht.below hbel k hk64
      go_wp2_with fail
      rw [add_wi]
      refine (step_any wr w.heap.size 125 (rnd ws s k) [] (kk.getD k 0 + ws.getD k 0) (by rw [List.append_nil]; exact hrk)).mono ?_
      rintro e w2 ⟨rfl, hr2, hg2⟩
      rw [List.append_nil] at hr2
      have HR2 := (show Hid (Row w2 w.heap.size 125 (rnd ws s (k + 1)).vs) from hr2)
      have hb2 := hbel.trans (grown_below hg2 hbel.size (fun k hk => by cases hk; exact Nat.le_refl _))
      clear hr2 hg2 hrk hck hbel
      go_wp2_with fail
      go_roundw
      case rel => exact ⟨k + 1, by omega, by go_num, HR2, hb2⟩
      case measure => simp [intOf]; omega
    · have hrV : Row wr w.heap.size 125 V.vs := by rw [HV.out, show 64 = k by omega]; exact hrk
      have c0 : wr.cell? ⟨w.heap.size, 0, none⟩ = some (.int .u32 (wi V.a)) := hrV.cell rfl
      have c1 : wr.cell? ⟨w.heap.size, 1, none⟩ = some (.int .u32 (wi V.b)) := hrV.cell rfl
      have c2 : wr.cell? ⟨w.heap.size, 2, none⟩ = some (.int .u32 (wi V.c)) := hrV.cell rfl
      have c3 : wr.cell? ⟨w.heap.size, 3, none⟩ = some (.int .u32 (wi V.d)) := hrV.cell rfl
      have c4 : wr.cell? ⟨w.heap.size, 4, none⟩ = some (.int .u32 (wi V.e)) := hrV.cell rfl
      have c5 : wr.cell? ⟨w.heap.size, 5, none⟩ = some (.int .u32 (wi V.f)) := hrV.cell rfl
      have c6 : wr.cell? ⟨w.heap.size, 6, none⟩ = some (.int .u32 (wi V.g)) := hrV.cell rfl
      have c7 : wr.cell? ⟨w.heap.size, 7, none⟩ = some (.int .u32 (wi V.h)) := hrV.cell rfl
      have hrb := hr.below hbel
      have hgb := grown_of_below hbel (some b)
      clear hrk hrV HV HL ht hb1' hrN
      go_wp2_with fail
      go_loopw [26] (fun i wr => ∃ j : Nat, j ≤ 8 ∧ i = .int .i64 j ∧ Row wr b t ((raised s V j).map wv ++ tl) ∧ w.grownBy wr (some b)) (fun i _ => 8 - (intOf i).toNat)
      case atStart => exact ⟨0, by omega, rfl, hrb, hgb⟩
      case round =>
        clear hrb hgb c0 c1 c2 c3 c4 c5 c6 c7 hr hbel
        obtain ⟨j, hj, rfl, hrj, hgj⟩ := hrel
        by_cases hj8 : j < 8
        · have hix : ∀ u : World, (Instr.index 125 (.agg #[.int .u32 (wi V.a), .int .u32 (wi V.b), .int .u32 (wi V.c), .int .u32 (wi V.d), .int .u32 (wi V.e), .int .u32 (wi V.f), .int .u32 (wi V.g), .int .u32 (wi V.h)]) (.int .i64 (j : Int))).run Tryz.prog u = .ok (.int .u32 (wi (V.ws.getD j 0))) u := run_ixv Tryz.und38 Tryz.info34 Tryz.underlying109 V.ws j hj8 rfl
          have hik : ∀ u : World, (Instr.indexAt 125 (.pointer (some ⟨b, 0, none⟩)) (.int .i64 (j : Int))).run Tryz.prog u = .ok (.pointer (some ⟨b, j, none⟩)) u := run_ix8 b j hj8
          have hcj : wr.cell? ⟨b, j, none⟩ = some (.int .u32 (wi (s.ws.getD j 0))) := hrj.cell (by rw [List.getElem?_append_left (by rw [List.length_map, raised_len _ _ _ (by omega)]; exact hj8), List.getElem?_map, raised_at s V j hj8]; rfl)
          have hfj := hrj.frozen j
          go_wp2_with fail
          go_region
          go_wp2_with fail
          go_roundw
          case rel =>
            rw [add_wi]
            exact ⟨j + 1, by omega, by go_num, raised_set' s V j hj8 tl ▸ (hrj.set j _).drew, grown_to_drew (grown_trans hgj (grown_set _ _ _ _) (.inl rfl))⟩
          case measure => simp [intOf]; omega
        · have hrf : Row wr b t ((s.add V).vs ++ tl) := by
            rw [show j = 8 by omega] at hrj
            exact hrj
          go_wp2_with fail
          go_end0
          exact ⟨rfl, hrf, hgj⟩
end Go.Proofs.YtijmecplechhgaaGreatDoor
end
