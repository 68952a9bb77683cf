/- The document's own answer for layer 3: what is signed, signatures, digests. -/
import Derived.Test.YtgbfmccecnfooaaGreatDoorCLAV
import Derived.Test.YtgbfmccecnfooaaGreatDoorCLAG
import Derived.Test.YtgbfmccecnfooaaGreatDoorCLAS
namespace Go.Proofs.YtgbfmccecnfooaaGreatDoor
section
open Go.RowKit Oct Sha
theorem Tryz.und35 : Tryz.prog.underlying 192 = some (.array 8 143) := by kernel_rfl
theorem Tryz.siz35 : (Tryz.prog.info? 192).map (·.size) = some 8 := by kernel_rfl
theorem run_ix8' (b i : Nat) (hi : i < 8) (u : World) : (Instr.indexAt 192 (.pointer (some ⟨b, 0, none⟩)) (.int .i64 (i : Int))).run Tryz.prog u = .ok (.pointer (some ⟨b, i, none⟩)) u := by
  have ht : Tryz.prog.underlying 192 = some (.array (Tryz.prog.arrayLen 192) (Tryz.prog.elem 192)) := by kernel_rfl
  have hn : Tryz.prog.arrayLen 192 = 8 := by kernel_rfl
  have hs : (sizeOf (Tryz.prog.elem 192)).run Tryz.prog u = .ok 1 u := by
    rw [show Tryz.prog.elem 192 = 143 by kernel_rfl]
    cases hq : Tryz.prog.info? 143 with
    | none => have := Tryz.info34; simp [hq] at this
    | some i0 =>
      have h1 := Tryz.info34
      simp only [hq, Option.map_some, Option.some.injEq] at h1
      simp [sizeOf, typeInfo, hq, h1]
  rw [run_indexAt_array u 192 _ .i64 i ht, hn, if_pos (by omega), hs]
  simp only [Result.andThen, Addr.add_mid]
  simp
theorem eight_one (a b c d e f g h : Int) : ∀ v ∈ [Value.int .u32 a, .int .u32 b, .int .u32 c, .int .u32 d, .int .u32 e, .int .u32 f, .int .u32 g, .int .u32 h], v.oneCell' = true := by
  intro v hv
  simp only [List.mem_cons, List.not_mem_nil, or_false] at hv
  rcases hv with rfl | rfl | rfl | rfl | rfl | rfl | rfl | rfl <;> rfl
theorem rstep_two (V : St) (y x : BitVec 32) : (rstep V (y + x)).vs = [.int .u32 (wi (V.h + (rotr V.e 6 ^^^ rotr V.e 11 ^^^ rotr V.e 25) + (V.e &&& V.f ||| ~~~V.e &&& V.g) + y + x + ((rotr V.a 2 ^^^ rotr V.a 13 ^^^ rotr V.a 22) + (V.a &&& V.b ||| V.a &&& V.c ||| V.b &&& V.c)))), .int .u32 (wi V.a), .int .u32 (wi V.b), .int .u32 (wi V.c),
    .int .u32 (wi (V.d + (V.h + (rotr V.e 6 ^^^ rotr V.e 11 ^^^ rotr V.e 25) + (V.e &&& V.f ||| ~~~V.e &&& V.g) + y + x))), .int .u32 (wi V.e), .int .u32 (wi V.f), .int .u32 (wi V.g)] := by
  have e : V.h + S1 V.e + ch V.e V.f V.g + (y + x) = V.h + S1 V.e + ch V.e V.f V.g + y + x := (BitVec.add_assoc _ _ _).symm
  unfold rstep
  dsimp only
  rw [e]
  rfl
def zero8 : St := ⟨0, 0, 0, 0, 0, 0, 0, 0⟩
set_option maxRecDepth 10000 in
set_option maxHeartbeats 2000000 in
theorem refBlock_any (w : World) (s : St) (v : Value) (p : List Int) (hrd : Rd w v p) (hp : p.length = 64) :
    Calls Tryz.prog 169 #[.agg s.vs.toArray, v] w fun e w' => e = .returned (.agg (blk s p).vs.toArray) ∧ Below w.heap.size w w' := by
  have le := Nat.le_refl w.heap.size
  obtain ⟨ao, cap, rfl, hcap⟩ := hrd.form
  rw [hp] at hrd ⊢
  obtain ⟨ws, hws⟩ : ∃ ws, ws = sch p 64 := ⟨_, rfl⟩
  obtain ⟨Vf, hVf⟩ : ∃ V, V = rnd ws s 64 := ⟨_, rfl⟩
  have hwl : ws.length = 64 := by rw [hws, sch_len]
  rw [show blk s p = s.add Vf by rw [hVf, hws]; rfl]
  have HSP := (show Hid (∀ u : World, Rd u (.slice ao 64 cap) p → Calls Tryz.prog 181 #[.slice ao 64 cap] u fun e w' => e = .returned (.agg (ws.map wv).toArray) ∧ Below u.heap.size u w') by
    rw [hws]
    exact fun u h1 => schedule_any u _ p h1 hp)
  have HV := (show Hid (Vf = rnd ws s 64) from hVf)
  have hwz : (ws.map wv).length = 64 := by rw [List.length_map]; exact hwl
  have hsW : (Tryz.prog.info? 205).map (·.size) = some (ws.map wv).length := by rw [hwz]; exact Tryz.siz45
  have hlW : (wz 64).length = (ws.map wv).length := by rw [hwz]; rfl
  have HWA := (show Hid (∀ k, k < 64 → (ws.map wv)[k]? = some (.int .u32 (wi (ws.getD k 0)))) from fun k hk => by
    have : k < ws.length := by omega
    simp [List.getD, List.getElem?_eq_getElem this, wv])
  have HKA := (show Hid (∀ k, k < 64 → (kk.map wv)[k]? = some (.int .u32 (wi (kk.getD k 0)))) from fun k hk => by
    have : k < kk.length := by rw [kk_len]; omega
    simp [List.getD, List.getElem?_eq_getElem this, wv])
  clear hws hVf hwl hwz hp
  go_enter Tryz.func169, Tryz.ntmps169
  go_wp2_with fail
  have b0 := below_alloc w (.cells s.vs.toArray 192)
  have b1 := below_alloc (w.alloc (.cells s.vs.toArray 192)) (.cells zero8.vs.toArray 192)
  have hS0 : Row ((w.alloc (.cells s.vs.toArray 192)).alloc (.cells zero8.vs.toArray 192)) w.heap.size 192 s.vs := (Row.new w 192 s.vs).below b1
  have hR0 : Row ((w.alloc (.cells s.vs.toArray 192)).alloc (.cells zero8.vs.toArray 192)) (w.heap.size + 1) 192 zero8.vs := heap_alloc2_new w _ _
  have hB0 := below_and b0 le b1
  refine (HSP.out _ (hrd.below hB0)).mono ?_
  rintro e w1 ⟨rfl, hb1⟩
  have hS1 := hS0.below hb1
  have hR1 := hR0.below hb1
  have hB1 := below_and hB0 le hb1
  clear hS0 hR0 hB0 b0 b1 hb1 HSP hrd
  go_wp2_with (refine wl_store (by rfl) 205 _ _ (by rfl) w1.heap.size (ws.map wv) (by rfl) (by rfl) 205 (wz 64) (heap_alloc_new w1 _) hlW hsW (wv_one ws) ?_; intro w2 hr2 hg2)
  have ba := below_alloc w1 (.cells (wz 64).toArray 205)
  have hW2 : Row w2 w1.heap.size 205 (ws.map wv) := hr2.out
  have hbx : Below w1.heap.size w1 w2 := ba.trans (grown_below hg2 (by simp) (fun k hk => by cases hk; exact Nat.le_refl _))
  have hS2 := hS1.below hbx
  have hR2 := hR1.below hbx
  have hB2 := below_and hB1 le hbx
  have hz1 := hR1.lt
  clear hS1 hR1 hg2 hr2 ba hB1 hsW hlW
  refine (k_any w2).mono ?_
  rintro e w3 ⟨rfl, hb3⟩
  have hS3 := hS2.below hb3
  have hR3 := hR2.below hb3
  have hW3 := hW2.below hb3
  have hB3 := below_and hB2 le hb3
  have hz2 := hW3.lt
  clear hS2 hR2 hW2 hB2 hb3 hbx
  go_wp2_with (first
    | (refine wl_store (by rfl) 205 _ _ (by rfl) w3.heap.size (kk.map wv) (by rfl) (by rfl) 205 (wz 64) (heap_alloc_new w3 _) (by rfl) (by kernel_rfl) (wv_one kk) ?_; intro w4 hr4 hg4)
    | (refine wl_load (by rfl) 192 _ (by rfl) w.heap.size (by rfl) 192 s.vs ((hS3.below (below_alloc w3 _)).grown hg4 (by simp; omega)) _ Tryz.und35 rfl Tryz.siz35 ?_)
    | (refine wl_store (by rfl) 192 _ _ (by rfl) w4.heap.size s.vs (by rfl) (by rfl) 192 zero8.vs (heap_alloc_new w4 _) (by rfl) Tryz.siz35 (wv_one s.ws) ?_; intro w5 hr5 hg5))
  have hK4 : Row w4 w3.heap.size 205 (kk.map wv) := hr4.out
  have hby : Below w3.heap.size w3 w4 := (below_alloc w3 _).trans (grown_below hg4 (by simp) (fun k hk => by cases hk; exact Nat.le_refl _))
  have hbz : Below w4.heap.size w4 w5 := (below_alloc w4 _).trans (grown_below hg5 (by simp) (fun k hk => by cases hk; exact Nat.le_refl _))
  have hV5 : Row w5 w4.heap.size 192 s.vs := hr5.out
  have hS5 := (hS3.below hby).below hbz
  have hR5 := (hR3.below hby).below hbz
  have hW5 := (hW3.below hby).below hbz
  have hK5 := hK4.below hbz
  have hB5 := below_and (below_and hB3 le hby) le hbz
  have hz3 := hK4.lt
  clear hS3 hR3 hW3 hB3 hK4 hby hbz hr4 hg4 hr5 hg5
  go_loopw [8] (fun i wr => ∃ k : Nat, k ≤ 64 ∧ i = .int .i64 k ∧ Row wr w4.heap.size 192 (rnd ws s k).vs ∧ w5.grownBy wr (some w4.heap.size)) (fun i _ => 64 - (intOf i).toNat)
  case atStart => exact ⟨0, by omega, rfl, hV5, grown_refl _ _⟩
  case round =>
    obtain ⟨k, hk, rfl, hrk, hgk⟩ := hrel
    by_cases hk64 : k < 64
    · have cw : wr.cell? ⟨w1.heap.size, k, none⟩ = some (.int .u32 (wi (ws.getD k 0))) := (hW5.grown hgk (by simp; omega)).cell (HWA.out k hk64)
      have ck : wr.cell? ⟨w3.heap.size, k, none⟩ = some (.int .u32 (wi (kk.getD k 0))) := (hK5.grown hgk (by simp; omega)).cell (HKA.out k hk64)
      obtain ⟨V, hV⟩ : ∃ V, V = rnd ws s k := ⟨_, rfl⟩
      rw [← hV] at hrk
      have HR := (show Hid (rnd ws s (k + 1) = rstep V (kk.getD k 0 + ws.getD k 0)) by rw [hV]; rfl)
      obtain ⟨x, hx⟩ : ∃ x, x = ws.getD k 0 := ⟨_, rfl⟩
      obtain ⟨y, hy⟩ : ∃ y, y = kk.getD k 0 := ⟨_, rfl⟩
      rw [← hx] at cw HR
      rw [← hy] at ck HR
      have hiw : ∀ u : World, (Instr.indexAt 205 (.pointer (some ⟨w1.heap.size, 0, none⟩)) (.int .i64 (k : Int))).run Tryz.prog u = .ok (.pointer (some ⟨w1.heap.size, k, none⟩)) u := run_ix w1.heap.size k hk64
      have hik : ∀ u : World, (Instr.indexAt 205 (.pointer (some ⟨w3.heap.size, 0, none⟩)) (.int .i64 (k : Int))).run Tryz.prog u = .ok (.pointer (some ⟨w3.heap.size, k, none⟩)) u := run_ix w3.heap.size k hk64
      have c0 : wr.cell? ⟨w4.heap.size, 0, none⟩ = some (.int .u32 (wi V.a)) := hrk.cell rfl
      have c1 : wr.cell? ⟨w4.heap.size, 1, none⟩ = some (.int .u32 (wi V.b)) := hrk.cell rfl
      have c2 : wr.cell? ⟨w4.heap.size, 2, none⟩ = some (.int .u32 (wi V.c)) := hrk.cell rfl
      have c3 : wr.cell? ⟨w4.heap.size, 3, none⟩ = some (.int .u32 (wi V.d)) := hrk.cell rfl
      have c4 : wr.cell? ⟨w4.heap.size, 4, none⟩ = some (.int .u32 (wi V.e)) := hrk.cell rfl
      have c5 : wr.cell? ⟨w4.heap.size, 5, none⟩ = some (.int .u32 (wi V.f)) := hrk.cell rfl
      have c6 : wr.cell? ⟨w4.heap.size, 6, none⟩ = some (.int .u32 (wi V.g)) := hrk.cell rfl
      have c7 : wr.cell? ⟨w4.heap.size, 7, none⟩ = some (.int .u32 (wi V.h)) := hrk.cell rfl
      clear hV hx hy
      go_wp2_with fail
      go_quiet (fail)
      go_wp2_with fail
      go_quiet ((go_at_call 183; exact quiet_as (turn_all _ V.e _ (by decide)) rfl))
      go_wp2_with fail
      refine (turn_all _ V.a _ (by decide)).mono ?_
      rintro e wq ⟨rfl, rfl⟩
      go_wp2_with fail
      refine (turn_all _ V.a _ (by decide)).mono ?_
      rintro e wq ⟨rfl, rfl⟩
      go_wp2_with fail
      refine (turn_all _ V.a _ (by decide)).mono ?_
      rintro e wq ⟨rfl, rfl⟩
      go_wp2_with (refine wl_store (by rfl) 192 _ _ (by rfl) w4.heap.size [.int .u32 _, .int .u32 _, .int .u32 _, .int .u32 _, .int .u32 _, .int .u32 _, .int .u32 _, .int .u32 _] (by rfl) (by rfl) 192 V.vs hrk (by rfl) Tryz.siz35 (eight_one _ _ _ _ _ _ _ _) ?_; intro w6 hr6 hg6)
      have HR6 := (show Hid (Row w6 w4.heap.size 192 (rnd ws s (k + 1)).vs) by
        have h6 := hr6.out
        simp only [bits_not', bits_and, bits_or, bits_xor, mod_wi, ofInt_sum, ofInt_wi] at h6
        show Row _ _ _ _
        rw [HR.out, rstep_two]
        exact h6)
      have hg6' := grown_trans hgk (grown_drewN hg6) (.inl rfl)
      clear hr6 hg6 hgk hrk cw ck c0 c1 c2 c3 c4 c5 c6 c7 HR
      go_roundw
      case rel => exact ⟨k + 1, by omega, by go_num, HR6, hg6'⟩
      case measure => simp [intOf]; omega
    · have hrV : Row wr w4.heap.size 192 Vf.vs := by rw [HV.out, show 64 = k by omega]; exact hrk
      have hS6 := hS5.grown hgk (by simp; omega)
      have hR6 := hR5.grown hgk (by simp; omega)
      have hB6 : Below w.heap.size w wr := hB5.trans (grown_below hgk hB5.size (fun j hj => by cases hj; omega))
      clear hrk HV hgk hS5 hR5 hW5 hK5 hB5 hV5 HWA HKA
      obtain ⟨wx, hwx⟩ : ∃ u, u = wr := ⟨_, rfl⟩
      go_wp2_with fail
      go_loopw [17] (fun i wr => ∃ j : Nat, j ≤ 8 ∧ i = .int .i64 j ∧ Row wr w.heap.size 192 ((raised s Vf j).map wv) ∧ wx.grownBy wr (some w.heap.size)) (fun i _ => 8 - (intOf i).toNat)
      case atStart => exact ⟨0, by omega, rfl, hS6, by rw [hwx]; exact grown_refl _ _⟩
      case round =>
        rw [← hwx] at hrV hR6 hB6
        clear hS6
        obtain ⟨j, hj, rfl, hrj, hgj⟩ := hrel
        by_cases hj8 : j < 8
        · have cV : wr.cell? ⟨w4.heap.size, j, none⟩ = some (.int .u32 (wi (Vf.ws.getD j 0))) := (hrV.grown hgj (by simp; omega)).cell (by rcases (by omega : j = 0 ∨ j = 1 ∨ j = 2 ∨ j = 3 ∨ j = 4 ∨ j = 5 ∨ j = 6 ∨ j = 7) with rfl | rfl | rfl | rfl | rfl | rfl | rfl | rfl <;> rfl)
          have cS : wr.cell? ⟨w.heap.size, j, none⟩ = some (.int .u32 (wi (s.ws.getD j 0))) := hrj.cell (by rw [List.getElem?_map, raised_at s Vf j hj8]; rfl)
          have fS := hrj.frozen j
          have h1 : ∀ u : World, (Instr.indexAt 192 (.pointer (some ⟨w.heap.size, 0, none⟩)) (.int .i64 (j : Int))).run Tryz.prog u = .ok (.pointer (some ⟨w.heap.size, j, none⟩)) u := run_ix8' _ j hj8
          have h2 : ∀ u : World, (Instr.indexAt 192 (.pointer (some ⟨w4.heap.size, 0, none⟩)) (.int .i64 (j : Int))).run Tryz.prog u = .ok (.pointer (some ⟨w4.heap.size, j, none⟩)) u := run_ix8' _ j hj8
          go_wp2_with fail
          go_region
          go_wp2_with fail
          go_roundw
          case rel =>
            rw [add_wi]
            refine ⟨j + 1, by omega, by go_num, ?_, grown_to_drew (grown_trans hgj (grown_set _ _ _ _) (.inl rfl))⟩
            have hs := raised_set' s Vf j hj8 []
            rw [List.append_nil, List.append_nil] at hs
            rw [← hs]
            exact (hrj.set j _).drew
          case measure => simp [intOf]; omega
        · have hrf : Row wr w.heap.size 192 (s.add Vf).vs := by
            rw [show j = 8 by omega] at hrj
            exact hrj
          have hRf := hR6.grown hgj (by simp)
          have hBf : Below w.heap.size w wr := hB6.trans (grown_below hgj hB6.size (fun j hj => by cases hj; omega))
          clear hrj hgj hR6 hB6 hrV
          go_wp2_with (first
            | (refine wl_load (by rfl) 192 _ (by rfl) w.heap.size (by rfl) 192 (s.add Vf).vs hrf _ Tryz.und35 rfl Tryz.siz35 ?_)
            | (refine wl_store (by rfl) 192 _ _ (by rfl) (w.heap.size + 1) (s.add Vf).vs (by rfl) (by rfl) 192 zero8.vs hRf (by rfl) Tryz.siz35 (wv_one (s.add Vf).ws) ?_; intro w9 hr9 hg9))
          exact bodyPost_ret (v := .agg (s.add Vf).vs.toArray) (results_cell_row rfl _ _ (w.heap.size + 1) _ (s.add Vf).vs.toArray (0, 0) _ (by rfl) hr9.out Tryz.und35 rfl (by kernel_rfl)) rfl ⟨rfl, hBf.trans (grown_below hg9 hBf.size (fun k hk => by cases hk; omega))⟩
end
section
open Go.RowKit Oct Sha
theorem zs_end (n z : Nat) (hz : z ≤ zs n) : ((n + 1 + z) % 64 = 56) ↔ z = zs n := by unfold zs at *; omega
theorem Own.slen {w : World} {e : TypeId} {v : Value} {xs : List Value} (h : Own w e v xs) : slen v = xs.length := by
  obtain ⟨ao, cap, rfl, _⟩ := h.form
  rfl
theorem rep_snoc (z : Nat) (l : List Int) : (l ++ 128 :: List.replicate z 0) ++ [0] = l ++ 128 :: List.replicate (z + 1) 0 := by
  rw [List.replicate_succ']
  simp
theorem zs_lt (n : Nat) : zs n < 64 := by unfold zs; omega
set_option maxHeartbeats 1000000 in
theorem pad_any (w : World) (v : Value) (l : List Int) (hrd : Rd w v l) (hlen : l.length ≤ 140737488351232) :
    Calls Tryz.prog 168 #[v] w fun e w' => ∃ r, e = .returned r ∧ Own w' 5 r (bc (pad l)) ∧ Fr w.heap.size r ∧ Below w.heap.size w w' := by
  have le := Nat.le_refl w.heap.size
  obtain ⟨av, vcap, rfl, hvcap⟩ := hrd.form
  go_enter Tryz.func168, Tryz.ntmps168
  go_wp2_with (first
    | (at_builtin; refine app_bytes rfl _ _ rfl o1 l rfl (World.ownsRow.alloc hown1 _) _ [128] rfl (rdv_one w1 _ _) (by simp only [List.length_cons, List.length_nil]; omega) ?_; intro o2 w2 happ2)
    | (at_builtin; refine app_copy rfl _ _ rfl rfl _ l rfl hrd (by omega) ?_; intro o1 w1 hown1 hfr1 hb1))
  have hp2 := happ2.pre (below_alloc w1 _)
  have hown2 : Own w2 5 o2 (bc (l ++ 128 :: List.replicate 0 0)) := hp2.own
  have hfr2 := hp2.fr hfr1 hb1.size
  have hB2 : Below w.heap.size w w2 := hb1.trans (hp2.below hfr1 hb1.size)
  clear hp2 happ2 hown1 hfr1 hb1 hrd
  go_loopw [3] (fun o wr => ∃ z : Nat, z ≤ zs l.length ∧ Own wr 5 o (bc (l ++ 128 :: List.replicate z 0)) ∧ Fr w.heap.size o ∧ Below w.heap.size w wr) (fun o _ => l.length + 100 - slen o)
  case atStart => exact ⟨0, Nat.zero_le _, hown2, hfr2, hB2⟩
  case round =>
    clear hown2 hfr2 hB2
    obtain ⟨z, hz, hok, hfk, hbk⟩ := hrel
    have hzl := zs_lt l.length
    obtain ⟨q, hq⟩ : ∃ q : Nat, q = l.length + 1 + z := ⟨_, rfl⟩
    have hlz : (bc (l ++ 128 :: List.replicate z 0)).length = q := by rw [hq]; simp [bc_len]; omega
    have hq1 : q ≤ l.length + 1 + z := by omega
    have hq2 : l.length + 1 + z ≤ q := by omega
    clear hq
    obtain ⟨ao, cap, rfl, hcap⟩ := hok.form
    rw [hlz] at hok hfk ⊢
    by_cases hend : z < zs l.length
    · have hne : ¬ (q : Int) % 64 = 56 := by
        have := zs_end l.length z hz
        omega
      have hll : (l ++ 128 :: List.replicate z (0 : Int)).length = q := by simpa [bc_len] using hlz
      have HLL := (show Hid ((l ++ 128 :: List.replicate z (0 : Int)).length = q) from hll)
      clear hlz hll
      go_wp2_with (at_builtin; refine app_bytes rfl _ _ rfl _ (l ++ 128 :: List.replicate z 0) rfl (World.ownsRow.alloc hok _) _ [0] rfl (rdv_one wr _ _) (by rw [HLL.out]; simp only [List.length_cons, List.length_nil]; omega) ?_; intro o3 w3 happ3)
      have hp3 := happ3.pre (below_alloc wr _)
      have HO := (show Hid (Own w3 5 o3 (bc (l ++ 128 :: List.replicate (z + 1) 0))) by rw [← rep_snoc]; exact hp3.own)
      have hf3 := hp3.fr hfk hbk.size
      have hb3 := hbk.trans (hp3.below hfk hbk.size)
      have hsl : slen o3 = q + 1 := by rw [hp3.own.slen, bc_len, List.length_append, HLL.out]; rfl
      have HSL := (show Hid (slen o3 = q + 1) from hsl)
      clear hp3 happ3 hok hfk hbk hsl
      go_roundw
      case rel => exact ⟨z + 1, by omega, HO, hf3, hb3⟩
      case measure =>
        show l.length + 100 - slen o3 < l.length + 100 - q
        rw [HSL.out]
        omega
    · have hzz : z = zs l.length := by omega
      have heq : (q : Int) % 64 = 56 := by
        have := zs_end l.length z hz
        omega
      obtain ⟨N, hN⟩ : ∃ N : Int, N = 8 * (l.length : Int) := ⟨_, rfl⟩
      have hN' : (l.length : Int) * 8 = N := by omega
      have hN0 : 0 ≤ N := by omega
      have hN1 : N < 18446744073709551616 := by omega
      have HP := (show Hid (pad l = (l ++ 128 :: List.replicate z 0) ++ be8 N) by show pad l = _; rw [pad, hN, hzz, List.append_assoc, List.cons_append])
      obtain ⟨L, hL⟩ : ∃ L, L = l ++ 128 :: List.replicate z (0 : Int) := ⟨_, rfl⟩
      have hLl : L.length ≤ 140737488351400 := by rw [hL]; simp only [List.length_append, List.length_cons, List.length_replicate]; omega
      rw [← hL] at hok HP
      have HLL := (show Hid (L.length ≤ 140737488351400) from hLl)
      have HN := (show Hid (0 ≤ N ∧ N < 18446744073709551616) from ⟨hN0, hN1⟩)
      clear hlz hL hN hzz hLl hzl hend hz
      go_wp2_with fail
      clear hN' hN0 hN1 heq
      go_loopw [3, 5] (fun o i wr => ∃ k : Nat, k ≤ 8 ∧ i = .int .i64 (7 - (k : Int)) ∧ Own wr 5 o (bc (L ++ (be8 N).take k)) ∧ Fr w.heap.size o ∧ Below w.heap.size w wr) (fun _ i _ => (intOf i + 1).toNat)
      case atStart => exact ⟨0, by omega, rfl, by rw [List.take_zero, List.append_nil]; exact hok, hfk, hbk⟩
      case round =>
        clear hok hfk hbk
        obtain ⟨k, hk, rfl, hok, hfk, hbk⟩ := hrel
        by_cases hk8 : k < 8
        · obtain ⟨m, hm⟩ : ∃ m : Nat, (8 : Int) * (7 - (k : Int)) = m := ⟨56 - 8 * k, by omega⟩
          have HM := (show Hid (N / 2 ^ m % 256 = (be8 N).getD k 0) from byte_at N k hk8 m (by omega))
          have hge : (0 : Int) ≤ 7 - (k : Int) := by omega
          have HX := (show Hid (L ++ (be8 N).take (k + 1) = (L ++ (be8 N).take k) ++ [(be8 N).getD k 0]) by
            show L ++ (be8 N).take (k + 1) = _
            have hb : k < (be8 N).length := by rw [be8_len]; exact hk8
            rw [List.append_assoc, List.take_add_one, List.getElem?_eq_getElem hb]
            simp [List.getD, List.getElem?_eq_getElem hb])
          have HT := (show Hid ((L ++ (be8 N).take k).length ≤ 140737488351408) by
            show (L ++ (be8 N).take k).length ≤ _
            rw [List.length_append, List.length_take, be8_len]
            have := HLL.out
            omega)
          have hm0 : (0 : Int) ≤ (m : Int) := by omega
          go_wp2_with (at_builtin; refine app_bytes rfl _ _ rfl _ (L ++ (be8 N).take k) rfl (World.ownsRow.alloc hok _) _ [N / 2 ^ m % 256] rfl (rdv_one wr _ _) (by have := HT.out; simp only [List.length_cons, List.length_nil]; omega) ?_; intro o4 w4 happ4)
          have hp4 := happ4.pre (below_alloc wr _)
          have HO := (show Hid (Own w4 5 o4 (bc (L ++ (be8 N).take (k + 1)))) by
            show Own _ _ _ _
            rw [HX.out, ← HM.out]
            exact hp4.own)
          have hf4 := hp4.fr hfk hbk.size
          have hb4 := hbk.trans (hp4.below hfk hbk.size)
          clear hp4 happ4 hok hfk hbk
          go_roundw
          case rel => exact ⟨k + 1, by omega, by go_num, HO, hf4, hb4⟩
          case measure => simp [intOf]; omega
        · have hlt0 : ¬ (0 : Int) ≤ 7 - (k : Int) := by omega
          have hok' : Own wr 5 u3 (bc (pad l)) := by
            rw [HP.out]
            rwa [List.take_of_length_le (by rw [be8_len]; omega)] at hok
          go_wp2_with fail
          go_ret
          exact ⟨_, rfl, hok', hfk, hbk⟩
end
section
open Go.RowKit Oct Sha
theorem refBlock_lit (w : World) (s : St) (v : Value) (p : List Int) (F : St) (hF : blk s p = F) (hrd : Rd w v p) (hp : p.length = 64) :
    Calls Tryz.prog 169 #[.agg #[.int .u32 (wi s.a), .int .u32 (wi s.b), .int .u32 (wi s.c), .int .u32 (wi s.d), .int .u32 (wi s.e), .int .u32 (wi s.f), .int .u32 (wi s.g), .int .u32 (wi s.h)], v] w
      fun e w' => e = .returned (.agg #[.int .u32 (wi F.a), .int .u32 (wi F.b), .int .u32 (wi F.c), .int .u32 (wi F.d), .int .u32 (wi F.e), .int .u32 (wi F.f), .int .u32 (wi F.g), .int .u32 (wi F.h)]) ∧ Below w.heap.size w w' := by
  subst hF
  exact refBlock_any w s v p hrd hp
theorem run_cut_lh (pb off len cap i : Nat) (hi : i + 64 ≤ len) (hc : len ≤ cap) (u : World) : (Instr.slice 24 (.slice (some ⟨pb, off, none⟩) len cap) (some (.int .i64 (i : Int))) (some (.int .i64 ((i : Int) + 64))) none).run Tryz.prog u = .ok (.slice (some ⟨pb, off + i, none⟩) 64 (cap - i)) u := by
  have ht : Tryz.prog.underlying 24 = some (.slice (Tryz.prog.elem 24)) := by kernel_rfl
  have hs : (sizeOf (Tryz.prog.elem 24)).run Tryz.prog u = .ok 1 u := by
    rw [show Tryz.prog.elem 24 = 5 by kernel_rfl]
    obtain ⟨i0, hi, hz0, hz1, hz2⟩ := info_parts Tryz.info5
    simp [sizeOf, typeInfo, hi, hz1]
  rw [run_slice_lh u 24 (some ⟨pb, off, none⟩) len cap ht .i64 .i64 i ((i : Int) + 64) (by omega) (by omega) (by omega), hs]
  simp only [Result.andThen, sliced, Int.toNat_natCast, Nat.mul_one, Option.map_some, Addr.add_mid]
  rw [if_neg (by omega), show ((i : Int) + 64).toNat - i = 64 by omega]
theorem set8 {w2 : World} {b : Nat} {t : TypeId} {s : St} (F : St) (h : Row w2 b t s.vs) :
    Row ((((((((w2.setCell ⟨b, 0, none⟩ (.int .u32 (wi F.a))).setCell ⟨b, 1, none⟩ (.int .u32 (wi F.b))).setCell ⟨b, 2, none⟩ (.int .u32 (wi F.c))).setCell ⟨b, 3, none⟩ (.int .u32 (wi F.d))).setCell ⟨b, 4, none⟩ (.int .u32 (wi F.e))).setCell ⟨b, 5, none⟩ (.int .u32 (wi F.f))).setCell ⟨b, 6, none⟩ (.int .u32 (wi F.g))).setCell ⟨b, 7, none⟩ (.int .u32 (wi F.h))) b t F.vs ∧
    w2.grownBy ((((((((w2.setCell ⟨b, 0, none⟩ (.int .u32 (wi F.a))).setCell ⟨b, 1, none⟩ (.int .u32 (wi F.b))).setCell ⟨b, 2, none⟩ (.int .u32 (wi F.c))).setCell ⟨b, 3, none⟩ (.int .u32 (wi F.d))).setCell ⟨b, 4, none⟩ (.int .u32 (wi F.e))).setCell ⟨b, 5, none⟩ (.int .u32 (wi F.f))).setCell ⟨b, 6, none⟩ (.int .u32 (wi F.g))).setCell ⟨b, 7, none⟩ (.int .u32 (wi F.h))) (some b) := by
  refine ⟨(((((((h.set 0 (.int .u32 (wi F.a))).set 1 (.int .u32 (wi F.b))).set 2 (.int .u32 (wi F.c))).set 3 (.int .u32 (wi F.d))).set 4 (.int .u32 (wi F.e))).set 5 (.int .u32 (wi F.f))).set 6 (.int .u32 (wi F.g))).set 7 (.int .u32 (wi F.h)), ?_⟩
  have g0 := grown_set w2 b 0 (.int .u32 (wi F.a))
  have g1 := grown_trans g0 (grown_set _ b 1 (.int .u32 (wi F.b))) (.inl rfl)
  have g2 := grown_trans g1 (grown_set _ b 2 (.int .u32 (wi F.c))) (.inl rfl)
  have g3 := grown_trans g2 (grown_set _ b 3 (.int .u32 (wi F.d))) (.inl rfl)
  have g4 := grown_trans g3 (grown_set _ b 4 (.int .u32 (wi F.e))) (.inl rfl)
  have g5 := grown_trans g4 (grown_set _ b 5 (.int .u32 (wi F.f))) (.inl rfl)
  have g6 := grown_trans g5 (grown_set _ b 6 (.int .u32 (wi F.g))) (.inl rfl)
  exact grown_trans g6 (grown_set _ b 7 (.int .u32 (wi F.h))) (.inl rfl)
theorem byte4_at (x : BitVec 32) (m : Nat) (hm : m < 4) (sh : Nat) (hs : sh = 24 - 8 * m) : wi x / 2 ^ sh % 256 = (be4 x).getD m 0 := by
  subst hs
  rw [be4_eq]
  rcases (by omega : m = 0 ∨ m = 1 ∨ m = 2 ∨ m = 3) with rfl | rfl | rfl | rfl
  all_goals simp [List.getD]
theorem be4_len (x : BitVec 32) : (be4 x).length = 4 := rfl
set_option maxRecDepth 10000 in
set_option maxHeartbeats 2000000 in
theorem refSum_any (w : World) (v : Value) (l : List Int) (hrd : Rd w v l) (hlen : l.length ≤ 140737488351232) :
    Calls Tryz.prog 135 #[v] w fun e w' => ∃ r, e = .returned r ∧ Own w' 5 r (bc (shaL l)) ∧ Fr w.heap.size r ∧ Below w.heap.size w w' := by
  have le := Nat.le_refl w.heap.size
  obtain ⟨av, vcap, rfl, hvcap⟩ := hrd.form
  go_enter Tryz.func135, Tryz.ntmps135
  go_wp2_with fail
  have b0 := below_alloc w (.cells st0.vs.toArray 192)
  have hS0 : Row (w.alloc (.cells st0.vs.toArray 192)) w.heap.size 192 st0.vs := Row.new w 192 st0.vs
  refine (pad_any _ _ l (hrd.below b0) hlen).mono ?_
  rintro e w1 ⟨mv, rfl, hm1, hf1, hb1⟩
  have hS1 := hS0.below hb1
  have hB1 := below_and b0 le hb1
  have hplen := pad_len l
  have hbyt : Byt (pad l) := byt_app hrd.1 (fun x hx => by
    rcases List.mem_cons.1 hx with rfl | hx
    · decide
    · exact byt_app (byt_zero _) (byt_be8 _) x hx)
  obtain ⟨M, hM⟩ : ∃ M, M = pad l := ⟨_, rfl⟩
  rw [← hM] at hm1 hplen hbyt
  obtain ⟨q, hq⟩ : ∃ q, q = (l.length + 8) / 64 + 1 := ⟨_, rfl⟩
  rw [← hq] at hplen
  have hq0 : 0 < q := by omega
  have hq1 : q ≤ 10000000000000 := by omega
  have HFI := (show Hid ((blks M q).out = shaL l) by
    show (blks M q).out = _
    rw [shaL, ← hM, hplen, Nat.mul_div_cancel_left _ (by decide)])
  obtain ⟨mb, moff, mcap, rfl, hmc1, hmc2, hmlt, hmcell⟩ := (hm1.rd hbyt).at (by omega)
  rw [hplen] at hmc1 ⊢
  have hmb : w.heap.size + 1 ≤ mb := by
    have := hf1 mb rfl
    simpa using this
  have HC := (show Hid (∀ j, j < M.length → w1.cell? ⟨mb, moff + j, none⟩ = some (.int .u8 (M.getD j 0))) from hmcell)
  have HPL := (show Hid (M.length = 64 * q) from hplen)
  clear hM hm1 hf1 hb1 hS0 b0 hrd hlen hmcell hq hplen
  obtain ⟨T, hT⟩ : ∃ T, T = 64 * q := ⟨_, rfl⟩
  rw [← hT] at hmc1 HPL ⊢
  have hT1 : T ≤ 64 * q := by omega
  have hT2 : 64 * q ≤ T := by omega
  clear hT
  go_wp2_with fail
  go_loopw [5] (fun i wr => ∃ k : Nat, k ≤ q ∧ i = .int .i64 ((64 * k : Nat) : Int) ∧ Row wr w.heap.size 192 (blks M k).vs ∧ w1.grownBy wr (some w.heap.size)) (fun i _ => T - (intOf i).toNat)
  case atStart => exact ⟨0, by omega, rfl, hS1, grown_refl _ _⟩
  case round =>
    obtain ⟨k, hk, rfl, hrk, hgk⟩ := hrel
    obtain ⟨I, hI⟩ : ∃ I, I = 64 * k := ⟨_, rfl⟩
    rw [← hI]
    have hI1 : I ≤ 64 * k := by omega
    have hI2 : 64 * k ≤ I := by omega
    by_cases hkq : k < q
    · obtain ⟨s, hs⟩ : ∃ s, s = blks M k := ⟨_, rfl⟩
      rw [← hs] at hrk
      have HF := (show Hid (blk s ((M.drop I).take 64) = blks M (k + 1)) by rw [hs, hI]; rfl)
      have hlt : (I : Int) < (T : Int) := by omega
      have hsl : ∀ u : World, (Instr.slice 24 (.slice (some ⟨mb, moff, none⟩) T mcap) (some (.int .i64 (I : Int))) (some (.int .i64 ((I : Int) + 64))) none).run Tryz.prog u = .ok (.slice (some ⟨mb, moff + I, none⟩) 64 (mcap - I)) u := run_cut_lh mb moff T mcap I (by omega) hmc1
      have hwr : IntKind.i64.wrap ((I : Int) + 64) = (I : Int) + 64 := by rw [IntKind.wrap_i64]; unfold maxLen at hmc2; omega
      have hrp : Rd wr (.slice (some ⟨mb, moff + I, none⟩) 64 (mcap - I)) ((M.drop I).take 64) :=
        Rd.part hbyt (fun j hj => (cell_grown hgk hmlt (by omega) _).trans (HC.out j hj)) I 64 (by rw [HPL.out]; omega) (mcap - I) (by omega) (by omega)
      have hpl : ((M.drop I).take 64).length = 64 := by rw [List.length_take, List.length_drop, HPL.out]; omega
      have HPL2 := (show Hid (((M.drop I).take 64).length = 64) from hpl)
      have c0 : wr.cell? ⟨w.heap.size, 0, none⟩ = some (.int .u32 (wi s.a)) := hrk.cell rfl
      have c1 : wr.cell? ⟨w.heap.size, 1, none⟩ = some (.int .u32 (wi s.b)) := hrk.cell rfl
      have c2 : wr.cell? ⟨w.heap.size, 2, none⟩ = some (.int .u32 (wi s.c)) := hrk.cell rfl
      have c3 : wr.cell? ⟨w.heap.size, 3, none⟩ = some (.int .u32 (wi s.d)) := hrk.cell rfl
      have c4 : wr.cell? ⟨w.heap.size, 4, none⟩ = some (.int .u32 (wi s.e)) := hrk.cell rfl
      have c5 : wr.cell? ⟨w.heap.size, 5, none⟩ = some (.int .u32 (wi s.f)) := hrk.cell rfl
      have c6 : wr.cell? ⟨w.heap.size, 6, none⟩ = some (.int .u32 (wi s.g)) := hrk.cell rfl
      have c7 : wr.cell? ⟨w.heap.size, 7, none⟩ = some (.int .u32 (wi s.h)) := hrk.cell rfl
      obtain ⟨F, hF⟩ : ∃ F, F = blks M (k + 1) := ⟨_, rfl⟩
      rw [← hF] at HF
      have HFF := (show Hid (F = blks M (k + 1)) from hF)
      clear hs hpl hF hI
      go_wp2_with fail
      go_region_with
        ((go_at_call 169; refine (refBlock_lit wr.drew s _ ((M.drop I).take 64) F HF.out hrp.drew HPL2.out).mono ?_; rintro e w2 ⟨rfl, hb2⟩; have hr2 : Row w2 w.heap.size 192 s.vs := hrk.drew.below hb2; have e0 : w2.cell? ⟨w.heap.size, 0, none⟩ = some (.int .u32 (wi s.a)) := hr2.cell rfl; have e1 : w2.cell? ⟨w.heap.size, 1, none⟩ = some (.int .u32 (wi s.b)) := hr2.cell rfl; have e2 : w2.cell? ⟨w.heap.size, 2, none⟩ = some (.int .u32 (wi s.c)) := hr2.cell rfl; have e3 : w2.cell? ⟨w.heap.size, 3, none⟩ = some (.int .u32 (wi s.d)) := hr2.cell rfl; have e4 : w2.cell? ⟨w.heap.size, 4, none⟩ = some (.int .u32 (wi s.e)) := hr2.cell rfl; have e5 : w2.cell? ⟨w.heap.size, 5, none⟩ = some (.int .u32 (wi s.f)) := hr2.cell rfl; have e6 : w2.cell? ⟨w.heap.size, 6, none⟩ = some (.int .u32 (wi s.g)) := hr2.cell rfl; have e7 : w2.cell? ⟨w.heap.size, 7, none⟩ = some (.int .u32 (wi s.h)) := hr2.cell rfl; have fz : ∀ j, w2.frozen? ⟨w.heap.size, j, none⟩ = false := hr2.frozen))
      obtain ⟨hr3, hg3⟩ := set8 F hr2
      have g := grown_trans hgk (grown_drew (grown_of_below hb2 (some w.heap.size))) (.inl rfl)
      have g7 := grown_trans g hg3 (.inl rfl)
      generalize ((((((((w2.setCell ⟨w.heap.size, 0, none⟩ (.int .u32 (wi F.a))).setCell ⟨w.heap.size, 1, none⟩ (.int .u32 (wi F.b))).setCell ⟨w.heap.size, 2, none⟩ (.int .u32 (wi F.c))).setCell ⟨w.heap.size, 3, none⟩ (.int .u32 (wi F.d))).setCell ⟨w.heap.size, 4, none⟩ (.int .u32 (wi F.e))).setCell ⟨w.heap.size, 5, none⟩ (.int .u32 (wi F.f))).setCell ⟨w.heap.size, 6, none⟩ (.int .u32 (wi F.g))).setCell ⟨w.heap.size, 7, none⟩ (.int .u32 (wi F.h))) = w3 at g7 hr3 hg3 ⊢
      have HR4 := (show Hid (Row w3 w.heap.size 192 (blks M (k + 1)).vs) by show Row _ _ _ _; rw [← HFF.out]; exact hr3)
      clear hr3 g hg3 hr2 hb2 e0 e1 e2 e3 e4 e5 e6 e7 fz c0 c1 c2 c3 c4 c5 c6 c7 hgk hrk hrp hsl
      go_wp2_with fail
      go_roundw
      case rel => exact ⟨k + 1, by omega, by congr 1; omega, HR4, g7⟩
      case measure => simp [intOf]; omega
    · have hge : ¬ (I : Int) < (T : Int) := by omega
      obtain ⟨F, hF⟩ : ∃ F, F = blks M q := ⟨_, rfl⟩
      rw [show k = q by omega, ← hF] at hrk
      have HO := (show Hid (F.out = shaL l) by rw [hF]; exact HFI.out)
      have hbk : Below w.heap.size w wr := hB1.trans (grown_below hgk hB1.size (fun j hj => by cases hj; exact Nat.le_refl _))
      have hal := below_alloc wr (.cells #[] 5)
      have hrk' := hrk.below hal
      have c0 : (wr.alloc (.cells #[] 5)).cell? ⟨w.heap.size, 0, none⟩ = some (.int .u32 (wi F.a)) := hrk'.cell rfl
      have c1 : (wr.alloc (.cells #[] 5)).cell? ⟨w.heap.size, 1, none⟩ = some (.int .u32 (wi F.b)) := hrk'.cell rfl
      have c2 : (wr.alloc (.cells #[] 5)).cell? ⟨w.heap.size, 2, none⟩ = some (.int .u32 (wi F.c)) := hrk'.cell rfl
      have c3 : (wr.alloc (.cells #[] 5)).cell? ⟨w.heap.size, 3, none⟩ = some (.int .u32 (wi F.d)) := hrk'.cell rfl
      have c4 : (wr.alloc (.cells #[] 5)).cell? ⟨w.heap.size, 4, none⟩ = some (.int .u32 (wi F.e)) := hrk'.cell rfl
      have c5 : (wr.alloc (.cells #[] 5)).cell? ⟨w.heap.size, 5, none⟩ = some (.int .u32 (wi F.f)) := hrk'.cell rfl
      have c6 : (wr.alloc (.cells #[] 5)).cell? ⟨w.heap.size, 6, none⟩ = some (.int .u32 (wi F.g)) := hrk'.cell rfl
      have c7 : (wr.alloc (.cells #[] 5)).cell? ⟨w.heap.size, 7, none⟩ = some (.int .u32 (wi F.h)) := hrk'.cell rfl
      have how := own_zero wr 5
      have hfw : Fr w.heap.size (.slice (some ⟨wr.heap.size, 0, none⟩) 0 0) := fr_at _ _ _ _ hbk.size
      have hBw := below_and hbk le hal
      clear hrk hrk' hal hF hI hgk hbk HFI HC HPL hS1 hB1 hbyt hmc1 hmc2
      go_wp2_with fail
      go_loopw [6, 28] (fun o i wr => ∃ j : Nat, j ≤ 8 ∧ i = .int .i64 j ∧ Own wr 5 o (bc (F.out.take (4 * j))) ∧ Fr w.heap.size o ∧ Below w.heap.size w wr) (fun _ i _ => 8 - (intOf i).toNat)
      case atStart => exact ⟨0, by omega, rfl, how, hfw, hBw⟩
      case round =>
        clear how hfw hBw c0 c1 c2 c3 c4 c5 c6 c7
        obtain ⟨j, hj, rfl, hoj, hfj, hbj⟩ := hrel
        by_cases hj8 : j < 8
        · have hix : ∀ u : World, (Instr.index 192 (.agg #[.int .u32 (wi F.a), .int .u32 (wi F.b), .int .u32 (wi F.c), .int .u32 (wi F.d), .int .u32 (wi F.e), .int .u32 (wi F.f), .int .u32 (wi F.g), .int .u32 (wi F.h)]) (.int .i64 (j : Int))).run Tryz.prog u = .ok (.int .u32 (wi (F.ws.getD j 0))) u := run_ixv Tryz.und35 Tryz.info34 Tryz.underlying143 F.ws j hj8 rfl
          obtain ⟨x, hx⟩ : ∃ x, x = F.ws.getD j 0 := ⟨_, rfl⟩
          rw [← hx] at hix
          obtain ⟨D, hD⟩ : ∃ D, D = F.out.take (4 * j) := ⟨_, rfl⟩
          have HX := (show Hid (F.out.take (4 * (j + 1)) = D ++ be4 x) by rw [hx, hD]; exact out_take F j hj8)
          have HDL := (show Hid (D.length ≤ 32) by rw [hD]; exact out_take_len F j hj)
          rw [← hD] at hoj
          have hji : (j : Int) < 8 := by omega
          clear hx hD
          go_wp2_with fail
          go_loopw [6, 9] (fun o i wr => ∃ m : Nat, m ≤ 4 ∧ i = .int .i64 (3 - (m : Int)) ∧ Own wr 5 o (bc (D ++ (be4 x).take m)) ∧ Fr w.heap.size o ∧ Below w.heap.size w wr) (fun _ i _ => (intOf i + 1).toNat)
          case atStart => exact ⟨0, by omega, rfl, by rw [List.take_zero, List.append_nil]; exact hoj, hfj, hbj⟩
          case round =>
            clear hoj hfj hbj
            obtain ⟨m, hm, rfl, hom, hfm, hbm⟩ := hrel
            by_cases hm4 : m < 4
            · obtain ⟨sh, hsh⟩ : ∃ sh : Nat, (8 : Int) * (3 - (m : Int)) = sh := ⟨24 - 8 * m, by omega⟩
              have HB := (show Hid (wi x / 2 ^ sh % 256 = (be4 x).getD m 0) from byte4_at x m hm4 sh (by omega))
              have hge3 : (0 : Int) ≤ 3 - (m : Int) := by omega
              have hsh0 : (0 : Int) ≤ (sh : Int) := by omega
              have HX2 := (show Hid (D ++ (be4 x).take (m + 1) = (D ++ (be4 x).take m) ++ [(be4 x).getD m 0]) by
                show D ++ (be4 x).take (m + 1) = _
                have hb : m < (be4 x).length := by rw [be4_len]; exact hm4
                rw [List.append_assoc, List.take_add_one, List.getElem?_eq_getElem hb]
                simp [List.getD, List.getElem?_eq_getElem hb])
              have HT := (show Hid ((D ++ (be4 x).take m).length ≤ 40) by
                show (D ++ (be4 x).take m).length ≤ _
                rw [List.length_append, List.length_take, be4_len]
                have := HDL.out
                omega)
              go_wp2_with (at_builtin; refine app_bytes rfl _ _ rfl _ (D ++ (be4 x).take m) rfl (World.ownsRow.alloc hom _) _ [wi x / 2 ^ sh % 256] rfl (rdv_one wr _ _) (by have := HT.out; simp only [List.length_cons, List.length_nil]; omega) ?_; intro o4 w4 happ4)
              have hp4 := happ4.pre (below_alloc wr _)
              have HO4 := (show Hid (Own w4 5 o4 (bc (D ++ (be4 x).take (m + 1)))) by
                show Own _ _ _ _
                rw [HX2.out, ← HB.out]
                exact hp4.own)
              have hf4 := hp4.fr hfm hbm.size
              have hb4 := hbm.trans (hp4.below hfm hbm.size)
              clear hp4 happ4 hom hfm hbm
              go_roundw
              case rel => exact ⟨m + 1, by omega, by go_num, HO4, hf4, hb4⟩
              case measure => simp [intOf]; omega
            · have hlt3 : ¬ (0 : Int) ≤ 3 - (m : Int) := by omega
              have HOm := (show Hid (Own wr 5 u6 (bc (F.out.take (4 * (j + 1))))) by
                show Own _ _ _ _
                rw [HX.out]
                rwa [List.take_of_length_le (by rw [be4_len]; omega)] at hom)
              clear hom
              go_wp2_with fail
              go_roundw
              case rel => exact ⟨j + 1, by omega, by go_num, HOm, hfm, hbm⟩
              case measure => simp [intOf]; omega
        · have hoj' : Own wr 5 u6 (bc (shaL l)) := by
            rwa [show j = 8 by omega, List.take_of_length_le (by rw [out_len]; decide), HO.out] at hoj
          go_wp2_with fail
          go_ret
          exact ⟨_, rfl, hoj', hfj, hbj⟩
end
section
open Go.RowKit Oct Sha
theorem own_els (w : World) (xs : List Value) (e : TypeId) (h : xs.length ≤ 1000) : Own (w.alloc (.cells xs.toArray e)) e (.slice (some ⟨w.heap.size, 0, none⟩) xs.length xs.length) xs :=
  World.ownsRow_lit (base := 0) (size := 1) w xs.toArray xs.length (Nat.zero_le _) (by unfold maxLen; omega) (by simp)
set_option maxHeartbeats 400000 in
/-- catenaryref03.Text. -/
theorem refTextK_any (w : World) (k : Int) (s : ByteArray) (pv : Value) (ll : List (List Int)) (hp : Rdl w pv ll) (hs : s.size ≤ 4000000) (ht : tot ll ≤ 4000000) :
    Calls Tryz.prog 95 #[.int .i64 k, .string s, pv] w fun e w' => ∃ v', e = .returned v' ∧ Own w' 5 v' (bc (textL k (sL s) ll)) ∧ Fr w.heap.size v' ∧ Below w.heap.size w w' := by
  by_cases hk0 : k < 0
  · rw [textL_no _ _ (.inl hk0)]
    go_enter Tryz.func95, Tryz.ntmps95
    go_wp2_with fail
    go_ret
    exact ⟨_, rfl, Own.nil _ _, Fr.nil _, Below.refl _ _⟩
  by_cases hk1 : 127 < k
  · rw [textL_no _ _ (.inr hk1)]
    go_enter Tryz.func95, Tryz.ntmps95
    go_wp2_with fail
    go_ret
    exact ⟨_, rfl, Own.nil _ _, Fr.nil _, Below.refl _ _⟩
  · have h0 : 0 ≤ k := by omega
    have h1 : k ≤ 127 := by omega
    rw [textL_yes _ _ h0 h1]
    have hI := refInt_any w k
    rw [errI_yes (by omega) (by omega), outI_yes (by omega) (by omega)] at hI
    have hcv := run_cvt
    have htt := tot_three k (sL s) ll
    rw [sL_len] at htt
    obtain ⟨vp, hvp, hap⟩ := hp
    have l1 := len_tot ll
    have l3 := Nat.le_of_eq hap.len
    have l5 : vp.length ≤ 10000000 := by omega
    clear l1 l3
    go_enter Tryz.func95, Tryz.ntmps95
    go_wp2_with fail
    refine hI.mono ?_
    rintro e w1 ⟨v1, rfl, hown, hfr, hb1⟩
    clear hI
    have r1 := hown.rd (enc_byt k h0 (by omega))
    obtain ⟨a1, c1, rfl, hc1⟩ := r1.form
    have q1 := rd_lit w1 signW 5 (4, 5) (byt_of (by decide)) (by decide) (by decide)
    have b1 := below_alloc w1 (.cells (bc signW).toArray 5 (4, 5))
    go_wp2_with (first
      | (refine wl_str (by rfl) _ (by rfl) s (by rfl) (by unfold maxLen; omega) ?_; intro v2 w2 hr2 hf2 hb2; obtain ⟨a2, c2, rfl, hc2⟩ := hr2.form; have B2 : Below w1.heap.size w1 w2 := below_and b1 (Nat.le_refl _) hb2; have b3 := below_alloc w2 (.cells [.slice (some ⟨w1.heap.size, 0, none⟩) 4 4, .slice a1 (enc k).length c1, .slice a2 (sL s).length c2].toArray 24); have B3 := below_and (below_and hb1 (Nat.le_refl _) B2) (Nat.le_refl _) b3)
      | (at_builtin; refine app_list rfl _ _ rfl _ [.slice (some ⟨w1.heap.size, 0, none⟩) 4 4, .slice a1 (enc k).length c1, .slice a2 (sL s).length c2] rfl (own_els w2 [.slice (some ⟨w1.heap.size, 0, none⟩) 4 4, .slice a1 (enc k).length c1, .slice a2 (sL s).length c2] 24 (by simp)) _ vp rfl (hvp.below B3) (rds_one hap) (by simp only [List.length_cons, List.length_nil]; omega) ?_; intro v5 w5 happ5))
    have q2 := q1.below hb2
    have r2 := r1.below B2
    have f3 : Fr w.heap.size (.slice (some ⟨w2.heap.size, 0, none⟩) 3 3) := fr_at _ _ _ _ (Nat.le_trans hb1.size B2.size)
    have b5 : Below w.heap.size w w5 := B3.trans (happ5.below f3 B3.size)
    have B35 : Below w2.heap.size w2 w5 := b3.trans (happ5.below (fr_at _ _ _ _ (Nat.le_refl _)) b3.size)
    refine (refPack_any w5 v5 ([signW, enc k, sL s] ++ ll) ⟨_, happ5.own.rdv, All2.app ⟨q2.below B35, r2.below B35, hr2.below B35, trivial⟩ (rds_below hap b5)⟩ (by omega)).mono ?_
    rintro e w6 ⟨v6, rfl, ho6, hf6, hb6⟩
    go_wp2_with fail
    go_ret
    exact ⟨_, rfl, ho6, hf6.mono b5.size, below_and b5 (Nat.le_refl _) hb6⟩
set_option maxHeartbeats 400000 in
/-- catenaryref03.Sign. -/
theorem refSign_any (w : World) (k : Int) (s : ByteArray) (pv : Value) (ll : List (List Int)) (hp : Rdl w pv ll) (hs : s.size ≤ 4000000) (ht : tot ll ≤ 4000000) :
    Calls Tryz.prog 98 #[.int .i64 k, .string s, pv] w fun e w' => ∃ v', e = .returned v' ∧ Own w' 5 v' (bc (signL k (sL s) ll)) ∧ Fr w.heap.size v' ∧ Below w.heap.size w w' := by
  have hbt := textL_byt k s ll hp.byts (by omega)
  have hX := refTextK_any w k s pv ll hp hs ht
  by_cases hk : k < 0 ∨ 127 < k
  · rw [signL_no _ _ hk]
    rw [textL_no _ _ hk] at hX
    clear hbt
    go_enter Tryz.func98, Tryz.ntmps98
    go_wp2_with fail
    refine hX.mono ?_
    rintro e w1 ⟨v1, rfl, hown, hfr, hb1⟩
    obtain ⟨a1, c1, rfl, hc1⟩ := hown.form
    clear hX
    go_wp2_with fail
    go_ret
    exact ⟨_, rfl, Own.nil _ _, Fr.nil _, hb1⟩
  · have h0 : 0 ≤ k := by omega
    have h1 : k ≤ 127 := by omega
    clear hk
    rw [signL_yes _ _ h0 h1]
    rw [textL_yes _ _ h0 h1] at hX hbt
    have hpos : 0 < (packL ([signW, enc k, sL s] ++ ll)).length := pack_pos _ _
    have hple := packL_len ([signW, enc k, sL s] ++ ll)
    have htt := tot_three k (sL s) ll
    rw [sL_len] at htt
    generalize packL ([signW, enc k, sL s] ++ ll) = X at hX hbt hpos hple ⊢
    have hne : ((X.length : Int) == 0) = false := by rw [beq_eq_false_iff_ne]; omega
    have hlen : X.length ≤ 1000000000 := by omega
    clear htt hple
    go_enter Tryz.func98, Tryz.ntmps98
    go_wp2_with fail
    refine hX.mono ?_
    rintro e w1 ⟨v1, rfl, hown, hfr, hb1⟩
    clear hX
    have r1 := hown.rd hbt
    obtain ⟨a1, c1, rfl, hc1⟩ := r1.form
    go_wp2_with fail
    refine (refSum_any w1 _ X r1 (by omega)).mono ?_
    rintro e w2 ⟨v2, rfl, ho2, hf2, hb2⟩
    go_wp2_with fail
    go_ret
    exact ⟨_, rfl, ho2, hf2.mono hb1.size, below_and hb1 (Nat.le_refl _) hb2⟩
set_option maxHeartbeats 400000 in
/-- catenaryref03.Verify. -/
theorem refVerify_any (w : World) (k : Int) (sv : Value) (sig : List Int) (s : ByteArray) (pv : Value) (ll : List (List Int)) (hsv : Rd w sv sig) (hp : Rdl w pv ll) (hs : s.size ≤ 4000000) (ht : tot ll ≤ 4000000) :
    Calls Tryz.prog 72 #[.int .i64 k, sv, .string s, pv] w fun e w' => e = .returned (.bool (verL k sig (sL s) ll)) ∧ Below w.heap.size w w' := by
  by_cases h0 : 0 ≤ k
  · by_cases h1 : k ≤ 127
    · rw [verL, if_pos ⟨h0, h1⟩]
      have hS := refSign_any w k s pv ll hp hs ht
      have hbt := signL_byt k (sL s) ll
      generalize signL k (sL s) ll = X at hS hbt ⊢
      obtain ⟨d, hd⟩ : ∃ d, d = decide (sig = X) := ⟨_, rfl⟩
      rw [← hd]
      have HD := (show Hid (d = decide (sig = X)) from hd)
      clear hd
      go_enter Tryz.func72, Tryz.ntmps72
      go_wp2_with fail
      refine hS.mono ?_
      rintro e w1 ⟨v1, rfl, ho1, hf1, hb1⟩
      clear hS
      have hE := same_any w1 sv v1 sig X (hsv.below hb1) (ho1.rd hbt)
      rw [← HD.out] at hE
      go_wp2_with fail
      refine hE.mono ?_
      rintro e w2 ⟨rfl, rfl⟩
      clear hE
      go_wp2_with fail
      go_ret
      exact ⟨rfl, hb1⟩
    · rw [verL, if_neg (by omega)]
      have hd1 : decide (k ≤ 127) = false := by simpa using h1
      go_enter Tryz.func72, Tryz.ntmps72
      go_wp2_with fail
      go_ret
      exact ⟨rfl, Below.refl _ _⟩
  · rw [verL, if_neg (by omega)]
    have hd0 : decide (0 ≤ k) = false := by simpa using h0
    go_enter Tryz.func72, Tryz.ntmps72
    go_wp2_with fail
    go_ret
    exact ⟨rfl, Below.refl _ _⟩
end
end Go.Proofs.YtgbfmccecnfooaaGreatDoor
