/- catenaryref02.Pad. -/
import Derived.Test.YtgbfmccecnfooaaGreatDoorCRAZ
import Derived.Test.YtgbfmccecnfooaaGreatDoorCRAL
import Derived.Laws.BitsAllLaws
import Derived.Test.YtgbfmccecnfooaaGreatDoorCRBE
import Derived.Test.YtgbfmccecnfooaaGreatDoorCRAR
set_option linter.unusedSimpArgs false
set_option linter.unusedVariables false
namespace Go.Proofs.YtgbfmccecnfooaaGreatDoor
section
open Go.RowKit Oct
/-- A request whose operation is memory of its own. -/
def ROq (G : Nat → Prop) (w : World) (r : List Value) (x : PReq) : Prop := ∃ o g, r = [.int .i64 x.1, .int .i64 x.2.1, o, g] ∧ OT G w o x.2.2.1 ∧ RT G w g x.2.2.2
theorem mov_oq : Mov ROq := fun _ _ _ _ _ _ h _ hm => by
  obtain ⟨o, g, e, h1, h2⟩ := h
  exact ⟨o, g, e, h1.mv hm, h2.mv hm⟩
theorem ROq.req {G : Nat → Prop} {w : World} {r : List Value} {x : PReq} (h : ROq G w r x) : RReq G w r x := by
  obtain ⟨o, g, e, h1, h2⟩ := h
  exact ⟨o, g, e, h1.rt, h2⟩
set_option maxRecDepth 10000 in
set_option maxHeartbeats 4000000 in
theorem cloneReqO_any (w : World) (r : List Value) (x : PReq) (h : RReq Any w r x) (hz : szQ x) :
    Calls Tryz.prog 83 #[.agg r.toArray] w fun e w' => ∃ r', e = .returned (.agg r'.toArray) ∧ ROq (From w.heap.size) w' r' x ∧ Below w.heap.size w w' := by
  obtain ⟨o1, o2, rfl, t1, t2⟩ := h
  obtain ⟨w2, hw2⟩ : ∃ w2, w2 = (w.alloc (.cells #[.int .i64 x.1, .int .i64 x.2.1, o1, o2] 62)).alloc (.cells #[.int .i64 0, .int .i64 0, .slice none 0 0, .slice none 0 0] 62) := ⟨_, rfl⟩
  have ra : Row w2 w.heap.size 62 [.int .i64 x.1, .int .i64 x.2.1, o1, o2] := by rw [hw2]; exact rowA (Row.new w 62 _) _
  have rr : Row w2 (w.heap.size + 1) 62 [.int .i64 0, .int .i64 0, .slice none 0 0, .slice none 0 0] := by
    have h1 : (w.alloc (.cells #[.int .i64 x.1, .int .i64 x.2.1, o1, o2] 62)).heap.size = w.heap.size + 1 := by simp
    rw [hw2, ← h1]
    exact Row.new (w.alloc (.cells #[.int .i64 x.1, .int .i64 x.2.1, o1, o2] 62)) 62 [.int .i64 0, .int .i64 0, .slice none 0 0, .slice none 0 0]
  have B : Below w.heap.size w w2 := by rw [hw2]; exact ((Below.refl _ w).alloc (Nat.le_refl _) _).alloc (by simp) _
  have hC : w.heap.size + 2 ≤ w2.heap.size := by rw [hw2]; simp
  go_enter Tryz.func83, Tryz.ntmps83
  go_upto_region 1 with fail
  rw [← hw2]
  clear hw2
  have hI := (t1.mv (Mv.below B))
  have cI := ra.cell (j := 2) rfl
  have hG := clone_own w2 _ _ hI.1 (Nat.le_trans (hz.1) (by decide))
  go_upto_region 2 with (first
    | (go_at_call 71; refine hG.mono ?_; rintro e wa0 ⟨v0, rfl, p0, q0, hb0⟩; have f0 := OT.own p0 hI.1.1 q0; clear p0 q0; have rai := ra.below hb0)
    | (refine wl_set rfl _ _ _ rfl w.heap.size 2 _ rfl rfl _ _ rai (show 2 < 4 by decide) (by kernel_rfl) f0.one ?_; intro wb0 rbi hg0))
  have ra : Row wb0 w.heap.size 62 [.int .i64 x.1, .int .i64 x.2.1, v0, o2] := rbi.out
  have rr := (rr.below hb0).grown hg0 (fun h => by injection h; omega)
  have f0 := ((f0.mv (Mv.weak (L := w.heap.size + 2) hC)).mv (Mv.from hg0 (by omega) (Nat.le_refl _)))
  have B : Below w.heap.size w wb0 := (below_and B (Nat.le_refl _) hb0).trans (grown_below hg0 (below_and B (Nat.le_refl _) hb0).size (fun k hk => by cases hk; exact Nat.le_refl _))
  have hC := Nat.le_trans hC (Nat.le_trans hb0.size hg0.size)
  clear hG hI rai rbi hb0 hg0 cI
  have hI := (t2.mv (Mv.below B))
  have cI := ra.cell (j := 3) rfl
  have hG := clone_any wb0 _ _ hI.1 (Nat.le_trans (hz.2) (by decide))
  go_upto_region 3 with (first
    | (go_at_call 71; refine hG.mono ?_; rintro e wa1 ⟨v1, rfl, f1, hb1⟩; have rai := ra.below hb1)
    | (refine wl_set rfl _ _ _ rfl w.heap.size 3 _ rfl rfl _ _ rai (show 3 < 4 by decide) (by kernel_rfl) f1.one ?_; intro wb1 rbi hg1))
  have ra : Row wb1 w.heap.size 62 [.int .i64 x.1, .int .i64 x.2.1, v0, v1] := rbi.out
  have rr := (rr.below hb1).grown hg1 (fun h => by injection h; omega)
  have f0 := ((f0.mv (Mv.belowF hb1 (Nat.le_refl _))).mv (Mv.from hg1 (by omega) (Nat.le_refl _)))
  have f1 := ((f1.mv (Mv.weak (L := w.heap.size + 2) hC)).mv (Mv.from hg1 (by omega) (Nat.le_refl _)))
  have B : Below w.heap.size w wb1 := (below_and B (Nat.le_refl _) hb1).trans (grown_below hg1 (below_and B (Nat.le_refl _) hb1).size (fun k hk => by cases hk; exact Nat.le_refl _))
  have hC := Nat.le_trans hC (Nat.le_trans hb1.size hg1.size)
  clear hG hI rai rbi hb1 hg1 cI
  have hone : ∀ v ∈ [.int .i64 x.1, .int .i64 x.2.1, v0, v1], v.oneCell' = true := by
    intro v hv
    have k_f0 := f0.one; have k_f1 := f1.one
    simp only [List.mem_cons, List.not_mem_nil, or_false] at hv
    rcases hv with rfl | rfl | rfl | rfl <;> first | rfl | assumption
  go_wp2_with (first
    | (refine wl_load rfl _ _ rfl w.heap.size rfl _ _ ra _ Tryz.underlying62 rfl (by kernel_rfl) ?_)
    | (refine wl_store rfl _ _ _ rfl (w.heap.size + 1) [.int .i64 x.1, .int .i64 x.2.1, v0, v1] rfl rfl _ _ rr rfl (by kernel_rfl) hone ?_; intro w9 rr9 hg9))
  have B9 : Below w.heap.size w w9 := B.trans (grown_below hg9 B.size (fun k hk => by cases hk; omega))
  have f0 := ((f0.mv (Mv.from hg9 (by omega) (Nat.le_refl _))).mv (Mv.weak (L := w.heap.size) (by omega)))
  have f1 := ((f1.mv (Mv.from hg9 (by omega) (Nat.le_refl _))).mv (Mv.weak (L := w.heap.size) (by omega)))
  refine bodyPost_ret (v := .agg ([.int .i64 x.1, .int .i64 x.2.1, v0, v1] : List Value).toArray) (results_cell_row rfl _ _ (w.heap.size + 1) _ _ (0, 0) _ (by rfl) rr9.out Tryz.underlying62 rfl (by kernel_rfl)) rfl ?_
  exact ⟨_, rfl, ⟨_, _, rfl, f0, f1⟩, B9⟩
/-- A pick, and the blocks between which its texts lie. -/
abbrev PZq := Nat × Nat × PReq
def RZq (G : Nat → Prop) (w : World) (r : List Value) (x : PZq) : Prop := ROq (fun k => G k ∧ x.1 ≤ k ∧ k < x.2.1) w r x.2.2
/-- The picks' blocks, one behind the other, from B on and below E. -/
def Asc (B E : Nat) : List PZq → Prop
  | [] => B ≤ E
  | z :: zs => B ≤ z.1 ∧ Asc z.2.1 E zs ∧ z.1 ≤ z.2.1
theorem Asc.le {E : Nat} : ∀ {zs : List PZq} {B : Nat}, Asc B E zs → B ≤ E
  | [], _, h => h
  | z :: zs, B, h => by have := Asc.le h.2.1; have := h.1; have := h.2.2; omega
theorem Asc.up {E F : Nat} (hE : E ≤ F) : ∀ {zs : List PZq} {B : Nat}, Asc B E zs → Asc B F zs
  | [], B, h => Nat.le_trans (show B ≤ E from h) hE
  | z :: zs, B, h => ⟨h.1, Asc.up hE h.2.1, h.2.2⟩
theorem Asc.mem {E : Nat} : ∀ {zs : List PZq} {B : Nat}, Asc B E zs → ∀ z ∈ zs, B ≤ z.1 ∧ z.2.1 ≤ E
  | [], _, _, z, hz => by cases hz
  | y :: zs, B, h, z, hz => by
    rcases List.mem_cons.1 hz with rfl | hz
    · exact ⟨h.1, Asc.le h.2.1⟩
    · have := Asc.mem h.2.1 z hz
      have := h.1; have := h.2.2
      omega
theorem Asc.take {E : Nat} : ∀ {zs : List PZq} {B i : Nat} {z : PZq}, Asc B E zs → zs[i]? = some z → ∀ y ∈ zs.take i, y.2.1 ≤ z.1
  | [], _, _, _, _, hi, _, _ => by simp at hi
  | x :: zs, B, 0, z, _, _, y, hy => by simp at hy
  | x :: zs, B, i + 1, z, h, hi, y, hy => by
    rw [List.take_succ_cons] at hy
    have hi : zs[i]? = some z := by simpa using hi
    rcases List.mem_cons.1 hy with rfl | hy
    · exact (Asc.mem h.2.1 z (List.mem_of_getElem? hi)).1
    · exact Asc.take h.2.1 hi y hy
/-- All that lies outside the first i picks' blocks is as it was, and so is block g. -/
structure Fz (g : Option Nat) (zs : List PZq) (i : Nat) (w0 w : World) : Prop where
  size : w0.heap.size ≤ w.heap.size
  blk : ∀ k, k < w0.heap.size → (g = some k ∨ ∀ z ∈ zs.take i, ¬ (z.1 ≤ k ∧ k < z.2.1)) → w.heap[k]? = w0.heap[k]?
theorem Fz.refl (g : Option Nat) (zs : List PZq) (w : World) : Fz g zs 0 w w := ⟨Nat.le_refl _, fun _ _ _ => rfl⟩
theorem take_sub {α : Type} {zs : List α} {i j : Nat} (h : i ≤ j) : ∀ z ∈ zs.take i, z ∈ zs.take j := fun z hz => by
  have e : zs.take i = (zs.take j).take i := by rw [List.take_take, Nat.min_eq_left h]
  rw [e] at hz
  exact List.mem_of_mem_take hz
theorem Fz.up {g : Option Nat} {zs : List PZq} {i j : Nat} {w0 w : World} (h : Fz g zs i w0 w) (hij : i ≤ j) : Fz g zs j w0 w :=
  ⟨h.size, fun k hk hn => h.blk k hk (hn.imp id fun hn z hz => hn z (take_sub hij z hz))⟩
theorem Fz.below {g : Option Nat} {zs : List PZq} {i : Nat} {w0 w w' : World} (h : Fz g zs i w0 w) (hb : Below w.heap.size w w') : Fz g zs i w0 w' :=
  ⟨Nat.le_trans h.size hb.size, fun k hk hn => (hb.block k (Nat.lt_of_lt_of_le hk h.size)).trans (h.blk k hk hn)⟩
theorem Fz.set {g : Option Nat} {zs : List PZq} {i : Nat} {w0 w w' : World} (h : Fz g zs (i + 1) w0 w) {z : PZq} (hz : zs[i]? = some z) {k : Nat} (hg : w.grownBy w' (some k)) (hk : z.1 ≤ k ∧ k < z.2.1) (hn : g ≠ some k) : Fz g zs (i + 1) w0 w' := by
  refine ⟨Nat.le_trans h.size hg.size, fun q hq hqn => ?_⟩
  have hne : q ≠ k := fun e => by
    subst e
    rcases hqn with e | hqn
    · exact hn e
    · refine hqn z ?_ hk
      rw [List.take_add_one, hz]
      exact List.mem_append_right _ (by simp)
  rw [hg.block q (Nat.lt_of_lt_of_le hq h.size) (fun e => hne (Option.some.inj e))]
  exact h.blk q hq hqn
/-- What pick i was is what it is. -/
theorem Fz.pick {g : Option Nat} {zs : List PZq} {i B E : Nat} {w0 w : World} (h : Fz g zs i w0 w) (ha : Asc B E zs) {z : PZq} (hz : zs[i]? = some z) {G : Nat → Prop} {r : List Value} (hr : RZq G w0 r z) : RZq G w r z :=
  mov_oq _ _ _ _ _ _ hr h.size fun k hk hl => ⟨h.blk k hl (.inr fun y hy hyk => by have := ha.take hz y hy; omega), hk⟩
end
section
open Go.RowKit Oct Sha
theorem Tryz.und35 : Tryz.prog.underlying 192 = some (.array 8 143) := by kernel_rfl
theorem Tryz.siz35 : (Tryz.prog.info? 192).map (·.size) = some 8 := by kernel_rfl
theorem run_ix8' (b i : Nat) (hi : i < 8) (u : World) : (Instr.indexAt 192 (.pointer (some ⟨b, 0, none⟩)) (.int .i64 (i : Int))).run Tryz.prog u = .ok (.pointer (some ⟨b, i, none⟩)) u := by
  have ht : Tryz.prog.underlying 192 = some (.array (Tryz.prog.arrayLen 192) (Tryz.prog.elem 192)) := by kernel_rfl
  have hn : Tryz.prog.arrayLen 192 = 8 := by kernel_rfl
  have hs : (sizeOf (Tryz.prog.elem 192)).run Tryz.prog u = .ok 1 u := by
    rw [show Tryz.prog.elem 192 = 143 by kernel_rfl]
    cases hq : Tryz.prog.info? 143 with
    | none => have := Tryz.info34; simp [hq] at this
    | some i0 =>
      have h1 := Tryz.info34
      simp only [hq, Option.map_some, Option.some.injEq] at h1
      simp [sizeOf, typeInfo, hq, h1]
  rw [run_indexAt_array u 192 _ .i64 i ht, hn, if_pos (by omega), hs]
  simp only [Result.andThen, Addr.add_mid]
  simp
theorem eight_one (a b c d e f g h : Int) : ∀ v ∈ [Value.int .u32 a, .int .u32 b, .int .u32 c, .int .u32 d, .int .u32 e, .int .u32 f, .int .u32 g, .int .u32 h], v.oneCell' = true := by
  intro v hv
  simp only [List.mem_cons, List.not_mem_nil, or_false] at hv
  rcases hv with rfl | rfl | rfl | rfl | rfl | rfl | rfl | rfl <;> rfl
theorem rstep_two (V : St) (y x : BitVec 32) : (rstep V (y + x)).vs = [.int .u32 (wi (V.h + (rotr V.e 6 ^^^ rotr V.e 11 ^^^ rotr V.e 25) + (V.e &&& V.f ||| ~~~V.e &&& V.g) + y + x + ((rotr V.a 2 ^^^ rotr V.a 13 ^^^ rotr V.a 22) + (V.a &&& V.b ||| V.a &&& V.c ||| V.b &&& V.c)))), .int .u32 (wi V.a), .int .u32 (wi V.b), .int .u32 (wi V.c),
    .int .u32 (wi (V.d + (V.h + (rotr V.e 6 ^^^ rotr V.e 11 ^^^ rotr V.e 25) + (V.e &&& V.f ||| ~~~V.e &&& V.g) + y + x))), .int .u32 (wi V.e), .int .u32 (wi V.f), .int .u32 (wi V.g)] := by
  have e : V.h + S1 V.e + ch V.e V.f V.g + (y + x) = V.h + S1 V.e + ch V.e V.f V.g + y + x := (BitVec.add_assoc _ _ _).symm
  unfold rstep
  dsimp only
  rw [e]
  rfl
def zero8 : St := ⟨0, 0, 0, 0, 0, 0, 0, 0⟩
set_option maxRecDepth 10000 in
set_option maxHeartbeats 2000000 in
theorem refBlock_any (w : World) (s : St) (v : Value) (p : List Int) (hrd : Rd w v p) (hp : p.length = 64) :
    Calls Tryz.prog 169 #[.agg s.vs.toArray, v] w fun e w' => e = .returned (.agg (blk s p).vs.toArray) ∧ Below w.heap.size w w' := by
  have le := Nat.le_refl w.heap.size
  obtain ⟨ao, cap, rfl, hcap⟩ := hrd.form
  rw [hp] at hrd ⊢
  obtain ⟨ws, hws⟩ : ∃ ws, ws = sch p 64 := ⟨_, rfl⟩
  obtain ⟨Vf, hVf⟩ : ∃ V, V = rnd ws s 64 := ⟨_, rfl⟩
  have hwl : ws.length = 64 := by rw [hws, sch_len]
  rw [show blk s p = s.add Vf by rw [hVf, hws]; rfl]
  have HSP := (show Hid (∀ u : World, Rd u (.slice ao 64 cap) p → Calls Tryz.prog 181 #[.slice ao 64 cap] u fun e w' => e = .returned (.agg (ws.map wv).toArray) ∧ Below u.heap.size u w') by
    rw [hws]
    exact fun u h1 => schedule_any u _ p h1 hp)
  have HV := (show Hid (Vf = rnd ws s 64) from hVf)
  have hwz : (ws.map wv).length = 64 := by rw [List.length_map]; exact hwl
  have hsW : (Tryz.prog.info? 205).map (·.size) = some (ws.map wv).length := by rw [hwz]; exact Tryz.siz45
  have hlW : (wz 64).length = (ws.map wv).length := by rw [hwz]; rfl
  have HWA := (show Hid (∀ k, k < 64 → (ws.map wv)[k]? = some (.int .u32 (wi (ws.getD k 0)))) from fun k hk => by
    have : k < ws.length := by omega
    simp [List.getD, List.getElem?_eq_getElem this, wv])
  have HKA := (show Hid (∀ k, k < 64 → (kk.map wv)[k]? = some (.int .u32 (wi (kk.getD k 0)))) from fun k hk => by
    have : k < kk.length := by rw [kk_len]; omega
    simp [List.getD, List.getElem?_eq_getElem this, wv])
  clear hws hVf hwl hwz hp
  go_enter Tryz.func169, Tryz.ntmps169
  go_wp2_with fail
  have b0 := below_alloc w (.cells s.vs.toArray 192)
  have b1 := below_alloc (w.alloc (.cells s.vs.toArray 192)) (.cells zero8.vs.toArray 192)
  have hS0 : Row ((w.alloc (.cells s.vs.toArray 192)).alloc (.cells zero8.vs.toArray 192)) w.heap.size 192 s.vs := (Row.new w 192 s.vs).below b1
  have hR0 : Row ((w.alloc (.cells s.vs.toArray 192)).alloc (.cells zero8.vs.toArray 192)) (w.heap.size + 1) 192 zero8.vs := heap_alloc2_new w _ _
  have hB0 := below_and b0 le b1
  refine (HSP.out _ (hrd.below hB0)).mono ?_
  rintro e w1 ⟨rfl, hb1⟩
  have hS1 := hS0.below hb1
  have hR1 := hR0.below hb1
  have hB1 := below_and hB0 le hb1
  clear hS0 hR0 hB0 b0 b1 hb1 HSP hrd
  go_wp2_with (refine wl_store (by rfl) 205 _ _ (by rfl) w1.heap.size (ws.map wv) (by rfl) (by rfl) 205 (wz 64) (heap_alloc_new w1 _) hlW hsW (wv_one ws) ?_; intro w2 hr2 hg2)
  have ba := below_alloc w1 (.cells (wz 64).toArray 205)
  have hW2 : Row w2 w1.heap.size 205 (ws.map wv) := hr2.out
  have hbx : Below w1.heap.size w1 w2 := ba.trans (grown_below hg2 (by simp) (fun k hk => by cases hk; exact Nat.le_refl _))
  have hS2 := hS1.below hbx
  have hR2 := hR1.below hbx
  have hB2 := below_and hB1 le hbx
  have hz1 := hR1.lt
  clear hS1 hR1 hg2 hr2 ba hB1 hsW hlW
  refine (k_any w2).mono ?_
  rintro e w3 ⟨rfl, hb3⟩
  have hS3 := hS2.below hb3
  have hR3 := hR2.below hb3
  have hW3 := hW2.below hb3
  have hB3 := below_and hB2 le hb3
  have hz2 := hW3.lt
  clear hS2 hR2 hW2 hB2 hb3 hbx
  go_wp2_with (first
    | (refine wl_store (by rfl) 205 _ _ (by rfl) w3.heap.size (kk.map wv) (by rfl) (by rfl) 205 (wz 64) (heap_alloc_new w3 _) (by rfl) (by kernel_rfl) (wv_one kk) ?_; intro w4 hr4 hg4)
    | (refine wl_load (by rfl) 192 _ (by rfl) w.heap.size (by rfl) 192 s.vs ((hS3.below (below_alloc w3 _)).grown hg4 (by simp; omega)) _ Tryz.und35 rfl Tryz.siz35 ?_)
    | (refine wl_store (by rfl) 192 _ _ (by rfl) w4.heap.size s.vs (by rfl) (by rfl) 192 zero8.vs (heap_alloc_new w4 _) (by rfl) Tryz.siz35 (wv_one s.ws) ?_; intro w5 hr5 hg5))
  have hK4 : Row w4 w3.heap.size 205 (kk.map wv) := hr4.out
  have hby : Below w3.heap.size w3 w4 := (below_alloc w3 _).trans (grown_below hg4 (by simp) (fun k hk => by cases hk; exact Nat.le_refl _))
  have hbz : Below w4.heap.size w4 w5 := (below_alloc w4 _).trans (grown_below hg5 (by simp) (fun k hk => by cases hk; exact Nat.le_refl _))
  have hV5 : Row w5 w4.heap.size 192 s.vs := hr5.out
  have hS5 := (hS3.below hby).below hbz
  have hR5 := (hR3.below hby).below hbz
  have hW5 := (hW3.below hby).below hbz
  have hK5 := hK4.below hbz
  have hB5 := below_and (below_and hB3 le hby) le hbz
  have hz3 := hK4.lt
  clear hS3 hR3 hW3 hB3 hK4 hby hbz hr4 hg4 hr5 hg5
  go_loopw [8] (fun i wr => ∃ k : Nat, k ≤ 64 ∧ i = .int .i64 k ∧ Row wr w4.heap.size 192 (rnd ws s k).vs ∧ w5.grownBy wr (some w4.heap.size)) (fun i _ => 64 - (intOf i).toNat)
  case atStart => exact ⟨0, by omega, rfl, hV5, grown_refl _ _⟩
  case round =>
    obtain ⟨k, hk, rfl, hrk, hgk⟩ := hrel
    by_cases hk64 : k < 64
    · have cw : wr.cell? ⟨w1.heap.size, k, none⟩ = some (.int .u32 (wi (ws.getD k 0))) := (hW5.grown hgk (by simp; omega)).cell (HWA.out k hk64)
      have ck : wr.cell? ⟨w3.heap.size, k, none⟩ = some (.int .u32 (wi (kk.getD k 0))) := (hK5.grown hgk (by simp; omega)).cell (HKA.out k hk64)
      obtain ⟨V, hV⟩ : ∃ V, V = rnd ws s k := ⟨_, rfl⟩
      rw [← hV] at hrk
      have HR := (show Hid (rnd ws s (k + 1) = rstep V (kk.getD k 0 + ws.getD k 0)) by rw [hV]; rfl)
      obtain ⟨x, hx⟩ : ∃ x, x = ws.getD k 0 := ⟨_, rfl⟩
      obtain ⟨y, hy⟩ : ∃ y, y = kk.getD k 0 := ⟨_, rfl⟩
      rw [← hx] at cw HR
      rw [← hy] at ck HR
      have hiw : ∀ u : World, (Instr.indexAt 205 (.pointer (some ⟨w1.heap.size, 0, none⟩)) (.int .i64 (k : Int))).run Tryz.prog u = .ok (.pointer (some ⟨w1.heap.size, k, none⟩)) u := run_ix w1.heap.size k hk64
      have hik : ∀ u : World, (Instr.indexAt 205 (.pointer (some ⟨w3.heap.size, 0, none⟩)) (.int .i64 (k : Int))).run Tryz.prog u = .ok (.pointer (some ⟨w3.heap.size, k, none⟩)) u := run_ix w3.heap.size k hk64
      have c0 : wr.cell? ⟨w4.heap.size, 0, none⟩ = some (.int .u32 (wi V.a)) := hrk.cell rfl
      have c1 : wr.cell? ⟨w4.heap.size, 1, none⟩ = some (.int .u32 (wi V.b)) := hrk.cell rfl
      have c2 : wr.cell? ⟨w4.heap.size, 2, none⟩ = some (.int .u32 (wi V.c)) := hrk.cell rfl
      have c3 : wr.cell? ⟨w4.heap.size, 3, none⟩ = some (.int .u32 (wi V.d)) := hrk.cell rfl
      have c4 : wr.cell? ⟨w4.heap.size, 4, none⟩ = some (.int .u32 (wi V.e)) := hrk.cell rfl
      have c5 : wr.cell? ⟨w4.heap.size, 5, none⟩ = some (.int .u32 (wi V.f)) := hrk.cell rfl
      have c6 : wr.cell? ⟨w4.heap.size, 6, none⟩ = some (.int .u32 (wi V.g)) := hrk.cell rfl
      have c7 : wr.cell? ⟨w4.heap.size, 7, none⟩ = some (.int .u32 (wi V.h)) := hrk.cell rfl
      clear hV hx hy
      go_wp2_with fail
      go_quiet (fail)
      go_wp2_with fail
      go_quiet ((go_at_call 183; exact quiet_as (turn_all _ V.e _ (by decide)) rfl))
      go_wp2_with fail
      refine (turn_all _ V.a _ (by decide)).mono ?_
      rintro e wq ⟨rfl, rfl⟩
      go_wp2_with fail
      refine (turn_all _ V.a _ (by decide)).mono ?_
      rintro e wq ⟨rfl, rfl⟩
      go_wp2_with fail
      refine (turn_all _ V.a _ (by decide)).mono ?_
      rintro e wq ⟨rfl, rfl⟩
      go_wp2_with (refine wl_store (by rfl) 192 _ _ (by rfl) w4.heap.size [.int .u32 _, .int .u32 _, .int .u32 _, .int .u32 _, .int .u32 _, .int .u32 _, .int .u32 _, .int .u32 _] (by rfl) (by rfl) 192 V.vs hrk (by rfl) Tryz.siz35 (eight_one _ _ _ _ _ _ _ _) ?_; intro w6 hr6 hg6)
      have HR6 := (show Hid (Row w6 w4.heap.size 192 (rnd ws s (k + 1)).vs) by
        have h6 := hr6.out
        simp only [bits_not', bits_and, bits_or, bits_xor, mod_wi, ofInt_sum, ofInt_wi] at h6
        show Row _ _ _ _
        rw [HR.out, rstep_two]
        exact h6)
      have hg6' := grown_trans hgk (grown_drewN hg6) (.inl rfl)
      clear hr6 hg6 hgk hrk cw ck c0 c1 c2 c3 c4 c5 c6 c7 HR
      go_roundw
      case rel => exact ⟨k + 1, by omega, by go_num, HR6, hg6'⟩
      case measure => simp [intOf]; omega
    · have hrV : Row wr w4.heap.size 192 Vf.vs := by rw [HV.out, show 64 = k by omega]; exact hrk
      have hS6 := hS5.grown hgk (by simp; omega)
      have hR6 := hR5.grown hgk (by simp; omega)
      have hB6 : Below w.heap.size w wr := hB5.trans (grown_below hgk hB5.size (fun j hj => by cases hj; omega))
      clear hrk HV hgk hS5 hR5 hW5 hK5 hB5 hV5 HWA HKA
      obtain ⟨wx, hwx⟩ : ∃ u, u = wr := ⟨_, rfl⟩
      go_wp2_with fail
      go_loopw [17] (fun i wr => ∃ j : Nat, j ≤ 8 ∧ i = .int .i64 j ∧ Row wr w.heap.size 192 ((raised s Vf j).map wv) ∧ wx.grownBy wr (some w.heap.size)) (fun i _ => 8 - (intOf i).toNat)
      case atStart => exact ⟨0, by omega, rfl, hS6, by rw [hwx]; exact grown_refl _ _⟩
      case round =>
        rw [← hwx] at hrV hR6 hB6
        clear hS6
        obtain ⟨j, hj, rfl, hrj, hgj⟩ := hrel
        by_cases hj8 : j < 8
        · have cV : wr.cell? ⟨w4.heap.size, j, none⟩ = some (.int .u32 (wi (Vf.ws.getD j 0))) := (hrV.grown hgj (by simp; omega)).cell (by rcases (by omega : j = 0 ∨ j = 1 ∨ j = 2 ∨ j = 3 ∨ j = 4 ∨ j = 5 ∨ j = 6 ∨ j = 7) with rfl | rfl | rfl | rfl | rfl | rfl | rfl | rfl <;> rfl)
          have cS : wr.cell? ⟨w.heap.size, j, none⟩ = some (.int .u32 (wi (s.ws.getD j 0))) := hrj.cell (by rw [List.getElem?_map, raised_at s Vf j hj8]; rfl)
          have fS := hrj.frozen j
          have h1 : ∀ u : World, (Instr.indexAt 192 (.pointer (some ⟨w.heap.size, 0, none⟩)) (.int .i64 (j : Int))).run Tryz.prog u = .ok (.pointer (some ⟨w.heap.size, j, none⟩)) u := run_ix8' _ j hj8
          have h2 : ∀ u : World, (Instr.indexAt 192 (.pointer (some ⟨w4.heap.size, 0, none⟩)) (.int .i64 (j : Int))).run Tryz.prog u = .ok (.pointer (some ⟨w4.heap.size, j, none⟩)) u := run_ix8' _ j hj8
          go_wp2_with fail
          go_region
          go_wp2_with fail
          go_roundw
          case rel =>
            rw [add_wi]
            refine ⟨j + 1, by omega, by go_num, ?_, grown_to_drew (grown_trans hgj (grown_set _ _ _ _) (.inl rfl))⟩
            have hs := raised_set' s Vf j hj8 []
            rw [List.append_nil, List.append_nil] at hs
            rw [← hs]
            exact (hrj.set j _).drew
          case measure => simp [intOf]; omega
        · have hrf : Row wr w.heap.size 192 (s.add Vf).vs := by
            rw [show j = 8 by omega] at hrj
            exact hrj
          have hRf := hR6.grown hgj (by simp)
          have hBf : Below w.heap.size w wr := hB6.trans (grown_below hgj hB6.size (fun j hj => by cases hj; omega))
          clear hrj hgj hR6 hB6 hrV
          go_wp2_with (first
            | (refine wl_load (by rfl) 192 _ (by rfl) w.heap.size (by rfl) 192 (s.add Vf).vs hrf _ Tryz.und35 rfl Tryz.siz35 ?_)
            | (refine wl_store (by rfl) 192 _ _ (by rfl) (w.heap.size + 1) (s.add Vf).vs (by rfl) (by rfl) 192 zero8.vs hRf (by rfl) Tryz.siz35 (wv_one (s.add Vf).ws) ?_; intro w9 hr9 hg9))
          exact bodyPost_ret (v := .agg (s.add Vf).vs.toArray) (results_cell_row rfl _ _ (w.heap.size + 1) _ (s.add Vf).vs.toArray (0, 0) _ (by rfl) hr9.out Tryz.und35 rfl (by kernel_rfl)) rfl ⟨rfl, hBf.trans (grown_below hg9 hBf.size (fun k hk => by cases hk; omega))⟩
end
section
open Go.RowKit Oct Sha
theorem zs_end (n z : Nat) (hz : z ≤ zs n) : ((n + 1 + z) % 64 = 56) ↔ z = zs n := by unfold zs at *; omega
theorem Own.slen {w : World} {e : TypeId} {v : Value} {xs : List Value} (h : Own w e v xs) : slen v = xs.length := by
  obtain ⟨ao, cap, rfl, _⟩ := h.form
  rfl
theorem rep_snoc (z : Nat) (l : List Int) : (l ++ 128 :: List.replicate z 0) ++ [0] = l ++ 128 :: List.replicate (z + 1) 0 := by
  rw [List.replicate_succ']
  simp
theorem zs_lt (n : Nat) : zs n < 64 := by unfold zs; omega
set_option maxHeartbeats 1000000 in
theorem pad_any (w : World) (v : Value) (l : List Int) (hrd : Rd w v l) (hlen : l.length ≤ 140737488351232) :
    Calls Tryz.prog 168 #[v] w fun e w' => ∃ r, e = .returned r ∧ Own w' 5 r (bc (pad l)) ∧ Fr w.heap.size r ∧ Below w.heap.size w w' := by
  have le := Nat.le_refl w.heap.size
  obtain ⟨av, vcap, rfl, hvcap⟩ := hrd.form
  go_enter Tryz.func168, Tryz.ntmps168
  go_wp2_with (first
    | (at_builtin; refine app_bytes rfl _ _ rfl o1 l rfl (World.ownsRow.alloc hown1 _) _ [128] rfl (rdv_one w1 _ _) (by simp only [List.length_cons, List.length_nil]; omega) ?_; intro o2 w2 happ2)
    | (at_builtin; refine app_copy rfl _ _ rfl rfl _ l rfl hrd (by omega) ?_; intro o1 w1 hown1 hfr1 hb1))
  have hp2 := happ2.pre (below_alloc w1 _)
  have hown2 : Own w2 5 o2 (bc (l ++ 128 :: List.replicate 0 0)) := hp2.own
  have hfr2 := hp2.fr hfr1 hb1.size
  have hB2 : Below w.heap.size w w2 := hb1.trans (hp2.below hfr1 hb1.size)
  clear hp2 happ2 hown1 hfr1 hb1 hrd
  go_loopw [3] (fun o wr => ∃ z : Nat, z ≤ zs l.length ∧ Own wr 5 o (bc (l ++ 128 :: List.replicate z 0)) ∧ Fr w.heap.size o ∧ Below w.heap.size w wr) (fun o _ => l.length + 100 - slen o)
  case atStart => exact ⟨0, Nat.zero_le _, hown2, hfr2, hB2⟩
  case round =>
    clear hown2 hfr2 hB2
    obtain ⟨z, hz, hok, hfk, hbk⟩ := hrel
    have hzl := zs_lt l.length
    obtain ⟨q, hq⟩ : ∃ q : Nat, q = l.length + 1 + z := ⟨_, rfl⟩
    have hlz : (bc (l ++ 128 :: List.replicate z 0)).length = q := by rw [hq]; simp [bc_len]; omega
    have hq1 : q ≤ l.length + 1 + z := by omega
    have hq2 : l.length + 1 + z ≤ q := by omega
    clear hq
    obtain ⟨ao, cap, rfl, hcap⟩ := hok.form
    rw [hlz] at hok hfk ⊢
    by_cases hend : z < zs l.length
    · have hne : ¬ (q : Int) % 64 = 56 := by
        have := zs_end l.length z hz
        omega
      have hll : (l ++ 128 :: List.replicate z (0 : Int)).length = q := by simpa [bc_len] using hlz
      have HLL := (show Hid ((l ++ 128 :: List.replicate z (0 : Int)).length = q) from hll)
      clear hlz hll
      go_wp2_with (at_builtin; refine app_bytes rfl _ _ rfl _ (l ++ 128 :: List.replicate z 0) rfl (World.ownsRow.alloc hok _) _ [0] rfl (rdv_one wr _ _) (by rw [HLL.out]; simp only [List.length_cons, List.length_nil]; omega) ?_; intro o3 w3 happ3)
      have hp3 := happ3.pre (below_alloc wr _)
      have HO := (show Hid (Own w3 5 o3 (bc (l ++ 128 :: List.replicate (z + 1) 0))) by rw [← rep_snoc]; exact hp3.own)
      have hf3 := hp3.fr hfk hbk.size
      have hb3 := hbk.trans (hp3.below hfk hbk.size)
      have hsl : slen o3 = q + 1 := by rw [hp3.own.slen, bc_len, List.length_append, HLL.out]; rfl
      have HSL := (show Hid (slen o3 = q + 1) from hsl)
      clear hp3 happ3 hok hfk hbk hsl
      go_roundw
      case rel => exact ⟨z + 1, by omega, HO, hf3, hb3⟩
      case measure =>
        show l.length + 100 - slen o3 < l.length + 100 - q
        rw [HSL.out]
        omega
    · have hzz : z = zs l.length := by omega
      have heq : (q : Int) % 64 = 56 := by
        have := zs_end l.length z hz
        omega
      obtain ⟨N, hN⟩ : ∃ N : Int, N = 8 * (l.length : Int) := ⟨_, rfl⟩
      have hN' : (l.length : Int) * 8 = N := by omega
      have hN0 : 0 ≤ N := by omega
      have hN1 : N < 18446744073709551616 := by omega
      have HP := (show Hid (pad l = (l ++ 128 :: List.replicate z 0) ++ be8 N) by show pad l = _; rw [pad, hN, hzz, List.append_assoc, List.cons_append])
      obtain ⟨L, hL⟩ : ∃ L, L = l ++ 128 :: List.replicate z (0 : Int) := ⟨_, rfl⟩
      have hLl : L.length ≤ 140737488351400 := by rw [hL]; simp only [List.length_append, List.length_cons, List.length_replicate]; omega
      rw [← hL] at hok HP
      have HLL := (show Hid (L.length ≤ 140737488351400) from hLl)
      have HN := (show Hid (0 ≤ N ∧ N < 18446744073709551616) from ⟨hN0, hN1⟩)
      clear hlz hL hN hzz hLl hzl hend hz
      go_wp2_with fail
      clear hN' hN0 hN1 heq
      go_loopw [3, 5] (fun o i wr => ∃ k : Nat, k ≤ 8 ∧ i = .int .i64 (7 - (k : Int)) ∧ Own wr 5 o (bc (L ++ (be8 N).take k)) ∧ Fr w.heap.size o ∧ Below w.heap.size w wr) (fun _ i _ => (intOf i + 1).toNat)
      case atStart => exact ⟨0, by omega, rfl, by rw [List.take_zero, List.append_nil]; exact hok, hfk, hbk⟩
      case round =>
        clear hok hfk hbk
        obtain ⟨k, hk, rfl, hok, hfk, hbk⟩ := hrel
        by_cases hk8 : k < 8
        · obtain ⟨m, hm⟩ : ∃ m : Nat, (8 : Int) * (7 - (k : Int)) = m := ⟨56 - 8 * k, by omega⟩
          have HM := (show Hid (N / 2 ^ m % 256 = (be8 N).getD k 0) from byte_at N k hk8 m (by omega))
          have hge : (0 : Int) ≤ 7 - (k : Int) := by omega
          have HX := (show Hid (L ++ (be8 N).take (k + 1) = (L ++ (be8 N).take k) ++ [(be8 N).getD k 0]) by
            show L ++ (be8 N).take (k + 1) = _
            have hb : k < (be8 N).length := by rw [be8_len]; exact hk8
            rw [List.append_assoc, List.take_add_one, List.getElem?_eq_getElem hb]
            simp [List.getD, List.getElem?_eq_getElem hb])
          have HT := (show Hid ((L ++ (be8 N).take k).length ≤ 140737488351408) by
            show (L ++ (be8 N).take k).length ≤ _
            rw [List.length_append, List.length_take, be8_len]
            have := HLL.out
            omega)
          have hm0 : (0 : Int) ≤ (m : Int) := by omega
          go_wp2_with (at_builtin; refine app_bytes rfl _ _ rfl _ (L ++ (be8 N).take k) rfl (World.ownsRow.alloc hok _) _ [N / 2 ^ m % 256] rfl (rdv_one wr _ _) (by have := HT.out; simp only [List.length_cons, List.length_nil]; omega) ?_; intro o4 w4 happ4)
          have hp4 := happ4.pre (below_alloc wr _)
          have HO := (show Hid (Own w4 5 o4 (bc (L ++ (be8 N).take (k + 1)))) by
            show Own _ _ _ _
            rw [HX.out, ← HM.out]
            exact hp4.own)
          have hf4 := hp4.fr hfk hbk.size
          have hb4 := hbk.trans (hp4.below hfk hbk.size)
          clear hp4 happ4 hok hfk hbk
          go_roundw
          case rel => exact ⟨k + 1, by omega, by go_num, HO, hf4, hb4⟩
          case measure => simp [intOf]; omega
        · have hlt0 : ¬ (0 : Int) ≤ 7 - (k : Int) := by omega
          have hok' : Own wr 5 u3 (bc (pad l)) := by
            rw [HP.out]
            rwa [List.take_of_length_le (by rw [be8_len]; omega)] at hok
          go_wp2_with fail
          go_ret
          exact ⟨_, rfl, hok', hfk, hbk⟩
end
end Go.Proofs.YtgbfmccecnfooaaGreatDoor
