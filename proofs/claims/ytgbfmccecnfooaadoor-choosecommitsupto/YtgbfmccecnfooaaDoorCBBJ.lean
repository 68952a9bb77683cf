/- clone.Req, whose text can be written over; picks with the blocks of their texts; what a loop over picks' bytes leaves. Written by mk20q.py. -/
import Derived.Test.YtgbfmccecnfooaaDoorCBBH
import Derived.Test.YtgbfmccecnfooaaDoorCBAZ
import Derived.Laws.BitsAllLaws
set_option linter.unusedSimpArgs false
set_option linter.unusedVariables false
namespace Go.Proofs.YtgbfmccecnfooaaDoor
open Go.RowKit Oct
/-- A request whose operation is memory of its own. -/
def ROq (G : Nat → Prop) (w : World) (r : List Value) (x : PReq) : Prop := ∃ o g, r = [.int .i64 x.1, .int .i64 x.2.1, o, g] ∧ OT G w o x.2.2.1 ∧ RT G w g x.2.2.2
theorem mov_oq : Mov ROq := fun _ _ _ _ _ _ h _ hm => by
  obtain ⟨o, g, e, h1, h2⟩ := h
  exact ⟨o, g, e, h1.mv hm, h2.mv hm⟩
theorem ROq.req {G : Nat → Prop} {w : World} {r : List Value} {x : PReq} (h : ROq G w r x) : RReq G w r x := by
  obtain ⟨o, g, e, h1, h2⟩ := h
  exact ⟨o, g, e, h1.rt, h2⟩
set_option maxRecDepth 10000 in
set_option maxHeartbeats 4000000 in
theorem cloneReqO_any (w : World) (r : List Value) (x : PReq) (h : RReq Any w r x) (hz : szQ x) :
    Calls Tryd.prog 31 #[.agg r.toArray] w fun e w' => ∃ r', e = .returned (.agg r'.toArray) ∧ ROq (From w.heap.size) w' r' x ∧ Below w.heap.size w w' := by
  obtain ⟨o1, o2, rfl, t1, t2⟩ := h
  obtain ⟨w2, hw2⟩ : ∃ w2, w2 = (w.alloc (.cells #[.int .i64 x.1, .int .i64 x.2.1, o1, o2] 36)).alloc (.cells #[.int .i64 0, .int .i64 0, .slice none 0 0, .slice none 0 0] 36) := ⟨_, rfl⟩
  have ra : Row w2 w.heap.size 36 [.int .i64 x.1, .int .i64 x.2.1, o1, o2] := by rw [hw2]; exact rowA (Row.new w 36 _) _
  have rr : Row w2 (w.heap.size + 1) 36 [.int .i64 0, .int .i64 0, .slice none 0 0, .slice none 0 0] := by
    have h1 : (w.alloc (.cells #[.int .i64 x.1, .int .i64 x.2.1, o1, o2] 36)).heap.size = w.heap.size + 1 := by simp
    rw [hw2, ← h1]
    exact Row.new (w.alloc (.cells #[.int .i64 x.1, .int .i64 x.2.1, o1, o2] 36)) 36 [.int .i64 0, .int .i64 0, .slice none 0 0, .slice none 0 0]
  have B : Below w.heap.size w w2 := by rw [hw2]; exact ((Below.refl _ w).alloc (Nat.le_refl _) _).alloc (by simp) _
  have hC : w.heap.size + 2 ≤ w2.heap.size := by rw [hw2]; simp
  go_enter Tryd.func31, Tryd.ntmps31
  go_upto_region 1 with fail
  rw [← hw2]
  clear hw2
  have hI := (t1.mv (Mv.below B))
  have cI := ra.cell (j := 2) rfl
  have hG := clone_own w2 _ _ hI.1 (Nat.le_trans (hz.1) (by decide))
  go_upto_region 2 with (first
    | (go_at_call 45; refine hG.mono ?_; rintro e wa0 ⟨v0, rfl, p0, q0, hb0⟩; have f0 := OT.own p0 hI.1.1 q0; clear p0 q0; have rai := ra.below hb0)
    | (refine wl_set rfl _ _ _ rfl w.heap.size 2 _ rfl rfl _ _ rai (show 2 < 4 by decide) (by kernel_rfl) f0.one ?_; intro wb0 rbi hg0))
  have ra : Row wb0 w.heap.size 36 [.int .i64 x.1, .int .i64 x.2.1, v0, o2] := rbi.out
  have rr := (rr.below hb0).grown hg0 (fun h => by injection h; omega)
  have f0 := ((f0.mv (Mv.weak (L := w.heap.size + 2) hC)).mv (Mv.from hg0 (by omega) (Nat.le_refl _)))
  have B : Below w.heap.size w wb0 := (below_and B (Nat.le_refl _) hb0).trans (grown_below hg0 (below_and B (Nat.le_refl _) hb0).size (fun k hk => by cases hk; exact Nat.le_refl _))
  have hC := Nat.le_trans hC (Nat.le_trans hb0.size hg0.size)
  clear hG hI rai rbi hb0 hg0 cI
  have hI := (t2.mv (Mv.below B))
  have cI := ra.cell (j := 3) rfl
  have hG := clone_any wb0 _ _ hI.1 (Nat.le_trans (hz.2) (by decide))
  go_upto_region 3 with (first
    | (go_at_call 45; refine hG.mono ?_; rintro e wa1 ⟨v1, rfl, f1, hb1⟩; have rai := ra.below hb1)
    | (refine wl_set rfl _ _ _ rfl w.heap.size 3 _ rfl rfl _ _ rai (show 3 < 4 by decide) (by kernel_rfl) f1.one ?_; intro wb1 rbi hg1))
  have ra : Row wb1 w.heap.size 36 [.int .i64 x.1, .int .i64 x.2.1, v0, v1] := rbi.out
  have rr := (rr.below hb1).grown hg1 (fun h => by injection h; omega)
  have f0 := ((f0.mv (Mv.belowF hb1 (Nat.le_refl _))).mv (Mv.from hg1 (by omega) (Nat.le_refl _)))
  have f1 := ((f1.mv (Mv.weak (L := w.heap.size + 2) hC)).mv (Mv.from hg1 (by omega) (Nat.le_refl _)))
  have B : Below w.heap.size w wb1 := (below_and B (Nat.le_refl _) hb1).trans (grown_below hg1 (below_and B (Nat.le_refl _) hb1).size (fun k hk => by cases hk; exact Nat.le_refl _))
  have hC := Nat.le_trans hC (Nat.le_trans hb1.size hg1.size)
  clear hG hI rai rbi hb1 hg1 cI
  have hone : ∀ v ∈ [.int .i64 x.1, .int .i64 x.2.1, v0, v1], v.oneCell' = true := by
    intro v hv
    have k_f0 := f0.one; have k_f1 := f1.one
    simp only [List.mem_cons, List.not_mem_nil, or_false] at hv
    rcases hv with rfl | rfl | rfl | rfl <;> first | rfl | assumption
  go_wp2_with (first
    | (refine wl_load rfl _ _ rfl w.heap.size rfl _ _ ra _ Tryd.underlying36 rfl (by kernel_rfl) ?_)
    | (refine wl_store rfl _ _ _ rfl (w.heap.size + 1) [.int .i64 x.1, .int .i64 x.2.1, v0, v1] rfl rfl _ _ rr rfl (by kernel_rfl) hone ?_; intro w9 rr9 hg9))
  have B9 : Below w.heap.size w w9 := B.trans (grown_below hg9 B.size (fun k hk => by cases hk; omega))
  have f0 := ((f0.mv (Mv.from hg9 (by omega) (Nat.le_refl _))).mv (Mv.weak (L := w.heap.size) (by omega)))
  have f1 := ((f1.mv (Mv.from hg9 (by omega) (Nat.le_refl _))).mv (Mv.weak (L := w.heap.size) (by omega)))
  refine bodyPost_ret (v := .agg ([.int .i64 x.1, .int .i64 x.2.1, v0, v1] : List Value).toArray) (results_cell_row rfl _ _ (w.heap.size + 1) _ _ (0, 0) _ (by rfl) rr9.out Tryd.underlying36 rfl (by kernel_rfl)) rfl ?_
  exact ⟨_, rfl, ⟨_, _, rfl, f0, f1⟩, B9⟩
/-- A pick, and the blocks between which its texts lie. -/
abbrev PZq := Nat × Nat × PReq
def RZq (G : Nat → Prop) (w : World) (r : List Value) (x : PZq) : Prop := ROq (fun k => G k ∧ x.1 ≤ k ∧ k < x.2.1) w r x.2.2
/-- The picks' blocks, one behind the other, from B on and below E. -/
def Asc (B E : Nat) : List PZq → Prop
  | [] => B ≤ E
  | z :: zs => B ≤ z.1 ∧ Asc z.2.1 E zs ∧ z.1 ≤ z.2.1
theorem Asc.le {E : Nat} : ∀ {zs : List PZq} {B : Nat}, Asc B E zs → B ≤ E
  | [], _, h => h
  | z :: zs, B, h => by have := Asc.le h.2.1; have := h.1; have := h.2.2; omega
theorem Asc.up {E F : Nat} (hE : E ≤ F) : ∀ {zs : List PZq} {B : Nat}, Asc B E zs → Asc B F zs
  | [], B, h => Nat.le_trans (show B ≤ E from h) hE
  | z :: zs, B, h => ⟨h.1, Asc.up hE h.2.1, h.2.2⟩
theorem Asc.mem {E : Nat} : ∀ {zs : List PZq} {B : Nat}, Asc B E zs → ∀ z ∈ zs, B ≤ z.1 ∧ z.2.1 ≤ E
  | [], _, _, z, hz => by cases hz
  | y :: zs, B, h, z, hz => by
    rcases List.mem_cons.1 hz with rfl | hz
    · exact ⟨h.1, Asc.le h.2.1⟩
    · have := Asc.mem h.2.1 z hz
      have := h.1; have := h.2.2
      omega
theorem Asc.take {E : Nat} : ∀ {zs : List PZq} {B i : Nat} {z : PZq}, Asc B E zs → zs[i]? = some z → ∀ y ∈ zs.take i, y.2.1 ≤ z.1
  | [], _, _, _, _, hi, _, _ => by simp at hi
  | x :: zs, B, 0, z, _, _, y, hy => by simp at hy
  | x :: zs, B, i + 1, z, h, hi, y, hy => by
    rw [List.take_succ_cons] at hy
    have hi : zs[i]? = some z := by simpa using hi
    rcases List.mem_cons.1 hy with rfl | hy
    · exact (Asc.mem h.2.1 z (List.mem_of_getElem? hi)).1
    · exact Asc.take h.2.1 hi y hy
/-- All that lies outside the first i picks' blocks is as it was, and so is block g. -/
structure Fz (g : Option Nat) (zs : List PZq) (i : Nat) (w0 w : World) : Prop where
  size : w0.heap.size ≤ w.heap.size
  blk : ∀ k, k < w0.heap.size → (g = some k ∨ ∀ z ∈ zs.take i, ¬ (z.1 ≤ k ∧ k < z.2.1)) → w.heap[k]? = w0.heap[k]?
theorem Fz.refl (g : Option Nat) (zs : List PZq) (w : World) : Fz g zs 0 w w := ⟨Nat.le_refl _, fun _ _ _ => rfl⟩
theorem take_sub {α : Type} {zs : List α} {i j : Nat} (h : i ≤ j) : ∀ z ∈ zs.take i, z ∈ zs.take j := fun z hz => by
  have e : zs.take i = (zs.take j).take i := by rw [List.take_take, Nat.min_eq_left h]
  rw [e] at hz
  exact List.mem_of_mem_take hz
theorem Fz.up {g : Option Nat} {zs : List PZq} {i j : Nat} {w0 w : World} (h : Fz g zs i w0 w) (hij : i ≤ j) : Fz g zs j w0 w :=
  ⟨h.size, fun k hk hn => h.blk k hk (hn.imp id fun hn z hz => hn z (take_sub hij z hz))⟩
theorem Fz.below {g : Option Nat} {zs : List PZq} {i : Nat} {w0 w w' : World} (h : Fz g zs i w0 w) (hb : Below w.heap.size w w') : Fz g zs i w0 w' :=
  ⟨Nat.le_trans h.size hb.size, fun k hk hn => (hb.block k (Nat.lt_of_lt_of_le hk h.size)).trans (h.blk k hk hn)⟩
theorem Fz.set {g : Option Nat} {zs : List PZq} {i : Nat} {w0 w w' : World} (h : Fz g zs (i + 1) w0 w) {z : PZq} (hz : zs[i]? = some z) {k : Nat} (hg : w.grownBy w' (some k)) (hk : z.1 ≤ k ∧ k < z.2.1) (hn : g ≠ some k) : Fz g zs (i + 1) w0 w' := by
  refine ⟨Nat.le_trans h.size hg.size, fun q hq hqn => ?_⟩
  have hne : q ≠ k := fun e => by
    subst e
    rcases hqn with e | hqn
    · exact hn e
    · refine hqn z ?_ hk
      rw [List.take_add_one, hz]
      exact List.mem_append_right _ (by simp)
  rw [hg.block q (Nat.lt_of_lt_of_le hq h.size) (fun e => hne (Option.some.inj e))]
  exact h.blk q hq hqn
/-- What pick i was is what it is. -/
theorem Fz.pick {g : Option Nat} {zs : List PZq} {i B E : Nat} {w0 w : World} (h : Fz g zs i w0 w) (ha : Asc B E zs) {z : PZq} (hz : zs[i]? = some z) {G : Nat → Prop} {r : List Value} (hr : RZq G w0 r z) : RZq G w r z :=
  mov_oq _ _ _ _ _ _ hr h.size fun k hk hl => ⟨h.blk k hl (.inr fun y hy hyk => by have := ha.take hz y hy; omega), hk⟩
end Go.Proofs.YtgbfmccecnfooaaDoor
