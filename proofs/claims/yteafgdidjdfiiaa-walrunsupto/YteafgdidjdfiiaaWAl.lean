/- catenarylaw12.walAlive. -/
import Derived.Test.YteafgdidjdfiiaaWc
import Derived.Test.YteafgdidjdfiiaaDAl
set_option linter.unusedVariables false
set_option linter.unusedSimpArgs false
namespace Go.Proofs.Yteafgdidjdfiiaa
open Go.RowKit Oct

/-- A constant's bytes are added. -/
theorem add_lit (w : World) (g b : Nat) (v : Value) (d : PDk) (xs : List Int) (fr : Nat × Nat) (hx : Byt xs) (h0 : 0 < xs.length) (h1 : xs.length ≤ 1000) (hg : Row w g 72 (lgc b)) (h : Dsk w b v d) :
    Calls Try.prog 17 #[.pointer (some ⟨g, 0, none⟩), .slice (some ⟨w.heap.size, 0, none⟩) xs.length xs.length] (w.alloc (.cells (bc xs).toArray 5 fr)) fun e w' => ∃ v', e = .returned (.int .i64 (apD d (frm xs)).2) ∧ Dsk w' b v' (apD d (frm xs)).1 ∧ Gr2 w w' b v ∧ Spt w v v' := by
  have hal := below_alloc w (.cells (bc xs).toArray 5 fr)
  refine (addW_any (w.alloc (.cells (bc xs).toArray 5 fr)) g b v _ d xs (hg.below hal) (h.below hal) (rd_litD w xs 5 fr hx h0 h1) (by omega)).mono ?_
  rintro e w' ⟨v', e1, e2, e3, e4⟩
  exact ⟨v', e1, e2, (Gr2.bel hal).trans (.inl rfl) e3, e4.imp id (fun h => h.mono hal.size)⟩
theorem Spt.fr {w : World} {v v' : Value} {B : Nat} (h : Spt w v v') (hf : Fr B v) (hB : B ≤ w.heap.size) : Fr B v' := by
  rcases h with h | h
  · exact fun k hk => hf k (h ▸ hk)
  · exact h.mono hB
theorem els_nil {w : World} {us : List Value} (h : Els w us []) : us = [] := by
  cases us with
  | nil => rfl
  | cons x r => exact h.elim
theorem els_single {w : World} {us : List Value} {l : List Int} (h : Els w us [l]) : ∃ c, us = [c] ∧ Own w 5 c (bc l) := by
  match us, h with
  | [c], h => exact ⟨c, rfl, h.1⟩

set_option maxRecDepth 10000 in
set_option maxHeartbeats 1000000 in
theorem walAlive_any (w : World) : Calls Try.prog 7 #[] w fun e w' => e = .returned (.bool true) ∧ Below w.heap.size w w' := by
  have hcv := run_cvtD
  have le := Nat.le_refl w.heap.size
  go_enter Try.func7, Try.ntmps7
  go_wp2_with fail
  refine (newD_any w 100).mono ?_
  rintro e w1 ⟨b, rfl, hb, hd1, hB1⟩
  go_wp2_with fail
  refine (openW_any w1 b _ _ hd1).mono ?_
  rintro e w2 ⟨v2, m2, o2, us2, rfl, hd2, hg2, hs2, hm2, _, ho2, he2, hf2, _⟩
  have e2 : opT (nwD 100) = (nwD 100, 0) := by kernel_rfl
  have e2' : opL (nwD 100) = [] := by kernel_rfl
  rw [e2] at hd2 hm2 ⊢
  rw [e2'] at he2
  obtain ⟨g, rfl, hgw, hr2⟩ := hm2 rfl
  obtain rfl := els_nil he2
  obtain ⟨a2, c2, rfl, _⟩ := ho2.form
  have hB2 : Below w.heap.size w w2 := hB1.trans (hg2.below hB1.size hb (Fr.nil _))
  have hv2 : Fr w.heap.size v2 := hs2.fr (Fr.nil _) hB1.size
  clear hm2 ho2 he2 hf2 hs2 hg2 hd1 e2 e2'
  go_wp2_with fail
  refine (add_lit w2 g b _ _ [120] (1, 2) (byt_ofD (by decide)) (by decide) (by decide) hr2 hd2).mono ?_
  rintro e w3 ⟨v3, rfl, hd3, hg3, hs3⟩
  have e3 : apD (nwD 100) (frm [120]) = (⟨[1, 120], 100, false, false, 0, 0⟩, 0) := by kernel_rfl
  rw [e3] at hd3 ⊢
  have hr3 := hg3.lg hd2 hr2
  have hB3 : Below w.heap.size w w3 := hB2.trans (hg3.below hB2.size hb hv2)
  have hv3 : Fr w.heap.size v3 := hs3.fr hv2 hB2.size
  clear hs3 hg3 hd2 hr2 e3
  go_wp2_with fail
  refine (break_any w3 b _ _ 0 1 hd3 (by decide)).mono ?_
  rintro e w4 ⟨rfl, hd4, hg4⟩
  have hr4 := (Gr2.of (v := v3) hg4).lg hd3 hr3
  have hB4 : Below w.heap.size w w4 := hB3.trans (grown_below hg4 hB3.size (fun k hk => by cases hk; exact hb))
  clear hg4 hd3 hr3
  go_wp2_with fail
  refine (add_lit w4 g b _ _ [121, 122] (2, 3) (byt_ofD (by decide)) (by decide) (by decide) hr4 hd4).mono ?_
  rintro e w5 ⟨v5, rfl, hd5, hg5, hs5⟩
  have e5 : apD (bkD ⟨[1, 120], 100, false, false, 0, 0⟩ 0 1) (frm [121, 122]) = (⟨[1, 120, 2], 100, true, false, 0, 0⟩, 115) := by kernel_rfl
  rw [e5] at hd5 ⊢
  have hB5 : Below w.heap.size w w5 := hB4.trans (hg5.below hB4.size hb hv3)
  have hv5 : Fr w.heap.size v5 := hs5.fr hv3 hB4.size
  clear hs5 hg5 hd4 hr4 e5
  go_wp2_with fail
  refine (mend_any w5 b _ _ hd5).mono ?_
  rintro e w6 ⟨rfl, hd6, hg6⟩
  have hB6 : Below w.heap.size w w6 := hB5.trans (grown_below hg6 hB5.size (fun k hk => by cases hk; exact hb))
  clear hg6 hd5
  go_wp2_with fail
  refine (openW_any w6 b _ _ hd6).mono ?_
  rintro e w7 ⟨v7, m7, o7, us7, rfl, hd7, hg7, hs7, hm7, _, ho7, he7, hf7, _⟩
  have e7 : opT (meD ⟨[1, 120, 2], 100, true, false, 0, 0⟩) = (⟨[1, 120], 100, false, false, 0, 0⟩, 0) := by kernel_rfl
  have e7' : opL (meD ⟨[1, 120, 2], 100, true, false, 0, 0⟩) = [[120]] := by kernel_rfl
  rw [e7] at hd7 hm7 ⊢
  rw [e7'] at he7
  obtain ⟨c7, rfl, hc7⟩ := els_single he7
  obtain ⟨bb, off, cap, rfl, hc1, hc2, _, hcell⟩ := ho7.rdv.at (by simp)
  have hcell0 := hcell 0 c7 rfl
  rw [Nat.add_zero] at hcell0
  have hB7 : Below w.heap.size w w7 := hB6.trans (hg7.below hB6.size hb hv5)
  have hs := run_str (hc7.rd (byt_ofD (by decide)))
  have he : strOfNums [120] = ⟨#[120]⟩ := by kernel_rfl
  rw [he] at hs
  clear hm7 ho7 he7 hf7 hs7 hg7 hd6 e7 e7' hcell
  go_wp2_with fail
  refine (bytesD_any w7 b _ _ hd7).mono ?_
  rintro e w8 ⟨o8, rfl, ho8, hf8, hb8⟩
  have hB8 := below_and hB7 le hb8
  obtain ⟨a8, c8, rfl, _⟩ := ho8.form
  go_wp2_with fail
  go_ret
  exact ⟨rfl, hB8⟩
end Go.Proofs.Yteafgdidjdfiiaa
