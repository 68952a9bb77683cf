/- The walks over the document's comparisons: votes. -/
import Derived.Test.YtgbfmccecnfooaaGreatDoorCLAE
import Derived.Lib.Bytealg
import Derived.Laws.Externs
import Derived.Test.YtgbfmccecnfooaaGreatDoorCLAH
import Derived.Deep.QuietTactic
import Derived.BigQuiet
set_option linter.unusedSimpArgs false
set_option linter.unusedVariables false
namespace Go.Proofs.YtgbfmccecnfooaaGreatDoor
section
open Go.RowKit Oct
/-- The letter of a field. -/
def lb : Nat → UInt8
  | 0 => 66 | 1 => 83 | 2 => 70 | 3 => 84 | 4 => 73 | 5 => 67 | 6 => 82 | 7 => 79 | 8 => 68 | 9 => 71 | 10 => 69 | 11 => 86 | 12 => 78 | 13 => 80 | _ => 76
def lt (i : Nat) : Int := ((lb i).toNat : Int)
/-- The letters of a kind's fields. -/
def fsB (k : Int) : ByteArray := ⟨((fl k).map lb).toArray⟩
theorem lt_bd {i : Nat} (h : i < 15) : 0 ≤ lt i ∧ lt i < 128 := by
  rcases lt15 h with rfl | rfl | rfl | rfl | rfl | rfl | rfl | rfl | rfl | rfl | rfl | rfl | rfl | rfl | rfl <;> decide
theorem lt_back {i : Nat} (h : i < 15) : (lt i).toNat.toUInt8 = lb i := by
  rcases lt15 h with rfl | rfl | rfl | rfl | rfl | rfl | rfl | rfl | rfl | rfl | rfl | rfl | rfl | rfl | rfl <;> decide
theorem lb_inj {x q : Nat} (hx : x < 15) (hq : q < 15) (h : lb x = lb q) : x = q := by
  rcases lt15 hx with rfl | rfl | rfl | rfl | rfl | rfl | rfl | rfl | rfl | rfl | rfl | rfl | rfl | rfl | rfl <;>
    (rcases lt15 hq with rfl | rfl | rfl | rfl | rfl | rfl | rfl | rfl | rfl | rfl | rfl | rfl | rfl | rfl | rfl <;> first | rfl | exact absurd h (by decide))
theorem idx_ge : ∀ (l : List UInt8) (c : UInt8), -1 ≤ Lib.indexByte l c
  | [], c => by simp [Lib.indexByte]
  | b :: l, c => by
    have := idx_ge l c
    unfold Lib.indexByte
    split
    · omega
    · split <;> omega
theorem idx_has : ∀ (fs : List Nat) (q : Nat), (∀ i ∈ fs, i < 15) → q < 15 → (0 ≤ Lib.indexByte (fs.map lb) (lb q) ↔ q ∈ fs)
  | [], q, _, _ => by simp [Lib.indexByte]
  | x :: fs, q, h, hq => by
    have ih := idx_has fs q (fun i hi => h i (by simp [hi])) hq
    have hg := idx_ge (fs.map lb) (lb q)
    simp only [List.map_cons]
    unfold Lib.indexByte
    by_cases e : lb x = lb q
    · have := lb_inj (h x (by simp)) hq e
      simp [this]
    · have hn : ¬ q = x := fun e' => e (by rw [e'])
      have e' : ¬ (lb x == lb q) = true := by simpa using e
      rw [if_neg e']
      simp only [List.mem_cons, hn, false_or]
      rw [← ih]
      split
      · next h1 => have h1 : Lib.indexByte (fs.map lb) (lb q) = -1 := by simpa using h1
                   omega
      · next h1 => have h1 : ¬ Lib.indexByte (fs.map lb) (lb q) = -1 := by simpa using h1
                   omega
theorem has_letter (k : Int) {q : Nat} (hq : q < 15) : decide (0 ≤ Lib.indexByte (fsB k).data.toList (lt q).toNat.toUInt8) = (fl k).contains q := by
  rw [lt_back hq]
  have := idx_has (fl k) q (nice_lt (fl_nice k)) hq
  show decide (0 ≤ Lib.indexByte ((fl k).map lb) (lb q)) = _
  rw [Bool.eq_iff_iff]
  simp [this]
theorem indexByteString_run (s : ByteArray) (c : Int) (w : World) : (callFunc 195 #[.string s, .int .u8 c]).run Tryz.prog w = .ok (.value (.int .i64 (Lib.indexByte s.data.toList c.toNat.toUInt8))) w := by
  rw [run_callFunc_extern Tryz.func195 (by kernel_rfl) (by kernel_rfl) (by kernel_rfl) (e := Extern.BytealgIndexByte.indexByte) (by kernel_rfl), Lib.run_indexByteString]
  rfl
theorem indexByte_lite (s : ByteArray) (c : Int) (w : World) : Calls Tryz.prog 192 #[.string s, .int .u8 c] w fun e w' => e = .returned (.int .i64 (Lib.indexByte s.data.toList c.toNat.toUInt8)) ∧ w' = w := by
  have hx := indexByteString_run s c
  generalize Lib.indexByte s.data.toList c.toNat.toUInt8 = r at *
  go_enter Tryz.func192, Tryz.ntmps192
  go_wp2_with fail
  go_ret
  exact ⟨rfl, rfl⟩
theorem indexByte_any (s : ByteArray) (c : Int) (w : World) : Calls Tryz.prog 185 #[.string s, .int .u8 c] w fun e w' => e = .returned (.int .i64 (Lib.indexByte s.data.toList c.toNat.toUInt8)) ∧ w' = w := by
  have hx := indexByte_lite s c w
  generalize Lib.indexByte s.data.toList c.toNat.toUInt8 = r at *
  go_enter Tryz.func185, Tryz.ntmps185
  go_wp2_with (go_at_call 192; refine hx.mono ?_; rintro e w1 ⟨rfl, rfl⟩)
  go_ret
  exact ⟨rfl, rfl⟩
set_option maxRecDepth 10000 in
set_option maxHeartbeats 1000000 in
theorem indexRune_any (s : ByteArray) (c : Int) (h0 : 0 ≤ c) (h1 : c < 128) (w : World) : Calls Tryz.prog 172 #[.string s, .int .i32 c] w fun e w' => e = .returned (.int .i64 (Lib.indexByte s.data.toList c.toNat.toUInt8)) ∧ w' = w := by
  have hx := indexByte_any s c w
  have hcv : c % 256 = c := Int.emod_eq_of_lt h0 (by omega)
  generalize Lib.indexByte s.data.toList c.toNat.toUInt8 = r at *
  go_enter Tryz.func172, Tryz.ntmps172
  go_wp2_with (go_at_call 185; refine hx.mono ?_; rintro e w1 ⟨rfl, rfl⟩)
  go_ret
  exact ⟨rfl, rfl⟩
/-- strings.ContainsRune: is the field one of the kind's? -/
theorem has_any (k : Int) (q : Nat) (hq : q < 15) (w : World) : Calls Tryz.prog 145 #[.string (fsB k), .int .i32 (lt q)] w fun e w' => e = .returned (.bool ((fl k).contains q)) ∧ w' = w := by
  have hb := lt_bd hq
  have hx := indexRune_any (fsB k) (lt q) hb.1 hb.2 w
  rw [← has_letter k hq]
  generalize Lib.indexByte (fsB k).data.toList (lt q).toNat.toUInt8 = r at *
  generalize lt q = c at *
  by_cases hr : 0 ≤ r
  · rw [decide_eq_true hr]
    go_enter Tryz.func145, Tryz.ntmps145
    go_wp2_with (go_at_call 172; refine hx.mono ?_; rintro e w1 ⟨rfl, rfl⟩)
    go_ret
    exact ⟨by simp, rfl⟩
  · rw [decide_eq_false hr]
    go_enter Tryz.func145, Tryz.ntmps145
    go_wp2_with (go_at_call 172; refine hx.mono ?_; rintro e w1 ⟨rfl, rfl⟩)
    go_ret
    exact ⟨by simp; omega, rfl⟩
end
section
open Go.RowKit Oct
theorem bel_dn {B : Nat} {a w : World} (h : Below B a w) (n : Nat) : Below B a (w.drewN n) := h.trans ⟨rfl, rfl, rfl, Nat.le_refl _, fun _ _ => rfl⟩
set_option maxHeartbeats 2000000 in
/-- SameVotes, of the same votes. -/
theorem sameVotes_eq (w : World) (u v : Value) (ys : List PVote) (h1 : RL RVote 2 Any w u ys) (h2 : RL RVote 2 Any w v ys) :
    Calls Tryz.prog 23 #[u, v] w fun e w' => e = .returned (.bool true) ∧ Below w.heap.size w w' := by
  by_cases hl : 0 < ys.length
  · obtain ⟨b1, o1, c1, rfl, hc1, hm1, _, hb1, hx1⟩ := h1.at hl
    obtain ⟨b2, o2, c2, rfl, hc2, hm2, _, hb2, hx2⟩ := h2.at hl
    have H1 := (show Hid (∀ (i : Nat) (a : PVote), ys[i]? = some a → ∃ r, r.length = 2 ∧ w.rangeAt b1 (o1 + i * 2) r ∧ RVote Any w r a) from hx1)
    have H2 := (show Hid (∀ (i : Nat) (a : PVote), ys[i]? = some a → ∃ r, r.length = 2 ∧ w.rangeAt b2 (o2 + i * 2) r ∧ RVote Any w r a) from hx2)
    have hlm : (ys.length : Int) ≤ 9223372036854775807 := by unfold maxLen at hm1; omega
    clear hx1 hx2 h1 h2
    go_enter Tryz.func23, Tryz.ntmps23
    go_wp2_with fail
    go_loopw [13] (fun i wr => ∃ q : Nat, q ≤ ys.length ∧ i = .int .i64 q ∧ Below w.heap.size w wr) (fun i _ => ys.length - (intOf i).toNat)
    case atStart => exact ⟨0, by omega, rfl, Below.refl _ _⟩
    case round =>
      obtain ⟨q, hq, rfl, hB⟩ := hrel
      by_cases hql : q < ys.length
      · obtain ⟨a, ha⟩ : ∃ a, ys[q]? = some a := ⟨_, List.getElem?_eq_getElem hql⟩
        obtain ⟨r1, _, g1, s1, rfl, t1⟩ := H1.out q a ha
        obtain ⟨r2, _, g2, s2, rfl, t2⟩ := H2.out q a ha
        have d0 := rangeAt_block g1 (hB.block b1 hb1) 0 _ rfl
        have d1 := rangeAt_block g1 (hB.block b1 hb1) 1 _ rfl
        have d2 := rangeAt_block g2 (hB.block b2 hb2) 0 _ rfl
        have d3 := rangeAt_block g2 (hB.block b2 hb2) 1 _ rfl
        simp only [Nat.add_zero] at d0 d2
        have hS := (show Hid (∀ u, Below w.heap.size w u → Calls Tryz.prog 22 #[s1, s2] u fun e w' => e = .returned (.bool true) ∧ w' = u) from fun u hu => by
          have := same_any u s1 s2 _ _ (t1.mv (Mv.below hu)).1 (t2.mv (Mv.below hu)).1
          rw [decide_eq_true rfl] at this
          exact this)
        have hn : (a.1 != a.1) = false := by simp
        clear g1 g2 t1 t2 ha
        go_wp2_with fail
        go_quiet ((go_at_call 22; exact quiet_as (hS.out _ (bel_dn hB _)) rfl))
        go_wp2_with fail
        go_roundw
        case rel => exact ⟨q + 1, by omega, by go_num, bel_dn hB _⟩
        case measure => simp [intOf]; omega
      · go_wp2_with fail
        go_ret
        exact ⟨rfl, hB⟩
  · obtain rfl : ys = [] := List.eq_nil_of_length_eq_zero (by omega)
    obtain ⟨ao, c1, rfl, _⟩ := h1.form
    obtain ⟨bo, c2, rfl, _⟩ := h2.form
    go_enter Tryz.func23, Tryz.ntmps23
    go_wp2_with fail
    refine wp_loop_rounds 1 ?_; rw [rounds_succ]
    go_wp2_with fail
    go_ret
    exact ⟨rfl, Below.refl _ _⟩
end
end Go.Proofs.YtgbfmccecnfooaaGreatDoor
