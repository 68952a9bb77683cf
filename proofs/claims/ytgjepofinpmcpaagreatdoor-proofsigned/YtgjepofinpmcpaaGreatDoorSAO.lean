/- The walks over package msg: the letters of fields; strings. -/
import Derived.Test.YtgjepofinpmcpaaGreatDoorSAK
import Derived.Lib.Bytealg
import Derived.Laws.Externs
namespace Go.Proofs.YtgjepofinpmcpaaGreatDoor
open Go.RowKit Oct
/-- The letter of a field. -/
def lb : Nat → UInt8
  | 0 => 66 | 1 => 83 | 2 => 70 | 3 => 84 | 4 => 73 | 5 => 67 | 6 => 82 | 7 => 79 | 8 => 68 | 9 => 71 | 10 => 69 | 11 => 86 | 12 => 78 | 13 => 80 | _ => 76
def lt (i : Nat) : Int := ((lb i).toNat : Int)
/-- The letters of a kind's fields. -/
def fsB (k : Int) : ByteArray := ⟨((fl k).map lb).toArray⟩
theorem lt_bd {i : Nat} (h : i < 15) : 0 ≤ lt i ∧ lt i < 128 := by
  rcases lt15 h with rfl | rfl | rfl | rfl | rfl | rfl | rfl | rfl | rfl | rfl | rfl | rfl | rfl | rfl | rfl <;> decide
theorem lt_back {i : Nat} (h : i < 15) : (lt i).toNat.toUInt8 = lb i := by
  rcases lt15 h with rfl | rfl | rfl | rfl | rfl | rfl | rfl | rfl | rfl | rfl | rfl | rfl | rfl | rfl | rfl <;> decide
theorem lb_inj {x q : Nat} (hx : x < 15) (hq : q < 15) (h : lb x = lb q) : x = q := by
  rcases lt15 hx with rfl | rfl | rfl | rfl | rfl | rfl | rfl | rfl | rfl | rfl | rfl | rfl | rfl | rfl | rfl <;>
    (rcases lt15 hq with rfl | rfl | rfl | rfl | rfl | rfl | rfl | rfl | rfl | rfl | rfl | rfl | rfl | rfl | rfl <;> first | rfl | exact absurd h (by decide))
theorem idx_ge : ∀ (l : List UInt8) (c : UInt8), -1 ≤ Lib.indexByte l c
  | [], c => by simp [Lib.indexByte]
  | b :: l, c => by
    have := idx_ge l c
    unfold Lib.indexByte
    split
    · omega
    · split <;> omega
theorem idx_has : ∀ (fs : List Nat) (q : Nat), (∀ i ∈ fs, i < 15) → q < 15 → (0 ≤ Lib.indexByte (fs.map lb) (lb q) ↔ q ∈ fs)
  | [], q, _, _ => by simp [Lib.indexByte]
  | x :: fs, q, h, hq => by
    have ih := idx_has fs q (fun i hi => h i (by simp [hi])) hq
    have hg := idx_ge (fs.map lb) (lb q)
    simp only [List.map_cons]
    unfold Lib.indexByte
    by_cases e : lb x = lb q
    · have := lb_inj (h x (by simp)) hq e
      simp [this]
    · have hn : ¬ q = x := fun e' => e (by rw [e'])
      have e' : ¬ (lb x == lb q) = true := by simpa using e
      rw [if_neg e']
      simp only [List.mem_cons, hn, false_or]
      rw [← ih]
      split
      · next h1 => have h1 : Lib.indexByte (fs.map lb) (lb q) = -1 := by simpa using h1
                   omega
      · next h1 => have h1 : ¬ Lib.indexByte (fs.map lb) (lb q) = -1 := by simpa using h1
                   omega
theorem has_letter (k : Int) {q : Nat} (hq : q < 15) : decide (0 ≤ Lib.indexByte (fsB k).data.toList (lt q).toNat.toUInt8) = (fl k).contains q := by
  rw [lt_back hq]
  have := idx_has (fl k) q (nice_lt (fl_nice k)) hq
  show decide (0 ≤ Lib.indexByte ((fl k).map lb) (lb q)) = _
  rw [Bool.eq_iff_iff]
  simp [this]
theorem indexByteString_run (s : ByteArray) (c : Int) (w : World) : (callFunc 163 #[.string s, .int .u8 c]).run Tryz.prog w = .ok (.value (.int .i64 (Lib.indexByte s.data.toList c.toNat.toUInt8))) w := by
  rw [run_callFunc_extern Tryz.func163 (by kernel_rfl) (by kernel_rfl) (by kernel_rfl) (e := Extern.BytealgIndexByte.indexByte) (by kernel_rfl), Lib.run_indexByteString]
  rfl
theorem indexByte_lite (s : ByteArray) (c : Int) (w : World) : Calls Tryz.prog 153 #[.string s, .int .u8 c] w fun e w' => e = .returned (.int .i64 (Lib.indexByte s.data.toList c.toNat.toUInt8)) ∧ w' = w := by
  have hx := indexByteString_run s c
  generalize Lib.indexByte s.data.toList c.toNat.toUInt8 = r at *
  go_enter Tryz.func153, Tryz.ntmps153
  go_wp2_with fail
  go_ret
  exact ⟨rfl, rfl⟩
theorem indexByte_any (s : ByteArray) (c : Int) (w : World) : Calls Tryz.prog 139 #[.string s, .int .u8 c] w fun e w' => e = .returned (.int .i64 (Lib.indexByte s.data.toList c.toNat.toUInt8)) ∧ w' = w := by
  have hx := indexByte_lite s c w
  generalize Lib.indexByte s.data.toList c.toNat.toUInt8 = r at *
  go_enter Tryz.func139, Tryz.ntmps139
  go_wp2_with (go_at_call 153; refine hx.mono ?_; rintro e w1 ⟨rfl, rfl⟩)
  go_ret
  exact ⟨rfl, rfl⟩
set_option maxRecDepth 10000 in
set_option maxHeartbeats 1000000 in
theorem indexRune_any (s : ByteArray) (c : Int) (h0 : 0 ≤ c) (h1 : c < 128) (w : World) : Calls Tryz.prog 125 #[.string s, .int .i32 c] w fun e w' => e = .returned (.int .i64 (Lib.indexByte s.data.toList c.toNat.toUInt8)) ∧ w' = w := by
  have hx := indexByte_any s c w
  have hcv : c % 256 = c := Int.emod_eq_of_lt h0 (by omega)
  generalize Lib.indexByte s.data.toList c.toNat.toUInt8 = r at *
  go_enter Tryz.func125, Tryz.ntmps125
  go_wp2_with (go_at_call 139; refine hx.mono ?_; rintro e w1 ⟨rfl, rfl⟩)
  go_ret
  exact ⟨rfl, rfl⟩
/-- strings.ContainsRune: is the field one of the kind's? -/
theorem has_any (k : Int) (q : Nat) (hq : q < 15) (w : World) : Calls Tryz.prog 88 #[.string (fsB k), .int .i32 (lt q)] w fun e w' => e = .returned (.bool ((fl k).contains q)) ∧ w' = w := by
  have hb := lt_bd hq
  have hx := indexRune_any (fsB k) (lt q) hb.1 hb.2 w
  rw [← has_letter k hq]
  generalize Lib.indexByte (fsB k).data.toList (lt q).toNat.toUInt8 = r at *
  generalize lt q = c at *
  by_cases hr : 0 ≤ r
  · rw [decide_eq_true hr]
    go_enter Tryz.func88, Tryz.ntmps88
    go_wp2_with (go_at_call 125; refine hx.mono ?_; rintro e w1 ⟨rfl, rfl⟩)
    go_ret
    exact ⟨by simp, rfl⟩
  · rw [decide_eq_false hr]
    go_enter Tryz.func88, Tryz.ntmps88
    go_wp2_with (go_at_call 125; refine hx.mono ?_; rintro e w1 ⟨rfl, rfl⟩)
    go_ret
    exact ⟨by simp; omega, rfl⟩
end Go.Proofs.YtgjepofinpmcpaaGreatDoor
