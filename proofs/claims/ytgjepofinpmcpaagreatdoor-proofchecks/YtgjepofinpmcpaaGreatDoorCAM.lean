/- The walks over package msg: the letters of fields; strings. -/
import Derived.Test.YtgjepofinpmcpaaGreatDoorCAI
import Derived.Test.YtgjepofinpmcpaaGreatDoorCAG
import Derived.Lib.Bytealg
import Derived.Laws.Externs
section
set_option linter.unusedVariables false
namespace Go.Proofs.YtgjepofinpmcpaaGreatDoor
open Go.RowKit Oct

/-- The 8 bytes of a number, the least one first. -/
def le8 (u : Int) : List Int := [u % 256, u / 256 % 256, u / 65536 % 256, u / 16777216 % 256, u / 4294967296 % 256, u / 1099511627776 % 256, u / 281474976710656 % 256, u / 72057594037927936 % 256]
def u64 (n : Int) : Int := n % 18446744073709551616
theorem le8_len (u : Int) : (le8 u).length = 8 := rfl
theorem le8_byt (u : Int) : Byt (le8 u) := by
  intro x hx
  simp only [le8, List.mem_cons, List.not_mem_nil, or_false] at hx
  rcases hx with rfl | rfl | rfl | rfl | rfl | rfl | rfl | rfl <;> omega
theorem le8_inj {a b : Int} (a0 : 0 ≤ a) (a1 : a < 18446744073709551616) (b0 : 0 ≤ b) (b1 : b < 18446744073709551616) (h : le8 a = le8 b) : a = b := by
  simp only [le8, List.cons.injEq, and_true] at h
  omega
theorem u64_inj {a b : Int} (a0 : -9223372036854775808 ≤ a) (a1 : a ≤ 9223372036854775807) (b0 : -9223372036854775808 ≤ b) (b1 : b ≤ 9223372036854775807) (h : u64 a = u64 b) : a = b := by
  unfold u64 at h
  omega
theorem le8_at (u : Int) (k : Nat) (hk : k < 8) (m : Nat) (hm : m = 8 * k) : u / 2 ^ m % 256 = (le8 u).getD k 0 := by
  subst hm
  match k, hk with
  | 0, _ => simp [le8]
  | 1, _ => rfl
  | 2, _ => rfl
  | 3, _ => rfl
  | 4, _ => rfl
  | 5, _ => rfl
  | 6, _ => rfl
  | 7, _ => rfl
theorem le8_take (u : Int) (L : List Int) (k : Nat) (hk : k < 8) : L ++ (le8 u).take (k + 1) = (L ++ (le8 u).take k) ++ [(le8 u).getD k 0] := by
  have hb : k < (le8 u).length := by rw [le8_len]; exact hk
  rw [List.append_assoc, List.take_add_one, List.getElem?_eq_getElem hb]
  simp [List.getD, List.getElem?_eq_getElem hb]
/-- The body. -/
def body (x : PReq) : List Int := le8 (u64 x.1) ++ le8 (u64 x.2.1) ++ packL [x.2.2.1, x.2.2.2]
theorem body_inj {x y : PReq} (hx : tot [x.2.2.1, x.2.2.2] ≤ 2147483647) (hy : tot [y.2.2.1, y.2.2.2] ≤ 2147483647) (x0 : -9223372036854775808 ≤ x.1 ∧ x.1 ≤ 9223372036854775807) (x1 : -9223372036854775808 ≤ x.2.1 ∧ x.2.1 ≤ 9223372036854775807)
    (y0 : -9223372036854775808 ≤ y.1 ∧ y.1 ≤ 9223372036854775807) (y1 : -9223372036854775808 ≤ y.2.1 ∧ y.2.1 ≤ 9223372036854775807) : body x = body y ↔ x = y := by
  refine ⟨fun h => ?_, fun h => by rw [h]⟩
  unfold body at h
  obtain ⟨h1, h2⟩ := List.append_inj h (by simp [le8_len])
  obtain ⟨h3, h4⟩ := List.append_inj h1 (by simp [le8_len])
  have h5 := packL_inj hx hy h2
  have ub : ∀ n, 0 ≤ u64 n ∧ u64 n < 18446744073709551616 := fun n => by unfold u64; omega
  have e1 := u64_inj x0.1 x0.2 y0.1 y0.2 (le8_inj (ub _).1 (ub _).2 (ub _).1 (ub _).2 h3)
  have e2 := u64_inj x1.1 x1.2 y1.1 y1.2 (le8_inj (ub _).1 (ub _).2 (ub _).1 (ub _).2 h4)
  obtain ⟨a, b, c, d⟩ := x
  obtain ⟨a', b', c', d'⟩ := y
  simp only [List.cons.injEq, and_true] at h5
  simp only at e1 e2
  rw [e1, e2, h5.1, h5.2]

/-- msg.appendWord. -/
theorem appendWord_any (w : World) (v : Value) (L : List Int) (n : Int) (hown : Own w 5 v (bc L)) (hl : L.length ≤ 140737488355300) :
    Calls Tryz.prog 42 #[v, .int .i64 n] w fun e w' => ∃ v', e = .returned v' ∧ App w 5 v w' v' (bc (L ++ le8 (u64 n))) := by
  go_enter Tryz.func42, Tryz.ntmps42
  go_wp2_with fail
  go_loopw [0, 6] (fun o i wr => ∃ k : Nat, k ≤ 8 ∧ i = .int .i64 k ∧ App w 5 v wr o (bc (L ++ (le8 (u64 n)).take k))) (fun _ i _ => (8 - intOf i).toNat)
  case atStart => exact ⟨0, by omega, rfl, by rw [List.take_zero, List.append_nil]; exact app_start hown⟩
  case round =>
    obtain ⟨k, hk, rfl, happ⟩ := hrel
    by_cases hk8 : k < 8
    · obtain ⟨m, hm⟩ : ∃ m : Nat, (8 : Int) * (k : Int) = m := ⟨8 * k, by omega⟩
      have HM := (show Hid (u64 n / 2 ^ m % 256 = (le8 (u64 n)).getD k 0) from le8_at (u64 n) k hk8 m (by omega))
      have HX := (show Hid (L ++ (le8 (u64 n)).take (k + 1) = (L ++ (le8 (u64 n)).take k) ++ [(le8 (u64 n)).getD k 0]) from le8_take _ _ _ hk8)
      have HT := (show Hid ((L ++ (le8 (u64 n)).take k).length ≤ 140737488355308) by
        show (L ++ (le8 (u64 n)).take k).length ≤ _
        rw [List.length_append, List.length_take, le8_len]
        omega)
      have hm0 : (0 : Int) ≤ (m : Int) := by omega
      have hgo := happ.own
      go_wp2_with (at_builtin; refine app_bytes rfl _ _ rfl _ (L ++ (le8 (u64 n)).take k) rfl (World.ownsRow.alloc hgo _) _ [u64 n / 2 ^ m % 256] rfl (rdv_one wr _ _) (by have := HT.out; simp only [List.length_cons, List.length_nil]; omega) ?_; intro o4 w4 happ4)
      have hp4 := happ.trans (happ4.pre (below_alloc wr _))
      rw [HM.out, ← HX.out] at hp4
      clear happ happ4 hgo
      go_roundw
      case rel => exact ⟨k + 1, by omega, by go_num, hp4⟩
      case measure => simp [intOf]; omega
    · rw [List.take_of_length_le (by rw [le8_len]; omega)] at happ
      go_wp2_with fail
      go_ret
      exact ⟨_, rfl, happ⟩
end Go.Proofs.YtgjepofinpmcpaaGreatDoor
end

section
namespace Go.Proofs.YtgjepofinpmcpaaGreatDoor
open Go.RowKit Oct

/-- The letter of a field. -/
def lb : Nat → UInt8
  | 0 => 66 | 1 => 83 | 2 => 70 | 3 => 84 | 4 => 73 | 5 => 67 | 6 => 82 | 7 => 79 | 8 => 68 | 9 => 71 | 10 => 69 | 11 => 86 | 12 => 78 | 13 => 80 | _ => 76
def lt (i : Nat) : Int := ((lb i).toNat : Int)
/-- The letters of a kind's fields. -/
def fsB (k : Int) : ByteArray := ⟨((fl k).map lb).toArray⟩
theorem lt_bd {i : Nat} (h : i < 15) : 0 ≤ lt i ∧ lt i < 128 := by
  rcases lt15 h with rfl | rfl | rfl | rfl | rfl | rfl | rfl | rfl | rfl | rfl | rfl | rfl | rfl | rfl | rfl <;> decide
theorem lt_back {i : Nat} (h : i < 15) : (lt i).toNat.toUInt8 = lb i := by
  rcases lt15 h with rfl | rfl | rfl | rfl | rfl | rfl | rfl | rfl | rfl | rfl | rfl | rfl | rfl | rfl | rfl <;> decide
theorem lb_inj {x q : Nat} (hx : x < 15) (hq : q < 15) (h : lb x = lb q) : x = q := by
  rcases lt15 hx with rfl | rfl | rfl | rfl | rfl | rfl | rfl | rfl | rfl | rfl | rfl | rfl | rfl | rfl | rfl <;>
    (rcases lt15 hq with rfl | rfl | rfl | rfl | rfl | rfl | rfl | rfl | rfl | rfl | rfl | rfl | rfl | rfl | rfl <;> first | rfl | exact absurd h (by decide))
theorem idx_ge : ∀ (l : List UInt8) (c : UInt8), -1 ≤ Lib.indexByte l c
  | [], c => by simp [Lib.indexByte]
  | b :: l, c => by
    have := idx_ge l c
    unfold Lib.indexByte
    split
    · omega
    · split <;> omega
theorem idx_has : ∀ (fs : List Nat) (q : Nat), (∀ i ∈ fs, i < 15) → q < 15 → (0 ≤ Lib.indexByte (fs.map lb) (lb q) ↔ q ∈ fs)
  | [], q, _, _ => by simp [Lib.indexByte]
  | x :: fs, q, h, hq => by
    have ih := idx_has fs q (fun i hi => h i (by simp [hi])) hq
    have hg := idx_ge (fs.map lb) (lb q)
    simp only [List.map_cons]
    unfold Lib.indexByte
    by_cases e : lb x = lb q
    · have := lb_inj (h x (by simp)) hq e
      simp [this]
    · have hn : ¬ q = x := fun e' => e (by rw [e'])
      have e' : ¬ (lb x == lb q) = true := by simpa using e
      rw [if_neg e']
      simp only [List.mem_cons, hn, false_or]
      rw [← ih]
      split
      · next h1 => have h1 : Lib.indexByte (fs.map lb) (lb q) = -1 := by simpa using h1
                   omega
      · next h1 => have h1 : ¬ Lib.indexByte (fs.map lb) (lb q) = -1 := by simpa using h1
                   omega
theorem has_letter (k : Int) {q : Nat} (hq : q < 15) : decide (0 ≤ Lib.indexByte (fsB k).data.toList (lt q).toNat.toUInt8) = (fl k).contains q := by
  rw [lt_back hq]
  have := idx_has (fl k) q (nice_lt (fl_nice k)) hq
  show decide (0 ≤ Lib.indexByte ((fl k).map lb) (lb q)) = _
  rw [Bool.eq_iff_iff]
  simp [this]

theorem indexByteString_run (s : ByteArray) (c : Int) (w : World) : (callFunc 163 #[.string s, .int .u8 c]).run Tryz.prog w = .ok (.value (.int .i64 (Lib.indexByte s.data.toList c.toNat.toUInt8))) w := by
  rw [run_callFunc_extern Tryz.func163 (by kernel_rfl) (by kernel_rfl) (by kernel_rfl) (e := Extern.BytealgIndexByte.indexByte) (by kernel_rfl), Lib.run_indexByteString]
  rfl
theorem indexByte_lite (s : ByteArray) (c : Int) (w : World) : Calls Tryz.prog 153 #[.string s, .int .u8 c] w fun e w' => e = .returned (.int .i64 (Lib.indexByte s.data.toList c.toNat.toUInt8)) ∧ w' = w := by
  have hx := indexByteString_run s c
  generalize Lib.indexByte s.data.toList c.toNat.toUInt8 = r at *
  go_enter Tryz.func153, Tryz.ntmps153
  go_wp2_with fail
  go_ret
  exact ⟨rfl, rfl⟩
theorem indexByte_any (s : ByteArray) (c : Int) (w : World) : Calls Tryz.prog 139 #[.string s, .int .u8 c] w fun e w' => e = .returned (.int .i64 (Lib.indexByte s.data.toList c.toNat.toUInt8)) ∧ w' = w := by
  have hx := indexByte_lite s c w
  generalize Lib.indexByte s.data.toList c.toNat.toUInt8 = r at *
  go_enter Tryz.func139, Tryz.ntmps139
  go_wp2_with (go_at_call 153; refine hx.mono ?_; rintro e w1 ⟨rfl, rfl⟩)
  go_ret
  exact ⟨rfl, rfl⟩
set_option maxRecDepth 10000 in
set_option maxHeartbeats 1000000 in
theorem indexRune_any (s : ByteArray) (c : Int) (h0 : 0 ≤ c) (h1 : c < 128) (w : World) : Calls Tryz.prog 125 #[.string s, .int .i32 c] w fun e w' => e = .returned (.int .i64 (Lib.indexByte s.data.toList c.toNat.toUInt8)) ∧ w' = w := by
  have hx := indexByte_any s c w
  have hcv : c % 256 = c := Int.emod_eq_of_lt h0 (by omega)
  generalize Lib.indexByte s.data.toList c.toNat.toUInt8 = r at *
  go_enter Tryz.func125, Tryz.ntmps125
  go_wp2_with (go_at_call 139; refine hx.mono ?_; rintro e w1 ⟨rfl, rfl⟩)
  go_ret
  exact ⟨rfl, rfl⟩
/-- strings.ContainsRune: is the field one of the kind's? -/
theorem has_any (k : Int) (q : Nat) (hq : q < 15) (w : World) : Calls Tryz.prog 88 #[.string (fsB k), .int .i32 (lt q)] w fun e w' => e = .returned (.bool ((fl k).contains q)) ∧ w' = w := by
  have hb := lt_bd hq
  have hx := indexRune_any (fsB k) (lt q) hb.1 hb.2 w
  rw [← has_letter k hq]
  generalize Lib.indexByte (fsB k).data.toList (lt q).toNat.toUInt8 = r at *
  generalize lt q = c at *
  by_cases hr : 0 ≤ r
  · rw [decide_eq_true hr]
    go_enter Tryz.func88, Tryz.ntmps88
    go_wp2_with (go_at_call 125; refine hx.mono ?_; rintro e w1 ⟨rfl, rfl⟩)
    go_ret
    exact ⟨by simp, rfl⟩
  · rw [decide_eq_false hr]
    go_enter Tryz.func88, Tryz.ntmps88
    go_wp2_with (go_at_call 125; refine hx.mono ?_; rintro e w1 ⟨rfl, rfl⟩)
    go_ret
    exact ⟨by simp; omega, rfl⟩
end Go.Proofs.YtgjepofinpmcpaaGreatDoor
end
