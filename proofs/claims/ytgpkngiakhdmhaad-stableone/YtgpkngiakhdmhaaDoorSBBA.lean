/- The 8 bytes of each number: vote.nums and the document's Nums. -/
import Derived.Test.YtgpkngiakhdmhaaDoorSBAW
set_option linter.unusedVariables false
namespace Go.Proofs.YtgpkngiakhdmhaaDoor
open Go.RowKit Oct
/-- The 8 bytes of each number, one behind the other. -/
def numsL : List Int → List Int
  | [] => []
  | n :: l => le8 (u64 n) ++ numsL l
theorem numsL_len : ∀ l, (numsL l).length = 8 * l.length
  | [] => rfl
  | n :: l => by rw [numsL, List.length_append, le8_len, numsL_len l, List.length_cons]; omega
theorem numsL_byt : ∀ l, Byt (numsL l)
  | [] => Byt.nil
  | n :: l => by
    intro x hx
    rcases List.mem_append.1 hx with h | h
    · exact le8_byt _ x h
    · exact numsL_byt l x h
theorem numsL_app : ∀ a b, numsL (a ++ b) = numsL a ++ numsL b
  | [], _ => rfl
  | n :: a, b => by rw [List.cons_append, numsL, numsL, numsL_app a b, List.append_assoc]
theorem numsL_snoc (l : List Int) (k : Nat) (n : Int) (h : l[k]? = some n) : numsL (l.take (k + 1)) = numsL (l.take k) ++ le8 (u64 n) := by
  rw [List.take_add_one, h, numsL_app]
  simp [numsL]
/-- Numbers as cells. -/
def nc (l : List Int) : List Value := l.map (Value.int .i64)
theorem nc_len (l : List Int) : (nc l).length = l.length := List.length_map _
theorem nc_get {l : List Int} {k : Nat} {n : Int} (h : l[k]? = some n) : (nc l)[k]? = some (.int .i64 n) := by rw [nc, List.getElem?_map, h]; rfl
theorem run_mkb (n : Nat) (hn : n ≤ 1000) (u : World) : (Instr.makeSlice 26 (.int .i64 0) (.int .i64 (8 * (n : Int)))).run Tryd.prog u =
    .ok (.slice (some ⟨u.heap.size, 0, none⟩) 0 (8 * n)) (u.alloc (.cells (madeCells #[.int .u8 0] (8 * n)) 5)) := by
  obtain ⟨i0, hi, hz0, hz1, hz2⟩ := info_parts Tryd.info5
  have h := run_make (P := Tryd.prog) u 26 5 i0 (.int .u8 0) Tryd.underlying26 hi hz0 .i64 .i64 0 (8 * (n : Int)) (by omega) (by omega) (by rw [hz2]; omega) (by omega)
  rw [show (8 * (n : Int)).toNat = 8 * n by omega] at h
  simpa [hz1, Value.cells] using h
theorem own_madeb (w : World) (n : Nat) (hn : n ≤ 1000) : Own (w.alloc (.cells (madeCells #[.int .u8 0] (8 * n)) 5)) 5 (.slice (some ⟨w.heap.size, 0, none⟩) 0 (8 * n)) (bc []) :=
  ⟨rfl, .inr ⟨w.heap.size, 8 * n, madeCells #[.int .u8 0] (8 * n), rfl, Nat.zero_le _, heap_alloc_new w _, Nat.zero_le _, by unfold maxLen; omega, by simp [madeCells], rfl⟩⟩
set_option maxRecDepth 10000 in
set_option maxHeartbeats 1000000 in
/-- vote.nums. -/
theorem nums_any (w : World) (v : Value) (l : List Int) (hv : Rdv w v (nc l)) (hl0 : 0 < l.length) (hl : l.length ≤ 100) :
    Calls Tryd.prog 46 #[v] w fun e w' => ∃ v', e = .returned v' ∧ Own w' 5 v' (bc (numsL l)) ∧ Fr w.heap.size v' ∧ Below w.heap.size w w' := by
  obtain ⟨b, off, cap, rfl, hc1, hc2, hb, hcell⟩ := hv.at (by rw [nc_len]; exact hl0)
  have HC := (show Hid (∀ (j : Nat) (n : Int), l[j]? = some n → w.cell? ⟨b, off + j, none⟩ = some (.int .i64 n)) from fun j n h => hcell j _ (nc_get h))
  rw [nc_len] at hc1 ⊢
  clear hcell hv
  have hmk := run_mkb l.length (by omega)
  obtain ⟨O, hO⟩ : ∃ O, O = Obj.cells (madeCells #[.int .u8 0] (8 * l.length)) 5 := ⟨_, rfl⟩
  have how : Own (w.alloc O) 5 (.slice (some ⟨w.heap.size, 0, none⟩) 0 (8 * l.length)) (bc []) := hO ▸ own_madeb w _ (by omega)
  rw [← hO] at hmk
  clear hO
  have b0 := below_alloc w O
  have hfr : Fr w.heap.size (.slice (some ⟨w.heap.size, 0, none⟩) 0 (8 * l.length)) := fr_at _ _ _ _ (Nat.le_refl _)
  go_enter Tryd.func46, Tryd.ntmps46
  go_wp2_with fail
  go_loopw [3, 13] (fun o i wr => ∃ k : Nat, k ≤ l.length ∧ i = .int .i64 k ∧ Own wr 5 o (bc (numsL (l.take k))) ∧ Fr w.heap.size o ∧ Below w.heap.size w wr) (fun _ i _ => l.length - (intOf i).toNat)
  case atStart => exact ⟨0, Nat.zero_le _, rfl, how, hfr, b0⟩
  case round =>
    clear how hfr b0 hmk
    obtain ⟨k, hk, rfl, hown, hfr, hbel⟩ := hrel
    by_cases hkl : k < l.length
    · obtain ⟨n, hn⟩ : ∃ n, l[k]? = some n := ⟨_, List.getElem?_eq_getElem hkl⟩
      have hcp : wr.cell? ⟨b, off + k, none⟩ = some (.int .i64 n) := (hbel.cell (p := ⟨b, off + k, none⟩) hb).trans (HC.out k n hn)
      have HS := (show Hid (numsL (l.take (k + 1)) = numsL (l.take k) ++ le8 (u64 n)) from numsL_snoc l k n hn)
      have hlen := numsL_len (l.take k)
      rw [List.length_take, Nat.min_eq_left (by omega)] at hlen
      have HLL := (show Hid ((numsL (l.take k)).length ≤ 1000) by show _ ≤ _; omega)
      clear hlen hn
      generalize numsL (l.take k) = L at *
      go_wp2_with fail
      go_loopw [3, 17] (fun o i w' => ∃ j : Nat, j ≤ 8 ∧ i = .int .i64 j ∧ Own w' 5 o (bc (L ++ (le8 (u64 n)).take j)) ∧ Fr w.heap.size o ∧ Below w.heap.size w w') (fun _ i _ => (8 - intOf i).toNat)
      case atStart => exact ⟨0, by omega, rfl, by rw [List.take_zero, List.append_nil]; exact hown, hfr, hbel⟩
      case round =>
        clear hown hfr hbel hcp
        obtain ⟨j, hj, rfl, hown, hfr, hbel⟩ := hrel
        by_cases hj8 : j < 8
        · obtain ⟨m, hm⟩ : ∃ m : Nat, (8 : Int) * (j : Int) = m := ⟨8 * j, by omega⟩
          have HM := (show Hid (u64 n / 2 ^ m % 256 = (le8 (u64 n)).getD j 0) from le8_at (u64 n) j hj8 m (by omega))
          have HX := (show Hid (L ++ (le8 (u64 n)).take (j + 1) = (L ++ (le8 (u64 n)).take j) ++ [(le8 (u64 n)).getD j 0]) from le8_take _ _ _ hj8)
          have HT := (show Hid ((L ++ (le8 (u64 n)).take j).length ≤ 2000) by
            show _ ≤ _
            have := HLL.out
            rw [List.length_append, List.length_take, le8_len]
            omega)
          have hm0 : (0 : Int) ≤ (m : Int) := by omega
          go_wp2_with (at_builtin; refine app_bytes rfl _ _ rfl _ (L ++ (le8 (u64 n)).take j) rfl (World.ownsRow.alloc hown _) _ [u64 n / 2 ^ m % 256] rfl (rdv_one wr _ _) (by have := HT.out; simp only [List.length_cons, List.length_nil]; omega) ?_; intro o4 w4 happ4)
          have hp4 := happ4.pre (below_alloc wr _)
          rw [HM.out, ← HX.out] at hp4
          have hf4 := hp4.fr hfr hbel.size
          have hb4 := hbel.trans (hp4.below hfr hbel.size)
          have hgo := hp4.own
          clear hp4 happ4 hown hfr hbel
          go_roundw
          case rel => exact ⟨j + 1, by omega, by go_num, hgo, hf4, hb4⟩
          case measure => simp [intOf]; omega
        · rw [List.take_of_length_le (by rw [le8_len]; omega), ← HS.out] at hown
          go_wp2_with fail
          go_roundw
          case rel => exact ⟨k + 1, by omega, by go_num, hown, hfr, hbel⟩
          case measure => simp [intOf]; omega
    · rw [List.take_of_length_le (by omega)] at hown
      clear HC
      go_wp2_with fail
      go_ret
      exact ⟨_, rfl, hown, hfr, hbel⟩
end Go.Proofs.YtgpkngiakhdmhaaDoor
