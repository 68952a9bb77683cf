/- The walks over package vote: what a vote signs. -/
import Derived.Test.YtgbfmccecnfooaaGreatDoorCLAW
import Derived.Test.YtgbfmccecnfooaaGreatDoorCLAS
import Derived.Deep.Cut
set_option linter.unusedVariables false
namespace Go.Proofs.YtgbfmccecnfooaaGreatDoor
section
open Go.RowKit Oct
/-- The 8 bytes of each number, one behind the other. -/
def numsL : List Int → List Int
  | [] => []
  | n :: l => le8 (u64 n) ++ numsL l
theorem numsL_len : ∀ l, (numsL l).length = 8 * l.length
  | [] => rfl
  | n :: l => by rw [numsL, List.length_append, le8_len, numsL_len l, List.length_cons]; omega
theorem numsL_byt : ∀ l, Byt (numsL l)
  | [] => Byt.nil
  | n :: l => by
    intro x hx
    rcases List.mem_append.1 hx with h | h
    · exact le8_byt _ x h
    · exact numsL_byt l x h
theorem numsL_app : ∀ a b, numsL (a ++ b) = numsL a ++ numsL b
  | [], _ => rfl
  | n :: a, b => by rw [List.cons_append, numsL, numsL, numsL_app a b, List.append_assoc]
theorem numsL_snoc (l : List Int) (k : Nat) (n : Int) (h : l[k]? = some n) : numsL (l.take (k + 1)) = numsL (l.take k) ++ le8 (u64 n) := by
  rw [List.take_add_one, h, numsL_app]
  simp [numsL]
theorem le8_atT (u : Int) (k : Nat) (hk : k < 8) : u / 256 ^ k % 256 = (le8 u).getD k 0 := by
  have := le8_at u k hk (8 * k) rfl
  rw [← this, Int.pow_mul]
  rfl
theorem u64_bdT (n : Int) : 0 ≤ u64 n ∧ u64 n < 18446744073709551616 := by unfold u64; omega
theorem div_stepT (u : Int) (j : Nat) : u / 256 ^ j / 256 = u / 256 ^ (j + 1) := by
  rw [Int.pow_succ, Int.ediv_ediv_of_nonneg (by exact Int.le_of_lt (Int.pow_pos (by decide)))]
theorem div_bdT {u : Int} (h0 : 0 ≤ u) (h1 : u < 18446744073709551616) (j : Nat) : 0 ≤ u / 256 ^ j ∧ u / 256 ^ j < 18446744073709551616 :=
  ⟨Int.ediv_nonneg h0 (Int.le_of_lt (Int.pow_pos (by decide))), Int.lt_of_le_of_lt (Int.ediv_le_self _ h0) h1⟩
theorem wrap_u64T (n : Int) : IntKind.u64.wrap n = u64 n := rfl
/-- Numbers as cells. -/
def nc (l : List Int) : List Value := l.map (Value.int .i64)
theorem nc_len (l : List Int) : (nc l).length = l.length := List.length_map _
theorem nc_get {l : List Int} {k : Nat} {n : Int} (h : l[k]? = some n) : (nc l)[k]? = some (.int .i64 n) := by rw [nc, List.getElem?_map, h]; rfl
theorem run_mkb (n : Nat) (hn : n ≤ 1000) (u : World) : (Instr.makeSlice 24 (.int .i64 0) (.int .i64 (8 * (n : Int)))).run Tryz.prog u =
    .ok (.slice (some ⟨u.heap.size, 0, none⟩) 0 (8 * n)) (u.alloc (.cells (madeCells #[.int .u8 0] (8 * n)) 5)) := by
  obtain ⟨i0, hi, hz0, hz1, hz2⟩ := info_parts Tryz.info5
  have h := run_make (P := Tryz.prog) u 24 5 i0 (.int .u8 0) Tryz.underlying24 hi hz0 .i64 .i64 0 (8 * (n : Int)) (by omega) (by omega) (by rw [hz2]; omega) (by omega)
  rw [show (8 * (n : Int)).toNat = 8 * n by omega] at h
  simpa [hz1, Value.cells] using h
theorem own_madeb (w : World) (n : Nat) (hn : n ≤ 1000) : Own (w.alloc (.cells (madeCells #[.int .u8 0] (8 * n)) 5)) 5 (.slice (some ⟨w.heap.size, 0, none⟩) 0 (8 * n)) (bc []) :=
  ⟨rfl, .inr ⟨w.heap.size, 8 * n, madeCells #[.int .u8 0] (8 * n), rfl, Nat.zero_le _, heap_alloc_new w _, Nat.zero_le _, by unfold maxLen; omega, by simp [madeCells], rfl⟩⟩
set_option maxRecDepth 10000 in
set_option maxHeartbeats 1000000 in
/-- vote.nums. -/
theorem nums_any (w : World) (v : Value) (l : List Int) (hv : Rdv w v (nc l)) (hl0 : 0 < l.length) (hl : l.length ≤ 100) :
    Calls Tryz.prog 136 #[v] w fun e w' => ∃ v', e = .returned v' ∧ Own w' 5 v' (bc (numsL l)) ∧ Fr w.heap.size v' ∧ Below w.heap.size w w' := by
  obtain ⟨b, off, cap, rfl, hc1, hc2, hb, hcell⟩ := hv.at (by rw [nc_len]; exact hl0)
  have HC := (show Hid (∀ (j : Nat) (n : Int), l[j]? = some n → w.cell? ⟨b, off + j, none⟩ = some (.int .i64 n)) from fun j n h => hcell j _ (nc_get h))
  rw [nc_len] at hc1 ⊢
  clear hcell hv
  have hmk := run_mkb l.length (by omega)
  obtain ⟨O, hO⟩ : ∃ O, O = Obj.cells (madeCells #[.int .u8 0] (8 * l.length)) 5 := ⟨_, rfl⟩
  have how : Own (w.alloc O) 5 (.slice (some ⟨w.heap.size, 0, none⟩) 0 (8 * l.length)) (bc []) := hO ▸ own_madeb w _ (by omega)
  rw [← hO] at hmk
  clear hO
  have b0 := below_alloc w O
  have hfr : Fr w.heap.size (.slice (some ⟨w.heap.size, 0, none⟩) 0 (8 * l.length)) := fr_at _ _ _ _ (Nat.le_refl _)
  go_enter Tryz.func136, Tryz.ntmps136
  go_wp2_with fail
  go_loopw [3, 13] (fun o i wr => ∃ k : Nat, k ≤ l.length ∧ i = .int .i64 k ∧ Own wr 5 o (bc (numsL (l.take k))) ∧ Fr w.heap.size o ∧ Below w.heap.size w wr) (fun _ i _ => l.length - (intOf i).toNat)
  case atStart => exact ⟨0, Nat.zero_le _, rfl, how, hfr, b0⟩
  case round =>
    clear how hfr b0 hmk
    obtain ⟨k, hk, rfl, hown, hfr, hbel⟩ := hrel
    by_cases hkl : k < l.length
    · obtain ⟨n, hn⟩ : ∃ n, l[k]? = some n := ⟨_, List.getElem?_eq_getElem hkl⟩
      have hcp : wr.cell? ⟨b, off + k, none⟩ = some (.int .i64 n) := (hbel.cell (p := ⟨b, off + k, none⟩) hb).trans (HC.out k n hn)
      have HS := (show Hid (numsL (l.take (k + 1)) = numsL (l.take k) ++ le8 (u64 n)) from numsL_snoc l k n hn)
      have hlen := numsL_len (l.take k)
      rw [List.length_take, Nat.min_eq_left (by omega)] at hlen
      have HLL := (show Hid ((numsL (l.take k)).length ≤ 1000) by show _ ≤ _; omega)
      clear hlen hn
      generalize numsL (l.take k) = L at *
      go_wp2_with fail
      go_loopw [3, 17] (fun o i w' => ∃ j : Nat, j ≤ 8 ∧ i = .int .i64 j ∧ Own w' 5 o (bc (L ++ (le8 (u64 n)).take j)) ∧ Fr w.heap.size o ∧ Below w.heap.size w w') (fun _ i _ => (8 - intOf i).toNat)
      case atStart => exact ⟨0, by omega, rfl, by rw [List.take_zero, List.append_nil]; exact hown, hfr, hbel⟩
      case round =>
        clear hown hfr hbel hcp
        obtain ⟨j, hj, rfl, hown, hfr, hbel⟩ := hrel
        by_cases hj8 : j < 8
        · obtain ⟨m, hm⟩ : ∃ m : Nat, (8 : Int) * (j : Int) = m := ⟨8 * j, by omega⟩
          have HM := (show Hid (u64 n / 2 ^ m % 256 = (le8 (u64 n)).getD j 0) from le8_at (u64 n) j hj8 m (by omega))
          have HX := (show Hid (L ++ (le8 (u64 n)).take (j + 1) = (L ++ (le8 (u64 n)).take j) ++ [(le8 (u64 n)).getD j 0]) from le8_take _ _ _ hj8)
          have HT := (show Hid ((L ++ (le8 (u64 n)).take j).length ≤ 2000) by
            show _ ≤ _
            have := HLL.out
            rw [List.length_append, List.length_take, le8_len]
            omega)
          have hm0 : (0 : Int) ≤ (m : Int) := by omega
          go_wp2_with (at_builtin; refine app_bytes rfl _ _ rfl _ (L ++ (le8 (u64 n)).take j) rfl (World.ownsRow.alloc hown _) _ [u64 n / 2 ^ m % 256] rfl (rdv_one wr _ _) (by have := HT.out; simp only [List.length_cons, List.length_nil]; omega) ?_; intro o4 w4 happ4)
          have hp4 := happ4.pre (below_alloc wr _)
          rw [HM.out, ← HX.out] at hp4
          have hf4 := hp4.fr hfr hbel.size
          have hb4 := hbel.trans (hp4.below hfr hbel.size)
          have hgo := hp4.own
          clear hp4 happ4 hown hfr hbel
          go_roundw
          case rel => exact ⟨j + 1, by omega, by go_num, hgo, hf4, hb4⟩
          case measure => simp [intOf]; omega
        · rw [List.take_of_length_le (by rw [le8_len]; omega), ← HS.out] at hown
          go_wp2_with fail
          go_roundw
          case rel => exact ⟨k + 1, by omega, by go_num, hown, hfr, hbel⟩
          case measure => simp [intOf]; omega
    · rw [List.take_of_length_le (by omega)] at hown
      clear HC
      go_wp2_with fail
      go_ret
      exact ⟨_, rfl, hown, hfr, hbel⟩
set_option maxRecDepth 10000 in
set_option maxHeartbeats 1000000 in
/-- The document's Nums. -/
theorem refNums_any (w : World) (v : Value) (l : List Int) (hv : Rdv w v (nc l)) (hl0 : 0 < l.length) (hl : l.length ≤ 100) :
    Calls Tryz.prog 100 #[v] w fun e w' => ∃ v', e = .returned v' ∧ Own w' 5 v' (bc (numsL l)) ∧ Fr w.heap.size v' ∧ Below w.heap.size w w' := by
  obtain ⟨b, off, cap, rfl, hc1, hc2, hb, hcell⟩ := hv.at (by rw [nc_len]; exact hl0)
  have HC := (show Hid (∀ (j : Nat) (n : Int), l[j]? = some n → w.cell? ⟨b, off + j, none⟩ = some (.int .i64 n)) from fun j n h => hcell j _ (nc_get h))
  rw [nc_len] at hc1 ⊢
  clear hcell hv
  have hstart : Own (w.alloc (.cells #[] 5)) 5 (.slice (some ⟨w.heap.size, 0, none⟩) 0 0) (bc []) := own_zero w 5
  have hB0 := below_alloc w (.cells #[] 5)
  have hF0 : Fr w.heap.size (.slice (some ⟨w.heap.size, 0, none⟩) 0 0) := fun k hk => by simp [Value.ownBlock] at hk; omega
  go_enter Tryz.func100, Tryz.ntmps100
  go_wp2_with fail
  go_loopw [3, 11] (fun o i wr => ∃ k : Nat, k ≤ l.length ∧ i = .int .i64 k ∧ Own wr 5 o (bc (numsL (l.take k))) ∧ Fr w.heap.size o ∧ Below w.heap.size w wr) (fun _ i _ => l.length - (intOf i).toNat)
  case atStart => exact ⟨0, Nat.zero_le _, rfl, hstart, hF0, hB0⟩
  case round =>
    clear hstart hF0 hB0
    obtain ⟨k, hk, rfl, hown, hfr, hbel⟩ := hrel
    by_cases hkl : k < l.length
    · obtain ⟨n, hn⟩ : ∃ n, l[k]? = some n := ⟨_, List.getElem?_eq_getElem hkl⟩
      have hcp : wr.cell? ⟨b, off + k, none⟩ = some (.int .i64 n) := (hbel.cell (p := ⟨b, off + k, none⟩) hb).trans (HC.out k n hn)
      have HS := (show Hid (numsL (l.take (k + 1)) = numsL (l.take k) ++ le8 (u64 n)) from numsL_snoc l k n hn)
      have hlen := numsL_len (l.take k)
      rw [List.length_take, Nat.min_eq_left (by omega)] at hlen
      have HLL := (show Hid ((numsL (l.take k)).length ≤ 1000) by show _ ≤ _; omega)
      have hub := u64_bdT n
      clear hlen hn
      generalize numsL (l.take k) = L at *
      go_wp2_with fail
      rw [wrap_u64T]
      go_loopw [3, 6, 7] (fun o q i w' => ∃ (j : Nat) (q' : Int), j ≤ 8 ∧ i = .int .i64 j ∧ q = .int .u64 q' ∧ Hid (q' = u64 n / 256 ^ j) ∧ Own w' 5 o (bc (L ++ (le8 (u64 n)).take j)) ∧ Fr w.heap.size o ∧ Below w.heap.size w w') (fun _ _ i _ => (8 - intOf i).toNat)
      case atStart => exact ⟨0, u64 n, by omega, rfl, rfl, by show _ = _; simp, by rw [List.take_zero, List.append_nil]; exact hown, hfr, hbel⟩
      case round =>
        clear hown hfr hbel hcp
        obtain ⟨j, q, hj, rfl, rfl, HQ, hown, hfr, hbel⟩ := hrel
        by_cases hj8 : j < 8
        · have hq := div_bdT hub.1 hub.2 j
          rw [← HQ.out] at hq
          obtain ⟨hq0, hq1⟩ := hq
          have hq2 : 0 ≤ q % 256 ∧ q % 256 ≤ 255 := by omega
          have hq3 : 0 ≤ q / 256 ∧ q / 256 < 18446744073709551616 := by omega
          have HX := (show Hid (L ++ (le8 (u64 n)).take (j + 1) = (L ++ (le8 (u64 n)).take j) ++ [q % 256]) by
            show _ = _
            rw [HQ.out, le8_atT _ _ hj8]
            exact le8_take _ _ _ hj8)
          have HN := (show Hid (q / 256 = u64 n / 256 ^ (j + 1)) by show _ = _; rw [HQ.out, div_stepT])
          have HT := (show Hid ((L ++ (le8 (u64 n)).take j).length ≤ 2000) by
            show _ ≤ _
            have := HLL.out
            rw [List.length_append, List.length_take, le8_len]
            omega)
          clear HQ hub
          go_wp2_with (at_builtin; refine app_bytes rfl _ _ rfl _ (L ++ (le8 (u64 n)).take j) rfl (World.ownsRow.alloc hown _) _ [q % 256] rfl (rdv_one wr _ _) (by have := HT.out; simp only [List.length_cons, List.length_nil]; omega) ?_; intro o4 w4 happ4)
          have hp4 := happ4.pre (below_alloc wr _)
          rw [← HX.out] at hp4
          have hf4 := hp4.fr hfr hbel.size
          have hb4 := hbel.trans (hp4.below hfr hbel.size)
          have hgo := hp4.own
          clear hp4 happ4 hown hfr hbel
          go_roundw
          case rel => exact ⟨j + 1, q / 256, by omega, by go_num, by rfl, HN, hgo, hf4, hb4⟩
          case measure => simp [intOf]; omega
        · rw [List.take_of_length_le (by rw [le8_len]; omega), ← HS.out] at hown
          clear HQ hub
          go_wp2_with fail
          go_roundw
          case rel => exact ⟨k + 1, by omega, by go_num, hown, hfr, hbel⟩
          case measure => simp [intOf]; omega
    · rw [List.take_of_length_le (by omega)] at hown
      clear HC
      go_wp2_with fail
      go_ret
      exact ⟨_, rfl, hown, hfr, hbel⟩
end
section
open Go.RowKit Oct Sha
set_option maxRecDepth 10000 in
set_option maxHeartbeats 1000000 in
/-- vote.voteParts. -/
theorem voteParts_any (w : World) (k x y s : Int) (v : Value) (l : List Int) (hv : Rd w v l) :
    Calls Tryz.prog 102 #[.int .i64 k, .agg #[.int .i64 x, .int .i64 y], .int .i64 s, v] w fun e w' => ∃ v', e = .returned v' ∧ Rdl w' v' [numsL [k, x, y, s], l] ∧ Below w.heap.size w w' := by
  obtain ⟨ao, cap, rfl, hcap⟩ := hv.form
  go_enter Tryz.func102, Tryz.ntmps102
  go_wp2_with fail
  have hr := rdv_els (w.alloc (.cells #[.int .i64 x, .int .i64 y] 23)) (nc [k, x, y, s]) 3 (by simp [nc]) (by simp [nc])
  rw [show (w.alloc (.cells #[.int .i64 x, .int .i64 y] 23)).heap.size = w.heap.size + 1 by simp] at hr
  have b0 : Below w.heap.size w ((w.alloc (.cells #[.int .i64 x, .int .i64 y] 23)).alloc (.cells (nc [k, x, y, s]).toArray 3)) := below_and (below_alloc w _) (Nat.le_refl _) (below_alloc _ _)
  refine (nums_any _ _ [k, x, y, s] hr (by simp) (by simp)).mono ?_
  rintro e w1 ⟨v1, rfl, ho1, hf1, hb1⟩
  have B1 := below_and b0 (Nat.le_refl _) hb1
  have r1 := ho1.rd (numsL_byt _)
  have v1' := hv.below B1
  clear hr b0 hb1 ho1 hf1
  obtain ⟨a1, c1, rfl, hc1⟩ := r1.form
  go_wp2_with fail
  go_ret
  exact ⟨_, rfl, ⟨[.slice a1 (numsL [k, x, y, s]).length c1, .slice ao l.length cap], rdv_els w1 [.slice a1 (numsL [k, x, y, s]).length c1, .slice ao l.length cap] 24 (by simp) (by simp), r1.below (below_alloc _ _), v1'.below (below_alloc _ _), trivial⟩, below_and B1 (Nat.le_refl _) (below_alloc _ _)⟩
set_option maxRecDepth 10000 in
set_option maxHeartbeats 2000000 in
/-- vote.Right. -/
theorem vRight_any (w : World) (k x y s i : Int) (v : Value) (l : List Int) (hv : Rd w v l) (hl : l.length ≤ 3000000) (gv : Value) (g : List Int) (hg : Rd w gv g) (hT : Tab w) :
    Calls Tryz.prog 70 #[.int .i64 k, .agg #[.int .i64 x, .int .i64 y], .int .i64 s, v, .agg #[.int .i64 i, gv]] w fun e w' => e = .returned (.bool (verL (repL i) g (sL ⟨#[118, 111, 116, 101]⟩) [numsL [k, x, y, s], l])) ∧ Below w.heap.size w w' := by
  obtain ⟨ao, cap, rfl, hcap⟩ := hv.form
  obtain ⟨ag, gap, rfl, hgap⟩ := hg.form
  obtain ⟨w0, hw0⟩ : ∃ w0, w0 = (w.alloc (.cells #[.int .i64 x, .int .i64 y] 23)).alloc (.cells #[.int .i64 i, .slice ag g.length gap] 42) := ⟨_, rfl⟩
  have ra : Row w0 w.heap.size 23 [.int .i64 x, .int .i64 y] := by rw [hw0]; exact (Row.new w 23 _).below (below_alloc _ _)
  have rb : Row w0 (w.heap.size + 1) 42 [.int .i64 i, .slice ag g.length gap] := by rw [hw0, show w.heap.size + 1 = (w.alloc (.cells #[.int .i64 x, .int .i64 y] 23)).heap.size by simp]; exact Row.new _ 42 _
  have B0 : Below w.heap.size w w0 := by rw [hw0]; exact below_and (below_alloc _ _) (Nat.le_refl _) (below_alloc _ _)
  have hdw : Below w0.heap.size w0 w0.drew := ⟨rfl, rfl, rfl, Nat.le_refl _, fun _ _ => rfl⟩
  go_enter Tryz.func70, Tryz.ntmps70
  go_upto_region 1 with fail
  rw [← hw0]
  clear hw0
  have v0 := hv.below B0
  have g0 := hg.below B0
  have SK := (show Hid (∀ u, Below w0.heap.size w0 u → u.cell? ⟨w.heap.size, 0, none⟩ = some (.int .i64 x) ∧ u.cell? ⟨w.heap.size, 1, none⟩ = some (.int .i64 y) ∧ u.cell? ⟨w.heap.size + 1, 0, none⟩ = some (.int .i64 i) ∧ u.cell? ⟨w.heap.size + 1, 1, none⟩ = some (.slice ag g.length gap)) from fun u hu => ⟨(ra.below hu).cell (j := 0) rfl, (ra.below hu).cell (j := 1) rfl, (rb.below hu).cell (j := 0) rfl, (rb.below hu).cell (j := 1) rfl⟩)
  obtain ⟨a0, a1, a2, a3⟩ := SK.out w0 (Below.refl _ _)
  have HR := (show Hid (∀ u : World, Calls Tryz.prog 57 #[.int .i64 i] u fun e w' => e = .returned (.int .i64 (repL i)) ∧ w' = u) from fun u => replica_any u i)
  have HT := (show Hid (tot [numsL [k, x, y, s], l] ≤ 4000000) by show _ ≤ _; simp only [tot, numsL_len, List.length_cons, List.length_nil]; omega)
  go_wp2_with fail
  go_region_held3 (fun u => u.cell? ⟨w.heap.size, 0, none⟩ = some (.int .i64 x) ∧ u.cell? ⟨w.heap.size, 1, none⟩ = some (.int .i64 y) ∧ u.cell? ⟨w.heap.size + 1, 0, none⟩ = some (.int .i64 i) ∧ u.cell? ⟨w.heap.size + 1, 1, none⟩ = some (.slice ag g.length gap))
    (first | exact SK.out _ (by assumption) | go_keep)
    (first
      | (go_at_call 56; refine (verify_any w3 (repL i) _ g ⟨#[118, 111, 116, 101]⟩ v3 _ (g0.below hb3) r3 (by decide) HT.out (hT.below (below_and B0 (Nat.le_refl _) hb3))).mono ?_; rintro e w4 ⟨rfl, hb4⟩; have hB4 : Below w0.heap.size w0 w4 := below_and hb3 (Nat.le_refl _) hb4)
      | (go_at_call 102; refine (voteParts_any w0.drew k x y s _ l (v0.below hdw)).mono ?_; rintro e w3 ⟨v3, rfl, r3, hb3'⟩; have hb3 : Below w0.heap.size w0 w3 := below_and hdw (Nat.le_refl _) hb3')
      | (go_at_call 57; refine (HR.out _).mono ?_; rintro e w2 ⟨rfl, rfl⟩))
  have B4 := below_and B0 (Nat.le_refl _) hB4
  go_wp2_with fail
  go_ret
  exact ⟨rfl, B4⟩
end
end Go.Proofs.YtgbfmccecnfooaaGreatDoor
