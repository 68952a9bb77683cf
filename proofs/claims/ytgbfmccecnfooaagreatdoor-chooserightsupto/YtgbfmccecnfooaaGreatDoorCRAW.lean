/- Lists of records that are copied one by one: where the loop stands. -/
import Derived.Test.YtgbfmccecnfooaaGreatDoorCRAJ
import Derived.Test.YtgbfmccecnfooaaGreatDoorCRAQ
import Derived.Test.YtgbfmccecnfooaaGreatDoorCRAL
set_option linter.unusedSimpArgs false
set_option linter.unusedVariables false
namespace Go.Proofs.YtgbfmccecnfooaaGreatDoor
section
open Go.RowKit Oct
/-- The 8 bytes of each number, one behind the other. -/
def numsL : List Int → List Int
  | [] => []
  | n :: l => le8 (u64 n) ++ numsL l
theorem numsL_len : ∀ l, (numsL l).length = 8 * l.length
  | [] => rfl
  | n :: l => by rw [numsL, List.length_append, le8_len, numsL_len l, List.length_cons]; omega
theorem numsL_byt : ∀ l, Byt (numsL l)
  | [] => Byt.nil
  | n :: l => by
    intro x hx
    rcases List.mem_append.1 hx with h | h
    · exact le8_byt _ x h
    · exact numsL_byt l x h
theorem numsL_app : ∀ a b, numsL (a ++ b) = numsL a ++ numsL b
  | [], _ => rfl
  | n :: a, b => by rw [List.cons_append, numsL, numsL, numsL_app a b, List.append_assoc]
theorem numsL_snoc (l : List Int) (k : Nat) (n : Int) (h : l[k]? = some n) : numsL (l.take (k + 1)) = numsL (l.take k) ++ le8 (u64 n) := by
  rw [List.take_add_one, h, numsL_app]
  simp [numsL]
theorem le8_atT (u : Int) (k : Nat) (hk : k < 8) : u / 256 ^ k % 256 = (le8 u).getD k 0 := by
  have := le8_at u k hk (8 * k) rfl
  rw [← this, Int.pow_mul]
  rfl
theorem u64_bdT (n : Int) : 0 ≤ u64 n ∧ u64 n < 18446744073709551616 := by unfold u64; omega
theorem div_stepT (u : Int) (j : Nat) : u / 256 ^ j / 256 = u / 256 ^ (j + 1) := by
  rw [Int.pow_succ, Int.ediv_ediv_of_nonneg (by exact Int.le_of_lt (Int.pow_pos (by decide)))]
theorem div_bdT {u : Int} (h0 : 0 ≤ u) (h1 : u < 18446744073709551616) (j : Nat) : 0 ≤ u / 256 ^ j ∧ u / 256 ^ j < 18446744073709551616 :=
  ⟨Int.ediv_nonneg h0 (Int.le_of_lt (Int.pow_pos (by decide))), Int.lt_of_le_of_lt (Int.ediv_le_self _ h0) h1⟩
theorem wrap_u64T (n : Int) : IntKind.u64.wrap n = u64 n := rfl
/-- Numbers as cells. -/
def nc (l : List Int) : List Value := l.map (Value.int .i64)
theorem nc_len (l : List Int) : (nc l).length = l.length := List.length_map _
theorem nc_get {l : List Int} {k : Nat} {n : Int} (h : l[k]? = some n) : (nc l)[k]? = some (.int .i64 n) := by rw [nc, List.getElem?_map, h]; rfl
theorem run_mkb (n : Nat) (hn : n ≤ 1000) (u : World) : (Instr.makeSlice 24 (.int .i64 0) (.int .i64 (8 * (n : Int)))).run Tryz.prog u =
    .ok (.slice (some ⟨u.heap.size, 0, none⟩) 0 (8 * n)) (u.alloc (.cells (madeCells #[.int .u8 0] (8 * n)) 5)) := by
  obtain ⟨i0, hi, hz0, hz1, hz2⟩ := info_parts Tryz.info5
  have h := run_make (P := Tryz.prog) u 24 5 i0 (.int .u8 0) Tryz.underlying24 hi hz0 .i64 .i64 0 (8 * (n : Int)) (by omega) (by omega) (by rw [hz2]; omega) (by omega)
  rw [show (8 * (n : Int)).toNat = 8 * n by omega] at h
  simpa [hz1, Value.cells] using h
theorem own_madeb (w : World) (n : Nat) (hn : n ≤ 1000) : Own (w.alloc (.cells (madeCells #[.int .u8 0] (8 * n)) 5)) 5 (.slice (some ⟨w.heap.size, 0, none⟩) 0 (8 * n)) (bc []) :=
  ⟨rfl, .inr ⟨w.heap.size, 8 * n, madeCells #[.int .u8 0] (8 * n), rfl, Nat.zero_le _, heap_alloc_new w _, Nat.zero_le _, by unfold maxLen; omega, by simp [madeCells], rfl⟩⟩
set_option maxRecDepth 10000 in
set_option maxHeartbeats 1000000 in
/-- vote.nums. -/
theorem nums_any (w : World) (v : Value) (l : List Int) (hv : Rdv w v (nc l)) (hl0 : 0 < l.length) (hl : l.length ≤ 100) :
    Calls Tryz.prog 136 #[v] w fun e w' => ∃ v', e = .returned v' ∧ Own w' 5 v' (bc (numsL l)) ∧ Fr w.heap.size v' ∧ Below w.heap.size w w' := by
  obtain ⟨b, off, cap, rfl, hc1, hc2, hb, hcell⟩ := hv.at (by rw [nc_len]; exact hl0)
  have HC := (show Hid (∀ (j : Nat) (n : Int), l[j]? = some n → w.cell? ⟨b, off + j, none⟩ = some (.int .i64 n)) from fun j n h => hcell j _ (nc_get h))
  rw [nc_len] at hc1 ⊢
  clear hcell hv
  have hmk := run_mkb l.length (by omega)
  obtain ⟨O, hO⟩ : ∃ O, O = Obj.cells (madeCells #[.int .u8 0] (8 * l.length)) 5 := ⟨_, rfl⟩
  have how : Own (w.alloc O) 5 (.slice (some ⟨w.heap.size, 0, none⟩) 0 (8 * l.length)) (bc []) := hO ▸ own_madeb w _ (by omega)
  rw [← hO] at hmk
  clear hO
  have b0 := below_alloc w O
  have hfr : Fr w.heap.size (.slice (some ⟨w.heap.size, 0, none⟩) 0 (8 * l.length)) := fr_at _ _ _ _ (Nat.le_refl _)
  go_enter Tryz.func136, Tryz.ntmps136
  go_wp2_with fail
  go_loopw [3, 13] (fun o i wr => ∃ k : Nat, k ≤ l.length ∧ i = .int .i64 k ∧ Own wr 5 o (bc (numsL (l.take k))) ∧ Fr w.heap.size o ∧ Below w.heap.size w wr) (fun _ i _ => l.length - (intOf i).toNat)
  case atStart => exact ⟨0, Nat.zero_le _, rfl, how, hfr, b0⟩
  case round =>
    clear how hfr b0 hmk
    obtain ⟨k, hk, rfl, hown, hfr, hbel⟩ := hrel
    by_cases hkl : k < l.length
    · obtain ⟨n, hn⟩ : ∃ n, l[k]? = some n := ⟨_, List.getElem?_eq_getElem hkl⟩
      have hcp : wr.cell? ⟨b, off + k, none⟩ = some (.int .i64 n) := (hbel.cell (p := ⟨b, off + k, none⟩) hb).trans (HC.out k n hn)
      have HS := (show Hid (numsL (l.take (k + 1)) = numsL (l.take k) ++ le8 (u64 n)) from numsL_snoc l k n hn)
      have hlen := numsL_len (l.take k)
      rw [List.length_take, Nat.min_eq_left (by omega)] at hlen
      have HLL := (show Hid ((numsL (l.take k)).length ≤ 1000) by show _ ≤ _; omega)
      clear hlen hn
      generalize numsL (l.take k) = L at *
      go_wp2_with fail
      go_loopw [3, 17] (fun o i w' => ∃ j : Nat, j ≤ 8 ∧ i = .int .i64 j ∧ Own w' 5 o (bc (L ++ (le8 (u64 n)).take j)) ∧ Fr w.heap.size o ∧ Below w.heap.size w w') (fun _ i _ => (8 - intOf i).toNat)
      case atStart => exact ⟨0, by omega, rfl, by rw [List.take_zero, List.append_nil]; exact hown, hfr, hbel⟩
      case round =>
        clear hown hfr hbel hcp
        obtain ⟨j, hj, rfl, hown, hfr, hbel⟩ := hrel
        by_cases hj8 : j < 8
        · obtain ⟨m, hm⟩ : ∃ m : Nat, (8 : Int) * (j : Int) = m := ⟨8 * j, by omega⟩
          have HM := (show Hid (u64 n / 2 ^ m % 256 = (le8 (u64 n)).getD j 0) from le8_at (u64 n) j hj8 m (by omega))
          have HX := (show Hid (L ++ (le8 (u64 n)).take (j + 1) = (L ++ (le8 (u64 n)).take j) ++ [(le8 (u64 n)).getD j 0]) from le8_take _ _ _ hj8)
          have HT := (show Hid ((L ++ (le8 (u64 n)).take j).length ≤ 2000) by
            show _ ≤ _
            have := HLL.out
            rw [List.length_append, List.length_take, le8_len]
            omega)
          have hm0 : (0 : Int) ≤ (m : Int) := by omega
          go_wp2_with (at_builtin; refine app_bytes rfl _ _ rfl _ (L ++ (le8 (u64 n)).take j) rfl (World.ownsRow.alloc hown _) _ [u64 n / 2 ^ m % 256] rfl (rdv_one wr _ _) (by have := HT.out; simp only [List.length_cons, List.length_nil]; omega) ?_; intro o4 w4 happ4)
          have hp4 := happ4.pre (below_alloc wr _)
          rw [HM.out, ← HX.out] at hp4
          have hf4 := hp4.fr hfr hbel.size
          have hb4 := hbel.trans (hp4.below hfr hbel.size)
          have hgo := hp4.own
          clear hp4 happ4 hown hfr hbel
          go_roundw
          case rel => exact ⟨j + 1, by omega, by go_num, hgo, hf4, hb4⟩
          case measure => simp [intOf]; omega
        · rw [List.take_of_length_le (by rw [le8_len]; omega), ← HS.out] at hown
          go_wp2_with fail
          go_roundw
          case rel => exact ⟨k + 1, by omega, by go_num, hown, hfr, hbel⟩
          case measure => simp [intOf]; omega
    · rw [List.take_of_length_le (by omega)] at hown
      clear HC
      go_wp2_with fail
      go_ret
      exact ⟨_, rfl, hown, hfr, hbel⟩
set_option maxRecDepth 10000 in
set_option maxHeartbeats 1000000 in
/-- The document's Nums. -/
theorem refNums_any (w : World) (v : Value) (l : List Int) (hv : Rdv w v (nc l)) (hl0 : 0 < l.length) (hl : l.length ≤ 100) :
    Calls Tryz.prog 100 #[v] w fun e w' => ∃ v', e = .returned v' ∧ Own w' 5 v' (bc (numsL l)) ∧ Fr w.heap.size v' ∧ Below w.heap.size w w' := by
  obtain ⟨b, off, cap, rfl, hc1, hc2, hb, hcell⟩ := hv.at (by rw [nc_len]; exact hl0)
  have HC := (show Hid (∀ (j : Nat) (n : Int), l[j]? = some n → w.cell? ⟨b, off + j, none⟩ = some (.int .i64 n)) from fun j n h => hcell j _ (nc_get h))
  rw [nc_len] at hc1 ⊢
  clear hcell hv
  have hstart : Own (w.alloc (.cells #[] 5)) 5 (.slice (some ⟨w.heap.size, 0, none⟩) 0 0) (bc []) := own_zero w 5
  have hB0 := below_alloc w (.cells #[] 5)
  have hF0 : Fr w.heap.size (.slice (some ⟨w.heap.size, 0, none⟩) 0 0) := fun k hk => by simp [Value.ownBlock] at hk; omega
  go_enter Tryz.func100, Tryz.ntmps100
  go_wp2_with fail
  go_loopw [3, 11] (fun o i wr => ∃ k : Nat, k ≤ l.length ∧ i = .int .i64 k ∧ Own wr 5 o (bc (numsL (l.take k))) ∧ Fr w.heap.size o ∧ Below w.heap.size w wr) (fun _ i _ => l.length - (intOf i).toNat)
  case atStart => exact ⟨0, Nat.zero_le _, rfl, hstart, hF0, hB0⟩
  case round =>
    clear hstart hF0 hB0
    obtain ⟨k, hk, rfl, hown, hfr, hbel⟩ := hrel
    by_cases hkl : k < l.length
    · obtain ⟨n, hn⟩ : ∃ n, l[k]? = some n := ⟨_, List.getElem?_eq_getElem hkl⟩
      have hcp : wr.cell? ⟨b, off + k, none⟩ = some (.int .i64 n) := (hbel.cell (p := ⟨b, off + k, none⟩) hb).trans (HC.out k n hn)
      have HS := (show Hid (numsL (l.take (k + 1)) = numsL (l.take k) ++ le8 (u64 n)) from numsL_snoc l k n hn)
      have hlen := numsL_len (l.take k)
      rw [List.length_take, Nat.min_eq_left (by omega)] at hlen
      have HLL := (show Hid ((numsL (l.take k)).length ≤ 1000) by show _ ≤ _; omega)
      have hub := u64_bdT n
      clear hlen hn
      generalize numsL (l.take k) = L at *
      go_wp2_with fail
      rw [wrap_u64T]
      go_loopw [3, 6, 7] (fun o q i w' => ∃ (j : Nat) (q' : Int), j ≤ 8 ∧ i = .int .i64 j ∧ q = .int .u64 q' ∧ Hid (q' = u64 n / 256 ^ j) ∧ Own w' 5 o (bc (L ++ (le8 (u64 n)).take j)) ∧ Fr w.heap.size o ∧ Below w.heap.size w w') (fun _ _ i _ => (8 - intOf i).toNat)
      case atStart => exact ⟨0, u64 n, by omega, rfl, rfl, by show _ = _; simp, by rw [List.take_zero, List.append_nil]; exact hown, hfr, hbel⟩
      case round =>
        clear hown hfr hbel hcp
        obtain ⟨j, q, hj, rfl, rfl, HQ, hown, hfr, hbel⟩ := hrel
        by_cases hj8 : j < 8
        · have hq := div_bdT hub.1 hub.2 j
          rw [← HQ.out] at hq
          obtain ⟨hq0, hq1⟩ := hq
          have hq2 : 0 ≤ q % 256 ∧ q % 256 ≤ 255 := by omega
          have hq3 : 0 ≤ q / 256 ∧ q / 256 < 18446744073709551616 := by omega
          have HX := (show Hid (L ++ (le8 (u64 n)).take (j + 1) = (L ++ (le8 (u64 n)).take j) ++ [q % 256]) by
            show _ = _
            rw [HQ.out, le8_atT _ _ hj8]
            exact le8_take _ _ _ hj8)
          have HN := (show Hid (q / 256 = u64 n / 256 ^ (j + 1)) by show _ = _; rw [HQ.out, div_stepT])
          have HT := (show Hid ((L ++ (le8 (u64 n)).take j).length ≤ 2000) by
            show _ ≤ _
            have := HLL.out
            rw [List.length_append, List.length_take, le8_len]
            omega)
          clear HQ hub
          go_wp2_with (at_builtin; refine app_bytes rfl _ _ rfl _ (L ++ (le8 (u64 n)).take j) rfl (World.ownsRow.alloc hown _) _ [q % 256] rfl (rdv_one wr _ _) (by have := HT.out; simp only [List.length_cons, List.length_nil]; omega) ?_; intro o4 w4 happ4)
          have hp4 := happ4.pre (below_alloc wr _)
          rw [← HX.out] at hp4
          have hf4 := hp4.fr hfr hbel.size
          have hb4 := hbel.trans (hp4.below hfr hbel.size)
          have hgo := hp4.own
          clear hp4 happ4 hown hfr hbel
          go_roundw
          case rel => exact ⟨j + 1, q / 256, by omega, by go_num, by rfl, HN, hgo, hf4, hb4⟩
          case measure => simp [intOf]; omega
        · rw [List.take_of_length_le (by rw [le8_len]; omega), ← HS.out] at hown
          clear HQ hub
          go_wp2_with fail
          go_roundw
          case rel => exact ⟨k + 1, by omega, by go_num, hown, hfr, hbel⟩
          case measure => simp [intOf]; omega
    · rw [List.take_of_length_le (by omega)] at hown
      clear HC
      go_wp2_with fail
      go_ret
      exact ⟨_, rfl, hown, hfr, hbel⟩
end
section
open Go.RowKit Oct
theorem flat_putS {k n q : Nat} {cur r b0 : List Value} {A B : List (List Value)} (hA : ∀ r ∈ A, r.length = k) (hB : ∀ r ∈ b0 :: B, r.length = k) (hr : r.length = k) (hq : A.length = q) (hn : (A ++ b0 :: B).length = n) (hc : n * k ≤ cur.length)
    (ht : cur.take (n * k) = (A ++ b0 :: B).flatten) : (splice cur (q * k) r).take (n * k) = (A ++ r :: B).flatten := by
  have hAl : A.flatten.length = q * k := by rw [flat_len hA, hq]
  have hB' : ∀ r ∈ B, r.length = k := fun x hx => hB x (by simp [hx])
  have hb0 := hB b0 (by simp)
  have hBl : B.flatten.length = B.length * k := flat_len hB'
  have hnn : n = q + 1 + B.length := by rw [← hn, List.length_append, List.length_cons, hq]; omega
  have hmul : n * k = q * k + (k + B.length * k) := by rw [hnn, Nat.add_mul, Nat.add_mul]; omega
  have e1 : cur.take (q * k) = A.flatten := by
    have := congrArg (List.take (q * k)) ht
    rw [List.take_take, Nat.min_eq_left (by omega), List.flatten_append, ← hAl, List.take_left] at this
    rw [← hAl]; exact this
  have hAb : (A.flatten ++ b0).length = q * k + k := by rw [List.length_append, hAl, hb0]
  have e3 : (A.flatten ++ b0 ++ B.flatten).drop (q * k + k) = B.flatten := by rw [← hAb]; exact List.drop_left
  have e2 : (cur.drop (q * k + k)).take (B.length * k) = B.flatten := by
    have := congrArg (List.drop (q * k + k)) ht
    rw [List.drop_take, List.flatten_append, List.flatten_cons, ← List.append_assoc, e3] at this
    rw [← this]
    congr 1
    omega
  unfold splice
  rw [e1, hr, List.flatten_append, List.flatten_cons, ← e2, hmul, ← hAl, List.take_length_add_append, ← hr, List.take_length_add_append, hAl]
theorem Row.uniqS {w : World} {b : Nat} {t t' : TypeId} {xs ys : List Value} (h : Row w b t xs) (h' : Row w b t' ys) : xs = ys := by
  unfold Row at h h'
  rw [h] at h'
  simp at h'
  exact h'.1
section
variable {α : Type} {R : (Nat → Prop) → World → List Value → α → Prop} {T : TypeId} {kk : Nat}
/-- A row of records of which the first q are copied. -/
structure MixR (R : (Nat → Prop) → World → List Value → α → Prop) (T : TypeId) (kk : Nat) (B g n cap q : Nat) (w0 w : World) (rows0 : List (List Value)) (ys : List α) : Prop where
  bel : Below B w0 w
  ex : ∃ (cur : List Value) (A : List (List Value)), Row w g T cur ∧ cur.length = cap * kk ∧ A.length = q ∧ (∀ r ∈ A, r.length = kk) ∧ cur.take (n * kk) = (A ++ rows0.drop q).flatten ∧ All2 (R (fun b => B ≤ b ∧ b ≠ g) w) A (ys.take q)
theorem MixR.row {B g n cap q : Nat} {w0 w : World} {rows0 : List (List Value)} {ys : List α} (h : MixR R T kk B g n cap q w0 w rows0 ys) (h0 : ∀ r ∈ rows0, r.length = kk) {r : List Value} (hr : rows0[q]? = some r) (hq : q < n) : w.rangeAt g (q * kk) r := by
  obtain ⟨cur, A, h1, h2, h3, h4, h5, h6⟩ := h.ex
  intro j v hj
  refine h1.cell ?_
  have hrl := h0 r (List.mem_of_getElem? hr)
  have hjl : j < kk := by rw [← hrl]; exact (List.getElem?_eq_some_iff.1 hj).1
  have e : (A ++ rows0.drop q)[q]? = some r := by rw [List.getElem?_append_right (by omega), h3, Nat.sub_self, List.getElem?_drop, Nat.add_zero]; exact hr
  have hl : ∀ x ∈ A ++ rows0.drop q, x.length = kk := fun x hx => by
    rcases List.mem_append.1 hx with hx | hx
    · exact h4 x hx
    · exact h0 x (List.mem_of_mem_drop hx)
  have := flat_at hl e hj
  have hmul : (q + 1) * kk ≤ n * kk := Nat.mul_le_mul_right _ hq
  rw [Nat.add_mul] at hmul
  rw [← h5, List.getElem?_take, if_pos (by omega)] at this
  exact this
theorem MixR.step (hR : Mov R) {B g n cap q : Nat} {w0 w w1 w2 : World} {rows0 : List (List Value)} {ys : List α} (h : MixR R T kk B g n cap q w0 w rows0 ys) (h0 : ∀ r ∈ rows0, r.length = kk) (hn : rows0.length = n) (hc : n ≤ cap) {x : α} (hx : ys[q]? = some x) (hq : q < n)
    (hb1 : Below w.heap.size w w1) (hBg : B ≤ g) {r : List Value} (hlr : r.length = kk) (hr : R (From w.heap.size) w1 r x) (hB : B ≤ w.heap.size) (hg2 : w1.grownBy w2 (some g)) {cur0 : List Value} (hc0 : Row w1 g T cur0) (hr2 : Row w2 g T (splice cur0 (q * kk) r)) : MixR R T kk B g n cap (q + 1) w0 w2 rows0 ys := by
  obtain ⟨cur, A, h1, h2, h3, h4, h5, h6⟩ := h.ex
  have hgl := h1.lt
  obtain rfl : cur = cur0 := (h1.below hb1).uniqS hc0
  have hrl : r.length = kk := hlr
  have hmul : (q + 1) * kk ≤ n * kk := Nat.mul_le_mul_right _ hq
  have hmul2 : n * kk ≤ cap * kk := Nat.mul_le_mul_right _ hc
  rw [Nat.add_mul] at hmul
  refine ⟨(h.bel.trans (hb1.mono hB)).trans (grown_below hg2 (Nat.le_trans hB hb1.size) (fun k hk => by cases hk; exact hBg)), splice cur (q * kk) r, A ++ [r], hr2, ?_, ?_, ?_, ?_, ?_⟩
  · rw [length_splice _ _ _ (by omega), h2]
  · simp [h3]
  · intro y hy
    rcases List.mem_append.1 hy with hy | hy
    · exact h4 y hy
    · simp at hy; subst hy; exact hrl
  · obtain ⟨b0, hb0⟩ : ∃ b0, rows0[q]? = some b0 := ⟨_, List.getElem?_eq_getElem (by omega)⟩
    have hd : rows0.drop q = b0 :: rows0.drop (q + 1) := by
      rw [List.drop_eq_getElem_cons (by omega : q < rows0.length)]
      rw [List.getElem?_eq_getElem (by omega)] at hb0
      injection hb0 with hb0
      rw [hb0]
    rw [hd] at h5
    rw [List.append_assoc, List.singleton_append]
    refine flat_putS h4 (fun y hy => ?_) hrl h3 ?_ (by omega) h5
    · rw [← hd] at hy; exact h0 y (List.mem_of_mem_drop hy)
    · rw [← hd, List.length_append, List.length_drop]; omega
  · have e : ys.take (q + 1) = ys.take q ++ [x] := by
      rw [List.take_add_one, hx]; rfl
    rw [e]
    refine All2.app (h6.mono fun y a hy => hR _ _ _ _ _ _ hy (Nat.le_trans hb1.size hg2.size) fun k hk hlt => ⟨?_, hk⟩) ⟨hR _ _ _ _ _ _ hr hg2.size fun k hk hlt => ⟨hg2.block k hlt (fun e => ?_), Nat.le_trans hB hk, fun e => ?_⟩, trivial⟩
    · have hs := hb1.size
      exact (hg2.block k (by omega) (fun e => by injection e with e; exact hk.2 e)).trans (hb1.block k hlt)
    · injection e with e
      unfold From at hk; omega
    · unfold From at hk; omega
theorem MixR.done (hR : Mov R) {B g n cap : Nat} {w0 w : World} {rows0 : List (List Value)} {ys : List α} (h : MixR R T kk B g n cap n w0 w rows0 ys) (hn : rows0.length = n) (hy : ys.length = n) (hc : n ≤ cap) (hm : cap ≤ maxLen) (hB : B ≤ g) : LB R T kk B w (.slice (some ⟨g, 0, none⟩) n cap) ys := by
  obtain ⟨cur, A, h1, h2, h3, h4, h5, h6⟩ := h.ex
  rw [List.drop_of_length_le (by omega), List.append_nil] at h5
  rw [List.take_of_length_le (by omega)] at h6
  refine ⟨A, h4, ⟨flat_len h4, .inr ⟨g, cap, cur.toArray, by rw [h3], Nat.zero_le _, h1, by omega, hm, by simpa using h2, by rw [h3]; simpa using h5⟩⟩, fr_at _ _ _ _ hB, h6.mono fun y a hy => hR _ _ _ _ _ _ hy (Nat.le_refl _) fun k hk _ => ⟨rfl, hk.1, fun e => hk.2 ?_⟩⟩
  simp [Value.ownBlock] at e
  exact e.symm
end
end
end Go.Proofs.YtgbfmccecnfooaaGreatDoor
