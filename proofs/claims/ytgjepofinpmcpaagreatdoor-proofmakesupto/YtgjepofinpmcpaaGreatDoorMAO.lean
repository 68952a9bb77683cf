/- Lists of records that are copied one by one: where the loop stands. -/
import Derived.Test.YtgjepofinpmcpaaGreatDoorMAE
import Derived.Test.YtgjepofinpmcpaaGreatDoorMAA
import Derived.Laws.CopyOwn
import Derived.Test.YtgjepofinpmcpaaGreatDoorMAM
import Derived.Test.YtgjepofinpmcpaaGreatDoorMAJ
set_option linter.unusedSimpArgs false
set_option linter.unusedVariables false
namespace Go.Proofs.YtgjepofinpmcpaaGreatDoor
section
open Go.RowKit Oct
def zBp : List Int → List Int
  | [] => []
  | n :: l => le8 (u64 n) ++ zBp l
theorem zDn : ∀ l, (zBp l).length = 8 * l.length
  | [] => rfl
  | n :: l => by rw [zBp, List.length_append, zC5, zDn l, List.length_cons]; omega
theorem zIw : ∀ l, Byt (zBp l)
  | [] => Byt.nil
  | n :: l => by
    intro x hx
    rcases List.mem_append.1 hx with h | h
    · exact zOb _ x h
    · exact zIw l x h
theorem zM7 : ∀ a b, zBp (a ++ b) = zBp a ++ zBp b
  | [], _ => rfl
  | n :: a, b => by rw [List.cons_append, zBp, zBp, zM7 a b, List.append_assoc]
theorem zJs (l : List Int) (k : Nat) (n : Int) (h : l[k]? = some n) : zBp (l.take (k + 1)) = zBp (l.take k) ++ le8 (u64 n) := by
  rw [List.take_add_one, h, zM7]
  simp [zBp]
theorem le8_atT (u : Int) (k : Nat) (hk : k < 8) : u / 256 ^ k % 256 = (le8 u).getD k 0 := by
  have := zP4 u k hk (8 * k) rfl
  rw [← this, Int.pow_mul]
  rfl
theorem u64_bdT (n : Int) : 0 ≤ u64 n ∧ u64 n < 18446744073709551616 := by unfold u64; omega
theorem zS1 (u : Int) (j : Nat) : u / 256 ^ j / 256 = u / 256 ^ (j + 1) := by
  rw [Int.pow_succ, Int.ediv_ediv_of_nonneg (by exact Int.le_of_lt (Int.pow_pos (by decide)))]
theorem div_bdT {u : Int} (h0 : 0 ≤ u) (h1 : u < 18446744073709551616) (j : Nat) : 0 ≤ u / 256 ^ j ∧ u / 256 ^ j < 18446744073709551616 :=
  ⟨Int.ediv_nonneg h0 (Int.le_of_lt (Int.pow_pos (by decide))), Int.lt_of_le_of_lt (Int.ediv_le_self _ h0) h1⟩
theorem zTd (n : Int) : IntKind.u64.wrap n = u64 n := rfl
def nc (l : List Int) : List Value := l.map (Value.int .i64)
theorem zOh (l : List Int) : (nc l).length = l.length := List.length_map _
theorem nc_get {l : List Int} {k : Nat} {n : Int} (h : l[k]? = some n) : (nc l)[k]? = some (.int .i64 n) := by rw [nc, List.getElem?_map, h]; rfl
theorem run_mkb (n : Nat) (hn : n ≤ 1000) (u : World) : (Instr.makeSlice 23 (.int .i64 0) (.int .i64 (8 * (n : Int)))).run Tryz.prog u =
    .ok (.slice (some ⟨u.heap.size, 0, none⟩) 0 (8 * n)) (u.alloc (.cells (madeCells #[.int .u8 0] (8 * n)) 5)) := by
  obtain ⟨i0, hi, hz0, hz1, hz2⟩ := info_parts Tryz.info5
  have h := run_make (P := Tryz.prog) u 23 5 i0 (.int .u8 0) Tryz.underlying23 hi hz0 .i64 .i64 0 (8 * (n : Int)) (by omega) (by omega) (by rw [hz2]; omega) (by omega)
  rw [show (8 * (n : Int)).toNat = 8 * n by omega] at h
  simpa [hz1, Value.cells] using h
theorem zRz (w : World) (n : Nat) (hn : n ≤ 1000) : Own (w.alloc (.cells (madeCells #[.int .u8 0] (8 * n)) 5)) 5 (.slice (some ⟨w.heap.size, 0, none⟩) 0 (8 * n)) (bc []) :=
  ⟨rfl, .inr ⟨w.heap.size, 8 * n, madeCells #[.int .u8 0] (8 * n), rfl, Nat.zero_le _, heap_alloc_new w _, Nat.zero_le _, by unfold maxLen; omega, by simp [madeCells], rfl⟩⟩
set_option maxRecDepth 10000 in
set_option maxHeartbeats 1000000 in
theorem nums_any (w : World) (v : Value) (l : List Int) (hv : Rdv w v (nc l)) (hl0 : 0 < l.length) (hl : l.length ≤ 100) :
    Calls Tryz.prog 77 #[v] w fun e w' => ∃ v', e = .returned v' ∧ Own w' 5 v' (bc (zBp l)) ∧ Fr w.heap.size v' ∧ Below w.heap.size w w' := by
  obtain ⟨b, off, cap, rfl, hc1, hc2, hb, hcell⟩ := hv.at (by rw [zOh]; exact hl0)
  have HC := (show Hid (∀ (j : Nat) (n : Int), l[j]? = some n → w.cell? ⟨b, off + j, none⟩ = some (.int .i64 n)) from fun j n h => hcell j _ (nc_get h))
  rw [zOh] at hc1 ⊢
  clear hcell hv
  have hmk := run_mkb l.length (by omega)
  obtain ⟨O, hO⟩ : ∃ O, O = Obj.cells (madeCells #[.int .u8 0] (8 * l.length)) 5 := ⟨_, rfl⟩
  have how : Own (w.alloc O) 5 (.slice (some ⟨w.heap.size, 0, none⟩) 0 (8 * l.length)) (bc []) := hO ▸ zRz w _ (by omega)
  rw [← hO] at hmk
  clear hO
  have b0 := zA0 w O
  have hfr : Fr w.heap.size (.slice (some ⟨w.heap.size, 0, none⟩) 0 (8 * l.length)) := zBx _ _ _ _ zN
  go_enter Tryz.func77, Tryz.ntmps77
  go_wp2_with fail
  go_loopw [3, 13] (fun o i wr => ∃ k : Nat, k ≤ l.length ∧ i = .int .i64 k ∧ Own wr 5 o (bc (zBp (l.take k))) ∧ Fr w.heap.size o ∧ Below w.heap.size w wr) (fun _ i _ => l.length - (intOf i).toNat)
  case atStart => exact ⟨0, Nat.zero_le _, rfl, how, hfr, b0⟩
  case round =>
    clear how hfr b0 hmk
    obtain ⟨k, hk, rfl, hown, hfr, hbel⟩ := hrel
    by_cases hkl : k < l.length
    · obtain ⟨n, hn⟩ : ∃ n, l[k]? = some n := ⟨_, List.getElem?_eq_getElem hkl⟩
      have hcp : wr.cell? ⟨b, off + k, none⟩ = some (.int .i64 n) := (hbel.cell (p := ⟨b, off + k, none⟩) hb).trans (HC.out k n hn)
      have HS := (show Hid (zBp (l.take (k + 1)) = zBp (l.take k) ++ le8 (u64 n)) from zJs l k n hn)
      have hlen := zDn (l.take k)
      rw [List.length_take, Nat.min_eq_left (by omega)] at hlen
      have HLL := (show Hid ((zBp (l.take k)).length ≤ 1000) by show _ ≤ _; omega)
      clear hlen hn
      generalize zBp (l.take k) = L at *
      go_wp2_with fail
      go_loopw [3, 17] (fun o i w' => ∃ j : Nat, j ≤ 8 ∧ i = .int .i64 j ∧ Own w' 5 o (bc (L ++ (le8 (u64 n)).take j)) ∧ Fr w.heap.size o ∧ Below w.heap.size w w') (fun _ i _ => (8 - intOf i).toNat)
      case atStart => exact ⟨0, by omega, rfl, by rw [List.take_zero, List.append_nil]; exact hown, hfr, hbel⟩
      case round =>
        clear hown hfr hbel hcp
        obtain ⟨j, hj, rfl, hown, hfr, hbel⟩ := hrel
        by_cases hj8 : j < 8
        · obtain ⟨m, hm⟩ : ∃ m : Nat, (8 : Int) * (j : Int) = m := ⟨8 * j, by omega⟩
          have HM := (show Hid (u64 n / 2 ^ m % 256 = (le8 (u64 n)).getD j 0) from zP4 (u64 n) j hj8 m (by omega))
          have HX := (show Hid (L ++ (le8 (u64 n)).take (j + 1) = (L ++ (le8 (u64 n)).take j) ++ [(le8 (u64 n)).getD j 0]) from zGh _ _ _ hj8)
          have HT := (show Hid ((L ++ (le8 (u64 n)).take j).length ≤ 2000) by
            show _ ≤ _
            have := HLL.out
            rw [List.length_append, List.length_take, zC5]
            omega)
          have hm0 : (0 : Int) ≤ (m : Int) := by omega
          go_wp2_with (at_builtin; refine zAx rfl _ _ rfl _ (L ++ (le8 (u64 n)).take j) rfl (World.ownsRow.alloc hown _) _ [u64 n / 2 ^ m % 256] rfl (zCy wr _ _) (by have := HT.out; simp only [List.length_cons, List.length_nil]; omega) ?_; intro o4 w4 happ4)
          have hp4 := happ4.pre (zA0 wr _)
          rw [HM.out, ← HX.out] at hp4
          have hf4 := hp4.fr hfr hbel.size
          have hb4 := hbel.trans (hp4.below hfr hbel.size)
          have hgo := hp4.own
          clear hp4 happ4 hown hfr hbel
          go_roundw
          case rel => exact ⟨j + 1, by omega, by go_num, hgo, hf4, hb4⟩
          case measure => simp [intOf]; omega
        · rw [List.take_of_length_le (by rw [zC5]; omega), ← HS.out] at hown
          go_wp2_with fail
          go_roundw
          case rel => exact ⟨k + 1, by omega, by go_num, hown, hfr, hbel⟩
          case measure => simp [intOf]; omega
    · rw [List.take_of_length_le (by omega)] at hown
      clear HC
      go_wp2_with fail
      go_ret
      exact ⟨_, rfl, hown, hfr, hbel⟩
set_option maxRecDepth 10000 in
set_option maxHeartbeats 1000000 in
theorem zNo (w : World) (v : Value) (l : List Int) (hv : Rdv w v (nc l)) (hl0 : 0 < l.length) (hl : l.length ≤ 100) :
    Calls Tryz.prog 87 #[v] w fun e w' => ∃ v', e = .returned v' ∧ Own w' 5 v' (bc (zBp l)) ∧ Fr w.heap.size v' ∧ Below w.heap.size w w' := by
  obtain ⟨b, off, cap, rfl, hc1, hc2, hb, hcell⟩ := hv.at (by rw [zOh]; exact hl0)
  have HC := (show Hid (∀ (j : Nat) (n : Int), l[j]? = some n → w.cell? ⟨b, off + j, none⟩ = some (.int .i64 n)) from fun j n h => hcell j _ (nc_get h))
  rw [zOh] at hc1 ⊢
  clear hcell hv
  have hstart : Own (w.alloc (.cells #[] 5)) 5 (.slice (some ⟨w.heap.size, 0, none⟩) 0 0) (bc []) := zE3 w 5
  have hB0 := zA0 w (.cells #[] 5)
  have hF0 : Fr w.heap.size (.slice (some ⟨w.heap.size, 0, none⟩) 0 0) := fun k hk => by simp [Value.ownBlock] at hk; omega
  go_enter Tryz.func87, Tryz.ntmps87
  go_wp2_with fail
  go_loopw [3, 11] (fun o i wr => ∃ k : Nat, k ≤ l.length ∧ i = .int .i64 k ∧ Own wr 5 o (bc (zBp (l.take k))) ∧ Fr w.heap.size o ∧ Below w.heap.size w wr) (fun _ i _ => l.length - (intOf i).toNat)
  case atStart => exact ⟨0, Nat.zero_le _, rfl, hstart, hF0, hB0⟩
  case round =>
    clear hstart hF0 hB0
    obtain ⟨k, hk, rfl, hown, hfr, hbel⟩ := hrel
    by_cases hkl : k < l.length
    · obtain ⟨n, hn⟩ : ∃ n, l[k]? = some n := ⟨_, List.getElem?_eq_getElem hkl⟩
      have hcp : wr.cell? ⟨b, off + k, none⟩ = some (.int .i64 n) := (hbel.cell (p := ⟨b, off + k, none⟩) hb).trans (HC.out k n hn)
      have HS := (show Hid (zBp (l.take (k + 1)) = zBp (l.take k) ++ le8 (u64 n)) from zJs l k n hn)
      have hlen := zDn (l.take k)
      rw [List.length_take, Nat.min_eq_left (by omega)] at hlen
      have HLL := (show Hid ((zBp (l.take k)).length ≤ 1000) by show _ ≤ _; omega)
      have hub := u64_bdT n
      clear hlen hn
      generalize zBp (l.take k) = L at *
      go_wp2_with fail
      rw [zTd]
      go_loopw [3, 6, 7] (fun o q i w' => ∃ (j : Nat) (q' : Int), j ≤ 8 ∧ i = .int .i64 j ∧ q = .int .u64 q' ∧ Hid (q' = u64 n / 256 ^ j) ∧ Own w' 5 o (bc (L ++ (le8 (u64 n)).take j)) ∧ Fr w.heap.size o ∧ Below w.heap.size w w') (fun _ _ i _ => (8 - intOf i).toNat)
      case atStart => exact ⟨0, u64 n, by omega, rfl, rfl, by show _ = _; simp, by rw [List.take_zero, List.append_nil]; exact hown, hfr, hbel⟩
      case round =>
        clear hown hfr hbel hcp
        obtain ⟨j, q, hj, rfl, rfl, HQ, hown, hfr, hbel⟩ := hrel
        by_cases hj8 : j < 8
        · have hq := div_bdT hub.1 hub.2 j
          rw [← HQ.out] at hq
          obtain ⟨hq0, hq1⟩ := hq
          have hq2 : 0 ≤ q % 256 ∧ q % 256 ≤ 255 := by omega
          have hq3 : 0 ≤ q / 256 ∧ q / 256 < 18446744073709551616 := by omega
          have HX := (show Hid (L ++ (le8 (u64 n)).take (j + 1) = (L ++ (le8 (u64 n)).take j) ++ [q % 256]) by
            show _ = _
            rw [HQ.out, le8_atT _ _ hj8]
            exact zGh _ _ _ hj8)
          have HN := (show Hid (q / 256 = u64 n / 256 ^ (j + 1)) by show _ = _; rw [HQ.out, zS1])
          have HT := (show Hid ((L ++ (le8 (u64 n)).take j).length ≤ 2000) by
            show _ ≤ _
            have := HLL.out
            rw [List.length_append, List.length_take, zC5]
            omega)
          clear HQ hub
          go_wp2_with (at_builtin; refine zAx rfl _ _ rfl _ (L ++ (le8 (u64 n)).take j) rfl (World.ownsRow.alloc hown _) _ [q % 256] rfl (zCy wr _ _) (by have := HT.out; simp only [List.length_cons, List.length_nil]; omega) ?_; intro o4 w4 happ4)
          have hp4 := happ4.pre (zA0 wr _)
          rw [← HX.out] at hp4
          have hf4 := hp4.fr hfr hbel.size
          have hb4 := hbel.trans (hp4.below hfr hbel.size)
          have hgo := hp4.own
          clear hp4 happ4 hown hfr hbel
          go_roundw
          case rel => exact ⟨j + 1, q / 256, by omega, by go_num, by rfl, HN, hgo, hf4, hb4⟩
          case measure => simp [intOf]; omega
        · rw [List.take_of_length_le (by rw [zC5]; omega), ← HS.out] at hown
          clear HQ hub
          go_wp2_with fail
          go_roundw
          case rel => exact ⟨k + 1, by omega, by go_num, hown, hfr, hbel⟩
          case measure => simp [intOf]; omega
    · rw [List.take_of_length_le (by omega)] at hown
      clear HC
      go_wp2_with fail
      go_ret
      exact ⟨_, rfl, hown, hfr, hbel⟩
end
section
open Oct
namespace Sha
def Rst (l rest : List Int) : Prop := rest.length = 64 ∧ Byt rest ∧ rest.take (l.length % 64) = l.drop (64 * (l.length / 64))
theorem zFh {a b : List Int} (ha : Byt a) (hb : Byt b) : Byt (a ++ b) := fun x hx => by
  rcases List.mem_append.1 hx with h | h
  · exact ha x h
  · exact hb x h
theorem zGa {a : List Int} (ha : Byt a) (n : Nat) : Byt (a.take n) := fun x hx => ha x (List.mem_of_mem_take hx)
theorem zOe {a : List Int} (ha : Byt a) (n : Nat) : Byt (a.drop n) := fun x hx => ha x (List.mem_of_mem_drop hx)
theorem zJj {a x : List Int} (ha : Byt a) (hx : Byt x) (f : Nat) : Byt (splice a f x) := zFh (zGa ha f) (zFh hx (zOe ha _))
theorem zH8 (n : Nat) : Byt (List.replicate n 0) := fun x hx => by
  rw [(List.mem_replicate.1 hx).2]
  decide
theorem zNs {rest x : List Int} {f : Nat} (hr : rest.length = 64) (hn : f + x.length ≤ 64) : (splice rest f x).take (f + x.length) = rest.take f ++ x := by
  unfold splice
  rw [← List.append_assoc, List.take_append_of_le_length (by simp; omega), List.take_of_length_le (by simp; omega)]
theorem zOw {l rest x : List Int} (h : Rst l rest) (hx : Byt x) (hn : l.length % 64 + x.length ≤ 64) :
    (splice rest (l.length % 64) x).length = 64 ∧ Byt (splice rest (l.length % 64) x) ∧ (splice rest (l.length % 64) x).take (l.length % 64 + x.length) = (l ++ x).drop (64 * (l.length / 64)) := by
  obtain ⟨h1, h2, h3⟩ := h
  refine ⟨by rw [length_splice _ _ _ (by omega), h1], zJj h2 hx _, ?_⟩
  rw [zNs h1 hn, h3, List.drop_append_of_le_length (by omega)]
theorem zSy {l rest x : List Int} (h : Rst l rest) (hx : Byt x) (hn : l.length % 64 + x.length < 64) :
    Rst (l ++ x) (splice rest (l.length % 64) x) ∧ zDk (l ++ x) ((l ++ x).length / 64) = zDk l (l.length / 64) := by
  obtain ⟨h1, h2, h3⟩ := zOw h hx (by omega)
  have e1 : (l ++ x).length / 64 = l.length / 64 := by rw [List.length_append]; omega
  have e2 : (l ++ x).length % 64 = l.length % 64 + x.length := by rw [List.length_append]; omega
  exact ⟨⟨h1, h2, by rw [e1, e2]; exact h3⟩, by rw [e1, zEu l x _ (by omega)]⟩
theorem zUh {l rest x : List Int} (h : Rst l rest) (hx : Byt x) (hn : l.length % 64 + x.length = 64) :
    Rst (l ++ x) (splice rest (l.length % 64) x) ∧ zDk (l ++ x) ((l ++ x).length / 64) = blk (zDk l (l.length / 64)) (splice rest (l.length % 64) x) := by
  obtain ⟨h1, h2, h3⟩ := zOw h hx (by omega)
  have e1 : (l ++ x).length / 64 = l.length / 64 + 1 := by rw [List.length_append]; omega
  have e2 : (l ++ x).length % 64 = 0 := by rw [List.length_append]; omega
  refine ⟨⟨h1, h2, ?_⟩, ?_⟩
  · rw [e1, e2, List.take_zero, List.drop_eq_nil_of_le (by rw [List.length_append]; omega)]
  · rw [e1, zDk, zEu l x _ (by omega), ← h3, hn, List.take_take, Nat.min_self, List.take_of_length_le (by omega)]
def zBb (rest : List Int) (f : Nat) : List Int := rest.take f ++ 128 :: List.replicate (63 - f) 0
theorem zFm {rest : List Int} {f : Nat} (h : rest.length = 64) (hf : f < 64) : (zBb rest f).length = 64 := by
  simp only [zBb, List.length_append, List.length_take, List.length_cons, List.length_replicate]
  omega
theorem zNl {rest : List Int} (h : Byt rest) (f : Nat) : Byt (zBb rest f) := zFh (zGa h f) (fun x hx => by
  rcases List.mem_cons.1 hx with rfl | hx
  · decide
  · exact zH8 _ x hx)
theorem zJr {rest : List Int} {f : Nat} (h : rest.length = 64) (hf : f < 64) : splice (rest.set f 128) (f + 1) (List.replicate (63 - f) 0) = zBb rest f := by
  unfold splice zBb
  rw [List.length_replicate, List.drop_eq_nil_of_le (by simp; omega), List.append_nil, List.take_set, List.take_add_one, List.getElem?_eq_getElem (by omega), List.set_append_right _ _ (by simp; omega)]
  simp [show min f rest.length = f by omega]
def lay (r : List Int) (n : Int) (i : Nat) : List Int := r.take 56 ++ ((be8 n).take i ++ r.drop (56 + i))
theorem zS3 {r : List Int} (h : r.length = 64) (n : Int) (i : Nat) (hi : i ≤ 8) : (lay r n i).length = 64 := by
  simp only [lay, List.length_append, List.length_take, List.length_drop, zEe]
  omega
theorem zOo {r : List Int} (n : Int) : lay r n 0 = r := by simp [lay]
theorem zTh {r : List Int} (h : r.length = 64) (n : Int) (i : Nat) (hi : i < 8) : (lay r n i).set (56 + i) ((be8 n).getD i 0) = lay r n (i + 1) := by
  obtain ⟨A, hA⟩ : ∃ A, A = r.take 56 := ⟨_, rfl⟩
  have hl : A.length = 56 := by rw [hA]; simp; omega
  have hb : i < (be8 n).length := by rw [zEe]; exact hi
  have e2 : (be8 n).take (i + 1) = (be8 n).take i ++ [(be8 n).getD i 0] := by
    rw [List.take_add_one, List.getElem?_eq_getElem hb]
    simp [List.getD, List.getElem?_eq_getElem hb]
  have hl2 : ((be8 n).take i).length = i := by simp [zEe]; omega
  unfold lay
  rw [e2, ← hA, List.set_append_right _ _ (by omega), hl, Nat.add_sub_cancel_left, List.set_append_right _ _ (by omega), hl2, Nat.sub_self, List.append_assoc]
  congr 2
  rw [List.drop_eq_getElem_cons (by omega)]
  simp [Nat.add_assoc]
theorem zTi (n : Int) : Byt (be8 n) := by
  intro b hb
  simp only [be8, List.mem_cons, List.not_mem_nil, or_false] at hb
  rcases hb with rfl | rfl | rfl | rfl | rfl | rfl | rfl | rfl <;> omega
theorem zU2 {r : List Int} (h : Byt r) (n : Int) (i : Nat) : Byt (lay r n i) := zFh (zGa h _) (zFh (zGa (zTi n) _) (zOe h _))
theorem zUb {r : List Int} (h : r.length = 64) (n : Int) : lay r n 8 = r.take 56 ++ be8 n := by
  unfold lay
  rw [List.drop_eq_nil_of_le (by omega), List.append_nil]
  rfl
theorem fin_one {l rest : List Int} (h : Rst l rest) (hf : l.length % 64 < 56) : blk (zDk l (l.length / 64)) (lay (zBb rest (l.length % 64)) (8 * l.length) 8) = zDk (pad l) ((pad l).length / 64) := by
  obtain ⟨h1, h2, h3⟩ := h
  have e1 : (pad l).length / 64 = l.length / 64 + 1 := by rw [zMy]; omega
  rw [e1, zDk, pad, zEu l _ _ (by omega)]
  congr 1
  obtain ⟨f, hf'⟩ : ∃ f, f = l.length % 64 := ⟨_, rfl⟩
  obtain ⟨A, hA⟩ : ∃ A, A = rest.take f := ⟨_, rfl⟩
  have hl : A.length = f := by rw [hA]; simp; omega
  have hz : zs l.length = 55 - f := by unfold zs; omega
  have hr : List.replicate (63 - f) (0 : Int) = List.replicate (55 - f) 0 ++ List.replicate 8 0 := by rw [List.replicate_append_replicate]; congr 1; omega
  rw [zUb (zFm h1 (by omega)), List.drop_append_of_le_length (by omega), ← h3, ← hf', zBb, ← hA, hz, hr]
  rw [← List.cons_append, ← List.append_assoc, ← List.cons_append, ← List.append_assoc]
  rw [List.take_left' (by simp [hl]; omega), List.take_of_length_le (by simp [hl, zEe]; omega)]
theorem fin_two {l rest : List Int} (h : Rst l rest) (hf : 56 ≤ l.length % 64) :
    blk (blk (zDk l (l.length / 64)) (zBb rest (l.length % 64))) (lay (List.replicate 64 0) (8 * l.length) 8) = zDk (pad l) ((pad l).length / 64) := by
  obtain ⟨h1, h2, h3⟩ := h
  have e1 : (pad l).length / 64 = l.length / 64 + 1 + 1 := by rw [zMy]; omega
  obtain ⟨f, hf'⟩ : ∃ f, f = l.length % 64 := ⟨_, rfl⟩
  obtain ⟨A, hA⟩ : ∃ A, A = rest.take f := ⟨_, rfl⟩
  have hl : A.length = f := by rw [hA]; simp; omega
  have hz : zs l.length = (63 - f) + 56 := by unfold zs; omega
  have hp : pad l = l ++ (128 :: List.replicate (63 - f) 0) ++ (List.replicate 56 0 ++ be8 (8 * l.length)) := by
    rw [pad, hz, ← List.replicate_append_replicate]
    simp
  have hX : (l ++ (128 :: List.replicate (63 - f) 0)).length = 64 * (l.length / 64 + 1) := by simp; omega
  have hd : (l ++ (128 :: List.replicate (63 - f) (0 : Int))).drop (64 * (l.length / 64)) = zBb rest f := by
    rw [List.drop_append_of_le_length (by omega), ← h3, ← hf']
    rfl
  have hd2 : (zBb rest f).length = 64 := zFm h1 (by omega)
  rw [e1, zDk, zDk, hp, zEu _ _ _ (by omega), zEu l _ _ (by omega), List.drop_append_of_le_length (by omega), hd, List.take_append_of_le_length (by omega), List.take_of_length_le (by omega), ← hf', List.drop_left' hX]
  congr 1
end Sha
end
section
open Go.RowKit Oct
section
variable {P : Program}
theorem zEy {ops : Array Oper} {Q : Exit → Act → World → Prop} {i : Nat} {K : Act → World → Prop} {a : Act} {w : World} {o : Oper} (hi : ops[i]? = some o) (hgd : o.guard = none) (ty : TypeId) (x y : Operand) (ho : o.op = .store ty x y)
    (b : Nat) (ys : List Value) (hx : a.eval x = .pointer (some ⟨b, 0, none⟩)) (hy : a.eval y = .agg ys.toArray) (t : TypeId) (xs : List Value) (h : Row w b t xs) (hl : xs.length = ys.length)
    (hs : (P.info? ty).map (·.size) = some ys.length) (h1 : ∀ v ∈ ys, v.oneCell' = true) (k : ∀ w', Row w' b t ys → w.grownBy w' (some b) → K (a.put o.dst undef) w') : wpOp P ops Q i K a w := by
  have hw : Region.wanted o (yielded ops a.tmps) = true := by simp [Region.wanted, hgd]
  unfold wpOp
  rw [hi]
  simp only [hw, if_true]
  left
  unfold Oper.wp execOp
  simp only [ho, hx, hy, Sem.run_bind, Sem.run_pure, Result.andThen_ok, h.store ty ys hl hs h1]
  exact k _ (h.setRow ys) (zBn _ _ _)
theorem wpOp_set {ops : Array Oper} {Q : Exit → Act → World → Prop} {i : Nat} {K : Act → World → Prop} {a : Act} {w : World} {o : Oper} (hi : ops[i]? = some o) (hgd : o.guard = none) (ty : TypeId) (x y : Operand) (ho : o.op = .store ty x y)
    (b j : Nat) (v : Value) (hx : a.eval x = .pointer (some ⟨b, j, none⟩)) (hy : a.eval y = v) (t : TypeId) (xs : List Value) (h : Row w b t xs) (hj : j < xs.length)
    (hs : (P.info? ty).map (·.size) = some 1) (h1 : v.oneCell' = true) (k : ∀ w', Row w' b t (xs.set j v) → w.grownBy w' (some b) → K (a.put o.dst undef) w') : wpOp P ops Q i K a w := by
  have hw : Region.wanted o (yielded ops a.tmps) = true := by simp [Region.wanted, hgd]
  unfold wpOp
  rw [hi]
  simp only [hw, if_true]
  left
  unfold Oper.wp execOp
  simp only [ho, hx, hy, Instr.storeAt, Instr.sureAddr, Sem.run_bind, Sem.run_pure, Result.andThen_ok, zSr h ty hs j hj v h1]
  exact k _ (h.setRow _) (zBn _ _ _)
end
theorem zHm (w : World) : (Instr.build 40 #[]).run Tryz.prog w = .ok (.agg (mc zAc sv0).toArray) w := by kernel_rfl
set_option maxHeartbeats 1000000 in
theorem decCatch (pm pe : Nat) (n : Int) (m : PMsg) (s : SV) (ve : Value) (w : World) (hm : Row w pm 40 (mc m s)) (he : Row w pe 24 [ve]) (hne : pm ≠ pe) :
    CallsD Tryz.prog 34 #[.pointer (some ⟨pm, 0, none⟩), .pointer (some ⟨pe, 0, none⟩)] (.panicking [{ v := .iface 24 (.int .i64 n), recovered := false }]) w fun e u' w' =>
      e = .returned (.tuple #[]) ∧ u' = .panicking [{ v := .iface 24 (.int .i64 n), recovered := true }] ∧ Row w' pm 40 (mc zAc sv0) ∧ Row w' pe 24 [.int .i64 n] ∧ Two pm pe w w' := by
  refine callsD_of_wpS Tryz.func34 rfl fun c₀ cs hu => ?_
  apply wpS_seq
  apply wpS_region
  simp [wpOpsS, go_sem, recoverD, hu, Tryz.ntmps34, Exit.thenS]
  have ht : (#[Value.pointer (some ⟨pm, 0, none⟩), Value.pointer (some ⟨pe, 0, none⟩)] ++ ((Array.replicate 7 undef).setIfInBounds 1 (Value.iface 24 (Value.int .i64 n))).setIfInBounds 0 (Value.iface 24 (Value.int .i64 n)) : Array Value) =
    #[.pointer (some ⟨pm, 0, none⟩), .pointer (some ⟨pe, 0, none⟩), .iface 24 (.int .i64 n), .iface 24 (.int .i64 n), undef, undef, undef, undef, undef] := rfl
  rw [ht]
  clear ht
  refine wpS_of_wp ?_
  go_wp2_with fail
  have hQ : ∀ (d : Option Tmp) (v : Value) (c : List PanicEntry) (a : Act) (w' : World), bodyPostS Tryz.prog Tryz.f34 c₀ cs
      (fun e u' w' => e = .returned (.tuple #[]) ∧ u' = .panicking [{ v := .iface 24 (.int .i64 n), recovered := true }] ∧ Row w' pm 40 (mc zAc sv0) ∧ Row w' pe 24 [.int .i64 n] ∧ Two pm pe w w')
      (.panic c) (a.put d v) ({ fn := c₀.fn, tmps := c₀.tmps, todo := c₀.todo, defers := c₀.defers, mode := .panicking [{ v := .iface 24 (.int .i64 n), recovered := true }], kind := c₀.kind, roundOf := c₀.roundOf } :: cs) w' → False := by
    rintro d v c a w' ⟨_, u', _, h3, _⟩
    cases h3
  refine wp_region_any (by kernel_rfl) ?_
  refine wpAny_take (i := 0) (v := .agg (mc zAc sv0).toArray) rfl (by kernel_rfl) (by kernel_rfl) (by kernel_rfl) (fun c a w h => (hQ _ _ _ _ _ h).elim) (.inl ⟨rfl, fun w => ?_⟩) ?_
  · simp [execOp, zHm, Result.andThen]
  refine wpAny_take (i := 1) (v := .iface 24 (.int .i64 n)) rfl (by kernel_rfl) (by kernel_rfl) (by kernel_rfl) (fun c a w h => (hQ _ _ _ _ _ h).elim) (.inl ⟨rfl, fun w => rfl⟩) ?_
  refine wpAny_take (i := 2) (v := .int .i64 n) rfl (by kernel_rfl) (by kernel_rfl) (by kernel_rfl) (fun c a w h => (hQ _ _ _ _ _ h).elim) (.inl ⟨rfl, fun w => ?_⟩) ?_
  · simp [execOp, Act.eval, Act.put, zJu, Result.andThen]
  refine wpAny_all (rs := [3]) (by kernel_rfl) (by simp) ?_
  intro i hi
  obtain rfl : i = 3 := by simpa using hi
  refine zEy rfl rfl _ _ _ rfl pm (mc zAc sv0) rfl rfl _ _ (show Row w.drew pm 40 (mc m s) from hm) rfl (by kernel_rfl) (SOk.zero Any w 0).one ?_
  intro w1 hr1 hg1
  have he1 : Row w1 pe 24 [ve] := he.drew.grown hg1 (fun e => hne (by injection e))
  refine wpAny_all (rs := [4]) (by kernel_rfl) (by simp) ?_
  intro i hi
  obtain rfl : i = 4 := by simpa using hi
  refine wpOp_set rfl rfl _ _ _ rfl pe 0 (.int .i64 n) rfl rfl _ _ he1 (show 0 < 1 by decide) (by kernel_rfl) rfl ?_
  intro w2 hr2 hg2
  refine wpAny_done (by kernel_rfl) ?_ _
  exact ⟨rfl, _, rfl, _, results_none rfl _ _ _, rfl, rfl, hr1.grown hg2 (fun e => hne (by injection e with e; exact e.symm)), hr2, Two.of (zB1 hg1) hg2⟩
theorem decIdle (pm pe : Nat) (w : World) :
    CallsD Tryz.prog 34 #[.pointer (some ⟨pm, 0, none⟩), .pointer (some ⟨pe, 0, none⟩)] .returning w fun e u' w' => e = .returned (.tuple #[]) ∧ u' = .returning ∧ w' = w := by
  refine callsD_of_wpS Tryz.func34 rfl fun c₀ cs hu => ?_
  apply wpS_seq
  apply wpS_region
  simp [wpOpsS, go_sem, recoverD, hu, Tryz.ntmps34, Exit.thenS]
  have ht : (#[Value.pointer (some ⟨pm, 0, none⟩), Value.pointer (some ⟨pe, 0, none⟩)] ++ ((Array.replicate 7 undef).setIfInBounds 1 Value.nilIface).setIfInBounds 0 Value.nilIface : Array Value) =
    #[.pointer (some ⟨pm, 0, none⟩), .pointer (some ⟨pe, 0, none⟩), .nilIface, .nilIface, undef, undef, undef, undef, undef] := rfl
  rw [ht]
  clear ht
  refine wpS_of_wp ?_
  go_wp2_with fail
  cases c₀
  simp_all [bodyPostS, results, Tryz.results34]
end
section
open Go.RowKit Oct
theorem WS.iter {w0 w : World} {b : Nat} {done : List Int} (h : WS w0 w b done) {k : Nat} {s : ByteArray} {p : Nat} (hk : w.heap[k]? = some (.stringIter s p)) (h0 : w0.heap.size ≤ k) (p' : Nat) : WS w0 (w.iterAt k s p') b done := by
  obtain ⟨bel, hb, v, many, lo, zB5, hown, hbyt, hfr, hlo, h1, h2⟩ := h
  have hkb : b ≠ k := by
    rintro rfl
    unfold Row at zB5
    rw [hk] at zB5
    cases zB5
  refine ⟨Lib.below_iterAt bel h0 s p', hb, v, many, lo, zDc zB5 hkb, ⟨hown.1, ?_⟩, hbyt, hfr, hlo, h1, h2⟩
  rcases hown.2 with hn | ⟨g, cap, cur, hv, hbg, hg, rest⟩
  · exact .inl hn
  · have hkg : g ≠ k := by
      rintro rfl
      rw [hk] at hg
      cases hg
    exact .inr ⟨g, cap, cur, hv, hbg, (Lib.iterAt_other w k g s p' hkg).trans hg, rest⟩
theorem ufr_iter {w w' : World} {b k : Nat} {s : ByteArray} {p : Nat} (h : UFr b w w') (hk : w.heap[k]? = some (.stringIter s p)) (hb : k ≠ b) : w'.heap[k]? = some (.stringIter s p) := by
  rw [h.block k (Array.getElem?_eq_some_iff.1 hk).1 hb (fun cs f e => by rw [hk] at e; cases e)]
  exact hk
theorem ws_new (w : World) : WS w (w.alloc (.cells #[.slice none 0 0, .bool false] 103)) w.heap.size [] :=
  ⟨zA0 w _, zN, .slice none 0 0, false, [], Row.new w 103 [.slice none 0 0, .bool false], Own.nil _ _, Byt.nil, Fr.nil _, by simp, fun _ => rfl, ⟨fun h => (by cases h), fun h => by simp at h⟩⟩
theorem zTe {m : PMsg} (h : zS7 m.kind m = true) : zFi m = true := by
  unfold zFi
  have : ((List.range 15).any fun i => !(fl m.kind).contains i && !zF m i) = true := h
  simp only [this, Bool.or_true, Bool.true_or]
theorem zU4 {m : PMsg} {i : Nat} (hi : i ∈ fl m.kind) (h : okF m i = false) : zFi m = true := by
  unfold zFi
  have : ((fl m.kind).any fun i => !okF m i) = true := by
    rw [List.any_eq_true]
    exact ⟨i, hi, by simp [h]⟩
  simp only [this, Bool.or_true]
theorem bad_none {m : PMsg} (h1 : fl m.kind ≠ []) (h2 : zS7 m.kind m = false) (h3 : ∀ i ∈ fl m.kind, okF m i = true) : zFi m = false := by
  unfold zFi
  have e2 : ((List.range 15).any fun i => !(fl m.kind).contains i && !zF m i) = false := h2
  have e3 : ((fl m.kind).any fun i => !okF m i) = false := by
    rw [List.any_eq_false]
    intro i hi
    simp [h3 i hi]
  have e1 : (fl m.kind).isEmpty = false := by simpa using h1
  simp only [e1, e2, e3, Bool.or_false]
theorem zPd {m : PMsg} (h : zFi m = true) : zCr m = 51 := by unfold zCr; rw [if_pos h]
theorem zTf {m : PMsg} (h : zFi m = false) (hl : 1048576 < (byM m).length) : zCr m = 53 := by unfold zCr; rw [if_neg (by rw [h]; decide), if_pos hl]
theorem encE_ok {m : PMsg} (h : zFi m = false) (hl : ¬ 1048576 < (byM m).length) : zCr m = 0 := by unfold zCr; rw [if_neg (by rw [h]; decide), if_neg hl]
theorem enc_back (w w1 : World) (m : PMsg) (pb pe : Nat) (v : Value) (hb : Row w1 pb 23 [v]) (he : Row w1 pe 24 [.int .i64 0]) (hB : Below w.heap.size w w1)
    (hE : zCr m = 0) (hown : Own w1 5 v (bc (byM m))) (hbyt : Byt (byM m)) (hfr : Fr w.heap.size v) (tmps : Array Value) (h2 : tmps.getD 2 undef = .pointer (some ⟨pb, 0, none⟩)) (h3 : tmps.getD 3 undef = .pointer (some ⟨pe, 0, none⟩)) :
    bodyPostD Tryz.prog Tryz.f28 (zMl m w) .ret
      { tmps := tmps, defers := [{ target := .fn (.func 55) #[.pointer (some ⟨pb, 0, none⟩), .pointer (some ⟨pe, 0, none⟩)], args := #[] }] } w1 := by
  refine leaves_cons (f := 55) (args := #[.pointer (some ⟨pb, 0, none⟩), .pointer (some ⟨pe, 0, none⟩)]) (by simp) (by simp [go_sem]) ?_
  refine (encIdle pb pe w1).mono ?_
  rintro e u' w2 ⟨rfl, rfl, rfl⟩
  have e : zEj m = byM m := by unfold zEj; rw [if_pos hE]
  exact ⟨_, zHu _ tmps pb pe _ _ hb he h2 h3, v, by rw [hE], by rw [e]; exact hown, by rw [e]; exact hbyt, hfr, hB⟩
set_option maxRecDepth 10000 in
set_option maxHeartbeats 4000000 in
theorem zNz (w : World) (m : PMsg) (s : SV) (hs : SOk Any w m s) (hk : fl m.kind ≠ []) : Calls Tryz.prog 28 #[.agg (mc m s).toArray] w (zMl m w) := by
  obtain ⟨w3, hw3⟩ : ∃ w3, w3 = (((w.alloc (.cells (mc m s).toArray 40)).alloc (.cells #[.slice none 0 0] 23)).alloc (.cells #[.int .i64 0] 24)) := ⟨_, rfl⟩
  have hm : Row w3 w.heap.size 40 (mc m s) := by rw [hw3]; exact zA4 (zA4 (Row.new w 40 (mc m s)) _) _
  have hb : Row w3 (w.heap.size + 1) 23 [.slice none 0 0] := by
    rw [hw3]
    have := zA4 (Row.new (w.alloc (.cells (mc m s).toArray 40)) 23 [.slice none 0 0]) (.cells #[.int .i64 0] 24)
    simpa using this
  have he : Row w3 (w.heap.size + 1 + 1) 24 [.int .i64 0] := by
    rw [hw3]
    have := Row.new ((w.alloc (.cells (mc m s).toArray 40)).alloc (.cells #[.slice none 0 0] 23)) 24 [.int .i64 0]
    simpa using this
  have hB3 : Below w.heap.size w w3 := by rw [hw3]; exact (((Below.refl _ w).alloc zN _).alloc (by simp) _).alloc (by simp; omega) _
  go_enter_defers Tryz.func28, Tryz.ntmps28
  go_upto_region 1 with fail
  rw [← hw3]
  clear hw3
  have c0 := hm.cell (j := 0) rfl
  have hF := zEm w3 m.kind
  have hH := zMg w3 m s (hs.below hB3) m.kind
  have hse : (fsB m.kind).toList.isEmpty = false := by rw [zG7]; simpa using hk
  have hpb : w.heap.size ≤ w.heap.size + 1 := by omega
  have hpe : w.heap.size ≤ w.heap.size + 1 + 1 := by omega
  have hne : w.heap.size + 1 ≠ w.heap.size + 1 + 1 := by omega
  generalize w.heap.size + 1 + 1 = pe at *
  generalize w.heap.size + 1 = pb at *
  cases hO : zS7 m.kind m with
  | true =>
    rw [hO] at hH
    have HE := (show Hid (zCr m = 51) from zPd (zTe hO))
    clear hO hk
    go_wp2_with (first
      | (go_at_call 36; refine hF.mono ?_; rintro e w3 ⟨rfl, rfl⟩)
      | (refine zBs (by rfl) _ _ rfl w.heap.size rfl _ _ hm _ Tryz.underlying40 rfl (by kernel_rfl) ?_)
      | (go_at_call 56; refine hH.mono ?_; rintro e w4 ⟨rfl, hB4⟩))
    exact zHa w w4 m 51 _ _ _ _ (hb.below hB4) (he.below hB4) hne (zA1 hB3 zN hB4) hpb hpe HE.out (by decide) _ rfl rfl
  | false =>
    rw [hO] at hH
    have hkd := zN9 hk
    have HK := (show Hid (fl m.kind ≠ []) from hk)
    have HO := (show Hid (zS7 m.kind m = false) from hO)
    have HKD := (show Hid (0 ≤ m.kind ∧ m.kind ≤ 2147483647) from hkd)
    clear hO hk hkd
    go_wp2_with (first
      | (go_at_call 36; refine hF.mono ?_; rintro e w3 ⟨rfl, rfl⟩)
      | (refine zBs (by rfl) _ _ rfl w.heap.size rfl _ _ hm _ Tryz.underlying40 rfl (by kernel_rfl) ?_)
      | (go_at_call 56; refine hH.mono ?_; rintro e w4 ⟨rfl, hB4⟩; have hm4 := zA4 (hm.below hB4) (.cells #[.slice none 0 0, .bool false] 103); have c4 := hm4.cell (j := 0) rfl))
    have hW4 := ws_new w4
    have hBw4 := zA1 hB3 zN hB4
    have hs4 := hs.below hBw4
    have hb4 := zA4 (hb.below hB4) (.cells #[.slice none 0 0, .bool false] 103)
    have he4 := zA4 (he.below hB4) (.cells #[.slice none 0 0, .bool false] 103)
    have n1 : w.heap.size ≠ w4.heap.size := by have := (hm.below hB4).lt; omega
    have n2 : pb ≠ w4.heap.size := by have := (hb.below hB4).lt; omega
    have n3 : pe ≠ w4.heap.size := by have := (he.below hB4).lt; omega
    clear hB4 hB3 hb he hm hF hH c0 c4
    refine (zAv w4 _ w4.heap.size [] m.kind hW4).mono ?_
    rintro e w6 ⟨hu6, hb6, ⟨ho6, rfl⟩ | ⟨ho6, rfl, hW6⟩⟩
    · exact absurd ho6 (by show ¬ okI _ = false; rw [zBm HKD.out.1 HKD.out.2]; decide)
    rw [List.nil_append] at hW6
    have hm6 := hm4.ufr hu6 n1 (by decide)
    have hb6' := hb4.ufr hu6 n2 (by decide)
    have he6 := he4.ufr hu6 n3 (by decide)
    clear hm4 hb4 he4 hW4 hu6 hb6 ho6
    have nit : w6.heap.size ≠ w4.heap.size := by have := hW6.lt; omega
    have nit0 : w4.heap.size ≤ w6.heap.size := hW6.bel.size
    generalize w4.heap.size = b at *
    go_wp2_with fail
    have hl0 : (fsB m.kind).size = (fl m.kind).length := zOn _
    have hit0 := World.iter_heap w6 (fsB m.kind) 0
    have hbi : Below w6.heap.size w6 (w6.iter (fsB m.kind) 0) := (Below.refl _ w6).alloc zN _
    have HL := (show Hid ((fsB m.kind).size = (fl m.kind).length) from hl0)
    obtain ⟨N, hN⟩ : ∃ N, N = (fl m.kind).length := ⟨_, rfl⟩
    have HN := (show Hid (N = (fl m.kind).length) from hN)
    clear hl0 hN
    go_loopg [] N (fun gf wx => ∃ pos : Nat, wx.heap[w6.heap.size]? = some (.stringIter (fsB m.kind) pos) ∧ WS w4 wx b (cN.wr m.kind ++ zI8 m ((fl m.kind).take pos)) ∧ Row wx w.heap.size 40 (mc m s) ∧ Row wx pb 23 [.slice none 0 0] ∧ Row wx pe 24 [.int .i64 0] ∧
      pos + gf = N ∧ Hid (∀ i ∈ (fl m.kind).take pos, okF m i = true))
    case atStart => exact ⟨0, hit0, by simpa [zI8] using hW6.below hbi, hm6.below hbi, hb6'.below hbi, he6.below hbi, by omega, fun i hi => by simp at hi⟩
    case round =>
      obtain ⟨pos, hit, hW, hm, hb, he, hfu, hall⟩ := hrel
      by_cases hps : pos < (fsB m.kind).size
      · have hps' : pos < (fl m.kind).length := by rw [← HL.out]; exact hps
        obtain ⟨g', rfl⟩ : ∃ g', gk = g' + 1 := ⟨gk - 1, by have := HN.out; omega⟩
        obtain ⟨i, hi⟩ : ∃ i, (fl m.kind)[pos]? = some i := ⟨_, List.getElem?_eq_getElem hps'⟩
        have h15 : i < 15 := zFk (zEn _) i (List.mem_of_getElem? hi)
        obtain ⟨hl1, hl2⟩ := fsB_at hps hi
        have hnx : ∀ ty, (Instr.next (.pointer (some ⟨w6.heap.size, 0, none⟩)) true ty).run Tryz.prog wr = _ := fun ty => Lib.run_next_ascii_at wr w6.heap.size (fsB m.kind) pos ty hit hps hl2
        rw [hl1] at hnx
        have hit2 := Lib.iterAt_heap wr w6.heap.size (fsB m.kind) pos (pos + 1) hit
        have hW2 := hW.iter hit hW6.bel.size (pos + 1)
        have hne6 : ∀ k t xs, Row wr k t xs → k ≠ w6.heap.size := fun k t xs h e => by unfold Row at h; rw [e, hit] at h; cases h
        have hm2 := zDc (s := fsB m.kind) (p := pos + 1) hm (hne6 _ _ _ hm)
        have hb2 := zDc (s := fsB m.kind) (p := pos + 1) hb (hne6 _ _ _ hb)
        have he2 := zDc (s := fsB m.kind) (p := pos + 1) he (hne6 _ _ _ he)
        obtain ⟨W, hWd⟩ : ∃ W, wr.iterAt w6.heap.size (fsB m.kind) (pos + 1) = W := ⟨_, rfl⟩
        rw [hWd] at hnx hit2 hW2 hm2 hb2 he2
        have cF' := zQw w4 W b _ m s hW2 hs4 h15
        have HI := (show Hid ((fl m.kind)[pos]? = some i) from hi)
        clear hWd hl1 hl2 hi hne6 hps
        go_wp2_with (first
          | (refine zAa rfl _ _ rfl w.heap.size rfl _ _ hm2 _ Tryz.underlying40 rfl (by kernel_rfl) ?_))
        refine cF'.mono ?_
        rintro e w7 ⟨hu7, hb7, ⟨ho7, rfl⟩ | ⟨ho7, rfl, hW7⟩⟩
        · have HE := (show Hid (zCr m = 51) from zPd (zU4 (List.mem_of_getElem? HI.out) ho7))
          clear ho7
          go_wp2_with fail
          exact zHa w w7 m 51 _ _ _ _ (hb2.ufr hu7 n2 (by decide)) (he2.ufr hu7 n3 (by decide)) hne (zA1 hBw4 zN hb7) hpb hpe HE.out (by decide) _ rfl rfl
        · have HO7 := (show Hid (okF m i = true) from ho7)
          clear ho7
          go_wp2_with fail
          go_roundg g'
          case measure => omega
          case rel => exact ⟨pos + 1, ufr_iter hu7 hit2 nit, by rw [zBa _ _ _ HI.out, zM4, ← List.append_assoc]; exact hW7, hm2.ufr hu7 n1 (by decide), hb2.ufr hu7 n2 (by decide), he2.ufr hu7 n3 (by decide), by omega, fun j hj => by
            rw [zBa _ _ _ HI.out] at hj
            rcases List.mem_append.1 hj with h | h
            · exact hall.out j h
            · simp at h; subst h; exact HO7.out⟩
      · have hnx : ∀ ty, (Instr.next (.pointer (some ⟨w6.heap.size, 0, none⟩)) true ty).run Tryz.prog wr = _ := fun ty => Lib.run_next_end_at wr w6.heap.size (fsB m.kind) pos ty hit hps
        have hpl : (fl m.kind).length ≤ pos := by rw [← HL.out]; omega
        have hall := hall.out
        rw [List.take_of_length_le hpl] at hall hW
        have hbad := bad_none HK.out HO.out hall
        have HB := (show Hid (zFi m = false) from hbad)
        clear hall hpl hps hbad
        obtain ⟨bel, hbb, v, many, lo, zB5, hown, hbyt, hfr, hlo, h1, h2⟩ := hW
        have c1 := zB5.cell (j := 1) rfl
        have c2 := zB5.cell (j := 0) rfl
        cases many with
        | true =>
          have HE := (show Hid (zCr m = 53) from zTf HB.out (h2.1 rfl))
          clear h1 h2
          go_wp2_with fail
          exact zHa w wr m 53 _ _ _ _ hb he hne (zA1 hBw4 zN bel) hpb hpe HE.out (by decide) _ rfl rfl
        | false =>
          have h3 : lo = byM m := h1 rfl
          have HE := (show Hid (zCr m = 0) from encE_ok HB.out (fun h => by have := h2.2 h; cases this))
          clear h1 h2
          have hov : v.oneCell' = true := zDv hown
          go_wp2_with (first
            | (refine zAb rfl _ _ _ rfl pb 0 _ rfl rfl _ _ hb (show 0 < 1 by decide) (by kernel_rfl) hov ?_; intro w8 hr8 hg8; have he8 := he.grown hg8 (fun e => hne (by injection e)))
            | (refine zAb rfl _ _ _ rfl pe 0 _ rfl rfl _ _ he8 (show 0 < 1 by decide) (by kernel_rfl) rfl ?_; intro w9 hr9 hg9))
          have hpb9 := hr8.out.grown hg9 (fun e => hne (by injection e with e; exact e.symm))
          have hB9 := Two.below (zA1 hBw4 zN bel) (Two.of hg8 hg9) zN hpb hpe
          have o8 := hown.grown hg8 (fun k hk => by cases hk; exact zA6 hb hown (by decide))
          have o9 := o8.grown hg9 (fun k hk => by cases hk; exact zA6 he8 o8 (by decide))
          subst h3
          exact enc_back w w9 m pb pe v hpb9 hr9.out hB9 HE.out o9 hbyt (hfr.mono hBw4.size) _ rfl rfl
theorem zJo (w : World) (m : PMsg) (s : SV) (hs : SOk Any w m s) : Calls Tryz.prog 28 #[.agg (mc m s).toArray] w (zMl m w) := by
  by_cases hk : fl m.kind = []
  · exact zS9 w m s hs hk
  · exact zNz w m s hs hk
end
section
open Go.RowKit Oct Kvl
def OT (G : Nat → Prop) (w : World) (v : Value) (l : List Int) : Prop := Own w 5 v (bc l) ∧ Byt l ∧ ∀ k, v.ownBlock = some k → G k
theorem Own.at_block {w w' : World} {e : TypeId} {v : Value} {xs : List Value} (h : Own w e v xs) (hb : ∀ k, v.ownBlock = some k → w'.heap[k]? = w.heap[k]?) : Own w' e v xs := by
  refine ⟨h.1, ?_⟩
  rcases h.2 with h | ⟨g, cap, cur, h1, h2, h3, h4⟩
  · exact .inl h
  · exact .inr ⟨g, cap, cur, h1, h2, (hb g (by rw [h1]; rfl)).trans h3, h4⟩
theorem OT.mv {G G' : Nat → Prop} {w w' : World} {v : Value} {l : List Int} (h : OT G w v l) (hm : Mv G G' w w') : OT G' w' v l :=
  ⟨h.1.at_block fun k hk => (hm k (h.2.2 k hk) (h.1.lt k hk)).1, h.2.1, fun k hk => (hm k (h.2.2 k hk) (h.1.lt k hk)).2⟩
theorem OT.rt {G : Nat → Prop} {w : World} {v : Value} {l : List Int} (h : OT G w v l) : RT G w v l := ⟨h.1.rd h.2.1, fun _ k hk => h.2.2 k hk⟩
theorem OT.one {G : Nat → Prop} {w : World} {v : Value} {l : List Int} (h : OT G w v l) : v.oneCell' = true := h.rt.one
theorem OT.nil (G : Nat → Prop) (w : World) : OT G w (.slice none 0 0) [] := ⟨Own.nil w 5, Byt.nil, fun k hk => by simp [Value.ownBlock] at hk⟩
theorem OT.own {B : Nat} {w : World} {v : Value} {l : List Int} (h : Own w 5 v (bc l)) (hb : Byt l) (hf : Fr B v) : OT (zB0 B) w v l := ⟨h, hb, fun k hk => hf k hk⟩
section
variable {P : Program}
end
end
section
open Go.RowKit Oct
theorem zSo {k n q : Nat} {cur r b0 : List Value} {A B : List (List Value)} (hA : ∀ r ∈ A, r.length = k) (hB : ∀ r ∈ b0 :: B, r.length = k) (hr : r.length = k) (hq : A.length = q) (hn : (A ++ b0 :: B).length = n) (hc : n * k ≤ cur.length)
    (ht : cur.take (n * k) = (A ++ b0 :: B).flatten) : (splice cur (q * k) r).take (n * k) = (A ++ r :: B).flatten := by
  have hAl : A.flatten.length = q * k := by rw [zCu hA, hq]
  have hB' : ∀ r ∈ B, r.length = k := fun x hx => hB x (by simp [hx])
  have hb0 := hB b0 (by simp)
  have hBl : B.flatten.length = B.length * k := zCu hB'
  have hnn : n = q + 1 + B.length := by rw [← hn, List.length_append, List.length_cons, hq]; omega
  have hmul : n * k = q * k + (k + B.length * k) := by rw [hnn, Nat.add_mul, Nat.add_mul]; omega
  have e1 : cur.take (q * k) = A.flatten := by
    have := congrArg (List.take (q * k)) ht
    rw [List.take_take, Nat.min_eq_left (by omega), List.flatten_append, ← hAl, List.take_left] at this
    rw [← hAl]; exact this
  have hAb : (A.flatten ++ b0).length = q * k + k := by rw [List.length_append, hAl, hb0]
  have e3 : (A.flatten ++ b0 ++ B.flatten).drop (q * k + k) = B.flatten := by rw [← hAb]; exact List.drop_left
  have e2 : (cur.drop (q * k + k)).take (B.length * k) = B.flatten := by
    have := congrArg (List.drop (q * k + k)) ht
    rw [List.drop_take, List.flatten_append, List.flatten_cons, ← List.append_assoc, e3] at this
    rw [← this]
    congr 1
    omega
  unfold splice
  rw [e1, hr, List.flatten_append, List.flatten_cons, ← e2, hmul, ← hAl, List.take_length_add_append, ← hr, List.take_length_add_append, hAl]
theorem Row.uniqS {w : World} {b : Nat} {t t' : TypeId} {xs ys : List Value} (h : Row w b t xs) (h' : Row w b t' ys) : xs = ys := by
  unfold Row at h h'
  rw [h] at h'
  simp at h'
  exact h'.1
section
variable {α : Type} {R : (Nat → Prop) → World → List Value → α → Prop} {T : TypeId} {kk : Nat}
structure MixR (R : (Nat → Prop) → World → List Value → α → Prop) (T : TypeId) (kk : Nat) (B g n cap q : Nat) (w0 w : World) (rows0 : List (List Value)) (ys : List α) : Prop where
  bel : Below B w0 w
  ex : ∃ (cur : List Value) (A : List (List Value)), Row w g T cur ∧ cur.length = cap * kk ∧ A.length = q ∧ (∀ r ∈ A, r.length = kk) ∧ cur.take (n * kk) = (A ++ rows0.drop q).flatten ∧ zC0 (R (fun b => B ≤ b ∧ b ≠ g) w) A (ys.take q)
theorem MixR.row {B g n cap q : Nat} {w0 w : World} {rows0 : List (List Value)} {ys : List α} (h : MixR R T kk B g n cap q w0 w rows0 ys) (h0 : ∀ r ∈ rows0, r.length = kk) {r : List Value} (hr : rows0[q]? = some r) (hq : q < n) : w.rangeAt g (q * kk) r := by
  obtain ⟨cur, A, h1, h2, h3, h4, h5, h6⟩ := h.ex
  intro j v hj
  refine h1.cell ?_
  have hrl := h0 r (List.mem_of_getElem? hr)
  have hjl : j < kk := by rw [← hrl]; exact (List.getElem?_eq_some_iff.1 hj).1
  have e : (A ++ rows0.drop q)[q]? = some r := by rw [List.getElem?_append_right (by omega), h3, Nat.sub_self, List.getElem?_drop, Nat.add_zero]; exact hr
  have hl : ∀ x ∈ A ++ rows0.drop q, x.length = kk := fun x hx => by
    rcases List.mem_append.1 hx with hx | hx
    · exact h4 x hx
    · exact h0 x (List.mem_of_mem_drop hx)
  have := zEl hl e hj
  have hmul : (q + 1) * kk ≤ n * kk := Nat.mul_le_mul_right _ hq
  rw [Nat.add_mul] at hmul
  rw [← h5, List.getElem?_take, if_pos (by omega)] at this
  exact this
theorem MixR.step (hR : Mov R) {B g n cap q : Nat} {w0 w w1 w2 : World} {rows0 : List (List Value)} {ys : List α} (h : MixR R T kk B g n cap q w0 w rows0 ys) (h0 : ∀ r ∈ rows0, r.length = kk) (hn : rows0.length = n) (hc : n ≤ cap) {x : α} (hx : ys[q]? = some x) (hq : q < n)
    (hb1 : Below w.heap.size w w1) (hBg : B ≤ g) {r : List Value} (hlr : r.length = kk) (hr : R (zB0 w.heap.size) w1 r x) (hB : B ≤ w.heap.size) (hg2 : w1.grownBy w2 (some g)) {cur0 : List Value} (hc0 : Row w1 g T cur0) (hr2 : Row w2 g T (splice cur0 (q * kk) r)) : MixR R T kk B g n cap (q + 1) w0 w2 rows0 ys := by
  obtain ⟨cur, A, h1, h2, h3, h4, h5, h6⟩ := h.ex
  have hgl := h1.lt
  obtain rfl : cur = cur0 := (h1.below hb1).uniqS hc0
  have hrl : r.length = kk := hlr
  have hmul : (q + 1) * kk ≤ n * kk := Nat.mul_le_mul_right _ hq
  have hmul2 : n * kk ≤ cap * kk := Nat.mul_le_mul_right _ hc
  rw [Nat.add_mul] at hmul
  refine ⟨(h.bel.trans (hb1.mono hB)).trans (zA5 hg2 (Nat.le_trans hB hb1.size) (fun k hk => by cases hk; exact hBg)), splice cur (q * kk) r, A ++ [r], hr2, ?_, ?_, ?_, ?_, ?_⟩
  · rw [length_splice _ _ _ (by omega), h2]
  · simp [h3]
  · intro y hy
    rcases List.mem_append.1 hy with hy | hy
    · exact h4 y hy
    · simp at hy; subst hy; exact hrl
  · obtain ⟨b0, hb0⟩ : ∃ b0, rows0[q]? = some b0 := ⟨_, List.getElem?_eq_getElem (by omega)⟩
    have hd : rows0.drop q = b0 :: rows0.drop (q + 1) := by
      rw [List.drop_eq_getElem_cons (by omega : q < rows0.length)]
      rw [List.getElem?_eq_getElem (by omega)] at hb0
      injection hb0 with hb0
      rw [hb0]
    rw [hd] at h5
    rw [List.append_assoc, List.singleton_append]
    refine zSo h4 (fun y hy => ?_) hrl h3 ?_ (by omega) h5
    · rw [← hd] at hy; exact h0 y (List.mem_of_mem_drop hy)
    · rw [← hd, List.length_append, List.length_drop]; omega
  · have e : ys.take (q + 1) = ys.take q ++ [x] := by
      rw [List.take_add_one, hx]; rfl
    rw [e]
    refine zC0.app (h6.mono fun y a hy => hR _ _ _ _ _ _ hy (Nat.le_trans hb1.size hg2.size) fun k hk hlt => ⟨?_, hk⟩) ⟨hR _ _ _ _ _ _ hr hg2.size fun k hk hlt => ⟨hg2.block k hlt (fun e => ?_), Nat.le_trans hB hk, fun e => ?_⟩, trivial⟩
    · have hs := hb1.size
      exact (hg2.block k (by omega) (fun e => by injection e with e; exact hk.2 e)).trans (hb1.block k hlt)
    · injection e with e
      unfold zB0 at hk; omega
    · unfold zB0 at hk; omega
theorem MixR.done (hR : Mov R) {B g n cap : Nat} {w0 w : World} {rows0 : List (List Value)} {ys : List α} (h : MixR R T kk B g n cap n w0 w rows0 ys) (hn : rows0.length = n) (hy : ys.length = n) (hc : n ≤ cap) (hm : cap ≤ maxLen) (hB : B ≤ g) : LB R T kk B w (.slice (some ⟨g, 0, none⟩) n cap) ys := by
  obtain ⟨cur, A, h1, h2, h3, h4, h5, h6⟩ := h.ex
  rw [List.drop_of_length_le (by omega), List.append_nil] at h5
  rw [List.take_of_length_le (by omega)] at h6
  refine ⟨A, h4, ⟨zCu h4, .inr ⟨g, cap, cur.toArray, by rw [h3], Nat.zero_le _, h1, by omega, hm, by simpa using h2, by rw [h3]; simpa using h5⟩⟩, zBx _ _ _ _ hB, h6.mono fun y a hy => hR _ _ _ _ _ _ hy zN fun k hk _ => ⟨rfl, hk.1, fun e => hk.2 ?_⟩⟩
  simp [Value.ownBlock] at e
  exact e.symm
end
end
end Go.Proofs.YtgjepofinpmcpaaGreatDoor
