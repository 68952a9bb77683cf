/- catenarylaw11.diskAlive. -/
import Derived.Test.YtnalakdnjjmaaaaDa
import Derived.Lib.SlBytesConst
set_option linter.unusedVariables false
set_option linter.unusedSimpArgs false
namespace Go.Proofs.Ytnalakdnjjmaaaa
open Go.RowKit Oct

theorem rd_litD (w : World) (l : List Int) (e : TypeId) (fr : Nat × Nat) (hb : Byt l) (h : 0 < l.length) (hm : l.length ≤ 1000) : Rd (w.alloc (.cells (bc l).toArray e fr)) (.slice (some ⟨w.heap.size, 0, none⟩) l.length l.length) l := by
  refine ⟨hb, some ⟨w.heap.size, 0, none⟩, l.length, by rw [bc_len], by rw [bc_len]; exact Nat.le_refl _, by unfold maxLen; omega, fun e => (by cases e), fun a ha j u hu => ?_⟩
  cases ha
  rw [Addr.add_mid, cell_of_row _ _ _ (bc l).toArray e fr (heap_alloc_new w _), Nat.zero_add]
  simpa using hu
theorem byt_ofD {l : List Int} (h : l.all (fun x => decide (0 ≤ x) && decide (x ≤ 255)) = true) : Byt l := fun x hx => by
  have := List.all_eq_true.1 h x hx
  simpa using this
theorem run_cvtD (u : World) (C : Array Value) (n c : Nat) : (convert 26 26 (.slice (some ⟨u.heap.size, 0, none⟩) n c)).run Try.prog (u.alloc (.cells C 5)) = .ok (.slice (some ⟨u.heap.size, 0, none⟩) n c) (u.alloc (.cells C 5 (C.size, C.size + 1))) :=
  Lib.run_convert_bytes_const u 26 5 C n c Try.underlying26 Try.underlying5
theorem nil_ne {k : Nat} : (Value.slice none 0 0).ownBlock ≠ some k := by simp [Value.ownBlock]

/-- A constant's bytes are written. -/
theorem append_lit (w : World) (b : Nat) (v : Value) (d : PDk) (x y : Int) (hx : Byt [x, y]) (h : Dsk w b v d) :
    Calls Try.prog 11 #[.pointer (some ⟨b, 0, none⟩), .slice (some ⟨w.heap.size, 0, none⟩) 2 2] (w.alloc (.cells #[.int .u8 x, .int .u8 y] 5 (2, 3))) fun e w' => ∃ v', e = .returned (.int .i64 (apD d [x, y]).2) ∧ Dsk w' b v' (apD d [x, y]).1 ∧ Gr2 w w' b v ∧ Spt w v v' := by
  have hlt := h.lt
  have hal := below_alloc w (.cells #[.int .u8 x, .int .u8 y] 5 (2, 3))
  have hL := rd_litD w [x, y] 5 (2, 3) hx (by simp) (by simp)
  refine (appendD_any (w.alloc (.cells #[.int .u8 x, .int .u8 y] 5 (2, 3))) b v (.slice (some ⟨w.heap.size, 0, none⟩) 2 2) d [x, y] (h.below hal) hL (fun _ e => by simp [Value.ownBlock] at e; omega) (fun _ k hk e => by simp [Value.ownBlock] at e; have := h.own.lt k hk; omega) (by simp)).mono ?_
  rintro e w' ⟨v', e1, e2, e3, e4⟩
  exact ⟨v', e1, e2, (Gr2.bel hal).trans (.inl rfl) e3, e4.imp id (fun h => h.mono hal.size)⟩

set_option maxRecDepth 10000 in
set_option maxHeartbeats 1000000 in
theorem diskAlive_any (w : World) : Calls Try.prog 8 #[] w fun e w' => e = .returned (.bool true) ∧ Below w.heap.size w w' := by
  have hcv := run_cvtD
  have le := Nat.le_refl w.heap.size
  go_enter Try.func8, Try.ntmps8
  go_wp2_with fail
  refine (newD_any w 10).mono ?_
  rintro e w1 ⟨b, rfl, hb, hd1, hB1⟩
  go_wp2_with fail
  refine (append_lit w1 b _ _ 97 98 (byt_ofD (by decide)) hd1).mono ?_
  rintro e w2 ⟨v2, rfl, hd2, hg2, hs2⟩
  have e2 : apD (nwD 10) [97, 98] = (⟨[97, 98], 10, false, false, 0, 0⟩, 0) := by kernel_rfl
  rw [e2] at hd2 ⊢
  have hB2 : Below w.heap.size w w2 := hB1.trans (hg2.below hB1.size hb (Fr.nil _))
  have hf2 : Fr w.heap.size v2 := by rcases hs2 with h | h; exact fun k hk => absurd (h ▸ hk) nil_ne; exact h.mono hB1.size
  go_wp2_with fail
  refine (break_any w2 b _ _ 0 1 hd2 (by decide)).mono ?_
  rintro e w3 ⟨rfl, hd3, hg3⟩
  have hB3 : Below w.heap.size w w3 := hB2.trans (grown_below hg3 hB2.size (fun k hk => by cases hk; exact hb))
  go_wp2_with fail
  refine (append_lit w3 b _ _ 99 100 (byt_ofD (by decide)) hd3).mono ?_
  rintro e w4 ⟨v4, rfl, hd4, hg4, hs4⟩
  have e4 : apD (bkD ⟨[97, 98], 10, false, false, 0, 0⟩ 0 1) [99, 100] = (⟨[97, 98, 99], 10, true, false, 0, 0⟩, 115) := by kernel_rfl
  rw [e4] at hd4 ⊢
  have hB4 : Below w.heap.size w w4 := hB3.trans (hg4.below hB3.size hb hf2)
  go_wp2_with fail
  refine (dead_any w4 b _ _ hd4).mono ?_
  rintro e w4 ⟨rfl, rfl⟩
  go_wp2_with fail
  refine (mend_any w4 b _ _ hd4).mono ?_
  rintro e w5 ⟨rfl, hd5, hg5⟩
  have hB5 : Below w.heap.size w w5 := hB4.trans (grown_below hg5 hB4.size (fun k hk => by cases hk; exact hb))
  go_wp2_with fail
  refine (dead_any w5 b _ _ hd5).mono ?_
  rintro e w5 ⟨rfl, rfl⟩
  go_wp2_with fail
  refine (bytesD_any w5 b _ _ hd5).mono ?_
  rintro e w6 ⟨v6, rfl, ho6, hf6, hb6⟩
  have hB6 := below_and hB5 le hb6
  have hs6 := run_str (ho6.rd (byt_ofD (by decide)))
  have he : strOfNums (meD ⟨[97, 98, 99], 10, true, false, 0, 0⟩).l = ⟨#[97, 98, 99]⟩ := by kernel_rfl
  rw [he] at hs6
  go_wp2_with fail
  go_ret
  exact ⟨rfl, hB6⟩
theorem diskNames_any (w : World) : Calls Try.prog 3 #[] w fun e w' => e = .returned (.bool true) ∧ Below w.heap.size w w' := by
  go_enter Try.func3, Try.ntmps3
  go_wp2_with fail
  refine (diskAlive_any w).mono ?_
  rintro e w1 ⟨rfl, hB1⟩
  go_wp2_with fail
  go_ret
  exact ⟨rfl, hB1⟩
end Go.Proofs.Ytnalakdnjjmaaaa
