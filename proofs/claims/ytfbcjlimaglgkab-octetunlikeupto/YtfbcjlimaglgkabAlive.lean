/- catenarylaw01.octetAlive: the chapter's examples. -/
import Derived.Test.YtfbcjlimaglgkabW1
namespace Go.Proofs.Ytfbcjlimaglgkab
open Go.RowKit Oct

theorem alive1 : errI 300 = 0 := by decide
theorem alive2 : outI 300 = [172, 2] := by decide
theorem alive3 : getI [172, 2] 0 = (300, 2, 0) := by decide
theorem alive4 : getI [128, 0] 0 = (0, 0, 11) := by decide

theorem rdv_two (w : World) (x y : Int) (e : TypeId) : Rdv (w.alloc (.cells #[.int .u8 x, .int .u8 y] e)) (.slice (some ⟨w.heap.size, 0, none⟩) 2 2) (bc [x, y]) :=
  Own.rdv (e := e) (World.ownsRow_lit (base := 0) (size := 1) w #[.int .u8 x, .int .u8 y] 2 (Nat.zero_le _) (by decide) rfl)
theorem rd_two (w : World) (x y : Int) (e : TypeId) (hb : Byt [x, y]) : Rd (w.alloc (.cells #[.int .u8 x, .int .u8 y] e)) (.slice (some ⟨w.heap.size, 0, none⟩) 2 2) [x, y] := ⟨hb, rdv_two w x y e⟩
theorem byt_172 : Byt [172, 2] := by intro x hx; simp at hx; omega
theorem byt_128 : Byt [128, 0] := by intro x hx; simp at hx; omega

theorem getInt_172 (w : World) : Calls Try.prog 10 #[.slice (some ⟨w.heap.size, 0, none⟩) 2 2, .int .i64 0] (w.alloc (.cells #[.int .u8 172, .int .u8 2] 5)) fun e w' =>
    e = .returned (.tuple #[.int .i64 300, .int .i64 2, .int .i64 0]) ∧ Below w.heap.size w w' := by
  have hg := getInt_any (w.alloc (.cells #[.int .u8 172, .int .u8 2] 5)) (.slice (some ⟨w.heap.size, 0, none⟩) 2 2) [172, 2] 0 (rd_two w 172 2 5 byt_172) (by simp)
  rw [alive3] at hg
  exact hg.mono fun e w' h => ⟨h.1, by rw [h.2]; exact below_alloc _ _⟩
theorem getInt_128 (w : World) : Calls Try.prog 10 #[.slice (some ⟨w.heap.size, 0, none⟩) 2 2, .int .i64 0] (w.alloc (.cells #[.int .u8 128, .int .u8 0] 5)) fun e w' =>
    e = .returned (.tuple #[.int .i64 0, .int .i64 0, .int .i64 11]) ∧ Below w.heap.size w w' := by
  have hg := getInt_any (w.alloc (.cells #[.int .u8 128, .int .u8 0] 5)) (.slice (some ⟨w.heap.size, 0, none⟩) 2 2) [128, 0] 0 (rd_two w 128 0 5 byt_128) (by simp)
  rw [alive4] at hg
  exact hg.mono fun e w' h => ⟨h.1, by rw [h.2]; exact below_alloc _ _⟩
theorem int_300 (w : World) : Calls Try.prog 9 #[.int .i64 300] w fun e w' => ∃ v, e = .returned (.tuple #[v, .int .i64 0]) ∧ Rd w' v [172, 2] ∧ Below w.heap.size w w' := by
  have hg := int_any w 300
  rw [alive1, alive2] at hg
  refine hg.mono ?_
  rintro e w' ⟨v, rfl, h1, h2, h3⟩
  exact ⟨v, rfl, h1.rd byt_172, h3⟩

set_option maxHeartbeats 400000 in
theorem alive_any (w : World) : Calls Try.prog 4 #[] w fun e w' => e = .returned (.bool true) ∧ Below w.heap.size w w' := by
  go_enter Try.func4, Try.ntmps4
  go_wp2_with fail
  refine (int_300 w).mono ?_
  rintro e w1 ⟨v, rfl, hrd, hb⟩
  go_wp2_with fail
  refine (getInt_172 w1).mono ?_
  rintro e w2 ⟨rfl, hb2⟩
  go_wp2_with fail
  refine (getInt_128 w2).mono ?_
  rintro e w3 ⟨rfl, hb3⟩
  have hrd3 := ((hrd.below hb2).below hb3).below (below_alloc w3 (.cells #[.int .u8 172, .int .u8 2] 5))
  have hsame := same_any _ v _ [172, 2] [172, 2] hrd3 (rd_two w3 172 2 5 byt_172)
  have hall : Below w.heap.size w (w3.alloc (.cells #[.int .u8 172, .int .u8 2] 5)) := (hb.trans (hb2.mono hb.size)).trans ((hb3.mono (Nat.le_trans hb.size hb2.size)).trans ((below_alloc w3 _).mono (Nat.le_trans hb.size (Nat.le_trans hb2.size hb3.size))))
  clear hrd3 hrd hb hb2 hb3
  rw [decide_eq_true rfl] at hsame
  go_wp2_with fail
  refine hsame.mono ?_
  rintro e w4 ⟨rfl, rfl⟩
  clear hsame
  go_wp2_with fail
  go_ret
  exact ⟨rfl, hall⟩

end Go.Proofs.Ytfbcjlimaglgkab
