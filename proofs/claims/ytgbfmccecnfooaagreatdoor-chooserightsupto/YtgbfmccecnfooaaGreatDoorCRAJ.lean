/- Cells of records: a part of a row is loaded; a record is of one-cell values. -/
import Derived.Test.YtgbfmccecnfooaaGreatDoorCRAE
import Derived.Test.YtgbfmccecnfooaaGreatDoorCRAD
import Derived.Deep.MidRow
set_option linter.unusedVariables false
namespace Go.Proofs.YtgbfmccecnfooaaGreatDoor
section
open Go.RowKit Oct
/-- The 8 bytes of a number, the least one first. -/
def le8 (u : Int) : List Int := [u % 256, u / 256 % 256, u / 65536 % 256, u / 16777216 % 256, u / 4294967296 % 256, u / 1099511627776 % 256, u / 281474976710656 % 256, u / 72057594037927936 % 256]
def u64 (n : Int) : Int := n % 18446744073709551616
theorem le8_len (u : Int) : (le8 u).length = 8 := rfl
theorem le8_byt (u : Int) : Byt (le8 u) := by
  intro x hx
  simp only [le8, List.mem_cons, List.not_mem_nil, or_false] at hx
  rcases hx with rfl | rfl | rfl | rfl | rfl | rfl | rfl | rfl <;> omega
theorem le8_at (u : Int) (k : Nat) (hk : k < 8) (m : Nat) (hm : m = 8 * k) : u / 2 ^ m % 256 = (le8 u).getD k 0 := by
  subst hm
  match k, hk with
  | 0, _ => simp [le8]
  | 1, _ => rfl
  | 2, _ => rfl
  | 3, _ => rfl
  | 4, _ => rfl
  | 5, _ => rfl
  | 6, _ => rfl
  | 7, _ => rfl
theorem le8_take (u : Int) (L : List Int) (k : Nat) (hk : k < 8) : L ++ (le8 u).take (k + 1) = (L ++ (le8 u).take k) ++ [(le8 u).getD k 0] := by
  have hb : k < (le8 u).length := by rw [le8_len]; exact hk
  rw [List.append_assoc, List.take_add_one, List.getElem?_eq_getElem hb]
  simp [List.getD, List.getElem?_eq_getElem hb]
/-- The body. -/
def body (x : PReq) : List Int := le8 (u64 x.1) ++ le8 (u64 x.2.1) ++ packL [x.2.2.1, x.2.2.2]
/-- msg.appendWord. -/
theorem appendWord_any (w : World) (v : Value) (L : List Int) (n : Int) (hown : Own w 5 v (bc L)) (hl : L.length ≤ 140737488355300) :
    Calls Tryz.prog 127 #[v, .int .i64 n] w fun e w' => ∃ v', e = .returned v' ∧ App w 5 v w' v' (bc (L ++ le8 (u64 n))) := by
  go_enter Tryz.func127, Tryz.ntmps127
  go_wp2_with fail
  go_loopw [0, 6] (fun o i wr => ∃ k : Nat, k ≤ 8 ∧ i = .int .i64 k ∧ App w 5 v wr o (bc (L ++ (le8 (u64 n)).take k))) (fun _ i _ => (8 - intOf i).toNat)
  case atStart => exact ⟨0, by omega, rfl, by rw [List.take_zero, List.append_nil]; exact app_start hown⟩
  case round =>
    obtain ⟨k, hk, rfl, happ⟩ := hrel
    by_cases hk8 : k < 8
    · obtain ⟨m, hm⟩ : ∃ m : Nat, (8 : Int) * (k : Int) = m := ⟨8 * k, by omega⟩
      have HM := (show Hid (u64 n / 2 ^ m % 256 = (le8 (u64 n)).getD k 0) from le8_at (u64 n) k hk8 m (by omega))
      have HX := (show Hid (L ++ (le8 (u64 n)).take (k + 1) = (L ++ (le8 (u64 n)).take k) ++ [(le8 (u64 n)).getD k 0]) from le8_take _ _ _ hk8)
      have HT := (show Hid ((L ++ (le8 (u64 n)).take k).length ≤ 140737488355308) by
        show (L ++ (le8 (u64 n)).take k).length ≤ _
        rw [List.length_append, List.length_take, le8_len]
        omega)
      have hm0 : (0 : Int) ≤ (m : Int) := by omega
      have hgo := happ.own
      go_wp2_with (at_builtin; refine app_bytes rfl _ _ rfl _ (L ++ (le8 (u64 n)).take k) rfl (World.ownsRow.alloc hgo _) _ [u64 n / 2 ^ m % 256] rfl (rdv_one wr _ _) (by have := HT.out; simp only [List.length_cons, List.length_nil]; omega) ?_; intro o4 w4 happ4)
      have hp4 := happ.trans (happ4.pre (below_alloc wr _))
      rw [HM.out, ← HX.out] at hp4
      clear happ happ4 hgo
      go_roundw
      case rel => exact ⟨k + 1, by omega, by go_num, hp4⟩
      case measure => simp [intOf]; omega
    · rw [List.take_of_length_le (by rw [le8_len]; omega)] at happ
      go_wp2_with fail
      go_ret
      exact ⟨_, rfl, happ⟩
end
section
open Go.RowKit Oct
section
variable {P : Program}
/-- A part of a row is loaded. -/
theorem wl_part {ops : Array Oper} {rest : List Oper} {o : Oper} {a : Act} {w : World} {Q : Exit → Act → World → Prop} (hgd : o.guard = none) (ty : TypeId) (x : Operand) (ho : o.op = .load ty x)
    (b off : Nat) (hx : a.eval x = .pointer (some ⟨b, off, none⟩)) (t : TypeId) (xs : List Value) (h : Row w b t xs) (cs : List Value) (hcs : (xs.drop off).take cs.length = cs) (d : TypeDesc) (hu : P.underlying ty = some d) (hd : d.isRow = true)
    (hi : (P.info? ty).map (·.size) = some cs.length) (k : wpList P ops Q rest (a.put o.dst (.agg cs.toArray)) w) : wpList P ops Q (o :: rest) a w :=
  wpList_load_mid hgd ty x ho b off hx cs d (fun j v hj => by
    have := h.src off cs.length j v (by rw [hcs]; exact hj)
    rw [Addr.add_mid] at this
    exact this) hu hd hi k
end
theorem World.rangeAt.blk {w w' : World} {b o : Nat} {cs : List Value} (h : w.rangeAt b o cs) (e : w'.heap[b]? = w.heap[b]?) : w'.rangeAt b o cs := rangeAt_block h e
theorem one_RVote {G : Nat → Prop} {w : World} {r : List Value} {x : PVote} (h : RVote G w r x) : ∀ v ∈ r, v.oneCell' = true := by
  obtain ⟨s, rfl, h1⟩ := h
  intro v hv
  simp only [List.mem_cons, List.not_mem_nil, or_false] at hv
  rcases hv with rfl | rfl
  · rfl
  · exact h1.one
theorem one_RReq {G : Nat → Prop} {w : World} {r : List Value} {x : PReq} (h : RReq G w r x) : ∀ v ∈ r, v.oneCell' = true := by
  obtain ⟨o, g, rfl, h1, h2⟩ := h
  intro v hv
  simp only [List.mem_cons, List.not_mem_nil, or_false] at hv
  rcases hv with rfl | rfl | rfl | rfl
  · rfl
  · rfl
  · exact h1.one
  · exact h2.one
theorem one_RPrep {G : Nat → Prop} {w : World} {r : List Value} {x : PPrep} (h : RPrep G w r x) : ∀ v ∈ r, v.oneCell' = true := by
  obtain ⟨o, g, c, rfl, h1, h2, h3⟩ := h
  intro v hv
  simp only [List.mem_cons, List.not_mem_nil, or_false] at hv
  rcases hv with rfl | rfl | rfl | rfl | rfl | rfl | rfl | rfl <;> first | rfl | exact h1.one | exact h2.one | exact h3.one
theorem one_RRep {G : Nat → Prop} {w : World} {r : List Value} {x : PRep} (h : RRep G w r x) : ∀ v ∈ r, v.oneCell' = true := by
  obtain ⟨d, s, p, g, rfl, h1, h2, h3, h4⟩ := h
  intro v hv
  simp only [List.mem_cons, List.not_mem_nil, or_false] at hv
  rcases hv with rfl | rfl | rfl | rfl | rfl | rfl | rfl | rfl <;> first | rfl | exact h1.one | exact h2.one | exact h3.one | exact h4.one
end
end Go.Proofs.YtgbfmccecnfooaaGreatDoor
