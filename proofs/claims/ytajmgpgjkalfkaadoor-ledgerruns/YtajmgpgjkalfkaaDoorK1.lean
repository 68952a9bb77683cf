/- Strings as bytes; the small functions of package key, and of the document's own answer; bytes.Equal. -/
import Derived.Test.YtajmgpgjkalfkaaDoorSAlive
import Derived.Test.YtajmgpgjkalfkaaDoorW5
import Derived.Lib.ConvBytes
import Derived.Laws.AppendOwn
namespace Go.Proofs.YtajmgpgjkalfkaaDoor
open Go.RowKit Oct Sha

/-- A string's bytes. -/
def sL (s : ByteArray) : List Int := s.data.toList.map fun b => (b.toNat : Int)
theorem sL_len (s : ByteArray) : (sL s).length = s.size := by rw [sL, List.length_map]; rfl
theorem sL_byt (s : ByteArray) : Byt (sL s) := fun x hx => by
  obtain ⟨b, _, rfl⟩ := List.mem_map.1 hx
  have := b.toNat_lt
  omega
theorem sL_inj {s t : ByteArray} (h : sL s = sL t) : s = t := by
  have e : s.data.toList = t.data.toList := by
    refine List.map_inj_right (fun a b hab => ?_) |>.1 h
    exact UInt8.toNat_inj.1 (by omega)
  cases s; cases t
  simp at e
  rw [ByteArray.mk.injEq]
  exact e

theorem rd_str (w : World) (s : ByteArray) (hs : s.size ≤ maxLen) : Rd (Lib.bytesWorld w 5 s) (.slice (some ⟨w.heap.size, 0, none⟩) s.size (grownCap w s.size 0 5)) (sL s) := by
  refine ⟨sL_byt s, some ⟨w.heap.size, 0, none⟩, grownCap w s.size 0 5, by rw [bc_len, sL_len], by rw [bc_len, sL_len]; exact grownCap_ge _ _ _ _, grownCap_le_maxLen _ _ _ _ hs, fun e => (by cases e), fun a ha j u hu => ?_⟩
  cases ha
  have hj : j < (sL s).length := by
    rcases Nat.lt_or_ge j (sL s).length with h | h
    · exact h
    · rw [List.getElem?_eq_none (by rw [bc_len]; exact h)] at hu; cases hu
  rw [bc_getD _ _ hj] at hu
  rw [sL_len] at hj
  rw [Addr.add_mid, Nat.zero_add, Lib.bytesWorld_cell w _ s j hj, ← hu]
  have hj' : j < s.data.toList.length := by simpa using hj
  simp [sL, List.getD, List.getElem?_map, List.getElem?_eq_getElem hj']
theorem below_str (w : World) (e : TypeId) (s : ByteArray) : Below w.heap.size w (Lib.bytesWorld w e s) :=
  ⟨rfl, rfl, rfl, by rw [Lib.bytesWorld_size]; omega, fun k hk => Lib.bytesWorld_at_old w e s k hk⟩

/-- '[]byte(s)'. -/
theorem wl_str {w : World} {ops : Array Oper} {rest : List Oper} {o : Oper} {a : Act} {Q : Exit → Act → World → Prop} (hgd : Region.wanted o (yielded ops a.tmps) = true) (x : Operand)
    (ho : o.op = .convert 9 29 x) (s : ByteArray) (hx : a.eval x = .string s) (hs : s.size ≤ maxLen)
    (h : ∀ v w', Rd w' v (sL s) → Fr w.heap.size v → Below w.heap.size w w' → wpList Tryd.prog ops Q rest (a.put o.dst v) w') : wpList Tryd.prog ops Q (o :: rest) a w := by
  refine wpList_wanted hgd fun K hK => ?_
  unfold Oper.wp
  simp [execOp, ho, hx, Lib.run_convert_string_bytes w 9 29 5 s Tryd.underlying9 Tryd.underlying29 Tryd.underlying5, Result.andThen]
  exact hK _ _ (h _ _ (rd_str w s hs) (fr_at _ _ _ _ (Nat.le_refl _)) (below_str w _ s))

theorem isKey_yes (w : World) (k : Int) (h0 : 0 ≤ k) (h1 : k ≤ 127) : Calls Tryd.prog 46 #[.int .i64 k] w fun e w' => e = .returned (.bool true) ∧ w' = w := by
  go_enter Tryd.func46, Tryd.ntmps46
  go_wp2_with fail
  go_ret
  exact ⟨rfl, rfl⟩
theorem isKey_no (w : World) (k : Int) (h : k < 0 ∨ 127 < k) : Calls Tryd.prog 46 #[.int .i64 k] w fun e w' => e = .returned (.bool false) ∧ w' = w := by
  rcases h with h | h
  · have h0 : decide (0 ≤ k) = false := by simpa using h
    go_enter Tryd.func46, Tryd.ntmps46
    go_wp2_with fail
    go_ret
    exact ⟨rfl, rfl⟩
  · have h1 : decide (k ≤ 127) = false := by simpa using h
    go_enter Tryd.func46, Tryd.ntmps46
    go_wp2_with fail
    go_ret
    exact ⟨rfl, rfl⟩

def repL (i : Int) : Int := if 0 ≤ i ∧ i ≤ 15 then i else -1
def cliL (j : Int) : Int := if 1 ≤ j ∧ j ≤ 27 then 100 + j else -1
theorem replica_any (w : World) (i : Int) : Calls Tryd.prog 34 #[.int .i64 i] w fun e w' => e = .returned (.int .i64 (repL i)) ∧ w' = w := by
  by_cases h0 : i < 0
  · rw [repL, if_neg (by omega)]
    go_enter Tryd.func34, Tryd.ntmps34
    go_wp2_with fail
    go_ret
    exact ⟨rfl, rfl⟩
  by_cases h1 : 15 < i
  · rw [repL, if_neg (by omega)]
    go_enter Tryd.func34, Tryd.ntmps34
    go_wp2_with fail
    go_ret
    exact ⟨rfl, rfl⟩
  · rw [repL, if_pos (by omega)]
    go_enter Tryd.func34, Tryd.ntmps34
    go_wp2_with fail
    go_ret
    exact ⟨rfl, rfl⟩
theorem refReplica_any (w : World) (i : Int) : Calls Tryd.prog 42 #[.int .i64 i] w fun e w' => e = .returned (.int .i64 (repL i)) ∧ w' = w := by
  by_cases h0 : 0 ≤ i
  · by_cases h1 : i ≤ 15
    · rw [repL, if_pos (by omega)]
      go_enter Tryd.func42, Tryd.ntmps42
      go_wp2_with fail
      go_ret
      exact ⟨rfl, rfl⟩
    · rw [repL, if_neg (by omega)]
      go_enter Tryd.func42, Tryd.ntmps42
      go_wp2_with fail
      go_ret
      exact ⟨rfl, rfl⟩
  · rw [repL, if_neg (by omega)]
    go_enter Tryd.func42, Tryd.ntmps42
    go_wp2_with fail
    go_ret
    exact ⟨rfl, rfl⟩

/-- bytes.Equal. -/
theorem equal_any (w : World) (u v : Value) (a b : List Int) (ha : Rd w u a) (hb : Rd w v b) :
    Calls Tryd.prog 47 #[u, v] w fun e w' => e = .returned (.bool (decide (a = b))) ∧ w' = w := by
  have h1 := run_str ha
  have h2 := run_str hb
  have h3 := str_eq ha.1 hb.1
  clear ha hb
  rw [← h3]
  clear h3
  go_enter Tryd.func47, Tryd.ntmps47
  go_wp2_with fail
  go_ret
  exact ⟨rfl, rfl⟩
end Go.Proofs.YtajmgpgjkalfkaaDoor
