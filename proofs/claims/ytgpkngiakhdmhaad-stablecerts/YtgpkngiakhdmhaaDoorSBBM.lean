/- Strings as bytes; the small functions of package key, and of the document's own answer; bytes.Equal. -/
import Derived.Test.YtgpkngiakhdmhaaDoorSBBJ
import Derived.Test.YtgpkngiakhdmhaaDoorSBAH
import Derived.Lib.SlBytesConst
import Derived.Test.YtgpkngiakhdmhaaDoorSBAM
import Derived.Lib.ConvBytes
import Derived.Laws.AppendOwn
namespace Go.Proofs.YtgpkngiakhdmhaaDoor
section
open Go.RowKit Oct Sha
theorem rd_lit (w : World) (l : List Int) (e : TypeId) (fr : Nat × Nat) (hb : Byt l) (h : 0 < l.length) (hm : l.length ≤ 1000) : Rd (w.alloc (.cells (bc l).toArray e fr)) (.slice (some ⟨w.heap.size, 0, none⟩) l.length l.length) l := by
  refine ⟨hb, some ⟨w.heap.size, 0, none⟩, l.length, by rw [bc_len], by rw [bc_len]; exact Nat.le_refl _, by unfold maxLen; omega, fun e => (by cases e), fun a ha j u hu => ?_⟩
  cases ha
  rw [Addr.add_mid, cell_of_row _ _ _ (bc l).toArray e fr (heap_alloc_new w _), Nat.zero_add]
  simpa using hu
theorem byt_of {l : List Int} (h : l.all (fun x => decide (0 ≤ x) && decide (x ≤ 255)) = true) : Byt l := fun x hx => by
  have := List.all_eq_true.1 h x hx
  simpa using this
theorem run_cvt (u : World) (C : Array Value) (n c : Nat) : (convert 26 26 (.slice (some ⟨u.heap.size, 0, none⟩) n c)).run Tryd.prog (u.alloc (.cells C 5)) = .ok (.slice (some ⟨u.heap.size, 0, none⟩) n c) (u.alloc (.cells C 5 (C.size, C.size + 1))) :=
  Lib.run_convert_bytes_const u 26 5 C n c Tryd.underlying26 Tryd.underlying5
theorem shaL_byt (l : List Int) : Byt (shaL l) := out_byt _
end
section
open Go.RowKit Oct Sha
/-- A string's bytes. -/
def sL (s : ByteArray) : List Int := s.data.toList.map fun b => (b.toNat : Int)
theorem sL_len (s : ByteArray) : (sL s).length = s.size := by rw [sL, List.length_map]; rfl
theorem sL_byt (s : ByteArray) : Byt (sL s) := fun x hx => by
  obtain ⟨b, _, rfl⟩ := List.mem_map.1 hx
  have := b.toNat_lt
  omega
theorem rd_str (w : World) (s : ByteArray) (hs : s.size ≤ maxLen) : Rd (Lib.bytesWorld w 5 s) (.slice (some ⟨w.heap.size, 0, none⟩) s.size (grownCap w s.size 0 5)) (sL s) := by
  refine ⟨sL_byt s, some ⟨w.heap.size, 0, none⟩, grownCap w s.size 0 5, by rw [bc_len, sL_len], by rw [bc_len, sL_len]; exact grownCap_ge _ _ _ _, grownCap_le_maxLen _ _ _ _ hs, fun e => (by cases e), fun a ha j u hu => ?_⟩
  cases ha
  have hj : j < (sL s).length := by
    rcases Nat.lt_or_ge j (sL s).length with h | h
    · exact h
    · rw [List.getElem?_eq_none (by rw [bc_len]; exact h)] at hu; cases hu
  rw [bc_getD _ _ hj] at hu
  rw [sL_len] at hj
  rw [Addr.add_mid, Nat.zero_add, Lib.bytesWorld_cell w _ s j hj, ← hu]
  have hj' : j < s.data.toList.length := by simpa using hj
  simp [sL, List.getD, List.getElem?_map, List.getElem?_eq_getElem hj']
theorem below_str (w : World) (e : TypeId) (s : ByteArray) : Below w.heap.size w (Lib.bytesWorld w e s) :=
  ⟨rfl, rfl, rfl, by rw [Lib.bytesWorld_size]; omega, fun k hk => Lib.bytesWorld_at_old w e s k hk⟩
/-- '[]byte(s)'. -/
theorem wl_str {w : World} {ops : Array Oper} {rest : List Oper} {o : Oper} {a : Act} {Q : Exit → Act → World → Prop} (hgd : Region.wanted o (yielded ops a.tmps) = true) (x : Operand)
    (ho : o.op = .convert 9 26 x) (s : ByteArray) (hx : a.eval x = .string s) (hs : s.size ≤ maxLen)
    (h : ∀ v w', Rd w' v (sL s) → Fr w.heap.size v → Below w.heap.size w w' → wpList Tryd.prog ops Q rest (a.put o.dst v) w') : wpList Tryd.prog ops Q (o :: rest) a w := by
  refine wpList_wanted hgd fun K hK => ?_
  unfold Oper.wp
  simp [execOp, ho, hx, Lib.run_convert_string_bytes w 9 26 5 s Tryd.underlying9 Tryd.underlying26 Tryd.underlying5, Result.andThen]
  exact hK _ _ (h _ _ (rd_str w s hs) (fr_at _ _ _ _ (Nat.le_refl _)) (below_str w _ s))
theorem isKey_yes (w : World) (k : Int) (h0 : 0 ≤ k) (h1 : k ≤ 127) : Calls Tryd.prog 44 #[.int .i64 k] w fun e w' => e = .returned (.bool true) ∧ w' = w := by
  go_enter Tryd.func44, Tryd.ntmps44
  go_wp2_with fail
  go_ret
  exact ⟨rfl, rfl⟩
theorem isKey_no (w : World) (k : Int) (h : k < 0 ∨ 127 < k) : Calls Tryd.prog 44 #[.int .i64 k] w fun e w' => e = .returned (.bool false) ∧ w' = w := by
  rcases h with h | h
  · have h0 : decide (0 ≤ k) = false := by simpa using h
    go_enter Tryd.func44, Tryd.ntmps44
    go_wp2_with fail
    go_ret
    exact ⟨rfl, rfl⟩
  · have h1 : decide (k ≤ 127) = false := by simpa using h
    go_enter Tryd.func44, Tryd.ntmps44
    go_wp2_with fail
    go_ret
    exact ⟨rfl, rfl⟩
def repL (i : Int) : Int := if 0 ≤ i ∧ i ≤ 15 then i else -1
theorem replica_any (w : World) (i : Int) : Calls Tryd.prog 36 #[.int .i64 i] w fun e w' => e = .returned (.int .i64 (repL i)) ∧ w' = w := by
  by_cases h0 : i < 0
  · rw [repL, if_neg (by omega)]
    go_enter Tryd.func36, Tryd.ntmps36
    go_wp2_with fail
    go_ret
    exact ⟨rfl, rfl⟩
  by_cases h1 : 15 < i
  · rw [repL, if_neg (by omega)]
    go_enter Tryd.func36, Tryd.ntmps36
    go_wp2_with fail
    go_ret
    exact ⟨rfl, rfl⟩
  · rw [repL, if_pos (by omega)]
    go_enter Tryd.func36, Tryd.ntmps36
    go_wp2_with fail
    go_ret
    exact ⟨rfl, rfl⟩
/-- bytes.Equal. -/
theorem equal_any (w : World) (u v : Value) (a b : List Int) (ha : Rd w u a) (hb : Rd w v b) :
    Calls Tryd.prog 45 #[u, v] w fun e w' => e = .returned (.bool (decide (a = b))) ∧ w' = w := by
  have h1 := run_str ha
  have h2 := run_str hb
  have h3 := str_eq ha.1 hb.1
  clear ha hb
  rw [← h3]
  clear h3
  go_enter Tryd.func45, Tryd.ntmps45
  go_wp2_with fail
  go_ret
  exact ⟨rfl, rfl⟩
end
end Go.Proofs.YtgpkngiakhdmhaaDoor
