/- The document's windows in memory: New, In, At, with. Written by mk18d.py. -/
import Derived.Test.YtjloehkolnjnhaaXRAU
set_option linter.unusedSimpArgs false
set_option linter.unusedVariables false
namespace Go.Proofs.Ytjloehkolnjnhaa
open Go.RowKit Oct Kvl Bal
/-- Sixteen zero slots' cells. -/
def zRest : List Value := [.int .i64 0, .int .i64 0, .int .i64 0, .int .i64 0, .slice none 0 0, .slice none 0 0, .int .i64 0, .int .i64 0, .int .i64 0, .int .i64 0, .slice none 0 0, .slice none 0 0, .slice none 0 0, .int .i64 0, .int .i64 0, .slice none 0 0, .slice none 0 0, .int .i64 0, .int .i64 0, .slice none 0 0, .bool false, .bool false, .bool false, .int .i64 0, .int .i64 0, .int .i64 0, .int .i64 0, .slice none 0 0, .slice none 0 0, .int .i64 0, .int .i64 0, .int .i64 0, .int .i64 0, .slice none 0 0, .slice none 0 0, .slice none 0 0, .int .i64 0, .int .i64 0, .slice none 0 0, .slice none 0 0, .int .i64 0, .int .i64 0, .slice none 0 0, .bool false, .bool false, .bool false, .int .i64 0, .int .i64 0, .int .i64 0, .int .i64 0, .slice none 0 0, .slice none 0 0, .int .i64 0, .int .i64 0, .int .i64 0, .int .i64 0, .slice none 0 0, .slice none 0 0, .slice none 0 0, .int .i64 0, .int .i64 0, .slice none 0 0, .slice none 0 0, .int .i64 0, .int .i64 0, .slice none 0 0, .bool false, .bool false, .bool false, .int .i64 0, .int .i64 0, .int .i64 0, .int .i64 0, .slice none 0 0, .slice none 0 0, .int .i64 0, .int .i64 0, .int .i64 0, .int .i64 0, .slice none 0 0, .slice none 0 0, .slice none 0 0, .int .i64 0, .int .i64 0, .slice none 0 0, .slice none 0 0, .int .i64 0, .int .i64 0, .slice none 0 0, .bool false, .bool false, .bool false, .int .i64 0, .int .i64 0, .int .i64 0, .int .i64 0, .slice none 0 0, .slice none 0 0, .int .i64 0, .int .i64 0, .int .i64 0, .int .i64 0, .slice none 0 0, .slice none 0 0, .slice none 0 0, .int .i64 0, .int .i64 0, .slice none 0 0, .slice none 0 0, .int .i64 0, .int .i64 0, .slice none 0 0, .bool false, .bool false, .bool false, .int .i64 0, .int .i64 0, .int .i64 0, .int .i64 0, .slice none 0 0, .slice none 0 0, .int .i64 0, .int .i64 0, .int .i64 0, .int .i64 0, .slice none 0 0, .slice none 0 0, .slice none 0 0, .int .i64 0, .int .i64 0, .slice none 0 0, .slice none 0 0, .int .i64 0, .int .i64 0, .slice none 0 0, .bool false, .bool false, .bool false, .int .i64 0, .int .i64 0, .int .i64 0, .int .i64 0, .slice none 0 0, .slice none 0 0, .int .i64 0, .int .i64 0, .int .i64 0, .int .i64 0, .slice none 0 0, .slice none 0 0, .slice none 0 0, .int .i64 0, .int .i64 0, .slice none 0 0, .slice none 0 0, .int .i64 0, .int .i64 0, .slice none 0 0, .bool false, .bool false, .bool false, .int .i64 0, .int .i64 0, .int .i64 0, .int .i64 0, .slice none 0 0, .slice none 0 0, .int .i64 0, .int .i64 0, .int .i64 0, .int .i64 0, .slice none 0 0, .slice none 0 0, .slice none 0 0, .int .i64 0, .int .i64 0, .slice none 0 0, .slice none 0 0, .int .i64 0, .int .i64 0, .slice none 0 0, .bool false, .bool false, .bool false, .int .i64 0, .int .i64 0, .int .i64 0, .int .i64 0, .slice none 0 0, .slice none 0 0, .int .i64 0, .int .i64 0, .int .i64 0, .int .i64 0, .slice none 0 0, .slice none 0 0, .slice none 0 0, .int .i64 0, .int .i64 0, .slice none 0 0, .slice none 0 0, .int .i64 0, .int .i64 0, .slice none 0 0, .bool false, .bool false, .bool false, .int .i64 0, .int .i64 0, .int .i64 0, .int .i64 0, .slice none 0 0, .slice none 0 0, .int .i64 0, .int .i64 0, .int .i64 0, .int .i64 0, .slice none 0 0, .slice none 0 0, .slice none 0 0, .int .i64 0, .int .i64 0, .slice none 0 0, .slice none 0 0, .int .i64 0, .int .i64 0, .slice none 0 0, .bool false, .bool false, .bool false, .int .i64 0, .int .i64 0, .int .i64 0, .int .i64 0, .slice none 0 0, .slice none 0 0, .int .i64 0, .int .i64 0, .int .i64 0, .int .i64 0, .slice none 0 0, .slice none 0 0, .slice none 0 0, .int .i64 0, .int .i64 0, .slice none 0 0, .slice none 0 0, .int .i64 0, .int .i64 0, .slice none 0 0, .bool false, .bool false, .bool false, .int .i64 0, .int .i64 0, .int .i64 0, .int .i64 0, .slice none 0 0, .slice none 0 0, .int .i64 0, .int .i64 0, .int .i64 0, .int .i64 0, .slice none 0 0, .slice none 0 0, .slice none 0 0, .int .i64 0, .int .i64 0, .slice none 0 0, .slice none 0 0, .int .i64 0, .int .i64 0, .slice none 0 0, .bool false, .bool false, .bool false, .int .i64 0, .int .i64 0, .int .i64 0, .int .i64 0, .slice none 0 0, .slice none 0 0, .int .i64 0, .int .i64 0, .int .i64 0, .int .i64 0, .slice none 0 0, .slice none 0 0, .slice none 0 0, .int .i64 0, .int .i64 0, .slice none 0 0, .slice none 0 0, .int .i64 0, .int .i64 0, .slice none 0 0, .bool false, .bool false, .bool false, .int .i64 0, .int .i64 0, .int .i64 0, .int .i64 0, .slice none 0 0, .slice none 0 0, .int .i64 0, .int .i64 0, .int .i64 0, .int .i64 0, .slice none 0 0, .slice none 0 0, .slice none 0 0, .int .i64 0, .int .i64 0, .slice none 0 0, .slice none 0 0, .int .i64 0, .int .i64 0, .slice none 0 0, .bool false, .bool false, .bool false, .int .i64 0, .int .i64 0, .int .i64 0, .int .i64 0, .slice none 0 0, .slice none 0 0, .int .i64 0, .int .i64 0, .int .i64 0, .int .i64 0, .slice none 0 0, .slice none 0 0, .slice none 0 0, .int .i64 0, .int .i64 0, .slice none 0 0, .slice none 0 0, .int .i64 0, .int .i64 0, .slice none 0 0, .bool false, .bool false, .bool false, .int .i64 0, .int .i64 0, .int .i64 0, .int .i64 0, .slice none 0 0, .slice none 0 0, .int .i64 0, .int .i64 0, .int .i64 0, .int .i64 0, .slice none 0 0, .slice none 0 0, .slice none 0 0, .int .i64 0, .int .i64 0, .slice none 0 0, .slice none 0 0, .int .i64 0, .int .i64 0, .slice none 0 0, .bool false, .bool false, .bool false]
set_option maxRecDepth 10000 in
theorem zRest_eq : zRest = (List.replicate 16 zSl).flatten := by kernel_rfl
/-- The document's window: what it is above, and sixteen slots. -/
def RDw (G : Nat → Prop) (w : World) (cs : List Value) (low : Int) (sls : List PSl) : Prop :=
  (0 ≤ low ∧ low ≤ 1000000) ∧ sls.length = 16 ∧ ∃ rows, cs = .int .i64 low :: rows.flatten ∧ All2 (RSl G w) rows sls
theorem RDw.mv {G G' : Nat → Prop} {w w' : World} {cs : List Value} {low : Int} {sls : List PSl} (h : RDw G w cs low sls) (hs : w.heap.size ≤ w'.heap.size) (hm : Mv G G' w w') : RDw G' w' cs low sls := by
  obtain ⟨h0, h1, rows, h2, h3⟩ := h
  exact ⟨h0, h1, rows, h2, h3.mono fun r a h => mov_sl _ _ _ _ _ _ h hs hm⟩
theorem RDw.below {w w' : World} {cs : List Value} {low : Int} {sls : List PSl} (h : RDw Any w cs low sls) (hb : Below w.heap.size w w') : RDw Any w' cs low sls := h.mv hb.size (Mv.below hb)
theorem rows_len {G : Nat → Prop} {w : World} : ∀ {rows : List (List Value)} {sls : List PSl}, All2 (RSl G w) rows sls → ∀ r ∈ rows, r.length = 23
  | [], [], _ => fun r h => by cases h
  | r :: rows, s :: sls, h => fun x hx => by
    rcases List.mem_cons.1 hx with rfl | hx
    · exact h.1.len
    · exact rows_len h.2 x hx
  | [], _ :: _, h => h.elim
  | _ :: _, [], h => h.elim
theorem RDw.len {G : Nat → Prop} {w : World} {cs : List Value} {low : Int} {sls : List PSl} (h : RDw G w cs low sls) : cs.length = 369 := by
  obtain ⟨h0, h1, rows, rfl, h3⟩ := h
  have := flat_len (rows_len h3)
  rw [h3.len, h1] at this
  simp [this]
theorem RDw.one {G : Nat → Prop} {w : World} {cs : List Value} {low : Int} {sls : List PSl} (h : RDw G w cs low sls) : ∀ v ∈ cs, v.oneCell' = true := by
  obtain ⟨h0, h1, rows, rfl, h3⟩ := h
  intro v hv
  rcases List.mem_cons.1 hv with rfl | hv
  · rfl
  · obtain ⟨r, hr, hvr⟩ := List.mem_flatten.1 hv
    obtain ⟨i, hi, rfl⟩ := List.getElem_of_mem hr
    exact one_RSl (h3.get (List.getElem?_eq_getElem hi) (List.getElem?_eq_getElem (by rw [← h3.len]; exact hi))) v hvr
theorem RDw.head {G : Nat → Prop} {w : World} {cs : List Value} {low : Int} {sls : List PSl} (h : RDw G w cs low sls) : cs[0]? = some (.int .i64 low) := by
  obtain ⟨h0, h1, rows, rfl, h3⟩ := h
  rfl
theorem flat_cut : ∀ {rows : List (List Value)} {i : Nat} {r : List Value}, (∀ r ∈ rows, r.length = 23) → rows[i]? = some r → (rows.flatten.drop (i * 23)).take 23 = r ∧ ∀ r', r'.length = 23 → splice rows.flatten (i * 23) r' = (rows.set i r').flatten
  | [], i, r, _, h => by simp at h
  | x :: rows, 0, r, hl, h => by
    simp at h
    subst h
    have hx := hl x (by simp)
    refine ⟨by simp [← hx], fun r' hr' => ?_⟩
    simp [splice, hr', ← hx]
  | x :: rows, i + 1, r, hl, h => by
    have hx := hl x (by simp)
    obtain ⟨h1, h2⟩ := flat_cut (rows := rows) (i := i) (r := r) (fun r hr => hl r (by simp [hr])) (by simpa using h)
    have e : (i + 1) * 23 = x.length + i * 23 := by rw [hx]; omega
    refine ⟨?_, fun r' hr' => ?_⟩
    · rw [List.flatten_cons, e, List.drop_append, List.drop_of_length_le (by omega), List.nil_append, Nat.add_sub_cancel_left]
      exact h1
    · have h2 := h2 r' hr'
      unfold splice at h2 ⊢
      rw [List.flatten_cons, List.set_cons_succ, List.flatten_cons, ← h2, e, List.take_append, List.take_of_length_le (by omega), Nat.add_sub_cancel_left, show x.length + i * 23 + r'.length = x.length + (i * 23 + r'.length) by omega, List.drop_append, List.drop_of_length_le (by omega), List.nil_append, Nat.add_sub_cancel_left]
      simp only [List.append_assoc]
/-- A slot out of it. -/
theorem RDw.at {G : Nat → Prop} {w : World} {cs : List Value} {low : Int} {sls : List PSl} (h : RDw G w cs low sls) {i : Nat} (hi : i < 16) : ∃ r s, sls[i]? = some s ∧ RSl G w r s ∧ (cs.drop (1 + i * 23)).take 23 = r ∧ ∀ r' s', RSl G w r' s' → RDw G w (splice cs (1 + i * 23) r') low (sls.set i s') := by
  obtain ⟨h0, h1, rows, rfl, h3⟩ := h
  have hl := rows_len h3
  obtain ⟨r, hr⟩ : ∃ r, rows[i]? = some r := ⟨_, List.getElem?_eq_getElem (by rw [h3.len, h1]; exact hi)⟩
  obtain ⟨s, hs⟩ : ∃ s, sls[i]? = some s := ⟨_, List.getElem?_eq_getElem (by rw [h1]; exact hi)⟩
  obtain ⟨e1, e2⟩ := flat_cut hl hr
  refine ⟨r, s, hs, h3.get hr hs, ?_, fun r' s' hr' => ⟨h0, by rw [List.length_set, h1], rows.set i r', ?_, All2.setW h3 hr'⟩⟩
  · rw [Nat.add_comm, List.drop_succ_cons]
    exact e1
  · rw [← e2 r' hr'.len]
    unfold splice
    rw [Nat.add_comm 1, List.take_succ_cons, List.cons_append, show i * 23 + 1 + r'.length = i * 23 + r'.length + 1 by omega, List.drop_succ_cons]
theorem RDw.zero (G : Nat → Prop) (w : World) (n : Int) : RDw G w (.int .i64 (bndW n) :: zRest) (bndW n) (List.replicate 16 s0) := by
  refine ⟨bndW_rng n, by simp, List.replicate 16 zSl, by rw [zRest_eq], ?_⟩
  have : ∀ k, All2 (RSl G w) (List.replicate k zSl) (List.replicate k s0) := fun k => by
    induction k with
    | zero => trivial
    | succ k ih => exact ⟨RSl.zero G w, ih⟩
  exact this 16
/-- What the document's window knows of a slot. -/
def atD (low : Int) (sls : List PSl) (k : Int) : PSl := if inW low k then (sls[(k - low - 1).toNat]?).getD s0 else s0
/-- The window with what is known of a slot. -/
def setD (low : Int) (sls : List PSl) (k : Int) (s : PSl) : List PSl := sls.set (k - low - 1).toNat s
theorem Try.inf36 : (Try.prog.info? 36).map (·.size) = some 369 := by kernel_rfl
theorem refInW_any {G : Nat → Prop} (w : World) (cs : List Value) (low : Int) (sls : List PSl) (h : RDw G w cs low sls) (k : Int) (hk : -9223372036854775808 ≤ k ∧ k ≤ 9223372036854775807) :
    Calls Try.prog 15 #[.agg cs.toArray, .int .i64 k] w fun e w' => e = .returned (.bool (inW low k)) ∧ Below w.heap.size w w' := by
  obtain ⟨w1, hw1⟩ : ∃ w1, w1 = w.alloc (.cells cs.toArray 36) := ⟨_, rfl⟩
  have B1 : Below w.heap.size w w1 := by rw [hw1]; exact below_alloc _ _
  have R1 : Row w1 w.heap.size 36 cs := by rw [hw1]; exact Row.new _ _ _
  have c0 := R1.cell (j := 0) h.head
  have hl := h.1
  clear h R1
  by_cases h1 : low < k
  · have d1 : decide (low < k) = true := by simpa using h1
    have hI : inW low k = decide (k - low ≤ 16) := by
      unfold inW
      rw [d1, Bool.true_and]
      exact decide_eq_decide.2 (by omega)
    have hwr : wrap64 (k - low) = k - low := IntWalk.wrap64_in _ ⟨by omega, by omega⟩
    rw [hI]
    clear hI
    go_enter Try.func15, Try.ntmps15
    go_upto_region 1 with fail
    rw [← hw1]
    clear hw1
    go_wp2_with fail
    go_ret
    exact ⟨rfl, B1⟩
  · have d1 : decide (low < k) = false := by simpa using h1
    have hI : inW low k = false := by unfold inW; rw [d1]; rfl
    rw [hI]
    clear hI
    go_enter Try.func15, Try.ntmps15
    go_upto_region 1 with fail
    rw [← hw1]
    clear hw1
    go_wp2_with fail
    go_ret
    exact ⟨rfl, B1⟩
end Go.Proofs.Ytjloehkolnjnhaa
