/- The walks over package octet: numbers. -/
import Derived.Test.YtgbfmccecnfooaaCAAC
import Derived.Test.YtgbfmccecnfooaaProg
import Derived.WalkSpells
import Derived.WalkLawsBesides
import Derived.KernelRfl
namespace Go.Proofs.Ytgbfmccecnfooaa
open Go.RowKit Oct
theorem Try.info5 : (Try.prog.info? 5).map (fun i => (i.zero, i.size, i.bytes)) = some (some (.int .u8 0), 1, 1) := by kernel_rfl
/-- 'append(s, x...)' of bytes, at this program. -/
theorem app_bytes_w {w : World} {ops : Array Oper} {rest : List Oper} {o : Oper} {a : Act} {Q : Exit → Act → World → Prop} (hgd : Region.wanted o (yielded ops a.tmps) = true) (s x : Operand)
    (ho : o.op = .call { callee := .builtin .append, args := #[s, x], argTypes := #[26, 26] })
    (v : Value) (l : List Int) (hs : a.eval s = v) (hown : Own w 5 v (bc l)) (sv : Value) (m : List Int) (hx : a.eval x = sv) (hsrc : Rdv w sv (bc m)) (hb : l.length + m.length ≤ 140737488355328)
    (h : ∀ v' w', App w 5 v w' v' (bc (l ++ m)) → wpList Try.prog ops Q rest (a.put o.dst v') w') : wpList Try.prog ops Q (o :: rest) a w := by
  obtain ⟨i0, hi, hz0, hz1, hz2⟩ := info_parts Try.info5
  refine wpList_app hgd s x 26 ho 5 i0 (.int .u8 0) 1 Try.underlying26 hi hz0 hz1 hz2 rfl v (bc l) hs hown sv (bc m) hx hsrc (bc_one _) (by rw [bc_len, bc_len]; unfold maxLen; omega) (by rw [bc_len, bc_len]; omega) ?_
  rw [← bc_app]
  exact h
/-- The same at a step of a region that draws its order. -/
theorem step_bytes {w : World} {ops : Array Oper} {o : Oper} {a : Act} {K : Act → World → Prop} {Q : Exit → Act → World → Prop} {E : Prop} (hgd : o.guard = none) (s x : Operand)
    (ho : o.op = .call { callee := .builtin .append, args := #[s, x], argTypes := #[26, 26] })
    (v : Value) (l : List Int) (hs : a.eval s = v) (hown : Own w 5 v (bc l)) (sv : Value) (m : List Int) (hx : a.eval x = sv) (hsrc : Rdv w sv (bc m)) (hb : l.length + m.length ≤ 140737488355328)
    (h : ∀ v' w', App w 5 v w' v' (bc (l ++ m)) → K (a.put o.dst v') w') : if Region.wanted o (yielded ops a.tmps) = true then Oper.wp Try.prog o a w K Q else E := by
  have hw : Region.wanted o (yielded ops a.tmps) = true := by simp [Region.wanted, hgd]
  rw [if_pos hw]
  obtain ⟨i0, hi, hz0, hz1, hz2⟩ := info_parts Try.info5
  refine wp_app s x 26 ho 5 i0 (.int .u8 0) 1 Try.underlying26 hi hz0 hz1 hz2 rfl v (bc l) hs hown sv (bc m) hx hsrc (bc_one _) (by rw [bc_len, bc_len]; unfold maxLen; omega) (by rw [bc_len, bc_len]; omega) ?_
  rw [← bc_app]
  exact h
theorem below_alloc (w : World) (o : Obj) : Below w.heap.size w (w.alloc o) := (Below.refl _ _).alloc (Nat.le_refl _) o
theorem own_zero (w : World) (e : TypeId) : Own (w.alloc (.cells #[] e)) e (.slice (some ⟨w.heap.size, 0, none⟩) 0 0) (bc []) :=
  World.ownsRow_lit (base := 0) (size := 1) w #[] 0 (Nat.zero_le _) (by decide) rfl
theorem fr_at (B g n c : Nat) (h : B ≤ g) : Fr B (.slice (some ⟨g, 0, none⟩) n c) := fun k hk => by simp [Value.ownBlock] at hk; omega
/-- 'append([]byte{}, x...)': a copy. -/
theorem app_copy_w {w : World} {ops : Array Oper} {rest : List Oper} {o : Oper} {a : Act} {Q : Exit → Act → World → Prop} (hgd : Region.wanted o (yielded ops a.tmps) = true) (s x : Operand)
    (ho : o.op = .call { callee := .builtin .append, args := #[s, x], argTypes := #[26, 26] })
    (hs : a.eval s = .slice (some ⟨w.heap.size, 0, none⟩) 0 0) (sv : Value) (m : List Int) (hx : a.eval x = sv) (hsrc : Rd w sv m) (hb : m.length ≤ 140737488355328)
    (h : ∀ v' w', Own w' 5 v' (bc m) → Fr w.heap.size v' → Below w.heap.size w w' → wpList Try.prog ops Q rest (a.put o.dst v') w') : wpList Try.prog ops Q (o :: rest) a (w.alloc (.cells #[] 5)) := by
  refine app_bytes_w hgd s x ho (.slice (some ⟨w.heap.size, 0, none⟩) 0 0) [] hs (own_zero w 5) sv m hx (hsrc.below (below_alloc w _)).2 (by simp only [List.length_nil]; omega) ?_
  intro v' w' happ
  rw [List.nil_append] at happ
  have hp := happ.pre (below_alloc w _)
  exact h v' w' hp.own (happ.fr (fr_at _ _ _ _ (Nat.le_refl _)) (by simp)) ((below_alloc w _).trans (happ.below (fr_at _ _ _ _ (Nat.le_refl _)) (by simp)))
theorem app_copy {w : World} {ops : Array Oper} {rest : List Oper} {o : Oper} {a : Act} {Q : Exit → Act → World → Prop} (hgd : o.guard = none) (s x : Operand)
    (ho : o.op = .call { callee := .builtin .append, args := #[s, x], argTypes := #[26, 26] })
    (hs : a.eval s = .slice (some ⟨w.heap.size, 0, none⟩) 0 0) (sv : Value) (m : List Int) (hx : a.eval x = sv) (hsrc : Rd w sv m) (hb : m.length ≤ 140737488355328)
    (h : ∀ v' w', Own w' 5 v' (bc m) → Fr w.heap.size v' → Below w.heap.size w w' → wpList Try.prog ops Q rest (a.put o.dst v') w') : wpList Try.prog ops Q (o :: rest) a (w.alloc (.cells #[] 5)) :=
  app_copy_w (wanted_none hgd) s x ho hs sv m hx hsrc hb h
/-- Two stretches of a run, one behind the other. -/
theorem below_and {B : Nat} {w w1 w2 : World} (h : Below B w w1) (hB : B ≤ w.heap.size) (h' : Below w1.heap.size w1 w2) : Below B w w2 := h.trans (h'.mono (Nat.le_trans hB h.size))
/-- A part of a slice of bytes. -/
theorem Rd.part {w : World} {b off : Nat} {l : List Int} (hb : Byt l) (hc : ∀ j, j < l.length → w.cell? ⟨b, off + j, none⟩ = some (.int .u8 (l.getD j 0)))
    (lo n : Nat) (h : lo + n ≤ l.length) (c : Nat) (hc1 : n ≤ c) (hc2 : c ≤ maxLen) : Rd w (.slice (some ⟨b, off + lo, none⟩) n c) ((l.drop lo).take n) := by
  have hlen : (bc ((l.drop lo).take n)).length = n := by rw [bc_len, List.length_take, List.length_drop]; omega
  refine ⟨(hb.drop _).take _, some ⟨b, off + lo, none⟩, c, by rw [hlen], by rw [hlen]; exact hc1, hc2, fun e => (by cases e), fun a ha j u hu => ?_⟩
  cases ha
  have hj : j < n := by
    rcases Nat.lt_or_ge j n with h | h
    · exact h
    · rw [List.getElem?_eq_none (by omega)] at hu; cases hu
  have e : (⟨b, off + lo, none⟩ : Addr).add j = ⟨b, off + (lo + j), none⟩ := by unfold Addr.add; split <;> simp_all [Nat.add_assoc]
  rw [e, hc (lo + j) (by omega)]
  rw [bc_getD _ _ (by rw [List.length_take, List.length_drop]; omega)] at hu
  rw [← hu]
  simp [List.getD, hj]
/-- Two texts are the same just if their bytes are. -/
theorem str_eq {a b : List Int} (ha : Byt a) (hb : Byt b) : ((strOfNums a).toList == (strOfNums b).toList) = decide (a = b) := by
  rw [Bool.eq_iff_iff]
  simp only [beq_iff_eq, decide_eq_true_eq]
  refine ⟨fun h1 => ?_, fun h => by rw [h]⟩
  rw [ByteArray.toList_eq, ByteArray.toList_eq, strOfNums_data, strOfNums_data] at h1
  induction a generalizing b with
  | nil => cases b with
    | nil => rfl
    | cons y b => simp at h1
  | cons x a ih => cases b with
    | nil => simp at h1
    | cons y b =>
      simp only [List.map_cons, List.cons.injEq] at h1
      have hx := ha x (by simp)
      have hy := hb y (by simp)
      have e := congrArg UInt8.toNat h1.1
      simp at e
      rw [ih (fun z hz => ha z (by simp [hz])) (fun z hz => hb z (by simp [hz])) h1.2]
      congr 1
      omega
/-- What 'string(b)' makes of a slice of bytes. -/
theorem run_str {w : World} {v : Value} {l : List Int} (h : Rd w v l) : (convert 26 9 v).run Try.prog w = .ok (.string (strOfNums l)) w := by
  by_cases hl : 0 < l.length
  · obtain ⟨b, off, cap, rfl, hc1, hc2, hb, hcell⟩ := h.at hl
    exact run_convert_bytes_arg w 26 5 Try.underlying26 Try.underlying5 b off l.length cap l rfl hcell 9 Try.underlying9
  · have hl0 : l = [] := List.eq_nil_of_length_eq_zero (by omega)
    subst hl0
    obtain ⟨ao, cap, rfl, hc⟩ := h.empty rfl
    have e : strOfNums [] = ByteArray.empty := rfl
    rw [e]
    cases ao with
    | none => exact run_convert_bytes_nil w 26 5 Try.underlying26 Try.underlying5 0 cap 9 Try.underlying9
    | some a =>
      rw [run_convert_bytes_string w 26 9 5 (some a) 0 cap Try.underlying26 Try.underlying5 Try.underlying9, run_bytesToString w a 0 cap [] (by simp [loadCells, loadCellsFrom])]
      rfl
/-- catenaryref01.Same. -/
theorem same_any (w : World) (u v : Value) (a b : List Int) (ha : Rd w u a) (hb : Rd w v b) :
    Calls Try.prog 18 #[u, v] w fun e w' => e = .returned (.bool (decide (a = b))) ∧ w' = w := by
  have h1 := run_str ha
  have h2 := run_str hb
  have h3 := str_eq ha.1 hb.1
  clear ha hb
  rw [← h3]
  clear h3
  go_enter Try.func18, Try.ntmps18
  go_wp2_with fail
  go_ret
  exact ⟨rfl, rfl⟩
end Go.Proofs.Ytgbfmccecnfooaa
