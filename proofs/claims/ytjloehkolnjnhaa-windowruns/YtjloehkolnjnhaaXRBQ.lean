/- What the bound of an upto statement gives. -/
import Derived.Test.YtjloehkolnjnhaaXRAZ
import Derived.Test.YtjloehkolnjnhaaXRBP
import Derived.Test.YtjloehkolnjnhaaXRBK
import Derived.Test.YtjloehkolnjnhaaRows
import Derived.Test.YtjloehkolnjnhaaXRAJ
import Derived.Test.YtjloehkolnjnhaaXRAD
set_option linter.unusedSimpArgs false
set_option linter.unusedVariables false
namespace Go.Proofs.Ytjloehkolnjnhaa
section
open Go.RowKit Oct Kvl Bal
theorem part_slot (cs : Array Value) (off : Nat) (w : World) : (part 33 cs off).run Try.prog w = .ok (.agg (cs.extract off (off + 23))) w := by kernel_rfl
theorem size_slot (w : World) : (sizeOf 33).run Try.prog w = .ok 23 w := by kernel_rfl
theorem idx_slot (rows : List (List Value)) (hl : ∀ r ∈ rows, r.length = 23) {q : Nat} {r : List Value} (hq : rows[q]? = some r) (h16 : q < 16) (w : World) :
    (Instr.index 34 (.agg rows.flatten.toArray) (.int .i64 (q : Int))).run Try.prog w = .ok (.agg r.toArray) w := by
  have h1 : (0 : Int) ≤ (q : Int) ∧ (q : Int) < ((16 : Nat) : Int) := ⟨by omega, by omega⟩
  have e1 : (Instr.index 34 (.agg rows.flatten.toArray) (.int .i64 (q : Int))).run Try.prog w = (part 33 rows.flatten.toArray (q * 23)).run Try.prog w := by
    unfold Instr.index
    simp [run_underlying Try.underlying34, asIntOf, h1, size_slot]
    intro hh
    omega
  rw [e1, part_slot]
  have e2 : rows.flatten.toArray.extract (q * 23) (q * 23 + 23) = r.toArray := by
    apply Array.toList_inj.1
    have := (flat_cut hl hq).1
    simp only [Array.toList_extract, List.extract_eq_take_drop, Nat.add_sub_cancel_left]
    exact this
  rw [e2]
end
section
open Go.RowKit Oct Kvl Bal
def dnOk (low : Int) (kn : List (Int × PSl)) (p : PPrep) : Prop := p.1 ≤ low + 16 ∧ (inW low p.1 = true → (atL kn p.1).hd = true ∧ (atL kn p.1).done = p.2.2.1)
theorem dn_put {low : Int} {kn : List (Int × PSl)} {p : PPrep} (h : dnOk low kn p) {k : Int} {s : PSl} (hs : k = p.1 → s.hd = true ∧ s.done = p.2.2.1) : dnOk low (putL kn k s) p := by
  refine ⟨h.1, fun hi => ?_⟩
  rw [at_put]
  split
  · rename_i e
    exact hs e.symm
  · exact h.2 hi
theorem dn_vote {low : Int} {kn : List (Int × PSl)} {p : PPrep} (h : dnOk low kn p) (b : PBal) (k : Int) (x : PReq) : dnOk low (stV low kn b k x).1 p := by
  unfold stV
  split
  · rename_i hk
    cases hv : voteS (atL kn k) b x with
    | none => exact h
    | some s =>
      refine dn_put h (fun e => ?_)
      obtain ⟨h1, h2⟩ := h.2 (e ▸ hk)
      rw [← e] at h1 h2
      unfold voteS at hv
      split at hv
      · cases hv
      · cases hv; exact ⟨h1, h2⟩
  · exact h
theorem dn_prep {low : Int} {kn : List (Int × PSl)} {p : PPrep} (h : dnOk low kn p) (b : PBal) (k : Int) (x : PReq) (c : List PVote) : dnOk low (stP low kn b k x c).1 p := by
  unfold stP
  split
  · rename_i hk
    cases hv : prepS (atL kn k) b x c with
    | none => exact h
    | some s =>
      refine dn_put h (fun e => ?_)
      obtain ⟨h1, h2⟩ := h.2 (e ▸ hk)
      rw [← e] at h1 h2
      unfold prepS at hv
      split at hv
      · cases hv
      · cases hv; exact ⟨h1, h2⟩
  · exact h
theorem dn_done {low : Int} {kn : List (Int × PSl)} {p : PPrep} (h : dnOk low kn p) (b : PBal) (k : Int) (x : PReq) (c : List PVote) : dnOk low (stD low kn b k x c).1 p ∧ ((stD low kn b k x c).2 = 0 → p.1 = k → p.2.2.1 = x) := by
  unfold stD
  split
  · rename_i hk
    cases hv : doneS (atL kn k) b x c with
    | none => exact ⟨h, fun e => by simp at e⟩
    | some s =>
      have key : k = p.1 → (s.hd = true ∧ s.done = p.2.2.1) ∧ p.2.2.1 = x := fun e => by
        obtain ⟨h1, h2⟩ := h.2 (e ▸ hk)
        rw [← e] at h1 h2
        unfold doneS at hv
        rw [h1] at hv
        split at hv
        · cases hv
        · rename_i hf
          simp only [if_true] at hv
          cases hv
          refine ⟨⟨h1, h2⟩, ?_⟩
          rw [h2] at hf
          simpa using hf
      exact ⟨dn_put h (fun e => (key e).1), fun _ e => (key e.symm).2⟩
  · exact ⟨h, fun e => by simp at e⟩
theorem dn_cut {low : Int} {kn : List (Int × PSl)} {p : PPrep} (h : dnOk low kn p) (l2 : Int) : dnOk (stC low kn l2).1 (stC low kn l2).2 p := by
  unfold stC
  split
  · exact h
  · rename_i hn
    refine ⟨by have := h.1; simp only; omega, fun hi => ?_⟩
    have hi := inW_iff.1 hi
    have h1 := h.1
    simp only at hi ⊢
    rw [at_cut, if_pos hi.1]
    exact h.2 (inW_iff.2 ⟨by omega, h1⟩)
end
section
open Go.ChangeShapes Go.RowKit Oct
theorem bulk_one {H : Type} (d : DataW H) : 1 ≤ Rows.uptoBulk d := by
  cases d with
  | lit l => cases l <;> simp [Rows.uptoBulk]
  | nil => simp [Rows.uptoBulk]
  | ptr d => simp [Rows.uptoBulk]
  | slice elems spare => simp [Rows.uptoBulk]
  | agg parts => simp [Rows.uptoBulk]
  | iface t d => simp [Rows.uptoBulk]
  | map entries => simp [Rows.uptoBulk]
  | held h => simp [Rows.uptoBulk]
theorem bulk_len {H : Type} (l : List (DataW H)) : l.length ≤ Rows.uptoBulkAll l := by
  induction l with
  | nil => simp [Rows.uptoBulkAll]
  | cons x r ih => have := bulk_one x; simp only [Rows.uptoBulkAll, List.length_cons]; omega
theorem bulk_bytes {H : Type} {d : DataW H} {l : List Int} (h : IsBytes d l) : l.length + 1 ≤ Rows.uptoBulk d := by
  rcases h with ⟨rfl, rfl⟩ | ⟨sp, rfl⟩
  · simp [Rows.uptoBulk]
  · have h1 := bulk_len (H := H) (lits .u8 l)
    simp only [lits, List.length_map] at h1
    simp only [Rows.uptoBulk, lits]
    omega
end
end Go.Proofs.Ytjloehkolnjnhaa
