/- WindowRuns, plain: both windows side by side. -/
import Derived.Test.YtjloehkolnjnhaaXUBM
import Derived.Test.YtjloehkolnjnhaaXUBN
set_option linter.unusedVariables false
namespace Go.Proofs.Ytjloehkolnjnhaa
open Go.RowKit Oct Kvl Bal
/-- The document's window knows of each slot what the program's knows. -/
def RelW (low : Int) (kn : List (Int × PSl)) (sls : List PSl) : Prop := sls.length = 16 ∧ ∀ k, atD low sls k = atL kn k
theorem at_setD {low : Int} {sls : List PSl} {k : Int} {s : PSl} (hl : sls.length = 16) (hk : inW low k = true) (i : Int) : atD low (setD low sls k s) i = if i = k then s else atD low sls i := by
  have hk' := inW_iff.1 hk
  unfold atD setD
  by_cases e : i = k
  · subst e
    rw [if_pos hk, if_pos rfl, List.getElem?_set_self (by omega)]
    rfl
  · rw [if_neg e]
    split
    · rename_i hi
      have hi' := inW_iff.1 hi
      rw [List.getElem?_set_ne (by omega)]
    · rfl
theorem RelW.new (n : Int) : RelW (bndW n) [] (List.replicate 16 s0) := by
  refine ⟨by simp, fun k => ?_⟩
  unfold atD atL
  split
  · rw [List.getElem?_replicate]
    split <;> rfl
  · rfl
theorem RelW.put {low : Int} {kn : List (Int × PSl)} {sls : List PSl} (h : RelW low kn sls) {k : Int} (hk : inW low k = true) (s : PSl) : RelW low (putL kn k s) (setD low sls k s) :=
  ⟨by unfold setD; rw [List.length_set]; exact h.1, fun i => by rw [at_setD h.1 hk, at_put, h.2]⟩
theorem RelW.vote {low : Int} {kn : List (Int × PSl)} {sls : List PSl} (h : RelW low kn sls) (b : PBal) (k : Int) (x : PReq) : RelW low (stV low kn b k x).1 (dV low sls b k x).1 ∧ (dV low sls b k x).2 = (stV low kn b k x).2 := by
  unfold stV dV
  rw [h.2 k]
  split
  · rename_i hk
    cases voteS (atL kn k) b x with
    | none => exact ⟨h, rfl⟩
    | some s => exact ⟨h.put hk s, rfl⟩
  · exact ⟨h, rfl⟩
theorem RelW.prep {low : Int} {kn : List (Int × PSl)} {sls : List PSl} (h : RelW low kn sls) (b : PBal) (k : Int) (x : PReq) (c : List PVote) : RelW low (stP low kn b k x c).1 (dP low sls b k x c).1 ∧ (dP low sls b k x c).2 = (stP low kn b k x c).2 := by
  unfold stP dP
  rw [h.2 k]
  split
  · rename_i hk
    cases prepS (atL kn k) b x c with
    | none => exact ⟨h, rfl⟩
    | some s => exact ⟨h.put hk s, rfl⟩
  · exact ⟨h, rfl⟩
theorem RelW.done {low : Int} {kn : List (Int × PSl)} {sls : List PSl} (h : RelW low kn sls) (b : PBal) (k : Int) (x : PReq) (c : List PVote) : RelW low (stD low kn b k x c).1 (dD low sls b k x c).1 ∧ (dD low sls b k x c).2 = (stD low kn b k x c).2 := by
  unfold stD dD
  rw [h.2 k]
  split
  · rename_i hk
    cases hv : doneS (atL kn k) b x c with
    | none => exact ⟨h, rfl⟩
    | some s =>
      simp only
      cases hd : (atL kn k).hd with
      | true =>
        have e : s = atL kn k := by
          unfold doneS at hv
          rw [hd] at hv
          split at hv
          · cases hv
          · simpa using hv.symm
        subst e
        rw [put_same (by simp [known, hd])]
        exact ⟨by simpa using h, by simp⟩
      | false => exact ⟨by simpa using h.put hk s, by simp⟩
  · exact ⟨h, rfl⟩
theorem RelW.cut {low : Int} {kn : List (Int × PSl)} {sls : List PSl} (h : RelW low kn sls) (hok : OkW low kn) (l2 : Int) : RelW (stC low kn l2).1 (stC low kn l2).2 (dC low sls l2).2 ∧ (dC low sls l2).1 = (stC low kn l2).1 := by
  unfold stC dC
  split
  · exact ⟨h, rfl⟩
  · rename_i hn
    refine ⟨⟨by simp [upD], fun k => ?_⟩, rfl⟩
    simp only
    rw [at_cut]
    have hk := h.2 k
    show (if inW l2 k then ((upD low sls l2 16)[(k - l2 - 1).toNat]?).getD s0 else s0) = _
    split
    · rename_i hi
      have hi := inW_iff.1 hi
      rw [if_pos hi.1]
      unfold upD
      rw [List.getElem?_map, List.getElem?_range (by omega)]
      simp only [Option.map_some, Option.getD_some]
      rw [if_pos (by omega), ← hk]
      congr 1
      omega
    · rename_i hi
      by_cases h2 : l2 < k
      · rw [if_pos h2]
        refine (hok.out ?_).symm
        cases hq : inW low k with
        | false => rfl
        | true =>
          have := inW_iff.1 hq
          exact absurd (inW_iff.2 ⟨h2, by omega⟩) hi
      · rw [if_neg h2]
theorem RelW.act {low : Int} {kn : List (Int × PSl)} {sls : List PSl} (h : RelW low kn sls) (hok : OkW low kn) (a : PWAct) : RelW (stA low kn a).1.1 (stA low kn a).1.2 (stB low sls a).1.2 ∧ (stB low sls a).1.1 = (stA low kn a).1.1 ∧ (stB low sls a).2 = (stA low kn a).2 := by
  unfold stA stB
  split
  · exact ⟨(h.vote _ _ _).1, rfl, (h.vote _ _ _).2⟩
  split
  · exact ⟨(h.prep _ _ _ _).1, rfl, (h.prep _ _ _ _).2⟩
  split
  · exact ⟨(h.done _ _ _ _).1, rfl, (h.done _ _ _ _).2⟩
  split
  · exact ⟨(h.cut hok _).1, (h.cut hok _).2, rfl⟩
  · exact ⟨h, rfl, rfl⟩
end Go.Proofs.Ytjloehkolnjnhaa
