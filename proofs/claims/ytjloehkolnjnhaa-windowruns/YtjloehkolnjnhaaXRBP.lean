/- WindowRuns, plain: both windows side by side. -/
import Derived.Test.YtjloehkolnjnhaaXRBJ
import Derived.Test.YtjloehkolnjnhaaXRBK
set_option linter.unusedVariables false
namespace Go.Proofs.Ytjloehkolnjnhaa
open Go.RowKit Oct Kvl Bal
/-- The document's window knows of each slot what the program's knows. -/
def RelW (low : Int) (kn : List (Int × PSl)) (sls : List PSl) : Prop := sls.length = 16 ∧ ∀ k, atD low sls k = atL kn k
theorem at_setD {low : Int} {sls : List PSl} {k : Int} {s : PSl} (hl : sls.length = 16) (hk : inW low k = true) (i : Int) : atD low (setD low sls k s) i = if i = k then s else atD low sls i := by
  have hk' := inW_iff.1 hk
  unfold atD setD
  by_cases e : i = k
  · subst e
    rw [if_pos hk, if_pos rfl, List.getElem?_set_self (by omega)]
    rfl
  · rw [if_neg e]
    split
    · rename_i hi
      have hi' := inW_iff.1 hi
      rw [List.getElem?_set_ne (by omega)]
    · rfl
theorem RelW.new (n : Int) : RelW (bndW n) [] (List.replicate 16 s0) := by
  refine ⟨by simp, fun k => ?_⟩
  unfold atD atL
  split
  · rw [List.getElem?_replicate]
    split <;> rfl
  · rfl
theorem RelW.put {low : Int} {kn : List (Int × PSl)} {sls : List PSl} (h : RelW low kn sls) {k : Int} (hk : inW low k = true) (s : PSl) : RelW low (putL kn k s) (setD low sls k s) :=
  ⟨by unfold setD; rw [List.length_set]; exact h.1, fun i => by rw [at_setD h.1 hk, at_put, h.2]⟩
theorem RelW.vote {low : Int} {kn : List (Int × PSl)} {sls : List PSl} (h : RelW low kn sls) (b : PBal) (k : Int) (x : PReq) : RelW low (stV low kn b k x).1 (dV low sls b k x).1 ∧ (dV low sls b k x).2 = (stV low kn b k x).2 := by
  unfold stV dV
  rw [h.2 k]
  split
  · rename_i hk
    cases voteS (atL kn k) b x with
    | none => exact ⟨h, rfl⟩
    | some s => exact ⟨h.put hk s, rfl⟩
  · exact ⟨h, rfl⟩
theorem RelW.prep {low : Int} {kn : List (Int × PSl)} {sls : List PSl} (h : RelW low kn sls) (b : PBal) (k : Int) (x : PReq) (c : List PVote) : RelW low (stP low kn b k x c).1 (dP low sls b k x c).1 ∧ (dP low sls b k x c).2 = (stP low kn b k x c).2 := by
  unfold stP dP
  rw [h.2 k]
  split
  · rename_i hk
    cases prepS (atL kn k) b x c with
    | none => exact ⟨h, rfl⟩
    | some s => exact ⟨h.put hk s, rfl⟩
  · exact ⟨h, rfl⟩
theorem RelW.done {low : Int} {kn : List (Int × PSl)} {sls : List PSl} (h : RelW low kn sls) (b : PBal) (k : Int) (x : PReq) (c : List PVote) : RelW low (stD low kn b k x c).1 (dD low sls b k x c).1 ∧ (dD low sls b k x c).2 = (stD low kn b k x c).2 := by
  unfold stD dD
  rw [h.2 k]
  split
  · rename_i hk
    cases hv : doneS (atL kn k) b x c with
    | none => exact ⟨h, rfl⟩
    | some s =>
      simp only
      cases hd : (atL kn k).hd with
      | true =>
        have e : s = atL kn k := by
          unfold doneS at hv
          rw [hd] at hv
          split at hv
          · cases hv
          · simpa using hv.symm
        subst e
        rw [put_same (by simp [known, hd])]
        exact ⟨by simpa using h, by simp⟩
      | false => exact ⟨by simpa using h.put hk s, by simp⟩
  · exact ⟨h, rfl⟩
theorem RelW.cut {low : Int} {kn : List (Int × PSl)} {sls : List PSl} (h : RelW low kn sls) (hok : OkW low kn) (l2 : Int) : RelW (stC low kn l2).1 (stC low kn l2).2 (dC low sls l2).2 ∧ (dC low sls l2).1 = (stC low kn l2).1 := by
  unfold stC dC
  split
  · exact ⟨h, rfl⟩
  · rename_i hn
    refine ⟨⟨by simp [upD], fun k => ?_⟩, rfl⟩
    simp only
    rw [at_cut]
    have hk := h.2 k
    show (if inW l2 k then ((upD low sls l2 16)[(k - l2 - 1).toNat]?).getD s0 else s0) = _
    split
    · rename_i hi
      have hi := inW_iff.1 hi
      rw [if_pos hi.1]
      unfold upD
      rw [List.getElem?_map, List.getElem?_range (by omega)]
      simp only [Option.map_some, Option.getD_some]
      rw [if_pos (by omega), ← hk]
      congr 1
      omega
    · rename_i hi
      by_cases h2 : l2 < k
      · rw [if_pos h2]
        refine (hok.out ?_).symm
        cases hq : inW low k with
        | false => rfl
        | true =>
          have := inW_iff.1 hq
          exact absurd (inW_iff.2 ⟨h2, by omega⟩) hi
      · rw [if_neg h2]
theorem RelW.act {low : Int} {kn : List (Int × PSl)} {sls : List PSl} (h : RelW low kn sls) (hok : OkW low kn) (a : PWAct) : RelW (stA low kn a).1.1 (stA low kn a).1.2 (stB low sls a).1.2 ∧ (stB low sls a).1.1 = (stA low kn a).1.1 ∧ (stB low sls a).2 = (stA low kn a).2 := by
  unfold stA stB
  split
  · exact ⟨(h.vote _ _ _).1, rfl, (h.vote _ _ _).2⟩
  split
  · exact ⟨(h.prep _ _ _ _).1, rfl, (h.prep _ _ _ _).2⟩
  split
  · exact ⟨(h.done _ _ _ _).1, rfl, (h.done _ _ _ _).2⟩
  split
  · exact ⟨(h.cut hok _).1, (h.cut hok _).2, rfl⟩
  · exact ⟨h, rfl, rfl⟩
/-- What the document lists. -/
def slD (sls : List PSl) (i : Nat) : PSl := (sls[i]?).getD s0
def listD (low : Int) (sls : List PSl) (q : Nat) : List Int := ((List.range q).filter fun i : Nat => known (slD sls i)).map fun i : Nat => low + 1 + (i : Int)
def prepsD (low : Int) (sls : List PSl) (q : Nat) : List PPrep := ((List.range q).filter fun i : Nat => (slD sls i).hp).map fun i : Nat => (low + 1 + (i : Int), (slD sls i).pred, (slD sls i).prep, (slD sls i).cert)
theorem listD_step (low : Int) (sls : List PSl) (q : Nat) : listD low sls (q + 1) = if known (slD sls q) then listD low sls q ++ [low + 1 + (q : Int)] else listD low sls q := by
  unfold listD
  rw [List.range_succ, List.filter_append]
  split
  · rename_i h
    simp [h]
  · rename_i h
    simp [h]
theorem prepsD_step (low : Int) (sls : List PSl) (q : Nat) : prepsD low sls (q + 1) = if (slD sls q).hp then prepsD low sls q ++ [(low + 1 + (q : Int), (slD sls q).pred, (slD sls q).prep, (slD sls q).cert)] else prepsD low sls q := by
  unfold prepsD
  rw [List.range_succ, List.filter_append]
  split
  · rename_i h
    simp [h]
  · rename_i h
    simp [h]
theorem slD_at {low : Int} {kn : List (Int × PSl)} {sls : List PSl} (h : RelW low kn sls) {i : Nat} (hi : i < 16) : slD sls i = atL kn (low + 1 + (i : Int)) := by
  rw [← h.2]
  unfold atD slD
  rw [if_pos (inW_iff.2 ⟨by omega, by omega⟩), show (low + 1 + (i : Int) - low - 1).toNat = i by omega]
theorem mem_listD {low : Int} {kn : List (Int × PSl)} {sls : List PSl} (h : RelW low kn sls) (hok : OkW low kn) (x : Int) : x ∈ listD low sls 16 ↔ x ∈ keysW kn := by
  constructor
  · intro hx
    obtain ⟨i, hi, rfl⟩ := List.mem_map.1 hx
    obtain ⟨h1, h2⟩ := List.mem_filter.1 hi
    have h1 := List.mem_range.1 h1
    rw [slD_at h h1] at h2
    exact List.mem_map.2 ⟨_, at_mem h2, rfl⟩
  · intro hx
    obtain ⟨y, hy, rfl⟩ := List.mem_map.1 hx
    have h1 := hok.rng y hy
    have h1 := inW_iff.1 h1
    have h2 := hok.kno y hy
    have h3 : atL kn y.1 = y.2 := at_of hok.dup hy
    refine List.mem_map.2 ⟨(y.1 - low - 1).toNat, List.mem_filter.2 ⟨List.mem_range.2 (by omega), ?_⟩, by omega⟩
    rw [slD_at h (by omega), show low + 1 + (((y.1 - low - 1).toNat : Nat) : Int) = y.1 by omega, h3]
    exact h2
theorem listD_srt (low : Int) (sls : List PSl) (q : Nat) : (listD low sls q).Pairwise (· < ·) := by
  unfold listD
  refine List.Pairwise.map _ (R := fun a b : Nat => a < b) (fun a b hab => by omega) ?_
  exact List.Pairwise.filter _ List.pairwise_lt_range
theorem srt_eq : ∀ {l m : List Int}, l.Pairwise (· ≤ ·) → m.Pairwise (· < ·) → l.Perm m → l = m
  | [], m, _, _, hp => (List.nil_perm.1 hp).symm
  | x :: l, [], _, _, hp => by simpa using hp.length_eq
  | x :: l, y :: m, h1, h2, hp => by
    have h1' := List.pairwise_cons.1 h1
    have h2' := List.pairwise_cons.1 h2
    have hx : x ∈ y :: m := hp.mem_iff.1 (by simp)
    have hy : y ∈ x :: l := hp.mem_iff.2 (by simp)
    have e : x = y := by
      rcases List.mem_cons.1 hx with e | hx
      · exact e
      · rcases List.mem_cons.1 hy with e | hy
        · exact e.symm
        · have a1 := h1'.1 y hy
          have a2 := h2'.1 x hx
          omega
    subst e
    rw [srt_eq h1'.2 h2'.2 (List.Perm.cons_inv hp)]
theorem slots_eq {low : Int} {kn : List (Int × PSl)} {sls : List PSl} (h : RelW low kn sls) (hok : OkW low kn) {ss : List Int} (hp : ss.Perm (keysW kn)) : ss.mergeSort (fun x y => decide (x ≤ y)) = listD low sls 16 := by
  have hs : (ss.mergeSort (fun x y => decide (x ≤ y))).Pairwise (· ≤ ·) := by
    have := List.pairwise_mergeSort (le := fun x y : Int => decide (x ≤ y)) (fun a b c h1 h2 => by simp at h1 h2 ⊢; omega) (fun a b => by simp; omega) ss
    exact this.imp fun h => by simpa using h
  refine srt_eq hs (listD_srt _ _ _) ((List.mergeSort_perm _ _).trans (hp.trans ?_))
  have hd : (listD low sls 16).Nodup := (listD_srt low sls 16).imp fun h => by omega
  exact (List.perm_ext_iff_of_nodup hok.dup hd).2 fun a => (mem_listD h hok a).symm
/-- What the program lists as prepared. -/
def prepsP (kn : List (Int × PSl)) (ks : List Int) : List PPrep := (ks.filter fun k => (atL kn k).hp).map fun k => (k, (atL kn k).pred, (atL kn k).prep, (atL kn k).cert)
theorem prepsP_step (kn : List (Int × PSl)) (ks : List Int) (k : Int) : prepsP kn (ks ++ [k]) = if (atL kn k).hp then prepsP kn ks ++ [(k, (atL kn k).pred, (atL kn k).prep, (atL kn k).cert)] else prepsP kn ks := by
  unfold prepsP
  rw [List.filter_append]
  split
  · rename_i h
    simp [h]
  · rename_i h
    simp [h]
theorem preps_eq {low : Int} {kn : List (Int × PSl)} {sls : List PSl} (h : RelW low kn sls) : ∀ q, q ≤ 16 → prepsP kn (listD low sls q) = prepsD low sls q
  | 0, _ => rfl
  | q + 1, hq => by
    have ih := preps_eq h q (by omega)
    rw [listD_step, prepsD_step]
    have e := slD_at h (i := q) (by omega)
    by_cases hp : (slD sls q).hp = true
    · have hk : known (slD sls q) = true := by simp [known, hp]
      rw [if_pos hk, if_pos hp, prepsP_step, ← e, if_pos hp, ih]
    · rw [if_neg hp]
      by_cases hk : known (slD sls q) = true
      · rw [if_pos hk, prepsP_step, ← e, if_neg hp, ih]
      · rw [if_neg hk, ih]
end Go.Proofs.Ytjloehkolnjnhaa
