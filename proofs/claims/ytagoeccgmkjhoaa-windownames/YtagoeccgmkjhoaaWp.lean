/- Windows, plain: what is known, by slots. -/
import Derived.Test.YtagoeccgmkjhoaaWn1
import Derived.Test.YtagoeccgmkjhoaaIm1
set_option linter.unusedVariables false
namespace Go.Proofs.Ytagoeccgmkjhoaa
open Go.RowKit Oct Kvl

def atL : List (Int × PSl) → Int → PSl
  | [], _ => s0
  | y :: l, k => if k = y.1 then y.2 else atL l k
def putL : List (Int × PSl) → Int → PSl → List (Int × PSl)
  | [], k, s => [(k, s)]
  | y :: l, k, s => if k = y.1 then (k, s) :: l else y :: putL l k s
def cutW (kn : List (Int × PSl)) (low : Int) : List (Int × PSl) := kn.filter fun y => decide (low < y.1)
def keysW (kn : List (Int × PSl)) : List Int := kn.map (·.1)
theorem at_none {k : Int} : ∀ {l : List (Int × PSl)}, fnd k (keysW l) = none → atL l k = s0
  | [], _ => rfl
  | y :: l, h => by
    unfold keysW at h
    rw [List.map_cons] at h
    unfold fnd at h
    split at h
    · cases h
    · rename_i hne
      have h : fnd k (keysW l) = none := by simpa [keysW] using h
      simp [atL, hne, at_none h]
theorem at_some {k : Int} : ∀ {l : List (Int × PSl)} {j : Nat}, fnd k (keysW l) = some j → l[j]? = some (k, atL l k)
  | [], j, h => by cases h
  | y :: l, j, h => by
    unfold keysW at h
    rw [List.map_cons] at h
    unfold fnd at h
    split at h
    · rename_i e
      cases h
      simp [atL, e]
    · rename_i hne
      cases hf : fnd k (l.map (·.1)) with
      | none => simp [hf] at h
      | some i =>
        simp [hf] at h
        subst h
        simp [atL, hne, at_some (l := l) hf]
theorem put_none {k : Int} {s : PSl} : ∀ {l : List (Int × PSl)}, fnd k (keysW l) = none → putL l k s = l ++ [(k, s)]
  | [], _ => rfl
  | y :: l, h => by
    unfold keysW at h
    rw [List.map_cons] at h
    unfold fnd at h
    split at h
    · cases h
    · rename_i hne
      have h : fnd k (keysW l) = none := by simpa [keysW] using h
      simp [putL, hne, put_none h]
theorem put_some {k : Int} {s : PSl} : ∀ {l : List (Int × PSl)} {j : Nat}, fnd k (keysW l) = some j → putL l k s = l.set j (k, s)
  | [], j, h => by cases h
  | y :: l, j, h => by
    unfold keysW at h
    rw [List.map_cons] at h
    unfold fnd at h
    split at h
    · rename_i e
      cases h
      simp [putL, e]
    · rename_i hne
      cases hf : fnd k (l.map (·.1)) with
      | none => simp [hf] at h
      | some i =>
        simp [hf] at h
        subst h
        simp [putL, hne, put_some (l := l) hf]
theorem at_put {k : Int} {s : PSl} : ∀ {l : List (Int × PSl)} (i : Int), atL (putL l k s) i = if i = k then s else atL l i
  | [], i => by simp [putL, atL]
  | y :: l, i => by
    unfold putL
    split
    · rename_i e
      by_cases hi : i = k
      · simp [atL, hi]
      · have : i ≠ y.1 := fun e2 => hi (e2.trans e.symm)
        simp [atL, hi, this]
    · rename_i hne
      by_cases hi : i = y.1
      · have : i ≠ k := fun e => hne (e.symm.trans hi)
        simp [atL, ← hi, this]
      · simp [atL, hi, at_put (l := l) i]
theorem put_mem {k : Int} {s : PSl} : ∀ {l : List (Int × PSl)}, ∀ y ∈ putL l k s, y = (k, s) ∨ y ∈ l
  | [], y, h => by simpa [putL] using h
  | x :: l, y, h => by
    unfold putL at h
    split at h
    · rcases List.mem_cons.1 h with h | h
      · exact .inl h
      · exact .inr (List.mem_cons_of_mem _ h)
    · rcases List.mem_cons.1 h with h | h
      · exact .inr (by rw [h]; exact List.mem_cons_self)
      · rcases put_mem (l := l) y h with h | h
        · exact .inl h
        · exact .inr (List.mem_cons_of_mem _ h)
theorem at_mem {k : Int} {l : List (Int × PSl)} (h : known (atL l k) = true) : (k, atL l k) ∈ l := by
  cases hf : fnd k (keysW l) with
  | none => rw [at_none hf] at h; cases h
  | some j => exact List.mem_of_getElem? (at_some hf)
theorem at_of {k : Int} {s : PSl} : ∀ {l : List (Int × PSl)}, (keysW l).Nodup → (k, s) ∈ l → atL l k = s
  | [], _, h => by cases h
  | y :: l, hn, h => by
    unfold keysW at hn
    rw [List.map_cons] at hn
    obtain ⟨h1, h2⟩ := List.nodup_cons.1 hn
    rcases List.mem_cons.1 h with h | h
    · subst h; simp [atL]
    · have : k ≠ y.1 := fun e => h1 (e ▸ List.mem_map.2 ⟨_, h, rfl⟩)
      simp [atL, this, at_of (l := l) h2 h]
theorem at_cut {low k : Int} : ∀ {l : List (Int × PSl)}, atL (cutW l low) k = if low < k then atL l k else s0
  | [] => by simp [cutW, atL]
  | y :: l => by
    have ih := at_cut (low := low) (k := k) (l := l)
    unfold cutW at ih ⊢
    by_cases hy : low < y.1
    · rw [List.filter_cons_of_pos (by simpa using hy)]
      by_cases hk : k = y.1
      · rw [if_pos (by omega)]; simp [atL, hk]
      · simp only [atL, if_neg hk]; exact ih
    · rw [List.filter_cons_of_neg (by simpa using hy), ih]
      by_cases hk : k = y.1
      · rw [if_neg (by omega), if_neg (by omega)]
      · simp only [atL, if_neg hk]
theorem put_same {k : Int} {l : List (Int × PSl)} (h : known (atL l k) = true) : putL l k (atL l k) = l := by
  cases hf : fnd k (keysW l) with
  | none => rw [at_none hf] at h; cases h
  | some j =>
    rw [put_some hf]
    refine List.ext_getElem? fun i => ?_
    rw [List.getElem?_set]
    split
    · rename_i e
      subst e
      have := at_some hf
      rw [this, if_pos (List.getElem?_eq_some_iff.1 this).1]
    · rfl

structure OkW (low : Int) (kn : List (Int × PSl)) : Prop where
  lo : 0 ≤ low ∧ low ≤ 1000000
  dup : (keysW kn).Nodup
  rng : ∀ y ∈ kn, inW low y.1 = true
  kno : ∀ y ∈ kn, known y.2 = true
  sz : ∀ y ∈ kn, szSl y.2
theorem OkW.nil (n : Int) : OkW (bndW n) [] := ⟨bndW_rng n, List.nodup_nil, fun y h => (by cases h), fun y h => (by cases h), fun y h => (by cases h)⟩
theorem OkW.at {low : Int} {kn : List (Int × PSl)} (h : OkW low kn) (k : Int) : szSl (atL kn k) := by
  cases hf : fnd k (keysW kn) with
  | none => rw [at_none hf]; exact szSl_0
  | some j => exact h.sz _ (List.mem_of_getElem? (at_some hf))
theorem OkW.out {low : Int} {kn : List (Int × PSl)} (h : OkW low kn) {k : Int} (hk : inW low k = false) : atL kn k = s0 := by
  cases hf : fnd k (keysW kn) with
  | none => exact at_none hf
  | some j =>
    have := h.rng _ (List.mem_of_getElem? (at_some hf))
    rw [hk] at this; cases this
theorem fnd_keys {k : Int} {kn : List (Int × PSl)} (h : fnd k (keysW kn) = none) : k ∉ keysW kn := fnd_none h
theorem OkW.put {low : Int} {kn : List (Int × PSl)} (h : OkW low kn) {k : Int} {s : PSl} (hk : inW low k = true) (hs : known s = true) (hz : szSl s) : OkW low (putL kn k s) := by
  refine ⟨h.lo, ?_, fun y hy => ?_, fun y hy => ?_, fun y hy => ?_⟩
  · cases hf : fnd k (keysW kn) with
    | none =>
      rw [put_none hf]
      unfold keysW
      rw [List.map_append, List.nodup_append]
      refine ⟨h.dup, by simp, ?_⟩
      intro a ha c hc
      simp at hc
      subst hc
      exact fun e => fnd_keys hf (e ▸ ha)
    | some j =>
      rw [put_some hf]
      unfold keysW
      rw [List.map_set]
      have : (kn.map (·.1)).set j k = kn.map (·.1) := by
        refine List.ext_getElem? fun i => ?_
        rw [List.getElem?_set]
        split
        · rename_i e
          subst e
          have := at_some hf
          have h2 := (List.getElem?_eq_some_iff.1 this).1
          rw [List.length_map, if_pos h2, List.getElem?_map, this]
          rfl
        · rfl
      rw [this]
      exact h.dup
  · rcases put_mem y hy with rfl | hy
    · exact hk
    · exact h.rng y hy
  · rcases put_mem y hy with rfl | hy
    · exact hs
    · exact h.kno y hy
  · rcases put_mem y hy with rfl | hy
    · exact hz
    · exact h.sz y hy
theorem OkW.cut {low l2 : Int} {kn : List (Int × PSl)} (h : OkW low kn) (h1 : low ≤ l2) (h2 : l2 ≤ 1000000) : OkW l2 (cutW kn l2) := by
  have hl := h.lo
  refine ⟨⟨by omega, h2⟩, (List.filter_sublist.map _).nodup h.dup, fun y hy => ?_, fun y hy => h.kno y (List.mem_filter.1 hy).1, fun y hy => h.sz y (List.mem_filter.1 hy).1⟩
  obtain ⟨h3, h4⟩ := List.mem_filter.1 hy
  have h5 := h.rng y h3
  simp [inW] at h4 h5 ⊢
  omega

/-- What comes of a vote, of what was prepared, of what is done: what is known then, and the error. -/
def stV (low : Int) (kn : List (Int × PSl)) (b : PBal) (k : Int) (x : PReq) : List (Int × PSl) × Int := if inW low k then (match voteS (atL kn k) b x with | none => (kn, 171) | some s => (putL kn k s, 0)) else (kn, 171)
def stP (low : Int) (kn : List (Int × PSl)) (b : PBal) (k : Int) (x : PReq) (c : List PVote) : List (Int × PSl) × Int := if inW low k then (match prepS (atL kn k) b x c with | none => (kn, 171) | some s => (putL kn k s, 0)) else (kn, 171)
def stD (low : Int) (kn : List (Int × PSl)) (b : PBal) (k : Int) (x : PReq) (c : List PVote) : List (Int × PSl) × Int := if inW low k then (match doneS (atL kn k) b x c with | none => (kn, 171) | some s => (putL kn k s, 0)) else (kn, 171)
def stC (low : Int) (kn : List (Int × PSl)) (l2 : Int) : Int × List (Int × PSl) := if l2 ≤ low ∨ 1000000 < l2 then (low, kn) else (l2, cutW kn l2)
theorem voteS_sz {s t : PSl} {b : PBal} {r : PReq} (h : voteS s b r = some t) (hs : szSl s) (hr : szQ r) : szSl t := by
  unfold voteS at h
  split at h
  · cases h
  · cases h; exact ⟨hr, hs.2⟩
theorem prepS_sz {s t : PSl} {b : PBal} {r : PReq} {c : List PVote} (h : prepS s b r c = some t) (hs : szSl s) (hr : szQ r) (hc : szL 32 szV c) : szSl t := by
  unfold prepS at h
  split at h
  · cases h
  · cases h; exact ⟨hs.1, hr, hc, hs.2.2.2⟩
theorem doneS_sz {s t : PSl} {b : PBal} {r : PReq} {c : List PVote} (h : doneS s b r c = some t) (hs : szSl s) (hr : szQ r) (hc : szL 32 szV c) : szSl t := by
  unfold doneS at h
  split at h
  · cases h
  · split at h
    · cases h; exact hs
    · cases h; exact ⟨hs.1, hs.2.1, hs.2.2.1, hr, hc⟩
theorem OkW.stV {low : Int} {kn : List (Int × PSl)} (h : OkW low kn) (b : PBal) (k : Int) {x : PReq} (hx : szQ x) : OkW low (stV low kn b k x).1 := by
  unfold Go.Proofs.Ytagoeccgmkjhoaa.stV
  split
  · rename_i hk
    split
    · exact h
    · rename_i s hs
      exact h.put hk (voteS_known hs) (voteS_sz hs (h.at k) hx)
  · exact h
theorem OkW.stP {low : Int} {kn : List (Int × PSl)} (h : OkW low kn) (b : PBal) (k : Int) {x : PReq} {c : List PVote} (hx : szQ x) (hc : szL 32 szV c) : OkW low (stP low kn b k x c).1 := by
  unfold Go.Proofs.Ytagoeccgmkjhoaa.stP
  split
  · rename_i hk
    split
    · exact h
    · rename_i s hs
      exact h.put hk (prepS_known hs) (prepS_sz hs (h.at k) hx hc)
  · exact h
theorem OkW.stD {low : Int} {kn : List (Int × PSl)} (h : OkW low kn) (b : PBal) (k : Int) {x : PReq} {c : List PVote} (hx : szQ x) (hc : szL 32 szV c) : OkW low (stD low kn b k x c).1 := by
  unfold Go.Proofs.Ytagoeccgmkjhoaa.stD
  split
  · rename_i hk
    split
    · exact h
    · rename_i s hs
      exact h.put hk (doneS_known hs) (doneS_sz hs (h.at k) hx hc)
  · exact h
theorem OkW.stC {low : Int} {kn : List (Int × PSl)} (h : OkW low kn) (l2 : Int) : OkW (stC low kn l2).1 (stC low kn l2).2 := by
  unfold Go.Proofs.Ytagoeccgmkjhoaa.stC
  split
  · exact h
  · exact h.cut (by omega) (by omega)
end Go.Proofs.Ytagoeccgmkjhoaa
