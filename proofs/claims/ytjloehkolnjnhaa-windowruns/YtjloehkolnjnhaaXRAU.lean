/- The walks over package window: same, mayFollow; the document's fits. Written by mk18w.py. -/
import Derived.Test.YtjloehkolnjnhaaXRAS
import Derived.Test.YtjloehkolnjnhaaXRAP
import Derived.Deep.CutBlock
import Derived.Test.YtjloehkolnjnhaaXRAE
import Derived.Test.YtjloehkolnjnhaaXRAF
import Derived.Test.YtjloehkolnjnhaaXRAR
set_option linter.unusedSimpArgs false
set_option linter.unusedVariables false
namespace Go.Proofs.Ytjloehkolnjnhaa
section
open Go.RowKit Oct Kvl
def atL : List (Int × PSl) → Int → PSl
  | [], _ => s0
  | y :: l, k => if k = y.1 then y.2 else atL l k
def putL : List (Int × PSl) → Int → PSl → List (Int × PSl)
  | [], k, s => [(k, s)]
  | y :: l, k, s => if k = y.1 then (k, s) :: l else y :: putL l k s
def cutW (kn : List (Int × PSl)) (low : Int) : List (Int × PSl) := kn.filter fun y => decide (low < y.1)
def keysW (kn : List (Int × PSl)) : List Int := kn.map (·.1)
theorem at_none {k : Int} : ∀ {l : List (Int × PSl)}, fnd k (keysW l) = none → atL l k = s0
  | [], _ => rfl
  | y :: l, h => by
    unfold keysW at h
    rw [List.map_cons] at h
    unfold fnd at h
    split at h
    · cases h
    · rename_i hne
      have h : fnd k (keysW l) = none := by simpa [keysW] using h
      simp [atL, hne, at_none h]
theorem at_some {k : Int} : ∀ {l : List (Int × PSl)} {j : Nat}, fnd k (keysW l) = some j → l[j]? = some (k, atL l k)
  | [], j, h => by cases h
  | y :: l, j, h => by
    unfold keysW at h
    rw [List.map_cons] at h
    unfold fnd at h
    split at h
    · rename_i e
      cases h
      simp [atL, e]
    · rename_i hne
      cases hf : fnd k (l.map (·.1)) with
      | none => simp [hf] at h
      | some i =>
        simp [hf] at h
        subst h
        simp [atL, hne, at_some (l := l) hf]
theorem put_none {k : Int} {s : PSl} : ∀ {l : List (Int × PSl)}, fnd k (keysW l) = none → putL l k s = l ++ [(k, s)]
  | [], _ => rfl
  | y :: l, h => by
    unfold keysW at h
    rw [List.map_cons] at h
    unfold fnd at h
    split at h
    · cases h
    · rename_i hne
      have h : fnd k (keysW l) = none := by simpa [keysW] using h
      simp [putL, hne, put_none h]
theorem put_some {k : Int} {s : PSl} : ∀ {l : List (Int × PSl)} {j : Nat}, fnd k (keysW l) = some j → putL l k s = l.set j (k, s)
  | [], j, h => by cases h
  | y :: l, j, h => by
    unfold keysW at h
    rw [List.map_cons] at h
    unfold fnd at h
    split at h
    · rename_i e
      cases h
      simp [putL, e]
    · rename_i hne
      cases hf : fnd k (l.map (·.1)) with
      | none => simp [hf] at h
      | some i =>
        simp [hf] at h
        subst h
        simp [putL, hne, put_some (l := l) hf]
theorem at_put {k : Int} {s : PSl} : ∀ {l : List (Int × PSl)} (i : Int), atL (putL l k s) i = if i = k then s else atL l i
  | [], i => by simp [putL, atL]
  | y :: l, i => by
    unfold putL
    split
    · rename_i e
      by_cases hi : i = k
      · simp [atL, hi]
      · have : i ≠ y.1 := fun e2 => hi (e2.trans e.symm)
        simp [atL, hi, this]
    · rename_i hne
      by_cases hi : i = y.1
      · have : i ≠ k := fun e => hne (e.symm.trans hi)
        simp [atL, ← hi, this]
      · simp [atL, hi, at_put (l := l) i]
theorem put_mem {k : Int} {s : PSl} : ∀ {l : List (Int × PSl)}, ∀ y ∈ putL l k s, y = (k, s) ∨ y ∈ l
  | [], y, h => by simpa [putL] using h
  | x :: l, y, h => by
    unfold putL at h
    split at h
    · rcases List.mem_cons.1 h with h | h
      · exact .inl h
      · exact .inr (List.mem_cons_of_mem _ h)
    · rcases List.mem_cons.1 h with h | h
      · exact .inr (by rw [h]; exact List.mem_cons_self)
      · rcases put_mem (l := l) y h with h | h
        · exact .inl h
        · exact .inr (List.mem_cons_of_mem _ h)
theorem at_mem {k : Int} {l : List (Int × PSl)} (h : known (atL l k) = true) : (k, atL l k) ∈ l := by
  cases hf : fnd k (keysW l) with
  | none => rw [at_none hf] at h; cases h
  | some j => exact List.mem_of_getElem? (at_some hf)
theorem at_of {k : Int} {s : PSl} : ∀ {l : List (Int × PSl)}, (keysW l).Nodup → (k, s) ∈ l → atL l k = s
  | [], _, h => by cases h
  | y :: l, hn, h => by
    unfold keysW at hn
    rw [List.map_cons] at hn
    obtain ⟨h1, h2⟩ := List.nodup_cons.1 hn
    rcases List.mem_cons.1 h with h | h
    · subst h; simp [atL]
    · have : k ≠ y.1 := fun e => h1 (e ▸ List.mem_map.2 ⟨_, h, rfl⟩)
      simp [atL, this, at_of (l := l) h2 h]
theorem at_cut {low k : Int} : ∀ {l : List (Int × PSl)}, atL (cutW l low) k = if low < k then atL l k else s0
  | [] => by simp [cutW, atL]
  | y :: l => by
    have ih := at_cut (low := low) (k := k) (l := l)
    unfold cutW at ih ⊢
    by_cases hy : low < y.1
    · rw [List.filter_cons_of_pos (by simpa using hy)]
      by_cases hk : k = y.1
      · rw [if_pos (by omega)]; simp [atL, hk]
      · simp only [atL, if_neg hk]; exact ih
    · rw [List.filter_cons_of_neg (by simpa using hy), ih]
      by_cases hk : k = y.1
      · rw [if_neg (by omega), if_neg (by omega)]
      · simp only [atL, if_neg hk]
theorem put_same {k : Int} {l : List (Int × PSl)} (h : known (atL l k) = true) : putL l k (atL l k) = l := by
  cases hf : fnd k (keysW l) with
  | none => rw [at_none hf] at h; cases h
  | some j =>
    rw [put_some hf]
    refine List.ext_getElem? fun i => ?_
    rw [List.getElem?_set]
    split
    · rename_i e
      subst e
      have := at_some hf
      rw [this, if_pos (List.getElem?_eq_some_iff.1 this).1]
    · rfl
structure OkW (low : Int) (kn : List (Int × PSl)) : Prop where
  lo : 0 ≤ low ∧ low ≤ 1000000
  dup : (keysW kn).Nodup
  rng : ∀ y ∈ kn, inW low y.1 = true
  kno : ∀ y ∈ kn, known y.2 = true
  sz : ∀ y ∈ kn, szSl y.2
theorem OkW.nil (n : Int) : OkW (bndW n) [] := ⟨bndW_rng n, List.nodup_nil, fun y h => (by cases h), fun y h => (by cases h), fun y h => (by cases h)⟩
theorem OkW.at {low : Int} {kn : List (Int × PSl)} (h : OkW low kn) (k : Int) : szSl (atL kn k) := by
  cases hf : fnd k (keysW kn) with
  | none => rw [at_none hf]; exact szSl_0
  | some j => exact h.sz _ (List.mem_of_getElem? (at_some hf))
theorem OkW.out {low : Int} {kn : List (Int × PSl)} (h : OkW low kn) {k : Int} (hk : inW low k = false) : atL kn k = s0 := by
  cases hf : fnd k (keysW kn) with
  | none => exact at_none hf
  | some j =>
    have := h.rng _ (List.mem_of_getElem? (at_some hf))
    rw [hk] at this; cases this
theorem fnd_keys {k : Int} {kn : List (Int × PSl)} (h : fnd k (keysW kn) = none) : k ∉ keysW kn := fnd_none h
theorem OkW.put {low : Int} {kn : List (Int × PSl)} (h : OkW low kn) {k : Int} {s : PSl} (hk : inW low k = true) (hs : known s = true) (hz : szSl s) : OkW low (putL kn k s) := by
  refine ⟨h.lo, ?_, fun y hy => ?_, fun y hy => ?_, fun y hy => ?_⟩
  · cases hf : fnd k (keysW kn) with
    | none =>
      rw [put_none hf]
      unfold keysW
      rw [List.map_append, List.nodup_append]
      refine ⟨h.dup, by simp, ?_⟩
      intro a ha c hc
      simp at hc
      subst hc
      exact fun e => fnd_keys hf (e ▸ ha)
    | some j =>
      rw [put_some hf]
      unfold keysW
      rw [List.map_set]
      have : (kn.map (·.1)).set j k = kn.map (·.1) := by
        refine List.ext_getElem? fun i => ?_
        rw [List.getElem?_set]
        split
        · rename_i e
          subst e
          have := at_some hf
          have h2 := (List.getElem?_eq_some_iff.1 this).1
          rw [List.length_map, if_pos h2, List.getElem?_map, this]
          rfl
        · rfl
      rw [this]
      exact h.dup
  · rcases put_mem y hy with rfl | hy
    · exact hk
    · exact h.rng y hy
  · rcases put_mem y hy with rfl | hy
    · exact hs
    · exact h.kno y hy
  · rcases put_mem y hy with rfl | hy
    · exact hz
    · exact h.sz y hy
theorem OkW.cut {low l2 : Int} {kn : List (Int × PSl)} (h : OkW low kn) (h1 : low ≤ l2) (h2 : l2 ≤ 1000000) : OkW l2 (cutW kn l2) := by
  have hl := h.lo
  refine ⟨⟨by omega, h2⟩, (List.filter_sublist.map _).nodup h.dup, fun y hy => ?_, fun y hy => h.kno y (List.mem_filter.1 hy).1, fun y hy => h.sz y (List.mem_filter.1 hy).1⟩
  obtain ⟨h3, h4⟩ := List.mem_filter.1 hy
  have h5 := h.rng y h3
  simp [inW] at h4 h5 ⊢
  omega
/-- What comes of a vote, of what was prepared, of what is done: what is known then, and the error. -/
def stV (low : Int) (kn : List (Int × PSl)) (b : PBal) (k : Int) (x : PReq) : List (Int × PSl) × Int := if inW low k then (match voteS (atL kn k) b x with | none => (kn, 171) | some s => (putL kn k s, 0)) else (kn, 171)
def stP (low : Int) (kn : List (Int × PSl)) (b : PBal) (k : Int) (x : PReq) (c : List PVote) : List (Int × PSl) × Int := if inW low k then (match prepS (atL kn k) b x c with | none => (kn, 171) | some s => (putL kn k s, 0)) else (kn, 171)
def stD (low : Int) (kn : List (Int × PSl)) (b : PBal) (k : Int) (x : PReq) (c : List PVote) : List (Int × PSl) × Int := if inW low k then (match doneS (atL kn k) b x c with | none => (kn, 171) | some s => (putL kn k s, 0)) else (kn, 171)
def stC (low : Int) (kn : List (Int × PSl)) (l2 : Int) : Int × List (Int × PSl) := if l2 ≤ low ∨ 1000000 < l2 then (low, kn) else (l2, cutW kn l2)
theorem voteS_sz {s t : PSl} {b : PBal} {r : PReq} (h : voteS s b r = some t) (hs : szSl s) (hr : szQ r) : szSl t := by
  unfold voteS at h
  split at h
  · cases h
  · cases h; exact ⟨hr, hs.2⟩
theorem prepS_sz {s t : PSl} {b : PBal} {r : PReq} {c : List PVote} (h : prepS s b r c = some t) (hs : szSl s) (hr : szQ r) (hc : szL 32 szV c) : szSl t := by
  unfold prepS at h
  split at h
  · cases h
  · cases h; exact ⟨hs.1, hr, hc, hs.2.2.2⟩
theorem doneS_sz {s t : PSl} {b : PBal} {r : PReq} {c : List PVote} (h : doneS s b r c = some t) (hs : szSl s) (hr : szQ r) (hc : szL 32 szV c) : szSl t := by
  unfold doneS at h
  split at h
  · cases h
  · split at h
    · cases h; exact hs
    · cases h; exact ⟨hs.1, hs.2.1, hs.2.2.1, hr, hc⟩
theorem OkW.stV {low : Int} {kn : List (Int × PSl)} (h : OkW low kn) (b : PBal) (k : Int) {x : PReq} (hx : szQ x) : OkW low (stV low kn b k x).1 := by
  unfold Go.Proofs.Ytjloehkolnjnhaa.stV
  split
  · rename_i hk
    split
    · exact h
    · rename_i s hs
      exact h.put hk (voteS_known hs) (voteS_sz hs (h.at k) hx)
  · exact h
theorem OkW.stP {low : Int} {kn : List (Int × PSl)} (h : OkW low kn) (b : PBal) (k : Int) {x : PReq} {c : List PVote} (hx : szQ x) (hc : szL 32 szV c) : OkW low (stP low kn b k x c).1 := by
  unfold Go.Proofs.Ytjloehkolnjnhaa.stP
  split
  · rename_i hk
    split
    · exact h
    · rename_i s hs
      exact h.put hk (prepS_known hs) (prepS_sz hs (h.at k) hx hc)
  · exact h
theorem OkW.stD {low : Int} {kn : List (Int × PSl)} (h : OkW low kn) (b : PBal) (k : Int) {x : PReq} {c : List PVote} (hx : szQ x) (hc : szL 32 szV c) : OkW low (stD low kn b k x c).1 := by
  unfold Go.Proofs.Ytjloehkolnjnhaa.stD
  split
  · rename_i hk
    split
    · exact h
    · rename_i s hs
      exact h.put hk (doneS_known hs) (doneS_sz hs (h.at k) hx hc)
  · exact h
theorem OkW.stC {low : Int} {kn : List (Int × PSl)} (h : OkW low kn) (l2 : Int) : OkW (stC low kn l2).1 (stC low kn l2).2 := by
  unfold Go.Proofs.Ytjloehkolnjnhaa.stC
  split
  · exact h
  · exact h.cut (by omega) (by omega)
end
section
open Go.RowKit Oct Kvl
theorem All2.setW {α β : Type} {R : α → β → Prop} : ∀ {ps : List α} {bs : List β} {j : Nat} {a : α} {b : β}, All2 R ps bs → R a b → All2 R (ps.set j a) (bs.set j b)
  | [], [], j, a, b, _, _ => by simp [All2]
  | x :: ps, y :: bs, 0, a, b, h, hr => ⟨hr, h.2⟩
  | x :: ps, y :: bs, j + 1, a, b, h, hr => ⟨h.1, All2.setW h.2 hr⟩
  | [], _ :: _, _, _, _, h, _ => h.elim
  | _ :: _, [], _, _, _, h, _ => h.elim
/-- An entry of the map: what is known of a slot. -/
def REn (G : Nat → Prop) (w : World) (z : Int × Value) (y : Int × PSl) : Prop := z.1 = y.1 ∧ ∃ r, z.2 = .agg r.toArray ∧ RSl G w r y.2
theorem REn.mv {G G' : Nat → Prop} {w w' : World} {z : Int × Value} {y : Int × PSl} (h : REn G w z y) (hs : w.heap.size ≤ w'.heap.size) (hm : Mv G G' w w') : REn G' w' z y := by
  obtain ⟨h1, r, h2, h3⟩ := h
  exact ⟨h1, r, h2, mov_sl _ _ _ _ _ _ h3 hs hm⟩
/-- A window at block b, its map at block m. -/
structure Wnd (G : Nat → Prop) (w : World) (b m : Nat) (low : Int) (kn : List (Int × PSl)) : Prop where
  row : Row w b 69 [.int .i64 low, .map (some m)]
  ok : OkW low kn
  map : ∃ l, Mp w m l ∧ All2 (REn G w) l kn
/-- Neither block. -/
def NB (b m : Nat) : Nat → Prop := fun k => k ≠ b ∧ k ≠ m
theorem Wnd.ne {G : Nat → Prop} {w : World} {b m : Nat} {low : Int} {kn : List (Int × PSl)} (h : Wnd G w b m low kn) : b ≠ m := by
  rintro rfl
  obtain ⟨l, h1, _⟩ := h.map
  have h2 := h.row.cell (j := 0) rfl
  rw [h1.nocell 0] at h2
  cases h2
theorem Wnd.lt {G : Nat → Prop} {w : World} {b m : Nat} {low : Int} {kn : List (Int × PSl)} (h : Wnd G w b m low kn) : b < w.heap.size ∧ m < w.heap.size := by
  obtain ⟨l, h1, h2⟩ := h.map
  exact ⟨h.row.lt, h1.lt⟩
theorem Wnd.mv {G G' : Nat → Prop} {w w' : World} {b m : Nat} {low : Int} {kn : List (Int × PSl)} (h : Wnd G w b m low kn) (hs : w.heap.size ≤ w'.heap.size) (hb : w'.heap[b]? = w.heap[b]?) (hmb : w'.heap[m]? = w.heap[m]?) (hm : Mv G G' w w') : Wnd G' w' b m low kn := by
  obtain ⟨l, h1, h2⟩ := h.map
  refine ⟨hb.trans h.row, h.ok, l, ?_, h2.mono fun z y hz => hz.mv hs hm⟩
  obtain ⟨es, clock, h3, h4⟩ := h1
  exact ⟨es, clock, hmb.trans h3, h4⟩
theorem Wnd.below {G : Nat → Prop} {w w' : World} {b m : Nat} {low : Int} {kn : List (Int × PSl)} (h : Wnd G w b m low kn) (hb : Below w.heap.size w w') : Wnd G w' b m low kn :=
  h.mv hb.size (hb.block b h.lt.1) (hb.block m h.lt.2) (Mv.belowG hb)
theorem keys_ofW {G : Nat → Prop} {w : World} : ∀ {l : List (Int × Value)} {kn : List (Int × PSl)}, All2 (REn G w) l kn → l.map (·.1) = keysW kn
  | [], [], _ => rfl
  | z :: l, y :: kn, h => by
    have := keys_ofW h.2
    unfold keysW at this ⊢
    simp [h.1.1, this]
  | [], _ :: _, h => h.elim
  | _ :: _, [], h => h.elim
/-- What a look-up gives. -/
theorem Wnd.look {G : Nat → Prop} {w : World} {b m : Nat} {low : Int} {kn : List (Int × PSl)} (h : Wnd G w b m low kn) (k : Int) : ∃ r, RSl G w r (atL kn k) ∧
    ∀ u, u.heap[m]? = w.heap[m]? → (Instr.lookup 67 (.map (some m)) (.int .i64 k) false).run Try.prog u = .ok (.agg r.toArray) u := by
  obtain ⟨l, h1, h2⟩ := h.map
  have hk := keys_ofW h2
  have hmp : ∀ u : World, u.heap[m]? = w.heap[m]? → Mp u m l := fun u hu => by
    obtain ⟨es, clock, h3, h4⟩ := h1
    exact ⟨es, clock, hu.trans h3, h4⟩
  cases hf : fnd k (keysW kn) with
  | none =>
    refine ⟨zSl, by rw [at_none hf]; exact RSl.zero _ _, fun u hu => ?_⟩
    exact (hmp u hu).look_none (by rw [hk]; exact hf)
  | some j =>
    have hj := at_some hf
    obtain ⟨z, hz⟩ : ∃ z, l[j]? = some z := ⟨_, List.getElem?_eq_getElem (by rw [h2.len]; exact (List.getElem?_eq_some_iff.1 hj).1)⟩
    obtain ⟨e1, r, e2, e3⟩ := h2.get hz hj
    refine ⟨r, e3, fun u hu => ?_⟩
    obtain ⟨z1, z2⟩ := z
    simp only at e1 e2
    subst e1 e2
    exact (hmp u hu).look_some (by rw [hk]; exact hf) hz
theorem lowW_any {G : Nat → Prop} {b m : Nat} {low : Int} {kn : List (Int × PSl)} (w : World) (h : Wnd G w b m low kn) :
    Calls Try.prog 10 #[.pointer (some ⟨b, 0, none⟩)] w fun e w' => e = .returned (.int .i64 low) ∧ w' = w := by
  have c0 := h.row.cell (j := 0) rfl
  clear h
  go_enter Try.func10, Try.ntmps10
  go_wp2_with fail
  go_ret
  exact ⟨rfl, rfl⟩
theorem inR_any {b : Nat} {low : Int} (w : World) (c0 : w.cell? ⟨b, 0, none⟩ = some (.int .i64 low)) (hl : 0 ≤ low ∧ low ≤ 1000000) (k : Int) :
    Calls Try.prog 14 #[.pointer (some ⟨b, 0, none⟩), .int .i64 k] w fun e w' => e = .returned (.bool (inW low k)) ∧ w' = w := by
  have hwr : wrap64 (low + 16) = low + 16 := IntWalk.wrap64_in _ ⟨by omega, by omega⟩
  by_cases h1 : low < k
  · have d1 : decide (low < k) = true := by simpa using h1
    have hI : inW low k = decide (k ≤ low + 16) := by unfold inW; rw [d1]; rfl
    rw [hI]
    go_enter Try.func14, Try.ntmps14
    go_wp2_with fail
    go_ret
    exact ⟨rfl, rfl⟩
  · have d1 : decide (low < k) = false := by simpa using h1
    have hI : inW low k = false := by unfold inW; rw [d1]; rfl
    rw [hI]
    go_enter Try.func14, Try.ntmps14
    go_wp2_with fail
    go_ret
    exact ⟨rfl, rfl⟩
theorem inW_any {G : Nat → Prop} {b m : Nat} {low : Int} {kn : List (Int × PSl)} (w : World) (h : Wnd G w b m low kn) (k : Int) :
    Calls Try.prog 14 #[.pointer (some ⟨b, 0, none⟩), .int .i64 k] w fun e w' => e = .returned (.bool (inW low k)) ∧ w' = w :=
  inR_any w (h.row.cell (j := 0) rfl) h.ok.lo k
theorem newW_any (w : World) (n : Int) : Calls Try.prog 7 #[.int .i64 n] w fun e w' => e = .returned (.pointer (some ⟨w.heap.size + 1, 0, none⟩)) ∧ Wnd (NB (w.heap.size + 1) w.heap.size) w' (w.heap.size + 1) w.heap.size (bndW n) [] ∧ Below w.heap.size w w' := by
  have hmm := @run_makeMap Try.prog
  have hm1 := Mp.made w
  obtain ⟨w1, hw1⟩ : ∃ w1, w1 = w.alloc (.map #[] 0) := ⟨_, rfl⟩
  have hs : w1.heap.size = w.heap.size + 1 := by rw [hw1]; simp
  have hb1 : Below w.heap.size w w1 := by rw [hw1]; exact below_alloc _ _
  rw [← hw1] at hm1
  have fin : ∀ q : Int, q = bndW n → Wnd (NB (w.heap.size + 1) w.heap.size) (w1.alloc (.cells #[.int .i64 q, .map (some w.heap.size)] 69)) (w.heap.size + 1) w.heap.size (bndW n) [] ∧ Below w.heap.size w (w1.alloc (.cells #[.int .i64 q, .map (some w.heap.size)] 69)) := fun q hq => by
    subst hq
    have hr := Row.new w1 69 [.int .i64 (bndW n), .map (some w.heap.size)]
    rw [hs] at hr
    exact ⟨⟨hr, OkW.nil n, [], hm1.below (below_alloc _ _), trivial⟩, hb1.alloc hb1.size _⟩
  go_enter Try.func7, Try.ntmps7
  go_wp2_with fail
  all_goals (
    go_ret
    rw [← hw1]
    refine ⟨rfl, fin _ ?_⟩
    unfold bndW
    repeat' split
    all_goals omega)
set_option maxRecDepth 10000 in
set_option maxHeartbeats 2000000 in
theorem atW_any {G : Nat → Prop} {b m : Nat} {low : Int} {kn : List (Int × PSl)} (w : World) (h : Wnd G w b m low kn) (k : Int) :
    Calls Try.prog 12 #[.pointer (some ⟨b, 0, none⟩), .int .i64 k] w fun e w' => ∃ r, e = .returned (.agg r.toArray) ∧ RSl (From w.heap.size) w' r (atL kn k) ∧ Below w.heap.size w w' := by
  have hz := h.ok.at k
  obtain ⟨r0, hr0, hlk⟩ := h.look k
  obtain ⟨w1, hw1⟩ : ∃ w1, w1 = w.alloc (.cells zSl.toArray 33) := ⟨_, rfl⟩
  have B1 : Below w.heap.size w w1 := by rw [hw1]; exact below_alloc _ _
  have R1 : Row w1 w.heap.size 33 zSl := by rw [hw1]; exact Row.new _ _ _
  have hs : w1.heap.size = w.heap.size + 1 := by rw [hw1]; simp
  have h1 := h.below B1
  have c1 := h1.row.cell (j := 1) rfl
  have hl1 := hlk w1 (B1.block m h.lt.2)
  have hr1 : RSl Any w1 r0 (atL kn k) := mov_sl _ _ _ _ _ _ hr0 B1.size (fun k hk hlt => ⟨B1.block k hlt, trivial⟩)
  have hC := cloneSlotS_any w1 r0 (atL kn k) hr1 hz
  clear hlk
  go_enter Try.func12, Try.ntmps12
  go_upto_region 1 with fail
  unfold zSl at hw1
  rw [← hw1]
  clear hw1 h1 h hr1 hr0
  have HS := (show Hid (w1.heap.size = w.heap.size + 1) from hs)
  clear hs
  go_wp2_with (first
    | (go_at_call 34; refine hC.mono ?_; rintro e w2 ⟨r2, rfl, hr2, hb2⟩; have R2 := R1.below hb2)
    | (refine wl_store rfl _ _ _ rfl w.heap.size r2 rfl rfl _ _ R2 (by rw [hr2.len]; rfl) (by rw [hr2.len]; kernel_rfl) (one_RSl hr2) ?_; intro w3 R3 hg3))
  have hs := HS.out
  have B2 := below_and B1 (Nat.le_refl _) hb2
  have B3 : Below w.heap.size w w3 := B2.trans (grown_below hg3 B2.size (fun k hk => by cases hk; exact Nat.le_refl _))
  refine bodyPost_ret (v := .agg r2.toArray) (results_cell_row rfl _ _ w.heap.size _ _ (0, 0) _ (by rfl) R3.out Try.underlying33 rfl (by simp only [List.size_toArray, hr2.len]; kernel_rfl)) rfl ?_
  exact ⟨_, rfl, mov_sl _ _ _ _ _ _ hr2 hg3.size (Mv.from (B := w1.heap.size) hg3 (by omega) (by omega)), B3⟩
end
section
open Go.RowKit Oct Kvl Bal
set_option maxHeartbeats 2000000 in
/-- window.same. -/
theorem sameW_any (w : World) (r1 r2 : List Value) (x y : PReq) (h1 : RReq Any w r1 x) (h2 : RReq Any w r2 y) :
    Calls Try.prog 46 #[.agg r1.toArray, .agg r2.toArray] w fun e w' => e = .returned (.bool (decide (x = y))) ∧ Below w.heap.size w w' := by
  obtain ⟨o1, g1, rfl, ho1, hg1⟩ := h1
  obtain ⟨o2, g2, rfl, ho2, hg2⟩ := h2
  obtain ⟨w2, hw2⟩ : ∃ w2, w2 = (w.alloc (.cells #[.int .i64 x.1, .int .i64 x.2.1, o1, g1] 30)).alloc (.cells #[.int .i64 y.1, .int .i64 y.2.1, o2, g2] 30) := ⟨_, rfl⟩
  have ra : Row w2 w.heap.size 30 [.int .i64 x.1, .int .i64 x.2.1, o1, g1] := by rw [hw2]; exact row_alloc (Row.new w 30 _) _
  have rb : Row w2 (w.heap.size + 1) 30 [.int .i64 y.1, .int .i64 y.2.1, o2, g2] := by
    rw [hw2]
    have := Row.new (w.alloc (.cells #[.int .i64 x.1, .int .i64 x.2.1, o1, g1] 30)) 30 [.int .i64 y.1, .int .i64 y.2.1, o2, g2]
    simpa using this
  have hB : Below w.heap.size w w2 := by rw [hw2]; exact ((Below.refl _ w).alloc (Nat.le_refl _) _).alloc (by simp) _
  have a0 := ra.cell (j := 0) rfl; have a1 := ra.cell (j := 1) rfl; have a2 := ra.cell (j := 2) rfl; have a3 := ra.cell (j := 3) rfl
  have b0 := rb.cell (j := 0) rfl; have b1 := rb.cell (j := 1) rfl; have b2 := rb.cell (j := 2) rfl; have b3 := rb.cell (j := 3) rfl
  have sO := equalB_any w2 o1 o2 _ _ (ho1.mv (Mv.below hB)).1 (ho2.mv (Mv.below hB)).1
  have sG := equalB_any w2 g1 g2 _ _ (hg1.mv (Mv.below hB)).1 (hg2.mv (Mv.below hB)).1
  rw [dec_req]
  clear ra rb ho1 hg1 ho2 hg2
  generalize x.1 = xa at *; generalize x.2.1 = xb at *; generalize y.1 = ya at *; generalize y.2.1 = yb at *
  generalize decide (x.2.2.1 = y.2.2.1) = dO at *
  generalize decide (x.2.2.2 = y.2.2.2) = dG at *
  go_enter Try.func46, Try.ntmps46
  go_upto_region 1 with fail
  rw [← hw2]
  clear hw2
  cases ha : (xa == ya)
  · go_wp2_with fail
    go_ret
    exact ⟨by rw [ha]; rfl, hB⟩
  cases hb : (xb == yb)
  · go_wp2_with fail
    go_ret
    exact ⟨by rw [ha, hb]; rfl, hB⟩
  cases dO with
  | false =>
    go_wp2_with (go_at_call 55; refine sO.mono ?_; rintro e w3 ⟨rfl, rfl⟩)
    go_ret
    exact ⟨by rw [ha, hb]; rfl, hB⟩
  | true =>
    go_wp2_with fail
    refine sO.mono ?_
    rintro e w3 ⟨rfl, rfl⟩
    go_wp2_with fail
    refine sG.mono ?_
    rintro e w3 ⟨rfl, rfl⟩
    go_wp2_with fail
    go_ret
    exact ⟨by rw [ha, hb]; cases dG <;> rfl, hB⟩
set_option maxRecDepth 10000 in
set_option maxHeartbeats 2000000 in
/-- window.mayFollow. -/
theorem follow_any (w : World) (was b : PBal) (ro rr : List Value) (old r : PReq) (ho : RReq Any w ro old) (hr : RReq Any w rr r) :
    Calls Try.prog 41 #[bal was.1 was.2, .agg ro.toArray, bal b.1 b.2, .agg rr.toArray] w fun e w' => e = .returned (.bool (fitL was b old r)) ∧ Below w.heap.size w w' := by
  obtain ⟨o1, g1, rfl, ho1, hg1⟩ := ho
  obtain ⟨o2, g2, rfl, ho2, hg2⟩ := hr
  obtain ⟨w1, hw1⟩ : ∃ w1, w1 = w.alloc (.cells #[.int .i64 was.1, .int .i64 was.2] 27) := ⟨_, rfl⟩
  have e1 : w1.heap.size = w.heap.size + 1 := by rw [hw1]; simp
  have B1 : Below w.heap.size w w1 := by rw [hw1]; exact below_alloc _ _
  have R1 : Row w1 (w.heap.size + 0) 27 [.int .i64 was.1, .int .i64 was.2] := by rw [hw1]; exact Row.new _ _ _
  obtain ⟨w2, hw2⟩ : ∃ w2, w2 = w1.alloc (.cells #[.int .i64 old.1, .int .i64 old.2.1, o1, g1] 30) := ⟨_, rfl⟩
  have e2 : w2.heap.size = w.heap.size + 2 := by rw [hw2]; simp [e1]
  have B2 : Below w1.heap.size w1 w2 := by rw [hw2]; exact below_alloc _ _
  have R2 : Row w2 (w.heap.size + 1) 30 [.int .i64 old.1, .int .i64 old.2.1, o1, g1] := by rw [hw2, ← e1]; exact Row.new _ _ _
  obtain ⟨w3, hw3⟩ : ∃ w3, w3 = w2.alloc (.cells #[.int .i64 b.1, .int .i64 b.2] 27) := ⟨_, rfl⟩
  have e3 : w3.heap.size = w.heap.size + 3 := by rw [hw3]; simp [e2]
  have B3 : Below w2.heap.size w2 w3 := by rw [hw3]; exact below_alloc _ _
  have R3 : Row w3 (w.heap.size + 2) 27 [.int .i64 b.1, .int .i64 b.2] := by rw [hw3, ← e2]; exact Row.new _ _ _
  obtain ⟨w4, hw4⟩ : ∃ w4, w4 = w3.alloc (.cells #[.int .i64 r.1, .int .i64 r.2.1, o2, g2] 30) := ⟨_, rfl⟩
  have e4 : w4.heap.size = w.heap.size + 4 := by rw [hw4]; simp [e3]
  have B4 : Below w3.heap.size w3 w4 := by rw [hw4]; exact below_alloc _ _
  have R4 : Row w4 (w.heap.size + 3) 30 [.int .i64 r.1, .int .i64 r.2.1, o2, g2] := by rw [hw4, ← e3]; exact Row.new _ _ _
  have R1 := ((R1.below B2).below B3).below B4
  have R2 := (R2.below B3).below B4
  have R3 := R3.below B4
  have B : Below w.heap.size w w4 := below_and (below_and (below_and B1 (Nat.le_refl _) B2) (Nat.le_refl _) B3) (Nat.le_refl _) B4
  have hw : w4 = ((((w.alloc (.cells #[.int .i64 was.1, .int .i64 was.2] 27)).alloc (.cells #[.int .i64 old.1, .int .i64 old.2.1, o1, g1] 30)).alloc (.cells #[.int .i64 b.1, .int .i64 b.2] 27)).alloc (.cells #[.int .i64 r.1, .int .i64 r.2.1, o2, g2] 30)) := by rw [hw4, hw3, hw2, hw1]
  clear hw1 hw2 hw3 hw4 e1 e2 e3 e4 B1 B2 B3 B4
  have hC := compareB_any w4 was.1 was.2 b.1 b.2
  have hF : fitL was b old r = (decide (cmp2 was.1 was.2 b.1 b.2 < 0) || (decide (cmp2 was.1 was.2 b.1 b.2 = 0) && decide (old = r))) := rfl
  rw [hF]
  clear hF
  generalize cmp2 was.1 was.2 b.1 b.2 = c at *
  generalize hdd : decide (old = r) = dd
  go_enter Try.func41, Try.ntmps41
  go_upto_region 1 with fail
  rw [← hw]
  clear hw
  go_upto_region 2 with (first
    | (refine wl_load rfl _ _ rfl w.heap.size rfl _ _ R1 _ Try.underlying27 rfl (by kernel_rfl) ?_)
    | (refine wl_load rfl _ _ rfl (w.heap.size + 2) rfl _ _ R3 _ Try.underlying27 rfl (by kernel_rfl) ?_)
    | (go_at_call 21; refine hC.mono ?_; rintro e w5 ⟨rfl, b5⟩))
  have BB := below_and B (Nat.le_refl _) b5
  have RO := R2.below b5
  have RR := R4.below b5
  have hS := sameW_any w5 [.int .i64 old.1, .int .i64 old.2.1, o1, g1] [.int .i64 r.1, .int .i64 r.2.1, o2, g2] old r ⟨_, _, rfl, ho1.mv (Mv.below BB), hg1.mv (Mv.below BB)⟩ ⟨_, _, rfl, ho2.mv (Mv.below BB), hg2.mv (Mv.below BB)⟩
  rw [hdd] at hS
  clear hC R1 R2 R3 R4 ho1 hg1 ho2 hg2 hdd
  by_cases h1 : c < 0
  · have d1 : decide (c < 0) = true := by simpa using h1
    go_wp2_with fail
    go_ret
    exact ⟨by simp [d1], BB⟩
  · have d1 : decide (c < 0) = false := by simpa using h1
    by_cases h2 : c = 0
    · subst h2
      go_wp2_with (first
        | (refine wl_load_w (by rfl) _ _ rfl (w.heap.size + 1) rfl _ _ RO _ Try.underlying30 rfl (by kernel_rfl) ?_)
        | (refine wl_load_w (by rfl) _ _ rfl (w.heap.size + 3) rfl _ _ RR _ Try.underlying30 rfl (by kernel_rfl) ?_))
      refine hS.mono ?_
      rintro e w6 ⟨rfl, b6⟩
      go_wp2_with fail
      go_ret
      exact ⟨by simp, below_and BB (Nat.le_refl _) b6⟩
    · have d2 : (c == 0) = false := by simpa using h2
      have d3 : decide (c = 0) = false := by simpa using h2
      go_wp2_with fail
      go_ret
      exact ⟨by simp [d1, d3], BB⟩
set_option maxRecDepth 10000 in
set_option maxHeartbeats 2000000 in
/-- The document's fits. -/
theorem refFits_any (w : World) (was b : PBal) (ro rr : List Value) (old r : PReq) (ho : RReq Any w ro old) (hr : RReq Any w rr r) :
    Calls Try.prog 43 #[bal was.1 was.2, bal b.1 b.2, .agg ro.toArray, .agg rr.toArray] w fun e w' => e = .returned (.bool (fitL was b old r)) ∧ Below w.heap.size w w' := by
  obtain ⟨o1, g1, rfl, ho1, hg1⟩ := ho
  obtain ⟨o2, g2, rfl, ho2, hg2⟩ := hr
  obtain ⟨w1, hw1⟩ : ∃ w1, w1 = w.alloc (.cells #[.int .i64 was.1, .int .i64 was.2] 27) := ⟨_, rfl⟩
  have e1 : w1.heap.size = w.heap.size + 1 := by rw [hw1]; simp
  have B1 : Below w.heap.size w w1 := by rw [hw1]; exact below_alloc _ _
  have R1 : Row w1 (w.heap.size + 0) 27 [.int .i64 was.1, .int .i64 was.2] := by rw [hw1]; exact Row.new _ _ _
  obtain ⟨w2, hw2⟩ : ∃ w2, w2 = w1.alloc (.cells #[.int .i64 b.1, .int .i64 b.2] 27) := ⟨_, rfl⟩
  have e2 : w2.heap.size = w.heap.size + 2 := by rw [hw2]; simp [e1]
  have B2 : Below w1.heap.size w1 w2 := by rw [hw2]; exact below_alloc _ _
  have R2 : Row w2 (w.heap.size + 1) 27 [.int .i64 b.1, .int .i64 b.2] := by rw [hw2, ← e1]; exact Row.new _ _ _
  obtain ⟨w3, hw3⟩ : ∃ w3, w3 = w2.alloc (.cells #[.int .i64 old.1, .int .i64 old.2.1, o1, g1] 30) := ⟨_, rfl⟩
  have e3 : w3.heap.size = w.heap.size + 3 := by rw [hw3]; simp [e2]
  have B3 : Below w2.heap.size w2 w3 := by rw [hw3]; exact below_alloc _ _
  have R3 : Row w3 (w.heap.size + 2) 30 [.int .i64 old.1, .int .i64 old.2.1, o1, g1] := by rw [hw3, ← e2]; exact Row.new _ _ _
  obtain ⟨w4, hw4⟩ : ∃ w4, w4 = w3.alloc (.cells #[.int .i64 r.1, .int .i64 r.2.1, o2, g2] 30) := ⟨_, rfl⟩
  have e4 : w4.heap.size = w.heap.size + 4 := by rw [hw4]; simp [e3]
  have B4 : Below w3.heap.size w3 w4 := by rw [hw4]; exact below_alloc _ _
  have R4 : Row w4 (w.heap.size + 3) 30 [.int .i64 r.1, .int .i64 r.2.1, o2, g2] := by rw [hw4, ← e3]; exact Row.new _ _ _
  have R1 := ((R1.below B2).below B3).below B4
  have R2 := (R2.below B3).below B4
  have R3 := R3.below B4
  have B : Below w.heap.size w w4 := below_and (below_and (below_and B1 (Nat.le_refl _) B2) (Nat.le_refl _) B3) (Nat.le_refl _) B4
  have hw : w4 = ((((w.alloc (.cells #[.int .i64 was.1, .int .i64 was.2] 27)).alloc (.cells #[.int .i64 b.1, .int .i64 b.2] 27)).alloc (.cells #[.int .i64 old.1, .int .i64 old.2.1, o1, g1] 30)).alloc (.cells #[.int .i64 r.1, .int .i64 r.2.1, o2, g2] 30)) := by rw [hw4, hw3, hw2, hw1]
  clear hw1 hw2 hw3 hw4 e1 e2 e3 e4 B1 B2 B3 B4
  have hC := refCompareB_any w4 was.1 was.2 b.1 b.2
  have hF : fitL was b old r = (decide (cmp2 was.1 was.2 b.1 b.2 < 0) || (decide (cmp2 was.1 was.2 b.1 b.2 = 0) && decide (old = r))) := rfl
  rw [hF]
  clear hF
  generalize cmp2 was.1 was.2 b.1 b.2 = c at *
  generalize hdd : decide (old = r) = dd
  go_enter Try.func43, Try.ntmps43
  go_upto_region 1 with fail
  rw [← hw]
  clear hw
  go_upto_region 2 with (first
    | (refine wl_load rfl _ _ rfl w.heap.size rfl _ _ R1 _ Try.underlying27 rfl (by kernel_rfl) ?_)
    | (refine wl_load rfl _ _ rfl (w.heap.size + 1) rfl _ _ R2 _ Try.underlying27 rfl (by kernel_rfl) ?_)
    | (go_at_call 52; refine hC.mono ?_; rintro e w5 ⟨rfl, b5⟩))
  have BB := below_and B (Nat.le_refl _) b5
  have RO := R3.below b5
  have RR := R4.below b5
  have hS := sameReq_any w5 [.int .i64 old.1, .int .i64 old.2.1, o1, g1] [.int .i64 r.1, .int .i64 r.2.1, o2, g2] old r ⟨_, _, rfl, ho1.mv (Mv.below BB), hg1.mv (Mv.below BB)⟩ ⟨_, _, rfl, ho2.mv (Mv.below BB), hg2.mv (Mv.below BB)⟩
  rw [hdd] at hS
  clear hC R1 R2 R3 R4 ho1 hg1 ho2 hg2 hdd
  by_cases h1 : c < 0
  · have d1 : decide (c < 0) = true := by simpa using h1
    go_wp2_with fail
    go_ret
    exact ⟨by simp [d1], BB⟩
  · have d1 : decide (c < 0) = false := by simpa using h1
    by_cases h2 : c = 0
    · subst h2
      go_wp2_with (first
        | (refine wl_load_w (by rfl) _ _ rfl (w.heap.size + 2) rfl _ _ RO _ Try.underlying30 rfl (by kernel_rfl) ?_)
        | (refine wl_load_w (by rfl) _ _ rfl (w.heap.size + 3) rfl _ _ RR _ Try.underlying30 rfl (by kernel_rfl) ?_))
      refine hS.mono ?_
      rintro e w6 ⟨rfl, b6⟩
      go_wp2_with fail
      go_ret
      exact ⟨by simp, below_and BB (Nat.le_refl _) b6⟩
    · have d2 : (c == 0) = false := by simpa using h2
      have d3 : decide (c = 0) = false := by simpa using h2
      go_wp2_with fail
      go_ret
      exact ⟨by simp [d1, d3], BB⟩
end
end Go.Proofs.Ytjloehkolnjnhaa
