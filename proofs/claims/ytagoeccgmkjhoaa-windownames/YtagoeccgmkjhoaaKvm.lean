/- Names with values, plain: the place of a name; the document's way of putting; what the laws ask. -/
import Derived.Test.YtagoeccgmkjhoaaKvl
set_option linter.unusedVariables false
set_option linter.unusedSimpArgs false
namespace Go.Proofs.Ytagoeccgmkjhoaa
namespace Kvl

/-- Where the entry of a name is, or would be. -/
def pos (n : List Int) : List PEnt → Nat
  | [] => 0
  | x :: r => if cmpL x.1 n < 0 then pos n r + 1 else 0
theorem pos_le {n : List Int} : ∀ {l : List PEnt}, pos n l ≤ l.length
  | [] => Nat.le_refl _
  | x :: r => by
    have := pos_le (n := n) (l := r)
    unfold pos
    split <;> simp [this]
theorem pos_below {n : List Int} : ∀ {l : List PEnt} {i : Nat} {e : PEnt}, i < pos n l → l[i]? = some e → cmpL e.1 n < 0
  | [], i, e, h, _ => by simp [pos] at h
  | x :: r, i, e, h, he => by
    unfold pos at h
    split at h
    · rename_i hx
      cases i with
      | zero => simp at he; subst he; exact hx
      | succ i => exact pos_below (l := r) (i := i) (by omega) (by simpa using he)
    · omega
theorem pos_at {n : List Int} : ∀ {l : List PEnt} {e : PEnt}, l[pos n l]? = some e → ¬ cmpL e.1 n < 0
  | [], e, h => by simp at h
  | x :: r, e, h => by
    unfold pos at h
    split at h
    · exact pos_at (l := r) (by simpa using h)
    · rename_i hx; simp at h; subst h; exact hx
/-- The place is known by what lies ahead of it and at it. -/
theorem pos_of {n : List Int} : ∀ {l : List PEnt} {i : Nat}, i ≤ l.length → (∀ k e, k < i → l[k]? = some e → cmpL e.1 n < 0) → (∀ e, l[i]? = some e → ¬ cmpL e.1 n < 0) → pos n l = i
  | [], i, h, _, _ => by simp at h; subst h; rfl
  | x :: r, 0, _, _, h => by
    unfold pos
    rw [if_neg (h x rfl)]
  | x :: r, i + 1, hl, h1, h2 => by
    unfold pos
    rw [if_pos (h1 0 x (by omega) rfl), pos_of (l := r) (by simpa using hl) (fun k e hk he => h1 (k + 1) e (by omega) (by simpa using he)) (fun e he => h2 e (by simpa using he))]
/-- In order: what lies behind lies higher. -/
theorem up_get : ∀ {l : List PEnt} {m : List Int} {i j : Nat} {x y : PEnt}, up m l → l[i]? = some x → l[j]? = some y → i < j → cmpL x.1 y.1 < 0
  | [], _, i, j, x, y, _, h, _, _ => by simp at h
  | z :: r, m, 0, j + 1, x, y, h, hx, hy, _ => by
    simp at hx
    subst hx
    exact up_low h.2 y (List.mem_of_getElem? (by simpa using hy))
  | z :: r, m, i + 1, j + 1, x, y, h, hx, hy, hij => up_get h.2 (by simpa using hx) (by simpa using hy) (by omega)
  | z :: r, m, i, 0, x, y, h, hx, hy, hij => by omega

theorem get_pos {n : List Int} : ∀ {l : List PEnt}, getR n l = match l[pos n l]? with | none => none | some e => if e.1 = n then some e.2 else none
  | [] => rfl
  | x :: r => by
    have ih := get_pos (n := n) (l := r)
    unfold getR pos
    by_cases h1 : cmpL x.1 n < 0
    · rw [if_pos h1, if_pos h1, ih]; simp
    · rw [if_neg h1, if_neg h1]; simp
theorem put_new {n v : List Int} : ∀ {l : List PEnt}, getR n l = none → putR n v l = l.take (pos n l) ++ (n, v) :: l.drop (pos n l)
  | [], _ => rfl
  | x :: r, h => by
    unfold getR at h
    unfold putR pos
    by_cases h1 : cmpL x.1 n < 0
    · rw [if_pos h1] at h
      rw [if_pos h1, if_pos h1, put_new h]; simp
    · rw [if_neg h1] at h
      by_cases h2 : x.1 = n
      · rw [if_pos h2] at h; simp at h
      · rw [if_neg h1, if_neg h2, if_neg h1]; simp
theorem put_old {n v u : List Int} : ∀ {l : List PEnt}, getR n l = some u → putR n v l = l.set (pos n l) (n, v)
  | [], h => by simp [getR] at h
  | x :: r, h => by
    unfold getR at h
    unfold putR pos
    by_cases h1 : cmpL x.1 n < 0
    · rw [if_pos h1] at h
      rw [if_pos h1, if_pos h1, put_old h]; simp
    · rw [if_neg h1] at h
      by_cases h2 : x.1 = n
      · rw [if_neg h1, if_pos h2, if_neg h1]; simp
      · rw [if_neg h2] at h; simp at h
theorem del_old {n u : List Int} : ∀ {l : List PEnt}, getR n l = some u → delR n l = l.take (pos n l) ++ l.drop (pos n l + 1)
  | [], h => by simp [getR] at h
  | x :: r, h => by
    unfold getR at h
    unfold delR pos
    by_cases h1 : cmpL x.1 n < 0
    · rw [if_pos h1] at h
      rw [if_pos h1, if_pos h1, del_old h]; simp
    · rw [if_neg h1] at h
      by_cases h2 : x.1 = n
      · rw [if_neg h1, if_pos h2, if_neg h1]; simp
      · rw [if_neg h2] at h; simp at h
theorem get_some {n u : List Int} {l : List PEnt} (h : getR n l = some u) : l[pos n l]? = some (n, u) := by
  rw [get_pos] at h
  cases he : l[pos n l]? with
  | none => rw [he] at h; simp at h
  | some e =>
    rw [he] at h
    simp only at h
    split at h
    · rename_i h1; injection h with h2; rw [← h1, ← h2]
    · simp at h
theorem get_no {n : List Int} {l : List PEnt} (h : getR n l = none) {e : PEnt} (he : l[pos n l]? = some e) : e.1 ≠ n := by
  rw [get_pos, he] at h
  simp only at h
  intro e1
  rw [if_pos e1] at h
  simp at h

/-! The document's way. -/
/-- The first place of a name. -/
def fst (n : List Int) : List PEnt → Option Nat
  | [] => none
  | x :: r => if x.1 = n then some 0 else (fst n r).map (· + 1)
theorem fst_pos {n : List Int} : ∀ {l : List PEnt} {m : List Int}, up m l → fst n l = if getR n l = none then none else some (pos n l)
  | [], _, _ => rfl
  | x :: r, m, h => by
    have ih := fst_pos (n := n) h.2
    unfold fst getR pos
    by_cases h2 : x.1 = n
    · subst h2; simp [cmp_self]
    · rw [if_neg h2]
      by_cases h1 : cmpL x.1 n < 0
      · rw [if_pos h1, if_pos h1, ih]; split <;> rfl
      · rw [if_neg h1, if_neg h2, if_neg h1, ih, get_none h.2 h1]; simp
/-- First is where nothing ahead is so. -/
theorem fst_of {n : List Int} : ∀ {l : List PEnt} {i : Nat} {e : PEnt}, (∀ (k : Nat) (x : PEnt), k < i → l[k]? = some x → x.1 ≠ n) → l[i]? = some e → e.1 = n → fst n l = some i
  | [], i, e, _, h, _ => by simp at h
  | x :: r, 0, e, _, h, hn => by simp at h; subst h; simp [fst, hn]
  | x :: r, i + 1, e, h1, h, hn => by
    unfold fst
    rw [if_neg (h1 0 x (by omega) rfl), fst_of (l := r) (i := i) (fun k y hk hy => h1 (k + 1) y (by omega) (by simpa using hy)) (by simpa using h) hn]; rfl
theorem fst_none {n : List Int} : ∀ {l : List PEnt}, (∀ (k : Nat) (x : PEnt), l[k]? = some x → x.1 ≠ n) → fst n l = none
  | [], _ => rfl
  | x :: r, h => by
    unfold fst
    rw [if_neg (h 0 x rfl), fst_none (l := r) (fun k y hy => h (k + 1) y (by simpa using hy))]; rfl
def fI (n : List Int) (l : List PEnt) : Int := match fst n l with | none => -1 | some i => i
theorem fI_none {n : List Int} {l : List PEnt} (h : fst n l = none) : fI n l = -1 := by unfold fI; rw [h]
theorem fI_some {n : List Int} {l : List PEnt} {i : Nat} (h : fst n l = some i) : fI n l = i := by unfold fI; rw [h]

/-- The loop of the document's With: whether it is put already, and the rest. -/
def wiF (n v : List Int) : Bool → List PEnt → List PEnt
  | put, [] => if put then [] else [(n, v)]
  | put, x :: r => (if put = false ∧ cmpL n x.1 < 0 then [(n, v)] else []) ++ (x.1, if x.1 = n then v else x.2) :: wiF n v (put || decide (cmpL n x.1 < 0) || decide (x.1 = n)) r
theorem wi_done {n v : List Int} : ∀ {l : List PEnt}, (∀ e ∈ l, e.1 ≠ n) → wiF n v true l = l
  | [], _ => rfl
  | x :: r, h => by
    unfold wiF
    rw [if_neg (by simp), if_neg (h x (by simp)), Bool.true_or, Bool.true_or, wi_done (fun e he => h e (by simp [he]))]; rfl
theorem wi_put {n v : List Int} : ∀ {l : List PEnt} {m : List Int}, up m l → wiF n v false l = putR n v l
  | [], _, _ => rfl
  | x :: r, m, h => by
    unfold wiF putR
    have hneg := cmp_neg n x.1
    by_cases h1 : cmpL x.1 n < 0
    · rw [if_neg (by simp; omega), if_neg (cmp_lt_ne h1), if_pos h1, decide_eq_false (by omega : ¬ cmpL n x.1 < 0), decide_eq_false (cmp_lt_ne h1)]
      rw [Bool.or_false, Bool.or_false, wi_put h.2]; rfl
    · by_cases h2 : x.1 = n
      · have hs := cmp_self n
        rw [if_neg (by rw [h2, hs]; simp), if_pos h2, if_neg h1, if_pos h2, decide_eq_true h2, Bool.or_true, wi_done, h2]
        · rfl
        · exact fun e he => fun e1 => cmp_lt_ne (up_low h.2 e he) (by rw [e1, h2])
      · have h3 := cmp_gt h1 h2
        rw [if_pos ⟨rfl, h3⟩, if_neg h2, if_neg h1, if_neg h2, decide_eq_true h3, Bool.or_true, Bool.true_or, wi_done]
        · rfl
        · exact fun e he => fun e1 => cmp_lt_ne (cmp_trans h3 (up_low h.2 e he)) e1.symm

/-! What the laws ask. -/
theorem wok_get {n : List Int} (h1 : 1 ≤ n.length) (h2 : n.length ≤ 16) : wok (1, n, [], [], 0) := by
  exact ⟨(by decide : (1 : Int) ≤ 1 ∧ (1 : Int) ≤ 8), ⟨h1, h2⟩, Nat.zero_le _, Nat.zero_le _, (by decide : lN 1 ≤ 0), (by decide : 0 ≤ mN 1)⟩
theorem do_get {l : List PEnt} {n : List Int} (h : rgtL l) (h1 : 1 ≤ n.length) (h2 : n.length ≤ 16) : (doL l (1, n, [], [], 0)).2 = match getR n l with | none => (1, []) | some v => (0, v) := by
  rw [do_yes h (wok_get h1 h2) (by show (1 : Int) ≤ 4; decide)]
  unfold doR
  cases getR n l <;> rfl
/-- What was put is got. -/
theorem put_got {l : List PEnt} {o : POp} (h : rgtL l) (hc : (doL l o).2.1 = 0) (hk : o.1 = 2) : (doL (doL l o).1 (1, o.2.1, [], [], 0)).2 = (0, o.2.2.1) := by
  by_cases hw : rgtL l ∧ wok o ∧ o.1 ≤ 4
  · have hr := doL_rgt (o := o) h
    have hn := hw.2.1.2.1
    rw [do_get hr hn.1 hn.2]
    have e : (doL l o).1 = putR o.2.1 o.2.2.1 l := by
      rw [do_yes hw.1 hw.2.1 hw.2.2] at hc ⊢
      unfold doR at hc ⊢
      cases hg : getR o.2.1 l with
      | none =>
        rw [hg] at hc
        simp only [hk, if_true] at hc ⊢
        split at hc
        · simp at hc
        · rename_i h1; rw [if_neg h1]
      | some v => simp only [hk]; rfl
    rw [e, get_put h.2.1, if_pos rfl]
  · rw [do_bad hw] at hc; simp at hc
theorem cas_got {l : List PEnt} {o : POp} (h : rgtL l) (hc : (doL l o).2.1 = 0) (hk : o.1 = 3) : (doL (doL l o).1 (1, o.2.1, [], [], 0)).2 = (0, o.2.2.2.1) := by
  by_cases hw : rgtL l ∧ wok o ∧ o.1 ≤ 4
  · have hr := doL_rgt (o := o) h
    have hn := hw.2.1.2.1
    rw [do_get hr hn.1 hn.2]
    have e : (doL l o).1 = putR o.2.1 o.2.2.2.1 l := by
      rw [do_yes hw.1 hw.2.1 hw.2.2] at hc ⊢
      unfold doR at hc ⊢
      cases hg : getR o.2.1 l with
      | none => rw [hg] at hc; simp [hk] at hc
      | some v =>
        rw [hg] at hc
        simp only [hk] at hc ⊢
        by_cases hv : v = o.2.2.1
        · simp [hv]
        · simp [hv] at hc
    rw [e, get_put h.2.1, if_pos rfl]
  · rw [do_bad hw] at hc; simp at hc
theorem del_got {l : List PEnt} {o : POp} (h : rgtL l) (hc : (doL l o).2.1 ≠ 5) (hk : o.1 = 4) : (doL (doL l o).1 (1, o.2.1, [], [], 0)).2.1 = 1 := by
  by_cases hw : rgtL l ∧ wok o ∧ o.1 ≤ 4
  · have hr := doL_rgt (o := o) h
    have hn := hw.2.1.2.1
    rw [do_get hr hn.1 hn.2]
    have e : getR o.2.1 (doL l o).1 = none := by
      rw [do_yes hw.1 hw.2.1 hw.2.2]
      unfold doR
      cases hg : getR o.2.1 l with
      | none => simp [hk, hg]
      | some v =>
        simp only [hk]
        show getR o.2.1 (delR o.2.1 l) = none
        rw [get_del h.2.1, if_pos rfl]
    rw [e]
  · exact absurd (by rw [do_bad hw]) hc

/-- What comes of an operation, by what is got alone, where there is room. -/
theorem doL_res {l m : List PEnt} {o : POp} (hl : rgtL l) (hm : rgtL m) (h1 : l.length < 64) (h2 : m.length < 64) (h : getR o.2.1 l = getR o.2.1 m) : (doL l o).2 = (doL m o).2 := by
  by_cases hw : wok o ∧ o.1 ≤ 4
  · rw [do_yes hl hw.1 hw.2, do_yes hm hw.1 hw.2]
    unfold doR
    rw [← h]
    cases hg : getR o.2.1 l with
    | none =>
      simp only [if_neg (show ¬ 64 ≤ l.length by omega), if_neg (show ¬ 64 ≤ m.length by omega)]
      split <;> rfl
    | some v =>
      simp only
      repeat' split
      all_goals rfl
  · rw [do_bad fun x => hw x.2, do_bad fun x => hw x.2]
theorem doL_own {l m : List PEnt} {o : POp} (hl : rgtL l) (hm : rgtL m) (h1 : l.length < 64) (h2 : m.length < 64) (h : getR o.2.1 l = getR o.2.1 m) : getR o.2.1 (doL l o).1 = getR o.2.1 (doL m o).1 := by
  by_cases hw : wok o ∧ o.1 ≤ 4
  · rw [do_yes hl hw.1 hw.2, do_yes hm hw.1 hw.2]
    unfold doR
    rw [← h]
    cases hg : getR o.2.1 l with
    | none =>
      simp only [if_neg (show ¬ 64 ≤ l.length by omega), if_neg (show ¬ 64 ≤ m.length by omega)]
      split
      · rw [get_put hl.2.1, get_put hm.2.1, if_pos rfl, if_pos rfl]
      · exact h
    | some v =>
      simp only
      split
      · exact h
      · split
        · rw [get_put hl.2.1, get_put hm.2.1, if_pos rfl, if_pos rfl]
        · split
          · split
            · rw [get_put hl.2.1, get_put hm.2.1, if_pos rfl, if_pos rfl]
            · exact h
          · rw [get_del hl.2.1, get_del hm.2.1, if_pos rfl, if_pos rfl]
  · rw [do_bad fun x => hw x.2, do_bad fun x => hw x.2]; exact h
theorem doL_len {l : List PEnt} {o : POp} : (doL l o).1.length ≤ l.length + 1 := by
  have hp : ∀ v, (putR o.2.1 v l).length ≤ l.length + 1 := fun v => by rw [put_len]; split <;> omega
  have hd := del_len (n := o.2.1) (l := l)
  unfold doL
  split
  · unfold doR
    cases getR o.2.1 l with
    | none =>
      simp only
      repeat' split
      all_goals first | exact hp _ | simp
    | some v =>
      simp only
      repeat' split
      all_goals first | exact hp _ | simp
      omega
  · simp
/-- Operations on unlike names don't touch one another. -/
theorem do_comm {l : List PEnt} {a b : POp} (h : rgtL l) (hl : l.length ≤ 62) (hn : a.2.1 ≠ b.2.1) :
    (doL (doL l a).1 b).1 = (doL (doL l b).1 a).1 ∧ (doL l a).2 = (doL (doL l b).1 a).2 ∧ (doL (doL l a).1 b).2 = (doL l b).2 := by
  have ra := doL_rgt (o := a) h
  have rb := doL_rgt (o := b) h
  have la := doL_len (l := l) (o := a)
  have lb := doL_len (l := l) (o := b)
  have ga := doL_other (o := b) (k := a.2.1) h hn
  have gb := doL_other (o := a) (k := b.2.1) h (fun e => hn e.symm)
  refine ⟨get_ext (doL_rgt ra).2.1 (doL_rgt rb).2.1 fun k => ?_, doL_res h rb (by omega) (by omega) ga.symm, doL_res ra h (by omega) (by omega) gb⟩
  by_cases k1 : k = a.2.1
  · subst k1
    rw [doL_other ra hn]
    exact doL_own h rb (by omega) (by omega) ga.symm
  · by_cases k2 : k = b.2.1
    · subst k2
      rw [doL_other rb k1]
      exact doL_own ra h (by omega) (by omega) gb
    · rw [doL_other ra k2, doL_other rb k1, doL_other h k1, doL_other h k2]
end Kvl
end Go.Proofs.Ytagoeccgmkjhoaa
