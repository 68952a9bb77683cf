/- The turned order, plain; nothing of any program. -/
import Derived.Test.YtagmcbiallgdaaaOrd
namespace Go.Proofs.Ytagmcbiallgdaaa
namespace Bal

/-- What stays as it follows one another: all but the accused, and but the accuser (unless it is first: p0). -/
def keep (p0 : Bool) (a b x : Int) : Bool := decide (x ≠ b) && (decide (x ≠ a) || p0)
def kp (p0 : Bool) (a b : Int) (l : List Int) : List Int := l.filter (keep p0 a b)
/-- a put at place k. -/
def ins (k : Nat) (a : Int) (l : List Int) : List Int := l.take k ++ a :: l.drop k
/-- The turned order. -/
def trn (o : List Int) (a b : Int) : List Int :=
  if plc o a = 0 then kp true a b o ++ [b] else ins ((quo o.length).toNat - 1) a (kp false a b o) ++ [b]
/-- Can it be turned so? -/
def can (o : List Int) (a b : Int) : Bool := decide (isO o o.length = true ∧ plc o a ≠ -1 ∧ plc o b = plc o a + 1 ∧ plc o b < quo o.length)

theorem kp_app (p0 : Bool) (a b : Int) (l m : List Int) : kp p0 a b (l ++ m) = kp p0 a b l ++ kp p0 a b m := by simp [kp]
theorem kp_self {p0 : Bool} {a b : Int} {l : List Int} (ha : a ∉ l) (hb : b ∉ l) : kp p0 a b l = l := by
  unfold kp
  rw [List.filter_eq_self]
  intro x hx
  have h1 : x ≠ b := fun e => hb (e ▸ hx)
  have h2 : x ≠ a := fun e => ha (e ▸ hx)
  simp [keep, h1, h2]
theorem kp_snoc (p0 : Bool) (a b : Int) (o : List Int) (k : Nat) (x : Int) (h : o[k]? = some x) : kp p0 a b (o.take (k + 1)) = kp p0 a b (o.take k) ++ (if keep p0 a b x = true then [x] else []) := by
  have e : o.take (k + 1) = o.take k ++ [x] := by rw [List.take_add_one, h]; rfl
  rw [e, kp_app]
  congr 1
  unfold kp
  simp only [List.filter_cons, List.filter_nil]
theorem ins_len (k : Nat) (a : Int) (l : List Int) : (ins k a l).length = l.length + 1 := by
  simp [ins]; omega
theorem ins_app {k : Nat} (a : Int) {l : List Int} (m : List Int) (h : k ≤ l.length) : ins k a (l ++ m) = ins k a l ++ m := by
  unfold ins
  rw [List.take_append_of_le_length h, List.drop_append_of_le_length h]
  simp
theorem ins_end (a : Int) (l : List Int) {k : Nat} (h : l.length = k) : ins k a l = l ++ [a] := by
  subst h
  simp [ins]
theorem ins_mem (k : Nat) (a : Int) (l : List Int) : a ∈ ins k a l := by simp [ins]
theorem ins_perm (k : Nat) (a : Int) (l : List Int) : (ins k a l).Perm (a :: l) := by
  unfold ins
  have h : (l.take k ++ a :: l.drop k).Perm (a :: (l.take k ++ l.drop k)) := List.perm_middle
  rwa [List.take_append_drop] at h
theorem ins_filter (k : Nat) (a : Int) (l : List Int) (f : Int → Bool) (h : f a = false) : (ins k a l).filter f = l.filter f := by
  unfold ins
  rw [List.filter_append, List.filter_cons, h]
  simp only [Bool.false_eq_true, if_false]
  rw [← List.filter_append, List.take_append_drop]

/-- An order whose accused stands behind the accuser, taken apart. -/
theorem apart {o : List Int} {n : Int} (h : isO o n = true) {a b : Int} {p : Nat} (ha : plc o a = p) (hb : plc o b = (p : Int) + 1) :
    ∃ l1 l2, o = l1 ++ a :: b :: l2 ∧ l1.length = p ∧ a ∉ l1 ∧ b ∉ l1 ∧ a ∉ l2 ∧ b ∉ l2 ∧ a ≠ b := by
  obtain ⟨k, h1, h2, h3⟩ := plc_get (l := o) (r := a) (by omega)
  obtain ⟨m, h4, h5, h6⟩ := plc_get (l := o) (r := b) (by omega)
  obtain rfl : k = p := by omega
  obtain rfl : m = k + 1 := by omega
  have hlt : k + 1 < o.length := by
    rcases Nat.lt_or_ge (k + 1) o.length with h | h
    · exact h
    · rw [List.getElem?_eq_none h] at h5; cases h5
  have e : o = o.take k ++ a :: b :: o.drop (k + 2) := by
    have e1 : o.drop k = a :: o.drop (k + 1) := by
      rw [List.drop_eq_getElem_cons (by omega)]
      rw [List.getElem?_eq_getElem (by omega)] at h2
      rw [Option.some.inj h2]
    have e2 : o.drop (k + 1) = b :: o.drop (k + 2) := by
      rw [List.drop_eq_getElem_cons (by omega)]
      rw [List.getElem?_eq_getElem (by omega)] at h5
      rw [Option.some.inj h5]
    rw [← e2, ← e1, List.take_append_drop]
  have hn := isO_nodup h
  rw [e] at hn
  rw [List.nodup_append, List.nodup_cons, List.nodup_cons] at hn
  obtain ⟨_, ⟨g1, g2, _⟩, g4⟩ := hn
  simp only [List.mem_cons, not_or] at g1
  refine ⟨o.take k, o.drop (k + 2), e, by rw [List.length_take]; omega, fun hm => g4 a hm a (by simp) rfl, fun hm => g4 b hm b (by simp) rfl, g1.2, g2, g1.1⟩

theorem kp_no {l1 l2 : List Int} {a b : Int} (ha : a ∉ l1) (hb : b ∉ l1) (ha2 : a ∉ l2) (hb2 : b ∉ l2) : kp false a b (l1 ++ a :: b :: l2) = l1 ++ l2 := by
  rw [kp_app, kp_self ha hb]
  congr 1
  have e : kp false a b (a :: b :: l2) = kp false a b l2 := by
    unfold kp
    rw [List.filter_cons, List.filter_cons]
    simp [keep]
  rw [e, kp_self ha2 hb2]
theorem kp_yes {l2 : List Int} {a b : Int} (hab : a ≠ b) (ha2 : a ∉ l2) (hb2 : b ∉ l2) : kp true a b (a :: b :: l2) = a :: l2 := by
  have e : kp true a b (a :: b :: l2) = a :: kp true a b l2 := by
    unfold kp
    rw [List.filter_cons, List.filter_cons]
    simp [keep, hab]
  rw [e, kp_self ha2 hb2]

theorem get_iff {o : List Int} (hn : o.Nodup) {k p : Nat} {x a : Int} (hk : o[k]? = some x) (hp : o[p]? = some a) : x = a ↔ k = p := by
  have hlt : k < o.length := by
    rcases Nat.lt_or_ge k o.length with h | h
    · exact h
    · rw [List.getElem?_eq_none h] at hk; cases hk
  constructor
  · rintro rfl
    exact (List.getElem?_inj hlt hn).1 (hk.trans hp.symm)
  · rintro rfl
    rw [hk] at hp
    exact Option.some.inj hp

/-- What is known of a chain that can be turned. -/
theorem can_iff {o : List Int} {a b : Int} : can o a b = true ↔ isO o o.length = true ∧ plc o a ≠ -1 ∧ plc o b = plc o a + 1 ∧ plc o b < quo o.length := by simp [can]
structure Can (o : List Int) (a b : Int) (p f : Nat) : Prop where
  ord : isO o o.length = true
  nod : o.Nodup
  pa : plc o a = p
  pb : plc o b = (p : Int) + 1
  qq : quo o.length = 2 * (f : Int) + 1
  f1 : 1 ≤ f
  f5 : f ≤ 5
  len : o.length = 3 * f + 1
  lt : p + 1 < 2 * f + 1
theorem can_get {o : List Int} {a b : Int} (h : can o a b = true) : ∃ p f, Can o a b p f := by
  obtain ⟨h1, h2, h3, h4⟩ := can_iff.1 h
  have hr := (isO_iff.1 h1).1
  have e1 := quo_yes hr
  have e2 := fau_three hr
  have e3 := fau_ge hr
  have e4 := (fau_five (n := (o.length : Int))).2
  have hlo := plc_lo o a
  obtain ⟨f, hf⟩ : ∃ f : Nat, fau o.length = f := ⟨(fau o.length).toNat, by omega⟩
  exact ⟨(plc o a).toNat, f, h1, isO_nodup h1, by omega, by omega, by omega, by omega, by omega, by omega, by omega⟩

section
variable {o : List Int} {a b : Int} {p f : Nat}
theorem Can.quoN (c : Can o a b p f) : (quo o.length).toNat - 1 = 2 * f := by
  have := c.qq
  omega
theorem Can.split (c : Can o a b p f) : ∃ l1 l2, o = l1 ++ a :: b :: l2 ∧ l1.length = p ∧ a ∉ l1 ∧ b ∉ l1 ∧ a ∉ l2 ∧ b ∉ l2 ∧ a ≠ b := apart c.ord c.pa c.pb
theorem Can.ga (c : Can o a b p f) : o[p]? = some a := by
  obtain ⟨k, h1, h2, _⟩ := plc_get (l := o) (r := a) (by have := c.pa; omega)
  have := c.pa
  obtain rfl : k = p := by omega
  exact h2
theorem Can.gb (c : Can o a b p f) : o[p + 1]? = some b := by
  obtain ⟨k, h1, h2, _⟩ := plc_get (l := o) (r := b) (by have := c.pb; omega)
  have := c.pb
  obtain rfl : k = p + 1 := by omega
  exact h2
theorem Can.trn0 (c : Can o a b p f) (h : p = 0) : trn o a b = kp true a b o ++ [b] := by
  rw [trn, if_pos (by rw [c.pa]; omega)]
theorem Can.trn1 (c : Can o a b p f) (h : 0 < p) : trn o a b = ins (2 * f) a (kp false a b o) ++ [b] := by
  rw [trn, if_neg (by rw [c.pa]; omega), c.quoN]
theorem Can.len1 (c : Can o a b p f) : (kp false a b o).length = 3 * f - 1 := by
  obtain ⟨l1, l2, e, hl, h1, h2, h3, h4, h5⟩ := c.split
  have hlen := c.len
  rw [e, kp_no h1 h2 h3 h4]
  rw [e] at hlen
  simp at hlen ⊢
  omega
theorem Can.len0 (c : Can o a b p f) (h : p = 0) : (kp true a b o).length = 3 * f := by
  obtain ⟨l1, l2, e, hl, h1, h2, h3, h4, h5⟩ := c.split
  have hlen := c.len
  obtain rfl : l1 = [] := List.eq_nil_of_length_eq_zero (by omega)
  rw [List.nil_append] at e
  rw [e, kp_yes h5 h3 h4]
  rw [e] at hlen
  simp at hlen ⊢
  omega
theorem Can.no_a (_ : Can o a b p f) : a ∉ kp false a b o := by
  intro h
  have := (List.mem_filter.1 h).2
  simp [keep] at this
theorem Can.perm (c : Can o a b p f) : (trn o a b).Perm o := by
  obtain ⟨l1, l2, e, hl, h1, h2, h3, h4, h5⟩ := c.split
  by_cases hp : p = 0
  · rw [c.trn0 hp]
    obtain rfl : l1 = [] := List.eq_nil_of_length_eq_zero (by omega)
    rw [List.nil_append] at e
    rw [e, kp_yes h5 h3 h4]
    refine List.Perm.cons a ?_
    exact List.perm_append_singleton b l2
  · rw [c.trn1 (by omega)]
    refine (List.perm_append_singleton b _).trans ?_
    refine (List.Perm.cons b (ins_perm _ _ _)).trans ?_
    rw [e, kp_no h1 h2 h3 h4]
    refine (List.Perm.swap a b _).trans ?_
    have g : (l1 ++ a :: b :: l2).Perm (a :: (l1 ++ b :: l2)) := List.perm_middle
    have g2 : (l1 ++ b :: l2).Perm (b :: (l1 ++ l2)) := List.perm_middle
    exact (g.trans (List.Perm.cons a g2)).symm
theorem Can.trn_len (c : Can o a b p f) : (trn o a b).length = o.length := c.perm.length_eq
theorem Can.trn_ord (c : Can o a b p f) : isO (trn o a b) o.length = true := isO_of_perm c.ord c.perm
theorem Can.last (c : Can o a b p f) : (trn o a b)[o.length - 1]? = some b := by
  have hl := c.trn_len
  have h3 := c.len
  by_cases hp : p = 0
  · rw [c.trn0 hp] at hl ⊢
    simp only [List.length_append, List.length_cons, List.length_nil] at hl
    rw [List.getElem?_append_right (by omega)]
    rw [show o.length - 1 - (kp true a b o).length = 0 by omega]
    rfl
  · rw [c.trn1 (by omega)] at hl ⊢
    simp only [List.length_append, List.length_cons, List.length_nil] at hl
    rw [List.getElem?_append_right (by omega)]
    rw [show o.length - 1 - (ins (2 * f) a (kp false a b o)).length = 0 by omega]
    rfl
theorem Can.head (c : Can o a b p f) : (trn o a b)[0]? = o[0]? := by
  obtain ⟨l1, l2, e, hl, h1, h2, h3, h4, h5⟩ := c.split
  by_cases hp : p = 0
  · rw [c.trn0 hp]
    obtain rfl : l1 = [] := List.eq_nil_of_length_eq_zero (by omega)
    rw [List.nil_append] at e
    rw [e, kp_yes h5 h3 h4]
    rfl
  · rw [c.trn1 (by omega)]
    rw [e, kp_no h1 h2 h3 h4]
    have hf := c.f1
    cases l1 with
    | nil => simp at hl; omega
    | cons x l1 =>
      unfold ins
      rw [show 2 * f = (2 * f - 1) + 1 by omega]
      simp
theorem Can.place (c : Can o a b p f) (hp : 0 < p) : plc (trn o a b) a = (2 * f : Nat) := by
  have hl := c.len1
  have hna := c.no_a
  have hf := c.f1
  rw [c.trn1 hp]
  have hk : ((kp false a b o).take (2 * f)).length = 2 * f := by rw [List.length_take]; omega
  refine plc_hit ?_ ?_
  · unfold ins
    rw [List.append_assoc, List.getElem?_append_right (by omega), hk]
    simp
  · unfold ins
    rw [List.append_assoc, List.take_append_of_le_length (by omega), List.take_take]
    intro h
    exact hna (List.mem_of_mem_take h)
/-- All others. -/
def oth (a b x : Int) : Bool := decide (x ≠ a) && decide (x ≠ b)
theorem Can.others (c : Can o a b p f) : (trn o a b).filter (oth a b) = o.filter (oth a b) := by
  obtain ⟨l1, l2, e, hl, h1, h2, h3, h4, h5⟩ := c.split
  have fa : oth a b a = false := by simp [oth]
  have fb : oth a b b = false := by simp [oth]
  by_cases hp : p = 0
  · rw [c.trn0 hp]
    obtain rfl : l1 = [] := List.eq_nil_of_length_eq_zero (by omega)
    rw [List.nil_append] at e
    rw [e, kp_yes h5 h3 h4]
    simp [fa, fb]
  · rw [c.trn1 (by omega), List.filter_append, ins_filter _ _ _ _ fa, e, kp_no h1 h2 h3 h4]
    simp [fa, fb]
/-- The last ones go up, the accused behind them. -/
theorem Can.tail (c : Can o a b p f) {U T : List Int} (hU : o = U ++ T) (hT : T.length < f) : ∃ U', trn o a b = U' ++ (T ++ [b]) := by
  have hlen := c.len
  have hlt := c.lt
  have hUl : U.length + T.length = o.length := by rw [hU]; simp
  have ga := c.ga
  have gb := c.gb
  have hn := c.nod
  have hd : ∀ {j : Nat} {x : Int}, o[j]? = some x → j < U.length → x ∉ T := by
    intro j x hx hj hm
    rw [hU] at hx hn
    rw [List.getElem?_append_left hj] at hx
    exact (List.nodup_append.1 hn).2.2 x (List.mem_of_getElem? hx) x hm rfl
  have ha : a ∉ T := hd ga (by omega)
  have hb : b ∉ T := hd gb (by omega)
  by_cases hp : p = 0
  · rw [c.trn0 hp, hU, kp_app, kp_self ha hb]
    exact ⟨_, List.append_assoc _ _ _⟩
  · have hl1 := c.len1
    rw [c.trn1 (by omega)]
    rw [hU, kp_app, kp_self ha hb] at hl1 ⊢
    simp only [List.length_append] at hl1
    rw [ins_app _ _ (by omega)]
    exact ⟨_, List.append_assoc _ _ _⟩
end

/-- THE SILENT: of an order whose last k are silent, another silent one ahead of them: then there are more than k. -/
theorem silent_more {o U T S : List Int} (hn : o.Nodup) (hU : o = U ++ T) (hT : ∀ x ∈ T, x ∈ S) {j : Nat} {x : Int} (hx : o[j]? = some x) (hj : j < U.length) (hs : x ∈ S) : T.length + 1 ≤ S.length := by
  have hm : x ∉ T := by
    intro hm
    rw [hU] at hx hn
    rw [List.getElem?_append_left hj] at hx
    exact (List.nodup_append.1 hn).2.2 x (List.mem_of_getElem? hx) x hm rfl
  have hnT : T.Nodup := by rw [hU] at hn; exact (List.nodup_append.1 hn).2.1
  have := len_of_sub (x :: T) S (List.nodup_cons.2 ⟨hm, hnT⟩) (fun y hy => by
    rcases List.mem_cons.1 hy with rfl | h
    · exact hs
    · exact hT y h)
  simpa using this

/-- The document's own way: where the accuser is put in on the way. -/
def Out (Q1 : Nat) (a : Int) (F out : List Int) : Prop := (out = F ∧ F.length ≤ Q1 ∧ a ∉ F) ∨ (Q1 ≤ F.length ∧ out = ins Q1 a F)
theorem Out.start (Q1 : Nat) (a : Int) : Out Q1 a [] [] := .inl ⟨rfl, Nat.zero_le _, by simp⟩
theorem Out.put {Q1 : Nat} {a : Int} {F : List Int} (hl : F.length = Q1) : Out Q1 a F (F ++ [a]) := .inr ⟨by omega, (ins_end a F hl).symm⟩
theorem Out.more {Q1 : Nat} {a x : Int} {F out : List Int} (h : Out Q1 a F out) (hx : x ≠ a) (hno : ¬ (out.length = Q1 ∧ a ∉ out)) : Out Q1 a (F ++ [x]) (out ++ [x]) := by
  rcases h with ⟨rfl, h1, h2⟩ | ⟨h1, rfl⟩
  · refine .inl ⟨rfl, ?_, ?_⟩
    · rcases Nat.lt_or_ge out.length Q1 with h | h
      · simp; omega
      · exact absurd ⟨by omega, h2⟩ hno
    · simp only [List.mem_append, List.mem_singleton, not_or]
      exact ⟨h2, fun e => hx e.symm⟩
  · exact .inr ⟨by simp; omega, (ins_app a [x] h1).symm⟩
theorem Out.full {Q1 : Nat} {a : Int} {F out : List Int} (h : Out Q1 a F out) (hF : Q1 ≤ F.length) : (if a ∈ out then out else out ++ [a]) = ins Q1 a F := by
  rcases h with ⟨rfl, h1, h2⟩ | ⟨h1, rfl⟩
  · rw [if_neg h2, ins_end a out (by omega)]
  · rw [if_pos (ins_mem _ _ _)]

end Bal
end Go.Proofs.Ytagmcbiallgdaaa
