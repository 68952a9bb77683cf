/- Codecs, plain: what is written in just one way is read again. -/
import Derived.Test.YtgjepofinpmcpaaGreatDoorSAA
namespace Go.Proofs.YtgjepofinpmcpaaGreatDoor
section
namespace Oct
/-- Texts as one. -/
def packL : List (List Int) → List Int
  | [] => []
  | l :: r => enc l.length ++ l ++ packL r
theorem packL_app : ∀ (a b : List (List Int)), packL (a ++ b) = packL a ++ packL b
  | [], b => rfl
  | l :: r, b => by simp [packL, packL_app r b]
theorem packL_snoc (a : List (List Int)) (l : List Int) : packL (a ++ [l]) = packL a ++ enc l.length ++ l := by rw [packL_app]; simp [packL]
/-- How much a list of texts holds. -/
def tot : List (List Int) → Nat
  | [] => 0
  | l :: r => l.length + 1 + tot r
theorem tot_app : ∀ (a b : List (List Int)), tot (a ++ b) = tot a + tot b
  | [], b => by simp [tot]
  | l :: r, b => by simp [tot, tot_app r b]; omega
theorem packL_len : ∀ (ll : List (List Int)), (packL ll).length ≤ 10 * tot ll
  | [] => by simp [packL]
  | l :: r => by
    have h1 := packL_len r
    have h2 := enc_len (l.length : Int)
    simp only [packL, tot, List.length_append]
    omega
theorem len_tot : ∀ (ll : List (List Int)), ll.length ≤ tot ll
  | [] => by simp [tot]
  | l :: r => by have := len_tot r; simp [tot]; omega
theorem mem_tot : ∀ {ll : List (List Int)} {l : List Int}, l ∈ ll → l.length < tot ll
  | [], _, h => by cases h
  | x :: r, l, h => by
    rcases List.mem_cons.1 h with e | e
    · subst e; simp [tot]; omega
    · have := mem_tot e; simp [tot]; omega
theorem take_snoc' {α : Type} (l : List α) (k : Nat) (x : α) (h : l[k]? = some x) : l.take (k + 1) = l.take k ++ [x] := by
  obtain ⟨hk, e⟩ := List.getElem?_eq_some_iff.1 h
  rw [List.take_succ_eq_append_getElem hk, e]
theorem tot_take (ll : List (List Int)) (k : Nat) : tot (ll.take k) ≤ tot ll := by
  have := tot_app (ll.take k) (ll.drop k)
  rw [List.take_append_drop] at this
  omega
/-- Every text is of bytes. -/
def Byts (ll : List (List Int)) : Prop := ∀ l ∈ ll, Byt l
theorem packL_byt : ∀ {ll : List (List Int)}, Byts ll → tot ll ≤ 1000000000 → Byt (packL ll)
  | [], _, _ => Byt.nil
  | l :: r, h, ht => by
    simp only [tot] at ht
    exact ((enc_byt _ (by omega) (by omega)).app (h l (by simp))).app (packL_byt (fun x hx => h x (by simp [hx])) (by omega))
/-! Unpacking -/
/-- The text at a place, in full: no text; or its bytes stand there. -/
theorem getB_cases (l : List Int) (p : Nat) (hb : Byt l) : getB l p 2147483647 = ([], 0, 11) ∨
    ∃ (t : List Int) (s : Nat), getB l p 2147483647 = (t, (s : Int), 0) ∧ l.drop p = enc t.length ++ t ++ l.drop s ∧ s ≤ l.length ∧ p + t.length + 1 ≤ s := by
  rcases getI_cases l p hb with hg | ⟨n, k, q, hpq, hg, hn, k1, k5, kl, ht⟩
  · left; unfold getB; rw [hg]; simp
  · have hq : p = q := by omega
    subst hq
    by_cases hr : (l.length : Int) - ((p + k : Nat) : Int) < (n : Int)
    · left; unfold getB; rw [hg, if_pos (.inr (.inr hr))]
    · right
      have hlen : ((l.drop (p + k)).take n).length = n := by rw [List.length_take, List.length_drop]; omega
      refine ⟨(l.drop (p + k)).take n, p + k + n, ?_, ?_, by omega, by omega⟩
      · unfold getB
        rw [hg, if_neg (by simp; omega)]
        simp only [Int.toNat_natCast]
        simp
      · rw [hlen, ← ht, List.append_assoc]
        have e1 : l.drop (p + k + n) = (l.drop (p + k)).drop n := by rw [List.drop_drop]
        have e2 : l.drop (p + k) = (l.drop p).drop k := by rw [List.drop_drop]
        rw [e1, List.take_append_drop, e2, List.take_append_drop]
def unpF : Nat → List Int → Int → Option (List (List Int))
  | 0, _, _ => some []
  | f + 1, l, p => if p < (l.length : Int) then (if (getB l p 2147483647).2.2 = 0 then (unpF f l (getB l p 2147483647).2.1).map ((getB l p 2147483647).1 :: ·) else none) else some []
/-- The texts that were packed, if they were. -/
def unp (l : List Int) : Option (List (List Int)) := unpF (l.length + 1) l 0
theorem unpF_end (f : Nat) (l : List Int) (p : Nat) (h : l.length ≤ p) : unpF (f + 1) l p = some [] := by
  simp only [unpF]; rw [if_neg (by omega)]
theorem unpF_no (f : Nat) (l : List Int) (p : Nat) (h : p < l.length) (hg : getB l p 2147483647 = ([], 0, 11)) : unpF (f + 1) l p = none := by
  simp only [unpF]; rw [if_pos (by omega), hg, if_neg (by decide)]
theorem unpF_go (f : Nat) (l : List Int) (p : Nat) (h : p < l.length) {t : List Int} {s : Nat} (hg : getB l p 2147483647 = (t, (s : Int), 0)) : unpF (f + 1) l p = (unpF f l s).map (t :: ·) := by
  simp only [unpF]; rw [if_pos (by omega), hg, if_pos rfl]
theorem unpF_some : ∀ (f : Nat) (l : List Int) (p : Nat) (ll : List (List Int)), Byt l → p ≤ l.length → l.length - p < f → unpF f l p = some ll → packL ll = l.drop p ∧ Byts ll ∧ tot ll + p ≤ l.length
  | 0, l, p, ll, _, _, h, _ => by omega
  | f + 1, l, p, ll, hb, hp, hf, h => by
    by_cases hpl : p < l.length
    · rcases getB_cases l p hb with hg | ⟨t, s, hg, hd, hs, hps⟩
      · rw [unpF_no f l p hpl hg] at h; cases h
      · rw [unpF_go f l p hpl hg] at h
        obtain ⟨r, hr, rfl⟩ := Option.map_eq_some_iff.1 h
        obtain ⟨i1, i2, i3⟩ := unpF_some f l s r hb hs (by omega) hr
        have hbt : Byt t := by
          have := getB_byt l p 2147483647 hb
          rw [hg] at this
          exact this
        refine ⟨?_, ?_, ?_⟩
        · simp only [packL]; rw [i1, hd]
        · intro x hx
          rcases List.mem_cons.1 hx with e | e
          · subst e; exact hbt
          · exact i2 x e
        · simp only [tot]; omega
    · rw [unpF_end f l p (by omega)] at h
      cases h
      refine ⟨?_, fun x hx => by (cases hx), by simp [tot]; omega⟩
      rw [List.drop_eq_nil_of_le (by omega)]; rfl
theorem unp_some {l : List Int} {ll : List (List Int)} (hb : Byt l) (h : unp l = some ll) : packL ll = l ∧ Byts ll ∧ tot ll ≤ l.length := by
  obtain ⟨h1, h2, h3⟩ := unpF_some (l.length + 1) l 0 ll hb (Nat.zero_le _) (by omega) h
  exact ⟨by simpa using h1, h2, by omega⟩
/-- A text with its length ahead is read. -/
theorem getB_at (a t b : List Int) (ht : t.length ≤ 2147483647) : getB (a ++ (enc t.length ++ t ++ b)) (a.length : Int) 2147483647 = (t, ((a.length + (enc t.length).length + t.length : Nat) : Int), 0) := by
  have hl := enc_len (t.length : Int)
  have hg : getI (a ++ (enc t.length ++ t ++ b)) (a.length : Int) = ((t.length : Int), ((a.length + (enc t.length).length : Nat) : Int), 0) := by
    have := getI_some (l := a ++ (enc t.length ++ t ++ b)) a.length (by simp) (n := (t.length : Int)) (k := (enc t.length).length) (by
      rw [List.drop_left, List.append_assoc]
      exact num_enc _ _ (by omega) (by omega))
    rw [this]
    simp
  unfold getB
  rw [hg, if_neg (by simp; omega)]
  simp only [Int.toNat_natCast]
  have e : (a ++ (enc t.length ++ t ++ b)).drop (a.length + (enc t.length).length) = t ++ b := by
    rw [← List.drop_drop, List.drop_left, List.append_assoc, List.drop_left]
  rw [e, List.take_left]
  simp
theorem unpF_pack : ∀ (ll : List (List Int)) (f : Nat) (a : List Int), tot ll ≤ 2147483647 → (packL ll).length < f → unpF f (a ++ packL ll) (a.length : Int) = some ll
  | [], f, a, _, hf => by
    obtain ⟨g, rfl⟩ : ∃ g, f = g + 1 := ⟨f - 1, by omega⟩
    exact unpF_end g _ _ (by simp [packL])
  | t :: r, f, a, ht, hf => by
    obtain ⟨g, rfl⟩ : ∃ g, f = g + 1 := ⟨f - 1, by omega⟩
    have hl := enc_len (t.length : Int)
    simp only [tot] at ht
    simp only [packL, List.length_append] at hf
    have hg := getB_at a t (packL r) (by omega)
    have e := unpF_go g (a ++ packL (t :: r)) a.length (by simp only [packL, List.length_append]; omega) hg
    rw [e]
    have e2 : a ++ packL (t :: r) = (a ++ enc t.length ++ t) ++ packL r := by simp [packL]
    have e3 : a.length + (enc t.length).length + t.length = (a ++ enc (t.length : Int) ++ t).length := by simp only [List.length_append]
    rw [e2, e3, unpF_pack r g (a ++ enc t.length ++ t) (by omega) (by omega)]
    rfl
theorem unp_pack (ll : List (List Int)) (ht : tot ll ≤ 2147483647) : unp (packL ll) = some ll := by
  have := unpF_pack ll ((packL ll).length + 1) [] ht (by omega)
  simpa [unp] using this
/-- Unlike lists have unlike packs. -/
theorem packL_inj {a b : List (List Int)} (ha : tot a ≤ 2147483647) (hb : tot b ≤ 2147483647) (h : packL a = packL b) : a = b := by
  have h1 := unp_pack a ha
  have h2 := unp_pack b hb
  rw [h] at h1
  rw [h1] at h2
  exact Option.some.inj h2
/-- How far the unpacking has come. -/
def UWay (l : List Int) (p : Nat) (done : List (List Int)) : Prop := ∃ f, l.length - p < f ∧ (unpF f l p).map (done ++ ·) = unp l
theorem UWay.end {l : List Int} {p : Nat} {done : List (List Int)} (h : UWay l p done) (hp : l.length ≤ p) : unp l = some done := by
  obtain ⟨f, hf, e⟩ := h
  obtain ⟨g, rfl⟩ : ∃ g, f = g + 1 := ⟨f - 1, by omega⟩
  rw [unpF_end g l p hp] at e
  rw [← e]
  simp
theorem UWay.no {l : List Int} {p : Nat} {done : List (List Int)} (h : UWay l p done) (hp : p < l.length) (hg : getB l p 2147483647 = ([], 0, 11)) : unp l = none := by
  obtain ⟨f, hf, e⟩ := h
  obtain ⟨g, rfl⟩ : ∃ g, f = g + 1 := ⟨f - 1, by omega⟩
  rw [unpF_no g l p hp hg] at e
  rw [← e]
  rfl
theorem UWay.go {l : List Int} {p : Nat} {done : List (List Int)} (h : UWay l p done) (hp : p < l.length) {t : List Int} {s : Nat} (hg : getB l p 2147483647 = (t, (s : Int), 0)) (hs : p < s) : UWay l s (done ++ [t]) := by
  obtain ⟨f, hf, e⟩ := h
  obtain ⟨g, rfl⟩ : ∃ g, f = g + 1 := ⟨f - 1, by omega⟩
  rw [unpF_go g l p hp hg] at e
  refine ⟨g, by omega, ?_⟩
  rw [← e]
  cases unpF g l s <;> simp
#print axioms unp_some
#print axioms packL_inj
end Oct
end
section
namespace Oct
/-- A way of writing: what may be written, its bytes, and how they are read from the head of a list. -/
structure Cdc (α : Type) where
  ok : α → Bool
  wr : α → List Int
  rd : List Int → Option (α × List Int)
structure Cdc.Law {α : Type} (c : Cdc α) : Prop where
  fwd : ∀ (a : α) (r : List Int), c.ok a = true → c.rd (c.wr a ++ r) = some (a, r)
  bwd : ∀ (l : List Int) (a : α) (r : List Int), Byt l → c.rd l = some (a, r) → c.ok a = true ∧ l = c.wr a ++ r
theorem Cdc.Law.inj {α : Type} {c : Cdc α} (h : c.Law) {a b : α} (ha : c.ok a = true) (hb : c.ok b = true) (e : c.wr a = c.wr b) : a = b := by
  have h1 := h.fwd a [] ha
  have h2 := h.fwd b [] hb
  rw [e, h2] at h1
  injection h1 with h3
  injection h3 with h4
  exact h4.symm
/-- Numbers. -/
def cN : Cdc Int := ⟨okI, outI, fun l => (num l).map fun nk => (nk.1, l.drop nk.2)⟩
theorem cN_law : cN.Law where
  fwd a r h := by
    have hb := okI_bd h
    show ((num (outI a ++ r)).map fun nk => (nk.1, (outI a ++ r).drop nk.2)) = _
    rw [outI_yes hb.1 hb.2, num_enc a r hb.1 hb.2]
    simp
  bwd l a r hl h := by
    simp only [cN] at h ⊢
    cases hn : num l with
    | none => rw [hn] at h; cases h
    | some nk =>
      obtain ⟨n, k⟩ := nk
      rw [hn] at h
      simp only [Option.map_some, Option.some.injEq, Prod.mk.injEq] at h
      obtain ⟨rfl, rfl⟩ := h
      obtain ⟨h0, h1, _, _, _, ht⟩ := num_some hl hn
      refine ⟨okI_yes h0 h1, ?_⟩
      rw [outI_yes h0 h1, ← ht, List.take_append_drop]
/-- Texts of at most 65536 bytes. -/
def cT : Cdc (List Int) := ⟨fun t => decide (t.length ≤ 65536), fun t => enc t.length ++ t,
  fun l => (num l).bind fun nk => if 65536 < nk.1 ∨ (l.length : Int) - nk.2 < nk.1 then none else some ((l.drop nk.2).take nk.1.toNat, (l.drop nk.2).drop nk.1.toNat)⟩
theorem cT_law : cT.Law where
  fwd a r h := by
    have hb : a.length ≤ 65536 := by simpa [cT] using h
    simp only [cT]
    rw [List.append_assoc, num_enc (a.length : Int) (a ++ r) (by omega) (by omega)]
    simp only [Option.bind_some, List.length_append]
    rw [if_neg (by omega)]
    simp
  bwd l a r hl h := by
    simp only [cT] at h ⊢
    cases hn : num l with
    | none => rw [hn] at h; cases h
    | some nk =>
      obtain ⟨n, k⟩ := nk
      rw [hn] at h
      simp only [Option.bind_some] at h
      obtain ⟨h0, h1, k1, k5, kl, ht⟩ := num_some hl hn
      by_cases hc : 65536 < n ∨ (l.length : Int) - k < n
      · rw [if_pos hc] at h; cases h
      · rw [if_neg hc] at h
        simp only [Option.some.injEq, Prod.mk.injEq] at h
        obtain ⟨rfl, rfl⟩ := h
        have hlen : ((l.drop k).take n.toNat).length = n.toNat := by rw [List.length_take, List.length_drop]; omega
        rw [hlen]
        refine ⟨by simp; omega, ?_⟩
        rw [show ((n.toNat : Nat) : Int) = n by omega, ← ht, List.append_assoc, List.take_append_drop, List.take_append_drop]
/-- One behind the other. -/
def cP {α β : Type} (c : Cdc α) (d : Cdc β) : Cdc (α × β) :=
  ⟨fun x => c.ok x.1 && d.ok x.2, fun x => c.wr x.1 ++ d.wr x.2, fun l => (c.rd l).bind fun x => (d.rd x.2).map fun y => ((x.1, y.1), y.2)⟩
theorem cP_law {α β : Type} {c : Cdc α} {d : Cdc β} (hc : c.Law) (hd : d.Law) : (cP c d).Law where
  fwd a r h := by
    simp only [cP, Bool.and_eq_true] at h ⊢
    rw [List.append_assoc, hc.fwd a.1 _ h.1]
    simp only [Option.bind_some]
    rw [hd.fwd a.2 r h.2]
    rfl
  bwd l a r hl h := by
    simp only [cP, Bool.and_eq_true] at h ⊢
    cases h1 : c.rd l with
    | none => rw [h1] at h; cases h
    | some x =>
      obtain ⟨x, l1⟩ := x
      rw [h1] at h
      simp only [Option.bind_some] at h
      obtain ⟨o1, e1⟩ := hc.bwd l x l1 hl h1
      cases h2 : d.rd l1 with
      | none => rw [h2] at h; cases h
      | some y =>
        obtain ⟨y, l2⟩ := y
        rw [h2] at h
        simp only [Option.map_some, Option.some.injEq, Prod.mk.injEq] at h
        obtain ⟨rfl, rfl⟩ := h
        obtain ⟨o2, e2⟩ := hd.bwd l1 y l2 (by rw [e1] at hl; exact hl.right) h2
        exact ⟨⟨o1, o2⟩, by rw [e1, e2, List.append_assoc]⟩
/-- So many, one behind the other. -/
def rdN {α : Type} (c : Cdc α) : Nat → List Int → Option (List α × List Int)
  | 0, l => some ([], l)
  | n + 1, l => (c.rd l).bind fun x => (rdN c n x.2).map fun y => (x.1 :: y.1, y.2)
def wrN {α : Type} (c : Cdc α) (as0 : List α) : List Int := (as0.map c.wr).flatten
theorem wrN_cons {α : Type} (c : Cdc α) (a : α) (as0 : List α) : wrN c (a :: as0) = c.wr a ++ wrN c as0 := by simp [wrN]
theorem wrN_app {α : Type} (c : Cdc α) (as0 bs : List α) : wrN c (as0 ++ bs) = wrN c as0 ++ wrN c bs := by simp [wrN]
theorem wrN_one {α : Type} (c : Cdc α) (a : α) : wrN c [a] = c.wr a := by simp [wrN]
theorem rdN_fwd {α : Type} {c : Cdc α} (h : c.Law) : ∀ (as0 : List α) (r : List Int), as0.all c.ok = true → rdN c as0.length (wrN c as0 ++ r) = some (as0, r)
  | [], r, _ => by simp [rdN, wrN]
  | a :: as0, r, ho => by
    simp only [List.all_cons, Bool.and_eq_true] at ho
    simp only [List.length_cons, rdN]
    rw [wrN_cons, List.append_assoc, h.fwd a _ ho.1]
    simp only [Option.bind_some]
    rw [rdN_fwd h as0 r ho.2]
    rfl
theorem rdN_bwd {α : Type} {c : Cdc α} (h : c.Law) : ∀ (n : Nat) (l : List Int) (as0 : List α) (r : List Int), Byt l → rdN c n l = some (as0, r) → as0.all c.ok = true ∧ as0.length = n ∧ l = wrN c as0 ++ r
  | 0, l, as0, r, _, e => by
    simp only [rdN, Option.some.injEq, Prod.mk.injEq] at e
    obtain ⟨rfl, rfl⟩ := e
    simp [wrN]
  | n + 1, l, as0, r, hl, e => by
    simp only [rdN] at e
    cases h1 : c.rd l with
    | none => rw [h1] at e; cases e
    | some x =>
      obtain ⟨x, l1⟩ := x
      rw [h1] at e
      simp only [Option.bind_some] at e
      obtain ⟨o1, e1⟩ := h.bwd l x l1 hl h1
      cases h2 : rdN c n l1 with
      | none => rw [h2] at e; cases e
      | some y =>
        obtain ⟨y, l2⟩ := y
        rw [h2] at e
        simp only [Option.map_some, Option.some.injEq, Prod.mk.injEq] at e
        obtain ⟨rfl, rfl⟩ := e
        obtain ⟨o2, e2, e3⟩ := rdN_bwd h n l1 y l2 (by rw [e1] at hl; exact hl.right) h2
        exact ⟨by simp [o1, o2], by simp [e2], by rw [e1, e3, wrN_cons, List.append_assoc]⟩
/-- One more, of which the first were read. -/
theorem rdN_snoc {α : Type} (c : Cdc α) : ∀ (n : Nat) (l : List Int), rdN c (n + 1) l = (rdN c n l).bind fun x => (c.rd x.2).map fun y => (x.1 ++ [y.1], y.2)
  | 0, l => by
    simp only [rdN, Option.bind_some]
    cases c.rd l <;> rfl
  | n + 1, l => by
    show ((c.rd l).bind fun x => (rdN c (n + 1) x.2).map fun y => (x.1 :: y.1, y.2)) = (((c.rd l).bind fun x => (rdN c n x.2).map fun y => (x.1 :: y.1, y.2))).bind _
    simp only [rdN_snoc c n]
    cases c.rd l with
    | none => rfl
    | some x =>
      simp only [Option.bind_some]
      cases rdN c n x.2 with
      | none => rfl
      | some y =>
        simp only [Option.bind_some, Option.map_some]
        cases c.rd y.2 <;> rfl
theorem rdN_none {α : Type} {c : Cdc α} {n : Nat} {l : List Int} (h : rdN c n l = none) : ∀ m, n ≤ m → rdN c m l = none
  | m, hm => by
    obtain ⟨k, rfl⟩ := Nat.exists_eq_add_of_le hm
    induction k with
    | zero => exact h
    | succ k ih => rw [← Nat.add_assoc, rdN_snoc, ih (by omega)]; rfl
/-- Lists of at most 64 items. -/
def cL {α : Type} (c : Cdc α) : Cdc (List α) :=
  ⟨fun as0 => decide (as0.length ≤ 64) && as0.all c.ok, fun as0 => outI as0.length ++ wrN c as0, fun l => (cN.rd l).bind fun x => if 64 < x.1 then none else rdN c x.1.toNat x.2⟩
theorem cL_law {α : Type} {c : Cdc α} (h : c.Law) : (cL c).Law where
  fwd as0 r ho := by
    simp only [cL, Bool.and_eq_true, decide_eq_true_eq] at ho ⊢
    rw [List.append_assoc]
    have h1 : cN.rd (outI (as0.length : Int) ++ (wrN c as0 ++ r)) = some ((as0.length : Int), wrN c as0 ++ r) := cN_law.fwd (as0.length : Int) _ (okI_yes (by omega) (by omega))
    rw [h1]
    simp only [Option.bind_some]
    rw [if_neg (by omega), Int.toNat_natCast, rdN_fwd h as0 r ho.2]
  bwd l as0 r hl e := by
    simp only [cL, Bool.and_eq_true, decide_eq_true_eq] at e ⊢
    cases h1 : cN.rd l with
    | none => rw [h1] at e; cases e
    | some x =>
      obtain ⟨n, l1⟩ := x
      rw [h1] at e
      simp only [Option.bind_some] at e
      obtain ⟨o1, e1⟩ := cN_law.bwd l n l1 hl h1
      have hn := okI_bd o1
      by_cases hc : 64 < n
      · rw [if_pos hc] at e; cases e
      · rw [if_neg hc] at e
        obtain ⟨o2, e2, e3⟩ := rdN_bwd h n.toNat l1 as0 r (by rw [e1] at hl; exact hl.right) e
        refine ⟨⟨by omega, o2⟩, ?_⟩
        rw [e2, show ((n.toNat : Nat) : Int) = n by omega, List.append_assoc, ← e3, e1]
        rfl
/-- What is read is the tail of what was there. -/
theorem Cdc.Law.tail {α : Type} {c : Cdc α} (h : c.Law) {l : List Int} {a : α} {r : List Int} (hl : Byt l) (e : c.rd l = some (a, r)) : r = l.drop (c.wr a).length := by
  obtain ⟨_, rfl⟩ := h.bwd l a r hl e
  simp
/-! The records. -/
abbrev PBal := Int × Int
abbrev PReq := Int × Int × List Int × List Int
abbrev PVote := Int × List Int
abbrev PPrep := Int × PBal × PReq × List PVote
abbrev PRep := PBal × Int × Int × List Int × List PVote × List PPrep × List Int
def cBal : Cdc PBal := cP cN cN
def cReq : Cdc PReq := cP cN (cP cN (cP cT cT))
def cVote : Cdc PVote := cP cN cT
def cPrep : Cdc PPrep := cP cN (cP cBal (cP cReq (cL cVote)))
def cRep : Cdc PRep := cP cBal (cP cN (cP cN (cP cT (cP (cL cVote) (cP (cL cPrep) cT)))))
theorem cBal_law : cBal.Law := cP_law cN_law cN_law
theorem cReq_law : cReq.Law := cP_law cN_law (cP_law cN_law (cP_law cT_law cT_law))
theorem cVote_law : cVote.Law := cP_law cN_law cT_law
theorem cPrep_law : cPrep.Law := cP_law cN_law (cP_law cBal_law (cP_law cReq_law (cL_law cVote_law)))
theorem cRep_law : cRep.Law := cP_law cBal_law (cP_law cN_law (cP_law cN_law (cP_law cT_law (cP_law (cL_law cVote_law) (cP_law (cL_law cPrep_law) cT_law)))))
end Oct
end
end Go.Proofs.YtgjepofinpmcpaaGreatDoor
