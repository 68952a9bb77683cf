/- Messages, plain: their bytes, and how they are read. -/
import Derived.Test.YtgbfmccecnfooaaGreatDoorCRAA
namespace Go.Proofs.YtgbfmccecnfooaaGreatDoor
section
namespace Oct
/-- Texts as one. -/
def packL : List (List Int) → List Int
  | [] => []
  | l :: r => enc l.length ++ l ++ packL r
theorem packL_app : ∀ (a b : List (List Int)), packL (a ++ b) = packL a ++ packL b
  | [], b => rfl
  | l :: r, b => by simp [packL, packL_app r b]
theorem packL_snoc (a : List (List Int)) (l : List Int) : packL (a ++ [l]) = packL a ++ enc l.length ++ l := by rw [packL_app]; simp [packL]
/-- How much a list of texts holds. -/
def tot : List (List Int) → Nat
  | [] => 0
  | l :: r => l.length + 1 + tot r
theorem tot_app : ∀ (a b : List (List Int)), tot (a ++ b) = tot a + tot b
  | [], b => by simp [tot]
  | l :: r, b => by simp [tot, tot_app r b]; omega
theorem packL_len : ∀ (ll : List (List Int)), (packL ll).length ≤ 10 * tot ll
  | [] => by simp [packL]
  | l :: r => by
    have h1 := packL_len r
    have h2 := enc_len (l.length : Int)
    simp only [packL, tot, List.length_append]
    omega
theorem len_tot : ∀ (ll : List (List Int)), ll.length ≤ tot ll
  | [] => by simp [tot]
  | l :: r => by have := len_tot r; simp [tot]; omega
theorem mem_tot : ∀ {ll : List (List Int)} {l : List Int}, l ∈ ll → l.length < tot ll
  | [], _, h => by cases h
  | x :: r, l, h => by
    rcases List.mem_cons.1 h with e | e
    · subst e; simp [tot]; omega
    · have := mem_tot e; simp [tot]; omega
theorem take_snoc' {α : Type} (l : List α) (k : Nat) (x : α) (h : l[k]? = some x) : l.take (k + 1) = l.take k ++ [x] := by
  obtain ⟨hk, e⟩ := List.getElem?_eq_some_iff.1 h
  rw [List.take_succ_eq_append_getElem hk, e]
theorem tot_take (ll : List (List Int)) (k : Nat) : tot (ll.take k) ≤ tot ll := by
  have := tot_app (ll.take k) (ll.drop k)
  rw [List.take_append_drop] at this
  omega
/-- Every text is of bytes. -/
def Byts (ll : List (List Int)) : Prop := ∀ l ∈ ll, Byt l
theorem packL_byt : ∀ {ll : List (List Int)}, Byts ll → tot ll ≤ 1000000000 → Byt (packL ll)
  | [], _, _ => Byt.nil
  | l :: r, h, ht => by
    simp only [tot] at ht
    exact ((enc_byt _ (by omega) (by omega)).app (h l (by simp))).app (packL_byt (fun x hx => h x (by simp [hx])) (by omega))
/-! Unpacking -/
/-- The text at a place, in full: no text; or its bytes stand there. -/
theorem getB_cases (l : List Int) (p : Nat) (hb : Byt l) : getB l p 2147483647 = ([], 0, 11) ∨
    ∃ (t : List Int) (s : Nat), getB l p 2147483647 = (t, (s : Int), 0) ∧ l.drop p = enc t.length ++ t ++ l.drop s ∧ s ≤ l.length ∧ p + t.length + 1 ≤ s := by
  rcases getI_cases l p hb with hg | ⟨n, k, q, hpq, hg, hn, k1, k5, kl, ht⟩
  · left; unfold getB; rw [hg]; simp
  · have hq : p = q := by omega
    subst hq
    by_cases hr : (l.length : Int) - ((p + k : Nat) : Int) < (n : Int)
    · left; unfold getB; rw [hg, if_pos (.inr (.inr hr))]
    · right
      have hlen : ((l.drop (p + k)).take n).length = n := by rw [List.length_take, List.length_drop]; omega
      refine ⟨(l.drop (p + k)).take n, p + k + n, ?_, ?_, by omega, by omega⟩
      · unfold getB
        rw [hg, if_neg (by simp; omega)]
        simp only [Int.toNat_natCast]
        simp
      · rw [hlen, ← ht, List.append_assoc]
        have e1 : l.drop (p + k + n) = (l.drop (p + k)).drop n := by rw [List.drop_drop]
        have e2 : l.drop (p + k) = (l.drop p).drop k := by rw [List.drop_drop]
        rw [e1, List.take_append_drop, e2, List.take_append_drop]
def unpF : Nat → List Int → Int → Option (List (List Int))
  | 0, _, _ => some []
  | f + 1, l, p => if p < (l.length : Int) then (if (getB l p 2147483647).2.2 = 0 then (unpF f l (getB l p 2147483647).2.1).map ((getB l p 2147483647).1 :: ·) else none) else some []
/-- The texts that were packed, if they were. -/
def unp (l : List Int) : Option (List (List Int)) := unpF (l.length + 1) l 0
theorem unpF_end (f : Nat) (l : List Int) (p : Nat) (h : l.length ≤ p) : unpF (f + 1) l p = some [] := by
  simp only [unpF]; rw [if_neg (by omega)]
theorem unpF_no (f : Nat) (l : List Int) (p : Nat) (h : p < l.length) (hg : getB l p 2147483647 = ([], 0, 11)) : unpF (f + 1) l p = none := by
  simp only [unpF]; rw [if_pos (by omega), hg, if_neg (by decide)]
theorem unpF_go (f : Nat) (l : List Int) (p : Nat) (h : p < l.length) {t : List Int} {s : Nat} (hg : getB l p 2147483647 = (t, (s : Int), 0)) : unpF (f + 1) l p = (unpF f l s).map (t :: ·) := by
  simp only [unpF]; rw [if_pos (by omega), hg, if_pos rfl]
theorem unpF_some : ∀ (f : Nat) (l : List Int) (p : Nat) (ll : List (List Int)), Byt l → p ≤ l.length → l.length - p < f → unpF f l p = some ll → packL ll = l.drop p ∧ Byts ll ∧ tot ll + p ≤ l.length
  | 0, l, p, ll, _, _, h, _ => by omega
  | f + 1, l, p, ll, hb, hp, hf, h => by
    by_cases hpl : p < l.length
    · rcases getB_cases l p hb with hg | ⟨t, s, hg, hd, hs, hps⟩
      · rw [unpF_no f l p hpl hg] at h; cases h
      · rw [unpF_go f l p hpl hg] at h
        obtain ⟨r, hr, rfl⟩ := Option.map_eq_some_iff.1 h
        obtain ⟨i1, i2, i3⟩ := unpF_some f l s r hb hs (by omega) hr
        have hbt : Byt t := by
          have := getB_byt l p 2147483647 hb
          rw [hg] at this
          exact this
        refine ⟨?_, ?_, ?_⟩
        · simp only [packL]; rw [i1, hd]
        · intro x hx
          rcases List.mem_cons.1 hx with e | e
          · subst e; exact hbt
          · exact i2 x e
        · simp only [tot]; omega
    · rw [unpF_end f l p (by omega)] at h
      cases h
      refine ⟨?_, fun x hx => by (cases hx), by simp [tot]; omega⟩
      rw [List.drop_eq_nil_of_le (by omega)]; rfl
theorem unp_some {l : List Int} {ll : List (List Int)} (hb : Byt l) (h : unp l = some ll) : packL ll = l ∧ Byts ll ∧ tot ll ≤ l.length := by
  obtain ⟨h1, h2, h3⟩ := unpF_some (l.length + 1) l 0 ll hb (Nat.zero_le _) (by omega) h
  exact ⟨by simpa using h1, h2, by omega⟩
/-- A text with its length ahead is read. -/
theorem getB_at (a t b : List Int) (ht : t.length ≤ 2147483647) : getB (a ++ (enc t.length ++ t ++ b)) (a.length : Int) 2147483647 = (t, ((a.length + (enc t.length).length + t.length : Nat) : Int), 0) := by
  have hl := enc_len (t.length : Int)
  have hg : getI (a ++ (enc t.length ++ t ++ b)) (a.length : Int) = ((t.length : Int), ((a.length + (enc t.length).length : Nat) : Int), 0) := by
    have := getI_some (l := a ++ (enc t.length ++ t ++ b)) a.length (by simp) (n := (t.length : Int)) (k := (enc t.length).length) (by
      rw [List.drop_left, List.append_assoc]
      exact num_enc _ _ (by omega) (by omega))
    rw [this]
    simp
  unfold getB
  rw [hg, if_neg (by simp; omega)]
  simp only [Int.toNat_natCast]
  have e : (a ++ (enc t.length ++ t ++ b)).drop (a.length + (enc t.length).length) = t ++ b := by
    rw [← List.drop_drop, List.drop_left, List.append_assoc, List.drop_left]
  rw [e, List.take_left]
  simp
theorem unpF_pack : ∀ (ll : List (List Int)) (f : Nat) (a : List Int), tot ll ≤ 2147483647 → (packL ll).length < f → unpF f (a ++ packL ll) (a.length : Int) = some ll
  | [], f, a, _, hf => by
    obtain ⟨g, rfl⟩ : ∃ g, f = g + 1 := ⟨f - 1, by omega⟩
    exact unpF_end g _ _ (by simp [packL])
  | t :: r, f, a, ht, hf => by
    obtain ⟨g, rfl⟩ : ∃ g, f = g + 1 := ⟨f - 1, by omega⟩
    have hl := enc_len (t.length : Int)
    simp only [tot] at ht
    simp only [packL, List.length_append] at hf
    have hg := getB_at a t (packL r) (by omega)
    have e := unpF_go g (a ++ packL (t :: r)) a.length (by simp only [packL, List.length_append]; omega) hg
    rw [e]
    have e2 : a ++ packL (t :: r) = (a ++ enc t.length ++ t) ++ packL r := by simp [packL]
    have e3 : a.length + (enc t.length).length + t.length = (a ++ enc (t.length : Int) ++ t).length := by simp only [List.length_append]
    rw [e2, e3, unpF_pack r g (a ++ enc t.length ++ t) (by omega) (by omega)]
    rfl
theorem unp_pack (ll : List (List Int)) (ht : tot ll ≤ 2147483647) : unp (packL ll) = some ll := by
  have := unpF_pack ll ((packL ll).length + 1) [] ht (by omega)
  simpa [unp] using this
/-- Unlike lists have unlike packs. -/
theorem packL_inj {a b : List (List Int)} (ha : tot a ≤ 2147483647) (hb : tot b ≤ 2147483647) (h : packL a = packL b) : a = b := by
  have h1 := unp_pack a ha
  have h2 := unp_pack b hb
  rw [h] at h1
  rw [h1] at h2
  exact Option.some.inj h2
/-- How far the unpacking has come. -/
def UWay (l : List Int) (p : Nat) (done : List (List Int)) : Prop := ∃ f, l.length - p < f ∧ (unpF f l p).map (done ++ ·) = unp l
theorem UWay.end {l : List Int} {p : Nat} {done : List (List Int)} (h : UWay l p done) (hp : l.length ≤ p) : unp l = some done := by
  obtain ⟨f, hf, e⟩ := h
  obtain ⟨g, rfl⟩ : ∃ g, f = g + 1 := ⟨f - 1, by omega⟩
  rw [unpF_end g l p hp] at e
  rw [← e]
  simp
theorem UWay.no {l : List Int} {p : Nat} {done : List (List Int)} (h : UWay l p done) (hp : p < l.length) (hg : getB l p 2147483647 = ([], 0, 11)) : unp l = none := by
  obtain ⟨f, hf, e⟩ := h
  obtain ⟨g, rfl⟩ : ∃ g, f = g + 1 := ⟨f - 1, by omega⟩
  rw [unpF_no g l p hp hg] at e
  rw [← e]
  rfl
theorem UWay.go {l : List Int} {p : Nat} {done : List (List Int)} (h : UWay l p done) (hp : p < l.length) {t : List Int} {s : Nat} (hg : getB l p 2147483647 = (t, (s : Int), 0)) (hs : p < s) : UWay l s (done ++ [t]) := by
  obtain ⟨f, hf, e⟩ := h
  obtain ⟨g, rfl⟩ : ∃ g, f = g + 1 := ⟨f - 1, by omega⟩
  rw [unpF_go g l p hp hg] at e
  refine ⟨g, by omega, ?_⟩
  rw [← e]
  cases unpF g l s <;> simp
#print axioms unp_some
#print axioms packL_inj
end Oct
end
section
namespace Oct
/-- A way of writing: what may be written, its bytes, and how they are read from the head of a list. -/
structure Cdc (α : Type) where
  ok : α → Bool
  wr : α → List Int
  rd : List Int → Option (α × List Int)
structure Cdc.Law {α : Type} (c : Cdc α) : Prop where
  fwd : ∀ (a : α) (r : List Int), c.ok a = true → c.rd (c.wr a ++ r) = some (a, r)
  bwd : ∀ (l : List Int) (a : α) (r : List Int), Byt l → c.rd l = some (a, r) → c.ok a = true ∧ l = c.wr a ++ r
theorem Cdc.Law.inj {α : Type} {c : Cdc α} (h : c.Law) {a b : α} (ha : c.ok a = true) (hb : c.ok b = true) (e : c.wr a = c.wr b) : a = b := by
  have h1 := h.fwd a [] ha
  have h2 := h.fwd b [] hb
  rw [e, h2] at h1
  injection h1 with h3
  injection h3 with h4
  exact h4.symm
/-- Numbers. -/
def cN : Cdc Int := ⟨okI, outI, fun l => (num l).map fun nk => (nk.1, l.drop nk.2)⟩
theorem cN_law : cN.Law where
  fwd a r h := by
    have hb := okI_bd h
    show ((num (outI a ++ r)).map fun nk => (nk.1, (outI a ++ r).drop nk.2)) = _
    rw [outI_yes hb.1 hb.2, num_enc a r hb.1 hb.2]
    simp
  bwd l a r hl h := by
    simp only [cN] at h ⊢
    cases hn : num l with
    | none => rw [hn] at h; cases h
    | some nk =>
      obtain ⟨n, k⟩ := nk
      rw [hn] at h
      simp only [Option.map_some, Option.some.injEq, Prod.mk.injEq] at h
      obtain ⟨rfl, rfl⟩ := h
      obtain ⟨h0, h1, _, _, _, ht⟩ := num_some hl hn
      refine ⟨okI_yes h0 h1, ?_⟩
      rw [outI_yes h0 h1, ← ht, List.take_append_drop]
/-- Texts of at most 65536 bytes. -/
def cT : Cdc (List Int) := ⟨fun t => decide (t.length ≤ 65536), fun t => enc t.length ++ t,
  fun l => (num l).bind fun nk => if 65536 < nk.1 ∨ (l.length : Int) - nk.2 < nk.1 then none else some ((l.drop nk.2).take nk.1.toNat, (l.drop nk.2).drop nk.1.toNat)⟩
theorem cT_law : cT.Law where
  fwd a r h := by
    have hb : a.length ≤ 65536 := by simpa [cT] using h
    simp only [cT]
    rw [List.append_assoc, num_enc (a.length : Int) (a ++ r) (by omega) (by omega)]
    simp only [Option.bind_some, List.length_append]
    rw [if_neg (by omega)]
    simp
  bwd l a r hl h := by
    simp only [cT] at h ⊢
    cases hn : num l with
    | none => rw [hn] at h; cases h
    | some nk =>
      obtain ⟨n, k⟩ := nk
      rw [hn] at h
      simp only [Option.bind_some] at h
      obtain ⟨h0, h1, k1, k5, kl, ht⟩ := num_some hl hn
      by_cases hc : 65536 < n ∨ (l.length : Int) - k < n
      · rw [if_pos hc] at h; cases h
      · rw [if_neg hc] at h
        simp only [Option.some.injEq, Prod.mk.injEq] at h
        obtain ⟨rfl, rfl⟩ := h
        have hlen : ((l.drop k).take n.toNat).length = n.toNat := by rw [List.length_take, List.length_drop]; omega
        rw [hlen]
        refine ⟨by simp; omega, ?_⟩
        rw [show ((n.toNat : Nat) : Int) = n by omega, ← ht, List.append_assoc, List.take_append_drop, List.take_append_drop]
/-- One behind the other. -/
def cP {α β : Type} (c : Cdc α) (d : Cdc β) : Cdc (α × β) :=
  ⟨fun x => c.ok x.1 && d.ok x.2, fun x => c.wr x.1 ++ d.wr x.2, fun l => (c.rd l).bind fun x => (d.rd x.2).map fun y => ((x.1, y.1), y.2)⟩
theorem cP_law {α β : Type} {c : Cdc α} {d : Cdc β} (hc : c.Law) (hd : d.Law) : (cP c d).Law where
  fwd a r h := by
    simp only [cP, Bool.and_eq_true] at h ⊢
    rw [List.append_assoc, hc.fwd a.1 _ h.1]
    simp only [Option.bind_some]
    rw [hd.fwd a.2 r h.2]
    rfl
  bwd l a r hl h := by
    simp only [cP, Bool.and_eq_true] at h ⊢
    cases h1 : c.rd l with
    | none => rw [h1] at h; cases h
    | some x =>
      obtain ⟨x, l1⟩ := x
      rw [h1] at h
      simp only [Option.bind_some] at h
      obtain ⟨o1, e1⟩ := hc.bwd l x l1 hl h1
      cases h2 : d.rd l1 with
      | none => rw [h2] at h; cases h
      | some y =>
        obtain ⟨y, l2⟩ := y
        rw [h2] at h
        simp only [Option.map_some, Option.some.injEq, Prod.mk.injEq] at h
        obtain ⟨rfl, rfl⟩ := h
        obtain ⟨o2, e2⟩ := hd.bwd l1 y l2 (by rw [e1] at hl; exact hl.right) h2
        exact ⟨⟨o1, o2⟩, by rw [e1, e2, List.append_assoc]⟩
/-- So many, one behind the other. -/
def rdN {α : Type} (c : Cdc α) : Nat → List Int → Option (List α × List Int)
  | 0, l => some ([], l)
  | n + 1, l => (c.rd l).bind fun x => (rdN c n x.2).map fun y => (x.1 :: y.1, y.2)
def wrN {α : Type} (c : Cdc α) (as0 : List α) : List Int := (as0.map c.wr).flatten
theorem wrN_cons {α : Type} (c : Cdc α) (a : α) (as0 : List α) : wrN c (a :: as0) = c.wr a ++ wrN c as0 := by simp [wrN]
theorem wrN_app {α : Type} (c : Cdc α) (as0 bs : List α) : wrN c (as0 ++ bs) = wrN c as0 ++ wrN c bs := by simp [wrN]
theorem wrN_one {α : Type} (c : Cdc α) (a : α) : wrN c [a] = c.wr a := by simp [wrN]
theorem rdN_fwd {α : Type} {c : Cdc α} (h : c.Law) : ∀ (as0 : List α) (r : List Int), as0.all c.ok = true → rdN c as0.length (wrN c as0 ++ r) = some (as0, r)
  | [], r, _ => by simp [rdN, wrN]
  | a :: as0, r, ho => by
    simp only [List.all_cons, Bool.and_eq_true] at ho
    simp only [List.length_cons, rdN]
    rw [wrN_cons, List.append_assoc, h.fwd a _ ho.1]
    simp only [Option.bind_some]
    rw [rdN_fwd h as0 r ho.2]
    rfl
theorem rdN_bwd {α : Type} {c : Cdc α} (h : c.Law) : ∀ (n : Nat) (l : List Int) (as0 : List α) (r : List Int), Byt l → rdN c n l = some (as0, r) → as0.all c.ok = true ∧ as0.length = n ∧ l = wrN c as0 ++ r
  | 0, l, as0, r, _, e => by
    simp only [rdN, Option.some.injEq, Prod.mk.injEq] at e
    obtain ⟨rfl, rfl⟩ := e
    simp [wrN]
  | n + 1, l, as0, r, hl, e => by
    simp only [rdN] at e
    cases h1 : c.rd l with
    | none => rw [h1] at e; cases e
    | some x =>
      obtain ⟨x, l1⟩ := x
      rw [h1] at e
      simp only [Option.bind_some] at e
      obtain ⟨o1, e1⟩ := h.bwd l x l1 hl h1
      cases h2 : rdN c n l1 with
      | none => rw [h2] at e; cases e
      | some y =>
        obtain ⟨y, l2⟩ := y
        rw [h2] at e
        simp only [Option.map_some, Option.some.injEq, Prod.mk.injEq] at e
        obtain ⟨rfl, rfl⟩ := e
        obtain ⟨o2, e2, e3⟩ := rdN_bwd h n l1 y l2 (by rw [e1] at hl; exact hl.right) h2
        exact ⟨by simp [o1, o2], by simp [e2], by rw [e1, e3, wrN_cons, List.append_assoc]⟩
/-- Lists of at most 64 items. -/
def cL {α : Type} (c : Cdc α) : Cdc (List α) :=
  ⟨fun as0 => decide (as0.length ≤ 64) && as0.all c.ok, fun as0 => outI as0.length ++ wrN c as0, fun l => (cN.rd l).bind fun x => if 64 < x.1 then none else rdN c x.1.toNat x.2⟩
theorem cL_law {α : Type} {c : Cdc α} (h : c.Law) : (cL c).Law where
  fwd as0 r ho := by
    simp only [cL, Bool.and_eq_true, decide_eq_true_eq] at ho ⊢
    rw [List.append_assoc]
    have h1 : cN.rd (outI (as0.length : Int) ++ (wrN c as0 ++ r)) = some ((as0.length : Int), wrN c as0 ++ r) := cN_law.fwd (as0.length : Int) _ (okI_yes (by omega) (by omega))
    rw [h1]
    simp only [Option.bind_some]
    rw [if_neg (by omega), Int.toNat_natCast, rdN_fwd h as0 r ho.2]
  bwd l as0 r hl e := by
    simp only [cL, Bool.and_eq_true, decide_eq_true_eq] at e ⊢
    cases h1 : cN.rd l with
    | none => rw [h1] at e; cases e
    | some x =>
      obtain ⟨n, l1⟩ := x
      rw [h1] at e
      simp only [Option.bind_some] at e
      obtain ⟨o1, e1⟩ := cN_law.bwd l n l1 hl h1
      have hn := okI_bd o1
      by_cases hc : 64 < n
      · rw [if_pos hc] at e; cases e
      · rw [if_neg hc] at e
        obtain ⟨o2, e2, e3⟩ := rdN_bwd h n.toNat l1 as0 r (by rw [e1] at hl; exact hl.right) e
        refine ⟨⟨by omega, o2⟩, ?_⟩
        rw [e2, show ((n.toNat : Nat) : Int) = n by omega, List.append_assoc, ← e3, e1]
        rfl
/-- What is read is the tail of what was there. -/
theorem Cdc.Law.tail {α : Type} {c : Cdc α} (h : c.Law) {l : List Int} {a : α} {r : List Int} (hl : Byt l) (e : c.rd l = some (a, r)) : r = l.drop (c.wr a).length := by
  obtain ⟨_, rfl⟩ := h.bwd l a r hl e
  simp
/-! The records. -/
abbrev PBal := Int × Int
abbrev PReq := Int × Int × List Int × List Int
abbrev PVote := Int × List Int
abbrev PPrep := Int × PBal × PReq × List PVote
abbrev PRep := PBal × Int × Int × List Int × List PVote × List PPrep × List Int
def cBal : Cdc PBal := cP cN cN
def cReq : Cdc PReq := cP cN (cP cN (cP cT cT))
def cVote : Cdc PVote := cP cN cT
def cPrep : Cdc PPrep := cP cN (cP cBal (cP cReq (cL cVote)))
def cRep : Cdc PRep := cP cBal (cP cN (cP cN (cP cT (cP (cL cVote) (cP (cL cPrep) cT)))))
theorem cBal_law : cBal.Law := cP_law cN_law cN_law
theorem cReq_law : cReq.Law := cP_law cN_law (cP_law cN_law (cP_law cT_law cT_law))
theorem cVote_law : cVote.Law := cP_law cN_law cT_law
theorem cPrep_law : cPrep.Law := cP_law cN_law (cP_law cBal_law (cP_law cReq_law (cL_law cVote_law)))
theorem cRep_law : cRep.Law := cP_law cBal_law (cP_law cN_law (cP_law cN_law (cP_law cT_law (cP_law (cL_law cVote_law) (cP_law (cL_law cPrep_law) cT_law)))))
end Oct
end
section
namespace Oct
structure PMsg where
  kind : Int
  bal : PBal
  slot : Int
  frm : Int
  to : Int
  idx : Int
  cnt : Int
  req : PReq
  oth : PReq
  data : List Int
  sig : List Int
  cert : List PVote
  votes : List PVote
  order : List Int
  picks : List PReq
  reps : List PRep
def zeroM : PMsg := ⟨0, (0, 0), 0, 0, 0, 0, 0, (0, 0, [], []), (0, 0, [], []), [], [], [], [], [], [], []⟩
/-- What stands in a field. -/
abbrev FV := PBal ⊕ Int ⊕ PReq ⊕ List Int ⊕ List PVote ⊕ List Int ⊕ List PReq ⊕ List PRep
def fbal (x : PBal) : FV := (.inl x)
def fnum (x : Int) : FV := (.inr (.inl x))
def freq (x : PReq) : FV := (.inr (.inr (.inl x)))
def ftxt (x : List Int) : FV := (.inr (.inr (.inr (.inl x))))
def fvotes (x : List PVote) : FV := (.inr (.inr (.inr (.inr (.inl x)))))
def fints (x : List Int) : FV := (.inr (.inr (.inr (.inr (.inr (.inl x))))))
def freqs (x : List PReq) : FV := (.inr (.inr (.inr (.inr (.inr (.inr (.inl x)))))))
def freps (x : List PRep) : FV := (.inr (.inr (.inr (.inr (.inr (.inr (.inr x)))))))
def unB : FV → Option PBal | (.inl b) => some b | _ => none
def unN : FV → Option Int | (.inr (.inl n)) => some n | _ => none
def unR : FV → Option PReq | (.inr (.inr (.inl r))) => some r | _ => none
def unT : FV → Option (List Int) | (.inr (.inr (.inr (.inl t)))) => some t | _ => none
def unV : FV → Option (List PVote) | (.inr (.inr (.inr (.inr (.inl t))))) => some t | _ => none
def unI : FV → Option (List Int) | (.inr (.inr (.inr (.inr (.inr (.inl t)))))) => some t | _ => none
def unQ : FV → Option (List PReq) | (.inr (.inr (.inr (.inr (.inr (.inr (.inl t))))))) => some t | _ => none
def unP : FV → Option (List PRep) | (.inr (.inr (.inr (.inr (.inr (.inr (.inr t))))))) => some t | _ => none
def tag {α : Type} (c : Cdc α) (mk : α → FV) (un : FV → Option α) : Cdc FV :=
  ⟨fun v => match un v with | some a => c.ok a | none => false, fun v => match un v with | some a => c.wr a | none => [], fun l => (c.rd l).map fun x => (mk x.1, x.2)⟩
theorem tag_law {α : Type} {c : Cdc α} {mk : α → FV} {un : FV → Option α} (h : c.Law) (hu : ∀ a, un (mk a) = some a) (hm : ∀ v a, un v = some a → v = mk a) : (tag c mk un).Law where
  fwd v r ho := by
    simp only [tag] at ho ⊢
    cases hv : un v with
    | none => rw [hv] at ho; cases ho
    | some a =>
      rw [hv] at ho
      simp only [] at ho ⊢
      rw [h.fwd a r ho, hm v a hv]
      rfl
  bwd l v r hl e := by
    simp only [tag] at e ⊢
    cases h1 : c.rd l with
    | none => rw [h1] at e; cases e
    | some x =>
      obtain ⟨a, l1⟩ := x
      rw [h1] at e
      simp only [Option.map_some, Option.some.injEq, Prod.mk.injEq] at e
      obtain ⟨rfl, rfl⟩ := e
      rw [hu a]
      exact h.bwd l a l1 hl h1
theorem tag_typ {α : Type} {c : Cdc α} {mk : α → FV} {un : FV → Option α} {l : List Int} {v : FV} {r : List Int} (hu : ∀ a, un (mk a) = some a) (e : (tag c mk un).rd l = some (v, r)) : (un v).isSome = true := by
  simp only [tag] at e
  obtain ⟨x, _, e⟩ := Option.map_eq_some_iff.1 e
  injection e with e1 _
  rw [← e1, hu]
  rfl
def cI : Cdc (List Int) := cL cN
def cF : Nat → Cdc FV
  | 0 => tag cBal fbal unB
  | 1 => tag cN fnum unN
  | 2 => tag cN fnum unN
  | 3 => tag cN fnum unN
  | 4 => tag cN fnum unN
  | 5 => tag cN fnum unN
  | 6 => tag cReq freq unR
  | 7 => tag cReq freq unR
  | 8 => tag cT ftxt unT
  | 9 => tag cT ftxt unT
  | 10 => tag (cL cVote) fvotes unV
  | 11 => tag (cL cVote) fvotes unV
  | 12 => tag cI fints unI
  | 13 => tag (cL cReq) freqs unQ
  | _ => tag (cL cRep) freps unP
def typ : Nat → FV → Bool
  | 0, v => (unB v).isSome
  | 1, v => (unN v).isSome
  | 2, v => (unN v).isSome
  | 3, v => (unN v).isSome
  | 4, v => (unN v).isSome
  | 5, v => (unN v).isSome
  | 6, v => (unR v).isSome
  | 7, v => (unR v).isSome
  | 8, v => (unT v).isSome
  | 9, v => (unT v).isSome
  | 10, v => (unV v).isSome
  | 11, v => (unV v).isSome
  | 12, v => (unI v).isSome
  | 13, v => (unQ v).isSome
  | _, v => (unP v).isSome
def get (m : PMsg) : Nat → FV
  | 0 => fbal m.bal
  | 1 => fnum m.slot
  | 2 => fnum m.frm
  | 3 => fnum m.to
  | 4 => fnum m.idx
  | 5 => fnum m.cnt
  | 6 => freq m.req
  | 7 => freq m.oth
  | 8 => ftxt m.data
  | 9 => ftxt m.sig
  | 10 => fvotes m.cert
  | 11 => fvotes m.votes
  | 12 => fints m.order
  | 13 => freqs m.picks
  | _ => freps m.reps
def set (m : PMsg) : Nat → FV → PMsg
  | 0, (.inl b) => { m with bal := b }
  | 1, (.inr (.inl n)) => { m with slot := n }
  | 2, (.inr (.inl n)) => { m with frm := n }
  | 3, (.inr (.inl n)) => { m with to := n }
  | 4, (.inr (.inl n)) => { m with idx := n }
  | 5, (.inr (.inl n)) => { m with cnt := n }
  | 6, (.inr (.inr (.inl r))) => { m with req := r }
  | 7, (.inr (.inr (.inl r))) => { m with oth := r }
  | 8, (.inr (.inr (.inr (.inl t)))) => { m with data := t }
  | 9, (.inr (.inr (.inr (.inl t)))) => { m with sig := t }
  | 10, (.inr (.inr (.inr (.inr (.inl l))))) => { m with cert := l }
  | 11, (.inr (.inr (.inr (.inr (.inl l))))) => { m with votes := l }
  | 12, (.inr (.inr (.inr (.inr (.inr (.inl l)))))) => { m with order := l }
  | 13, (.inr (.inr (.inr (.inr (.inr (.inr (.inl l))))))) => { m with picks := l }
  | 14, (.inr (.inr (.inr (.inr (.inr (.inr (.inr l))))))) => { m with reps := l }
  | _, _ => m
theorem lt15 {i : Nat} (h : i < 15) : i = 0 ∨ i = 1 ∨ i = 2 ∨ i = 3 ∨ i = 4 ∨ i = 5 ∨ i = 6 ∨ i = 7 ∨ i = 8 ∨ i = 9 ∨ i = 10 ∨ i = 11 ∨ i = 12 ∨ i = 13 ∨ i = 14 := by omega
theorem cF_law {i : Nat} (h : i < 15) : (cF i).Law := by
  rcases lt15 h with rfl | rfl | rfl | rfl | rfl | rfl | rfl | rfl | rfl | rfl | rfl | rfl | rfl | rfl | rfl
  · exact tag_law cBal_law (fun _ => rfl) (fun v a e => by rcases v with x | x | x | x | x | x | x | x <;> simp [unB] at e <;> subst e <;> rfl)
  · exact tag_law cN_law (fun _ => rfl) (fun v a e => by rcases v with x | x | x | x | x | x | x | x <;> simp [unN] at e <;> subst e <;> rfl)
  · exact tag_law cN_law (fun _ => rfl) (fun v a e => by rcases v with x | x | x | x | x | x | x | x <;> simp [unN] at e <;> subst e <;> rfl)
  · exact tag_law cN_law (fun _ => rfl) (fun v a e => by rcases v with x | x | x | x | x | x | x | x <;> simp [unN] at e <;> subst e <;> rfl)
  · exact tag_law cN_law (fun _ => rfl) (fun v a e => by rcases v with x | x | x | x | x | x | x | x <;> simp [unN] at e <;> subst e <;> rfl)
  · exact tag_law cN_law (fun _ => rfl) (fun v a e => by rcases v with x | x | x | x | x | x | x | x <;> simp [unN] at e <;> subst e <;> rfl)
  · exact tag_law cReq_law (fun _ => rfl) (fun v a e => by rcases v with x | x | x | x | x | x | x | x <;> simp [unR] at e <;> subst e <;> rfl)
  · exact tag_law cReq_law (fun _ => rfl) (fun v a e => by rcases v with x | x | x | x | x | x | x | x <;> simp [unR] at e <;> subst e <;> rfl)
  · exact tag_law cT_law (fun _ => rfl) (fun v a e => by rcases v with x | x | x | x | x | x | x | x <;> simp [unT] at e <;> subst e <;> rfl)
  · exact tag_law cT_law (fun _ => rfl) (fun v a e => by rcases v with x | x | x | x | x | x | x | x <;> simp [unT] at e <;> subst e <;> rfl)
  · exact tag_law (cL_law cVote_law) (fun _ => rfl) (fun v a e => by rcases v with x | x | x | x | x | x | x | x <;> simp [unV] at e <;> subst e <;> rfl)
  · exact tag_law (cL_law cVote_law) (fun _ => rfl) (fun v a e => by rcases v with x | x | x | x | x | x | x | x <;> simp [unV] at e <;> subst e <;> rfl)
  · exact tag_law (cL_law cN_law) (fun _ => rfl) (fun v a e => by rcases v with x | x | x | x | x | x | x | x <;> simp [unI] at e <;> subst e <;> rfl)
  · exact tag_law (cL_law cReq_law) (fun _ => rfl) (fun v a e => by rcases v with x | x | x | x | x | x | x | x <;> simp [unQ] at e <;> subst e <;> rfl)
  · exact tag_law (cL_law cRep_law) (fun _ => rfl) (fun v a e => by rcases v with x | x | x | x | x | x | x | x <;> simp [unP] at e <;> subst e <;> rfl)
theorem cF_typ {i : Nat} (h : i < 15) {l r : List Int} {v : FV} (e : (cF i).rd l = some (v, r)) : typ i v = true := by
  rcases lt15 h with rfl | rfl | rfl | rfl | rfl | rfl | rfl | rfl | rfl | rfl | rfl | rfl | rfl | rfl | rfl <;> exact tag_typ (fun _ => rfl) e
theorem get_set (m : PMsg) {i : Nat} (h : i < 15) {v : FV} (ht : typ i v = true) : get (set m i v) i = v := by
  rcases lt15 h with rfl | rfl | rfl | rfl | rfl | rfl | rfl | rfl | rfl | rfl | rfl | rfl | rfl | rfl | rfl <;> rcases v with x | x | x | x | x | x | x | x <;> first | rfl | cases ht
theorem get_set_ne (m : PMsg) {i j : Nat} (h : i < 15) (hj : j < 15) (hn : j ≠ i) (v : FV) : get (set m i v) j = get m j := by
  rcases lt15 h with rfl | rfl | rfl | rfl | rfl | rfl | rfl | rfl | rfl | rfl | rfl | rfl | rfl | rfl | rfl <;> rcases v with x | x | x | x | x | x | x | x <;> first | rfl | (rcases lt15 hj with rfl | rfl | rfl | rfl | rfl | rfl | rfl | rfl | rfl | rfl | rfl | rfl | rfl | rfl | rfl <;> first | rfl | exact absurd rfl hn)
theorem kind_set (m : PMsg) (i : Nat) (v : FV) : (set m i v).kind = m.kind := by
  unfold set; split <;> rfl
/-- Which fields a kind has. -/
def fl (k : Int) : List Nat :=
  if k = 1 then [6] else if k = 2 then [0, 1, 6, 11] else if k = 3 then [0, 1, 6, 10, 11] else if k = 4 then [0, 1, 6, 11] else if k = 5 then [2, 3, 4, 8, 9] else if k = 6 then [0, 2, 3, 9]
  else if k = 7 then [0, 2, 3, 9, 10] else if k = 8 then [14] else if k = 9 then [0, 9, 12, 14] else if k = 10 then [1, 8, 11] else if k = 11 then [1, 2] else if k = 12 then [1, 2, 4, 5, 8, 9]
  else if k = 13 then [0, 1, 2, 4, 6, 7, 8, 9] else if k = 20 then [0] else if k = 21 then [0, 1, 12, 13] else if k = 22 then [0, 1, 6] else if k = 23 then [0, 1, 6, 10] else if k = 24 then [0, 1, 6, 11]
  else if k = 25 then [1, 8, 10] else []
theorem fl_cases (k : Int) : k = 1 ∨ k = 2 ∨ k = 3 ∨ k = 4 ∨ k = 5 ∨ k = 6 ∨ k = 7 ∨ k = 8 ∨ k = 9 ∨ k = 10 ∨ k = 11 ∨ k = 12 ∨ k = 13 ∨ k = 20 ∨ k = 21 ∨ k = 22 ∨ k = 23 ∨ k = 24 ∨ k = 25 ∨ fl k = [] := by
  by_cases h : 1 ≤ k ∧ k ≤ 25 ∧ ¬ (14 ≤ k ∧ k ≤ 19)
  · omega
  · have : fl k = [] := by
      unfold fl
      rw [if_neg (by omega), if_neg (by omega), if_neg (by omega), if_neg (by omega), if_neg (by omega), if_neg (by omega), if_neg (by omega), if_neg (by omega), if_neg (by omega), if_neg (by omega), if_neg (by omega), if_neg (by omega), if_neg (by omega), if_neg (by omega), if_neg (by omega), if_neg (by omega), if_neg (by omega), if_neg (by omega), if_neg (by omega)]
    simp [this]
/-- Fields without another of the same. -/
def nice : List Nat → Bool
  | [] => true
  | i :: r => decide (i < 15) && !r.contains i && nice r
theorem fl_nice (k : Int) : nice (fl k) = true := by
  rcases fl_cases k with h | h | h | h | h | h | h | h | h | h | h | h | h | h | h | h | h | h | h | h
  all_goals first | (subst h; decide) | (rw [h]; rfl)
theorem fl_kind {k : Int} (h : fl k ≠ []) : 0 ≤ k ∧ k ≤ 2147483647 := by
  rcases fl_cases k with h1 | h1 | h1 | h1 | h1 | h1 | h1 | h1 | h1 | h1 | h1 | h1 | h1 | h1 | h1 | h1 | h1 | h1 | h1 | h1
  all_goals first | omega | exact absurd h1 h
def okF (m : PMsg) (i : Nat) : Bool := (cF i).ok (get m i)
def wrF (m : PMsg) (i : Nat) : List Int := (cF i).wr (get m i)
def zV : FV → Bool
  | (.inl b) => b.1 == 0 && b.2 == 0
  | (.inr (.inl n)) => n == 0
  | (.inr (.inr (.inl r))) => r.1 == 0 && r.2.1 == 0 && r.2.2.1.isEmpty && r.2.2.2.isEmpty
  | (.inr (.inr (.inr (.inl t)))) => t.isEmpty
  | (.inr (.inr (.inr (.inr (.inl t))))) => t.isEmpty
  | (.inr (.inr (.inr (.inr (.inr (.inl t)))))) => t.isEmpty
  | (.inr (.inr (.inr (.inr (.inr (.inr (.inl t))))))) => t.isEmpty
  | (.inr (.inr (.inr (.inr (.inr (.inr (.inr t))))))) => t.isEmpty
/-- Is there nothing in the field? -/
def zF (m : PMsg) (i : Nat) : Bool := zV (get m i)
theorem zF_iff (m : PMsg) {i : Nat} (h : i < 15) : zF m i = true ↔ get m i = get zeroM i := by
  rcases lt15 h with rfl | rfl | rfl | rfl | rfl | rfl | rfl | rfl | rfl | rfl | rfl | rfl | rfl | rfl | rfl <;> simp [zF, zV, get, zeroM, fbal, fnum, freq, ftxt, fvotes, fints, freqs, freps, Prod.ext_iff, and_assoc]
theorem okF_zero {i : Nat} (h : i < 15) : okF zeroM i = true := by
  rcases lt15 h with rfl | rfl | rfl | rfl | rfl | rfl | rfl | rfl | rfl | rfl | rfl | rfl | rfl | rfl | rfl <;> rfl
/-- The document's own way of asking it. -/
theorem zF_ref (m : PMsg) {i : Nat} (h : i < 15) : zF m i = (okF m i && decide (wrF m i = wrF zeroM i)) := by
  rw [Bool.eq_iff_iff, zF_iff m h]
  simp only [Bool.and_eq_true, decide_eq_true_eq]
  refine ⟨fun e => ⟨by unfold okF; rw [e]; exact okF_zero h, by unfold wrF; rw [e]⟩, fun ⟨h1, h2⟩ => (cF_law h).inj h1 (okF_zero h) h2⟩
/-- Can't the message be written? -/
def badM (m : PMsg) : Bool := (fl m.kind).isEmpty || (List.range 15).any (fun i => !(fl m.kind).contains i && !zF m i) || (fl m.kind).any fun i => !okF m i
def wrFs (m : PMsg) (fs : List Nat) : List Int := (fs.map (wrF m)).flatten
theorem wrFs_cons (m : PMsg) (i : Nat) (fs : List Nat) : wrFs m (i :: fs) = wrF m i ++ wrFs m fs := by simp [wrFs]
theorem wrFs_snoc (m : PMsg) (i : Nat) (fs : List Nat) : wrFs m (fs ++ [i]) = wrFs m fs ++ wrF m i := by simp [wrFs]
def byM (m : PMsg) : List Int := outI m.kind ++ wrFs m (fl m.kind)
def encE (m : PMsg) : Int := if badM m = true then 51 else if 1048576 < (byM m).length then 53 else 0
def encB (m : PMsg) : List Int := if encE m = 0 then byM m else []
def rdFs : List Nat → PMsg → List Int → Option (PMsg × List Int)
  | [], m, l => some (m, l)
  | i :: fs, m, l => ((cF i).rd l).bind fun x => rdFs fs (set m i x.1) x.2
/-- A message at the head of a list. -/
def rdG (l : List Int) : Option (PMsg × List Int) := (cN.rd l).bind fun x => if (fl x.1).isEmpty = true then none else rdFs (fl x.1) { zeroM with kind := x.1 } x.2
def rdM (l : List Int) : Option PMsg := (rdG l).bind fun y => if y.2.isEmpty = true then some y.1 else none
theorem nice_cons {i : Nat} {fs : List Nat} (h : nice (i :: fs) = true) : i < 15 ∧ i ∉ fs ∧ nice fs = true := by
  simpa [nice, and_assoc] using h
theorem nice_lt : ∀ {fs : List Nat}, nice fs = true → ∀ i ∈ fs, i < 15
  | [], _, i, h => by cases h
  | j :: fs, h, i, hi => by
    have h := nice_cons h
    rcases List.mem_cons.1 hi with e | e
    · rw [e]; exact h.1
    · exact nice_lt h.2.2 i e
theorem rdFs_bwd : ∀ (fs : List Nat) (m0 : PMsg) (l : List Int) (m : PMsg) (r : List Int), nice fs = true → Byt l → rdFs fs m0 l = some (m, r) →
    m.kind = m0.kind ∧ (∀ i ∈ fs, okF m i = true) ∧ l = wrFs m fs ++ r ∧ ∀ j, j < 15 → j ∉ fs → get m j = get m0 j
  | [], m0, l, m, r, _, _, e => by
    simp only [rdFs, Option.some.injEq, Prod.mk.injEq] at e
    obtain ⟨rfl, rfl⟩ := e
    simp [wrFs]
  | i :: fs, m0, l, m, r, hn, hl, e => by
    obtain ⟨h15, hni, hn'⟩ := nice_cons hn
    simp only [rdFs] at e
    cases h1 : (cF i).rd l with
    | none => rw [h1] at e; cases e
    | some x =>
      obtain ⟨v, l1⟩ := x
      rw [h1] at e
      simp only [Option.bind_some] at e
      obtain ⟨o1, e1⟩ := (cF_law h15).bwd l v l1 hl h1
      obtain ⟨k2, o2, e2, g2⟩ := rdFs_bwd fs (set m0 i v) l1 m r hn' (by rw [e1] at hl; exact hl.right) e
      have hgi : get m i = v := by rw [g2 i h15 hni, get_set m0 h15 (cF_typ h15 h1)]
      refine ⟨k2.trans (kind_set _ _ _), fun j hj => ?_, ?_, fun j hj hjn => ?_⟩
      · rcases List.mem_cons.1 hj with ej | ej
        · rw [ej]; unfold okF; rw [hgi]; exact o1
        · exact o2 j ej
      · rw [wrFs_cons, List.append_assoc, ← e2, e1]
        unfold wrF
        rw [hgi]
      · simp only [List.mem_cons, not_or] at hjn
        rw [g2 j hj hjn.2, get_set_ne m0 h15 hj hjn.1]
theorem badM_no {m : PMsg} (h : badM m = false) : fl m.kind ≠ [] ∧ (∀ i, i < 15 → i ∉ fl m.kind → get m i = get zeroM i) ∧ ∀ i ∈ fl m.kind, okF m i = true := by
  simp only [badM, Bool.or_eq_false_iff, List.isEmpty_eq_false_iff] at h
  obtain ⟨⟨h1, h2⟩, h3⟩ := h
  refine ⟨h1, fun i hi hn => ?_, fun i hi => ?_⟩
  · rw [List.any_eq_false] at h2
    have := h2 i (List.mem_range.2 hi)
    refine (zF_iff m hi).1 ?_
    cases hz : zF m i
    · simp [hz, hn] at this
    · rfl
  · rw [List.any_eq_false] at h3
    have := h3 i hi
    simpa using this
theorem badM_of {m : PMsg} (h1 : fl m.kind ≠ []) (h2 : ∀ i, i < 15 → i ∉ fl m.kind → get m i = get zeroM i) (h3 : ∀ i ∈ fl m.kind, okF m i = true) : badM m = false := by
  simp only [badM, Bool.or_eq_false_iff, List.isEmpty_eq_false_iff]
  refine ⟨⟨h1, ?_⟩, ?_⟩
  · rw [List.any_eq_false]
    intro i hi
    have hi := List.mem_range.1 hi
    by_cases hn : i ∈ fl m.kind
    · simp [hn]
    · have := (zF_iff m hi).2 (h2 i hi hn)
      simp [this]
  · rw [List.any_eq_false]
    intro i hi
    simp [h3 i hi]
theorem rdG_bwd {l : List Int} {m : PMsg} {r : List Int} (hl : Byt l) (e : rdG l = some (m, r)) : badM m = false ∧ l = byM m ++ r := by
  unfold rdG at e
  cases h1 : cN.rd l with
  | none => rw [h1] at e; cases e
  | some x =>
    obtain ⟨k, l1⟩ := x
    rw [h1] at e
    simp only [Option.bind_some] at e
    obtain ⟨o1, e1⟩ := cN_law.bwd l k l1 hl h1
    by_cases hc : (fl k).isEmpty = true
    · rw [if_pos hc] at e; cases e
    · rw [if_neg hc] at e
      obtain ⟨hk, ho, el, hg⟩ := rdFs_bwd (fl k) _ l1 m r (fl_nice _) (by rw [e1] at hl; exact hl.right) e
      have hk : m.kind = k := hk
      subst hk
      refine ⟨badM_of (by simpa using hc) (fun i hi hn => ?_) ho, ?_⟩
      · rw [hg i hi hn]
        rcases lt15 hi with rfl | rfl | rfl | rfl | rfl | rfl | rfl | rfl | rfl | rfl | rfl | rfl | rfl | rfl | rfl <;> rfl
      · unfold byM
        rw [List.append_assoc, ← el, e1]
        rfl
theorem rdM_bwd {l : List Int} {m : PMsg} (hl : Byt l) (e : rdM l = some m) : badM m = false ∧ byM m = l := by
  unfold rdM at e
  cases h1 : rdG l with
  | none => rw [h1] at e; cases e
  | some x =>
    obtain ⟨m', r⟩ := x
    rw [h1] at e
    simp only [Option.bind_some] at e
    by_cases hr : r.isEmpty = true
    · rw [if_pos hr] at e
      injection e with e
      subst e
      obtain ⟨h2, h3⟩ := rdG_bwd hl h1
      obtain rfl : r = [] := by simpa using hr
      exact ⟨h2, by rw [h3, List.append_nil]⟩
    · rw [if_neg hr] at e; cases e
#print axioms rdM_bwd
end Oct
end
end Go.Proofs.YtgbfmccecnfooaaGreatDoor
