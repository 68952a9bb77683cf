/- Ballots, plain: the numbers of clusters, places, orders, the turned order; nothing of any program. -/
import Derived.Test.YtgjepofinpmcpaaGreatDoorMAA
namespace Go.Proofs.YtgjepofinpmcpaaGreatDoor
section
namespace Oct
def zB8 : List (List Int) → List Int
  | [] => []
  | l :: r => enc l.length ++ l ++ zB8 r
theorem zLp : ∀ (a b : List (List Int)), zB8 (a ++ b) = zB8 a ++ zB8 b
  | [], b => rfl
  | l :: r, b => by simp [zB8, zLp r b]
theorem zJm (a : List (List Int)) (l : List Int) : zB8 (a ++ [l]) = zB8 a ++ enc l.length ++ l := by rw [zLp]; simp [zB8]
def tot : List (List Int) → Nat
  | [] => 0
  | l :: r => l.length + 1 + tot r
theorem zLf : ∀ (a b : List (List Int)), tot (a ++ b) = tot a + tot b
  | [], b => by simp [tot]
  | l :: r, b => by simp [tot, zLf r b]; omega
theorem zDp : ∀ (ll : List (List Int)), (zB8 ll).length ≤ 10 * tot ll
  | [] => by simp [zB8]
  | l :: r => by
    have h1 := zDp r
    have h2 := zB7 (l.length : Int)
    simp only [zB8, tot, List.length_append]
    omega
theorem zGp : ∀ (ll : List (List Int)), ll.length ≤ tot ll
  | [] => by simp [tot]
  | l :: r => by have := zGp r; simp [tot]; omega
theorem zNx : ∀ {ll : List (List Int)} {l : List Int}, l ∈ ll → l.length < tot ll
  | [], _, h => by cases h
  | x :: r, l, h => by
    rcases List.mem_cons.1 h with e | e
    · subst e; simp [tot]; omega
    · have := zNx e; simp [tot]; omega
theorem zBa {α : Type} (l : List α) (k : Nat) (x : α) (h : l[k]? = some x) : l.take (k + 1) = l.take k ++ [x] := by
  obtain ⟨hk, e⟩ := List.getElem?_eq_some_iff.1 h
  rw [List.take_succ_eq_append_getElem hk, e]
theorem zOq (ll : List (List Int)) (k : Nat) : tot (ll.take k) ≤ tot ll := by
  have := zLf (ll.take k) (ll.drop k)
  rw [List.take_append_drop] at this
  omega
def Byts (ll : List (List Int)) : Prop := ∀ l ∈ ll, Byt l
theorem zHy : ∀ {ll : List (List Int)}, Byts ll → tot ll ≤ 1000000000 → Byt (zB8 ll)
  | [], _, _ => Byt.nil
  | l :: r, h, ht => by
    simp only [tot] at ht
    exact ((zGm _ (by omega) (by omega)).app (h l (by simp))).app (zHy (fun x hx => h x (by simp [hx])) (by omega))
/-! Unpacking -/
theorem zQy (l : List Int) (p : Nat) (hb : Byt l) : zD9 l p 2147483647 = ([], 0, 11) ∨
    ∃ (t : List Int) (s : Nat), zD9 l p 2147483647 = (t, (s : Int), 0) ∧ l.drop p = enc t.length ++ t ++ l.drop s ∧ s ≤ l.length ∧ p + t.length + 1 ≤ s := by
  rcases zGo l p hb with hg | ⟨n, k, q, hpq, hg, hn, k1, k5, kl, ht⟩
  · left; unfold zD9; rw [hg]; simp
  · have hq : p = q := by omega
    subst hq
    by_cases hr : (l.length : Int) - ((p + k : Nat) : Int) < (n : Int)
    · left; unfold zD9; rw [hg, if_pos (.inr (.inr hr))]
    · right
      have hlen : ((l.drop (p + k)).take n).length = n := by rw [List.length_take, List.length_drop]; omega
      refine ⟨(l.drop (p + k)).take n, p + k + n, ?_, ?_, by omega, by omega⟩
      · unfold zD9
        rw [hg, if_neg (by simp; omega)]
        simp only [Int.toNat_natCast]
        simp
      · rw [hlen, ← ht, List.append_assoc]
        have e1 : l.drop (p + k + n) = (l.drop (p + k)).drop n := by rw [List.drop_drop]
        have e2 : l.drop (p + k) = (l.drop p).drop k := by rw [List.drop_drop]
        rw [e1, List.take_append_drop, e2, List.take_append_drop]
def zQr : Nat → List Int → Int → Option (List (List Int))
  | 0, _, _ => some []
  | f + 1, l, p => if p < (l.length : Int) then (if (zD9 l p 2147483647).2.2 = 0 then (zQr f l (zD9 l p 2147483647).2.1).map ((zD9 l p 2147483647).1 :: ·) else none) else some []
def unp (l : List Int) : Option (List (List Int)) := zQr (l.length + 1) l 0
theorem zKy (f : Nat) (l : List Int) (p : Nat) (h : l.length ≤ p) : zQr (f + 1) l p = some [] := by
  simp only [zQr]; rw [if_neg (by omega)]
theorem zU0 (f : Nat) (l : List Int) (p : Nat) (h : p < l.length) (hg : zD9 l p 2147483647 = ([], 0, 11)) : zQr (f + 1) l p = none := by
  simp only [zQr]; rw [if_pos (by omega), hg, if_neg (by decide)]
theorem zO9 (f : Nat) (l : List Int) (p : Nat) (h : p < l.length) {t : List Int} {s : Nat} (hg : zD9 l p 2147483647 = (t, (s : Int), 0)) : zQr (f + 1) l p = (zQr f l s).map (t :: ·) := by
  simp only [zQr]; rw [if_pos (by omega), hg, if_pos rfl]
theorem zMh : ∀ (f : Nat) (l : List Int) (p : Nat) (ll : List (List Int)), Byt l → p ≤ l.length → l.length - p < f → zQr f l p = some ll → zB8 ll = l.drop p ∧ Byts ll ∧ tot ll + p ≤ l.length
  | 0, l, p, ll, _, _, h, _ => by omega
  | f + 1, l, p, ll, hb, hp, hf, h => by
    by_cases hpl : p < l.length
    · rcases zQy l p hb with hg | ⟨t, s, hg, hd, hs, hps⟩
      · rw [zU0 f l p hpl hg] at h; cases h
      · rw [zO9 f l p hpl hg] at h
        obtain ⟨r, hr, rfl⟩ := Option.map_eq_some_iff.1 h
        obtain ⟨i1, i2, i3⟩ := zMh f l s r hb hs (by omega) hr
        have hbt : Byt t := by
          have := zK9 l p 2147483647 hb
          rw [hg] at this
          exact this
        refine ⟨?_, ?_, ?_⟩
        · simp only [zB8]; rw [i1, hd]
        · intro x hx
          rcases List.mem_cons.1 hx with e | e
          · subst e; exact hbt
          · exact i2 x e
        · simp only [tot]; omega
    · rw [zKy f l p (by omega)] at h
      cases h
      refine ⟨?_, fun x hx => by (cases hx), by simp [tot]; omega⟩
      rw [List.drop_eq_nil_of_le (by omega)]; rfl
theorem unp_some {l : List Int} {ll : List (List Int)} (hb : Byt l) (h : unp l = some ll) : zB8 ll = l ∧ Byts ll ∧ tot ll ≤ l.length := by
  obtain ⟨h1, h2, h3⟩ := zMh (l.length + 1) l 0 ll hb (Nat.zero_le _) (by omega) h
  exact ⟨by simpa using h1, h2, by omega⟩
theorem getB_at (a t b : List Int) (ht : t.length ≤ 2147483647) : zD9 (a ++ (enc t.length ++ t ++ b)) (a.length : Int) 2147483647 = (t, ((a.length + (enc t.length).length + t.length : Nat) : Int), 0) := by
  have hl := zB7 (t.length : Int)
  have hg : zE6 (a ++ (enc t.length ++ t ++ b)) (a.length : Int) = ((t.length : Int), ((a.length + (enc t.length).length : Nat) : Int), 0) := by
    have := zD3 (l := a ++ (enc t.length ++ t ++ b)) a.length (by simp) (n := (t.length : Int)) (k := (enc t.length).length) (by
      rw [List.drop_left, List.append_assoc]
      exact zKc _ _ (by omega) (by omega))
    rw [this]
    simp
  unfold zD9
  rw [hg, if_neg (by simp; omega)]
  simp only [Int.toNat_natCast]
  have e : (a ++ (enc t.length ++ t ++ b)).drop (a.length + (enc t.length).length) = t ++ b := by
    rw [← List.drop_drop, List.drop_left, List.append_assoc, List.drop_left]
  rw [e, List.take_left]
  simp
theorem zMk : ∀ (ll : List (List Int)) (f : Nat) (a : List Int), tot ll ≤ 2147483647 → (zB8 ll).length < f → zQr f (a ++ zB8 ll) (a.length : Int) = some ll
  | [], f, a, _, hf => by
    obtain ⟨g, rfl⟩ : ∃ g, f = g + 1 := ⟨f - 1, by omega⟩
    exact zKy g _ _ (by simp [zB8])
  | t :: r, f, a, ht, hf => by
    obtain ⟨g, rfl⟩ : ∃ g, f = g + 1 := ⟨f - 1, by omega⟩
    have hl := zB7 (t.length : Int)
    simp only [tot] at ht
    simp only [zB8, List.length_append] at hf
    have hg := getB_at a t (zB8 r) (by omega)
    have e := zO9 g (a ++ zB8 (t :: r)) a.length (by simp only [zB8, List.length_append]; omega) hg
    rw [e]
    have e2 : a ++ zB8 (t :: r) = (a ++ enc t.length ++ t) ++ zB8 r := by simp [zB8]
    have e3 : a.length + (enc t.length).length + t.length = (a ++ enc (t.length : Int) ++ t).length := by simp only [List.length_append]
    rw [e2, e3, zMk r g (a ++ enc t.length ++ t) (by omega) (by omega)]
    rfl
theorem zOd (ll : List (List Int)) (ht : tot ll ≤ 2147483647) : unp (zB8 ll) = some ll := by
  have := zMk ll ((zB8 ll).length + 1) [] ht (by omega)
  simpa [unp] using this
theorem zUj {a b : List (List Int)} (ha : tot a ≤ 2147483647) (hb : tot b ≤ 2147483647) (h : zB8 a = zB8 b) : a = b := by
  have h1 := zOd a ha
  have h2 := zOd b hb
  rw [h] at h1
  rw [h1] at h2
  exact Option.some.inj h2
def UWay (l : List Int) (p : Nat) (done : List (List Int)) : Prop := ∃ f, l.length - p < f ∧ (zQr f l p).map (done ++ ·) = unp l
theorem UWay.end {l : List Int} {p : Nat} {done : List (List Int)} (h : UWay l p done) (hp : l.length ≤ p) : unp l = some done := by
  obtain ⟨f, hf, e⟩ := h
  obtain ⟨g, rfl⟩ : ∃ g, f = g + 1 := ⟨f - 1, by omega⟩
  rw [zKy g l p hp] at e
  rw [← e]
  simp
theorem UWay.no {l : List Int} {p : Nat} {done : List (List Int)} (h : UWay l p done) (hp : p < l.length) (hg : zD9 l p 2147483647 = ([], 0, 11)) : unp l = none := by
  obtain ⟨f, hf, e⟩ := h
  obtain ⟨g, rfl⟩ : ∃ g, f = g + 1 := ⟨f - 1, by omega⟩
  rw [zU0 g l p hp hg] at e
  rw [← e]
  rfl
theorem UWay.go {l : List Int} {p : Nat} {done : List (List Int)} (h : UWay l p done) (hp : p < l.length) {t : List Int} {s : Nat} (hg : zD9 l p 2147483647 = (t, (s : Int), 0)) (hs : p < s) : UWay l s (done ++ [t]) := by
  obtain ⟨f, hf, e⟩ := h
  obtain ⟨g, rfl⟩ : ∃ g, f = g + 1 := ⟨f - 1, by omega⟩
  rw [zO9 g l p hp hg] at e
  refine ⟨g, by omega, ?_⟩
  rw [← e]
  cases zQr g l s <;> simp
end Oct
end
section
namespace Oct
structure Cdc (α : Type) where
  ok : α → Bool
  wr : α → List Int
  rd : List Int → Option (α × List Int)
structure Cdc.Law {α : Type} (c : Cdc α) : Prop where
  fwd : ∀ (a : α) (r : List Int), c.ok a = true → c.rd (c.wr a ++ r) = some (a, r)
  bwd : ∀ (l : List Int) (a : α) (r : List Int), Byt l → c.rd l = some (a, r) → c.ok a = true ∧ l = c.wr a ++ r
theorem Cdc.Law.inj {α : Type} {c : Cdc α} (h : c.Law) {a b : α} (ha : c.ok a = true) (hb : c.ok b = true) (e : c.wr a = c.wr b) : a = b := by
  have h1 := h.fwd a [] ha
  have h2 := h.fwd b [] hb
  rw [e, h2] at h1
  injection h1 with h3
  injection h3 with h4
  exact h4.symm
def cN : Cdc Int := ⟨okI, zCm, fun l => (num l).map fun nk => (nk.1, l.drop nk.2)⟩
theorem zBt : cN.Law where
  fwd a r h := by
    have hb := zGc h
    show ((num (zCm a ++ r)).map fun nk => (nk.1, (zCm a ++ r).drop nk.2)) = _
    rw [zCj hb.1 hb.2, zKc a r hb.1 hb.2]
    simp
  bwd l a r hl h := by
    simp only [cN] at h ⊢
    cases hn : num l with
    | none => rw [hn] at h; cases h
    | some nk =>
      obtain ⟨n, k⟩ := nk
      rw [hn] at h
      simp only [Option.map_some, Option.some.injEq, Prod.mk.injEq] at h
      obtain ⟨rfl, rfl⟩ := h
      obtain ⟨h0, h1, _, _, _, ht⟩ := zF3 hl hn
      refine ⟨zBm h0 h1, ?_⟩
      rw [zCj h0 h1, ← ht, List.take_append_drop]
def cT : Cdc (List Int) := ⟨fun t => decide (t.length ≤ 65536), fun t => enc t.length ++ t,
  fun l => (num l).bind fun nk => if 65536 < nk.1 ∨ (l.length : Int) - nk.2 < nk.1 then none else some ((l.drop nk.2).take nk.1.toNat, (l.drop nk.2).drop nk.1.toNat)⟩
theorem zI2 : cT.Law where
  fwd a r h := by
    have hb : a.length ≤ 65536 := by simpa [cT] using h
    simp only [cT]
    rw [List.append_assoc, zKc (a.length : Int) (a ++ r) (by omega) (by omega)]
    simp only [Option.bind_some, List.length_append]
    rw [if_neg (by omega)]
    simp
  bwd l a r hl h := by
    simp only [cT] at h ⊢
    cases hn : num l with
    | none => rw [hn] at h; cases h
    | some nk =>
      obtain ⟨n, k⟩ := nk
      rw [hn] at h
      simp only [Option.bind_some] at h
      obtain ⟨h0, h1, k1, k5, kl, ht⟩ := zF3 hl hn
      by_cases hc : 65536 < n ∨ (l.length : Int) - k < n
      · rw [if_pos hc] at h; cases h
      · rw [if_neg hc] at h
        simp only [Option.some.injEq, Prod.mk.injEq] at h
        obtain ⟨rfl, rfl⟩ := h
        have hlen : ((l.drop k).take n.toNat).length = n.toNat := by rw [List.length_take, List.length_drop]; omega
        rw [hlen]
        refine ⟨by simp; omega, ?_⟩
        rw [show ((n.toNat : Nat) : Int) = n by omega, ← ht, List.append_assoc, List.take_append_drop, List.take_append_drop]
def cP {α β : Type} (c : Cdc α) (d : Cdc β) : Cdc (α × β) :=
  ⟨fun x => c.ok x.1 && d.ok x.2, fun x => c.wr x.1 ++ d.wr x.2, fun l => (c.rd l).bind fun x => (d.rd x.2).map fun y => ((x.1, y.1), y.2)⟩
theorem zDh {α β : Type} {c : Cdc α} {d : Cdc β} (hc : c.Law) (hd : d.Law) : (cP c d).Law where
  fwd a r h := by
    simp only [cP, Bool.and_eq_true] at h ⊢
    rw [List.append_assoc, hc.fwd a.1 _ h.1]
    simp only [Option.bind_some]
    rw [hd.fwd a.2 r h.2]
    rfl
  bwd l a r hl h := by
    simp only [cP, Bool.and_eq_true] at h ⊢
    cases h1 : c.rd l with
    | none => rw [h1] at h; cases h
    | some x =>
      obtain ⟨x, l1⟩ := x
      rw [h1] at h
      simp only [Option.bind_some] at h
      obtain ⟨o1, e1⟩ := hc.bwd l x l1 hl h1
      cases h2 : d.rd l1 with
      | none => rw [h2] at h; cases h
      | some y =>
        obtain ⟨y, l2⟩ := y
        rw [h2] at h
        simp only [Option.map_some, Option.some.injEq, Prod.mk.injEq] at h
        obtain ⟨rfl, rfl⟩ := h
        obtain ⟨o2, e2⟩ := hd.bwd l1 y l2 (by rw [e1] at hl; exact hl.right) h2
        exact ⟨⟨o1, o2⟩, by rw [e1, e2, List.append_assoc]⟩
def rdN {α : Type} (c : Cdc α) : Nat → List Int → Option (List α × List Int)
  | 0, l => some ([], l)
  | n + 1, l => (c.rd l).bind fun x => (rdN c n x.2).map fun y => (x.1 :: y.1, y.2)
def wrN {α : Type} (c : Cdc α) (as0 : List α) : List Int := (as0.map c.wr).flatten
theorem zHh {α : Type} (c : Cdc α) (a : α) (as0 : List α) : wrN c (a :: as0) = c.wr a ++ wrN c as0 := by simp [wrN]
theorem zN4 {α : Type} (c : Cdc α) (as0 bs : List α) : wrN c (as0 ++ bs) = wrN c as0 ++ wrN c bs := by simp [wrN]
theorem zU7 {α : Type} (c : Cdc α) (a : α) : wrN c [a] = c.wr a := by simp [wrN]
theorem zS8 {α : Type} {c : Cdc α} (h : c.Law) : ∀ (as0 : List α) (r : List Int), as0.all c.ok = true → rdN c as0.length (wrN c as0 ++ r) = some (as0, r)
  | [], r, _ => by simp [rdN, wrN]
  | a :: as0, r, ho => by
    simp only [List.all_cons, Bool.and_eq_true] at ho
    simp only [List.length_cons, rdN]
    rw [zHh, List.append_assoc, h.fwd a _ ho.1]
    simp only [Option.bind_some]
    rw [zS8 h as0 r ho.2]
    rfl
theorem zSx {α : Type} {c : Cdc α} (h : c.Law) : ∀ (n : Nat) (l : List Int) (as0 : List α) (r : List Int), Byt l → rdN c n l = some (as0, r) → as0.all c.ok = true ∧ as0.length = n ∧ l = wrN c as0 ++ r
  | 0, l, as0, r, _, e => by
    simp only [rdN, Option.some.injEq, Prod.mk.injEq] at e
    obtain ⟨rfl, rfl⟩ := e
    simp [wrN]
  | n + 1, l, as0, r, hl, e => by
    simp only [rdN] at e
    cases h1 : c.rd l with
    | none => rw [h1] at e; cases e
    | some x =>
      obtain ⟨x, l1⟩ := x
      rw [h1] at e
      simp only [Option.bind_some] at e
      obtain ⟨o1, e1⟩ := h.bwd l x l1 hl h1
      cases h2 : rdN c n l1 with
      | none => rw [h2] at e; cases e
      | some y =>
        obtain ⟨y, l2⟩ := y
        rw [h2] at e
        simp only [Option.map_some, Option.some.injEq, Prod.mk.injEq] at e
        obtain ⟨rfl, rfl⟩ := e
        obtain ⟨o2, e2, e3⟩ := zSx h n l1 y l2 (by rw [e1] at hl; exact hl.right) h2
        exact ⟨by simp [o1, o2], by simp [e2], by rw [e1, e3, zHh, List.append_assoc]⟩
theorem zCt {α : Type} (c : Cdc α) : ∀ (n : Nat) (l : List Int), rdN c (n + 1) l = (rdN c n l).bind fun x => (c.rd x.2).map fun y => (x.1 ++ [y.1], y.2)
  | 0, l => by
    simp only [rdN, Option.bind_some]
    cases c.rd l <;> rfl
  | n + 1, l => by
    show ((c.rd l).bind fun x => (rdN c (n + 1) x.2).map fun y => (x.1 :: y.1, y.2)) = (((c.rd l).bind fun x => (rdN c n x.2).map fun y => (x.1 :: y.1, y.2))).bind _
    simp only [zCt c n]
    cases c.rd l with
    | none => rfl
    | some x =>
      simp only [Option.bind_some]
      cases rdN c n x.2 with
      | none => rfl
      | some y =>
        simp only [Option.bind_some, Option.map_some]
        cases c.rd y.2 <;> rfl
theorem zPq {α : Type} {c : Cdc α} {n : Nat} {l : List Int} (h : rdN c n l = none) : ∀ m, n ≤ m → rdN c m l = none
  | m, hm => by
    obtain ⟨k, rfl⟩ := Nat.exists_eq_add_of_le hm
    induction k with
    | zero => exact h
    | succ k ih => rw [← Nat.add_assoc, zCt, ih (by omega)]; rfl
def cL {α : Type} (c : Cdc α) : Cdc (List α) :=
  ⟨fun as0 => decide (as0.length ≤ 64) && as0.all c.ok, fun as0 => zCm as0.length ++ wrN c as0, fun l => (cN.rd l).bind fun x => if 64 < x.1 then none else rdN c x.1.toNat x.2⟩
theorem zGv {α : Type} {c : Cdc α} (h : c.Law) : (cL c).Law where
  fwd as0 r ho := by
    simp only [cL, Bool.and_eq_true, decide_eq_true_eq] at ho ⊢
    rw [List.append_assoc]
    have h1 : cN.rd (zCm (as0.length : Int) ++ (wrN c as0 ++ r)) = some ((as0.length : Int), wrN c as0 ++ r) := zBt.fwd (as0.length : Int) _ (zBm (by omega) (by omega))
    rw [h1]
    simp only [Option.bind_some]
    rw [if_neg (by omega), Int.toNat_natCast, zS8 h as0 r ho.2]
  bwd l as0 r hl e := by
    simp only [cL, Bool.and_eq_true, decide_eq_true_eq] at e ⊢
    cases h1 : cN.rd l with
    | none => rw [h1] at e; cases e
    | some x =>
      obtain ⟨n, l1⟩ := x
      rw [h1] at e
      simp only [Option.bind_some] at e
      obtain ⟨o1, e1⟩ := zBt.bwd l n l1 hl h1
      have hn := zGc o1
      by_cases hc : 64 < n
      · rw [if_pos hc] at e; cases e
      · rw [if_neg hc] at e
        obtain ⟨o2, e2, e3⟩ := zSx h n.toNat l1 as0 r (by rw [e1] at hl; exact hl.right) e
        refine ⟨⟨by omega, o2⟩, ?_⟩
        rw [e2, show ((n.toNat : Nat) : Int) = n by omega, List.append_assoc, ← e3, e1]
        rfl
theorem Cdc.Law.tail {α : Type} {c : Cdc α} (h : c.Law) {l : List Int} {a : α} {r : List Int} (hl : Byt l) (e : c.rd l = some (a, r)) : r = l.drop (c.wr a).length := by
  obtain ⟨_, rfl⟩ := h.bwd l a r hl e
  simp
/-! The records. -/
abbrev zTt := Int × Int
abbrev zB3 := Int × Int × List Int × List Int
abbrev zAy := Int × List Int
abbrev zCo := Int × zTt × zB3 × List zAy
abbrev zF8 := zTt × Int × Int × List Int × List zAy × List zCo × List Int
def zI1 : Cdc zTt := cP cN cN
def zBc : Cdc zB3 := cP cN (cP cN (cP cT cT))
def zAi : Cdc zAy := cP cN cT
def zAo : Cdc zCo := cP cN (cP zI1 (cP zBc (cL zAi)))
def zBr : Cdc zF8 := cP zI1 (cP cN (cP cN (cP cT (cP (cL zAi) (cP (cL zAo) cT)))))
theorem zKg : zI1.Law := zDh zBt zBt
theorem zHc : zBc.Law := zDh zBt (zDh zBt (zDh zI2 zI2))
theorem zFt : zAi.Law := zDh zBt zI2
theorem zRs : zAo.Law := zDh zBt (zDh zKg (zDh zHc (zGv zFt)))
theorem cRep_law : zBr.Law := zDh zKg (zDh zBt (zDh zBt (zDh zI2 (zDh (zGv zFt) (zDh (zGv zRs) zI2)))))
end Oct
end
section
namespace Oct
structure PMsg where
  kind : Int
  bal : zTt
  slot : Int
  frm : Int
  to : Int
  idx : Int
  cnt : Int
  req : zB3
  oth : zB3
  data : List Int
  sig : List Int
  cert : List zAy
  votes : List zAy
  order : List Int
  picks : List zB3
  reps : List zF8
def zAc : PMsg := ⟨0, (0, 0), 0, 0, 0, 0, 0, (0, 0, [], []), (0, 0, [], []), [], [], [], [], [], [], []⟩
abbrev FV := zTt ⊕ Int ⊕ zB3 ⊕ List Int ⊕ List zAy ⊕ List Int ⊕ List zB3 ⊕ List zF8
def fbal (x : zTt) : FV := (.inl x)
def zIz (x : Int) : FV := (.inr (.inl x))
def zLi (x : zB3) : FV := (.inr (.inr (.inl x)))
def zOv (x : List Int) : FV := (.inr (.inr (.inr (.inl x))))
def zFc (x : List zAy) : FV := (.inr (.inr (.inr (.inr (.inl x)))))
def zRc (x : List Int) : FV := (.inr (.inr (.inr (.inr (.inr (.inl x))))))
def zQf (x : List zB3) : FV := (.inr (.inr (.inr (.inr (.inr (.inr (.inl x)))))))
def zQ8 (x : List zF8) : FV := (.inr (.inr (.inr (.inr (.inr (.inr (.inr x)))))))
def unB : FV → Option zTt | (.inl b) => some b | _ => none
def unN : FV → Option Int | (.inr (.inl n)) => some n | _ => none
def unR : FV → Option zB3 | (.inr (.inr (.inl r))) => some r | _ => none
def unT : FV → Option (List Int) | (.inr (.inr (.inr (.inl t)))) => some t | _ => none
def unV : FV → Option (List zAy) | (.inr (.inr (.inr (.inr (.inl t))))) => some t | _ => none
def unI : FV → Option (List Int) | (.inr (.inr (.inr (.inr (.inr (.inl t)))))) => some t | _ => none
def unQ : FV → Option (List zB3) | (.inr (.inr (.inr (.inr (.inr (.inr (.inl t))))))) => some t | _ => none
def unP : FV → Option (List zF8) | (.inr (.inr (.inr (.inr (.inr (.inr (.inr t))))))) => some t | _ => none
def tag {α : Type} (c : Cdc α) (mk : α → FV) (un : FV → Option α) : Cdc FV :=
  ⟨fun v => match un v with | some a => c.ok a | none => false, fun v => match un v with | some a => c.wr a | none => [], fun l => (c.rd l).map fun x => (mk x.1, x.2)⟩
theorem zC3 {α : Type} {c : Cdc α} {mk : α → FV} {un : FV → Option α} (h : c.Law) (hu : ∀ a, un (mk a) = some a) (hm : ∀ v a, un v = some a → v = mk a) : (tag c mk un).Law where
  fwd v r ho := by
    simp only [tag] at ho ⊢
    cases hv : un v with
    | none => rw [hv] at ho; cases ho
    | some a =>
      rw [hv] at ho
      simp only [] at ho ⊢
      rw [h.fwd a r ho, hm v a hv]
      rfl
  bwd l v r hl e := by
    simp only [tag] at e ⊢
    cases h1 : c.rd l with
    | none => rw [h1] at e; cases e
    | some x =>
      obtain ⟨a, l1⟩ := x
      rw [h1] at e
      simp only [Option.map_some, Option.some.injEq, Prod.mk.injEq] at e
      obtain ⟨rfl, rfl⟩ := e
      rw [hu a]
      exact h.bwd l a l1 hl h1
theorem tag_typ {α : Type} {c : Cdc α} {mk : α → FV} {un : FV → Option α} {l : List Int} {v : FV} {r : List Int} (hu : ∀ a, un (mk a) = some a) (e : (tag c mk un).rd l = some (v, r)) : (un v).isSome = true := by
  simp only [tag] at e
  obtain ⟨x, _, e⟩ := Option.map_eq_some_iff.1 e
  injection e with e1 _
  rw [← e1, hu]
  rfl
def cI : Cdc (List Int) := cL cN
def cF : Nat → Cdc FV
  | 0 => tag zI1 fbal unB
  | 1 => tag cN zIz unN
  | 2 => tag cN zIz unN
  | 3 => tag cN zIz unN
  | 4 => tag cN zIz unN
  | 5 => tag cN zIz unN
  | 6 => tag zBc zLi unR
  | 7 => tag zBc zLi unR
  | 8 => tag cT zOv unT
  | 9 => tag cT zOv unT
  | 10 => tag (cL zAi) zFc unV
  | 11 => tag (cL zAi) zFc unV
  | 12 => tag cI zRc unI
  | 13 => tag (cL zBc) zQf unQ
  | _ => tag (cL zBr) zQ8 unP
def typ : Nat → FV → Bool
  | 0, v => (unB v).isSome
  | 1, v => (unN v).isSome
  | 2, v => (unN v).isSome
  | 3, v => (unN v).isSome
  | 4, v => (unN v).isSome
  | 5, v => (unN v).isSome
  | 6, v => (unR v).isSome
  | 7, v => (unR v).isSome
  | 8, v => (unT v).isSome
  | 9, v => (unT v).isSome
  | 10, v => (unV v).isSome
  | 11, v => (unV v).isSome
  | 12, v => (unI v).isSome
  | 13, v => (unQ v).isSome
  | _, v => (unP v).isSome
def get (m : PMsg) : Nat → FV
  | 0 => fbal m.bal
  | 1 => zIz m.slot
  | 2 => zIz m.frm
  | 3 => zIz m.to
  | 4 => zIz m.idx
  | 5 => zIz m.cnt
  | 6 => zLi m.req
  | 7 => zLi m.oth
  | 8 => zOv m.data
  | 9 => zOv m.sig
  | 10 => zFc m.cert
  | 11 => zFc m.votes
  | 12 => zRc m.order
  | 13 => zQf m.picks
  | _ => zQ8 m.reps
def set (m : PMsg) : Nat → FV → PMsg
  | 0, (.inl b) => { m with bal := b }
  | 1, (.inr (.inl n)) => { m with slot := n }
  | 2, (.inr (.inl n)) => { m with frm := n }
  | 3, (.inr (.inl n)) => { m with to := n }
  | 4, (.inr (.inl n)) => { m with idx := n }
  | 5, (.inr (.inl n)) => { m with cnt := n }
  | 6, (.inr (.inr (.inl r))) => { m with req := r }
  | 7, (.inr (.inr (.inl r))) => { m with oth := r }
  | 8, (.inr (.inr (.inr (.inl t)))) => { m with data := t }
  | 9, (.inr (.inr (.inr (.inl t)))) => { m with sig := t }
  | 10, (.inr (.inr (.inr (.inr (.inl l))))) => { m with cert := l }
  | 11, (.inr (.inr (.inr (.inr (.inl l))))) => { m with votes := l }
  | 12, (.inr (.inr (.inr (.inr (.inr (.inl l)))))) => { m with order := l }
  | 13, (.inr (.inr (.inr (.inr (.inr (.inr (.inl l))))))) => { m with picks := l }
  | 14, (.inr (.inr (.inr (.inr (.inr (.inr (.inr l))))))) => { m with reps := l }
  | _, _ => m
theorem zI6 {i : Nat} (h : i < 15) : i = 0 ∨ i = 1 ∨ i = 2 ∨ i = 3 ∨ i = 4 ∨ i = 5 ∨ i = 6 ∨ i = 7 ∨ i = 8 ∨ i = 9 ∨ i = 10 ∨ i = 11 ∨ i = 12 ∨ i = 13 ∨ i = 14 := by omega
theorem zRv {i : Nat} (h : i < 15) : (cF i).Law := by
  rcases zI6 h with rfl | rfl | rfl | rfl | rfl | rfl | rfl | rfl | rfl | rfl | rfl | rfl | rfl | rfl | rfl
  · exact zC3 zKg (fun _ => rfl) (fun v a e => by rcases v with x | x | x | x | x | x | x | x <;> simp [unB] at e <;> subst e <;> rfl)
  · exact zC3 zBt (fun _ => rfl) (fun v a e => by rcases v with x | x | x | x | x | x | x | x <;> simp [unN] at e <;> subst e <;> rfl)
  · exact zC3 zBt (fun _ => rfl) (fun v a e => by rcases v with x | x | x | x | x | x | x | x <;> simp [unN] at e <;> subst e <;> rfl)
  · exact zC3 zBt (fun _ => rfl) (fun v a e => by rcases v with x | x | x | x | x | x | x | x <;> simp [unN] at e <;> subst e <;> rfl)
  · exact zC3 zBt (fun _ => rfl) (fun v a e => by rcases v with x | x | x | x | x | x | x | x <;> simp [unN] at e <;> subst e <;> rfl)
  · exact zC3 zBt (fun _ => rfl) (fun v a e => by rcases v with x | x | x | x | x | x | x | x <;> simp [unN] at e <;> subst e <;> rfl)
  · exact zC3 zHc (fun _ => rfl) (fun v a e => by rcases v with x | x | x | x | x | x | x | x <;> simp [unR] at e <;> subst e <;> rfl)
  · exact zC3 zHc (fun _ => rfl) (fun v a e => by rcases v with x | x | x | x | x | x | x | x <;> simp [unR] at e <;> subst e <;> rfl)
  · exact zC3 zI2 (fun _ => rfl) (fun v a e => by rcases v with x | x | x | x | x | x | x | x <;> simp [unT] at e <;> subst e <;> rfl)
  · exact zC3 zI2 (fun _ => rfl) (fun v a e => by rcases v with x | x | x | x | x | x | x | x <;> simp [unT] at e <;> subst e <;> rfl)
  · exact zC3 (zGv zFt) (fun _ => rfl) (fun v a e => by rcases v with x | x | x | x | x | x | x | x <;> simp [unV] at e <;> subst e <;> rfl)
  · exact zC3 (zGv zFt) (fun _ => rfl) (fun v a e => by rcases v with x | x | x | x | x | x | x | x <;> simp [unV] at e <;> subst e <;> rfl)
  · exact zC3 (zGv zBt) (fun _ => rfl) (fun v a e => by rcases v with x | x | x | x | x | x | x | x <;> simp [unI] at e <;> subst e <;> rfl)
  · exact zC3 (zGv zHc) (fun _ => rfl) (fun v a e => by rcases v with x | x | x | x | x | x | x | x <;> simp [unQ] at e <;> subst e <;> rfl)
  · exact zC3 (zGv cRep_law) (fun _ => rfl) (fun v a e => by rcases v with x | x | x | x | x | x | x | x <;> simp [unP] at e <;> subst e <;> rfl)
theorem cF_typ {i : Nat} (h : i < 15) {l r : List Int} {v : FV} (e : (cF i).rd l = some (v, r)) : typ i v = true := by
  rcases zI6 h with rfl | rfl | rfl | rfl | rfl | rfl | rfl | rfl | rfl | rfl | rfl | rfl | rfl | rfl | rfl <;> exact tag_typ (fun _ => rfl) e
theorem get_typ (m : PMsg) {i : Nat} (h : i < 15) : typ i (get m i) = true := by
  rcases zI6 h with rfl | rfl | rfl | rfl | rfl | rfl | rfl | rfl | rfl | rfl | rfl | rfl | rfl | rfl | rfl <;> rfl
theorem zS6 (m : PMsg) {i : Nat} (h : i < 15) {v : FV} (ht : typ i v = true) : get (set m i v) i = v := by
  rcases zI6 h with rfl | rfl | rfl | rfl | rfl | rfl | rfl | rfl | rfl | rfl | rfl | rfl | rfl | rfl | rfl <;> rcases v with x | x | x | x | x | x | x | x <;> first | rfl | cases ht
theorem zJl (m : PMsg) {i j : Nat} (h : i < 15) (hj : j < 15) (hn : j ≠ i) (v : FV) : get (set m i v) j = get m j := by
  rcases zI6 h with rfl | rfl | rfl | rfl | rfl | rfl | rfl | rfl | rfl | rfl | rfl | rfl | rfl | rfl | rfl <;> rcases v with x | x | x | x | x | x | x | x <;> first | rfl | (rcases zI6 hj with rfl | rfl | rfl | rfl | rfl | rfl | rfl | rfl | rfl | rfl | rfl | rfl | rfl | rfl | rfl <;> first | rfl | exact absurd rfl hn)
theorem zPa (m : PMsg) (i : Nat) (v : FV) : (set m i v).kind = m.kind := by
  unfold set; split <;> rfl
theorem msg_ext {a b : PMsg} (hk : a.kind = b.kind) (h : ∀ i, i < 15 → get a i = get b i) : a = b := by
  cases a; cases b
  have h0 := h 0 (by decide); have h1 := h 1 (by decide); have h2 := h 2 (by decide); have h3 := h 3 (by decide); have h4 := h 4 (by decide); have h5 := h 5 (by decide); have h6 := h 6 (by decide); have h7 := h 7 (by decide)
  have h8 := h 8 (by decide); have h9 := h 9 (by decide); have h10 := h 10 (by decide); have h11 := h 11 (by decide); have h12 := h 12 (by decide); have h13 := h 13 (by decide); have h14 := h 14 (by decide)
  simp only [get, fbal, zIz, zLi, zOv, zFc, zRc, zQf, zQ8, Sum.inl.injEq, Sum.inr.injEq] at hk h0 h1 h2 h3 h4 h5 h6 h7 h8 h9 h10 h11 h12 h13 h14
  subst hk h0 h1 h2 h3 h4 h5 h6 h7 h8 h9 h10 h11 h12 h13 h14
  rfl
def fl (k : Int) : List Nat :=
  if k = 1 then [6] else if k = 2 then [0, 1, 6, 11] else if k = 3 then [0, 1, 6, 10, 11] else if k = 4 then [0, 1, 6, 11] else if k = 5 then [2, 3, 4, 8, 9] else if k = 6 then [0, 2, 3, 9]
  else if k = 7 then [0, 2, 3, 9, 10] else if k = 8 then [14] else if k = 9 then [0, 9, 12, 14] else if k = 10 then [1, 8, 11] else if k = 11 then [1, 2] else if k = 12 then [1, 2, 4, 5, 8, 9]
  else if k = 13 then [0, 1, 2, 4, 6, 7, 8, 9] else if k = 20 then [0] else if k = 21 then [0, 1, 12, 13] else if k = 22 then [0, 1, 6] else if k = 23 then [0, 1, 6, 10] else if k = 24 then [0, 1, 6, 11]
  else if k = 25 then [1, 8, 10] else []
theorem zD7 (k : Int) : k = 1 ∨ k = 2 ∨ k = 3 ∨ k = 4 ∨ k = 5 ∨ k = 6 ∨ k = 7 ∨ k = 8 ∨ k = 9 ∨ k = 10 ∨ k = 11 ∨ k = 12 ∨ k = 13 ∨ k = 20 ∨ k = 21 ∨ k = 22 ∨ k = 23 ∨ k = 24 ∨ k = 25 ∨ fl k = [] := by
  by_cases h : 1 ≤ k ∧ k ≤ 25 ∧ ¬ (14 ≤ k ∧ k ≤ 19)
  · omega
  · have : fl k = [] := by
      unfold fl
      rw [if_neg (by omega), if_neg (by omega), if_neg (by omega), if_neg (by omega), if_neg (by omega), if_neg (by omega), if_neg (by omega), if_neg (by omega), if_neg (by omega), if_neg (by omega), if_neg (by omega), if_neg (by omega), if_neg (by omega), if_neg (by omega), if_neg (by omega), if_neg (by omega), if_neg (by omega), if_neg (by omega), if_neg (by omega)]
    simp [this]
def nice : List Nat → Bool
  | [] => true
  | i :: r => decide (i < 15) && !r.contains i && nice r
theorem zEn (k : Int) : nice (fl k) = true := by
  rcases zD7 k with h | h | h | h | h | h | h | h | h | h | h | h | h | h | h | h | h | h | h | h
  all_goals first | (subst h; decide) | (rw [h]; rfl)
theorem zN9 {k : Int} (h : fl k ≠ []) : 0 ≤ k ∧ k ≤ 2147483647 := by
  rcases zD7 k with h1 | h1 | h1 | h1 | h1 | h1 | h1 | h1 | h1 | h1 | h1 | h1 | h1 | h1 | h1 | h1 | h1 | h1 | h1 | h1
  all_goals first | omega | exact absurd h1 h
def okF (m : PMsg) (i : Nat) : Bool := (cF i).ok (get m i)
def wrF (m : PMsg) (i : Nat) : List Int := (cF i).wr (get m i)
def zV : FV → Bool
  | (.inl b) => b.1 == 0 && b.2 == 0
  | (.inr (.inl n)) => n == 0
  | (.inr (.inr (.inl r))) => r.1 == 0 && r.2.1 == 0 && r.2.2.1.isEmpty && r.2.2.2.isEmpty
  | (.inr (.inr (.inr (.inl t)))) => t.isEmpty
  | (.inr (.inr (.inr (.inr (.inl t))))) => t.isEmpty
  | (.inr (.inr (.inr (.inr (.inr (.inl t)))))) => t.isEmpty
  | (.inr (.inr (.inr (.inr (.inr (.inr (.inl t))))))) => t.isEmpty
  | (.inr (.inr (.inr (.inr (.inr (.inr (.inr t))))))) => t.isEmpty
def zF (m : PMsg) (i : Nat) : Bool := zV (get m i)
theorem zLm (m : PMsg) {i : Nat} (h : i < 15) : zF m i = true ↔ get m i = get zAc i := by
  rcases zI6 h with rfl | rfl | rfl | rfl | rfl | rfl | rfl | rfl | rfl | rfl | rfl | rfl | rfl | rfl | rfl <;> simp [zF, zV, get, zAc, fbal, zIz, zLi, zOv, zFc, zRc, zQf, zQ8, Prod.ext_iff, and_assoc]
theorem zPb {i : Nat} (h : i < 15) : okF zAc i = true := by
  rcases zI6 h with rfl | rfl | rfl | rfl | rfl | rfl | rfl | rfl | rfl | rfl | rfl | rfl | rfl | rfl | rfl <;> rfl
theorem zF_ref (m : PMsg) {i : Nat} (h : i < 15) : zF m i = (okF m i && decide (wrF m i = wrF zAc i)) := by
  rw [Bool.eq_iff_iff, zLm m h]
  simp only [Bool.and_eq_true, decide_eq_true_eq]
  refine ⟨fun e => ⟨by unfold okF; rw [e]; exact zPb h, by unfold wrF; rw [e]⟩, fun ⟨h1, h2⟩ => (zRv h).inj h1 (zPb h) h2⟩
def zFi (m : PMsg) : Bool := (fl m.kind).isEmpty || (List.range 15).any (fun i => !(fl m.kind).contains i && !zF m i) || (fl m.kind).any fun i => !okF m i
def zI8 (m : PMsg) (fs : List Nat) : List Int := (fs.map (wrF m)).flatten
theorem zG6 (m : PMsg) (i : Nat) (fs : List Nat) : zI8 m (i :: fs) = wrF m i ++ zI8 m fs := by simp [zI8]
theorem zM4 (m : PMsg) (i : Nat) (fs : List Nat) : zI8 m (fs ++ [i]) = zI8 m fs ++ wrF m i := by simp [zI8]
def byM (m : PMsg) : List Int := zCm m.kind ++ zI8 m (fl m.kind)
def zCr (m : PMsg) : Int := if zFi m = true then 51 else if 1048576 < (byM m).length then 53 else 0
def zEj (m : PMsg) : List Int := if zCr m = 0 then byM m else []
def zE8 : List Nat → PMsg → List Int → Option (PMsg × List Int)
  | [], m, l => some (m, l)
  | i :: fs, m, l => ((cF i).rd l).bind fun x => zE8 fs (set m i x.1) x.2
def rdG (l : List Int) : Option (PMsg × List Int) := (cN.rd l).bind fun x => if (fl x.1).isEmpty = true then none else zE8 (fl x.1) { zAc with kind := x.1 } x.2
def rdM (l : List Int) : Option PMsg := (rdG l).bind fun y => if y.2.isEmpty = true then some y.1 else none
def zE5 (l : List Int) : Int := if 1048576 < l.length then 53 else if (rdM l).isNone = true then 51 else 0
def zC6 (l : List Int) : PMsg := if 1048576 < l.length then zAc else (rdM l).getD zAc
theorem zHi {i : Nat} {fs : List Nat} (h : nice (i :: fs) = true) : i < 15 ∧ i ∉ fs ∧ nice fs = true := by
  simpa [nice, and_assoc] using h
theorem zFk : ∀ {fs : List Nat}, nice fs = true → ∀ i ∈ fs, i < 15
  | [], _, i, h => by cases h
  | j :: fs, h, i, hi => by
    have h := zHi h
    rcases List.mem_cons.1 hi with e | e
    · rw [e]; exact h.1
    · exact zFk h.2.2 i e
theorem zPl (m : PMsg) : ∀ (fs : List Nat) (m0 : PMsg) (r : List Int), nice fs = true → (∀ i ∈ fs, okF m i = true) →
    ∃ m1, zE8 fs m0 (zI8 m fs ++ r) = some (m1, r) ∧ m1.kind = m0.kind ∧ ∀ j, j < 15 → get m1 j = if j ∈ fs then get m j else get m0 j
  | [], m0, r, _, _ => ⟨m0, by simp [zE8, zI8], rfl, fun j _ => by simp⟩
  | i :: fs, m0, r, hn, ho => by
    obtain ⟨h15, hni, hn'⟩ := zHi hn
    obtain ⟨m1, e, hk, hg⟩ := zPl m fs (set m0 i (get m i)) r hn' (fun j hj => ho j (List.mem_cons_of_mem _ hj))
    refine ⟨m1, ?_, hk.trans (zPa _ _ _), fun j hj => ?_⟩
    · simp only [zE8]
      have h1 := (zRv h15).fwd (get m i) (zI8 m fs ++ r) (ho i (by simp))
      rw [zG6, List.append_assoc]
      unfold wrF
      rw [h1]
      exact e
    · rw [hg j hj]
      by_cases hj1 : j ∈ fs
      · simp [hj1]
      · by_cases hj2 : j = i
        · subst hj2
          simp [hj1, zS6 m0 h15 (get_typ m h15)]
        · simp [hj1, hj2, zJl m0 h15 hj hj2]
theorem zOu : ∀ (fs : List Nat) (m0 : PMsg) (l : List Int) (m : PMsg) (r : List Int), nice fs = true → Byt l → zE8 fs m0 l = some (m, r) →
    m.kind = m0.kind ∧ (∀ i ∈ fs, okF m i = true) ∧ l = zI8 m fs ++ r ∧ ∀ j, j < 15 → j ∉ fs → get m j = get m0 j
  | [], m0, l, m, r, _, _, e => by
    simp only [zE8, Option.some.injEq, Prod.mk.injEq] at e
    obtain ⟨rfl, rfl⟩ := e
    simp [zI8]
  | i :: fs, m0, l, m, r, hn, hl, e => by
    obtain ⟨h15, hni, hn'⟩ := zHi hn
    simp only [zE8] at e
    cases h1 : (cF i).rd l with
    | none => rw [h1] at e; cases e
    | some x =>
      obtain ⟨v, l1⟩ := x
      rw [h1] at e
      simp only [Option.bind_some] at e
      obtain ⟨o1, e1⟩ := (zRv h15).bwd l v l1 hl h1
      obtain ⟨k2, o2, e2, g2⟩ := zOu fs (set m0 i v) l1 m r hn' (by rw [e1] at hl; exact hl.right) e
      have hgi : get m i = v := by rw [g2 i h15 hni, zS6 m0 h15 (cF_typ h15 h1)]
      refine ⟨k2.trans (zPa _ _ _), fun j hj => ?_, ?_, fun j hj hjn => ?_⟩
      · rcases List.mem_cons.1 hj with ej | ej
        · rw [ej]; unfold okF; rw [hgi]; exact o1
        · exact o2 j ej
      · rw [zG6, List.append_assoc, ← e2, e1]
        unfold wrF
        rw [hgi]
      · simp only [List.mem_cons, not_or] at hjn
        rw [g2 j hj hjn.2, zJl m0 h15 hj hjn.1]
theorem zKm {m : PMsg} (h : zFi m = false) : fl m.kind ≠ [] ∧ (∀ i, i < 15 → i ∉ fl m.kind → get m i = get zAc i) ∧ ∀ i ∈ fl m.kind, okF m i = true := by
  simp only [zFi, Bool.or_eq_false_iff, List.isEmpty_eq_false_iff] at h
  obtain ⟨⟨h1, h2⟩, h3⟩ := h
  refine ⟨h1, fun i hi hn => ?_, fun i hi => ?_⟩
  · rw [List.any_eq_false] at h2
    have := h2 i (List.mem_range.2 hi)
    refine (zLm m hi).1 ?_
    cases hz : zF m i
    · simp [hz, hn] at this
    · rfl
  · rw [List.any_eq_false] at h3
    have := h3 i hi
    simpa using this
theorem zNr {m : PMsg} (h1 : fl m.kind ≠ []) (h2 : ∀ i, i < 15 → i ∉ fl m.kind → get m i = get zAc i) (h3 : ∀ i ∈ fl m.kind, okF m i = true) : zFi m = false := by
  simp only [zFi, Bool.or_eq_false_iff, List.isEmpty_eq_false_iff]
  refine ⟨⟨h1, ?_⟩, ?_⟩
  · rw [List.any_eq_false]
    intro i hi
    have hi := List.mem_range.1 hi
    by_cases hn : i ∈ fl m.kind
    · simp [hn]
    · have := (zLm m hi).2 (h2 i hi hn)
      simp [this]
  · rw [List.any_eq_false]
    intro i hi
    simp [h3 i hi]
theorem rdG_fwd {m : PMsg} (h : zFi m = false) (r : List Int) : rdG (byM m ++ r) = some (m, r) := by
  obtain ⟨h1, h2, h3⟩ := zKm h
  have hk := zN9 h1
  have e0 : cN.rd (zCm m.kind ++ (zI8 m (fl m.kind) ++ r)) = some (m.kind, zI8 m (fl m.kind) ++ r) := zBt.fwd m.kind _ (zBm hk.1 hk.2)
  obtain ⟨m1, e, hk1, hg⟩ := zPl m (fl m.kind) { zAc with kind := m.kind } r (zEn _) h3
  unfold rdG byM
  rw [List.append_assoc, e0]
  simp only [Option.bind_some]
  rw [if_neg (by simpa using h1), e]
  have : m1 = m := msg_ext hk1 fun i hi => by
    rw [hg i hi]
    split
    · rfl
    · next hn =>
      rw [h2 i hi hn]
      rcases zI6 hi with rfl | rfl | rfl | rfl | rfl | rfl | rfl | rfl | rfl | rfl | rfl | rfl | rfl | rfl | rfl <;> rfl
  rw [this]
theorem rdG_bwd {l : List Int} {m : PMsg} {r : List Int} (hl : Byt l) (e : rdG l = some (m, r)) : zFi m = false ∧ l = byM m ++ r := by
  unfold rdG at e
  cases h1 : cN.rd l with
  | none => rw [h1] at e; cases e
  | some x =>
    obtain ⟨k, l1⟩ := x
    rw [h1] at e
    simp only [Option.bind_some] at e
    obtain ⟨o1, e1⟩ := zBt.bwd l k l1 hl h1
    by_cases hc : (fl k).isEmpty = true
    · rw [if_pos hc] at e; cases e
    · rw [if_neg hc] at e
      obtain ⟨hk, ho, el, hg⟩ := zOu (fl k) _ l1 m r (zEn _) (by rw [e1] at hl; exact hl.right) e
      have hk : m.kind = k := hk
      subst hk
      refine ⟨zNr (by simpa using hc) (fun i hi hn => ?_) ho, ?_⟩
      · rw [hg i hi hn]
        rcases zI6 hi with rfl | rfl | rfl | rfl | rfl | rfl | rfl | rfl | rfl | rfl | rfl | rfl | rfl | rfl | rfl <;> rfl
      · unfold byM
        rw [List.append_assoc, ← el, e1]
        rfl
theorem rdM_fwd {m : PMsg} (h : zFi m = false) : rdM (byM m) = some m := by
  have := rdG_fwd h []
  rw [List.append_nil] at this
  unfold rdM
  rw [this]
  rfl
theorem zT9 {l : List Int} {m : PMsg} (hl : Byt l) (e : rdM l = some m) : zFi m = false ∧ byM m = l := by
  unfold rdM at e
  cases h1 : rdG l with
  | none => rw [h1] at e; cases e
  | some x =>
    obtain ⟨m', r⟩ := x
    rw [h1] at e
    simp only [Option.bind_some] at e
    by_cases hr : r.isEmpty = true
    · rw [if_pos hr] at e
      injection e with e
      subst e
      obtain ⟨h2, h3⟩ := rdG_bwd hl h1
      obtain rfl : r = [] := by simpa using hr
      exact ⟨h2, by rw [h3, List.append_nil]⟩
    · rw [if_neg hr] at e; cases e
end Oct
end
section
namespace Bal
def fau (n : Int) : Int := if n = 4 then 1 else if n = 7 then 2 else if n = 10 then 3 else if n = 13 then 4 else if n = 16 then 5 else 0
def rgt (n : Int) : Bool := decide (n = 4 ∨ n = 7 ∨ n = 10 ∨ n = 13 ∨ n = 16)
theorem zK4 {n : Int} : rgt n = true ↔ (n = 4 ∨ n = 7 ∨ n = 10 ∨ n = 13 ∨ n = 16) := by simp [rgt]
theorem zT7 {n : Int} (h : ¬ rgt n = true) : rgt n = false := by simpa using h
theorem fau_pos {n : Int} : 0 < fau n ↔ rgt n = true := by
  rw [zK4]
  unfold fau
  constructor
  · intro h
    repeat' split at h
    all_goals omega
  · intro h
    rcases h with rfl | rfl | rfl | rfl | rfl <;> decide
theorem fau_no {n : Int} (h : ¬ rgt n = true) : fau n = 0 := by
  rw [zK4] at h
  unfold fau
  repeat' split
  all_goals omega
end Bal
end
end Go.Proofs.YtgjepofinpmcpaaGreatDoor
