/- From what came in to what a walk wants: slices of bytes. For whatever program. -/
import Derived.Test.YtagoeccgmkjhoaaMem
import Derived.ProofKit
import Derived.OpenShut
import Derived.ShutString
import Derived.ChangeOld
import Derived.SizedLaws
namespace Go.Proofs.Ytagoeccgmkjhoaa
open Go.ChangeShapes Go.WideShapes Go.ChangeAt Go.RowKit Oct

theorem wf_u8 {n : Int} (h : (Lit.int .u8 n).wf = true) : 0 ≤ n ∧ n ≤ 255 := bounds_u8 h

/-- What a slice of bytes reads as, and its datum. -/
def IsBytes {H : Type} (d : DataW H) (l : List Int) : Prop := (d = .nil ∧ l = []) ∨ ∃ spare, d = .slice (lits .u8 l) spare

theorem open_bytes_at {H : Type} {enc : TypeId × Value → H} {P : Program} {w : World} {base fuel : Nat} {held : Bool} {t e : TypeId} (ht : P.underlying t = some (.slice e)) (he : P.underlying e = some (.int .u8)) (hc : P.cellsOf e = 1)
    {v : Value} {x : DataW H × List MemPlace} (hf : DataW.trod enc P w base (fun _ => true) held fuel t [v] = some x) : ∃ l, Rd w v l ∧ IsBytes x.1 l := by
  rcases open_ints ht he hc hf with ⟨hcs, hx⟩ | ⟨a, len, cap, zs, hcs, _, hl, hm, hz, hx, hcell, hwz⟩
  · simp only [List.cons.injEq, and_true] at hcs
    subst hcs
    subst hx
    exact ⟨[], ⟨Byt.nil, none, 0, rfl, Nat.le_refl _, Nat.zero_le _, fun _ => ⟨rfl, rfl⟩, fun a ha => by cases ha⟩, .inl ⟨rfl, rfl⟩⟩
  · simp only [List.cons.injEq, and_true] at hcs
    subst hcs
    subst hx
    simp only [if_true] at hz
    have hlen : (bc (zs.take len)).length = len := by rw [bc_len, List.length_take]; omega
    refine ⟨zs.take len, ⟨fun y hy => wf_u8 (hwz y (List.mem_of_mem_take hy)), some a, cap, by rw [hlen], by rw [hlen]; exact hl, hm, fun e => (by cases e), fun b hb j u hu => ?_⟩, .inr ⟨_, rfl⟩⟩
    cases hb
    have hj : j < len := by
      rcases Nat.lt_or_ge j len with h | h
      · exact h
      · rw [List.getElem?_eq_none (by omega)] at hu; cases hu
    rw [hcell j (by omega)]
    rw [bc_getD _ _ (by rw [List.length_take]; omega)] at hu
    rw [← hu]
    simp [List.getD, hj]
theorem open_bytes {H : Type} {enc : TypeId × Value → H} {P : Program} {w : World} {base : Nat} {held : Bool} {t e : TypeId} (ht : P.underlying t = some (.slice e)) (he : P.underlying e = some (.int .u8)) (hc : P.cellsOf e = 1)
    {a : Option Addr} {len cap : Nat} {d : DataW H} {p : List MemPlace} (h : DataW.Trod enc P w base (fun _ => true) held t (.slice a len cap) d p) :
    ∃ l, Rd w (.slice a len cap) l ∧ IsBytes d l := by
  obtain ⟨fuel, hf⟩ := h
  have := open_bytes_at ht he hc (v := .slice a len cap) (by simpa [Value.cells] using hf)
  simpa using this

/-- A list of texts, and its datum. -/
def IsBytess {H : Type} (d : DataW H) (ll : List (List Int)) : Prop := (d = .nil ∧ ll = []) ∨ ∃ ds spare, d = .slice ds spare ∧ All2 IsBytes ds ll

theorem open_bytess_at {H : Type} {enc : TypeId × Value → H} {P : Program} {w : World} {base fuel : Nat} {held : Bool} {t u e : TypeId} (ht : P.underlying t = some (.slice u)) (hu : P.underlying u = some (.slice e)) (he : P.underlying e = some (.int .u8))
    (hcu : P.cellsOf u = 1) (hce : P.cellsOf e = 1) {v : Value} {x : DataW H × List MemPlace} (hf : DataW.trod enc P w base (fun _ => true) held fuel t [v] = some x) : ∃ ll, Rdl w v ll ∧ IsBytess x.1 ll := by
  rcases DataW.trod_slice ht hf with ⟨hcs, hx⟩ | ⟨a, len, cap, elems, rest, n, _, hcs, hx, _, hl, hm, hlen, hel, _, _⟩
  · simp only [List.cons.injEq, and_true] at hcs
    subst hcs
    subst hx
    exact ⟨[], ⟨[], ⟨none, 0, rfl, Nat.le_refl _, Nat.zero_le _, fun _ => ⟨rfl, rfl⟩, fun a ha => by cases ha⟩, trivial⟩, .inl ⟨rfl, rfl⟩⟩
  · simp only [List.cons.injEq, and_true] at hcs
    subst hcs
    subst hx
    rw [hcu] at hel
    have each : ∀ i, i < len → ∃ c l y, w.cell? (a.add i) = some c ∧ elems[i]? = some y ∧ Rd w c l ∧ IsBytes y.1 l := fun i hi => by
      have h1 := hel i hi
      rw [List.getElem?_eq_getElem (by omega), Nat.mul_one] at h1
      obtain ⟨cs, hc1, hc2⟩ := Option.bind_eq_some_iff.1 h1
      obtain ⟨c, rfl⟩ : ∃ c, cs = [c] := by
        have hlen1 := (World.cells?_some hc1).2.1
        match cs, hlen1 with
        | [c], _ => exact ⟨c, rfl⟩
      obtain ⟨l, hl1, hl2⟩ := open_bytes_at hu he hce hc2
      exact ⟨c, l, _, Go.ChangeShapes.cell_of_cells?_one hc1, List.getElem?_eq_getElem (by omega), hl1, hl2⟩
    obtain ⟨vs, ll, hv1, hv2, hv3⟩ : ∃ (vs : List Value) (ll : List (List Int)), vs.length = len ∧ ll.length = len ∧ ∀ i c l, vs[i]? = some c → ll[i]? = some l → w.cell? (a.add i) = some c ∧ Rd w c l ∧ ∀ y, elems[i]? = some y → IsBytes y.1 l := by
      clear hm hl hel hf
      have key : ∀ k, k ≤ len → ∃ (vs : List Value) (ll : List (List Int)), vs.length = k ∧ ll.length = k ∧ ∀ i c l, vs[i]? = some c → ll[i]? = some l → w.cell? (a.add i) = some c ∧ Rd w c l ∧ ∀ y, elems[i]? = some y → IsBytes y.1 l := by
        intro k
        induction k with
        | zero => exact fun _ => ⟨[], [], rfl, rfl, fun i c l h => by simp at h⟩
        | succ k ih =>
          intro hk
          obtain ⟨vs, ll, g1, g2, g3⟩ := ih (by omega)
          obtain ⟨c, l, y, e1, e2, e3, e4⟩ := each k (by omega)
          refine ⟨vs ++ [c], ll ++ [l], by simp [g1], by simp [g2], fun i c' l' hc' hl' => ?_⟩
          rcases Nat.lt_trichotomy i k with h | h | h
          · rw [List.getElem?_append_left (by omega)] at hc' hl'
            exact g3 i c' l' hc' hl'
          · subst h
            rw [List.getElem?_append_right (by omega), g1] at hc'
            rw [List.getElem?_append_right (by omega), g2] at hl'
            simp at hc' hl'
            subst hc' hl'
            exact ⟨e1, e3, fun y' hy' => by rw [e2] at hy'; cases hy'; exact e4⟩
          · rw [List.getElem?_eq_none (by simp; omega)] at hc'; cases hc'
      exact key len (Nat.le_refl _)
    refine ⟨ll, ⟨vs, ⟨some a, cap, by rw [hv1], by rw [hv1]; exact hl, hm, fun e => (by cases e), fun b hb j u hju => ?_⟩, All2.of_get (by omega) fun i c l hc hl => (hv3 i c l hc hl).2.1⟩, .inr ⟨_, _, rfl, All2.of_get (by simp; omega) fun i d l hd hl => ?_⟩⟩
    · cases hb
      have hj : j < vs.length := by
        rcases Nat.lt_or_ge j vs.length with h | h
        · exact h
        · rw [List.getElem?_eq_none h] at hju; cases hju
      exact (hv3 j u _ hju (List.getElem?_eq_getElem (by omega))).1
    · have hi : i < ll.length := by
        rcases Nat.lt_or_ge i ll.length with h | h
        · exact h
        · rw [List.getElem?_eq_none h] at hl; cases hl
      have he' : elems[i]? = some (elems[i]'(by omega)) := List.getElem?_eq_getElem (by omega)
      have := (hv3 i _ l (List.getElem?_eq_getElem (by omega)) hl).2.2 _ he'
      rw [List.getElem?_map, he'] at hd
      simp at hd
      rw [← hd]
      exact this
theorem open_bytess {H : Type} {enc : TypeId × Value → H} {P : Program} {w : World} {base : Nat} {held : Bool} {t u e : TypeId} (ht : P.underlying t = some (.slice u)) (hu : P.underlying u = some (.slice e)) (he : P.underlying e = some (.int .u8))
    (hcu : P.cellsOf u = 1) (hce : P.cellsOf e = 1) {a : Option Addr} {len cap : Nat} {d : DataW H} {p : List MemPlace} (h : DataW.Trod enc P w base (fun _ => true) held t (.slice a len cap) d p) :
    ∃ ll, Rdl w (.slice a len cap) ll ∧ IsBytess d ll := by
  obtain ⟨fuel, hf⟩ := h
  have := open_bytess_at ht hu he hcu hce (v := .slice a len cap) (by simpa [Value.cells] using hf)
  simpa using this

/-- An array of two numbers. -/
theorem open_ints2 {H : Type} {enc : TypeId × Value → H} {P : Program} {w : World} {base b0 : Nat} {r : Reach} {held : Bool} {t e : TypeId} (ht : P.underlying t = some (.array 2 e)) (he : P.underlying e = some (.int .i64)) (hc : P.cellsOf e = 1) (hct : P.cellsOf t = 2)
    {v : Value} {d : DataW H} {p : List MemPlace} (hv : Value.okWide P w r b0 t v) (h : DataW.Trod enc P w base (fun _ => true) held t v d p) : ∃ a b, v = .agg #[.int .i64 a, .int .i64 b] := by
  simp only [Value.okWide, ht] at hv
  obtain ⟨cs, rfl, hsz, _⟩ := hv
  rw [hct] at hsz
  obtain ⟨c0, c1, rfl⟩ : ∃ c0 c1, cs = #[c0, c1] := by
    obtain ⟨l⟩ := cs
    match l, hsz with
    | [c0, c1], _ => exact ⟨c0, c1, rfl⟩
  obtain ⟨fuel, hf⟩ := h
  obtain ⟨xs, m, _, _, _, hx, hel⟩ := DataW.trod_array ht hf
  have h0 := hel 0 (by omega)
  have h1 := hel 1 (by omega)
  rw [hc] at h0 h1
  simp only [Value.cells] at h0 h1
  rw [List.getElem?_eq_getElem (by omega)] at h0 h1
  obtain ⟨a, e0, _⟩ := DataW.trod_int he (by simpa using h0)
  obtain ⟨b, e1, _⟩ := DataW.trod_int he (by simpa using h1)
  simp at e0 e1
  exact ⟨a, b, by rw [e0, e1]⟩

theorem IsBytes.reach {H : Type} {P : Program} {ts : List TypeId} {ds : List (DataW H)} (h : (DataW.weightsEach P ts ds).all (· ≤ reachBytes) = true) {j : Nat} {t e : TypeId} {d : DataW H} {l : List Int} (hd : IsBytes d l)
    (ht : ts[j]? = some t) (hj : ds[j]? = some d) (hu : P.underlying t = some (.slice e)) (hb : P.bytesOf e = 1) : l.length ≤ 140737488351232 := by
  rcases hd with ⟨_, rfl⟩ | ⟨sp, rfl⟩
  · simp
  · have := sized_slice h ht hj hu
    rw [hb] at this
    simp only [lits, List.length_map, reachBytes] at this
    omega
#print axioms open_bytes
end Go.Proofs.Ytagoeccgmkjhoaa
