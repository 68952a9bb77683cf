/- From what came in to what a walk wants: slices of ints, pairs of ints. For whatever program. -/
import Derived.Test.YtagmcbiallgdaaaOpen
import Derived.Test.YtagmcbiallgdaaaB3
import Derived.ChangeSame
namespace Go.Proofs.Ytagmcbiallgdaaa
open Go.ChangeShapes Go.WideShapes Go.ChangeAt Go.RowKit Oct

/-- What a slice of ints reads as, and its datum. -/
def IsInts {H : Type} (d : DataW H) (l : List Int) : Prop := (d = .nil ∧ l = []) ∨ ∃ spare, d = .slice (lits .i64 l) spare
theorem open_ilist {H : Type} {enc : TypeId × Value → H} {P : Program} {w : World} {base : Nat} {held : Bool} {t e : TypeId} (ht : P.underlying t = some (.slice e)) (he : P.underlying e = some (.int .i64)) (hc : P.cellsOf e = 1)
    {a : Option Addr} {len cap : Nat} {d : DataW H} {p : List MemPlace} (h : DataW.Trod enc P w base (fun _ => true) held t (.slice a len cap) d p) :
    ∃ l, Rdi w (.slice a len cap) l ∧ IsInts d l := by
  obtain ⟨fuel, hf⟩ := h
  have hf' : DataW.trod enc P w base (fun _ => true) held fuel t [.slice a len cap] = some (d, p) := by simpa [Value.cells] using hf
  rcases open_ints ht he hc hf' with ⟨hcs, hx⟩ | ⟨a', len', cap', zs, hcs, _, hl, hm, hz, hx, hcell, hwz⟩
  · simp only [List.cons.injEq, and_true] at hcs
    rw [hcs]
    simp only [Prod.mk.injEq] at hx
    exact ⟨[], ⟨none, 0, rfl, Nat.le_refl _, Nat.zero_le _, fun _ => ⟨rfl, rfl⟩, fun a ha => by cases ha⟩, .inl ⟨hx.1, rfl⟩⟩
  · simp only [List.cons.injEq, and_true] at hcs
    rw [hcs]
    simp only [Prod.mk.injEq] at hx
    simp only [if_true] at hz
    have hlen : (ic (zs.take len')).length = len' := by rw [ic_len, List.length_take]; omega
    refine ⟨zs.take len', ⟨some a', cap', by rw [hlen], by rw [hlen]; exact hl, hm, fun e => (by cases e), fun b hb j u hu => ?_⟩, .inr ⟨_, hx.1⟩⟩
    cases hb
    have hj : j < len' := by
      rcases Nat.lt_or_ge j len' with h | h
      · exact h
      · rw [List.getElem?_eq_none (by omega)] at hu; cases hu
    rw [hcell j (by omega)]
    rw [ic_getD _ _ (by rw [List.length_take]; omega)] at hu
    rw [← hu]
    simp [List.getD, hj]
theorem IsInts.reach {H : Type} {P : Program} {ts : List TypeId} {ds : List (DataW H)} (h : (DataW.weightsEach P ts ds).all (· ≤ reachBytes) = true) {j : Nat} {t e : TypeId} {d : DataW H} {l : List Int} (hd : IsInts d l)
    (ht : ts[j]? = some t) (hj : ds[j]? = some d) (hu : P.underlying t = some (.slice e)) (hb : P.bytesOf e = 8) : l.length ≤ 17592186044416 := by
  rcases hd with ⟨_, rfl⟩ | ⟨sp, rfl⟩
  · simp
  · have := sized_slice h ht hj hu
    rw [hb] at this
    simp only [lits, List.length_map, reachBytes] at this
    omega
/-- A pair of ints. -/
theorem open_pair {H : Type} {enc : TypeId × Value → H} {P : Program} {w : World} {base b0 : Nat} {r : Reach} {held : Bool} {t e : TypeId} {f0 f1 : Field} (ht : P.underlying t = some (.struct #[f0, f1])) (h0 : f0.type = e) (h1 : f1.type = e) (o0 : f0.offset = 0) (o1 : f1.offset = 1)
    (he : P.underlying e = some (.int .i64)) (hc : P.cellsOf e = 1) (hct : P.cellsOf t = 2)
    {v : Value} {d : DataW H} {p : List MemPlace} (hv : Value.okWide P w r b0 t v) (h : DataW.Trod enc P w base (fun _ => true) held t v d p) : ∃ a b, v = .agg #[.int .i64 a, .int .i64 b] := by
  simp only [Value.okWide, ht] at hv
  obtain ⟨cs, rfl, hsz, _⟩ := hv
  rw [hct] at hsz
  obtain ⟨c0, c1, rfl⟩ : ∃ c0 c1, cs = #[c0, c1] := by
    obtain ⟨l⟩ := cs
    match l, hsz with
    | [c0, c1], _ => exact ⟨c0, c1, rfl⟩
  obtain ⟨fuel, hf⟩ := h
  obtain ⟨y0, y1, m, _, _, g0, g1⟩ := trod_struct2 ht hf
  rw [h0, hc, o0] at g0
  rw [h1, hc, o1] at g1
  simp only [Value.cells] at g0 g1
  obtain ⟨a, e0, _⟩ := DataW.trod_int he (by simpa using g0)
  obtain ⟨b, e1, _⟩ := DataW.trod_int he (by simpa using g1)
  simp at e0 e1
  exact ⟨a, b, by rw [e0, e1]⟩
end Go.Proofs.Ytagmcbiallgdaaa
