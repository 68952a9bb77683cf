/- From what came in to what a walk wants: strings, arrays of two strings, arrays of two lists of texts; what the bound of an upto statement gives for them. -/
import Derived.Test.YtbdkoniaafhfhaaDoorOpen
import Derived.Test.YtbdkoniaafhfhaaDoorBulk
namespace Go.Proofs.YtbdkoniaafhfhaaDoor
open Go.ChangeShapes Go.RowKit Oct

theorem agg_two {P : Program} {w : World} {b0 : Nat} {r : Reach} {t e : TypeId} (ht : P.underlying t = some (.array 2 e)) (hct : P.cellsOf t = 2) {v : Value} (hv : Value.okWide P w r b0 t v) : ∃ c0 c1, v = .agg #[c0, c1] := by
  simp only [Value.okWide, ht] at hv
  obtain ⟨cs, rfl, hsz, _⟩ := hv
  rw [hct] at hsz
  obtain ⟨l⟩ := cs
  match l, hsz with
  | [c0, c1], _ => exact ⟨c0, c1, rfl⟩
/-- An array of two things of one cell each. -/
theorem open_two {H : Type} {enc : TypeId × Value → H} {P : Program} {w : World} {base : Nat} {held : Bool} {t e : TypeId} (ht : P.underlying t = some (.array 2 e)) (hc : P.cellsOf e = 1)
    {c0 c1 : Value} {d : DataW H} {p : List MemPlace} (h : DataW.Trod enc P w base (fun _ => true) held t (.agg #[c0, c1]) d p) :
    ∃ m x0 x1, d = .agg [x0.1, x1.1] ∧ DataW.trod enc P w base (fun _ => true) held m e [c0] = some x0 ∧ DataW.trod enc P w base (fun _ => true) held m e [c1] = some x1 := by
  obtain ⟨fuel, hf⟩ := h
  obtain ⟨xs, m, _, hx, _, hl, hel⟩ := DataW.trod_array ht hf
  obtain ⟨x0, x1, rfl⟩ : ∃ x0 x1, xs = [x0, x1] := by
    match xs, hl with
    | [x0, x1], _ => exact ⟨x0, x1, rfl⟩
  have h0 := hel 0 (by omega)
  have h1 := hel 1 (by omega)
  rw [hc] at h0 h1
  simp only [Value.cells] at h0 h1
  refine ⟨m, x0, x1, ?_, by simpa using h0, by simpa using h1⟩
  simpa using congrArg Prod.fst hx
theorem open_strs2 {H : Type} {enc : TypeId × Value → H} {P : Program} {w : World} {base b0 : Nat} {r : Reach} {held : Bool} {t e : TypeId} (ht : P.underlying t = some (.array 2 e)) (he : P.underlying e = some .string) (hc : P.cellsOf e = 1) (hct : P.cellsOf t = 2)
    {v : Value} {d : DataW H} {p : List MemPlace} (hv : Value.okWide P w r b0 t v) (h : DataW.Trod enc P w base (fun _ => true) held t v d p) :
    ∃ s0 s1, v = .agg #[.string s0, .string s1] ∧ d = .agg [.lit (.string s0.data.toList), .lit (.string s1.data.toList)] := by
  obtain ⟨c0, c1, rfl⟩ := agg_two ht hct hv
  obtain ⟨m, x0, x1, hd, h0, h1⟩ := open_two ht hc h
  obtain ⟨s0, e0, f0, _⟩ := DataW.trod_string he h0
  obtain ⟨s1, e1, f1, _⟩ := DataW.trod_string he h1
  simp only [List.cons.injEq, and_true] at e0 e1
  exact ⟨s0, s1, by rw [e0, e1], by rw [hd, f0, f1]⟩
theorem open_bytess2 {H : Type} {enc : TypeId × Value → H} {P : Program} {w : World} {base b0 : Nat} {r : Reach} {held : Bool} {t l u e : TypeId} (ht : P.underlying t = some (.array 2 l)) (hl : P.underlying l = some (.slice u)) (hu : P.underlying u = some (.slice e)) (he : P.underlying e = some (.int .u8))
    (hcl : P.cellsOf l = 1) (hcu : P.cellsOf u = 1) (hce : P.cellsOf e = 1) (hct : P.cellsOf t = 2) {v : Value} {d : DataW H} {p : List MemPlace} (hv : Value.okWide P w r b0 t v) (h : DataW.Trod enc P w base (fun _ => true) held t v d p) :
    ∃ v0 v1 d0 d1 l0 l1, v = .agg #[v0, v1] ∧ d = .agg [d0, d1] ∧ Rdl w v0 l0 ∧ Rdl w v1 l1 ∧ IsBytess d0 l0 ∧ IsBytess d1 l1 := by
  obtain ⟨c0, c1, rfl⟩ := agg_two ht hct hv
  obtain ⟨m, x0, x1, hd, h0, h1⟩ := open_two ht hcl h
  obtain ⟨l0, r0, b0⟩ := open_bytess_at hl hu he hcu hce h0
  obtain ⟨l1, r1, b1⟩ := open_bytess_at hl hu he hcu hce h1
  exact ⟨c0, c1, _, _, l0, l1, rfl, hd, r0, r1, b0, b1⟩

theorem bulk_in {H : Type} {l : List (DataW H)} (hk : Rows.uptoSmall H l = true) {d : DataW H} (hd : d ∈ l) : Rows.uptoBulk d ≤ 1048576 := Nat.le_trans (bulk_part hd) (bulk_all hk)
theorem bulk_str {H : Type} (s : ByteArray) : s.size ≤ Rows.uptoBulk (.lit (.string s.data.toList) : DataW H) := by
  simp only [Rows.uptoBulk, Array.length_toList]
  exact Nat.le_succ _
theorem bulk_str_in {H : Type} {l : List (DataW H)} (hk : Rows.uptoSmall H l = true) {s : ByteArray} (hd : (.lit (.string s.data.toList) : DataW H) ∈ l) : s.size ≤ 1048576 := Nat.le_trans (bulk_str s) (bulk_in hk hd)
theorem bulk_strs2_in {H : Type} {l : List (DataW H)} (hk : Rows.uptoSmall H l = true) {s0 s1 : ByteArray} (hd : (.agg [.lit (.string s0.data.toList), .lit (.string s1.data.toList)] : DataW H) ∈ l) : s0.size ≤ 1048576 ∧ s1.size ≤ 1048576 := by
  have h := bulk_in hk hd
  have h0 := bulk_str (H := H) s0
  have h1 := bulk_str (H := H) s1
  rw [Rows.uptoBulk, Rows.uptoBulkAll, Rows.uptoBulkAll, Rows.uptoBulkAll] at h
  omega
theorem bulk_bytess2_in {H : Type} {l : List (DataW H)} (hk : Rows.uptoSmall H l = true) {d0 d1 : DataW H} {l0 l1 : List (List Int)} (b0 : IsBytess d0 l0) (b1 : IsBytess d1 l1) (hd : (.agg [d0, d1] : DataW H) ∈ l) : tot l0 ≤ 1048576 ∧ tot l1 ≤ 1048576 := by
  have h := bulk_in hk hd
  have h0 := bulk_bytess b0
  have h1 := bulk_bytess b1
  rw [Rows.uptoBulk, Rows.uptoBulkAll, Rows.uptoBulkAll, Rows.uptoBulkAll] at h
  omega
end Go.Proofs.YtbdkoniaafhfhaaDoor
