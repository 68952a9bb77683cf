/- Acts of layer 15: opened. -/
import Derived.Test.YtajmgpgjkalfkaaDoorMem
import Derived.ProofKit
import Derived.OpenShut
import Derived.ShutString
import Derived.ChangeOld
import Derived.SizedLaws
import Derived.Test.YtajmgpgjkalfkaaDoorRows
import Derived.Test.YtajmgpgjkalfkaaDoorLst
import Derived.Test.YtajmgpgjkalfkaaDoorLc
import Derived.Test.YtajmgpgjkalfkaaDoorY1
section
namespace Go.Proofs.YtajmgpgjkalfkaaDoor
open Go.ChangeShapes Go.WideShapes Go.ChangeAt Go.RowKit Oct

theorem wf_u8 {n : Int} (h : (Lit.int .u8 n).wf = true) : 0 ≤ n ∧ n ≤ 255 := bounds_u8 h

/-- What a slice of bytes reads as, and its datum. -/
def IsBytes {H : Type} (d : DataW H) (l : List Int) : Prop := (d = .nil ∧ l = []) ∨ ∃ spare, d = .slice (lits .u8 l) spare

theorem open_bytes_at {H : Type} {enc : TypeId × Value → H} {P : Program} {w : World} {base fuel : Nat} {held : Bool} {t e : TypeId} (ht : P.underlying t = some (.slice e)) (he : P.underlying e = some (.int .u8)) (hc : P.cellsOf e = 1)
    {v : Value} {x : DataW H × List MemPlace} (hf : DataW.trod enc P w base (fun _ => true) held fuel t [v] = some x) : ∃ l, Rd w v l ∧ IsBytes x.1 l := by
  rcases open_ints ht he hc hf with ⟨hcs, hx⟩ | ⟨a, len, cap, zs, hcs, _, hl, hm, hz, hx, hcell, hwz⟩
  · simp only [List.cons.injEq, and_true] at hcs
    subst hcs
    subst hx
    exact ⟨[], ⟨Byt.nil, none, 0, rfl, Nat.le_refl _, Nat.zero_le _, fun _ => ⟨rfl, rfl⟩, fun a ha => by cases ha⟩, .inl ⟨rfl, rfl⟩⟩
  · simp only [List.cons.injEq, and_true] at hcs
    subst hcs
    subst hx
    simp only [if_true] at hz
    have hlen : (bc (zs.take len)).length = len := by rw [bc_len, List.length_take]; omega
    refine ⟨zs.take len, ⟨fun y hy => wf_u8 (hwz y (List.mem_of_mem_take hy)), some a, cap, by rw [hlen], by rw [hlen]; exact hl, hm, fun e => (by cases e), fun b hb j u hu => ?_⟩, .inr ⟨_, rfl⟩⟩
    cases hb
    have hj : j < len := by
      rcases Nat.lt_or_ge j len with h | h
      · exact h
      · rw [List.getElem?_eq_none (by omega)] at hu; cases hu
    rw [hcell j (by omega)]
    rw [bc_getD _ _ (by rw [List.length_take]; omega)] at hu
    rw [← hu]
    simp [List.getD, hj]
theorem open_bytes {H : Type} {enc : TypeId × Value → H} {P : Program} {w : World} {base : Nat} {held : Bool} {t e : TypeId} (ht : P.underlying t = some (.slice e)) (he : P.underlying e = some (.int .u8)) (hc : P.cellsOf e = 1)
    {a : Option Addr} {len cap : Nat} {d : DataW H} {p : List MemPlace} (h : DataW.Trod enc P w base (fun _ => true) held t (.slice a len cap) d p) :
    ∃ l, Rd w (.slice a len cap) l ∧ IsBytes d l := by
  obtain ⟨fuel, hf⟩ := h
  have := open_bytes_at ht he hc (v := .slice a len cap) (by simpa [Value.cells] using hf)
  simpa using this

/-- A list of texts, and its datum. -/
def IsBytess {H : Type} (d : DataW H) (ll : List (List Int)) : Prop := (d = .nil ∧ ll = []) ∨ ∃ ds spare, d = .slice ds spare ∧ All2 IsBytes ds ll

theorem open_bytess_at {H : Type} {enc : TypeId × Value → H} {P : Program} {w : World} {base fuel : Nat} {held : Bool} {t u e : TypeId} (ht : P.underlying t = some (.slice u)) (hu : P.underlying u = some (.slice e)) (he : P.underlying e = some (.int .u8))
    (hcu : P.cellsOf u = 1) (hce : P.cellsOf e = 1) {v : Value} {x : DataW H × List MemPlace} (hf : DataW.trod enc P w base (fun _ => true) held fuel t [v] = some x) : ∃ ll, Rdl w v ll ∧ IsBytess x.1 ll := by
  rcases DataW.trod_slice ht hf with ⟨hcs, hx⟩ | ⟨a, len, cap, elems, rest, n, _, hcs, hx, _, hl, hm, hlen, hel, _, _⟩
  · simp only [List.cons.injEq, and_true] at hcs
    subst hcs
    subst hx
    exact ⟨[], ⟨[], ⟨none, 0, rfl, Nat.le_refl _, Nat.zero_le _, fun _ => ⟨rfl, rfl⟩, fun a ha => by cases ha⟩, trivial⟩, .inl ⟨rfl, rfl⟩⟩
  · simp only [List.cons.injEq, and_true] at hcs
    subst hcs
    subst hx
    rw [hcu] at hel
    have each : ∀ i, i < len → ∃ c l y, w.cell? (a.add i) = some c ∧ elems[i]? = some y ∧ Rd w c l ∧ IsBytes y.1 l := fun i hi => by
      have h1 := hel i hi
      rw [List.getElem?_eq_getElem (by omega), Nat.mul_one] at h1
      obtain ⟨cs, hc1, hc2⟩ := Option.bind_eq_some_iff.1 h1
      obtain ⟨c, rfl⟩ : ∃ c, cs = [c] := by
        have hlen1 := (World.cells?_some hc1).2.1
        match cs, hlen1 with
        | [c], _ => exact ⟨c, rfl⟩
      obtain ⟨l, hl1, hl2⟩ := open_bytes_at hu he hce hc2
      exact ⟨c, l, _, Go.ChangeShapes.cell_of_cells?_one hc1, List.getElem?_eq_getElem (by omega), hl1, hl2⟩
    obtain ⟨vs, ll, hv1, hv2, hv3⟩ : ∃ (vs : List Value) (ll : List (List Int)), vs.length = len ∧ ll.length = len ∧ ∀ i c l, vs[i]? = some c → ll[i]? = some l → w.cell? (a.add i) = some c ∧ Rd w c l ∧ ∀ y, elems[i]? = some y → IsBytes y.1 l := by
      clear hm hl hel hf
      have key : ∀ k, k ≤ len → ∃ (vs : List Value) (ll : List (List Int)), vs.length = k ∧ ll.length = k ∧ ∀ i c l, vs[i]? = some c → ll[i]? = some l → w.cell? (a.add i) = some c ∧ Rd w c l ∧ ∀ y, elems[i]? = some y → IsBytes y.1 l := by
        intro k
        induction k with
        | zero => exact fun _ => ⟨[], [], rfl, rfl, fun i c l h => by simp at h⟩
        | succ k ih =>
          intro hk
          obtain ⟨vs, ll, g1, g2, g3⟩ := ih (by omega)
          obtain ⟨c, l, y, e1, e2, e3, e4⟩ := each k (by omega)
          refine ⟨vs ++ [c], ll ++ [l], by simp [g1], by simp [g2], fun i c' l' hc' hl' => ?_⟩
          rcases Nat.lt_trichotomy i k with h | h | h
          · rw [List.getElem?_append_left (by omega)] at hc' hl'
            exact g3 i c' l' hc' hl'
          · subst h
            rw [List.getElem?_append_right (by omega), g1] at hc'
            rw [List.getElem?_append_right (by omega), g2] at hl'
            simp at hc' hl'
            subst hc' hl'
            exact ⟨e1, e3, fun y' hy' => by rw [e2] at hy'; cases hy'; exact e4⟩
          · rw [List.getElem?_eq_none (by simp; omega)] at hc'; cases hc'
      exact key len (Nat.le_refl _)
    refine ⟨ll, ⟨vs, ⟨some a, cap, by rw [hv1], by rw [hv1]; exact hl, hm, fun e => (by cases e), fun b hb j u hju => ?_⟩, All2.of_get (by omega) fun i c l hc hl => (hv3 i c l hc hl).2.1⟩, .inr ⟨_, _, rfl, All2.of_get (by simp; omega) fun i d l hd hl => ?_⟩⟩
    · cases hb
      have hj : j < vs.length := by
        rcases Nat.lt_or_ge j vs.length with h | h
        · exact h
        · rw [List.getElem?_eq_none h] at hju; cases hju
      exact (hv3 j u _ hju (List.getElem?_eq_getElem (by omega))).1
    · have hi : i < ll.length := by
        rcases Nat.lt_or_ge i ll.length with h | h
        · exact h
        · rw [List.getElem?_eq_none h] at hl; cases hl
      have he' : elems[i]? = some (elems[i]'(by omega)) := List.getElem?_eq_getElem (by omega)
      have := (hv3 i _ l (List.getElem?_eq_getElem (by omega)) hl).2.2 _ he'
      rw [List.getElem?_map, he'] at hd
      simp at hd
      rw [← hd]
      exact this
theorem open_bytess {H : Type} {enc : TypeId × Value → H} {P : Program} {w : World} {base : Nat} {held : Bool} {t u e : TypeId} (ht : P.underlying t = some (.slice u)) (hu : P.underlying u = some (.slice e)) (he : P.underlying e = some (.int .u8))
    (hcu : P.cellsOf u = 1) (hce : P.cellsOf e = 1) {a : Option Addr} {len cap : Nat} {d : DataW H} {p : List MemPlace} (h : DataW.Trod enc P w base (fun _ => true) held t (.slice a len cap) d p) :
    ∃ ll, Rdl w (.slice a len cap) ll ∧ IsBytess d ll := by
  obtain ⟨fuel, hf⟩ := h
  have := open_bytess_at ht hu he hcu hce (v := .slice a len cap) (by simpa [Value.cells] using hf)
  simpa using this

/-- An array of two numbers. -/
theorem open_ints2 {H : Type} {enc : TypeId × Value → H} {P : Program} {w : World} {base b0 : Nat} {r : Reach} {held : Bool} {t e : TypeId} (ht : P.underlying t = some (.array 2 e)) (he : P.underlying e = some (.int .i64)) (hc : P.cellsOf e = 1) (hct : P.cellsOf t = 2)
    {v : Value} {d : DataW H} {p : List MemPlace} (hv : Value.okWide P w r b0 t v) (h : DataW.Trod enc P w base (fun _ => true) held t v d p) : ∃ a b, v = .agg #[.int .i64 a, .int .i64 b] := by
  simp only [Value.okWide, ht] at hv
  obtain ⟨cs, rfl, hsz, _⟩ := hv
  rw [hct] at hsz
  obtain ⟨c0, c1, rfl⟩ : ∃ c0 c1, cs = #[c0, c1] := by
    obtain ⟨l⟩ := cs
    match l, hsz with
    | [c0, c1], _ => exact ⟨c0, c1, rfl⟩
  obtain ⟨fuel, hf⟩ := h
  obtain ⟨xs, m, _, _, _, hx, hel⟩ := DataW.trod_array ht hf
  have h0 := hel 0 (by omega)
  have h1 := hel 1 (by omega)
  rw [hc] at h0 h1
  simp only [Value.cells] at h0 h1
  rw [List.getElem?_eq_getElem (by omega)] at h0 h1
  obtain ⟨a, e0, _⟩ := DataW.trod_int he (by simpa using h0)
  obtain ⟨b, e1, _⟩ := DataW.trod_int he (by simpa using h1)
  simp at e0 e1
  exact ⟨a, b, by rw [e0, e1]⟩

theorem IsBytes.reach {H : Type} {P : Program} {ts : List TypeId} {ds : List (DataW H)} (h : (DataW.weightsEach P ts ds).all (· ≤ reachBytes) = true) {j : Nat} {t e : TypeId} {d : DataW H} {l : List Int} (hd : IsBytes d l)
    (ht : ts[j]? = some t) (hj : ds[j]? = some d) (hu : P.underlying t = some (.slice e)) (hb : P.bytesOf e = 1) : l.length ≤ 140737488351232 := by
  rcases hd with ⟨_, rfl⟩ | ⟨sp, rfl⟩
  · simp
  · have := sized_slice h ht hj hu
    rw [hb] at this
    simp only [lits, List.length_map, reachBytes] at this
    omega
#print axioms open_bytes
end Go.Proofs.YtajmgpgjkalfkaaDoor
end

section
namespace Go.Proofs.YtajmgpgjkalfkaaDoor
open Go.ChangeShapes Go.RowKit Oct

theorem bulk_one {H : Type} (d : DataW H) : 1 ≤ Rows.uptoBulk d := by
  cases d with
  | lit l => cases l <;> simp [Rows.uptoBulk]
  | nil => simp [Rows.uptoBulk]
  | ptr d => simp [Rows.uptoBulk]
  | slice elems spare => simp [Rows.uptoBulk]
  | agg parts => simp [Rows.uptoBulk]
  | iface t d => simp [Rows.uptoBulk]
  | map entries => simp [Rows.uptoBulk]
  | held h => simp [Rows.uptoBulk]
theorem bulk_part {H : Type} {d : DataW H} {l : List (DataW H)} (h : d ∈ l) : Rows.uptoBulk d ≤ Rows.uptoBulkAll l := by
  induction l with
  | nil => cases h
  | cons x r ih =>
    simp only [Rows.uptoBulkAll]
    cases List.mem_cons.1 h with
    | inl e => subst e; omega
    | inr e => have := ih e; omega
theorem bulk_len {H : Type} (l : List (DataW H)) : l.length ≤ Rows.uptoBulkAll l := by
  induction l with
  | nil => simp [Rows.uptoBulkAll]
  | cons x r ih => have := bulk_one x; simp only [Rows.uptoBulkAll, List.length_cons]; omega
theorem bulk_bytes {H : Type} {d : DataW H} {l : List Int} (h : IsBytes d l) : l.length + 1 ≤ Rows.uptoBulk d := by
  rcases h with ⟨rfl, rfl⟩ | ⟨sp, rfl⟩
  · simp [Rows.uptoBulk]
  · have h1 := bulk_len (H := H) (lits .u8 l)
    simp only [lits, List.length_map] at h1
    simp only [Rows.uptoBulk, lits]
    omega
theorem bulk_all {H : Type} {l : List (DataW H)} (hk : Rows.uptoSmall H l = true) : Rows.uptoBulkAll l ≤ 1048576 := of_decide_eq_true hk
/-- Each of the arguments. -/
theorem bulk_bytes_in {H : Type} {l : List (DataW H)} (hk : Rows.uptoSmall H l = true) {d : DataW H} {b : List Int} (h : IsBytes d b) (hd : d ∈ l) : b.length ≤ 1048576 := by
  have h1 := bulk_all hk
  have h2 := bulk_part hd
  have h3 := bulk_bytes h
  omega
theorem bulk_list {H : Type} : ∀ {ds : List (DataW H)} {ll : List (List Int)}, All2 IsBytes ds ll → tot ll ≤ Rows.uptoBulkAll ds
  | [], [], _ => Nat.zero_le _
  | d :: ds, l :: ll, h => by
    have h1 := bulk_bytes h.1
    have h2 := bulk_list h.2
    simp only [tot, Rows.uptoBulkAll]
    omega
  | [], _ :: _, h => h.elim
  | _ :: _, [], h => h.elim
theorem bulk_bytess {H : Type} {d : DataW H} {ll : List (List Int)} (h : IsBytess d ll) : tot ll + 1 ≤ Rows.uptoBulk d := by
  rcases h with ⟨rfl, rfl⟩ | ⟨ds, sp, rfl, h⟩
  · simp [Rows.uptoBulk, tot]
  · have := bulk_list h
    simp only [Rows.uptoBulk]
    omega
theorem bulk_bytess_in {H : Type} {l : List (DataW H)} (hk : Rows.uptoSmall H l = true) {d : DataW H} {b : List (List Int)} (h : IsBytess d b) (hd : d ∈ l) : tot b ≤ 1048576 := by
  have h1 := bulk_all hk
  have h2 := bulk_part hd
  have h3 := bulk_bytess h
  omega
end Go.Proofs.YtajmgpgjkalfkaaDoor
end

section
namespace Go.Proofs.YtajmgpgjkalfkaaDoor
open Go.ChangeShapes Go.WideShapes Go.ChangeAt Go.RowKit Oct

/-- How much a thing is. -/
def bT (l : List Int) : Nat := l.length + 1
def bS {α : Type} (f : α → Nat) : List α → Nat
  | [] => 0
  | y :: ys => f y + bS f ys
def bL {α : Type} (f : α → Nat) (ys : List α) : Nat := bS f ys + 1
def bV (x : PVote) : Nat := 2 + bT x.2
def bQ (x : PReq) : Nat := 3 + bT x.2.2.1 + bT x.2.2.2
def bP (x : PPrep) : Nat := 5 + bQ x.2.2.1 + bL bV x.2.2.2
def bR (x : PRep) : Nat := 6 + bT x.2.2.2.1 + bL bV x.2.2.2.2.1 + bL bP x.2.2.2.2.2.1 + bT x.2.2.2.2.2.2
def bM (m : PMsg) : Nat := 10 + bQ m.req + bQ m.oth + bT m.data + bT m.sig + bL bV m.cert + bL bV m.votes + bL (fun _ => 1) m.order + bL bQ m.picks + bL bR m.reps

/-- What reads as a thing of type t is one by R. -/
def Opn {H : Type} (enc : TypeId × Value → H) (P : Program) (w : World) (base : Nat) (held : Bool) (t : TypeId) {α : Type} (R : List Value → α → Prop) (bk : α → Nat) (sz : α → Prop) : Prop :=
  ∀ fuel cs x, DataW.trod enc P w base (fun _ => true) held fuel t cs = some x → ∃ y, R cs y ∧ bk y ≤ Rows.uptoBulk x.1 ∧ ((∀ n ∈ x.1.weights P t, n ≤ reachBytes) → sz y)

theorem fld {H : Type} {enc : TypeId × Value → H} {P : Program} {w : World} {base n : Nat} {held : Bool} {fs : Array Field} {cs : List Value} {xs : List (DataW H × List MemPlace)}
    (hf : ∀ (i : Nat) (f : Field), fs[i]? = some f → DataW.trod enc P w base (fun _ => true) held n f.type ((cs.drop f.offset).take (P.cellsOf f.type)) = xs[i]?)
    (i : Nat) {f : Field} (e : fs[i]? = some f) {T off k : Nat} (hT : f.type = T) (ho : f.offset = off) (hc : P.cellsOf T = k) {cs' : List Value} {x' : DataW H × List MemPlace} (hcs : (cs.drop off).take k = cs') (hx : xs[i]? = some x') :
    DataW.trod enc P w base (fun _ => true) held n T cs' = some x' := by
  have := hf i f e
  rw [hT, ho, hc, hcs, hx] at this
  exact this

theorem add_add_plain (b o m j : Nat) : ((⟨b, o, none⟩ : Addr).add m).add j = ⟨b, o + m + j, none⟩ := by
  unfold Addr.add
  by_cases h1 : m = 0 <;> by_cases h2 : j = 0 <;> simp [h1, h2]
theorem of2 {α : Type} {l : List α} (h : l.length = 2) : ∃ c0 c1, l = [c0, c1] := by match l, h with | [c0, c1], _ => exact ⟨c0, c1, rfl⟩
theorem of4 {α : Type} {l : List α} (h : l.length = 4) : ∃ c0 c1 c2 c3, l = [c0, c1, c2, c3] := by match l, h with | [c0, c1, c2, c3], _ => exact ⟨c0, c1, c2, c3, rfl⟩
theorem of7 {α : Type} {l : List α} (h : l.length = 7) : ∃ c0 c1 c2 c3 c4 c5 c6, l = [c0, c1, c2, c3, c4, c5, c6] := by match l, h with | [c0, c1, c2, c3, c4, c5, c6], _ => exact ⟨c0, c1, c2, c3, c4, c5, c6, rfl⟩
theorem of8 {α : Type} {l : List α} (h : l.length = 8) : ∃ c0 c1 c2 c3 c4 c5 c6 c7, l = [c0, c1, c2, c3, c4, c5, c6, c7] := by match l, h with | [c0, c1, c2, c3, c4, c5, c6, c7], _ => exact ⟨c0, c1, c2, c3, c4, c5, c6, c7, rfl⟩
theorem of16 {α : Type} {l : List α} (h : l.length = 16) : ∃ c0 c1 c2 c3 c4 c5 c6 c7 c8 c9 c10 c11 c12 c13 c14 c15, l = [c0, c1, c2, c3, c4, c5, c6, c7, c8, c9, c10, c11, c12, c13, c14, c15] := by match l, h with | [c0, c1, c2, c3, c4, c5, c6, c7, c8, c9, c10, c11, c12, c13, c14, c15], _ => exact ⟨c0, c1, c2, c3, c4, c5, c6, c7, c8, c9, c10, c11, c12, c13, c14, c15, rfl⟩
theorem of23 {α : Type} {l : List α} (h : l.length = 23) : ∃ c0 c1 c2 c3 c4 c5 c6 c7 c8 c9 c10 c11 c12 c13 c14 c15 c16 c17 c18 c19 c20 c21 c22, l = [c0, c1, c2, c3, c4, c5, c6, c7, c8, c9, c10, c11, c12, c13, c14, c15, c16, c17, c18, c19, c20, c21, c22] := by match l, h with | [c0, c1, c2, c3, c4, c5, c6, c7, c8, c9, c10, c11, c12, c13, c14, c15, c16, c17, c18, c19, c20, c21, c22], _ => exact ⟨c0, c1, c2, c3, c4, c5, c6, c7, c8, c9, c10, c11, c12, c13, c14, c15, c16, c17, c18, c19, c20, c21, c22, rfl⟩

theorem opn_text {H : Type} {enc : TypeId × Value → H} {w : World} {base : Nat} {held : Bool} : Opn enc Tryd.prog w base held 29 (fun cs l => ∃ v, cs = [v] ∧ RT Any w v l) bT szT := by
  intro fuel cs x h
  obtain ⟨v, rfl⟩ : ∃ v, cs = [v] := by
    rcases DataW.trod_slice Tryd.underlying29 h with ⟨e, _⟩ | ⟨a, len, cap, elems, rest, n, _, e, _⟩ <;> exact ⟨_, e⟩
  obtain ⟨l, h1, h2⟩ := open_bytes_at Tryd.underlying29 Tryd.underlying5 (by kernel_rfl) h
  refine ⟨l, ⟨v, rfl, h1, fun _ _ _ => trivial⟩, bulk_bytes h2, fun hn => ?_⟩
  rcases h2 with ⟨_, rfl⟩ | ⟨sp, e⟩
  · exact Nat.zero_le _
  · rw [e] at hn
    have := hn ((lits .u8 l).length * Tryd.prog.bytesOf 5 + sp.length * Tryd.prog.bytesOf 5) (by simp only [DataW.weights, Tryd.underlying29, Nat.add_mul]; exact .head _)
    rw [show Tryd.prog.bytesOf 5 = 1 by kernel_rfl] at this
    simp only [lits, List.length_map, reachBytes] at this
    show l.length ≤ _
    omega

theorem weights_in {H : Type} {P : Program} {e : TypeId} {n : Nat} : ∀ {ds : List (DataW H)} {d : DataW H}, d ∈ ds → n ∈ d.weights P e → n ∈ DataW.weightsAll P e ds
  | y :: ys, d, h, hn => by
    simp only [DataW.weightsAll, List.mem_append]
    cases List.mem_cons.1 h with
    | inl e => subst e; exact .inl hn
    | inr e => exact .inr (weights_in e hn)

theorem addr_plain {w : World} {a : Addr} {v : Value} (h : w.cell? a = some v) : a = ⟨a.block, a.off, none⟩ ∧ a.block < w.heap.size := by
  obtain ⟨b, o, s⟩ := a
  unfold World.cell? at h
  split at h
  · rename_i c e1 e2 hh
    split at h
    · cases h
    · rename_i hs
      refine ⟨?_, ?_⟩
      · cases s with
        | none => rfl
        | some k => simp at hs
      · exact (Array.getElem?_eq_some_iff.1 hh).1
  · cases h

theorem opn_list {H : Type} {enc : TypeId × Value → H} {P : Program} {w : World} {base : Nat} {held : Bool} {t e : TypeId} {α : Type} {R : (Nat → Prop) → World → List Value → α → Prop} {bk : α → Nat} {sz : α → Prop} {k b : Nat}
    (ht : P.underlying t = some (.slice e)) (hc : P.cellsOf e = k) (hb : P.bytesOf e = b) (hk : 0 < k) (He : Opn enc P w base held e (R Any w) bk sz) :
    Opn enc P w base held t (fun cs ys => ∃ v, cs = [v] ∧ RL R k Any w v ys) (bL bk) (szL b sz) := by
  intro fuel cs x h
  rcases DataW.trod_slice ht h with ⟨rfl, rfl⟩ | ⟨a, len, cap, elems, rest, n, rfl, rfl, rfl, _, hl, hm, hlen, hel, _, _⟩
  · exact ⟨[], ⟨_, rfl, RL.nil R k Any w⟩, by simp [bL, bS, Rows.uptoBulk], fun _ => ⟨by simp, fun y hy => by cases hy⟩⟩
  · rw [hc] at hel
    have each : ∀ i (hi : i < elems.length), ∃ r y, r.length = k ∧ w.cells? base (a.add (i * k)) k = some r ∧ R Any w r y ∧ bk y ≤ Rows.uptoBulk elems[i].1 ∧ ((∀ n ∈ elems[i].1.weights P e, n ≤ reachBytes) → sz y) := fun i hi => by
      have h1 := hel i (by omega)
      rw [List.getElem?_eq_getElem hi] at h1
      obtain ⟨r, hr1, hr2⟩ := Option.bind_eq_some_iff.1 h1
      obtain ⟨y, g1, g2, g3⟩ := He n r _ hr2
      exact ⟨r, y, (World.cells?_some hr1).2.1, hr1, g1, g2, g3⟩
    clear hel h
    obtain ⟨rows, ys, q1, q2, q3, q4, q5⟩ : ∃ (rows : List (List Value)) (ys : List α), rows.length = elems.length ∧ All2 (R Any w) rows ys ∧ (∀ i r, rows[i]? = some r → r.length = k ∧ w.cells? base (a.add (i * k)) k = some r) ∧ bS bk ys ≤ Rows.uptoBulkAll (elems.map (·.1)) ∧
        ((∀ n ∈ DataW.weightsAll P e (elems.map (·.1)), n ≤ reachBytes) → ∀ y ∈ ys, sz y) := by
      clear hl hm hlen
      have key : ∀ (es : List (DataW H × List MemPlace)) (o : Nat), (∀ i (hi : i < es.length), ∃ r y, r.length = k ∧ w.cells? base (a.add ((o + i) * k)) k = some r ∧ R Any w r y ∧ bk y ≤ Rows.uptoBulk es[i].1 ∧ ((∀ n ∈ es[i].1.weights P e, n ≤ reachBytes) → sz y)) →
          ∃ (rows : List (List Value)) (ys : List α), rows.length = es.length ∧ All2 (R Any w) rows ys ∧ (∀ i r, rows[i]? = some r → r.length = k ∧ w.cells? base (a.add ((o + i) * k)) k = some r) ∧ bS bk ys ≤ Rows.uptoBulkAll (es.map (·.1)) ∧
            ((∀ n ∈ DataW.weightsAll P e (es.map (·.1)), n ≤ reachBytes) → ∀ y ∈ ys, sz y) := by
        intro es
        induction es with
        | nil => exact fun o _ => ⟨[], [], rfl, trivial, fun i r h => by simp at h, by simp [bS], fun _ y hy => by cases hy⟩
        | cons x es ih =>
          intro o hh
          obtain ⟨rows, ys, q1, q2, q3, q4, q5⟩ := ih (o + 1) (fun i hi => by
            obtain ⟨r, y, g⟩ := hh (i + 1) (by simp; omega)
            refine ⟨r, y, ?_⟩
            simp only [List.getElem_cons_succ] at g
            rw [show o + (i + 1) = o + 1 + i by omega] at g
            exact g)
          obtain ⟨r, y, g1, g2, g3, g4, g5⟩ := hh 0 (by simp)
          simp only [List.getElem_cons_zero] at g4 g5
          refine ⟨r :: rows, y :: ys, by simp [q1], ⟨g3, q2⟩, fun i r' hr' => ?_, ?_, fun hn y' hy' => ?_⟩
          · cases i with
            | zero => simp at hr'; subst hr'; exact ⟨g1, g2⟩
            | succ i =>
              simp at hr'
              have := q3 i r' hr'
              rw [show o + 1 + i = o + (i + 1) by omega] at this
              exact this
          · simp only [bS, List.map_cons, Rows.uptoBulkAll]; omega
          · simp only [List.map_cons, DataW.weightsAll, List.mem_append] at hn
            cases List.mem_cons.1 hy' with
            | inl e => subst e; exact g5 fun n h => hn n (.inl h)
            | inr e => exact q5 (fun n h => hn n (.inr h)) y' e
      obtain ⟨rows, ys, q⟩ := key elems 0 (fun i hi => by
        obtain ⟨r, y, g⟩ := each i hi
        refine ⟨r, y, ?_⟩
        rw [Nat.zero_add]
        exact g)
      refine ⟨rows, ys, ?_⟩
      simp only [Nat.zero_add] at q
      exact q
    have hyl := q2.len
    refine ⟨ys, ⟨_, rfl, rows, ⟨fun r hr => ?_, ?_⟩, q2⟩, ?_, fun hn => ⟨?_, q5 fun n h => hn n ?_⟩⟩
    · obtain ⟨i, hi, e⟩ := List.mem_iff_getElem.1 hr
      exact (q3 i r (by rw [← e]; exact List.getElem?_eq_getElem hi)).1
    · rcases Nat.eq_zero_or_pos rows.length with h0 | h0
      · refine .inl ⟨some a, cap, ?_, List.length_eq_zero_iff.1 h0, hm⟩
        have : len = 0 := by omega
        rw [this]
      · have h1 := q3 0 _ (List.getElem?_eq_getElem h0)
        have h2 := (World.cells?_some h1.2).2.2 0 hk
        have hr0 : 0 < (rows[0]).length := by omega
        rw [List.getElem?_eq_getElem hr0] at h2
        have ha : a = ⟨a.block, a.off, none⟩ ∧ a.block < w.heap.size := by
          have : (a.add (0 * k)).add 0 = a := by simp [Addr.add]
          rw [this] at h2
          exact addr_plain h2
        refine .inr ⟨a.block, a.off, cap, ?_, by omega, hm, h0, trivial, ha.2, fun i r hr j v hv => ?_⟩
        · have : len = rows.length := by omega
          rw [this, ← ha.1]
        · have hj : j < r.length := (List.getElem?_eq_some_iff.1 hv).1
          have h3 := q3 i r hr
          have h4 := (World.cells?_some h3.2).2.2 j (by omega)
          rw [← hv, ← h4]
          congr 1
          rw [ha.1]
          exact (add_add_plain _ _ _ _).symm
    · simp only [bL, Rows.uptoBulk]; omega
    · have h6 := hn ((elems.map (·.1)).length * P.bytesOf e + (rest.map (·.1)).length * P.bytesOf e) (by simp [DataW.weights, ht, Nat.add_mul])
      rw [hb] at h6
      simp only [List.length_map, reachBytes] at h6
      have : ys.length = elems.length := by omega
      rw [this]
      omega
    · simp only [DataW.weights, ht, List.mem_cons, List.mem_append]
      exact .inr (.inl h)

section
variable {H : Type} {enc : TypeId × Value → H} {w : World} {base : Nat} {held : Bool}

theorem opn_int : Opn enc Tryd.prog w base held 3 (RInt Any w) (fun _ => 1) (fun _ => True) := by
  intro fuel cs x h
  obtain ⟨n, rfl, rfl, _⟩ := DataW.trod_int Tryd.underlying3 h
  exact ⟨n, rfl, by simp [Rows.uptoBulk], fun _ => trivial⟩

/-- The parts of a struct weigh no more. -/
theorem weights_fld {P : Program} {t : TypeId} {fs : Array Field} (ht : P.underlying t = some (.struct fs)) {ds : List (DataW H)} (hn : ∀ n ∈ (DataW.agg ds).weights P t, n ≤ reachBytes) (i : Nat) {f : Field} (e : fs[i]? = some f) {T : TypeId} (hT : f.type = T) {d : DataW H} (hd : ds[i]? = some d) :
    ∀ n ∈ d.weights P T, n ≤ reachBytes := fun n h => by
  refine hn n ?_
  simp only [DataW.weights, ht]
  refine DataW.weights_mem_each (j := i) (t := T) ?_ hd n h
  rw [List.getElem?_map]
  rw [← Array.getElem?_toList] at e
  rw [e, ← hT]
  rfl

theorem cells_int : Tryd.prog.cellsOf 3 = 1 := by kernel_rfl
theorem cells_text : Tryd.prog.cellsOf 29 = 1 := by kernel_rfl

theorem opn_vote : Opn enc Tryd.prog w base held 53 (RVote Any w) bV szV := by
  intro fuel cs x h
  obtain ⟨xs, n, rfl, rfl, hl, hxl, hf⟩ := DataW.trod_struct Tryd.underlying53 h
  have hxl : xs.length = 2 := hxl
  rw [show Tryd.prog.cellsOf 53 = 2 by kernel_rfl] at hl
  obtain ⟨c0, c1, rfl⟩ : ∃ c0 c1, cs = [c0, c1] := of2 hl
  obtain ⟨x0, x1, rfl⟩ : ∃ x0 x1, xs = [x0, x1] := of2 hxl
  have h0 := fld hf 0 rfl rfl rfl cells_int (cs' := [c0]) rfl rfl
  have h1 := fld hf 1 rfl rfl rfl cells_text (cs' := [c1]) rfl rfl
  obtain ⟨y0, g0, (b0 : 1 ≤ _), _⟩ := opn_int _ _ _ h0
  obtain ⟨y1, ⟨v, e1, g1⟩, b1, s1⟩ := opn_text _ _ _ h1
  cases g0
  cases e1
  refine ⟨(y0, y1), ⟨_, rfl, g1⟩, ?_, fun hn => s1 (weights_fld Tryd.underlying53 hn 1 rfl rfl rfl)⟩
  simp only [bV, Rows.uptoBulk, Rows.uptoBulkAll, List.map_cons, List.map_nil]
  omega
/-- A request, with the ranges of its numbers. -/
theorem opn_req' (fuel : Nat) (cs : List Value) (x : DataW H × List MemPlace) (h : DataW.trod enc Tryd.prog w base (fun _ => true) held fuel 31 cs = some x) :
    ∃ y : PReq, RReq Any w cs y ∧ bQ y ≤ Rows.uptoBulk x.1 ∧ ((∀ n ∈ x.1.weights Tryd.prog 31, n ≤ reachBytes) → szQ y) ∧ (Lit.int .i64 y.1).wf = true ∧ (Lit.int .i64 y.2.1).wf = true := by
  obtain ⟨xs, n, rfl, rfl, hl, hxl, hf⟩ := DataW.trod_struct Tryd.underlying31 h
  have hxl : xs.length = 4 := hxl
  rw [show Tryd.prog.cellsOf 31 = 4 by kernel_rfl] at hl
  obtain ⟨c0, c1, c2, c3, rfl⟩ : ∃ c0 c1 c2 c3, cs = [c0, c1, c2, c3] := of4 hl
  obtain ⟨x0, x1, x2, x3, rfl⟩ : ∃ c0 c1 c2 c3, xs = [c0, c1, c2, c3] := of4 hxl
  have h0 := fld hf 0 rfl rfl rfl cells_int (cs' := [c0]) rfl rfl
  have h1 := fld hf 1 rfl rfl rfl cells_int (cs' := [c1]) rfl rfl
  have h2 := fld hf 2 rfl rfl rfl cells_text (cs' := [c2]) rfl rfl
  have h3 := fld hf 3 rfl rfl rfl cells_text (cs' := [c3]) rfl rfl
  obtain ⟨y0, g0, e0, r0⟩ := DataW.trod_int Tryd.underlying3 h0
  obtain ⟨y1, g1, e1, r1⟩ := DataW.trod_int Tryd.underlying3 h1
  obtain ⟨y2, ⟨v2, e2, g2⟩, b2, s2⟩ := opn_text _ _ _ h2
  obtain ⟨y3, ⟨v3, e3, g3⟩, b3, s3⟩ := opn_text _ _ _ h3
  cases g0
  cases g1
  cases e2
  cases e3
  refine ⟨(y0, y1, y2, y3), ⟨_, _, rfl, g2, g3⟩, ?_, fun hn => ⟨s2 (weights_fld Tryd.underlying31 hn 2 rfl rfl rfl), s3 (weights_fld Tryd.underlying31 hn 3 rfl rfl rfl)⟩, r0, r1⟩
  rw [e0, e1]
  simp only [bQ, Rows.uptoBulk, Rows.uptoBulkAll, List.map_cons, List.map_nil]
  omega
theorem opn_req : Opn enc Tryd.prog w base held 31 (RReq Any w) bQ szQ := fun fuel cs x h => by
  obtain ⟨y, h1, h2, h3, _⟩ := opn_req' fuel cs x h
  exact ⟨y, h1, h2, h3⟩
def RBalO (_ : Nat → Prop) (_ : World) (r : List Value) (x : PBal) : Prop := r = [.int .i64 x.1, .int .i64 x.2]
theorem opn_bal : Opn enc Tryd.prog w base held 28 (RBalO Any w) (fun _ => 3) (fun _ => True) := by
  intro fuel cs x h
  obtain ⟨xs, n, rfl, rfl, hl, hxl, hf⟩ := DataW.trod_struct Tryd.underlying28 h
  have hxl : xs.length = 2 := hxl
  rw [show Tryd.prog.cellsOf 28 = 2 by kernel_rfl] at hl
  obtain ⟨c0, c1, rfl⟩ : ∃ c0 c1, cs = [c0, c1] := of2 hl
  obtain ⟨x0, x1, rfl⟩ : ∃ x0 x1, xs = [x0, x1] := of2 hxl
  have h0 := fld hf 0 rfl rfl rfl cells_int (cs' := [c0]) rfl rfl
  have h1 := fld hf 1 rfl rfl rfl cells_int (cs' := [c1]) rfl rfl
  obtain ⟨y0, g0, (b0 : 1 ≤ _), _⟩ := opn_int _ _ _ h0
  obtain ⟨y1, g1, (b1 : 1 ≤ _), _⟩ := opn_int _ _ _ h1
  cases g0
  cases g1
  refine ⟨(y0, y1), rfl, ?_, fun _ => trivial⟩
  simp only [Rows.uptoBulk, Rows.uptoBulkAll, List.map_cons, List.map_nil]
  omega
theorem opn_votes : Opn enc Tryd.prog w base held 32 (fun cs ys => ∃ v, cs = [v] ∧ RL RVote 2 Any w v ys) (bL bV) (szL 32 szV) := opn_list Tryd.underlying32 (by kernel_rfl) (by kernel_rfl) (by decide) opn_vote
theorem opn_reqs : Opn enc Tryd.prog w base held 45 (fun cs ys => ∃ v, cs = [v] ∧ RL RReq 4 Any w v ys) (bL bQ) (szL 64 szQ) := opn_list Tryd.underlying45 (by kernel_rfl) (by kernel_rfl) (by decide) opn_req
theorem opn_ints : Opn enc Tryd.prog w base held 44 (fun cs ys => ∃ v, cs = [v] ∧ RL RInt 1 Any w v ys) (bL fun _ => 1) (szL 8 fun _ => True) := opn_list Tryd.underlying44 (by kernel_rfl) (by kernel_rfl) (by decide) opn_int
theorem cells_votes : Tryd.prog.cellsOf 32 = 1 := by kernel_rfl
theorem cells_bal : Tryd.prog.cellsOf 28 = 2 := by kernel_rfl
theorem cells_req : Tryd.prog.cellsOf 31 = 4 := by kernel_rfl
theorem opn_prep : Opn enc Tryd.prog w base held 97 (RPrep Any w) bP szP := by
  intro fuel cs x h
  obtain ⟨xs, n, rfl, rfl, hl, hxl, hf⟩ := DataW.trod_struct Tryd.underlying97 h
  have hxl : xs.length = 4 := hxl
  rw [show Tryd.prog.cellsOf 97 = 8 by kernel_rfl] at hl
  obtain ⟨c0, c1, c2, c3, c4, c5, c6, c7, rfl⟩ : ∃ c0 c1 c2 c3 c4 c5 c6 c7, cs = [c0, c1, c2, c3, c4, c5, c6, c7] := of8 hl
  obtain ⟨x0, x1, x2, x3, rfl⟩ : ∃ c0 c1 c2 c3, xs = [c0, c1, c2, c3] := of4 hxl
  have h0 := fld hf 0 rfl rfl rfl cells_int (cs' := [c0]) rfl rfl
  have h1 := fld hf 1 rfl rfl rfl cells_bal (cs' := [c1, c2]) rfl rfl
  have h2 := fld hf 2 rfl rfl rfl cells_req (cs' := [c3, c4, c5, c6]) rfl rfl
  have h3 := fld hf 3 rfl rfl rfl cells_votes (cs' := [c7]) rfl rfl
  obtain ⟨y0, g0, (b0 : 1 ≤ _), _⟩ := opn_int _ _ _ h0
  obtain ⟨⟨y10, y11⟩, g1, (b1 : 3 ≤ _), _⟩ := opn_bal _ _ _ h1
  obtain ⟨⟨y20, y21, y22, y23⟩, ⟨o, g, e2, g2, g2'⟩, b2, s2⟩ := opn_req _ _ _ h2
  obtain ⟨y3, ⟨v3, e3, g3⟩, b3, s3⟩ := opn_votes _ _ _ h3
  cases g0
  cases g1
  cases e2
  cases e3
  refine ⟨(y0, (y10, y11), (y20, y21, y22, y23), y3), ⟨_, _, _, rfl, g2, g2', g3⟩, ?_, fun hn => ⟨s2 (weights_fld Tryd.underlying97 hn 2 rfl rfl rfl), s3 (weights_fld Tryd.underlying97 hn 3 rfl rfl rfl)⟩⟩
  simp only [bP, Rows.uptoBulk, Rows.uptoBulkAll, List.map_cons, List.map_nil]
  omega
theorem opn_preps : Opn enc Tryd.prog w base held 79 (fun cs ys => ∃ v, cs = [v] ∧ RL RPrep 8 Any w v ys) (bL bP) (szL 112 szP) := opn_list Tryd.underlying79 (by kernel_rfl) (by kernel_rfl) (by decide) opn_prep
theorem cells_preps : Tryd.prog.cellsOf 79 = 1 := by kernel_rfl
theorem opn_rep : Opn enc Tryd.prog w base held 81 (RRep Any w) bR szR := by
  intro fuel cs x h
  obtain ⟨xs, n, rfl, rfl, hl, hxl, hf⟩ := DataW.trod_struct Tryd.underlying81 h
  have hxl : xs.length = 7 := hxl
  rw [show Tryd.prog.cellsOf 81 = 8 by kernel_rfl] at hl
  obtain ⟨c0, c1, c2, c3, c4, c5, c6, c7, rfl⟩ : ∃ c0 c1 c2 c3 c4 c5 c6 c7, cs = [c0, c1, c2, c3, c4, c5, c6, c7] := of8 hl
  obtain ⟨x0, x1, x2, x3, x4, x5, x6, rfl⟩ : ∃ c0 c1 c2 c3 c4 c5 c6, xs = [c0, c1, c2, c3, c4, c5, c6] := of7 hxl
  have h0 := fld hf 0 rfl rfl rfl cells_bal (cs' := [c0, c1]) rfl rfl
  have h1 := fld hf 1 rfl rfl rfl cells_int (cs' := [c2]) rfl rfl
  have h2 := fld hf 2 rfl rfl rfl cells_int (cs' := [c3]) rfl rfl
  have h3 := fld hf 3 rfl rfl rfl cells_text (cs' := [c4]) rfl rfl
  have h4 := fld hf 4 rfl rfl rfl cells_votes (cs' := [c5]) rfl rfl
  have h5 := fld hf 5 rfl rfl rfl cells_preps (cs' := [c6]) rfl rfl
  have h6 := fld hf 6 rfl rfl rfl cells_text (cs' := [c7]) rfl rfl
  obtain ⟨⟨y00, y01⟩, g0, (b0 : 3 ≤ _), _⟩ := opn_bal _ _ _ h0
  obtain ⟨y1, g1, (b1 : 1 ≤ _), _⟩ := opn_int _ _ _ h1
  obtain ⟨y2, g2, (b2 : 1 ≤ _), _⟩ := opn_int _ _ _ h2
  obtain ⟨y3, ⟨v3, e3, g3⟩, b3, s3⟩ := opn_text _ _ _ h3
  obtain ⟨y4, ⟨v4, e4, g4⟩, b4, s4⟩ := opn_votes _ _ _ h4
  obtain ⟨y5, ⟨v5, e5, g5⟩, b5, s5⟩ := opn_preps _ _ _ h5
  obtain ⟨y6, ⟨v6, e6, g6⟩, b6, s6⟩ := opn_text _ _ _ h6
  cases g0
  cases g1
  cases g2
  cases e3
  cases e4
  cases e5
  cases e6
  refine ⟨((y00, y01), y1, y2, y3, y4, y5, y6), ⟨_, _, _, _, rfl, g3, g4, g5, g6⟩, ?_, fun hn => ⟨s3 (weights_fld Tryd.underlying81 hn 3 rfl rfl rfl), s4 (weights_fld Tryd.underlying81 hn 4 rfl rfl rfl), s5 (weights_fld Tryd.underlying81 hn 5 rfl rfl rfl), s6 (weights_fld Tryd.underlying81 hn 6 rfl rfl rfl)⟩⟩
  simp only [bR, Rows.uptoBulk, Rows.uptoBulkAll, List.map_cons, List.map_nil]
  omega
theorem opn_reps : Opn enc Tryd.prog w base held 46 (fun cs ys => ∃ v, cs = [v] ∧ RL RRep 8 Any w v ys) (bL bR) (szL 128 szR) := opn_list Tryd.underlying46 (by kernel_rfl) (by kernel_rfl) (by decide) opn_rep
end
#print axioms opn_text
end Go.Proofs.YtajmgpgjkalfkaaDoor
end

section
namespace Go.Proofs.YtajmgpgjkalfkaaDoor
open Go.ChangeShapes Go.WideShapes Go.ChangeAt Go.RowKit Oct

theorem open_aggV {P : Program} {w : World} {b0 : Nat} {r : Reach} {t : TypeId} {fs : Array Field} {k : Nat} (ht : P.underlying t = some (.struct fs)) (hct : P.cellsOf t = k) {v : Value} (hv : Value.okWide P w r b0 t v) : ∃ cs : List Value, v = .agg cs.toArray ∧ cs.length = k := by
  simp only [Value.okWide, ht] at hv
  obtain ⟨cs, rfl, hsz, _⟩ := hv
  exact ⟨cs.toList, by simp, by simpa [hct] using hsz⟩
theorem cells_vote : Tryd.prog.cellsOf 53 = 2 := by kernel_rfl
set_option maxRecDepth 10000 in
theorem open_vote {H : Type} {enc : TypeId × Value → H} {w : World} {base b0 : Nat} {r : Reach} {held : Bool} {v : Value} {d : DataW H} {p : List MemPlace} (hv : Value.okWide Tryd.prog w r b0 53 v) (h : DataW.Trod enc Tryd.prog w base (fun _ => true) held 53 v d p) :
    ∃ (i : Int) (gv : Value) (g : List Int), v = .agg #[.int .i64 i, gv] ∧ Rd w gv g ∧ 2 + bT g ≤ Rows.uptoBulk d := by
  obtain ⟨cs, rfl, hl⟩ := open_aggV Tryd.underlying53 cells_vote hv
  obtain ⟨fuel, hf⟩ := h
  obtain ⟨y, h1, h2, h3⟩ := opn_vote fuel _ _ hf
  obtain ⟨s, e, hs⟩ := h1
  simp only [Value.cells] at e
  exact ⟨y.1, s, y.2, by rw [show cs = [.int .i64 y.1, s] from e], hs.1, h2⟩
set_option maxRecDepth 10000 in
theorem open_votes {H : Type} {enc : TypeId × Value → H} {w : World} {base : Nat} {held : Bool} {v : Value} {d : DataW H} {p : List MemPlace} (hone : v.cells.toList = [v]) (h : DataW.Trod enc Tryd.prog w base (fun _ => true) held 32 v d p) :
    ∃ ys : List PVote, RL RVote 2 Any w v ys ∧ bL bV ys ≤ Rows.uptoBulk d ∧ ((∀ n ∈ d.weights Tryd.prog 32, n ≤ reachBytes) → szL 32 szV ys) := by
  obtain ⟨fuel, hf⟩ := h
  obtain ⟨ys, ⟨u, e, h1⟩, h2, h3⟩ := opn_votes fuel _ _ hf
  rw [hone] at e
  cases e
  exact ⟨ys, h1, h2, h3⟩

theorem weightsV_arg {H : Type} {P : Program} {ts : List TypeId} {ds : List (DataW H)} (h : (DataW.weightsEach P ts ds).all (· ≤ reachBytes) = true) {j : Nat} {t : TypeId} {d : DataW H} (ht : ts[j]? = some t) (hd : ds[j]? = some d) : ∀ n ∈ d.weights P t, n ≤ reachBytes := fun n hn => by
  have := List.all_eq_true.1 h _ (DataW.weights_mem_each ht hd n hn)
  simpa using this
set_option maxRecDepth 10000 in
theorem open_req {H : Type} {enc : TypeId × Value → H} {w : World} {base b0 : Nat} {r : Reach} {held : Bool} {v : Value} {d : DataW H} {p : List MemPlace} (hv : Value.okWide Tryd.prog w r b0 31 v) (h : DataW.Trod enc Tryd.prog w base (fun _ => true) held 31 v d p) :
    ∃ (q : List Value) (x : PReq), v = .agg q.toArray ∧ RReq Any w q x ∧ bQ x ≤ Rows.uptoBulk d ∧ ((∀ n ∈ d.weights Tryd.prog 31, n ≤ reachBytes) → szQ x) ∧ (Lit.int .i64 x.1).wf = true ∧ (Lit.int .i64 x.2.1).wf = true := by
  obtain ⟨cs, rfl, hl⟩ := open_aggV Tryd.underlying31 cells_req hv
  obtain ⟨fuel, hf⟩ := h
  obtain ⟨y, h1, h2, h3, h4, h5⟩ := opn_req' fuel _ _ hf
  exact ⟨cs, y, rfl, by simpa [Value.cells] using h1, h2, h3, h4, h5⟩
end Go.Proofs.YtajmgpgjkalfkaaDoor
end

section
namespace Go.Proofs.YtajmgpgjkalfkaaDoor
open Go.ChangeShapes Go.WideShapes Go.ChangeAt Go.RowKit Oct

section
variable {H : Type} {enc : TypeId × Value → H} {w : World} {base b0 : Nat} {r : Reach} {held : Bool}
set_option maxRecDepth 10000 in
theorem open_ballL {v : Value} {d : DataW H} {p : List MemPlace} (hv : Value.okWide Tryd.prog w r b0 28 v) (h : DataW.Trod enc Tryd.prog w base (fun _ => true) held 28 v d p) :
    ∃ a b, v = .agg #[.int .i64 a, .int .i64 b] := by
  obtain ⟨cs, rfl, hl⟩ := open_aggV Tryd.underlying28 cells_bal hv
  obtain ⟨fuel, hf⟩ := h
  obtain ⟨⟨y0, y1⟩, g, _⟩ := opn_bal _ _ _ hf
  have e : cs = [.int .i64 y0, .int .i64 y1] := g
  exact ⟨y0, y1, by rw [e]⟩
theorem agg_arr {P : Program} {t e : TypeId} {n k : Nat} (ht : P.underlying t = some (.array n e)) (hct : P.cellsOf t = k) {v : Value} (hv : Value.okWide P w r b0 t v) : ∃ cs : List Value, v = .agg cs.toArray ∧ cs.length = k := by
  simp only [Value.okWide, ht] at hv
  obtain ⟨cs, rfl, hsz, _⟩ := hv
  exact ⟨cs.toList, by simp, by simpa [hct] using hsz⟩
set_option maxRecDepth 10000 in
theorem open_reqs2 {v : Value} {d : DataW H} {p : List MemPlace} (hv : Value.okWide Tryd.prog w r b0 51 v) (h : DataW.Trod enc Tryd.prog w base (fun _ => true) held 51 v d p) :
    ∃ (o0 p0 o1 p1 : Value) (r0 r1 : PReq), v = .agg #[.int .i64 r0.1, .int .i64 r0.2.1, o0, p0, .int .i64 r1.1, .int .i64 r1.2.1, o1, p1] ∧ RT Any w o0 r0.2.2.1 ∧ RT Any w p0 r0.2.2.2 ∧ RT Any w o1 r1.2.2.1 ∧ RT Any w p1 r1.2.2.2 ∧ bQ r0 + bQ r1 ≤ Rows.uptoBulk d ∧
      ((Lit.int .i64 r0.1).wf = true ∧ (Lit.int .i64 r0.2.1).wf = true) ∧ (Lit.int .i64 r1.1).wf = true ∧ (Lit.int .i64 r1.2.1).wf = true := by
  obtain ⟨cs, rfl, hl⟩ := agg_arr Tryd.underlying51 (k := 8) (by kernel_rfl) hv
  obtain ⟨c0, c1, c2, c3, c4, c5, c6, c7, rfl⟩ := of8 hl
  obtain ⟨fuel, hf⟩ := h
  obtain ⟨xs, m, _, hx, _, hl2, hel⟩ := DataW.trod_array Tryd.underlying51 hf
  obtain ⟨x0, x1, rfl⟩ := of2 hl2
  have h0 := hel 0 (by omega)
  have h1 := hel 1 (by omega)
  rw [cells_req] at h0 h1
  simp only [Value.cells] at h0 h1
  have h0 : DataW.trod enc Tryd.prog w base (fun _ => true) held m 31 [c0, c1, c2, c3] = some x0 := by simpa using h0
  have h1 : DataW.trod enc Tryd.prog w base (fun _ => true) held m 31 [c4, c5, c6, c7] = some x1 := by simpa using h1
  have hd : d = .agg [x0.1, x1.1] := by simpa using congrArg Prod.fst hx
  obtain ⟨r0, ⟨o0, p0, e0, t0, u0⟩, b0', _, i0, j0⟩ := opn_req' _ _ _ h0
  obtain ⟨r1, ⟨o1, p1, e1, t1, u1⟩, b1', _, i1, j1⟩ := opn_req' _ _ _ h1
  cases e0
  cases e1
  refine ⟨_, _, _, _, r0, r1, rfl, t0, u0, t1, u1, ?_, ⟨i0, j0⟩, i1, j1⟩
  rw [hd]
  simp only [Rows.uptoBulk, Rows.uptoBulkAll]
  omega
end
/-- What the walks want of a request. -/
theorem tot_of {r : PReq} {n : Nat} (h : bQ r ≤ n) (hn : n ≤ 1048576) : tot [r.2.2.1, r.2.2.2] ≤ 2000000 := by
  simp only [bQ, bT] at h
  simp only [tot]
  omega
theorem body_in {r0 r1 : PReq} {n : Nat} (h : bQ r0 + bQ r1 ≤ n) (hn : n ≤ 1048576) (w0 : (Lit.int .i64 r0.1).wf = true ∧ (Lit.int .i64 r0.2.1).wf = true) (w1 : (Lit.int .i64 r1.1).wf = true ∧ (Lit.int .i64 r1.2.1).wf = true) : body r0 = body r1 → r0 = r1 :=
  (body_inj (Nat.le_trans (tot_of (n := n) (by omega) hn) (by decide)) (Nat.le_trans (tot_of (n := n) (by omega) hn) (by decide)) (bounds_i64 w0.1) (bounds_i64 w0.2) (bounds_i64 w1.1) (bounds_i64 w1.2)).1
end Go.Proofs.YtajmgpgjkalfkaaDoor
end

section
namespace Go.Proofs.YtajmgpgjkalfkaaDoor
open Go.ChangeShapes Go.WideShapes Go.ChangeAt Go.RowKit Oct

/-- An act: cut?, kind, ballot, slot, request, votes. -/
structure PActL where
  cut : Bool
  kind : Int
  x : Int
  y : Int
  slot : Int
  req : PReq
  votes : List PVote
def RActL (G : Nat → Prop) (w : World) (r : List Value) (a : PActL) : Prop :=
  ∃ o p v, r = [.bool a.cut, .int .i64 a.kind, .int .i64 a.x, .int .i64 a.y, .int .i64 a.slot, .int .i64 a.req.1, .int .i64 a.req.2.1, o, p, v] ∧ RT G w o a.req.2.2.1 ∧ RT G w p a.req.2.2.2 ∧ RL RVote 2 G w v a.votes
theorem mov_actL : Mov RActL := fun _ _ _ _ _ _ h hs hm => by
  obtain ⟨o, p, v, e, h1, h2, h3⟩ := h
  exact ⟨o, p, v, e, h1.mv hm, h2.mv hm, h3.mv mov_vote hs hm⟩
def bAL (a : PActL) : Nat := bQ a.req + bL bV a.votes
theorem of10 {α : Type} {l : List α} (h : l.length = 10) : ∃ c0 c1 c2 c3 c4 c5 c6 c7 c8 c9, l = [c0, c1, c2, c3, c4, c5, c6, c7, c8, c9] := by match l, h with | [c0, c1, c2, c3, c4, c5, c6, c7, c8, c9], _ => exact ⟨c0, c1, c2, c3, c4, c5, c6, c7, c8, c9, rfl⟩
theorem of6 {α : Type} {l : List α} (h : l.length = 6) : ∃ c0 c1 c2 c3 c4 c5, l = [c0, c1, c2, c3, c4, c5] := by match l, h with | [c0, c1, c2, c3, c4, c5], _ => exact ⟨c0, c1, c2, c3, c4, c5, rfl⟩
section
variable {H : Type} {enc : TypeId × Value → H} {w : World} {base : Nat} {held : Bool}
theorem cells_boolL : Tryd.prog.cellsOf 4 = 1 := by kernel_rfl
theorem cells_votesL : Tryd.prog.cellsOf 32 = 1 := by kernel_rfl
set_option maxRecDepth 10000 in
theorem opn_actL : Opn enc Tryd.prog w base held 34 (RActL Any w) bAL (fun _ => True) := by
  intro fuel cs x h
  obtain ⟨xs, n, rfl, rfl, hl, hxl, hf⟩ := DataW.trod_struct Tryd.underlying34 h
  have hxl : xs.length = 6 := hxl
  rw [show Tryd.prog.cellsOf 34 = 10 by kernel_rfl] at hl
  obtain ⟨c0, c1, c2, c3, c4, c5, c6, c7, c8, c9, rfl⟩ := of10 hl
  obtain ⟨x0, x1, x2, x3, x4, x5, rfl⟩ := of6 hxl
  have h0 := fld hf 0 rfl rfl rfl cells_boolL (cs' := [c0]) rfl rfl
  have h1 := fld hf 1 rfl rfl rfl cells_int (cs' := [c1]) rfl rfl
  have h2 := fld hf 2 rfl rfl rfl cells_bal (cs' := [c2, c3]) rfl rfl
  have h3 := fld hf 3 rfl rfl rfl cells_int (cs' := [c4]) rfl rfl
  have h4 := fld hf 4 rfl rfl rfl cells_req (cs' := [c5, c6, c7, c8]) rfl rfl
  have h5 := fld hf 5 rfl rfl rfl cells_votesL (cs' := [c9]) rfl rfl
  obtain ⟨y0, g0, e0⟩ := DataW.trod_bool Tryd.underlying4 h0
  obtain ⟨y1, g1, e1, r1⟩ := DataW.trod_int Tryd.underlying3 h1
  obtain ⟨⟨y2, y2'⟩, g2, b2, _⟩ := opn_bal _ _ _ h2
  obtain ⟨y3, g3, e3, r3⟩ := DataW.trod_int Tryd.underlying3 h3
  obtain ⟨y4, ⟨o, p, e4, t4, u4⟩, b4, _⟩ := opn_req _ _ _ h4
  obtain ⟨y5, ⟨v5, e5, g5⟩, b5, _⟩ := opn_votes _ _ _ h5
  have g2 : [c2, c3] = [Value.int .i64 y2, Value.int .i64 y2'] := g2
  cases g0
  cases g1
  cases g2
  cases g3
  cases e4
  cases e5
  refine ⟨⟨y0, y1, y2, y2', y3, y4, y5⟩, ⟨_, _, _, rfl, t4, u4, g5⟩, ?_, fun _ => trivial⟩
  simp only [bAL, Rows.uptoBulk, Rows.uptoBulkAll, List.map_cons, List.map_nil]
  omega
theorem opn_actsL : Opn enc Tryd.prog w base held 23 (fun cs ys => ∃ v, cs = [v] ∧ RL RActL 10 Any w v ys) (bL bAL) (szL 128 fun _ => True) := opn_list Tryd.underlying23 (by kernel_rfl) (by kernel_rfl) (by decide) opn_actL
set_option maxRecDepth 10000 in
theorem open_actsL {v : Value} {d : DataW H} {p : List MemPlace} (hone : v.cells.toList = [v]) (h : DataW.Trod enc Tryd.prog w base (fun _ => true) held 23 v d p) :
    ∃ ys : List PActL, RL RActL 10 Any w v ys ∧ bL bAL ys ≤ Rows.uptoBulk d := by
  obtain ⟨fuel, hf⟩ := h
  obtain ⟨ys, ⟨u, e, h1⟩, h2, _⟩ := opn_actsL fuel _ _ hf
  rw [hone] at e
  cases e
  exact ⟨ys, h1, h2⟩
end
/-- How great an act may be. -/
structure OkAL (a : PActL) : Prop where
  req : tot [a.req.2.2.1, a.req.2.2.2] ≤ 2000000
  vts : szL 32 szV a.votes
  len : a.votes.length ≤ 10000000
theorem bS_memL {α : Type} {f : α → Nat} : ∀ {ys : List α} {y : α}, y ∈ ys → f y ≤ bS f ys
  | [], _, h => by cases h
  | a :: r, y, h => by
    simp only [bS]
    rcases List.mem_cons.1 h with e | e
    · subst e; omega
    · have := bS_memL (f := f) e; omega
theorem bS_len {α : Type} {f : α → Nat} (hf : ∀ y, 1 ≤ f y) : ∀ (ys : List α), ys.length ≤ bS f ys
  | [] => by simp [bS]
  | a :: r => by
    have := bS_len hf r
    have := hf a
    simp only [bS, List.length_cons]
    omega
theorem okAL_of {ys : List PActL} (h : bL bAL ys ≤ 1048576) : ∀ a ∈ ys, OkAL a := by
  intro a ha
  have h1 : bAL a ≤ bS bAL ys := bS_memL ha
  unfold bL at h
  have h0 : bAL a = bQ a.req + bL bV a.votes := rfl
  have h2 : bQ a.req + bL bV a.votes ≤ 1048576 := by omega
  have hl := bS_len (f := bV) (fun y => by unfold bV; omega) a.votes
  have h3 : bS bV a.votes + 1 ≤ 1048576 := by unfold bL at h2; omega
  refine ⟨tot_of (n := 1048576) (by omega) (Nat.le_refl _), ⟨by omega, fun y hy => ?_⟩, by omega⟩
  have h4 : bV y ≤ bS bV a.votes := bS_memL (f := bV) hy
  have h5 : bV y = 2 + (y.2.length + 1) := rfl
  unfold szV szT
  omega
end Go.Proofs.YtajmgpgjkalfkaaDoor
end
