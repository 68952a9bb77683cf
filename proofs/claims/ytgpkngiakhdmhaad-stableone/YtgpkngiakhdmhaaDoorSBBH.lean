/- From what came in to what a walk wants: requests, messages. -/
import Derived.Test.YtgpkngiakhdmhaaDoorRows
import Derived.Test.YtgpkngiakhdmhaaDoorSBAV
import Derived.Test.YtgpkngiakhdmhaaDoorSBAP
import Derived.Test.YtgpkngiakhdmhaaDoorSBAS
namespace Go.Proofs.YtgpkngiakhdmhaaDoor
open Go.ChangeShapes Go.WideShapes Go.ChangeAt Go.RowKit Oct
/-- How much a thing is. -/
def bT (l : List Int) : Nat := l.length + 1
def bS {α : Type} (f : α → Nat) : List α → Nat
  | [] => 0
  | y :: ys => f y + bS f ys
def bL {α : Type} (f : α → Nat) (ys : List α) : Nat := bS f ys + 1
/-- What reads as a thing of type t is one by R. -/
def Opn {H : Type} (enc : TypeId × Value → H) (P : Program) (w : World) (base : Nat) (held : Bool) (t : TypeId) {α : Type} (R : List Value → α → Prop) (bk : α → Nat) (sz : α → Prop) : Prop :=
  ∀ fuel cs x, DataW.trod enc P w base (fun _ => true) held fuel t cs = some x → ∃ y, R cs y ∧ bk y ≤ Rows.uptoBulk x.1 ∧ ((∀ n ∈ x.1.weights P t, n ≤ reachBytes) → sz y)
theorem add_add_plain (b o m j : Nat) : ((⟨b, o, none⟩ : Addr).add m).add j = ⟨b, o + m + j, none⟩ := by
  unfold Addr.add
  by_cases h1 : m = 0 <;> by_cases h2 : j = 0 <;> simp [h1, h2]
theorem opn_text {H : Type} {enc : TypeId × Value → H} {w : World} {base : Nat} {held : Bool} : Opn enc Tryd.prog w base held 26 (fun cs l => ∃ v, cs = [v] ∧ RT Any w v l) bT szT := by
  intro fuel cs x h
  obtain ⟨v, rfl⟩ : ∃ v, cs = [v] := by
    rcases DataW.trod_slice Tryd.underlying26 h with ⟨e, _⟩ | ⟨a, len, cap, elems, rest, n, _, e, _⟩ <;> exact ⟨_, e⟩
  obtain ⟨l, h1, h2⟩ := open_bytes_at Tryd.underlying26 Tryd.underlying5 (by kernel_rfl) h
  refine ⟨l, ⟨v, rfl, h1, fun _ _ _ => trivial⟩, bulk_bytes h2, fun hn => ?_⟩
  rcases h2 with ⟨_, rfl⟩ | ⟨sp, e⟩
  · exact Nat.zero_le _
  · rw [e] at hn
    have := hn ((lits .u8 l).length * Tryd.prog.bytesOf 5 + sp.length * Tryd.prog.bytesOf 5) (by simp only [DataW.weights, Tryd.underlying26, Nat.add_mul]; exact .head _)
    rw [show Tryd.prog.bytesOf 5 = 1 by kernel_rfl] at this
    simp only [lits, List.length_map, reachBytes] at this
    show l.length ≤ _
    omega
theorem addr_plain {w : World} {a : Addr} {v : Value} (h : w.cell? a = some v) : a = ⟨a.block, a.off, none⟩ ∧ a.block < w.heap.size := by
  obtain ⟨b, o, s⟩ := a
  unfold World.cell? at h
  split at h
  · rename_i c e1 e2 hh
    split at h
    · cases h
    · rename_i hs
      refine ⟨?_, ?_⟩
      · cases s with
        | none => rfl
        | some k => simp at hs
      · exact (Array.getElem?_eq_some_iff.1 hh).1
  · cases h
theorem opn_list {H : Type} {enc : TypeId × Value → H} {P : Program} {w : World} {base : Nat} {held : Bool} {t e : TypeId} {α : Type} {R : (Nat → Prop) → World → List Value → α → Prop} {bk : α → Nat} {sz : α → Prop} {k b : Nat}
    (ht : P.underlying t = some (.slice e)) (hc : P.cellsOf e = k) (hb : P.bytesOf e = b) (hk : 0 < k) (He : Opn enc P w base held e (R Any w) bk sz) :
    Opn enc P w base held t (fun cs ys => ∃ v, cs = [v] ∧ RL R k Any w v ys) (bL bk) (szL b sz) := by
  intro fuel cs x h
  rcases DataW.trod_slice ht h with ⟨rfl, rfl⟩ | ⟨a, len, cap, elems, rest, n, rfl, rfl, rfl, _, hl, hm, hlen, hel, _, _⟩
  · exact ⟨[], ⟨_, rfl, RL.nil R k Any w⟩, by simp [bL, bS, Rows.uptoBulk], fun _ => ⟨by simp, fun y hy => by cases hy⟩⟩
  · rw [hc] at hel
    have each : ∀ i (hi : i < elems.length), ∃ r y, r.length = k ∧ w.cells? base (a.add (i * k)) k = some r ∧ R Any w r y ∧ bk y ≤ Rows.uptoBulk elems[i].1 ∧ ((∀ n ∈ elems[i].1.weights P e, n ≤ reachBytes) → sz y) := fun i hi => by
      have h1 := hel i (by omega)
      rw [List.getElem?_eq_getElem hi] at h1
      obtain ⟨r, hr1, hr2⟩ := Option.bind_eq_some_iff.1 h1
      obtain ⟨y, g1, g2, g3⟩ := He n r _ hr2
      exact ⟨r, y, (World.cells?_some hr1).2.1, hr1, g1, g2, g3⟩
    clear hel h
    obtain ⟨rows, ys, q1, q2, q3, q4, q5⟩ : ∃ (rows : List (List Value)) (ys : List α), rows.length = elems.length ∧ All2 (R Any w) rows ys ∧ (∀ i r, rows[i]? = some r → r.length = k ∧ w.cells? base (a.add (i * k)) k = some r) ∧ bS bk ys ≤ Rows.uptoBulkAll (elems.map (·.1)) ∧
        ((∀ n ∈ DataW.weightsAll P e (elems.map (·.1)), n ≤ reachBytes) → ∀ y ∈ ys, sz y) := by
      clear hl hm hlen
      have key : ∀ (es : List (DataW H × List MemPlace)) (o : Nat), (∀ i (hi : i < es.length), ∃ r y, r.length = k ∧ w.cells? base (a.add ((o + i) * k)) k = some r ∧ R Any w r y ∧ bk y ≤ Rows.uptoBulk es[i].1 ∧ ((∀ n ∈ es[i].1.weights P e, n ≤ reachBytes) → sz y)) →
          ∃ (rows : List (List Value)) (ys : List α), rows.length = es.length ∧ All2 (R Any w) rows ys ∧ (∀ i r, rows[i]? = some r → r.length = k ∧ w.cells? base (a.add ((o + i) * k)) k = some r) ∧ bS bk ys ≤ Rows.uptoBulkAll (es.map (·.1)) ∧
            ((∀ n ∈ DataW.weightsAll P e (es.map (·.1)), n ≤ reachBytes) → ∀ y ∈ ys, sz y) := by
        intro es
        induction es with
        | nil => exact fun o _ => ⟨[], [], rfl, trivial, fun i r h => by simp at h, by simp [bS], fun _ y hy => by cases hy⟩
        | cons x es ih =>
          intro o hh
          obtain ⟨rows, ys, q1, q2, q3, q4, q5⟩ := ih (o + 1) (fun i hi => by
            obtain ⟨r, y, g⟩ := hh (i + 1) (by simp; omega)
            refine ⟨r, y, ?_⟩
            simp only [List.getElem_cons_succ] at g
            rw [show o + (i + 1) = o + 1 + i by omega] at g
            exact g)
          obtain ⟨r, y, g1, g2, g3, g4, g5⟩ := hh 0 (by simp)
          simp only [List.getElem_cons_zero] at g4 g5
          refine ⟨r :: rows, y :: ys, by simp [q1], ⟨g3, q2⟩, fun i r' hr' => ?_, ?_, fun hn y' hy' => ?_⟩
          · cases i with
            | zero => simp at hr'; subst hr'; exact ⟨g1, g2⟩
            | succ i =>
              simp at hr'
              have := q3 i r' hr'
              rw [show o + 1 + i = o + (i + 1) by omega] at this
              exact this
          · simp only [bS, List.map_cons, Rows.uptoBulkAll]; omega
          · simp only [List.map_cons, DataW.weightsAll, List.mem_append] at hn
            cases List.mem_cons.1 hy' with
            | inl e => subst e; exact g5 fun n h => hn n (.inl h)
            | inr e => exact q5 (fun n h => hn n (.inr h)) y' e
      obtain ⟨rows, ys, q⟩ := key elems 0 (fun i hi => by
        obtain ⟨r, y, g⟩ := each i hi
        refine ⟨r, y, ?_⟩
        rw [Nat.zero_add]
        exact g)
      refine ⟨rows, ys, ?_⟩
      simp only [Nat.zero_add] at q
      exact q
    have hyl := q2.len
    refine ⟨ys, ⟨_, rfl, rows, ⟨fun r hr => ?_, ?_⟩, q2⟩, ?_, fun hn => ⟨?_, q5 fun n h => hn n ?_⟩⟩
    · obtain ⟨i, hi, e⟩ := List.mem_iff_getElem.1 hr
      exact (q3 i r (by rw [← e]; exact List.getElem?_eq_getElem hi)).1
    · rcases Nat.eq_zero_or_pos rows.length with h0 | h0
      · refine .inl ⟨some a, cap, ?_, List.length_eq_zero_iff.1 h0, hm⟩
        have : len = 0 := by omega
        rw [this]
      · have h1 := q3 0 _ (List.getElem?_eq_getElem h0)
        have h2 := (World.cells?_some h1.2).2.2 0 hk
        have hr0 : 0 < (rows[0]).length := by omega
        rw [List.getElem?_eq_getElem hr0] at h2
        have ha : a = ⟨a.block, a.off, none⟩ ∧ a.block < w.heap.size := by
          have : (a.add (0 * k)).add 0 = a := by simp [Addr.add]
          rw [this] at h2
          exact addr_plain h2
        refine .inr ⟨a.block, a.off, cap, ?_, by omega, hm, h0, trivial, ha.2, fun i r hr j v hv => ?_⟩
        · have : len = rows.length := by omega
          rw [this, ← ha.1]
        · have hj : j < r.length := (List.getElem?_eq_some_iff.1 hv).1
          have h3 := q3 i r hr
          have h4 := (World.cells?_some h3.2).2.2 j (by omega)
          rw [← hv, ← h4]
          congr 1
          rw [ha.1]
          exact (add_add_plain _ _ _ _).symm
    · simp only [bL, Rows.uptoBulk]; omega
    · have h6 := hn ((elems.map (·.1)).length * P.bytesOf e + (rest.map (·.1)).length * P.bytesOf e) (by simp [DataW.weights, ht, Nat.add_mul])
      rw [hb] at h6
      simp only [List.length_map, reachBytes] at h6
      have : ys.length = elems.length := by omega
      rw [this]
      omega
    · simp only [DataW.weights, ht, List.mem_cons, List.mem_append]
      exact .inr (.inl h)
section
variable {H : Type} {enc : TypeId × Value → H} {w : World} {base : Nat} {held : Bool}
end
#print axioms opn_text
end Go.Proofs.YtgpkngiakhdmhaaDoor
