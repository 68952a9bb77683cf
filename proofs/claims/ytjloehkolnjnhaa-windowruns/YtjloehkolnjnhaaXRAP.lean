/- Maps whose keys are ints: their entries stand in the order in which they were laid. Look-up, store, len. Written by mk18.py out of Lm1. -/
import Derived.Test.YtjloehkolnjnhaaXRAH
import Derived.Test.YtjloehkolnjnhaaXRAI
import Derived.Maps.RangeRun
import Derived.Maps.OwnSet
set_option linter.unusedSimpArgs false
set_option linter.unusedVariables false
namespace Go.Proofs.Ytjloehkolnjnhaa
open Go.RowKit Oct
open Go.ChangeMaps (setBlock heap_setBlock_same heap_setBlock_other)
abbrev kv (q : Int) : Value := .int .i64 q
theorem checkK (w : World) (em : Bool) (q : Int) : (Instr.checkKey em 10000 3 (kv q)).run Try.prog w = .ok () w := by kernel_rfl
/-- The first place at which q stands. -/
def fnd (q : Int) : List Int → Option Nat
  | [] => none
  | k :: ks => if q = k then some 0 else (fnd q ks).map (· + 1)
theorem fnd_none {q : Int} : ∀ {ks : List Int}, fnd q ks = none → q ∉ ks
  | [], h => by simp
  | k :: ks, h => by
    unfold fnd at h
    split at h
    · simp at h
    · rename_i hne
      have : fnd q ks = none := by simpa using h
      simp [hne, fnd_none this]
theorem fnd_of {q : Int} : ∀ {ks : List Int} {j : Nat}, ks.Nodup → ks[j]? = some q → fnd q ks = some j
  | [], j, _, h => by simp at h
  | k :: ks, 0, _, h => by simp at h; simp [fnd, h]
  | k :: ks, j + 1, hn, h => by
    obtain ⟨h1, h2⟩ := List.nodup_cons.1 hn
    have hm : q ∈ ks := List.mem_of_getElem? (by simpa using h)
    have hne : q ≠ k := fun e => h1 (e ▸ hm)
    simp [fnd, hne, fnd_of h2 (by simpa using h)]
theorem findN (q : Int) : ∀ (es : List MapEntry) (ks : List Int) (i : Nat), es.map (·.key) = ks.map kv →
    Instr.findNow (.int .i64) (kv q) es i = some ((fnd q ks).bind fun j => (es[j]?).map fun e => (i + j, e.val))
  | [], [], i, _ => by simp [Instr.findNow, fnd]
  | e :: es, k :: ks, i, h => by
    simp only [List.map_cons, List.cons.injEq] at h
    simp only [Instr.findNow, h.1, kv, Instr.sameNow, if_true, fnd]
    by_cases hk : q = k
    · simp [hk]
    · have hb : (q == k) = false := by simpa using hk
      simp only [hb, hk, if_false]
      have := findN q es ks (i + 1) h.2
      simp only [kv] at this
      rw [this]
      cases fnd q ks with
      | none => simp
      | some j => simp [Nat.add_assoc, Nat.add_comm 1 j]
  | [], _ :: _, _, h => by simp at h
  | _ :: _, [], _, h => by simp at h
theorem findK (w : World) (q : Int) (es : List MapEntry) (ks : List Int) (h : es.map (·.key) = ks.map kv) :
    (Instr.findKey 3 (kv q) es).run Try.prog w = .ok ((fnd q ks).bind fun j => (es[j]?).map fun e => (j, e.val)) w := by
  have hA := findN q es ks 0 h
  simp only [Nat.zero_add] at hA
  simp only [Instr.findKey, Sem.run_bind, run_underlying Try.underlying3, Result.andThen_ok, hA, Sem.run_pure]
theorem staysK (w : World) (q : Int) : (Instr.keyThatStays (kv q) (kv q)).run Try.prog w = .ok (kv q) w := by
  have : Instr.sameBits (9999 + 1) (kv q) (kv q) = true := by simp [kv, Instr.sameBits]
  simp [Instr.keyThatStays, show Instr.sameBits 10000 (kv q) (kv q) = true from this]
/-- Block b is a map of these entries, in this order. -/
def Mp (w : World) (b : Nat) (l : List (Int × Value)) : Prop :=
  ∃ (es : Array MapEntry) (clock : Nat), w.heap[b]? = some (.map es clock) ∧ es.toList.map (fun e => (e.key, e.val)) = l.map (fun z => (kv z.1, z.2)) ∧ (∀ e ∈ es.toList, e.born < clock) ∧ (es.toList.map (·.born)).Nodup
theorem Mp.lt {w : World} {b : Nat} {l : List (Int × Value)} (h : Mp w b l) : b < w.heap.size := by
  obtain ⟨es, clock, hb, _⟩ := h
  exact (Array.getElem?_eq_some_iff.1 hb).1
theorem Mp.made (w : World) : Mp (w.alloc (.map #[] 0)) w.heap.size [] := ⟨#[], 0, heap_alloc_new w _, rfl, by simp, by simp⟩
theorem Mp.grown {w w' : World} {b : Nat} {l : List (Int × Value)} {r : Option Nat} (h : Mp w b l) (hg : w.grownBy w' r) (hr : r ≠ some b) : Mp w' b l := by
  have hlt := h.lt
  obtain ⟨es, clock, hb, hrest⟩ := h
  exact ⟨es, clock, (hg.block b hlt (fun e => hr e.symm)).trans hb, hrest⟩
theorem Mp.below {w w' : World} {b : Nat} {l : List (Int × Value)} (h : Mp w b l) (hb : Below w.heap.size w w') : Mp w' b l := h.grown (grown_of_below hb none) (by simp)
theorem Mp.nocell {w : World} {b : Nat} {l : List (Int × Value)} (h : Mp w b l) (o : Nat) : w.cell? ⟨b, o, none⟩ = none := by
  obtain ⟨es, clock, hb, _⟩ := h
  simp [World.cell?, hb]
theorem ent_keys {es : List MapEntry} {l : List (Int × Value)} (h : es.map (fun e => (e.key, e.val)) = l.map (fun z => (kv z.1, z.2))) : es.map (·.key) = (l.map (·.1)).map kv := by
  have := congrArg (List.map Prod.fst) h
  simpa [Function.comp_def] using this
theorem ent_at {es : List MapEntry} {l : List (Int × Value)} (h : es.map (fun e => (e.key, e.val)) = l.map (fun z => (kv z.1, z.2))) {j : Nat} {z : Int × Value} (hz : l[j]? = some z) : ∃ e, es[j]? = some e ∧ e.key = kv z.1 ∧ e.val = z.2 := by
  have h1 := congrArg (fun t => t[j]?) h
  simp only [List.getElem?_map, hz, Option.map_some] at h1
  cases he : es[j]? with
  | none => simp [he] at h1
  | some e =>
    simp [he] at h1
    exact ⟨e, rfl, h1.1, h1.2⟩
theorem zeroC (w : World) : (zeroValue 33).run Try.prog w = .ok (.agg zSl.toArray) w := by kernel_rfl
/-- 'm[k]'. -/
theorem Mp.look_none {w : World} {b : Nat} {l : List (Int × Value)} (h : Mp w b l) {q : Int} (hq : fnd q (l.map (·.1)) = none) :
    (Instr.lookup 67 (.map (some b)) (kv q) false).run Try.prog w = .ok (.agg zSl.toArray) w := by
  obtain ⟨es, clock, hb, hl, _⟩ := h
  have hf := findK w q es.toList _ (ent_keys hl)
  rw [hq] at hf
  simp [Instr.lookup, run_underlying Try.underlying67, MapKept.run_getObj_map hb, checkK, hf, zeroC, Result.andThen]
  rfl
theorem Mp.look_some {w : World} {b : Nat} {l : List (Int × Value)} (h : Mp w b l) {q : Int} {j : Nat} {v : Value} (hq : fnd q (l.map (·.1)) = some j) (hj : l[j]? = some (q, v)) :
    (Instr.lookup 67 (.map (some b)) (kv q) false).run Try.prog w = .ok v w := by
  obtain ⟨es, clock, hb, hl, _⟩ := h
  have hf := findK w q es.toList _ (ent_keys hl)
  obtain ⟨e, he, _, hv⟩ := ent_at hl hj
  rw [hq] at hf
  simp only [Option.bind_some, he, Option.map_some, hv] at hf
  simp [Instr.lookup, run_underlying Try.underlying67, MapKept.run_getObj_map hb, checkK, hf, Result.andThen]
theorem grown_block {w : World} {b : Nat} {es : Array MapEntry} {clock : Nat} (hb : w.heap[b]? = some (.map es clock)) (o : Obj) : w.grownBy (setBlock w b o) (some b) :=
  ⟨rfl, rfl, rfl, by simp [setBlock], fun i _ hi => heap_setBlock_other hb _ (fun e => hi (by rw [e]))⟩
/-- 'm[k] = v', k new. -/
theorem Mp.put_new {w : World} {b : Nat} {l : List (Int × Value)} (h : Mp w b l) {q : Int} (hq : fnd q (l.map (·.1)) = none) (v : Value) :
    ∃ w', (Instr.mapUpdate 67 (.map (some b)) (kv q) v).run Try.prog w = .ok () w' ∧ Mp w' b (l ++ [(q, v)]) ∧ w.grownBy w' (some b) := by
  obtain ⟨es, clock, hb, hl, h1, h2⟩ := h
  have hf := findK w q es.toList _ (ent_keys hl)
  rw [hq] at hf
  refine ⟨setBlock w b (.map (es.push ⟨kv q, v, clock⟩) (clock + 1)), ?_, ⟨_, _, heap_setBlock_same hb _, ?_, ?_, ?_⟩, grown_block hb _⟩
  · simp [Instr.mapUpdate, run_underlying Try.underlying67, MapKept.run_getObj_map hb, checkK, hf, MapKept.run_setObj_map _ hb, Result.andThen, setBlock]
  · simp [hl]
  · intro e he
    simp at he
    rcases he with he | rfl
    · have := h1 e (by simpa using he)
      omega
    · simp
  · rw [Array.toList_push, List.map_append, List.nodup_append]
    refine ⟨h2, by simp, ?_⟩
    intro a ha c hc
    simp at hc
    subst hc
    obtain ⟨e, he, rfl⟩ := List.mem_map.1 ha
    have := h1 e he
    omega
/-- 'm[k] = v', k there. -/
theorem Mp.put_old {w : World} {b : Nat} {l : List (Int × Value)} (h : Mp w b l) {q : Int} {j : Nat} {u : Value} (hq : fnd q (l.map (·.1)) = some j) (hj : l[j]? = some (q, u)) (v : Value) :
    ∃ w', (Instr.mapUpdate 67 (.map (some b)) (kv q) v).run Try.prog w = .ok () w' ∧ Mp w' b (l.set j (q, v)) ∧ w.grownBy w' (some b) := by
  obtain ⟨es, clock, hb, hl, h1, h2⟩ := h
  have hf := findK w q es.toList _ (ent_keys hl)
  obtain ⟨e, he, hk, hv⟩ := ent_at hl hj
  rw [hq] at hf
  simp only [Option.bind_some, he, Option.map_some] at hf
  have he' : es[j]? = some e := by simpa using he
  have hmod : (es.modify j fun e => { e with key := kv q, val := v }).toList = es.toList.set j { e with key := kv q, val := v } := by
    rw [Array.toList_modify]
    refine List.ext_getElem? fun i => ?_
    rw [List.getElem?_modify, List.getElem?_set]
    by_cases hi : j = i
    · subst hi
      have hjl := (List.getElem?_eq_some_iff.1 he).1
      simp only [if_true, he, hjl]
      rfl
    · simp [hi]
  refine ⟨setBlock w b (.map (es.modify j fun e => { e with key := kv q, val := v }) clock), ?_, ⟨_, _, heap_setBlock_same hb _, ?_, ?_, ?_⟩, grown_block hb _⟩
  · simp [Instr.mapUpdate, run_underlying Try.underlying67, MapKept.run_getObj_map hb, checkK, hf, he', hk, staysK, MapKept.run_setObj_map _ hb, Result.andThen, setBlock]
  · rw [hmod, List.map_set, List.map_set, hl]
  · intro x hx
    rw [hmod] at hx
    rcases List.mem_or_eq_of_mem_set hx with hx | rfl
    · exact h1 x hx
    · exact h1 e (List.mem_of_getElem? he)
  · rw [hmod, List.map_set]
    have : (es.toList.map (·.born)).set j e.born = es.toList.map (·.born) := by
      refine List.ext_getElem? fun i => ?_
      rw [List.getElem?_set]
      by_cases hi : j = i
      · subst hi
        have hjl := (List.getElem?_eq_some_iff.1 he).1
        simp only [if_true, List.length_map, hjl, List.getElem?_map, he]
        rfl
      · simp [hi]
    rw [this]
    exact h2
/-- 'len(m)'. -/
theorem Mp.len {w : World} {b : Nat} {l : List (Int × Value)} (h : Mp w b l) (ty : TypeId) : (Builtin.len_ #[67] ty #[.map (some b)]).run Try.prog w = .ok (.int .i64 (l.length : Int)) w := by
  obtain ⟨es, clock, hb, hl, _⟩ := h
  have hs : es.size = l.length := by
    have := congrArg List.length hl
    simpa using this
  simp [Builtin.len_, run_underlying Try.underlying67, MapKept.run_getObj_map hb, Result.andThen, hs, goInt]
end Go.Proofs.Ytjloehkolnjnhaa
