/- The walks over package msg: Encode, whole. -/
import Derived.Test.YtgjepofinpmcpaaGreatDoorJAQ
import Derived.Maps.RangeRun
import Derived.Maps.OwnSet
import Derived.Test.YtgjepofinpmcpaaGreatDoorJAV
section
set_option linter.unusedVariables false
set_option linter.unusedSimpArgs false
namespace Go.Proofs.YtgjepofinpmcpaaGreatDoor
open Go.RowKit Oct
open Go.ChangeMaps (setBlock heap_setBlock_same heap_setBlock_other)

/-- A place: kind, ballot (two numbers), slot, signer. -/
abbrev PK := Int × Int × Int × Int × Int
def kv (q : PK) : Value := .agg #[.int .i64 q.1, .int .i64 q.2.1, .int .i64 q.2.2.1, .int .i64 q.2.2.2.1, .int .i64 q.2.2.2.2]

theorem eqK (w : World) (p q : PK) : (Op.equal 116 (kv p) (kv q)).run Tryz.prog w = .ok (decide (p = q)) w := by
  obtain ⟨a1, a2, a3, a4, a5⟩ := p
  obtain ⟨b1, b2, b3, b4, b5⟩ := q
  have hi : Tryz.prog.underlying 3 = some (.int .i64) := Tryz.underlying3
  have hz : ∀ w, (Go.sizeOf 3).run Tryz.prog w = .ok 1 w := fun w => by kernel_rfl
  have hz2 : ∀ w, (Go.sizeOf 32).run Tryz.prog w = .ok 2 w := fun w => by kernel_rfl
  have hb : ∀ w, (Op.equalIn 9999 32 (.agg #[.int .i64 a2, .int .i64 a3]) (.agg #[.int .i64 b2, .int .i64 b3])).run Tryz.prog w = .ok (a2 == b2 && a3 == b3) w := fun w => by
    rw [run_equalIn_struct w 9998 32 _ _ (by kernel_rfl) (by kernel_rfl)]
    simp only [Program.fieldsOf, Tryz.underlying32]
    simp [Op.eqFields, part, hz, run_equalIn_int, hi]
    by_cases h1 : a2 = b2 <;> by_cases h2 : a3 = b3 <;> simp [h1, h2]
  show (Op.equalIn (9999 + 1) 116 _ _).run _ _ = _
  unfold kv
  rw [run_equalIn_struct w 9999 116 _ _ (by kernel_rfl) (by kernel_rfl)]
  simp only [Program.fieldsOf, Tryz.underlying116]
  simp [Op.eqFields, part, hz, hz2, run_equalIn_int, hi, hb]
  by_cases h1 : a1 = b1 <;> by_cases h2 : a2 = b2 <;> by_cases h3 : a3 = b3 <;> by_cases h4 : a4 = b4 <;> by_cases h5 : a5 = b5 <;> simp [h1, h2, h3, h4, h5]

theorem checkK (w : World) (em : Bool) (q : PK) : (Instr.checkKey em 10000 116 (kv q)).run Tryz.prog w = .ok () w := by kernel_rfl

/-- The first place at which q stands. -/
def fnd (q : PK) : List PK → Option Nat
  | [] => none
  | k :: ks => if q = k then some 0 else (fnd q ks).map (· + 1)
theorem fnd_lt {q : PK} : ∀ {ks : List PK} {j : Nat}, fnd q ks = some j → j < ks.length ∧ ks[j]? = some q
  | [], j, h => by simp [fnd] at h
  | k :: ks, j, h => by
    unfold fnd at h
    split at h
    · rename_i e
      simp at h
      subst h
      simp [e]
    · cases hf : fnd q ks with
      | none => simp [hf] at h
      | some i =>
        simp [hf] at h
        subst h
        have := fnd_lt hf
        simpa using this
theorem fnd_none {q : PK} : ∀ {ks : List PK}, fnd q ks = none → q ∉ ks
  | [], h => by simp
  | k :: ks, h => by
    unfold fnd at h
    split at h
    · simp at h
    · rename_i hne
      have : fnd q ks = none := by simpa using h
      simp [hne, fnd_none this]
theorem fnd_of {q : PK} : ∀ {ks : List PK} {j : Nat}, ks.Nodup → ks[j]? = some q → fnd q ks = some j
  | [], j, _, h => by simp at h
  | k :: ks, 0, _, h => by simp at h; simp [fnd, h]
  | k :: ks, j + 1, hn, h => by
    obtain ⟨h1, h2⟩ := List.nodup_cons.1 hn
    have hm : q ∈ ks := List.mem_of_getElem? (by simpa using h)
    have hne : q ≠ k := fun e => h1 (e ▸ hm)
    simp [fnd, hne, fnd_of h2 (by simpa using h)]

theorem findA (w : World) (q : PK) : ∀ (es : List MapEntry) (ks : List PK) (i : Nat), es.map (·.key) = ks.map kv →
    (Instr.findAsking 116 (kv q) es i).run Tryz.prog w = .ok ((fnd q ks).bind fun j => (es[j]?).map fun e => (i + j, e.val)) w
  | [], [], i, _ => by simp [Instr.findAsking, fnd]
  | e :: es, k :: ks, i, h => by
    simp only [List.map_cons, List.cons.injEq] at h
    simp only [Instr.findAsking, h.1, Sem.run_bind, eqK, Result.andThen_ok, fnd]
    by_cases hk : q = k
    · simp [hk]
    · simp only [hk, decide_false, Bool.false_eq_true, if_false, findA w q es ks (i + 1) h.2]
      cases fnd q ks with
      | none => simp
      | some j => simp [Nat.add_assoc, Nat.add_comm 1 j]
  | [], _ :: _, _, h => by simp at h
  | _ :: _, [], _, h => by simp at h
theorem findK (w : World) (q : PK) (es : List MapEntry) (ks : List PK) (h : es.map (·.key) = ks.map kv) :
    (Instr.findKey 116 (kv q) es).run Tryz.prog w = .ok ((fnd q ks).bind fun j => (es[j]?).map fun e => (j, e.val)) w := by
  have hA := findA w q es ks 0 h
  simp only [Nat.zero_add] at hA
  cases es with
  | nil =>
    cases ks with
    | nil => simp [Instr.findKey, run_underlying Tryz.underlying116, Instr.findNow, fnd]
    | cons k ks => simp at h
  | cons e es =>
    have hn : Instr.findNow (.struct (Tryz.prog.fieldsOf 116)) (kv q) (e :: es) 0 = none := by simp [Instr.findNow, Instr.sameNow, kv]
    have hu : Tryz.prog.underlying 116 = some (.struct (Tryz.prog.fieldsOf 116)) := by kernel_rfl
    simp only [Instr.findKey, Sem.run_bind, run_underlying hu, Result.andThen_ok, hn, hA]
theorem staysK (w : World) (q : PK) : (Instr.keyThatStays (kv q) (kv q)).run Tryz.prog w = .ok (kv q) w := by
  have : Instr.sameBits (9999 + 1) (kv q) (kv q) = true := by simp [kv, Instr.sameBits]
  simp [Instr.keyThatStays, show Instr.sameBits 10000 (kv q) (kv q) = true from this]

/-- Block b is a map of these entries, in this order. -/
def Mp (w : World) (b : Nat) (l : List (PK × Value)) : Prop :=
  ∃ (es : Array MapEntry) (clock : Nat), w.heap[b]? = some (.map es clock) ∧ es.toList.map (fun e => (e.key, e.val)) = l.map (fun z => (kv z.1, z.2)) ∧ (∀ e ∈ es.toList, e.born < clock) ∧ (es.toList.map (·.born)).Nodup
theorem Mp.lt {w : World} {b : Nat} {l : List (PK × Value)} (h : Mp w b l) : b < w.heap.size := by
  obtain ⟨es, clock, hb, _⟩ := h
  exact (Array.getElem?_eq_some_iff.1 hb).1
theorem Mp.made (w : World) : Mp (w.alloc (.map #[] 0)) w.heap.size [] := ⟨#[], 0, heap_alloc_new w _, rfl, by simp, by simp⟩
theorem Mp.grown {w w' : World} {b : Nat} {l : List (PK × Value)} {r : Option Nat} (h : Mp w b l) (hg : w.grownBy w' r) (hr : r ≠ some b) : Mp w' b l := by
  have hlt := h.lt
  obtain ⟨es, clock, hb, hrest⟩ := h
  exact ⟨es, clock, (hg.block b hlt (fun e => hr e.symm)).trans hb, hrest⟩
theorem Mp.below {w w' : World} {b : Nat} {l : List (PK × Value)} (h : Mp w b l) (hb : Below w.heap.size w w') : Mp w' b l := h.grown (grown_of_below hb none) (by simp)
theorem Mp.nocell {w : World} {b : Nat} {l : List (PK × Value)} (h : Mp w b l) (o : Nat) : w.cell? ⟨b, o, none⟩ = none := by
  obtain ⟨es, clock, hb, _⟩ := h
  simp [World.cell?, hb]
theorem ent_keys {es : List MapEntry} {l : List (PK × Value)} (h : es.map (fun e => (e.key, e.val)) = l.map (fun z => (kv z.1, z.2))) : es.map (·.key) = (l.map (·.1)).map kv := by
  have := congrArg (List.map Prod.fst) h
  simpa [Function.comp_def] using this
theorem ent_at {es : List MapEntry} {l : List (PK × Value)} (h : es.map (fun e => (e.key, e.val)) = l.map (fun z => (kv z.1, z.2))) {j : Nat} {z : PK × Value} (hz : l[j]? = some z) : ∃ e, es[j]? = some e ∧ e.key = kv z.1 ∧ e.val = z.2 := by
  have h1 := congrArg (fun t => t[j]?) h
  simp only [List.getElem?_map, hz, Option.map_some] at h1
  cases he : es[j]? with
  | none => simp [he] at h1
  | some e =>
    simp [he] at h1
    exact ⟨e, rfl, h1.1, h1.2⟩
theorem zeroC (w : World) : (zeroValue 120).run Tryz.prog w = .ok (.agg #[.int .i64 0, .int .i64 0, .slice none 0 0, .slice none 0 0, .slice none 0 0, .bool false]) w := by kernel_rfl

/-- 'v, ok := m[k]'. -/
theorem Mp.look_none {w : World} {b : Nat} {l : List (PK × Value)} (h : Mp w b l) {q : PK} (hq : fnd q (l.map (·.1)) = none) :
    (Instr.lookup 112 (.map (some b)) (kv q) true).run Tryz.prog w = .ok (.tuple #[.agg #[.int .i64 0, .int .i64 0, .slice none 0 0, .slice none 0 0, .slice none 0 0, .bool false], .bool false]) w := by
  obtain ⟨es, clock, hb, hl, _⟩ := h
  have hf := findK w q es.toList _ (ent_keys hl)
  rw [hq] at hf
  simp [Instr.lookup, run_underlying Tryz.underlying112, MapKept.run_getObj_map hb, checkK, hf, zeroC, Result.andThen]
theorem Mp.look_some {w : World} {b : Nat} {l : List (PK × Value)} (h : Mp w b l) {q : PK} {j : Nat} {v : Value} (hq : fnd q (l.map (·.1)) = some j) (hj : l[j]? = some (q, v)) :
    (Instr.lookup 112 (.map (some b)) (kv q) true).run Tryz.prog w = .ok (.tuple #[v, .bool true]) w := by
  obtain ⟨es, clock, hb, hl, _⟩ := h
  have hf := findK w q es.toList _ (ent_keys hl)
  obtain ⟨e, he, _, hv⟩ := ent_at hl hj
  rw [hq] at hf
  simp only [Option.bind_some, he, Option.map_some, hv] at hf
  simp [Instr.lookup, run_underlying Tryz.underlying112, MapKept.run_getObj_map hb, checkK, hf, Result.andThen]

theorem grown_block {w : World} {b : Nat} {es : Array MapEntry} {clock : Nat} (hb : w.heap[b]? = some (.map es clock)) (o : Obj) : w.grownBy (setBlock w b o) (some b) :=
  ⟨rfl, rfl, rfl, by simp [setBlock], fun i _ hi => heap_setBlock_other hb _ (fun e => hi (by rw [e]))⟩
/-- 'm[k] = v', k new. -/
theorem Mp.put_new {w : World} {b : Nat} {l : List (PK × Value)} (h : Mp w b l) {q : PK} (hq : fnd q (l.map (·.1)) = none) (v : Value) :
    ∃ w', (Instr.mapUpdate 112 (.map (some b)) (kv q) v).run Tryz.prog w = .ok () w' ∧ Mp w' b (l ++ [(q, v)]) ∧ w.grownBy w' (some b) := by
  obtain ⟨es, clock, hb, hl, h1, h2⟩ := h
  have hf := findK w q es.toList _ (ent_keys hl)
  rw [hq] at hf
  refine ⟨setBlock w b (.map (es.push ⟨kv q, v, clock⟩) (clock + 1)), ?_, ⟨_, _, heap_setBlock_same hb _, ?_, ?_, ?_⟩, grown_block hb _⟩
  · simp [Instr.mapUpdate, run_underlying Tryz.underlying112, MapKept.run_getObj_map hb, checkK, hf, MapKept.run_setObj_map _ hb, Result.andThen, setBlock]
  · simp [hl]
  · intro e he
    simp at he
    rcases he with he | rfl
    · have := h1 e (by simpa using he)
      omega
    · simp
  · rw [Array.toList_push, List.map_append, List.nodup_append]
    refine ⟨h2, by simp, ?_⟩
    intro a ha c hc
    simp at hc
    subst hc
    obtain ⟨e, he, rfl⟩ := List.mem_map.1 ha
    have := h1 e he
    omega
/-- 'm[k] = v', k there. -/
theorem Mp.put_old {w : World} {b : Nat} {l : List (PK × Value)} (h : Mp w b l) {q : PK} {j : Nat} {u : Value} (hq : fnd q (l.map (·.1)) = some j) (hj : l[j]? = some (q, u)) (v : Value) :
    ∃ w', (Instr.mapUpdate 112 (.map (some b)) (kv q) v).run Tryz.prog w = .ok () w' ∧ Mp w' b (l.set j (q, v)) ∧ w.grownBy w' (some b) := by
  obtain ⟨es, clock, hb, hl, h1, h2⟩ := h
  have hf := findK w q es.toList _ (ent_keys hl)
  obtain ⟨e, he, hk, hv⟩ := ent_at hl hj
  rw [hq] at hf
  simp only [Option.bind_some, he, Option.map_some] at hf
  have he' : es[j]? = some e := by simpa using he
  have hmod : (es.modify j fun e => { e with key := kv q, val := v }).toList = es.toList.set j { e with key := kv q, val := v } := by
    rw [Array.toList_modify]
    refine List.ext_getElem? fun i => ?_
    rw [List.getElem?_modify, List.getElem?_set]
    by_cases hi : j = i
    · subst hi
      have hjl := (List.getElem?_eq_some_iff.1 he).1
      simp only [if_true, he, hjl]
      rfl
    · simp [hi]
  refine ⟨setBlock w b (.map (es.modify j fun e => { e with key := kv q, val := v }) clock), ?_, ⟨_, _, heap_setBlock_same hb _, ?_, ?_, ?_⟩, grown_block hb _⟩
  · simp [Instr.mapUpdate, run_underlying Tryz.underlying112, MapKept.run_getObj_map hb, checkK, hf, he', hk, staysK, MapKept.run_setObj_map _ hb, Result.andThen, setBlock]
  · rw [hmod, List.map_set, List.map_set, hl]
  · intro x hx
    rw [hmod] at hx
    rcases List.mem_or_eq_of_mem_set hx with hx | rfl
    · exact h1 x hx
    · exact h1 e (List.mem_of_getElem? he)
  · rw [hmod, List.map_set]
    have : (es.toList.map (·.born)).set j e.born = es.toList.map (·.born) := by
      refine List.ext_getElem? fun i => ?_
      rw [List.getElem?_set]
      by_cases hi : j = i
      · subst hi
        have hjl := (List.getElem?_eq_some_iff.1 he).1
        simp only [if_true, List.length_map, hjl, List.getElem?_map, he]
        rfl
      · simp [hi]
    rw [this]
    exact h2
/-- 'len(m)'. -/
theorem Mp.len {w : World} {b : Nat} {l : List (PK × Value)} (h : Mp w b l) (ty : TypeId) : (Builtin.len_ #[112] ty #[.map (some b)]).run Tryz.prog w = .ok (.int .i64 (l.length : Int)) w := by
  obtain ⟨es, clock, hb, hl, _⟩ := h
  have hs : es.size = l.length := by
    have := congrArg List.length hl
    simpa using this
  simp [Builtin.len_, run_underlying Tryz.underlying112, MapKept.run_getObj_map hb, Result.andThen, hs, goInt]
end Go.Proofs.YtgjepofinpmcpaaGreatDoor
end

section
set_option linter.unusedVariables false
namespace Go.Proofs.YtgjepofinpmcpaaGreatDoor
open Go.RowKit Oct

theorem WS.iter {w0 w : World} {b : Nat} {done : List Int} (h : WS w0 w b done) {k : Nat} {s : ByteArray} {p : Nat} (hk : w.heap[k]? = some (.stringIter s p)) (h0 : w0.heap.size ≤ k) (p' : Nat) : WS w0 (w.iterAt k s p') b done := by
  obtain ⟨bel, hb, v, many, lo, hrow, hown, hbyt, hfr, hlo, h1, h2⟩ := h
  have hkb : b ≠ k := by
    rintro rfl
    unfold Row at hrow
    rw [hk] at hrow
    cases hrow
  refine ⟨Lib.below_iterAt bel h0 s p', hb, v, many, lo, iter_low hrow hkb, ⟨hown.1, ?_⟩, hbyt, hfr, hlo, h1, h2⟩
  rcases hown.2 with hn | ⟨g, cap, cur, hv, hbg, hg, rest⟩
  · exact .inl hn
  · have hkg : g ≠ k := by
      rintro rfl
      rw [hk] at hg
      cases hg
    exact .inr ⟨g, cap, cur, hv, hbg, (Lib.iterAt_other w k g s p' hkg).trans hg, rest⟩
theorem ufr_iter {w w' : World} {b k : Nat} {s : ByteArray} {p : Nat} (h : UFr b w w') (hk : w.heap[k]? = some (.stringIter s p)) (hb : k ≠ b) : w'.heap[k]? = some (.stringIter s p) := by
  rw [h.block k (Array.getElem?_eq_some_iff.1 hk).1 hb (fun cs f e => by rw [hk] at e; cases e)]
  exact hk
theorem ws_new (w : World) : WS w (w.alloc (.cells #[.slice none 0 0, .bool false] 103)) w.heap.size [] :=
  ⟨below_alloc w _, Nat.le_refl _, .slice none 0 0, false, [], Row.new w 103 [.slice none 0 0, .bool false], Own.nil _ _, Byt.nil, Fr.nil _, by simp, fun _ => rfl, ⟨fun h => (by cases h), fun h => by simp at h⟩⟩
theorem bad_other {m : PMsg} (h : hasO m.kind m = true) : badM m = true := by
  unfold badM
  have : ((List.range 15).any fun i => !(fl m.kind).contains i && !zF m i) = true := h
  simp only [this, Bool.or_true, Bool.true_or]
theorem bad_field {m : PMsg} {i : Nat} (hi : i ∈ fl m.kind) (h : okF m i = false) : badM m = true := by
  unfold badM
  have : ((fl m.kind).any fun i => !okF m i) = true := by
    rw [List.any_eq_true]
    exact ⟨i, hi, by simp [h]⟩
  simp only [this, Bool.or_true]
theorem bad_none {m : PMsg} (h1 : fl m.kind ≠ []) (h2 : hasO m.kind m = false) (h3 : ∀ i ∈ fl m.kind, okF m i = true) : badM m = false := by
  unfold badM
  have e2 : ((List.range 15).any fun i => !(fl m.kind).contains i && !zF m i) = false := h2
  have e3 : ((fl m.kind).any fun i => !okF m i) = false := by
    rw [List.any_eq_false]
    intro i hi
    simp [h3 i hi]
  have e1 : (fl m.kind).isEmpty = false := by simpa using h1
  simp only [e1, e2, e3, Bool.or_false]
theorem encE_bad {m : PMsg} (h : badM m = true) : encE m = 51 := by unfold encE; rw [if_pos h]
theorem encE_many {m : PMsg} (h : badM m = false) (hl : 1048576 < (byM m).length) : encE m = 53 := by unfold encE; rw [if_neg (by rw [h]; decide), if_pos hl]
theorem encE_ok {m : PMsg} (h : badM m = false) (hl : ¬ 1048576 < (byM m).length) : encE m = 0 := by unfold encE; rw [if_neg (by rw [h]; decide), if_neg hl]
/-- Nothing was given up: what was laid is handed back. -/
theorem enc_back (w w1 : World) (m : PMsg) (pb pe : Nat) (v : Value) (hb : Row w1 pb 23 [v]) (he : Row w1 pe 24 [.int .i64 0]) (hB : Below w.heap.size w w1)
    (hE : encE m = 0) (hown : Own w1 5 v (bc (byM m))) (hbyt : Byt (byM m)) (hfr : Fr w.heap.size v) (tmps : Array Value) (h2 : tmps.getD 2 undef = .pointer (some ⟨pb, 0, none⟩)) (h3 : tmps.getD 3 undef = .pointer (some ⟨pe, 0, none⟩)) :
    bodyPostD Tryz.prog Tryz.f28 (EPost m w) .ret
      { tmps := tmps, defers := [{ target := .fn (.func 55) #[.pointer (some ⟨pb, 0, none⟩), .pointer (some ⟨pe, 0, none⟩)], args := #[] }] } w1 := by
  refine leaves_cons (f := 55) (args := #[.pointer (some ⟨pb, 0, none⟩), .pointer (some ⟨pe, 0, none⟩)]) (by simp) (by simp [go_sem]) ?_
  refine (encIdle pb pe w1).mono ?_
  rintro e u' w2 ⟨rfl, rfl, rfl⟩
  have e : encB m = byM m := by unfold encB; rw [if_pos hE]
  exact ⟨_, enc_results _ tmps pb pe _ _ hb he h2 h3, v, by rw [hE], by rw [e]; exact hown, by rw [e]; exact hbyt, hfr, hB⟩

set_option maxRecDepth 10000 in
set_option maxHeartbeats 4000000 in
theorem encode_some (w : World) (m : PMsg) (s : SV) (hs : SOk Any w m s) (hk : fl m.kind ≠ []) : Calls Tryz.prog 28 #[.agg (mc m s).toArray] w (EPost m w) := by
  obtain ⟨w3, hw3⟩ : ∃ w3, w3 = (((w.alloc (.cells (mc m s).toArray 40)).alloc (.cells #[.slice none 0 0] 23)).alloc (.cells #[.int .i64 0] 24)) := ⟨_, rfl⟩
  have hm : Row w3 w.heap.size 40 (mc m s) := by rw [hw3]; exact row_alloc (row_alloc (Row.new w 40 (mc m s)) _) _
  have hb : Row w3 (w.heap.size + 1) 23 [.slice none 0 0] := by
    rw [hw3]
    have := row_alloc (Row.new (w.alloc (.cells (mc m s).toArray 40)) 23 [.slice none 0 0]) (.cells #[.int .i64 0] 24)
    simpa using this
  have he : Row w3 (w.heap.size + 1 + 1) 24 [.int .i64 0] := by
    rw [hw3]
    have := Row.new ((w.alloc (.cells (mc m s).toArray 40)).alloc (.cells #[.slice none 0 0] 23)) 24 [.int .i64 0]
    simpa using this
  have hB3 : Below w.heap.size w w3 := by rw [hw3]; exact (((Below.refl _ w).alloc (Nat.le_refl _) _).alloc (by simp) _).alloc (by simp; omega) _
  go_enter_defers Tryz.func28, Tryz.ntmps28
  go_upto_region 1 with fail
  rw [← hw3]
  clear hw3
  have c0 := hm.cell (j := 0) rfl
  have hF := fieldsOf_any w3 m.kind
  have hH := hasOther_any w3 m s (hs.below hB3) m.kind
  have hse : (fsB m.kind).toList.isEmpty = false := by rw [fsB_empty]; simpa using hk
  have hpb : w.heap.size ≤ w.heap.size + 1 := by omega
  have hpe : w.heap.size ≤ w.heap.size + 1 + 1 := by omega
  have hne : w.heap.size + 1 ≠ w.heap.size + 1 + 1 := by omega
  generalize w.heap.size + 1 + 1 = pe at *
  generalize w.heap.size + 1 = pb at *
  cases hO : hasO m.kind m with
  | true =>
    rw [hO] at hH
    have HE := (show Hid (encE m = 51) from encE_bad (bad_other hO))
    clear hO hk
    go_wp2_with (first
      | (go_at_call 36; refine hF.mono ?_; rintro e w3 ⟨rfl, rfl⟩)
      | (refine wl_load_w (by rfl) _ _ rfl w.heap.size rfl _ _ hm _ Tryz.underlying40 rfl (by kernel_rfl) ?_)
      | (go_at_call 56; refine hH.mono ?_; rintro e w4 ⟨rfl, hB4⟩))
    exact enc_gave w w4 m 51 _ _ _ _ (hb.below hB4) (he.below hB4) hne (below_and hB3 (Nat.le_refl _) hB4) hpb hpe HE.out (by decide) _ rfl rfl
  | false =>
    rw [hO] at hH
    have hkd := fl_kind hk
    have HK := (show Hid (fl m.kind ≠ []) from hk)
    have HO := (show Hid (hasO m.kind m = false) from hO)
    have HKD := (show Hid (0 ≤ m.kind ∧ m.kind ≤ 2147483647) from hkd)
    clear hO hk hkd
    go_wp2_with (first
      | (go_at_call 36; refine hF.mono ?_; rintro e w3 ⟨rfl, rfl⟩)
      | (refine wl_load_w (by rfl) _ _ rfl w.heap.size rfl _ _ hm _ Tryz.underlying40 rfl (by kernel_rfl) ?_)
      | (go_at_call 56; refine hH.mono ?_; rintro e w4 ⟨rfl, hB4⟩; have hm4 := row_alloc (hm.below hB4) (.cells #[.slice none 0 0, .bool false] 103); have c4 := hm4.cell (j := 0) rfl))
    have hW4 := ws_new w4
    have hBw4 := below_and hB3 (Nat.le_refl _) hB4
    have hs4 := hs.below hBw4
    have hb4 := row_alloc (hb.below hB4) (.cells #[.slice none 0 0, .bool false] 103)
    have he4 := row_alloc (he.below hB4) (.cells #[.slice none 0 0, .bool false] 103)
    have n1 : w.heap.size ≠ w4.heap.size := by have := (hm.below hB4).lt; omega
    have n2 : pb ≠ w4.heap.size := by have := (hb.below hB4).lt; omega
    have n3 : pe ≠ w4.heap.size := by have := (he.below hB4).lt; omega
    clear hB4 hB3 hb he hm hF hH c0 c4
    refine (wnum_any w4 _ w4.heap.size [] m.kind hW4).mono ?_
    rintro e w6 ⟨hu6, hb6, ⟨ho6, rfl⟩ | ⟨ho6, rfl, hW6⟩⟩
    · exact absurd ho6 (by show ¬ okI _ = false; rw [okI_yes HKD.out.1 HKD.out.2]; decide)
    rw [List.nil_append] at hW6
    have hm6 := hm4.ufr hu6 n1 (by decide)
    have hb6' := hb4.ufr hu6 n2 (by decide)
    have he6 := he4.ufr hu6 n3 (by decide)
    clear hm4 hb4 he4 hW4 hu6 hb6 ho6
    have nit : w6.heap.size ≠ w4.heap.size := by have := hW6.lt; omega
    have nit0 : w4.heap.size ≤ w6.heap.size := hW6.bel.size
    generalize w4.heap.size = b at *
    go_wp2_with fail
    have hl0 : (fsB m.kind).size = (fl m.kind).length := fsB_size _
    have hit0 := World.iter_heap w6 (fsB m.kind) 0
    have hbi : Below w6.heap.size w6 (w6.iter (fsB m.kind) 0) := (Below.refl _ w6).alloc (Nat.le_refl _) _
    have HL := (show Hid ((fsB m.kind).size = (fl m.kind).length) from hl0)
    obtain ⟨N, hN⟩ : ∃ N, N = (fl m.kind).length := ⟨_, rfl⟩
    have HN := (show Hid (N = (fl m.kind).length) from hN)
    clear hl0 hN
    go_loopg [] N (fun gf wx => ∃ pos : Nat, wx.heap[w6.heap.size]? = some (.stringIter (fsB m.kind) pos) ∧ WS w4 wx b (cN.wr m.kind ++ wrFs m ((fl m.kind).take pos)) ∧ Row wx w.heap.size 40 (mc m s) ∧ Row wx pb 23 [.slice none 0 0] ∧ Row wx pe 24 [.int .i64 0] ∧
      pos + gf = N ∧ Hid (∀ i ∈ (fl m.kind).take pos, okF m i = true))
    case atStart => exact ⟨0, hit0, by simpa [wrFs] using hW6.below hbi, hm6.below hbi, hb6'.below hbi, he6.below hbi, by omega, fun i hi => by simp at hi⟩
    case round =>
      obtain ⟨pos, hit, hW, hm, hb, he, hfu, hall⟩ := hrel
      by_cases hps : pos < (fsB m.kind).size
      · have hps' : pos < (fl m.kind).length := by rw [← HL.out]; exact hps
        obtain ⟨g', rfl⟩ : ∃ g', gk = g' + 1 := ⟨gk - 1, by have := HN.out; omega⟩
        obtain ⟨i, hi⟩ : ∃ i, (fl m.kind)[pos]? = some i := ⟨_, List.getElem?_eq_getElem hps'⟩
        have h15 : i < 15 := nice_lt (fl_nice _) i (List.mem_of_getElem? hi)
        obtain ⟨hl1, hl2⟩ := fsB_at hps hi
        have hnx : ∀ ty, (Instr.next (.pointer (some ⟨w6.heap.size, 0, none⟩)) true ty).run Tryz.prog wr = _ := fun ty => Lib.run_next_ascii_at wr w6.heap.size (fsB m.kind) pos ty hit hps hl2
        rw [hl1] at hnx
        have hit2 := Lib.iterAt_heap wr w6.heap.size (fsB m.kind) pos (pos + 1) hit
        have hW2 := hW.iter hit hW6.bel.size (pos + 1)
        have hne6 : ∀ k t xs, Row wr k t xs → k ≠ w6.heap.size := fun k t xs h e => by unfold Row at h; rw [e, hit] at h; cases h
        have hm2 := iter_low (s := fsB m.kind) (p := pos + 1) hm (hne6 _ _ _ hm)
        have hb2 := iter_low (s := fsB m.kind) (p := pos + 1) hb (hne6 _ _ _ hb)
        have he2 := iter_low (s := fsB m.kind) (p := pos + 1) he (hne6 _ _ _ he)
        obtain ⟨W, hWd⟩ : ∃ W, wr.iterAt w6.heap.size (fsB m.kind) (pos + 1) = W := ⟨_, rfl⟩
        rw [hWd] at hnx hit2 hW2 hm2 hb2 he2
        have cF' := wfield_any w4 W b _ m s hW2 hs4 h15
        have HI := (show Hid ((fl m.kind)[pos]? = some i) from hi)
        clear hWd hl1 hl2 hi hne6 hps
        go_wp2_with (first
          | (refine wl_load rfl _ _ rfl w.heap.size rfl _ _ hm2 _ Tryz.underlying40 rfl (by kernel_rfl) ?_))
        refine cF'.mono ?_
        rintro e w7 ⟨hu7, hb7, ⟨ho7, rfl⟩ | ⟨ho7, rfl, hW7⟩⟩
        · have HE := (show Hid (encE m = 51) from encE_bad (bad_field (List.mem_of_getElem? HI.out) ho7))
          clear ho7
          go_wp2_with fail
          exact enc_gave w w7 m 51 _ _ _ _ (hb2.ufr hu7 n2 (by decide)) (he2.ufr hu7 n3 (by decide)) hne (below_and hBw4 (Nat.le_refl _) hb7) hpb hpe HE.out (by decide) _ rfl rfl
        · have HO7 := (show Hid (okF m i = true) from ho7)
          clear ho7
          go_wp2_with fail
          go_roundg g'
          case measure => omega
          case rel => exact ⟨pos + 1, ufr_iter hu7 hit2 nit, by rw [take_snoc' _ _ _ HI.out, wrFs_snoc, ← List.append_assoc]; exact hW7, hm2.ufr hu7 n1 (by decide), hb2.ufr hu7 n2 (by decide), he2.ufr hu7 n3 (by decide), by omega, fun j hj => by
            rw [take_snoc' _ _ _ HI.out] at hj
            rcases List.mem_append.1 hj with h | h
            · exact hall.out j h
            · simp at h; subst h; exact HO7.out⟩
      · have hnx : ∀ ty, (Instr.next (.pointer (some ⟨w6.heap.size, 0, none⟩)) true ty).run Tryz.prog wr = _ := fun ty => Lib.run_next_end_at wr w6.heap.size (fsB m.kind) pos ty hit hps
        have hpl : (fl m.kind).length ≤ pos := by rw [← HL.out]; omega
        have hall := hall.out
        rw [List.take_of_length_le hpl] at hall hW
        have hbad := bad_none HK.out HO.out hall
        have HB := (show Hid (badM m = false) from hbad)
        clear hall hpl hps hbad
        obtain ⟨bel, hbb, v, many, lo, hrow, hown, hbyt, hfr, hlo, h1, h2⟩ := hW
        have c1 := hrow.cell (j := 1) rfl
        have c2 := hrow.cell (j := 0) rfl
        cases many with
        | true =>
          have HE := (show Hid (encE m = 53) from encE_many HB.out (h2.1 rfl))
          clear h1 h2
          go_wp2_with fail
          exact enc_gave w wr m 53 _ _ _ _ hb he hne (below_and hBw4 (Nat.le_refl _) bel) hpb hpe HE.out (by decide) _ rfl rfl
        | false =>
          have h3 : lo = byM m := h1 rfl
          have HE := (show Hid (encE m = 0) from encE_ok HB.out (fun h => by have := h2.2 h; cases this))
          clear h1 h2
          have hov : v.oneCell' = true := own_one' hown
          go_wp2_with (first
            | (refine wl_set rfl _ _ _ rfl pb 0 _ rfl rfl _ _ hb (show 0 < 1 by decide) (by kernel_rfl) hov ?_; intro w8 hr8 hg8; have he8 := he.grown hg8 (fun e => hne (by injection e)))
            | (refine wl_set rfl _ _ _ rfl pe 0 _ rfl rfl _ _ he8 (show 0 < 1 by decide) (by kernel_rfl) rfl ?_; intro w9 hr9 hg9))
          have hpb9 := hr8.out.grown hg9 (fun e => hne (by injection e with e; exact e.symm))
          have hB9 := Two.below (below_and hBw4 (Nat.le_refl _) bel) (Two.of hg8 hg9) (Nat.le_refl _) hpb hpe
          have o8 := hown.grown hg8 (fun k hk => by cases hk; exact own_row_ne hb hown (by decide))
          have o9 := o8.grown hg9 (fun k hk => by cases hk; exact own_row_ne he8 o8 (by decide))
          subst h3
          exact enc_back w w9 m pb pe v hpb9 hr9.out hB9 HE.out o9 hbyt (hfr.mono hBw4.size) _ rfl rfl
/-- Encode. -/
theorem encode_any (w : World) (m : PMsg) (s : SV) (hs : SOk Any w m s) : Calls Tryz.prog 28 #[.agg (mc m s).toArray] w (EPost m w) := by
  by_cases hk : fl m.kind = []
  · exact encode_no w m s hs hk
  · exact encode_some w m s hs hk
#print axioms encode_any
end Go.Proofs.YtgjepofinpmcpaaGreatDoor
end
