/- What the rows' list gives: the table of constants; and a world that holds it, for the witness. -/
import Derived.Test.YtgjepofinpmcpaaGreatDoorCAJ
import Derived.Maps.RangeRun
import Derived.Maps.OwnSet
import Derived.Test.YtgjepofinpmcpaaGreatDoorCAM
import Derived.Test.YtgjepofinpmcpaaGreatDoorCAE
import Derived.Lib.BytesEntry
import Derived.Laws.Externs
import Derived.Lib.SliceRun
import Derived.Test.YtgjepofinpmcpaaGreatDoorRows
import Derived.Test.YtgjepofinpmcpaaGreatDoorCAS
import Derived.Deep.DeepHandedRow
import Derived.Lib.LaidTab
section
set_option linter.unusedVariables false
namespace Go.Proofs.YtgjepofinpmcpaaGreatDoor
open Go.RowKit Oct

section
variable {P : Program}
/-- A part of a row is loaded. -/
theorem wl_part {ops : Array Oper} {rest : List Oper} {o : Oper} {a : Act} {w : World} {Q : Exit → Act → World → Prop} (hgd : o.guard = none) (ty : TypeId) (x : Operand) (ho : o.op = .load ty x)
    (b off : Nat) (hx : a.eval x = .pointer (some ⟨b, off, none⟩)) (t : TypeId) (xs : List Value) (h : Row w b t xs) (cs : List Value) (hcs : (xs.drop off).take cs.length = cs) (d : TypeDesc) (hu : P.underlying ty = some d) (hd : d.isRow = true)
    (hi : (P.info? ty).map (·.size) = some cs.length) (k : wpList P ops Q rest (a.put o.dst (.agg cs.toArray)) w) : wpList P ops Q (o :: rest) a w :=
  wpList_load_mid hgd ty x ho b off hx cs d (fun j v hj => by
    have := h.src off cs.length j v (by rw [hcs]; exact hj)
    rw [Addr.add_mid] at this
    exact this) hu hd hi k
end
theorem World.rangeAt.blk {w w' : World} {b o : Nat} {cs : List Value} (h : w.rangeAt b o cs) (e : w'.heap[b]? = w.heap[b]?) : w'.rangeAt b o cs := rangeAt_block h e
theorem one_RVote {G : Nat → Prop} {w : World} {r : List Value} {x : PVote} (h : RVote G w r x) : ∀ v ∈ r, v.oneCell' = true := by
  obtain ⟨s, rfl, h1⟩ := h
  intro v hv
  simp only [List.mem_cons, List.not_mem_nil, or_false] at hv
  rcases hv with rfl | rfl
  · rfl
  · exact h1.one
theorem one_RReq {G : Nat → Prop} {w : World} {r : List Value} {x : PReq} (h : RReq G w r x) : ∀ v ∈ r, v.oneCell' = true := by
  obtain ⟨o, g, rfl, h1, h2⟩ := h
  intro v hv
  simp only [List.mem_cons, List.not_mem_nil, or_false] at hv
  rcases hv with rfl | rfl | rfl | rfl
  · rfl
  · rfl
  · exact h1.one
  · exact h2.one
theorem one_RPrep {G : Nat → Prop} {w : World} {r : List Value} {x : PPrep} (h : RPrep G w r x) : ∀ v ∈ r, v.oneCell' = true := by
  obtain ⟨o, g, c, rfl, h1, h2, h3⟩ := h
  intro v hv
  simp only [List.mem_cons, List.not_mem_nil, or_false] at hv
  rcases hv with rfl | rfl | rfl | rfl | rfl | rfl | rfl | rfl <;> first | rfl | exact h1.one | exact h2.one | exact h3.one
theorem one_RRep {G : Nat → Prop} {w : World} {r : List Value} {x : PRep} (h : RRep G w r x) : ∀ v ∈ r, v.oneCell' = true := by
  obtain ⟨d, s, p, g, rfl, h1, h2, h3, h4⟩ := h
  intro v hv
  simp only [List.mem_cons, List.not_mem_nil, or_false] at hv
  rcases hv with rfl | rfl | rfl | rfl | rfl | rfl | rfl | rfl <;> first | rfl | exact h1.one | exact h2.one | exact h3.one | exact h4.one
end Go.Proofs.YtgjepofinpmcpaaGreatDoor
end

section
set_option linter.unusedVariables false
set_option linter.unusedSimpArgs false
namespace Go.Proofs.YtgjepofinpmcpaaGreatDoor
open Go.RowKit Oct
open Go.ChangeMaps (setBlock heap_setBlock_same heap_setBlock_other)

/-- A place: kind, ballot (two numbers), slot, signer. -/
abbrev PK := Int × Int × Int × Int × Int
def kv (q : PK) : Value := .agg #[.int .i64 q.1, .int .i64 q.2.1, .int .i64 q.2.2.1, .int .i64 q.2.2.2.1, .int .i64 q.2.2.2.2]

theorem eqK (w : World) (p q : PK) : (Op.equal 116 (kv p) (kv q)).run Tryz.prog w = .ok (decide (p = q)) w := by
  obtain ⟨a1, a2, a3, a4, a5⟩ := p
  obtain ⟨b1, b2, b3, b4, b5⟩ := q
  have hi : Tryz.prog.underlying 3 = some (.int .i64) := Tryz.underlying3
  have hz : ∀ w, (Go.sizeOf 3).run Tryz.prog w = .ok 1 w := fun w => by kernel_rfl
  have hz2 : ∀ w, (Go.sizeOf 32).run Tryz.prog w = .ok 2 w := fun w => by kernel_rfl
  have hb : ∀ w, (Op.equalIn 9999 32 (.agg #[.int .i64 a2, .int .i64 a3]) (.agg #[.int .i64 b2, .int .i64 b3])).run Tryz.prog w = .ok (a2 == b2 && a3 == b3) w := fun w => by
    rw [run_equalIn_struct w 9998 32 _ _ (by kernel_rfl) (by kernel_rfl)]
    simp only [Program.fieldsOf, Tryz.underlying32]
    simp [Op.eqFields, part, hz, run_equalIn_int, hi]
    by_cases h1 : a2 = b2 <;> by_cases h2 : a3 = b3 <;> simp [h1, h2]
  show (Op.equalIn (9999 + 1) 116 _ _).run _ _ = _
  unfold kv
  rw [run_equalIn_struct w 9999 116 _ _ (by kernel_rfl) (by kernel_rfl)]
  simp only [Program.fieldsOf, Tryz.underlying116]
  simp [Op.eqFields, part, hz, hz2, run_equalIn_int, hi, hb]
  by_cases h1 : a1 = b1 <;> by_cases h2 : a2 = b2 <;> by_cases h3 : a3 = b3 <;> by_cases h4 : a4 = b4 <;> by_cases h5 : a5 = b5 <;> simp [h1, h2, h3, h4, h5]

theorem checkK (w : World) (em : Bool) (q : PK) : (Instr.checkKey em 10000 116 (kv q)).run Tryz.prog w = .ok () w := by kernel_rfl

/-- The first place at which q stands. -/
def fnd (q : PK) : List PK → Option Nat
  | [] => none
  | k :: ks => if q = k then some 0 else (fnd q ks).map (· + 1)
theorem fnd_lt {q : PK} : ∀ {ks : List PK} {j : Nat}, fnd q ks = some j → j < ks.length ∧ ks[j]? = some q
  | [], j, h => by simp [fnd] at h
  | k :: ks, j, h => by
    unfold fnd at h
    split at h
    · rename_i e
      simp at h
      subst h
      simp [e]
    · cases hf : fnd q ks with
      | none => simp [hf] at h
      | some i =>
        simp [hf] at h
        subst h
        have := fnd_lt hf
        simpa using this
theorem fnd_none {q : PK} : ∀ {ks : List PK}, fnd q ks = none → q ∉ ks
  | [], h => by simp
  | k :: ks, h => by
    unfold fnd at h
    split at h
    · simp at h
    · rename_i hne
      have : fnd q ks = none := by simpa using h
      simp [hne, fnd_none this]
theorem fnd_of {q : PK} : ∀ {ks : List PK} {j : Nat}, ks.Nodup → ks[j]? = some q → fnd q ks = some j
  | [], j, _, h => by simp at h
  | k :: ks, 0, _, h => by simp at h; simp [fnd, h]
  | k :: ks, j + 1, hn, h => by
    obtain ⟨h1, h2⟩ := List.nodup_cons.1 hn
    have hm : q ∈ ks := List.mem_of_getElem? (by simpa using h)
    have hne : q ≠ k := fun e => h1 (e ▸ hm)
    simp [fnd, hne, fnd_of h2 (by simpa using h)]

theorem findA (w : World) (q : PK) : ∀ (es : List MapEntry) (ks : List PK) (i : Nat), es.map (·.key) = ks.map kv →
    (Instr.findAsking 116 (kv q) es i).run Tryz.prog w = .ok ((fnd q ks).bind fun j => (es[j]?).map fun e => (i + j, e.val)) w
  | [], [], i, _ => by simp [Instr.findAsking, fnd]
  | e :: es, k :: ks, i, h => by
    simp only [List.map_cons, List.cons.injEq] at h
    simp only [Instr.findAsking, h.1, Sem.run_bind, eqK, Result.andThen_ok, fnd]
    by_cases hk : q = k
    · simp [hk]
    · simp only [hk, decide_false, Bool.false_eq_true, if_false, findA w q es ks (i + 1) h.2]
      cases fnd q ks with
      | none => simp
      | some j => simp [Nat.add_assoc, Nat.add_comm 1 j]
  | [], _ :: _, _, h => by simp at h
  | _ :: _, [], _, h => by simp at h
theorem findK (w : World) (q : PK) (es : List MapEntry) (ks : List PK) (h : es.map (·.key) = ks.map kv) :
    (Instr.findKey 116 (kv q) es).run Tryz.prog w = .ok ((fnd q ks).bind fun j => (es[j]?).map fun e => (j, e.val)) w := by
  have hA := findA w q es ks 0 h
  simp only [Nat.zero_add] at hA
  cases es with
  | nil =>
    cases ks with
    | nil => simp [Instr.findKey, run_underlying Tryz.underlying116, Instr.findNow, fnd]
    | cons k ks => simp at h
  | cons e es =>
    have hn : Instr.findNow (.struct (Tryz.prog.fieldsOf 116)) (kv q) (e :: es) 0 = none := by simp [Instr.findNow, Instr.sameNow, kv]
    have hu : Tryz.prog.underlying 116 = some (.struct (Tryz.prog.fieldsOf 116)) := by kernel_rfl
    simp only [Instr.findKey, Sem.run_bind, run_underlying hu, Result.andThen_ok, hn, hA]
theorem staysK (w : World) (q : PK) : (Instr.keyThatStays (kv q) (kv q)).run Tryz.prog w = .ok (kv q) w := by
  have : Instr.sameBits (9999 + 1) (kv q) (kv q) = true := by simp [kv, Instr.sameBits]
  simp [Instr.keyThatStays, show Instr.sameBits 10000 (kv q) (kv q) = true from this]

/-- Block b is a map of these entries, in this order. -/
def Mp (w : World) (b : Nat) (l : List (PK × Value)) : Prop :=
  ∃ (es : Array MapEntry) (clock : Nat), w.heap[b]? = some (.map es clock) ∧ es.toList.map (fun e => (e.key, e.val)) = l.map (fun z => (kv z.1, z.2)) ∧ (∀ e ∈ es.toList, e.born < clock) ∧ (es.toList.map (·.born)).Nodup
theorem Mp.lt {w : World} {b : Nat} {l : List (PK × Value)} (h : Mp w b l) : b < w.heap.size := by
  obtain ⟨es, clock, hb, _⟩ := h
  exact (Array.getElem?_eq_some_iff.1 hb).1
theorem Mp.made (w : World) : Mp (w.alloc (.map #[] 0)) w.heap.size [] := ⟨#[], 0, heap_alloc_new w _, rfl, by simp, by simp⟩
theorem Mp.grown {w w' : World} {b : Nat} {l : List (PK × Value)} {r : Option Nat} (h : Mp w b l) (hg : w.grownBy w' r) (hr : r ≠ some b) : Mp w' b l := by
  have hlt := h.lt
  obtain ⟨es, clock, hb, hrest⟩ := h
  exact ⟨es, clock, (hg.block b hlt (fun e => hr e.symm)).trans hb, hrest⟩
theorem Mp.below {w w' : World} {b : Nat} {l : List (PK × Value)} (h : Mp w b l) (hb : Below w.heap.size w w') : Mp w' b l := h.grown (grown_of_below hb none) (by simp)
theorem Mp.nocell {w : World} {b : Nat} {l : List (PK × Value)} (h : Mp w b l) (o : Nat) : w.cell? ⟨b, o, none⟩ = none := by
  obtain ⟨es, clock, hb, _⟩ := h
  simp [World.cell?, hb]
theorem ent_keys {es : List MapEntry} {l : List (PK × Value)} (h : es.map (fun e => (e.key, e.val)) = l.map (fun z => (kv z.1, z.2))) : es.map (·.key) = (l.map (·.1)).map kv := by
  have := congrArg (List.map Prod.fst) h
  simpa [Function.comp_def] using this
theorem ent_at {es : List MapEntry} {l : List (PK × Value)} (h : es.map (fun e => (e.key, e.val)) = l.map (fun z => (kv z.1, z.2))) {j : Nat} {z : PK × Value} (hz : l[j]? = some z) : ∃ e, es[j]? = some e ∧ e.key = kv z.1 ∧ e.val = z.2 := by
  have h1 := congrArg (fun t => t[j]?) h
  simp only [List.getElem?_map, hz, Option.map_some] at h1
  cases he : es[j]? with
  | none => simp [he] at h1
  | some e =>
    simp [he] at h1
    exact ⟨e, rfl, h1.1, h1.2⟩
theorem zeroC (w : World) : (zeroValue 120).run Tryz.prog w = .ok (.agg #[.int .i64 0, .int .i64 0, .slice none 0 0, .slice none 0 0, .slice none 0 0, .bool false]) w := by kernel_rfl

/-- 'v, ok := m[k]'. -/
theorem Mp.look_none {w : World} {b : Nat} {l : List (PK × Value)} (h : Mp w b l) {q : PK} (hq : fnd q (l.map (·.1)) = none) :
    (Instr.lookup 112 (.map (some b)) (kv q) true).run Tryz.prog w = .ok (.tuple #[.agg #[.int .i64 0, .int .i64 0, .slice none 0 0, .slice none 0 0, .slice none 0 0, .bool false], .bool false]) w := by
  obtain ⟨es, clock, hb, hl, _⟩ := h
  have hf := findK w q es.toList _ (ent_keys hl)
  rw [hq] at hf
  simp [Instr.lookup, run_underlying Tryz.underlying112, MapKept.run_getObj_map hb, checkK, hf, zeroC, Result.andThen]
theorem Mp.look_some {w : World} {b : Nat} {l : List (PK × Value)} (h : Mp w b l) {q : PK} {j : Nat} {v : Value} (hq : fnd q (l.map (·.1)) = some j) (hj : l[j]? = some (q, v)) :
    (Instr.lookup 112 (.map (some b)) (kv q) true).run Tryz.prog w = .ok (.tuple #[v, .bool true]) w := by
  obtain ⟨es, clock, hb, hl, _⟩ := h
  have hf := findK w q es.toList _ (ent_keys hl)
  obtain ⟨e, he, _, hv⟩ := ent_at hl hj
  rw [hq] at hf
  simp only [Option.bind_some, he, Option.map_some, hv] at hf
  simp [Instr.lookup, run_underlying Tryz.underlying112, MapKept.run_getObj_map hb, checkK, hf, Result.andThen]

theorem grown_block {w : World} {b : Nat} {es : Array MapEntry} {clock : Nat} (hb : w.heap[b]? = some (.map es clock)) (o : Obj) : w.grownBy (setBlock w b o) (some b) :=
  ⟨rfl, rfl, rfl, by simp [setBlock], fun i _ hi => heap_setBlock_other hb _ (fun e => hi (by rw [e]))⟩
/-- 'm[k] = v', k new. -/
theorem Mp.put_new {w : World} {b : Nat} {l : List (PK × Value)} (h : Mp w b l) {q : PK} (hq : fnd q (l.map (·.1)) = none) (v : Value) :
    ∃ w', (Instr.mapUpdate 112 (.map (some b)) (kv q) v).run Tryz.prog w = .ok () w' ∧ Mp w' b (l ++ [(q, v)]) ∧ w.grownBy w' (some b) := by
  obtain ⟨es, clock, hb, hl, h1, h2⟩ := h
  have hf := findK w q es.toList _ (ent_keys hl)
  rw [hq] at hf
  refine ⟨setBlock w b (.map (es.push ⟨kv q, v, clock⟩) (clock + 1)), ?_, ⟨_, _, heap_setBlock_same hb _, ?_, ?_, ?_⟩, grown_block hb _⟩
  · simp [Instr.mapUpdate, run_underlying Tryz.underlying112, MapKept.run_getObj_map hb, checkK, hf, MapKept.run_setObj_map _ hb, Result.andThen, setBlock]
  · simp [hl]
  · intro e he
    simp at he
    rcases he with he | rfl
    · have := h1 e (by simpa using he)
      omega
    · simp
  · rw [Array.toList_push, List.map_append, List.nodup_append]
    refine ⟨h2, by simp, ?_⟩
    intro a ha c hc
    simp at hc
    subst hc
    obtain ⟨e, he, rfl⟩ := List.mem_map.1 ha
    have := h1 e he
    omega
/-- 'm[k] = v', k there. -/
theorem Mp.put_old {w : World} {b : Nat} {l : List (PK × Value)} (h : Mp w b l) {q : PK} {j : Nat} {u : Value} (hq : fnd q (l.map (·.1)) = some j) (hj : l[j]? = some (q, u)) (v : Value) :
    ∃ w', (Instr.mapUpdate 112 (.map (some b)) (kv q) v).run Tryz.prog w = .ok () w' ∧ Mp w' b (l.set j (q, v)) ∧ w.grownBy w' (some b) := by
  obtain ⟨es, clock, hb, hl, h1, h2⟩ := h
  have hf := findK w q es.toList _ (ent_keys hl)
  obtain ⟨e, he, hk, hv⟩ := ent_at hl hj
  rw [hq] at hf
  simp only [Option.bind_some, he, Option.map_some] at hf
  have he' : es[j]? = some e := by simpa using he
  have hmod : (es.modify j fun e => { e with key := kv q, val := v }).toList = es.toList.set j { e with key := kv q, val := v } := by
    rw [Array.toList_modify]
    refine List.ext_getElem? fun i => ?_
    rw [List.getElem?_modify, List.getElem?_set]
    by_cases hi : j = i
    · subst hi
      have hjl := (List.getElem?_eq_some_iff.1 he).1
      simp only [if_true, he, hjl]
      rfl
    · simp [hi]
  refine ⟨setBlock w b (.map (es.modify j fun e => { e with key := kv q, val := v }) clock), ?_, ⟨_, _, heap_setBlock_same hb _, ?_, ?_, ?_⟩, grown_block hb _⟩
  · simp [Instr.mapUpdate, run_underlying Tryz.underlying112, MapKept.run_getObj_map hb, checkK, hf, he', hk, staysK, MapKept.run_setObj_map _ hb, Result.andThen, setBlock]
  · rw [hmod, List.map_set, List.map_set, hl]
  · intro x hx
    rw [hmod] at hx
    rcases List.mem_or_eq_of_mem_set hx with hx | rfl
    · exact h1 x hx
    · exact h1 e (List.mem_of_getElem? he)
  · rw [hmod, List.map_set]
    have : (es.toList.map (·.born)).set j e.born = es.toList.map (·.born) := by
      refine List.ext_getElem? fun i => ?_
      rw [List.getElem?_set]
      by_cases hi : j = i
      · subst hi
        have hjl := (List.getElem?_eq_some_iff.1 he).1
        simp only [if_true, List.length_map, hjl, List.getElem?_map, he]
        rfl
      · simp [hi]
    rw [this]
    exact h2
/-- 'len(m)'. -/
theorem Mp.len {w : World} {b : Nat} {l : List (PK × Value)} (h : Mp w b l) (ty : TypeId) : (Builtin.len_ #[112] ty #[.map (some b)]).run Tryz.prog w = .ok (.int .i64 (l.length : Int)) w := by
  obtain ⟨es, clock, hb, hl, _⟩ := h
  have hs : es.size = l.length := by
    have := congrArg List.length hl
    simpa using this
  simp [Builtin.len_, run_underlying Tryz.underlying112, MapKept.run_getObj_map hb, Result.andThen, hs, goInt]
end Go.Proofs.YtgjepofinpmcpaaGreatDoor
end

section
set_option linter.unusedVariables false
namespace Go.Proofs.YtgjepofinpmcpaaGreatDoor
open Go.RowKit Oct

/-- The 8 bytes of each number, one behind the other. -/
def numsL : List Int → List Int
  | [] => []
  | n :: l => le8 (u64 n) ++ numsL l
theorem numsL_len : ∀ l, (numsL l).length = 8 * l.length
  | [] => rfl
  | n :: l => by rw [numsL, List.length_append, le8_len, numsL_len l, List.length_cons]; omega
theorem numsL_byt : ∀ l, Byt (numsL l)
  | [] => Byt.nil
  | n :: l => by
    intro x hx
    rcases List.mem_append.1 hx with h | h
    · exact le8_byt _ x h
    · exact numsL_byt l x h
theorem numsL_app : ∀ a b, numsL (a ++ b) = numsL a ++ numsL b
  | [], _ => rfl
  | n :: a, b => by rw [List.cons_append, numsL, numsL, numsL_app a b, List.append_assoc]
theorem numsL_snoc (l : List Int) (k : Nat) (n : Int) (h : l[k]? = some n) : numsL (l.take (k + 1)) = numsL (l.take k) ++ le8 (u64 n) := by
  rw [List.take_add_one, h, numsL_app]
  simp [numsL]
def i64s (n : Int) : Prop := -9223372036854775808 ≤ n ∧ n ≤ 9223372036854775807
theorem numsL_inj : ∀ {a b : List Int}, a.length = b.length → (∀ x ∈ a, i64s x) → (∀ x ∈ b, i64s x) → numsL a = numsL b → a = b
  | [], [], _, _, _, _ => rfl
  | [], _ :: _, h, _, _, _ => by simp at h
  | _ :: _, [], h, _, _, _ => by simp at h
  | x :: a, y :: b, h, ha, hb, he => by
    rw [numsL, numsL] at he
    obtain ⟨h1, h2⟩ := List.append_inj he (by rw [le8_len, le8_len])
    have ub : ∀ n, 0 ≤ u64 n ∧ u64 n < 18446744073709551616 := fun n => by unfold u64; omega
    have hx := ha x (List.mem_cons_self ..)
    have hy := hb y (List.mem_cons_self ..)
    have e1 := u64_inj hx.1 hx.2 hy.1 hy.2 (le8_inj (ub _).1 (ub _).2 (ub _).1 (ub _).2 h1)
    have e2 := numsL_inj (by simpa using h) (fun z hz => ha z (List.mem_cons_of_mem _ hz)) (fun z hz => hb z (List.mem_cons_of_mem _ hz)) h2
    rw [e1, e2]
theorem le8_atT (u : Int) (k : Nat) (hk : k < 8) : u / 256 ^ k % 256 = (le8 u).getD k 0 := by
  have := le8_at u k hk (8 * k) rfl
  rw [← this, Int.pow_mul]
  rfl
theorem u64_bdT (n : Int) : 0 ≤ u64 n ∧ u64 n < 18446744073709551616 := by unfold u64; omega
theorem div_stepT (u : Int) (j : Nat) : u / 256 ^ j / 256 = u / 256 ^ (j + 1) := by
  rw [Int.pow_succ, Int.ediv_ediv_of_nonneg (by exact Int.le_of_lt (Int.pow_pos (by decide)))]
theorem div_bdT {u : Int} (h0 : 0 ≤ u) (h1 : u < 18446744073709551616) (j : Nat) : 0 ≤ u / 256 ^ j ∧ u / 256 ^ j < 18446744073709551616 :=
  ⟨Int.ediv_nonneg h0 (Int.le_of_lt (Int.pow_pos (by decide))), Int.lt_of_le_of_lt (Int.ediv_le_self _ h0) h1⟩
theorem wrap_u64T (n : Int) : IntKind.u64.wrap n = u64 n := rfl
/-- Numbers as cells. -/
def nc (l : List Int) : List Value := l.map (Value.int .i64)
theorem nc_len (l : List Int) : (nc l).length = l.length := List.length_map _
theorem nc_get {l : List Int} {k : Nat} {n : Int} (h : l[k]? = some n) : (nc l)[k]? = some (.int .i64 n) := by rw [nc, List.getElem?_map, h]; rfl

theorem run_mkb (n : Nat) (hn : n ≤ 1000) (u : World) : (Instr.makeSlice 23 (.int .i64 0) (.int .i64 (8 * (n : Int)))).run Tryz.prog u =
    .ok (.slice (some ⟨u.heap.size, 0, none⟩) 0 (8 * n)) (u.alloc (.cells (madeCells #[.int .u8 0] (8 * n)) 5)) := by
  obtain ⟨i0, hi, hz0, hz1, hz2⟩ := info_parts Tryz.info5
  have h := run_make (P := Tryz.prog) u 23 5 i0 (.int .u8 0) Tryz.underlying23 hi hz0 .i64 .i64 0 (8 * (n : Int)) (by omega) (by omega) (by rw [hz2]; omega) (by omega)
  rw [show (8 * (n : Int)).toNat = 8 * n by omega] at h
  simpa [hz1, Value.cells] using h
theorem own_madeb (w : World) (n : Nat) (hn : n ≤ 1000) : Own (w.alloc (.cells (madeCells #[.int .u8 0] (8 * n)) 5)) 5 (.slice (some ⟨w.heap.size, 0, none⟩) 0 (8 * n)) (bc []) :=
  ⟨rfl, .inr ⟨w.heap.size, 8 * n, madeCells #[.int .u8 0] (8 * n), rfl, Nat.zero_le _, heap_alloc_new w _, Nat.zero_le _, by unfold maxLen; omega, by simp [madeCells], rfl⟩⟩
set_option maxRecDepth 10000 in
set_option maxHeartbeats 1000000 in
/-- vote.nums. -/
theorem nums_any (w : World) (v : Value) (l : List Int) (hv : Rdv w v (nc l)) (hl0 : 0 < l.length) (hl : l.length ≤ 100) :
    Calls Tryz.prog 77 #[v] w fun e w' => ∃ v', e = .returned v' ∧ Own w' 5 v' (bc (numsL l)) ∧ Fr w.heap.size v' ∧ Below w.heap.size w w' := by
  obtain ⟨b, off, cap, rfl, hc1, hc2, hb, hcell⟩ := hv.at (by rw [nc_len]; exact hl0)
  have HC := (show Hid (∀ (j : Nat) (n : Int), l[j]? = some n → w.cell? ⟨b, off + j, none⟩ = some (.int .i64 n)) from fun j n h => hcell j _ (nc_get h))
  rw [nc_len] at hc1 ⊢
  clear hcell hv
  have hmk := run_mkb l.length (by omega)
  obtain ⟨O, hO⟩ : ∃ O, O = Obj.cells (madeCells #[.int .u8 0] (8 * l.length)) 5 := ⟨_, rfl⟩
  have how : Own (w.alloc O) 5 (.slice (some ⟨w.heap.size, 0, none⟩) 0 (8 * l.length)) (bc []) := hO ▸ own_madeb w _ (by omega)
  rw [← hO] at hmk
  clear hO
  have b0 := below_alloc w O
  have hfr : Fr w.heap.size (.slice (some ⟨w.heap.size, 0, none⟩) 0 (8 * l.length)) := fr_at _ _ _ _ (Nat.le_refl _)
  go_enter Tryz.func77, Tryz.ntmps77
  go_wp2_with fail
  go_loopw [3, 13] (fun o i wr => ∃ k : Nat, k ≤ l.length ∧ i = .int .i64 k ∧ Own wr 5 o (bc (numsL (l.take k))) ∧ Fr w.heap.size o ∧ Below w.heap.size w wr) (fun _ i _ => l.length - (intOf i).toNat)
  case atStart => exact ⟨0, Nat.zero_le _, rfl, how, hfr, b0⟩
  case round =>
    clear how hfr b0 hmk
    obtain ⟨k, hk, rfl, hown, hfr, hbel⟩ := hrel
    by_cases hkl : k < l.length
    · obtain ⟨n, hn⟩ : ∃ n, l[k]? = some n := ⟨_, List.getElem?_eq_getElem hkl⟩
      have hcp : wr.cell? ⟨b, off + k, none⟩ = some (.int .i64 n) := (hbel.cell (p := ⟨b, off + k, none⟩) hb).trans (HC.out k n hn)
      have HS := (show Hid (numsL (l.take (k + 1)) = numsL (l.take k) ++ le8 (u64 n)) from numsL_snoc l k n hn)
      have hlen := numsL_len (l.take k)
      rw [List.length_take, Nat.min_eq_left (by omega)] at hlen
      have HLL := (show Hid ((numsL (l.take k)).length ≤ 1000) by show _ ≤ _; omega)
      clear hlen hn
      generalize numsL (l.take k) = L at *
      go_wp2_with fail
      go_loopw [3, 17] (fun o i w' => ∃ j : Nat, j ≤ 8 ∧ i = .int .i64 j ∧ Own w' 5 o (bc (L ++ (le8 (u64 n)).take j)) ∧ Fr w.heap.size o ∧ Below w.heap.size w w') (fun _ i _ => (8 - intOf i).toNat)
      case atStart => exact ⟨0, by omega, rfl, by rw [List.take_zero, List.append_nil]; exact hown, hfr, hbel⟩
      case round =>
        clear hown hfr hbel hcp
        obtain ⟨j, hj, rfl, hown, hfr, hbel⟩ := hrel
        by_cases hj8 : j < 8
        · obtain ⟨m, hm⟩ : ∃ m : Nat, (8 : Int) * (j : Int) = m := ⟨8 * j, by omega⟩
          have HM := (show Hid (u64 n / 2 ^ m % 256 = (le8 (u64 n)).getD j 0) from le8_at (u64 n) j hj8 m (by omega))
          have HX := (show Hid (L ++ (le8 (u64 n)).take (j + 1) = (L ++ (le8 (u64 n)).take j) ++ [(le8 (u64 n)).getD j 0]) from le8_take _ _ _ hj8)
          have HT := (show Hid ((L ++ (le8 (u64 n)).take j).length ≤ 2000) by
            show _ ≤ _
            have := HLL.out
            rw [List.length_append, List.length_take, le8_len]
            omega)
          have hm0 : (0 : Int) ≤ (m : Int) := by omega
          go_wp2_with (at_builtin; refine app_bytes rfl _ _ rfl _ (L ++ (le8 (u64 n)).take j) rfl (World.ownsRow.alloc hown _) _ [u64 n / 2 ^ m % 256] rfl (rdv_one wr _ _) (by have := HT.out; simp only [List.length_cons, List.length_nil]; omega) ?_; intro o4 w4 happ4)
          have hp4 := happ4.pre (below_alloc wr _)
          rw [HM.out, ← HX.out] at hp4
          have hf4 := hp4.fr hfr hbel.size
          have hb4 := hbel.trans (hp4.below hfr hbel.size)
          have hgo := hp4.own
          clear hp4 happ4 hown hfr hbel
          go_roundw
          case rel => exact ⟨j + 1, by omega, by go_num, hgo, hf4, hb4⟩
          case measure => simp [intOf]; omega
        · rw [List.take_of_length_le (by rw [le8_len]; omega), ← HS.out] at hown
          go_wp2_with fail
          go_roundw
          case rel => exact ⟨k + 1, by omega, by go_num, hown, hfr, hbel⟩
          case measure => simp [intOf]; omega
    · rw [List.take_of_length_le (by omega)] at hown
      clear HC
      go_wp2_with fail
      go_ret
      exact ⟨_, rfl, hown, hfr, hbel⟩

set_option maxRecDepth 10000 in
set_option maxHeartbeats 1000000 in
/-- The document's Nums. -/
theorem refNums_any (w : World) (v : Value) (l : List Int) (hv : Rdv w v (nc l)) (hl0 : 0 < l.length) (hl : l.length ≤ 100) :
    Calls Tryz.prog 87 #[v] w fun e w' => ∃ v', e = .returned v' ∧ Own w' 5 v' (bc (numsL l)) ∧ Fr w.heap.size v' ∧ Below w.heap.size w w' := by
  obtain ⟨b, off, cap, rfl, hc1, hc2, hb, hcell⟩ := hv.at (by rw [nc_len]; exact hl0)
  have HC := (show Hid (∀ (j : Nat) (n : Int), l[j]? = some n → w.cell? ⟨b, off + j, none⟩ = some (.int .i64 n)) from fun j n h => hcell j _ (nc_get h))
  rw [nc_len] at hc1 ⊢
  clear hcell hv
  have hstart : Own (w.alloc (.cells #[] 5)) 5 (.slice (some ⟨w.heap.size, 0, none⟩) 0 0) (bc []) := own_zero w 5
  have hB0 := below_alloc w (.cells #[] 5)
  have hF0 : Fr w.heap.size (.slice (some ⟨w.heap.size, 0, none⟩) 0 0) := fun k hk => by simp [Value.ownBlock] at hk; omega
  go_enter Tryz.func87, Tryz.ntmps87
  go_wp2_with fail
  go_loopw [3, 11] (fun o i wr => ∃ k : Nat, k ≤ l.length ∧ i = .int .i64 k ∧ Own wr 5 o (bc (numsL (l.take k))) ∧ Fr w.heap.size o ∧ Below w.heap.size w wr) (fun _ i _ => l.length - (intOf i).toNat)
  case atStart => exact ⟨0, Nat.zero_le _, rfl, hstart, hF0, hB0⟩
  case round =>
    clear hstart hF0 hB0
    obtain ⟨k, hk, rfl, hown, hfr, hbel⟩ := hrel
    by_cases hkl : k < l.length
    · obtain ⟨n, hn⟩ : ∃ n, l[k]? = some n := ⟨_, List.getElem?_eq_getElem hkl⟩
      have hcp : wr.cell? ⟨b, off + k, none⟩ = some (.int .i64 n) := (hbel.cell (p := ⟨b, off + k, none⟩) hb).trans (HC.out k n hn)
      have HS := (show Hid (numsL (l.take (k + 1)) = numsL (l.take k) ++ le8 (u64 n)) from numsL_snoc l k n hn)
      have hlen := numsL_len (l.take k)
      rw [List.length_take, Nat.min_eq_left (by omega)] at hlen
      have HLL := (show Hid ((numsL (l.take k)).length ≤ 1000) by show _ ≤ _; omega)
      have hub := u64_bdT n
      clear hlen hn
      generalize numsL (l.take k) = L at *
      go_wp2_with fail
      rw [wrap_u64T]
      go_loopw [3, 6, 7] (fun o q i w' => ∃ (j : Nat) (q' : Int), j ≤ 8 ∧ i = .int .i64 j ∧ q = .int .u64 q' ∧ Hid (q' = u64 n / 256 ^ j) ∧ Own w' 5 o (bc (L ++ (le8 (u64 n)).take j)) ∧ Fr w.heap.size o ∧ Below w.heap.size w w') (fun _ _ i _ => (8 - intOf i).toNat)
      case atStart => exact ⟨0, u64 n, by omega, rfl, rfl, by show _ = _; simp, by rw [List.take_zero, List.append_nil]; exact hown, hfr, hbel⟩
      case round =>
        clear hown hfr hbel hcp
        obtain ⟨j, q, hj, rfl, rfl, HQ, hown, hfr, hbel⟩ := hrel
        by_cases hj8 : j < 8
        · have hq := div_bdT hub.1 hub.2 j
          rw [← HQ.out] at hq
          obtain ⟨hq0, hq1⟩ := hq
          have hq2 : 0 ≤ q % 256 ∧ q % 256 ≤ 255 := by omega
          have hq3 : 0 ≤ q / 256 ∧ q / 256 < 18446744073709551616 := by omega
          have HX := (show Hid (L ++ (le8 (u64 n)).take (j + 1) = (L ++ (le8 (u64 n)).take j) ++ [q % 256]) by
            show _ = _
            rw [HQ.out, le8_atT _ _ hj8]
            exact le8_take _ _ _ hj8)
          have HN := (show Hid (q / 256 = u64 n / 256 ^ (j + 1)) by show _ = _; rw [HQ.out, div_stepT])
          have HT := (show Hid ((L ++ (le8 (u64 n)).take j).length ≤ 2000) by
            show _ ≤ _
            have := HLL.out
            rw [List.length_append, List.length_take, le8_len]
            omega)
          clear HQ hub
          go_wp2_with (at_builtin; refine app_bytes rfl _ _ rfl _ (L ++ (le8 (u64 n)).take j) rfl (World.ownsRow.alloc hown _) _ [q % 256] rfl (rdv_one wr _ _) (by have := HT.out; simp only [List.length_cons, List.length_nil]; omega) ?_; intro o4 w4 happ4)
          have hp4 := happ4.pre (below_alloc wr _)
          rw [← HX.out] at hp4
          have hf4 := hp4.fr hfr hbel.size
          have hb4 := hbel.trans (hp4.below hfr hbel.size)
          have hgo := hp4.own
          clear hp4 happ4 hown hfr hbel
          go_roundw
          case rel => exact ⟨j + 1, q / 256, by omega, by go_num, by rfl, HN, hgo, hf4, hb4⟩
          case measure => simp [intOf]; omega
        · rw [List.take_of_length_le (by rw [le8_len]; omega), ← HS.out] at hown
          clear HQ hub
          go_wp2_with fail
          go_roundw
          case rel => exact ⟨k + 1, by omega, by go_num, hown, hfr, hbel⟩
          case measure => simp [intOf]; omega
    · rw [List.take_of_length_le (by omega)] at hown
      clear HC
      go_wp2_with fail
      go_ret
      exact ⟨_, rfl, hown, hfr, hbel⟩
end Go.Proofs.YtgjepofinpmcpaaGreatDoor
end

section
set_option linter.unusedVariables false
set_option linter.unusedSimpArgs false
namespace Go.Proofs.YtgjepofinpmcpaaGreatDoor
open Go.RowKit Oct Kvl

theorem u8_lt {x y : Int} (hx : 0 ≤ x ∧ x ≤ 255) (hy : 0 ≤ y ∧ y ≤ 255) : (x.toNat.toUInt8 < y.toNat.toUInt8) ↔ x < y := by
  rw [UInt8.lt_iff_toNat_lt]
  simp
  omega
theorem cmp_bytes : ∀ {a b : List Int}, Byt a → Byt b → Lib.compareBytes (Lib.bytesOf a) (Lib.bytesOf b) = cmpL a b
  | [], [], _, _ => rfl
  | [], _ :: _, _, _ => rfl
  | _ :: _, [], _, _ => rfl
  | x :: a, y :: b, ha, hb => by
    have hx := ha x (by simp)
    have hy := hb y (by simp)
    have ih := cmp_bytes (a := a) (b := b) (fun z hz => ha z (by simp [hz])) (fun z hz => hb z (by simp [hz]))
    show (if x.toNat.toUInt8 < y.toNat.toUInt8 then -1 else if y.toNat.toUInt8 < x.toNat.toUInt8 then 1 else Lib.compareBytes (Lib.bytesOf a) (Lib.bytesOf b)) = _
    unfold cmpL
    rw [ih]
    simp only [u8_lt hx hy, u8_lt hy hx]
theorem run_bytesOf {P : Program} {w : World} {v : Value} {l : List Int} (h : Rd w v l) : (Extern.Bytes.bytesOf v).run P w = .ok ⟨(Lib.bytesOf l).toArray⟩ w := by
  obtain ⟨hb, ao, cap, rfl, h1, h2, h3, h4⟩ := h
  cases ao with
  | none =>
    have := (h3 rfl).1
    simp [bc] at this
    subst this
    rfl
  | some a =>
    have := Lib.run_loadBytesX (P := P) w l a .empty (fun j x hj => h4 a rfl j _ (by rw [bc_at, hj]; rfl))
    rw [bc_len]
    show Sem.run P (Extern.Bytes.loadBytes a l.length .empty) w = _
    rw [this]
    congr 1
    apply ByteArray.ext
    show (#[] : Array UInt8) ++ (Lib.bytesOf l).toArray = (Lib.bytesOf l).toArray
    simp
theorem run_cmp {w : World} {u v : Value} {a b : List Int} (ha : Rd w u a) (hb : Rd w v b) : (callFunc 79 #[u, v]).run Tryz.prog w = .ok (.value (.int .i64 (cmpL a b))) w := by
  rw [run_callFunc_extern Tryz.func79 (by kernel_rfl) (by kernel_rfl) (by kernel_rfl) (e := Extern.BytealgCompare.compare) (by kernel_rfl)]
  have h : (Extern.BytealgCompare.compare #[u, v]).run Tryz.prog w = .ok (.int .i64 (cmpL a b)) w := by
    show Sem.run Tryz.prog (do pure (goInt (Extern.BytealgCompare.cmp (← Extern.Bytes.bytesOf u) (← Extern.Bytes.bytesOf v)))) w = _
    simp only [Sem.run_bind, run_bytesOf ha, run_bytesOf hb, Result.andThen, Sem.run_pure, Lib.cmp_eq]
    rw [cmp_bytes ha.1 hb.1]
    rfl
  rw [h]
  rfl
/-- bytes.Compare. -/
theorem compare_any (w : World) (u v : Value) (a b : List Int) (ha : Rd w u a) (hb : Rd w v b) :
    Calls Tryz.prog 44 #[u, v] w fun e w' => e = .returned (.int .i64 (cmpL a b)) ∧ w' = w := by
  have h := run_cmp ha hb
  go_enter Tryz.func44, Tryz.ntmps44
  go_wp2_with (simp only [h])
  go_ret
  exact ⟨rfl, rfl⟩
end Go.Proofs.YtgjepofinpmcpaaGreatDoor
end

section
set_option linter.unusedVariables false
namespace Go.Proofs.YtgjepofinpmcpaaGreatDoor
open Go.RowKit Oct

set_option maxRecDepth 10000 in
/-- bytes.Clone. -/
theorem clone_own (w : World) (v : Value) (l : List Int) (h : Rd w v l) (hl : l.length ≤ 140737488355328) :
    Calls Tryz.prog 64 #[v] w fun e w' => ∃ v', e = .returned v' ∧ Own w' 5 v' (bc l) ∧ Fr w.heap.size v' ∧ Below w.heap.size w w' := by
  obtain ⟨ao, ac, rfl, hac⟩ := h.form
  cases ao with
  | none =>
    obtain ⟨rfl, rfl⟩ : l = [] ∧ ac = 0 := by
      obtain ⟨_, ao', cap', e, _, _, h3, _⟩ := h
      injection e with e1 e2 e3
      have := h3 e1.symm
      rw [e3]
      simpa [bc] using this
    have hq : ∀ u : World, (binOp .eql 23 (.slice none 0 0) (.slice none 0 0)).run Tryz.prog u = .ok (.bool true) u := fun u => Lib.run_eql_slice_nil u 23 5 none 0 0 0 0 Tryz.underlying23
    go_enter Tryz.func64, Tryz.ntmps64
    go_wp2_with fail
    go_ret
    exact ⟨_, rfl, Own.nil _ _, Fr.nil _, Below.refl _ _⟩
  | some a =>
    have hq : ∀ u : World, (binOp .eql 23 (.slice (some a) l.length ac) (.slice none 0 0)).run Tryz.prog u = .ok (.bool false) u := fun u => Lib.run_eql_slice_nil u 23 5 (some a) l.length ac 0 0 Tryz.underlying23
    go_enter Tryz.func64, Tryz.ntmps64
    go_wp2_with (at_builtin; refine app_copy rfl _ _ rfl rfl _ l rfl h (by omega) ?_; intro o2 w2 hown2 hfr2 hb2)
    go_ret
    exact ⟨_, rfl, hown2, hfr2, hb2⟩
theorem clone_any (w : World) (v : Value) (l : List Int) (h : Rd w v l) (hl : l.length ≤ 140737488355328) :
    Calls Tryz.prog 64 #[v] w fun e w' => ∃ v', e = .returned v' ∧ RT (From w.heap.size) w' v' l ∧ Below w.heap.size w w' :=
  (clone_own w v l h hl).mono fun e w' ⟨v', h1, h2, h3, h4⟩ => ⟨v', h1, RT.own h2 h.1 h3, h4⟩
end Go.Proofs.YtgjepofinpmcpaaGreatDoor
end

section
namespace Go.Proofs.YtgjepofinpmcpaaGreatDoor
open Go.ChangeShapes Go.WideShapes Go.ChangeAt Go.RowKit Sha

theorem gTab : Tryz.prog.globalNamed "catenary/sha.constants" = some 1 := by kernel_rfl
theorem gTabType : (Tryz.prog.globals[1]?).map (·.type) = some 201 := by kernel_rfl
theorem cells45 : Tryz.prog.cellsOf 201 = 64 := by kernel_rfl
theorem cells34 : Tryz.prog.cellsOf 183 = 1 := by kernel_rfl
def kints : List Int := [1116352408, 1899447441, 3049323471, 3921009573, 961987163, 1508970993, 2453635748, 2870763221, 3624381080, 310598401, 607225278, 1426881987, 1925078388, 2162078206, 2614888103, 3248222580, 3835390401, 4022224774, 264347078, 604807628, 770255983, 1249150122, 1555081692, 1996064986, 2554220882, 2821834349, 2952996808, 3210313671, 3336571891, 3584528711, 113926993, 338241895, 666307205, 773529912, 1294757372, 1396182291, 1695183700, 1986661051, 2177026350, 2456956037, 2730485921, 2820302411, 3259730800, 3345764771, 3516065817, 3600352804, 4094571909, 275423344, 430227734, 506948616, 659060556, 883997877, 958139571, 1322822218, 1537002063, 1747873779, 1955562222, 2024104815, 2227730452, 2361852424, 2428436474, 2756734187, 3204031479, 3329325298]
theorem kints_at : ∀ t, t < 64 → kints.getD t 0 = wi (kk.getD t 0) := by decide +kernel
theorem tab_of {W : World} (h : laidMetH Tryz.prog [("catenary/sha.constants", Rows.laid_catenary_sha_constants)] W) : Tab W := by
  have t : Lib.TabIs Tryz.prog W "catenary/sha.constants" .u32 kints := Lib.tabIs_of_head (rest := []) gTab gTabType Tryz.underlying201 Tryz.underlying183 cells34 cells45 h
  intro j hj
  rw [t.cell gTab j hj, kints_at j hj]
/-- A world for the witness: the settled one, the table (block 0) holding what its initialiser lays. -/
noncomputable def laidWorld (os : Os) : World :=
  { World.holding Tryz.prog os ⟨#[], #[], []⟩ with heap := (World.holding Tryz.prog os ⟨#[], #[], []⟩).heap.modify 1 fun
      | .cells _ t frozen => .cells (kints.map (Value.int .u32)).toArray t frozen
      | o => o }
end Go.Proofs.YtgjepofinpmcpaaGreatDoor
end
