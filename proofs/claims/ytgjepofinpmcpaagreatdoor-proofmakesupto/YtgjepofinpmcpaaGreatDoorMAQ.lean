/- What the rows' list gives: the table of constants; and a world that holds it, for the witness. -/
import Derived.Test.YtgjepofinpmcpaaGreatDoorMAE
import Derived.Maps.RangeRun
import Derived.Maps.OwnSet
import Derived.Test.YtgjepofinpmcpaaGreatDoorMAL
import Derived.Test.YtgjepofinpmcpaaGreatDoorMAO
import Derived.Test.YtgjepofinpmcpaaGreatDoorMAK
import Derived.Test.YtgjepofinpmcpaaGreatDoorRows
import Derived.Deep.DeepHandedRow
import Derived.Lib.LaidTab
set_option linter.unusedSimpArgs false
set_option linter.unusedVariables false
namespace Go.Proofs.YtgjepofinpmcpaaGreatDoor
section
open Go.RowKit Oct
section
variable {P : Program}
end
end
section
open Go.RowKit Oct
open Go.ChangeMaps (setBlock heap_setBlock_same heap_setBlock_other)
abbrev PK := Int × Int × Int × Int × Int
def kv (q : PK) : Value := .agg #[.int .i64 q.1, .int .i64 q.2.1, .int .i64 q.2.2.1, .int .i64 q.2.2.2.1, .int .i64 q.2.2.2.2]
theorem eqK (w : World) (p q : PK) : (Op.equal 116 (kv p) (kv q)).run Tryz.prog w = .ok (decide (p = q)) w := by
  obtain ⟨a1, a2, a3, a4, a5⟩ := p
  obtain ⟨b1, b2, b3, b4, b5⟩ := q
  have hi : Tryz.prog.underlying 3 = some (.int .i64) := Tryz.underlying3
  have hz : ∀ w, (Go.sizeOf 3).run Tryz.prog w = .ok 1 w := fun w => by kernel_rfl
  have hz2 : ∀ w, (Go.sizeOf 32).run Tryz.prog w = .ok 2 w := fun w => by kernel_rfl
  have hb : ∀ w, (Op.equalIn 9999 32 (.agg #[.int .i64 a2, .int .i64 a3]) (.agg #[.int .i64 b2, .int .i64 b3])).run Tryz.prog w = .ok (a2 == b2 && a3 == b3) w := fun w => by
    rw [run_equalIn_struct w 9998 32 _ _ (by kernel_rfl) (by kernel_rfl)]
    simp only [Program.fieldsOf, Tryz.underlying32]
    simp [Op.eqFields, part, hz, run_equalIn_int, hi]
    by_cases h1 : a2 = b2 <;> by_cases h2 : a3 = b3 <;> simp [h1, h2]
  show (Op.equalIn (9999 + 1) 116 _ _).run _ _ = _
  unfold kv
  rw [run_equalIn_struct w 9999 116 _ _ (by kernel_rfl) (by kernel_rfl)]
  simp only [Program.fieldsOf, Tryz.underlying116]
  simp [Op.eqFields, part, hz, hz2, run_equalIn_int, hi, hb]
  by_cases h1 : a1 = b1 <;> by_cases h2 : a2 = b2 <;> by_cases h3 : a3 = b3 <;> by_cases h4 : a4 = b4 <;> by_cases h5 : a5 = b5 <;> simp [h1, h2, h3, h4, h5]
theorem zPe (w : World) (em : Bool) (q : PK) : (Instr.checkKey em 10000 116 (kv q)).run Tryz.prog w = .ok () w := by kernel_rfl
def fnd (q : PK) : List PK → Option Nat
  | [] => none
  | k :: ks => if q = k then some 0 else (fnd q ks).map (· + 1)
theorem zOg {q : PK} : ∀ {ks : List PK} {j : Nat}, fnd q ks = some j → j < ks.length ∧ ks[j]? = some q
  | [], j, h => by simp [fnd] at h
  | k :: ks, j, h => by
    unfold fnd at h
    split at h
    · rename_i e
      simp at h
      subst h
      simp [e]
    · cases hf : fnd q ks with
      | none => simp [hf] at h
      | some i =>
        simp [hf] at h
        subst h
        have := zOg hf
        simpa using this
theorem zP9 {q : PK} : ∀ {ks : List PK}, fnd q ks = none → q ∉ ks
  | [], h => by simp
  | k :: ks, h => by
    unfold fnd at h
    split at h
    · simp at h
    · rename_i hne
      have : fnd q ks = none := by simpa using h
      simp [hne, zP9 this]
theorem findA (w : World) (q : PK) : ∀ (es : List MapEntry) (ks : List PK) (i : Nat), es.map (·.key) = ks.map kv →
    (Instr.findAsking 116 (kv q) es i).run Tryz.prog w = .ok ((fnd q ks).bind fun j => (es[j]?).map fun e => (i + j, e.val)) w
  | [], [], i, _ => by simp [Instr.findAsking, fnd]
  | e :: es, k :: ks, i, h => by
    simp only [List.map_cons, List.cons.injEq] at h
    simp only [Instr.findAsking, h.1, Sem.run_bind, eqK, Result.andThen_ok, fnd]
    by_cases hk : q = k
    · simp [hk]
    · simp only [hk, decide_false, Bool.false_eq_true, if_false, findA w q es ks (i + 1) h.2]
      cases fnd q ks with
      | none => simp
      | some j => simp [Nat.add_assoc, Nat.add_comm 1 j]
  | [], _ :: _, _, h => by simp at h
  | _ :: _, [], _, h => by simp at h
theorem findK (w : World) (q : PK) (es : List MapEntry) (ks : List PK) (h : es.map (·.key) = ks.map kv) :
    (Instr.findKey 116 (kv q) es).run Tryz.prog w = .ok ((fnd q ks).bind fun j => (es[j]?).map fun e => (j, e.val)) w := by
  have hA := findA w q es ks 0 h
  simp only [Nat.zero_add] at hA
  cases es with
  | nil =>
    cases ks with
    | nil => simp [Instr.findKey, run_underlying Tryz.underlying116, Instr.findNow, fnd]
    | cons k ks => simp at h
  | cons e es =>
    have hn : Instr.findNow (.struct (Tryz.prog.fieldsOf 116)) (kv q) (e :: es) 0 = none := by simp [Instr.findNow, Instr.sameNow, kv]
    have hu : Tryz.prog.underlying 116 = some (.struct (Tryz.prog.fieldsOf 116)) := by kernel_rfl
    simp only [Instr.findKey, Sem.run_bind, run_underlying hu, Result.andThen_ok, hn, hA]
theorem staysK (w : World) (q : PK) : (Instr.keyThatStays (kv q) (kv q)).run Tryz.prog w = .ok (kv q) w := by
  have : Instr.sameBits (9999 + 1) (kv q) (kv q) = true := by simp [kv, Instr.sameBits]
  simp [Instr.keyThatStays, show Instr.sameBits 10000 (kv q) (kv q) = true from this]
def Mp (w : World) (b : Nat) (l : List (PK × Value)) : Prop :=
  ∃ (es : Array MapEntry) (clock : Nat), w.heap[b]? = some (.map es clock) ∧ es.toList.map (fun e => (e.key, e.val)) = l.map (fun z => (kv z.1, z.2)) ∧ (∀ e ∈ es.toList, e.born < clock) ∧ (es.toList.map (·.born)).Nodup
theorem Mp.lt {w : World} {b : Nat} {l : List (PK × Value)} (h : Mp w b l) : b < w.heap.size := by
  obtain ⟨es, clock, hb, _⟩ := h
  exact (Array.getElem?_eq_some_iff.1 hb).1
theorem Mp.made (w : World) : Mp (w.alloc (.map #[] 0)) w.heap.size [] := ⟨#[], 0, heap_alloc_new w _, rfl, by simp, by simp⟩
theorem Mp.grown {w w' : World} {b : Nat} {l : List (PK × Value)} {r : Option Nat} (h : Mp w b l) (hg : w.grownBy w' r) (hr : r ≠ some b) : Mp w' b l := by
  have hlt := h.lt
  obtain ⟨es, clock, hb, hrest⟩ := h
  exact ⟨es, clock, (hg.block b hlt (fun e => hr e.symm)).trans hb, hrest⟩
theorem Mp.below {w w' : World} {b : Nat} {l : List (PK × Value)} (h : Mp w b l) (hb : Below w.heap.size w w') : Mp w' b l := h.grown (zA8 hb none) (by simp)
theorem Mp.nocell {w : World} {b : Nat} {l : List (PK × Value)} (h : Mp w b l) (o : Nat) : w.cell? ⟨b, o, none⟩ = none := by
  obtain ⟨es, clock, hb, _⟩ := h
  simp [World.cell?, hb]
theorem zHf {es : List MapEntry} {l : List (PK × Value)} (h : es.map (fun e => (e.key, e.val)) = l.map (fun z => (kv z.1, z.2))) : es.map (·.key) = (l.map (·.1)).map kv := by
  have := congrArg (List.map Prod.fst) h
  simpa [Function.comp_def] using this
theorem ent_at {es : List MapEntry} {l : List (PK × Value)} (h : es.map (fun e => (e.key, e.val)) = l.map (fun z => (kv z.1, z.2))) {j : Nat} {z : PK × Value} (hz : l[j]? = some z) : ∃ e, es[j]? = some e ∧ e.key = kv z.1 ∧ e.val = z.2 := by
  have h1 := congrArg (fun t => t[j]?) h
  simp only [List.getElem?_map, hz, Option.map_some] at h1
  cases he : es[j]? with
  | none => simp [he] at h1
  | some e =>
    simp [he] at h1
    exact ⟨e, rfl, h1.1, h1.2⟩
theorem zeroC (w : World) : (zeroValue 120).run Tryz.prog w = .ok (.agg #[.int .i64 0, .int .i64 0, .slice none 0 0, .slice none 0 0, .slice none 0 0, .bool false]) w := by kernel_rfl
theorem Mp.look_none {w : World} {b : Nat} {l : List (PK × Value)} (h : Mp w b l) {q : PK} (hq : fnd q (l.map (·.1)) = none) :
    (Instr.lookup 112 (.map (some b)) (kv q) true).run Tryz.prog w = .ok (.tuple #[.agg #[.int .i64 0, .int .i64 0, .slice none 0 0, .slice none 0 0, .slice none 0 0, .bool false], .bool false]) w := by
  obtain ⟨es, clock, hb, hl, _⟩ := h
  have hf := findK w q es.toList _ (zHf hl)
  rw [hq] at hf
  simp [Instr.lookup, run_underlying Tryz.underlying112, MapKept.run_getObj_map hb, zPe, hf, zeroC, Result.andThen]
theorem Mp.look_some {w : World} {b : Nat} {l : List (PK × Value)} (h : Mp w b l) {q : PK} {j : Nat} {v : Value} (hq : fnd q (l.map (·.1)) = some j) (hj : l[j]? = some (q, v)) :
    (Instr.lookup 112 (.map (some b)) (kv q) true).run Tryz.prog w = .ok (.tuple #[v, .bool true]) w := by
  obtain ⟨es, clock, hb, hl, _⟩ := h
  have hf := findK w q es.toList _ (zHf hl)
  obtain ⟨e, he, _, hv⟩ := ent_at hl hj
  rw [hq] at hf
  simp only [Option.bind_some, he, Option.map_some, hv] at hf
  simp [Instr.lookup, run_underlying Tryz.underlying112, MapKept.run_getObj_map hb, zPe, hf, Result.andThen]
theorem zI9 {w : World} {b : Nat} {es : Array MapEntry} {clock : Nat} (hb : w.heap[b]? = some (.map es clock)) (o : Obj) : w.grownBy (setBlock w b o) (some b) :=
  ⟨rfl, rfl, rfl, by simp [setBlock], fun i _ hi => heap_setBlock_other hb _ (fun e => hi (by rw [e]))⟩
theorem Mp.put_new {w : World} {b : Nat} {l : List (PK × Value)} (h : Mp w b l) {q : PK} (hq : fnd q (l.map (·.1)) = none) (v : Value) :
    ∃ w', (Instr.mapUpdate 112 (.map (some b)) (kv q) v).run Tryz.prog w = .ok () w' ∧ Mp w' b (l ++ [(q, v)]) ∧ w.grownBy w' (some b) := by
  obtain ⟨es, clock, hb, hl, h1, h2⟩ := h
  have hf := findK w q es.toList _ (zHf hl)
  rw [hq] at hf
  refine ⟨setBlock w b (.map (es.push ⟨kv q, v, clock⟩) (clock + 1)), ?_, ⟨_, _, heap_setBlock_same hb _, ?_, ?_, ?_⟩, zI9 hb _⟩
  · simp [Instr.mapUpdate, run_underlying Tryz.underlying112, MapKept.run_getObj_map hb, zPe, hf, MapKept.run_setObj_map _ hb, Result.andThen, setBlock]
  · simp [hl]
  · intro e he
    simp at he
    rcases he with he | rfl
    · have := h1 e (by simpa using he)
      omega
    · simp
  · rw [Array.toList_push, List.map_append, List.nodup_append]
    refine ⟨h2, by simp, ?_⟩
    intro a ha c hc
    simp at hc
    subst hc
    obtain ⟨e, he, rfl⟩ := List.mem_map.1 ha
    have := h1 e he
    omega
theorem Mp.put_old {w : World} {b : Nat} {l : List (PK × Value)} (h : Mp w b l) {q : PK} {j : Nat} {u : Value} (hq : fnd q (l.map (·.1)) = some j) (hj : l[j]? = some (q, u)) (v : Value) :
    ∃ w', (Instr.mapUpdate 112 (.map (some b)) (kv q) v).run Tryz.prog w = .ok () w' ∧ Mp w' b (l.set j (q, v)) ∧ w.grownBy w' (some b) := by
  obtain ⟨es, clock, hb, hl, h1, h2⟩ := h
  have hf := findK w q es.toList _ (zHf hl)
  obtain ⟨e, he, hk, hv⟩ := ent_at hl hj
  rw [hq] at hf
  simp only [Option.bind_some, he, Option.map_some] at hf
  have he' : es[j]? = some e := by simpa using he
  have hmod : (es.modify j fun e => { e with key := kv q, val := v }).toList = es.toList.set j { e with key := kv q, val := v } := by
    rw [Array.toList_modify]
    refine List.ext_getElem? fun i => ?_
    rw [List.getElem?_modify, List.getElem?_set]
    by_cases hi : j = i
    · subst hi
      have hjl := (List.getElem?_eq_some_iff.1 he).1
      simp only [if_true, he, hjl]
      rfl
    · simp [hi]
  refine ⟨setBlock w b (.map (es.modify j fun e => { e with key := kv q, val := v }) clock), ?_, ⟨_, _, heap_setBlock_same hb _, ?_, ?_, ?_⟩, zI9 hb _⟩
  · simp [Instr.mapUpdate, run_underlying Tryz.underlying112, MapKept.run_getObj_map hb, zPe, hf, he', hk, staysK, MapKept.run_setObj_map _ hb, Result.andThen, setBlock]
  · rw [hmod, List.map_set, List.map_set, hl]
  · intro x hx
    rw [hmod] at hx
    rcases List.mem_or_eq_of_mem_set hx with hx | rfl
    · exact h1 x hx
    · exact h1 e (List.mem_of_getElem? he)
  · rw [hmod, List.map_set]
    have : (es.toList.map (·.born)).set j e.born = es.toList.map (·.born) := by
      refine List.ext_getElem? fun i => ?_
      rw [List.getElem?_set]
      by_cases hi : j = i
      · subst hi
        have hjl := (List.getElem?_eq_some_iff.1 he).1
        simp only [if_true, List.length_map, hjl, List.getElem?_map, he]
        rfl
      · simp [hi]
    rw [this]
    exact h2
theorem Mp.len {w : World} {b : Nat} {l : List (PK × Value)} (h : Mp w b l) (ty : TypeId) : (Builtin.len_ #[112] ty #[.map (some b)]).run Tryz.prog w = .ok (.int .i64 (l.length : Int)) w := by
  obtain ⟨es, clock, hb, hl, _⟩ := h
  have hs : es.size = l.length := by
    have := congrArg List.length hl
    simpa using this
  simp [Builtin.len_, run_underlying Tryz.underlying112, MapKept.run_getObj_map hb, Result.andThen, hs, goInt]
end
section
open Go.RowKit Oct Sha
def Tab (w : World) : Prop := ∀ t, t < 64 → w.cell? ⟨1, t, none⟩ = some (.int .u32 (wi (kk.getD t 0)))
theorem Tab.keep {w w' : World} (h : Tab w) (h0 : w'.heap[1]? = w.heap[1]?) : Tab w' := fun t ht => (World.cell?_of_block (w := w) (w' := w') (a := ⟨1, t, none⟩) h0).trans (h t ht)
theorem Tab.pos {w : World} (h : Tab w) : 1 < w.heap.size := World.block_lt_of_cell? w _ (h 0 (by decide))
theorem Tab.below {w w' : World} (h : Tab w) (hb : Below w.heap.size w w') : Tab w' := h.keep (hb.block 1 h.pos)
theorem Tab.grown {w w' : World} {r : Option Nat} (h : Tab w) (hg : w.grownBy w' r) (hr : r ≠ some 1) : Tab w' := h.keep (hg.block 1 h.pos (fun e => hr e.symm))
theorem zL4 {t e : TypeId} {n : Nat} (hu : Tryz.prog.underlying t = some (.array n e)) (he : (Tryz.prog.info? e).map (·.size) = some 1) (hg : Tryz.prog.underlying e = some (.int .u32)) (ws : List (BitVec 32)) (i : Nat) (hi : i < n) (hl : ws.length = n) (u : World) :
    (Instr.index t (.agg (ws.map wv).toArray) (.int .i64 (i : Int))).run Tryz.prog u = .ok (.int .u32 (wi (ws.getD i 0))) u := by
  have h : 0 ≤ (i : Int) ∧ (i : Int) < (n : Int) := by omega
  cases hq : Tryz.prog.info? e with
  | none => simp [hq] at he
  | some i0 =>
    simp only [hq, Option.map_some, Option.some.injEq] at he
    have hx : i < ws.length := by omega
    simp [Instr.index, run_underlying hu, asIntOf, h, hi, part, isAgg, run_underlying hg, sizeOf, typeInfo, hq, he, wv, List.getElem?_eq_getElem hx]
theorem Tryz.und38 : Tryz.prog.underlying 185 = some (.array 8 183) := by kernel_rfl
theorem run_ix8 (b i : Nat) (hi : i < 8) (u : World) : (Instr.indexAt 185 (.pointer (some ⟨b, 0, none⟩)) (.int .i64 (i : Int))).run Tryz.prog u = .ok (.pointer (some ⟨b, i, none⟩)) u := by
  have ht : Tryz.prog.underlying 185 = some (.array (Tryz.prog.arrayLen 185) (Tryz.prog.elem 185)) := by kernel_rfl
  have hn : Tryz.prog.arrayLen 185 = 8 := by kernel_rfl
  have hs : (sizeOf (Tryz.prog.elem 185)).run Tryz.prog u = .ok 1 u := by
    rw [show Tryz.prog.elem 185 = 183 by kernel_rfl]
    cases hq : Tryz.prog.info? 183 with
    | none => have := Tryz.info34; simp [hq] at this
    | some i0 =>
      have h1 := Tryz.info34
      simp only [hq, Option.map_some, Option.some.injEq] at h1
      simp [sizeOf, typeInfo, hq, h1]
  rw [run_indexAt_array u 185 _ .i64 i ht, hn, if_pos (by omega), hs]
  simp only [Result.andThen, Addr.add_mid]
  simp
def zF7 (s v : St) (k : Nat) : List (BitVec 32) := (s.add v).ws.take k ++ s.ws.drop k
theorem zLq (s v : St) (k : Nat) (hk : k < 8) : (zF7 s v k)[k]? = some (s.ws.getD k 0) := by
  rcases (by omega : k = 0 ∨ k = 1 ∨ k = 2 ∨ k = 3 ∨ k = 4 ∨ k = 5 ∨ k = 6 ∨ k = 7) with rfl | rfl | rfl | rfl | rfl | rfl | rfl | rfl <;> rfl
theorem zRf (s v : St) (k : Nat) (hk : k < 8) : (zF7 s v k).set k (s.ws.getD k 0 + v.ws.getD k 0) = zF7 s v (k + 1) := by
  rcases (by omega : k = 0 ∨ k = 1 ∨ k = 2 ∨ k = 3 ∨ k = 4 ∨ k = 5 ∨ k = 6 ∨ k = 7) with rfl | rfl | rfl | rfl | rfl | rfl | rfl | rfl <;> rfl
theorem zJq (s v : St) (k : Nat) (hk : k ≤ 8) : (zF7 s v k).length = 8 := by
  simp only [zF7, List.length_append, List.length_take, List.length_drop, St.ws_len]
  omega
theorem zHp (s v : St) (k : Nat) (hk : k < 8) (tl : List Value) : ((zF7 s v k).map wv ++ tl).set k (.int .u32 (wi (s.ws.getD k 0 + v.ws.getD k 0))) = (zF7 s v (k + 1)).map wv ++ tl := by
  rw [List.set_append_left _ _ (by rw [List.length_map, zJq _ _ _ (by omega)]; exact hk), ← zRf s v k hk, List.map_set]
  rfl
set_option maxHeartbeats 1000000 in
theorem zFr (w : World) (b : Nat) (t : TypeId) (s : St) (tl : List Value) (hr : Row w b t (s.vs ++ tl)) (ht : Tab w) (cb co : Nat) (p : List Int) (hp : p.length = 64) (hb : Byt p) (hbt : Bts w cb co p) (hcb : cb < w.heap.size) :
    Calls Tryz.prog 149 #[.pointer (some ⟨b, 0, none⟩), .pointer (some ⟨cb, co, none⟩)] w fun e w' => e = .returned (.tuple #[]) ∧ Row w' b t ((blk s p).vs ++ tl) ∧ w.grownBy w' (some b) := by
  have hblt := hr.lt
  have c0 : w.cell? ⟨b, 0, none⟩ = some (.int .u32 (wi s.a)) := hr.cell rfl
  have c1 : w.cell? ⟨b, 1, none⟩ = some (.int .u32 (wi s.b)) := hr.cell rfl
  have c2 : w.cell? ⟨b, 2, none⟩ = some (.int .u32 (wi s.c)) := hr.cell rfl
  have c3 : w.cell? ⟨b, 3, none⟩ = some (.int .u32 (wi s.d)) := hr.cell rfl
  have c4 : w.cell? ⟨b, 4, none⟩ = some (.int .u32 (wi s.e)) := hr.cell rfl
  have c5 : w.cell? ⟨b, 5, none⟩ = some (.int .u32 (wi s.f)) := hr.cell rfl
  have c6 : w.cell? ⟨b, 6, none⟩ = some (.int .u32 (wi s.g)) := hr.cell rfl
  have c7 : w.cell? ⟨b, 7, none⟩ = some (.int .u32 (wi s.h)) := hr.cell rfl
  obtain ⟨ws, hws⟩ : ∃ ws, ws = sch p 64 := ⟨_, rfl⟩
  obtain ⟨V, hV⟩ : ∃ V, V = rnd ws s 64 := ⟨_, rfl⟩
  have hwl : ws.length = 64 := by rw [hws, zCp]
  rw [show blk s p = s.add V by rw [hV, hws]; rfl]
  have HSP := (show Hid (∀ u : World, Bts u cb co p → cb < u.heap.size → Calls Tryz.prog 160 #[.pointer (some ⟨cb, co, none⟩)] u fun e w' => e = .returned (.agg (ws.map wv).toArray) ∧ Below u.heap.size u w') by
    rw [hws]
    exact fun u h1 h2 => zPx u cb co p hp hb h1 h2)
  have HL := (show Hid (ws.length = 64) from hwl)
  have HV := (show Hid (V = rnd ws s 64) from hV)
  clear hwl hws hV
  go_enter Tryz.func149, Tryz.ntmps149
  go_wp2_with fail
  refine (HSP.out _ (hbt.below hcb (zA0 w _)) (by simp; omega)).mono ?_
  rintro e w1 ⟨rfl, hb1⟩
  have hrN : Row w1 w.heap.size 185 s.vs := (Row.new w 185 s.vs).below hb1
  have hb1' := zA1 (zA0 w _) zN hb1
  clear hb1 c0 c1 c2 c3 c4 c5 c6 c7 hbt hp hb hcb HSP
  go_wp2_with fail
  go_loopw [14] (fun i wr => ∃ k : Nat, k ≤ 64 ∧ i = .int .i64 k ∧ Row wr w.heap.size 185 (rnd ws s k).vs ∧ Below w.heap.size w wr) (fun i _ => 64 - (intOf i).toNat)
  case atStart => exact ⟨0, by omega, rfl, hrN, hb1'⟩
  case round =>
    obtain ⟨k, hk, rfl, hrk, hbel⟩ := hrel
    by_cases hk64 : k < 64
    · have hix : ∀ u : World, (Instr.index 201 (.agg (ws.map wv).toArray) (.int .i64 (k : Int))).run Tryz.prog u = .ok (.int .u32 (wi (ws.getD k 0))) u := zL4 Tryz.und45 Tryz.info34 Tryz.underlying183 ws k hk64 HL.out
      have hik : ∀ u : World, (Instr.indexAt 201 (.pointer (some ⟨1, 0, none⟩)) (.int .i64 (k : Int))).run Tryz.prog u = .ok (.pointer (some ⟨1, k, none⟩)) u := zDa 1 k hk64
      have hck : wr.cell? ⟨1, k, none⟩ = some (.int .u32 (wi (kk.getD k 0))) := ht.below hbel k hk64
      go_wp2_with fail
      rw [zJn]
      refine (step_any wr w.heap.size 185 (rnd ws s k) [] (kk.getD k 0 + ws.getD k 0) (by rw [List.append_nil]; exact hrk)).mono ?_
      rintro e w2 ⟨rfl, hr2, hg2⟩
      rw [List.append_nil] at hr2
      have HR2 := (show Hid (Row w2 w.heap.size 185 (rnd ws s (k + 1)).vs) from hr2)
      have hb2 := hbel.trans (zA5 hg2 hbel.size (fun k hk => by cases hk; exact zN))
      clear hr2 hg2 hrk hck hbel
      go_wp2_with fail
      go_roundw
      case rel => exact ⟨k + 1, by omega, by go_num, HR2, hb2⟩
      case measure => simp [intOf]; omega
    · have hrV : Row wr w.heap.size 185 V.vs := by rw [HV.out, show 64 = k by omega]; exact hrk
      have c0 : wr.cell? ⟨w.heap.size, 0, none⟩ = some (.int .u32 (wi V.a)) := hrV.cell rfl
      have c1 : wr.cell? ⟨w.heap.size, 1, none⟩ = some (.int .u32 (wi V.b)) := hrV.cell rfl
      have c2 : wr.cell? ⟨w.heap.size, 2, none⟩ = some (.int .u32 (wi V.c)) := hrV.cell rfl
      have c3 : wr.cell? ⟨w.heap.size, 3, none⟩ = some (.int .u32 (wi V.d)) := hrV.cell rfl
      have c4 : wr.cell? ⟨w.heap.size, 4, none⟩ = some (.int .u32 (wi V.e)) := hrV.cell rfl
      have c5 : wr.cell? ⟨w.heap.size, 5, none⟩ = some (.int .u32 (wi V.f)) := hrV.cell rfl
      have c6 : wr.cell? ⟨w.heap.size, 6, none⟩ = some (.int .u32 (wi V.g)) := hrV.cell rfl
      have c7 : wr.cell? ⟨w.heap.size, 7, none⟩ = some (.int .u32 (wi V.h)) := hrV.cell rfl
      have hrb := hr.below hbel
      have hgb := zA8 hbel (some b)
      clear hrk hrV HV HL ht hb1' hrN
      go_wp2_with fail
      go_loopw [26] (fun i wr => ∃ j : Nat, j ≤ 8 ∧ i = .int .i64 j ∧ Row wr b t ((zF7 s V j).map wv ++ tl) ∧ w.grownBy wr (some b)) (fun i _ => 8 - (intOf i).toNat)
      case atStart => exact ⟨0, by omega, rfl, hrb, hgb⟩
      case round =>
        clear hrb hgb c0 c1 c2 c3 c4 c5 c6 c7 hr hbel
        obtain ⟨j, hj, rfl, hrj, hgj⟩ := hrel
        by_cases hj8 : j < 8
        · have hix : ∀ u : World, (Instr.index 185 (.agg #[.int .u32 (wi V.a), .int .u32 (wi V.b), .int .u32 (wi V.c), .int .u32 (wi V.d), .int .u32 (wi V.e), .int .u32 (wi V.f), .int .u32 (wi V.g), .int .u32 (wi V.h)]) (.int .i64 (j : Int))).run Tryz.prog u = .ok (.int .u32 (wi (V.ws.getD j 0))) u := zL4 Tryz.und38 Tryz.info34 Tryz.underlying183 V.ws j hj8 rfl
          have hik : ∀ u : World, (Instr.indexAt 185 (.pointer (some ⟨b, 0, none⟩)) (.int .i64 (j : Int))).run Tryz.prog u = .ok (.pointer (some ⟨b, j, none⟩)) u := run_ix8 b j hj8
          have hcj : wr.cell? ⟨b, j, none⟩ = some (.int .u32 (wi (s.ws.getD j 0))) := hrj.cell (by rw [List.getElem?_append_left (by rw [List.length_map, zJq _ _ _ (by omega)]; exact hj8), List.getElem?_map, zLq s V j hj8]; rfl)
          have hfj := hrj.frozen j
          go_wp2_with fail
          go_region
          go_wp2_with fail
          go_roundw
          case rel =>
            rw [zJn]
            exact ⟨j + 1, by omega, by go_num, zHp s V j hj8 tl ▸ (hrj.set j _).drew, zBg (zA2 hgj (zAd _ _ _ _) (.inl rfl))⟩
          case measure => simp [intOf]; omega
        · have hrf : Row wr b t ((s.add V).vs ++ tl) := by
            rw [show j = 8 by omega] at hrj
            exact hrj
          go_wp2_with fail
          go_end0
          exact ⟨rfl, hrf, hgj⟩
end
section
open Go.RowKit Oct Sha
def zB5 (s : St) (rest : List Int) (n : Int) : List Value := s.vs ++ (bc rest ++ [.int .u64 n])
theorem zIu (s : St) {rest x : List Int} (n : Int) {f : Nat} (h : rest.length = 64) (hf : f + x.length ≤ 64) : splice (zB5 s rest n) (8 + f) (bc x) = zB5 s (splice rest f x) n := by
  unfold splice zB5
  rw [zAn, zPr, zPr, List.append_assoc, List.append_assoc]
  rw [List.take_append, St.vs_len, List.take_of_length_le (by rw [St.vs_len]; omega), show 8 + f - 8 = f by omega, List.take_append_of_le_length (by rw [zAn]; omega)]
  rw [List.drop_append, St.vs_len, List.drop_eq_nil_of_le (by rw [St.vs_len]; omega), List.nil_append, show 8 + f + x.length - 8 = f + x.length by omega, List.drop_append_of_le_length (by rw [zAn]; omega)]
  simp [bc]
theorem zMj (s : St) {rest : List Int} (n m : Int) (h : rest.length = 64) : (zB5 s rest n).set 72 (.int .u64 m) = zB5 s rest m := by
  unfold zB5
  rw [List.set_append_right _ _ (by rw [St.vs_len]; omega), St.vs_len, List.set_append_right _ _ (by rw [zAn]; omega), zAn, h]
  rfl
theorem zGe (s : St) {rest : List Int} (n : Int) {f : Nat} (x : Int) (h : rest.length = 64) (hf : f < 64) : (zB5 s rest n).set (8 + f) (.int .u8 x) = zB5 s (rest.set f x) n := by
  unfold zB5
  rw [List.set_append_right _ _ (by rw [St.vs_len]; omega), St.vs_len, show 8 + f - 8 = f by omega, List.set_append_left _ _ (by rw [zAn]; omega)]
  simp [bc]
theorem zCn (s : St) {rest : List Int} (n : Int) (h : rest.length = 64) : (zB5 s rest n)[72]? = some (.int .u64 n) := by
  unfold zB5
  rw [List.getElem?_append_right (by rw [St.vs_len]; omega), St.vs_len, List.getElem?_append_right (by rw [zAn]; omega), zAn, h]
  rfl
theorem zNe (s : St) {rest : List Int} (n : Int) (h : rest.length = 64) (j : Nat) (hj : j < 64) : (zB5 s rest n)[8 + j]? = some (.int .u8 (rest.getD j 0)) := by
  unfold zB5
  rw [List.getElem?_append_right (by rw [St.vs_len]; omega), St.vs_len, show 8 + j - 8 = j by omega, List.getElem?_append_left (by rw [zAn]; omega)]
  exact zDz rest j (by omega)
theorem zEo (s : St) {rest : List Int} (n : Int) (h : rest.length = 64) : (zB5 s rest n).length = 73 := by
  unfold zB5
  simp [St.vs_len, zAn, h]
theorem Row.bts {w : World} {b : Nat} {t : TypeId} {s : St} {rest : List Int} {n : Int} (h : Row w b t (zB5 s rest n)) (hl : rest.length = 64) : Bts w b 8 rest := fun j hj => h.cell (zNe s n hl j (by omega))
def Hs (w : World) (b : Nat) (l : List Int) : Prop := ∃ rest, Rst l rest ∧ Row w b 189 (zB5 (zDk l (l.length / 64)) rest (l.length : Int))
theorem Hs.below {w w' : World} {b : Nat} {l : List Int} (h : Hs w b l) (hb : Below w.heap.size w w') : Hs w' b l := by
  obtain ⟨r, h1, h2⟩ := h
  exact ⟨r, h1, h2.below hb⟩
theorem Hs.grown {w w' : World} {b : Nat} {l : List Int} {r : Option Nat} (h : Hs w b l) (hg : w.grownBy w' r) (hr : r ≠ some b) : Hs w' b l := by
  obtain ⟨q, h1, h2⟩ := h
  exact ⟨q, h1, h2.grown hg hr⟩
theorem Hs.lt {w : World} {b : Nat} {l : List Int} (h : Hs w b l) : b < w.heap.size := by
  obtain ⟨q, h1, h2⟩ := h
  exact h2.lt
theorem Tryz.siz5 : (Tryz.prog.info? 5).map (·.size) = some 1 := by kernel_rfl
theorem Tryz.siz41 : (Tryz.prog.info? 96).map (·.size) = some 1 := by kernel_rfl
theorem zF1 (w : World) (b n f : Nat) (hc : w.cell? ⟨b, 72, none⟩ = some (.int .u64 (n : Int))) (hf : f = n % 64) (hn : n < 1152921504606846976) :
    Calls Tryz.prog 148 #[.pointer (some ⟨b, 0, none⟩)] w fun e w' => e = .returned (.int .i64 (f : Int)) ∧ w' = w := by
  go_enter Tryz.func148, Tryz.ntmps148
  go_wp2_with fail
  go_ret
  exact ⟨zDj (by omega), rfl⟩
def slen : Value → Nat
  | .slice _ n _ => n
  | _ => 0
theorem zEp {w w' : World} {b pb : Nat} (hg : w.grownBy w' (some b)) (hlt : pb < w.heap.size) (hne : pb ≠ b) (o : Nat) : w'.cell? ⟨pb, o, none⟩ = w.cell? ⟨pb, o, none⟩ :=
  World.cell?_of_block (w := w) (w' := w') (a := ⟨pb, o, none⟩) (hg.block pb hlt (fun e => hne (by injection e)))
theorem run_cut (pb off len cap n : Nat) (hn : n ≤ len) (hc : len ≤ cap) : ∃ V : Value, (∀ u : World, (Instr.slice 23 (.slice (some ⟨pb, off, none⟩) len cap) (some (.int .i64 (n : Int))) none none).run Tryz.prog u = .ok V u) ∧
    V.ownBlock = some pb ∧ slen V = len - n ∧ ∀ (w : World) (r : List Int), r.length = len → Byt r → cap ≤ maxLen → (∀ j, j < r.length → w.cell? ⟨pb, off + j, none⟩ = some (.int .u8 (r.getD j 0))) → Rd w V (r.drop n) := by
  have ht : Tryz.prog.underlying 23 = some (.slice (Tryz.prog.elem 23)) := by kernel_rfl
  have hs : ∀ u : World, (sizeOf (Tryz.prog.elem 23)).run Tryz.prog u = .ok 1 u := by
    intro u
    rw [show Tryz.prog.elem 23 = 5 by kernel_rfl]
    obtain ⟨i0, hi, hz0, hz1, hz2⟩ := info_parts Tryz.info5
    simp [sizeOf, typeInfo, hi, hz1]
  refine ⟨if n = cap then .slice (some ⟨pb, off, none⟩) (len - n) (cap - n) else .slice (some ⟨pb, off + n, none⟩) (len - n) (cap - n), fun u => ?_, ?_, ?_, ?_⟩
  · rw [run_slice_l u 23 (some ⟨pb, off, none⟩) len cap ht .i64 n (by omega) (by omega), hs]
    simp only [Result.andThen, sliced, Int.toNat_natCast, Nat.mul_one, Option.map_some, Addr.add_mid]
    by_cases h : n = cap
    · rw [if_pos h, if_pos h.symm]
    · rw [if_neg h, if_neg (fun e => h e.symm)]
  · split <;> rfl
  · split <;> rfl
  · intro w r hrl hb hcm hcell
    by_cases h : n = cap
    · rw [if_pos h, List.drop_eq_nil_of_le (by omega), show len - n = 0 by omega]
      exact ⟨by intro x hx; simp at hx, zKw w _ _ (by omega)⟩
    · rw [if_neg h]
      have := Rd.part hb hcell n (len - n) (by omega) (cap - n) (by omega) (by omega)
      rwa [List.take_of_length_le (by rw [List.length_drop]; omega)] at this
set_option maxRecDepth 10000 in
set_option maxHeartbeats 1000000 in
theorem add_any (w : World) (b : Nat) (l : List Int) (pv : Value) (x : List Int) (hh : Hs w b l) (hp : Rd w pv x) (hap : 0 < x.length → ∀ k, pv.ownBlock = some k → k ≠ b) (hb0 : b ≠ 1) (ht : Tab w) (hlen : l.length + x.length < 1152921504606846976) :
    Calls Tryz.prog 134 #[.pointer (some ⟨b, 0, none⟩), pv] w fun e w' => e = .returned (.tuple #[]) ∧ Hs w' b (l ++ x) ∧ w.grownBy w' (some b) := by
  go_enter Tryz.func134, Tryz.ntmps134
  go_wp2_with fail
  go_loopw [1] (fun v wr => ∃ (d r : List Int), d ++ r = l ++ x ∧ Hs wr b d ∧ Rd wr v r ∧ (0 < r.length → ∀ k, v.ownBlock = some k → k ≠ b) ∧ w.grownBy wr (some b)) (fun v _ => slen v)
  case atStart => exact ⟨l, x, rfl, hh, hp, hap, zBi _ _⟩
  case round =>
    obtain ⟨d, r, hdr, hd, hr, hap', hg⟩ := hrel
    have HD := (show Hid (d ++ r = l ++ x) from hdr)
    have hdl : d.length + r.length < 1152921504606846976 := by
      have h := congrArg List.length hdr
      simp only [List.length_append] at h
      omega
    have htr : Tab wr := ht.grown hg (by simpa using hb0)
    clear hdr hap hh hp ht hlen
    have hbyt := hr.1
    by_cases hr0 : 0 < r.length
    · obtain ⟨pb, off, cap, rfl, hc1, hc2, hpb, hcell⟩ := hr.at hr0
      have hpbb : pb ≠ b := hap' hr0 pb rfl
      obtain ⟨rest, hre, hro⟩ := hd
      have hrl := hre.1
      obtain ⟨f, hf⟩ : ∃ f, f = d.length % 64 := ⟨_, rfl⟩
      obtain ⟨n, hn⟩ : ∃ n, n = Nat.min r.length (64 - f) := ⟨_, rfl⟩
      obtain ⟨y, hy⟩ : ∃ y, y = r.take n := ⟨_, rfl⟩
      have hn1 : n ≤ r.length := hn ▸ Nat.min_le_left _ _
      have hn2 : n ≤ 64 - f := hn ▸ Nat.min_le_right _ _
      have hf1 : f < 64 := by omega
      have hn0 : 0 < n := by rw [hn]; exact Nat.lt_min.2 ⟨hr0, by omega⟩
      have hyl : y.length = n := by rw [hy, List.length_take]; omega
      have hyb : Byt y := hy ▸ zGa hbyt n
      have hsrc : ∀ (j : Nat) (v : Value), (bc y)[j]? = some v → wr.cell? ((⟨pb, off, none⟩ : Addr).add j) = some v := by
        intro j v hj
        have hjl : j < y.length := by
          have := (List.getElem?_eq_some_iff.1 hj).1
          rwa [zAn] at this
        rw [zDz y j hjl] at hj
        rw [Addr.add_mid, hcell j (by omega), ← hj, hy]
        simp [List.getD, show j < n by omega]
      have hc72 : wr.cell? ⟨b, 72, none⟩ = some (.int .u64 (d.length : Int)) := hro.cell (zCn _ _ hrl)
      have hsl : ∀ u : World, (Instr.sliceAt 187 (.pointer (some ⟨b, 8, none⟩)) (some (.int .i64 (f : Int))) none none).run Tryz.prog u = .ok (.slice (some ⟨b, 8 + f, none⟩) (64 - f) (64 - f)) u := zPi b 8 f hf1
      have HF := (show Hid (f = d.length % 64) from hf)
      have HN := (show Hid (n = Nat.min r.length (64 - f)) from hn)
      have HY := (show Hid (y = r.take n) from hy)
      have HS := (show Hid (∀ (j : Nat) (v : Value), (bc y)[j]? = some v → wr.cell? ((⟨pb, off, none⟩ : Addr).add j) = some v) from hsrc)
      have HC := (show Hid (∀ j, j < r.length → wr.cell? ⟨pb, off + j, none⟩ = some (.int .u8 (r.getD j 0))) from hcell)
      have HYL := (show Hid (y.length = n) from hyl)
      have HRL := (show Hid (rest.length = 64) from hrl)
      have HA1 := (show Hid ((bc y).length = Nat.min r.length (64 - f)) by show (bc y).length = _; rw [zAn, hyl]; exact hn)
      have hA2 : 8 + f + (bc y).length ≤ (zB5 (zDk d (d.length / 64)) rest (d.length : Int)).length := by rw [zAn, hyl, zEo _ _ hrl]; omega
      have HA3 := (show Hid ((bc y).length = n) by show (bc y).length = _; rw [zAn, hyl])
      have hd60 : d.length < 1152921504606846976 := by omega
      clear hf hn hy hsrc hcell hap' hr hyl hrl
      go_wp2_with fail
      go_region_held3 (fun _ => True) (trivial)
        (first
          | (go_at_call 148; refine (zF1 wr.drew b d.length f hc72 HF.out hd60).mono ?_; rintro e w' ⟨rfl, rfl⟩)
          | (refine zGt (by rfl) _ _ _ _ (by rfl) 5 Tryz.underlying23 Tryz.siz5 (some ⟨b, 8 + f, none⟩) (some ⟨pb, off, none⟩) (64 - f) (64 - f) r.length cap (by rfl) (by rfl) b (8 + f) _ 189 hro (bc y) HA1.out (fun _ => ⟨rfl, _, rfl, HS.out⟩) hA2 (zJi _) n HA3.out ?_; intro w2 hr2 hg2))
      have hr2' : Row w2 b 189 (zB5 (zDk d (d.length / 64)) (splice rest f y) (d.length : Int)) := by
        have := hr2.out
        rwa [zIu _ _ HRL.out (by rw [HYL.out]; omega)] at this
      have hspl : (splice rest f y).length = 64 := by rw [length_splice _ _ _ (by rw [HYL.out, HRL.out]; omega)]; exact HRL.out
      have HSPL := (show Hid ((splice rest f y).length = 64) from hspl)
      have hgr2 : wr.grownBy w2 (some b) := zB1 hg2
      have hgw2 : w.grownBy w2 (some b) := zA2 hg (zB1 hg2) (.inl rfl)
      have hc72b : w2.cell? ⟨b, 72, none⟩ = some (.int .u64 (d.length : Int)) := hr2'.cell (zCn _ _ hspl)
      have hj72 : 72 < (zB5 (zDk d (d.length / 64)) (splice rest f y) (d.length : Int)).length := by rw [zEo _ _ hspl]; decide
      obtain ⟨V, hcut, hVb, hVl, hVr⟩ := run_cut pb off r.length cap n hn1 hc1
      have HVB := (show Hid (V.ownBlock = some pb) from hVb)
      have HVL := (show Hid (slen V = r.length - n) from hVl)
      have HVR := (show Hid (∀ (w : World), (∀ j, j < r.length → w.cell? ⟨pb, off + j, none⟩ = some (.int .u8 (r.getD j 0))) → Rd w V (r.drop n)) from fun w h => hVr w r rfl hbyt hc2 h)
      clear hg hg2 hr2 hc72 hsl HS HN HA1 HA3 hA2 hVb hVl hVr hspl hro
      by_cases hfull : f + n = 64
      · go_wp2_with (refine zAb (by rfl) 96 _ _ (by rfl) b 72 (.int .u64 ((d.length : Int) + (n : Int))) (by rfl) (by rfl) 189 _ hr2' hj72 Tryz.siz41 (by rfl) ?_; intro w3 hr3 hg3)
        have hr3' : Row w3 b 189 (zB5 (zDk d (d.length / 64)) (splice rest f y) ((d.length + n : Nat) : Int)) := by
          have := hr3.out
          rwa [zMj _ _ _ HSPL.out, ← Int.natCast_add] at this
        have hgr3 := zA2 hgr2 hg3 (.inl rfl)
        have hgw3 := zA2 hgw2 hg3 (.inl rfl)
        have ht3 := htr.grown hgr3 (by simpa using hb0)
        clear hr3 hg3 hgr2 hgw2 hr2' hc72b hj72
        refine (zF1 _ b (d.length + n) 0 (hr3'.cell (zCn _ _ HSPL.out)) (by have := HF.out; omega) (by omega)).mono ?_
        rintro e w3' ⟨rfl, rfl⟩
        go_wp2_with fail
        have hq : Byt (splice rest f y) := zJj hre.2.1 hyb f
        have hlt3 := hr3'.lt
        go_region_held3 (fun _ => True) (trivial)
          ((go_at_call 149; refine (zFr w3'.drew b 189 (zDk d (d.length / 64)) (bc (splice rest f y) ++ [Value.int IntKind.u64 ((d.length + n : Nat) : Int)]) hr3'.drew ht3 b 8 (splice rest f y) HSPL.out hq (hr3'.bts HSPL.out) hlt3).mono ?_; rintro e w4 ⟨rfl, hr4, hg4⟩))
        have hgr4 := zA2 hgr3 (zB1 hg4) (.inl rfl)
        have hgw4 := zA2 hgw3 (zB1 hg4) (.inl rfl)
        have hx := zUh (x := y) hre hyb (by rw [HYL.out, ← HF.out]; exact hfull)
        rw [← HF.out] at hx
        have HH := (show Hid (Hs w4 b (d ++ y)) from ⟨splice rest f y, hx.1, by
          rw [hx.2, List.length_append, HYL.out]
          exact hr4⟩)
        have HR := (show Hid (Rd w4 V (r.drop n)) from HVR.out w4 fun j hj => (zEp hgr4 hpb hpbb _).trans (HC.out j hj))
        clear hr3' hgr3 hgw3 ht3 hr4 hg4 hgr4 hx hq htr
        go_wp2_with fail
        go_roundw
        case rel =>
          refine ⟨d ++ y, r.drop n, ?_, HH, HR, fun _ k hk => ?_, hgw4⟩
          · rw [List.append_assoc, HY.out, List.take_append_drop]
            exact HD.out
          · rw [HVB.out] at hk
            injection hk with hk
            omega
        case measure =>
          show slen V < r.length
          rw [HVL.out]
          omega
      · go_wp2_with (refine zAb (by rfl) 96 _ _ (by rfl) b 72 (.int .u64 ((d.length : Int) + (n : Int))) (by rfl) (by rfl) 189 _ hr2' hj72 Tryz.siz41 (by rfl) ?_; intro w3 hr3 hg3)
        have hr3' : Row w3 b 189 (zB5 (zDk d (d.length / 64)) (splice rest f y) ((d.length + n : Nat) : Int)) := by
          have := hr3.out
          rwa [zMj _ _ _ HSPL.out, ← Int.natCast_add] at this
        have hgr3 := zA2 hgr2 hg3 (.inl rfl)
        have hgw3 := zA2 hgw2 hg3 (.inl rfl)
        have ht3 := htr.grown hgr3 (by simpa using hb0)
        clear hr3 hg3 hgr2 hgw2 hr2' hc72b hj72
        have hfn : 0 < f + n := by omega
        have hne : ((f + n : Nat) : Int) ≠ 0 := by omega
        have hne' : decide (((f + n : Nat) : Int) = 0) = false := by simpa using hne
        refine (zF1 _ b (d.length + n) (f + n) (hr3'.cell (zCn _ _ HSPL.out)) (by have := HF.out; omega) (by omega)).mono ?_
        rintro e w3' ⟨rfl, rfl⟩
        have hx := zSy (x := y) hre hyb (by rw [HYL.out, ← HF.out]; omega)
        rw [← HF.out] at hx
        have HH := (show Hid (Hs _ b (d ++ y)) from ⟨splice rest f y, hx.1, by
          rw [hx.2, List.length_append, HYL.out]
          exact hr3'⟩)
        have HR := (show Hid (Rd _ V (r.drop n)) from HVR.out _ fun j hj => (zEp hgr3 hpb hpbb _).trans (HC.out j hj))
        clear hr3' hgr3 ht3 hx htr
        go_wp2_with fail
        go_roundw
        case rel =>
          refine ⟨d ++ y, r.drop n, ?_, HH, HR, fun _ k hk => ?_, hgw3⟩
          · rw [List.append_assoc, HY.out, List.take_append_drop]
            exact HD.out
          · rw [HVB.out] at hk
            injection hk with hk
            omega
        case measure =>
          show slen V < r.length
          rw [HVL.out]
          omega
    · have hr' : r = [] := List.eq_nil_of_length_eq_zero (by omega)
      subst hr'
      obtain ⟨ao, cap, rfl, hcm⟩ := hr.empty rfl
      have hdd : Hs wr b (l ++ x) := by rw [← HD.out, List.append_nil]; exact hd
      go_wp2_with fail
      go_end0
      exact ⟨rfl, hdd, hg⟩
end
section
open Go.ChangeShapes Go.WideShapes Go.ChangeAt Go.RowKit Oct
theorem zR4 : Tryz.prog.cellsOf 36 = 1 := by kernel_rfl
theorem zQ1 : Tryz.prog.cellsOf 37 = 1 := by kernel_rfl
theorem zQe : Tryz.prog.cellsOf 38 = 1 := by kernel_rfl
theorem zUx : Tryz.prog.cellsOf 40 = 23 := by kernel_rfl
theorem open_agg {P : Program} {w : World} {b0 : Nat} {r : Reach} {t : TypeId} {fs : Array Field} {k : Nat} (ht : P.underlying t = some (.struct fs)) (hct : P.cellsOf t = k) {v : Value} (hv : Value.okWide P w r b0 t v) : ∃ cs : List Value, v = .agg cs.toArray ∧ cs.length = k := by
  simp only [Value.okWide, ht] at hv
  obtain ⟨cs, rfl, hsz, _⟩ := hv
  exact ⟨cs.toList, by simp, by simpa [hct] using hsz⟩
set_option maxRecDepth 10000 in
theorem zOz {H : Type} {enc : TypeId × Value → H} {w : World} {base b0 : Nat} {r : Reach} {held : Bool} {v : Value} {d : DataW H} {p : List MemPlace} (hv : Value.okWide Tryz.prog w r b0 40 v) (h : DataW.Trod enc Tryz.prog w base (fun _ => true) held 40 v d p) :
    ∃ (m : PMsg) (s : SV), v = .agg (mc m s).toArray ∧ SOk Any w m s ∧ bM m ≤ Rows.uptoBulk d ∧ ((∀ n ∈ d.weights Tryz.prog 40, n ≤ reachBytes) → szM m) := by
  obtain ⟨cs, rfl, hl⟩ := open_agg Tryz.underlying40 zUx hv
  clear hv
  obtain ⟨fuel, hf⟩ := h
  obtain ⟨xs, n, rfl, hx, hl2, hxl, hf⟩ := DataW.trod_struct Tryz.underlying40 hf
  clear hl2
  have hxl : xs.length = 16 := hxl
  obtain ⟨c0, c1, c2, c3, c4, c5, c6, c7, c8, c9, c10, c11, c12, c13, c14, c15, c16, c17, c18, c19, c20, c21, c22, rfl⟩ := of23 hl
  obtain ⟨x0, x1, x2, x3, x4, x5, x6, x7, x8, x9, x10, x11, x12, x13, x14, x15, rfl⟩ := of16 hxl
  simp only [Value.cells] at hf
  have hd := congrArg Prod.fst hx
  simp only [List.map_cons, List.map_nil] at hd
  clear hx
  have h0 := fld hf 0 rfl rfl rfl zBj (cs' := [c0]) rfl rfl
  have h1 := fld hf 1 rfl rfl rfl zIf (cs' := [c1, c2]) rfl rfl
  have h2 := fld hf 2 rfl rfl rfl zBj (cs' := [c3]) rfl rfl
  have h3 := fld hf 3 rfl rfl rfl zBj (cs' := [c4]) rfl rfl
  have h4 := fld hf 4 rfl rfl rfl zBj (cs' := [c5]) rfl rfl
  have h5 := fld hf 5 rfl rfl rfl zBj (cs' := [c6]) rfl rfl
  have h6 := fld hf 6 rfl rfl rfl zBj (cs' := [c7]) rfl rfl
  have h7 := fld hf 7 rfl rfl rfl zHw (cs' := [c8, c9, c10, c11]) rfl rfl
  have h8 := fld hf 8 rfl rfl rfl zHw (cs' := [c12, c13, c14, c15]) rfl rfl
  have h9 := fld hf 9 rfl rfl rfl zCf (cs' := [c16]) rfl rfl
  have h10 := fld hf 10 rfl rfl rfl zCf (cs' := [c17]) rfl rfl
  have h11 := fld hf 11 rfl rfl rfl zDt (cs' := [c18]) rfl rfl
  have h12 := fld hf 12 rfl rfl rfl zDt (cs' := [c19]) rfl rfl
  have h13 := fld hf 13 rfl rfl rfl zR4 (cs' := [c20]) rfl rfl
  have h14 := fld hf 14 rfl rfl rfl zQ1 (cs' := [c21]) rfl rfl
  have h15 := fld hf 15 rfl rfl rfl zQe (cs' := [c22]) rfl rfl
  clear hf
  obtain ⟨y0, g0, (b0 : 1 ≤ _), _⟩ := zCg _ _ _ h0
  cases g0
  obtain ⟨⟨ya1, yb1⟩, g1, (b1 : 3 ≤ _), _⟩ := zMs _ _ _ h1
  cases g1
  obtain ⟨y2, g2, (b2 : 1 ≤ _), _⟩ := zCg _ _ _ h2
  cases g2
  obtain ⟨y3, g3, (b3 : 1 ≤ _), _⟩ := zCg _ _ _ h3
  cases g3
  obtain ⟨y4, g4, (b4 : 1 ≤ _), _⟩ := zCg _ _ _ h4
  cases g4
  obtain ⟨y5, g5, (b5 : 1 ≤ _), _⟩ := zCg _ _ _ h5
  cases g5
  obtain ⟨y6, g6, (b6 : 1 ≤ _), _⟩ := zCg _ _ _ h6
  cases g6
  obtain ⟨⟨ya7, yb7, yc7, yd7⟩, ⟨o7, q7, g7, r7, t7⟩, b7, s7⟩ := zKn _ _ _ h7
  cases g7
  obtain ⟨⟨ya8, yb8, yc8, yd8⟩, ⟨o8, q8, g8, r8, t8⟩, b8, s8⟩ := zKn _ _ _ h8
  cases g8
  obtain ⟨y9, ⟨v9, g9, r9⟩, b9, s9⟩ := zDe _ _ _ h9
  cases g9
  obtain ⟨y10, ⟨v10, g10, r10⟩, b10, s10⟩ := zDe _ _ _ h10
  cases g10
  obtain ⟨y11, ⟨v11, g11, r11⟩, b11, s11⟩ := zGi _ _ _ h11
  cases g11
  obtain ⟨y12, ⟨v12, g12, r12⟩, b12, s12⟩ := zGi _ _ _ h12
  cases g12
  obtain ⟨y13, ⟨v13, g13, r13⟩, b13, s13⟩ := opn_ints _ _ _ h13
  cases g13
  obtain ⟨y14, ⟨v14, g14, r14⟩, b14, s14⟩ := opn_reqs _ _ _ h14
  cases g14
  obtain ⟨y15, ⟨v15, g15, r15⟩, b15, s15⟩ := opn_reps _ _ _ h15
  cases g15
  refine ⟨⟨y0, (ya1, yb1), y2, y3, y4, y5, y6, (ya7, yb7, yc7, yd7), (ya8, yb8, yc8, yd8), y9, y10, y11, y12, y13, y14, y15⟩, ⟨c10, c11, c14, c15, c16, c17, c18, c19, c20, c21, c22⟩, rfl, ⟨r7, t7, r8, t8, r9, r10, r11, r12, r13, r14, r15⟩, ?_, fun hn => ?_⟩
  · rw [hd]
    simp only [bM, Rows.uptoBulk, Rows.uptoBulkAll]
    omega
  · rw [hd] at hn
    exact ⟨s7 (zAp Tryz.underlying40 hn 7 rfl rfl rfl), s8 (zAp Tryz.underlying40 hn 8 rfl rfl rfl), s9 (zAp Tryz.underlying40 hn 9 rfl rfl rfl), s10 (zAp Tryz.underlying40 hn 10 rfl rfl rfl), s11 (zAp Tryz.underlying40 hn 11 rfl rfl rfl), s12 (zAp Tryz.underlying40 hn 12 rfl rfl rfl), s13 (zAp Tryz.underlying40 hn 13 rfl rfl rfl), s14 (zAp Tryz.underlying40 hn 14 rfl rfl rfl), s15 (zAp Tryz.underlying40 hn 15 rfl rfl rfl)⟩
end
section
open Go.ChangeShapes Go.WideShapes Go.ChangeAt Go.RowKit Sha
theorem gTab : Tryz.prog.globalNamed "catenary/sha.constants" = some 1 := by kernel_rfl
theorem gTabType : (Tryz.prog.globals[1]?).map (·.type) = some 201 := by kernel_rfl
theorem cells45 : Tryz.prog.cellsOf 201 = 64 := by kernel_rfl
theorem cells34 : Tryz.prog.cellsOf 183 = 1 := by kernel_rfl
def kints : List Int := [1116352408, 1899447441, 3049323471, 3921009573, 961987163, 1508970993, 2453635748, 2870763221, 3624381080, 310598401, 607225278, 1426881987, 1925078388, 2162078206, 2614888103, 3248222580, 3835390401, 4022224774, 264347078, 604807628, 770255983, 1249150122, 1555081692, 1996064986, 2554220882, 2821834349, 2952996808, 3210313671, 3336571891, 3584528711, 113926993, 338241895, 666307205, 773529912, 1294757372, 1396182291, 1695183700, 1986661051, 2177026350, 2456956037, 2730485921, 2820302411, 3259730800, 3345764771, 3516065817, 3600352804, 4094571909, 275423344, 430227734, 506948616, 659060556, 883997877, 958139571, 1322822218, 1537002063, 1747873779, 1955562222, 2024104815, 2227730452, 2361852424, 2428436474, 2756734187, 3204031479, 3329325298]
theorem kints_at : ∀ t, t < 64 → kints.getD t 0 = wi (kk.getD t 0) := by decide +kernel
theorem tab_of {W : World} (h : laidMetH Tryz.prog [("catenary/sha.constants", Rows.laid_catenary_sha_constants)] W) : Tab W := by
  have t : Lib.TabIs Tryz.prog W "catenary/sha.constants" .u32 kints := Lib.tabIs_of_head (rest := []) gTab gTabType Tryz.underlying201 Tryz.underlying183 cells34 cells45 h
  intro j hj
  rw [t.cell gTab j hj, kints_at j hj]
noncomputable def laidWorld (os : Os) : World :=
  { World.holding Tryz.prog os ⟨#[], #[], []⟩ with heap := (World.holding Tryz.prog os ⟨#[], #[], []⟩).heap.modify 1 fun
      | .cells _ t frozen => .cells (kints.map (Value.int .u32)).toArray t frozen
      | o => o }
end
end Go.Proofs.YtgjepofinpmcpaaGreatDoor
