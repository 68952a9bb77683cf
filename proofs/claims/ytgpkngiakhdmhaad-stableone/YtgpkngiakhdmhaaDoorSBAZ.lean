/- Maps whose keys are ints, whatever lies in them: their entries stand in the order in which they were laid. Look-up, store, len, and how they are gone through. Written by mk21.py out of Im1, Im2. -/
import Derived.Test.YtgpkngiakhdmhaaDoorSBAV
import Derived.Maps.RangeRun
import Derived.Maps.OwnSet
import Derived.Maps.RangeWalk
import Derived.Laws.IdiomRangeMap
set_option linter.unusedSimpArgs false
set_option linter.unusedVariables false
namespace Go.Proofs.YtgpkngiakhdmhaaDoor
namespace MI
open Go.RowKit Oct
open Go.ChangeMaps (setBlock heap_setBlock_same heap_setBlock_other)
abbrev ki (q : Int) : Value := .int .i64 q
theorem checkK (w : World) (em : Bool) (q : Int) : (Instr.checkKey em 10000 3 (ki q)).run Tryd.prog w = .ok () w := by kernel_rfl
/-- The first place at which q stands. -/
def fnd (q : Int) : List Int → Option Nat
  | [] => none
  | k :: ks => if q = k then some 0 else (fnd q ks).map (· + 1)
theorem fnd_lt {q : Int} : ∀ {ks : List Int} {j : Nat}, fnd q ks = some j → j < ks.length ∧ ks[j]? = some q
  | [], j, h => by simp [fnd] at h
  | k :: ks, j, h => by
    unfold fnd at h
    split at h
    · rename_i e
      simp at h
      subst h
      simp [e]
    · cases hf : fnd q ks with
      | none => simp [hf] at h
      | some i =>
        simp [hf] at h
        subst h
        have := fnd_lt hf
        simpa using this
theorem fnd_none {q : Int} : ∀ {ks : List Int}, fnd q ks = none → q ∉ ks
  | [], h => by simp
  | k :: ks, h => by
    unfold fnd at h
    split at h
    · simp at h
    · rename_i hne
      have : fnd q ks = none := by simpa using h
      simp [hne, fnd_none this]
theorem fnd_of {q : Int} : ∀ {ks : List Int} {j : Nat}, ks.Nodup → ks[j]? = some q → fnd q ks = some j
  | [], j, _, h => by simp at h
  | k :: ks, 0, _, h => by simp at h; simp [fnd, h]
  | k :: ks, j + 1, hn, h => by
    obtain ⟨h1, h2⟩ := List.nodup_cons.1 hn
    have hm : q ∈ ks := List.mem_of_getElem? (by simpa using h)
    have hne : q ≠ k := fun e => h1 (e ▸ hm)
    simp [fnd, hne, fnd_of h2 (by simpa using h)]
theorem findN (q : Int) : ∀ (es : List MapEntry) (ks : List Int) (i : Nat), es.map (·.key) = ks.map ki →
    Instr.findNow (.int .i64) (ki q) es i = some ((fnd q ks).bind fun j => (es[j]?).map fun e => (i + j, e.val))
  | [], [], i, _ => by simp [Instr.findNow, fnd]
  | e :: es, k :: ks, i, h => by
    simp only [List.map_cons, List.cons.injEq] at h
    simp only [Instr.findNow, h.1, ki, Instr.sameNow, if_true, fnd]
    by_cases hk : q = k
    · simp [hk]
    · have hb : (q == k) = false := by simpa using hk
      simp only [hb, hk, if_false]
      have := findN q es ks (i + 1) h.2
      simp only [ki] at this
      rw [this]
      cases fnd q ks with
      | none => simp
      | some j => simp [Nat.add_assoc, Nat.add_comm 1 j]
  | [], _ :: _, _, h => by simp at h
  | _ :: _, [], _, h => by simp at h
theorem findK (w : World) (q : Int) (es : List MapEntry) (ks : List Int) (h : es.map (·.key) = ks.map ki) :
    (Instr.findKey 3 (ki q) es).run Tryd.prog w = .ok ((fnd q ks).bind fun j => (es[j]?).map fun e => (j, e.val)) w := by
  have hA := findN q es ks 0 h
  simp only [Nat.zero_add] at hA
  simp only [Instr.findKey, Sem.run_bind, run_underlying Tryd.underlying3, Result.andThen_ok, hA, Sem.run_pure]
/-- Block b is a map of these entries, in this order. -/
def Mp (w : World) (b : Nat) (l : List (Int × Value)) : Prop :=
  ∃ (es : Array MapEntry) (clock : Nat), w.heap[b]? = some (.map es clock) ∧ es.toList.map (fun e => (e.key, e.val)) = l.map (fun z => (ki z.1, z.2)) ∧ (∀ e ∈ es.toList, e.born < clock) ∧ (es.toList.map (·.born)).Nodup
theorem Mp.lt {w : World} {b : Nat} {l : List (Int × Value)} (h : Mp w b l) : b < w.heap.size := by
  obtain ⟨es, clock, hb, _⟩ := h
  exact (Array.getElem?_eq_some_iff.1 hb).1
theorem Mp.made (w : World) : Mp (w.alloc (.map #[] 0)) w.heap.size [] := ⟨#[], 0, heap_alloc_new w _, rfl, by simp, by simp⟩
theorem Mp.grown {w w' : World} {b : Nat} {l : List (Int × Value)} {r : Option Nat} (h : Mp w b l) (hg : w.grownBy w' r) (hr : r ≠ some b) : Mp w' b l := by
  have hlt := h.lt
  obtain ⟨es, clock, hb, hrest⟩ := h
  exact ⟨es, clock, (hg.block b hlt (fun e => hr e.symm)).trans hb, hrest⟩
theorem Mp.below {w w' : World} {b : Nat} {l : List (Int × Value)} (h : Mp w b l) (hb : Below w.heap.size w w') : Mp w' b l := h.grown (grown_of_below hb none) (by simp)
theorem Mp.nocell {w : World} {b : Nat} {l : List (Int × Value)} (h : Mp w b l) (o : Nat) : w.cell? ⟨b, o, none⟩ = none := by
  obtain ⟨es, clock, hb, _⟩ := h
  simp [World.cell?, hb]
theorem ent_keys {es : List MapEntry} {l : List (Int × Value)} (h : es.map (fun e => (e.key, e.val)) = l.map (fun z => (ki z.1, z.2))) : es.map (·.key) = (l.map (·.1)).map ki := by
  have := congrArg (List.map Prod.fst) h
  simpa [Function.comp_def] using this
theorem ent_at {es : List MapEntry} {l : List (Int × Value)} (h : es.map (fun e => (e.key, e.val)) = l.map (fun z => (ki z.1, z.2))) {j : Nat} {z : Int × Value} (hz : l[j]? = some z) : ∃ e, es[j]? = some e ∧ e.key = ki z.1 ∧ e.val = z.2 := by
  have h1 := congrArg (fun t => t[j]?) h
  simp only [List.getElem?_map, hz, Option.map_some] at h1
  cases he : es[j]? with
  | none => simp [he] at h1
  | some e =>
    simp [he] at h1
    exact ⟨e, rfl, h1.1, h1.2⟩
section
variable {T E : TypeId} (hT : Tryd.prog.underlying T = some (.map 3 E))
include hT
/-- 'm[k]'. -/
theorem Mp.look_none {w : World} {b : Nat} {l : List (Int × Value)} (h : Mp w b l) {q : Int} (hq : fnd q (l.map (·.1)) = none) {z : Value} (hz : ∀ u : World, (zeroValue E).run Tryd.prog u = .ok z u) (c : Bool) :
    (Instr.lookup T (.map (some b)) (ki q) c).run Tryd.prog w = .ok (if c then .tuple #[z, .bool false] else z) w := by
  obtain ⟨es, clock, hb, hl, _⟩ := h
  have hf := findK w q es.toList _ (ent_keys hl)
  rw [hq] at hf
  simp [Instr.lookup, run_underlying hT, MapKept.run_getObj_map hb, checkK, hf, hz, Result.andThen]
theorem Mp.look_some {w : World} {b : Nat} {l : List (Int × Value)} (h : Mp w b l) {q : Int} {j : Nat} {v : Value} (hq : fnd q (l.map (·.1)) = some j) (hj : l[j]? = some (q, v)) (c : Bool) :
    (Instr.lookup T (.map (some b)) (ki q) c).run Tryd.prog w = .ok (if c then .tuple #[v, .bool true] else v) w := by
  obtain ⟨es, clock, hb, hl, _⟩ := h
  have hf := findK w q es.toList _ (ent_keys hl)
  obtain ⟨e, he, _, hv⟩ := ent_at hl hj
  rw [hq] at hf
  simp only [Option.bind_some, he, Option.map_some, hv] at hf
  simp [Instr.lookup, run_underlying hT, MapKept.run_getObj_map hb, checkK, hf, Result.andThen]
theorem look_nilM {w : World} (q : Int) {z : Value} (hz : ∀ u : World, (zeroValue E).run Tryd.prog u = .ok z u) (c : Bool) :
    (Instr.lookup T (.map none) (ki q) c).run Tryd.prog w = .ok (if c then .tuple #[z, .bool false] else z) w := by
  have hf := findK w q [] [] rfl
  simp [fnd] at hf
  simp [Instr.lookup, run_underlying hT, checkK, hf, hz, Result.andThen]
theorem len_nilM {w : World} (ty : TypeId) : (Builtin.len_ #[T] ty #[.map none]).run Tryd.prog w = .ok (.int .i64 0) w := by
  simp [Builtin.len_, run_underlying hT, goInt]
end
theorem grown_block {w : World} {b : Nat} {es : Array MapEntry} {clock : Nat} (hb : w.heap[b]? = some (.map es clock)) (o : Obj) : w.grownBy (setBlock w b o) (some b) :=
  ⟨rfl, rfl, rfl, by simp [setBlock], fun i _ hi => heap_setBlock_other hb _ (fun e => hi (by rw [e]))⟩
section
variable {T E : TypeId} (hT : Tryd.prog.underlying T = some (.map 3 E))
include hT
/-- 'm[k] = v', k new. -/
theorem Mp.put_new {w : World} {b : Nat} {l : List (Int × Value)} (h : Mp w b l) {q : Int} (hq : fnd q (l.map (·.1)) = none) (v : Value) :
    ∃ w', (Instr.mapUpdate T (.map (some b)) (ki q) v).run Tryd.prog w = .ok () w' ∧ Mp w' b (l ++ [(q, v)]) ∧ w.grownBy w' (some b) := by
  obtain ⟨es, clock, hb, hl, h1, h2⟩ := h
  have hf := findK w q es.toList _ (ent_keys hl)
  rw [hq] at hf
  refine ⟨setBlock w b (.map (es.push ⟨ki q, v, clock⟩) (clock + 1)), ?_, ⟨_, _, heap_setBlock_same hb _, ?_, ?_, ?_⟩, grown_block hb _⟩
  · simp [Instr.mapUpdate, run_underlying hT, MapKept.run_getObj_map hb, checkK, hf, MapKept.run_setObj_map _ hb, Result.andThen, setBlock]
  · simp [hl]
  · intro e he
    simp at he
    rcases he with he | rfl
    · have := h1 e (by simpa using he)
      omega
    · simp
  · rw [Array.toList_push, List.map_append, List.nodup_append]
    refine ⟨h2, by simp, ?_⟩
    intro a ha c hc
    simp at hc
    subst hc
    obtain ⟨e, he, rfl⟩ := List.mem_map.1 ha
    have := h1 e he
    omega
/-- 'len(m)'. -/
theorem Mp.len {w : World} {b : Nat} {l : List (Int × Value)} (h : Mp w b l) (ty : TypeId) : (Builtin.len_ #[T] ty #[.map (some b)]).run Tryd.prog w = .ok (.int .i64 (l.length : Int)) w := by
  obtain ⟨es, clock, hb, hl, _⟩ := h
  have hs : es.size = l.length := by
    have := congrArg List.length hl
    simpa using this
  simp [Builtin.len_, run_underlying hT, MapKept.run_getObj_map hb, Result.andThen, hs, goInt]
end
/-- A number out of a key. -/
def unK : Value → Int
  | .int _ n => n
  | _ => 0
theorem unK_kv (q : Int) : unK (ki q) = q := rfl
/-- A key's slot. -/
def slV (v : Value) : Int := unK v
theorem slV_kv (q : Int) : slV (ki q) = q := rfl
/-- What stays while the entries that were seen are struck. -/
def pkS (s : Int) (seen : Array Nat) (e : MapEntry) : Bool := !(seen.contains e.born && decide (slV e.key ≤ s))
/-- The entries when the loop began. -/
structure En (es0 : List MapEntry) (clock : Nat) : Prop where
  keys : ∀ e ∈ es0, e.key = ki (unK e.key)
  dup : (es0.map (fun e => unK e.key)).Nodup
  old : ∀ e ∈ es0, e.born < clock
  one : (es0.map (fun e => e.born)).Nodup
theorem En.sub {es0 es : List MapEntry} {clock : Nat} (h : En es0 clock) (hs : es.Sublist es0) : En es clock :=
  ⟨fun e he => h.keys e (hs.subset he), (hs.map _).nodup h.dup, fun e he => h.old e (hs.subset he), (hs.map _).nodup h.one⟩
theorem En.keysL {es0 : List MapEntry} {clock : Nat} (h : En es0 clock) : es0.map (·.key) = (es0.map (fun e => unK e.key)).map ki := by
  rw [List.map_map]
  exact List.map_congr_left fun e he => h.keys e he
theorem born_eq : ∀ {l : List MapEntry}, (l.map (fun e => e.born)).Nodup → ∀ {x y : MapEntry}, x ∈ l → y ∈ l → x.born = y.born → x = y
  | [], _, x, y, hx, _, _ => by simp at hx
  | a :: r, hn, x, y, hx, hy, h => by
    obtain ⟨h1, h2⟩ := List.nodup_cons.1 hn
    rcases List.mem_cons.1 hx with ex | hx
    · rcases List.mem_cons.1 hy with ey | hy
      · rw [ex, ey]
      · exact absurd (List.mem_map.2 ⟨y, hy, by rw [← h, ex]⟩) h1
    · rcases List.mem_cons.1 hy with ey | hy
      · exact absurd (List.mem_map.2 ⟨x, hx, by rw [h, ey]⟩) h1
      · exact born_eq h2 hx hy h
/-- The loop over the map at block m under way, its iterator at block it. -/
structure IT (w : World) (m it : Nat) (es0 : List MapEntry) (clock : Nat) (s : Int) (seen : Array Nat) : Prop where
  map : w.heap[m]? = some (.map (es0.filter (pkS s seen)).toArray clock)
  it : w.heap[it]? = some (.mapIter (some m) clock seen clock)
theorem IT.ne {w : World} {m it : Nat} {es0 : List MapEntry} {clock : Nat} {s : Int} {seen : Array Nat} (h : IT w m it es0 clock s seen) : it ≠ m := by
  rintro rfl
  have h1 := h.map
  rw [h.it] at h1
  cases h1
theorem IT.below {w w' : World} {m it : Nat} {es0 : List MapEntry} {clock : Nat} {s : Int} {seen : Array Nat} (h : IT w m it es0 clock s seen) (hb : Below w.heap.size w w') : IT w' m it es0 clock s seen :=
  ⟨(hb.block m (Array.getElem?_eq_some_iff.1 h.map).1).trans h.map, (hb.block it (Array.getElem?_eq_some_iff.1 h.it).1).trans h.it⟩
theorem IT.left {w : World} {m it : Nat} {es0 : List MapEntry} {clock : Nat} {s : Int} {seen : Array Nat} (h : IT w m it es0 clock s seen) : w.rangeLeft m it = (leftOf (es0.filter (pkS s seen)).toArray seen).size := by
  simp only [World.rangeLeft, h.map, h.it]
theorem left_le {es es' : List MapEntry} (seen : Array Nat) (h : es'.Sublist es) : (leftOf es'.toArray seen).size ≤ (leftOf es.toArray seen).size := by
  have e1 : ∀ a : List MapEntry, (leftOf a.toArray seen).size = (a.filter fun e => !seen.contains e.born).length := fun a => by
    unfold leftOf
    rw [List.filter_toArray]
    simp
  rw [e1, e1]
  exact (h.filter _).length_le
/-- Struck, or not. -/
theorem flt_struck {es0 : List MapEntry} {clock : Nat} (h : En es0 clock) {s : Int} {seen : Array Nat} {e : MapEntry} (he : e ∈ es0) (hs : slV e.key ≤ s) : (es0.filter (pkS s seen)).filter (fun x => x.born != e.born) = es0.filter (pkS s (seen.push e.born)) := by
  rw [List.filter_filter]
  refine List.filter_congr fun x hx => ?_
  unfold pkS
  rw [contains_push]
  by_cases hb : x.born = e.born
  · obtain rfl := born_eq h.one hx he hb
    simp [hs]
  · have h1 : (x.born == e.born) = false := beq_false_of_ne hb
    have h2 : (x.born != e.born) = true := by simp only [bne, h1]; rfl
    rw [h1, h2, Bool.or_false, Bool.true_and]
theorem flt_stays {es0 : List MapEntry} {clock : Nat} (h : En es0 clock) {s : Int} {seen : Array Nat} {e : MapEntry} (he : e ∈ es0) (hs : ¬ slV e.key ≤ s) : es0.filter (pkS s seen) = es0.filter (pkS s (seen.push e.born)) := by
  refine List.filter_congr fun x hx => ?_
  unfold pkS
  rw [contains_push]
  by_cases hb : x.born = e.born
  · obtain rfl := born_eq h.one hx he hb
    simp [hs]
  · have h1 : (x.born == e.born) = false := beq_false_of_ne hb
    rw [h1, Bool.or_false]
theorem flt_start {es0 : List MapEntry} (s : Int) : es0.filter (pkS s #[]) = es0 := by
  rw [List.filter_eq_self]
  intro a _
  simp [pkS]
theorem flt_end {es0 : List MapEntry} {s : Int} {seen : Array Nat} (h : ∀ x ∈ es0.filter (pkS s seen), seen.contains x.born = true) : es0.filter (pkS s seen) = es0.filter (fun e => decide (s < slV e.key)) := by
  refine List.filter_congr fun x hx => ?_
  by_cases hp : pkS s seen x = true
  · have hc := h x (List.mem_filter.2 ⟨hx, hp⟩)
    unfold pkS at hp ⊢
    rw [hc, Bool.true_and]
    by_cases hle : slV x.key ≤ s
    · rw [decide_eq_true hle, decide_eq_false (by omega)]; rfl
    · rw [decide_eq_false hle, decide_eq_true (by omega)]; rfl
  · have hp' : pkS s seen x = false := by simpa using hp
    rw [hp']
    unfold pkS at hp'
    have hle : slV x.key ≤ s := by
      by_cases hle : slV x.key ≤ s
      · exact hle
      · rw [decide_eq_false hle, Bool.and_false] at hp'; cases hp'
    rw [decide_eq_false (by omega)]
theorem erase_flt : ∀ {l : List MapEntry} {j : Nat} {e : MapEntry}, (l.map (fun e => e.born)).Nodup → l[j]? = some e → l.eraseIdx j = l.filter (fun x => x.born != e.born)
  | [], j, e, _, h => by simp at h
  | a :: r, 0, e, hn, h => by
    simp at h
    subst h
    obtain ⟨h1, h2⟩ := List.nodup_cons.1 hn
    simp
    symm
    rw [List.filter_eq_self]
    intro x hx
    simp
    exact fun e => h1 (List.mem_map.2 ⟨x, hx, e⟩)
  | a :: r, j + 1, e, hn, h => by
    obtain ⟨h1, h2⟩ := List.nodup_cons.1 hn
    have h : r[j]? = some e := by simpa using h
    have hne : a.born ≠ e.born := fun e1 => h1 (List.mem_map.2 ⟨e, List.mem_of_getElem? h, e1.symm⟩)
    simp [hne, erase_flt h2 h]
/-- 'delete(m, k)' in the round. -/
theorem IT.del {w : World} {m it : Nat} {T E : TypeId} (hT : Tryd.prog.underlying T = some (.map 3 E)) {es0 : List MapEntry} {clock : Nat} (hE : En es0 clock) {s : Int} {seen : Array Nat} {e : MapEntry} {q : Int} (hm : w.heap[m]? = some (.map (es0.filter (pkS s seen)).toArray clock)) (hit : w.heap[it]? = some (.mapIter (some m) clock (seen.push e.born) clock))
    (he : e ∈ es0.filter (pkS s seen)) (hk : e.key = ki q) (hs : q ≤ s) :
    ∃ w', (∀ ty, (Builtin.delete_ #[T, 3] ty #[.map (some m), ki q]).run Tryd.prog w = .ok (.tuple #[]) w') ∧ IT w' m it es0 clock s (seen.push e.born) ∧ w.grownBy w' (some m) := by
  have hne : it ≠ m := by
    rintro rfl
    rw [hit] at hm
    cases hm
  have he0 := (List.mem_filter.1 he).1
  have hE' := hE.sub (es := es0.filter (pkS s seen)) List.filter_sublist
  obtain ⟨j, hj⟩ := List.getElem?_of_mem he
  have hf := findK w q (es0.filter (pkS s seen)) _ hE'.keysL
  rw [fnd_of hE'.dup (j := j) (by rw [List.getElem?_map, hj, Option.map_some, hk, unK_kv])] at hf
  simp only [Option.bind_some, hj, Option.map_some] at hf
  have hjl := (List.getElem?_eq_some_iff.1 hj).1
  have hers2 : (es0.filter (pkS s seen)).eraseIdx j = es0.filter (pkS s (seen.push e.born)) := by rw [erase_flt hE'.one hj, flt_struck hE he0 (by rw [hk, slV_kv]; exact hs)]
  have hers : (es0.filter (pkS s seen)).toArray.eraseIdxIfInBounds j = (es0.filter (pkS s (seen.push e.born))).toArray := by
    unfold Array.eraseIdxIfInBounds
    rw [dif_pos (by simpa using hjl)]
    rw [List.eraseIdx_toArray, erase_flt hE'.one hj, flt_struck hE he0 (by rw [hk, slV_kv]; exact hs)]
  refine ⟨setBlock w m (.map (es0.filter (pkS s (seen.push e.born))).toArray clock), fun ty => ?_, ⟨heap_setBlock_same hm _, (heap_setBlock_other hm _ hne).trans hit⟩, grown_block hm _⟩
  simp [Builtin.delete_, run_underlying hT, MapKept.run_getObj_map hm, checkK, hf, MapKept.run_setObj_map _ hm, Result.andThen, setBlock, hers, hers2]
section
variable {ops : Array Oper} {rest : List Oper} {o : Oper} {a : Act} {Q : Exit → Act → World → Prop}
/-- The step. -/
theorem wl_nextI {w : World} (hg : o.guard = none) (i : Operand) (hop : o.op = Op.next i false) {m it : Nat} {es0 : List MapEntry} {clock : Nat} (hE : En es0 clock) {s : Int} {seen : Array Nat} (h : IT w m it es0 clock s seen) (hi : a.eval i = .pointer (some ⟨it, 0, none⟩))
    (hDone : (∀ x ∈ es0.filter (pkS s seen), seen.contains x.born = true) → wpList Tryd.prog ops Q rest (a.put o.dst (.tuple #[.bool false])) w)
    (hMore : ∀ (e : MapEntry) (q : Int) (v : Value) (w' : World), e ∈ es0.filter (pkS s seen) → Hid (e.key = ki q) → e ∈ (leftOf (es0.filter (pkS s seen)).toArray seen).toList → w'.heap[m]? = some (.map (es0.filter (pkS s seen)).toArray clock) → w'.heap[it]? = some (.mapIter (some m) clock (seen.push e.born) clock) →
      w.grownBy w' (some it) → (Instr.entry (.pointer (some ⟨it, 0, none⟩))).run Tryd.prog w' = .ok (.tuple #[ki q, v]) w' → wpList Tryd.prog ops Q rest (a.put o.dst (.tuple #[.bool true, ki q, v])) w') :
    wpList Tryd.prog ops Q (o :: rest) a w := by
  refine wpList_plain hg fun K' hK' => ?_
  unfold Oper.wp
  have hE' := hE.sub (es := es0.filter (pkS s seen)) List.filter_sublist
  rcases run_next_at (P := Tryd.prog) w o.type it m clock clock seen (es0.filter (pkS s seen)).toArray clock h.it h.map (fun x hx => hE'.old x (by simpa using hx)) (Nat.le_refl _) with ⟨h0, hrun⟩ | ⟨e, he, w1, hal, hrun⟩
  · simp [execOp, hop, hi, hrun, Result.andThen]
    exact hK' _ _ (hDone (fun x hx => all_seen _ _ h0 x (by simpa using hx)))
  · obtain ⟨hem, _⟩ := mem_left he
    have hem : e ∈ es0.filter (pkS s seen) := by simpa using hem
    have hk := hE'.keys e hem
    have hr1 : w1.heap[it]? = some (.mapIter (some m) clock seen clock) := by rcases hal with rfl | rfl <;> exact h.it
    have hb1 : w1.heap[m]? = some (.map (es0.filter (pkS s seen)).toArray clock) := by rcases hal with rfl | rfl <;> exact h.map
    have hset := MapKept.heap_set (o' := .mapIter (some m) clock (seen.push e.born) clock) hr1
    have hb' := (hset.2 m (fun e1 => h.ne e1.symm)).trans hb1
    have hen := run_entry_at (P := Tryd.prog) (setBlock w1 it (.mapIter (some m) clock (seen.push e.born) clock)) it m clock seen (es0.filter (pkS s seen)).toArray clock e hset.1 hb' (by simpa using hem) (by simpa using hE'.one)
    simp [execOp, hop, hi, hrun, Result.andThen]
    have hgr : w.grownBy (setBlock w1 it (.mapIter (some m) clock (seen.push e.born) clock)) (some it) := by
      rcases hal with rfl | rfl <;> exact ⟨rfl, rfl, rfl, by simp [setBlock], fun i _ hi => hset.2 i (fun e1 => hi (by rw [e1]))⟩
    rw [hk] at hen ⊢
    exact hK' _ _ (hMore e (unK e.key) e.val _ hem hk he hb' hset.1 hgr hen)
end
theorem filt_ent {es : List MapEntry} {l : List (Int × Value)} {p : MapEntry → Bool} {q : Int × Value → Bool} : es.map (fun e => (e.key, e.val)) = l.map (fun z => (ki z.1, z.2)) → (∀ e z, e.key = ki z.1 → p e = q z) → (es.filter p).map (fun e => (e.key, e.val)) = (l.filter q).map (fun z => (ki z.1, z.2)) := by
  induction es generalizing l with
  | nil =>
    intro h _
    cases l with
    | nil => rfl
    | cons z l => simp at h
  | cons e es ih =>
    intro h hp
    cases l with
    | nil => simp at h
    | cons z l =>
      simp only [List.map_cons, List.cons.injEq, Prod.mk.injEq] at h
      have hr := ih h.2 hp
      have e1 := hp e z h.1.1
      by_cases hq : q z = true
      · rw [List.filter_cons_of_pos (by rw [e1]; exact hq), List.filter_cons_of_pos hq]
        simp only [List.map_cons, hr, h.1.1, h.1.2]
      · rw [List.filter_cons_of_neg (by rw [e1]; exact hq), List.filter_cons_of_neg hq]
        exact hr
/-- The entries of a map, as the loop finds them. -/
theorem Mp.ens {w : World} {b : Nat} {l : List (Int × Value)} (h : Mp w b l) (hd : (l.map (·.1)).Nodup) : ∃ (es0 : List MapEntry) (clock : Nat), w.heap[b]? = some (.map es0.toArray clock) ∧ En es0 clock ∧ es0.map (fun e => (e.key, e.val)) = l.map (fun z => (ki z.1, z.2)) := by
  obtain ⟨es, clock, hb, hl, h1, h2⟩ := h
  refine ⟨es.toList, clock, by simpa using hb, ⟨?_, ?_, h1, h2⟩, hl⟩
  · intro e he
    have := ent_keys hl
    have hm : e.key ∈ es.toList.map (·.key) := List.mem_map.2 ⟨e, he, rfl⟩
    rw [this] at hm
    obtain ⟨q, _, hq⟩ := List.mem_map.1 hm
    rw [← hq, unK_kv]
  · have := congrArg (List.map unK) (ent_keys hl)
    rw [List.map_map, List.map_map] at this
    have e2 : (unK ∘ ki) = id := by funext q; rfl
    rw [e2, List.map_id] at this
    have e3 : (unK ∘ fun x : MapEntry => x.key) = fun e => unK e.key := rfl
    rw [e3] at this
    rw [this]
    exact hd
/-- The loop over the map at block m under way, its iterator at block it; done came already; nothing is struck. -/
structure IR (w : World) (m it : Nat) (es0 : List MapEntry) (clock : Nat) (dn : List MapEntry) : Prop where
  map : w.heap[m]? = some (.map es0.toArray clock)
  it : w.heap[it]? = some (.mapIter (some m) clock (dn.map (·.born)).toArray clock)
  sub : ∀ e ∈ dn, e ∈ es0
  dup : (dn.map (·.born)).Nodup
theorem IR.ne {w : World} {m it : Nat} {es0 dn : List MapEntry} {clock : Nat} (h : IR w m it es0 clock dn) : it ≠ m := by
  rintro rfl
  have h1 := h.map
  rw [h.it] at h1
  cases h1
theorem IR.lt {w : World} {m it : Nat} {es0 dn : List MapEntry} {clock : Nat} (h : IR w m it es0 clock dn) : m < w.heap.size ∧ it < w.heap.size := ⟨(Array.getElem?_eq_some_iff.1 h.map).1, (Array.getElem?_eq_some_iff.1 h.it).1⟩
theorem IR.kept {w w' : World} {m it : Nat} {es0 dn : List MapEntry} {clock : Nat} (h : IR w m it es0 clock dn) (h1 : w'.heap[m]? = w.heap[m]?) (h2 : w'.heap[it]? = w.heap[it]?) : IR w' m it es0 clock dn := ⟨h1.trans h.map, h2.trans h.it, h.sub, h.dup⟩
theorem IR.below {w w' : World} {m it : Nat} {es0 dn : List MapEntry} {clock : Nat} (h : IR w m it es0 clock dn) (hb : Below w.heap.size w w') : IR w' m it es0 clock dn := h.kept (hb.block m h.lt.1) (hb.block it h.lt.2)
theorem IR.grown {w w' : World} {m it : Nat} {es0 dn : List MapEntry} {clock : Nat} {r : Option Nat} (h : IR w m it es0 clock dn) (hg : w.grownBy w' r) (h1 : r ≠ some m) (h2 : r ≠ some it) : IR w' m it es0 clock dn := h.kept (hg.block m h.lt.1 (fun e => h1 e.symm)) (hg.block it h.lt.2 (fun e => h2 e.symm))
theorem IR.left {w : World} {m it : Nat} {es0 dn : List MapEntry} {clock : Nat} (h : IR w m it es0 clock dn) : w.rangeLeft m it = (leftOf es0.toArray (dn.map (·.born)).toArray).size := by
  simp only [World.rangeLeft, h.map, h.it]
theorem IR.less {w w' : World} {m it : Nat} {es0 dn : List MapEntry} {clock : Nat} {e : MapEntry} (h : IR w m it es0 clock dn) (h' : IR w' m it es0 clock (dn ++ [e])) (he : e ∈ es0) (hn : e ∉ dn) : w'.rangeLeft m it < w.rangeLeft m it := by
  rw [h.left, h'.left, List.map_append]
  have hc : e ∈ (leftOf es0.toArray (dn.map (·.born)).toArray).toList := by
    unfold leftOf
    simp
    refine ⟨he, fun x hx hb => ?_⟩
    exact hn (by
      have := h'.dup
      rw [List.map_append, List.nodup_append] at this
      exact absurd (this.2.2 x.born (List.mem_map.2 ⟨x, hx, rfl⟩) e.born (by simp)) (by simp [hb]))
  have := left_shrinks es0.toArray (dn.map (·.born)).toArray e hc
  simpa [List.push_toArray] using this
theorem IR.all {w : World} {m it : Nat} {es0 dn : List MapEntry} {clock : Nat} (hE : En es0 clock) (h : IR w m it es0 clock dn) (h0 : ∀ x ∈ es0, (dn.map (·.born)).toArray.contains x.born = true) : dn.Perm es0 := by
  have hnd : dn.Nodup := List.Pairwise.imp (fun hab e => hab (by rw [e])) (List.pairwise_map.1 h.dup)
  have hne : es0.Nodup := List.Pairwise.imp (fun hab e => hab (by rw [e])) (List.pairwise_map.1 hE.one)
  refine (List.perm_ext_iff_of_nodup hnd hne).2 fun a => ⟨h.sub a, fun ha => ?_⟩
  have := h0 a ha
  simp at this
  obtain ⟨x, hx, hb⟩ := this
  exact (born_eq hE.one (h.sub x hx) ha hb) ▸ hx
theorem IR.start {w : World} {m : Nat} {es0 : List MapEntry} {clock : Nat} (hb : w.heap[m]? = some (.map es0.toArray clock)) : IR (w.alloc (.mapIter (some m) clock #[] clock)) m w.heap.size es0 clock [] :=
  ⟨((below_alloc w _).block m (Array.getElem?_eq_some_iff.1 hb).1).trans hb, heap_alloc_new w _, (fun e he => by cases he), List.nodup_nil⟩
section
variable {ops : Array Oper} {rest : List Oper} {o : Oper} {a : Act} {Q : Exit → Act → World → Prop}
/-- The step. -/
theorem wl_nextR {w : World} (hg : o.guard = none) (i : Operand) (hop : o.op = Op.next i false) {m it : Nat} {es0 dn : List MapEntry} {clock : Nat} (hE : En es0 clock) (h : IR w m it es0 clock dn) (hi : a.eval i = .pointer (some ⟨it, 0, none⟩))
    (hDone : dn.Perm es0 → wpList Tryd.prog ops Q rest (a.put o.dst (.tuple #[.bool false])) w)
    (hMore : ∀ (e : MapEntry) (q : Int) (v : Value) (w' : World), e ∈ es0 → e ∉ dn → Hid (e.key = ki q) → Hid (e.val = v) → IR w' m it es0 clock (dn ++ [e]) →
      w.grownBy w' (some it) → (Instr.entry (.pointer (some ⟨it, 0, none⟩))).run Tryd.prog w' = .ok (.tuple #[ki q, v]) w' → wpList Tryd.prog ops Q rest (a.put o.dst (.tuple #[.bool true, ki q, v])) w') :
    wpList Tryd.prog ops Q (o :: rest) a w := by
  refine wpList_plain hg fun K' hK' => ?_
  unfold Oper.wp
  obtain ⟨seen, hseen⟩ : ∃ seen : Array Nat, seen = (dn.map (fun x => x.born)).toArray := ⟨_, rfl⟩
  have hit := h.it
  have hall := h.all hE
  rw [← hseen] at hit hall
  rcases run_next_at (P := Tryd.prog) w o.type it m clock clock seen es0.toArray clock hit h.map (fun x hx => hE.old x (by simpa using hx)) (Nat.le_refl _) with ⟨h0, hrun⟩ | ⟨e, he, w1, hal, hrun⟩
  · simp [execOp, hop, hi, hrun, Result.andThen]
    exact hK' _ _ (hDone (hall (fun x hx => all_seen _ _ h0 x (by simpa using hx))))
  · obtain ⟨hem, hns⟩ := mem_left he
    have hem : e ∈ es0 := by simpa using hem
    have hk := hE.keys e hem
    have hr1 : w1.heap[it]? = some (.mapIter (some m) clock seen clock) := by rcases hal with rfl | rfl <;> exact hit
    have hb1 : w1.heap[m]? = some (.map es0.toArray clock) := by rcases hal with rfl | rfl <;> exact h.map
    have hset := MapKept.heap_set (o' := .mapIter (some m) clock (seen.push e.born) clock) hr1
    have hb' := (hset.2 m (fun e1 => h.ne e1.symm)).trans hb1
    have hen := run_entry_at (P := Tryd.prog) (setBlock w1 it (.mapIter (some m) clock (seen.push e.born) clock)) it m clock seen es0.toArray clock e hset.1 hb' (by simpa using hem) (by simpa using hE.one)
    simp [execOp, hop, hi, hrun, Result.andThen]
    have hgr : w.grownBy (setBlock w1 it (.mapIter (some m) clock (seen.push e.born) clock)) (some it) := by
      rcases hal with rfl | rfl <;> exact ⟨rfl, rfl, rfl, by simp [setBlock], fun i _ hi => hset.2 i (fun e1 => hi (by rw [e1]))⟩
    have hnd : e ∉ dn := fun hd => by
      have : seen.contains e.born = true := by rw [hseen]; simp; exact ⟨e, hd, rfl⟩
      rw [this] at hns
      cases hns
    have hpush : seen.push e.born = ((dn ++ [e]).map (fun x => x.born)).toArray := by rw [hseen]; simp
    have hIR : IR (setBlock w1 it (.mapIter (some m) clock (seen.push e.born) clock)) m it es0 clock (dn ++ [e]) := by
      refine ⟨hb', (hset.1).trans (by rw [hpush]), fun x hx => ?_, ?_⟩
      · rcases List.mem_append.1 hx with hx | hx
        · exact h.sub x hx
        · simp at hx
          exact hx ▸ hem
      · rw [List.map_append, List.nodup_append]
        refine ⟨h.dup, by simp, fun x hx y hy => ?_⟩
        simp at hy
        subst hy
        obtain ⟨z, hz, rfl⟩ := List.mem_map.1 hx
        exact fun hb => hnd ((born_eq hE.one (h.sub z hz) hem hb) ▸ hz)
    rw [hk] at hen ⊢
    exact hK' _ _ (hMore e (unK e.key) e.val _ hem hnd hk rfl hIR hgr hen)
/-- The step over no map. -/
theorem wl_nextN {w : World} (hg : o.guard = none) (i : Operand) (hop : o.op = Op.next i false) {it : Nat} {p q : Nat} {s : Array Nat} (h : w.heap[it]? = some (.mapIter none p s q)) (hi : a.eval i = .pointer (some ⟨it, 0, none⟩))
    (hDone : wpList Tryd.prog ops Q rest (a.put o.dst (.tuple #[.bool false])) w) :
    wpList Tryd.prog ops Q (o :: rest) a w := by
  refine wpList_plain hg fun K' hK' => ?_
  unfold Oper.wp
  have hrun : (Instr.next (.pointer (some ⟨it, 0, none⟩)) false o.type).run Tryd.prog w = .ok (.tuple #[.bool false]) w := by
    simp only [Instr.next, getObj, Sem.run_bind, Sem.run, h, Result.andThen]
    rfl
  simp [execOp, hop, hi, hrun, Result.andThen]
  exact hK' _ _ hDone
end
end MI
end Go.Proofs.YtgpkngiakhdmhaaDoor
