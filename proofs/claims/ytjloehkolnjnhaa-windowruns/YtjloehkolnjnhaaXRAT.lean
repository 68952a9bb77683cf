/- Windows in memory: a map is gone through in whatever order, and entries of it are struck. Written by mk18.py out of Lgc, Lgd. -/
import Derived.Test.YtjloehkolnjnhaaXRAP
import Derived.Maps.RangeWalk
import Derived.Laws.IdiomRangeMap
set_option linter.unusedSimpArgs false
set_option linter.unusedVariables false
namespace Go.Proofs.Ytjloehkolnjnhaa
open Go.RowKit Oct
open Go.ChangeMaps (setBlock heap_setBlock_same heap_setBlock_other)
/-- A number out of a key. -/
def unK : Value → Int
  | .int _ n => n
  | _ => 0
theorem unK_kv (q : Int) : unK (kv q) = q := rfl
/-- A key's slot. -/
def slV (v : Value) : Int := unK v
theorem slV_kv (q : Int) : slV (kv q) = q := rfl
/-- What stays while the entries that were seen are struck. -/
def pkS (s : Int) (seen : Array Nat) (e : MapEntry) : Bool := !(seen.contains e.born && decide (slV e.key ≤ s))
/-- The entries when the loop began. -/
structure En (es0 : List MapEntry) (clock : Nat) : Prop where
  keys : ∀ e ∈ es0, e.key = kv (unK e.key)
  dup : (es0.map (fun e => unK e.key)).Nodup
  old : ∀ e ∈ es0, e.born < clock
  one : (es0.map (fun e => e.born)).Nodup
theorem En.sub {es0 es : List MapEntry} {clock : Nat} (h : En es0 clock) (hs : es.Sublist es0) : En es clock :=
  ⟨fun e he => h.keys e (hs.subset he), (hs.map _).nodup h.dup, fun e he => h.old e (hs.subset he), (hs.map _).nodup h.one⟩
theorem En.keysL {es0 : List MapEntry} {clock : Nat} (h : En es0 clock) : es0.map (·.key) = (es0.map (fun e => unK e.key)).map kv := by
  rw [List.map_map]
  exact List.map_congr_left fun e he => h.keys e he
theorem born_eq : ∀ {l : List MapEntry}, (l.map (fun e => e.born)).Nodup → ∀ {x y : MapEntry}, x ∈ l → y ∈ l → x.born = y.born → x = y
  | [], _, x, y, hx, _, _ => by simp at hx
  | a :: r, hn, x, y, hx, hy, h => by
    obtain ⟨h1, h2⟩ := List.nodup_cons.1 hn
    rcases List.mem_cons.1 hx with ex | hx
    · rcases List.mem_cons.1 hy with ey | hy
      · rw [ex, ey]
      · exact absurd (List.mem_map.2 ⟨y, hy, by rw [← h, ex]⟩) h1
    · rcases List.mem_cons.1 hy with ey | hy
      · exact absurd (List.mem_map.2 ⟨x, hx, by rw [h, ey]⟩) h1
      · exact born_eq h2 hx hy h
/-- The loop over the map at block m under way, its iterator at block it. -/
structure IT (w : World) (m it : Nat) (es0 : List MapEntry) (clock : Nat) (s : Int) (seen : Array Nat) : Prop where
  map : w.heap[m]? = some (.map (es0.filter (pkS s seen)).toArray clock)
  it : w.heap[it]? = some (.mapIter (some m) clock seen clock)
theorem IT.ne {w : World} {m it : Nat} {es0 : List MapEntry} {clock : Nat} {s : Int} {seen : Array Nat} (h : IT w m it es0 clock s seen) : it ≠ m := by
  rintro rfl
  have h1 := h.map
  rw [h.it] at h1
  cases h1
theorem IT.below {w w' : World} {m it : Nat} {es0 : List MapEntry} {clock : Nat} {s : Int} {seen : Array Nat} (h : IT w m it es0 clock s seen) (hb : Below w.heap.size w w') : IT w' m it es0 clock s seen :=
  ⟨(hb.block m (Array.getElem?_eq_some_iff.1 h.map).1).trans h.map, (hb.block it (Array.getElem?_eq_some_iff.1 h.it).1).trans h.it⟩
theorem IT.left {w : World} {m it : Nat} {es0 : List MapEntry} {clock : Nat} {s : Int} {seen : Array Nat} (h : IT w m it es0 clock s seen) : w.rangeLeft m it = (leftOf (es0.filter (pkS s seen)).toArray seen).size := by
  simp only [World.rangeLeft, h.map, h.it]
theorem left_le {es es' : List MapEntry} (seen : Array Nat) (h : es'.Sublist es) : (leftOf es'.toArray seen).size ≤ (leftOf es.toArray seen).size := by
  have e1 : ∀ a : List MapEntry, (leftOf a.toArray seen).size = (a.filter fun e => !seen.contains e.born).length := fun a => by
    unfold leftOf
    rw [List.filter_toArray]
    simp
  rw [e1, e1]
  exact (h.filter _).length_le
/-- Struck, or not. -/
theorem flt_struck {es0 : List MapEntry} {clock : Nat} (h : En es0 clock) {s : Int} {seen : Array Nat} {e : MapEntry} (he : e ∈ es0) (hs : slV e.key ≤ s) : (es0.filter (pkS s seen)).filter (fun x => x.born != e.born) = es0.filter (pkS s (seen.push e.born)) := by
  rw [List.filter_filter]
  refine List.filter_congr fun x hx => ?_
  unfold pkS
  rw [contains_push]
  by_cases hb : x.born = e.born
  · obtain rfl := born_eq h.one hx he hb
    simp [hs]
  · have h1 : (x.born == e.born) = false := beq_false_of_ne hb
    have h2 : (x.born != e.born) = true := by simp only [bne, h1]; rfl
    rw [h1, h2, Bool.or_false, Bool.true_and]
theorem flt_stays {es0 : List MapEntry} {clock : Nat} (h : En es0 clock) {s : Int} {seen : Array Nat} {e : MapEntry} (he : e ∈ es0) (hs : ¬ slV e.key ≤ s) : es0.filter (pkS s seen) = es0.filter (pkS s (seen.push e.born)) := by
  refine List.filter_congr fun x hx => ?_
  unfold pkS
  rw [contains_push]
  by_cases hb : x.born = e.born
  · obtain rfl := born_eq h.one hx he hb
    simp [hs]
  · have h1 : (x.born == e.born) = false := beq_false_of_ne hb
    rw [h1, Bool.or_false]
theorem flt_start {es0 : List MapEntry} (s : Int) : es0.filter (pkS s #[]) = es0 := by
  rw [List.filter_eq_self]
  intro a _
  simp [pkS]
theorem flt_end {es0 : List MapEntry} {s : Int} {seen : Array Nat} (h : ∀ x ∈ es0.filter (pkS s seen), seen.contains x.born = true) : es0.filter (pkS s seen) = es0.filter (fun e => decide (s < slV e.key)) := by
  refine List.filter_congr fun x hx => ?_
  by_cases hp : pkS s seen x = true
  · have hc := h x (List.mem_filter.2 ⟨hx, hp⟩)
    unfold pkS at hp ⊢
    rw [hc, Bool.true_and]
    by_cases hle : slV x.key ≤ s
    · rw [decide_eq_true hle, decide_eq_false (by omega)]; rfl
    · rw [decide_eq_false hle, decide_eq_true (by omega)]; rfl
  · have hp' : pkS s seen x = false := by simpa using hp
    rw [hp']
    unfold pkS at hp'
    have hle : slV x.key ≤ s := by
      by_cases hle : slV x.key ≤ s
      · exact hle
      · rw [decide_eq_false hle, Bool.and_false] at hp'; cases hp'
    rw [decide_eq_false (by omega)]
theorem erase_flt : ∀ {l : List MapEntry} {j : Nat} {e : MapEntry}, (l.map (fun e => e.born)).Nodup → l[j]? = some e → l.eraseIdx j = l.filter (fun x => x.born != e.born)
  | [], j, e, _, h => by simp at h
  | a :: r, 0, e, hn, h => by
    simp at h
    subst h
    obtain ⟨h1, h2⟩ := List.nodup_cons.1 hn
    simp
    symm
    rw [List.filter_eq_self]
    intro x hx
    simp
    exact fun e => h1 (List.mem_map.2 ⟨x, hx, e⟩)
  | a :: r, j + 1, e, hn, h => by
    obtain ⟨h1, h2⟩ := List.nodup_cons.1 hn
    have h : r[j]? = some e := by simpa using h
    have hne : a.born ≠ e.born := fun e1 => h1 (List.mem_map.2 ⟨e, List.mem_of_getElem? h, e1.symm⟩)
    simp [hne, erase_flt h2 h]
/-- 'delete(m, k)' in the round. -/
theorem IT.del {w : World} {m it : Nat} {es0 : List MapEntry} {clock : Nat} (hE : En es0 clock) {s : Int} {seen : Array Nat} {e : MapEntry} {q : Int} (hm : w.heap[m]? = some (.map (es0.filter (pkS s seen)).toArray clock)) (hit : w.heap[it]? = some (.mapIter (some m) clock (seen.push e.born) clock))
    (he : e ∈ es0.filter (pkS s seen)) (hk : e.key = kv q) (hs : q ≤ s) :
    ∃ w', (∀ ty, (Builtin.delete_ #[67, 3] ty #[.map (some m), kv q]).run Try.prog w = .ok (.tuple #[]) w') ∧ IT w' m it es0 clock s (seen.push e.born) ∧ w.grownBy w' (some m) := by
  have hne : it ≠ m := by
    rintro rfl
    rw [hit] at hm
    cases hm
  have he0 := (List.mem_filter.1 he).1
  have hE' := hE.sub (es := es0.filter (pkS s seen)) List.filter_sublist
  obtain ⟨j, hj⟩ := List.getElem?_of_mem he
  have hf := findK w q (es0.filter (pkS s seen)) _ hE'.keysL
  rw [fnd_of hE'.dup (j := j) (by rw [List.getElem?_map, hj, Option.map_some, hk, unK_kv])] at hf
  simp only [Option.bind_some, hj, Option.map_some] at hf
  have hjl := (List.getElem?_eq_some_iff.1 hj).1
  have hers2 : (es0.filter (pkS s seen)).eraseIdx j = es0.filter (pkS s (seen.push e.born)) := by rw [erase_flt hE'.one hj, flt_struck hE he0 (by rw [hk, slV_kv]; exact hs)]
  have hers : (es0.filter (pkS s seen)).toArray.eraseIdxIfInBounds j = (es0.filter (pkS s (seen.push e.born))).toArray := by
    unfold Array.eraseIdxIfInBounds
    rw [dif_pos (by simpa using hjl)]
    rw [List.eraseIdx_toArray, erase_flt hE'.one hj, flt_struck hE he0 (by rw [hk, slV_kv]; exact hs)]
  refine ⟨setBlock w m (.map (es0.filter (pkS s (seen.push e.born))).toArray clock), fun ty => ?_, ⟨heap_setBlock_same hm _, (heap_setBlock_other hm _ hne).trans hit⟩, grown_block hm _⟩
  simp [Builtin.delete_, run_underlying Try.underlying67, MapKept.run_getObj_map hm, checkK, hf, MapKept.run_setObj_map _ hm, Result.andThen, setBlock, hers, hers2]
section
variable {ops : Array Oper} {rest : List Oper} {o : Oper} {a : Act} {Q : Exit → Act → World → Prop}
/-- The step. -/
theorem wl_nextI {w : World} (hg : o.guard = none) (i : Operand) (hop : o.op = Op.next i false) {m it : Nat} {es0 : List MapEntry} {clock : Nat} (hE : En es0 clock) {s : Int} {seen : Array Nat} (h : IT w m it es0 clock s seen) (hi : a.eval i = .pointer (some ⟨it, 0, none⟩))
    (hDone : (∀ x ∈ es0.filter (pkS s seen), seen.contains x.born = true) → wpList Try.prog ops Q rest (a.put o.dst (.tuple #[.bool false])) w)
    (hMore : ∀ (e : MapEntry) (q : Int) (v : Value) (w' : World), e ∈ es0.filter (pkS s seen) → Hid (e.key = kv q) → e ∈ (leftOf (es0.filter (pkS s seen)).toArray seen).toList → w'.heap[m]? = some (.map (es0.filter (pkS s seen)).toArray clock) → w'.heap[it]? = some (.mapIter (some m) clock (seen.push e.born) clock) →
      w.grownBy w' (some it) → (Instr.entry (.pointer (some ⟨it, 0, none⟩))).run Try.prog w' = .ok (.tuple #[kv q, v]) w' → wpList Try.prog ops Q rest (a.put o.dst (.tuple #[.bool true, kv q, v])) w') :
    wpList Try.prog ops Q (o :: rest) a w := by
  refine wpList_plain hg fun K' hK' => ?_
  unfold Oper.wp
  have hE' := hE.sub (es := es0.filter (pkS s seen)) List.filter_sublist
  rcases run_next_at (P := Try.prog) w o.type it m clock clock seen (es0.filter (pkS s seen)).toArray clock h.it h.map (fun x hx => hE'.old x (by simpa using hx)) (Nat.le_refl _) with ⟨h0, hrun⟩ | ⟨e, he, w1, hal, hrun⟩
  · simp [execOp, hop, hi, hrun, Result.andThen]
    exact hK' _ _ (hDone (fun x hx => all_seen _ _ h0 x (by simpa using hx)))
  · obtain ⟨hem, _⟩ := mem_left he
    have hem : e ∈ es0.filter (pkS s seen) := by simpa using hem
    have hk := hE'.keys e hem
    have hr1 : w1.heap[it]? = some (.mapIter (some m) clock seen clock) := by rcases hal with rfl | rfl <;> exact h.it
    have hb1 : w1.heap[m]? = some (.map (es0.filter (pkS s seen)).toArray clock) := by rcases hal with rfl | rfl <;> exact h.map
    have hset := MapKept.heap_set (o' := .mapIter (some m) clock (seen.push e.born) clock) hr1
    have hb' := (hset.2 m (fun e1 => h.ne e1.symm)).trans hb1
    have hen := run_entry_at (P := Try.prog) (setBlock w1 it (.mapIter (some m) clock (seen.push e.born) clock)) it m clock seen (es0.filter (pkS s seen)).toArray clock e hset.1 hb' (by simpa using hem) (by simpa using hE'.one)
    simp [execOp, hop, hi, hrun, Result.andThen]
    have hgr : w.grownBy (setBlock w1 it (.mapIter (some m) clock (seen.push e.born) clock)) (some it) := by
      rcases hal with rfl | rfl <;> exact ⟨rfl, rfl, rfl, by simp [setBlock], fun i _ hi => hset.2 i (fun e1 => hi (by rw [e1]))⟩
    rw [hk] at hen ⊢
    exact hK' _ _ (hMore e (unK e.key) e.val _ hem hk he hb' hset.1 hgr hen)
end
theorem All2.filt {α β : Type} {R : α → β → Prop} {p : α → Bool} {q : β → Bool} : ∀ {as_ : List α} {bs : List β}, All2 R as_ bs → (∀ a b, R a b → p a = q b) → All2 R (as_.filter p) (bs.filter q)
  | [], [], _, _ => trivial
  | a :: as_, b :: bs, h, hp => by
    have hr := All2.filt h.2 hp
    have e := hp a b h.1
    by_cases hq : q b = true
    · rw [List.filter_cons_of_pos (by rw [e]; exact hq), List.filter_cons_of_pos hq]
      exact ⟨h.1, hr⟩
    · rw [List.filter_cons_of_neg (by rw [e]; exact hq), List.filter_cons_of_neg hq]
      exact hr
  | [], _ :: _, h, _ => h.elim
  | _ :: _, [], h, _ => h.elim
theorem filt_ent {es : List MapEntry} {l : List (Int × Value)} {p : MapEntry → Bool} {q : Int × Value → Bool} : es.map (fun e => (e.key, e.val)) = l.map (fun z => (kv z.1, z.2)) → (∀ e z, e.key = kv z.1 → p e = q z) → (es.filter p).map (fun e => (e.key, e.val)) = (l.filter q).map (fun z => (kv z.1, z.2)) := by
  induction es generalizing l with
  | nil =>
    intro h _
    cases l with
    | nil => rfl
    | cons z l => simp at h
  | cons e es ih =>
    intro h hp
    cases l with
    | nil => simp at h
    | cons z l =>
      simp only [List.map_cons, List.cons.injEq, Prod.mk.injEq] at h
      have hr := ih h.2 hp
      have e1 := hp e z h.1.1
      by_cases hq : q z = true
      · rw [List.filter_cons_of_pos (by rw [e1]; exact hq), List.filter_cons_of_pos hq]
        simp only [List.map_cons, hr, h.1.1, h.1.2]
      · rw [List.filter_cons_of_neg (by rw [e1]; exact hq), List.filter_cons_of_neg hq]
        exact hr
/-- The entries of a window's map, as the loop finds them. -/
theorem Mp.ens {w : World} {b : Nat} {l : List (Int × Value)} (h : Mp w b l) (hd : (l.map (·.1)).Nodup) : ∃ (es0 : List MapEntry) (clock : Nat), w.heap[b]? = some (.map es0.toArray clock) ∧ En es0 clock ∧ es0.map (fun e => (e.key, e.val)) = l.map (fun z => (kv z.1, z.2)) := by
  obtain ⟨es, clock, hb, hl, h1, h2⟩ := h
  refine ⟨es.toList, clock, by simpa using hb, ⟨?_, ?_, h1, h2⟩, hl⟩
  · intro e he
    have := ent_keys hl
    have hm : e.key ∈ es.toList.map (·.key) := List.mem_map.2 ⟨e, he, rfl⟩
    rw [this] at hm
    obtain ⟨q, _, hq⟩ := List.mem_map.1 hm
    rw [← hq, unK_kv]
  · have := congrArg (List.map unK) (ent_keys hl)
    rw [List.map_map, List.map_map] at this
    have e2 : (unK ∘ kv) = id := by funext q; rfl
    rw [e2, List.map_id] at this
    have e3 : (unK ∘ fun x : MapEntry => x.key) = fun e => unK e.key := rfl
    rw [e3] at this
    rw [this]
    exact hd
end Go.Proofs.Ytjloehkolnjnhaa
