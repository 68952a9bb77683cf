/- What the ledger's laws share. -/
import Derived.Test.YtajmgpgjkalfkaaDoorJE
import Derived.Maps.RangeWalk
import Derived.Laws.IdiomRangeMap
import Derived.Deep.Cut
import Derived.Test.YtajmgpgjkalfkaaDoorJH
section
set_option linter.unusedVariables false
set_option linter.unusedSimpArgs false
namespace Go.Proofs.YtajmgpgjkalfkaaDoor
open Go.RowKit Oct Kvl
open Go.ChangeMaps (setBlock heap_setBlock_same heap_setBlock_other)

/-- A place out of a key. -/
def unI : Value → Int
  | .int _ n => n
  | _ => 0
def unK : Value → PK
  | .agg cs => (unI (cs.getD 0 (.bool false)), unI (cs.getD 1 (.bool false)), unI (cs.getD 2 (.bool false)), unI (cs.getD 3 (.bool false)), unI (cs.getD 4 (.bool false)))
  | _ => (0, 0, 0, 0, 0)
theorem unK_kv (q : PK) : unK (kv q) = q := rfl
/-- A key's slot. -/
def slV (v : Value) : Int := (unK v).2.2.2.1
theorem slV_kv (q : PK) : slV (kv q) = q.2.2.2.1 := rfl
/-- What stays while the entries that were seen are struck. -/
def pkS (s : Int) (seen : Array Nat) (e : MapEntry) : Bool := !(seen.contains e.born && decide (slV e.key ≤ s))
/-- The entries when the loop began. -/
structure En (es0 : List MapEntry) (clock : Nat) : Prop where
  keys : ∀ e ∈ es0, e.key = kv (unK e.key)
  dup : (es0.map (fun e => unK e.key)).Nodup
  old : ∀ e ∈ es0, e.born < clock
  one : (es0.map (fun e => e.born)).Nodup
theorem En.sub {es0 es : List MapEntry} {clock : Nat} (h : En es0 clock) (hs : es.Sublist es0) : En es clock :=
  ⟨fun e he => h.keys e (hs.subset he), (hs.map _).nodup h.dup, fun e he => h.old e (hs.subset he), (hs.map _).nodup h.one⟩
theorem En.keysL {es0 : List MapEntry} {clock : Nat} (h : En es0 clock) : es0.map (·.key) = (es0.map (fun e => unK e.key)).map kv := by
  rw [List.map_map]
  exact List.map_congr_left fun e he => h.keys e he
theorem born_eq : ∀ {l : List MapEntry}, (l.map (fun e => e.born)).Nodup → ∀ {x y : MapEntry}, x ∈ l → y ∈ l → x.born = y.born → x = y
  | [], _, x, y, hx, _, _ => by simp at hx
  | a :: r, hn, x, y, hx, hy, h => by
    obtain ⟨h1, h2⟩ := List.nodup_cons.1 hn
    rcases List.mem_cons.1 hx with ex | hx
    · rcases List.mem_cons.1 hy with ey | hy
      · rw [ex, ey]
      · exact absurd (List.mem_map.2 ⟨y, hy, by rw [← h, ex]⟩) h1
    · rcases List.mem_cons.1 hy with ey | hy
      · exact absurd (List.mem_map.2 ⟨x, hx, by rw [h, ey]⟩) h1
      · exact born_eq h2 hx hy h
/-- The loop over the map at block m under way, its iterator at block it. -/
structure IT (w : World) (m it : Nat) (es0 : List MapEntry) (clock : Nat) (s : Int) (seen : Array Nat) : Prop where
  map : w.heap[m]? = some (.map (es0.filter (pkS s seen)).toArray clock)
  it : w.heap[it]? = some (.mapIter (some m) clock seen clock)
theorem IT.ne {w : World} {m it : Nat} {es0 : List MapEntry} {clock : Nat} {s : Int} {seen : Array Nat} (h : IT w m it es0 clock s seen) : it ≠ m := by
  rintro rfl
  have h1 := h.map
  rw [h.it] at h1
  cases h1
theorem IT.below {w w' : World} {m it : Nat} {es0 : List MapEntry} {clock : Nat} {s : Int} {seen : Array Nat} (h : IT w m it es0 clock s seen) (hb : Below w.heap.size w w') : IT w' m it es0 clock s seen :=
  ⟨(hb.block m (Array.getElem?_eq_some_iff.1 h.map).1).trans h.map, (hb.block it (Array.getElem?_eq_some_iff.1 h.it).1).trans h.it⟩
theorem IT.left {w : World} {m it : Nat} {es0 : List MapEntry} {clock : Nat} {s : Int} {seen : Array Nat} (h : IT w m it es0 clock s seen) : w.rangeLeft m it = (leftOf (es0.filter (pkS s seen)).toArray seen).size := by
  simp only [World.rangeLeft, h.map, h.it]
theorem left_le {es es' : List MapEntry} (seen : Array Nat) (h : es'.Sublist es) : (leftOf es'.toArray seen).size ≤ (leftOf es.toArray seen).size := by
  have e1 : ∀ a : List MapEntry, (leftOf a.toArray seen).size = (a.filter fun e => !seen.contains e.born).length := fun a => by
    unfold leftOf
    rw [List.filter_toArray]
    simp
  rw [e1, e1]
  exact (h.filter _).length_le
/-- Struck, or not. -/
theorem flt_struck {es0 : List MapEntry} {clock : Nat} (h : En es0 clock) {s : Int} {seen : Array Nat} {e : MapEntry} (he : e ∈ es0) (hs : slV e.key ≤ s) : (es0.filter (pkS s seen)).filter (fun x => x.born != e.born) = es0.filter (pkS s (seen.push e.born)) := by
  rw [List.filter_filter]
  refine List.filter_congr fun x hx => ?_
  unfold pkS
  rw [contains_push]
  by_cases hb : x.born = e.born
  · obtain rfl := born_eq h.one hx he hb
    simp [hs]
  · have h1 : (x.born == e.born) = false := beq_false_of_ne hb
    have h2 : (x.born != e.born) = true := by simp only [bne, h1]; rfl
    rw [h1, h2, Bool.or_false, Bool.true_and]
theorem flt_stays {es0 : List MapEntry} {clock : Nat} (h : En es0 clock) {s : Int} {seen : Array Nat} {e : MapEntry} (he : e ∈ es0) (hs : ¬ slV e.key ≤ s) : es0.filter (pkS s seen) = es0.filter (pkS s (seen.push e.born)) := by
  refine List.filter_congr fun x hx => ?_
  unfold pkS
  rw [contains_push]
  by_cases hb : x.born = e.born
  · obtain rfl := born_eq h.one hx he hb
    simp [hs]
  · have h1 : (x.born == e.born) = false := beq_false_of_ne hb
    rw [h1, Bool.or_false]
theorem flt_start {es0 : List MapEntry} (s : Int) : es0.filter (pkS s #[]) = es0 := by
  rw [List.filter_eq_self]
  intro a _
  simp [pkS]
theorem flt_end {es0 : List MapEntry} {s : Int} {seen : Array Nat} (h : ∀ x ∈ es0.filter (pkS s seen), seen.contains x.born = true) : es0.filter (pkS s seen) = es0.filter (fun e => decide (s < slV e.key)) := by
  refine List.filter_congr fun x hx => ?_
  by_cases hp : pkS s seen x = true
  · have hc := h x (List.mem_filter.2 ⟨hx, hp⟩)
    unfold pkS at hp ⊢
    rw [hc, Bool.true_and]
    by_cases hle : slV x.key ≤ s
    · rw [decide_eq_true hle, decide_eq_false (by omega)]; rfl
    · rw [decide_eq_false hle, decide_eq_true (by omega)]; rfl
  · have hp' : pkS s seen x = false := by simpa using hp
    rw [hp']
    unfold pkS at hp'
    have hle : slV x.key ≤ s := by
      by_cases hle : slV x.key ≤ s
      · exact hle
      · rw [decide_eq_false hle, Bool.and_false] at hp'; cases hp'
    rw [decide_eq_false (by omega)]
theorem erase_flt : ∀ {l : List MapEntry} {j : Nat} {e : MapEntry}, (l.map (fun e => e.born)).Nodup → l[j]? = some e → l.eraseIdx j = l.filter (fun x => x.born != e.born)
  | [], j, e, _, h => by simp at h
  | a :: r, 0, e, hn, h => by
    simp at h
    subst h
    obtain ⟨h1, h2⟩ := List.nodup_cons.1 hn
    simp
    symm
    rw [List.filter_eq_self]
    intro x hx
    simp
    exact fun e => h1 (List.mem_map.2 ⟨x, hx, e⟩)
  | a :: r, j + 1, e, hn, h => by
    obtain ⟨h1, h2⟩ := List.nodup_cons.1 hn
    have h : r[j]? = some e := by simpa using h
    have hne : a.born ≠ e.born := fun e1 => h1 (List.mem_map.2 ⟨e, List.mem_of_getElem? h, e1.symm⟩)
    simp [hne, erase_flt h2 h]

/-- 'delete(m, k)' in the round. -/
theorem IT.del {w : World} {m it : Nat} {es0 : List MapEntry} {clock : Nat} (hE : En es0 clock) {s : Int} {seen : Array Nat} {e : MapEntry} {q : PK} (hm : w.heap[m]? = some (.map (es0.filter (pkS s seen)).toArray clock)) (hit : w.heap[it]? = some (.mapIter (some m) clock (seen.push e.born) clock))
    (he : e ∈ es0.filter (pkS s seen)) (hk : e.key = kv q) (hs : q.2.2.2.1 ≤ s) :
    ∃ w', (∀ ty, (Builtin.delete_ #[62, 66] ty #[.map (some m), kv q]).run Tryd.prog w = .ok (.tuple #[]) w') ∧ IT w' m it es0 clock s (seen.push e.born) ∧ w.grownBy w' (some m) := by
  have hne : it ≠ m := by
    rintro rfl
    rw [hit] at hm
    cases hm
  have he0 := (List.mem_filter.1 he).1
  have hE' := hE.sub (es := es0.filter (pkS s seen)) List.filter_sublist
  obtain ⟨j, hj⟩ := List.getElem?_of_mem he
  have hf := findK w q (es0.filter (pkS s seen)) _ hE'.keysL
  rw [fnd_of hE'.dup (j := j) (by rw [List.getElem?_map, hj, Option.map_some, hk, unK_kv])] at hf
  simp only [Option.bind_some, hj, Option.map_some] at hf
  have hjl := (List.getElem?_eq_some_iff.1 hj).1
  have hers2 : (es0.filter (pkS s seen)).eraseIdx j = es0.filter (pkS s (seen.push e.born)) := by rw [erase_flt hE'.one hj, flt_struck hE he0 (by rw [hk, slV_kv]; exact hs)]
  have hers : (es0.filter (pkS s seen)).toArray.eraseIdxIfInBounds j = (es0.filter (pkS s (seen.push e.born))).toArray := by
    unfold Array.eraseIdxIfInBounds
    rw [dif_pos (by simpa using hjl)]
    rw [List.eraseIdx_toArray, erase_flt hE'.one hj, flt_struck hE he0 (by rw [hk, slV_kv]; exact hs)]
  refine ⟨setBlock w m (.map (es0.filter (pkS s (seen.push e.born))).toArray clock), fun ty => ?_, ⟨heap_setBlock_same hm _, (heap_setBlock_other hm _ hne).trans hit⟩, grown_block hm _⟩
  simp [Builtin.delete_, run_underlying Tryd.underlying62, MapKept.run_getObj_map hm, checkK, hf, MapKept.run_setObj_map _ hm, Result.andThen, setBlock, hers, hers2]

section
variable {ops : Array Oper} {rest : List Oper} {o : Oper} {a : Act} {Q : Exit → Act → World → Prop}
/-- The step. -/
theorem wl_nextI {w : World} (hg : o.guard = none) (i : Operand) (hop : o.op = Op.next i false) {m it : Nat} {es0 : List MapEntry} {clock : Nat} (hE : En es0 clock) {s : Int} {seen : Array Nat} (h : IT w m it es0 clock s seen) (hi : a.eval i = .pointer (some ⟨it, 0, none⟩))
    (hDone : (∀ x ∈ es0.filter (pkS s seen), seen.contains x.born = true) → wpList Tryd.prog ops Q rest (a.put o.dst (.tuple #[.bool false])) w)
    (hMore : ∀ (e : MapEntry) (q : PK) (v : Value) (w' : World), e ∈ es0.filter (pkS s seen) → Hid (e.key = kv q) → e ∈ (leftOf (es0.filter (pkS s seen)).toArray seen).toList → w'.heap[m]? = some (.map (es0.filter (pkS s seen)).toArray clock) → w'.heap[it]? = some (.mapIter (some m) clock (seen.push e.born) clock) →
      w.grownBy w' (some it) → (Instr.entry (.pointer (some ⟨it, 0, none⟩))).run Tryd.prog w' = .ok (.tuple #[kv q, v]) w' → wpList Tryd.prog ops Q rest (a.put o.dst (.tuple #[.bool true, kv q, v])) w') :
    wpList Tryd.prog ops Q (o :: rest) a w := by
  refine wpList_plain hg fun K' hK' => ?_
  unfold Oper.wp
  have hE' := hE.sub (es := es0.filter (pkS s seen)) List.filter_sublist
  rcases run_next_at (P := Tryd.prog) w o.type it m clock clock seen (es0.filter (pkS s seen)).toArray clock h.it h.map (fun x hx => hE'.old x (by simpa using hx)) (Nat.le_refl _) with ⟨h0, hrun⟩ | ⟨e, he, w1, hal, hrun⟩
  · simp [execOp, hop, hi, hrun, Result.andThen]
    exact hK' _ _ (hDone (fun x hx => all_seen _ _ h0 x (by simpa using hx)))
  · obtain ⟨hem, _⟩ := mem_left he
    have hem : e ∈ es0.filter (pkS s seen) := by simpa using hem
    have hk := hE'.keys e hem
    have hr1 : w1.heap[it]? = some (.mapIter (some m) clock seen clock) := by rcases hal with rfl | rfl <;> exact h.it
    have hb1 : w1.heap[m]? = some (.map (es0.filter (pkS s seen)).toArray clock) := by rcases hal with rfl | rfl <;> exact h.map
    have hset := MapKept.heap_set (o' := .mapIter (some m) clock (seen.push e.born) clock) hr1
    have hb' := (hset.2 m (fun e1 => h.ne e1.symm)).trans hb1
    have hen := run_entry_at (P := Tryd.prog) (setBlock w1 it (.mapIter (some m) clock (seen.push e.born) clock)) it m clock seen (es0.filter (pkS s seen)).toArray clock e hset.1 hb' (by simpa using hem) (by simpa using hE'.one)
    simp [execOp, hop, hi, hrun, Result.andThen]
    have hgr : w.grownBy (setBlock w1 it (.mapIter (some m) clock (seen.push e.born) clock)) (some it) := by
      rcases hal with rfl | rfl <;> exact ⟨rfl, rfl, rfl, by simp [setBlock], fun i _ hi => hset.2 i (fun e1 => hi (by rw [e1]))⟩
    rw [hk] at hen ⊢
    exact hK' _ _ (hMore e (unK e.key) e.val _ hem hk he hb' hset.1 hgr hen)
end
end Go.Proofs.YtajmgpgjkalfkaaDoor
end

section
set_option linter.unusedVariables false
set_option linter.unusedSimpArgs false
namespace Go.Proofs.YtajmgpgjkalfkaaDoor
open Go.RowKit Oct Kvl
open Go.ChangeMaps (setBlock heap_setBlock_same heap_setBlock_other)

theorem All2.filt {α β : Type} {R : α → β → Prop} {p : α → Bool} {q : β → Bool} : ∀ {as_ : List α} {bs : List β}, All2 R as_ bs → (∀ a b, R a b → p a = q b) → All2 R (as_.filter p) (bs.filter q)
  | [], [], _, _ => trivial
  | a :: as_, b :: bs, h, hp => by
    have hr := All2.filt h.2 hp
    have e := hp a b h.1
    by_cases hq : q b = true
    · rw [List.filter_cons_of_pos (by rw [e]; exact hq), List.filter_cons_of_pos hq]
      exact ⟨h.1, hr⟩
    · rw [List.filter_cons_of_neg (by rw [e]; exact hq), List.filter_cons_of_neg hq]
      exact hr
  | [], _ :: _, h, _ => h.elim
  | _ :: _, [], h, _ => h.elim
theorem filt_ent {es : List MapEntry} {l : List (PK × Value)} {p : MapEntry → Bool} {q : PK × Value → Bool} : es.map (fun e => (e.key, e.val)) = l.map (fun z => (kv z.1, z.2)) → (∀ e z, e.key = kv z.1 → p e = q z) → (es.filter p).map (fun e => (e.key, e.val)) = (l.filter q).map (fun z => (kv z.1, z.2)) := by
  induction es generalizing l with
  | nil =>
    intro h _
    cases l with
    | nil => rfl
    | cons z l => simp at h
  | cons e es ih =>
    intro h hp
    cases l with
    | nil => simp at h
    | cons z l =>
      simp only [List.map_cons, List.cons.injEq, Prod.mk.injEq] at h
      have hr := ih h.2 hp
      have e1 := hp e z h.1.1
      by_cases hq : q z = true
      · rw [List.filter_cons_of_pos (by rw [e1]; exact hq), List.filter_cons_of_pos hq]
        simp only [List.map_cons, hr, h.1.1, h.1.2]
      · rw [List.filter_cons_of_neg (by rw [e1]; exact hq), List.filter_cons_of_neg hq]
        exact hr
/-- The entries of a ledger's map, as the loop finds them. -/
theorem Mp.ens {w : World} {b : Nat} {l : List (PK × Value)} (h : Mp w b l) (hd : (l.map (·.1)).Nodup) : ∃ (es0 : List MapEntry) (clock : Nat), w.heap[b]? = some (.map es0.toArray clock) ∧ En es0 clock ∧ es0.map (fun e => (e.key, e.val)) = l.map (fun z => (kv z.1, z.2)) := by
  obtain ⟨es, clock, hb, hl, h1, h2⟩ := h
  refine ⟨es.toList, clock, by simpa using hb, ⟨?_, ?_, h1, h2⟩, hl⟩
  · intro e he
    have := ent_keys hl
    have hm : e.key ∈ es.toList.map (·.key) := List.mem_map.2 ⟨e, he, rfl⟩
    rw [this] at hm
    obtain ⟨q, _, hq⟩ := List.mem_map.1 hm
    rw [← hq, unK_kv]
  · have := congrArg (List.map unK) (ent_keys hl)
    rw [List.map_map, List.map_map] at this
    have e2 : (unK ∘ kv) = id := by funext q; rfl
    rw [e2, List.map_id] at this
    have e3 : (unK ∘ fun x : MapEntry => x.key) = fun e => unK e.key := rfl
    rw [e3] at this
    rw [this]
    exact hd
/-- Behind the loop: a ledger. -/
theorem IT.done {G : Nat → Prop} {w w' : World} {b m it : Nat} {ls : List PSn} {es0 : List MapEntry} {clock : Nat} (h : Lg G w b m ls) (hG : ∀ k, G k → k ≠ m) {s : Int} {seen : Array Nat} {l : List (PK × Value)} (hE : En es0 clock) (hl : es0.map (fun e => (e.key, e.val)) = l.map (fun z => (kv z.1, z.2)))
    (hA : All2 (fun (z : PK × Value) (y : PSn) => z.1 = y.key ∧ RCh G w z.2 y.req y.sig y.told) l ls) (hi : IT w' m it es0 clock s seen) (hall : ∀ x ∈ es0.filter (pkS s seen), seen.contains x.born = true) (hg : w.grownBy w' (some m)) : Lg G w' b m (cutL ls s) := by
  have hmv : Mv G G w w' := Mv.nm hG hg
  have hf := flt_end hall
  have hm := hi.map
  rw [hf] at hm
  refine ⟨h.rowm hg, h.ok.cut s, l.filter (fun z => decide (s < z.1.2.2.2.1)), ⟨_, clock, hm, ?_, ?_, ?_⟩, All2.filt (hA.mono fun z y hz => ⟨hz.1, hz.2.mv hmv⟩) (fun z y hz => by rw [hz.1])⟩
  · exact filt_ent hl (fun e z hk => by rw [hk, slV_kv])
  · intro e he
    have he : e ∈ es0.filter (fun e => decide (s < slV e.key)) := by simpa using he
    exact hE.old e (List.mem_filter.1 he).1
  · simpa using (List.filter_sublist.map _).nodup hE.one

set_option maxRecDepth 10000 in
set_option maxHeartbeats 2000000 in
theorem cutG_any {G : Nat → Prop} (w : World) (b m : Nat) (ls : List PSn) (h : Lg G w b m ls) (hG : ∀ k, G k → k ≠ m) (s : Int) :
    Calls Tryd.prog 10 #[.pointer (some ⟨b, 0, none⟩), .int .i64 s] w fun e w' => e = .returned (.tuple #[]) ∧ Lg G w' b m (cutL ls s) ∧ w.grownBy w' (some m) := by
  have c0 := h.row.cell (j := 0) rfl
  obtain ⟨l, hl1, hl2⟩ := h.map
  have hlt := h.lt
  obtain ⟨es0, clock, hb0, hE, hle⟩ := hl1.ens (by rw [keys_of hl2]; exact h.ok.dup)
  have hrg := run_range_map (P := Tryd.prog) w 62 _ _ m es0.toArray clock Tryd.underlying62 hb0
  obtain ⟨w1, hw1⟩ : ∃ w1, w1 = w.alloc (.mapIter (some m) clock #[] clock) := ⟨_, rfl⟩
  have B1 : Below w.heap.size w w1 := by rw [hw1]; exact below_alloc _ _
  have hi1 : IT w1 m w.heap.size es0 clock s #[] := ⟨by rw [hw1, flt_start]; exact ((below_alloc w (.mapIter (some m) clock #[] clock)).block m hlt.2).trans hb0, by rw [hw1]; exact heap_alloc_new w _⟩
  have hbe := h.ne
  have hB1 : w.grownBy w1 (some m) := grown_of_below B1 _
  go_enter Tryd.func10, Tryd.ntmps10
  go_wp2_with fail
  rw [← hw1]
  clear hw1 hrg c0
  try go_simp
  go_loopw [4] (fun _ wr => ∃ seen, IT wr m w.heap.size es0 clock s seen ∧ w.grownBy wr (some m)) (fun _ wr => wr.rangeLeft m w.heap.size)
  case atStart => exact ⟨#[], hi1, hB1⟩
  case round =>
    obtain ⟨seen, hi, hg⟩ := hrel
    have hlt' : b < wr.heap.size ∧ m < wr.heap.size := ⟨Nat.lt_of_lt_of_le hlt.1 hg.size, Nat.lt_of_lt_of_le hlt.2 hg.size⟩
    have hrow := h.rowm hg
    go_upto_region 2 with (at_next; refine wl_nextI rfl _ rfl hE hi rfl (fun hall => ?_) (fun e q v w2 he hk hleft hm2 hi2 hg2 hen => ?_); (replace hall := (show Hid _ from hall)); rotate_left; (obtain ⟨k, x, y, sl, i⟩ := q; replace he := (show Hid _ from he); replace hleft := (show Hid _ from hleft)); rotate_left)
    · go_end0
      exact ⟨rfl, hi.done h hG hE hle hl2 hall.out hg, hg⟩
    · have he := he.out
      have hleft := hleft.out
      rw [show kv (k, x, y, sl, i) = .agg #[.int .i64 k, .int .i64 x, .int .i64 y, .int .i64 sl, .int .i64 i] from rfl] at hen ⊢
      have hrow2 := hrow.grown hg2 (fun e => by have := Option.some.inj e; omega)
      obtain ⟨w3, hw3⟩ : ∃ w3, w3 = w2.alloc (.cells #[.int .i64 k, .int .i64 x, .int .i64 y, .int .i64 sl, .int .i64 i] 66) := ⟨_, rfl⟩
      have B3 : Below w2.heap.size w2 w3 := by rw [hw3]; exact below_alloc _ _
      have r3 : Row w3 w2.heap.size 66 [.int .i64 k, .int .i64 x, .int .i64 y, .int .i64 sl, .int .i64 i] := by rw [hw3]; exact Row.new _ _ _
      have hm3 := (B3.block m (Array.getElem?_eq_some_iff.1 hm2).1).trans hm2
      have hi3 := (B3.block w.heap.size (Array.getElem?_eq_some_iff.1 hi2).1).trans hi2
      have c0 := (hrow2.below B3).cell (j := 0) rfl
      have hg3 : wr.grownBy w3 (some w.heap.size) := grown_trans hg2 (grown_of_below B3 _) (.inl rfl)
      have hg3 : w.grownBy w3 (some m) := grown_trans hg hg3 (.inr fun k hk => by have := Option.some.inj hk; omega)
      have he0 := (List.mem_filter.1 he).1
      have hsh := left_shrinks _ _ _ hleft
      have hold := hi.left
      by_cases hsl : sl ≤ s
      · obtain ⟨w4, hdel, hi4, hg4⟩ := IT.del (w := w3.drew) hE hm3 hi3 he hk.out hsl
        rw [show kv (k, x, y, sl, i) = .agg #[.int .i64 k, .int .i64 x, .int .i64 y, .int .i64 sl, .int .i64 i] from rfl] at hdel
        go_upto_region 4 with fail
        rw [← hw3]
        clear hw3
        have a0 := r3.cell (j := 0) rfl; have a1 := r3.cell (j := 1) rfl; have a2 := r3.cell (j := 2) rfl; have a3 := r3.cell (j := 3) rfl; have a4 := r3.cell (j := 4) rfl
        go_region
        go_roundw
        case rel => exact ⟨_, _, _, _, _, _, _, _, _, _, _, _, _, _, ⟨_, hi4, grown_trans hg3 (grown_drew hg4) (.inl rfl)⟩, rfl⟩
        case measure =>
          rw [hi4.left, hi.left]
          refine Nat.lt_of_le_of_lt (left_le _ ?_) hsh
          rw [← flt_struck hE he0 (by rw [hk.out, slV_kv]; exact hsl)]
          exact List.filter_sublist
      · have hst := flt_stays (seen := seen) hE he0 (s := s) (by rw [hk.out, slV_kv]; exact hsl)
        have hi4 : IT w3 m w.heap.size es0 clock s (seen.push e.born) := ⟨by rw [← hst]; exact hm3, hi3⟩
        go_wp2_with fail
        rw [← hw3]
        go_roundw
        case rel => exact ⟨_, hi4, hg3⟩
        case measure =>
          rw [hi4.left, hi.left, ← hst]
          exact hsh
end Go.Proofs.YtajmgpgjkalfkaaDoor
end

section
set_option linter.unusedVariables false
set_option linter.unusedSimpArgs false
namespace Go.Proofs.YtajmgpgjkalfkaaDoor
open Go.RowKit Oct Kvl

theorem toNMa {m : Nat} {w : World} (h : w.heap.size ≤ m) : Mv Any (NM m) w w := fun k _ hlt => ⟨rfl, fun e => by omega⟩
theorem szQ_tot {r : PReq} (h : tot [r.2.2.1, r.2.2.2] ≤ 2000000) : szQ r := by
  simp only [tot] at h
  exact ⟨by unfold szT; omega, by unfold szT; omega⟩
theorem copyQ_any (w : World) (o p : Value) (r : PReq) (t : RT Any w o r.2.2.1) (u : RT Any w p r.2.2.2) (hz : tot [r.2.2.1, r.2.2.2] ≤ 2000000) :
    Calls Tryd.prog 13 #[.agg #[.int .i64 r.1, .int .i64 r.2.1, o, p]] w fun e w' => ∃ ao co ap cp, e = .returned (.agg #[.int .i64 r.1, .int .i64 r.2.1, .slice ao r.2.2.1.length co, .slice ap r.2.2.2.length cp]) ∧
      RReq (From w.heap.size) w' [.int .i64 r.1, .int .i64 r.2.1, .slice ao r.2.2.1.length co, .slice ap r.2.2.2.length cp] r ∧ Below w.heap.size w w' := by
  refine (copyReq_any w [.int .i64 r.1, .int .i64 r.2.1, o, p] r ⟨_, _, rfl, t, u⟩ (szQ_tot hz)).mono ?_
  rintro e w' ⟨r', rfl, ⟨o', p', rfl, t', u'⟩, hb⟩
  obtain ⟨ao, co, rfl, _⟩ := t'.form
  obtain ⟨ap, cp, rfl, _⟩ := u'.form
  exact ⟨_, _, _, _, rfl, ⟨_, _, rfl, t', u'⟩, hb⟩
theorem below_drew (w : World) : Below w.heap.size w w.drew := ⟨rfl, rfl, rfl, Nat.le_refl _, fun _ _ => rfl⟩
/-- The first vote at a place. -/
theorem note_first {ls : List PSn} {x y s i : Int} {r : PReq} (h0 : 0 ≤ i) (h1 : i ≤ 15) (hf : fnd (2, x, y, s, i) (keysL ls) = none) (hl : ls.length < 8192) :
    noteL ls 2 x y s r [(i, sgn 2 x y s r i)] = (ls ++ [⟨(2, x, y, s, i), r, sgn 2 x y s r i, false⟩], []) := by
  rw [note_one (.inl rfl) (sgn_rgt _ _ _ _ _ h0 h1), meet_none hf, if_pos hl]
theorem note_same {ls : List PSn} {x y s i : Int} {r : PReq} (h0 : 0 ≤ i) (h1 : i ≤ 15) {j : Nat} {z : PSn} (hf : fnd (2, x, y, s, i) (keysL ls) = some j) (hz : ls[j]? = some z) (hb : body z.req = body r) :
    noteL ls 2 x y s r [(i, sgn 2 x y s r i)] = (ls, []) := by
  rw [note_one (.inl rfl) (sgn_rgt _ _ _ _ _ h0 h1), meet_old hf hz (.inr hb)]
theorem note_other {ls : List PSn} {x y s i : Int} {r : PReq} (h0 : 0 ≤ i) (h1 : i ≤ 15) {j : Nat} {z : PSn} (hf : fnd (2, x, y, s, i) (keysL ls) = some j) (hz : ls[j]? = some z) (ht : z.told = false) (hb : ¬ body z.req = body r) :
    noteL ls 2 x y s r [(i, sgn 2 x y s r i)] = (ls.set j { z with told := true }, [evL (2, x, y, s, i) z.req z.sig r (sgn 2 x y s r i)]) := by
  rw [note_one (.inl rfl) (sgn_rgt _ _ _ _ _ h0 h1), meet_new hf hz (by rw [ht]; simp; exact hb)]
end Go.Proofs.YtajmgpgjkalfkaaDoor
end
