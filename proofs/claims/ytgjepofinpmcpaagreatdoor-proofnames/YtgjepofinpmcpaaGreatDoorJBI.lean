/- Ledgers in memory: keep. -/
import Derived.Test.YtgjepofinpmcpaaGreatDoorJBA
import Derived.Test.YtgjepofinpmcpaaGreatDoorJBF
import Derived.Test.YtgjepofinpmcpaaGreatDoorJBD
import Derived.Test.YtgjepofinpmcpaaGreatDoorJAE
import Derived.Test.YtgjepofinpmcpaaGreatDoorJAQ
import Derived.Test.YtgjepofinpmcpaaGreatDoorJBH
section
set_option linter.unusedVariables false
set_option linter.unusedSimpArgs false
namespace Go.Proofs.YtgjepofinpmcpaaGreatDoor
open Go.RowKit Oct Kvl

/-- The first vote at a place, and whether another one was told. -/
structure PSn where
  key : PK
  req : PReq
  sig : List Int
  told : Bool
def ev0 (q : PK) (r1 : PReq) (s1 : List Int) (r2 : PReq) (s2 : List Int) : PMsg :=
  { zeroM with kind := 13, idx := q.1, bal := (q.2.1, q.2.2.1), slot := q.2.2.2.1, frm := q.2.2.2.2, req := r1, sig := s1, oth := r2, data := s2 }
def evL (q : PK) (r1 : PReq) (s1 : List Int) (r2 : PReq) (s2 : List Int) : PMsg :=
  if 0 < cmpL (body r1) (body r2) then ev0 q r2 s2 r1 s1 else ev0 q r1 s1 r2 s2
def keysL (ls : List PSn) : List PK := ls.map (·.key)
def meetL (ls : List PSn) (q : PK) (r : PReq) (g : List Int) : List PSn × List PMsg :=
  match fnd q (keysL ls) with
  | none => (if ls.length < 8192 then ls ++ [⟨q, r, g, false⟩] else ls, [])
  | some j => match ls[j]? with
    | none => (ls, [])
    | some z => if z.told = true ∨ body z.req = body r then (ls, []) else (ls.set j { z with told := true }, [evL q z.req z.sig r g])
def rgtV (k x y s : Int) (r : PReq) (v : PVote) : Bool := verL (repL v.1) v.2 (sL ⟨#[118, 111, 116, 101]⟩) [numsL [k, x, y, s], body r]
def stpL (k x y s : Int) (r : PReq) (st : List PSn × List PMsg) (v : PVote) : List PSn × List PMsg :=
  if rgtV k x y s r v = true then ((meetL st.1 (k, x, y, s, v.1) r v.2).1, st.2 ++ (meetL st.1 (k, x, y, s, v.1) r v.2).2) else st
def noteV (ls : List PSn) (k x y s : Int) (r : PReq) (vs : List PVote) : List PSn × List PMsg := vs.foldl (stpL k x y s r) (ls, [])
def noteL (ls : List PSn) (k x y s : Int) (r : PReq) (vs : List PVote) : List PSn × List PMsg := if k = 2 ∨ k = 3 then noteV ls k x y s r vs else (ls, [])
def cutL (ls : List PSn) (s : Int) : List PSn := ls.filter fun z => decide (s < z.key.2.2.2.1)

/-- How great what is kept may be. -/
def okS (z : PSn) : Prop := tot [z.req.2.2.1, z.req.2.2.2] ≤ 2000000 ∧ szT z.sig
/-- What every ledger is. -/
structure OkL (ls : List PSn) : Prop where
  dup : (keysL ls).Nodup
  ok : ∀ z ∈ ls, okS z
  len : ls.length ≤ 8192
theorem OkL.nil : OkL [] := ⟨by simp [keysL], by simp, by simp⟩

theorem keys_set {ls : List PSn} {j : Nat} {z y : PSn} (hz : ls[j]? = some z) (hk : y.key = z.key) : keysL (ls.set j y) = keysL ls := by
  unfold keysL
  rw [List.map_set]
  refine List.ext_getElem? fun i => ?_
  rw [List.getElem?_set]
  by_cases hi : j = i
  · subst hi
    have hjl := (List.getElem?_eq_some_iff.1 hz).1
    simp [hjl, hk, hz]
    have := (List.getElem?_eq_some_iff.1 hz).2
    rw [this]
  · simp [hi]
theorem fnd_at {ls : List PSn} {q : PK} {j : Nat} (h : fnd q (keysL ls) = some j) : ∃ z, ls[j]? = some z ∧ z.key = q := by
  obtain ⟨h1, h2⟩ := fnd_lt h
  unfold keysL at h2
  rw [List.getElem?_map] at h2
  cases hz : ls[j]? with
  | none => simp [hz] at h2
  | some z =>
    simp [hz] at h2
    exact ⟨z, rfl, h2⟩
theorem meet_none {ls : List PSn} {q : PK} {r : PReq} {g : List Int} (h : fnd q (keysL ls) = none) : meetL ls q r g = (if ls.length < 8192 then ls ++ [⟨q, r, g, false⟩] else ls, []) := by
  unfold meetL; rw [h]
theorem meet_old {ls : List PSn} {q : PK} {r : PReq} {g : List Int} {j : Nat} {z : PSn} (h : fnd q (keysL ls) = some j) (hz : ls[j]? = some z) (ht : z.told = true ∨ body z.req = body r) : meetL ls q r g = (ls, []) := by
  unfold meetL; simp only [h, hz, if_pos ht]
theorem meet_new {ls : List PSn} {q : PK} {r : PReq} {g : List Int} {j : Nat} {z : PSn} (h : fnd q (keysL ls) = some j) (hz : ls[j]? = some z) (ht : ¬ (z.told = true ∨ body z.req = body r)) :
    meetL ls q r g = (ls.set j { z with told := true }, [evL q z.req z.sig r g]) := by
  unfold meetL; simp only [h, hz, if_neg ht]
theorem OkL.meet {ls : List PSn} (h : OkL ls) (q : PK) {r : PReq} {g : List Int} (hr : tot [r.2.2.1, r.2.2.2] ≤ 2000000) (hg : szT g) : OkL (meetL ls q r g).1 := by
  cases hf : fnd q (keysL ls) with
  | none =>
    rw [meet_none hf]
    by_cases hl : ls.length < 8192
    · simp only [if_pos hl]
      refine ⟨?_, ?_, by simp; omega⟩
      · unfold keysL
        rw [List.map_append, List.nodup_append]
        refine ⟨h.dup, by simp, ?_⟩
        intro a ha c hc
        simp at hc
        subst hc
        exact fun e => fnd_none hf (e ▸ ha)
      · intro z hz
        rcases List.mem_append.1 hz with hz | hz
        · exact h.ok z hz
        · simp at hz
          subst hz
          exact ⟨hr, hg⟩
    · simp only [if_neg hl]
      exact h
  | some j =>
    obtain ⟨z, hz, hk⟩ := fnd_at hf
    by_cases ht : z.told = true ∨ body z.req = body r
    · rw [meet_old hf hz ht]
      exact h
    · rw [meet_new hf hz ht]
      refine ⟨?_, ?_, by simpa using h.len⟩
      · have := keys_set (y := { z with told := true }) hz rfl
        rw [this]
        exact h.dup
      · intro y hy
        rcases List.mem_or_eq_of_mem_set hy with hy | rfl
        · exact h.ok y hy
        · exact h.ok z (List.mem_of_getElem? hz)
theorem OkL.cut {ls : List PSn} (h : OkL ls) (s : Int) : OkL (cutL ls s) :=
  ⟨by unfold cutL keysL; exact (List.filter_sublist.map _).nodup h.dup, fun z hz => h.ok z (List.mem_filter.1 hz).1, Nat.le_trans (List.length_filter_le _ _) h.len⟩
theorem noteV_take {ls : List PSn} {k x y s : Int} {r : PReq} {vs : List PVote} {i : Nat} {v : PVote} (h : vs[i]? = some v) : noteV ls k x y s r (vs.take (i + 1)) = stpL k x y s r (noteV ls k x y s r (vs.take i)) v := by
  unfold noteV
  rw [List.take_add_one, h, List.foldl_append]
  rfl
theorem stp_no {k x y s : Int} {r : PReq} {st : List PSn × List PMsg} {v : PVote} (h : rgtV k x y s r v = false) : stpL k x y s r st v = st := by unfold stpL; simp [h]
theorem stp_yes {k x y s : Int} {r : PReq} {st : List PSn × List PMsg} {v : PVote} (h : rgtV k x y s r v = true) : stpL k x y s r st v = ((meetL st.1 (k, x, y, s, v.1) r v.2).1, st.2 ++ (meetL st.1 (k, x, y, s, v.1) r v.2).2) := by unfold stpL; simp [h]
theorem meet_one (ls : List PSn) (q : PK) (r : PReq) (g : List Int) : (meetL ls q r g).2.length ≤ 1 := by
  unfold meetL
  split
  · simp
  · split
    · simp
    · split <;> simp
theorem OkL.stp {st : List PSn × List PMsg} (h : OkL st.1) (k x y s : Int) {r : PReq} (hr : tot [r.2.2.1, r.2.2.2] ≤ 2000000) {v : PVote} (hg : szT v.2) : OkL (stpL k x y s r st v).1 := by
  unfold stpL
  split
  · exact h.meet _ hr hg
  · exact h
theorem stp_len (k x y s : Int) (r : PReq) (st : List PSn × List PMsg) (v : PVote) : (stpL k x y s r st v).2.length ≤ st.2.length + 1 := by
  unfold stpL
  split
  · have := meet_one st.1 (k, x, y, s, v.1) r v.2
    simp
    omega
  · omega
theorem note_inv {k x y s : Int} {r : PReq} (hr : tot [r.2.2.1, r.2.2.2] ≤ 2000000) : ∀ (vs : List PVote) (st : List PSn × List PMsg), OkL st.1 → (∀ v ∈ vs, szT v.2) → OkL (vs.foldl (stpL k x y s r) st).1 ∧ (vs.foldl (stpL k x y s r) st).2.length ≤ st.2.length + vs.length
  | [], st, h, _ => ⟨h, by simp⟩
  | v :: vs, st, h, hv => by
    obtain ⟨h1, h2⟩ := note_inv hr vs (stpL k x y s r st v) (h.stp k x y s hr (hv v (by simp))) (fun u hu => hv u (by simp [hu]))
    have := stp_len k x y s r st v
    refine ⟨h1, ?_⟩
    simp only [List.foldl_cons, List.length_cons]
    omega
theorem OkL.noteV {ls : List PSn} (h : OkL ls) (k x y s : Int) {r : PReq} (hr : tot [r.2.2.1, r.2.2.2] ≤ 2000000) {vs : List PVote} (hv : ∀ v ∈ vs, szT v.2) : OkL (noteV ls k x y s r vs).1 := (note_inv hr vs (ls, []) h hv).1
theorem noteV_len {ls : List PSn} (h : OkL ls) (k x y s : Int) {r : PReq} (hr : tot [r.2.2.1, r.2.2.2] ≤ 2000000) {vs : List PVote} (hv : ∀ v ∈ vs, szT v.2) : (Go.Proofs.YtgjepofinpmcpaaGreatDoor.noteV ls k x y s r vs).2.length ≤ vs.length := by
  have := (note_inv (k := k) (x := x) (y := y) (s := s) hr vs (ls, []) h hv).2
  simpa [Go.Proofs.YtgjepofinpmcpaaGreatDoor.noteV] using this
theorem OkL.note {ls : List PSn} (h : OkL ls) (k x y s : Int) {r : PReq} (hr : tot [r.2.2.1, r.2.2.2] ≤ 2000000) {vs : List PVote} (hv : ∀ v ∈ vs, szT v.2) : OkL (noteL ls k x y s r vs).1 := by
  unfold noteL
  split
  · exact h.noteV k x y s hr hv
  · exact h
theorem body_byt {r : PReq} (h1 : Byt r.2.2.1) (h2 : Byt r.2.2.2) (hr : tot [r.2.2.1, r.2.2.2] ≤ 2000000) : Byt (body r) :=
  Byt.app (Byt.app (le8_byt _) (le8_byt _)) (packL_byt (ll := [r.2.2.1, r.2.2.2]) (fun l hl => by
    simp only [List.mem_cons, List.not_mem_nil, or_false] at hl
    rcases hl with rfl | rfl
    · exact h1
    · exact h2) (by omega))
theorem body_len {r : PReq} (hr : tot [r.2.2.1, r.2.2.2] ≤ 2000000) : (body r).length ≤ 3000000 := by
  unfold body
  rw [List.length_append, List.length_append, le8_len, le8_len]
  have h1 := enc_len r.2.2.1.length
  have h2 := enc_len r.2.2.2.length
  simp only [tot] at hr
  simp only [packL, List.length_append, List.length_nil]
  omega
end Go.Proofs.YtgjepofinpmcpaaGreatDoor
end

section
set_option linter.unusedVariables false
set_option linter.unusedSimpArgs false
namespace Go.Proofs.YtgjepofinpmcpaaGreatDoor
open Go.RowKit Oct Kvl

/-- A choice: a request, a signature, whether a conflict was told. -/
def RCh (G : Nat → Prop) (w : World) (v : Value) (r : PReq) (g : List Int) (t : Bool) : Prop :=
  ∃ o p s, v = .agg #[.int .i64 r.1, .int .i64 r.2.1, o, p, s, .bool t] ∧ RT G w o r.2.2.1 ∧ RT G w p r.2.2.2 ∧ RT G w s g
theorem RCh.mv {G G' : Nat → Prop} {w w' : World} {v : Value} {r : PReq} {g : List Int} {t : Bool} (h : RCh G w v r g t) (hm : Mv G G' w w') : RCh G' w' v r g t := by
  obtain ⟨o, p, s, e, h1, h2, h3⟩ := h
  exact ⟨o, p, s, e, h1.mv hm, h2.mv hm, h3.mv hm⟩
/-- A ledger at block b, its map at block m. -/
structure Lg (G : Nat → Prop) (w : World) (b m : Nat) (ls : List PSn) : Prop where
  row : Row w b 114 [.map (some m)]
  ok : OkL ls
  map : ∃ l, Mp w m l ∧ All2 (fun (z : PK × Value) (y : PSn) => z.1 = y.key ∧ RCh G w z.2 y.req y.sig y.told) l ls
/-- Not block m. -/
def NM (m : Nat) : Nat → Prop := fun k => k ≠ m
theorem Lg.ne {G : Nat → Prop} {w : World} {b m : Nat} {ls : List PSn} (h : Lg G w b m ls) : b ≠ m := by
  rintro rfl
  obtain ⟨l, h1, _⟩ := h.map
  have h2 := h.row.cell (j := 0) rfl
  rw [h1.nocell 0] at h2
  cases h2
theorem Lg.mv {G G' : Nat → Prop} {w w' : World} {b m : Nat} {ls : List PSn} (h : Lg G w b m ls) (hb : w'.heap[b]? = w.heap[b]?) (hmb : w'.heap[m]? = w.heap[m]?) (hm : Mv G G' w w') : Lg G' w' b m ls := by
  obtain ⟨l, h1, h2⟩ := h.map
  refine ⟨hb.trans h.row, h.ok, l, ?_, h2.mono fun z y hz => ⟨hz.1, hz.2.mv hm⟩⟩
  obtain ⟨es, clock, h3, h4⟩ := h1
  exact ⟨es, clock, hmb.trans h3, h4⟩
theorem Lg.below {G : Nat → Prop} {w w' : World} {b m : Nat} {ls : List PSn} (h : Lg G w b m ls) (hb : Below w.heap.size w w') : Lg G w' b m ls := by
  obtain ⟨l, h1, h2⟩ := h.map
  exact h.mv (hb.block b h.row.lt) (hb.block m h1.lt) (Mv.belowG hb)
theorem Lg.lt {G : Nat → Prop} {w : World} {b m : Nat} {ls : List PSn} (h : Lg G w b m ls) : b < w.heap.size ∧ m < w.heap.size := by
  obtain ⟨l, h1, h2⟩ := h.map
  exact ⟨h.row.lt, h1.lt⟩
theorem Mv.nm {m : Nat} {G : Nat → Prop} {w w' : World} (hG : ∀ k, G k → k ≠ m) (hg : w.grownBy w' (some m)) : Mv G G w w' := fun k hk hlt => ⟨hg.block k hlt (fun e => hG k hk (by injection e)), hk⟩

theorem newG_any (w : World) : Calls Tryz.prog 32 #[] w fun e w' => e = .returned (.pointer (some ⟨w.heap.size + 1, 0, none⟩)) ∧ Lg (NM w.heap.size) w' (w.heap.size + 1) w.heap.size [] ∧ Below w.heap.size w w' := by
  have hmm := @run_makeMap Tryz.prog
  have hm1 := Mp.made w
  obtain ⟨w1, hw1⟩ : ∃ w1, w1 = w.alloc (.map #[] 0) := ⟨_, rfl⟩
  have hs : w1.heap.size = w.heap.size + 1 := by rw [hw1]; simp
  have hb1 : Below w.heap.size w w1 := by rw [hw1]; exact below_alloc _ _
  rw [← hw1] at hm1
  go_enter Tryz.func32, Tryz.ntmps32
  go_wp2_with fail
  go_ret
  rw [← hw1]
  have hr := Row.new w1 114 [.map (some w.heap.size)]
  rw [hs] at hr
  exact ⟨rfl, ⟨hr, OkL.nil, [], hm1.below (below_alloc _ _), trivial⟩, hb1.alloc hb1.size _⟩

theorem lenG_any {G : Nat → Prop} (w : World) (b m : Nat) (ls : List PSn) (h : Lg G w b m ls) : Calls Tryz.prog 131 #[.pointer (some ⟨b, 0, none⟩)] w fun e w' => e = .returned (.int .i64 (ls.length : Int)) ∧ w' = w := by
  have c0 := h.row.cell (j := 0) rfl
  obtain ⟨l, h1, h2⟩ := h.map
  have hln := h1.len
  rw [h2.len] at hln
  clear h h1 h2
  go_enter Tryz.func131, Tryz.ntmps131
  go_wp2_with fail
  go_ret
  exact ⟨rfl, rfl⟩
end Go.Proofs.YtgjepofinpmcpaaGreatDoor
end

section
set_option linter.unusedVariables false
set_option linter.unusedSimpArgs false
namespace Go.Proofs.YtgjepofinpmcpaaGreatDoor
open Go.RowKit Oct Kvl

theorem All2.setR {α β : Type} {R : α → β → Prop} : ∀ {ps : List α} {bs : List β} {j : Nat} {a : α} {b : β}, All2 R ps bs → R a b → All2 R (ps.set j a) (bs.set j b)
  | [], [], j, a, b, _, _ => by simp [All2]
  | x :: ps, y :: bs, 0, a, b, h, hr => ⟨hr, h.2⟩
  | x :: ps, y :: bs, j + 1, a, b, h, hr => ⟨h.1, All2.setR h.2 hr⟩
  | [], _ :: _, _, _, _, h, _ => h.elim
  | _ :: _, [], _, _, _, h, _ => h.elim
theorem keys_of {G : Nat → Prop} {w : World} : ∀ {l : List (PK × Value)} {ls : List PSn}, All2 (fun (z : PK × Value) (y : PSn) => z.1 = y.key ∧ RCh G w z.2 y.req y.sig y.told) l ls → l.map (·.1) = keysL ls
  | [], [], _ => rfl
  | z :: l, y :: ls, h => by
    have := keys_of h.2
    unfold keysL at this ⊢
    simp [h.1.1, this]
  | [], _ :: _, h => h.elim
  | _ :: _, [], h => h.elim

theorem Lg.rowm {G : Nat → Prop} {w w' : World} {b m : Nat} {ls : List PSn} (h : Lg G w b m ls) (hg : w.grownBy w' (some m)) : Row w' b 114 [.map (some m)] :=
  h.row.grown hg fun e => h.ne (Option.some.inj e).symm

set_option maxHeartbeats 1000000 in
theorem keepG_any {G : Nat → Prop} (w : World) (b m : Nat) (ls : List PSn) (h : Lg G w b m ls) (hG : ∀ k, G k → k ≠ m) (q : PK) (hq : fnd q (keysL ls) = none) (v : Value) (r : PReq) (g : List Int) (hv : RCh G w v r g false)
    (hr : tot [r.2.2.1, r.2.2.2] ≤ 2000000) (hg : szT g) :
    Calls Tryz.prog 107 #[.pointer (some ⟨b, 0, none⟩), kv q, v] w fun e w' => e = .returned (.tuple #[]) ∧ Lg G w' b m (meetL ls q r g).1 ∧ w.grownBy w' (some m) := by
  have hok := h.ok.meet q hr hg
  rw [meet_none hq] at hok ⊢
  obtain ⟨o, p, s, rfl, t1, t2, t3⟩ := hv
  obtain ⟨ao, co, rfl, _⟩ := t1.form
  obtain ⟨ap, cp, rfl, _⟩ := t2.form
  obtain ⟨as_, cs, rfl, _⟩ := t3.form
  obtain ⟨k, x, y, sl, i⟩ := q
  obtain ⟨w2, hw2⟩ : ∃ w2, w2 = (w.alloc (.cells #[.int .i64 k, .int .i64 x, .int .i64 y, .int .i64 sl, .int .i64 i] 116)).alloc (.cells #[.int .i64 r.1, .int .i64 r.2.1, .slice ao r.2.2.1.length co, .slice ap r.2.2.2.length cp, .slice as_ g.length cs, .bool false] 120) := ⟨_, rfl⟩
  have ra : Row w2 w.heap.size 116 [.int .i64 k, .int .i64 x, .int .i64 y, .int .i64 sl, .int .i64 i] := by rw [hw2]; exact rowA (Row.new w 116 _) _
  have rb : Row w2 (w.heap.size + 1) 120 [.int .i64 r.1, .int .i64 r.2.1, .slice ao r.2.2.1.length co, .slice ap r.2.2.2.length cp, .slice as_ g.length cs, .bool false] := by
    rw [hw2]
    have := Row.new (w.alloc (.cells #[.int .i64 k, .int .i64 x, .int .i64 y, .int .i64 sl, .int .i64 i] 116)) 120 [.int .i64 r.1, .int .i64 r.2.1, .slice ao r.2.2.1.length co, .slice ap r.2.2.2.length cp, .slice as_ g.length cs, .bool false]
    simpa using this
  have B : Below w.heap.size w w2 := by rw [hw2]; exact ((Below.refl _ w).alloc (Nat.le_refl _) _).alloc (by simp) _
  have h2 := h.below B
  have hL := lenG_any w2 b m ls h2
  have c0 := h2.row.cell (j := 0) rfl
  obtain ⟨l, hl1, hl2⟩ := h2.map
  rw [← keys_of hl2] at hq
  obtain ⟨w3, hput, hp2, hp3⟩ := Mp.put_new (w := w2.drew) hl1 hq (.agg #[.int .i64 r.1, .int .i64 r.2.1, .slice ao r.2.2.1.length co, .slice ap r.2.2.2.length cp, .slice as_ g.length cs, .bool false])
  simp only [kv] at hput ⊢
  by_cases hlen : ls.length < 8192
  · have hd : decide ((ls.length : Int) < 8192) = true := by simp; omega
    simp only [if_pos hlen] at hok ⊢
    go_enter Tryz.func107, Tryz.ntmps107
    go_upto_region 1 with fail
    rw [← hw2]
    clear hw2
    go_upto_region 2 with (go_at_call 131; refine hL.mono ?_; rintro e w2 ⟨rfl, rfl⟩)
    have a0 := ra.cell (j := 0) rfl; have a1 := ra.cell (j := 1) rfl; have a2 := ra.cell (j := 2) rfl; have a3 := ra.cell (j := 3) rfl; have a4 := ra.cell (j := 4) rfl
    have b0 := rb.cell (j := 0) rfl; have b1 := rb.cell (j := 1) rfl; have b2 := rb.cell (j := 2) rfl; have b3 := rb.cell (j := 3) rfl; have b4 := rb.cell (j := 4) rfl; have b5 := rb.cell (j := 5) rfl
    go_region
    go_end0
    have hg3 := grown_drew hp3
    have hmv : Mv G G w2 w3 := Mv.nm hG hg3
    exact ⟨rfl, ⟨h2.rowm hg3, hok, _, hp2, All2.app (hl2.mono fun z y hz => ⟨hz.1, hz.2.mv hmv⟩) ⟨⟨rfl, _, _, _, rfl, (t1.mv (Mv.belowG B)).mv hmv, (t2.mv (Mv.belowG B)).mv hmv, (t3.mv (Mv.belowG B)).mv hmv⟩, trivial⟩⟩,
      grown_trans (grown_of_below B _) hg3 (.inl rfl)⟩
  · have hd : decide ((ls.length : Int) < 8192) = false := by simp; omega
    simp only [if_neg hlen] at hok ⊢
    go_enter Tryz.func107, Tryz.ntmps107
    go_upto_region 1 with fail
    rw [← hw2]
    clear hw2
    go_wp2_with (go_at_call 131; refine hL.mono ?_; rintro e w2 ⟨rfl, rfl⟩)
    go_end0
    exact ⟨rfl, h2, grown_of_below B _⟩
end Go.Proofs.YtgjepofinpmcpaaGreatDoor
end
