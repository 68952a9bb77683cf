/- Records in memory: requests, votes, preps, reports, messages that can be read. -/
import Derived.Test.YtgpkngiakhdmhaaDoorSBAK
import Derived.Test.YtgpkngiakhdmhaaDoorSBAQ
namespace Go.Proofs.YtgpkngiakhdmhaaDoor
open Go.RowKit Oct
/-- What lies in blocks of which G holds is ys it was, and of those G' holds. -/
def Mv (G G' : Nat → Prop) (w w' : World) : Prop := ∀ k, G k → k < w.heap.size → w'.heap[k]? = w.heap[k]? ∧ G' k
def Any : Nat → Prop := fun _ => True
def From (B : Nat) : Nat → Prop := fun k => B ≤ k
theorem Mv.below {w w' : World} (h : Below w.heap.size w w') : Mv Any Any w w' := fun k _ hk => ⟨h.block k hk, trivial⟩
theorem Mv.belowG {G : Nat → Prop} {w w' : World} (h : Below w.heap.size w w') : Mv G G w w' := fun k hg hk => ⟨h.block k hk, hg⟩
theorem Mv.any {G : Nat → Prop} {w : World} : Mv G Any w w := fun _ _ _ => ⟨rfl, trivial⟩
theorem Mv.from {B L : Nat} {w w' : World} {b : Nat} (hg : w.grownBy w' (some b)) (hb : b < B) (hL : L ≤ B) : Mv (From B) (From L) w w' := fun k hk hlt => ⟨hg.block k hlt (fun e => by injection e with e; unfold From at hk; omega), Nat.le_trans hL hk⟩
theorem Mv.weak {B L : Nat} {w : World} (hL : L ≤ B) : Mv (From B) (From L) w w := fun _ hk _ => ⟨rfl, Nat.le_trans hL hk⟩
/-- A text that can be read, in a block of which G holds. -/
def RT (G : Nat → Prop) (w : World) (v : Value) (l : List Int) : Prop := Rd w v l ∧ (l ≠ [] → ∀ k, v.ownBlock = some k → G k)
theorem RT.mv {G G' : Nat → Prop} {w w' : World} {v : Value} {l : List Int} (h : RT G w v l) (hm : Mv G G' w w') : RT G' w' v l := by
  refine ⟨⟨h.1.1, h.1.2.keep fun hx k hk hlt => ?_⟩, fun hx k hk => ?_⟩
  · have hx : l ≠ [] := fun e => hx (by rw [e]; rfl)
    exact (hm k (h.2 hx k hk) hlt).1
  · exact (hm k (h.2 hx k hk) (h.1.lt hx k hk)).2
theorem RT.form {G : Nat → Prop} {w : World} {v : Value} {l : List Int} (h : RT G w v l) : ∃ ao cap, v = .slice ao l.length cap ∧ cap ≤ maxLen := by
  obtain ⟨ao, cap, h1, h2⟩ := h.1.2.form
  rw [bc_len] at h1
  exact ⟨ao, cap, h1, h2⟩
theorem RT.one {G : Nat → Prop} {w : World} {v : Value} {l : List Int} (h : RT G w v l) : v.oneCell' = true := by
  obtain ⟨ao, cap, rfl, _⟩ := h.form; rfl
theorem RT.own {B : Nat} {w : World} {v : Value} {l : List Int} (h : Own w 5 v (bc l)) (hb : Byt l) (hf : Fr B v) : RT (From B) w v l := ⟨h.rd hb, fun _ k hk => hf k hk⟩
theorem RT.nil (G : Nat → Prop) (w : World) : RT G w (.slice none 0 0) [] := ⟨(Own.nil w 5).rd (l := []) Byt.nil, fun h => absurd rfl h⟩
/-- A slice of records of k cells each. -/
def RK (G : Nat → Prop) (k : Nat) (w : World) (v : Value) (rows : List (List Value)) : Prop :=
  (∀ r ∈ rows, r.length = k) ∧ ((∃ ao cap, v = .slice ao 0 cap ∧ rows = [] ∧ cap ≤ maxLen) ∨
    ∃ b off cap, v = .slice (some ⟨b, off, none⟩) rows.length cap ∧ rows.length ≤ cap ∧ cap ≤ maxLen ∧ 0 < rows.length ∧ G b ∧ b < w.heap.size ∧ ∀ (i : Nat) (r : List Value), rows[i]? = some r → w.rangeAt b (off + i * k) r)
theorem rangeAt_block {w w' : World} {b o : Nat} {cs : List Value} (h : w.rangeAt b o cs) (e : w'.heap[b]? = w.heap[b]?) : w'.rangeAt b o cs := fun j v hj => by
  rw [World.cell?_of_block (w := w) (w' := w') (a := ⟨b, o + j, none⟩) e]
  exact h j v hj
theorem RK.mv {G G' : Nat → Prop} {k : Nat} {w w' : World} {v : Value} {rows : List (List Value)} (h : RK G k w v rows) (hs : w.heap.size ≤ w'.heap.size) (hm : Mv G G' w w') : RK G' k w' v rows := by
  refine ⟨h.1, ?_⟩
  rcases h.2 with h | ⟨b, off, cap, h1, h2, h3, h4, h5, h6, h7⟩
  · exact .inl h
  · obtain ⟨e, hg⟩ := hm b h5 h6
    exact .inr ⟨b, off, cap, h1, h2, h3, h4, hg, Nat.lt_of_lt_of_le h6 hs, fun i r hr => rangeAt_block (h7 i r hr) e⟩
theorem RK.form {G : Nat → Prop} {k : Nat} {w : World} {v : Value} {rows : List (List Value)} (h : RK G k w v rows) : ∃ ao cap, v = .slice ao rows.length cap ∧ cap ≤ maxLen := by
  rcases h.2 with ⟨ao, cap, h1, h2, h3⟩ | ⟨b, off, cap, h1, h2, h3, _⟩
  · exact ⟨ao, cap, by rw [h1, h2]; rfl, h3⟩
  · exact ⟨_, cap, h1, h3⟩
/-- A list of records: each by R. -/
def RL {α : Type} (R : (Nat → Prop) → World → List Value → α → Prop) (k : Nat) (G : Nat → Prop) (w : World) (v : Value) (ys : List α) : Prop :=
  ∃ rows, RK G k w v rows ∧ All2 (R G w) rows ys
/-- What can be carried on. -/
def Mov {α : Type} (R : (Nat → Prop) → World → List Value → α → Prop) : Prop := ∀ (G G' : Nat → Prop) (w w' : World) (r : List Value) (a : α), R G w r a → w.heap.size ≤ w'.heap.size → Mv G G' w w' → R G' w' r a
theorem RL.mv {α : Type} {R : (Nat → Prop) → World → List Value → α → Prop} (hR : Mov R) {k : Nat} {G G' : Nat → Prop} {w w' : World} {v : Value} {ys : List α} (h : RL R k G w v ys) (hs : w.heap.size ≤ w'.heap.size) (hm : Mv G G' w w') : RL R k G' w' v ys := by
  obtain ⟨rows, h1, h2⟩ := h
  exact ⟨rows, h1.mv hs hm, h2.mono fun r a h => hR G G' w w' r a h hs hm⟩
theorem RL.form {α : Type} {R : (Nat → Prop) → World → List Value → α → Prop} {k : Nat} {G : Nat → Prop} {w : World} {v : Value} {ys : List α} (h : RL R k G w v ys) : ∃ ao cap, v = .slice ao ys.length cap ∧ cap ≤ maxLen := by
  obtain ⟨rows, h1, h2⟩ := h
  obtain ⟨ao, cap, e, hc⟩ := h1.form
  rw [h2.len] at e
  exact ⟨ao, cap, e, hc⟩
theorem RL.one {α : Type} {R : (Nat → Prop) → World → List Value → α → Prop} {k : Nat} {G : Nat → Prop} {w : World} {v : Value} {ys : List α} (h : RL R k G w v ys) : v.oneCell' = true := by
  obtain ⟨ao, cap, rfl, _⟩ := h.form; rfl
theorem RL.nil {α : Type} (R : (Nat → Prop) → World → List Value → α → Prop) (k : Nat) (G : Nat → Prop) (w : World) : RL R k G w (.slice none 0 0) [] := ⟨[], ⟨fun r h => (by cases h), .inl ⟨none, 0, rfl, rfl, Nat.zero_le _⟩⟩, trivial⟩
/-- Either nothing, or at a plain address. -/
theorem RL.at {α : Type} {R : (Nat → Prop) → World → List Value → α → Prop} {k : Nat} {G : Nat → Prop} {w : World} {v : Value} {ys : List α} (h : RL R k G w v ys) (hl : 0 < ys.length) :
    ∃ b off cap, v = .slice (some ⟨b, off, none⟩) ys.length cap ∧ ys.length ≤ cap ∧ cap ≤ maxLen ∧ G b ∧ b < w.heap.size ∧ ∀ (i : Nat) (a : α), ys[i]? = some a → ∃ r, r.length = k ∧ w.rangeAt b (off + i * k) r ∧ R G w r a := by
  obtain ⟨rows, ⟨h0, h1⟩, h2⟩ := h
  have hlen := h2.len
  rcases h1 with ⟨ao, cap, e, e2, h3⟩ | ⟨b, off, cap, e1, e2, e3, e4, e5, e6, e7⟩
  · rw [e2] at hlen; simp at hlen; omega
  · refine ⟨b, off, cap, by rw [e1, hlen], by omega, e3, e5, e6, fun i a ha => ?_⟩
    have hi : i < rows.length := by rw [hlen]; exact (List.getElem?_eq_some_iff.1 ha).1
    have hr := List.getElem?_eq_getElem hi
    exact ⟨rows[i], h0 _ (List.getElem_mem hi), e7 i _ hr, h2.get hr ha⟩
/-! The records. -/
def RInt (_ : Nat → Prop) (_ : World) (r : List Value) (x : Int) : Prop := r = [.int .i64 x]
def RVote (G : Nat → Prop) (w : World) (r : List Value) (x : PVote) : Prop := ∃ s, r = [.int .i64 x.1, s] ∧ RT G w s x.2
def RReq (G : Nat → Prop) (w : World) (r : List Value) (x : PReq) : Prop := ∃ o g, r = [.int .i64 x.1, .int .i64 x.2.1, o, g] ∧ RT G w o x.2.2.1 ∧ RT G w g x.2.2.2
def RPrep (G : Nat → Prop) (w : World) (r : List Value) (x : PPrep) : Prop :=
  ∃ o g c, r = [.int .i64 x.1, .int .i64 x.2.1.1, .int .i64 x.2.1.2, .int .i64 x.2.2.1.1, .int .i64 x.2.2.1.2.1, o, g, c] ∧ RT G w o x.2.2.1.2.2.1 ∧ RT G w g x.2.2.1.2.2.2 ∧ RL RVote 2 G w c x.2.2.2
def RRep (G : Nat → Prop) (w : World) (r : List Value) (x : PRep) : Prop :=
  ∃ d s p g, r = [.int .i64 x.1.1, .int .i64 x.1.2, .int .i64 x.2.1, .int .i64 x.2.2.1, d, s, p, g] ∧ RT G w d x.2.2.2.1 ∧ RL RVote 2 G w s x.2.2.2.2.1 ∧ RL RPrep 8 G w p x.2.2.2.2.2.1 ∧ RT G w g x.2.2.2.2.2.2
theorem mov_int : Mov RInt := fun _ _ _ _ _ _ h _ _ => h
theorem mov_vote : Mov RVote := fun _ _ _ _ _ _ h _ hm => by
  obtain ⟨s, e, h1⟩ := h
  exact ⟨s, e, h1.mv hm⟩
theorem mov_req : Mov RReq := fun _ _ _ _ _ _ h _ hm => by
  obtain ⟨o, g, e, h1, h2⟩ := h
  exact ⟨o, g, e, h1.mv hm, h2.mv hm⟩
theorem mov_prep : Mov RPrep := fun _ _ _ _ _ _ h hs hm => by
  obtain ⟨o, g, c, e, h1, h2, h3⟩ := h
  exact ⟨o, g, c, e, h1.mv hm, h2.mv hm, h3.mv mov_vote hs hm⟩
theorem mov_rep : Mov RRep := fun _ _ _ _ _ _ h hs hm => by
  obtain ⟨d, s, p, g, e, h1, h2, h3, h4⟩ := h
  exact ⟨d, s, p, g, e, h1.mv hm, h2.mv mov_vote hs hm, h3.mv mov_prep hs hm, h4.mv hm⟩
/-- The slices of a message. -/
structure SV where
  o : Value
  g : Value
  o' : Value
  g' : Value
  d : Value
  s : Value
  c : Value
  v : Value
  n : Value
  p : Value
  l : Value
/-- A message's cells. -/
def mc (m : PMsg) (s : SV) : List Value :=
  [.int .i64 m.kind, .int .i64 m.bal.1, .int .i64 m.bal.2, .int .i64 m.slot, .int .i64 m.frm, .int .i64 m.to, .int .i64 m.idx, .int .i64 m.cnt, .int .i64 m.req.1, .int .i64 m.req.2.1, s.o, s.g, .int .i64 m.oth.1, .int .i64 m.oth.2.1, s.o', s.g',
    s.d, s.s, s.c, s.v, s.n, s.p, s.l]
structure SOk (G : Nat → Prop) (w : World) (m : PMsg) (q : SV) : Prop where
  o : RT G w q.o m.req.2.2.1
  g : RT G w q.g m.req.2.2.2
  o' : RT G w q.o' m.oth.2.2.1
  g' : RT G w q.g' m.oth.2.2.2
  d : RT G w q.d m.data
  s : RT G w q.s m.sig
  c : RL RVote 2 G w q.c m.cert
  v : RL RVote 2 G w q.v m.votes
  n : RL RInt 1 G w q.n m.order
  p : RL RReq 4 G w q.p m.picks
  l : RL RRep 8 G w q.l m.reps
theorem SOk.mv {G G' : Nat → Prop} {w w' : World} {m : PMsg} {s : SV} (h : SOk G w m s) (hs : w.heap.size ≤ w'.heap.size) (hm : Mv G G' w w') : SOk G' w' m s :=
  ⟨h.o.mv hm, h.g.mv hm, h.o'.mv hm, h.g'.mv hm, h.d.mv hm, h.s.mv hm, h.c.mv mov_vote hs hm, h.v.mv mov_vote hs hm, h.n.mv mov_int hs hm, h.p.mv mov_req hs hm, h.l.mv mov_rep hs hm⟩
theorem SOk.below {w w' : World} {m : PMsg} {s : SV} (h : SOk Any w m s) (hb : Below w.heap.size w w') : SOk Any w' m s := h.mv hb.size (Mv.below hb)
theorem SOk.one {G : Nat → Prop} {w : World} {m : PMsg} {s : SV} (h : SOk G w m s) : ∀ v ∈ mc m s, v.oneCell' = true := by
  intro v hv
  have h1 := h.o.one; have h2 := h.g.one; have h3 := h.o'.one; have h4 := h.g'.one; have h5 := h.d.one; have h6 := h.s.one; have h7 := h.c.one; have h8 := h.v.one; have h9 := h.n.one; have h10 := h.p.one; have h11 := h.l.one
  simp only [mc, List.mem_cons, List.not_mem_nil, or_false] at hv
  rcases hv with rfl | rfl | rfl | rfl | rfl | rfl | rfl | rfl | rfl | rfl | rfl | rfl | rfl | rfl | rfl | rfl | rfl | rfl | rfl | rfl | rfl | rfl | rfl <;> first | rfl | assumption
def sv0 : SV := ⟨.slice none 0 0, .slice none 0 0, .slice none 0 0, .slice none 0 0, .slice none 0 0, .slice none 0 0, .slice none 0 0, .slice none 0 0, .slice none 0 0, .slice none 0 0, .slice none 0 0⟩
theorem SOk.zero (G : Nat → Prop) (w : World) (k : Int) : SOk G w { zeroM with kind := k } sv0 :=
  ⟨RT.nil _ _, RT.nil _ _, RT.nil _ _, RT.nil _ _, RT.nil _ _, RT.nil _ _, RL.nil _ _ _ _, RL.nil _ _ _ _, RL.nil _ _ _ _, RL.nil _ _ _ _, RL.nil _ _ _ _⟩
end Go.Proofs.YtgpkngiakhdmhaaDoor
