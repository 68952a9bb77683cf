/- The walk over session.keep. -/
import Derived.Test.YtmmcgafmhadioaaXC
import Derived.Deep.RegionLaw
import Derived.Deep.QuietTactic
import Derived.BigQuiet
section
set_option linter.unusedVariables false
set_option linter.unusedSimpArgs false
namespace Go.Proofs.Ytmmcgafmhadioaa
open Go.RowKit Oct Kvl

/-- Of what was there only block b and v's own row may have turned. -/
structure Tw (b : Nat) (v : Value) (w w' : World) : Prop where
  os : w'.os = w.os
  tape : w'.tape = w.tape
  output : w'.output = w.output
  size : w.heap.size ≤ w'.heap.size
  block : ∀ k, k < w.heap.size → k ≠ b → v.ownBlock ≠ some k → w'.heap[k]? = w.heap[k]?
theorem Tw.of_below {b : Nat} {v : Value} {w w' : World} (h : Below w.heap.size w w') : Tw b v w w' := ⟨h.os, h.tape, h.output, h.size, fun k hk _ _ => h.block k hk⟩
theorem Tw.of_b {b : Nat} {v : Value} {w w' : World} (h : w.grownBy w' (some b)) : Tw b v w w' := ⟨h.os, h.tape, h.output, h.size, fun k hk h1 _ => h.block k hk (fun e => h1 (by injection e))⟩
theorem Tw.of_v {b : Nat} {v : Value} {w w' : World} (h : w.grownBy w' v.ownBlock) : Tw b v w w' := ⟨h.os, h.tape, h.output, h.size, fun k hk _ h2 => h.block k hk (fun e => h2 e.symm)⟩
theorem Tw.trans {b : Nat} {v : Value} {w w1 w2 : World} (h : Tw b v w w1) (h' : Tw b v w1 w2) : Tw b v w w2 :=
  ⟨h'.os.trans h.os, h'.tape.trans h.tape, h'.output.trans h.output, Nat.le_trans h.size h'.size, fun k hk h1 h2 => (h'.block k (Nat.lt_of_lt_of_le hk h.size) h1 h2).trans (h.block k hk h1 h2)⟩
theorem Tw.new {b : Nat} {v : Value} {w w1 w2 : World} (h : Tw b v w w1) {n : Nat} (h' : w1.grownBy w2 (some n)) (hn : w.heap.size ≤ n) : Tw b v w w2 :=
  ⟨h'.os.trans h.os, h'.tape.trans h.tape, h'.output.trans h.output, Nat.le_trans h.size h'.size, fun k hk h1 h2 => (h'.block k (Nat.lt_of_lt_of_le hk h.size) (fun e => by injection e with e; omega)).trans (h.block k hk h1 h2)⟩
/-- The list may have moved into memory that is new. -/
theorem Tw.moved {b : Nat} {v v1 : Value} {w w1 w2 : World} (h : Tw b v w w1) (hv : v1.ownBlock = v.ownBlock ∨ Fr w.heap.size v1) (h' : Tw b v1 w1 w2) : Tw b v w w2 :=
  ⟨h'.os.trans h.os, h'.tape.trans h.tape, h'.output.trans h.output, Nat.le_trans h.size h'.size, fun k hk h1 h2 => (h'.block k (Nat.lt_of_lt_of_le hk h.size) h1 (fun e => by
    rcases hv with hv | hv
    · exact h2 (hv ▸ e)
    · have := hv k e; omega)).trans (h.block k hk h1 h2)⟩
theorem Tw.bel {b : Nat} {v : Value} {w w' : World} (h : Tw b v w w') {B : Nat} (hb : B ≤ b) (hv : Fr B v) (hB : B ≤ w.heap.size) : Below B w w' :=
  ⟨h.os, h.tape, h.output, h.size, fun k hk => h.block k (Nat.lt_of_lt_of_le hk hB) (by omega) (fun e => by have := hv k e; omega)⟩
theorem LB.apart {α : Type} {R : (Nat → Prop) → World → List Value → α → Prop} {T : TypeId} {k B : Nat} {w : World} {v : Value} {ys : List α} (h : LB R T k B w v ys) {j : Nat} {t : TypeId} {xs : List Value} (hr : Row w j t xs) (ht : t ≠ T) : v.ownBlock ≠ some j := fun e => by
  obtain ⟨rows, r0, hown, hfr, hall⟩ := h
  rcases hown.2 with ⟨rfl, _⟩ | ⟨g, cap, cur, rfl, _, hgg, _⟩
  · simp [Value.ownBlock] at e
  · simp [Value.ownBlock] at e
    subst e
    unfold Row at hr
    rw [hr] at hgg
    simp at hgg
    exact ht hgg.2
/-- Two lists of unlike kinds lie in unlike rows. -/
theorem LB.twain {α β : Type} {R : (Nat → Prop) → World → List Value → α → Prop} {S : (Nat → Prop) → World → List Value → β → Prop} {T U : TypeId} {k l B C : Nat} {w : World} {v u : Value} {ys : List α} {zs : List β} (h : LB R T k B w v ys) (h' : LB S U l C w u zs) (ht : U ≠ T) : ∀ j, u.ownBlock = some j → v.ownBlock ≠ some j := fun j hj e => by
  obtain ⟨rows, r0, hown, hfr, hall⟩ := h
  obtain ⟨rows', r0', hown', hfr', hall'⟩ := h'
  rcases hown.2 with ⟨rfl, _⟩ | ⟨g, cap, cur, rfl, _, hgg, _⟩
  · simp [Value.ownBlock] at e
  · rcases hown'.2 with ⟨rfl, _⟩ | ⟨g', cap', cur', rfl, _, hgg', _⟩
    · simp [Value.ownBlock] at hj
    · simp [Value.ownBlock] at e hj
      subst e hj
      rw [hgg] at hgg'
      simp at hgg'
      exact ht hgg'.2.symm
theorem Tw.row {b : Nat} {v : Value} {w w' : World} (h : Tw b v w w') {k : Nat} {t : TypeId} {xs : List Value} (hr : Row w k t xs) (hk : k ≠ b) (hv : v.ownBlock ≠ some k) : Row w' k t xs := (h.block k hr.lt hk hv).trans hr
theorem ot_apart {α : Type} {R : (Nat → Prop) → World → List Value → α → Prop} {T : TypeId} {k B : Nat} {w : World} {v : Value} {ys : List α} (h : LB R T k B w v ys) (ht : T ≠ 5) {G : Nat → Prop} {u : Value} {l : List Int} (ho : OT G w u l) : ∀ j, u.ownBlock = some j → v.ownBlock ≠ some j := fun j hj e => by
  rcases ho.1.2 with ⟨rfl, _⟩ | ⟨g, cap, cur, rfl, _, hg, _⟩
  · simp [Value.ownBlock] at hj
  · simp [Value.ownBlock] at hj
    subst hj
    obtain ⟨rows, r0, hown, hfr, hall⟩ := h
    rcases hown.2 with ⟨rfl, _⟩ | ⟨g', cap', cur', rfl, _, hgg', _⟩
    · simp [Value.ownBlock] at e
    · simp [Value.ownBlock] at e
      subst e
      rw [hg] at hgg'
      simp at hgg'
      exact ht hgg'.2.symm
theorem Tw.ot {b : Nat} {v : Value} {w w' : World} (h : Tw b v w w') {B : Nat} {ys : List PEnt} (hs : LB OSes 46 4 B w v ys) {row : List Value} (hb : Row w b 31 row) {G : Nat → Prop} {u : Value} {l : List Int} (ho : OT G w u l) : OT G w' u l := by
  have h1 := ho.ne hb (by decide)
  exact ⟨ho.1.at_block fun k hk => h.block k (ho.1.lt k hk) (h1.2.2 k hk).2 (ot_apart hs (by decide) ho k hk), ho.2.1, ho.2.2⟩
theorem Tw.ent {b : Nat} {v : Value} {w w' : World} (h : Tw b v w w') {B : Nat} {ys : List PEnt} (hs : LB OSes 46 4 B w v ys) {row : List Value} (hb : Row w b 31 row) {C : Nat} {u : Value} {zs : List PEnt} (he : LB OEnt 70 2 C w u zs) : LB OEnt 70 2 C w' u zs := by
  have n1 := he.apart hb (by decide)
  have n2 := hs.twain he (by decide)
  obtain ⟨rows, r0, hown, hfr, hall⟩ := he
  refine ⟨rows, r0, ⟨hown.1, ?_⟩, hfr, hall.mono fun q x hq => ?_⟩
  · rcases hown.2 with h0 | ⟨g, cap, cur, h1, h2, h3, h4⟩
    · exact .inl h0
    · exact .inr ⟨g, cap, cur, h1, h2, (h.block g (Array.getElem?_eq_some_iff.1 h3).1 (fun e => n1 (by rw [h1, ← e]; rfl)) (n2 g (by rw [h1]; rfl))).trans h3, h4⟩
  · obtain ⟨p, q, rfl, o1, o2⟩ := hq
    exact ⟨p, q, rfl, h.ot hs hb o1, h.ot hs hb o2⟩
theorem Tw.lea {b : Nat} {v : Value} {w w' : World} (h : Tw b v w w') {B : Nat} {ys : List PEnt} (hs : LB OSes 46 4 B w v ys) {row : List Value} (hb : Row w b 31 row) {C : Nat} {u : Value} {zs : List PEnt} (he : LB OLea 73 3 C w u zs) : LB OLea 73 3 C w' u zs := by
  have n1 := he.apart hb (by decide)
  have n2 := hs.twain he (by decide)
  obtain ⟨rows, r0, hown, hfr, hall⟩ := he
  refine ⟨rows, r0, ⟨hown.1, ?_⟩, hfr, hall.mono fun q x hq => ?_⟩
  · rcases hown.2 with h0 | ⟨g, cap, cur, h1, h2, h3, h4⟩
    · exact .inl h0
    · exact .inr ⟨g, cap, cur, h1, h2, (h.block g (Array.getElem?_eq_some_iff.1 h3).1 (fun e => n1 (by rw [h1, ← e]; rfl)) (n2 g (by rw [h1]; rfl))).trans h3, h4⟩
  · obtain ⟨p, q', q, rfl, o1, o2⟩ := hq
    exact ⟨p, q', q, rfl, h.ot hs hb o1, o2⟩
theorem LB.grownN {B : Nat} {w w' : World} {v : Value} {ys : List PEnt} {b : Nat} {t : TypeId} {xs : List Value} (h : LB OSes 46 4 B w v ys) (hr : Row w b t xs) (h1 : t ≠ 5) (h2 : t ≠ 46) (hg : w.grownBy w' (some b)) : LB OSes 46 4 B w' v ys := by
  have hne := h.apart hr h2
  obtain ⟨rows, r0, hown, hfr, hall⟩ := h
  refine ⟨rows, r0, World.ownsRow.kept hown hg ?_, hfr, hall.mono fun q x hq => ?_⟩
  · cases hv : v.ownBlock with
    | none => exact .inl rfl
    | some k => exact .inr fun e => hne (hv.trans e)
  · obtain ⟨c, d, k, a, l, rfl, o1, o2⟩ := hq
    have mv : Mv (fun k => (B ≤ k ∧ v.ownBlock ≠ some k) ∧ k ≠ b) (fun k => B ≤ k ∧ v.ownBlock ≠ some k) w w' := fun k hk hlt => ⟨hg.block k hlt (fun e => hk.2 (by injection e)), hk.1⟩
    exact ⟨c, d, k, a, l, rfl, (o1.ne hr h1).mv mv, o2⟩

theorem LB.opnN {B : Nat} {w : World} {v : Value} {ys : List PEnt} (h : LB OSes 46 4 B w v ys) (hp : 0 < ys.length) : ∃ (g cap : Nat) (cur : List Value) (rows : List (List Value)), v = .slice (some ⟨g, 0, none⟩) ys.length cap ∧ Row w g 46 cur ∧ cur.length = cap * 4 ∧ ys.length ≤ cap ∧ cap ≤ maxLen ∧ B ≤ g ∧ rows.length = ys.length ∧ (∀ r ∈ rows, r.length = 4) ∧ cur.take (ys.length * 4) = rows.flatten ∧ All2 (OSes (fun b => B ≤ b ∧ b ≠ g) w) rows ys := by
  obtain ⟨rows, h0, hown, hfr, hall⟩ := h
  have hlen := hall.len
  rw [hlen] at hown
  rcases hown.2 with ⟨_, h4⟩ | ⟨g, cap, cur, rfl, _, hg, hc1, hc2, hc3, hc4⟩
  · omega
  · exact ⟨g, cap, cur.toList, rows, rfl, by unfold Row; simpa using hg, by simpa using hc3, hc1, hc2, hfr g rfl, hlen, h0, hc4, hall.mono fun q b hq => mov_oses _ _ _ _ _ _ hq (Nat.le_refl _) fun k hk _ => ⟨rfl, hk.1, fun e => hk.2 (by simp [Value.ownBlock, e])⟩⟩
theorem LB.mkN {B : Nat} {w : World} {ys : List PEnt} {g cap n : Nat} {cur : List Value} {rows : List (List Value)} (h1 : Row w g 46 cur) (h2 : cur.length = cap * 4) (h3 : n ≤ cap) (h4 : cap ≤ maxLen) (h5 : B ≤ g) (h6 : rows.length = n) (h7 : ∀ r ∈ rows, r.length = 4) (h8 : cur.take (n * 4) = rows.flatten)
    (h9 : All2 (OSes (fun b => B ≤ b ∧ b ≠ g) w) rows ys) : LB OSes 46 4 B w (.slice (some ⟨g, 0, none⟩) n cap) ys :=
  ⟨rows, h7, ⟨flat_len h7, .inr ⟨g, cap, cur.toArray, by rw [h6], Nat.zero_le _, h1, by omega, h4, by simpa using h2, by rw [h6]; simpa using h8⟩⟩, fr_at _ _ _ _ h5, h9.mono fun q b hq => mov_oses _ _ _ _ _ _ hq (Nat.le_refl _) fun k hk _ => ⟨rfl, hk.1, fun e => hk.2 (by simp [Value.ownBlock] at e; exact e.symm)⟩⟩
theorem set_split {α : Type} {l : List α} {p : Nat} (h : p < l.length) (y : α) : l.set p y = l.take p ++ y :: l.drop (p + 1) := by
  rw [List.set_eq_take_append_cons_drop, if_pos h]
/-- A record in the place of another. -/
theorem LB.putN {B : Nat} {w w2 : World} {ys : List PEnt} {g cap p : Nat} {cur : List Value} {rows : List (List Value)} {r' : List Value} {x' : PEnt} (h1 : Row w g 46 cur) (h2 : cur.length = cap * 4) (h3 : ys.length ≤ cap) (h4 : cap ≤ maxLen) (h5 : B ≤ g) (h6 : rows.length = ys.length) (h7 : ∀ r ∈ rows, r.length = 4) (h8 : cur.take (ys.length * 4) = rows.flatten)
    (h9 : All2 (OSes (fun b => B ≤ b ∧ b ≠ g) w) rows ys) (hp : p < ys.length) (hr' : OSes (fun b => B ≤ b ∧ b ≠ g) w r' x') (hg2 : w.grownBy w2 (some g)) (hr2 : Row w2 g 46 (splice cur (p * 4) r')) : LB OSes 46 4 B w2 (.slice (some ⟨g, 0, none⟩) ys.length cap) (ys.set p x') := by
  have hl : r'.length = 4 := by obtain ⟨c, d, k, a, l, rfl, _⟩ := hr'; rfl
  have hmv : Mv (fun b => B ≤ b ∧ b ≠ g) (fun b => B ≤ b ∧ b ≠ g) w w2 := fun j hj hlt => ⟨hg2.block j hlt (fun e => by injection e with e; exact hj.2 e), hj⟩
  obtain ⟨b0, hb0⟩ : ∃ b0, rows[p]? = some b0 := ⟨_, List.getElem?_eq_getElem (by omega)⟩
  have hsp : rows = rows.take p ++ b0 :: rows.drop (p + 1) := by rw [← drop_cons hb0, List.take_append_drop]
  have hc : ys.length * 4 ≤ cur.length := by omega
  have hA : ∀ r ∈ rows.take p, r.length = 4 := fun r hr => h7 r (List.mem_of_mem_take hr)
  have hB' : ∀ r ∈ b0 :: rows.drop (p + 1), r.length = 4 := fun r hr => h7 r (by rw [hsp]; exact List.mem_append_right _ hr)
  refine LB.mkN hr2 (by rw [length_splice _ _ _ (by omega), h2]) h3 h4 h5 (rows := rows.take p ++ r' :: rows.drop (p + 1)) ?_ (fun r hr => ?_) ?_ ?_
  · rw [List.length_append, List.length_cons, List.length_take, List.length_drop]; omega
  · rcases List.mem_append.1 hr with hr | hr
    · exact hA r hr
    · rcases List.mem_cons.1 hr with rfl | hr
      · exact hl
      · exact hB' r (by simp [hr])
  · exact flat_put (A := rows.take p) (b0 := b0) (B := rows.drop (p + 1)) hA hB' hl (by rw [List.length_take]; omega) (by rw [← hsp, h6]) hc (by rw [← hsp]; exact h8)
  · rw [← set_split (l := rows) (by omega) r']
    exact All2.set (h9.mono fun q z hq => mov_oses _ _ _ _ _ _ hq hg2.size hmv) (mov_oses _ _ _ _ _ _ hr' hg2.size hmv)
theorem spl4 {cur : List Value} {p : Nat} {a b c d : Value} (h : p + 4 ≤ cur.length) : (((cur.set p a).set (p + 1) b).set (p + 2) c).set (p + 3) d = splice cur p [a, b, c, d] := by
  apply List.ext_getElem?
  intro i
  unfold splice
  rw [List.getElem?_set, List.getElem?_set, List.getElem?_set, List.getElem?_set]
  simp only [List.length_set]
  rcases Nat.lt_or_ge i p with h1 | h1
  · rw [if_neg (by omega), if_neg (by omega), if_neg (by omega), if_neg (by omega), List.getElem?_append_left (by rw [List.length_take]; omega), List.getElem?_take, if_pos h1]
  · obtain ⟨j, rfl⟩ : ∃ j, i = p + j := ⟨i - p, by omega⟩
    have hl : (cur.take p).length = p := by rw [List.length_take]; omega
    rw [List.getElem?_append_right (by omega), hl, Nat.add_sub_cancel_left]
    match j with
    | 0 => simp; omega
    | 1 => simp; omega
    | 2 => simp; omega
    | 3 => simp; omega
    | j + 4 =>
      rw [if_neg (by omega), if_neg (by omega), if_neg (by omega), if_neg (by omega), List.getElem?_append_right (by simp), List.getElem?_drop]
      congr 1
      simp
      omega
end Go.Proofs.Ytmmcgafmhadioaa
end

section
set_option linter.unusedVariables false
set_option linter.unusedSimpArgs false
namespace Go.Proofs.Ytmmcgafmhadioaa
open Go.RowKit Oct Kvl

/-- The state in block b, and what may have turned. -/
def Rk1 (b B : Nat) (w : World) (vs : Value) (a : PApp) (w' : World) : Prop := ∃ row, OApp B w' row a ∧ Row w' b 31 row ∧ Tw b vs w w'

set_option maxRecDepth 10000 in
set_option maxHeartbeats 4000000 in
/-- session.keep. -/
theorem keep_any (w : World) (b B : Nat) (ve vl vs : Value) (a : PApp) (h1 : LB OEnt 70 2 B w ve a.2.1) (h2 : LB OLea 73 3 B w vl a.2.2.1) (h3 : LB OSes 46 4 B w vs a.2.2.2) (hrow : Row w b 31 [.int .i64 a.1, ve, vl, vs]) (hB : B ≤ w.heap.size)
    (m : List Int) (hup : up m a.2.2.2) (hlen : a.2.2.2.length ≤ 64) (r : List Value) (c d k : Int) (l : List Int) (hx : RSes Any w r ([c], d :: k :: l)) (hz : szT l) :
    Calls Try.prog 45 #[.pointer (some ⟨b, 0, none⟩), .agg r.toArray] w fun e w' => e = .returned (.tuple #[]) ∧ Rk1 b B w vs (a.1, a.2.1, a.2.2.1, putR [c] (d :: k :: l) a.2.2.2) w' := by
  generalize hys : a.2.2.2 = ys at *
  have hxall := hx
  obtain ⟨c', d', k', av, l', rfl, ha, hxe⟩ := hx
  injection hxe with e1 e2
  injection e1 with e1 _
  injection e2 with e2 e3
  injection e3 with e3 e4
  subst e1 e2 e3 e4
  obtain ⟨w0, hw0⟩ : ∃ w0, w0 = w.alloc (.cells #[.int .i64 c, .int .i64 d, .int .i64 k, av] 46) := ⟨_, rfl⟩
  have B0 : Below w.heap.size w w0 := by rw [hw0]; exact below_alloc _ _
  have s0 : Row w0 w.heap.size 46 [.int .i64 c, .int .i64 d, .int .i64 k, av] := by rw [hw0]; exact Row.new w _ _
  have hC := cloneSession_any w0 _ _ (mov_ses _ _ _ _ _ _ hxall B0.size (Mv.below B0)) hz
  have hfr := h3.fr
  have hlt := h3.lt
  go_enter Try.func45, Try.ntmps45
  go_upto_region 1 with fail
  rw [← hw0]
  clear hw0
  go_upto_region 2 with (first
    | (refine wl_load rfl _ _ rfl w.heap.size rfl _ _ s0 _ Try.underlying46 rfl (by kernel_rfl) ?_)
    | (go_at_call 42; refine hC.mono ?_; rintro e w1 ⟨r1, rfl, o1, hb1⟩; obtain ⟨c1, d1, k1, a1, l1, rfl, t1, hx1⟩ := o1; have s1 := s0.below hb1)
    | (refine wl_store rfl _ _ _ rfl w.heap.size [.int .i64 c1, .int .i64 d1, .int .i64 k1, a1] rfl rfl _ _ s1 rfl (by kernel_rfl) (onN4 t1.one) ?_; intro w2 hs2 hg2))
  injection hx1 with e1 e2
  injection e1 with e1 _
  injection e2 with e2 e3
  injection e3 with e3 e4
  subst e1 e2 e3 e4
  obtain ⟨ax, cx, rfl, hcx⟩ := t1.rt.form
  have hs2 : Row w2 w.heap.size 46 [.int .i64 c, .int .i64 d, .int .i64 k, .slice ax l.length cx] := hs2.out
  have hb01 := below_and B0 (Nat.le_refl _) hb1
  have T2 : Below w.heap.size w w2 := hb01.trans (grown_below hg2 hb01.size (fun k hk => by cases hk; exact Nat.le_refl _))
  have t2 : OT (From w0.heap.size) w2 (.slice ax l.length cx) l := t1.mv (Mv.from hg2 (by have := s0.lt; omega) (Nat.le_refl _))
  have hs02 := Nat.le_trans hb1.size hg2.size
  have hwl := s0.lt
  have q1 := h1.below mov_oent T2
  have q2 := h2.below mov_olea T2
  have q3 := h3.below mov_oses T2
  have r2 := hrow.below T2
  have hbw := hrow.lt
  have hbl : b ≠ w.heap.size := Nat.ne_of_lt hbw
  have HS := (show Hid (∀ u, Below w2.heap.size w2 u → Calls Try.prog 59 #[vs, .int .i64 c, .func (.func 60) #[] #[]] u fun e w' => e = .returned (.tuple #[.int .i64 (pos [c] ys), .bool (isIn [c] ys)]) ∧ Below u.heap.size u w' ∧ Below w2.heap.size w2 w') from fun u hu => (searchN_any u vs ys ((Rn.rl q3).mv mov_ses hu.size (Mv.below hu)) c m hup hlen).mono fun e w' ⟨e1, e2⟩ => ⟨e1, e2, below_and hu (Nat.le_refl _) e2⟩)
  have hpl : pos [c] ys ≤ ys.length := pos_le
  have hgo : putR [c] (d :: k :: l) ys = if isIn [c] ys then ys.set (pos [c] ys) ([c], d :: k :: l) else insL (pos [c] ys) ([c], d :: k :: l) ys := by
    unfold isIn
    cases hg : getR [c] ys with
    | none => simp only [Option.isSome_none, Bool.false_eq_true, if_false]; exact put_new hg
    | some u => simp only [Option.isSome_some, if_true]; exact put_old hg
  have hplt : isIn [c] ys = true → pos [c] ys < ys.length := by
    unfold isIn
    cases hg : getR [c] ys with
    | none => intro h; simp at h
    | some u => intro _; exact (List.getElem?_eq_some_iff.1 (get_some hg)).1
  have HGO := (show Hid (putR [c] (d :: k :: l) ys = if isIn [c] ys then ys.set (pos [c] ys) ([c], d :: k :: l) else insL (pos [c] ys) ([c], d :: k :: l) ys) from hgo)
  clear hgo
  generalize pos [c] ys = p at *
  have SK := (show Hid (∀ u, Below w2.heap.size w2 u → u.cell? ⟨b, 3, none⟩ = some vs ∧ u.cell? ⟨w.heap.size, 0, none⟩ = some (.int .i64 c)) from fun u hu => ⟨(r2.below hu).cell (j := 3) rfl, (hs2.below hu).cell (j := 0) rfl⟩)
  obtain ⟨C3, S0⟩ := SK.out w2 (Below.refl _ _)
  have hdw : Below w2.heap.size w2 w2.drew := ⟨rfl, rfl, rfl, Nat.le_refl _, fun _ _ => rfl⟩
  clear hC hxall h1 h2 h3 hrow s0 s1 hb1 hg2 B0 hb01 t1 hup ha
  cases hin : isIn [c] ys with
  | true =>
    have hpp := hplt hin
    rw [hin] at HS HGO
    clear hplt hin
    go_region_held3 (fun u => u.cell? ⟨b, 3, none⟩ = some vs ∧ u.cell? ⟨w.heap.size, 0, none⟩ = some (.int .i64 c))
      (first | exact SK.out _ (by assumption) | go_keep)
      (first | (go_at_call 59; refine (HS.out _ (by first | assumption | exact Below.refl _ _)).mono ?_; rintro e w3 ⟨rfl, hb3, hB3⟩))
    have hsB3 := hs2.below hB3
    have r3 := r2.below hB3
    have t3 := t2.mv (Mv.belowG hB3)
    obtain ⟨g, cap, cur, rows, rfl, k1, k2, k3, k4, k5, k6, k7, k8, k9⟩ := (q3.below mov_oses hB3).opnN (by omega)
    have hgl : g < w.heap.size := hlt g rfl
    have hgw : g ≠ w.heap.size := Nat.ne_of_lt hgl
    have hgb : b ≠ g := fun e => by subst e; exact (Row.apart r3 k1 (by decide)) rfl
    obtain ⟨rp, hrp⟩ : ∃ rp, rows[p]? = some rp := ⟨_, List.getElem?_eq_getElem (by omega)⟩
    have hrl := k7 rp (List.mem_of_getElem? hrp)
    have hcell : ∀ j, j < 4 → ∃ z, w3.cell? ⟨g, p * 4 + j, none⟩ = some z := fun j hj => by
      have hz := List.getElem?_eq_getElem (l := rp) (i := j) (by omega)
      have := flat_at (j := j) k7 hrp hz
      rw [← k8, List.getElem?_take, if_pos (by omega)] at this
      exact ⟨_, k1.cell this⟩
    obtain ⟨z0, e0⟩ := hcell 0 (by decide)
    obtain ⟨z1, e1⟩ := hcell 1 (by decide)
    obtain ⟨z2, e2⟩ := hcell 2 (by decide)
    obtain ⟨z3, e3⟩ := hcell 3 (by decide)
    have e0 : w3.cell? ⟨g, p * 4, none⟩ = some z0 := e0
    have f0 : w3.frozen? ⟨g, p * 4, none⟩ = false := k1.frozen (p * 4)
    have f1 := k1.frozen (p * 4 + 1)
    have f2 := k1.frozen (p * 4 + 2)
    have f3 := k1.frozen (p * 4 + 3)
    have i0 := hsB3.cell (j := 0) rfl
    have i1 := hsB3.cell (j := 1) rfl
    have i2 := hsB3.cell (j := 2) rfl
    have i3 := hsB3.cell (j := 3) rfl
    have C3 := r3.cell (j := 3) rfl
    have hpi : (p : Int) < (ys.length : Int) := by omega
    have hy64 : (ys.length : Int) ≤ 64 := by omega
    go_upto_region 4 with fail
    go_region
    have T3 := below_and T2 (Nat.le_refl _) hB3
    have hr4 := ((((k1.set (p * 4) (.int .i64 c)).set (p * 4 + 1) (.int .i64 d)).set (p * 4 + 2) (.int .i64 k)).set (p * 4 + 3) (.slice ax l.length cx)).drew
    rw [spl4 (by omega)] at hr4
    have hg4 := grown_to_drew (grown_trans (grown_trans (grown_trans (grown_set w3 g (p * 4) (.int .i64 c)) (grown_set _ g (p * 4 + 1) (.int .i64 d)) (.inl rfl)) (grown_set _ g (p * 4 + 2) (.int .i64 k)) (.inl rfl)) (grown_set _ g (p * 4 + 3) (.slice ax l.length cx)) (.inl rfl))
    generalize ((((w3.setCell ⟨g, p * 4, none⟩ (.int .i64 c)).setCell ⟨g, p * 4 + 1, none⟩ (.int .i64 d)).setCell ⟨g, p * 4 + 2, none⟩ (.int .i64 k)).setCell ⟨g, p * 4 + 3, none⟩ (.slice ax l.length cx)).drew = w4 at *
    go_wp2_with fail
    go_end0
    have hmv : Mv (From w0.heap.size) (fun b => B ≤ b ∧ b ≠ g) w3 w3 := fun j hj _ => ⟨rfl, by unfold From at hj; omega, by unfold From at hj; omega⟩
    have hL := LB.putN k1 k2 k3 k4 k5 k6 k7 k8 k9 hpp ⟨c, d, k, _, l, rfl, t3.mv hmv, rfl⟩ hg4 hr4
    refine ⟨rfl, [.int .i64 a.1, ve, vl, .slice (some ⟨g, 0, none⟩) ys.length cap], ⟨_, _, _, rfl, (q1.below mov_oent hB3).grownR k1 (by decide) (by decide) hg4, (q2.below mov_olea hB3).grownL k1 (by decide) (by decide) hg4, ?_⟩, r3.grown hg4 (fun e => by injection e with e; exact hgb e.symm), (Tw.of_below T3).trans (Tw.of_v hg4)⟩
    rw [HGO.out]
    exact hL
  | false =>
    rw [hin] at HS HGO
    clear hplt hin
    go_region_held3 (fun u => u.cell? ⟨b, 3, none⟩ = some vs ∧ u.cell? ⟨w.heap.size, 0, none⟩ = some (.int .i64 c))
      (first | exact SK.out _ (by assumption) | go_keep)
      (first | (go_at_call 59; refine (HS.out _ (by first | assumption | exact Below.refl _ _)).mono ?_; rintro e w3 ⟨rfl, hb3, hB3⟩))
    have hsB3 := hs2.below hB3
    have r3 := r2.below hB3
    have t3 := t2.mv (Mv.belowG hB3)
    have q3' := q3.below mov_oses hB3
    have T3 := below_and T2 (Nat.le_refl _) hB3
    have HI := (show Hid (∀ (u : World) (vb : Nat), Below w3.heap.size w3 u → w3.heap.size ≤ vb → Row u vb 46 [.int .i64 c, .int .i64 d, .int .i64 k, .slice ax l.length cx] → Calls Try.prog 62 #[vs, .int .i64 (p : Int), .slice (some ⟨vb, 0, none⟩) 1 1] u fun e w' => ∃ ai ni ci, e = .returned (.slice ai ni ci) ∧ LB OSes 46 4 B w' (.slice ai ni ci) (insL p ([c], d :: k :: l) ys) ∧ Tw b vs w3 w' ∧ Row w' b 31 [.int .i64 a.1, ve, vl, vs]) from fun u vb hu hvb hr => (insertN_any u vs B ys (q3'.below mov_oses hu) (Nat.le_trans hB (Nat.le_trans T3.size hu.size)) hlen p hpl vb _ hr (fun e => by have := hlt vb e; have := T3.size; omega) ([c], d :: k :: l) ⟨c, d, k, _, l, rfl, t3.mv (fun j hj hlt' => ⟨hu.block j hlt', by unfold From at hj; omega, fun e => by have := hlt j e; unfold From at hj; omega⟩), rfl⟩).mono fun e w' ⟨v', e1, e2, e3⟩ => by
      obtain ⟨ai, ci, rfl, _⟩ := (Rn.rl e2).form
      exact ⟨ai, _, ci, e1, e2, (Tw.of_below hu).trans (Tw.of_v e3), (r3.below hu).grown e3 (fun e => q3'.apart r3 (by decide) e)⟩)
    have SK3 := (show Hid (∀ u, Below w3.heap.size w3 u → u.cell? ⟨b, 3, none⟩ = some vs ∧ u.cell? ⟨w.heap.size, 0, none⟩ = some (.int .i64 c) ∧ u.cell? ⟨w.heap.size, 1, none⟩ = some (.int .i64 d) ∧ u.cell? ⟨w.heap.size, 2, none⟩ = some (.int .i64 k) ∧ u.cell? ⟨w.heap.size, 3, none⟩ = some (.slice ax l.length cx)) from fun u hu => ⟨(r3.below hu).cell (j := 3) rfl, (hsB3.below hu).cell (j := 0) rfl, (hsB3.below hu).cell (j := 1) rfl, (hsB3.below hu).cell (j := 2) rfl, (hsB3.below hu).cell (j := 3) rfl⟩)
    obtain ⟨C3, i0, i1, i2, i3⟩ := SK3.out w3 (Below.refl _ _)
    have hba := below_alloc w3 (.cells #[.int .i64 c, .int .i64 d, .int .i64 k, .slice ax l.length cx] 46)
    obtain ⟨D3, j0, j1, j2, j3⟩ := SK3.out _ hba
    have hdw3 : Below w3.heap.size w3 w3.drew := ⟨rfl, rfl, rfl, Nat.le_refl _, fun _ _ => rfl⟩
    have hrn := Row.new w3 46 [.int .i64 c, .int .i64 d, .int .i64 k, .slice ax l.length cx]
    go_upto_region 5 with fail
    go_region_law (go_simp; go_at_call 62; refine (HI.out _ w3.heap.size (by first | exact hba | exact Below.drew hba | exact below_and hdw3 (Nat.le_refl _) (below_alloc _ _)) (Nat.le_refl _) (by first | exact hrn | exact hrn.drew)).mono ?_; rintro e w4 ⟨ai, ni, ci, rfl, hL4, hg4, r4⟩; have c4 := r4.cell (j := 3) rfl; have f4 := r4.frozen 3)
    all_goals (
      have g5 := grown_set w4 b 3 (.slice ai ni ci)
      have r5 : Row (w4.setCell ⟨b, 3, none⟩ (.slice ai ni ci)) b 31 [.int .i64 a.1, ve, vl, .slice ai ni ci] := r4.set 3 (.slice ai ni ci)
      generalize w4.setCell ⟨b, 3, none⟩ (.slice ai ni ci) = w5 at *
      go_wp2_with fail
      go_end0
      refine ⟨rfl, _, ⟨_, _, _, rfl, (hg4.ent q3' r3 (q1.below mov_oent hB3)).grownR r4 (by decide) (by decide) g5, (hg4.lea q3' r3 (q2.below mov_olea hB3)).grownL r4 (by decide) (by decide) g5, ?_⟩, r5, ((Tw.of_below T3).trans hg4).trans (Tw.of_b g5)⟩
      rw [HGO.out]
      exact hL4.grownN r4 (by decide) (by decide) g5)
end Go.Proofs.Ytmmcgafmhadioaa
end
