/- Packets and bags in memory; clone.Packet; slices.Delete of one packet. -/
import Derived.Test.YtikfldigjieloaaCl
import Derived.Test.YtikfldigjieloaaKd0
import Derived.Test.YtikfldigjieloaaGr0
set_option linter.unusedVariables false
set_option linter.unusedSimpArgs false
namespace Go.Proofs.Ytikfldigjieloaa
open Go.RowKit Oct Kvl

/-- A packet: from, to, bytes. -/
abbrev PPk := Int × Int × List Int
def RPk (G : Nat → Prop) (w : World) (r : List Value) (x : PPk) : Prop := ∃ s, r = [.int .i64 x.1, .int .i64 x.2.1, s] ∧ RT G w s x.2.2
theorem mov_pk : Mov RPk := fun _ _ _ _ _ _ h _ hm => by
  obtain ⟨s, e, h1⟩ := h
  exact ⟨s, e, h1.mv hm⟩
theorem onP3 {u : Value} {p q : Int} (hu : u.oneCell' = true) : ∀ x ∈ [Value.int .i64 p, Value.int .i64 q, u], x.oneCell' = true := by
  intro x hx
  simp only [List.mem_cons, List.not_mem_nil, or_false] at hx
  rcases hx with rfl | rfl | rfl <;> first | assumption | rfl
theorem one_RPk {G : Nat → Prop} {w : World} {r : List Value} {x : PPk} (h : RPk G w r x) : ∀ v ∈ r, v.oneCell' = true := by
  obtain ⟨s, rfl, h1⟩ := h
  exact onP3 h1.one
/-- A packet whose bytes lie in a row of their own, in a block of which GG holds. -/
def OPk (GG : Nat → Prop) (G : Nat → Prop) (w : World) (r : List Value) (x : PPk) : Prop := ∃ s, r = [.int .i64 x.1, .int .i64 x.2.1, s] ∧ OT (fun k => G k ∧ GG k) w s x.2.2
theorem mov_opk (GG : Nat → Prop) : Mov (OPk GG) := fun _ _ _ _ _ _ h _ hm => by
  obtain ⟨s, e, h1⟩ := h
  exact ⟨s, e, h1.mv fun k hk hlt => ⟨(hm k hk.1 hlt).1, (hm k hk.1 hlt).2, hk.2⟩⟩
theorem OPk.pk {GG G : Nat → Prop} {w : World} {r : List Value} {x : PPk} (h : OPk GG G w r x) : RPk G w r x := by
  obtain ⟨s, e, h1⟩ := h
  exact ⟨s, e, (h1.mv fun k hk _ => ⟨rfl, hk.1⟩).rt⟩
theorem one_OPk {GG G : Nat → Prop} {w : World} {r : List Value} {x : PPk} (h : OPk GG G w r x) : ∀ v ∈ r, v.oneCell' = true := one_RPk h.pk

theorem Try.infPk : (Try.prog.info? 29).map (fun i => (i.zero, i.size, i.bytes)) = some (some (.agg #[.int .i64 0, .int .i64 0, .slice none 0 0]), 3, 40) := by kernel_rfl
theorem Try.sizPk : (Try.prog.info? 29).map (·.size) = some 3 := by kernel_rfl

/-- A bag's packets. -/
def LPk (GG : Nat → Prop) (w : World) (v : Value) (ys : List PPk) : Prop := LB (OPk GG) 29 3 0 w v ys
theorem LPk.ne {GG : Nat → Prop} {w : World} {v : Value} {ys : List PPk} (h : LPk GG w v ys) {b : Nat} {t : TypeId} {xs : List Value} (hr : Row w b t xs) (ht : t ≠ 29) : v.ownBlock ≠ some b := by
  obtain ⟨rows, _, hown, _⟩ := h
  intro e
  rcases hown.2 with ⟨rfl, _⟩ | ⟨g, cap, cur, rfl, _, hgg, _⟩
  · simp [Value.ownBlock] at e
  · simp [Value.ownBlock] at e
    subst e
    unfold Row at hr
    rw [hr] at hgg
    simp at hgg
    exact ht hgg.2
/-- What lies in the texts' blocks and in the list's own row is as it was. -/
theorem LPk.mv {GG GG' : Nat → Prop} {w w' : World} {v : Value} {ys : List PPk} (h : LPk GG w v ys) (hs : w.heap.size ≤ w'.heap.size) (hv : ∀ k, v.ownBlock = some k → w'.heap[k]? = w.heap[k]?)
    (hm : ∀ k, GG k → v.ownBlock ≠ some k → k < w.heap.size → w'.heap[k]? = w.heap[k]? ∧ GG' k) : LPk GG' w' v ys := by
  obtain ⟨rows, h0, h1, h2, h3⟩ := h
  refine ⟨rows, h0, ⟨h1.1, ?_⟩, h2, h3.mono fun r a hr => ?_⟩
  · rcases h1.2 with h | ⟨g, cap, cur, e1, e2, e3, e4⟩
    · exact .inl h
    · exact .inr ⟨g, cap, cur, e1, e2, (hv g (by rw [e1]; rfl)).trans e3, e4⟩
  · obtain ⟨s, e, ho⟩ := hr
    exact ⟨s, e, ho.mv fun k hk hlt => ⟨(hm k hk.2 hk.1.2 hlt).1, hk.1, (hm k hk.2 hk.1.2 hlt).2⟩⟩
theorem LPk.weak {GG GG' : Nat → Prop} {w : World} {v : Value} {ys : List PPk} (h : LPk GG w v ys) (hm : ∀ k, GG k → k < w.heap.size → GG' k) : LPk GG' w v ys := h.mv (Nat.le_refl _) (fun _ _ => rfl) fun k hk _ hlt => ⟨rfl, hm k hk hlt⟩
theorem LPk.below {GG : Nat → Prop} {w w' : World} {v : Value} {ys : List PPk} (h : LPk GG w v ys) (hb : Below w.heap.size w w') : LPk GG w' v ys := LB.below (mov_opk GG) h hb
theorem LPk.lt {GG : Nat → Prop} {w : World} {v : Value} {ys : List PPk} (h : LPk GG w v ys) : ∀ g, v.ownBlock = some g → g < w.heap.size := LB.lt h
theorem LPk.rl {GG : Nat → Prop} {w : World} {v : Value} {ys : List PPk} (h : LPk GG w v ys) : RL (OPk GG) 3 (From 0) w v ys := LB.rl (mov_opk GG) h
theorem LPk.form {GG : Nat → Prop} {w : World} {v : Value} {ys : List PPk} (h : LPk GG w v ys) : ∃ ao cap, v = .slice ao ys.length cap ∧ cap ≤ maxLen := h.rl.form
theorem LPk.one {GG : Nat → Prop} {w : World} {v : Value} {ys : List PPk} (h : LPk GG w v ys) : v.oneCell' = true := h.rl.one
theorem LPk.nil (GG : Nat → Prop) (w : World) : LPk GG w (.slice none 0 0) [] := LB.nil _ _ _ _ _
/-- A store into a block of another kind. -/
theorem LPk.grownR {GG : Nat → Prop} {w w' : World} {v : Value} {ys : List PPk} {b : Nat} {t : TypeId} {xs : List Value} (h : LPk GG w v ys) (hr : Row w b t xs) (h1 : t ≠ 5) (h2 : t ≠ 29) (hg : w.grownBy w' (some b)) : LPk GG w' v ys := by
  have hne := h.ne hr h2
  obtain ⟨rows, r0, hown, hfr, hall⟩ := h
  refine ⟨rows, r0, World.ownsRow.kept hown hg ?_, hfr, hall.mono fun q x hq => ?_⟩
  · cases hv : v.ownBlock with
    | none => exact .inl rfl
    | some k => exact .inr fun e => hne (hv.trans e)
  · obtain ⟨s, rfl, o1⟩ := hq
    exact ⟨s, rfl, (o1.ne hr h1).mv fun k hk hlt => ⟨hg.block k hlt (fun e => hk.2 (by injection e)), hk.1⟩⟩
/-- The same, into a packet's box. -/
theorem LPk.grownB {GG : Nat → Prop} {w w' : World} {v : Value} {ys : List PPk} {b : Nat} {t : TypeId} {xs : List Value} (h : LPk GG w v ys) (hr : Row w b t xs) (h1 : t ≠ 5) (hne : v.ownBlock ≠ some b) (hg : w.grownBy w' (some b)) : LPk GG w' v ys := by
  obtain ⟨rows, r0, hown, hfr, hall⟩ := h
  refine ⟨rows, r0, World.ownsRow.kept hown hg ?_, hfr, hall.mono fun q x hq => ?_⟩
  · cases hv : v.ownBlock with
    | none => exact .inl rfl
    | some k => exact .inr fun e => hne (hv.trans e)
  · obtain ⟨s, rfl, o1⟩ := hq
    exact ⟨s, rfl, (o1.ne hr h1).mv fun k hk hlt => ⟨hg.block k hlt (fun e => hk.2 (by injection e)), hk.1⟩⟩
theorem LPk.opn {GG : Nat → Prop} {w : World} {v : Value} {ys : List PPk} (h : LPk GG w v ys) (hp : 0 < ys.length) : ∃ (g cap : Nat) (cur : List Value) (rows : List (List Value)), v = .slice (some ⟨g, 0, none⟩) ys.length cap ∧ Row w g 29 cur ∧ cur.length = cap * 3 ∧ ys.length ≤ cap ∧ cap ≤ maxLen ∧ rows.length = ys.length ∧ (∀ r ∈ rows, r.length = 3) ∧ cur.take (ys.length * 3) = rows.flatten ∧ All2 (OPk GG (fun b => b ≠ g) w) rows ys := by
  obtain ⟨rows, h0, hown, hfr, hall⟩ := h
  have hlen := hall.len
  rw [hlen] at hown
  rcases hown.2 with ⟨_, h4⟩ | ⟨g, cap, cur, rfl, _, hg, hc1, hc2, hc3, hc4⟩
  · omega
  · exact ⟨g, cap, cur.toList, rows, rfl, by unfold Row; simpa using hg, by simpa using hc3, hc1, hc2, hlen, h0, hc4, hall.mono fun q b hq => mov_opk GG _ _ _ _ _ _ hq (Nat.le_refl _) fun k hk _ => ⟨rfl, fun e => hk.2 (by simp [Value.ownBlock, e])⟩⟩
theorem LPk.mk {GG : Nat → Prop} {w : World} {ys : List PPk} {g cap n : Nat} {cur : List Value} {rows : List (List Value)} (h1 : Row w g 29 cur) (h2 : cur.length = cap * 3) (h3 : n ≤ cap) (h4 : cap ≤ maxLen) (h6 : rows.length = n) (h7 : ∀ r ∈ rows, r.length = 3) (h8 : cur.take (n * 3) = rows.flatten)
    (h9 : All2 (OPk GG (fun b => b ≠ g) w) rows ys) : LPk GG w (.slice (some ⟨g, 0, none⟩) n cap) ys :=
  ⟨rows, h7, ⟨flat_len h7, .inr ⟨g, cap, cur.toArray, by rw [h6], Nat.zero_le _, h1, by omega, h4, by simpa using h2, by rw [h6]; simpa using h8⟩⟩, fr_at _ _ _ _ (Nat.zero_le _), h9.mono fun q b hq => mov_opk GG _ _ _ _ _ _ hq (Nat.le_refl _) fun k hk _ => ⟨rfl, Nat.zero_le _, fun e => hk (by simp [Value.ownBlock] at e; exact e.symm)⟩⟩

theorem results_ctP {P : Program} {fn : Func} {p t : Tmp} {ty : TypeId} (h : fn.results = #[.cell p ty, .tmp t]) (tmps : Array Value) (w : World) (g : Nat) (tt : TypeId) (cs : Array Value) (fr : Nat × Nat) (d : TypeDesc)
    (hp : tmps.getD p undef = .pointer (some ⟨g, 0, none⟩)) (hg : w.heap[g]? = some (.cells cs tt fr))
    (hu : P.underlying ty = some d) (hd : (match d with | .struct _ | .array _ _ => true | _ => false) = true) (hi : (P.info? ty).map (·.size) = some cs.size) :
    (results fn tmps).run P w = .ok (.tuple #[.agg cs, tmps.getD t undef]) w := by
  have hp' : tmps[p]?.getD undef = .pointer (some ⟨g, 0, none⟩) := by simpa using hp
  simp [results, h, hp', asAddr, run_loadVar_row w g tt ty cs fr d hg hu hd hi]

set_option maxRecDepth 10000 in
set_option maxHeartbeats 2000000 in
/-- clone.Packet. -/
theorem clonePk_any (w : World) (r : List Value) (x : PPk) (h : RPk Any w r x) (hz : szT x.2.2) :
    Calls Try.prog 18 #[.agg r.toArray] w fun e w' => ∃ s, e = .returned (.agg ([.int .i64 x.1, .int .i64 x.2.1, s] : List Value).toArray) ∧ OT (From w.heap.size) w' s x.2.2 ∧ Below w.heap.size w w' := by
  obtain ⟨vo, rfl, ho⟩ := h
  obtain ⟨p, q, l⟩ := x
  simp only at hz ho ⊢
  obtain ⟨w2, hw2⟩ : ∃ w2, w2 = (w.alloc (.cells #[.int .i64 p, .int .i64 q, vo] 29)).alloc (.cells #[.int .i64 0, .int .i64 0, .slice none 0 0] 29) := ⟨_, rfl⟩
  have ra : Row w2 w.heap.size 29 [.int .i64 p, .int .i64 q, vo] := by rw [hw2]; exact rowA (Row.new w 29 _) _
  have rr : Row w2 (w.heap.size + 1) 29 [.int .i64 0, .int .i64 0, .slice none 0 0] := by
    rw [hw2]
    have := Row.new (w.alloc (.cells #[.int .i64 p, .int .i64 q, vo] 29)) 29 [.int .i64 0, .int .i64 0, .slice none 0 0]
    simpa using this
  have hB : Below w.heap.size w w2 := by rw [hw2]; exact ((Below.refl _ w).alloc (Nat.le_refl _) _).alloc (by simp) _
  have hsz : w2.heap.size = w.heap.size + 2 := by rw [hw2]; simp
  go_enter Try.func18, Try.ntmps18
  go_upto_region 1 with fail
  rw [← hw2]
  clear hw2
  have HS := (show Hid (w2.heap.size = w.heap.size + 2) from hsz)
  clear hsz
  have c2 := ra.cell (j := 2) rfl
  have ho2 := (ho.mv (Mv.below hB)).1
  go_wp2_with (first
    | (go_at_call 22; refine (clone_own w2 _ l ho2 (Nat.le_trans hz (by decide))).mono ?_; rintro e w3 ⟨v3, rfl, o3, f3, hb3⟩; have ra3 := ra.below hb3; have f3 := OT.own o3 ho2.1 f3; clear o3)
    | (refine wl_set rfl _ _ _ rfl w.heap.size 2 _ rfl rfl _ _ ra3 (show 2 < 3 by decide) (by kernel_rfl) f3.one ?_; intro w4 ra4 hg4; have ra4' : Row w4 w.heap.size 29 [.int .i64 p, .int .i64 q, v3] := ra4.out; have hB3 := below_and hB (Nat.le_refl _) hb3; have hB4 : Below w.heap.size w w4 := hB3.trans (grown_below hg4 hB3.size (fun k hk => by cases hk; exact Nat.le_refl _)); have rr4 := (rr.below hb3).grown hg4 (fun e => by injection e with e; omega))
    | (refine wl_load rfl _ _ rfl w.heap.size rfl _ _ ra4' _ Try.underlying29 rfl (by kernel_rfl) ?_)
    | (refine wl_store rfl _ _ _ rfl (w.heap.size + 1) [.int .i64 p, .int .i64 q, v3] rfl rfl _ _ rr4 rfl (by kernel_rfl) (onP3 f3.one) ?_; intro w7 hr7 hg7))
  have hs2 := HS.out
  have f4 := f3.mv (Mv.from (L := w.heap.size + 2) hg4 (by omega) (by omega))
  have f7 := f4.mv (Mv.from (L := w.heap.size) hg7 (by omega) (by omega))
  have hB7 := hB4.trans (grown_below hg7 hB4.size (fun k hk => by cases hk; omega))
  have hr7 := hr7.out
  refine bodyPost_ret (v := .agg ([.int .i64 p, .int .i64 q, v3] : List Value).toArray) (results_cell_row rfl _ _ (w.heap.size + 1) _ _ (0, 0) _ (by rfl) hr7 Try.underlying29 rfl (by kernel_rfl)) rfl ?_
  exact ⟨_, rfl, f7, hB7⟩
end Go.Proofs.Ytikfldigjieloaa
