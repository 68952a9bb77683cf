/- The walks over the document's copies: messages. (Laid by mk5c.py.) -/
import Derived.Test.YtgbfmccecnfooaaGreatDoorCLAK
import Derived.Test.YtgbfmccecnfooaaGreatDoorCLAX
import Derived.Test.YtgbfmccecnfooaaGreatDoorCLAO
set_option linter.unusedSimpArgs false
set_option linter.unusedVariables false
namespace Go.Proofs.YtgbfmccecnfooaaGreatDoor
section
open Go.RowKit Oct
/-- Of what was there only the disk's block and its bytes' may have turned. -/
structure Gr2 (w w' : World) (b : Nat) (v : Value) : Prop where
  os : w'.os = w.os
  tape : w'.tape = w.tape
  output : w'.output = w.output
  size : w.heap.size ≤ w'.heap.size
  block : ∀ k, k < w.heap.size → k ≠ b → v.ownBlock ≠ some k → w'.heap[k]? = w.heap[k]?
theorem Gr2.refl (w : World) (b : Nat) (v : Value) : Gr2 w w b v := ⟨rfl, rfl, rfl, Nat.le_refl _, fun _ _ _ _ => rfl⟩
theorem Gr2.of {w w' : World} {b : Nat} {v : Value} (h : w.grownBy w' (some b)) : Gr2 w w' b v := ⟨h.os, h.tape, h.output, h.size, fun k hk hne _ => h.block k hk (fun e => hne (by injection e))⟩
theorem Gr2.bel {w w' : World} {b : Nat} {v : Value} (h : Below w.heap.size w w') : Gr2 w w' b v := ⟨h.os, h.tape, h.output, h.size, fun k hk _ _ => h.block k hk⟩
/-- Where the new bytes lie. -/
def Spt (w : World) (v v' : Value) : Prop := v'.ownBlock = v.ownBlock ∨ Fr w.heap.size v'
theorem Gr2.trans {w w1 w2 : World} {b : Nat} {v v1 : Value} (h : Gr2 w w1 b v) (hs : Spt w v v1) (h' : Gr2 w1 w2 b v1) : Gr2 w w2 b v :=
  ⟨h'.os.trans h.os, h'.tape.trans h.tape, h'.output.trans h.output, Nat.le_trans h.size h'.size, fun k hk hne hv => by
    refine (h'.block k (Nat.lt_of_lt_of_le hk h.size) hne ?_).trans (h.block k hk hne hv)
    rcases hs with e | hf
    · rw [e]; exact hv
    · intro e
      have := hf k e
      omega⟩
theorem Gr2.below {w w' : World} {b B : Nat} {v : Value} (h : Gr2 w w' b v) (hB : B ≤ w.heap.size) (hb : B ≤ b) (hv : Fr B v) : Below B w w' :=
  ⟨h.os, h.tape, h.output, h.size, fun k hk => h.block k (by omega) (by omega) (fun e => by have := hv k e; omega)⟩
theorem Gr2.rd {w w' : World} {b : Nat} {v u : Value} {l : List Int} (h : Gr2 w w' b v) (hr : Rd w u l) (hb : l ≠ [] → u.ownBlock ≠ some b) (hv : l ≠ [] → ∀ k, v.ownBlock = some k → u.ownBlock ≠ some k) : Rd w' u l :=
  ⟨hr.1, hr.2.keep fun hx k hk hlt => by
    have hx : l ≠ [] := fun e => hx (by rw [e]; rfl)
    exact h.block k hlt (fun e => hb hx (by rw [hk, e])) (fun e => hv hx k e hk)⟩
theorem Gr2.own {w w' : World} {b : Nat} {v u : Value} {e : TypeId} {xs : List Value} (h : Gr2 w w' b v) (hr : Own w e u xs) (hb : u.ownBlock ≠ some b) (hv : ∀ k, v.ownBlock = some k → u.ownBlock ≠ some k) : Own w' e u xs := by
  obtain ⟨h1, h2⟩ := hr
  refine ⟨h1, ?_⟩
  rcases h2 with h2 | ⟨g, cap, cur, rfl, h3, hg, h4⟩
  · exact .inl h2
  · refine .inr ⟨g, cap, cur, rfl, h3, ?_, h4⟩
    rw [h.block g ((Array.getElem?_eq_some_iff.1 hg).1) (fun e => hb (by rw [← e]; rfl)) (fun e => hv g e rfl)]
    exact hg
theorem Gr2.row {w w' : World} {b c : Nat} {v : Value} {t : TypeId} {xs : List Value} (h : Gr2 w w' b v) (hr : Row w c t xs) (hb : c ≠ b) (hv : v.ownBlock ≠ some c) : Row w' c t xs := (h.block c hr.lt hb hv).trans hr
section
variable {P : Program}
/-- One more record: 'x = append(x, r)'. -/
theorem wp_pushS {α : Type} {R : (Nat → Prop) → World → List Value → α → Prop} (hR : Mov R) {w : World} {o : Oper} {a : Act} {K : Act → World → Prop} {Q : Exit → Act → World → Prop} (s x : Operand) (t : TypeId)
    (ho : o.op = .call { callee := .builtin .append, args := #[s, x], argTypes := #[t, t] }) (e : TypeId) (k bytes : Nat) (z : Value) (ht : P.underlying t = some (.slice e)) (hi : (P.info? e).map (fun i => (i.zero, i.size, i.bytes)) = some (some z, k, bytes))
    (hzs : z.cells.size = k) (hk : 0 < k) (B : Nat) (v : Value) (ys : List α) (hs : a.eval s = v) (hL : LB R e k B w v ys) (r : List Value) (y : α) (C : Nat) (hr : R (From C) w r y) (hrl : r.length = k) (h1 : ∀ u ∈ r, u.oneCell' = true)
    (hC : B ≤ C) (hCv : ∀ g, v.ownBlock = some g → g < C) (hx : a.eval x = .slice (some ⟨w.heap.size, 0, none⟩) 1 1) (hB : B ≤ w.heap.size)
    (hb : (ys.length + 1) * bytes ≤ 140737488355328) (hb0 : 1 ≤ bytes)
    (h : ∀ v' w', LB R e k B w' v' (ys ++ [y]) → w.grownBy w' v.ownBlock → Spt w v v' → K (a.put o.dst v') w') : o.wp P a (w.alloc (.cells r.toArray e)) K Q := by
  obtain ⟨i0, hi, hz0, hz1, hz2⟩ := info_parts hi
  obtain ⟨rows, h0, hown, hfr, hall⟩ := hL
  have hlen := hall.len
  have hbel := below_alloc w (.cells r.toArray e)
  have hown1 : (w.alloc (.cells r.toArray e)).ownsRow 0 e k v rows.length rows.flatten := World.ownsRow.kept (row := none) hown ⟨hbel.os, hbel.tape, hbel.output, hbel.size, fun k hk _ => hbel.block k hk⟩ (by cases hv : v.ownBlock <;> simp)
  have hmul : ys.length + 1 ≤ (ys.length + 1) * bytes := Nat.le_mul_of_pos_right _ hb0
  refine wp_append_lies (w.alloc (.cells r.toArray e)) s x t ho 0 e i0 z k bytes ht hi hz0 hz1 hz2 hzs hk v rows.length rows.flatten hs hown1 ⟨w.heap.size, 0, none⟩ 1 1 r hx (by omega)
    (fun j u hj => by
      rw [Addr.add_mid, Nat.zero_add]
      exact (Row.new w e r).cell hj) h1 (by omega) (by rw [hlen]; unfold maxLen; omega) (by rw [hlen]; exact hb) (Nat.zero_le _) (w.heap.size + 1) (by simp) ?_
  intro g cap w' hown' hgr hat hlt
  have hg0 : w.grownBy w' v.ownBlock := grown_trans (grown_of_below hbel _) hgr (.inl rfl)
  have hgB : B ≤ g := by
    rcases hat with hat | hat
    · exact hfr g hat
    · omega
  have hflat : rows.flatten ++ r = (rows ++ [r]).flatten := by simp
  refine h _ w' ⟨rows ++ [r], ?_, ?_, ?_, ?_⟩ hg0 (by
    rcases hat with hat | hat
    · exact .inl (by rw [hat]; rfl)
    · exact .inr fun j hj => by simp [Value.ownBlock] at hj; omega)
  · intro q hq
    rcases List.mem_append.1 hq with hq | hq
    · exact h0 q hq
    · simp at hq; subst hq; exact hrl
  · rw [List.length_append, ← hflat]
    exact hown'
  · exact fun j hj => by simp [Value.ownBlock] at hj; omega
  · have hold : All2 (R (fun b => B ≤ b ∧ (Value.slice (some ⟨g, 0, none⟩) (rows.length + 1) cap).ownBlock ≠ some b) w') rows ys := hall.mono fun q b hq => hR _ _ w w' q b hq hg0.size fun j hj hjl => by
      refine ⟨hg0.block j hjl (fun e => hj.2 e.symm), hj.1, fun e => ?_⟩
      simp [Value.ownBlock] at e
      rcases hat with hat | hat
      · exact hj.2 (by rw [hat, e])
      · omega
    have hnew : R (fun b => B ≤ b ∧ (Value.slice (some ⟨g, 0, none⟩) (rows.length + 1) cap).ownBlock ≠ some b) w' r y := hR _ _ w w' r y hr hg0.size fun j hj hjl => by
      unfold From at hj
      refine ⟨hg0.block j hjl (fun e => by have := hCv j e.symm; omega), by omega, fun e => ?_⟩
      simp [Value.ownBlock] at e
      rcases hat with hat | hat
      · have := hCv g hat; omega
      · omega
    exact All2.app hold ⟨hnew, trivial⟩
/-- The same at an operation of a region that doesn't draw. -/
theorem wl_pushS {α : Type} {R : (Nat → Prop) → World → List Value → α → Prop} (hR : Mov R) {w : World} {ops : Array Oper} {rest : List Oper} {o : Oper} {a : Act} {Q : Exit → Act → World → Prop} (hgd : o.guard = none) (s x : Operand) (t : TypeId)
    (ho : o.op = .call { callee := .builtin .append, args := #[s, x], argTypes := #[t, t] }) (e : TypeId) (k bytes : Nat) (z : Value) (ht : P.underlying t = some (.slice e)) (hi : (P.info? e).map (fun i => (i.zero, i.size, i.bytes)) = some (some z, k, bytes))
    (hzs : z.cells.size = k) (hk : 0 < k) (B : Nat) (v : Value) (ys : List α) (hs : a.eval s = v) (hL : LB R e k B w v ys) (r : List Value) (y : α) (C : Nat) (hr : R (From C) w r y) (hrl : r.length = k) (h1 : ∀ u ∈ r, u.oneCell' = true)
    (hC : B ≤ C) (hCv : ∀ g, v.ownBlock = some g → g < C) (hx : a.eval x = .slice (some ⟨w.heap.size, 0, none⟩) 1 1) (hB : B ≤ w.heap.size)
    (hb : (ys.length + 1) * bytes ≤ 140737488355328) (hb0 : 1 ≤ bytes)
    (h : ∀ v' w', LB R e k B w' v' (ys ++ [y]) → w.grownBy w' v.ownBlock → Spt w v v' → wpList P ops Q rest (a.put o.dst v') w') : wpList P ops Q (o :: rest) a (w.alloc (.cells r.toArray e)) :=
  wpList_plain hgd fun _ hK => wp_pushS hR s x t ho e k bytes z ht hi hzs hk B v ys hs hL r y C hr hrl h1 hC hCv hx hB hb hb0 fun v' w' h2 h3 h4 => hK _ _ (h v' w' h2 h3 h4)
end
end
section
open Go.RowKit Oct
theorem keep_cell {w u : World} (hu : Below w.heap.size w u) {a : Addr} {v : Value} (h : w.cell? a = some v) : u.cell? a = some v := (hu.cell (World.block_lt_of_cell? w a h)).trans h
theorem rl_len {α : Type} {R : (Nat → Prop) → World → List Value → α → Prop} {k : Nat} {G : Nat → Prop} {w : World} {v : Value} {ys : List α} (h : RL R k G w v ys) : (ys.length : Int) ≤ 9223372036854775807 := by
  rcases Nat.eq_zero_or_pos ys.length with h0 | h0
  · omega
  · obtain ⟨_, _, c, e, h1, h2, _⟩ := h.at h0
    unfold maxLen at h2
    omega
set_option maxRecDepth 20000 in
set_option maxHeartbeats 8000000 in
/-- Same, of the same message. -/
theorem sameMsg_eq (w : World) (m : PMsg) (s t : SV) (hs : SOk Any w m s) (ht : SOk Any w m t) :
    Calls Tryz.prog 64 #[.agg (mc m s).toArray, .agg (mc m t).toArray] w fun e w' => e = .returned (.bool true) ∧ Below w.heap.size w w' := by
  obtain ⟨w2, hw2⟩ : ∃ w2, w2 = (w.alloc (.cells (mc m s).toArray 72)).alloc (.cells (mc m t).toArray 72) := ⟨_, rfl⟩
  have ra : Row w2 w.heap.size 72 (mc m s) := by rw [hw2]; exact row_alloc (Row.new w 72 _) _
  have rb : Row w2 (w.heap.size + 1) 72 (mc m t) := by
    rw [hw2]
    have := Row.new (w.alloc (.cells (mc m s).toArray 72)) 72 (mc m t)
    simpa using this
  have hB : Below w.heap.size w w2 := by rw [hw2]; exact ((Below.refl _ w).alloc (Nat.le_refl _) _).alloc (by simp) _
  have hbn := balNe_eq m.bal.1 m.bal.2
  have hnkind : (m.kind != m.kind) = false := by simp
  have hnslot : (m.slot != m.slot) = false := by simp
  have hnfrm : (m.frm != m.frm) = false := by simp
  have hnto : (m.to != m.to) = false := by simp
  have hnidx : (m.idx != m.idx) = false := by simp
  have hncnt : (m.cnt != m.cnt) = false := by simp
  go_enter Tryz.func64, Tryz.ntmps64
  go_upto_region 1 with fail
  rw [← hw2]
  clear hw2
  generalize hN0 : w.heap.size = N0 at ra rb ⊢
  generalize hN1 : N0 + 1 = N1 at rb ⊢
  have a0 := ra.cell (j := 0) rfl; have b0 := rb.cell (j := 0) rfl
  have a3 := ra.cell (j := 3) rfl; have b3 := rb.cell (j := 3) rfl
  have a4 := ra.cell (j := 4) rfl; have b4 := rb.cell (j := 4) rfl
  have a5 := ra.cell (j := 5) rfl; have b5 := rb.cell (j := 5) rfl
  have a6 := ra.cell (j := 6) rfl; have b6 := rb.cell (j := 6) rfl
  have a7 := ra.cell (j := 7) rfl; have b7 := rb.cell (j := 7) rfl
  go_wp2_with (first
    | (refine wl_part_w (by rfl) _ _ rfl N0 1 rfl _ _ ra [.int .i64 m.bal.1, .int .i64 m.bal.2] rfl _ Tryz.underlying23 rfl (by kernel_rfl) ?_)
    | (refine wl_part_w (by rfl) _ _ rfl N1 1 rfl _ _ rb [.int .i64 m.bal.1, .int .i64 m.bal.2] rfl _ Tryz.underlying23 rfl (by kernel_rfl) ?_)
    | (refine wl_part rfl _ _ rfl N0 8 rfl _ _ ra [.int .i64 m.req.1, .int .i64 m.req.2.1, s.o, s.g] rfl _ Tryz.underlying62 rfl (by kernel_rfl) ?_)
    | (refine wl_part rfl _ _ rfl N1 8 rfl _ _ rb [.int .i64 m.req.1, .int .i64 m.req.2.1, t.o, t.g] rfl _ Tryz.underlying62 rfl (by kernel_rfl) ?_))
  clear a0 a3 a4 a5 a6 a7 b0 b3 b4 b5 b6 b7 hbn hnkind hnslot hnfrm hnto hnidx hncnt
  refine (sameReq_eq w2 [.int .i64 m.req.1, .int .i64 m.req.2.1, s.o, s.g] [.int .i64 m.req.1, .int .i64 m.req.2.1, t.o, t.g] m.req ⟨_, _, rfl, hs.o.mv (Mv.below hB), hs.g.mv (Mv.below hB)⟩ ⟨_, _, rfl, ht.o.mv (Mv.below hB), ht.g.mv (Mv.below hB)⟩).mono ?_
  rintro e w3 ⟨rfl, hb3⟩
  have ra := ra.below hb3
  have rb := rb.below hb3
  have hB := below_and hB (Nat.le_refl _) hb3
  clear hb3
  go_wp2_with (first
    | (refine wl_part_w (by rfl) _ _ rfl N0 12 rfl _ _ ra [.int .i64 m.oth.1, .int .i64 m.oth.2.1, s.o', s.g'] rfl _ Tryz.underlying62 rfl (by kernel_rfl) ?_)
    | (refine wl_part_w (by rfl) _ _ rfl N1 12 rfl _ _ rb [.int .i64 m.oth.1, .int .i64 m.oth.2.1, t.o', t.g'] rfl _ Tryz.underlying62 rfl (by kernel_rfl) ?_))
  refine (sameReq_eq w3 [.int .i64 m.oth.1, .int .i64 m.oth.2.1, s.o', s.g'] [.int .i64 m.oth.1, .int .i64 m.oth.2.1, t.o', t.g'] m.oth ⟨_, _, rfl, hs.o'.mv (Mv.below hB), hs.g'.mv (Mv.below hB)⟩ ⟨_, _, rfl, ht.o'.mv (Mv.below hB), ht.g'.mv (Mv.below hB)⟩).mono ?_
  rintro e w4 ⟨rfl, hb4⟩
  have ra := ra.below hb4
  have rb := rb.below hb4
  have hB := below_and hB (Nat.le_refl _) hb4
  clear hb4
  have a16 := ra.cell (j := 16) rfl; have b16 := rb.cell (j := 16) rfl; have a17 := ra.cell (j := 17) rfl; have b17 := rb.cell (j := 17) rfl; have a18 := ra.cell (j := 18) rfl; have b18 := rb.cell (j := 18) rfl
  go_wp2_with fail
  refine (same_eq_any w4 s.d t.d _ (hs.d.mv (Mv.below hB)).1 (ht.d.mv (Mv.below hB)).1).mono ?_
  rintro e w5 ⟨rfl, rfl⟩
  go_wp2_with fail
  refine (same_eq_any _ s.s t.s _ (hs.s.mv (Mv.below hB)).1 (ht.s.mv (Mv.below hB)).1).mono ?_
  rintro e w5 ⟨rfl, rfl⟩
  go_wp2_with fail
  refine (sameVotes_eq _ s.c t.c _ (hs.c.mv mov_vote hB.size (Mv.below hB)) (ht.c.mv mov_vote hB.size (Mv.below hB))).mono ?_
  rintro e w6 ⟨rfl, hb6⟩
  have ra := ra.below hb6
  have rb := rb.below hb6
  have hB := below_and hB (Nat.le_refl _) hb6
  clear hb6 a16 b16 a17 b17 a18 b18
  have a19 := ra.cell (j := 19) rfl; have b19 := rb.cell (j := 19) rfl
  go_wp2_with fail
  refine (sameVotes_eq _ s.v t.v _ (hs.v.mv mov_vote hB.size (Mv.below hB)) (ht.v.mv mov_vote hB.size (Mv.below hB))).mono ?_
  rintro e w7 ⟨rfl, hb7⟩
  have ra := ra.below hb7
  have rb := rb.below hb7
  have hB := below_and hB (Nat.le_refl _) hb7
  clear hb7 a19 b19
  have a20 := ra.cell (j := 20) rfl; have b20 := rb.cell (j := 20) rfl; have a21 := ra.cell (j := 21) rfl; have b21 := rb.cell (j := 21) rfl; have a22 := ra.cell (j := 22) rfl; have b22 := rb.cell (j := 22) rfl
  obtain ⟨xn, cn, hvn, _⟩ := hs.n.form
  obtain ⟨yn, dn, hun, _⟩ := ht.n.form
  rw [hvn] at a20
  rw [hun] at b20
  have hnn : ((m.order.length : Int) != (m.order.length : Int)) = false := by simp
  have hlmn : (m.order.length : Int) ≤ 9223372036854775807 := rl_len hs.n
  obtain ⟨xp, cp, hvp, _⟩ := hs.p.form
  obtain ⟨yp, dp, hup, _⟩ := ht.p.form
  rw [hvp] at a21
  rw [hup] at b21
  have hnp : ((m.picks.length : Int) != (m.picks.length : Int)) = false := by simp
  have hlmp : (m.picks.length : Int) ≤ 9223372036854775807 := rl_len hs.p
  obtain ⟨xl, cl, hvl, _⟩ := hs.l.form
  obtain ⟨yl, dl, hul, _⟩ := ht.l.form
  rw [hvl] at a22
  rw [hul] at b22
  have hnl : ((m.reps.length : Int) != (m.reps.length : Int)) = false := by simp
  have hlml : (m.reps.length : Int) ≤ 9223372036854775807 := rl_len hs.l
  have HA := (show Hid (Row w7 N0 72 (mc m s)) from ra)
  have HB := (show Hid (Row w7 N1 72 (mc m t)) from rb)
  have HVN := (show Hid _ from hvn); have HUN := (show Hid _ from hun); have HVP := (show Hid _ from hvp); have HUP := (show Hid _ from hup); have HVL := (show Hid _ from hvl); have HUL := (show Hid _ from hul)
  have h0w := ra.lt
  have h1w := rb.lt
  clear ra rb hvn hun hvp hup hvl hul
  go_wp2_with fail
  go_loopw [129] (fun i wr => ∃ q : Nat, q ≤ m.order.length ∧ i = .int .i64 q ∧ Below w7.heap.size w7 wr) (fun i _ => m.order.length - (intOf i).toNat)
  case atStart => exact ⟨0, by omega, rfl, Below.refl _ _⟩
  case round =>
    obtain ⟨q, hq, rfl, hbr⟩ := hrel
    have hBr := below_and hB (Nat.le_refl _) hbr
    by_cases hql : q < m.order.length
    · obtain ⟨a, ha⟩ : ∃ a, m.order[q]? = some a := ⟨_, List.getElem?_eq_getElem hql⟩
      obtain ⟨b1, o1, c1, hw1, _, _, _, hb1, hx1⟩ := hs.n.at (by omega)
      obtain ⟨b2, o2, c2, hw2, _, _, _, hb2, hx2⟩ := ht.n.at (by omega)
      rw [HVN.out] at hw1
      rw [HUN.out] at hw2
      injection hw1 with e1 e2 e3
      injection hw2 with f1 f2 f3
      subst e1 e3 f1 f3
      obtain ⟨r1, _, y1, hr1⟩ := hx1 q a ha
      obtain ⟨r2, _, y2, hr2⟩ := hx2 q a ha
      have hr1 : r1 = [.int .i64 a] := hr1
      have hr2 : r2 = [.int .i64 a] := hr2
      subst hr1 hr2
      have d0 := rangeAt_block y1 (hBr.block b1 hb1) 0 _ rfl
      have d1 := rangeAt_block y2 (hBr.block b2 hb2) 0 _ rfl
      simp only [Nat.mul_one, Nat.add_zero] at d0 d1
      have e20 := (hbr.cell (p := ⟨N0, 20, none⟩) h0w).trans a20
      have f20 := (hbr.cell (p := ⟨N1, 20, none⟩) h1w).trans b20
      have hna : (a != a) = false := by simp
      clear hx1 hx2 y1 y2 ha
      go_wp2_with fail
      go_quiet (fail)
      go_wp2_with fail
      go_roundw
      case rel => exact ⟨q + 1, by omega, by go_num, bel_dn hbr _⟩
      case measure => simp [intOf]; omega
    · have e21 := (hbr.cell (p := ⟨N0, 21, none⟩) h0w).trans a21
      go_wp2_with fail
      go_loopw [147] (fun i wr => ∃ q : Nat, q ≤ m.picks.length ∧ i = .int .i64 q ∧ Below w7.heap.size w7 wr) (fun i _ => m.picks.length - (intOf i).toNat)
      case atStart => exact ⟨0, by omega, rfl, hbr⟩
      case round =>
        clear hbr hBr e21 hql hq
        obtain ⟨q, hq, rfl, hbr⟩ := hrel
        have hBr := below_and hB (Nat.le_refl _) hbr
        by_cases hql : q < m.picks.length
        · obtain ⟨a, ha⟩ : ∃ a, m.picks[q]? = some a := ⟨_, List.getElem?_eq_getElem hql⟩
          obtain ⟨b1, o1, c1, hw1, _, _, _, hb1, hx1⟩ := hs.p.at (by omega)
          obtain ⟨b2, o2, c2, hw2, _, _, _, hb2, hx2⟩ := ht.p.at (by omega)
          rw [HVP.out] at hw1
          rw [HUP.out] at hw2
          injection hw1 with e1 e2 e3
          injection hw2 with f1 f2 f3
          subst e1 e3 f1 f3
          obtain ⟨r1, _, y1, hr1⟩ := hx1 q a ha
          obtain ⟨r2, _, y2, hr2⟩ := hx2 q a ha
          have hK := (show Hid (∀ u, Below w7.heap.size w7 u → Calls Tryz.prog 28 #[.agg r1.toArray, .agg r2.toArray] u fun e w' => e = .returned (.bool true) ∧ Below u.heap.size u w') from fun u hu => by
            have hbu := below_and hB (Nat.le_refl _) hu
            exact sameReq_eq u r1 r2 a (mov_req _ _ _ _ _ _ hr1 hbu.size (Mv.below hbu)) (mov_req _ _ _ _ _ _ hr2 hbu.size (Mv.below hbu)))
          obtain ⟨vo1, vg1, rfl, _, _⟩ := hr1
          obtain ⟨vo2, vg2, rfl, _, _⟩ := hr2
          have y1 := rangeAt_block y1 (hBr.block b1 hb1)
          have y2 := rangeAt_block y2 (hBr.block b2 hb2)
          have e21 := (hbr.cell (p := ⟨N0, 21, none⟩) h0w).trans a21
          have f21 := (hbr.cell (p := ⟨N1, 21, none⟩) h1w).trans b21
          have p0 := y1 0 _ rfl; have q0 := y2 0 _ rfl
          have p1 := y1 1 _ rfl; have q1 := y2 1 _ rfl
          have p2 := y1 2 _ rfl; have q2 := y2 2 _ rfl
          have p3 := y1 3 _ rfl; have q3 := y2 3 _ rfl
          simp only [Nat.add_zero] at p0 q0
          have hdr : Below w7.heap.size w7 wr.drew := hbr.trans ⟨rfl, rfl, rfl, Nat.le_refl _, fun _ _ => rfl⟩
          clear hx1 hx2 y1 y2 ha
          go_wp2_with fail
          have SK := (show Hid (∀ u, Below wr.heap.size wr u → u.cell? ⟨N0, 21, none⟩ = some (.slice (some ⟨b1, o1, none⟩) m.picks.length cp) ∧ u.cell? ⟨N1, 21, none⟩ = some (.slice (some ⟨b2, o2, none⟩) m.picks.length dp) ∧ u.cell? ⟨b1, o1 + q * 4, none⟩ = some (Value.int .i64 a.1) ∧ u.cell? ⟨b2, o2 + q * 4, none⟩ = some (Value.int .i64 a.1) ∧ u.cell? ⟨b1, o1 + q * 4 + 1, none⟩ = some (Value.int .i64 a.2.1) ∧ u.cell? ⟨b2, o2 + q * 4 + 1, none⟩ = some (Value.int .i64 a.2.1) ∧ u.cell? ⟨b1, o1 + q * 4 + 2, none⟩ = some (vo1) ∧ u.cell? ⟨b2, o2 + q * 4 + 2, none⟩ = some (vo2) ∧ u.cell? ⟨b1, o1 + q * 4 + 3, none⟩ = some (vg1) ∧ u.cell? ⟨b2, o2 + q * 4 + 3, none⟩ = some (vg2)) from fun u hu => ⟨keep_cell hu e21, keep_cell hu f21, keep_cell hu p0, keep_cell hu q0, keep_cell hu p1, keep_cell hu q1, keep_cell hu p2, keep_cell hu q2, keep_cell hu p3, keep_cell hu q3⟩)
          have hdw : Below wr.heap.size wr wr.drew := ⟨rfl, rfl, rfl, Nat.le_refl _, fun _ _ => rfl⟩
          go_region_held3 (fun u => u.cell? ⟨N0, 21, none⟩ = some (.slice (some ⟨b1, o1, none⟩) m.picks.length cp) ∧ u.cell? ⟨N1, 21, none⟩ = some (.slice (some ⟨b2, o2, none⟩) m.picks.length dp) ∧ u.cell? ⟨b1, o1 + q * 4, none⟩ = some (Value.int .i64 a.1) ∧ u.cell? ⟨b2, o2 + q * 4, none⟩ = some (Value.int .i64 a.1) ∧ u.cell? ⟨b1, o1 + q * 4 + 1, none⟩ = some (Value.int .i64 a.2.1) ∧ u.cell? ⟨b2, o2 + q * 4 + 1, none⟩ = some (Value.int .i64 a.2.1) ∧ u.cell? ⟨b1, o1 + q * 4 + 2, none⟩ = some (vo1) ∧ u.cell? ⟨b2, o2 + q * 4 + 2, none⟩ = some (vo2) ∧ u.cell? ⟨b1, o1 + q * 4 + 3, none⟩ = some (vg1) ∧ u.cell? ⟨b2, o2 + q * 4 + 3, none⟩ = some (vg2))
            (first | exact SK.out _ (by assumption) | go_keep)
            (first | (go_at_call 28; refine (hK.out _ hdr).mono ?_; rintro e w8 ⟨rfl, hb8⟩; have hb8w : Below wr.heap.size wr w8 := hdw.trans hb8))
          go_wp2_with fail
          go_roundw
          case rel => exact ⟨q + 1, by omega, by go_num, below_and hdr (Nat.le_refl _) hb8⟩
          case measure => simp [intOf]; omega
        · have e22 := (hbr.cell (p := ⟨N0, 22, none⟩) h0w).trans a22
          go_wp2_with fail
          go_loopw [166] (fun i wr => ∃ q : Nat, q ≤ m.reps.length ∧ i = .int .i64 q ∧ Below w7.heap.size w7 wr) (fun i _ => m.reps.length - (intOf i).toNat)
          case atStart => exact ⟨0, by omega, rfl, hbr⟩
          case round =>
            clear hbr hBr e22 hql hq
            obtain ⟨q, hq, rfl, hbr⟩ := hrel
            have hBr := below_and hB (Nat.le_refl _) hbr
            by_cases hql : q < m.reps.length
            · obtain ⟨a, ha⟩ : ∃ a, m.reps[q]? = some a := ⟨_, List.getElem?_eq_getElem hql⟩
              obtain ⟨b1, o1, c1, hw1, _, _, _, hb1, hx1⟩ := hs.l.at (by omega)
              obtain ⟨b2, o2, c2, hw2, _, _, _, hb2, hx2⟩ := ht.l.at (by omega)
              rw [HVL.out] at hw1
              rw [HUL.out] at hw2
              injection hw1 with e1 e2 e3
              injection hw2 with f1 f2 f3
              subst e1 e3 f1 f3
              obtain ⟨r1, _, y1, hr1⟩ := hx1 q a ha
              obtain ⟨r2, _, y2, hr2⟩ := hx2 q a ha
              have hK := (show Hid (∀ u, Below w7.heap.size w7 u → Calls Tryz.prog 10 #[.agg r1.toArray, .agg r2.toArray] u fun e w' => e = .returned (.bool true) ∧ Below u.heap.size u w') from fun u hu => by
                have hbu := below_and hB (Nat.le_refl _) hu
                exact sameReport_eq u r1 r2 a (mov_rep _ _ _ _ _ _ hr1 hbu.size (Mv.below hbu)) (mov_rep _ _ _ _ _ _ hr2 hbu.size (Mv.below hbu)))
              obtain ⟨vd1, vs1, vp1, vg1, rfl, _, _, _, _⟩ := hr1
              obtain ⟨vd2, vs2, vp2, vg2, rfl, _, _, _, _⟩ := hr2
              have y1 := rangeAt_block y1 (hBr.block b1 hb1)
              have y2 := rangeAt_block y2 (hBr.block b2 hb2)
              have e22 := (hbr.cell (p := ⟨N0, 22, none⟩) h0w).trans a22
              have f22 := (hbr.cell (p := ⟨N1, 22, none⟩) h1w).trans b22
              have p0 := y1 0 _ rfl; have q0 := y2 0 _ rfl
              have p1 := y1 1 _ rfl; have q1 := y2 1 _ rfl
              have p2 := y1 2 _ rfl; have q2 := y2 2 _ rfl
              have p3 := y1 3 _ rfl; have q3 := y2 3 _ rfl
              have p4 := y1 4 _ rfl; have q4 := y2 4 _ rfl
              have p5 := y1 5 _ rfl; have q5 := y2 5 _ rfl
              have p6 := y1 6 _ rfl; have q6 := y2 6 _ rfl
              have p7 := y1 7 _ rfl; have q7 := y2 7 _ rfl
              simp only [Nat.add_zero] at p0 q0
              have hdr : Below w7.heap.size w7 wr.drew := hbr.trans ⟨rfl, rfl, rfl, Nat.le_refl _, fun _ _ => rfl⟩
              clear hx1 hx2 y1 y2 ha
              go_wp2_with fail
              have SK := (show Hid (∀ u, Below wr.heap.size wr u → u.cell? ⟨N0, 22, none⟩ = some (.slice (some ⟨b1, o1, none⟩) m.reps.length cl) ∧ u.cell? ⟨N1, 22, none⟩ = some (.slice (some ⟨b2, o2, none⟩) m.reps.length dl) ∧ u.cell? ⟨b1, o1 + q * 8, none⟩ = some (Value.int .i64 a.1.1) ∧ u.cell? ⟨b2, o2 + q * 8, none⟩ = some (Value.int .i64 a.1.1) ∧ u.cell? ⟨b1, o1 + q * 8 + 1, none⟩ = some (Value.int .i64 a.1.2) ∧ u.cell? ⟨b2, o2 + q * 8 + 1, none⟩ = some (Value.int .i64 a.1.2) ∧ u.cell? ⟨b1, o1 + q * 8 + 2, none⟩ = some (Value.int .i64 a.2.1) ∧ u.cell? ⟨b2, o2 + q * 8 + 2, none⟩ = some (Value.int .i64 a.2.1) ∧ u.cell? ⟨b1, o1 + q * 8 + 3, none⟩ = some (Value.int .i64 a.2.2.1) ∧ u.cell? ⟨b2, o2 + q * 8 + 3, none⟩ = some (Value.int .i64 a.2.2.1) ∧ u.cell? ⟨b1, o1 + q * 8 + 4, none⟩ = some (vd1) ∧ u.cell? ⟨b2, o2 + q * 8 + 4, none⟩ = some (vd2) ∧ u.cell? ⟨b1, o1 + q * 8 + 5, none⟩ = some (vs1) ∧ u.cell? ⟨b2, o2 + q * 8 + 5, none⟩ = some (vs2) ∧ u.cell? ⟨b1, o1 + q * 8 + 6, none⟩ = some (vp1) ∧ u.cell? ⟨b2, o2 + q * 8 + 6, none⟩ = some (vp2) ∧ u.cell? ⟨b1, o1 + q * 8 + 7, none⟩ = some (vg1) ∧ u.cell? ⟨b2, o2 + q * 8 + 7, none⟩ = some (vg2)) from fun u hu => ⟨keep_cell hu e22, keep_cell hu f22, keep_cell hu p0, keep_cell hu q0, keep_cell hu p1, keep_cell hu q1, keep_cell hu p2, keep_cell hu q2, keep_cell hu p3, keep_cell hu q3, keep_cell hu p4, keep_cell hu q4, keep_cell hu p5, keep_cell hu q5, keep_cell hu p6, keep_cell hu q6, keep_cell hu p7, keep_cell hu q7⟩)
              have hdw : Below wr.heap.size wr wr.drew := ⟨rfl, rfl, rfl, Nat.le_refl _, fun _ _ => rfl⟩
              go_region_held3 (fun u => u.cell? ⟨N0, 22, none⟩ = some (.slice (some ⟨b1, o1, none⟩) m.reps.length cl) ∧ u.cell? ⟨N1, 22, none⟩ = some (.slice (some ⟨b2, o2, none⟩) m.reps.length dl) ∧ u.cell? ⟨b1, o1 + q * 8, none⟩ = some (Value.int .i64 a.1.1) ∧ u.cell? ⟨b2, o2 + q * 8, none⟩ = some (Value.int .i64 a.1.1) ∧ u.cell? ⟨b1, o1 + q * 8 + 1, none⟩ = some (Value.int .i64 a.1.2) ∧ u.cell? ⟨b2, o2 + q * 8 + 1, none⟩ = some (Value.int .i64 a.1.2) ∧ u.cell? ⟨b1, o1 + q * 8 + 2, none⟩ = some (Value.int .i64 a.2.1) ∧ u.cell? ⟨b2, o2 + q * 8 + 2, none⟩ = some (Value.int .i64 a.2.1) ∧ u.cell? ⟨b1, o1 + q * 8 + 3, none⟩ = some (Value.int .i64 a.2.2.1) ∧ u.cell? ⟨b2, o2 + q * 8 + 3, none⟩ = some (Value.int .i64 a.2.2.1) ∧ u.cell? ⟨b1, o1 + q * 8 + 4, none⟩ = some (vd1) ∧ u.cell? ⟨b2, o2 + q * 8 + 4, none⟩ = some (vd2) ∧ u.cell? ⟨b1, o1 + q * 8 + 5, none⟩ = some (vs1) ∧ u.cell? ⟨b2, o2 + q * 8 + 5, none⟩ = some (vs2) ∧ u.cell? ⟨b1, o1 + q * 8 + 6, none⟩ = some (vp1) ∧ u.cell? ⟨b2, o2 + q * 8 + 6, none⟩ = some (vp2) ∧ u.cell? ⟨b1, o1 + q * 8 + 7, none⟩ = some (vg1) ∧ u.cell? ⟨b2, o2 + q * 8 + 7, none⟩ = some (vg2))
                (first | exact SK.out _ (by assumption) | go_keep)
                (first | (go_at_call 10; refine (hK.out _ hdr).mono ?_; rintro e w8 ⟨rfl, hb8⟩; have hb8w : Below wr.heap.size wr w8 := hdw.trans hb8))
              go_wp2_with fail
              go_roundw
              case rel => exact ⟨q + 1, by omega, by go_num, below_and hdr (Nat.le_refl _) hb8⟩
              case measure => simp [intOf]; omega
            · go_wp2_with fail
              go_ret
              exact ⟨rfl, hBr⟩
end
section
open Go.RowKit Oct
theorem one8 {a b c d : Int} {s t u v : Value} (hs : s.oneCell' = true) (ht : t.oneCell' = true) (hu : u.oneCell' = true) (hv : v.oneCell' = true) : ∀ x ∈ [Value.int .i64 a, .int .i64 b, .int .i64 c, .int .i64 d, s, t, u, v], x.oneCell' = true := by
  intro x hx
  simp only [List.mem_cons, List.not_mem_nil, or_false] at hx
  rcases hx with rfl | rfl | rfl | rfl | rfl | rfl | rfl | rfl <;> first | rfl | assumption
theorem rt_slice {G : Nat → Prop} {w : World} {v : Value} {l : List Int} (h : RT G w v l) : ∃ ao n cap, v = .slice ao n cap := by
  obtain ⟨ao, cap, e, _⟩ := h.form; exact ⟨ao, _, cap, e⟩
theorem rl_slice {α : Type} {R : (Nat → Prop) → World → List Value → α → Prop} {k : Nat} {G : Nat → Prop} {w : World} {v : Value} {ys : List α} (h : RL R k G w v ys) : ∃ ao n cap, v = .slice ao n cap := by
  obtain ⟨ao, cap, e, _⟩ := h.form; exact ⟨ao, _, cap, e⟩
set_option maxRecDepth 10000 in
set_option maxHeartbeats 4000000 in
/-- CopyReport. -/
theorem copyReport_any (w : World) (r : List Value) (x : PRep) (h : RRep Any w r x) (hz : szR x) :
    Calls Tryz.prog 7 #[.agg r.toArray] w fun e w' => ∃ r', e = .returned (.agg r'.toArray) ∧ RRep (From w.heap.size) w' r' x ∧ Below w.heap.size w w' := by
  obtain ⟨vd, vs, vp, vg, rfl, hd, hs, hp, hg⟩ := h
  obtain ⟨z1, z2, z3, z4⟩ := hz
  obtain ⟨ap, cp, rfl, hmp⟩ := hp.form
  obtain ⟨w2, hw2⟩ : ∃ w2, w2 = (w.alloc (.cells #[.int .i64 x.1.1, .int .i64 x.1.2, .int .i64 x.2.1, .int .i64 x.2.2.1, vd, vs, .slice ap x.2.2.2.2.2.1.length cp, vg] 28)).alloc (.cells #[.int .i64 0, .int .i64 0, .int .i64 0, .int .i64 0, .slice none 0 0, .slice none 0 0, .slice none 0 0, .slice none 0 0] 28) := ⟨_, rfl⟩
  have ra : Row w2 w.heap.size 28 [.int .i64 x.1.1, .int .i64 x.1.2, .int .i64 x.2.1, .int .i64 x.2.2.1, vd, vs, .slice ap x.2.2.2.2.2.1.length cp, vg] := by rw [hw2]; exact row_alloc (Row.new w 28 _) _
  have rr : Row w2 (w.heap.size + 1) 28 [.int .i64 0, .int .i64 0, .int .i64 0, .int .i64 0, .slice none 0 0, .slice none 0 0, .slice none 0 0, .slice none 0 0] := by
    rw [hw2]
    have := Row.new (w.alloc (.cells #[.int .i64 x.1.1, .int .i64 x.1.2, .int .i64 x.2.1, .int .i64 x.2.2.1, vd, vs, .slice ap x.2.2.2.2.2.1.length cp, vg] 28)) 28 [.int .i64 0, .int .i64 0, .int .i64 0, .int .i64 0, .slice none 0 0, .slice none 0 0, .slice none 0 0, .slice none 0 0]
    simpa using this
  have hB : Below w.heap.size w w2 := by rw [hw2]; exact ((Below.refl _ w).alloc (Nat.le_refl _) _).alloc (by simp) _
  have hsz : w2.heap.size = w.heap.size + 2 := by rw [hw2]; simp
  go_enter Tryz.func7, Tryz.ntmps7
  go_upto_region 1 with fail
  rw [← hw2]
  clear hw2
  have HS := (show Hid (w2.heap.size = w.heap.size + 2) from hsz)
  clear hsz
  generalize hxl : x.2.2.2.2.2.1.length = np at *
  have c2 := (row_alloc ra (.cells #[] 5)).cell (j := 4) rfl
  have hd2 := (hd.mv (Mv.below hB)).1
  go_wp2_with (first
    | (at_builtin; refine app_copy rfl _ _ rfl rfl _ x.2.2.2.1 rfl hd2 (Nat.le_trans z1 (by decide)) ?_; intro v3 w3 hown3 hfr3 hb3; have ra3 := ra.below hb3)
    | (refine wl_set rfl _ _ _ rfl w.heap.size 4 _ rfl rfl _ _ ra3 (show 4 < 8 by decide) (by kernel_rfl) (own_one' hown3) ?_; intro w4 ra4 hg4; have ra4' : Row w4 w.heap.size 28 [.int .i64 x.1.1, .int .i64 x.1.2, .int .i64 x.2.1, .int .i64 x.2.2.1, v3, vs, .slice ap np cp, vg] := ra4.out; have c3 := (row_alloc ra4' (.cells #[] 5)).cell (j := 7) rfl; have hB3 := below_and hB (Nat.le_refl _) hb3; have hB4 : Below w.heap.size w w4 := hB3.trans (grown_below hg4 hB3.size (fun k hk => by cases hk; exact Nat.le_refl _)); have hg2 := (hg.mv (Mv.below hB4)).1)
    | (at_builtin; refine app_copy rfl _ _ rfl rfl _ x.2.2.2.2.2.2 rfl hg2 (Nat.le_trans z4 (by decide)) ?_; intro v5 w5 hown5 hfr5 hb5; have ra5 := ra4'.below hb5)
    | (refine wl_set rfl _ _ _ rfl w.heap.size 7 _ rfl rfl _ _ ra5 (show 7 < 8 by decide) (by kernel_rfl) (own_one' hown5) ?_; intro w6 ra6 hg6; have ra6' : Row w6 w.heap.size 28 [.int .i64 x.1.1, .int .i64 x.1.2, .int .i64 x.2.1, .int .i64 x.2.2.1, v3, vs, .slice ap np cp, v5] := ra6.out; have rr6 := (((rr.below hb3).grown hg4 (fun e => by injection e with e; omega)).below hb5).grown hg6 (fun e => by injection e with e; omega); have c5 := ra6'.cell (j := 5) rfl))
  have hs2 := HS.out
  have f3 : RT (From w2.heap.size) w3 v3 x.2.2.2.1 := RT.own hown3 hd2.1 hfr3
  have f4 := f3.mv (Mv.from (L := w.heap.size + 2) hg4 (by omega) (by omega))
  have f5 := f4.mv (Mv.belowG hb5)
  have f6 := f5.mv (Mv.from (L := w.heap.size + 2) hg6 (by omega) (Nat.le_refl _))
  have hs4 := Nat.le_trans hb3.size hg4.size
  have g5 : RT (From w4.heap.size) w5 v5 x.2.2.2.2.2.2 := RT.own hown5 hg2.1 hfr5
  have g6 := g5.mv (Mv.from (L := w.heap.size + 2) hg6 (by omega) (by omega))
  have hs6 := Nat.le_trans hb5.size hg6.size
  have hB5 := below_and hB4 (Nat.le_refl _) hb5
  have hB6 := hB5.trans (grown_below hg6 hB5.size (fun k hk => by cases hk; exact Nat.le_refl _))
  have h26 : w.heap.size + 2 ≤ w6.heap.size := by omega
  clear ra rr hB c2 hd2 hown3 hfr3 hb3 ra3 ra4 ra4' hg4 c3 hB3 hB4 hg2 hown5 hfr5 hb5 ra5 ra6 hg6 f3 f4 f5 g5 hs4 hs6 hB5 hs2 HS
  refine (copyVotes_any w6 vs _ (hs.mv mov_vote hB6.size (Mv.below hB6)) z2).mono ?_
  rintro e w7 ⟨v7, rfl, hR7, hb7⟩
  have ra7 := ra6'.below hb7
  have rr7 := rr6.below hb7
  have hB7 := below_and hB6 (Nat.le_refl _) hb7
  have f7 := f6.mv (Mv.belowG hb7)
  have g7 := g6.mv (Mv.belowG hb7)
  have hR7 := hR7.mv mov_vote (Nat.le_refl _) (Mv.weak (L := w.heap.size + 2) h26)
  have hone7 := hR7.one
  clear ra6' rr6 hB6 f6 g6 c5
  go_wp2_with (refine wl_set rfl _ _ _ rfl w.heap.size 5 _ rfl rfl _ _ ra7 (show 5 < 8 by decide) (by kernel_rfl) hone7 ?_; intro w8 ra8 hg8; have ra8' : Row w8 w.heap.size 28 [.int .i64 x.1.1, .int .i64 x.1.2, .int .i64 x.2.1, .int .i64 x.2.2.1, v3, v7, .slice ap np cp, v5] := ra8.out; have c8 := (row_alloc ra8' (.cells #[] 66)).cell (j := 6) rfl)
  have f8 := f7.mv (Mv.from (L := w.heap.size + 2) hg8 (by omega) (Nat.le_refl _))
  have g8 := g7.mv (Mv.from (L := w.heap.size + 2) hg8 (by omega) (Nat.le_refl _))
  have hR8 := hR7.mv mov_vote hg8.size (Mv.from (L := w.heap.size + 2) hg8 (by omega) (Nat.le_refl _))
  have rr8 := rr7.grown hg8 (fun e => by injection e with e; omega)
  have hB8 : Below w.heap.size w w8 := hB7.trans (grown_below hg8 hB7.size (fun k hk => by cases hk; exact Nat.le_refl _))
  have h28 : w.heap.size + 2 ≤ w8.heap.size := Nat.le_trans (Nat.le_trans h26 hb7.size) hg8.size
  have hlm : (np : Int) ≤ 9223372036854775807 := by rw [← hxl]; exact rl_len hp
  obtain ⟨zp1, zp2⟩ := z3
  rw [hxl] at zp1
  clear ra7 rr7 hB7 f7 g7 hR7 hone7 ra8 hg8 hb7 c8 hs hd hg
  generalize hys : x.2.2.2.2.2.1 = ys at *
  have HXL := (show Hid (ys.length = np) from hxl)
  have HYS := (show Hid (x.2.2.2.2.2.1 = ys) from hys)
  have HZ1 := (show Hid (np * 112 ≤ 140737488351232) from zp1)
  have HZ2 := (show Hid (∀ y ∈ ys, szP y) from zp2)
  clear hxl hys zp1 zp2
  go_loopw [3, 24] (fun v i wr => ∃ q : Nat, q ≤ np ∧ i = .int .i64 q ∧ LB RPrep 66 8 w8.heap.size wr v (ys.take q) ∧ Below w8.heap.size w8 wr) (fun _ i _ => np - (intOf i).toNat)
  case atStart => exact ⟨0, by omega, rfl, LB.fresh _ _ _ _ _ (Nat.le_refl _), below_alloc w8 _⟩
  case round =>
    obtain ⟨q, hq, rfl, hLB, hbr⟩ := hrel
    have hBr := below_and hB8 (Nat.le_refl _) hbr
    by_cases hql : q < np
    · obtain ⟨a, ha⟩ : ∃ a, ys[q]? = some a := ⟨_, List.getElem?_eq_getElem (by have := HXL.out; omega)⟩
      obtain ⟨bb, off, cap, hw1, _, _, _, hbb, hx1⟩ := hp.at (by have := HXL.out; omega)
      injection hw1 with e1 e2 e3
      clear e2
      subst e1 e3
      obtain ⟨r1, _, y1, vo, vq, vc, rfl, t1, t2, t3⟩ := hx1 q a ha
      have hza := HZ2.out a (List.mem_of_getElem? ha)
      have hrng := rangeAt_block y1 (hBr.block bb hbb)
      have HA := (show Hid (ys.take (q + 1) = ys.take q ++ [a]) from take_snoc' ys q a ha)
      have HTL := (show Hid ((ys.take q).length = q) from take_len (by have := HXL.out; omega))
      have k1 := one_RPrep (G := Any) (w := w) (x := a) ⟨vo, vq, vc, rfl, t1, t2, t3⟩
      have hrow0 := Row.new wr 66 [.int .i64 0, .int .i64 0, .int .i64 0, .int .i64 0, .int .i64 0, .slice none 0 0, .slice none 0 0, .slice none 0 0]
      clear ha hx1 y1
      go_wp2_with (first
        | (refine wpList_load_mid rfl _ _ rfl bb (off + q * 8) rfl [.int .i64 a.1, .int .i64 a.2.1.1, .int .i64 a.2.1.2, .int .i64 a.2.2.1.1, .int .i64 a.2.2.1.2.1, vo, vq, vc] _ hrng Tryz.underlying66 rfl (by kernel_rfl) ?_)
        | (refine wl_store rfl _ _ _ rfl wr.heap.size [.int .i64 a.1, .int .i64 a.2.1.1, .int .i64 a.2.1.2, .int .i64 a.2.2.1.1, .int .i64 a.2.2.1.2.1, vo, vq, vc] rfl rfl _ _ hrow0 rfl (by kernel_rfl) k1 ?_; intro w9 hr9 hg9))
      have hb9 : Below wr.heap.size wr w9 := (below_alloc wr (.cells ([.int .i64 0, .int .i64 0, .int .i64 0, .int .i64 0, .int .i64 0, .slice none 0 0, .slice none 0 0, .slice none 0 0] : List Value).toArray 66)).trans (grown_below hg9 (by simp) (fun k hk => by cases hk; exact Nat.le_refl _))
      have hr9 := hr9.out
      have hB9 := below_and hBr (Nat.le_refl _) hb9
      have hB9d : Below w.heap.size w w9.drew := hB9.trans ⟨rfl, rfl, rfl, Nat.le_refl _, fun _ _ => rfl⟩
      have hb98 := below_and hbr (Nat.le_refl _) hb9
      have hLB9 := hLB.below mov_prep hb9
      have hlt9 : ∀ g, u3.ownBlock = some g → g < w9.heap.size := hLB9.lt
      have hnv : u3.ownBlock ≠ some wr.heap.size := fun e => absurd (hLB.lt _ e) (Nat.lt_irrefl _)
      have p0 := hr9.cell (j := 0) rfl
      have p1 := hr9.cell (j := 1) rfl
      have p2 := hr9.cell (j := 2) rfl
      have p3 := hr9.cell (j := 3) rfl
      have p4 := hr9.cell (j := 4) rfl
      have p5 := hr9.cell (j := 5) rfl
      have p6 := hr9.cell (j := 6) rfl
      have p7 := hr9.cell (j := 7) rfl
      have hdw : Below w9.heap.size w9 w9.drew := ⟨rfl, rfl, rfl, Nat.le_refl _, fun _ _ => rfl⟩
      have SK := (show Hid (∀ u, Below w9.heap.size w9 u → u.cell? ⟨wr.heap.size, 0, none⟩ = some (Value.int .i64 a.1) ∧ u.cell? ⟨wr.heap.size, 1, none⟩ = some (Value.int .i64 a.2.1.1) ∧ u.cell? ⟨wr.heap.size, 2, none⟩ = some (Value.int .i64 a.2.1.2) ∧ u.cell? ⟨wr.heap.size, 3, none⟩ = some (Value.int .i64 a.2.2.1.1) ∧ u.cell? ⟨wr.heap.size, 4, none⟩ = some (Value.int .i64 a.2.2.1.2.1) ∧ u.cell? ⟨wr.heap.size, 5, none⟩ = some (vo) ∧ u.cell? ⟨wr.heap.size, 6, none⟩ = some (vq) ∧ u.cell? ⟨wr.heap.size, 7, none⟩ = some (vc)) from fun u hu => ⟨keep_cell hu p0, keep_cell hu p1, keep_cell hu p2, keep_cell hu p3, keep_cell hu p4, keep_cell hu p5, keep_cell hu p6, keep_cell hu p7⟩)
      have hws : w8.heap.size ≤ w9.heap.size := hb98.size
      have HQ := (show Hid (Calls Tryz.prog 29 #[.agg ([.int .i64 a.2.2.1.1, .int .i64 a.2.2.1.2.1, vo, vq] : List Value).toArray] w9.drew _) from copyReq_any w9.drew [.int .i64 a.2.2.1.1, .int .i64 a.2.2.1.2.1, vo, vq] a.2.2.1 ⟨_, _, rfl, t1.mv (Mv.below hB9d), t2.mv (Mv.below hB9d)⟩ hza.1)
      clear hrng hrow0 hg9
      go_region_held3 (fun u => u.cell? ⟨wr.heap.size, 0, none⟩ = some (Value.int .i64 a.1) ∧ u.cell? ⟨wr.heap.size, 1, none⟩ = some (Value.int .i64 a.2.1.1) ∧ u.cell? ⟨wr.heap.size, 2, none⟩ = some (Value.int .i64 a.2.1.2) ∧ u.cell? ⟨wr.heap.size, 3, none⟩ = some (Value.int .i64 a.2.2.1.1) ∧ u.cell? ⟨wr.heap.size, 4, none⟩ = some (Value.int .i64 a.2.2.1.2.1) ∧ u.cell? ⟨wr.heap.size, 5, none⟩ = some (vo) ∧ u.cell? ⟨wr.heap.size, 6, none⟩ = some (vq) ∧ u.cell? ⟨wr.heap.size, 7, none⟩ = some (vc))
        (first | exact SK.out _ (by assumption) | exact hS13 | go_keep)
        (first
          | (go_at_call 29; refine HQ.out.mono ?_; rintro e w10 ⟨r10, rfl, hR10, hb10⟩; obtain ⟨q1, q2, rfl, m1, m2⟩ := hR10; obtain ⟨ao1, n1, c1, rfl⟩ := rt_slice m1; obtain ⟨ao2, n2, c2, rfl⟩ := rt_slice m2; have hb10w : Below w9.heap.size w9 w10 := hdw.trans hb10; have hB10 := below_and hB9 (Nat.le_refl _) hb10w)
          | (go_at_call 17; refine (copyVotes_any w10 vc _ (t3.mv mov_vote hB10.size (Mv.below hB10)) hza.2).mono ?_; rintro e w11 ⟨v11, rfl, hR11, hb11⟩; obtain ⟨ao3, n3, c3, rfl⟩ := rl_slice hR11; have hb11w : Below w9.heap.size w9 w11 := below_and hb10w (Nat.le_refl _) hb11; have hLB11 := hLB9.below mov_prep hb11w; have hRc : RPrep (From w9.heap.size) w11 [.int .i64 a.1, .int .i64 a.2.1.1, .int .i64 a.2.1.2, .int .i64 a.2.2.1.1, .int .i64 a.2.2.1.2.1, .slice ao1 n1 c1, .slice ao2 n2 c2, .slice ao3 n3 c3] a := ⟨_, _, _, rfl, m1.mv (Mv.belowF hb11 (Nat.le_refl _)), m2.mv (Mv.belowF hb11 (Nat.le_refl _)), hR11.mv mov_vote (Nat.le_refl _) (Mv.weak hb10w.size)⟩)
          | (refine step_push mov_prep (by rfl) _ _ _ (by rfl) 66 8 112 _ Tryz.underlying26 Tryz.inf_preps rfl (by decide) w8.heap.size u3 (ys.take q) (by rfl) hLB11 [.int .i64 a.1, .int .i64 a.2.1.1, .int .i64 a.2.1.2, .int .i64 a.2.2.1.1, .int .i64 a.2.2.1.2.1, .slice ao1 n1 c1, .slice ao2 n2 c2, .slice ao3 n3 c3] a w9.heap.size hRc rfl (one_RPrep hRc) hws hlt9 (by rfl) (Nat.le_trans hws hb11w.size) (by rw [HTL.out]; have := HZ1.out; omega) (by decide) ?_; intro v13 w13 hLB13 hg13; have hS13 : w13.cell? ⟨wr.heap.size, 0, none⟩ = some (Value.int .i64 a.1) ∧ w13.cell? ⟨wr.heap.size, 1, none⟩ = some (Value.int .i64 a.2.1.1) ∧ w13.cell? ⟨wr.heap.size, 2, none⟩ = some (Value.int .i64 a.2.1.2) ∧ w13.cell? ⟨wr.heap.size, 3, none⟩ = some (Value.int .i64 a.2.2.1.1) ∧ w13.cell? ⟨wr.heap.size, 4, none⟩ = some (Value.int .i64 a.2.2.1.2.1) ∧ w13.cell? ⟨wr.heap.size, 5, none⟩ = some (vo) ∧ w13.cell? ⟨wr.heap.size, 6, none⟩ = some (vq) ∧ w13.cell? ⟨wr.heap.size, 7, none⟩ = some (vc) := ⟨grown_cell hg13 (keep_cell hb11w p0) hnv, grown_cell hg13 (keep_cell hb11w p1) hnv, grown_cell hg13 (keep_cell hb11w p2) hnv, grown_cell hg13 (keep_cell hb11w p3) hnv, grown_cell hg13 (keep_cell hb11w p4) hnv, grown_cell hg13 (keep_cell hb11w p5) hnv, grown_cell hg13 (keep_cell hb11w p6) hnv, grown_cell hg13 (keep_cell hb11w p7) hnv⟩))
      rw [← HA.out] at hLB13
      have hb811 := below_and hb98 (Nat.le_refl _) hb11w
      have hb813 := hb811.trans (grown_below hg13 hb811.size (fun k hk => hLB.fr k hk))
      go_wp2_with fail
      go_roundw
      case rel => exact ⟨q + 1, by omega, by go_num, hLB13, hb813⟩
      case measure => simp [intOf]; omega
    · obtain rfl : q = np := by omega
      rw [← HXL.out, List.take_length] at hLB
      have hrl := hLB.rl mov_prep
      have hone := hLB.form
      have raE := ra8'.below hbr
      have rrE := rr8.below hbr
      have fE := f8.mv (Mv.belowG hbr)
      have gE := g8.mv (Mv.belowG hbr)
      have hRE := hR8.mv mov_vote hbr.size (Mv.belowG hbr)
      have k3 := fE.one
      have k5 := gE.one
      have k7 := hRE.one
      go_wp2_with (first
        | (refine wl_set rfl _ _ _ rfl w.heap.size 6 _ rfl rfl _ _ raE (show 6 < 8 by decide) (by kernel_rfl) hone ?_; intro wx rax hgx; have rax' : Row wx w.heap.size 28 [.int .i64 x.1.1, .int .i64 x.1.2, .int .i64 x.2.1, .int .i64 x.2.2.1, v3, v7, u3, v5] := rax.out; have rrx := rrE.grown hgx (fun e => by injection e with e; omega))
        | (refine wl_load rfl _ _ rfl w.heap.size rfl _ _ rax' _ Tryz.underlying28 rfl (by kernel_rfl) ?_)
        | (refine wl_store rfl _ _ _ rfl (w.heap.size + 1) [.int .i64 x.1.1, .int .i64 x.1.2, .int .i64 x.2.1, .int .i64 x.2.2.1, v3, v7, u3, v5] rfl rfl _ _ rrx rfl (by kernel_rfl) (one8 k3 k7 hone k5) ?_; intro wy hry hgy))
      have hry := hry.out
      have f9 := (fE.mv (Mv.from (L := w.heap.size + 2) hgx (by omega) (Nat.le_refl _))).mv (Mv.from (L := w.heap.size) hgy (by omega) (by omega))
      have g9 := (gE.mv (Mv.from (L := w.heap.size + 2) hgx (by omega) (Nat.le_refl _))).mv (Mv.from (L := w.heap.size) hgy (by omega) (by omega))
      have s9 := (hRE.mv mov_vote hgx.size (Mv.from (L := w.heap.size + 2) hgx (by omega) (Nat.le_refl _))).mv mov_vote hgy.size (Mv.from (L := w.heap.size) hgy (by omega) (by omega))
      have p9 := (hrl.mv mov_prep hgx.size (Mv.from (L := w.heap.size + 2) hgx (by omega) h28)).mv mov_prep hgy.size (Mv.from (L := w.heap.size) hgy (by omega) (by omega))
      have hBx := hBr.trans (grown_below hgx hBr.size (fun k hk => by cases hk; exact Nat.le_refl _))
      have hBy := hBx.trans (grown_below hgy hBx.size (fun k hk => by cases hk; omega))
      refine bodyPost_ret (v := .agg ([.int .i64 x.1.1, .int .i64 x.1.2, .int .i64 x.2.1, .int .i64 x.2.2.1, v3, v7, u3, v5] : List Value).toArray) (results_cell_row rfl _ _ (w.heap.size + 1) _ _ (0, 0) _ (by rfl) hry Tryz.underlying28 rfl (by kernel_rfl)) rfl ?_
      exact ⟨_, rfl, ⟨_, _, _, _, rfl, f9, s9, by rw [HYS.out]; exact p9, g9⟩, hBy⟩
end
section
open Go.RowKit Oct
/-- Numbers as cells. -/
def ic (l : List Int) : List Value := l.map (Value.int .i64)
theorem ic_one (l : List Int) : ∀ u ∈ ic l, u.oneCell' = true := ints_oneCell .i64 l
theorem ints_rdv {G : Nat → Prop} {w : World} {v : Value} {ys : List Int} (h : RL RInt 1 G w v ys) : Rdv w v (ic ys) ∨ (ys = [] ∧ ∃ c, v = .slice none 0 c) := by
  by_cases hl : 0 < ys.length
  · left
    obtain ⟨b, off, cap, rfl, h1, h2, h3, h4, h5⟩ := h.at hl
    refine ⟨some ⟨b, off, none⟩, cap, by simp [ic], by simpa [ic] using h1, h2, fun e => (by cases e), fun a ha j u hu => ?_⟩
    cases ha
    rw [Addr.add_mid]
    simp only [ic, List.getElem?_map, Option.map_eq_some_iff] at hu
    obtain ⟨y, hy, rfl⟩ := hu
    obtain ⟨r, _, hr, he⟩ := h5 j y hy
    have he : r = [.int .i64 y] := he
    subst he
    have := hr 0 _ rfl
    simpa using this
  · obtain rfl : ys = [] := List.eq_nil_of_length_eq_zero (by omega)
    obtain ⟨ao, cap, rfl, hc⟩ := h.form
    cases ao with
    | none => exact .inr ⟨rfl, cap, rfl⟩
    | some ad => exact .inl ⟨some ad, cap, rfl, Nat.zero_le _, hc, fun e => (by cases e), fun b hb j u hu => by simp [ic] at hu⟩
theorem ints_rl {w : World} {v : Value} {ys : List Int} {B : Nat} (h : Own w 3 v (ic ys)) (hf : Fr B v) : RL RInt 1 (From B) w v ys := by
  have hflat : (ys.map fun y => [Value.int .i64 y]).flatten = ic ys := by
    clear h hf
    unfold ic
    induction ys with
    | nil => rfl
    | cons y ys ih => rw [List.map_cons, List.flatten_cons, ih]; rfl
  have hlen : (ic ys).length = (ys.map fun y => [Value.int .i64 y]).length := by simp [ic]
  have hall : ∀ l : List Int, All2 (RInt (fun b => B ≤ b ∧ v.ownBlock ≠ some b) w) (l.map fun y => [Value.int .i64 y]) l := fun l => by
    induction l with
    | nil => exact trivial
    | cons y l ih => exact ⟨rfl, ih⟩
  have hLB : LB RInt 3 1 B w v ys := ⟨ys.map fun y => [.int .i64 y], by intro r hr; obtain ⟨y, _, rfl⟩ := List.mem_map.1 hr; rfl, by rw [hflat, ← hlen]; exact h, hf, hall ys⟩
  exact hLB.rl mov_int
/-- 'append([]int{}, x...)': a copy. -/
theorem app_ints_copy {w : World} {ops : Array Oper} {rest : List Oper} {o : Oper} {a : Act} {Q : Exit → Act → World → Prop} (hgd : o.guard = none) (s x : Operand)
    (ho : o.op = .call { callee := .builtin .append, args := #[s, x], argTypes := #[57, 57] })
    (hs : a.eval s = .slice (some ⟨w.heap.size, 0, none⟩) 0 0) (sv : Value) (ys : List Int) (hx : a.eval x = sv) (hsrc : RL RInt 1 Any w sv ys) (hb : ys.length * 8 ≤ 140737488351232)
    (h : ∀ v' w', Own w' 3 v' (ic ys) → Fr w.heap.size v' → Below w.heap.size w w' → wpList Tryz.prog ops Q rest (a.put o.dst v') w') : wpList Tryz.prog ops Q (o :: rest) a (w.alloc (.cells #[] 3)) := by
  obtain ⟨i0, hi, hz0, hz1, hz2⟩ := info_parts Tryz.infoI
  have hsrc1 := hsrc.mv mov_int (below_alloc w (.cells #[] 3)).size (Mv.below (below_alloc w _))
  have hil : (ic ys).length = ys.length := by simp [ic]
  rcases ints_rdv hsrc1 with hr | ⟨rfl, c, rfl⟩
  case inr =>
    refine wpList_plain hgd fun K hK => ?_
    have hrun : (Builtin.append_ #[57, 57] o.type #[.slice (some ⟨w.heap.size, 0, none⟩) 0 0, .slice none 0 c]).run Tryz.prog (w.alloc (.cells #[] 3)) = .ok (.slice (some ⟨w.heap.size, 0, none⟩) 0 0) (w.alloc (.cells #[] 3)) := by
      simp [Builtin.append_, run_underlying Tryz.underlying57, sizeOf, typeInfo, hi, Builtin.lenOf, Builtin.firstCells, storeCells]
    unfold Oper.wp
    simp [execOp, ho, resolve, invoke, builtin, hs, hx, hrun, Result.andThen]
    exact hK _ _ (h _ _ (World.ownsRow_lit (base := 0) (size := 1) w #[] 0 (Nat.zero_le _) (by decide) rfl) (fr_at _ _ _ _ (Nat.le_refl _)) (below_alloc w _))
  refine wpList_app (wanted_none hgd) s x 57 ho 3 i0 (.int .i64 0) 8 Tryz.underlying57 hi hz0 hz1 hz2 rfl _ [] hs (World.ownsRow_lit (base := 0) (size := 1) w #[] 0 (Nat.zero_le _) (by decide) rfl) sv (ic ys) hx hr (ic_one _) (by rw [hil]; unfold maxLen; simp; omega) (by rw [hil]; simp; omega) ?_
  intro v' w' happ
  rw [List.nil_append] at happ
  have hp := happ.pre (below_alloc w _)
  exact h v' w' hp.own (happ.fr (fr_at _ _ _ _ (Nat.le_refl _)) (by simp)) ((below_alloc w _).trans (happ.below (fr_at _ _ _ _ (Nat.le_refl _)) (by simp)))
end
end Go.Proofs.YtgbfmccecnfooaaGreatDoor
