/- WindowOnce: a window, and two lists of what it took. -/
import Derived.Test.YtjloehkolnjnhaaXRAH
import Derived.Test.YtjloehkolnjnhaaXRBQ
import Derived.Test.YtjloehkolnjnhaaXRBC
set_option linter.unusedSimpArgs false
set_option linter.unusedVariables false
namespace Go.Proofs.Ytjloehkolnjnhaa
section
open Go.RowKit Oct
/-- Of what was there only the disk's block and its bytes' may have turned. -/
structure Gr2 (w w' : World) (b : Nat) (v : Value) : Prop where
  os : w'.os = w.os
  tape : w'.tape = w.tape
  output : w'.output = w.output
  size : w.heap.size ≤ w'.heap.size
  block : ∀ k, k < w.heap.size → k ≠ b → v.ownBlock ≠ some k → w'.heap[k]? = w.heap[k]?
theorem Gr2.refl (w : World) (b : Nat) (v : Value) : Gr2 w w b v := ⟨rfl, rfl, rfl, Nat.le_refl _, fun _ _ _ _ => rfl⟩
theorem Gr2.of {w w' : World} {b : Nat} {v : Value} (h : w.grownBy w' (some b)) : Gr2 w w' b v := ⟨h.os, h.tape, h.output, h.size, fun k hk hne _ => h.block k hk (fun e => hne (by injection e))⟩
theorem Gr2.bel {w w' : World} {b : Nat} {v : Value} (h : Below w.heap.size w w') : Gr2 w w' b v := ⟨h.os, h.tape, h.output, h.size, fun k hk _ _ => h.block k hk⟩
/-- Where the new bytes lie. -/
def Spt (w : World) (v v' : Value) : Prop := v'.ownBlock = v.ownBlock ∨ Fr w.heap.size v'
theorem Gr2.trans {w w1 w2 : World} {b : Nat} {v v1 : Value} (h : Gr2 w w1 b v) (hs : Spt w v v1) (h' : Gr2 w1 w2 b v1) : Gr2 w w2 b v :=
  ⟨h'.os.trans h.os, h'.tape.trans h.tape, h'.output.trans h.output, Nat.le_trans h.size h'.size, fun k hk hne hv => by
    refine (h'.block k (Nat.lt_of_lt_of_le hk h.size) hne ?_).trans (h.block k hk hne hv)
    rcases hs with e | hf
    · rw [e]; exact hv
    · intro e
      have := hf k e
      omega⟩
theorem Gr2.below {w w' : World} {b B : Nat} {v : Value} (h : Gr2 w w' b v) (hB : B ≤ w.heap.size) (hb : B ≤ b) (hv : Fr B v) : Below B w w' :=
  ⟨h.os, h.tape, h.output, h.size, fun k hk => h.block k (by omega) (by omega) (fun e => by have := hv k e; omega)⟩
theorem Gr2.rd {w w' : World} {b : Nat} {v u : Value} {l : List Int} (h : Gr2 w w' b v) (hr : Rd w u l) (hb : l ≠ [] → u.ownBlock ≠ some b) (hv : l ≠ [] → ∀ k, v.ownBlock = some k → u.ownBlock ≠ some k) : Rd w' u l :=
  ⟨hr.1, hr.2.keep fun hx k hk hlt => by
    have hx : l ≠ [] := fun e => hx (by rw [e]; rfl)
    exact h.block k hlt (fun e => hb hx (by rw [hk, e])) (fun e => hv hx k e hk)⟩
theorem Gr2.own {w w' : World} {b : Nat} {v u : Value} {e : TypeId} {xs : List Value} (h : Gr2 w w' b v) (hr : Own w e u xs) (hb : u.ownBlock ≠ some b) (hv : ∀ k, v.ownBlock = some k → u.ownBlock ≠ some k) : Own w' e u xs := by
  obtain ⟨h1, h2⟩ := hr
  refine ⟨h1, ?_⟩
  rcases h2 with h2 | ⟨g, cap, cur, rfl, h3, hg, h4⟩
  · exact .inl h2
  · refine .inr ⟨g, cap, cur, rfl, h3, ?_, h4⟩
    rw [h.block g ((Array.getElem?_eq_some_iff.1 hg).1) (fun e => hb (by rw [← e]; rfl)) (fun e => hv g e rfl)]
    exact hg
theorem Gr2.row {w w' : World} {b c : Nat} {v : Value} {t : TypeId} {xs : List Value} (h : Gr2 w w' b v) (hr : Row w c t xs) (hb : c ≠ b) (hv : v.ownBlock ≠ some c) : Row w' c t xs := (h.block c hr.lt hb hv).trans hr
section
variable {P : Program}
/-- One more record: 'x = append(x, r)'. -/
theorem wp_pushS {α : Type} {R : (Nat → Prop) → World → List Value → α → Prop} (hR : Mov R) {w : World} {o : Oper} {a : Act} {K : Act → World → Prop} {Q : Exit → Act → World → Prop} (s x : Operand) (t : TypeId)
    (ho : o.op = .call { callee := .builtin .append, args := #[s, x], argTypes := #[t, t] }) (e : TypeId) (k bytes : Nat) (z : Value) (ht : P.underlying t = some (.slice e)) (hi : (P.info? e).map (fun i => (i.zero, i.size, i.bytes)) = some (some z, k, bytes))
    (hzs : z.cells.size = k) (hk : 0 < k) (B : Nat) (v : Value) (ys : List α) (hs : a.eval s = v) (hL : LB R e k B w v ys) (r : List Value) (y : α) (C : Nat) (hr : R (From C) w r y) (hrl : r.length = k) (h1 : ∀ u ∈ r, u.oneCell' = true)
    (hC : B ≤ C) (hCv : ∀ g, v.ownBlock = some g → g < C) (hx : a.eval x = .slice (some ⟨w.heap.size, 0, none⟩) 1 1) (hB : B ≤ w.heap.size)
    (hb : (ys.length + 1) * bytes ≤ 140737488355328) (hb0 : 1 ≤ bytes)
    (h : ∀ v' w', LB R e k B w' v' (ys ++ [y]) → w.grownBy w' v.ownBlock → Spt w v v' → K (a.put o.dst v') w') : o.wp P a (w.alloc (.cells r.toArray e)) K Q := by
  obtain ⟨i0, hi, hz0, hz1, hz2⟩ := info_parts hi
  obtain ⟨rows, h0, hown, hfr, hall⟩ := hL
  have hlen := hall.len
  have hbel := below_alloc w (.cells r.toArray e)
  have hown1 : (w.alloc (.cells r.toArray e)).ownsRow 0 e k v rows.length rows.flatten := World.ownsRow.kept (row := none) hown ⟨hbel.os, hbel.tape, hbel.output, hbel.size, fun k hk _ => hbel.block k hk⟩ (by cases hv : v.ownBlock <;> simp)
  have hmul : ys.length + 1 ≤ (ys.length + 1) * bytes := Nat.le_mul_of_pos_right _ hb0
  refine wp_append_lies (w.alloc (.cells r.toArray e)) s x t ho 0 e i0 z k bytes ht hi hz0 hz1 hz2 hzs hk v rows.length rows.flatten hs hown1 ⟨w.heap.size, 0, none⟩ 1 1 r hx (by omega)
    (fun j u hj => by
      rw [Addr.add_mid, Nat.zero_add]
      exact (Row.new w e r).cell hj) h1 (by omega) (by rw [hlen]; unfold maxLen; omega) (by rw [hlen]; exact hb) (Nat.zero_le _) (w.heap.size + 1) (by simp) ?_
  intro g cap w' hown' hgr hat hlt
  have hg0 : w.grownBy w' v.ownBlock := grown_trans (grown_of_below hbel _) hgr (.inl rfl)
  have hgB : B ≤ g := by
    rcases hat with hat | hat
    · exact hfr g hat
    · omega
  have hflat : rows.flatten ++ r = (rows ++ [r]).flatten := by simp
  refine h _ w' ⟨rows ++ [r], ?_, ?_, ?_, ?_⟩ hg0 (by
    rcases hat with hat | hat
    · exact .inl (by rw [hat]; rfl)
    · exact .inr fun j hj => by simp [Value.ownBlock] at hj; omega)
  · intro q hq
    rcases List.mem_append.1 hq with hq | hq
    · exact h0 q hq
    · simp at hq; subst hq; exact hrl
  · rw [List.length_append, ← hflat]
    exact hown'
  · exact fun j hj => by simp [Value.ownBlock] at hj; omega
  · have hold : All2 (R (fun b => B ≤ b ∧ (Value.slice (some ⟨g, 0, none⟩) (rows.length + 1) cap).ownBlock ≠ some b) w') rows ys := hall.mono fun q b hq => hR _ _ w w' q b hq hg0.size fun j hj hjl => by
      refine ⟨hg0.block j hjl (fun e => hj.2 e.symm), hj.1, fun e => ?_⟩
      simp [Value.ownBlock] at e
      rcases hat with hat | hat
      · exact hj.2 (by rw [hat, e])
      · omega
    have hnew : R (fun b => B ≤ b ∧ (Value.slice (some ⟨g, 0, none⟩) (rows.length + 1) cap).ownBlock ≠ some b) w' r y := hR _ _ w w' r y hr hg0.size fun j hj hjl => by
      unfold From at hj
      refine ⟨hg0.block j hjl (fun e => by have := hCv j e.symm; omega), by omega, fun e => ?_⟩
      simp [Value.ownBlock] at e
      rcases hat with hat | hat
      · have := hCv g hat; omega
      · omega
    exact All2.app hold ⟨hnew, trivial⟩
/-- The same at an operation of a region that doesn't draw. -/
theorem wl_pushS {α : Type} {R : (Nat → Prop) → World → List Value → α → Prop} (hR : Mov R) {w : World} {ops : Array Oper} {rest : List Oper} {o : Oper} {a : Act} {Q : Exit → Act → World → Prop} (hgd : o.guard = none) (s x : Operand) (t : TypeId)
    (ho : o.op = .call { callee := .builtin .append, args := #[s, x], argTypes := #[t, t] }) (e : TypeId) (k bytes : Nat) (z : Value) (ht : P.underlying t = some (.slice e)) (hi : (P.info? e).map (fun i => (i.zero, i.size, i.bytes)) = some (some z, k, bytes))
    (hzs : z.cells.size = k) (hk : 0 < k) (B : Nat) (v : Value) (ys : List α) (hs : a.eval s = v) (hL : LB R e k B w v ys) (r : List Value) (y : α) (C : Nat) (hr : R (From C) w r y) (hrl : r.length = k) (h1 : ∀ u ∈ r, u.oneCell' = true)
    (hC : B ≤ C) (hCv : ∀ g, v.ownBlock = some g → g < C) (hx : a.eval x = .slice (some ⟨w.heap.size, 0, none⟩) 1 1) (hB : B ≤ w.heap.size)
    (hb : (ys.length + 1) * bytes ≤ 140737488355328) (hb0 : 1 ≤ bytes)
    (h : ∀ v' w', LB R e k B w' v' (ys ++ [y]) → w.grownBy w' v.ownBlock → Spt w v v' → wpList P ops Q rest (a.put o.dst v') w') : wpList P ops Q (o :: rest) a (w.alloc (.cells r.toArray e)) :=
  wpList_plain hgd fun _ hK => wp_pushS hR s x t ho e k bytes z ht hi hzs hk B v ys hs hL r y C hr hrl h1 hC hCv hx hB hb hb0 fun v' w' h2 h3 h4 => hK _ _ (h v' w' h2 h3 h4)
end
end
section
open Go.RowKit Oct Kvl Bal
theorem tk_act {low : Int} {kn : List (Int × PSl)} {p : PPrep} (h : tkOk low kn p) (a : PWAct) : tkOk (stA low kn a).1.1 (stA low kn a).1.2 p := by
  unfold stA
  split
  · exact (tk_vote h _ _ _).1
  split
  · exact tk_prep h _ _ _ _
  split
  · exact tk_done h _ _ _ _
  split
  · exact tk_cut h _
  · exact h
theorem dn_act {low : Int} {kn : List (Int × PSl)} {p : PPrep} (h : dnOk low kn p) (a : PWAct) : dnOk (stA low kn a).1.1 (stA low kn a).1.2 p := by
  unfold stA
  split
  · exact dn_vote h _ _ _
  split
  · exact dn_prep h _ _ _ _
  split
  · exact (dn_done h _ _ _ _).1
  split
  · exact dn_cut h _
  · exact h
theorem LB.gw {α : Type} {R : (Nat → Prop) → World → List Value → α → Prop} (hR : Mov R) {t : TypeId} {k B b m : Nat} {w w' : World} {v : Value} {ys : List α} (h : LB R t k B w v ys) (hc : Gw w w' b m) (h3 : b < B) (h4 : m < B) : LB R t k B w' v ys := by
  obtain ⟨rows, h0, h1, h2, hall⟩ := h
  refine ⟨rows, h0, ?_, h2, hall.mono fun r a h => hR _ _ w w' r a h hc.size fun j hj hlt => ⟨hc.block j hlt (by have := hj.1; omega) (by have := hj.1; omega), hj⟩⟩
  refine ⟨h1.1, ?_⟩
  rcases h1.2 with hn | ⟨g, cap, cur, e, g1, g2, g3⟩
  · exact .inl hn
  · have hg := h2 g (by rw [e]; rfl)
    refine .inr ⟨g, cap, cur, e, g1, ?_, g3⟩
    have hlt := (World.ownsRow.lt h1 g (by rw [e]; rfl)).2
    rw [hc.block g hlt (by omega) (by omega)]
    exact g2
theorem Try.infPrepW : (Try.prog.info? 39).map (fun i => (i.zero, i.size, i.bytes)) = some (some (.agg #[.int .i64 0, .int .i64 0, .int .i64 0, .int .i64 0, .int .i64 0, .slice none 0 0, .slice none 0 0, .slice none 0 0]), 8, 112) := by kernel_rfl
/-- What was prepared, its texts in an elder world. -/
def RPc (W : World) : (Nat → Prop) → World → List Value → PPrep → Prop := fun _ _ r x => RPrep Any W r x
theorem mov_pc (W : World) : Mov (RPc W) := fun _ _ _ _ _ _ h _ _ => h
theorem RT.lowW {w : World} {v : Value} {l : List Int} (h : RT Any w v l) : RT (fun k => k < w.heap.size) w v l := ⟨h.1, fun hx k hk => h.1.lt hx k hk⟩
theorem RL.lowW {w : World} {v : Value} {ys : List PVote} (h : RL RVote 2 Any w v ys) : RL RVote 2 (fun k => k < w.heap.size) w v ys := by
  obtain ⟨rows, ⟨h1, h2⟩, h3⟩ := h
  refine ⟨rows, ⟨h1, ?_⟩, h3.mono fun r a hr => ?_⟩
  · rcases h2 with h2 | ⟨b, off, cap, e1, e2, e3, e4, _, e5, e6⟩
    · exact .inl h2
    · exact .inr ⟨b, off, cap, e1, e2, e3, e4, e5, e5, e6⟩
  · obtain ⟨s, e, t⟩ := hr
    exact ⟨s, e, t.lowW⟩
/-- A window, and what it took. -/
structure OnW (W : World) (b m B : Nat) (wr : World) (tv dv : Value) (low : Int) (kn : List (Int × PSl)) (tk dn : List PPrep) : Prop where
  wd : ∃ G, Gd G b m wr.heap.size ∧ Wnd G wr b m low kn ∧ (∀ g, tv.ownBlock = some g → ¬ G g) ∧ (∀ g, dv.ownBlock = some g → ¬ G g)
  tl : LB (RPc W) 39 8 B wr tv tk
  dl : LB (RPc W) 39 8 B wr dv dn
  ne : ∀ g, tv.ownBlock = some g → dv.ownBlock ≠ some g
  bel : Below W.heap.size W wr
  hb : W.heap.size ≤ b ∧ W.heap.size ≤ m ∧ b < B ∧ m < B
  tf : ∀ p ∈ tk, tkOk low kn p
  df : ∀ p ∈ dn, dnOk low kn p
  sz : B ≤ wr.heap.size
section
variable {W : World} {b m B : Nat} {wr wx : World} {tv dv : Value} {low : Int} {kn : List (Int × PSl)} {tk dn : List PPrep}
theorem OnW.below (h : OnW W b m B wr tv dv low kn tk dn) (hb : Below wr.heap.size wr wx) : OnW W b m B wx tv dv low kn tk dn := by
  obtain ⟨G, h1, h2, h3, h4⟩ := h.wd
  exact ⟨⟨G, h1.up hb.size, h2.below hb, h3, h4⟩, h.tl.below (mov_pc W) hb, h.dl.below (mov_pc W) hb, h.ne, below_and h.bel (Nat.le_refl _) hb, h.hb, h.tf, h.df, Nat.le_trans h.sz hb.size⟩
theorem OnW.act (h : OnW W b m B wr tv dv low kn tk dn) {G : Nat → Prop} (h1 : Gd G b m wx.heap.size) (h3 : ∀ g, tv.ownBlock = some g → ¬ G g) (h4 : ∀ g, dv.ownBlock = some g → ¬ G g) (a : PWAct) (hW : Wnd G wx b m (stA low kn a).1.1 (stA low kn a).1.2) (hg : Gw wr wx b m) : OnW W b m B wx tv dv (stA low kn a).1.1 (stA low kn a).1.2 tk dn :=
  ⟨⟨G, h1, hW, h3, h4⟩, h.tl.gw (mov_pc W) hg h.hb.2.2.1 h.hb.2.2.2, h.dl.gw (mov_pc W) hg h.hb.2.2.1 h.hb.2.2.2, h.ne, h.bel.trans (hg.below h.bel.size h.hb.1 h.hb.2.1), h.hb, fun p hp => tk_act (h.tf p hp) a, fun p hp => dn_act (h.df p hp) a, Nat.le_trans h.sz hg.size⟩
end
end
end Go.Proofs.Ytjloehkolnjnhaa
