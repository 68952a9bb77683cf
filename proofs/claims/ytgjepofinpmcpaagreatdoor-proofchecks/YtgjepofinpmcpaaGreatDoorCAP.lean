/- An object at a block and a slice of its own beside: what may turn, and where the new row lies. -/
import Derived.Test.YtgjepofinpmcpaaGreatDoorCAJ
import Derived.Test.YtgjepofinpmcpaaGreatDoorCAI
section
set_option linter.unusedVariables false
set_option linter.unusedSimpArgs false
namespace Go.Proofs.YtgjepofinpmcpaaGreatDoor
open Go.RowKit Oct Kvl

def REnt (G : Nat → Prop) (w : World) (r : List Value) (x : PEnt) : Prop := ∃ a b, r = [a, b] ∧ RT G w a x.1 ∧ RT G w b x.2
def ROp (G : Nat → Prop) (w : World) (r : List Value) (x : POp) : Prop := ∃ n a b, r = [.int .i64 x.1, n, a, b, .int .i64 x.2.2.2.2] ∧ RT G w n x.2.1 ∧ RT G w a x.2.2.1 ∧ RT G w b x.2.2.2.1
theorem mov_ent : Mov REnt := fun _ _ _ _ _ _ h _ hm => by
  obtain ⟨a, b, e, h1, h2⟩ := h
  exact ⟨a, b, e, h1.mv hm, h2.mv hm⟩
theorem mov_op : Mov ROp := fun _ _ _ _ _ _ h _ hm => by
  obtain ⟨n, a, b, e, h1, h2, h3⟩ := h
  exact ⟨n, a, b, e, h1.mv hm, h2.mv hm, h3.mv hm⟩
theorem one_RE {G : Nat → Prop} {w : World} {r : List Value} {x : PEnt} (h : REnt G w r x) : ∀ v ∈ r, v.oneCell' = true := by
  obtain ⟨a, b, rfl, h1, h2⟩ := h
  have := h1.one
  have := h2.one
  intro v hv
  simp only [List.mem_cons, List.not_mem_nil, or_false] at hv
  rcases hv with rfl | rfl <;> assumption
/-- A text of the call's own, in a block of which G holds. -/
def OT (G : Nat → Prop) (w : World) (v : Value) (l : List Int) : Prop := Own w 5 v (bc l) ∧ Byt l ∧ ∀ k, v.ownBlock = some k → G k
theorem Own.at_block {w w' : World} {e : TypeId} {v : Value} {xs : List Value} (h : Own w e v xs) (hb : ∀ k, v.ownBlock = some k → w'.heap[k]? = w.heap[k]?) : Own w' e v xs := by
  refine ⟨h.1, ?_⟩
  rcases h.2 with h | ⟨g, cap, cur, h1, h2, h3, h4⟩
  · exact .inl h
  · exact .inr ⟨g, cap, cur, h1, h2, (hb g (by rw [h1]; rfl)).trans h3, h4⟩
theorem OT.mv {G G' : Nat → Prop} {w w' : World} {v : Value} {l : List Int} (h : OT G w v l) (hm : Mv G G' w w') : OT G' w' v l :=
  ⟨h.1.at_block fun k hk => (hm k (h.2.2 k hk) (h.1.lt k hk)).1, h.2.1, fun k hk => (hm k (h.2.2 k hk) (h.1.lt k hk)).2⟩
theorem OT.rt {G : Nat → Prop} {w : World} {v : Value} {l : List Int} (h : OT G w v l) : RT G w v l := ⟨h.1.rd h.2.1, fun _ k hk => h.2.2 k hk⟩
theorem OT.one {G : Nat → Prop} {w : World} {v : Value} {l : List Int} (h : OT G w v l) : v.oneCell' = true := h.rt.one
theorem OT.nil (G : Nat → Prop) (w : World) : OT G w (.slice none 0 0) [] := ⟨Own.nil w 5, Byt.nil, fun k hk => by simp [Value.ownBlock] at hk⟩
theorem OT.own {B : Nat} {w : World} {v : Value} {l : List Int} (h : Own w 5 v (bc l)) (hb : Byt l) (hf : Fr B v) : OT (From B) w v l := ⟨h, hb, fun k hk => hf k hk⟩
def OEnt (G : Nat → Prop) (w : World) (r : List Value) (x : PEnt) : Prop := ∃ a b, r = [a, b] ∧ OT G w a x.1 ∧ OT G w b x.2
theorem mov_oent : Mov OEnt := fun _ _ _ _ _ _ h _ hm => by
  obtain ⟨a, b, e, h1, h2⟩ := h
  exact ⟨a, b, e, h1.mv hm, h2.mv hm⟩
theorem OEnt.ent {G : Nat → Prop} {w : World} {r : List Value} {x : PEnt} (h : OEnt G w r x) : REnt G w r x := by
  obtain ⟨a, b, e, h1, h2⟩ := h
  exact ⟨a, b, e, h1.rt, h2.rt⟩
theorem RL.ent {G : Nat → Prop} {w : World} {v : Value} {ys : List PEnt} (h : RL OEnt 2 G w v ys) : RL REnt 2 G w v ys := by
  obtain ⟨rows, h1, h2⟩ := h
  exact ⟨rows, h1, h2.mono fun _ _ h => h.ent⟩
def szE (x : PEnt) : Prop := szT x.1 ∧ szT x.2
def szO (x : POp) : Prop := szT x.2.1 ∧ szT x.2.2.1 ∧ szT x.2.2.2.1

section
variable {P : Program}
/-- 'copy(d, s)' of records of k cells, into a row. -/
theorem run_copy_k (w : World) (dT sT ty elem : TypeId) (k : Nat) (hu : P.underlying dT = some (.slice elem)) (hsz : (P.info? elem).map (·.size) = some k)
    (dp sp : Option Addr) (dLen dCap sLen sCap : Nat) (g off : Nat) (cur : List Value) (t : TypeId) (hg : Row w g t cur) (cs : List Value) (hn : cs.length = Nat.min sLen dLen * k)
    (hpos : 0 < cs.length → dp = some ⟨g, off, none⟩ ∧ ∃ ad, sp = some ad ∧ ∀ j v, cs[j]? = some v → w.cell? (ad.add j) = some v) (hk : 0 < k)
    (hfit : off + cs.length ≤ cur.length) (h1 : ∀ v ∈ cs, v.oneCell' = true) :
    ∃ w', (Builtin.copy_ #[dT, sT] ty #[.slice dp dLen dCap, .slice sp sLen sCap]).run P w = .ok (goInt (Nat.min sLen dLen)) w' ∧ Row w' g t (splice cur off cs) ∧ w.grownBy w' (some g) := by
  cases hq : P.info? elem with
  | none => simp [hq] at hsz
  | some i =>
    have hi : i.size = k := by simpa [hq] using hsz
    by_cases h0 : cs.length = 0
    · obtain rfl : cs = [] := List.eq_nil_of_length_eq_zero h0
      have hm : Nat.min sLen dLen = 0 := by
        rcases Nat.eq_zero_or_pos (Nat.min sLen dLen) with h | h
        · exact h
        · have := Nat.mul_pos h hk
          simp at hn
          omega
      refine ⟨w, ?_, by simpa [splice] using hg, grown_refl _ _⟩
      cases dp <;> cases sp <;> simp [Builtin.copy_, run_underlying hu, Builtin.lenOf, Builtin.firstCells, sizeOf, typeInfo, hq, hi, hm, storeCells, loadCells, loadCellsFrom]
    · obtain ⟨rfl, ad, rfl, hsrc⟩ := hpos (by omega)
      have hl := run_loadCells_list (P := P) w ad cs hsrc
      have hst := run_storeCells_at P g off t cs 0 cur.toArray w hg (by simpa using hfit) h1
      refine ⟨w.setRow g (splice cur off cs).toArray, ?_, hg.setRow (splice cur off cs), grown_setRow _ _ _⟩
      simp [Builtin.copy_, run_underlying hu, Builtin.lenOf, Builtin.firstCells, sizeOf, typeInfo, hq, hi, ← hn, hl, hst, splice]
theorem wp_copy_k {o : Oper} {a : Act} {w : World} {K : Act → World → Prop} {Q : Exit → Act → World → Prop} (d s : Operand) (dT sT : TypeId)
    (ho : o.op = .call { callee := .builtin .copy, args := #[d, s], argTypes := #[dT, sT] }) (elem : TypeId) (k : Nat) (hu : P.underlying dT = some (.slice elem)) (hsz : (P.info? elem).map (·.size) = some k)
    (dp sp : Option Addr) (dLen dCap sLen sCap : Nat) (hd : a.eval d = .slice dp dLen dCap) (hs : a.eval s = .slice sp sLen sCap)
    (g off : Nat) (cur : List Value) (t : TypeId) (hg : Row w g t cur) (cs : List Value) (hn : cs.length = Nat.min sLen dLen * k)
    (hpos : 0 < cs.length → dp = some ⟨g, off, none⟩ ∧ ∃ ad, sp = some ad ∧ ∀ j v, cs[j]? = some v → w.cell? (ad.add j) = some v) (hk : 0 < k)
    (hfit : off + cs.length ≤ cur.length) (h1 : ∀ v ∈ cs, v.oneCell' = true) (m : Nat) (hm : Nat.min sLen dLen = m)
    (h : ∀ w', Hid (Row w' g t (splice cur off cs)) → w.grownBy w' (some g) → K (a.put o.dst (.int .i64 (m : Int))) w') : o.wp P a w K Q := by
  subst hm
  obtain ⟨w', hrun, h2, h3⟩ := run_copy_k (P := P) w dT sT o.type elem k hu hsz dp sp dLen dCap sLen sCap g off cur t hg cs hn hpos hk hfit h1
  unfold Oper.wp
  simp [execOp, ho, resolve, invoke, builtin, hd, hs, hrun, Result.andThen]
  exact h w' h2 h3
theorem wl_copy_k {ops : Array Oper} {rest : List Oper} {o : Oper} {a : Act} {w : World} {Q : Exit → Act → World → Prop} (hgd : o.guard = none) (d s : Operand) (dT sT : TypeId)
    (ho : o.op = .call { callee := .builtin .copy, args := #[d, s], argTypes := #[dT, sT] }) (elem : TypeId) (k : Nat) (hu : P.underlying dT = some (.slice elem)) (hsz : (P.info? elem).map (·.size) = some k)
    (dp sp : Option Addr) (dLen dCap sLen sCap : Nat) (hd : a.eval d = .slice dp dLen dCap) (hs : a.eval s = .slice sp sLen sCap)
    (g off : Nat) (cur : List Value) (t : TypeId) (hg : Row w g t cur) (cs : List Value) (hn : cs.length = Nat.min sLen dLen * k)
    (hpos : 0 < cs.length → dp = some ⟨g, off, none⟩ ∧ ∃ ad, sp = some ad ∧ ∀ j v, cs[j]? = some v → w.cell? (ad.add j) = some v) (hk : 0 < k)
    (hfit : off + cs.length ≤ cur.length) (h1 : ∀ v ∈ cs, v.oneCell' = true) (m : Nat) (hm : Nat.min sLen dLen = m)
    (h : ∀ w', Hid (Row w' g t (splice cur off cs)) → w.grownBy w' (some g) → wpList P ops Q rest (a.put o.dst (.int .i64 (m : Int))) w') : wpList P ops Q (o :: rest) a w :=
  wpList_plain hgd fun _ hK => wp_copy_k d s dT sT ho elem k hu hsz dp sp dLen dCap sLen sCap hd hs g off cur t hg cs hn hpos hk hfit h1 m hm fun w' h2 h3 => hK _ _ (h w' h2 h3)
theorem step_copy_k {ops : Array Oper} {o : Oper} {a : Act} {w : World} {K : Act → World → Prop} {Q : Exit → Act → World → Prop} {E : Prop} (hgd : o.guard = none) (d s : Operand) (dT sT : TypeId)
    (ho : o.op = .call { callee := .builtin .copy, args := #[d, s], argTypes := #[dT, sT] }) (elem : TypeId) (k : Nat) (hu : P.underlying dT = some (.slice elem)) (hsz : (P.info? elem).map (·.size) = some k)
    (dp sp : Option Addr) (dLen dCap sLen sCap : Nat) (hd : a.eval d = .slice dp dLen dCap) (hs : a.eval s = .slice sp sLen sCap)
    (g off : Nat) (cur : List Value) (t : TypeId) (hg : Row w g t cur) (cs : List Value) (hn : cs.length = Nat.min sLen dLen * k)
    (hpos : 0 < cs.length → dp = some ⟨g, off, none⟩ ∧ ∃ ad, sp = some ad ∧ ∀ j v, cs[j]? = some v → w.cell? (ad.add j) = some v) (hk : 0 < k)
    (hfit : off + cs.length ≤ cur.length) (h1 : ∀ v ∈ cs, v.oneCell' = true) (m : Nat) (hm : Nat.min sLen dLen = m)
    (h : ∀ w', Hid (Row w' g t (splice cur off cs)) → w.grownBy w' (some g) → K (a.put o.dst (.int .i64 (m : Int))) w') :
    if Region.wanted o (yielded ops a.tmps) = true then Oper.wp P o a w K Q else E := by
  have hw : Region.wanted o (yielded ops a.tmps) = true := by simp [Region.wanted, hgd]
  rw [if_pos hw]
  exact wp_copy_k d s dT sT ho elem k hu hsz dp sp dLen dCap sLen sCap hd hs g off cur t hg cs hn hpos hk hfit h1 m hm h
end
end Go.Proofs.YtgjepofinpmcpaaGreatDoor
end

section
set_option linter.unusedVariables false
set_option linter.unusedSimpArgs false
namespace Go.Proofs.YtgjepofinpmcpaaGreatDoor
open Go.RowKit Oct

theorem own_row_nD {w : World} {e t : TypeId} {b : Nat} {xs ys : List Value} {v : Value} (hr : Row w b t xs) (h : Own w e v ys) (he : e ≠ t) : v.ownBlock ≠ some b := by
  intro hk
  rcases h.2 with ⟨rfl, _⟩ | ⟨g, _, cur, rfl, _, hg, _⟩
  · simp [Value.ownBlock] at hk
  · simp [Value.ownBlock] at hk
    subst hk
    unfold Row at hr
    rw [hg] at hr
    simp at hr
    exact he hr.2
/-- Of what was there only the disk's block and its bytes' may have turned. -/
structure Gr2 (w w' : World) (b : Nat) (v : Value) : Prop where
  os : w'.os = w.os
  tape : w'.tape = w.tape
  output : w'.output = w.output
  size : w.heap.size ≤ w'.heap.size
  block : ∀ k, k < w.heap.size → k ≠ b → v.ownBlock ≠ some k → w'.heap[k]? = w.heap[k]?
theorem Gr2.refl (w : World) (b : Nat) (v : Value) : Gr2 w w b v := ⟨rfl, rfl, rfl, Nat.le_refl _, fun _ _ _ _ => rfl⟩
theorem Gr2.of {w w' : World} {b : Nat} {v : Value} (h : w.grownBy w' (some b)) : Gr2 w w' b v := ⟨h.os, h.tape, h.output, h.size, fun k hk hne _ => h.block k hk (fun e => hne (by injection e))⟩
theorem Gr2.ofv {w w' : World} {b : Nat} {v : Value} (h : w.grownBy w' v.ownBlock) : Gr2 w w' b v := ⟨h.os, h.tape, h.output, h.size, fun k hk _ hv => h.block k hk (fun e => hv e.symm)⟩
theorem Gr2.bel {w w' : World} {b : Nat} {v : Value} (h : Below w.heap.size w w') : Gr2 w w' b v := ⟨h.os, h.tape, h.output, h.size, fun k hk _ _ => h.block k hk⟩
/-- Where the new bytes lie. -/
def Spt (w : World) (v v' : Value) : Prop := v'.ownBlock = v.ownBlock ∨ Fr w.heap.size v'
theorem Gr2.trans {w w1 w2 : World} {b : Nat} {v v1 : Value} (h : Gr2 w w1 b v) (hs : Spt w v v1) (h' : Gr2 w1 w2 b v1) : Gr2 w w2 b v :=
  ⟨h'.os.trans h.os, h'.tape.trans h.tape, h'.output.trans h.output, Nat.le_trans h.size h'.size, fun k hk hne hv => by
    refine (h'.block k (Nat.lt_of_lt_of_le hk h.size) hne ?_).trans (h.block k hk hne hv)
    rcases hs with e | hf
    · rw [e]; exact hv
    · intro e
      have := hf k e
      omega⟩
theorem Gr2.below {w w' : World} {b B : Nat} {v : Value} (h : Gr2 w w' b v) (hB : B ≤ w.heap.size) (hb : B ≤ b) (hv : Fr B v) : Below B w w' :=
  ⟨h.os, h.tape, h.output, h.size, fun k hk => h.block k (by omega) (by omega) (fun e => by have := hv k e; omega)⟩
theorem Gr2.rd {w w' : World} {b : Nat} {v u : Value} {l : List Int} (h : Gr2 w w' b v) (hr : Rd w u l) (hb : l ≠ [] → u.ownBlock ≠ some b) (hv : l ≠ [] → ∀ k, v.ownBlock = some k → u.ownBlock ≠ some k) : Rd w' u l :=
  ⟨hr.1, hr.2.keep fun hx k hk hlt => by
    have hx : l ≠ [] := fun e => hx (by rw [e]; rfl)
    exact h.block k hlt (fun e => hb hx (by rw [hk, e])) (fun e => hv hx k e hk)⟩
theorem Gr2.own {w w' : World} {b : Nat} {v u : Value} {e : TypeId} {xs : List Value} (h : Gr2 w w' b v) (hr : Own w e u xs) (hb : u.ownBlock ≠ some b) (hv : ∀ k, v.ownBlock = some k → u.ownBlock ≠ some k) : Own w' e u xs := by
  obtain ⟨h1, h2⟩ := hr
  refine ⟨h1, ?_⟩
  rcases h2 with h2 | ⟨g, cap, cur, rfl, h3, hg, h4⟩
  · exact .inl h2
  · refine .inr ⟨g, cap, cur, rfl, h3, ?_, h4⟩
    rw [h.block g ((Array.getElem?_eq_some_iff.1 hg).1) (fun e => hb (by rw [← e]; rfl)) (fun e => hv g e rfl)]
    exact hg
theorem Gr2.row {w w' : World} {b c : Nat} {v : Value} {t : TypeId} {xs : List Value} (h : Gr2 w w' b v) (hr : Row w c t xs) (hb : c ≠ b) (hv : v.ownBlock ≠ some c) : Row w' c t xs := (h.block c hr.lt hb hv).trans hr

section
variable {P : Program}
/-- One more record: 'x = append(x, r)'. -/
theorem wp_pushS {α : Type} {R : (Nat → Prop) → World → List Value → α → Prop} (hR : Mov R) {w : World} {o : Oper} {a : Act} {K : Act → World → Prop} {Q : Exit → Act → World → Prop} (s x : Operand) (t : TypeId)
    (ho : o.op = .call { callee := .builtin .append, args := #[s, x], argTypes := #[t, t] }) (e : TypeId) (k bytes : Nat) (z : Value) (ht : P.underlying t = some (.slice e)) (hi : (P.info? e).map (fun i => (i.zero, i.size, i.bytes)) = some (some z, k, bytes))
    (hzs : z.cells.size = k) (hk : 0 < k) (B : Nat) (v : Value) (ys : List α) (hs : a.eval s = v) (hL : LB R e k B w v ys) (r : List Value) (y : α) (C : Nat) (hr : R (From C) w r y) (hrl : r.length = k) (h1 : ∀ u ∈ r, u.oneCell' = true)
    (hC : B ≤ C) (hCv : ∀ g, v.ownBlock = some g → g < C) (hx : a.eval x = .slice (some ⟨w.heap.size, 0, none⟩) 1 1) (hB : B ≤ w.heap.size)
    (hb : (ys.length + 1) * bytes ≤ 140737488355328) (hb0 : 1 ≤ bytes)
    (h : ∀ v' w', LB R e k B w' v' (ys ++ [y]) → w.grownBy w' v.ownBlock → Spt w v v' → K (a.put o.dst v') w') : o.wp P a (w.alloc (.cells r.toArray e)) K Q := by
  obtain ⟨i0, hi, hz0, hz1, hz2⟩ := info_parts hi
  obtain ⟨rows, h0, hown, hfr, hall⟩ := hL
  have hlen := hall.len
  have hbel := below_alloc w (.cells r.toArray e)
  have hown1 : (w.alloc (.cells r.toArray e)).ownsRow 0 e k v rows.length rows.flatten := World.ownsRow.kept (row := none) hown ⟨hbel.os, hbel.tape, hbel.output, hbel.size, fun k hk _ => hbel.block k hk⟩ (by cases hv : v.ownBlock <;> simp)
  have hmul : ys.length + 1 ≤ (ys.length + 1) * bytes := Nat.le_mul_of_pos_right _ hb0
  refine wp_append_lies (w.alloc (.cells r.toArray e)) s x t ho 0 e i0 z k bytes ht hi hz0 hz1 hz2 hzs hk v rows.length rows.flatten hs hown1 ⟨w.heap.size, 0, none⟩ 1 1 r hx (by omega)
    (fun j u hj => by
      rw [Addr.add_mid, Nat.zero_add]
      exact (Row.new w e r).cell hj) h1 (by omega) (by rw [hlen]; unfold maxLen; omega) (by rw [hlen]; exact hb) (Nat.zero_le _) (w.heap.size + 1) (by simp) ?_
  intro g cap w' hown' hgr hat hlt
  have hg0 : w.grownBy w' v.ownBlock := grown_trans (grown_of_below hbel _) hgr (.inl rfl)
  have hgB : B ≤ g := by
    rcases hat with hat | hat
    · exact hfr g hat
    · omega
  have hflat : rows.flatten ++ r = (rows ++ [r]).flatten := by simp
  refine h _ w' ⟨rows ++ [r], ?_, ?_, ?_, ?_⟩ hg0 (by
    rcases hat with hat | hat
    · exact .inl (by rw [hat]; rfl)
    · exact .inr fun j hj => by simp [Value.ownBlock] at hj; omega)
  · intro q hq
    rcases List.mem_append.1 hq with hq | hq
    · exact h0 q hq
    · simp at hq; subst hq; exact hrl
  · rw [List.length_append, ← hflat]
    exact hown'
  · exact fun j hj => by simp [Value.ownBlock] at hj; omega
  · have hold : All2 (R (fun b => B ≤ b ∧ (Value.slice (some ⟨g, 0, none⟩) (rows.length + 1) cap).ownBlock ≠ some b) w') rows ys := hall.mono fun q b hq => hR _ _ w w' q b hq hg0.size fun j hj hjl => by
      refine ⟨hg0.block j hjl (fun e => hj.2 e.symm), hj.1, fun e => ?_⟩
      simp [Value.ownBlock] at e
      rcases hat with hat | hat
      · exact hj.2 (by rw [hat, e])
      · omega
    have hnew : R (fun b => B ≤ b ∧ (Value.slice (some ⟨g, 0, none⟩) (rows.length + 1) cap).ownBlock ≠ some b) w' r y := hR _ _ w w' r y hr hg0.size fun j hj hjl => by
      unfold From at hj
      refine ⟨hg0.block j hjl (fun e => by have := hCv j e.symm; omega), by omega, fun e => ?_⟩
      simp [Value.ownBlock] at e
      rcases hat with hat | hat
      · have := hCv g hat; omega
      · omega
    exact All2.app hold ⟨hnew, trivial⟩

/-- The same at a step of a region that draws its order. -/
theorem step_pushS {α : Type} {R : (Nat → Prop) → World → List Value → α → Prop} (hR : Mov R) {w : World} {ops : Array Oper} {o : Oper} {a : Act} {K : Act → World → Prop} {Q : Exit → Act → World → Prop} {E : Prop} (hgd : o.guard = none) (s x : Operand) (t : TypeId)
    (ho : o.op = .call { callee := .builtin .append, args := #[s, x], argTypes := #[t, t] }) (e : TypeId) (k bytes : Nat) (z : Value) (ht : P.underlying t = some (.slice e)) (hi : (P.info? e).map (fun i => (i.zero, i.size, i.bytes)) = some (some z, k, bytes))
    (hzs : z.cells.size = k) (hk : 0 < k) (B : Nat) (v : Value) (ys : List α) (hs : a.eval s = v) (hL : LB R e k B w v ys) (r : List Value) (y : α) (C : Nat) (hr : R (From C) w r y) (hrl : r.length = k) (h1 : ∀ u ∈ r, u.oneCell' = true)
    (hC : B ≤ C) (hCv : ∀ g, v.ownBlock = some g → g < C) (hx : a.eval x = .slice (some ⟨w.heap.size, 0, none⟩) 1 1) (hB : B ≤ w.heap.size)
    (hb : (ys.length + 1) * bytes ≤ 140737488355328) (hb0 : 1 ≤ bytes)
    (h : ∀ v' w', LB R e k B w' v' (ys ++ [y]) → w.grownBy w' v.ownBlock → Spt w v v' → K (a.put o.dst v') w') :
    if Region.wanted o (yielded ops a.tmps) = true then Oper.wp P o a (w.alloc (.cells r.toArray e)) K Q else E := by
  have hw : Region.wanted o (yielded ops a.tmps) = true := by simp [Region.wanted, hgd]
  rw [if_pos hw]
  exact wp_pushS hR s x t ho e k bytes z ht hi hzs hk B v ys hs hL r y C hr hrl h1 hC hCv hx hB hb hb0 h
/-- The same at an operation of a region that doesn't draw. -/
theorem wl_pushS {α : Type} {R : (Nat → Prop) → World → List Value → α → Prop} (hR : Mov R) {w : World} {ops : Array Oper} {rest : List Oper} {o : Oper} {a : Act} {Q : Exit → Act → World → Prop} (hgd : o.guard = none) (s x : Operand) (t : TypeId)
    (ho : o.op = .call { callee := .builtin .append, args := #[s, x], argTypes := #[t, t] }) (e : TypeId) (k bytes : Nat) (z : Value) (ht : P.underlying t = some (.slice e)) (hi : (P.info? e).map (fun i => (i.zero, i.size, i.bytes)) = some (some z, k, bytes))
    (hzs : z.cells.size = k) (hk : 0 < k) (B : Nat) (v : Value) (ys : List α) (hs : a.eval s = v) (hL : LB R e k B w v ys) (r : List Value) (y : α) (C : Nat) (hr : R (From C) w r y) (hrl : r.length = k) (h1 : ∀ u ∈ r, u.oneCell' = true)
    (hC : B ≤ C) (hCv : ∀ g, v.ownBlock = some g → g < C) (hx : a.eval x = .slice (some ⟨w.heap.size, 0, none⟩) 1 1) (hB : B ≤ w.heap.size)
    (hb : (ys.length + 1) * bytes ≤ 140737488355328) (hb0 : 1 ≤ bytes)
    (h : ∀ v' w', LB R e k B w' v' (ys ++ [y]) → w.grownBy w' v.ownBlock → Spt w v v' → wpList P ops Q rest (a.put o.dst v') w') : wpList P ops Q (o :: rest) a (w.alloc (.cells r.toArray e)) :=
  wpList_plain hgd fun _ hK => wp_pushS hR s x t ho e k bytes z ht hi hzs hk B v ys hs hL r y C hr hrl h1 hC hCv hx hB hb hb0 fun v' w' h2 h3 h4 => hK _ _ (h v' w' h2 h3 h4)
end
end Go.Proofs.YtgjepofinpmcpaaGreatDoor
end
