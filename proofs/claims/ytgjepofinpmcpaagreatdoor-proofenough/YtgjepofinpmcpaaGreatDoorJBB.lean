/- An object at a block and a slice of its own beside: what may turn, and where the new row lies. -/
import Derived.Test.YtgjepofinpmcpaaGreatDoorJAW
import Derived.Test.YtgjepofinpmcpaaGreatDoorJAT
import Derived.Test.YtgjepofinpmcpaaGreatDoorJAJ
section
set_option linter.unusedVariables false
set_option linter.unusedSimpArgs false
namespace Go.Proofs.YtgjepofinpmcpaaGreatDoor
open Go.RowKit Oct

theorem flat_putS {k n q : Nat} {cur r b0 : List Value} {A B : List (List Value)} (hA : ∀ r ∈ A, r.length = k) (hB : ∀ r ∈ b0 :: B, r.length = k) (hr : r.length = k) (hq : A.length = q) (hn : (A ++ b0 :: B).length = n) (hc : n * k ≤ cur.length)
    (ht : cur.take (n * k) = (A ++ b0 :: B).flatten) : (splice cur (q * k) r).take (n * k) = (A ++ r :: B).flatten := by
  have hAl : A.flatten.length = q * k := by rw [flat_len hA, hq]
  have hB' : ∀ r ∈ B, r.length = k := fun x hx => hB x (by simp [hx])
  have hb0 := hB b0 (by simp)
  have hBl : B.flatten.length = B.length * k := flat_len hB'
  have hnn : n = q + 1 + B.length := by rw [← hn, List.length_append, List.length_cons, hq]; omega
  have hmul : n * k = q * k + (k + B.length * k) := by rw [hnn, Nat.add_mul, Nat.add_mul]; omega
  have e1 : cur.take (q * k) = A.flatten := by
    have := congrArg (List.take (q * k)) ht
    rw [List.take_take, Nat.min_eq_left (by omega), List.flatten_append, ← hAl, List.take_left] at this
    rw [← hAl]; exact this
  have hAb : (A.flatten ++ b0).length = q * k + k := by rw [List.length_append, hAl, hb0]
  have e3 : (A.flatten ++ b0 ++ B.flatten).drop (q * k + k) = B.flatten := by rw [← hAb]; exact List.drop_left
  have e2 : (cur.drop (q * k + k)).take (B.length * k) = B.flatten := by
    have := congrArg (List.drop (q * k + k)) ht
    rw [List.drop_take, List.flatten_append, List.flatten_cons, ← List.append_assoc, e3] at this
    rw [← this]
    congr 1
    omega
  unfold splice
  rw [e1, hr, List.flatten_append, List.flatten_cons, ← e2, hmul, ← hAl, List.take_length_add_append, ← hr, List.take_length_add_append, hAl]
theorem Row.uniqS {w : World} {b : Nat} {t t' : TypeId} {xs ys : List Value} (h : Row w b t xs) (h' : Row w b t' ys) : xs = ys := by
  unfold Row at h h'
  rw [h] at h'
  simp at h'
  exact h'.1
section
variable {α : Type} {R : (Nat → Prop) → World → List Value → α → Prop} {T : TypeId} {kk : Nat}
/-- A row of records of which the first q are copied. -/
structure MixR (R : (Nat → Prop) → World → List Value → α → Prop) (T : TypeId) (kk : Nat) (B g n cap q : Nat) (w0 w : World) (rows0 : List (List Value)) (ys : List α) : Prop where
  bel : Below B w0 w
  ex : ∃ (cur : List Value) (A : List (List Value)), Row w g T cur ∧ cur.length = cap * kk ∧ A.length = q ∧ (∀ r ∈ A, r.length = kk) ∧ cur.take (n * kk) = (A ++ rows0.drop q).flatten ∧ All2 (R (fun b => B ≤ b ∧ b ≠ g) w) A (ys.take q)

theorem MixR.row {B g n cap q : Nat} {w0 w : World} {rows0 : List (List Value)} {ys : List α} (h : MixR R T kk B g n cap q w0 w rows0 ys) (h0 : ∀ r ∈ rows0, r.length = kk) {r : List Value} (hr : rows0[q]? = some r) (hq : q < n) : w.rangeAt g (q * kk) r := by
  obtain ⟨cur, A, h1, h2, h3, h4, h5, h6⟩ := h.ex
  intro j v hj
  refine h1.cell ?_
  have hrl := h0 r (List.mem_of_getElem? hr)
  have hjl : j < kk := by rw [← hrl]; exact (List.getElem?_eq_some_iff.1 hj).1
  have e : (A ++ rows0.drop q)[q]? = some r := by rw [List.getElem?_append_right (by omega), h3, Nat.sub_self, List.getElem?_drop, Nat.add_zero]; exact hr
  have hl : ∀ x ∈ A ++ rows0.drop q, x.length = kk := fun x hx => by
    rcases List.mem_append.1 hx with hx | hx
    · exact h4 x hx
    · exact h0 x (List.mem_of_mem_drop hx)
  have := flat_at hl e hj
  have hmul : (q + 1) * kk ≤ n * kk := Nat.mul_le_mul_right _ hq
  rw [Nat.add_mul] at hmul
  rw [← h5, List.getElem?_take, if_pos (by omega)] at this
  exact this
theorem MixR.step (hR : Mov R) {B g n cap q : Nat} {w0 w w1 w2 : World} {rows0 : List (List Value)} {ys : List α} (h : MixR R T kk B g n cap q w0 w rows0 ys) (h0 : ∀ r ∈ rows0, r.length = kk) (hn : rows0.length = n) (hc : n ≤ cap) {x : α} (hx : ys[q]? = some x) (hq : q < n)
    (hb1 : Below w.heap.size w w1) (hBg : B ≤ g) {r : List Value} (hlr : r.length = kk) (hr : R (From w.heap.size) w1 r x) (hB : B ≤ w.heap.size) (hg2 : w1.grownBy w2 (some g)) {cur0 : List Value} (hc0 : Row w1 g T cur0) (hr2 : Row w2 g T (splice cur0 (q * kk) r)) : MixR R T kk B g n cap (q + 1) w0 w2 rows0 ys := by
  obtain ⟨cur, A, h1, h2, h3, h4, h5, h6⟩ := h.ex
  have hgl := h1.lt
  obtain rfl : cur = cur0 := (h1.below hb1).uniqS hc0
  have hrl : r.length = kk := hlr
  have hmul : (q + 1) * kk ≤ n * kk := Nat.mul_le_mul_right _ hq
  have hmul2 : n * kk ≤ cap * kk := Nat.mul_le_mul_right _ hc
  rw [Nat.add_mul] at hmul
  refine ⟨(h.bel.trans (hb1.mono hB)).trans (grown_below hg2 (Nat.le_trans hB hb1.size) (fun k hk => by cases hk; exact hBg)), splice cur (q * kk) r, A ++ [r], hr2, ?_, ?_, ?_, ?_, ?_⟩
  · rw [length_splice _ _ _ (by omega), h2]
  · simp [h3]
  · intro y hy
    rcases List.mem_append.1 hy with hy | hy
    · exact h4 y hy
    · simp at hy; subst hy; exact hrl
  · obtain ⟨b0, hb0⟩ : ∃ b0, rows0[q]? = some b0 := ⟨_, List.getElem?_eq_getElem (by omega)⟩
    have hd : rows0.drop q = b0 :: rows0.drop (q + 1) := by
      rw [List.drop_eq_getElem_cons (by omega : q < rows0.length)]
      rw [List.getElem?_eq_getElem (by omega)] at hb0
      injection hb0 with hb0
      rw [hb0]
    rw [hd] at h5
    rw [List.append_assoc, List.singleton_append]
    refine flat_putS h4 (fun y hy => ?_) hrl h3 ?_ (by omega) h5
    · rw [← hd] at hy; exact h0 y (List.mem_of_mem_drop hy)
    · rw [← hd, List.length_append, List.length_drop]; omega
  · have e : ys.take (q + 1) = ys.take q ++ [x] := by
      rw [List.take_add_one, hx]; rfl
    rw [e]
    refine All2.app (h6.mono fun y a hy => hR _ _ _ _ _ _ hy (Nat.le_trans hb1.size hg2.size) fun k hk hlt => ⟨?_, hk⟩) ⟨hR _ _ _ _ _ _ hr hg2.size fun k hk hlt => ⟨hg2.block k hlt (fun e => ?_), Nat.le_trans hB hk, fun e => ?_⟩, trivial⟩
    · have hs := hb1.size
      exact (hg2.block k (by omega) (fun e => by injection e with e; exact hk.2 e)).trans (hb1.block k hlt)
    · injection e with e
      unfold From at hk; omega
    · unfold From at hk; omega
theorem MixR.done (hR : Mov R) {B g n cap : Nat} {w0 w : World} {rows0 : List (List Value)} {ys : List α} (h : MixR R T kk B g n cap n w0 w rows0 ys) (hn : rows0.length = n) (hy : ys.length = n) (hc : n ≤ cap) (hm : cap ≤ maxLen) (hB : B ≤ g) : LB R T kk B w (.slice (some ⟨g, 0, none⟩) n cap) ys := by
  obtain ⟨cur, A, h1, h2, h3, h4, h5, h6⟩ := h.ex
  rw [List.drop_of_length_le (by omega), List.append_nil] at h5
  rw [List.take_of_length_le (by omega)] at h6
  refine ⟨A, h4, ⟨flat_len h4, .inr ⟨g, cap, cur.toArray, by rw [h3], Nat.zero_le _, h1, by omega, hm, by simpa using h2, by rw [h3]; simpa using h5⟩⟩, fr_at _ _ _ _ hB, h6.mono fun y a hy => hR _ _ _ _ _ _ hy (Nat.le_refl _) fun k hk _ => ⟨rfl, hk.1, fun e => hk.2 ?_⟩⟩
  simp [Value.ownBlock] at e
  exact e.symm
end
end Go.Proofs.YtgjepofinpmcpaaGreatDoor
end

section
set_option linter.unusedVariables false
set_option linter.unusedSimpArgs false
namespace Go.Proofs.YtgjepofinpmcpaaGreatDoor
open Go.RowKit Oct

theorem own_row_nD {w : World} {e t : TypeId} {b : Nat} {xs ys : List Value} {v : Value} (hr : Row w b t xs) (h : Own w e v ys) (he : e ≠ t) : v.ownBlock ≠ some b := by
  intro hk
  rcases h.2 with ⟨rfl, _⟩ | ⟨g, _, cur, rfl, _, hg, _⟩
  · simp [Value.ownBlock] at hk
  · simp [Value.ownBlock] at hk
    subst hk
    unfold Row at hr
    rw [hg] at hr
    simp at hr
    exact he hr.2
/-- Of what was there only the disk's block and its bytes' may have turned. -/
structure Gr2 (w w' : World) (b : Nat) (v : Value) : Prop where
  os : w'.os = w.os
  tape : w'.tape = w.tape
  output : w'.output = w.output
  size : w.heap.size ≤ w'.heap.size
  block : ∀ k, k < w.heap.size → k ≠ b → v.ownBlock ≠ some k → w'.heap[k]? = w.heap[k]?
theorem Gr2.refl (w : World) (b : Nat) (v : Value) : Gr2 w w b v := ⟨rfl, rfl, rfl, Nat.le_refl _, fun _ _ _ _ => rfl⟩
theorem Gr2.of {w w' : World} {b : Nat} {v : Value} (h : w.grownBy w' (some b)) : Gr2 w w' b v := ⟨h.os, h.tape, h.output, h.size, fun k hk hne _ => h.block k hk (fun e => hne (by injection e))⟩
theorem Gr2.ofv {w w' : World} {b : Nat} {v : Value} (h : w.grownBy w' v.ownBlock) : Gr2 w w' b v := ⟨h.os, h.tape, h.output, h.size, fun k hk _ hv => h.block k hk (fun e => hv e.symm)⟩
theorem Gr2.bel {w w' : World} {b : Nat} {v : Value} (h : Below w.heap.size w w') : Gr2 w w' b v := ⟨h.os, h.tape, h.output, h.size, fun k hk _ _ => h.block k hk⟩
/-- Where the new bytes lie. -/
def Spt (w : World) (v v' : Value) : Prop := v'.ownBlock = v.ownBlock ∨ Fr w.heap.size v'
theorem Gr2.trans {w w1 w2 : World} {b : Nat} {v v1 : Value} (h : Gr2 w w1 b v) (hs : Spt w v v1) (h' : Gr2 w1 w2 b v1) : Gr2 w w2 b v :=
  ⟨h'.os.trans h.os, h'.tape.trans h.tape, h'.output.trans h.output, Nat.le_trans h.size h'.size, fun k hk hne hv => by
    refine (h'.block k (Nat.lt_of_lt_of_le hk h.size) hne ?_).trans (h.block k hk hne hv)
    rcases hs with e | hf
    · rw [e]; exact hv
    · intro e
      have := hf k e
      omega⟩
theorem Gr2.below {w w' : World} {b B : Nat} {v : Value} (h : Gr2 w w' b v) (hB : B ≤ w.heap.size) (hb : B ≤ b) (hv : Fr B v) : Below B w w' :=
  ⟨h.os, h.tape, h.output, h.size, fun k hk => h.block k (by omega) (by omega) (fun e => by have := hv k e; omega)⟩
theorem Gr2.rd {w w' : World} {b : Nat} {v u : Value} {l : List Int} (h : Gr2 w w' b v) (hr : Rd w u l) (hb : l ≠ [] → u.ownBlock ≠ some b) (hv : l ≠ [] → ∀ k, v.ownBlock = some k → u.ownBlock ≠ some k) : Rd w' u l :=
  ⟨hr.1, hr.2.keep fun hx k hk hlt => by
    have hx : l ≠ [] := fun e => hx (by rw [e]; rfl)
    exact h.block k hlt (fun e => hb hx (by rw [hk, e])) (fun e => hv hx k e hk)⟩
theorem Gr2.own {w w' : World} {b : Nat} {v u : Value} {e : TypeId} {xs : List Value} (h : Gr2 w w' b v) (hr : Own w e u xs) (hb : u.ownBlock ≠ some b) (hv : ∀ k, v.ownBlock = some k → u.ownBlock ≠ some k) : Own w' e u xs := by
  obtain ⟨h1, h2⟩ := hr
  refine ⟨h1, ?_⟩
  rcases h2 with h2 | ⟨g, cap, cur, rfl, h3, hg, h4⟩
  · exact .inl h2
  · refine .inr ⟨g, cap, cur, rfl, h3, ?_, h4⟩
    rw [h.block g ((Array.getElem?_eq_some_iff.1 hg).1) (fun e => hb (by rw [← e]; rfl)) (fun e => hv g e rfl)]
    exact hg
theorem Gr2.row {w w' : World} {b c : Nat} {v : Value} {t : TypeId} {xs : List Value} (h : Gr2 w w' b v) (hr : Row w c t xs) (hb : c ≠ b) (hv : v.ownBlock ≠ some c) : Row w' c t xs := (h.block c hr.lt hb hv).trans hr

section
variable {P : Program}
/-- One more record: 'x = append(x, r)'. -/
theorem wp_pushS {α : Type} {R : (Nat → Prop) → World → List Value → α → Prop} (hR : Mov R) {w : World} {o : Oper} {a : Act} {K : Act → World → Prop} {Q : Exit → Act → World → Prop} (s x : Operand) (t : TypeId)
    (ho : o.op = .call { callee := .builtin .append, args := #[s, x], argTypes := #[t, t] }) (e : TypeId) (k bytes : Nat) (z : Value) (ht : P.underlying t = some (.slice e)) (hi : (P.info? e).map (fun i => (i.zero, i.size, i.bytes)) = some (some z, k, bytes))
    (hzs : z.cells.size = k) (hk : 0 < k) (B : Nat) (v : Value) (ys : List α) (hs : a.eval s = v) (hL : LB R e k B w v ys) (r : List Value) (y : α) (C : Nat) (hr : R (From C) w r y) (hrl : r.length = k) (h1 : ∀ u ∈ r, u.oneCell' = true)
    (hC : B ≤ C) (hCv : ∀ g, v.ownBlock = some g → g < C) (hx : a.eval x = .slice (some ⟨w.heap.size, 0, none⟩) 1 1) (hB : B ≤ w.heap.size)
    (hb : (ys.length + 1) * bytes ≤ 140737488355328) (hb0 : 1 ≤ bytes)
    (h : ∀ v' w', LB R e k B w' v' (ys ++ [y]) → w.grownBy w' v.ownBlock → Spt w v v' → K (a.put o.dst v') w') : o.wp P a (w.alloc (.cells r.toArray e)) K Q := by
  obtain ⟨i0, hi, hz0, hz1, hz2⟩ := info_parts hi
  obtain ⟨rows, h0, hown, hfr, hall⟩ := hL
  have hlen := hall.len
  have hbel := below_alloc w (.cells r.toArray e)
  have hown1 : (w.alloc (.cells r.toArray e)).ownsRow 0 e k v rows.length rows.flatten := World.ownsRow.kept (row := none) hown ⟨hbel.os, hbel.tape, hbel.output, hbel.size, fun k hk _ => hbel.block k hk⟩ (by cases hv : v.ownBlock <;> simp)
  have hmul : ys.length + 1 ≤ (ys.length + 1) * bytes := Nat.le_mul_of_pos_right _ hb0
  refine wp_append_lies (w.alloc (.cells r.toArray e)) s x t ho 0 e i0 z k bytes ht hi hz0 hz1 hz2 hzs hk v rows.length rows.flatten hs hown1 ⟨w.heap.size, 0, none⟩ 1 1 r hx (by omega)
    (fun j u hj => by
      rw [Addr.add_mid, Nat.zero_add]
      exact (Row.new w e r).cell hj) h1 (by omega) (by rw [hlen]; unfold maxLen; omega) (by rw [hlen]; exact hb) (Nat.zero_le _) (w.heap.size + 1) (by simp) ?_
  intro g cap w' hown' hgr hat hlt
  have hg0 : w.grownBy w' v.ownBlock := grown_trans (grown_of_below hbel _) hgr (.inl rfl)
  have hgB : B ≤ g := by
    rcases hat with hat | hat
    · exact hfr g hat
    · omega
  have hflat : rows.flatten ++ r = (rows ++ [r]).flatten := by simp
  refine h _ w' ⟨rows ++ [r], ?_, ?_, ?_, ?_⟩ hg0 (by
    rcases hat with hat | hat
    · exact .inl (by rw [hat]; rfl)
    · exact .inr fun j hj => by simp [Value.ownBlock] at hj; omega)
  · intro q hq
    rcases List.mem_append.1 hq with hq | hq
    · exact h0 q hq
    · simp at hq; subst hq; exact hrl
  · rw [List.length_append, ← hflat]
    exact hown'
  · exact fun j hj => by simp [Value.ownBlock] at hj; omega
  · have hold : All2 (R (fun b => B ≤ b ∧ (Value.slice (some ⟨g, 0, none⟩) (rows.length + 1) cap).ownBlock ≠ some b) w') rows ys := hall.mono fun q b hq => hR _ _ w w' q b hq hg0.size fun j hj hjl => by
      refine ⟨hg0.block j hjl (fun e => hj.2 e.symm), hj.1, fun e => ?_⟩
      simp [Value.ownBlock] at e
      rcases hat with hat | hat
      · exact hj.2 (by rw [hat, e])
      · omega
    have hnew : R (fun b => B ≤ b ∧ (Value.slice (some ⟨g, 0, none⟩) (rows.length + 1) cap).ownBlock ≠ some b) w' r y := hR _ _ w w' r y hr hg0.size fun j hj hjl => by
      unfold From at hj
      refine ⟨hg0.block j hjl (fun e => by have := hCv j e.symm; omega), by omega, fun e => ?_⟩
      simp [Value.ownBlock] at e
      rcases hat with hat | hat
      · have := hCv g hat; omega
      · omega
    exact All2.app hold ⟨hnew, trivial⟩

/-- The same at a step of a region that draws its order. -/
theorem step_pushS {α : Type} {R : (Nat → Prop) → World → List Value → α → Prop} (hR : Mov R) {w : World} {ops : Array Oper} {o : Oper} {a : Act} {K : Act → World → Prop} {Q : Exit → Act → World → Prop} {E : Prop} (hgd : o.guard = none) (s x : Operand) (t : TypeId)
    (ho : o.op = .call { callee := .builtin .append, args := #[s, x], argTypes := #[t, t] }) (e : TypeId) (k bytes : Nat) (z : Value) (ht : P.underlying t = some (.slice e)) (hi : (P.info? e).map (fun i => (i.zero, i.size, i.bytes)) = some (some z, k, bytes))
    (hzs : z.cells.size = k) (hk : 0 < k) (B : Nat) (v : Value) (ys : List α) (hs : a.eval s = v) (hL : LB R e k B w v ys) (r : List Value) (y : α) (C : Nat) (hr : R (From C) w r y) (hrl : r.length = k) (h1 : ∀ u ∈ r, u.oneCell' = true)
    (hC : B ≤ C) (hCv : ∀ g, v.ownBlock = some g → g < C) (hx : a.eval x = .slice (some ⟨w.heap.size, 0, none⟩) 1 1) (hB : B ≤ w.heap.size)
    (hb : (ys.length + 1) * bytes ≤ 140737488355328) (hb0 : 1 ≤ bytes)
    (h : ∀ v' w', LB R e k B w' v' (ys ++ [y]) → w.grownBy w' v.ownBlock → Spt w v v' → K (a.put o.dst v') w') :
    if Region.wanted o (yielded ops a.tmps) = true then Oper.wp P o a (w.alloc (.cells r.toArray e)) K Q else E := by
  have hw : Region.wanted o (yielded ops a.tmps) = true := by simp [Region.wanted, hgd]
  rw [if_pos hw]
  exact wp_pushS hR s x t ho e k bytes z ht hi hzs hk B v ys hs hL r y C hr hrl h1 hC hCv hx hB hb hb0 h
/-- The same at an operation of a region that doesn't draw. -/
theorem wl_pushS {α : Type} {R : (Nat → Prop) → World → List Value → α → Prop} (hR : Mov R) {w : World} {ops : Array Oper} {rest : List Oper} {o : Oper} {a : Act} {Q : Exit → Act → World → Prop} (hgd : o.guard = none) (s x : Operand) (t : TypeId)
    (ho : o.op = .call { callee := .builtin .append, args := #[s, x], argTypes := #[t, t] }) (e : TypeId) (k bytes : Nat) (z : Value) (ht : P.underlying t = some (.slice e)) (hi : (P.info? e).map (fun i => (i.zero, i.size, i.bytes)) = some (some z, k, bytes))
    (hzs : z.cells.size = k) (hk : 0 < k) (B : Nat) (v : Value) (ys : List α) (hs : a.eval s = v) (hL : LB R e k B w v ys) (r : List Value) (y : α) (C : Nat) (hr : R (From C) w r y) (hrl : r.length = k) (h1 : ∀ u ∈ r, u.oneCell' = true)
    (hC : B ≤ C) (hCv : ∀ g, v.ownBlock = some g → g < C) (hx : a.eval x = .slice (some ⟨w.heap.size, 0, none⟩) 1 1) (hB : B ≤ w.heap.size)
    (hb : (ys.length + 1) * bytes ≤ 140737488355328) (hb0 : 1 ≤ bytes)
    (h : ∀ v' w', LB R e k B w' v' (ys ++ [y]) → w.grownBy w' v.ownBlock → Spt w v v' → wpList P ops Q rest (a.put o.dst v') w') : wpList P ops Q (o :: rest) a (w.alloc (.cells r.toArray e)) :=
  wpList_plain hgd fun _ hK => wp_pushS hR s x t ho e k bytes z ht hi hzs hk B v ys hs hL r y C hr hrl h1 hC hCv hx hB hb hb0 fun v' w' h2 h3 h4 => hK _ _ (h v' w' h2 h3 h4)
end
end Go.Proofs.YtgjepofinpmcpaaGreatDoor
end
