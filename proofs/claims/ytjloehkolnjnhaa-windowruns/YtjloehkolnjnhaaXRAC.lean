/- Rows: a block of memory said whole (for whatever program). -/
import Derived.Test.YtjloehkolnjnhaaXRAA
import Derived.WalkKit
import Derived.Laws.AppendOwnNone
import Derived.Laws.BytesArg
import Derived.Test.YtjloehkolnjnhaaProg
import Derived.WalkSpells
import Derived.WalkLawsBesides
import Derived.KernelRfl
import Derived.Laws.CopyOwn
import Derived.Laws.Rows
import Derived.Laws.CopyRow
import Derived.Deep.RegionHeld3
import Derived.Deep.RegionLaw
import Derived.Deep.MidRow
import Derived.BigRegion
namespace Go.Proofs.Ytjloehkolnjnhaa
section
open Go.RowKit Oct
/-- Bytes as cells. -/
def bc (l : List Int) : List Value := l.map (Value.int .u8)
theorem bc_len (l : List Int) : (bc l).length = l.length := by simp [bc]
theorem bc_app (a b : List Int) : bc (a ++ b) = bc a ++ bc b := by simp [bc]
theorem bc_one (l : List Int) : ∀ u ∈ bc l, u.oneCell' = true := ints_oneCell .u8 l
theorem bc_getD (l : List Int) (j : Nat) (h : j < l.length) : (bc l)[j]? = some (.int .u8 (l.getD j 0)) := by
  simp [bc, List.getD, List.getElem?_eq_getElem h]
/-- A slice that reads as the cells xs (each element one cell). -/
def Rdv (w : World) (v : Value) (xs : List Value) : Prop :=
  ∃ ao cap, v = .slice ao xs.length cap ∧ xs.length ≤ cap ∧ cap ≤ maxLen ∧ (ao = none → xs = [] ∧ cap = 0) ∧
    ∀ a, ao = some a → ∀ j u, xs[j]? = some u → w.cell? (a.add j) = some u
/-- A slice of bytes that reads l. -/
def Rd (w : World) (v : Value) (l : List Int) : Prop := Byt l ∧ Rdv w v (bc l)
/-- A slice that lies at the head of a row that may be written (or nil). -/
def Own (w : World) (e : TypeId) (v : Value) (xs : List Value) : Prop := w.ownsRow 0 e 1 v xs.length xs
/-- From block B on. -/
def Fr (B : Nat) (v : Value) : Prop := ∀ k, v.ownBlock = some k → B ≤ k
theorem Fr.mono {B C : Nat} {v : Value} (h : Fr B v) (hc : C ≤ B) : Fr C v := fun k hk => Nat.le_trans hc (h k hk)
theorem Fr.nil (B : Nat) : Fr B (.slice none 0 0) := fun k hk => by simp [Value.ownBlock] at hk
theorem addr_block (a : Addr) (j : Nat) : (a.add j).block = a.block := by unfold Addr.add; split <;> rfl
theorem Rdv.keep {w w' : World} {v : Value} {xs : List Value} (h : Rdv w v xs) (hb : xs ≠ [] → ∀ k, v.ownBlock = some k → k < w.heap.size → w'.heap[k]? = w.heap[k]?) : Rdv w' v xs := by
  obtain ⟨ao, cap, rfl, h1, h2, h3, h4⟩ := h
  refine ⟨ao, cap, rfl, h1, h2, h3, fun a ha j u hu => ?_⟩
  have hc := h4 a ha j u hu
  subst ha
  have hlt := World.block_lt_of_cell? w (a.add j) hc
  rw [addr_block] at hlt
  have e := hb (fun e => by rw [e] at hu; simp at hu) a.block rfl hlt
  rw [← addr_block a j] at e
  exact (World.cell?_of_block (w := w) (w' := w') (a := a.add j) e).trans hc
theorem Rdv.below {w w' : World} {v : Value} {xs : List Value} (h : Rdv w v xs) (hb : Below w.heap.size w w') : Rdv w' v xs :=
  h.keep fun _ k _ hk => hb.block k hk
theorem Rdv.grown {w w' : World} {v : Value} {xs : List Value} {row : Option Nat} (h : Rdv w v xs) (hg : w.grownBy w' row) (hr : xs ≠ [] → ∀ k, row = some k → v.ownBlock ≠ some k) : Rdv w' v xs :=
  h.keep fun hx k hk hlt => hg.block k hlt (fun e => hr hx k e.symm hk)
theorem Rdv.lt {w : World} {v : Value} {xs : List Value} (h : Rdv w v xs) (hx : xs ≠ []) : ∀ k, v.ownBlock = some k → k < w.heap.size := by
  obtain ⟨ao, cap, rfl, h1, h2, h3, h4⟩ := h
  intro k hk
  cases ao with
  | none => simp [Value.ownBlock] at hk
  | some a =>
    simp [Value.ownBlock] at hk
    subst hk
    cases xs with
    | nil => exact absurd rfl hx
    | cons x r =>
      have hc := h4 a rfl 0 x rfl
      have := World.block_lt_of_cell? w (a.add 0) hc
      rwa [addr_block] at this
theorem Rd.below {w w' : World} {v : Value} {l : List Int} (h : Rd w v l) (hb : Below w.heap.size w w') : Rd w' v l := ⟨h.1, h.2.below hb⟩
theorem Rd.grown {w w' : World} {v : Value} {l : List Int} {row : Option Nat} (h : Rd w v l) (hg : w.grownBy w' row) (hr : l ≠ [] → ∀ k, row = some k → v.ownBlock ≠ some k) : Rd w' v l :=
  ⟨h.1, h.2.grown hg fun hx => hr fun e => hx (by rw [e]; rfl)⟩
theorem Rd.lt {w : World} {v : Value} {l : List Int} (h : Rd w v l) (hx : l ≠ []) : ∀ k, v.ownBlock = some k → k < w.heap.size := h.2.lt fun e => hx (by simpa [bc] using e)
theorem Own.lt {w : World} {e : TypeId} {v : Value} {xs : List Value} (h : Own w e v xs) : ∀ k, v.ownBlock = some k → k < w.heap.size := fun k hk => (World.ownsRow.lt h k hk).2
theorem Own.below {w w' : World} {e : TypeId} {v : Value} {xs : List Value} (h : Own w e v xs) (hb : Below w.heap.size w w') : Own w' e v xs :=
  World.ownsRow.kept (row := none) h ⟨hb.os, hb.tape, hb.output, hb.size, fun k hk _ => hb.block k hk⟩ (by cases hv : v.ownBlock <;> simp)
theorem Own.grown {w w' : World} {e : TypeId} {v : Value} {xs : List Value} {row : Option Nat} (h : Own w e v xs) (hg : w.grownBy w' row) (hr : ∀ k, row = some k → v.ownBlock ≠ some k) : Own w' e v xs :=
  World.ownsRow.kept h hg (by
    cases hv : v.ownBlock with
    | none => exact .inl rfl
    | some k => exact .inr fun e => hr k e.symm hv)
theorem Own.rdv {w : World} {e : TypeId} {v : Value} {xs : List Value} (h : Own w e v xs) : Rdv w v xs := by
  rcases h.2 with ⟨rfl, h0⟩ | ⟨g, cap, cur, rfl, _, hg, h1, h2, h3, h4⟩
  · have : xs = [] := List.eq_nil_of_length_eq_zero h0
    subst this
    exact ⟨none, 0, rfl, Nat.le_refl _, Nat.zero_le _, fun _ => ⟨rfl, rfl⟩, fun a ha => by cases ha⟩
  · exact ⟨some ⟨g, 0, none⟩, cap, rfl, h1, h2, fun ha => (by cases ha), fun a ha j u hu => by cases ha; exact World.ownsRow.cells h (g := g) rfl j u hu⟩
theorem Own.rd {w : World} {e : TypeId} {v : Value} {l : List Int} (h : Own w e v (bc l)) (hb : Byt l) : Rd w v l := ⟨hb, h.rdv⟩
theorem Own.form {w : World} {e : TypeId} {v : Value} {xs : List Value} (h : Own w e v xs) : ∃ ao cap, v = .slice ao xs.length cap ∧ cap ≤ maxLen := by
  obtain ⟨ao, cap, h1, _, h2, _⟩ := h.rdv
  exact ⟨ao, cap, h1, h2⟩
theorem Own.nil (w : World) (e : TypeId) : Own w e (.slice none 0 0) [] := World.ownsRow_nil w 0 e 1
theorem grown_below {w w' : World} {row : Option Nat} (hg : w.grownBy w' row) {B : Nat} (hB : B ≤ w.heap.size) (hr : ∀ k, row = some k → B ≤ k) : Below B w w' :=
  (Below.refl B w).grown hg hB hr
/-- One thing behind the other: what the second may write is what the first may write, or new. -/
theorem grown_trans {w w1 w2 : World} {r r1 : Option Nat} (h : w.grownBy w1 r) (h' : w1.grownBy w2 r1) (hr : r1 = r ∨ ∀ k, r1 = some k → w.heap.size ≤ k) : w.grownBy w2 r :=
  ⟨h'.os.trans h.os, h'.tape.trans h.tape, h'.output.trans h.output, Nat.le_trans h.size h'.size, fun k hk hne => by
    have := h.size
    refine (h'.block k (by omega) fun e => ?_).trans (h.block k hk hne)
    rcases hr with rfl | hr
    · exact hne e
    · have := hr k e.symm; omega⟩
theorem grown_of_below {w w' : World} (h : Below w.heap.size w w') (r : Option Nat) : w.grownBy w' r := ⟨h.os, h.tape, h.output, h.size, fun k hk _ => h.block k hk⟩
/-- What an append does: v' reads xs; of what was there only v's own row may have turned; v' lies in that row or in new memory. -/
structure App (w : World) (e : TypeId) (v : Value) (w' : World) (v' : Value) (xs : List Value) : Prop where
  own : Own w' e v' xs
  grown : w.grownBy w' v.ownBlock
  spot : v'.ownBlock = v.ownBlock ∨ Fr w.heap.size v'
theorem App.trans {w w1 w2 : World} {e : TypeId} {v v1 v2 : Value} {xs ys : List Value} (h : App w e v w1 v1 xs) (h' : App w1 e v1 w2 v2 ys) : App w e v w2 v2 ys :=
  ⟨h'.own, grown_trans h.grown h'.grown (by rcases h.spot with h1 | h1; exact .inl h1; exact .inr h1), by
    have hs := h.grown.size
    rcases h'.spot with h2 | h2
    · rcases h.spot with h1 | h1
      · exact .inl (h2.trans h1)
      · exact .inr fun k hk => h1 k (h2 ▸ hk)
    · exact .inr (h2.mono hs)⟩
/-- New blocks between. -/
theorem App.pre {w w0 w' : World} {e : TypeId} {v v' : Value} {xs : List Value} (hb : Below w.heap.size w w0) (h : App w0 e v w' v' xs) : App w e v w' v' xs :=
  ⟨h.own, grown_trans (grown_of_below hb _) h.grown (.inl rfl), by
    rcases h.spot with h1 | h1
    · exact .inl h1
    · exact .inr (h1.mono hb.size)⟩
theorem App.fr {w w' : World} {e : TypeId} {v v' : Value} {xs : List Value} (h : App w e v w' v' xs) {B : Nat} (hv : Fr B v) (hB : B ≤ w.heap.size) : Fr B v' := by
  rcases h.spot with h1 | h1
  · exact fun k hk => hv k (h1 ▸ hk)
  · exact h1.mono hB
theorem App.below {w w' : World} {e : TypeId} {v v' : Value} {xs : List Value} (h : App w e v w' v' xs) {B : Nat} (hv : Fr B v) (hB : B ≤ w.heap.size) : Below B w w' :=
  grown_below h.grown hB hv
theorem owns_base {w : World} {base : Nat} {e : TypeId} {v : Value} {n : Nat} {xs : List Value} (h : w.ownsRow base e 1 v n xs) : w.ownsRow 0 e 1 v n xs :=
  ⟨h.1, by rcases h.2 with h | ⟨g, cap, cur, h1, _, h2⟩; exact .inl h; exact .inr ⟨g, cap, cur, h1, Nat.zero_le _, h2⟩⟩
/-- A slice that is not empty lies at a plain address. -/
theorem Rdv.at {w : World} {v : Value} {xs : List Value} (h : Rdv w v xs) (hl : 0 < xs.length) : ∃ b off cap, v = .slice (some ⟨b, off, none⟩) xs.length cap ∧ xs.length ≤ cap ∧ cap ≤ maxLen ∧ b < w.heap.size ∧
    ∀ (j : Nat) (u : Value), xs[j]? = some u → w.cell? ⟨b, off + j, none⟩ = some u := by
  obtain ⟨ao, cap, rfl, h1, h2, h3, h4⟩ := h
  cases ao with
  | none => have := (h3 rfl).1; subst this; simp at hl
  | some a =>
    obtain ⟨b, off, spot⟩ := a
    have hc := h4 _ rfl 0 _ (List.getElem?_eq_getElem hl)
    have hs : spot = none := by
      cases spot with
      | none => rfl
      | some q =>
        exfalso
        simp only [Addr.add, if_true, World.cell?] at hc
        split at hc <;> simp at hc
    subst hs
    refine ⟨b, off, cap, rfl, h1, h2, World.block_lt_of_cell? w _ hc, fun j u hj => ?_⟩
    have := h4 _ rfl j u hj
    have e : (⟨b, off, none⟩ : Addr).add j = ⟨b, off + j, none⟩ := by unfold Addr.add; split <;> simp_all
    rwa [e] at this
theorem Rdv.form {w : World} {v : Value} {xs : List Value} (h : Rdv w v xs) : ∃ ao cap, v = .slice ao xs.length cap ∧ cap ≤ maxLen := by
  obtain ⟨ao, cap, h1, _, h2, _⟩ := h
  exact ⟨ao, cap, h1, h2⟩
/-- A slice of bytes that is not empty lies at a plain address. -/
theorem Rd.at {w : World} {v : Value} {l : List Int} (h : Rd w v l) (hl : 0 < l.length) : ∃ b off cap, v = .slice (some ⟨b, off, none⟩) l.length cap ∧ l.length ≤ cap ∧ cap ≤ maxLen ∧ b < w.heap.size ∧
    ∀ j, j < l.length → w.cell? ⟨b, off + j, none⟩ = some (.int .u8 (l.getD j 0)) := by
  obtain ⟨hb, ao, cap, rfl, h1, h2, h3, h4⟩ := h
  rw [bc_len] at h1
  cases ao with
  | none => have := (h3 rfl).1; simp [bc] at this; subst this; simp at hl
  | some a =>
    obtain ⟨b, off, spot⟩ := a
    have hc := h4 _ rfl 0 _ (bc_getD l 0 hl)
    have hs : spot = none := by
      cases spot with
      | none => rfl
      | some q =>
        exfalso
        simp only [Addr.add, if_true, World.cell?] at hc
        split at hc <;> simp at hc
    subst hs
    refine ⟨b, off, cap, by rw [bc_len], h1, h2, World.block_lt_of_cell? w _ hc, fun j hj => ?_⟩
    have := h4 _ rfl j _ (bc_getD l j hj)
    have e : (⟨b, off, none⟩ : Addr).add j = ⟨b, off + j, none⟩ := by unfold Addr.add; split <;> simp_all
    rwa [e] at this
/-- An empty one: whatever its address. -/
theorem Rd.empty {w : World} {v : Value} {l : List Int} (h : Rd w v l) (hl : l.length = 0) : ∃ ao cap, v = .slice ao 0 cap ∧ cap ≤ maxLen := by
  obtain ⟨hb, ao, cap, rfl, h1, h2, h3, h4⟩ := h
  exact ⟨ao, cap, by rw [bc_len, hl], h2⟩
theorem Rd.len {w : World} {v : Value} {l : List Int} (h : Rd w v l) : (l.length : Int) ≤ 9223372036854775807 := by
  obtain ⟨hb, ao, cap, rfl, h1, h2, h3, h4⟩ := h
  rw [bc_len] at h1
  unfold maxLen at h2
  omega
/-- One by one. -/
def All2 {α β : Type} (R : α → β → Prop) : List α → List β → Prop
  | [], [] => True
  | a :: as0, b :: bs => R a b ∧ All2 R as0 bs
  | _, _ => False
theorem All2.len {α β : Type} {R : α → β → Prop} : ∀ {as0 : List α} {bs : List β}, All2 R as0 bs → as0.length = bs.length
  | [], [], _ => rfl
  | _ :: _, _ :: _, h => by simp [All2.len h.2]
  | [], _ :: _, h => h.elim
  | _ :: _, [], h => h.elim
theorem All2.get {α β : Type} {R : α → β → Prop} : ∀ {as0 : List α} {bs : List β}, All2 R as0 bs → ∀ {i : Nat} {a : α} {b : β}, as0[i]? = some a → bs[i]? = some b → R a b
  | [], [], _, i, a, b, ha, _ => by simp at ha
  | x :: as0, y :: bs, h, 0, a, b, ha, hb => by simp at ha hb; subst ha hb; exact h.1
  | x :: as0, y :: bs, h, i + 1, a, b, ha, hb => All2.get h.2 (by simpa using ha) (by simpa using hb)
  | [], _ :: _, h, _, _, _, _, _ => h.elim
  | _ :: _, [], h, _, _, _, _, _ => h.elim
theorem All2.mono {α β : Type} {R S : α → β → Prop} (hRS : ∀ a b, R a b → S a b) : ∀ {as0 : List α} {bs : List β}, All2 R as0 bs → All2 S as0 bs
  | [], [], _ => trivial
  | _ :: _, _ :: _, h => ⟨hRS _ _ h.1, All2.mono hRS h.2⟩
  | [], _ :: _, h => h.elim
  | _ :: _, [], h => h.elim
theorem All2.app {α β : Type} {R : α → β → Prop} : ∀ {as0 : List α} {bs : List β} {cs : List α} {ds : List β}, All2 R as0 bs → All2 R cs ds → All2 R (as0 ++ cs) (bs ++ ds)
  | [], [], _, _, _, h => h
  | _ :: _, _ :: _, _, _, h, h' => ⟨h.1, All2.app h.2 h'⟩
  | [], _ :: _, _, _, h, _ => h.elim
  | _ :: _, [], _, _, h, _ => h.elim
/-- A list of texts that reads ll. -/
def Rdl (w : World) (v : Value) (ll : List (List Int)) : Prop := ∃ vs, Rdv w v vs ∧ All2 (Rd w) vs ll
theorem Rdl.below {w w' : World} {v : Value} {ll : List (List Int)} (h : Rdl w v ll) (hb : Below w.heap.size w w') : Rdl w' v ll := by
  obtain ⟨vs, h1, h2⟩ := h
  exact ⟨vs, h1.below hb, h2.mono fun _ _ h => h.below hb⟩
section
variable {P : Program}
theorem run_app (w : World) (t ty e : TypeId) (i : TypeInfo) (z : Value) (bytes : Nat) (ht : P.underlying t = some (.slice e)) (hi : P.info? e = some i) (hz : i.zero = some z)
    (hsize : i.size = 1) (hby : i.bytes = bytes) (hzs : z.cells.size = 1) (v : Value) (xs : List Value) (hown : Own w e v xs) (sv : Value) (news : List Value) (hsrc : Rdv w sv news)
    (h1 : ∀ u ∈ news, u.oneCell' = true) (hm : xs.length + news.length ≤ maxLen) (hb : (xs.length + news.length) * bytes ≤ 140737488355328) :
    ∃ v' w', (Builtin.append_ #[t, t] ty #[v, sv]).run P w = .ok v' w' ∧ App w e v w' v' (xs ++ news) := by
  obtain ⟨ao, cap, rfl, c1, c2, c3, c4⟩ := hsrc
  cases ao with
  | none =>
    obtain ⟨rfl, rfl⟩ := c3 rfl
    refine ⟨v, w, run_append_owned_none (P := P) w 0 t ty e i 1 ht hi v _ xs hown, ?_⟩
    rw [List.append_nil]
    exact ⟨hown, grown_of_below (Below.refl _ _) _, .inl rfl⟩
  | some a =>
    have hnews := c4 a rfl
    have hl : news.length = news.length * 1 := by omega
    rcases hown.2 with ⟨rfl, h0⟩ | ⟨g, vc, cur, rfl, _, hg, n1, n2, n3, n4⟩
    · have hx : xs = [] := List.eq_nil_of_length_eq_zero h0
      subst hx
      obtain ⟨v', w', hr, o1, o2, _⟩ := run_append_own (P := P) w w.heap.size t ty e i z 1 bytes ht hi hz hsize hby hzs (by decide) (.slice none 0 0) 0 [] (World.ownsRow_nil w w.heap.size e 1) a news.length cap news hl hnews h1
        (by simpa using hm) (by simpa using hb) (Nat.le_refl _)
      refine ⟨v', w', hr, ?_⟩
      have o3 := owns_base o1
      rw [Nat.zero_add, List.nil_append] at o3
      exact ⟨o3, o2, .inr fun k hk => (o1.lt k hk).1⟩
    · obtain ⟨v', w', hr, o1, o2, _⟩ := run_append_own (P := P) w 0 t ty e i z 1 bytes ht hi hz hsize hby hzs (by decide) _ _ xs hown a news.length cap news hl hnews h1 hm hb (Nat.zero_le _)
      refine ⟨v', w', hr, ?_⟩
      rw [← List.length_append] at o1
      refine ⟨o1, o2, ?_⟩
      by_cases hroom : xs.length + news.length ≤ vc
      · left
        have hr2 := run_append_room (P := P) w t ty e i ht hi g xs.length vc cur hg a news.length cap news (by rw [hsize]; exact hl) hnews h1 hroom (by rw [hsize, n3]; omega)
        rw [hr2] at hr
        injection hr with e1 _
        rw [← e1]
        rfl
      · right
        have holds : ∀ j u, xs[j]? = some u → w.cell? ((⟨g, 0, none⟩ : Addr).add j) = some u := World.ownsRow.cells hown (g := g) rfl
        have hr2 := run_append_grow (P := P) w t ty e i z ht hi hz ⟨g, 0, none⟩ xs.length vc xs (by rw [hsize]; omega) holds a news.length cap news (by rw [hsize]; exact hl) hnews (by omega)
          (by have := hm; simp only [maxLen] at this; omega) (growslice_fits (by omega) (by rw [hby]; exact hb))
        rw [hr2] at hr
        injection hr with e1 _
        rw [← e1]
        intro k hk
        simp [Value.ownBlock] at hk
        omega
/-- An operation that is carried out: it has no guard, or its guard says yes. -/
theorem wpList_wanted {ops : Array Oper} {Q : Exit → Act → World → Prop} {a : Act} {w : World} {rest : List Oper} {o : Oper} (hw : Region.wanted o (yielded ops a.tmps) = true)
    (h : ∀ K : Act → World → Prop, (∀ a w, wpList P ops Q rest a w → K a w) → o.wp P a w K Q) : wpList P ops Q (o :: rest) a w :=
  wpList_step fun K hK => by rw [if_pos hw]; exact h K hK
theorem wanted_none {ops : Array Oper} {a : Act} {o : Oper} (hgd : o.guard = none) : Region.wanted o (yielded ops a.tmps) = true := by simp [Region.wanted, hgd]
/-- THE LAW FOR THE WALK: 's = append(s, x...)', s the call's own, x whatever can be read. -/
theorem wpList_app {w : World} {ops : Array Oper} {rest : List Oper} {o : Oper} {a : Act} {Q : Exit → Act → World → Prop} (hgd : Region.wanted o (yielded ops a.tmps) = true) (s x : Operand) (t : TypeId)
    (ho : o.op = .call { callee := .builtin .append, args := #[s, x], argTypes := #[t, t] })
    (e : TypeId) (i : TypeInfo) (z : Value) (bytes : Nat) (ht : P.underlying t = some (.slice e)) (hi : P.info? e = some i) (hz : i.zero = some z)
    (hsize : i.size = 1) (hby : i.bytes = bytes) (hzs : z.cells.size = 1) (v : Value) (xs : List Value) (hs : a.eval s = v) (hown : Own w e v xs) (sv : Value) (news : List Value) (hx : a.eval x = sv) (hsrc : Rdv w sv news)
    (h1 : ∀ u ∈ news, u.oneCell' = true) (hm : xs.length + news.length ≤ maxLen) (hb : (xs.length + news.length) * bytes ≤ 140737488355328)
    (h : ∀ v' w', App w e v w' v' (xs ++ news) → wpList P ops Q rest (a.put o.dst v') w') : wpList P ops Q (o :: rest) a w := by
  refine wpList_wanted hgd fun K hK => ?_
  obtain ⟨v', w', hr, h2⟩ := run_app (P := P) w t o.type e i z bytes ht hi hz hsize hby hzs v xs hown sv news hsrc h1 hm hb
  unfold Oper.wp
  simp [execOp, ho, resolve, invoke, builtin, hs, hx, hr, Result.andThen]
  exact hK _ _ (h v' w' h2)
/-- The same at an operation, and at a step of a region that draws its order. -/
theorem wp_app {w : World} {o : Oper} {a : Act} {K : Act → World → Prop} {Q : Exit → Act → World → Prop} (s x : Operand) (t : TypeId)
    (ho : o.op = .call { callee := .builtin .append, args := #[s, x], argTypes := #[t, t] })
    (e : TypeId) (i : TypeInfo) (z : Value) (bytes : Nat) (ht : P.underlying t = some (.slice e)) (hi : P.info? e = some i) (hz : i.zero = some z)
    (hsize : i.size = 1) (hby : i.bytes = bytes) (hzs : z.cells.size = 1) (v : Value) (xs : List Value) (hs : a.eval s = v) (hown : Own w e v xs) (sv : Value) (news : List Value) (hx : a.eval x = sv) (hsrc : Rdv w sv news)
    (h1 : ∀ u ∈ news, u.oneCell' = true) (hm : xs.length + news.length ≤ maxLen) (hb : (xs.length + news.length) * bytes ≤ 140737488355328)
    (h : ∀ v' w', App w e v w' v' (xs ++ news) → K (a.put o.dst v') w') : o.wp P a w K Q := by
  obtain ⟨v', w', hr, h2⟩ := run_app (P := P) w t o.type e i z bytes ht hi hz hsize hby hzs v xs hown sv news hsrc h1 hm hb
  unfold Oper.wp
  simp [execOp, ho, resolve, invoke, builtin, hs, hx, hr, Result.andThen]
  exact h v' w' h2
end
theorem Own.drew {w : World} {e : TypeId} {v : Value} {xs : List Value} (h : Own w e v xs) : Own w.drew e v xs := h
theorem Rdv.drew {w : World} {v : Value} {xs : List Value} (h : Rdv w v xs) : Rdv w.drew v xs := h
theorem Rd.drew {w : World} {v : Value} {l : List Int} (h : Rd w v l) : Rd w.drew v l := h
#print axioms wpList_app
end
section
open Go.RowKit Oct
theorem Try.info5 : (Try.prog.info? 5).map (fun i => (i.zero, i.size, i.bytes)) = some (some (.int .u8 0), 1, 1) := by kernel_rfl
/-- 'append(s, x...)' of bytes, at this program. -/
theorem app_bytes_w {w : World} {ops : Array Oper} {rest : List Oper} {o : Oper} {a : Act} {Q : Exit → Act → World → Prop} (hgd : Region.wanted o (yielded ops a.tmps) = true) (s x : Operand)
    (ho : o.op = .call { callee := .builtin .append, args := #[s, x], argTypes := #[28, 28] })
    (v : Value) (l : List Int) (hs : a.eval s = v) (hown : Own w 5 v (bc l)) (sv : Value) (m : List Int) (hx : a.eval x = sv) (hsrc : Rdv w sv (bc m)) (hb : l.length + m.length ≤ 140737488355328)
    (h : ∀ v' w', App w 5 v w' v' (bc (l ++ m)) → wpList Try.prog ops Q rest (a.put o.dst v') w') : wpList Try.prog ops Q (o :: rest) a w := by
  obtain ⟨i0, hi, hz0, hz1, hz2⟩ := info_parts Try.info5
  refine wpList_app hgd s x 28 ho 5 i0 (.int .u8 0) 1 Try.underlying28 hi hz0 hz1 hz2 rfl v (bc l) hs hown sv (bc m) hx hsrc (bc_one _) (by rw [bc_len, bc_len]; unfold maxLen; omega) (by rw [bc_len, bc_len]; omega) ?_
  rw [← bc_app]
  exact h
/-- The same at a step of a region that draws its order. -/
theorem step_bytes {w : World} {ops : Array Oper} {o : Oper} {a : Act} {K : Act → World → Prop} {Q : Exit → Act → World → Prop} {E : Prop} (hgd : o.guard = none) (s x : Operand)
    (ho : o.op = .call { callee := .builtin .append, args := #[s, x], argTypes := #[28, 28] })
    (v : Value) (l : List Int) (hs : a.eval s = v) (hown : Own w 5 v (bc l)) (sv : Value) (m : List Int) (hx : a.eval x = sv) (hsrc : Rdv w sv (bc m)) (hb : l.length + m.length ≤ 140737488355328)
    (h : ∀ v' w', App w 5 v w' v' (bc (l ++ m)) → K (a.put o.dst v') w') : if Region.wanted o (yielded ops a.tmps) = true then Oper.wp Try.prog o a w K Q else E := by
  have hw : Region.wanted o (yielded ops a.tmps) = true := by simp [Region.wanted, hgd]
  rw [if_pos hw]
  obtain ⟨i0, hi, hz0, hz1, hz2⟩ := info_parts Try.info5
  refine wp_app s x 28 ho 5 i0 (.int .u8 0) 1 Try.underlying28 hi hz0 hz1 hz2 rfl v (bc l) hs hown sv (bc m) hx hsrc (bc_one _) (by rw [bc_len, bc_len]; unfold maxLen; omega) (by rw [bc_len, bc_len]; omega) ?_
  rw [← bc_app]
  exact h
theorem below_alloc (w : World) (o : Obj) : Below w.heap.size w (w.alloc o) := (Below.refl _ _).alloc (Nat.le_refl _) o
theorem own_zero (w : World) (e : TypeId) : Own (w.alloc (.cells #[] e)) e (.slice (some ⟨w.heap.size, 0, none⟩) 0 0) (bc []) :=
  World.ownsRow_lit (base := 0) (size := 1) w #[] 0 (Nat.zero_le _) (by decide) rfl
theorem fr_at (B g n c : Nat) (h : B ≤ g) : Fr B (.slice (some ⟨g, 0, none⟩) n c) := fun k hk => by simp [Value.ownBlock] at hk; omega
/-- 'append([]byte{}, x...)': a copy. -/
theorem app_copy_w {w : World} {ops : Array Oper} {rest : List Oper} {o : Oper} {a : Act} {Q : Exit → Act → World → Prop} (hgd : Region.wanted o (yielded ops a.tmps) = true) (s x : Operand)
    (ho : o.op = .call { callee := .builtin .append, args := #[s, x], argTypes := #[28, 28] })
    (hs : a.eval s = .slice (some ⟨w.heap.size, 0, none⟩) 0 0) (sv : Value) (m : List Int) (hx : a.eval x = sv) (hsrc : Rd w sv m) (hb : m.length ≤ 140737488355328)
    (h : ∀ v' w', Own w' 5 v' (bc m) → Fr w.heap.size v' → Below w.heap.size w w' → wpList Try.prog ops Q rest (a.put o.dst v') w') : wpList Try.prog ops Q (o :: rest) a (w.alloc (.cells #[] 5)) := by
  refine app_bytes_w hgd s x ho (.slice (some ⟨w.heap.size, 0, none⟩) 0 0) [] hs (own_zero w 5) sv m hx (hsrc.below (below_alloc w _)).2 (by simp only [List.length_nil]; omega) ?_
  intro v' w' happ
  rw [List.nil_append] at happ
  have hp := happ.pre (below_alloc w _)
  exact h v' w' hp.own (happ.fr (fr_at _ _ _ _ (Nat.le_refl _)) (by simp)) ((below_alloc w _).trans (happ.below (fr_at _ _ _ _ (Nat.le_refl _)) (by simp)))
theorem app_copy {w : World} {ops : Array Oper} {rest : List Oper} {o : Oper} {a : Act} {Q : Exit → Act → World → Prop} (hgd : o.guard = none) (s x : Operand)
    (ho : o.op = .call { callee := .builtin .append, args := #[s, x], argTypes := #[28, 28] })
    (hs : a.eval s = .slice (some ⟨w.heap.size, 0, none⟩) 0 0) (sv : Value) (m : List Int) (hx : a.eval x = sv) (hsrc : Rd w sv m) (hb : m.length ≤ 140737488355328)
    (h : ∀ v' w', Own w' 5 v' (bc m) → Fr w.heap.size v' → Below w.heap.size w w' → wpList Try.prog ops Q rest (a.put o.dst v') w') : wpList Try.prog ops Q (o :: rest) a (w.alloc (.cells #[] 5)) :=
  app_copy_w (wanted_none hgd) s x ho hs sv m hx hsrc hb h
/-- Two stretches of a run, one behind the other. -/
theorem below_and {B : Nat} {w w1 w2 : World} (h : Below B w w1) (hB : B ≤ w.heap.size) (h' : Below w1.heap.size w1 w2) : Below B w w2 := h.trans (h'.mono (Nat.le_trans hB h.size))
/-- A part of a slice of bytes. -/
theorem Rd.part {w : World} {b off : Nat} {l : List Int} (hb : Byt l) (hc : ∀ j, j < l.length → w.cell? ⟨b, off + j, none⟩ = some (.int .u8 (l.getD j 0)))
    (lo n : Nat) (h : lo + n ≤ l.length) (c : Nat) (hc1 : n ≤ c) (hc2 : c ≤ maxLen) : Rd w (.slice (some ⟨b, off + lo, none⟩) n c) ((l.drop lo).take n) := by
  have hlen : (bc ((l.drop lo).take n)).length = n := by rw [bc_len, List.length_take, List.length_drop]; omega
  refine ⟨(hb.drop _).take _, some ⟨b, off + lo, none⟩, c, by rw [hlen], by rw [hlen]; exact hc1, hc2, fun e => (by cases e), fun a ha j u hu => ?_⟩
  cases ha
  have hj : j < n := by
    rcases Nat.lt_or_ge j n with h | h
    · exact h
    · rw [List.getElem?_eq_none (by omega)] at hu; cases hu
  have e : (⟨b, off + lo, none⟩ : Addr).add j = ⟨b, off + (lo + j), none⟩ := by unfold Addr.add; split <;> simp_all [Nat.add_assoc]
  rw [e, hc (lo + j) (by omega)]
  rw [bc_getD _ _ (by rw [List.length_take, List.length_drop]; omega)] at hu
  rw [← hu]
  simp [List.getD, hj]
/-- Two texts are the same just if their bytes are. -/
theorem str_eq {a b : List Int} (ha : Byt a) (hb : Byt b) : ((strOfNums a).toList == (strOfNums b).toList) = decide (a = b) := by
  rw [Bool.eq_iff_iff]
  simp only [beq_iff_eq, decide_eq_true_eq]
  refine ⟨fun h1 => ?_, fun h => by rw [h]⟩
  rw [ByteArray.toList_eq, ByteArray.toList_eq, strOfNums_data, strOfNums_data] at h1
  induction a generalizing b with
  | nil => cases b with
    | nil => rfl
    | cons y b => simp at h1
  | cons x a ih => cases b with
    | nil => simp at h1
    | cons y b =>
      simp only [List.map_cons, List.cons.injEq] at h1
      have hx := ha x (by simp)
      have hy := hb y (by simp)
      have e := congrArg UInt8.toNat h1.1
      simp at e
      rw [ih (fun z hz => ha z (by simp [hz])) (fun z hz => hb z (by simp [hz])) h1.2]
      congr 1
      omega
/-- What 'string(b)' makes of a slice of bytes. -/
theorem run_str {w : World} {v : Value} {l : List Int} (h : Rd w v l) : (convert 28 9 v).run Try.prog w = .ok (.string (strOfNums l)) w := by
  by_cases hl : 0 < l.length
  · obtain ⟨b, off, cap, rfl, hc1, hc2, hb, hcell⟩ := h.at hl
    exact run_convert_bytes_arg w 28 5 Try.underlying28 Try.underlying5 b off l.length cap l rfl hcell 9 Try.underlying9
  · have hl0 : l = [] := List.eq_nil_of_length_eq_zero (by omega)
    subst hl0
    obtain ⟨ao, cap, rfl, hc⟩ := h.empty rfl
    have e : strOfNums [] = ByteArray.empty := rfl
    rw [e]
    cases ao with
    | none => exact run_convert_bytes_nil w 28 5 Try.underlying28 Try.underlying5 0 cap 9 Try.underlying9
    | some a =>
      rw [run_convert_bytes_string w 28 9 5 (some a) 0 cap Try.underlying28 Try.underlying5 Try.underlying9, run_bytesToString w a 0 cap [] (by simp [loadCells, loadCellsFrom])]
      rfl
/-- catenaryref01.Same. -/
theorem same_any (w : World) (u v : Value) (a b : List Int) (ha : Rd w u a) (hb : Rd w v b) :
    Calls Try.prog 39 #[u, v] w fun e w' => e = .returned (.bool (decide (a = b))) ∧ w' = w := by
  have h1 := run_str ha
  have h2 := run_str hb
  have h3 := str_eq ha.1 hb.1
  clear ha hb
  rw [← h3]
  clear h3
  go_enter Try.func39, Try.ntmps39
  go_wp2_with fail
  go_ret
  exact ⟨rfl, rfl⟩
end
section
open Go.RowKit Oct
end
section
open Go.RowKit Oct
theorem Rd.form {w : World} {v : Value} {l : List Int} (h : Rd w v l) : ∃ ao cap, v = .slice ao l.length cap ∧ cap ≤ maxLen := by
  obtain ⟨_, ao, cap, rfl, _, h2, _⟩ := h
  exact ⟨ao, cap, by rw [bc_len], h2⟩
end
section
open Go.RowKit Oct
/-- Block b is a row of these cells, and may be written. -/
def Row (w : World) (b : Nat) (t : TypeId) (xs : List Value) : Prop := w.heap[b]? = some (.cells xs.toArray t (0, 0))
theorem Row.cell {w : World} {b : Nat} {t : TypeId} {xs : List Value} (h : Row w b t xs) {j : Nat} {u : Value} (hj : xs[j]? = some u) : w.cell? ⟨b, j, none⟩ = some u := by
  rw [cell_of_row w b j xs.toArray t (0, 0) h]
  simpa using hj
theorem Row.frozen {w : World} {b : Nat} {t : TypeId} {xs : List Value} (h : Row w b t xs) (j : Nat) : w.frozen? ⟨b, j, none⟩ = false := frozen_of_row w b j xs.toArray t h
theorem Row.lt {w : World} {b : Nat} {t : TypeId} {xs : List Value} (h : Row w b t xs) : b < w.heap.size := (Array.getElem?_eq_some_iff.1 h).1
theorem Row.set {w : World} {b : Nat} {t : TypeId} {xs : List Value} (h : Row w b t xs) (j : Nat) (v : Value) : Row (w.setCell ⟨b, j, none⟩ v) b t (xs.set j v) := by
  have := heap_setCell_same w b j xs.toArray t v h
  simpa [Row] using this
theorem Row.drew {w : World} {b : Nat} {t : TypeId} {xs : List Value} (h : Row w b t xs) : Row w.drew b t xs := h
theorem Row.below {w w' : World} {b : Nat} {t : TypeId} {xs : List Value} (h : Row w b t xs) (hb : Below w.heap.size w w') : Row w' b t xs := (hb.block b h.lt).trans h
theorem Row.grown {w w' : World} {b : Nat} {t : TypeId} {xs : List Value} {r : Option Nat} (h : Row w b t xs) (hg : w.grownBy w' r) (hr : r ≠ some b) : Row w' b t xs := (hg.block b h.lt (fun e => hr e.symm)).trans h
theorem Row.new (w : World) (t : TypeId) (xs : List Value) : Row (w.alloc (.cells xs.toArray t)) w.heap.size t xs := heap_alloc_new w _
theorem Row.setRow {w : World} {b : Nat} {t : TypeId} {xs : List Value} (h : Row w b t xs) (ys : List Value) : Row (w.setRow b ys.toArray) b t ys := setRow_heap w b _ _ t _ h
theorem grown_set (w : World) (b j : Nat) (v : Value) : w.grownBy (w.setCell ⟨b, j, none⟩ v) (some b) :=
  ⟨rfl, rfl, rfl, by simp [World.setCell], fun k _ hk => heap_setCell_other w _ k v (fun e => hk (by rw [e]))⟩
theorem grown_setRow (w : World) (b : Nat) (cs : Array Value) : w.grownBy (w.setRow b cs) (some b) :=
  ⟨rfl, rfl, rfl, by simp, fun k _ hk => setRow_other w b k cs (fun e => hk (by rw [e]))⟩
theorem grown_drew {w w' : World} {r : Option Nat} (h : w.drew.grownBy w' r) : w.grownBy w' r := ⟨h.os, h.tape, h.output, h.size, h.block⟩
theorem Row.src {w : World} {b : Nat} {t : TypeId} {xs : List Value} (h : Row w b t xs) (o n : Nat) : ∀ (j : Nat) (v : Value), ((xs.drop o).take n)[j]? = some v → w.cell? ((⟨b, o, none⟩ : Addr).add j) = some v := by
  intro j v hj
  rw [Addr.add_mid]
  refine h.cell ?_
  rw [List.getElem?_take] at hj
  split at hj
  · rwa [List.getElem?_drop] at hj
  · cases hj
section
variable {P : Program}
theorem Row.load {w : World} {b : Nat} {t : TypeId} {xs : List Value} (h : Row w b t xs) (ty : TypeId) (d : TypeDesc) (hu : P.underlying ty = some d) (hd : (match d with | .struct _ | .array _ _ => true | _ => false) = true) (hi : (P.info? ty).map (·.size) = some xs.length) :
    (Instr.loadAt ty (.pointer (some ⟨b, 0, none⟩))).run P w = .ok (.agg xs.toArray) w := by
  simp only [Instr.loadAt, Instr.sureAddr, Sem.run_bind, Sem.run_pure, Result.andThen_ok, run_loadVar_row w b t ty xs.toArray (0, 0) d h hu hd (by simpa using hi)]
theorem Row.store {w : World} {b : Nat} {t : TypeId} {xs : List Value} (h : Row w b t xs) (ty : TypeId) (ys : List Value) (hl : xs.length = ys.length) (hi : (P.info? ty).map (·.size) = some ys.length) (h1 : ∀ v ∈ ys, v.oneCell' = true) :
    (Instr.storeAt ty (.pointer (some ⟨b, 0, none⟩)) (.agg ys.toArray)).run P w = .ok () (w.setRow b ys.toArray) := by
  simp only [Instr.storeAt, Instr.sureAddr, Sem.run_bind, Sem.run_pure, Result.andThen_ok, run_storeVar_row w b t ty xs.toArray ys.toArray h (by simpa using hi) (by simpa using hl) (all_oneCell_toArray h1)]
theorem wl_load {ops : Array Oper} {rest : List Oper} {o : Oper} {a : Act} {w : World} {Q : Exit → Act → World → Prop} (hgd : o.guard = none) (ty : TypeId) (x : Operand) (ho : o.op = .load ty x)
    (b : Nat) (hx : a.eval x = .pointer (some ⟨b, 0, none⟩)) (t : TypeId) (xs : List Value) (h : Row w b t xs) (d : TypeDesc) (hu : P.underlying ty = some d) (hd : (match d with | .struct _ | .array _ _ => true | _ => false) = true)
    (hi : (P.info? ty).map (·.size) = some xs.length) (k : wpList P ops Q rest (a.put o.dst (.agg xs.toArray)) w) : wpList P ops Q (o :: rest) a w :=
  wpList_load_row hgd ty x ho b hx t xs.toArray (0, 0) d h hu hd (by simpa using hi) k
/-- The same at an operation whose guard says yes. -/
theorem wl_load_w {ops : Array Oper} {rest : List Oper} {o : Oper} {a : Act} {w : World} {Q : Exit → Act → World → Prop} (hgd : Region.wanted o (yielded ops a.tmps) = true) (ty : TypeId) (x : Operand) (ho : o.op = .load ty x)
    (b : Nat) (hx : a.eval x = .pointer (some ⟨b, 0, none⟩)) (t : TypeId) (xs : List Value) (h : Row w b t xs) (d : TypeDesc) (hu : P.underlying ty = some d) (hd : (match d with | .struct _ | .array _ _ => true | _ => false) = true)
    (hi : (P.info? ty).map (·.size) = some xs.length) (k : wpList P ops Q rest (a.put o.dst (.agg xs.toArray)) w) : wpList P ops Q (o :: rest) a w :=
  wpList_wanted hgd fun _ hK => by
    unfold Oper.wp execOp
    simp only [ho, hx, Sem.run_bind, Sem.run_pure, Result.andThen_ok, h.load ty d hu hd hi]
    exact hK _ _ k
theorem wl_store {ops : Array Oper} {rest : List Oper} {o : Oper} {a : Act} {w : World} {Q : Exit → Act → World → Prop} (hgd : o.guard = none) (ty : TypeId) (x y : Operand) (ho : o.op = .store ty x y)
    (b : Nat) (ys : List Value) (hx : a.eval x = .pointer (some ⟨b, 0, none⟩)) (hy : a.eval y = .agg ys.toArray) (t : TypeId) (xs : List Value) (h : Row w b t xs) (hl : xs.length = ys.length)
    (hi : (P.info? ty).map (·.size) = some ys.length) (h1 : ∀ v ∈ ys, v.oneCell' = true) (k : ∀ w', Hid (Row w' b t ys) → w.grownBy w' (some b) → wpList P ops Q rest (a.put o.dst undef) w') : wpList P ops Q (o :: rest) a w :=
  wpList_store_row hgd ty x y ho b ys.toArray hx hy t xs.toArray h (by simpa using hi) (by simpa using hl) (all_oneCell_toArray h1) (k _ (h.setRow ys) (grown_setRow _ _ _))
theorem run_set {w : World} {b : Nat} {t : TypeId} {xs : List Value} (h : Row w b t xs) (ty : TypeId) (hi : (P.info? ty).map (·.size) = some 1) (j : Nat) (hj : j < xs.length) (v : Value) (h1 : v.oneCell' = true) :
    (storeVar ty ⟨b, j, none⟩ v).run P w = .ok () (w.setRow b (xs.set j v).toArray) := by
  have := run_storeCells_at P b j t [v] 0 xs.toArray w h (by simp; omega) (fun x hx => by simp at hx; subst hx; exact h1)
  have hc : v.cells = #[v] := by cases v <;> first | rfl | cases h1
  have hx : xs.take j ++ v :: xs.drop (j + 1) = xs.set j v := (List.set_eq_take_append_cons_drop.trans (if_pos hj)).symm
  cases hq : P.info? ty with
  | none => simp [hq] at hi
  | some i =>
    have hs : i.size = 1 := by simpa [hq] using hi
    simp only [Nat.add_zero, List.length_singleton, List.append_assoc, List.singleton_append, hx] at this
    simp [storeVar, sizeOf, typeInfo, hq, hc, hs, this]
theorem wl_set {ops : Array Oper} {rest : List Oper} {o : Oper} {a : Act} {w : World} {Q : Exit → Act → World → Prop} (hgd : o.guard = none) (ty : TypeId) (x y : Operand) (ho : o.op = .store ty x y)
    (b j : Nat) (v : Value) (hx : a.eval x = .pointer (some ⟨b, j, none⟩)) (hy : a.eval y = v) (t : TypeId) (xs : List Value) (h : Row w b t xs) (hj : j < xs.length)
    (hi : (P.info? ty).map (·.size) = some 1) (h1 : v.oneCell' = true) (k : ∀ w', Hid (Row w' b t (xs.set j v)) → w.grownBy w' (some b) → wpList P ops Q rest (a.put o.dst undef) w') : wpList P ops Q (o :: rest) a w :=
  wpList_plain hgd fun _ hK => by
    unfold Oper.wp execOp
    simp only [ho, hx, hy, Instr.storeAt, Instr.sureAddr, Sem.run_bind, Sem.run_pure, Result.andThen_ok, run_set h ty hi j hj v h1]
    exact hK _ _ (k _ (h.setRow _) (grown_setRow _ _ _))
end
/-- What only reads, inside a region that draws its order. -/
theorem quiet_as {P : Program} {f : FuncId} {args : Array Value} {W : World} {v : Value} {g : Nat → World} {n : Nat} (h : Calls P f args W fun e w' => e = .returned v ∧ w' = W) (hW : W = g n) :
    Calls P f args W fun e w'' => e = .returned v ∧ ∃ m, w'' = g m := h.mono fun _ _ ⟨h1, h2⟩ => ⟨h1, n, h2.trans hW⟩
end
end Go.Proofs.Ytjloehkolnjnhaa
